/- awake's run, in pieces. -/
import Derived.Test.YtmlfbcahdiomoaaDoorP5
import Derived.KernelRfl
import Derived.Test.YtmlfbcahdiomoaaDoorProg
set_option linter.unusedVariables false
set_option linter.unusedSimpArgs false
set_option linter.unnecessarySimpa false
open Go Go.Ev Go.Proofs
namespace Go.Ev.Aw
set_option maxRecDepth 1000000
noncomputable def c202 : Code := partOf (bodyOf P 89) [1, 0, 1, 0, 0, 1, 1, 0]
noncomputable def c203 : Code := partOf (bodyOf P 89) [1, 0, 1, 0, 0, 1, 1, 1]
noncomputable def f204 : AFrame := ⟨89, 19, (.node (.node (.node (.node (.node .nil (some (.val (.int .i8 3))) .nil) (some (.val (.int .i64 9))) .nil) none (.node .nil (some (.val (.int .i8 0))) .nil)) (some (.val (.int .i8 0))) (.node (.node .nil (some (.val
  (.bool true))) .nil) (some (.val (.int .i64 0))) (.node .nil (some (.val (.int .i64 0))) .nil))) (some (.slice 3437 0 9 9)) (.node (.node (.node (.node .nil (some (.val (.bool false))) .nil) (some (.val (.int .i64 1))) .nil) (some (.val (.int
  .i64 0))) (.node .nil (some (.slice 3437 0 9 9)) .nil)) none (.node (.node (.node .nil (some (.val (.int .i64 1))) .nil) (some (.val (.int .i64 0))) .nil) none (.node .nil (some (.ptr 3437 0)) .nil)))), [.code c202, .code c203, .inLoop c101,
  .inBlock 0, .code c102], [], .run, .normal, none⟩
noncomputable def f205 : AFrame := ⟨75, 5, (.node (.node (.node .nil (some (.slice 3437 0 9 9)) .nil) none .nil) none (.node .nil (some (.val (.int .i64 0))) .nil)), [.inRegion (opsOf c104) 1 (restOf c104 1), .code .ret], [], .run, .normal, none⟩
noncomputable def f206 : AFrame := ⟨96, 23, (.node (.node (.node .nil (some (.ptr 3436 0)) .nil) (some (.ptr 3433 0)) .nil) none (.node .nil (some (.ptr 3432 0)) (.node .nil (some (.agg [(.val (.int .i8 3)), (.val (.int .i8 2)), (.val (.int .i8 1)), (.val
  (.int .i8 0)), (.val (.int .i8 4)), (.val (.int .i8 5)), (.val (.int .i8 6)), (.val (.int .i8 7)), (.val (.int .i8 8))])) .nil))), [.inRegion (opsOf c106) 1 (restOf c106 1), .code c107], [], .run, .normal, none⟩
noncomputable def f207 : AFrame := ⟨88, 52, (.node (.node (.node (.node (.node .nil (some (.sliceE 3320 0 1 9)) .nil) none (.node .nil (some (.ptr 2098 0)) .nil)) (some (.ptr 3424 0)) (.node (.node .nil (some (.ptr 3320 0)) .nil) none .nil)) none (.node (.node
  (.node .nil (some (.val (.int .i64 0))) .nil) none (.node .nil (some (.agg [(.val (.int .i8 3)), (.val (.int .i8 2)), (.val (.int .i8 1)), (.val (.int .i8 0)), (.val (.int .i8 4)), (.val (.int .i8 5)), (.val (.int .i8 6)), (.val (.int .i8 7)),
  (.val (.int .i8 8))])) .nil)) none (.node (.node .nil (some (.ptr 2098 0)) .nil) none .nil))) none (.node (.node (.node (.node .nil (some (.val (.int .i64 1))) .nil) none (.node .nil (some (.ptr 1766 0)) .nil)) none (.node (.node .nil (some
  (.agg [(.val (.int .i8 3)), (.val (.int .i8 2)), (.val (.int .i8 1)), (.val (.int .i8 0)), (.val (.int .i8 4)), (.val (.int .i8 5)), (.val (.int .i8 6)), (.val (.int .i8 7)), (.val (.int .i8 8))])) .nil) none .nil)) (some (.ptr 3423 0)) (.node
  (.node (.node .nil (some (.val (.bool true))) .nil) none (.node .nil (some (.func (.func 96) [] [(.ptr 3433 0), (.ptr 3432 0)])) .nil)) (some (.ptr 3425 0)) (.node (.node .nil (some (.ptr 2098 0)) .nil) none .nil)))), [.inRangeFunc 3435, .inBlock
  2, .inBlock 1, .code c26, .inLoop c27, .inBlock 0], [.collected 3434], .run, .normal, none⟩
noncomputable def f208 : AFrame := ⟨93, 13, (.node .nil none (.node (.node .nil (some (.val (.slice none 0 0))) .nil) (some (.ptr 3420 0)) .nil)), [.inRangeFunc 3422, .inBlock 0, .code c29], [.collected 3421], .run, .normal, none⟩
noncomputable def f209 : AFrame := ⟨74, 26, (.node (.node (.node (.node (.node .nil (some (.sliceE 3323 0 1 9)) .nil) (some (.sliceE 3323 0 1 9)) (.node .nil (some (.slice 3418 0 1 1)) .nil)) none (.node (.node .nil (some (.func (.func 88) [(.ptr 2098 0)]
  [])) .nil) none .nil)) none (.node (.node (.node .nil (some (.val (.bool true))) .nil) none .nil) (some (.sliceE 3419 0 7 1)) (.node (.node .nil (some (.sliceE 3202 0 6 1)) .nil) none .nil))) none (.node (.node (.node (.node .nil (some (.val
  (.int .i64 1))) .nil) none (.node .nil (some (.sliceE 3419 0 7 1)) .nil)) (some (.val (.slice none 0 0))) (.node (.node .nil (some (.sliceE 3323 0 1 9)) .nil) none .nil)) none (.node (.node (.node .nil (some (.ptr 2098 0)) .nil) none .nil)
  (some (.ptr 2098 0)) (.node (.node .nil (some (.sliceE 3323 0 1 9)) .nil) none .nil)))), [.inRegion (opsOf c33) 2 (restOf c33 2), .inLoop c34, .inBlock 0, .code c35], [], .run, .normal, none⟩
noncomputable def b210 : AB := .loop .ready none 88 (.node (.node (.node (.node (.node .nil (some (.sliceE 3320 0 1 9)) .nil) none (.node .nil (some (.ptr 2098 0)) .nil)) (some (.ptr 3424 0)) (.node (.node .nil (some (.ptr 3320 0)) .nil) (some (.sliceE 3320
  0 1 9)) .nil)) (some (.yld 3422)) (.node (.node (.node .nil (some (.val (.int .i64 0))) .nil) (some (.ptr 2098 0)) (.node .nil (some (.agg [(.val (.int .i8 3)), (.val (.int .i8 2)), (.val (.int .i8 1)), (.val (.int .i8 0)), (.val (.int .i8
  4)), (.val (.int .i8 5)), (.val (.int .i8 6)), (.val (.int .i8 7)), (.val (.int .i8 8))])) .nil)) none (.node (.node .nil (some (.ptr 2098 0)) .nil) (some (.ptr 2098 0)) .nil))) (some (.ptr 2098 0)) (.node (.node (.node (.node .nil (some (.val
  (.int .i64 1))) .nil) (some (.ptr 2098 0)) (.node .nil (some (.ptr 1766 0)) .nil)) (some (.sliceE 3320 0 1 9)) (.node (.node .nil (some (.agg [(.val (.int .i8 3)), (.val (.int .i8 2)), (.val (.int .i8 1)), (.val (.int .i8 0)), (.val (.int .i8
  4)), (.val (.int .i8 5)), (.val (.int .i8 6)), (.val (.int .i8 7)), (.val (.int .i8 8))])) .nil) (some (.ptr 2098 0)) .nil)) (some (.ptr 3423 0)) (.node (.node (.node .nil (some (.val (.bool true))) .nil) (some (.ptr 2098 2)) (.node .nil (some
  (.func (.func 96) [] [(.ptr 3433 0), (.ptr 3432 0)])) .nil)) (some (.ptr 3425 0)) (.node (.node .nil (some (.ptr 2098 0)) .nil) (some (.ptr 2098 2)) .nil)))) 52 #[27] c57 c58 3434
noncomputable def b211 : AB := .cells [(.slice 2096 0 1 1), (.sliceE 2244 0 2 9), (.sliceE 2483 0 2 9), (.sliceE 2687 0 2 9), (.sliceE 2926 0 2 9), (.sliceE 3200 0 2 9), (.sliceE 3323 0 1 9)] 76 true false
noncomputable def b212 : AB := .cells [(.val (.int .i8 3)), (.val (.int .i8 2)), (.val (.int .i8 1)), (.val (.int .i8 0)), (.val (.int .i8 4)), (.val (.int .i8 5)), (.val (.int .i8 6)), (.val (.int .i8 7)), (.val (.int .i8 8))] 82 false false
noncomputable def b213 : AB := .cells [(.ptr 1766 0), (.map 2090), (.val (.slice none 0 0))] 125 false false
noncomputable def b214 : AB := .cells [(.sliceE 3323 0 1 9)] 76 false false
noncomputable def b215 : AB := .loop .ready none 93 (.node (.node .nil (some (.func (.func 88) [(.ptr 2098 0)] [])) .nil) (some (.val (.slice none 0 0))) (.node (.node .nil (some (.val (.slice none 0 0))) .nil) (some (.ptr 3420 0)) (.node .nil (some (.func
  (.func 88) [(.ptr 2098 0)] [])) .nil))) 13 #[7] c43 c44 3421
noncomputable def m13 : M := ⟨f204, [f205, f206, f207, f208, f148, f209, f150, f137, f140], ⟨(.node (.node (.node (.node (.node (.node (.node (.node .nil none (.node (.node .nil none (.node (.node .nil (some b76) .nil) none .nil)) none .nil)) none .nil) none (.node .nil
  none (.node (.node .nil none (.node (.node .nil none (.node .nil (some (.cells [(.ptr 2098 0)] 119 false false)) .nil)) none .nil)) none .nil))) none .nil) (some b20) .nil) none (.node (.node .nil none (.node .nil none (.node (.node .nil none
  (.node .nil none (.node (.node (.node .nil (some b66) .nil) none .nil) none .nil))) none .nil))) none (.node (.node .nil none (.node .nil none (.node (.node .nil none (.node (.node .nil none (.node .nil (some b210) .nil)) none .nil)) none .nil)))
  none (.node (.node .nil none (.node (.node .nil none (.node (.node .nil none (.node .nil (some b211) .nil)) none .nil)) none .nil)) none (.node .nil none (.node .nil none (.node (.node (.node .nil none (.node .nil (some b112) .nil)) none .nil)
  none .nil))))))) none (.node (.node (.node (.node .nil none (.node .nil none (.node (.node .nil none (.node (.node .nil none (.node .nil (some b212) .nil)) none .nil)) none .nil))) none .nil) none (.node (.node .nil none (.node .nil none (.node
  (.node .nil none (.node (.node .nil none (.node .nil (some b212) .nil)) none .nil)) none .nil))) none .nil)) none (.node .nil none (.node (.node .nil none (.node .nil none (.node (.node .nil none (.node (.node .nil none (.node .nil (some b212)
  .nil)) none .nil)) none .nil))) none (.node (.node .nil none (.node (.node .nil none (.node (.node .nil none (.node .nil (some (.deferred true)) .nil)) none .nil)) none .nil)) none .nil))))) none (.node (.node (.node (.node (.node (.node (.node
  .nil none (.node (.node (.node .nil none (.node .nil (some b114) .nil)) none .nil) none .nil)) none .nil) none (.node .nil none (.node (.node .nil none (.node (.node .nil none (.node .nil (some (.cells [(.yld 3422)] 133 false false)) .nil))
  none .nil)) none .nil))) none (.node .nil none (.node (.node (.node (.node (.node (.node .nil (some b47) .nil) none .nil) none .nil) none .nil) none .nil) none .nil))) none (.node (.node .nil none (.node .nil none (.node (.node .nil none (.node
  (.node .nil none (.node .nil (some (.cells [(.ptr 1766 0)] 75 false false)) .nil)) none .nil)) none .nil))) none (.node .nil none (.node .nil none (.node .nil none (.node (.node (.node .nil none (.node .nil (some b112) .nil)) none .nil) none
  .nil)))))) none (.node (.node (.node (.node .nil none (.node .nil none (.node (.node (.node (.node .nil (some b49) .nil) none .nil) none .nil) none .nil))) none .nil) none .nil) none (.node (.node .nil none (.node .nil none (.node (.node .nil
  none (.node (.node .nil none (.node .nil (some (.cells [(.yld 3435)] 133 false false)) .nil)) none .nil)) none .nil))) none (.node (.node .nil none (.node (.node .nil none (.node (.node .nil none (.node .nil (some b70) .nil)) none .nil)) none
  .nil)) none .nil)))) none (.node (.node (.node .nil none (.node .nil none (.node (.node (.node (.node (.node (.node .nil (some b213) .nil) none .nil) none .nil) none .nil) none .nil) none .nil))) none (.node (.node .nil none (.node (.node (.node
  (.node (.node (.node .nil (some b115) .nil) none .nil) none .nil) none .nil) none .nil) none (.node (.node .nil none (.node (.node .nil none (.node .nil (some (.deferred true)) .nil)) none .nil)) none .nil))) none (.node (.node .nil none (.node
  (.node .nil none (.node (.node .nil none (.node .nil (some b214) .nil)) none .nil)) none .nil)) none .nil))) none (.node (.node (.node .nil none (.node .nil none (.node .nil none (.node (.node .nil none (.node .nil (some b23) .nil)) none .nil))))
  none .nil) none (.node (.node .nil none (.node .nil none (.node (.node .nil none (.node .nil none (.node (.node .nil (some b94) .nil) none .nil))) none .nil))) none (.node (.node .nil none (.node (.node .nil none (.node (.node .nil none (.node
  .nil (some b215) .nil)) none .nil)) none .nil)) none .nil)))))), 3438⟩⟩
theorem s13 : (iterA P 60000 400 m12).map (pruneM [0, 1, 4, 5, 7, 8, 9, 10, 11, 12, 13, 14, 15, 16, 18] [[2, 3], [1, 2, 3, 6], [2, 3, 6, 15, 16, 17, 18, 19, 20, 21, 22, 23, 24, 25, 26], [2, 4], [2, 3], [4, 5, 6, 7, 15, 16, 17, 18, 19, 20, 21,
  22, 23, 24], [2, 3, 8, 9], [4, 5, 19], [0, 1, 3, 4, 5, 26, 27]] [7, 1766, 2090, 2096, 2098, 2244, 2483, 2687, 2926, 3200, 3320, 3323, 3418, 3419, 3420, 3421, 3422, 3423, 3424, 3425, 3432, 3433, 3434, 3435, 3436, 3437]) = some m13 := by kernel_rfl
noncomputable def c216 : Code := partOf (bodyOf P 56) [1, 1, 0, 1, 0, 0]
noncomputable def f217 : AFrame := ⟨56, 30, (.node (.node (.node (.node (.node .nil (some (.sliceE 2926 0 2 9)) .nil) (some (.ptr 3527 0)) (.node .nil (some (.val (.int .i8 0))) .nil)) (some (.val (.int .i64 3))) (.node (.node .nil (some (.val (.bool false)))
  .nil) (some (.val (.int .i64 7))) (.node .nil (some (.val (.int .i64 2))) .nil))) none (.node (.node (.node .nil (some (.val (.int .i64 2))) .nil) none (.node .nil (some (.val (.int .i64 2))) .nil)) (some (.sliceE 2926 0 2 9)) (.node (.node
  .nil (some (.agg [(.val (.int .i8 0)), (.val (.int .i8 2)), (.val (.int .i8 3)), (.val (.int .i8 1)), (.val (.int .i8 4)), (.val (.int .i8 5)), (.val (.int .i8 6)), (.val (.int .i8 7)), (.val (.int .i8 8))])) .nil) (some (.val (.bool true)))
  .nil))) none (.node (.node (.node (.node .nil (some (.sliceE 2926 0 2 9)) .nil) none (.node .nil (some (.val (.bool true))) .nil)) none (.node (.node .nil (some (.ptr 2926 9)) .nil) (some (.val (.int .i64 5))) (.node .nil (some (.val (.int
  .i64 5))) .nil))) (some (.val (.int .i64 0))) (.node (.node (.node .nil (some (.val (.int .i64 2))) .nil) (some (.sliceE 3419 0 7 1)) (.node .nil (some (.val (.int .i64 3))) .nil)) none (.node (.node .nil (some (.ptr 3527 0)) .nil) (some (.ptr
  3419 4)) .nil)))), [.code c216, .inLoop c216, .inBlock 0, .code c134], [], .run, .normal, none⟩
noncomputable def b218 : AB := .cells [(.val (.int .i8 0)), (.val (.int .i8 2)), (.val (.int .i8 3)), (.val (.int .i8 1)), (.val (.int .i8 4)), (.val (.int .i8 5)), (.val (.int .i8 6)), (.val (.int .i8 7)), (.val (.int .i8 8))] 82 false false
noncomputable def m14 : M := ⟨f217, [f137, f140], ⟨(.node (.node (.node (.node (.node (.node (.node (.node .nil none (.node (.node .nil none (.node (.node .nil (some b76) .nil) none .nil)) none .nil)) none .nil) none .nil) none .nil) (some b20) (.node (.node (.node .nil
  none (.node .nil none (.node .nil none (.node (.node .nil none (.node .nil (some b218) .nil)) none .nil)))) none .nil) none .nil)) none (.node (.node .nil none (.node .nil none (.node (.node .nil none (.node .nil none (.node (.node (.node .nil
  (some b66) .nil) none .nil) none .nil))) none .nil))) none (.node .nil none (.node (.node .nil none (.node (.node .nil none (.node (.node .nil none (.node .nil (some b211) .nil)) none .nil)) none .nil)) none (.node .nil none (.node .nil none
  (.node (.node (.node .nil none (.node .nil (some b112) .nil)) none .nil) none .nil))))))) none .nil) none (.node (.node (.node (.node (.node (.node (.node .nil none (.node (.node (.node .nil none (.node .nil (some b114) .nil)) none .nil) none
  .nil)) none .nil) none .nil) none (.node .nil none (.node (.node (.node (.node (.node (.node .nil (some b47) .nil) none .nil) none .nil) none .nil) none .nil) none .nil))) none .nil) none (.node (.node (.node (.node .nil none (.node .nil none
  (.node (.node (.node (.node .nil (some b49) .nil) none .nil) none .nil) none .nil))) none .nil) none .nil) none .nil)) none (.node .nil none (.node (.node (.node .nil none (.node .nil none (.node .nil none (.node (.node .nil none (.node .nil
  (some b23) .nil)) none .nil)))) none .nil) none (.node (.node .nil none (.node .nil none (.node (.node .nil none (.node .nil none (.node (.node .nil (some b94) .nil) none .nil))) none .nil))) none .nil))))), 3528⟩⟩
theorem s14 : (iterA P 60000 400 m13).map (pruneM [2, 3, 5, 7, 10, 11, 12, 13, 14, 15, 16, 17, 18, 19, 20, 21, 22, 23, 24, 25, 26, 27, 28] [[4, 5, 19], [0, 1, 3, 4, 5, 26, 27]] [7, 1766, 2096, 2244, 2483, 2687, 2926, 3200, 3323, 3419, 3527])
  = some m14 := by kernel_rfl
end Go.Ev.Aw
