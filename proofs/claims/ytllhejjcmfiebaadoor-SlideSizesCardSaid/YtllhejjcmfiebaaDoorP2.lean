/- awake's run, in pieces. -/
import Derived.Test.YtllhejjcmfiebaaDoorP1
import Derived.KernelRfl
import Derived.Test.YtllhejjcmfiebaaDoorProg
set_option linter.unusedVariables false
set_option linter.unusedSimpArgs false
set_option linter.unnecessarySimpa false
open Go Go.Ev Go.Proofs
namespace Go.Ev.Aw
set_option maxRecDepth 1000000
noncomputable def c202 : Code := partOf (bodyOf P 89) [1, 0, 1, 0, 0, 1, 1, 0]
noncomputable def c203 : Code := partOf (bodyOf P 89) [1, 0, 1, 0, 0, 1, 1, 1]
noncomputable def f204 : AFrame := ⟨89, 19, (.node (.node (.node (.node (.node .nil (some (.val (.int .i8 3))) .nil) (some (.val (.int .i64 9))) .nil) none (.node .nil (some (.val (.int .i8 0))) .nil)) (some (.val (.int .i8 0))) (.node (.node .nil (some (.val
  (.bool true))) .nil) (some (.val (.int .i64 0))) (.node .nil (some (.val (.int .i64 0))) .nil))) (some (.slice 3437 0 9 9)) (.node (.node (.node (.node .nil (some (.val (.bool false))) .nil) (some (.val (.int .i64 1))) .nil) (some (.val (.int
  .i64 0))) (.node .nil (some (.slice 3437 0 9 9)) .nil)) none (.node (.node (.node .nil (some (.val (.int .i64 1))) .nil) (some (.val (.int .i64 0))) .nil) none (.node .nil (some (.ptr 3437 0)) .nil)))), [.code c202, .code c203, .inLoop c101,
  .inBlock 0, .code c102], [], .run, .normal, none⟩
noncomputable def f205 : AFrame := ⟨75, 5, (.node (.node (.node .nil (some (.slice 3437 0 9 9)) .nil) none .nil) none (.node .nil (some (.val (.int .i64 0))) .nil)), [.inRegion (opsOf c104) 1 (restOf c104 1), .code .ret], [], .run, .normal, none⟩
noncomputable def f206 : AFrame := ⟨96, 23, (.node (.node (.node .nil (some (.ptr 3436 0)) .nil) (some (.ptr 3433 0)) .nil) none (.node .nil (some (.ptr 3432 0)) (.node .nil (some (.agg [(.val (.int .i8 3)), (.val (.int .i8 2)), (.val (.int .i8 1)), (.val
  (.int .i8 0)), (.val (.int .i8 4)), (.val (.int .i8 5)), (.val (.int .i8 6)), (.val (.int .i8 7)), (.val (.int .i8 8))])) .nil))), [.inRegion (opsOf c106) 1 (restOf c106 1), .code c107], [], .run, .normal, none⟩
noncomputable def f207 : AFrame := ⟨88, 52, (.node (.node (.node (.node (.node .nil (some (.sliceE 3320 0 1 9)) .nil) none (.node .nil (some (.ptr 2098 0)) .nil)) (some (.ptr 3424 0)) (.node (.node .nil (some (.ptr 3320 0)) .nil) none .nil)) none (.node (.node
  (.node .nil (some (.val (.int .i64 0))) .nil) none (.node .nil (some (.agg [(.val (.int .i8 3)), (.val (.int .i8 2)), (.val (.int .i8 1)), (.val (.int .i8 0)), (.val (.int .i8 4)), (.val (.int .i8 5)), (.val (.int .i8 6)), (.val (.int .i8 7)),
  (.val (.int .i8 8))])) .nil)) none (.node (.node .nil (some (.ptr 2098 0)) .nil) none .nil))) none (.node (.node (.node (.node .nil (some (.val (.int .i64 1))) .nil) none (.node .nil (some (.ptr 1766 0)) .nil)) none (.node (.node .nil (some
  (.agg [(.val (.int .i8 3)), (.val (.int .i8 2)), (.val (.int .i8 1)), (.val (.int .i8 0)), (.val (.int .i8 4)), (.val (.int .i8 5)), (.val (.int .i8 6)), (.val (.int .i8 7)), (.val (.int .i8 8))])) .nil) none .nil)) (some (.ptr 3423 0)) (.node
  (.node (.node .nil (some (.val (.bool true))) .nil) none (.node .nil (some (.func (.func 96) [] [(.ptr 3433 0), (.ptr 3432 0)])) .nil)) (some (.ptr 3425 0)) (.node (.node .nil (some (.ptr 2098 0)) .nil) none .nil)))), [.inRangeFunc 3435, .inBlock
  2, .inBlock 1, .code c26, .inLoop c27, .inBlock 0], [.collected 3434], .run, .normal, none⟩
noncomputable def f208 : AFrame := ⟨93, 13, (.node .nil none (.node (.node .nil (some (.val (.slice none 0 0))) .nil) (some (.ptr 3420 0)) .nil)), [.inRangeFunc 3422, .inBlock 0, .code c29], [.collected 3421], .run, .normal, none⟩
noncomputable def f209 : AFrame := ⟨74, 26, (.node (.node (.node (.node (.node .nil (some (.sliceE 3323 0 1 9)) .nil) (some (.sliceE 3323 0 1 9)) (.node .nil (some (.slice 3418 0 1 1)) .nil)) none (.node (.node .nil (some (.func (.func 88) [(.ptr 2098 0)]
  [])) .nil) none .nil)) none (.node (.node (.node .nil (some (.val (.bool true))) .nil) none .nil) (some (.sliceE 3419 0 7 1)) (.node (.node .nil (some (.sliceE 3202 0 6 1)) .nil) none .nil))) none (.node (.node (.node (.node .nil (some (.val
  (.int .i64 1))) .nil) none (.node .nil (some (.sliceE 3419 0 7 1)) .nil)) (some (.val (.slice none 0 0))) (.node (.node .nil (some (.sliceE 3323 0 1 9)) .nil) none .nil)) none (.node (.node (.node .nil (some (.ptr 2098 0)) .nil) none .nil)
  (some (.ptr 2098 0)) (.node (.node .nil (some (.sliceE 3323 0 1 9)) .nil) none .nil)))), [.inRegion (opsOf c33) 2 (restOf c33 2), .inLoop c34, .inBlock 0, .code c35], [], .run, .normal, none⟩
noncomputable def b210 : AB := .loop .ready none 88 (.node (.node (.node (.node (.node .nil (some (.sliceE 3320 0 1 9)) .nil) none (.node .nil (some (.ptr 2098 0)) .nil)) (some (.ptr 3424 0)) (.node (.node .nil (some (.ptr 3320 0)) .nil) (some (.sliceE 3320
  0 1 9)) .nil)) (some (.yld 3422)) (.node (.node (.node .nil (some (.val (.int .i64 0))) .nil) (some (.ptr 2098 0)) (.node .nil (some (.agg [(.val (.int .i8 3)), (.val (.int .i8 2)), (.val (.int .i8 1)), (.val (.int .i8 0)), (.val (.int .i8
  4)), (.val (.int .i8 5)), (.val (.int .i8 6)), (.val (.int .i8 7)), (.val (.int .i8 8))])) .nil)) none (.node (.node .nil (some (.ptr 2098 0)) .nil) (some (.ptr 2098 0)) .nil))) (some (.ptr 2098 0)) (.node (.node (.node (.node .nil (some (.val
  (.int .i64 1))) .nil) (some (.ptr 2098 0)) (.node .nil (some (.ptr 1766 0)) .nil)) (some (.sliceE 3320 0 1 9)) (.node (.node .nil (some (.agg [(.val (.int .i8 3)), (.val (.int .i8 2)), (.val (.int .i8 1)), (.val (.int .i8 0)), (.val (.int .i8
  4)), (.val (.int .i8 5)), (.val (.int .i8 6)), (.val (.int .i8 7)), (.val (.int .i8 8))])) .nil) (some (.ptr 2098 0)) .nil)) (some (.ptr 3423 0)) (.node (.node (.node .nil (some (.val (.bool true))) .nil) (some (.ptr 2098 2)) (.node .nil (some
  (.func (.func 96) [] [(.ptr 3433 0), (.ptr 3432 0)])) .nil)) (some (.ptr 3425 0)) (.node (.node .nil (some (.ptr 2098 0)) .nil) (some (.ptr 2098 2)) .nil)))) 52 #[27] c57 c58 3434
noncomputable def b211 : AB := .cells [(.slice 2096 0 1 1), (.sliceE 2244 0 2 9), (.sliceE 2483 0 2 9), (.sliceE 2687 0 2 9), (.sliceE 2926 0 2 9), (.sliceE 3200 0 2 9), (.sliceE 3323 0 1 9)] 76 true false
noncomputable def b212 : AB := .cells [(.val (.int .i8 3)), (.val (.int .i8 2)), (.val (.int .i8 1)), (.val (.int .i8 0)), (.val (.int .i8 4)), (.val (.int .i8 5)), (.val (.int .i8 6)), (.val (.int .i8 7)), (.val (.int .i8 8))] 82 false false
noncomputable def b213 : AB := .cells [(.ptr 1766 0), (.map 2090), (.val (.slice none 0 0))] 125 false false
noncomputable def b214 : AB := .cells [(.sliceE 3323 0 1 9)] 76 false false
noncomputable def b215 : AB := .loop .ready none 93 (.node (.node .nil (some (.func (.func 88) [(.ptr 2098 0)] [])) .nil) (some (.val (.slice none 0 0))) (.node (.node .nil (some (.val (.slice none 0 0))) .nil) (some (.ptr 3420 0)) (.node .nil (some (.func
  (.func 88) [(.ptr 2098 0)] [])) .nil))) 13 #[7] c43 c44 3421
noncomputable def m13 : M := ⟨f204, [f205, f206, f207, f208, f148, f209, f150, f137, f140], ⟨(.node (.node (.node (.node (.node (.node (.node (.node .nil none (.node (.node .nil none (.node (.node .nil (some b76) .nil) none .nil)) none .nil)) none .nil) none (.node .nil
  none (.node (.node .nil none (.node (.node .nil none (.node .nil (some (.cells [(.ptr 2098 0)] 119 false false)) .nil)) none .nil)) none .nil))) none .nil) (some b20) .nil) none (.node (.node .nil none (.node .nil none (.node (.node .nil none
  (.node .nil none (.node (.node (.node .nil (some b66) .nil) none .nil) none .nil))) none .nil))) none (.node (.node .nil none (.node .nil none (.node (.node .nil none (.node (.node .nil none (.node .nil (some b210) .nil)) none .nil)) none .nil)))
  none (.node (.node .nil none (.node (.node .nil none (.node (.node .nil none (.node .nil (some b211) .nil)) none .nil)) none .nil)) none (.node .nil none (.node .nil none (.node (.node (.node .nil none (.node .nil (some b112) .nil)) none .nil)
  none .nil))))))) none (.node (.node (.node (.node .nil none (.node .nil none (.node (.node .nil none (.node (.node .nil none (.node .nil (some b212) .nil)) none .nil)) none .nil))) none .nil) none (.node (.node .nil none (.node .nil none (.node
  (.node .nil none (.node (.node .nil none (.node .nil (some b212) .nil)) none .nil)) none .nil))) none .nil)) none (.node .nil none (.node (.node .nil none (.node .nil none (.node (.node .nil none (.node (.node .nil none (.node .nil (some b212)
  .nil)) none .nil)) none .nil))) none (.node (.node .nil none (.node (.node .nil none (.node (.node .nil none (.node .nil (some (.deferred true)) .nil)) none .nil)) none .nil)) none .nil))))) none (.node (.node (.node (.node (.node (.node (.node
  .nil none (.node (.node (.node .nil none (.node .nil (some b114) .nil)) none .nil) none .nil)) none .nil) none (.node .nil none (.node (.node .nil none (.node (.node .nil none (.node .nil (some (.cells [(.yld 3422)] 133 false false)) .nil))
  none .nil)) none .nil))) none (.node .nil none (.node (.node (.node (.node (.node (.node .nil (some b47) .nil) none .nil) none .nil) none .nil) none .nil) none .nil))) none (.node (.node .nil none (.node .nil none (.node (.node .nil none (.node
  (.node .nil none (.node .nil (some (.cells [(.ptr 1766 0)] 75 false false)) .nil)) none .nil)) none .nil))) none (.node .nil none (.node .nil none (.node .nil none (.node (.node (.node .nil none (.node .nil (some b112) .nil)) none .nil) none
  .nil)))))) none (.node (.node (.node (.node .nil none (.node .nil none (.node (.node (.node (.node .nil (some b49) .nil) none .nil) none .nil) none .nil))) none .nil) none .nil) none (.node (.node .nil none (.node .nil none (.node (.node .nil
  none (.node (.node .nil none (.node .nil (some (.cells [(.yld 3435)] 133 false false)) .nil)) none .nil)) none .nil))) none (.node (.node .nil none (.node (.node .nil none (.node (.node .nil none (.node .nil (some b70) .nil)) none .nil)) none
  .nil)) none .nil)))) none (.node (.node (.node .nil none (.node .nil none (.node (.node (.node (.node (.node (.node .nil (some b213) .nil) none .nil) none .nil) none .nil) none .nil) none .nil))) none (.node (.node .nil none (.node (.node (.node
  (.node (.node (.node .nil (some b115) .nil) none .nil) none .nil) none .nil) none .nil) none (.node (.node .nil none (.node (.node .nil none (.node .nil (some (.deferred true)) .nil)) none .nil)) none .nil))) none (.node (.node .nil none (.node
  (.node .nil none (.node (.node .nil none (.node .nil (some b214) .nil)) none .nil)) none .nil)) none .nil))) none (.node (.node (.node .nil none (.node .nil none (.node .nil none (.node (.node .nil none (.node .nil (some b23) .nil)) none .nil))))
  none .nil) none (.node (.node .nil none (.node .nil none (.node (.node .nil none (.node .nil none (.node (.node .nil (some b94) .nil) none .nil))) none .nil))) none (.node (.node .nil none (.node (.node .nil none (.node (.node .nil none (.node
  .nil (some b215) .nil)) none .nil)) none .nil)) none .nil)))))), 3438⟩⟩
theorem s13 : (iterA P 60000 400 m12).map (pruneM [0, 1, 4, 5, 7, 8, 9, 10, 11, 12, 13, 14, 15, 16, 18] [[2, 3], [1, 2, 3, 6], [2, 3, 6, 15, 16, 17, 18, 19, 20, 21, 22, 23, 24, 25, 26], [2, 4], [2, 3], [4, 5, 6, 7, 15, 16, 17, 18, 19, 20, 21,
  22, 23, 24], [2, 3, 8, 9], [4, 5, 19], [0, 1, 3, 4, 5, 26, 27]] [7, 1766, 2090, 2096, 2098, 2244, 2483, 2687, 2926, 3200, 3320, 3323, 3418, 3419, 3420, 3421, 3422, 3423, 3424, 3425, 3432, 3433, 3434, 3435, 3436, 3437]) = some m13 := by kernel_rfl
noncomputable def c216 : Code := partOf (bodyOf P 56) [1, 1, 0, 1, 0, 0]
noncomputable def f217 : AFrame := ⟨56, 30, (.node (.node (.node (.node (.node .nil (some (.sliceE 2926 0 2 9)) .nil) (some (.ptr 3527 0)) (.node .nil (some (.val (.int .i8 0))) .nil)) (some (.val (.int .i64 3))) (.node (.node .nil (some (.val (.bool false)))
  .nil) (some (.val (.int .i64 7))) (.node .nil (some (.val (.int .i64 2))) .nil))) none (.node (.node (.node .nil (some (.val (.int .i64 2))) .nil) none (.node .nil (some (.val (.int .i64 2))) .nil)) (some (.sliceE 2926 0 2 9)) (.node (.node
  .nil (some (.agg [(.val (.int .i8 0)), (.val (.int .i8 2)), (.val (.int .i8 3)), (.val (.int .i8 1)), (.val (.int .i8 4)), (.val (.int .i8 5)), (.val (.int .i8 6)), (.val (.int .i8 7)), (.val (.int .i8 8))])) .nil) (some (.val (.bool true)))
  .nil))) none (.node (.node (.node (.node .nil (some (.sliceE 2926 0 2 9)) .nil) none (.node .nil (some (.val (.bool true))) .nil)) none (.node (.node .nil (some (.ptr 2926 9)) .nil) (some (.val (.int .i64 5))) (.node .nil (some (.val (.int
  .i64 5))) .nil))) (some (.val (.int .i64 0))) (.node (.node (.node .nil (some (.val (.int .i64 2))) .nil) (some (.sliceE 3419 0 7 1)) (.node .nil (some (.val (.int .i64 3))) .nil)) none (.node (.node .nil (some (.ptr 3527 0)) .nil) (some (.ptr
  3419 4)) .nil)))), [.code c216, .inLoop c216, .inBlock 0, .code c134], [], .run, .normal, none⟩
noncomputable def b218 : AB := .cells [(.val (.int .i8 0)), (.val (.int .i8 2)), (.val (.int .i8 3)), (.val (.int .i8 1)), (.val (.int .i8 4)), (.val (.int .i8 5)), (.val (.int .i8 6)), (.val (.int .i8 7)), (.val (.int .i8 8))] 82 false false
noncomputable def m14 : M := ⟨f217, [f137, f140], ⟨(.node (.node (.node (.node (.node (.node (.node (.node .nil none (.node (.node .nil none (.node (.node .nil (some b76) .nil) none .nil)) none .nil)) none .nil) none .nil) none .nil) (some b20) (.node (.node (.node .nil
  none (.node .nil none (.node .nil none (.node (.node .nil none (.node .nil (some b218) .nil)) none .nil)))) none .nil) none .nil)) none (.node (.node .nil none (.node .nil none (.node (.node .nil none (.node .nil none (.node (.node (.node .nil
  (some b66) .nil) none .nil) none .nil))) none .nil))) none (.node .nil none (.node (.node .nil none (.node (.node .nil none (.node (.node .nil none (.node .nil (some b211) .nil)) none .nil)) none .nil)) none (.node .nil none (.node .nil none
  (.node (.node (.node .nil none (.node .nil (some b112) .nil)) none .nil) none .nil))))))) none .nil) none (.node (.node (.node (.node (.node (.node (.node .nil none (.node (.node (.node .nil none (.node .nil (some b114) .nil)) none .nil) none
  .nil)) none .nil) none .nil) none (.node .nil none (.node (.node (.node (.node (.node (.node .nil (some b47) .nil) none .nil) none .nil) none .nil) none .nil) none .nil))) none .nil) none (.node (.node (.node (.node .nil none (.node .nil none
  (.node (.node (.node (.node .nil (some b49) .nil) none .nil) none .nil) none .nil))) none .nil) none .nil) none .nil)) none (.node .nil none (.node (.node (.node .nil none (.node .nil none (.node .nil none (.node (.node .nil none (.node .nil
  (some b23) .nil)) none .nil)))) none .nil) none (.node (.node .nil none (.node .nil none (.node (.node .nil none (.node .nil none (.node (.node .nil (some b94) .nil) none .nil))) none .nil))) none .nil))))), 3528⟩⟩
theorem s14 : (iterA P 60000 400 m13).map (pruneM [2, 3, 5, 7, 10, 11, 12, 13, 14, 15, 16, 17, 18, 19, 20, 21, 22, 23, 24, 25, 26, 27, 28] [[4, 5, 19], [0, 1, 3, 4, 5, 26, 27]] [7, 1766, 2096, 2244, 2483, 2687, 2926, 3200, 3323, 3419, 3527])
  = some m14 := by kernel_rfl
noncomputable def f219 : AFrame := ⟨52, 28, (.node (.node (.node (.node .nil (some (.val (.int .i64 8))) .nil) (some (.ptr 3646 0)) (.node .nil (some (.val (.int .i64 7))) .nil)) none (.node (.node .nil (some (.val (.int .i64 7))) .nil) none (.node .nil (some
  (.ptr 3646 7)) .nil))) (some (.slice 3532 0 2 2)) (.node (.node (.node .nil (some (.val (.bool true))) .nil) (some (.val (.int .i64 7))) (.node .nil (some (.val (.int .i8 7))) .nil)) (some (.ptr 3645 0)) (.node (.node .nil (some (.val (.int
  .i64 7))) .nil) none (.node .nil (some (.val (.int .i64 8))) .nil)))), [.code c128, .inLoop c129, .inBlock 0, .code c130], [], .run, .normal, none⟩
noncomputable def f220 : AFrame := ⟨49, 41, (.node (.node (.node (.node (.node (.node .nil (some (.val (.bool true))) .nil) none .nil) (some (.val (.slice none 0 0))) (.node .nil (some (.slice 3534 0 2 2)) .nil)) none (.node .nil (some (.val (.slice none 0
  0))) (.node .nil (some (.ptr 3534 0)) .nil))) none (.node (.node (.node (.node .nil (some (.val (.slice none 0 0))) .nil) none .nil) (some (.ptr 3535 0)) (.node .nil (some (.val (.int .i64 0))) .nil)) none (.node .nil (some (.slice 3532 0 2
  2)) (.node .nil (some (.val (.int .i64 2))) .nil)))) (some (.val (.int .i64 2))) (.node (.node (.node (.node (.node .nil (some (.val (.bool false))) .nil) none .nil) (some (.val (.int .i64 0))) (.node .nil (some (.val (.int .i64 2))) .nil))
  none (.node .nil none (.node .nil (some (.slice 3532 0 2 2)) .nil))) none (.node (.node (.node (.node .nil (some (.slice 3532 0 2 2)) .nil) none .nil) none (.node .nil (some (.val (.bool true))) .nil)) (some (.val (.pointer none))) (.node .nil
  none (.node .nil (some (.slice 3532 0 2 2)) .nil))))), [.inRegion (opsOf c9) 2 (restOf c9 2), .inBlock 1, .code c10, .inLoop c11, .inBlock 0, .code c12], [], .run, .normal, none⟩
noncomputable def c221 : Code := partOf (bodyOf P 25) [1, 0]
noncomputable def c222 : Code := partOf (bodyOf P 25) [1, 1]
noncomputable def f223 : AFrame := ⟨25, 42, (.node (.node .nil none (.node (.node (.node .nil (some (.val (.int .i64 2))) .nil) (some (.val (.bool false))) .nil) none (.node (.node .nil (some (.slice 3534 0 2 2)) .nil) none .nil))) none (.node (.node (.node
  .nil (some (.val (.slice none 0 0))) .nil) none .nil) none (.node (.node (.node .nil (some (.slice 3531 0 1 1)) .nil) (some (.val (.int .i64 0))) .nil) none .nil))), [.inRegion (opsOf c221) 5 (restOf c221 5), .code c222], [], .run, .normal,
  none⟩
noncomputable def c224 : Code := partOf (bodyOf P 22) [1, 1, 1, 1, 0]
noncomputable def c225 : Code := partOf (bodyOf P 22) [1, 1, 1, 1, 1]
noncomputable def f226 : AFrame := ⟨22, 101, (.node (.node (.node (.node .nil (some (.val (.int .i64 0))) .nil) (some (.val (.int .i64 0))) (.node (.node (.node .nil (some (.slice 3533 0 2 2)) .nil) none .nil) none .nil)) (some (.val (.int .i64 4))) (.node
  (.node (.node (.node .nil (some (.slice 3531 0 1 1)) .nil) none .nil) none .nil) (some (.val (.int .i64 0))) .nil)) (some (.val (.bool false))) (.node (.node .nil (some (.val (.int .i64 12))) .nil) none (.node (.node (.node (.node .nil (some
  (.slice 3532 0 2 2)) .nil) none .nil) none .nil) (some (.val (.int .i64 3))) .nil))), [.inRegion (opsOf c224) 4 (restOf c224 4), .code c225], [], .run, .normal, none⟩
noncomputable def b227 : AB := .cells [(.val (.int .i64 2)), (.val (.int .u16 2)), (.val (.int .u16 1)), (.val (.int .u16 0)), (.val (.int .u16 0)), (.val (.int .u16 0)), (.val (.int .u16 0)), (.val (.int .u16 0)), (.val (.int .u16 0)), (.val (.int .u16 0))]
  109 false false
noncomputable def b228 : AB := .cells [(.val (.int .i64 0)), (.val (.int .i64 1))] 90 false false
noncomputable def b229 : AB := .cells [(.val (.int .i64 1)), (.val (.int .i64 0))] 3 false false
noncomputable def b230 : AB := .cells [(.val (.int .i64 0)), (.val (.int .i64 1))] 3 false false
noncomputable def b231 : AB := .cells [(.slice 3532 0 2 2), (.slice 3533 0 2 2)] 23 false false
noncomputable def b232 : AB := .cells [(.val (.int .i8 0)), (.val (.int .i8 1)), (.val (.int .i8 2)), (.val (.int .i8 3)), (.val (.int .i8 4)), (.val (.int .i8 5)), (.val (.int .i8 6)), (.val (.int .i8 7)), (.val (.int .i8 0))] 82 false false
noncomputable def m15 : M := ⟨f219, [f220, f223, f226], ⟨(.node (.node (.node (.node (.node .nil none (.node (.node .nil none (.node .nil none (.node .nil none (.node (.node .nil none (.node .nil (some b227) .nil)) none .nil)))) none .nil)) none .nil) none (.node .nil none
  (.node (.node (.node .nil none (.node .nil none (.node .nil none (.node (.node .nil none (.node .nil (some b228) .nil)) none .nil)))) none .nil) none .nil))) none (.node .nil none (.node .nil none (.node (.node (.node .nil none (.node .nil
  none (.node .nil none (.node (.node .nil none (.node .nil (some b229) .nil)) none .nil)))) none .nil) none (.node .nil none (.node (.node (.node (.node .nil none (.node .nil none (.node .nil (some b141) .nil))) none .nil) none .nil) none .nil))))))
  none (.node (.node .nil none (.node .nil none (.node (.node (.node .nil none (.node .nil none (.node .nil none (.node (.node .nil none (.node .nil (some b230) .nil)) none .nil)))) none .nil) none .nil))) none (.node .nil none (.node .nil none
  (.node (.node (.node .nil none (.node .nil none (.node .nil none (.node (.node .nil none (.node .nil (some b231) .nil)) none .nil)))) none .nil) none (.node .nil none (.node (.node (.node (.node .nil none (.node .nil none (.node .nil (some
  b232) .nil))) none .nil) none .nil) none .nil))))))), 3647⟩⟩
theorem s15 : (iterA P 60000 400 m14).map (pruneM [0, 2, 3, 4, 7, 8, 9, 10, 11, 12, 13, 14] [[0, 6, 7, 8, 9, 11, 13, 23, 24, 25, 26, 27, 28, 29, 30, 31, 32, 33, 34], [8, 9, 10, 17, 18, 21], [0, 1, 3, 4, 5, 6, 7, 33, 34, 35]] [3531, 3532, 3533,
  3534, 3535, 3645, 3646]) = some m15 := by kernel_rfl
noncomputable def c233 : Code := partOf (bodyOf P 67) [1, 1, 1, 1, 0, 1, 0, 0]
noncomputable def c234 : Code := partOf (bodyOf P 67) [1, 1, 1, 1, 1]
noncomputable def f235 : AFrame := ⟨67, 78, (.node (.node (.node (.node (.node (.node (.node .nil (some (.val (.int .u16 0))) .nil) (some (.val (.int .i64 0))) .nil) none (.node .nil (some (.val (.int .i64 0))) .nil)) (some (.ptr 3888 0)) (.node (.node (.node
  .nil (some (.val (.int .i64 1))) .nil) (some (.val (.bool false))) .nil) (some (.agg [(.val (.int .i64 0)), (.val (.int .i64 1))])) (.node .nil (some (.ptr 3887 0)) .nil))) none (.node (.node (.node (.node .nil (some (.ptr 3887 0)) .nil) (some
  (.val (.bool false))) .nil) (some (.val (.int .i64 2))) (.node .nil (some (.val (.int .u16 0))) .nil)) (some (.val (.int .i64 1))) (.node (.node .nil (some (.val (.int .i64 (-1)))) .nil) (some (.val (.int .i64 1))) (.node .nil (some (.val (.int
  .i64 1))) .nil)))) none (.node (.node (.node (.node (.node .nil (some (.val (.int .u16 1))) .nil) (some (.val (.bool false))) .nil) none (.node .nil (some (.ptr 3887 1)) .nil)) (some (.ptr 3889 0)) (.node (.node .nil (some (.slice 3888 0 2
  2)) .nil) (some (.val (.int .i64 0))) (.node .nil (some (.ptr 3887 1)) .nil))) (some (.val (.int .i64 0))) (.node (.node (.node (.node .nil (some (.ptr 3887 2)) .nil) (some (.val (.int .i64 3))) .nil) (some (.val (.bool true))) (.node .nil
  (some (.val (.int .u16 2))) .nil)) none (.node (.node .nil (some (.val (.bool false))) .nil) (some (.val (.bool false))) (.node .nil (some (.ptr 3887 1)) .nil))))) (some (.val (.int .i64 3))) (.node (.node (.node (.node (.node (.node .nil (some
  (.val (.int .i64 0))) .nil) (some (.val (.int .i64 1))) .nil) none (.node .nil (some (.ptr 3887 0)) .nil)) none (.node (.node .nil (some (.val (.bool false))) .nil) (some (.ptr 3889 0)) (.node .nil (some (.ptr 3887 1)) .nil))) (some (.val (.pointer
  none))) (.node (.node (.node (.node .nil (some (.ptr 3887 1)) .nil) (some (.val (.int .i64 1))) .nil) (some (.val (.int .i64 1))) (.node .nil (some (.val (.int .i64 1))) .nil)) none (.node (.node .nil (some (.val (.bool false))) .nil) (some
  (.val (.int .i64 0))) (.node .nil (some (.ptr 3887 0)) .nil)))) none (.node (.node (.node (.node (.node .nil (some (.val (.int .u16 1))) .nil) (some (.val (.bool false))) .nil) (some (.slice 3883 0 2 2)) (.node .nil (some (.ptr 3887 1)) .nil))
  (some (.val (.int .i64 0))) (.node (.node .nil (some (.slice 3889 0 2 2)) .nil) (some (.ptr 3889 1)) (.node .nil (some (.ptr 3887 0)) .nil))) (some (.ptr 3887 0)) (.node (.node (.node (.node .nil (some (.agg [(.val (.int .i64 0)), (.val (.int
  .i64 1))])) .nil) (some (.val (.bool false))) .nil) (some (.ptr 3883 0)) (.node .nil (some (.val (.int .u16 2))) .nil)) none (.node (.node .nil (some (.ptr 3887 0)) .nil) (some (.val (.bool false))) (.node .nil (some (.ptr 3887 2)) .nil)))))),
  [.code c233, .inLoop c233, .inBlock 0, .code c234], [], .run, .normal, none⟩
noncomputable def c236 : Code := partOf (bodyOf P 49) [1, 0]
noncomputable def c237 : Code := partOf (bodyOf P 49) [1, 1]
noncomputable def f238 : AFrame := ⟨49, 41, (.node (.node (.node (.node (.node .nil (some (.val (.int .i64 3))) .nil) (some (.val (.slice none 0 0))) .nil) none .nil) none .nil) (some (.val (.int .i64 3))) (.node (.node (.node (.node .nil (some (.slice 3883
  0 2 2)) .nil) (some (.val (.int .i64 0))) .nil) none .nil) (some (.slice 3886 0 2 2)) (.node .nil (some (.val (.pointer none))) .nil))), [.inRegion (opsOf c236) 2 (restOf c236 2), .code c237], [], .run, .normal, none⟩
noncomputable def f239 : AFrame := ⟨25, 42, (.node (.node .nil none (.node (.node (.node .nil (some (.val (.int .i64 3))) .nil) (some (.val (.bool false))) .nil) none (.node (.node .nil (some (.slice 3886 0 2 2)) .nil) none .nil))) none (.node (.node (.node
  .nil (some (.val (.slice none 0 0))) .nil) none .nil) none (.node (.node (.node .nil (some (.slice 3883 0 2 2)) .nil) (some (.val (.int .i64 0))) .nil) none .nil))), [.inRegion (opsOf c221) 5 (restOf c221 5), .code c222], [], .run, .normal,
  none⟩
noncomputable def c240 : Code := partOf (bodyOf P 24) [1, 0]
noncomputable def c241 : Code := partOf (bodyOf P 24) [1, 1]
noncomputable def f242 : AFrame := ⟨24, 24, (.node (.node (.node (.node (.node .nil (some (.slice 3883 0 2 2)) .nil) none .nil) none .nil) none (.node (.node (.node .nil (some (.slice 3885 0 3 3)) .nil) (some (.val (.int .i64 0))) .nil) none .nil)) none (.node
  (.node (.node (.node .nil (some (.slice 3884 0 3 3)) .nil) (some (.val (.bool false))) .nil) none .nil) none (.node .nil none (.node .nil (some (.val (.int .i64 3))) .nil)))), [.inRegion (opsOf c240) 4 (restOf c240 4), .code c241], [], .run,
  .normal, none⟩
noncomputable def c243 : Code := partOf (bodyOf P 22) [1, 1, 1, 1, 1, 0]
noncomputable def c244 : Code := partOf (bodyOf P 22) [1, 1, 1, 1, 1, 1]
noncomputable def f245 : AFrame := ⟨22, 101, (.node (.node (.node (.node .nil (some (.val (.int .i64 0))) .nil) (some (.val (.int .i64 0))) (.node .nil none (.node (.node .nil (some (.slice 3883 0 2 2)) .nil) none .nil))) (some (.val (.int .i64 4))) (.node
  (.node .nil (some (.val (.bool true))) .nil) (some (.val (.int .i64 0))) (.node .nil none (.node (.node .nil (some (.slice 3885 0 3 3)) .nil) none .nil)))) (some (.val (.bool false))) (.node (.node (.node .nil (some (.sliceE 3882 0 1 1)) .nil)
  (some (.val (.int .i64 12))) (.node .nil none (.node (.node .nil (some (.slice 3884 0 3 3)) .nil) none .nil))) none (.node (.node .nil (some (.val (.int .i64 0))) .nil) (some (.val (.int .i64 3))) .nil))), [.inRegion (opsOf c243) 5 (restOf
  c243 5), .code c244], [], .run, .normal, none⟩
noncomputable def b246 : AB := .cells [(.val (.int .i64 3)), (.val (.int .u16 2)), (.val (.int .u16 1)), (.val (.int .u16 0)), (.val (.int .u16 0)), (.val (.int .u16 0)), (.val (.int .u16 0)), (.val (.int .u16 0)), (.val (.int .u16 0)), (.val (.int .u16 0))]
  109 false false
noncomputable def b247 : AB := .cells [(.val (.int .i64 0)), (.val (.int .i64 1)), (.val (.int .i64 1)), (.val (.int .i64 2))] 90 false false
noncomputable def b248 : AB := .cells [(.val (.int .i64 0)), (.val (.int .i64 2)), (.val (.int .i64 1))] 3 false false
noncomputable def b249 : AB := .cells [(.val (.int .i64 0)), (.val (.int .i64 1)), (.val (.int .i64 2))] 3 false false
noncomputable def b250 : AB := .cells [(.val (.int .i64 1))] 3 true false
noncomputable def b251 : AB := .cells [(.slice 3884 0 3 3), (.slice 3885 0 3 3)] 23 false false
noncomputable def m16 : M := ⟨f235, [f238, f239, f242, f245], ⟨(.node (.node (.node (.node (.node .nil none (.node .nil none (.node (.node (.node .nil none (.node .nil none (.node .nil none (.node .nil (some b246) .nil)))) none .nil) none .nil))) none .nil) none (.node .nil
  none (.node (.node .nil none (.node (.node (.node .nil none (.node .nil none (.node .nil none (.node .nil (some b247) .nil)))) none .nil) none .nil)) none .nil))) none (.node (.node (.node .nil none (.node .nil none (.node (.node (.node .nil
  none (.node .nil none (.node .nil none (.node .nil (some b228) .nil)))) none .nil) none .nil))) none .nil) none (.node .nil none (.node (.node .nil none (.node (.node (.node .nil none (.node .nil none (.node .nil none (.node .nil (some b248)
  .nil)))) none .nil) none .nil)) none .nil)))) none (.node (.node (.node (.node .nil none (.node .nil none (.node (.node (.node .nil none (.node .nil none (.node .nil none (.node .nil (some b228) .nil)))) none .nil) none .nil))) none .nil) none
  (.node .nil none (.node (.node .nil none (.node (.node (.node .nil none (.node .nil none (.node .nil none (.node .nil (some b249) .nil)))) none .nil) none .nil)) none .nil))) none (.node (.node .nil none (.node (.node .nil none (.node (.node
  (.node .nil none (.node .nil none (.node .nil none (.node .nil (some b250) .nil)))) none .nil) none .nil)) none .nil)) none (.node .nil none (.node (.node .nil none (.node (.node (.node .nil none (.node .nil none (.node .nil none (.node .nil
  (some b251) .nil)))) none .nil) none .nil)) none .nil))))), 3940⟩⟩
theorem s16 : (iterA P 60000 400 m15).map (pruneM [0, 4, 5, 6, 7, 9, 10, 11, 18, 19, 20, 21, 22, 23, 24, 25, 26, 27, 28, 29, 30, 31, 32, 33, 34, 35, 36, 37, 38, 39, 40, 41, 42, 43, 44, 45, 46, 47, 48, 49, 50, 51, 52, 53, 54, 55, 56, 57, 58, 59,
  60, 61, 62, 63, 64, 65, 66, 67, 68, 69, 70, 71] [[0, 2, 6, 7, 8, 15, 16], [8, 9, 10, 17, 18, 21], [8, 9, 14, 15, 16, 17], [0, 1, 3, 4, 5, 6, 7, 8, 9, 10, 43, 44, 45]] [3882, 3883, 3884, 3885, 3886, 3887, 3888, 3889]) = some m16 := by kernel_rfl
noncomputable def c252 : Code := partOf (bodyOf P 51) [1, 1, 1, 0, 1, 0, 0, 0]
noncomputable def c253 : Code := partOf (bodyOf P 51) [1, 1, 1, 0, 1, 0, 0, 1]
noncomputable def f254 : AFrame := ⟨51, 34, (.node (.node (.node (.node (.node .nil (some (.val (.bool true))) .nil) (some (.val (.int .i64 0))) (.node .nil (some (.val (.bool false))) .nil)) none (.node (.node .nil (some (.val (.bool false))) .nil) none (.node
  .nil (some (.val (.int .u16 1))) .nil))) none (.node (.node (.node .nil (some (.val (.int .i64 0))) .nil) none (.node .nil (some (.val (.int .u16 0))) .nil)) (some (.val (.int .u16 1))) (.node (.node .nil (some (.val (.int .i64 0))) .nil) (some
  (.val (.int .i64 3))) (.node .nil (some (.val (.int .i64 1))) .nil)))) (some (.val (.int .i64 3))) (.node (.node (.node (.node .nil (some (.ptr 3885 0)) .nil) none (.node .nil (some (.val (.bool false))) .nil)) (some (.val (.bool false))) (.node
  (.node .nil (some (.val (.bool false))) .nil) (some (.slice 3885 0 3 3)) (.node .nil (some (.val (.int .u16 1))) .nil))) none (.node (.node (.node .nil (some (.val (.int .i64 0))) .nil) none (.node .nil (some (.val (.int .i64 0))) .nil)) none
  (.node (.node .nil (some (.val (.int .i64 3))) .nil) (some (.val (.int .i64 1))) .nil)))), [.code c252, .code c253, .inLoop c4, .inBlock 0, .code c5], [], .run, .normal, none⟩
noncomputable def f255 : AFrame := ⟨49, 41, (.node (.node (.node (.node (.node (.node .nil (some (.val (.bool true))) .nil) none .nil) (some (.val (.slice none 0 0))) (.node .nil (some (.slice 3886 0 2 2)) .nil)) none (.node (.node (.node .nil (some (.agg
  [(.val (.int .i8 0)), (.val (.int .i8 1)), (.val (.int .i8 2)), (.val (.int .i8 3)), (.val (.int .i8 4)), (.val (.int .i8 5)), (.val (.int .i8 6)), (.val (.int .i8 7)), (.val (.int .i8 8))])) .nil) none .nil) (some (.sliceE 4089 0 1 9)) (.node
  .nil (some (.ptr 3886 1)) .nil))) none (.node (.node (.node (.node .nil (some (.val (.slice none 0 0))) .nil) none .nil) (some (.ptr 3887 0)) (.node .nil (some (.val (.int .i64 1))) .nil)) none (.node (.node (.node .nil (some (.sliceE 4089
  0 1 9)) .nil) none .nil) (some (.slice 3885 0 3 3)) (.node .nil (some (.val (.int .i64 3))) .nil)))) (some (.val (.int .i64 3))) (.node (.node (.node (.node (.node .nil (some (.val (.bool false))) .nil) none .nil) (some (.val (.int .i64 0)))
  (.node .nil (some (.val (.int .i64 2))) .nil)) none (.node (.node (.node .nil (some (.slice 4088 0 1 1)) .nil) none .nil) none (.node .nil (some (.slice 3885 0 3 3)) .nil))) none (.node (.node (.node (.node .nil (some (.slice 3884 0 3 3)) .nil)
  none .nil) none (.node .nil (some (.val (.bool true))) .nil)) (some (.val (.pointer none))) (.node (.node (.node .nil (some (.val (.int .i64 1))) .nil) none .nil) none (.node .nil (some (.slice 3885 0 3 3)) .nil))))), [.inRegion (opsOf c7)
  2 (restOf c7 2), .code c8, .code c9, .inBlock 1, .code c10, .inLoop c11, .inBlock 0, .code c12], [], .run, .normal, none⟩
noncomputable def b256 : AB := .cells [(.val (.int .i64 3)), (.val (.int .u16 2)), (.val (.int .u16 5)), (.val (.int .u16 2)), (.val (.int .u16 0)), (.val (.int .u16 0)), (.val (.int .u16 0)), (.val (.int .u16 0)), (.val (.int .u16 0)), (.val (.int .u16 0))]
  109 false false
noncomputable def b257 : AB := .cells [(.val (.int .i8 0)), (.val (.int .i8 1)), (.val (.int .i8 2)), (.val (.int .i8 3)), (.val (.int .i8 4)), (.val (.int .i8 5)), (.val (.int .i8 6)), (.val (.int .i8 7)), (.val (.int .i8 8))] 82 true false
noncomputable def m17 : M := ⟨f254, [f255, f239, f242, f245], ⟨(.node (.node (.node (.node (.node .nil none (.node .nil none (.node (.node (.node .nil none (.node .nil none (.node .nil none (.node .nil (some b256) .nil)))) none .nil) none .nil))) none .nil) none (.node .nil
  none (.node (.node .nil none (.node (.node (.node .nil none (.node .nil none (.node .nil none (.node .nil (some b247) .nil)))) none .nil) none .nil)) none .nil))) none (.node (.node .nil none (.node .nil none (.node .nil none (.node .nil none
  (.node .nil none (.node .nil none (.node .nil none (.node .nil none (.node .nil (some b257) .nil))))))))) none (.node .nil none (.node (.node .nil none (.node (.node (.node .nil none (.node .nil none (.node .nil none (.node .nil (some b248)
  .nil)))) none .nil) none .nil)) none .nil)))) none (.node (.node (.node .nil none (.node .nil none (.node .nil none (.node .nil none (.node .nil none (.node .nil none (.node .nil none (.node .nil none (.node .nil (some b47) .nil))))))))) none
  (.node .nil none (.node (.node .nil none (.node (.node (.node .nil none (.node .nil none (.node .nil none (.node .nil (some b249) .nil)))) none .nil) none .nil)) none .nil))) none (.node (.node .nil none (.node (.node .nil none (.node (.node
  (.node .nil none (.node .nil none (.node .nil none (.node .nil (some b250) .nil)))) none .nil) none .nil)) none .nil)) none (.node .nil none (.node (.node .nil none (.node (.node (.node .nil none (.node .nil none (.node .nil none (.node .nil
  (some b251) .nil)))) none .nil) none .nil)) none .nil))))), 4090⟩⟩
theorem s17 : (iterA P 60000 400 m16).map (pruneM [0, 4, 5, 7, 12, 13, 14, 15, 16, 17, 18, 19, 20, 21, 22, 23, 24, 25, 26, 27, 28, 29] [[0, 6, 7, 8, 9, 11, 13, 23, 24, 25, 26, 27, 28, 29, 30, 31, 32, 33, 34, 35, 36, 37, 38], [8, 9, 10, 17, 18,
  21], [8, 9, 14, 15, 16, 17], [0, 1, 3, 4, 5, 6, 7, 8, 9, 10, 43, 44, 45]] [3882, 3883, 3884, 3885, 3886, 3887, 4088, 4089]) = some m17 := by kernel_rfl
theorem e : (arun P 60000 m17).map (·.1) = some (.val (.bool true)) := by kernel_rfl
end Go.Ev.Aw
