/- awake's run, in pieces. -/
import Derived.Test.YtmlfbcahdiomoaaDoorP0
import Derived.KernelRfl
import Derived.Test.YtmlfbcahdiomoaaDoorProg
set_option linter.unusedVariables false
set_option linter.unusedSimpArgs false
set_option linter.unnecessarySimpa false
open Go Go.Ev Go.Proofs
namespace Go.Ev.Aw
set_option maxRecDepth 1000000
noncomputable def c61 : Code := partOf (bodyOf P 88) [1, 1, 1]
noncomputable def f62 : AFrame := ⟨88, 52, (.node (.node (.node .nil (some (.ptr 737 0)) .nil) none .nil) none (.node (.node .nil (some (.sliceE 727 0 2 9)) .nil) (some (.ptr 736 0)) .nil)), [.code c61], [], .run, .normal, none⟩
noncomputable def f63 : AFrame := ⟨93, 13, (.node .nil none (.node (.node .nil (some (.val (.slice none 0 0))) .nil) (some (.ptr 733 0)) .nil)), [.inRangeFunc 735, .inBlock 0, .code c29], [.collected 734], .run, .normal, none⟩
noncomputable def f64 : AFrame := ⟨74, 26, (.node (.node (.node (.node (.node .nil (some (.sliceE 730 0 2 9)) .nil) (some (.sliceE 730 0 2 9)) (.node .nil (some (.slice 731 0 1 1)) .nil)) none (.node (.node .nil (some (.func (.func 88) [(.ptr 345 0)] []))
  .nil) none .nil)) none (.node (.node (.node .nil (some (.val (.bool true))) .nil) none .nil) (some (.sliceE 732 0 3 1)) (.node (.node .nil (some (.sliceE 493 0 2 1)) .nil) none .nil))) none (.node (.node (.node (.node .nil (some (.val (.int
  .i64 2))) .nil) none (.node .nil (some (.sliceE 732 0 3 1)) .nil)) (some (.val (.slice none 0 0))) (.node (.node .nil (some (.sliceE 730 0 2 9)) .nil) none .nil)) none (.node (.node (.node .nil (some (.ptr 345 0)) .nil) none .nil) (some (.ptr
  345 0)) (.node (.node .nil (some (.sliceE 730 0 2 9)) .nil) none .nil)))), [.inRegion (opsOf c33) 2 (restOf c33 2), .inLoop c34, .inBlock 0, .code c35], [], .run, .normal, none⟩
noncomputable def b65 : AB := .loop .ready none 93 (.node (.node .nil (some (.func (.func 88) [(.ptr 345 0)] [])) .nil) (some (.val (.slice none 0 0))) (.node (.node .nil (some (.val (.slice none 0 0))) .nil) (some (.ptr 733 0)) (.node .nil (some (.func (.func
  88) [(.ptr 345 0)] [])) .nil))) 13 #[7] c43 c44 734
noncomputable def b66 : AB := .cells [(.val (.int .i8 1)), (.val (.int .i8 3)), (.val (.int .i8 2)), (.val (.int .i8 0)), (.val (.int .i8 4)), (.val (.int .i8 5)), (.val (.int .i8 6)), (.val (.int .i8 7)), (.val (.int .i8 8)), (.val (.int .i8 2)), (.val (.int
  .i8 1)), (.val (.int .i8 3)), (.val (.int .i8 0)), (.val (.int .i8 4)), (.val (.int .i8 5)), (.val (.int .i8 6)), (.val (.int .i8 7)), (.val (.int .i8 8))] 82 true false
noncomputable def b67 : AB := .cells [(.sliceE 730 0 2 9)] 76 false false
noncomputable def b68 : AB := .map [((.agg [(.val (.int .i8 0)), (.val (.int .i8 1)), (.val (.int .i8 2)), (.val (.int .i8 3)), (.val (.int .i8 4)), (.val (.int .i8 5)), (.val (.int .i8 6)), (.val (.int .i8 7)), (.val (.int .i8 8))]), (.agg [(.val (.int .i8
  0)), (.val (.int .i8 1)), (.val (.int .i8 2)), (.val (.int .i8 3)), (.val (.int .i8 4)), (.val (.int .i8 5)), (.val (.int .i8 6)), (.val (.int .i8 7)), (.val (.int .i8 8))]), 0), ((.agg [(.val (.int .i8 1)), (.val (.int .i8 0)), (.val (.int
  .i8 2)), (.val (.int .i8 3)), (.val (.int .i8 4)), (.val (.int .i8 5)), (.val (.int .i8 6)), (.val (.int .i8 7)), (.val (.int .i8 8))]), (.agg [(.val (.int .i8 0)), (.val (.int .i8 1)), (.val (.int .i8 2)), (.val (.int .i8 3)), (.val (.int
  .i8 4)), (.val (.int .i8 5)), (.val (.int .i8 6)), (.val (.int .i8 7)), (.val (.int .i8 8))]), 1), ((.agg [(.val (.int .i8 2)), (.val (.int .i8 1)), (.val (.int .i8 0)), (.val (.int .i8 3)), (.val (.int .i8 4)), (.val (.int .i8 5)), (.val (.int
  .i8 6)), (.val (.int .i8 7)), (.val (.int .i8 8))]), (.agg [(.val (.int .i8 0)), (.val (.int .i8 1)), (.val (.int .i8 2)), (.val (.int .i8 3)), (.val (.int .i8 4)), (.val (.int .i8 5)), (.val (.int .i8 6)), (.val (.int .i8 7)), (.val (.int
  .i8 8))]), 2), ((.agg [(.val (.int .i8 1)), (.val (.int .i8 3)), (.val (.int .i8 2)), (.val (.int .i8 0)), (.val (.int .i8 4)), (.val (.int .i8 5)), (.val (.int .i8 6)), (.val (.int .i8 7)), (.val (.int .i8 8))]), (.agg [(.val (.int .i8 1)),
  (.val (.int .i8 0)), (.val (.int .i8 2)), (.val (.int .i8 3)), (.val (.int .i8 4)), (.val (.int .i8 5)), (.val (.int .i8 6)), (.val (.int .i8 7)), (.val (.int .i8 8))]), 3), ((.agg [(.val (.int .i8 2)), (.val (.int .i8 1)), (.val (.int .i8
  3)), (.val (.int .i8 0)), (.val (.int .i8 4)), (.val (.int .i8 5)), (.val (.int .i8 6)), (.val (.int .i8 7)), (.val (.int .i8 8))]), (.agg [(.val (.int .i8 2)), (.val (.int .i8 1)), (.val (.int .i8 0)), (.val (.int .i8 3)), (.val (.int .i8
  4)), (.val (.int .i8 5)), (.val (.int .i8 6)), (.val (.int .i8 7)), (.val (.int .i8 8))]), 4)] 5
noncomputable def b69 : AB := .cells [(.ptr 10 0), (.map 337), (.val (.slice none 0 0))] 125 false false
noncomputable def b70 : AB := .cells [(.val (.slice none 0 0))] 76 false false
noncomputable def b71 : AB := .cells [(.slice 343 0 1 1), (.sliceE 491 0 2 9), (.sliceE 730 0 2 9)] 76 true false
noncomputable def m3 : M := ⟨f62, [f63, f32, f64, f40, f42, f19], ⟨(.node (.node (.node (.node (.node (.node .nil none (.node .nil none (.node .nil none (.node (.node .nil (some b65) .nil) none .nil)))) none .nil) (some b20) (.node .nil none (.node (.node .nil none (.node
  (.node .nil (some b47) .nil) none (.node (.node .nil (some b66) .nil) none .nil))) none .nil))) none (.node .nil none (.node (.node .nil none (.node .nil none (.node .nil none (.node .nil (some b49) .nil)))) none (.node (.node .nil none (.node
  .nil none (.node (.node .nil (some b67) .nil) none .nil))) none .nil)))) none (.node (.node (.node (.node .nil none (.node .nil none (.node .nil none (.node (.node .nil (some (.cells [(.yld 735)] 133 false false)) .nil) none .nil)))) none (.node
  (.node .nil none (.node (.node .nil (some b68) .nil) none .nil)) none .nil)) none (.node .nil none (.node (.node .nil none (.node (.node .nil (some b69) .nil) none .nil)) none .nil))) none (.node .nil none (.node .nil none (.node (.node .nil
  none (.node .nil none (.node (.node .nil (some b70) .nil) none .nil))) none .nil))))) none (.node (.node (.node (.node (.node .nil none (.node .nil none (.node .nil none (.node (.node .nil (some (.cells [(.ptr 345 0)] 119 false false)) .nil)
  none .nil)))) none .nil) (some b22) .nil) none (.node .nil none (.node .nil none (.node (.node .nil none (.node .nil none (.node (.node .nil (some b71) .nil) none .nil))) none .nil)))) none (.node (.node .nil (some b23) (.node .nil none (.node
  (.node .nil none (.node .nil none (.node (.node .nil (some b66) .nil) none .nil))) none .nil))) none (.node .nil none (.node .nil none (.node (.node .nil none (.node .nil none (.node (.node .nil (some (.deferred true)) .nil) none .nil))) none
  .nil)))))), 738⟩⟩
theorem s3 : (iterA P 60000 400 m2).map (pruneM [2, 3, 4] [[2, 4], [2, 3], [4, 5, 6, 7, 15, 16, 17, 18, 19, 20, 21, 22, 23, 24], [4, 5, 8, 9], [6, 7, 23, 26], [0, 1, 2, 3, 19, 20, 21]] [7, 8, 10, 337, 343, 345, 491, 727, 730, 731, 732, 733, 734,
  735, 736, 737]) = some m3 := by kernel_rfl
noncomputable def c72 : Code := partOf (bodyOf P 88) [1, 1, 1, 1, 0, 0, 1, 1, 0]
noncomputable def f73 : AFrame := ⟨88, 52, (.node (.node (.node (.node (.node .nil (some (.sliceE 931 0 2 9)) .nil) none .nil) (some (.ptr 976 0)) .nil) none (.node (.node (.node .nil (some (.val (.int .i64 0))) .nil) none .nil) none .nil)) none (.node (.node
  (.node (.node .nil (some (.val (.int .i64 2))) .nil) none .nil) none .nil) (some (.ptr 975 0)) (.node (.node (.node .nil (some (.val (.bool true))) .nil) none .nil) none .nil))), [.code c72, .code c26, .inLoop c27, .inBlock 0], [], .run, .normal,
  none⟩
noncomputable def f74 : AFrame := ⟨93, 13, (.node .nil none (.node (.node .nil (some (.val (.slice none 0 0))) .nil) (some (.ptr 972 0)) .nil)), [.inRangeFunc 974, .inBlock 0, .code c29], [.collected 973], .run, .normal, none⟩
noncomputable def f75 : AFrame := ⟨74, 26, (.node (.node (.node (.node (.node .nil (some (.sliceE 934 0 2 9)) .nil) (some (.sliceE 934 0 2 9)) (.node .nil (some (.slice 970 0 1 1)) .nil)) none (.node (.node .nil (some (.func (.func 88) [(.ptr 345 0)] []))
  .nil) none .nil)) none (.node (.node (.node .nil (some (.val (.bool true))) .nil) none .nil) (some (.sliceE 971 0 4 1)) (.node (.node .nil (some (.sliceE 732 0 3 1)) .nil) none .nil))) none (.node (.node (.node (.node .nil (some (.val (.int
  .i64 2))) .nil) none (.node .nil (some (.sliceE 971 0 4 1)) .nil)) (some (.val (.slice none 0 0))) (.node (.node .nil (some (.sliceE 934 0 2 9)) .nil) none .nil)) none (.node (.node (.node .nil (some (.ptr 345 0)) .nil) none .nil) (some (.ptr
  345 0)) (.node (.node .nil (some (.sliceE 934 0 2 9)) .nil) none .nil)))), [.inRegion (opsOf c33) 2 (restOf c33 2), .inLoop c34, .inBlock 0, .code c35], [], .run, .normal, none⟩
noncomputable def b76 : AB := .cells [(.val (.int .i8 1)), (.val (.int .i8 3)), (.val (.int .i8 0)), (.val (.int .i8 2)), (.val (.int .i8 4)), (.val (.int .i8 5)), (.val (.int .i8 6)), (.val (.int .i8 7)), (.val (.int .i8 8)), (.val (.int .i8 2)), (.val (.int
  .i8 0)), (.val (.int .i8 3)), (.val (.int .i8 1)), (.val (.int .i8 4)), (.val (.int .i8 5)), (.val (.int .i8 6)), (.val (.int .i8 7)), (.val (.int .i8 8))] 82 true false
noncomputable def b77 : AB := .cells [(.slice 343 0 1 1), (.sliceE 491 0 2 9), (.sliceE 730 0 2 9), (.sliceE 934 0 2 9)] 76 true false
noncomputable def b78 : AB := .map [((.agg [(.val (.int .i8 0)), (.val (.int .i8 1)), (.val (.int .i8 2)), (.val (.int .i8 3)), (.val (.int .i8 4)), (.val (.int .i8 5)), (.val (.int .i8 6)), (.val (.int .i8 7)), (.val (.int .i8 8))]), (.agg [(.val (.int .i8
  0)), (.val (.int .i8 1)), (.val (.int .i8 2)), (.val (.int .i8 3)), (.val (.int .i8 4)), (.val (.int .i8 5)), (.val (.int .i8 6)), (.val (.int .i8 7)), (.val (.int .i8 8))]), 0), ((.agg [(.val (.int .i8 1)), (.val (.int .i8 0)), (.val (.int
  .i8 2)), (.val (.int .i8 3)), (.val (.int .i8 4)), (.val (.int .i8 5)), (.val (.int .i8 6)), (.val (.int .i8 7)), (.val (.int .i8 8))]), (.agg [(.val (.int .i8 0)), (.val (.int .i8 1)), (.val (.int .i8 2)), (.val (.int .i8 3)), (.val (.int
  .i8 4)), (.val (.int .i8 5)), (.val (.int .i8 6)), (.val (.int .i8 7)), (.val (.int .i8 8))]), 1), ((.agg [(.val (.int .i8 2)), (.val (.int .i8 1)), (.val (.int .i8 0)), (.val (.int .i8 3)), (.val (.int .i8 4)), (.val (.int .i8 5)), (.val (.int
  .i8 6)), (.val (.int .i8 7)), (.val (.int .i8 8))]), (.agg [(.val (.int .i8 0)), (.val (.int .i8 1)), (.val (.int .i8 2)), (.val (.int .i8 3)), (.val (.int .i8 4)), (.val (.int .i8 5)), (.val (.int .i8 6)), (.val (.int .i8 7)), (.val (.int
  .i8 8))]), 2), ((.agg [(.val (.int .i8 1)), (.val (.int .i8 3)), (.val (.int .i8 2)), (.val (.int .i8 0)), (.val (.int .i8 4)), (.val (.int .i8 5)), (.val (.int .i8 6)), (.val (.int .i8 7)), (.val (.int .i8 8))]), (.agg [(.val (.int .i8 1)),
  (.val (.int .i8 0)), (.val (.int .i8 2)), (.val (.int .i8 3)), (.val (.int .i8 4)), (.val (.int .i8 5)), (.val (.int .i8 6)), (.val (.int .i8 7)), (.val (.int .i8 8))]), 3), ((.agg [(.val (.int .i8 2)), (.val (.int .i8 1)), (.val (.int .i8
  3)), (.val (.int .i8 0)), (.val (.int .i8 4)), (.val (.int .i8 5)), (.val (.int .i8 6)), (.val (.int .i8 7)), (.val (.int .i8 8))]), (.agg [(.val (.int .i8 2)), (.val (.int .i8 1)), (.val (.int .i8 0)), (.val (.int .i8 3)), (.val (.int .i8
  4)), (.val (.int .i8 5)), (.val (.int .i8 6)), (.val (.int .i8 7)), (.val (.int .i8 8))]), 4), ((.agg [(.val (.int .i8 1)), (.val (.int .i8 3)), (.val (.int .i8 0)), (.val (.int .i8 2)), (.val (.int .i8 4)), (.val (.int .i8 5)), (.val (.int
  .i8 6)), (.val (.int .i8 7)), (.val (.int .i8 8))]), (.agg [(.val (.int .i8 1)), (.val (.int .i8 3)), (.val (.int .i8 2)), (.val (.int .i8 0)), (.val (.int .i8 4)), (.val (.int .i8 5)), (.val (.int .i8 6)), (.val (.int .i8 7)), (.val (.int
  .i8 8))]), 5), ((.agg [(.val (.int .i8 2)), (.val (.int .i8 0)), (.val (.int .i8 3)), (.val (.int .i8 1)), (.val (.int .i8 4)), (.val (.int .i8 5)), (.val (.int .i8 6)), (.val (.int .i8 7)), (.val (.int .i8 8))]), (.agg [(.val (.int .i8 2)),
  (.val (.int .i8 1)), (.val (.int .i8 3)), (.val (.int .i8 0)), (.val (.int .i8 4)), (.val (.int .i8 5)), (.val (.int .i8 6)), (.val (.int .i8 7)), (.val (.int .i8 8))]), 6)] 7
noncomputable def b79 : AB := .cells [(.sliceE 934 0 2 9)] 76 false false
noncomputable def b80 : AB := .loop .ready none 93 (.node (.node .nil (some (.func (.func 88) [(.ptr 345 0)] [])) .nil) (some (.val (.slice none 0 0))) (.node (.node .nil (some (.val (.slice none 0 0))) .nil) (some (.ptr 972 0)) (.node .nil (some (.func (.func
  88) [(.ptr 345 0)] [])) .nil))) 13 #[7] c43 c44 973
noncomputable def m4 : M := ⟨f73, [f74, f32, f75, f40, f42, f19], ⟨(.node (.node (.node (.node (.node .nil none (.node (.node .nil none (.node .nil none (.node .nil none (.node .nil (some (.cells [(.ptr 345 0)] 119 false false)) .nil)))) none .nil)) (some b20) (.node .nil
  none (.node (.node .nil none (.node (.node .nil (some b47) .nil) none .nil)) none .nil))) none (.node (.node (.node .nil none (.node (.node .nil none (.node .nil none (.node .nil (some b76) .nil))) none .nil)) none .nil) none (.node (.node
  (.node .nil none (.node .nil none (.node .nil none (.node .nil (some b77) .nil)))) none (.node .nil none (.node .nil none (.node .nil (some b49) .nil)))) none .nil))) none (.node (.node (.node .nil none (.node (.node .nil none (.node (.node
  .nil (some b78) .nil) none .nil)) none .nil)) none (.node .nil none (.node (.node .nil none (.node (.node .nil (some b69) .nil) none .nil)) none .nil))) none (.node .nil none (.node (.node (.node .nil none (.node .nil none (.node .nil none
  (.node .nil (some (.deferred true)) .nil)))) none .nil) none .nil)))) none (.node (.node (.node (.node .nil none (.node (.node .nil none (.node .nil none (.node .nil none (.node .nil (some (.cells [(.yld 974)] 133 false false)) .nil)))) none
  .nil)) (some b22) .nil) none (.node .nil none (.node (.node (.node .nil none (.node .nil none (.node .nil none (.node .nil (some b70) .nil)))) none .nil) none .nil))) none (.node (.node .nil (some b23) (.node (.node (.node .nil none (.node
  .nil none (.node .nil none (.node .nil (some b79) .nil)))) none .nil) none (.node (.node .nil none (.node .nil none (.node (.node .nil (some b66) .nil) none .nil))) none .nil))) none (.node (.node (.node .nil none (.node (.node .nil none (.node
  .nil none (.node .nil (some b76) .nil))) none .nil)) none .nil) none (.node (.node (.node .nil none (.node .nil none (.node .nil none (.node .nil (some b80) .nil)))) none .nil) none .nil))))), 977⟩⟩
theorem s4 : (iterA P 60000 400 m3).map (pruneM [2, 3, 15, 16, 17, 18] [[2, 4], [2, 3], [4, 5, 6, 7, 15, 16, 17, 18, 19, 20, 21, 22, 23, 24], [4, 5, 8, 9], [6, 7, 23, 26], [0, 1, 2, 3, 19, 20, 21]] [7, 8, 10, 337, 343, 345, 491, 730, 931, 934,
  970, 971, 972, 973, 974, 975, 976]) = some m4 := by kernel_rfl
end Go.Ev.Aw
