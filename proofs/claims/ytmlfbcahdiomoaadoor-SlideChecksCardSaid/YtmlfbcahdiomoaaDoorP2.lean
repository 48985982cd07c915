/- awake's run, in pieces. -/
import Derived.Test.YtmlfbcahdiomoaaDoorP1
import Derived.KernelRfl
import Derived.Test.YtmlfbcahdiomoaaDoorProg
set_option linter.unusedVariables false
set_option linter.unusedSimpArgs false
set_option linter.unnecessarySimpa false
open Go Go.Ev Go.Proofs
namespace Go.Ev.Aw
set_option maxRecDepth 1000000
noncomputable def f81 : AFrame := ⟨96, 23, (.node (.node (.node (.node (.node .nil (some (.val (.int .i64 1))) .nil) none .nil) (some (.ptr 1227 0)) .nil) (some (.ptr 1224 0)) .nil) none (.node (.node .nil (some (.ptr 1229 0)) .nil) none .nil)), [.code c53,
  .beginRound, .code c54], [], .run, .normal, (some 1239)⟩
noncomputable def c82 : Code := partOf (bodyOf P 84) [0, 0, 1, 0, 0, 0]
noncomputable def c83 : Code := partOf (bodyOf P 84) [0, 0, 1, 0, 0, 1]
noncomputable def c84 : Code := partOf (bodyOf P 84) [0, 0, 1, 1]
noncomputable def c85 : Code := partOf (bodyOf P 84) [0, 0]
noncomputable def f86 : AFrame := ⟨84, 14, (.node (.node (.node .nil (some (.val (.int .u16 6))) (.node .nil (some (.val (.int .i64 1))) .nil)) (some (.ptr 1237 0)) (.node (.node .nil (some (.yld 1239)) .nil) none .nil)) (some (.yld 1239)) (.node (.node .nil
  (some (.val (.bool true))) .nil) none (.node (.node .nil (some (.val (.int .u16 6))) .nil) none .nil))), [.inRegion (opsOf c82) 3 (restOf c82 3), .code c83, .inBlock 1, .code c84, .inLoop c85, .inBlock 0], [], .run, .normal, none⟩
noncomputable def f87 : AFrame := ⟨96, 23, .nil, [.inRangeFunc 1239, .inBlock 0], [.collected 1238], .run, .normal, none⟩
noncomputable def f88 : AFrame := ⟨88, 52, (.node (.node (.node (.node (.node .nil (some (.sliceE 1170 0 2 9)) .nil) none (.node .nil (some (.ptr 345 0)) .nil)) (some (.ptr 1215 0)) (.node (.node .nil (some (.ptr 1170 0)) .nil) none .nil)) none (.node (.node
  (.node .nil (some (.val (.int .i64 0))) .nil) none (.node .nil (some (.agg [(.val (.int .i8 0)), (.val (.int .i8 3)), (.val (.int .i8 1)), (.val (.int .i8 2)), (.val (.int .i8 4)), (.val (.int .i8 5)), (.val (.int .i8 6)), (.val (.int .i8 7)),
  (.val (.int .i8 8))])) .nil)) none (.node (.node .nil (some (.ptr 345 0)) .nil) none .nil))) none (.node (.node (.node (.node .nil (some (.val (.int .i64 2))) .nil) none (.node .nil (some (.ptr 10 0)) .nil)) none (.node (.node .nil (some (.agg
  [(.val (.int .i8 0)), (.val (.int .i8 3)), (.val (.int .i8 1)), (.val (.int .i8 2)), (.val (.int .i8 4)), (.val (.int .i8 5)), (.val (.int .i8 6)), (.val (.int .i8 7)), (.val (.int .i8 8))])) .nil) none .nil)) (some (.ptr 1214 0)) (.node (.node
  (.node .nil (some (.val (.bool true))) .nil) none (.node .nil (some (.func (.func 96) [] [(.ptr 1224 0), (.ptr 1223 0)])) .nil)) (some (.ptr 1216 0)) (.node (.node .nil (some (.ptr 345 0)) .nil) none .nil)))), [.inRangeFunc 1226, .inBlock 2,
  .inBlock 1, .code c26, .inLoop c27, .inBlock 0], [.collected 1225], .run, .normal, none⟩
noncomputable def f89 : AFrame := ⟨93, 13, (.node .nil none (.node (.node .nil (some (.val (.slice none 0 0))) .nil) (some (.ptr 1211 0)) .nil)), [.inRangeFunc 1213, .inBlock 0, .code c29], [.collected 1212], .run, .normal, none⟩
noncomputable def f90 : AFrame := ⟨74, 26, (.node (.node (.node (.node (.node .nil (some (.sliceE 1173 0 2 9)) .nil) (some (.sliceE 1173 0 2 9)) (.node .nil (some (.slice 1209 0 1 1)) .nil)) none (.node (.node .nil (some (.func (.func 88) [(.ptr 345 0)] []))
  .nil) none .nil)) none (.node (.node (.node .nil (some (.val (.bool true))) .nil) none .nil) (some (.sliceE 1210 0 5 1)) (.node (.node .nil (some (.sliceE 971 0 4 1)) .nil) none .nil))) none (.node (.node (.node (.node .nil (some (.val (.int
  .i64 2))) .nil) none (.node .nil (some (.sliceE 1210 0 5 1)) .nil)) (some (.val (.slice none 0 0))) (.node (.node .nil (some (.sliceE 1173 0 2 9)) .nil) none .nil)) none (.node (.node (.node .nil (some (.ptr 345 0)) .nil) none .nil) (some (.ptr
  345 0)) (.node (.node .nil (some (.sliceE 1173 0 2 9)) .nil) none .nil)))), [.inRegion (opsOf c33) 2 (restOf c33 2), .inLoop c34, .inBlock 0, .code c35], [], .run, .normal, none⟩
noncomputable def b91 : AB := .loop .ready none 96 (.node (.node (.node (.node .nil (some (.val (.int .i64 0))) .nil) (some (.ptr 1227 0)) (.node .nil (some (.ptr 10 1)) .nil)) (some (.ptr 1224 0)) (.node (.node .nil (some (.val (.int .i64 0))) .nil) none
  (.node .nil (some (.val (.int .u16 6))) .nil))) (some (.yld 1226)) (.node (.node (.node .nil (some (.ptr 10 0)) .nil) (some (.ptr 1229 0)) (.node .nil (some (.ptr 10 1)) .nil)) (some (.ptr 1223 0)) (.node (.node .nil (some (.ptr 10 0)) .nil)
  (some (.agg [(.val (.int .i8 0)), (.val (.int .i8 3)), (.val (.int .i8 1)), (.val (.int .i8 2)), (.val (.int .i8 4)), (.val (.int .i8 5)), (.val (.int .i8 6)), (.val (.int .i8 7)), (.val (.int .i8 8))])) (.node .nil (some (.func (.func 84)
  [] [(.ptr 1237 0)])) .nil)))) 23 #[15] c53 c54 1238
noncomputable def b92 : AB := .map [((.agg [(.val (.int .i8 0)), (.val (.int .i8 1)), (.val (.int .i8 2)), (.val (.int .i8 3)), (.val (.int .i8 4)), (.val (.int .i8 5)), (.val (.int .i8 6)), (.val (.int .i8 7)), (.val (.int .i8 8))]), (.agg [(.val (.int .i8
  0)), (.val (.int .i8 1)), (.val (.int .i8 2)), (.val (.int .i8 3)), (.val (.int .i8 4)), (.val (.int .i8 5)), (.val (.int .i8 6)), (.val (.int .i8 7)), (.val (.int .i8 8))]), 0), ((.agg [(.val (.int .i8 1)), (.val (.int .i8 0)), (.val (.int
  .i8 2)), (.val (.int .i8 3)), (.val (.int .i8 4)), (.val (.int .i8 5)), (.val (.int .i8 6)), (.val (.int .i8 7)), (.val (.int .i8 8))]), (.agg [(.val (.int .i8 0)), (.val (.int .i8 1)), (.val (.int .i8 2)), (.val (.int .i8 3)), (.val (.int
  .i8 4)), (.val (.int .i8 5)), (.val (.int .i8 6)), (.val (.int .i8 7)), (.val (.int .i8 8))]), 1), ((.agg [(.val (.int .i8 2)), (.val (.int .i8 1)), (.val (.int .i8 0)), (.val (.int .i8 3)), (.val (.int .i8 4)), (.val (.int .i8 5)), (.val (.int
  .i8 6)), (.val (.int .i8 7)), (.val (.int .i8 8))]), (.agg [(.val (.int .i8 0)), (.val (.int .i8 1)), (.val (.int .i8 2)), (.val (.int .i8 3)), (.val (.int .i8 4)), (.val (.int .i8 5)), (.val (.int .i8 6)), (.val (.int .i8 7)), (.val (.int
  .i8 8))]), 2), ((.agg [(.val (.int .i8 1)), (.val (.int .i8 3)), (.val (.int .i8 2)), (.val (.int .i8 0)), (.val (.int .i8 4)), (.val (.int .i8 5)), (.val (.int .i8 6)), (.val (.int .i8 7)), (.val (.int .i8 8))]), (.agg [(.val (.int .i8 1)),
  (.val (.int .i8 0)), (.val (.int .i8 2)), (.val (.int .i8 3)), (.val (.int .i8 4)), (.val (.int .i8 5)), (.val (.int .i8 6)), (.val (.int .i8 7)), (.val (.int .i8 8))]), 3), ((.agg [(.val (.int .i8 2)), (.val (.int .i8 1)), (.val (.int .i8
  3)), (.val (.int .i8 0)), (.val (.int .i8 4)), (.val (.int .i8 5)), (.val (.int .i8 6)), (.val (.int .i8 7)), (.val (.int .i8 8))]), (.agg [(.val (.int .i8 2)), (.val (.int .i8 1)), (.val (.int .i8 0)), (.val (.int .i8 3)), (.val (.int .i8
  4)), (.val (.int .i8 5)), (.val (.int .i8 6)), (.val (.int .i8 7)), (.val (.int .i8 8))]), 4), ((.agg [(.val (.int .i8 1)), (.val (.int .i8 3)), (.val (.int .i8 0)), (.val (.int .i8 2)), (.val (.int .i8 4)), (.val (.int .i8 5)), (.val (.int
  .i8 6)), (.val (.int .i8 7)), (.val (.int .i8 8))]), (.agg [(.val (.int .i8 1)), (.val (.int .i8 3)), (.val (.int .i8 2)), (.val (.int .i8 0)), (.val (.int .i8 4)), (.val (.int .i8 5)), (.val (.int .i8 6)), (.val (.int .i8 7)), (.val (.int
  .i8 8))]), 5), ((.agg [(.val (.int .i8 2)), (.val (.int .i8 0)), (.val (.int .i8 3)), (.val (.int .i8 1)), (.val (.int .i8 4)), (.val (.int .i8 5)), (.val (.int .i8 6)), (.val (.int .i8 7)), (.val (.int .i8 8))]), (.agg [(.val (.int .i8 2)),
  (.val (.int .i8 1)), (.val (.int .i8 3)), (.val (.int .i8 0)), (.val (.int .i8 4)), (.val (.int .i8 5)), (.val (.int .i8 6)), (.val (.int .i8 7)), (.val (.int .i8 8))]), 6), ((.agg [(.val (.int .i8 0)), (.val (.int .i8 3)), (.val (.int .i8
  1)), (.val (.int .i8 2)), (.val (.int .i8 4)), (.val (.int .i8 5)), (.val (.int .i8 6)), (.val (.int .i8 7)), (.val (.int .i8 8))]), (.agg [(.val (.int .i8 1)), (.val (.int .i8 3)), (.val (.int .i8 0)), (.val (.int .i8 2)), (.val (.int .i8
  4)), (.val (.int .i8 5)), (.val (.int .i8 6)), (.val (.int .i8 7)), (.val (.int .i8 8))]), 7), ((.agg [(.val (.int .i8 0)), (.val (.int .i8 2)), (.val (.int .i8 3)), (.val (.int .i8 1)), (.val (.int .i8 4)), (.val (.int .i8 5)), (.val (.int
  .i8 6)), (.val (.int .i8 7)), (.val (.int .i8 8))]), (.agg [(.val (.int .i8 2)), (.val (.int .i8 0)), (.val (.int .i8 3)), (.val (.int .i8 1)), (.val (.int .i8 4)), (.val (.int .i8 5)), (.val (.int .i8 6)), (.val (.int .i8 7)), (.val (.int
  .i8 8))]), 8)] 9
noncomputable def b93 : AB := .cells [(.sliceE 1173 0 2 9)] 76 false false
noncomputable def b94 : AB := .cells [(.val (.int .i8 0)), (.val (.int .i8 3)), (.val (.int .i8 1)), (.val (.int .i8 2)), (.val (.int .i8 4)), (.val (.int .i8 5)), (.val (.int .i8 6)), (.val (.int .i8 7)), (.val (.int .i8 8)), (.val (.int .i8 0)), (.val (.int
  .i8 2)), (.val (.int .i8 3)), (.val (.int .i8 1)), (.val (.int .i8 4)), (.val (.int .i8 5)), (.val (.int .i8 6)), (.val (.int .i8 7)), (.val (.int .i8 8))] 82 true false
noncomputable def b95 : AB := .cells [(.val (.int .u16 6))] 86 false false
noncomputable def b96 : AB := .loop .ready none 93 (.node (.node .nil (some (.func (.func 88) [(.ptr 345 0)] [])) .nil) (some (.val (.slice none 0 0))) (.node (.node .nil (some (.val (.slice none 0 0))) .nil) (some (.ptr 1211 0)) (.node .nil (some (.func (.func
  88) [(.ptr 345 0)] [])) .nil))) 13 #[7] c43 c44 1212
noncomputable def b97 : AB := .cells [(.val (.int .i8 0)), (.val (.int .i8 3)), (.val (.int .i8 1)), (.val (.int .i8 2)), (.val (.int .i8 4)), (.val (.int .i8 5)), (.val (.int .i8 6)), (.val (.int .i8 7)), (.val (.int .i8 8))] 82 false false
noncomputable def b98 : AB := .loop .ready none 88 (.node (.node (.node (.node (.node .nil (some (.sliceE 1170 0 2 9)) .nil) none (.node .nil (some (.ptr 345 0)) .nil)) (some (.ptr 1215 0)) (.node (.node .nil (some (.ptr 1170 0)) .nil) (some (.sliceE 1170
  0 2 9)) .nil)) (some (.yld 1213)) (.node (.node (.node .nil (some (.val (.int .i64 0))) .nil) (some (.ptr 345 0)) (.node .nil (some (.agg [(.val (.int .i8 0)), (.val (.int .i8 3)), (.val (.int .i8 1)), (.val (.int .i8 2)), (.val (.int .i8 4)),
  (.val (.int .i8 5)), (.val (.int .i8 6)), (.val (.int .i8 7)), (.val (.int .i8 8))])) .nil)) none (.node (.node .nil (some (.ptr 345 0)) .nil) (some (.ptr 345 0)) .nil))) (some (.ptr 345 0)) (.node (.node (.node (.node .nil (some (.val (.int
  .i64 2))) .nil) (some (.ptr 345 0)) (.node .nil (some (.ptr 10 0)) .nil)) (some (.sliceE 1170 0 2 9)) (.node (.node .nil (some (.agg [(.val (.int .i8 0)), (.val (.int .i8 3)), (.val (.int .i8 1)), (.val (.int .i8 2)), (.val (.int .i8 4)), (.val
  (.int .i8 5)), (.val (.int .i8 6)), (.val (.int .i8 7)), (.val (.int .i8 8))])) .nil) (some (.ptr 345 0)) .nil)) (some (.ptr 1214 0)) (.node (.node (.node .nil (some (.val (.bool true))) .nil) (some (.ptr 345 2)) (.node .nil (some (.func (.func
  96) [] [(.ptr 1224 0), (.ptr 1223 0)])) .nil)) (some (.ptr 1216 0)) (.node (.node .nil (some (.ptr 345 0)) .nil) (some (.ptr 345 2)) .nil)))) 52 #[27] c57 c58 1225
noncomputable def b99 : AB := .cells [(.slice 343 0 1 1), (.sliceE 491 0 2 9), (.sliceE 730 0 2 9), (.sliceE 934 0 2 9), (.sliceE 1173 0 2 9)] 76 true false
noncomputable def m5 : M := ⟨f81, [f86, f87, f88, f89, f32, f90, f40, f42, f19], ⟨(.node (.node (.node (.node (.node (.node (.node .nil none (.node .nil none (.node (.node (.node .nil (some (.cells [(.yld 1213)] 133 false false)) .nil) none .nil) none .nil))) none .nil)
  none .nil) (some b20) (.node (.node (.node .nil none (.node .nil none (.node (.node (.node .nil (some (.cells [(.ptr 10 0)] 75 false false)) .nil) none .nil) none .nil))) none .nil) none (.node (.node .nil none (.node (.node .nil (some b47)
  .nil) none (.node (.node (.node .nil (some b91) .nil) none .nil) none .nil))) none .nil))) none (.node .nil none (.node (.node (.node .nil none (.node .nil none (.node (.node (.node .nil (some (.cells [(.yld 1226)] 133 false false)) .nil) none
  .nil) none .nil))) none (.node .nil none (.node .nil none (.node .nil (some b49) .nil)))) none (.node .nil none (.node (.node .nil none (.node (.node (.node .nil (some b70) .nil) none .nil) none .nil)) none .nil))))) none (.node (.node (.node
  .nil none (.node (.node .nil none (.node (.node .nil (some b92) .nil) none .nil)) none .nil)) none (.node (.node (.node .nil none (.node .nil none (.node (.node (.node .nil (some (.deferred true)) .nil) none .nil) none .nil))) none .nil) none
  (.node (.node .nil none (.node (.node .nil (some b69) .nil) none .nil)) none (.node (.node .nil none (.node (.node (.node .nil (some b93) .nil) none .nil) none .nil)) none .nil)))) none (.node (.node .nil none (.node (.node (.node .nil none
  (.node (.node (.node .nil (some b94) .nil) none .nil) none .nil)) none (.node .nil none (.node (.node (.node .nil (some b95) .nil) none .nil) none .nil))) none .nil)) none (.node (.node (.node .nil none (.node .nil none (.node (.node (.node
  .nil (some b46) .nil) none .nil) none .nil))) none .nil) none (.node .nil none (.node (.node .nil none (.node (.node (.node .nil (some b96) .nil) none .nil) none .nil)) none .nil)))))) none (.node (.node (.node (.node (.node (.node .nil none
  (.node .nil none (.node (.node (.node .nil (some b97) .nil) none .nil) none .nil))) none .nil) none .nil) (some b22) (.node (.node (.node .nil none (.node .nil none (.node (.node (.node .nil (some b97) .nil) none .nil) none .nil))) none .nil)
  none .nil)) none (.node .nil none (.node .nil none (.node .nil none (.node (.node .nil none (.node (.node (.node .nil (some (.deferred true)) .nil) none .nil) none .nil)) none .nil))))) none (.node (.node (.node .nil none (.node (.node (.node
  .nil none (.node (.node (.node .nil (some b94) .nil) none .nil) none .nil)) none .nil) none .nil)) (some b23) (.node (.node (.node .nil none (.node .nil none (.node (.node (.node .nil (some b98) .nil) none .nil) none .nil))) none .nil) none
  (.node (.node .nil none (.node .nil none (.node (.node .nil (some b66) .nil) none .nil))) none (.node (.node .nil none (.node (.node (.node .nil (some b99) .nil) none .nil) none .nil)) none .nil)))) none (.node (.node (.node .nil none (.node
  (.node .nil none (.node .nil none (.node .nil (some b76) .nil))) none .nil)) none (.node (.node .nil none (.node .nil none (.node (.node (.node .nil (some (.deferred true)) .nil) none .nil) none .nil))) none .nil)) none (.node .nil none (.node
  .nil none (.node (.node .nil none (.node (.node (.node .nil (some (.cells [(.ptr 345 0)] 119 false false)) .nil) none .nil) none .nil)) none .nil))))))), 1240⟩⟩
theorem s5 : (iterA P 60000 400 m4).map (pruneM [1, 3, 4, 15] [[0, 1, 3, 4, 9, 10, 11], [], [2, 3, 6, 15, 16, 17, 18, 19, 20, 21, 22, 23, 24, 25, 26], [2, 4], [2, 3], [4, 5, 6, 7, 15, 16, 17, 18, 19, 20, 21, 22, 23, 24], [4, 5, 8, 9], [6, 7,
  23, 26], [0, 1, 2, 3, 19, 20, 21]] [7, 8, 10, 337, 343, 345, 491, 730, 934, 1170, 1173, 1209, 1210, 1211, 1212, 1213, 1214, 1215, 1216, 1223, 1224, 1225, 1226, 1227, 1229, 1237, 1238, 1239]) = some m5 := by kernel_rfl
noncomputable def c100 : Code := partOf (bodyOf P 89) [1, 0, 1, 0, 0, 1, 1]
noncomputable def c101 : Code := partOf (bodyOf P 89) [1, 0, 1, 0, 0]
noncomputable def c102 : Code := partOf (bodyOf P 89) [1, 1]
noncomputable def f103 : AFrame := ⟨89, 19, (.node (.node (.node (.node .nil (some (.val (.int .i64 9))) .nil) none .nil) (some (.val (.int .i8 0))) (.node (.node .nil (some (.val (.bool true))) .nil) none .nil)) (some (.slice 1583 0 9 9)) (.node (.node (.node
  .nil (some (.val (.int .i64 0))) .nil) (some (.val (.int .i64 0))) .nil) none .nil)), [.code c100, .inLoop c101, .inBlock 0, .code c102], [], .run, .normal, none⟩
noncomputable def c104 : Code := partOf (bodyOf P 75) [1, 0]
noncomputable def f105 : AFrame := ⟨75, 5, (.node (.node (.node .nil (some (.slice 1583 0 9 9)) .nil) none .nil) none (.node .nil (some (.val (.int .i64 0))) .nil)), [.inRegion (opsOf c104) 1 (restOf c104 1), .code .ret], [], .run, .normal, none⟩
noncomputable def c106 : Code := partOf (bodyOf P 96) [1, 0]
noncomputable def c107 : Code := partOf (bodyOf P 96) [1, 1]
noncomputable def f108 : AFrame := ⟨96, 23, (.node (.node (.node .nil (some (.ptr 1582 0)) .nil) (some (.ptr 1579 0)) .nil) none (.node .nil (some (.ptr 1578 0)) (.node .nil (some (.agg [(.val (.int .i8 3)), (.val (.int .i8 2)), (.val (.int .i8 0)), (.val
  (.int .i8 1)), (.val (.int .i8 4)), (.val (.int .i8 5)), (.val (.int .i8 6)), (.val (.int .i8 7)), (.val (.int .i8 8))])) .nil))), [.inRegion (opsOf c106) 1 (restOf c106 1), .code c107], [], .run, .normal, none⟩
noncomputable def f109 : AFrame := ⟨88, 52, (.node (.node (.node (.node (.node .nil (some (.sliceE 1444 0 2 9)) .nil) none (.node .nil (some (.ptr 345 0)) .nil)) (some (.ptr 1454 0)) (.node (.node .nil (some (.ptr 1444 9)) (.node .nil (some (.val (.int .i64
  1))) .nil)) none .nil)) none (.node (.node (.node .nil (some (.val (.int .i64 1))) .nil) none (.node .nil (some (.agg [(.val (.int .i8 3)), (.val (.int .i8 2)), (.val (.int .i8 0)), (.val (.int .i8 1)), (.val (.int .i8 4)), (.val (.int .i8
  5)), (.val (.int .i8 6)), (.val (.int .i8 7)), (.val (.int .i8 8))])) .nil)) none (.node (.node .nil (some (.ptr 345 0)) .nil) none .nil))) none (.node (.node (.node (.node .nil (some (.val (.int .i64 2))) .nil) none (.node .nil (some (.ptr
  10 0)) .nil)) none (.node (.node .nil (some (.agg [(.val (.int .i8 3)), (.val (.int .i8 2)), (.val (.int .i8 0)), (.val (.int .i8 1)), (.val (.int .i8 4)), (.val (.int .i8 5)), (.val (.int .i8 6)), (.val (.int .i8 7)), (.val (.int .i8 8))]))
  .nil) none .nil)) (some (.ptr 1453 0)) (.node (.node (.node .nil (some (.val (.bool true))) .nil) none (.node .nil (some (.func (.func 96) [] [(.ptr 1579 0), (.ptr 1578 0)])) .nil)) (some (.ptr 1571 0)) (.node (.node .nil (some (.ptr 345 0))
  .nil) none .nil)))), [.inRangeFunc 1581, .inBlock 2, .inBlock 1, .code c26, .inLoop c27, .inBlock 0], [.collected 1580, .collected 1464], .run, .normal, none⟩
noncomputable def f110 : AFrame := ⟨93, 13, (.node .nil none (.node (.node .nil (some (.val (.slice none 0 0))) .nil) (some (.ptr 1450 0)) .nil)), [.inRangeFunc 1452, .inBlock 0, .code c29], [.collected 1451], .run, .normal, none⟩
noncomputable def f111 : AFrame := ⟨74, 26, (.node (.node (.node (.node (.node .nil (some (.sliceE 1447 0 2 9)) .nil) (some (.sliceE 1447 0 2 9)) (.node .nil (some (.slice 1448 0 1 1)) .nil)) none (.node (.node .nil (some (.func (.func 88) [(.ptr 345 0)] []))
  .nil) none .nil)) none (.node (.node (.node .nil (some (.val (.bool true))) .nil) none .nil) (some (.sliceE 1449 0 6 1)) (.node (.node .nil (some (.sliceE 1210 0 5 1)) .nil) none .nil))) none (.node (.node (.node (.node .nil (some (.val (.int
  .i64 2))) .nil) none (.node .nil (some (.sliceE 1449 0 6 1)) .nil)) (some (.val (.slice none 0 0))) (.node (.node .nil (some (.sliceE 1447 0 2 9)) .nil) none .nil)) none (.node (.node (.node .nil (some (.ptr 345 0)) .nil) none .nil) (some (.ptr
  345 0)) (.node (.node .nil (some (.sliceE 1447 0 2 9)) .nil) none .nil)))), [.inRegion (opsOf c33) 2 (restOf c33 2), .inLoop c34, .inBlock 0, .code c35], [], .run, .normal, none⟩
noncomputable def b112 : AB := .cells [(.val (.int .i8 3)), (.val (.int .i8 2)), (.val (.int .i8 1)), (.val (.int .i8 0)), (.val (.int .i8 4)), (.val (.int .i8 5)), (.val (.int .i8 6)), (.val (.int .i8 7)), (.val (.int .i8 8))] 82 true false
noncomputable def b113 : AB := .cells [(.val (.int .i8 3)), (.val (.int .i8 2)), (.val (.int .i8 0)), (.val (.int .i8 1)), (.val (.int .i8 4)), (.val (.int .i8 5)), (.val (.int .i8 6)), (.val (.int .i8 7)), (.val (.int .i8 8))] 82 false false
noncomputable def b114 : AB := .cells [(.val (.int .i8 3)), (.val (.int .i8 0)), (.val (.int .i8 1)), (.val (.int .i8 2)), (.val (.int .i8 4)), (.val (.int .i8 5)), (.val (.int .i8 6)), (.val (.int .i8 7)), (.val (.int .i8 8)), (.val (.int .i8 3)), (.val (.int
  .i8 2)), (.val (.int .i8 0)), (.val (.int .i8 1)), (.val (.int .i8 4)), (.val (.int .i8 5)), (.val (.int .i8 6)), (.val (.int .i8 7)), (.val (.int .i8 8))] 82 true false
noncomputable def b115 : AB := .map [((.agg [(.val (.int .i8 0)), (.val (.int .i8 1)), (.val (.int .i8 2)), (.val (.int .i8 3)), (.val (.int .i8 4)), (.val (.int .i8 5)), (.val (.int .i8 6)), (.val (.int .i8 7)), (.val (.int .i8 8))]), (.agg [(.val (.int .i8
  0)), (.val (.int .i8 1)), (.val (.int .i8 2)), (.val (.int .i8 3)), (.val (.int .i8 4)), (.val (.int .i8 5)), (.val (.int .i8 6)), (.val (.int .i8 7)), (.val (.int .i8 8))]), 0), ((.agg [(.val (.int .i8 1)), (.val (.int .i8 0)), (.val (.int
  .i8 2)), (.val (.int .i8 3)), (.val (.int .i8 4)), (.val (.int .i8 5)), (.val (.int .i8 6)), (.val (.int .i8 7)), (.val (.int .i8 8))]), (.agg [(.val (.int .i8 0)), (.val (.int .i8 1)), (.val (.int .i8 2)), (.val (.int .i8 3)), (.val (.int
  .i8 4)), (.val (.int .i8 5)), (.val (.int .i8 6)), (.val (.int .i8 7)), (.val (.int .i8 8))]), 1), ((.agg [(.val (.int .i8 2)), (.val (.int .i8 1)), (.val (.int .i8 0)), (.val (.int .i8 3)), (.val (.int .i8 4)), (.val (.int .i8 5)), (.val (.int
  .i8 6)), (.val (.int .i8 7)), (.val (.int .i8 8))]), (.agg [(.val (.int .i8 0)), (.val (.int .i8 1)), (.val (.int .i8 2)), (.val (.int .i8 3)), (.val (.int .i8 4)), (.val (.int .i8 5)), (.val (.int .i8 6)), (.val (.int .i8 7)), (.val (.int
  .i8 8))]), 2), ((.agg [(.val (.int .i8 1)), (.val (.int .i8 3)), (.val (.int .i8 2)), (.val (.int .i8 0)), (.val (.int .i8 4)), (.val (.int .i8 5)), (.val (.int .i8 6)), (.val (.int .i8 7)), (.val (.int .i8 8))]), (.agg [(.val (.int .i8 1)),
  (.val (.int .i8 0)), (.val (.int .i8 2)), (.val (.int .i8 3)), (.val (.int .i8 4)), (.val (.int .i8 5)), (.val (.int .i8 6)), (.val (.int .i8 7)), (.val (.int .i8 8))]), 3), ((.agg [(.val (.int .i8 2)), (.val (.int .i8 1)), (.val (.int .i8
  3)), (.val (.int .i8 0)), (.val (.int .i8 4)), (.val (.int .i8 5)), (.val (.int .i8 6)), (.val (.int .i8 7)), (.val (.int .i8 8))]), (.agg [(.val (.int .i8 2)), (.val (.int .i8 1)), (.val (.int .i8 0)), (.val (.int .i8 3)), (.val (.int .i8
  4)), (.val (.int .i8 5)), (.val (.int .i8 6)), (.val (.int .i8 7)), (.val (.int .i8 8))]), 4), ((.agg [(.val (.int .i8 1)), (.val (.int .i8 3)), (.val (.int .i8 0)), (.val (.int .i8 2)), (.val (.int .i8 4)), (.val (.int .i8 5)), (.val (.int
  .i8 6)), (.val (.int .i8 7)), (.val (.int .i8 8))]), (.agg [(.val (.int .i8 1)), (.val (.int .i8 3)), (.val (.int .i8 2)), (.val (.int .i8 0)), (.val (.int .i8 4)), (.val (.int .i8 5)), (.val (.int .i8 6)), (.val (.int .i8 7)), (.val (.int
  .i8 8))]), 5), ((.agg [(.val (.int .i8 2)), (.val (.int .i8 0)), (.val (.int .i8 3)), (.val (.int .i8 1)), (.val (.int .i8 4)), (.val (.int .i8 5)), (.val (.int .i8 6)), (.val (.int .i8 7)), (.val (.int .i8 8))]), (.agg [(.val (.int .i8 2)),
  (.val (.int .i8 1)), (.val (.int .i8 3)), (.val (.int .i8 0)), (.val (.int .i8 4)), (.val (.int .i8 5)), (.val (.int .i8 6)), (.val (.int .i8 7)), (.val (.int .i8 8))]), 6), ((.agg [(.val (.int .i8 0)), (.val (.int .i8 3)), (.val (.int .i8
  1)), (.val (.int .i8 2)), (.val (.int .i8 4)), (.val (.int .i8 5)), (.val (.int .i8 6)), (.val (.int .i8 7)), (.val (.int .i8 8))]), (.agg [(.val (.int .i8 1)), (.val (.int .i8 3)), (.val (.int .i8 0)), (.val (.int .i8 2)), (.val (.int .i8
  4)), (.val (.int .i8 5)), (.val (.int .i8 6)), (.val (.int .i8 7)), (.val (.int .i8 8))]), 7), ((.agg [(.val (.int .i8 0)), (.val (.int .i8 2)), (.val (.int .i8 3)), (.val (.int .i8 1)), (.val (.int .i8 4)), (.val (.int .i8 5)), (.val (.int
  .i8 6)), (.val (.int .i8 7)), (.val (.int .i8 8))]), (.agg [(.val (.int .i8 2)), (.val (.int .i8 0)), (.val (.int .i8 3)), (.val (.int .i8 1)), (.val (.int .i8 4)), (.val (.int .i8 5)), (.val (.int .i8 6)), (.val (.int .i8 7)), (.val (.int
  .i8 8))]), 8), ((.agg [(.val (.int .i8 3)), (.val (.int .i8 0)), (.val (.int .i8 1)), (.val (.int .i8 2)), (.val (.int .i8 4)), (.val (.int .i8 5)), (.val (.int .i8 6)), (.val (.int .i8 7)), (.val (.int .i8 8))]), (.agg [(.val (.int .i8 0)),
  (.val (.int .i8 3)), (.val (.int .i8 1)), (.val (.int .i8 2)), (.val (.int .i8 4)), (.val (.int .i8 5)), (.val (.int .i8 6)), (.val (.int .i8 7)), (.val (.int .i8 8))]), 9), ((.agg [(.val (.int .i8 3)), (.val (.int .i8 2)), (.val (.int .i8
  0)), (.val (.int .i8 1)), (.val (.int .i8 4)), (.val (.int .i8 5)), (.val (.int .i8 6)), (.val (.int .i8 7)), (.val (.int .i8 8))]), (.agg [(.val (.int .i8 0)), (.val (.int .i8 2)), (.val (.int .i8 3)), (.val (.int .i8 1)), (.val (.int .i8
  4)), (.val (.int .i8 5)), (.val (.int .i8 6)), (.val (.int .i8 7)), (.val (.int .i8 8))]), 10), ((.agg [(.val (.int .i8 3)), (.val (.int .i8 2)), (.val (.int .i8 1)), (.val (.int .i8 0)), (.val (.int .i8 4)), (.val (.int .i8 5)), (.val (.int
  .i8 6)), (.val (.int .i8 7)), (.val (.int .i8 8))]), (.agg [(.val (.int .i8 3)), (.val (.int .i8 0)), (.val (.int .i8 1)), (.val (.int .i8 2)), (.val (.int .i8 4)), (.val (.int .i8 5)), (.val (.int .i8 6)), (.val (.int .i8 7)), (.val (.int
  .i8 8))]), 11)] 12
noncomputable def b116 : AB := .cells [(.slice 343 0 1 1), (.sliceE 491 0 2 9), (.sliceE 730 0 2 9), (.sliceE 934 0 2 9), (.sliceE 1173 0 2 9), (.sliceE 1447 0 2 9)] 76 true false
noncomputable def b117 : AB := .cells [(.ptr 10 0), (.map 337), (.sliceE 1567 0 1 9)] 125 false false
noncomputable def b118 : AB := .loop .ready none 88 (.node (.node (.node (.node (.node .nil (some (.sliceE 1444 0 2 9)) .nil) none (.node .nil (some (.ptr 345 0)) .nil)) (some (.ptr 1454 0)) (.node (.node .nil (some (.ptr 1444 9)) (.node .nil (some (.val (.int
  .i64 1))) .nil)) (some (.sliceE 1444 0 2 9)) .nil)) (some (.yld 1452)) (.node (.node (.node .nil (some (.val (.int .i64 1))) .nil) (some (.ptr 345 0)) (.node .nil (some (.agg [(.val (.int .i8 3)), (.val (.int .i8 2)), (.val (.int .i8 0)), (.val
  (.int .i8 1)), (.val (.int .i8 4)), (.val (.int .i8 5)), (.val (.int .i8 6)), (.val (.int .i8 7)), (.val (.int .i8 8))])) .nil)) none (.node (.node .nil (some (.ptr 345 0)) .nil) (some (.ptr 345 0)) .nil))) (some (.ptr 345 0)) (.node (.node
  (.node (.node .nil (some (.val (.int .i64 2))) .nil) (some (.ptr 345 0)) (.node .nil (some (.ptr 10 0)) .nil)) (some (.sliceE 1444 0 2 9)) (.node (.node .nil (some (.agg [(.val (.int .i8 3)), (.val (.int .i8 2)), (.val (.int .i8 0)), (.val
  (.int .i8 1)), (.val (.int .i8 4)), (.val (.int .i8 5)), (.val (.int .i8 6)), (.val (.int .i8 7)), (.val (.int .i8 8))])) .nil) (some (.ptr 345 0)) .nil)) (some (.ptr 1453 0)) (.node (.node (.node .nil (some (.val (.bool true))) .nil) (some
  (.ptr 345 2)) (.node .nil (some (.func (.func 96) [] [(.ptr 1579 0), (.ptr 1578 0)])) .nil)) (some (.ptr 1571 0)) (.node (.node .nil (some (.ptr 345 0)) .nil) (some (.ptr 345 2)) .nil)))) 52 #[27] c57 c58 1580
noncomputable def b119 : AB := .cells [(.sliceE 1447 0 2 9)] 76 false false
noncomputable def b120 : AB := .loop .ready none 93 (.node (.node .nil (some (.func (.func 88) [(.ptr 345 0)] [])) .nil) (some (.val (.slice none 0 0))) (.node (.node .nil (some (.val (.slice none 0 0))) .nil) (some (.ptr 1450 0)) (.node .nil (some (.func
  (.func 88) [(.ptr 345 0)] [])) .nil))) 13 #[7] c43 c44 1451
noncomputable def b121 : AB := .cells [(.sliceE 1570 0 1 9)] 76 false false
noncomputable def m6 : M := ⟨f103, [f105, f108, f109, f110, f32, f111, f40, f42, f19], ⟨(.node (.node (.node (.node (.node (.node .nil none (.node (.node (.node (.node .nil none (.node .nil (some b112) .nil)) none .nil) none .nil) none .nil)) none (.node .nil none (.node
  (.node (.node (.node .nil none (.node .nil (some b113) .nil)) none .nil) none .nil) none .nil))) (some b20) (.node (.node .nil none (.node (.node .nil none (.node .nil none (.node (.node .nil (some b114) .nil) none .nil))) none .nil)) none
  (.node (.node .nil none (.node (.node .nil (some b47) .nil) none .nil)) none .nil))) none (.node (.node (.node .nil none (.node (.node (.node (.node .nil none (.node .nil (some b113) .nil)) none .nil) none .nil) none .nil)) none .nil) none
  (.node (.node .nil none (.node (.node (.node (.node .nil none (.node .nil (some b113) .nil)) none .nil) none (.node .nil none (.node (.node .nil (some (.deferred true)) .nil) none .nil))) none (.node .nil none (.node .nil (some b49) .nil))))
  none .nil))) none (.node (.node (.node .nil none (.node (.node .nil none (.node (.node .nil (some b115) .nil) none .nil)) none .nil)) none (.node (.node .nil none (.node (.node .nil none (.node .nil none (.node (.node .nil (some b116) .nil)
  none .nil))) none .nil)) none (.node (.node .nil none (.node (.node .nil (some b117) .nil) none .nil)) none .nil))) none (.node (.node .nil none (.node (.node (.node .nil none (.node (.node (.node .nil (some b94) .nil) none .nil) none .nil))
  none .nil) none .nil)) none (.node (.node .nil none (.node (.node (.node (.node .nil none (.node .nil (some b118) .nil)) none .nil) none (.node .nil none (.node (.node .nil (some (.cells [(.ptr 345 0)] 119 false false)) .nil) none .nil))) none
  .nil)) none .nil)))) none (.node (.node (.node .nil (some b22) (.node (.node .nil none (.node (.node .nil none (.node .nil none (.node (.node .nil (some b119) .nil) none .nil))) none .nil)) none (.node .nil none (.node (.node .nil none (.node
  .nil none (.node (.node .nil (some (.deferred true)) .nil) none .nil))) none .nil)))) none (.node (.node (.node .nil none (.node (.node .nil none (.node .nil none (.node (.node .nil (some b114) .nil) none .nil))) none .nil)) none .nil) none
  (.node (.node .nil none (.node (.node (.node (.node .nil none (.node .nil (some (.deferred true)) .nil)) none .nil) none (.node .nil none (.node (.node .nil (some b120) .nil) none .nil))) none .nil)) none .nil))) none (.node (.node (.node (.node
  .nil none (.node (.node (.node (.node .nil none (.node .nil (some b112) .nil)) none .nil) none .nil) none .nil)) none .nil) (some b23) (.node (.node .nil none (.node (.node (.node (.node .nil none (.node .nil (some (.cells [(.ptr 10 0)] 75
  false false)) .nil)) none .nil) none (.node .nil none (.node (.node .nil (some b121) .nil) none .nil))) none .nil)) none (.node (.node .nil none (.node .nil none (.node (.node .nil (some b66) .nil) none .nil))) none .nil))) none (.node (.node
  (.node .nil none (.node (.node .nil none (.node .nil none (.node .nil (some b76) .nil))) none .nil)) none .nil) none (.node (.node .nil none (.node (.node (.node (.node .nil none (.node .nil (some (.cells [(.yld 1581)] 133 false false)) .nil))
  none .nil) none (.node .nil none (.node (.node .nil (some (.cells [(.yld 1452)] 133 false false)) .nil) none .nil))) none .nil)) none .nil))))), 1584⟩⟩
theorem s6 : (iterA P 60000 400 m5).map (pruneM [0, 1, 4, 7, 8, 9] [[2, 3], [1, 2, 3, 6], [2, 3, 6, 15, 16, 17, 18, 19, 20, 21, 22, 23, 24, 25, 26, 51], [2, 4], [2, 3], [4, 5, 6, 7, 15, 16, 17, 18, 19, 20, 21, 22, 23, 24], [4, 5, 8, 9], [6, 7,
  23, 26], [0, 1, 2, 3, 19, 20, 21]] [7, 8, 10, 337, 343, 345, 491, 730, 934, 1173, 1444, 1447, 1448, 1449, 1450, 1451, 1452, 1453, 1454, 1464, 1567, 1570, 1571, 1578, 1579, 1580, 1581, 1582, 1583]) = some m6 := by kernel_rfl
end Go.Ev.Aw
