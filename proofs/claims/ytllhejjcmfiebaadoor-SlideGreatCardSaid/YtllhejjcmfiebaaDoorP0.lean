/- awake's run, in pieces. -/
import Derived.Test.YtllhejjcmfiebaaDoorEvS
import Derived.KernelRfl
import Derived.Test.YtllhejjcmfiebaaDoorProg
set_option linter.unusedVariables false
set_option linter.unusedSimpArgs false
set_option linter.unnecessarySimpa false
open Go Go.Ev Go.Proofs
namespace Go.Ev.Aw
set_option maxRecDepth 1000000
noncomputable abbrev P : Program := Tryd.prog
noncomputable def c0 : Code := partOf (bodyOf P 22) []
noncomputable def f1 : AFrame := ⟨22, 101, .nil, [.code c0], [], .run, .normal, none⟩
noncomputable def m0 : M := ⟨f1, [], ⟨.nil, 0⟩⟩
theorem start : startA P 22 = some m0 := by kernel_rfl
noncomputable def c17 : Code := partOf (bodyOf P 22) [1, 1, 0]
noncomputable def c18 : Code := partOf (bodyOf P 22) [1, 1, 1]
noncomputable def f19 : AFrame := ⟨22, 101, (.node (.node (.node .nil (some (.val (.int .i64 0))) (.node (.node .nil (some (.val (.int .i64 4))) .nil) none .nil)) (some (.val (.int .i64 4))) (.node .nil none (.node (.node .nil (some (.slice 8 0 4 4)) .nil)
 none .nil))) (some (.val (.bool false))) (.node (.node .nil none (.node (.node .nil (some (.sliceE 7 0 4 2)) .nil) none .nil)) (some (.sliceE 7 0 4 2)) .nil)), [.inRegion (opsOf c17) 3 (restOf c17 3), .code c18], [], .run, .normal, none⟩
noncomputable def b20 : AB := .cells [(.val (.int .i64 0)), (.val (.int .i64 1)), (.val (.int .i64 0)), (.val (.int .i64 2)), (.val (.int .i64 1)), (.val (.int .i64 3)), (.val (.int .i64 2)), (.val (.int .i64 3))] 90 true false
noncomputable def b22 : AB := .cells [(.val (.int .i64 0)), (.val (.int .i64 1)), (.val (.int .i64 2)), (.val (.int .i64 3))] 3 false false
noncomputable def b23 : AB := .cells [(.val (.int .i64 4)), (.val (.int .u16 6)), (.val (.int .u16 9)), (.val (.int .u16 9)), (.val (.int .u16 6)), (.val (.int .u16 0)), (.val (.int .u16 0)), (.val (.int .u16 0)), (.val (.int .u16 0)), (.val (.int .u16 0))]
 109 false false
noncomputable def c26 : Code := partOf (bodyOf P 88) [1, 1, 1, 1, 0, 0, 1, 1, 1]
noncomputable def c27 : Code := partOf (bodyOf P 88) [1, 1, 1, 1, 0, 0]
noncomputable def c29 : Code := partOf (bodyOf P 93) [1, 1]
noncomputable def c31 : Code := partOf (bodyOf P 87) [1, 0]
noncomputable def f32 : AFrame := ⟨87, 5, (.node (.node (.node .nil (some (.func (.func 88) [(.ptr 345 0)] [])) .nil) none .nil) none (.node .nil (some (.val (.slice none 0 0))) .nil)), [.inRegion (opsOf c31) 1 (restOf c31 1), .code .ret], [], .run, .normal,
 none⟩
noncomputable def c33 : Code := partOf (bodyOf P 74) [1, 1, 1, 0, 1, 0, 0, 1, 1]
noncomputable def c34 : Code := partOf (bodyOf P 74) [1, 1, 1, 0, 1, 0, 0]
noncomputable def c35 : Code := partOf (bodyOf P 74) [1, 1, 1, 1]
noncomputable def c37 : Code := partOf (bodyOf P 60) [1, 1, 0, 0]
noncomputable def c38 : Code := partOf (bodyOf P 60) [1, 1, 0, 1]
noncomputable def c39 : Code := partOf (bodyOf P 60) [1, 1, 1]
noncomputable def f40 : AFrame := ⟨60, 22, (.node (.node .nil none (.node (.node .nil (some (.agg [(.val (.int .i8 0)), (.val (.int .i8 1)), (.val (.int .i8 2)), (.val (.int .i8 3)), (.val (.int .i8 4)), (.val (.int .i8 5)), (.val (.int .i8 6)), (.val (.int
 .i8 7)), (.val (.int .i8 8))])) .nil) (some (.val (.int .i64 0))) .nil)) none (.node (.node (.node .nil (some (.ptr 10 0)) .nil) (some (.val (.int .i64 0))) .nil) none .nil)), [.inRegion (opsOf c37) 2 (restOf c37 2), .code c38, .code c39],
 [], .run, .normal, none⟩
noncomputable def c41 : Code := partOf (bodyOf P 26) [1, 1, 1, 0]
noncomputable def f42 : AFrame := ⟨26, 28, (.node (.node (.node (.node .nil (some (.val (.int .i64 0))) (.node .nil (some (.ptr 10 0)) .nil)) none .nil) none .nil) none (.node .nil none (.node (.node .nil none (.node .nil (some (.agg [(.val (.int .i8 0)),
 (.val (.int .i8 1)), (.val (.int .i8 2)), (.val (.int .i8 3)), (.val (.int .i8 4)), (.val (.int .i8 5)), (.val (.int .i8 6)), (.val (.int .i8 7)), (.val (.int .i8 8))])) .nil)) (some (.val (.int .i64 0))) .nil))), [.inRegion (opsOf c41) 4 (restOf
 c41 4), .code .ret], [], .run, .normal, none⟩
noncomputable def c43 : Code := partOf (bodyOf P 93) [1, 0, 1, 0, 0]
noncomputable def c44 : Code := partOf (bodyOf P 93) [1, 0, 1, 0, 1]
noncomputable def b47 : AB := .cells [(.val (.int .i8 0)), (.val (.int .i8 1)), (.val (.int .i8 2)), (.val (.int .i8 3)), (.val (.int .i8 4)), (.val (.int .i8 5)), (.val (.int .i8 6)), (.val (.int .i8 7)), (.val (.int .i8 8))] 82 false false
noncomputable def b49 : AB := .cells [(.val (.int .i8 1)), (.val (.int .i8 0)), (.val (.int .i8 2)), (.val (.int .i8 3)), (.val (.int .i8 4)), (.val (.int .i8 5)), (.val (.int .i8 6)), (.val (.int .i8 7)), (.val (.int .i8 8)), (.val (.int .i8 2)), (.val (.int
 .i8 1)), (.val (.int .i8 0)), (.val (.int .i8 3)), (.val (.int .i8 4)), (.val (.int .i8 5)), (.val (.int .i8 6)), (.val (.int .i8 7)), (.val (.int .i8 8))] 82 true false
noncomputable def c57 : Code := partOf (bodyOf P 88) [1, 1, 1, 1, 0, 0, 1, 1, 0, 0, 1, 1, 0, 0]
noncomputable def c58 : Code := partOf (bodyOf P 88) [1, 1, 1, 1, 0, 0, 1, 1, 0, 0, 1, 1, 0, 1]
noncomputable def b66 : AB := .cells [(.val (.int .i8 1)), (.val (.int .i8 3)), (.val (.int .i8 2)), (.val (.int .i8 0)), (.val (.int .i8 4)), (.val (.int .i8 5)), (.val (.int .i8 6)), (.val (.int .i8 7)), (.val (.int .i8 8)), (.val (.int .i8 2)), (.val (.int
 .i8 1)), (.val (.int .i8 3)), (.val (.int .i8 0)), (.val (.int .i8 4)), (.val (.int .i8 5)), (.val (.int .i8 6)), (.val (.int .i8 7)), (.val (.int .i8 8))] 82 true false
noncomputable def b70 : AB := .cells [(.val (.slice none 0 0))] 76 false false
noncomputable def b76 : AB := .cells [(.val (.int .i8 1)), (.val (.int .i8 3)), (.val (.int .i8 0)), (.val (.int .i8 2)), (.val (.int .i8 4)), (.val (.int .i8 5)), (.val (.int .i8 6)), (.val (.int .i8 7)), (.val (.int .i8 8)), (.val (.int .i8 2)), (.val (.int
 .i8 0)), (.val (.int .i8 3)), (.val (.int .i8 1)), (.val (.int .i8 4)), (.val (.int .i8 5)), (.val (.int .i8 6)), (.val (.int .i8 7)), (.val (.int .i8 8))] 82 true false
noncomputable def b94 : AB := .cells [(.val (.int .i8 0)), (.val (.int .i8 3)), (.val (.int .i8 1)), (.val (.int .i8 2)), (.val (.int .i8 4)), (.val (.int .i8 5)), (.val (.int .i8 6)), (.val (.int .i8 7)), (.val (.int .i8 8)), (.val (.int .i8 0)), (.val (.int
 .i8 2)), (.val (.int .i8 3)), (.val (.int .i8 1)), (.val (.int .i8 4)), (.val (.int .i8 5)), (.val (.int .i8 6)), (.val (.int .i8 7)), (.val (.int .i8 8))] 82 true false
noncomputable def c100 : Code := partOf (bodyOf P 89) [1, 0, 1, 0, 0, 1, 1]
noncomputable def c101 : Code := partOf (bodyOf P 89) [1, 0, 1, 0, 0]
noncomputable def c102 : Code := partOf (bodyOf P 89) [1, 1]
noncomputable def f103 : AFrame := ⟨89, 19, (.node (.node (.node (.node .nil (some (.val (.int .i64 9))) .nil) none .nil) (some (.val (.int .i8 0))) (.node (.node .nil (some (.val (.bool true))) .nil) none .nil)) (some (.slice 1583 0 9 9)) (.node (.node (.node
 .nil (some (.val (.int .i64 0))) .nil) (some (.val (.int .i64 0))) .nil) none .nil)), [.code c100, .inLoop c101, .inBlock 0, .code c102], [], .run, .normal, none⟩
noncomputable def c104 : Code := partOf (bodyOf P 75) [1, 0]
noncomputable def f105 : AFrame := ⟨75, 5, (.node (.node (.node .nil (some (.slice 1583 0 9 9)) .nil) none .nil) none (.node .nil (some (.val (.int .i64 0))) .nil)), [.inRegion (opsOf c104) 1 (restOf c104 1), .code .ret], [], .run, .normal, none⟩
noncomputable def c106 : Code := partOf (bodyOf P 96) [1, 0]
noncomputable def c107 : Code := partOf (bodyOf P 96) [1, 1]
noncomputable def f108 : AFrame := ⟨96, 23, (.node (.node (.node .nil (some (.ptr 1582 0)) .nil) (some (.ptr 1579 0)) .nil) none (.node .nil (some (.ptr 1578 0)) (.node .nil (some (.agg [(.val (.int .i8 3)), (.val (.int .i8 2)), (.val (.int .i8 0)), (.val
 (.int .i8 1)), (.val (.int .i8 4)), (.val (.int .i8 5)), (.val (.int .i8 6)), (.val (.int .i8 7)), (.val (.int .i8 8))])) .nil))), [.inRegion (opsOf c106) 1 (restOf c106 1), .code c107], [], .run, .normal, none⟩
noncomputable def f109 : AFrame := ⟨88, 52, (.node (.node (.node (.node (.node .nil (some (.sliceE 1444 0 2 9)) .nil) none (.node .nil (some (.ptr 345 0)) .nil)) (some (.ptr 1454 0)) (.node (.node .nil (some (.ptr 1444 9)) (.node .nil (some (.val (.int .i64
 1))) .nil)) none .nil)) none (.node (.node (.node .nil (some (.val (.int .i64 1))) .nil) none (.node .nil (some (.agg [(.val (.int .i8 3)), (.val (.int .i8 2)), (.val (.int .i8 0)), (.val (.int .i8 1)), (.val (.int .i8 4)), (.val (.int .i8
 5)), (.val (.int .i8 6)), (.val (.int .i8 7)), (.val (.int .i8 8))])) .nil)) none (.node (.node .nil (some (.ptr 345 0)) .nil) none .nil))) none (.node (.node (.node (.node .nil (some (.val (.int .i64 2))) .nil) none (.node .nil (some (.ptr
 10 0)) .nil)) none (.node (.node .nil (some (.agg [(.val (.int .i8 3)), (.val (.int .i8 2)), (.val (.int .i8 0)), (.val (.int .i8 1)), (.val (.int .i8 4)), (.val (.int .i8 5)), (.val (.int .i8 6)), (.val (.int .i8 7)), (.val (.int .i8 8))]))
 .nil) none .nil)) (some (.ptr 1453 0)) (.node (.node (.node .nil (some (.val (.bool true))) .nil) none (.node .nil (some (.func (.func 96) [] [(.ptr 1579 0), (.ptr 1578 0)])) .nil)) (some (.ptr 1571 0)) (.node (.node .nil (some (.ptr 345 0))
 .nil) none .nil)))), [.inRangeFunc 1581, .inBlock 2, .inBlock 1, .code c26, .inLoop c27, .inBlock 0], [.collected 1580, .collected 1464], .run, .normal, none⟩
noncomputable def f110 : AFrame := ⟨93, 13, (.node .nil none (.node (.node .nil (some (.val (.slice none 0 0))) .nil) (some (.ptr 1450 0)) .nil)), [.inRangeFunc 1452, .inBlock 0, .code c29], [.collected 1451], .run, .normal, none⟩
noncomputable def f111 : AFrame := ⟨74, 26, (.node (.node (.node (.node (.node .nil (some (.sliceE 1447 0 2 9)) .nil) (some (.sliceE 1447 0 2 9)) (.node .nil (some (.slice 1448 0 1 1)) .nil)) none (.node (.node .nil (some (.func (.func 88) [(.ptr 345 0)] []))
 .nil) none .nil)) none (.node (.node (.node .nil (some (.val (.bool true))) .nil) none .nil) (some (.sliceE 1449 0 6 1)) (.node (.node .nil (some (.sliceE 1210 0 5 1)) .nil) none .nil))) none (.node (.node (.node (.node .nil (some (.val (.int
 .i64 2))) .nil) none (.node .nil (some (.sliceE 1449 0 6 1)) .nil)) (some (.val (.slice none 0 0))) (.node (.node .nil (some (.sliceE 1447 0 2 9)) .nil) none .nil)) none (.node (.node (.node .nil (some (.ptr 345 0)) .nil) none .nil) (some (.ptr
 345 0)) (.node (.node .nil (some (.sliceE 1447 0 2 9)) .nil) none .nil)))), [.inRegion (opsOf c33) 2 (restOf c33 2), .inLoop c34, .inBlock 0, .code c35], [], .run, .normal, none⟩
noncomputable def b112 : AB := .cells [(.val (.int .i8 3)), (.val (.int .i8 2)), (.val (.int .i8 1)), (.val (.int .i8 0)), (.val (.int .i8 4)), (.val (.int .i8 5)), (.val (.int .i8 6)), (.val (.int .i8 7)), (.val (.int .i8 8))] 82 true false
noncomputable def b113 : AB := .cells [(.val (.int .i8 3)), (.val (.int .i8 2)), (.val (.int .i8 0)), (.val (.int .i8 1)), (.val (.int .i8 4)), (.val (.int .i8 5)), (.val (.int .i8 6)), (.val (.int .i8 7)), (.val (.int .i8 8))] 82 false false
noncomputable def b114 : AB := .cells [(.val (.int .i8 3)), (.val (.int .i8 0)), (.val (.int .i8 1)), (.val (.int .i8 2)), (.val (.int .i8 4)), (.val (.int .i8 5)), (.val (.int .i8 6)), (.val (.int .i8 7)), (.val (.int .i8 8)), (.val (.int .i8 3)), (.val (.int
 .i8 2)), (.val (.int .i8 0)), (.val (.int .i8 1)), (.val (.int .i8 4)), (.val (.int .i8 5)), (.val (.int .i8 6)), (.val (.int .i8 7)), (.val (.int .i8 8))] 82 true false
noncomputable def b115 : AB := .map [((.agg [(.val (.int .i8 0)), (.val (.int .i8 1)), (.val (.int .i8 2)), (.val (.int .i8 3)), (.val (.int .i8 4)), (.val (.int .i8 5)), (.val (.int .i8 6)), (.val (.int .i8 7)), (.val (.int .i8 8))]), (.agg [(.val (.int .i8
 0)), (.val (.int .i8 1)), (.val (.int .i8 2)), (.val (.int .i8 3)), (.val (.int .i8 4)), (.val (.int .i8 5)), (.val (.int .i8 6)), (.val (.int .i8 7)), (.val (.int .i8 8))]), 0), ((.agg [(.val (.int .i8 1)), (.val (.int .i8 0)), (.val (.int
 .i8 2)), (.val (.int .i8 3)), (.val (.int .i8 4)), (.val (.int .i8 5)), (.val (.int .i8 6)), (.val (.int .i8 7)), (.val (.int .i8 8))]), (.agg [(.val (.int .i8 0)), (.val (.int .i8 1)), (.val (.int .i8 2)), (.val (.int .i8 3)), (.val (.int
 .i8 4)), (.val (.int .i8 5)), (.val (.int .i8 6)), (.val (.int .i8 7)), (.val (.int .i8 8))]), 1), ((.agg [(.val (.int .i8 2)), (.val (.int .i8 1)), (.val (.int .i8 0)), (.val (.int .i8 3)), (.val (.int .i8 4)), (.val (.int .i8 5)), (.val (.int
 .i8 6)), (.val (.int .i8 7)), (.val (.int .i8 8))]), (.agg [(.val (.int .i8 0)), (.val (.int .i8 1)), (.val (.int .i8 2)), (.val (.int .i8 3)), (.val (.int .i8 4)), (.val (.int .i8 5)), (.val (.int .i8 6)), (.val (.int .i8 7)), (.val (.int
 .i8 8))]), 2), ((.agg [(.val (.int .i8 1)), (.val (.int .i8 3)), (.val (.int .i8 2)), (.val (.int .i8 0)), (.val (.int .i8 4)), (.val (.int .i8 5)), (.val (.int .i8 6)), (.val (.int .i8 7)), (.val (.int .i8 8))]), (.agg [(.val (.int .i8 1)),
 (.val (.int .i8 0)), (.val (.int .i8 2)), (.val (.int .i8 3)), (.val (.int .i8 4)), (.val (.int .i8 5)), (.val (.int .i8 6)), (.val (.int .i8 7)), (.val (.int .i8 8))]), 3), ((.agg [(.val (.int .i8 2)), (.val (.int .i8 1)), (.val (.int .i8
 3)), (.val (.int .i8 0)), (.val (.int .i8 4)), (.val (.int .i8 5)), (.val (.int .i8 6)), (.val (.int .i8 7)), (.val (.int .i8 8))]), (.agg [(.val (.int .i8 2)), (.val (.int .i8 1)), (.val (.int .i8 0)), (.val (.int .i8 3)), (.val (.int .i8
 4)), (.val (.int .i8 5)), (.val (.int .i8 6)), (.val (.int .i8 7)), (.val (.int .i8 8))]), 4), ((.agg [(.val (.int .i8 1)), (.val (.int .i8 3)), (.val (.int .i8 0)), (.val (.int .i8 2)), (.val (.int .i8 4)), (.val (.int .i8 5)), (.val (.int
 .i8 6)), (.val (.int .i8 7)), (.val (.int .i8 8))]), (.agg [(.val (.int .i8 1)), (.val (.int .i8 3)), (.val (.int .i8 2)), (.val (.int .i8 0)), (.val (.int .i8 4)), (.val (.int .i8 5)), (.val (.int .i8 6)), (.val (.int .i8 7)), (.val (.int
 .i8 8))]), 5), ((.agg [(.val (.int .i8 2)), (.val (.int .i8 0)), (.val (.int .i8 3)), (.val (.int .i8 1)), (.val (.int .i8 4)), (.val (.int .i8 5)), (.val (.int .i8 6)), (.val (.int .i8 7)), (.val (.int .i8 8))]), (.agg [(.val (.int .i8 2)),
 (.val (.int .i8 1)), (.val (.int .i8 3)), (.val (.int .i8 0)), (.val (.int .i8 4)), (.val (.int .i8 5)), (.val (.int .i8 6)), (.val (.int .i8 7)), (.val (.int .i8 8))]), 6), ((.agg [(.val (.int .i8 0)), (.val (.int .i8 3)), (.val (.int .i8
 1)), (.val (.int .i8 2)), (.val (.int .i8 4)), (.val (.int .i8 5)), (.val (.int .i8 6)), (.val (.int .i8 7)), (.val (.int .i8 8))]), (.agg [(.val (.int .i8 1)), (.val (.int .i8 3)), (.val (.int .i8 0)), (.val (.int .i8 2)), (.val (.int .i8
 4)), (.val (.int .i8 5)), (.val (.int .i8 6)), (.val (.int .i8 7)), (.val (.int .i8 8))]), 7), ((.agg [(.val (.int .i8 0)), (.val (.int .i8 2)), (.val (.int .i8 3)), (.val (.int .i8 1)), (.val (.int .i8 4)), (.val (.int .i8 5)), (.val (.int
 .i8 6)), (.val (.int .i8 7)), (.val (.int .i8 8))]), (.agg [(.val (.int .i8 2)), (.val (.int .i8 0)), (.val (.int .i8 3)), (.val (.int .i8 1)), (.val (.int .i8 4)), (.val (.int .i8 5)), (.val (.int .i8 6)), (.val (.int .i8 7)), (.val (.int
 .i8 8))]), 8), ((.agg [(.val (.int .i8 3)), (.val (.int .i8 0)), (.val (.int .i8 1)), (.val (.int .i8 2)), (.val (.int .i8 4)), (.val (.int .i8 5)), (.val (.int .i8 6)), (.val (.int .i8 7)), (.val (.int .i8 8))]), (.agg [(.val (.int .i8 0)),
 (.val (.int .i8 3)), (.val (.int .i8 1)), (.val (.int .i8 2)), (.val (.int .i8 4)), (.val (.int .i8 5)), (.val (.int .i8 6)), (.val (.int .i8 7)), (.val (.int .i8 8))]), 9), ((.agg [(.val (.int .i8 3)), (.val (.int .i8 2)), (.val (.int .i8
 0)), (.val (.int .i8 1)), (.val (.int .i8 4)), (.val (.int .i8 5)), (.val (.int .i8 6)), (.val (.int .i8 7)), (.val (.int .i8 8))]), (.agg [(.val (.int .i8 0)), (.val (.int .i8 2)), (.val (.int .i8 3)), (.val (.int .i8 1)), (.val (.int .i8
 4)), (.val (.int .i8 5)), (.val (.int .i8 6)), (.val (.int .i8 7)), (.val (.int .i8 8))]), 10), ((.agg [(.val (.int .i8 3)), (.val (.int .i8 2)), (.val (.int .i8 1)), (.val (.int .i8 0)), (.val (.int .i8 4)), (.val (.int .i8 5)), (.val (.int
 .i8 6)), (.val (.int .i8 7)), (.val (.int .i8 8))]), (.agg [(.val (.int .i8 3)), (.val (.int .i8 0)), (.val (.int .i8 1)), (.val (.int .i8 2)), (.val (.int .i8 4)), (.val (.int .i8 5)), (.val (.int .i8 6)), (.val (.int .i8 7)), (.val (.int
 .i8 8))]), 11)] 12
noncomputable def b116 : AB := .cells [(.slice 343 0 1 1), (.sliceE 491 0 2 9), (.sliceE 730 0 2 9), (.sliceE 934 0 2 9), (.sliceE 1173 0 2 9), (.sliceE 1447 0 2 9)] 76 true false
noncomputable def b117 : AB := .cells [(.ptr 10 0), (.map 337), (.sliceE 1567 0 1 9)] 125 false false
noncomputable def b118 : AB := .loop .ready none 88 (.node (.node (.node (.node (.node .nil (some (.sliceE 1444 0 2 9)) .nil) none (.node .nil (some (.ptr 345 0)) .nil)) (some (.ptr 1454 0)) (.node (.node .nil (some (.ptr 1444 9)) (.node .nil (some (.val (.int
 .i64 1))) .nil)) (some (.sliceE 1444 0 2 9)) .nil)) (some (.yld 1452)) (.node (.node (.node .nil (some (.val (.int .i64 1))) .nil) (some (.ptr 345 0)) (.node .nil (some (.agg [(.val (.int .i8 3)), (.val (.int .i8 2)), (.val (.int .i8 0)), (.val
 (.int .i8 1)), (.val (.int .i8 4)), (.val (.int .i8 5)), (.val (.int .i8 6)), (.val (.int .i8 7)), (.val (.int .i8 8))])) .nil)) none (.node (.node .nil (some (.ptr 345 0)) .nil) (some (.ptr 345 0)) .nil))) (some (.ptr 345 0)) (.node (.node
 (.node (.node .nil (some (.val (.int .i64 2))) .nil) (some (.ptr 345 0)) (.node .nil (some (.ptr 10 0)) .nil)) (some (.sliceE 1444 0 2 9)) (.node (.node .nil (some (.agg [(.val (.int .i8 3)), (.val (.int .i8 2)), (.val (.int .i8 0)), (.val
 (.int .i8 1)), (.val (.int .i8 4)), (.val (.int .i8 5)), (.val (.int .i8 6)), (.val (.int .i8 7)), (.val (.int .i8 8))])) .nil) (some (.ptr 345 0)) .nil)) (some (.ptr 1453 0)) (.node (.node (.node .nil (some (.val (.bool true))) .nil) (some
 (.ptr 345 2)) (.node .nil (some (.func (.func 96) [] [(.ptr 1579 0), (.ptr 1578 0)])) .nil)) (some (.ptr 1571 0)) (.node (.node .nil (some (.ptr 345 0)) .nil) (some (.ptr 345 2)) .nil)))) 52 #[27] c57 c58 1580
noncomputable def b119 : AB := .cells [(.sliceE 1447 0 2 9)] 76 false false
noncomputable def b120 : AB := .loop .ready none 93 (.node (.node .nil (some (.func (.func 88) [(.ptr 345 0)] [])) .nil) (some (.val (.slice none 0 0))) (.node (.node .nil (some (.val (.slice none 0 0))) .nil) (some (.ptr 1450 0)) (.node .nil (some (.func
 (.func 88) [(.ptr 345 0)] [])) .nil))) 13 #[7] c43 c44 1451
noncomputable def b121 : AB := .cells [(.sliceE 1570 0 1 9)] 76 false false
noncomputable def m6 : M := ⟨f103, [f105, f108, f109, f110, f32, f111, f40, f42, f19], ⟨(.node (.node (.node (.node (.node (.node .nil none (.node (.node (.node (.node .nil none (.node .nil (some b112) .nil)) none .nil) none .nil) none .nil)) none (.node .nil none (.node
 (.node (.node (.node .nil none (.node .nil (some b113) .nil)) none .nil) none .nil) none .nil))) (some b20) (.node (.node .nil none (.node (.node .nil none (.node .nil none (.node (.node .nil (some b114) .nil) none .nil))) none .nil)) none
 (.node (.node .nil none (.node (.node .nil (some b47) .nil) none .nil)) none .nil))) none (.node (.node (.node .nil none (.node (.node (.node (.node .nil none (.node .nil (some b113) .nil)) none .nil) none .nil) none .nil)) none .nil) none
 (.node (.node .nil none (.node (.node (.node (.node .nil none (.node .nil (some b113) .nil)) none .nil) none (.node .nil none (.node (.node .nil (some (.deferred true)) .nil) none .nil))) none (.node .nil none (.node .nil (some b49) .nil))))
 none .nil))) none (.node (.node (.node .nil none (.node (.node .nil none (.node (.node .nil (some b115) .nil) none .nil)) none .nil)) none (.node (.node .nil none (.node (.node .nil none (.node .nil none (.node (.node .nil (some b116) .nil)
 none .nil))) none .nil)) none (.node (.node .nil none (.node (.node .nil (some b117) .nil) none .nil)) none .nil))) none (.node (.node .nil none (.node (.node (.node .nil none (.node (.node (.node .nil (some b94) .nil) none .nil) none .nil))
 none .nil) none .nil)) none (.node (.node .nil none (.node (.node (.node (.node .nil none (.node .nil (some b118) .nil)) none .nil) none (.node .nil none (.node (.node .nil (some (.cells [(.ptr 345 0)] 119 false false)) .nil) none .nil))) none
 .nil)) none .nil)))) none (.node (.node (.node .nil (some b22) (.node (.node .nil none (.node (.node .nil none (.node .nil none (.node (.node .nil (some b119) .nil) none .nil))) none .nil)) none (.node .nil none (.node (.node .nil none (.node
 .nil none (.node (.node .nil (some (.deferred true)) .nil) none .nil))) none .nil)))) none (.node (.node (.node .nil none (.node (.node .nil none (.node .nil none (.node (.node .nil (some b114) .nil) none .nil))) none .nil)) none .nil) none
 (.node (.node .nil none (.node (.node (.node (.node .nil none (.node .nil (some (.deferred true)) .nil)) none .nil) none (.node .nil none (.node (.node .nil (some b120) .nil) none .nil))) none .nil)) none .nil))) none (.node (.node (.node (.node
 .nil none (.node (.node (.node (.node .nil none (.node .nil (some b112) .nil)) none .nil) none .nil) none .nil)) none .nil) (some b23) (.node (.node .nil none (.node (.node (.node (.node .nil none (.node .nil (some (.cells [(.ptr 10 0)] 75
 false false)) .nil)) none .nil) none (.node .nil none (.node (.node .nil (some b121) .nil) none .nil))) none .nil)) none (.node (.node .nil none (.node .nil none (.node (.node .nil (some b66) .nil) none .nil))) none .nil))) none (.node (.node
 (.node .nil none (.node (.node .nil none (.node .nil none (.node .nil (some b76) .nil))) none .nil)) none .nil) none (.node (.node .nil none (.node (.node (.node (.node .nil none (.node .nil (some (.cells [(.yld 1581)] 133 false false)) .nil))
 none .nil) none (.node .nil none (.node (.node .nil (some (.cells [(.yld 1452)] 133 false false)) .nil) none .nil))) none .nil)) none .nil))))), 1584⟩⟩
theorem s6 : (iterA P 60000 2400 m0).map (pruneM [0, 1, 4, 7, 8, 9] [[2, 3], [1, 2, 3, 6], [2, 3, 6, 15, 16, 17, 18, 19, 20, 21, 22, 23, 24, 25, 26, 51], [2, 4], [2, 3], [4, 5, 6, 7, 15, 16, 17, 18, 19, 20, 21, 22, 23, 24], [4, 5, 8, 9], [6, 7,
 23, 26], [0, 1, 2, 3, 19, 20, 21]] [7, 8, 10, 337, 343, 345, 491, 730, 934, 1173, 1444, 1447, 1448, 1449, 1450, 1451, 1452, 1453, 1454, 1464, 1567, 1570, 1571, 1578, 1579, 1580, 1581, 1582, 1583]) = some m6 := by kernel_rfl
noncomputable def c132 : Code := partOf (bodyOf P 56) [1, 1, 0, 0]
noncomputable def c133 : Code := partOf (bodyOf P 56) [1, 1, 0, 1]
noncomputable def c134 : Code := partOf (bodyOf P 56) [1, 1, 1]
noncomputable def c136 : Code := partOf (bodyOf P 21) [1, 1, 1, 0]
noncomputable def f137 : AFrame := ⟨21, 21, (.node (.node (.node .nil none (.node (.node .nil (some (.ptr 1766 0)) .nil) none .nil)) none (.node .nil (some (.val (.int .i64 0))) .nil)) none (.node (.node .nil (some (.val (.int .i64 0))) .nil) none .nil)),
 [.inRegion (opsOf c136) 1 (restOf c136 1), .code .ret], [], .run, .normal, none⟩
noncomputable def c138 : Code := partOf (bodyOf P 22) [1, 1, 1, 0]
noncomputable def c139 : Code := partOf (bodyOf P 22) [1, 1, 1, 1]
noncomputable def f140 : AFrame := ⟨22, 101, (.node (.node (.node .nil (some (.val (.int .i64 0))) (.node .nil none (.node .nil (some (.sliceE 7 0 4 2)) .nil))) (some (.val (.int .i64 4))) (.node .nil (some (.val (.int .i64 0))) .nil)) (some (.val (.bool false)))
 (.node (.node .nil (some (.val (.int .i64 12))) .nil) none (.node (.node .nil none (.node .nil (some (.val (.int .i64 4))) .nil)) none .nil))), [.inRegion (opsOf c138) 2 (restOf c138 2), .code c139], [], .run, .normal, none⟩
noncomputable def f148 : AFrame := ⟨87, 5, (.node (.node (.node .nil (some (.func (.func 88) [(.ptr 2098 0)] [])) .nil) none .nil) none (.node .nil (some (.val (.slice none 0 0))) .nil)), [.inRegion (opsOf c31) 1 (restOf c31 1), .code .ret], [], .run, .normal,
 none⟩
noncomputable def f150 : AFrame := ⟨56, 30, (.node (.node (.node .nil (some (.val (.int .i64 0))) .nil) none (.node (.node .nil (some (.agg [(.val (.int .i8 0)), (.val (.int .i8 1)), (.val (.int .i8 2)), (.val (.int .i8 3)), (.val (.int .i8 4)), (.val (.int
 .i8 5)), (.val (.int .i8 6)), (.val (.int .i8 7)), (.val (.int .i8 8))])) .nil) none .nil)) none (.node (.node (.node .nil (some (.ptr 1766 0)) .nil) none .nil) (some (.val (.int .i64 0))) .nil)), [.inRegion (opsOf c132) 2 (restOf c132 2),
 .code c133, .code c134], [], .run, .normal, none⟩
noncomputable def c193 : Code := partOf (bodyOf P 88) [1]
noncomputable def f194 : AFrame := ⟨88, 52, (.node (.node (.node .nil (some (.ptr 3207 0)) .nil) none .nil) none (.node .nil (some (.ptr 3206 0)) .nil)), [.code c193], [], .run, .normal, none⟩
noncomputable def f195 : AFrame := ⟨93, 13, (.node .nil none (.node (.node .nil (some (.val (.slice none 0 0))) .nil) (some (.ptr 3203 0)) .nil)), [.inRangeFunc 3205, .inBlock 0, .code c29], [.collected 3204], .run, .normal, none⟩
noncomputable def f196 : AFrame := ⟨74, 26, (.node (.node (.node (.node (.node .nil (some (.sliceE 3200 0 2 9)) .nil) (some (.sliceE 3200 0 2 9)) (.node .nil (some (.slice 3201 0 1 1)) .nil)) none (.node (.node .nil (some (.func (.func 88) [(.ptr 2098 0)]
 [])) .nil) none .nil)) none (.node (.node (.node .nil (some (.val (.bool true))) .nil) none .nil) (some (.sliceE 3202 0 6 1)) (.node (.node .nil (some (.sliceE 2963 0 5 1)) .nil) none .nil))) none (.node (.node (.node (.node .nil (some (.val
 (.int .i64 2))) .nil) none (.node .nil (some (.sliceE 3202 0 6 1)) .nil)) (some (.val (.slice none 0 0))) (.node (.node .nil (some (.sliceE 3200 0 2 9)) .nil) none .nil)) none (.node (.node (.node .nil (some (.ptr 2098 0)) .nil) none .nil)
 (some (.ptr 2098 0)) (.node (.node .nil (some (.sliceE 3200 0 2 9)) .nil) none .nil)))), [.inRegion (opsOf c33) 2 (restOf c33 2), .inLoop c34, .inBlock 0, .code c35], [], .run, .normal, none⟩
noncomputable def b197 : AB := .cells [(.sliceE 3200 0 2 9)] 76 false false
noncomputable def b198 : AB := .loop .ready none 93 (.node (.node .nil (some (.func (.func 88) [(.ptr 2098 0)] [])) .nil) (some (.val (.slice none 0 0))) (.node (.node .nil (some (.val (.slice none 0 0))) .nil) (some (.ptr 3203 0)) (.node .nil (some (.func
 (.func 88) [(.ptr 2098 0)] [])) .nil))) 13 #[7] c43 c44 3204
noncomputable def b199 : AB := .cells [(.slice 2096 0 1 1), (.sliceE 2244 0 2 9), (.sliceE 2483 0 2 9), (.sliceE 2687 0 2 9), (.sliceE 2926 0 2 9), (.sliceE 3200 0 2 9)] 76 true false
noncomputable def b200 : AB := .cells [(.ptr 1766 0), (.map 2090), (.sliceE 3197 0 2 9)] 125 false false
noncomputable def b201 : AB := .map [((.agg [(.val (.int .i8 0)), (.val (.int .i8 1)), (.val (.int .i8 2)), (.val (.int .i8 3)), (.val (.int .i8 4)), (.val (.int .i8 5)), (.val (.int .i8 6)), (.val (.int .i8 7)), (.val (.int .i8 8))]), (.agg [(.val (.int .i8
 0)), (.val (.int .i8 1)), (.val (.int .i8 2)), (.val (.int .i8 3)), (.val (.int .i8 4)), (.val (.int .i8 5)), (.val (.int .i8 6)), (.val (.int .i8 7)), (.val (.int .i8 8))]), 0), ((.agg [(.val (.int .i8 1)), (.val (.int .i8 0)), (.val (.int
 .i8 2)), (.val (.int .i8 3)), (.val (.int .i8 4)), (.val (.int .i8 5)), (.val (.int .i8 6)), (.val (.int .i8 7)), (.val (.int .i8 8))]), (.agg [(.val (.int .i8 0)), (.val (.int .i8 1)), (.val (.int .i8 2)), (.val (.int .i8 3)), (.val (.int
 .i8 4)), (.val (.int .i8 5)), (.val (.int .i8 6)), (.val (.int .i8 7)), (.val (.int .i8 8))]), 1), ((.agg [(.val (.int .i8 2)), (.val (.int .i8 1)), (.val (.int .i8 0)), (.val (.int .i8 3)), (.val (.int .i8 4)), (.val (.int .i8 5)), (.val (.int
 .i8 6)), (.val (.int .i8 7)), (.val (.int .i8 8))]), (.agg [(.val (.int .i8 0)), (.val (.int .i8 1)), (.val (.int .i8 2)), (.val (.int .i8 3)), (.val (.int .i8 4)), (.val (.int .i8 5)), (.val (.int .i8 6)), (.val (.int .i8 7)), (.val (.int
 .i8 8))]), 2), ((.agg [(.val (.int .i8 1)), (.val (.int .i8 3)), (.val (.int .i8 2)), (.val (.int .i8 0)), (.val (.int .i8 4)), (.val (.int .i8 5)), (.val (.int .i8 6)), (.val (.int .i8 7)), (.val (.int .i8 8))]), (.agg [(.val (.int .i8 1)),
 (.val (.int .i8 0)), (.val (.int .i8 2)), (.val (.int .i8 3)), (.val (.int .i8 4)), (.val (.int .i8 5)), (.val (.int .i8 6)), (.val (.int .i8 7)), (.val (.int .i8 8))]), 3), ((.agg [(.val (.int .i8 2)), (.val (.int .i8 1)), (.val (.int .i8
 3)), (.val (.int .i8 0)), (.val (.int .i8 4)), (.val (.int .i8 5)), (.val (.int .i8 6)), (.val (.int .i8 7)), (.val (.int .i8 8))]), (.agg [(.val (.int .i8 2)), (.val (.int .i8 1)), (.val (.int .i8 0)), (.val (.int .i8 3)), (.val (.int .i8
 4)), (.val (.int .i8 5)), (.val (.int .i8 6)), (.val (.int .i8 7)), (.val (.int .i8 8))]), 4), ((.agg [(.val (.int .i8 1)), (.val (.int .i8 3)), (.val (.int .i8 0)), (.val (.int .i8 2)), (.val (.int .i8 4)), (.val (.int .i8 5)), (.val (.int
 .i8 6)), (.val (.int .i8 7)), (.val (.int .i8 8))]), (.agg [(.val (.int .i8 1)), (.val (.int .i8 3)), (.val (.int .i8 2)), (.val (.int .i8 0)), (.val (.int .i8 4)), (.val (.int .i8 5)), (.val (.int .i8 6)), (.val (.int .i8 7)), (.val (.int
 .i8 8))]), 5), ((.agg [(.val (.int .i8 2)), (.val (.int .i8 0)), (.val (.int .i8 3)), (.val (.int .i8 1)), (.val (.int .i8 4)), (.val (.int .i8 5)), (.val (.int .i8 6)), (.val (.int .i8 7)), (.val (.int .i8 8))]), (.agg [(.val (.int .i8 2)),
 (.val (.int .i8 1)), (.val (.int .i8 3)), (.val (.int .i8 0)), (.val (.int .i8 4)), (.val (.int .i8 5)), (.val (.int .i8 6)), (.val (.int .i8 7)), (.val (.int .i8 8))]), 6), ((.agg [(.val (.int .i8 0)), (.val (.int .i8 3)), (.val (.int .i8
 1)), (.val (.int .i8 2)), (.val (.int .i8 4)), (.val (.int .i8 5)), (.val (.int .i8 6)), (.val (.int .i8 7)), (.val (.int .i8 8))]), (.agg [(.val (.int .i8 1)), (.val (.int .i8 3)), (.val (.int .i8 0)), (.val (.int .i8 2)), (.val (.int .i8
 4)), (.val (.int .i8 5)), (.val (.int .i8 6)), (.val (.int .i8 7)), (.val (.int .i8 8))]), 7), ((.agg [(.val (.int .i8 0)), (.val (.int .i8 2)), (.val (.int .i8 3)), (.val (.int .i8 1)), (.val (.int .i8 4)), (.val (.int .i8 5)), (.val (.int
 .i8 6)), (.val (.int .i8 7)), (.val (.int .i8 8))]), (.agg [(.val (.int .i8 2)), (.val (.int .i8 0)), (.val (.int .i8 3)), (.val (.int .i8 1)), (.val (.int .i8 4)), (.val (.int .i8 5)), (.val (.int .i8 6)), (.val (.int .i8 7)), (.val (.int
 .i8 8))]), 8), ((.agg [(.val (.int .i8 3)), (.val (.int .i8 0)), (.val (.int .i8 1)), (.val (.int .i8 2)), (.val (.int .i8 4)), (.val (.int .i8 5)), (.val (.int .i8 6)), (.val (.int .i8 7)), (.val (.int .i8 8))]), (.agg [(.val (.int .i8 0)),
 (.val (.int .i8 3)), (.val (.int .i8 1)), (.val (.int .i8 2)), (.val (.int .i8 4)), (.val (.int .i8 5)), (.val (.int .i8 6)), (.val (.int .i8 7)), (.val (.int .i8 8))]), 9), ((.agg [(.val (.int .i8 3)), (.val (.int .i8 2)), (.val (.int .i8
 0)), (.val (.int .i8 1)), (.val (.int .i8 4)), (.val (.int .i8 5)), (.val (.int .i8 6)), (.val (.int .i8 7)), (.val (.int .i8 8))]), (.agg [(.val (.int .i8 0)), (.val (.int .i8 2)), (.val (.int .i8 3)), (.val (.int .i8 1)), (.val (.int .i8
 4)), (.val (.int .i8 5)), (.val (.int .i8 6)), (.val (.int .i8 7)), (.val (.int .i8 8))]), 10)] 11
noncomputable def m12 : M := ⟨f194, [f195, f148, f196, f150, f137, f140], ⟨(.node (.node (.node (.node (.node (.node (.node (.node .nil none (.node (.node .nil none (.node (.node .nil (some b76) .nil) none .nil)) none .nil)) none .nil) none .nil) none .nil) (some b20) (.node
 (.node (.node (.node .nil none (.node (.node (.node .nil none (.node .nil (some (.cells [(.yld 3205)] 133 false false)) .nil)) none .nil) none .nil)) none .nil) none .nil) none .nil)) none (.node (.node (.node (.node (.node .nil none (.node
 (.node (.node .nil none (.node .nil (some b70) .nil)) none .nil) none .nil)) none .nil) none .nil) none (.node .nil none (.node (.node .nil none (.node .nil none (.node (.node (.node .nil (some b66) .nil) none .nil) none .nil))) none .nil)))
 none .nil)) none (.node (.node (.node (.node (.node (.node .nil none (.node (.node (.node .nil none (.node .nil (some b197) .nil)) none .nil) none .nil)) none .nil) none .nil) none .nil) none .nil) none (.node (.node (.node (.node (.node .nil
 none (.node (.node (.node .nil none (.node .nil (some b198) .nil)) none .nil) none .nil)) none .nil) none .nil) none .nil) none (.node .nil none (.node .nil none (.node .nil none (.node (.node (.node (.node .nil none (.node .nil (some b114)
 .nil)) none .nil) none .nil) none .nil))))))) none (.node (.node (.node (.node (.node (.node (.node .nil none (.node (.node (.node .nil none (.node .nil (some b114) .nil)) none .nil) none .nil)) none .nil) none .nil) none (.node .nil none (.node
 (.node (.node (.node (.node (.node .nil (some b47) .nil) none .nil) none .nil) none .nil) none .nil) none .nil))) none .nil) none (.node (.node (.node (.node (.node .nil none (.node (.node (.node .nil none (.node .nil (some (.deferred true))
 .nil)) none .nil) none .nil)) none (.node .nil none (.node (.node (.node (.node .nil (some b49) .nil) none .nil) none .nil) none .nil))) none .nil) none .nil) none .nil)) none (.node (.node (.node (.node (.node (.node .nil none (.node (.node
 (.node .nil none (.node .nil (some b199) .nil)) none .nil) none .nil)) none .nil) none .nil) none (.node .nil none (.node (.node (.node (.node (.node (.node .nil (some b200) .nil) none .nil) none .nil) none .nil) none .nil) none .nil))) none
 (.node (.node .nil none (.node (.node (.node (.node (.node (.node .nil (some b201) .nil) none .nil) none .nil) none .nil) none .nil) none .nil)) none .nil)) none (.node (.node (.node (.node (.node .nil none (.node (.node (.node .nil none (.node
 .nil (some (.cells [(.ptr 2098 0)] 119 false false)) .nil)) none .nil) none .nil)) none .nil) none (.node .nil none (.node .nil none (.node (.node .nil none (.node .nil (some b23) .nil)) none .nil)))) none .nil) none (.node (.node .nil none
 (.node .nil none (.node (.node .nil none (.node .nil none (.node (.node .nil (some b94) .nil) none .nil))) none .nil))) none .nil))))), 3208⟩⟩
theorem s12 : (iterA P 60000 2400 m6).map (pruneM [2, 3] [[2, 4], [2, 3], [4, 5, 6, 7, 15, 16, 17, 18, 19, 20, 21, 22, 23, 24], [2, 3, 8, 9], [4, 5, 19], [0, 1, 3, 4, 5, 26, 27]] [7, 1766, 2090, 2096, 2098, 2244, 2483, 2687, 2926, 3197, 3200,
 3201, 3202, 3203, 3204, 3205, 3206, 3207]) = some m12 := by kernel_rfl
theorem e : (arun P 60000 m12).map (·.1) = some (.val (.bool true)) := by kernel_rfl
end Go.Ev.Aw
