/- awake's run, in pieces. -/
import Derived.Test.YtllhejjcmfiebaaDoorEvS
import Derived.KernelRfl
import Derived.Test.YtllhejjcmfiebaaDoorProg
set_option linter.unusedVariables false
set_option linter.unusedSimpArgs false
set_option linter.unnecessarySimpa false
open Go Go.Ev Go.Proofs
namespace Go.Ev.Aw
set_option maxRecDepth 1000000
noncomputable abbrev P : Program := Tryd.prog
noncomputable def c0 : Code := partOf (bodyOf P 22) []
noncomputable def f1 : AFrame := ⟨22, 101, .nil, [.code c0], [], .run, .normal, none⟩
noncomputable def m0 : M := ⟨f1, [], ⟨.nil, 0⟩⟩
theorem start : startA P 22 = some m0 := by kernel_rfl
noncomputable def c2 : Code := partOf (bodyOf P 51) [1, 1, 1, 0, 1, 0, 0, 1, 0, 1]
noncomputable def c3 : Code := partOf (bodyOf P 51) [1, 1, 1, 0, 1, 0, 0, 1, 1]
noncomputable def c4 : Code := partOf (bodyOf P 51) [1, 1, 1, 0, 1, 0, 0]
noncomputable def c5 : Code := partOf (bodyOf P 51) [1, 1, 1, 1]
noncomputable def f6 : AFrame := ⟨51, 34, (.node (.node (.node (.node (.node .nil (some (.val (.bool false))) .nil) (some (.val (.int .i64 3))) (.node .nil (some (.val (.bool false))) .nil)) none (.node (.node .nil (some (.val (.bool false))) .nil) none (.node
  .nil (some (.val (.int .u16 8))) .nil))) none (.node (.node (.node .nil (some (.val (.int .i64 3))) .nil) none (.node .nil (some (.val (.int .u16 7))) .nil)) (some (.val (.int .u16 15))) (.node (.node .nil (some (.val (.int .i64 3))) .nil)
  (some (.val (.int .i64 4))) (.node .nil (some (.val (.int .i64 4))) .nil)))) (some (.val (.int .i64 4))) (.node (.node (.node (.node .nil (some (.ptr 8 3)) .nil) none (.node .nil (some (.val (.bool false))) .nil)) (some (.val (.bool false)))
  (.node (.node .nil (some (.val (.bool false))) .nil) (some (.slice 8 0 4 4)) (.node .nil (some (.val (.int .u16 15))) .nil))) none (.node (.node (.node .nil (some (.val (.int .i64 3))) .nil) none (.node .nil (some (.val (.int .i64 3))) .nil))
  none (.node (.node .nil (some (.val (.int .i64 4))) .nil) (some (.val (.int .i64 4))) .nil)))), [.code c2, .code c3, .inLoop c4, .inBlock 0, .code c5], [], .run, .normal, none⟩
noncomputable def c7 : Code := partOf (bodyOf P 49) [1, 1, 1, 1, 0, 1, 0, 0, 1, 1, 0, 0, 1, 0, 0]
noncomputable def c8 : Code := partOf (bodyOf P 49) [1, 1, 1, 1, 0, 1, 0, 0, 1, 1, 0, 0, 1, 0, 1]
noncomputable def c9 : Code := partOf (bodyOf P 49) [1, 1, 1, 1, 0, 1, 0, 0, 1, 1, 0, 0, 1, 1]
noncomputable def c10 : Code := partOf (bodyOf P 49) [1, 1, 1, 1, 0, 1, 0, 0, 1, 1, 1]
noncomputable def c11 : Code := partOf (bodyOf P 49) [1, 1, 1, 1, 0, 1, 0, 0]
noncomputable def c12 : Code := partOf (bodyOf P 49) [1, 1, 1, 1, 1]
noncomputable def f13 : AFrame := ⟨49, 41, (.node (.node (.node (.node .nil (some (.val (.slice none 0 0))) (.node .nil (some (.slice 9 0 1 1)) .nil)) none (.node .nil (some (.val (.slice none 0 0))) (.node .nil (some (.ptr 9 0)) .nil))) none (.node (.node
  .nil (some (.ptr 10 0)) (.node .nil (some (.val (.int .i64 0))) .nil)) none (.node .nil (some (.slice 8 0 4 4)) (.node .nil (some (.val (.int .i64 4))) .nil)))) (some (.val (.int .i64 4))) (.node (.node (.node .nil (some (.val (.int .i64 0)))
  (.node .nil (some (.val (.int .i64 1))) .nil)) none (.node .nil none (.node .nil (some (.slice 8 0 4 4)) .nil))) none (.node (.node .nil none (.node .nil (some (.val (.bool true))) .nil)) (some (.val (.pointer none))) (.node .nil none (.node
  .nil (some (.slice 8 0 4 4)) .nil))))), [.inRegion (opsOf c7) 2 (restOf c7 2), .code c8, .code c9, .inBlock 1, .code c10, .inLoop c11, .inBlock 0, .code c12], [], .run, .normal, none⟩
noncomputable def c14 : Code := partOf (bodyOf P 26) [1, 0]
noncomputable def c15 : Code := partOf (bodyOf P 26) [1, 1]
noncomputable def f16 : AFrame := ⟨26, 28, (.node (.node (.node (.node (.node .nil (some (.slice 9 0 1 1)) .nil) (some (.val (.int .i64 0))) .nil) none .nil) none (.node .nil none (.node .nil (some (.sliceE 7 0 4 2)) .nil))) none (.node (.node .nil none (.node
  .nil (some (.val (.int .i64 4))) .nil)) none (.node .nil (some (.val (.int .i64 0))) .nil))), [.inRegion (opsOf c14) 4 (restOf c14 4), .code c15], [], .run, .normal, none⟩
noncomputable def c17 : Code := partOf (bodyOf P 22) [1, 1, 0]
noncomputable def c18 : Code := partOf (bodyOf P 22) [1, 1, 1]
noncomputable def f19 : AFrame := ⟨22, 101, (.node (.node (.node .nil (some (.val (.int .i64 0))) (.node (.node .nil (some (.val (.int .i64 4))) .nil) none .nil)) (some (.val (.int .i64 4))) (.node .nil none (.node (.node .nil (some (.slice 8 0 4 4)) .nil)
  none .nil))) (some (.val (.bool false))) (.node (.node .nil none (.node (.node .nil (some (.sliceE 7 0 4 2)) .nil) none .nil)) (some (.sliceE 7 0 4 2)) .nil)), [.inRegion (opsOf c17) 3 (restOf c17 3), .code c18], [], .run, .normal, none⟩
noncomputable def b20 : AB := .cells [(.val (.int .i64 0)), (.val (.int .i64 1)), (.val (.int .i64 0)), (.val (.int .i64 2)), (.val (.int .i64 1)), (.val (.int .i64 3)), (.val (.int .i64 2)), (.val (.int .i64 3))] 90 true false
noncomputable def b21 : AB := .cells [(.slice 8 0 4 4)] 23 false false
noncomputable def b22 : AB := .cells [(.val (.int .i64 0)), (.val (.int .i64 1)), (.val (.int .i64 2)), (.val (.int .i64 3))] 3 false false
noncomputable def b23 : AB := .cells [(.val (.int .i64 4)), (.val (.int .u16 6)), (.val (.int .u16 9)), (.val (.int .u16 9)), (.val (.int .u16 6)), (.val (.int .u16 0)), (.val (.int .u16 0)), (.val (.int .u16 0)), (.val (.int .u16 0)), (.val (.int .u16 0))]
  109 false false
noncomputable def m1 : M := ⟨f6, [f13, f16, f19], ⟨(.node (.node (.node (.node .nil (some b20) .nil) none .nil) none (.node (.node .nil (some b21) .nil) none .nil)) none (.node (.node (.node .nil (some b22) .nil) none .nil) none (.node (.node .nil (some b23) .nil) none
  .nil))), 329⟩⟩
theorem s1 : (iterA P 60000 400 m0).map (pruneM [0, 4, 5, 7, 12, 13, 14, 15, 16, 17, 18, 19, 20, 21, 22, 23, 24, 25, 26, 27, 28, 29] [[0, 6, 7, 8, 9, 11, 13, 23, 24, 25, 26, 27, 28, 29, 30], [6, 7, 12, 13, 15], [0, 1, 2, 3, 19, 20, 21]] [7, 8,
  9, 10]) = some m1 := by kernel_rfl
noncomputable def f24 : AFrame := ⟨84, 14, .nil, [], [], .returning, .normal, none⟩
noncomputable def f25 : AFrame := ⟨96, 23, .nil, [.inRangeFunc 377, .inBlock 0], [.collected 376], .run, .normal, none⟩
noncomputable def c26 : Code := partOf (bodyOf P 88) [1, 1, 1, 1, 0, 0, 1, 1, 1]
noncomputable def c27 : Code := partOf (bodyOf P 88) [1, 1, 1, 1, 0, 0]
noncomputable def f28 : AFrame := ⟨88, 52, (.node (.node (.node (.node (.node .nil (some (.slice 343 0 1 1)) .nil) none (.node .nil (some (.ptr 345 0)) .nil)) (some (.ptr 353 0)) (.node (.node .nil (some (.ptr 343 0)) .nil) none .nil)) none (.node (.node (.node
  .nil (some (.val (.int .i64 0))) .nil) none (.node .nil (some (.agg [(.val (.int .i8 0)), (.val (.int .i8 1)), (.val (.int .i8 2)), (.val (.int .i8 3)), (.val (.int .i8 4)), (.val (.int .i8 5)), (.val (.int .i8 6)), (.val (.int .i8 7)), (.val
  (.int .i8 8))])) .nil)) none (.node (.node .nil (some (.ptr 345 0)) .nil) none .nil))) none (.node (.node (.node (.node .nil (some (.val (.int .i64 1))) .nil) none (.node .nil (some (.ptr 10 0)) .nil)) none (.node (.node .nil (some (.agg [(.val
  (.int .i8 0)), (.val (.int .i8 1)), (.val (.int .i8 2)), (.val (.int .i8 3)), (.val (.int .i8 4)), (.val (.int .i8 5)), (.val (.int .i8 6)), (.val (.int .i8 7)), (.val (.int .i8 8))])) .nil) none .nil)) (some (.ptr 352 0)) (.node (.node (.node
  .nil (some (.val (.bool true))) .nil) none (.node .nil (some (.func (.func 96) [] [(.ptr 362 0), (.ptr 361 0)])) .nil)) (some (.ptr 354 0)) (.node (.node .nil (some (.ptr 345 0)) .nil) none .nil)))), [.inRangeFunc 364, .inBlock 2, .inBlock
  1, .code c26, .inLoop c27, .inBlock 0], [.collected 363], .run, .normal, none⟩
noncomputable def c29 : Code := partOf (bodyOf P 93) [1, 1]
noncomputable def f30 : AFrame := ⟨93, 13, (.node .nil none (.node (.node .nil (some (.val (.slice none 0 0))) .nil) (some (.ptr 349 0)) .nil)), [.inRangeFunc 351, .inBlock 0, .code c29], [.collected 350], .run, .normal, none⟩
noncomputable def c31 : Code := partOf (bodyOf P 87) [1, 0]
noncomputable def f32 : AFrame := ⟨87, 5, (.node (.node (.node .nil (some (.func (.func 88) [(.ptr 345 0)] [])) .nil) none .nil) none (.node .nil (some (.val (.slice none 0 0))) .nil)), [.inRegion (opsOf c31) 1 (restOf c31 1), .code .ret], [], .run, .normal,
  none⟩
noncomputable def c33 : Code := partOf (bodyOf P 74) [1, 1, 1, 0, 1, 0, 0, 1, 1]
noncomputable def c34 : Code := partOf (bodyOf P 74) [1, 1, 1, 0, 1, 0, 0]
noncomputable def c35 : Code := partOf (bodyOf P 74) [1, 1, 1, 1]
noncomputable def f36 : AFrame := ⟨74, 26, (.node (.node (.node (.node (.node .nil (some (.slice 343 0 1 1)) .nil) (some (.slice 343 0 1 1)) (.node .nil (some (.slice 347 0 1 1)) .nil)) none (.node (.node .nil (some (.func (.func 88) [(.ptr 345 0)] [])) .nil)
  none .nil)) none (.node (.node (.node .nil (some (.val (.bool true))) .nil) none .nil) (some (.sliceE 348 0 1 1)) (.node (.node .nil (some (.val (.slice none 0 0))) .nil) none .nil))) none (.node (.node (.node (.node .nil (some (.val (.int
  .i64 1))) .nil) none (.node .nil (some (.sliceE 348 0 1 1)) .nil)) (some (.val (.slice none 0 0))) .nil) none (.node (.node (.node .nil (some (.ptr 345 0)) .nil) none .nil) (some (.ptr 345 0)) (.node (.node .nil (some (.slice 343 0 1 1)) .nil)
  none .nil)))), [.inRegion (opsOf c33) 2 (restOf c33 2), .inLoop c34, .inBlock 0, .code c35], [], .run, .normal, none⟩
noncomputable def c37 : Code := partOf (bodyOf P 60) [1, 1, 0, 0]
noncomputable def c38 : Code := partOf (bodyOf P 60) [1, 1, 0, 1]
noncomputable def c39 : Code := partOf (bodyOf P 60) [1, 1, 1]
noncomputable def f40 : AFrame := ⟨60, 22, (.node (.node .nil none (.node (.node .nil (some (.agg [(.val (.int .i8 0)), (.val (.int .i8 1)), (.val (.int .i8 2)), (.val (.int .i8 3)), (.val (.int .i8 4)), (.val (.int .i8 5)), (.val (.int .i8 6)), (.val (.int
  .i8 7)), (.val (.int .i8 8))])) .nil) (some (.val (.int .i64 0))) .nil)) none (.node (.node (.node .nil (some (.ptr 10 0)) .nil) (some (.val (.int .i64 0))) .nil) none .nil)), [.inRegion (opsOf c37) 2 (restOf c37 2), .code c38, .code c39],
  [], .run, .normal, none⟩
noncomputable def c41 : Code := partOf (bodyOf P 26) [1, 1, 1, 0]
noncomputable def f42 : AFrame := ⟨26, 28, (.node (.node (.node (.node .nil (some (.val (.int .i64 0))) (.node .nil (some (.ptr 10 0)) .nil)) none .nil) none .nil) none (.node .nil none (.node (.node .nil none (.node .nil (some (.agg [(.val (.int .i8 0)),
  (.val (.int .i8 1)), (.val (.int .i8 2)), (.val (.int .i8 3)), (.val (.int .i8 4)), (.val (.int .i8 5)), (.val (.int .i8 6)), (.val (.int .i8 7)), (.val (.int .i8 8))])) .nil)) (some (.val (.int .i64 0))) .nil))), [.inRegion (opsOf c41) 4 (restOf
  c41 4), .code .ret], [], .run, .normal, none⟩
noncomputable def c43 : Code := partOf (bodyOf P 93) [1, 0, 1, 0, 0]
noncomputable def c44 : Code := partOf (bodyOf P 93) [1, 0, 1, 0, 1]
noncomputable def b45 : AB := .loop .ready none 93 (.node (.node .nil (some (.func (.func 88) [(.ptr 345 0)] [])) .nil) (some (.val (.slice none 0 0))) (.node (.node .nil (some (.val (.slice none 0 0))) .nil) (some (.ptr 349 0)) (.node .nil (some (.func (.func
  88) [(.ptr 345 0)] [])) .nil))) 13 #[7] c43 c44 350
noncomputable def b46 : AB := .cells [(.val (.int .i64 0))] 3 false false
noncomputable def b47 : AB := .cells [(.val (.int .i8 0)), (.val (.int .i8 1)), (.val (.int .i8 2)), (.val (.int .i8 3)), (.val (.int .i8 4)), (.val (.int .i8 5)), (.val (.int .i8 6)), (.val (.int .i8 7)), (.val (.int .i8 8))] 82 false false
noncomputable def b48 : AB := .cells [(.val (.int .u16 0))] 86 false false
noncomputable def b49 : AB := .cells [(.val (.int .i8 1)), (.val (.int .i8 0)), (.val (.int .i8 2)), (.val (.int .i8 3)), (.val (.int .i8 4)), (.val (.int .i8 5)), (.val (.int .i8 6)), (.val (.int .i8 7)), (.val (.int .i8 8)), (.val (.int .i8 2)), (.val (.int
  .i8 1)), (.val (.int .i8 0)), (.val (.int .i8 3)), (.val (.int .i8 4)), (.val (.int .i8 5)), (.val (.int .i8 6)), (.val (.int .i8 7)), (.val (.int .i8 8))] 82 true false
noncomputable def b50 : AB := .cells [(.slice 343 0 1 1)] 76 false false
noncomputable def b51 : AB := .map [((.agg [(.val (.int .i8 0)), (.val (.int .i8 1)), (.val (.int .i8 2)), (.val (.int .i8 3)), (.val (.int .i8 4)), (.val (.int .i8 5)), (.val (.int .i8 6)), (.val (.int .i8 7)), (.val (.int .i8 8))]), (.agg [(.val (.int .i8
  0)), (.val (.int .i8 1)), (.val (.int .i8 2)), (.val (.int .i8 3)), (.val (.int .i8 4)), (.val (.int .i8 5)), (.val (.int .i8 6)), (.val (.int .i8 7)), (.val (.int .i8 8))]), 0), ((.agg [(.val (.int .i8 1)), (.val (.int .i8 0)), (.val (.int
  .i8 2)), (.val (.int .i8 3)), (.val (.int .i8 4)), (.val (.int .i8 5)), (.val (.int .i8 6)), (.val (.int .i8 7)), (.val (.int .i8 8))]), (.agg [(.val (.int .i8 0)), (.val (.int .i8 1)), (.val (.int .i8 2)), (.val (.int .i8 3)), (.val (.int
  .i8 4)), (.val (.int .i8 5)), (.val (.int .i8 6)), (.val (.int .i8 7)), (.val (.int .i8 8))]), 1), ((.agg [(.val (.int .i8 2)), (.val (.int .i8 1)), (.val (.int .i8 0)), (.val (.int .i8 3)), (.val (.int .i8 4)), (.val (.int .i8 5)), (.val (.int
  .i8 6)), (.val (.int .i8 7)), (.val (.int .i8 8))]), (.agg [(.val (.int .i8 0)), (.val (.int .i8 1)), (.val (.int .i8 2)), (.val (.int .i8 3)), (.val (.int .i8 4)), (.val (.int .i8 5)), (.val (.int .i8 6)), (.val (.int .i8 7)), (.val (.int
  .i8 8))]), 2)] 3
noncomputable def b52 : AB := .cells [(.ptr 10 0), (.map 337), (.sliceE 488 0 2 9)] 125 false false
noncomputable def c53 : Code := partOf (bodyOf P 96) [1, 1, 1, 0, 0]
noncomputable def c54 : Code := partOf (bodyOf P 96) [1, 1, 1, 0, 1]
noncomputable def b55 : AB := .loop .ready none 96 (.node (.node (.node (.node .nil (some (.val (.int .i64 0))) .nil) (some (.ptr 365 0)) (.node .nil (some (.ptr 10 1)) .nil)) (some (.ptr 362 0)) (.node (.node .nil (some (.val (.int .i64 0))) .nil) none (.node
  .nil (some (.val (.int .u16 6))) .nil))) (some (.yld 364)) (.node (.node (.node .nil (some (.ptr 10 0)) .nil) (some (.ptr 367 0)) (.node .nil (some (.ptr 10 1)) .nil)) (some (.ptr 361 0)) (.node (.node .nil (some (.ptr 10 0)) .nil) (some (.agg
  [(.val (.int .i8 0)), (.val (.int .i8 1)), (.val (.int .i8 2)), (.val (.int .i8 3)), (.val (.int .i8 4)), (.val (.int .i8 5)), (.val (.int .i8 6)), (.val (.int .i8 7)), (.val (.int .i8 8))])) (.node .nil (some (.func (.func 84) [] [(.ptr 375
  0)])) .nil)))) 23 #[15] c53 c54 376
noncomputable def b56 : AB := .cells [(.sliceE 491 0 2 9)] 76 false false
noncomputable def c57 : Code := partOf (bodyOf P 88) [1, 1, 1, 1, 0, 0, 1, 1, 0, 0, 1, 1, 0, 0]
noncomputable def c58 : Code := partOf (bodyOf P 88) [1, 1, 1, 1, 0, 0, 1, 1, 0, 0, 1, 1, 0, 1]
noncomputable def b59 : AB := .loop .ready none 88 (.node (.node (.node (.node (.node .nil (some (.slice 343 0 1 1)) .nil) none (.node .nil (some (.ptr 345 0)) .nil)) (some (.ptr 353 0)) (.node (.node .nil (some (.ptr 343 0)) .nil) (some (.slice 343 0 1 1))
  .nil)) (some (.yld 351)) (.node (.node (.node .nil (some (.val (.int .i64 0))) .nil) (some (.ptr 345 0)) (.node .nil (some (.agg [(.val (.int .i8 0)), (.val (.int .i8 1)), (.val (.int .i8 2)), (.val (.int .i8 3)), (.val (.int .i8 4)), (.val
  (.int .i8 5)), (.val (.int .i8 6)), (.val (.int .i8 7)), (.val (.int .i8 8))])) .nil)) none (.node (.node .nil (some (.ptr 345 0)) .nil) (some (.ptr 345 0)) .nil))) (some (.ptr 345 0)) (.node (.node (.node (.node .nil (some (.val (.int .i64
  1))) .nil) (some (.ptr 345 0)) (.node .nil (some (.ptr 10 0)) .nil)) (some (.slice 343 0 1 1)) (.node (.node .nil (some (.agg [(.val (.int .i8 0)), (.val (.int .i8 1)), (.val (.int .i8 2)), (.val (.int .i8 3)), (.val (.int .i8 4)), (.val (.int
  .i8 5)), (.val (.int .i8 6)), (.val (.int .i8 7)), (.val (.int .i8 8))])) .nil) (some (.ptr 345 0)) .nil)) (some (.ptr 352 0)) (.node (.node (.node .nil (some (.val (.bool true))) .nil) (some (.ptr 345 2)) (.node .nil (some (.func (.func 96)
  [] [(.ptr 362 0), (.ptr 361 0)])) .nil)) (some (.ptr 354 0)) (.node (.node .nil (some (.ptr 345 0)) .nil) (some (.ptr 345 2)) .nil)))) 52 #[27] c57 c58 363
noncomputable def b60 : AB := .cells [(.slice 343 0 1 1)] 76 true false
noncomputable def m2 : M := ⟨f24, [f25, f28, f30, f32, f36, f40, f42, f19], ⟨(.node (.node (.node (.node (.node (.node .nil none (.node .nil none (.node (.node .nil (some b45) .nil) none .nil))) none (.node .nil none (.node .nil none (.node (.node .nil (some b46) .nil)
  none .nil)))) (some b20) (.node .nil none (.node (.node .nil none (.node (.node .nil (some b47) .nil) none .nil)) none (.node .nil none (.node (.node .nil (some b48) .nil) none .nil))))) none (.node .nil none (.node (.node .nil none (.node
  .nil none (.node (.node .nil (some (.deferred true)) .nil) none (.node .nil (some b49) .nil)))) none (.node (.node .nil none (.node (.node .nil (some b50) .nil) none .nil)) none .nil)))) none (.node (.node (.node (.node .nil none (.node .nil
  none (.node (.node .nil (some (.cells [(.yld 351)] 133 false false)) .nil) none .nil))) none (.node (.node .nil none (.node (.node .nil (some b51) .nil) none .nil)) none .nil)) none (.node (.node .nil none (.node .nil none (.node (.node .nil
  (some (.cells [(.ptr 10 0)] 75 false false)) .nil) none .nil))) none (.node (.node .nil none (.node (.node .nil (some b52) .nil) none .nil)) none (.node .nil none (.node (.node .nil (some b55) .nil) none .nil))))) none (.node .nil none (.node
  (.node .nil none (.node .nil none (.node (.node .nil (some (.cells [(.yld 364)] 133 false false)) .nil) none .nil))) none (.node (.node .nil none (.node (.node .nil (some b56) .nil) none .nil)) none .nil))))) none (.node (.node (.node (.node
  (.node .nil none (.node .nil none (.node (.node .nil (some (.cells [(.ptr 345 0)] 119 false false)) .nil) none .nil))) none .nil) (some b22) (.node (.node .nil none (.node .nil none (.node .nil none (.node .nil (some b49) .nil)))) none (.node
  .nil none (.node .nil none (.node (.node .nil (some (.deferred true)) .nil) none .nil))))) none (.node .nil none (.node (.node .nil none (.node .nil none (.node (.node .nil (some b59) .nil) none .nil))) none (.node (.node .nil none (.node (.node
  .nil (some b60) .nil) none .nil)) none .nil)))) none (.node (.node (.node (.node .nil none (.node .nil none (.node (.node .nil (some b47) .nil) none .nil))) none .nil) (some b23) (.node (.node .nil none (.node .nil none (.node (.node .nil (some
  b47) .nil) none .nil))) none .nil)) none (.node .nil none (.node .nil none (.node (.node .nil none (.node (.node .nil (some (.deferred true)) .nil) none .nil)) none .nil)))))), 492⟩⟩
theorem s2 : (iterA P 60000 400 m1).map (pruneM [] [[], [2, 3, 6, 15, 16, 17, 18, 19, 20, 21, 22, 23, 24, 25, 26], [2, 4], [2, 3], [4, 5, 6, 7, 15, 16, 17, 18, 19, 21, 22, 23, 24], [4, 5, 8, 9], [6, 7, 23, 26], [0, 1, 2, 3, 19, 20, 21]] [7, 8,
  10, 337, 343, 345, 347, 348, 349, 350, 351, 352, 353, 354, 361, 362, 363, 364, 365, 367, 375, 376, 377, 488, 491]) = some m2 := by kernel_rfl
noncomputable def c61 : Code := partOf (bodyOf P 88) [1, 1, 1]
noncomputable def f62 : AFrame := ⟨88, 52, (.node (.node (.node .nil (some (.ptr 737 0)) .nil) none .nil) none (.node (.node .nil (some (.sliceE 727 0 2 9)) .nil) (some (.ptr 736 0)) .nil)), [.code c61], [], .run, .normal, none⟩
noncomputable def f63 : AFrame := ⟨93, 13, (.node .nil none (.node (.node .nil (some (.val (.slice none 0 0))) .nil) (some (.ptr 733 0)) .nil)), [.inRangeFunc 735, .inBlock 0, .code c29], [.collected 734], .run, .normal, none⟩
noncomputable def f64 : AFrame := ⟨74, 26, (.node (.node (.node (.node (.node .nil (some (.sliceE 730 0 2 9)) .nil) (some (.sliceE 730 0 2 9)) (.node .nil (some (.slice 731 0 1 1)) .nil)) none (.node (.node .nil (some (.func (.func 88) [(.ptr 345 0)] []))
  .nil) none .nil)) none (.node (.node (.node .nil (some (.val (.bool true))) .nil) none .nil) (some (.sliceE 732 0 3 1)) (.node (.node .nil (some (.sliceE 493 0 2 1)) .nil) none .nil))) none (.node (.node (.node (.node .nil (some (.val (.int
  .i64 2))) .nil) none (.node .nil (some (.sliceE 732 0 3 1)) .nil)) (some (.val (.slice none 0 0))) (.node (.node .nil (some (.sliceE 730 0 2 9)) .nil) none .nil)) none (.node (.node (.node .nil (some (.ptr 345 0)) .nil) none .nil) (some (.ptr
  345 0)) (.node (.node .nil (some (.sliceE 730 0 2 9)) .nil) none .nil)))), [.inRegion (opsOf c33) 2 (restOf c33 2), .inLoop c34, .inBlock 0, .code c35], [], .run, .normal, none⟩
noncomputable def b65 : AB := .loop .ready none 93 (.node (.node .nil (some (.func (.func 88) [(.ptr 345 0)] [])) .nil) (some (.val (.slice none 0 0))) (.node (.node .nil (some (.val (.slice none 0 0))) .nil) (some (.ptr 733 0)) (.node .nil (some (.func (.func
  88) [(.ptr 345 0)] [])) .nil))) 13 #[7] c43 c44 734
noncomputable def b66 : AB := .cells [(.val (.int .i8 1)), (.val (.int .i8 3)), (.val (.int .i8 2)), (.val (.int .i8 0)), (.val (.int .i8 4)), (.val (.int .i8 5)), (.val (.int .i8 6)), (.val (.int .i8 7)), (.val (.int .i8 8)), (.val (.int .i8 2)), (.val (.int
  .i8 1)), (.val (.int .i8 3)), (.val (.int .i8 0)), (.val (.int .i8 4)), (.val (.int .i8 5)), (.val (.int .i8 6)), (.val (.int .i8 7)), (.val (.int .i8 8))] 82 true false
noncomputable def b67 : AB := .cells [(.sliceE 730 0 2 9)] 76 false false
noncomputable def b68 : AB := .map [((.agg [(.val (.int .i8 0)), (.val (.int .i8 1)), (.val (.int .i8 2)), (.val (.int .i8 3)), (.val (.int .i8 4)), (.val (.int .i8 5)), (.val (.int .i8 6)), (.val (.int .i8 7)), (.val (.int .i8 8))]), (.agg [(.val (.int .i8
  0)), (.val (.int .i8 1)), (.val (.int .i8 2)), (.val (.int .i8 3)), (.val (.int .i8 4)), (.val (.int .i8 5)), (.val (.int .i8 6)), (.val (.int .i8 7)), (.val (.int .i8 8))]), 0), ((.agg [(.val (.int .i8 1)), (.val (.int .i8 0)), (.val (.int
  .i8 2)), (.val (.int .i8 3)), (.val (.int .i8 4)), (.val (.int .i8 5)), (.val (.int .i8 6)), (.val (.int .i8 7)), (.val (.int .i8 8))]), (.agg [(.val (.int .i8 0)), (.val (.int .i8 1)), (.val (.int .i8 2)), (.val (.int .i8 3)), (.val (.int
  .i8 4)), (.val (.int .i8 5)), (.val (.int .i8 6)), (.val (.int .i8 7)), (.val (.int .i8 8))]), 1), ((.agg [(.val (.int .i8 2)), (.val (.int .i8 1)), (.val (.int .i8 0)), (.val (.int .i8 3)), (.val (.int .i8 4)), (.val (.int .i8 5)), (.val (.int
  .i8 6)), (.val (.int .i8 7)), (.val (.int .i8 8))]), (.agg [(.val (.int .i8 0)), (.val (.int .i8 1)), (.val (.int .i8 2)), (.val (.int .i8 3)), (.val (.int .i8 4)), (.val (.int .i8 5)), (.val (.int .i8 6)), (.val (.int .i8 7)), (.val (.int
  .i8 8))]), 2), ((.agg [(.val (.int .i8 1)), (.val (.int .i8 3)), (.val (.int .i8 2)), (.val (.int .i8 0)), (.val (.int .i8 4)), (.val (.int .i8 5)), (.val (.int .i8 6)), (.val (.int .i8 7)), (.val (.int .i8 8))]), (.agg [(.val (.int .i8 1)),
  (.val (.int .i8 0)), (.val (.int .i8 2)), (.val (.int .i8 3)), (.val (.int .i8 4)), (.val (.int .i8 5)), (.val (.int .i8 6)), (.val (.int .i8 7)), (.val (.int .i8 8))]), 3), ((.agg [(.val (.int .i8 2)), (.val (.int .i8 1)), (.val (.int .i8
  3)), (.val (.int .i8 0)), (.val (.int .i8 4)), (.val (.int .i8 5)), (.val (.int .i8 6)), (.val (.int .i8 7)), (.val (.int .i8 8))]), (.agg [(.val (.int .i8 2)), (.val (.int .i8 1)), (.val (.int .i8 0)), (.val (.int .i8 3)), (.val (.int .i8
  4)), (.val (.int .i8 5)), (.val (.int .i8 6)), (.val (.int .i8 7)), (.val (.int .i8 8))]), 4)] 5
noncomputable def b69 : AB := .cells [(.ptr 10 0), (.map 337), (.val (.slice none 0 0))] 125 false false
noncomputable def b70 : AB := .cells [(.val (.slice none 0 0))] 76 false false
noncomputable def b71 : AB := .cells [(.slice 343 0 1 1), (.sliceE 491 0 2 9), (.sliceE 730 0 2 9)] 76 true false
noncomputable def m3 : M := ⟨f62, [f63, f32, f64, f40, f42, f19], ⟨(.node (.node (.node (.node (.node (.node .nil none (.node .nil none (.node .nil none (.node (.node .nil (some b65) .nil) none .nil)))) none .nil) (some b20) (.node .nil none (.node (.node .nil none (.node
  (.node .nil (some b47) .nil) none (.node (.node .nil (some b66) .nil) none .nil))) none .nil))) none (.node .nil none (.node (.node .nil none (.node .nil none (.node .nil none (.node .nil (some b49) .nil)))) none (.node (.node .nil none (.node
  .nil none (.node (.node .nil (some b67) .nil) none .nil))) none .nil)))) none (.node (.node (.node (.node .nil none (.node .nil none (.node .nil none (.node (.node .nil (some (.cells [(.yld 735)] 133 false false)) .nil) none .nil)))) none (.node
  (.node .nil none (.node (.node .nil (some b68) .nil) none .nil)) none .nil)) none (.node .nil none (.node (.node .nil none (.node (.node .nil (some b69) .nil) none .nil)) none .nil))) none (.node .nil none (.node .nil none (.node (.node .nil
  none (.node .nil none (.node (.node .nil (some b70) .nil) none .nil))) none .nil))))) none (.node (.node (.node (.node (.node .nil none (.node .nil none (.node .nil none (.node (.node .nil (some (.cells [(.ptr 345 0)] 119 false false)) .nil)
  none .nil)))) none .nil) (some b22) .nil) none (.node .nil none (.node .nil none (.node (.node .nil none (.node .nil none (.node (.node .nil (some b71) .nil) none .nil))) none .nil)))) none (.node (.node .nil (some b23) (.node .nil none (.node
  (.node .nil none (.node .nil none (.node (.node .nil (some b66) .nil) none .nil))) none .nil))) none (.node .nil none (.node .nil none (.node (.node .nil none (.node .nil none (.node (.node .nil (some (.deferred true)) .nil) none .nil))) none
  .nil)))))), 738⟩⟩
theorem s3 : (iterA P 60000 400 m2).map (pruneM [2, 3, 4] [[2, 4], [2, 3], [4, 5, 6, 7, 15, 16, 17, 18, 19, 20, 21, 22, 23, 24], [4, 5, 8, 9], [6, 7, 23, 26], [0, 1, 2, 3, 19, 20, 21]] [7, 8, 10, 337, 343, 345, 491, 727, 730, 731, 732, 733, 734,
  735, 736, 737]) = some m3 := by kernel_rfl
noncomputable def c72 : Code := partOf (bodyOf P 88) [1, 1, 1, 1, 0, 0, 1, 1, 0]
noncomputable def f73 : AFrame := ⟨88, 52, (.node (.node (.node (.node (.node .nil (some (.sliceE 931 0 2 9)) .nil) none .nil) (some (.ptr 976 0)) .nil) none (.node (.node (.node .nil (some (.val (.int .i64 0))) .nil) none .nil) none .nil)) none (.node (.node
  (.node (.node .nil (some (.val (.int .i64 2))) .nil) none .nil) none .nil) (some (.ptr 975 0)) (.node (.node (.node .nil (some (.val (.bool true))) .nil) none .nil) none .nil))), [.code c72, .code c26, .inLoop c27, .inBlock 0], [], .run, .normal,
  none⟩
noncomputable def f74 : AFrame := ⟨93, 13, (.node .nil none (.node (.node .nil (some (.val (.slice none 0 0))) .nil) (some (.ptr 972 0)) .nil)), [.inRangeFunc 974, .inBlock 0, .code c29], [.collected 973], .run, .normal, none⟩
noncomputable def f75 : AFrame := ⟨74, 26, (.node (.node (.node (.node (.node .nil (some (.sliceE 934 0 2 9)) .nil) (some (.sliceE 934 0 2 9)) (.node .nil (some (.slice 970 0 1 1)) .nil)) none (.node (.node .nil (some (.func (.func 88) [(.ptr 345 0)] []))
  .nil) none .nil)) none (.node (.node (.node .nil (some (.val (.bool true))) .nil) none .nil) (some (.sliceE 971 0 4 1)) (.node (.node .nil (some (.sliceE 732 0 3 1)) .nil) none .nil))) none (.node (.node (.node (.node .nil (some (.val (.int
  .i64 2))) .nil) none (.node .nil (some (.sliceE 971 0 4 1)) .nil)) (some (.val (.slice none 0 0))) (.node (.node .nil (some (.sliceE 934 0 2 9)) .nil) none .nil)) none (.node (.node (.node .nil (some (.ptr 345 0)) .nil) none .nil) (some (.ptr
  345 0)) (.node (.node .nil (some (.sliceE 934 0 2 9)) .nil) none .nil)))), [.inRegion (opsOf c33) 2 (restOf c33 2), .inLoop c34, .inBlock 0, .code c35], [], .run, .normal, none⟩
noncomputable def b76 : AB := .cells [(.val (.int .i8 1)), (.val (.int .i8 3)), (.val (.int .i8 0)), (.val (.int .i8 2)), (.val (.int .i8 4)), (.val (.int .i8 5)), (.val (.int .i8 6)), (.val (.int .i8 7)), (.val (.int .i8 8)), (.val (.int .i8 2)), (.val (.int
  .i8 0)), (.val (.int .i8 3)), (.val (.int .i8 1)), (.val (.int .i8 4)), (.val (.int .i8 5)), (.val (.int .i8 6)), (.val (.int .i8 7)), (.val (.int .i8 8))] 82 true false
noncomputable def b77 : AB := .cells [(.slice 343 0 1 1), (.sliceE 491 0 2 9), (.sliceE 730 0 2 9), (.sliceE 934 0 2 9)] 76 true false
noncomputable def b78 : AB := .map [((.agg [(.val (.int .i8 0)), (.val (.int .i8 1)), (.val (.int .i8 2)), (.val (.int .i8 3)), (.val (.int .i8 4)), (.val (.int .i8 5)), (.val (.int .i8 6)), (.val (.int .i8 7)), (.val (.int .i8 8))]), (.agg [(.val (.int .i8
  0)), (.val (.int .i8 1)), (.val (.int .i8 2)), (.val (.int .i8 3)), (.val (.int .i8 4)), (.val (.int .i8 5)), (.val (.int .i8 6)), (.val (.int .i8 7)), (.val (.int .i8 8))]), 0), ((.agg [(.val (.int .i8 1)), (.val (.int .i8 0)), (.val (.int
  .i8 2)), (.val (.int .i8 3)), (.val (.int .i8 4)), (.val (.int .i8 5)), (.val (.int .i8 6)), (.val (.int .i8 7)), (.val (.int .i8 8))]), (.agg [(.val (.int .i8 0)), (.val (.int .i8 1)), (.val (.int .i8 2)), (.val (.int .i8 3)), (.val (.int
  .i8 4)), (.val (.int .i8 5)), (.val (.int .i8 6)), (.val (.int .i8 7)), (.val (.int .i8 8))]), 1), ((.agg [(.val (.int .i8 2)), (.val (.int .i8 1)), (.val (.int .i8 0)), (.val (.int .i8 3)), (.val (.int .i8 4)), (.val (.int .i8 5)), (.val (.int
  .i8 6)), (.val (.int .i8 7)), (.val (.int .i8 8))]), (.agg [(.val (.int .i8 0)), (.val (.int .i8 1)), (.val (.int .i8 2)), (.val (.int .i8 3)), (.val (.int .i8 4)), (.val (.int .i8 5)), (.val (.int .i8 6)), (.val (.int .i8 7)), (.val (.int
  .i8 8))]), 2), ((.agg [(.val (.int .i8 1)), (.val (.int .i8 3)), (.val (.int .i8 2)), (.val (.int .i8 0)), (.val (.int .i8 4)), (.val (.int .i8 5)), (.val (.int .i8 6)), (.val (.int .i8 7)), (.val (.int .i8 8))]), (.agg [(.val (.int .i8 1)),
  (.val (.int .i8 0)), (.val (.int .i8 2)), (.val (.int .i8 3)), (.val (.int .i8 4)), (.val (.int .i8 5)), (.val (.int .i8 6)), (.val (.int .i8 7)), (.val (.int .i8 8))]), 3), ((.agg [(.val (.int .i8 2)), (.val (.int .i8 1)), (.val (.int .i8
  3)), (.val (.int .i8 0)), (.val (.int .i8 4)), (.val (.int .i8 5)), (.val (.int .i8 6)), (.val (.int .i8 7)), (.val (.int .i8 8))]), (.agg [(.val (.int .i8 2)), (.val (.int .i8 1)), (.val (.int .i8 0)), (.val (.int .i8 3)), (.val (.int .i8
  4)), (.val (.int .i8 5)), (.val (.int .i8 6)), (.val (.int .i8 7)), (.val (.int .i8 8))]), 4), ((.agg [(.val (.int .i8 1)), (.val (.int .i8 3)), (.val (.int .i8 0)), (.val (.int .i8 2)), (.val (.int .i8 4)), (.val (.int .i8 5)), (.val (.int
  .i8 6)), (.val (.int .i8 7)), (.val (.int .i8 8))]), (.agg [(.val (.int .i8 1)), (.val (.int .i8 3)), (.val (.int .i8 2)), (.val (.int .i8 0)), (.val (.int .i8 4)), (.val (.int .i8 5)), (.val (.int .i8 6)), (.val (.int .i8 7)), (.val (.int
  .i8 8))]), 5), ((.agg [(.val (.int .i8 2)), (.val (.int .i8 0)), (.val (.int .i8 3)), (.val (.int .i8 1)), (.val (.int .i8 4)), (.val (.int .i8 5)), (.val (.int .i8 6)), (.val (.int .i8 7)), (.val (.int .i8 8))]), (.agg [(.val (.int .i8 2)),
  (.val (.int .i8 1)), (.val (.int .i8 3)), (.val (.int .i8 0)), (.val (.int .i8 4)), (.val (.int .i8 5)), (.val (.int .i8 6)), (.val (.int .i8 7)), (.val (.int .i8 8))]), 6)] 7
noncomputable def b79 : AB := .cells [(.sliceE 934 0 2 9)] 76 false false
noncomputable def b80 : AB := .loop .ready none 93 (.node (.node .nil (some (.func (.func 88) [(.ptr 345 0)] [])) .nil) (some (.val (.slice none 0 0))) (.node (.node .nil (some (.val (.slice none 0 0))) .nil) (some (.ptr 972 0)) (.node .nil (some (.func (.func
  88) [(.ptr 345 0)] [])) .nil))) 13 #[7] c43 c44 973
noncomputable def m4 : M := ⟨f73, [f74, f32, f75, f40, f42, f19], ⟨(.node (.node (.node (.node (.node .nil none (.node (.node .nil none (.node .nil none (.node .nil none (.node .nil (some (.cells [(.ptr 345 0)] 119 false false)) .nil)))) none .nil)) (some b20) (.node .nil
  none (.node (.node .nil none (.node (.node .nil (some b47) .nil) none .nil)) none .nil))) none (.node (.node (.node .nil none (.node (.node .nil none (.node .nil none (.node .nil (some b76) .nil))) none .nil)) none .nil) none (.node (.node
  (.node .nil none (.node .nil none (.node .nil none (.node .nil (some b77) .nil)))) none (.node .nil none (.node .nil none (.node .nil (some b49) .nil)))) none .nil))) none (.node (.node (.node .nil none (.node (.node .nil none (.node (.node
  .nil (some b78) .nil) none .nil)) none .nil)) none (.node .nil none (.node (.node .nil none (.node (.node .nil (some b69) .nil) none .nil)) none .nil))) none (.node .nil none (.node (.node (.node .nil none (.node .nil none (.node .nil none
  (.node .nil (some (.deferred true)) .nil)))) none .nil) none .nil)))) none (.node (.node (.node (.node .nil none (.node (.node .nil none (.node .nil none (.node .nil none (.node .nil (some (.cells [(.yld 974)] 133 false false)) .nil)))) none
  .nil)) (some b22) .nil) none (.node .nil none (.node (.node (.node .nil none (.node .nil none (.node .nil none (.node .nil (some b70) .nil)))) none .nil) none .nil))) none (.node (.node .nil (some b23) (.node (.node (.node .nil none (.node
  .nil none (.node .nil none (.node .nil (some b79) .nil)))) none .nil) none (.node (.node .nil none (.node .nil none (.node (.node .nil (some b66) .nil) none .nil))) none .nil))) none (.node (.node (.node .nil none (.node (.node .nil none (.node
  .nil none (.node .nil (some b76) .nil))) none .nil)) none .nil) none (.node (.node (.node .nil none (.node .nil none (.node .nil none (.node .nil (some b80) .nil)))) none .nil) none .nil))))), 977⟩⟩
theorem s4 : (iterA P 60000 400 m3).map (pruneM [2, 3, 15, 16, 17, 18] [[2, 4], [2, 3], [4, 5, 6, 7, 15, 16, 17, 18, 19, 20, 21, 22, 23, 24], [4, 5, 8, 9], [6, 7, 23, 26], [0, 1, 2, 3, 19, 20, 21]] [7, 8, 10, 337, 343, 345, 491, 730, 931, 934,
  970, 971, 972, 973, 974, 975, 976]) = some m4 := by kernel_rfl
noncomputable def f81 : AFrame := ⟨96, 23, (.node (.node (.node (.node (.node .nil (some (.val (.int .i64 1))) .nil) none .nil) (some (.ptr 1227 0)) .nil) (some (.ptr 1224 0)) .nil) none (.node (.node .nil (some (.ptr 1229 0)) .nil) none .nil)), [.code c53,
  .beginRound, .code c54], [], .run, .normal, (some 1239)⟩
noncomputable def c82 : Code := partOf (bodyOf P 84) [0, 0, 1, 0, 0, 0]
noncomputable def c83 : Code := partOf (bodyOf P 84) [0, 0, 1, 0, 0, 1]
noncomputable def c84 : Code := partOf (bodyOf P 84) [0, 0, 1, 1]
noncomputable def c85 : Code := partOf (bodyOf P 84) [0, 0]
noncomputable def f86 : AFrame := ⟨84, 14, (.node (.node (.node .nil (some (.val (.int .u16 6))) (.node .nil (some (.val (.int .i64 1))) .nil)) (some (.ptr 1237 0)) (.node (.node .nil (some (.yld 1239)) .nil) none .nil)) (some (.yld 1239)) (.node (.node .nil
  (some (.val (.bool true))) .nil) none (.node (.node .nil (some (.val (.int .u16 6))) .nil) none .nil))), [.inRegion (opsOf c82) 3 (restOf c82 3), .code c83, .inBlock 1, .code c84, .inLoop c85, .inBlock 0], [], .run, .normal, none⟩
noncomputable def f87 : AFrame := ⟨96, 23, .nil, [.inRangeFunc 1239, .inBlock 0], [.collected 1238], .run, .normal, none⟩
noncomputable def f88 : AFrame := ⟨88, 52, (.node (.node (.node (.node (.node .nil (some (.sliceE 1170 0 2 9)) .nil) none (.node .nil (some (.ptr 345 0)) .nil)) (some (.ptr 1215 0)) (.node (.node .nil (some (.ptr 1170 0)) .nil) none .nil)) none (.node (.node
  (.node .nil (some (.val (.int .i64 0))) .nil) none (.node .nil (some (.agg [(.val (.int .i8 0)), (.val (.int .i8 3)), (.val (.int .i8 1)), (.val (.int .i8 2)), (.val (.int .i8 4)), (.val (.int .i8 5)), (.val (.int .i8 6)), (.val (.int .i8 7)),
  (.val (.int .i8 8))])) .nil)) none (.node (.node .nil (some (.ptr 345 0)) .nil) none .nil))) none (.node (.node (.node (.node .nil (some (.val (.int .i64 2))) .nil) none (.node .nil (some (.ptr 10 0)) .nil)) none (.node (.node .nil (some (.agg
  [(.val (.int .i8 0)), (.val (.int .i8 3)), (.val (.int .i8 1)), (.val (.int .i8 2)), (.val (.int .i8 4)), (.val (.int .i8 5)), (.val (.int .i8 6)), (.val (.int .i8 7)), (.val (.int .i8 8))])) .nil) none .nil)) (some (.ptr 1214 0)) (.node (.node
  (.node .nil (some (.val (.bool true))) .nil) none (.node .nil (some (.func (.func 96) [] [(.ptr 1224 0), (.ptr 1223 0)])) .nil)) (some (.ptr 1216 0)) (.node (.node .nil (some (.ptr 345 0)) .nil) none .nil)))), [.inRangeFunc 1226, .inBlock 2,
  .inBlock 1, .code c26, .inLoop c27, .inBlock 0], [.collected 1225], .run, .normal, none⟩
noncomputable def f89 : AFrame := ⟨93, 13, (.node .nil none (.node (.node .nil (some (.val (.slice none 0 0))) .nil) (some (.ptr 1211 0)) .nil)), [.inRangeFunc 1213, .inBlock 0, .code c29], [.collected 1212], .run, .normal, none⟩
noncomputable def f90 : AFrame := ⟨74, 26, (.node (.node (.node (.node (.node .nil (some (.sliceE 1173 0 2 9)) .nil) (some (.sliceE 1173 0 2 9)) (.node .nil (some (.slice 1209 0 1 1)) .nil)) none (.node (.node .nil (some (.func (.func 88) [(.ptr 345 0)] []))
  .nil) none .nil)) none (.node (.node (.node .nil (some (.val (.bool true))) .nil) none .nil) (some (.sliceE 1210 0 5 1)) (.node (.node .nil (some (.sliceE 971 0 4 1)) .nil) none .nil))) none (.node (.node (.node (.node .nil (some (.val (.int
  .i64 2))) .nil) none (.node .nil (some (.sliceE 1210 0 5 1)) .nil)) (some (.val (.slice none 0 0))) (.node (.node .nil (some (.sliceE 1173 0 2 9)) .nil) none .nil)) none (.node (.node (.node .nil (some (.ptr 345 0)) .nil) none .nil) (some (.ptr
  345 0)) (.node (.node .nil (some (.sliceE 1173 0 2 9)) .nil) none .nil)))), [.inRegion (opsOf c33) 2 (restOf c33 2), .inLoop c34, .inBlock 0, .code c35], [], .run, .normal, none⟩
noncomputable def b91 : AB := .loop .ready none 96 (.node (.node (.node (.node .nil (some (.val (.int .i64 0))) .nil) (some (.ptr 1227 0)) (.node .nil (some (.ptr 10 1)) .nil)) (some (.ptr 1224 0)) (.node (.node .nil (some (.val (.int .i64 0))) .nil) none
  (.node .nil (some (.val (.int .u16 6))) .nil))) (some (.yld 1226)) (.node (.node (.node .nil (some (.ptr 10 0)) .nil) (some (.ptr 1229 0)) (.node .nil (some (.ptr 10 1)) .nil)) (some (.ptr 1223 0)) (.node (.node .nil (some (.ptr 10 0)) .nil)
  (some (.agg [(.val (.int .i8 0)), (.val (.int .i8 3)), (.val (.int .i8 1)), (.val (.int .i8 2)), (.val (.int .i8 4)), (.val (.int .i8 5)), (.val (.int .i8 6)), (.val (.int .i8 7)), (.val (.int .i8 8))])) (.node .nil (some (.func (.func 84)
  [] [(.ptr 1237 0)])) .nil)))) 23 #[15] c53 c54 1238
noncomputable def b92 : AB := .map [((.agg [(.val (.int .i8 0)), (.val (.int .i8 1)), (.val (.int .i8 2)), (.val (.int .i8 3)), (.val (.int .i8 4)), (.val (.int .i8 5)), (.val (.int .i8 6)), (.val (.int .i8 7)), (.val (.int .i8 8))]), (.agg [(.val (.int .i8
  0)), (.val (.int .i8 1)), (.val (.int .i8 2)), (.val (.int .i8 3)), (.val (.int .i8 4)), (.val (.int .i8 5)), (.val (.int .i8 6)), (.val (.int .i8 7)), (.val (.int .i8 8))]), 0), ((.agg [(.val (.int .i8 1)), (.val (.int .i8 0)), (.val (.int
  .i8 2)), (.val (.int .i8 3)), (.val (.int .i8 4)), (.val (.int .i8 5)), (.val (.int .i8 6)), (.val (.int .i8 7)), (.val (.int .i8 8))]), (.agg [(.val (.int .i8 0)), (.val (.int .i8 1)), (.val (.int .i8 2)), (.val (.int .i8 3)), (.val (.int
  .i8 4)), (.val (.int .i8 5)), (.val (.int .i8 6)), (.val (.int .i8 7)), (.val (.int .i8 8))]), 1), ((.agg [(.val (.int .i8 2)), (.val (.int .i8 1)), (.val (.int .i8 0)), (.val (.int .i8 3)), (.val (.int .i8 4)), (.val (.int .i8 5)), (.val (.int
  .i8 6)), (.val (.int .i8 7)), (.val (.int .i8 8))]), (.agg [(.val (.int .i8 0)), (.val (.int .i8 1)), (.val (.int .i8 2)), (.val (.int .i8 3)), (.val (.int .i8 4)), (.val (.int .i8 5)), (.val (.int .i8 6)), (.val (.int .i8 7)), (.val (.int
  .i8 8))]), 2), ((.agg [(.val (.int .i8 1)), (.val (.int .i8 3)), (.val (.int .i8 2)), (.val (.int .i8 0)), (.val (.int .i8 4)), (.val (.int .i8 5)), (.val (.int .i8 6)), (.val (.int .i8 7)), (.val (.int .i8 8))]), (.agg [(.val (.int .i8 1)),
  (.val (.int .i8 0)), (.val (.int .i8 2)), (.val (.int .i8 3)), (.val (.int .i8 4)), (.val (.int .i8 5)), (.val (.int .i8 6)), (.val (.int .i8 7)), (.val (.int .i8 8))]), 3), ((.agg [(.val (.int .i8 2)), (.val (.int .i8 1)), (.val (.int .i8
  3)), (.val (.int .i8 0)), (.val (.int .i8 4)), (.val (.int .i8 5)), (.val (.int .i8 6)), (.val (.int .i8 7)), (.val (.int .i8 8))]), (.agg [(.val (.int .i8 2)), (.val (.int .i8 1)), (.val (.int .i8 0)), (.val (.int .i8 3)), (.val (.int .i8
  4)), (.val (.int .i8 5)), (.val (.int .i8 6)), (.val (.int .i8 7)), (.val (.int .i8 8))]), 4), ((.agg [(.val (.int .i8 1)), (.val (.int .i8 3)), (.val (.int .i8 0)), (.val (.int .i8 2)), (.val (.int .i8 4)), (.val (.int .i8 5)), (.val (.int
  .i8 6)), (.val (.int .i8 7)), (.val (.int .i8 8))]), (.agg [(.val (.int .i8 1)), (.val (.int .i8 3)), (.val (.int .i8 2)), (.val (.int .i8 0)), (.val (.int .i8 4)), (.val (.int .i8 5)), (.val (.int .i8 6)), (.val (.int .i8 7)), (.val (.int
  .i8 8))]), 5), ((.agg [(.val (.int .i8 2)), (.val (.int .i8 0)), (.val (.int .i8 3)), (.val (.int .i8 1)), (.val (.int .i8 4)), (.val (.int .i8 5)), (.val (.int .i8 6)), (.val (.int .i8 7)), (.val (.int .i8 8))]), (.agg [(.val (.int .i8 2)),
  (.val (.int .i8 1)), (.val (.int .i8 3)), (.val (.int .i8 0)), (.val (.int .i8 4)), (.val (.int .i8 5)), (.val (.int .i8 6)), (.val (.int .i8 7)), (.val (.int .i8 8))]), 6), ((.agg [(.val (.int .i8 0)), (.val (.int .i8 3)), (.val (.int .i8
  1)), (.val (.int .i8 2)), (.val (.int .i8 4)), (.val (.int .i8 5)), (.val (.int .i8 6)), (.val (.int .i8 7)), (.val (.int .i8 8))]), (.agg [(.val (.int .i8 1)), (.val (.int .i8 3)), (.val (.int .i8 0)), (.val (.int .i8 2)), (.val (.int .i8
  4)), (.val (.int .i8 5)), (.val (.int .i8 6)), (.val (.int .i8 7)), (.val (.int .i8 8))]), 7), ((.agg [(.val (.int .i8 0)), (.val (.int .i8 2)), (.val (.int .i8 3)), (.val (.int .i8 1)), (.val (.int .i8 4)), (.val (.int .i8 5)), (.val (.int
  .i8 6)), (.val (.int .i8 7)), (.val (.int .i8 8))]), (.agg [(.val (.int .i8 2)), (.val (.int .i8 0)), (.val (.int .i8 3)), (.val (.int .i8 1)), (.val (.int .i8 4)), (.val (.int .i8 5)), (.val (.int .i8 6)), (.val (.int .i8 7)), (.val (.int
  .i8 8))]), 8)] 9
noncomputable def b93 : AB := .cells [(.sliceE 1173 0 2 9)] 76 false false
noncomputable def b94 : AB := .cells [(.val (.int .i8 0)), (.val (.int .i8 3)), (.val (.int .i8 1)), (.val (.int .i8 2)), (.val (.int .i8 4)), (.val (.int .i8 5)), (.val (.int .i8 6)), (.val (.int .i8 7)), (.val (.int .i8 8)), (.val (.int .i8 0)), (.val (.int
  .i8 2)), (.val (.int .i8 3)), (.val (.int .i8 1)), (.val (.int .i8 4)), (.val (.int .i8 5)), (.val (.int .i8 6)), (.val (.int .i8 7)), (.val (.int .i8 8))] 82 true false
noncomputable def b95 : AB := .cells [(.val (.int .u16 6))] 86 false false
noncomputable def b96 : AB := .loop .ready none 93 (.node (.node .nil (some (.func (.func 88) [(.ptr 345 0)] [])) .nil) (some (.val (.slice none 0 0))) (.node (.node .nil (some (.val (.slice none 0 0))) .nil) (some (.ptr 1211 0)) (.node .nil (some (.func (.func
  88) [(.ptr 345 0)] [])) .nil))) 13 #[7] c43 c44 1212
noncomputable def b97 : AB := .cells [(.val (.int .i8 0)), (.val (.int .i8 3)), (.val (.int .i8 1)), (.val (.int .i8 2)), (.val (.int .i8 4)), (.val (.int .i8 5)), (.val (.int .i8 6)), (.val (.int .i8 7)), (.val (.int .i8 8))] 82 false false
noncomputable def b98 : AB := .loop .ready none 88 (.node (.node (.node (.node (.node .nil (some (.sliceE 1170 0 2 9)) .nil) none (.node .nil (some (.ptr 345 0)) .nil)) (some (.ptr 1215 0)) (.node (.node .nil (some (.ptr 1170 0)) .nil) (some (.sliceE 1170
  0 2 9)) .nil)) (some (.yld 1213)) (.node (.node (.node .nil (some (.val (.int .i64 0))) .nil) (some (.ptr 345 0)) (.node .nil (some (.agg [(.val (.int .i8 0)), (.val (.int .i8 3)), (.val (.int .i8 1)), (.val (.int .i8 2)), (.val (.int .i8 4)),
  (.val (.int .i8 5)), (.val (.int .i8 6)), (.val (.int .i8 7)), (.val (.int .i8 8))])) .nil)) none (.node (.node .nil (some (.ptr 345 0)) .nil) (some (.ptr 345 0)) .nil))) (some (.ptr 345 0)) (.node (.node (.node (.node .nil (some (.val (.int
  .i64 2))) .nil) (some (.ptr 345 0)) (.node .nil (some (.ptr 10 0)) .nil)) (some (.sliceE 1170 0 2 9)) (.node (.node .nil (some (.agg [(.val (.int .i8 0)), (.val (.int .i8 3)), (.val (.int .i8 1)), (.val (.int .i8 2)), (.val (.int .i8 4)), (.val
  (.int .i8 5)), (.val (.int .i8 6)), (.val (.int .i8 7)), (.val (.int .i8 8))])) .nil) (some (.ptr 345 0)) .nil)) (some (.ptr 1214 0)) (.node (.node (.node .nil (some (.val (.bool true))) .nil) (some (.ptr 345 2)) (.node .nil (some (.func (.func
  96) [] [(.ptr 1224 0), (.ptr 1223 0)])) .nil)) (some (.ptr 1216 0)) (.node (.node .nil (some (.ptr 345 0)) .nil) (some (.ptr 345 2)) .nil)))) 52 #[27] c57 c58 1225
noncomputable def b99 : AB := .cells [(.slice 343 0 1 1), (.sliceE 491 0 2 9), (.sliceE 730 0 2 9), (.sliceE 934 0 2 9), (.sliceE 1173 0 2 9)] 76 true false
noncomputable def m5 : M := ⟨f81, [f86, f87, f88, f89, f32, f90, f40, f42, f19], ⟨(.node (.node (.node (.node (.node (.node (.node .nil none (.node .nil none (.node (.node (.node .nil (some (.cells [(.yld 1213)] 133 false false)) .nil) none .nil) none .nil))) none .nil)
  none .nil) (some b20) (.node (.node (.node .nil none (.node .nil none (.node (.node (.node .nil (some (.cells [(.ptr 10 0)] 75 false false)) .nil) none .nil) none .nil))) none .nil) none (.node (.node .nil none (.node (.node .nil (some b47)
  .nil) none (.node (.node (.node .nil (some b91) .nil) none .nil) none .nil))) none .nil))) none (.node .nil none (.node (.node (.node .nil none (.node .nil none (.node (.node (.node .nil (some (.cells [(.yld 1226)] 133 false false)) .nil) none
  .nil) none .nil))) none (.node .nil none (.node .nil none (.node .nil (some b49) .nil)))) none (.node .nil none (.node (.node .nil none (.node (.node (.node .nil (some b70) .nil) none .nil) none .nil)) none .nil))))) none (.node (.node (.node
  .nil none (.node (.node .nil none (.node (.node .nil (some b92) .nil) none .nil)) none .nil)) none (.node (.node (.node .nil none (.node .nil none (.node (.node (.node .nil (some (.deferred true)) .nil) none .nil) none .nil))) none .nil) none
  (.node (.node .nil none (.node (.node .nil (some b69) .nil) none .nil)) none (.node (.node .nil none (.node (.node (.node .nil (some b93) .nil) none .nil) none .nil)) none .nil)))) none (.node (.node .nil none (.node (.node (.node .nil none
  (.node (.node (.node .nil (some b94) .nil) none .nil) none .nil)) none (.node .nil none (.node (.node (.node .nil (some b95) .nil) none .nil) none .nil))) none .nil)) none (.node (.node (.node .nil none (.node .nil none (.node (.node (.node
  .nil (some b46) .nil) none .nil) none .nil))) none .nil) none (.node .nil none (.node (.node .nil none (.node (.node (.node .nil (some b96) .nil) none .nil) none .nil)) none .nil)))))) none (.node (.node (.node (.node (.node (.node .nil none
  (.node .nil none (.node (.node (.node .nil (some b97) .nil) none .nil) none .nil))) none .nil) none .nil) (some b22) (.node (.node (.node .nil none (.node .nil none (.node (.node (.node .nil (some b97) .nil) none .nil) none .nil))) none .nil)
  none .nil)) none (.node .nil none (.node .nil none (.node .nil none (.node (.node .nil none (.node (.node (.node .nil (some (.deferred true)) .nil) none .nil) none .nil)) none .nil))))) none (.node (.node (.node .nil none (.node (.node (.node
  .nil none (.node (.node (.node .nil (some b94) .nil) none .nil) none .nil)) none .nil) none .nil)) (some b23) (.node (.node (.node .nil none (.node .nil none (.node (.node (.node .nil (some b98) .nil) none .nil) none .nil))) none .nil) none
  (.node (.node .nil none (.node .nil none (.node (.node .nil (some b66) .nil) none .nil))) none (.node (.node .nil none (.node (.node (.node .nil (some b99) .nil) none .nil) none .nil)) none .nil)))) none (.node (.node (.node .nil none (.node
  (.node .nil none (.node .nil none (.node .nil (some b76) .nil))) none .nil)) none (.node (.node .nil none (.node .nil none (.node (.node (.node .nil (some (.deferred true)) .nil) none .nil) none .nil))) none .nil)) none (.node .nil none (.node
  .nil none (.node (.node .nil none (.node (.node (.node .nil (some (.cells [(.ptr 345 0)] 119 false false)) .nil) none .nil) none .nil)) none .nil))))))), 1240⟩⟩
theorem s5 : (iterA P 60000 400 m4).map (pruneM [1, 3, 4, 15] [[0, 1, 3, 4, 9, 10, 11], [], [2, 3, 6, 15, 16, 17, 18, 19, 20, 21, 22, 23, 24, 25, 26], [2, 4], [2, 3], [4, 5, 6, 7, 15, 16, 17, 18, 19, 20, 21, 22, 23, 24], [4, 5, 8, 9], [6, 7,
  23, 26], [0, 1, 2, 3, 19, 20, 21]] [7, 8, 10, 337, 343, 345, 491, 730, 934, 1170, 1173, 1209, 1210, 1211, 1212, 1213, 1214, 1215, 1216, 1223, 1224, 1225, 1226, 1227, 1229, 1237, 1238, 1239]) = some m5 := by kernel_rfl
noncomputable def c100 : Code := partOf (bodyOf P 89) [1, 0, 1, 0, 0, 1, 1]
noncomputable def c101 : Code := partOf (bodyOf P 89) [1, 0, 1, 0, 0]
noncomputable def c102 : Code := partOf (bodyOf P 89) [1, 1]
noncomputable def f103 : AFrame := ⟨89, 19, (.node (.node (.node (.node .nil (some (.val (.int .i64 9))) .nil) none .nil) (some (.val (.int .i8 0))) (.node (.node .nil (some (.val (.bool true))) .nil) none .nil)) (some (.slice 1583 0 9 9)) (.node (.node (.node
  .nil (some (.val (.int .i64 0))) .nil) (some (.val (.int .i64 0))) .nil) none .nil)), [.code c100, .inLoop c101, .inBlock 0, .code c102], [], .run, .normal, none⟩
noncomputable def c104 : Code := partOf (bodyOf P 75) [1, 0]
noncomputable def f105 : AFrame := ⟨75, 5, (.node (.node (.node .nil (some (.slice 1583 0 9 9)) .nil) none .nil) none (.node .nil (some (.val (.int .i64 0))) .nil)), [.inRegion (opsOf c104) 1 (restOf c104 1), .code .ret], [], .run, .normal, none⟩
noncomputable def c106 : Code := partOf (bodyOf P 96) [1, 0]
noncomputable def c107 : Code := partOf (bodyOf P 96) [1, 1]
noncomputable def f108 : AFrame := ⟨96, 23, (.node (.node (.node .nil (some (.ptr 1582 0)) .nil) (some (.ptr 1579 0)) .nil) none (.node .nil (some (.ptr 1578 0)) (.node .nil (some (.agg [(.val (.int .i8 3)), (.val (.int .i8 2)), (.val (.int .i8 0)), (.val
  (.int .i8 1)), (.val (.int .i8 4)), (.val (.int .i8 5)), (.val (.int .i8 6)), (.val (.int .i8 7)), (.val (.int .i8 8))])) .nil))), [.inRegion (opsOf c106) 1 (restOf c106 1), .code c107], [], .run, .normal, none⟩
noncomputable def f109 : AFrame := ⟨88, 52, (.node (.node (.node (.node (.node .nil (some (.sliceE 1444 0 2 9)) .nil) none (.node .nil (some (.ptr 345 0)) .nil)) (some (.ptr 1454 0)) (.node (.node .nil (some (.ptr 1444 9)) (.node .nil (some (.val (.int .i64
  1))) .nil)) none .nil)) none (.node (.node (.node .nil (some (.val (.int .i64 1))) .nil) none (.node .nil (some (.agg [(.val (.int .i8 3)), (.val (.int .i8 2)), (.val (.int .i8 0)), (.val (.int .i8 1)), (.val (.int .i8 4)), (.val (.int .i8
  5)), (.val (.int .i8 6)), (.val (.int .i8 7)), (.val (.int .i8 8))])) .nil)) none (.node (.node .nil (some (.ptr 345 0)) .nil) none .nil))) none (.node (.node (.node (.node .nil (some (.val (.int .i64 2))) .nil) none (.node .nil (some (.ptr
  10 0)) .nil)) none (.node (.node .nil (some (.agg [(.val (.int .i8 3)), (.val (.int .i8 2)), (.val (.int .i8 0)), (.val (.int .i8 1)), (.val (.int .i8 4)), (.val (.int .i8 5)), (.val (.int .i8 6)), (.val (.int .i8 7)), (.val (.int .i8 8))]))
  .nil) none .nil)) (some (.ptr 1453 0)) (.node (.node (.node .nil (some (.val (.bool true))) .nil) none (.node .nil (some (.func (.func 96) [] [(.ptr 1579 0), (.ptr 1578 0)])) .nil)) (some (.ptr 1571 0)) (.node (.node .nil (some (.ptr 345 0))
  .nil) none .nil)))), [.inRangeFunc 1581, .inBlock 2, .inBlock 1, .code c26, .inLoop c27, .inBlock 0], [.collected 1580, .collected 1464], .run, .normal, none⟩
noncomputable def f110 : AFrame := ⟨93, 13, (.node .nil none (.node (.node .nil (some (.val (.slice none 0 0))) .nil) (some (.ptr 1450 0)) .nil)), [.inRangeFunc 1452, .inBlock 0, .code c29], [.collected 1451], .run, .normal, none⟩
noncomputable def f111 : AFrame := ⟨74, 26, (.node (.node (.node (.node (.node .nil (some (.sliceE 1447 0 2 9)) .nil) (some (.sliceE 1447 0 2 9)) (.node .nil (some (.slice 1448 0 1 1)) .nil)) none (.node (.node .nil (some (.func (.func 88) [(.ptr 345 0)] []))
  .nil) none .nil)) none (.node (.node (.node .nil (some (.val (.bool true))) .nil) none .nil) (some (.sliceE 1449 0 6 1)) (.node (.node .nil (some (.sliceE 1210 0 5 1)) .nil) none .nil))) none (.node (.node (.node (.node .nil (some (.val (.int
  .i64 2))) .nil) none (.node .nil (some (.sliceE 1449 0 6 1)) .nil)) (some (.val (.slice none 0 0))) (.node (.node .nil (some (.sliceE 1447 0 2 9)) .nil) none .nil)) none (.node (.node (.node .nil (some (.ptr 345 0)) .nil) none .nil) (some (.ptr
  345 0)) (.node (.node .nil (some (.sliceE 1447 0 2 9)) .nil) none .nil)))), [.inRegion (opsOf c33) 2 (restOf c33 2), .inLoop c34, .inBlock 0, .code c35], [], .run, .normal, none⟩
noncomputable def b112 : AB := .cells [(.val (.int .i8 3)), (.val (.int .i8 2)), (.val (.int .i8 1)), (.val (.int .i8 0)), (.val (.int .i8 4)), (.val (.int .i8 5)), (.val (.int .i8 6)), (.val (.int .i8 7)), (.val (.int .i8 8))] 82 true false
noncomputable def b113 : AB := .cells [(.val (.int .i8 3)), (.val (.int .i8 2)), (.val (.int .i8 0)), (.val (.int .i8 1)), (.val (.int .i8 4)), (.val (.int .i8 5)), (.val (.int .i8 6)), (.val (.int .i8 7)), (.val (.int .i8 8))] 82 false false
noncomputable def b114 : AB := .cells [(.val (.int .i8 3)), (.val (.int .i8 0)), (.val (.int .i8 1)), (.val (.int .i8 2)), (.val (.int .i8 4)), (.val (.int .i8 5)), (.val (.int .i8 6)), (.val (.int .i8 7)), (.val (.int .i8 8)), (.val (.int .i8 3)), (.val (.int
  .i8 2)), (.val (.int .i8 0)), (.val (.int .i8 1)), (.val (.int .i8 4)), (.val (.int .i8 5)), (.val (.int .i8 6)), (.val (.int .i8 7)), (.val (.int .i8 8))] 82 true false
noncomputable def b115 : AB := .map [((.agg [(.val (.int .i8 0)), (.val (.int .i8 1)), (.val (.int .i8 2)), (.val (.int .i8 3)), (.val (.int .i8 4)), (.val (.int .i8 5)), (.val (.int .i8 6)), (.val (.int .i8 7)), (.val (.int .i8 8))]), (.agg [(.val (.int .i8
  0)), (.val (.int .i8 1)), (.val (.int .i8 2)), (.val (.int .i8 3)), (.val (.int .i8 4)), (.val (.int .i8 5)), (.val (.int .i8 6)), (.val (.int .i8 7)), (.val (.int .i8 8))]), 0), ((.agg [(.val (.int .i8 1)), (.val (.int .i8 0)), (.val (.int
  .i8 2)), (.val (.int .i8 3)), (.val (.int .i8 4)), (.val (.int .i8 5)), (.val (.int .i8 6)), (.val (.int .i8 7)), (.val (.int .i8 8))]), (.agg [(.val (.int .i8 0)), (.val (.int .i8 1)), (.val (.int .i8 2)), (.val (.int .i8 3)), (.val (.int
  .i8 4)), (.val (.int .i8 5)), (.val (.int .i8 6)), (.val (.int .i8 7)), (.val (.int .i8 8))]), 1), ((.agg [(.val (.int .i8 2)), (.val (.int .i8 1)), (.val (.int .i8 0)), (.val (.int .i8 3)), (.val (.int .i8 4)), (.val (.int .i8 5)), (.val (.int
  .i8 6)), (.val (.int .i8 7)), (.val (.int .i8 8))]), (.agg [(.val (.int .i8 0)), (.val (.int .i8 1)), (.val (.int .i8 2)), (.val (.int .i8 3)), (.val (.int .i8 4)), (.val (.int .i8 5)), (.val (.int .i8 6)), (.val (.int .i8 7)), (.val (.int
  .i8 8))]), 2), ((.agg [(.val (.int .i8 1)), (.val (.int .i8 3)), (.val (.int .i8 2)), (.val (.int .i8 0)), (.val (.int .i8 4)), (.val (.int .i8 5)), (.val (.int .i8 6)), (.val (.int .i8 7)), (.val (.int .i8 8))]), (.agg [(.val (.int .i8 1)),
  (.val (.int .i8 0)), (.val (.int .i8 2)), (.val (.int .i8 3)), (.val (.int .i8 4)), (.val (.int .i8 5)), (.val (.int .i8 6)), (.val (.int .i8 7)), (.val (.int .i8 8))]), 3), ((.agg [(.val (.int .i8 2)), (.val (.int .i8 1)), (.val (.int .i8
  3)), (.val (.int .i8 0)), (.val (.int .i8 4)), (.val (.int .i8 5)), (.val (.int .i8 6)), (.val (.int .i8 7)), (.val (.int .i8 8))]), (.agg [(.val (.int .i8 2)), (.val (.int .i8 1)), (.val (.int .i8 0)), (.val (.int .i8 3)), (.val (.int .i8
  4)), (.val (.int .i8 5)), (.val (.int .i8 6)), (.val (.int .i8 7)), (.val (.int .i8 8))]), 4), ((.agg [(.val (.int .i8 1)), (.val (.int .i8 3)), (.val (.int .i8 0)), (.val (.int .i8 2)), (.val (.int .i8 4)), (.val (.int .i8 5)), (.val (.int
  .i8 6)), (.val (.int .i8 7)), (.val (.int .i8 8))]), (.agg [(.val (.int .i8 1)), (.val (.int .i8 3)), (.val (.int .i8 2)), (.val (.int .i8 0)), (.val (.int .i8 4)), (.val (.int .i8 5)), (.val (.int .i8 6)), (.val (.int .i8 7)), (.val (.int
  .i8 8))]), 5), ((.agg [(.val (.int .i8 2)), (.val (.int .i8 0)), (.val (.int .i8 3)), (.val (.int .i8 1)), (.val (.int .i8 4)), (.val (.int .i8 5)), (.val (.int .i8 6)), (.val (.int .i8 7)), (.val (.int .i8 8))]), (.agg [(.val (.int .i8 2)),
  (.val (.int .i8 1)), (.val (.int .i8 3)), (.val (.int .i8 0)), (.val (.int .i8 4)), (.val (.int .i8 5)), (.val (.int .i8 6)), (.val (.int .i8 7)), (.val (.int .i8 8))]), 6), ((.agg [(.val (.int .i8 0)), (.val (.int .i8 3)), (.val (.int .i8
  1)), (.val (.int .i8 2)), (.val (.int .i8 4)), (.val (.int .i8 5)), (.val (.int .i8 6)), (.val (.int .i8 7)), (.val (.int .i8 8))]), (.agg [(.val (.int .i8 1)), (.val (.int .i8 3)), (.val (.int .i8 0)), (.val (.int .i8 2)), (.val (.int .i8
  4)), (.val (.int .i8 5)), (.val (.int .i8 6)), (.val (.int .i8 7)), (.val (.int .i8 8))]), 7), ((.agg [(.val (.int .i8 0)), (.val (.int .i8 2)), (.val (.int .i8 3)), (.val (.int .i8 1)), (.val (.int .i8 4)), (.val (.int .i8 5)), (.val (.int
  .i8 6)), (.val (.int .i8 7)), (.val (.int .i8 8))]), (.agg [(.val (.int .i8 2)), (.val (.int .i8 0)), (.val (.int .i8 3)), (.val (.int .i8 1)), (.val (.int .i8 4)), (.val (.int .i8 5)), (.val (.int .i8 6)), (.val (.int .i8 7)), (.val (.int
  .i8 8))]), 8), ((.agg [(.val (.int .i8 3)), (.val (.int .i8 0)), (.val (.int .i8 1)), (.val (.int .i8 2)), (.val (.int .i8 4)), (.val (.int .i8 5)), (.val (.int .i8 6)), (.val (.int .i8 7)), (.val (.int .i8 8))]), (.agg [(.val (.int .i8 0)),
  (.val (.int .i8 3)), (.val (.int .i8 1)), (.val (.int .i8 2)), (.val (.int .i8 4)), (.val (.int .i8 5)), (.val (.int .i8 6)), (.val (.int .i8 7)), (.val (.int .i8 8))]), 9), ((.agg [(.val (.int .i8 3)), (.val (.int .i8 2)), (.val (.int .i8
  0)), (.val (.int .i8 1)), (.val (.int .i8 4)), (.val (.int .i8 5)), (.val (.int .i8 6)), (.val (.int .i8 7)), (.val (.int .i8 8))]), (.agg [(.val (.int .i8 0)), (.val (.int .i8 2)), (.val (.int .i8 3)), (.val (.int .i8 1)), (.val (.int .i8
  4)), (.val (.int .i8 5)), (.val (.int .i8 6)), (.val (.int .i8 7)), (.val (.int .i8 8))]), 10), ((.agg [(.val (.int .i8 3)), (.val (.int .i8 2)), (.val (.int .i8 1)), (.val (.int .i8 0)), (.val (.int .i8 4)), (.val (.int .i8 5)), (.val (.int
  .i8 6)), (.val (.int .i8 7)), (.val (.int .i8 8))]), (.agg [(.val (.int .i8 3)), (.val (.int .i8 0)), (.val (.int .i8 1)), (.val (.int .i8 2)), (.val (.int .i8 4)), (.val (.int .i8 5)), (.val (.int .i8 6)), (.val (.int .i8 7)), (.val (.int
  .i8 8))]), 11)] 12
noncomputable def b116 : AB := .cells [(.slice 343 0 1 1), (.sliceE 491 0 2 9), (.sliceE 730 0 2 9), (.sliceE 934 0 2 9), (.sliceE 1173 0 2 9), (.sliceE 1447 0 2 9)] 76 true false
noncomputable def b117 : AB := .cells [(.ptr 10 0), (.map 337), (.sliceE 1567 0 1 9)] 125 false false
noncomputable def b118 : AB := .loop .ready none 88 (.node (.node (.node (.node (.node .nil (some (.sliceE 1444 0 2 9)) .nil) none (.node .nil (some (.ptr 345 0)) .nil)) (some (.ptr 1454 0)) (.node (.node .nil (some (.ptr 1444 9)) (.node .nil (some (.val (.int
  .i64 1))) .nil)) (some (.sliceE 1444 0 2 9)) .nil)) (some (.yld 1452)) (.node (.node (.node .nil (some (.val (.int .i64 1))) .nil) (some (.ptr 345 0)) (.node .nil (some (.agg [(.val (.int .i8 3)), (.val (.int .i8 2)), (.val (.int .i8 0)), (.val
  (.int .i8 1)), (.val (.int .i8 4)), (.val (.int .i8 5)), (.val (.int .i8 6)), (.val (.int .i8 7)), (.val (.int .i8 8))])) .nil)) none (.node (.node .nil (some (.ptr 345 0)) .nil) (some (.ptr 345 0)) .nil))) (some (.ptr 345 0)) (.node (.node
  (.node (.node .nil (some (.val (.int .i64 2))) .nil) (some (.ptr 345 0)) (.node .nil (some (.ptr 10 0)) .nil)) (some (.sliceE 1444 0 2 9)) (.node (.node .nil (some (.agg [(.val (.int .i8 3)), (.val (.int .i8 2)), (.val (.int .i8 0)), (.val
  (.int .i8 1)), (.val (.int .i8 4)), (.val (.int .i8 5)), (.val (.int .i8 6)), (.val (.int .i8 7)), (.val (.int .i8 8))])) .nil) (some (.ptr 345 0)) .nil)) (some (.ptr 1453 0)) (.node (.node (.node .nil (some (.val (.bool true))) .nil) (some
  (.ptr 345 2)) (.node .nil (some (.func (.func 96) [] [(.ptr 1579 0), (.ptr 1578 0)])) .nil)) (some (.ptr 1571 0)) (.node (.node .nil (some (.ptr 345 0)) .nil) (some (.ptr 345 2)) .nil)))) 52 #[27] c57 c58 1580
noncomputable def b119 : AB := .cells [(.sliceE 1447 0 2 9)] 76 false false
noncomputable def b120 : AB := .loop .ready none 93 (.node (.node .nil (some (.func (.func 88) [(.ptr 345 0)] [])) .nil) (some (.val (.slice none 0 0))) (.node (.node .nil (some (.val (.slice none 0 0))) .nil) (some (.ptr 1450 0)) (.node .nil (some (.func
  (.func 88) [(.ptr 345 0)] [])) .nil))) 13 #[7] c43 c44 1451
noncomputable def b121 : AB := .cells [(.sliceE 1570 0 1 9)] 76 false false
noncomputable def m6 : M := ⟨f103, [f105, f108, f109, f110, f32, f111, f40, f42, f19], ⟨(.node (.node (.node (.node (.node (.node .nil none (.node (.node (.node (.node .nil none (.node .nil (some b112) .nil)) none .nil) none .nil) none .nil)) none (.node .nil none (.node
  (.node (.node (.node .nil none (.node .nil (some b113) .nil)) none .nil) none .nil) none .nil))) (some b20) (.node (.node .nil none (.node (.node .nil none (.node .nil none (.node (.node .nil (some b114) .nil) none .nil))) none .nil)) none
  (.node (.node .nil none (.node (.node .nil (some b47) .nil) none .nil)) none .nil))) none (.node (.node (.node .nil none (.node (.node (.node (.node .nil none (.node .nil (some b113) .nil)) none .nil) none .nil) none .nil)) none .nil) none
  (.node (.node .nil none (.node (.node (.node (.node .nil none (.node .nil (some b113) .nil)) none .nil) none (.node .nil none (.node (.node .nil (some (.deferred true)) .nil) none .nil))) none (.node .nil none (.node .nil (some b49) .nil))))
  none .nil))) none (.node (.node (.node .nil none (.node (.node .nil none (.node (.node .nil (some b115) .nil) none .nil)) none .nil)) none (.node (.node .nil none (.node (.node .nil none (.node .nil none (.node (.node .nil (some b116) .nil)
  none .nil))) none .nil)) none (.node (.node .nil none (.node (.node .nil (some b117) .nil) none .nil)) none .nil))) none (.node (.node .nil none (.node (.node (.node .nil none (.node (.node (.node .nil (some b94) .nil) none .nil) none .nil))
  none .nil) none .nil)) none (.node (.node .nil none (.node (.node (.node (.node .nil none (.node .nil (some b118) .nil)) none .nil) none (.node .nil none (.node (.node .nil (some (.cells [(.ptr 345 0)] 119 false false)) .nil) none .nil))) none
  .nil)) none .nil)))) none (.node (.node (.node .nil (some b22) (.node (.node .nil none (.node (.node .nil none (.node .nil none (.node (.node .nil (some b119) .nil) none .nil))) none .nil)) none (.node .nil none (.node (.node .nil none (.node
  .nil none (.node (.node .nil (some (.deferred true)) .nil) none .nil))) none .nil)))) none (.node (.node (.node .nil none (.node (.node .nil none (.node .nil none (.node (.node .nil (some b114) .nil) none .nil))) none .nil)) none .nil) none
  (.node (.node .nil none (.node (.node (.node (.node .nil none (.node .nil (some (.deferred true)) .nil)) none .nil) none (.node .nil none (.node (.node .nil (some b120) .nil) none .nil))) none .nil)) none .nil))) none (.node (.node (.node (.node
  .nil none (.node (.node (.node (.node .nil none (.node .nil (some b112) .nil)) none .nil) none .nil) none .nil)) none .nil) (some b23) (.node (.node .nil none (.node (.node (.node (.node .nil none (.node .nil (some (.cells [(.ptr 10 0)] 75
  false false)) .nil)) none .nil) none (.node .nil none (.node (.node .nil (some b121) .nil) none .nil))) none .nil)) none (.node (.node .nil none (.node .nil none (.node (.node .nil (some b66) .nil) none .nil))) none .nil))) none (.node (.node
  (.node .nil none (.node (.node .nil none (.node .nil none (.node .nil (some b76) .nil))) none .nil)) none .nil) none (.node (.node .nil none (.node (.node (.node (.node .nil none (.node .nil (some (.cells [(.yld 1581)] 133 false false)) .nil))
  none .nil) none (.node .nil none (.node (.node .nil (some (.cells [(.yld 1452)] 133 false false)) .nil) none .nil))) none .nil)) none .nil))))), 1584⟩⟩
theorem s6 : (iterA P 60000 400 m5).map (pruneM [0, 1, 4, 7, 8, 9] [[2, 3], [1, 2, 3, 6], [2, 3, 6, 15, 16, 17, 18, 19, 20, 21, 22, 23, 24, 25, 26, 51], [2, 4], [2, 3], [4, 5, 6, 7, 15, 16, 17, 18, 19, 20, 21, 22, 23, 24], [4, 5, 8, 9], [6, 7,
  23, 26], [0, 1, 2, 3, 19, 20, 21]] [7, 8, 10, 337, 343, 345, 491, 730, 934, 1173, 1444, 1447, 1448, 1449, 1450, 1451, 1452, 1453, 1454, 1464, 1567, 1570, 1571, 1578, 1579, 1580, 1581, 1582, 1583]) = some m6 := by kernel_rfl
end Go.Ev.Aw
