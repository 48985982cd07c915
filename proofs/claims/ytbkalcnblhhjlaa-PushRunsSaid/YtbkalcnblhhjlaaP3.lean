/- awake's closed self-check, piece 4. -/
import Derived.Test.YtbkalcnblhhjlaaP2
import Derived.KernelRfl
import Derived.Test.YtbkalcnblhhjlaaProg
set_option linter.unusedVariables false
set_option linter.unusedSimpArgs false
set_option linter.unnecessarySimpa false
open Go Go.Ev Go.Proofs
namespace Go.Ev.Aw
set_option maxRecDepth 1000000
noncomputable def c52 : Code := partOf (bodyOf P 35) [1, 1, 0, 1, 0, 0, 1, 0]
noncomputable def c53 : Code := partOf (bodyOf P 35) [1, 1, 0, 1, 0, 0, 1, 1]
noncomputable def c54 : Code := partOf (bodyOf P 35) [1, 1, 0, 1, 0, 0]
noncomputable def c55 : Code := partOf (bodyOf P 35) [1, 1, 1]
noncomputable def f56 : AFrame := ⟨35, 29, (.node (.node (.node .nil none (.node .nil (some (.val (.int .i64 0))) .nil)) none (.node (.node .nil (some (.slice 1502 0 1 1)) .nil) (some (.val (.bool false))) .nil)) (some (.ptr 1538 0)) (.node (.node .nil (some
  (.val (.bool false))) (.node .nil (some (.val (.bool true))) .nil)) none (.node (.node .nil (some (.val (.int .i64 1))) .nil) none .nil))), [.code c52, .code c53, .inLoop c54, .inBlock 0, .code c55], [], .run, .normal, none⟩
noncomputable def c57 : Code := partOf (bodyOf P 26) [1, 1, 0, 0, 0, 0, 0]
noncomputable def c58 : Code := partOf (bodyOf P 26) [1, 1, 0, 0, 0, 0, 1]
noncomputable def c59 : Code := partOf (bodyOf P 26) [1, 1, 0, 0, 0, 1]
noncomputable def f60 : AFrame := ⟨26, 12, (.node (.node .nil none (.node (.node .nil (some (.agg [(.val (.int .i64 1)), (.slice 1502 0 1 1)])) .nil) (some (.ptr 1538 0)) .nil)) none (.node (.node (.node .nil (some (.ptr 1538 0)) .nil) (some (.val (.pointer
  none))) .nil) (some (.ptr 1534 0)) .nil)), [.inRegion (opsOf c57) 2 (restOf c57 2), .code c58, .code c59, .inLoop c2, .inBlock 0, .code c3], [], .run, .normal, none⟩
noncomputable def c61 : Code := partOf (bodyOf P 29) [1, 0]
noncomputable def c62 : Code := partOf (bodyOf P 29) [1, 1]
noncomputable def f63 : AFrame := ⟨29, 50, (.node (.node (.node (.node (.node .nil (some (.agg [(.val (.int .i64 1)), (.val (.slice none 0 0)), (.val (.slice none 0 0))])) .nil) none .nil) (some (.ptr 1533 0)) .nil) none .nil) none (.node (.node .nil (some
  (.val (.bool false))) (.node .nil (some (.agg [(.val (.int .i64 1)), (.slice 1502 0 1 1)])) .nil)) (some (.ptr 1532 0)) .nil)), [.inRegion (opsOf c61) 4 (restOf c61 4), .code c62], [], .run, .normal, none⟩
noncomputable def c64 : Code := partOf (bodyOf P 21) [1, 1, 0]
noncomputable def f65 : AFrame := ⟨21, 17, (.node (.node (.node (.node (.node .nil (some (.agg [(.val (.int .i64 0)), (.val (.string ⟨#[97]⟩))])) .nil) none .nil) none .nil) none (.node .nil (some (.val (.int .i64 0))) .nil)) none (.node (.node .nil (some
  (.val (.bool false))) .nil) none (.node .nil none (.node .nil (some (.agg [(.val (.int .i64 1)), (.slice 1502 0 1 1)])) .nil)))), [.inRegion (opsOf c64) 2 (restOf c64 2), .code .ret], [], .run, .normal, none⟩
noncomputable def c66 : Code := partOf (bodyOf P 12) [1, 1, 1, 1, 1, 1, 0]
noncomputable def c67 : Code := partOf (bodyOf P 12) [1, 1, 1, 1, 1, 1, 1]
noncomputable def f68 : AFrame := ⟨12, 124, (.node (.node (.node (.node .nil (some (.val (.bool false))) .nil) (some (.ptr 3 0)) .nil) (some (.ptr 1 0)) (.node (.node .nil (some (.ptr 1503 0)) (.node (.node .nil (some (.agg [(.val (.int .i64 1)), (.slice 1502
  0 1 1)])) .nil) none .nil)) (some (.val (.bool true))) .nil)) (some (.val (.bool false))) (.node (.node (.node .nil (some (.val (.int .i64 0))) .nil) (some (.sliceE 909 0 2 1)) .nil) (some (.ptr 2 0)) (.node (.node .nil none (.node (.node .nil
  (some (.agg [(.val (.int .i64 0)), (.val (.string ⟨#[97]⟩))])) .nil) none .nil)) (some (.val (.int .i64 0))) .nil))), [.inRegion (opsOf c66) 2 (restOf c66 2), .code c67], [], .run, .normal, none⟩
noncomputable def b69 : AB := .cells [(.val (.int .i64 1)), (.slice 1502 0 1 1)] 37 false false
noncomputable def b70 : AB := .cells [(.val (.int .i64 1)), (.map 1537), (.val (.bool false)), (.val (.bool false)), (.val (.bool false)), (.val (.bool false)), (.val (.bool false)), (.val (.bool false)), (.val (.bool false)), (.val (.bool false)), (.val (.bool
  false)), (.val (.bool false)), (.val (.bool false)), (.val (.bool false)), (.val (.bool false)), (.val (.bool false)), (.val (.bool false)), (.val (.bool false)), (.val (.bool false)), (.val (.bool false)), (.val (.bool false)), (.val (.bool
  false)), (.val (.bool false)), (.val (.bool false)), (.val (.bool false)), (.val (.bool false)), (.val (.bool false)), (.val (.bool false)), (.val (.bool false)), (.val (.bool false)), (.val (.bool false)), (.val (.bool false)), (.val (.bool
  false)), (.val (.bool false)), (.val (.bool false)), (.val (.bool false)), (.val (.bool false)), (.val (.bool false)), (.val (.bool false))] 89 false false
noncomputable def b71 : AB := .cells [(.val (.int .i64 0)), (.val (.int .u8 97)), (.val (.int .i64 0)), (.val (.string ⟨#[97, 97]⟩))] 54 false false
noncomputable def m4 : M := ⟨f56, [f60, f63, f65, f68], ⟨(.node (.node (.node (.node (.node (.node .nil none (.node .nil none (.node .nil none (.node .nil none (.node (.node .nil (some b69) .nil) none .nil))))) none .nil) none .nil) (some b13) .nil) (some b12) (.node (.node
  (.node (.node (.node (.node (.node (.node .nil none (.node .nil (some (.map [] 0)) .nil)) none .nil) none .nil) none .nil) none .nil) none .nil) none .nil) none (.node .nil none (.node (.node (.node (.node .nil none (.node .nil none (.node
  .nil (some b49) .nil))) none .nil) none .nil) none (.node .nil none (.node .nil none (.node .nil none (.node .nil none (.node (.node .nil (some b15) .nil) none .nil))))))))) (some b11) (.node (.node .nil none (.node .nil none (.node .nil none
  (.node .nil none (.node .nil none (.node .nil none (.node .nil none (.node (.node .nil (some b69) .nil) none .nil)))))))) (some b15) (.node (.node (.node (.node (.node (.node (.node (.node .nil none (.node .nil (some b70) .nil)) none .nil)
  none .nil) none .nil) none .nil) none .nil) none .nil) none (.node .nil none (.node .nil none (.node (.node .nil none (.node .nil none (.node .nil none (.node (.node .nil (some b71) .nil) none .nil)))) none (.node .nil none (.node .nil none
  (.node .nil none (.node (.node .nil (some b69) .nil) none .nil)))))))))), 1540⟩⟩
theorem s4 : (iterA P 20000 400 m3).map (pruneM [0, 4, 5, 9, 10, 11, 12] [[2, 4, 5, 8, 9], [2, 3, 4, 12, 15], [4, 5, 14, 15], [0, 1, 2, 3, 4, 5, 6, 7, 8, 9, 41, 42]] [0, 1, 2, 3, 909, 1502, 1503, 1532, 1533, 1534, 1537, 1538]) = some m4 := by
  kernel_rfl
end Go.Ev.Aw
