/- awake's closed self-check, piece 1. -/
import Derived.Test.YtbkalcnblhhjlaaEvS
import Derived.KernelRfl
import Derived.Test.YtbkalcnblhhjlaaProg
set_option linter.unusedVariables false
set_option linter.unusedSimpArgs false
set_option linter.unnecessarySimpa false
open Go Go.Ev Go.Proofs
namespace Go.Ev.Aw
set_option maxRecDepth 1000000
noncomputable abbrev P : Program := Try.prog
noncomputable def c0 : Code := partOf (bodyOf P 12) []
noncomputable def f1 : AFrame := ⟨12, 124, .nil, [.code c0], [], .run, .normal, none⟩
noncomputable def m0 : M := ⟨f1, [], ⟨.nil, 0⟩⟩
theorem start : startA P 12 = some m0 := by kernel_rfl
noncomputable def c2 : Code := partOf (bodyOf P 26) [1, 1, 0, 0, 0]
noncomputable def c3 : Code := partOf (bodyOf P 26) [1, 1, 1]
noncomputable def f4 : AFrame := ⟨26, 12, (.node (.node .nil none (.node (.node .nil (some (.agg [(.val (.int .i64 1)), (.slice 0 0 2 2)])) .nil) (some (.ptr 74 0)) .nil)) none (.node (.node (.node .nil (some (.ptr 74 0)) .nil) (some (.val (.pointer none)))
  .nil) (some (.ptr 70 0)) (.node (.node .nil (some (.val (.bool true))) .nil) none .nil))), [.code .skip, .inBlock 1, .inLoop c2, .inBlock 0, .code c3], [], .run, .normal, none⟩
noncomputable def c5 : Code := partOf (bodyOf P 19) [1, 1, 1, 0]
noncomputable def c6 : Code := partOf (bodyOf P 19) [1, 1, 1, 1]
noncomputable def f7 : AFrame := ⟨19, 42, (.node (.node (.node (.node .nil (some (.val (.bool false))) .nil) (some (.ptr 4 0)) .nil) none (.node (.node .nil none (.node .nil (some (.agg [(.val (.int .i64 2)), (.sliceE 67 0 1 3), (.slice 68 0 1 1)])) .nil))
  none .nil)) none (.node (.node (.node .nil (some (.val (.int .i64 0))) (.node .nil (some (.agg [(.val (.int .i64 1)), (.slice 0 0 2 2)])) .nil)) (some (.ptr 5 0)) .nil) none (.node (.node .nil (some (.ptr 69 0)) .nil) (some (.val (.slice none
  0 0))) .nil))), [.inRegion (opsOf c5) 2 (restOf c5 2), .code c6], [], .run, .normal, none⟩
noncomputable def c8 : Code := partOf (bodyOf P 12) [1, 1, 1, 0]
noncomputable def c9 : Code := partOf (bodyOf P 12) [1, 1, 1, 1]
noncomputable def f10 : AFrame := ⟨12, 124, (.node (.node (.node (.node .nil none (.node .nil (some (.agg [(.val (.int .i64 1)), (.slice 0 0 2 2)])) .nil)) (some (.ptr 3 0)) .nil) (some (.ptr 1 0)) (.node (.node .nil none (.node .nil (some (.agg [(.val (.int
  .i64 0)), (.val (.string ⟨#[98]⟩))])) .nil)) none .nil)) (some (.val (.bool false))) (.node (.node (.node .nil none (.node .nil (some (.agg [(.val (.int .i64 0)), (.val (.string ⟨#[97]⟩))])) .nil)) none .nil) (some (.ptr 2 0)) .nil)), [.inRegion
  (opsOf c8) 3 (restOf c8 3), .code c9], [], .run, .normal, none⟩
noncomputable def b11 : AB := .cells [(.val (.int .i64 0)), (.val (.int .u8 97)), (.val (.int .i64 0)), (.val (.string ⟨#[98, 98]⟩)), (.val (.int .i64 0)), (.val (.int .u8 98)), (.val (.int .i64 0)), (.val (.string ⟨#[]⟩))] 54 false false
noncomputable def b12 : AB := .cells [(.val (.int .i64 1)), (.slice 0 0 2 2)] 37 false false
noncomputable def b13 : AB := .cells [(.val (.int .i64 0)), (.val (.string ⟨#[98]⟩))] 39 false false
noncomputable def b14 : AB := .cells [(.val (.int .i64 0)), (.val (.int .i64 1)), (.val (.int .i64 1))] 79 true false
noncomputable def b15 : AB := .cells [(.val (.int .i64 0)), (.val (.string ⟨#[97]⟩))] 39 false false
noncomputable def b16 : AB := .map [((.agg [(.val (.int .i64 0)), (.val (.int .u8 98))]), (.agg [(.val (.int .i64 2)), (.val (.int .i64 1)), (.val (.int .i64 0)), (.val (.int .i64 0)), (.val (.int .i64 0)), (.val (.int .i64 0)), (.val (.int .i64 0)), (.val
  (.int .i64 0)), (.val (.int .i64 0)), (.val (.int .i64 0)), (.val (.int .i64 0)), (.val (.int .i64 0)), (.val (.int .i64 0)), (.val (.int .i64 0)), (.val (.int .i64 0)), (.val (.int .i64 0)), (.val (.int .i64 0)), (.val (.int .i64 0)), (.val
  (.int .i64 0)), (.val (.int .i64 0)), (.val (.int .i64 0)), (.val (.int .i64 0)), (.val (.int .i64 0)), (.val (.int .i64 0)), (.val (.int .i64 0)), (.val (.int .i64 0)), (.val (.int .i64 0)), (.val (.int .i64 0)), (.val (.int .i64 0)), (.val
  (.int .i64 0)), (.val (.int .i64 0)), (.val (.int .i64 0)), (.val (.int .i64 0)), (.val (.int .i64 0)), (.val (.int .i64 0)), (.val (.int .i64 0)), (.val (.int .i64 0))]), 0), ((.agg [(.val (.int .i64 0)), (.val (.int .u8 97))]), (.agg [(.val
  (.int .i64 0)), (.val (.int .i64 0)), (.val (.int .i64 0)), (.val (.int .i64 0)), (.val (.int .i64 0)), (.val (.int .i64 0)), (.val (.int .i64 0)), (.val (.int .i64 0)), (.val (.int .i64 0)), (.val (.int .i64 0)), (.val (.int .i64 0)), (.val
  (.int .i64 0)), (.val (.int .i64 0)), (.val (.int .i64 0)), (.val (.int .i64 0)), (.val (.int .i64 0)), (.val (.int .i64 0)), (.val (.int .i64 0)), (.val (.int .i64 0)), (.val (.int .i64 0)), (.val (.int .i64 0)), (.val (.int .i64 0)), (.val
  (.int .i64 0)), (.val (.int .i64 0)), (.val (.int .i64 0)), (.val (.int .i64 0)), (.val (.int .i64 0)), (.val (.int .i64 0)), (.val (.int .i64 0)), (.val (.int .i64 0)), (.val (.int .i64 0)), (.val (.int .i64 0)), (.val (.int .i64 0)), (.val
  (.int .i64 0)), (.val (.int .i64 0)), (.val (.int .i64 0)), (.val (.int .i64 0))]), 1)] 2
noncomputable def b17 : AB := .cells [(.val (.int .i64 2)), (.sliceE 67 0 1 3), (.slice 68 0 1 1)] 68 false false
noncomputable def b18 : AB := .cells [(.val (.int .i64 1))] 3 false false
noncomputable def b19 : AB := .cells [(.val (.int .i64 2)), (.map 73), (.val (.bool false)), (.val (.bool true)), (.val (.bool false)), (.val (.bool false)), (.val (.bool false)), (.val (.bool false)), (.val (.bool false)), (.val (.bool false)), (.val (.bool
  false)), (.val (.bool false)), (.val (.bool false)), (.val (.bool false)), (.val (.bool false)), (.val (.bool false)), (.val (.bool false)), (.val (.bool false)), (.val (.bool false)), (.val (.bool false)), (.val (.bool false)), (.val (.bool
  false)), (.val (.bool false)), (.val (.bool false)), (.val (.bool false)), (.val (.bool false)), (.val (.bool false)), (.val (.bool false)), (.val (.bool false)), (.val (.bool false)), (.val (.bool false)), (.val (.bool false)), (.val (.bool
  false)), (.val (.bool false)), (.val (.bool false)), (.val (.bool false)), (.val (.bool false)), (.val (.bool false)), (.val (.bool false))] 89 false false
noncomputable def m1 : M := ⟨f4, [f7, f10], ⟨(.node (.node (.node .nil (some b13) (.node (.node (.node (.node .nil (some b14) .nil) none .nil) none .nil) none .nil)) (some b12) (.node (.node .nil none (.node (.node (.node .nil (some b16) .nil) none .nil) none .nil)) (some
  b15) (.node (.node (.node (.node .nil (some b17) .nil) none .nil) none .nil) none .nil))) (some b11) (.node (.node .nil (some b12) (.node (.node (.node (.node .nil (some b18) .nil) none .nil) none .nil) none .nil)) (some b15) (.node (.node
  .nil none (.node (.node (.node .nil (some b19) .nil) none .nil) none .nil)) none (.node (.node (.node (.node .nil (some b12) .nil) none .nil) none .nil) none .nil)))), 241⟩⟩
theorem s1 : (iterA P 20000 400 m0).map (pruneM [2, 4, 5, 8, 9, 10] [[3, 4, 6, 7, 8, 10, 24, 25], [0, 1, 2, 3, 23, 24, 25]] [0, 1, 2, 3, 4, 5, 67, 68, 69, 70, 73, 74]) = some m1 := by kernel_rfl
end Go.Ev.Aw
