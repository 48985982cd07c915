/- awake's closed self-check, piece 2. -/
import Derived.Test.YtbkalcnblhhjlaaP0
import Derived.KernelRfl
import Derived.Test.YtbkalcnblhhjlaaProg
set_option linter.unusedVariables false
set_option linter.unusedSimpArgs false
set_option linter.unnecessarySimpa false
open Go Go.Ev Go.Proofs
namespace Go.Ev.Aw
set_option maxRecDepth 1000000
noncomputable def c20 : Code := partOf (bodyOf P 27) [1, 1, 0, 1, 0, 0, 1, 1, 0, 0, 1]
noncomputable def c21 : Code := partOf (bodyOf P 27) [1, 1, 0, 1, 0, 0, 1, 1, 1]
noncomputable def c22 : Code := partOf (bodyOf P 27) [1, 1, 0, 1, 0, 0]
noncomputable def c23 : Code := partOf (bodyOf P 27) [1, 1, 1]
noncomputable def f24 : AFrame := ⟨27, 41, (.node (.node (.node (.node (.node (.node .nil (some (.val (.tuple #[]))) .nil) (some (.val (.int .i64 16))) .nil) (some (.val (.int .i64 0))) (.node (.node .nil (some (.val (.int .i64 16))) .nil) (some (.ptr 74 17))
  .nil)) none (.node (.node (.node .nil (some (.val (.tuple #[]))) .nil) (some (.ptr 74 0)) .nil) none (.node .nil (some (.val (.tuple #[]))) .nil))) none (.node (.node (.node (.node .nil (some (.val (.tuple #[]))) .nil) (some (.val (.int .i64
  16))) .nil) none (.node .nil (some (.val (.bool false))) .nil)) (some (.val (.int .i64 3))) (.node (.node (.node .nil (some (.val (.bool false))) .nil) (some (.ptr 74 0)) .nil) none (.node .nil (some (.val (.bool false))) .nil)))) (some (.ptr
  74 0)) (.node (.node (.node (.node (.node .nil (some (.val (.tuple #[]))) .nil) (some (.val (.bool true))) .nil) none (.node .nil (some (.val (.bool false))) .nil)) (some (.val (.int .i64 0))) (.node (.node (.node .nil (some (.val (.tuple #[])))
  .nil) (some (.val (.int .i64 15))) .nil) none (.node .nil (some (.val (.bool false))) .nil))) none (.node (.node (.node (.node .nil (some (.val (.tuple #[]))) .nil) (some (.val (.int .i64 0))) .nil) none (.node .nil (some (.val (.tuple #[])))
  .nil)) (some (.val (.int .i64 16))) (.node (.node (.node .nil (some (.val (.int .i64 3))) .nil) (some (.ptr 74 2)) .nil) (some (.agg [(.val (.int .i64 4)), (.val (.int .i64 3)), (.val (.int .i64 0)), (.val (.int .i64 0)), (.val (.int .i64 0)),
  (.val (.int .i64 0)), (.val (.int .i64 0)), (.val (.int .i64 0)), (.val (.int .i64 0)), (.val (.int .i64 0)), (.val (.int .i64 0)), (.val (.int .i64 0)), (.val (.int .i64 0)), (.val (.int .i64 0)), (.val (.int .i64 0)), (.val (.int .i64 0)),
  (.val (.int .i64 0)), (.val (.int .i64 0)), (.val (.int .i64 0)), (.val (.int .i64 0)), (.val (.int .i64 0)), (.val (.int .i64 0)), (.val (.int .i64 0)), (.val (.int .i64 0)), (.val (.int .i64 0)), (.val (.int .i64 0)), (.val (.int .i64 0)),
  (.val (.int .i64 0)), (.val (.int .i64 0)), (.val (.int .i64 0)), (.val (.int .i64 0)), (.val (.int .i64 0)), (.val (.int .i64 0)), (.val (.int .i64 0)), (.val (.int .i64 0)), (.val (.int .i64 0)), (.val (.int .i64 0))])) (.node .nil (some
  (.val (.tuple #[]))) .nil))))), [.code c20, .inBlock 1, .code c21, .inLoop c22, .inBlock 0, .code c23], [], .run, .normal, none⟩
noncomputable def c25 : Code := partOf (bodyOf P 19) [1, 1, 1, 1, 0]
noncomputable def c26 : Code := partOf (bodyOf P 19) [1, 1, 1, 1, 1]
noncomputable def f27 : AFrame := ⟨19, 42, (.node (.node (.node (.node .nil (some (.val (.bool false))) .nil) (some (.ptr 4 0)) (.node .nil (some (.ptr 74 0)) (.node .nil (some (.ptr 74 0)) .nil))) none .nil) none (.node (.node (.node .nil (some (.val (.int
  .i64 0))) .nil) (some (.ptr 5 0)) (.node .nil none (.node .nil (some (.agg [(.val (.int .i64 0)), (.val (.string ⟨#[97]⟩))])) .nil))) none (.node (.node .nil (some (.ptr 69 0)) .nil) (some (.val (.slice none 0 0))) .nil))), [.inRegion (opsOf
  c25) 2 (restOf c25 2), .code c26], [], .run, .normal, none⟩
noncomputable def b28 : AB := .map [((.agg [(.val (.int .i64 0)), (.val (.int .u8 98))]), (.agg [(.val (.int .i64 2)), (.val (.int .i64 1)), (.val (.int .i64 0)), (.val (.int .i64 0)), (.val (.int .i64 0)), (.val (.int .i64 0)), (.val (.int .i64 0)), (.val
  (.int .i64 0)), (.val (.int .i64 0)), (.val (.int .i64 0)), (.val (.int .i64 0)), (.val (.int .i64 0)), (.val (.int .i64 0)), (.val (.int .i64 0)), (.val (.int .i64 0)), (.val (.int .i64 0)), (.val (.int .i64 0)), (.val (.int .i64 0)), (.val
  (.int .i64 0)), (.val (.int .i64 0)), (.val (.int .i64 0)), (.val (.int .i64 0)), (.val (.int .i64 0)), (.val (.int .i64 0)), (.val (.int .i64 0)), (.val (.int .i64 0)), (.val (.int .i64 0)), (.val (.int .i64 0)), (.val (.int .i64 0)), (.val
  (.int .i64 0)), (.val (.int .i64 0)), (.val (.int .i64 0)), (.val (.int .i64 0)), (.val (.int .i64 0)), (.val (.int .i64 0)), (.val (.int .i64 0)), (.val (.int .i64 0))]), 0), ((.agg [(.val (.int .i64 0)), (.val (.int .u8 97))]), (.agg [(.val
  (.int .i64 4)), (.val (.int .i64 3)), (.val (.int .i64 0)), (.val (.int .i64 0)), (.val (.int .i64 0)), (.val (.int .i64 0)), (.val (.int .i64 0)), (.val (.int .i64 0)), (.val (.int .i64 0)), (.val (.int .i64 0)), (.val (.int .i64 0)), (.val
  (.int .i64 0)), (.val (.int .i64 0)), (.val (.int .i64 0)), (.val (.int .i64 0)), (.val (.int .i64 0)), (.val (.int .i64 0)), (.val (.int .i64 0)), (.val (.int .i64 0)), (.val (.int .i64 0)), (.val (.int .i64 0)), (.val (.int .i64 0)), (.val
  (.int .i64 0)), (.val (.int .i64 0)), (.val (.int .i64 0)), (.val (.int .i64 0)), (.val (.int .i64 0)), (.val (.int .i64 0)), (.val (.int .i64 0)), (.val (.int .i64 0)), (.val (.int .i64 0)), (.val (.int .i64 0)), (.val (.int .i64 0)), (.val
  (.int .i64 0)), (.val (.int .i64 0)), (.val (.int .i64 0)), (.val (.int .i64 0))]), 1)] 2
noncomputable def m2 : M := ⟨f24, [f27, f10], ⟨(.node (.node (.node .nil (some b13) (.node (.node (.node (.node .nil (some b14) .nil) none .nil) none .nil) none .nil)) (some b12) (.node (.node .nil none (.node (.node (.node .nil (some b28) .nil) none .nil) none .nil)) (some
  b15) (.node (.node (.node (.node .nil (some b17) .nil) none .nil) none .nil) none .nil))) (some b11) (.node (.node .nil (some b12) (.node (.node (.node (.node .nil (some b18) .nil) none .nil) none .nil) none .nil)) (some b15) (.node (.node
  .nil none (.node (.node (.node .nil (some b19) .nil) none .nil) none .nil)) none .nil))), 577⟩⟩
theorem s2 : (iterA P 20000 400 m1).map (pruneM [0, 4, 5, 6, 7, 14, 15, 16, 17, 18, 19, 20, 21, 22, 23, 24, 25, 26, 27, 28, 29, 30, 31, 32, 33, 34, 35, 36, 37, 38, 39] [[3, 4, 6, 7, 8, 10, 11, 27, 28], [0, 1, 2, 3, 23, 24, 25]] [0, 1, 2, 3, 4,
  5, 67, 68, 69, 73, 74]) = some m2 := by kernel_rfl
end Go.Ev.Aw
