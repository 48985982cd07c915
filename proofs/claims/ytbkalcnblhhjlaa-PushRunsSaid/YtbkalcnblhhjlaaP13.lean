/- awake's closed self-check, piece 14. -/
import Derived.Test.YtbkalcnblhhjlaaP12
import Derived.KernelRfl
import Derived.Test.YtbkalcnblhhjlaaProg
set_option linter.unusedVariables false
set_option linter.unusedSimpArgs false
set_option linter.unnecessarySimpa false
open Go Go.Ev Go.Proofs
namespace Go.Ev.Aw
set_option maxRecDepth 1000000
theorem e : (arun P 20000 m13).map (·.1) = some (.val (.bool true)) := by kernel_rfl
-- 5231 steps, 13 pieces
end Go.Ev.Aw
