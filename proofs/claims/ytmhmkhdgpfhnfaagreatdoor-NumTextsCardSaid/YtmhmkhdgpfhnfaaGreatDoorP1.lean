/- awake's run, in pieces. -/
import Derived.Test.YtmhmkhdgpfhnfaaGreatDoorP0
import Derived.KernelRfl
import Derived.Test.YtmhmkhdgpfhnfaaGreatDoorProg
set_option linter.unusedVariables false
set_option linter.unusedSimpArgs false
set_option linter.unnecessarySimpa false
open Go Go.Ev Go.Proofs
namespace Go.Ev.Aw
set_option maxRecDepth 1000000
theorem e : (arun P 60000 m5).map (·.1) = some (.val (.bool true)) := by kernel_rfl
end Go.Ev.Aw
