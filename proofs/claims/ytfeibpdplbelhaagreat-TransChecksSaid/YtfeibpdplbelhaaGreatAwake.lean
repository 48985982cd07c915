/- awake's closed self-check, by the evaluator. -/
import Derived.Test.YtfeibpdplbelhaaGreatEvB
import Derived.Test.YtfeibpdplbelhaaGreatProg
import Derived.KernelRfl
namespace Go.Proofs.YtfeibpdplbelhaaGreat
open Go.Ev
set_option maxRecDepth 1000000
theorem follows_mixed : Tryz.prog.follows .mixedOrders = true := by kernel_rfl
theorem awake_runs : saysTrue (acall Tryz.prog 20000 8 []) = true := by kernel_rfl
theorem awake_calls (w : World) : Calls Tryz.prog 8 #[] w fun e w' => e = .returned (.bool true) ∧ Kept w w' := calls_true follows_mixed awake_runs w
end Go.Proofs.YtfeibpdplbelhaaGreat
