/- awake's closed self-check, by the evaluator. -/
import Derived.Test.YthglgagkhnfnpaaGreatEvB
import Derived.Test.YthglgagkhnfnpaaGreatProg
import Derived.KernelRfl
set_option linter.unusedVariables false
set_option linter.unusedSimpArgs false
set_option linter.unnecessarySimpa false
namespace Go.Proofs.YthglgagkhnfnpaaGreat
open Go.Ev
set_option maxRecDepth 1000000
theorem follows_mixed : Tryz.prog.follows .mixedOrders = true := by kernel_rfl
theorem awake_runs : saysTrue (acall Tryz.prog 20000 8 []) = true := by kernel_rfl
theorem awake_calls (w : World) : Calls Tryz.prog 8 #[] w fun e w' => e = .returned (.bool true) ∧ Kept w w' := calls_true follows_mixed awake_runs w
end Go.Proofs.YthglgagkhnfnpaaGreat
