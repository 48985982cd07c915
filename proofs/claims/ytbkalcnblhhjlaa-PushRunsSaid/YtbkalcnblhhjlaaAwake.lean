/- awake's closed self-check, by the evaluator, in pieces. -/
import Derived.Test.YtbkalcnblhhjlaaP13
set_option linter.unusedVariables false
set_option linter.unusedSimpArgs false
set_option linter.unnecessarySimpa false
open Go Go.Ev Go.Proofs
namespace Go.Ev.Aw
set_option maxRecDepth 1000000
theorem follows_mixed : P.follows .mixedOrders = true := by kernel_rfl
theorem awake_calls (w : World) : Calls Try.prog 12 #[] w fun e w' => e = .returned (.bool true) ∧ Kept w w' := by
  have h := sound_end follows_mixed e
  have h := sound_piece follows_mixed s13 h
  have h := sound_piece follows_mixed s12 h
  have h := sound_piece follows_mixed s11 h
  have h := sound_piece follows_mixed s10 h
  have h := sound_piece follows_mixed s9 h
  have h := sound_piece follows_mixed s8 h
  have h := sound_piece follows_mixed s7 h
  have h := sound_piece follows_mixed s6 h
  have h := sound_piece follows_mixed s5 h
  have h := sound_piece follows_mixed s4 h
  have h := sound_piece follows_mixed s3 h
  have h := sound_piece follows_mixed s2 h
  have h := sound_piece follows_mixed s1 h
  exact sound_calls start h w
end Go.Ev.Aw
