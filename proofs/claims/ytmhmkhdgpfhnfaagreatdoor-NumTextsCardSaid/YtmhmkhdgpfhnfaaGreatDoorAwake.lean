/- awake's closed self-check, by the evaluator, in pieces. -/
import Derived.Test.YtmhmkhdgpfhnfaaGreatDoorP1
set_option linter.unusedVariables false
set_option linter.unusedSimpArgs false
set_option linter.unnecessarySimpa false
open Go Go.Ev Go.Proofs
namespace Go.Ev.Aw
set_option maxRecDepth 1000000
theorem follows_mixed : P.follows .mixedOrders = true := by kernel_rfl
theorem awake_calls (w : World) (hw : OKW w) : Calls Tryz.prog 14 #[] w fun e w' => e = .returned (.bool true) ∧ Kept w w' := by
  haveI : OrcSound P := ⟨fun f vs v ho => by cases ho⟩
  have h := sound_end follows_mixed e
  have h := sound_piece follows_mixed s5 h
  have h := sound_piece follows_mixed s4 h
  have h := sound_piece follows_mixed s3 h
  have h := sound_piece follows_mixed s2 h
  have h := sound_piece follows_mixed s1 h
  exact sound_calls start h w hw
end Go.Ev.Aw
namespace Go.Proofs.YtmhmkhdgpfhnfaaGreatDoor
open Go.RowKit
theorem awake_spec (w : World) : Calls Tryz.prog 14 #[] w fun e w' => e = .returned (.bool true) ∧ Below w.heap.size w w' :=
  (Go.Ev.Aw.awake_calls w ⟨Nat.zero_le _, fun p hp => by cases hp⟩).mono fun e w' ⟨he, hk⟩ => ⟨he, ⟨hk.os, hk.tape, hk.output, hk.size, hk.heap⟩⟩
end Go.Proofs.YtmhmkhdgpfhnfaaGreatDoor
