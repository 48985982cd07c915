/- A fraction of the program is one of the reference; NumMakes. -/
import Derived.Test.YtmhmkhdgpfhnfaaGreatDoorT6
import Derived.Test.YtmhmkhdgpfhnfaaGreatDoorAwake
set_option linter.unusedVariables false
set_option linter.unusedSimpArgs false
set_option linter.unnecessarySimpa false
namespace Go.Proofs.YtmhmkhdgpfhnfaaGreatDoor.Ref
open Go.RowKit Go.Lib

theorem rt_zero (w : World) : Rt w (.agg #[.bool false, .slice none 0 0, .slice none 0 0]) 0 1 := by
  refine ⟨none, 0, 0, _, rfl, ?_, .inl ⟨rfl, rfl⟩⟩
  rw [show (0 : Int).natAbs = 0 from rfl, limbs_zero]
  exact Rd.nil _ _
theorem formB_zero : formB 0 (1 : Nat) = ⟨#[48]⟩ := by
  unfold formB
  refine (if_pos rfl).trans ?_
  unfold itoa
  rw [if_neg (by omega), show (0 : Int).toNat = 0 from rfl, decDigits_one (by omega)]
  rfl
end Go.Proofs.YtmhmkhdgpfhnfaaGreatDoor.Ref
