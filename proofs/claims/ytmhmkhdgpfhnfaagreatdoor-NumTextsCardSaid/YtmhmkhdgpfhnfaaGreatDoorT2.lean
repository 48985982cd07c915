/- The reference's Form. -/
import Derived.Test.YtmhmkhdgpfhnfaaGreatDoorT1
set_option linter.unusedVariables false
set_option linter.unusedSimpArgs false
set_option linter.unnecessarySimpa false
namespace Go.Proofs.YtmhmkhdgpfhnfaaGreatDoor.Ref
open Go.RowKit Go.Lib

theorem itoa_len (z : Int) (h : (limbs z.natAbs).length ≤ 100000) : (itoa z).length ≤ 900002 := by
  have hn : (decDigits z.natAbs).length ≤ 900001 := by
    rw [decDigits_length]
    by_cases h0 : z.natAbs = 0
    · rw [h0, nDigits_small (by omega)]; omega
    · have hl : (limbs z.natAbs).length ≠ 0 := fun e => h0 ((limbs_nil_iff _).1 (List.length_eq_zero_iff.1 e))
      have := val_lt (limbs z.natAbs) (Lo_limbs _)
      rw [val_limbs] at this
      have h2 := nDigits_le (N := z.natAbs) (k := 9 * (limbs z.natAbs).length) (by rw [Nat.pow_mul]; exact this) (by omega)
      omega
  unfold itoa
  by_cases hz : z < 0
  · rw [if_pos hz, List.length_cons]; omega
  · rw [if_neg hz, show z.toNat = z.natAbs by omega]; omega
/-- the string of a fraction in lowest terms -/
def formB (n d : Int) : ByteArray := if d = 1 then ⟨(itoa n).toArray⟩ else (⟨(itoa n).toArray⟩ ++ ⟨#[47]⟩) ++ ⟨(itoa d).toArray⟩
end Go.Proofs.YtmhmkhdgpfhnfaaGreatDoor.Ref
