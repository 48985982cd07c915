/- Strings of decimal digits as numbers. -/
import Derived.Lib.ItoaNum
import Derived.Lib.UnsafeStr
set_option linter.unusedVariables false
set_option linter.unusedSimpArgs false
set_option linter.unnecessarySimpa false
namespace Go.Proofs.YtmhmkhdgpfhnfaaGreatDoor
open Go Go.Lib
def digB (b : UInt8) : Bool := decide (48 ≤ b.toNat) && decide (b.toNat ≤ 57)
theorem digB_iff {b : UInt8} : digB b = true ↔ 48 ≤ b.toNat ∧ b.toNat ≤ 57 := by unfold digB; simp
/-- the number that digits write -/
def numOf (l : List UInt8) : Nat := l.foldl (fun a b => a * 10 + (b.toNat - 48)) 0
theorem numOf_nil : numOf [] = 0 := rfl
theorem numOf_snoc (l : List UInt8) (b : UInt8) : numOf (l ++ [b]) = numOf l * 10 + (b.toNat - 48) := by unfold numOf; rw [List.foldl_append]; rfl
theorem numOf_append (a b : List UInt8) : numOf (a ++ b) = numOf a * 10 ^ b.length + numOf b := by
  have h := List.reverse_reverse b
  generalize b.reverse = r at h
  subst h
  induction r with
  | nil => simp [numOf_nil]
  | cons x r ih =>
    rw [List.reverse_cons, ← List.append_assoc, numOf_snoc, numOf_snoc, ih, List.length_append, List.length_singleton, Nat.pow_succ]
    grind
theorem numOf_lt {l : List UInt8} (h : l.all digB = true) : numOf l < 10 ^ l.length := by
  have h0 := List.reverse_reverse l
  generalize l.reverse = r at h0
  subst h0
  induction r with
  | nil => simp [numOf_nil]
  | cons x r ih =>
    rw [List.reverse_cons] at h ⊢
    rw [List.all_append, Bool.and_eq_true] at h
    have h1 := ih h.1
    have h2 : digB x = true := by simpa using h.2
    rw [digB_iff] at h2
    rw [numOf_snoc, List.length_append, List.length_singleton, Nat.pow_succ]
    omega
/-- decimal digits without a leading zero -/
def isNumB (l : List UInt8) : Bool := l.all digB && (l == [48] || (!l.isEmpty && !(l.head? == some 48)))
theorem ofNat_digit {b : UInt8} (h : digB b = true) : UInt8.ofNat (48 + (b.toNat - 48)) = b := by
  rw [digB_iff] at h
  rw [show 48 + (b.toNat - 48) = b.toNat by omega]
  exact UInt8.ofNat_toNat
theorem numOf_pos {l : List UInt8} (h : l.all digB = true) (h0 : l ≠ []) (h1 : ¬ l.head? = some 48) : 1 ≤ numOf l := by
  cases l with
  | nil => exact absurd rfl h0
  | cons x l =>
    rw [List.all_cons, Bool.and_eq_true] at h
    have h2 := digB_iff.1 h.1
    have h3 : x.toNat ≠ 48 := fun e => h1 (by
      have : x = 48 := UInt8.toNat_inj.1 e
      rw [this]; rfl)
    have e : numOf (x :: l) = numOf [x] * 10 ^ l.length + numOf l := numOf_append [x] l
    have e2 : numOf [x] = x.toNat - 48 := by unfold numOf; simp
    have hp : 1 ≤ 10 ^ l.length := Nat.one_le_pow _ _ (by decide)
    have : 1 * 1 ≤ (x.toNat - 48) * 10 ^ l.length := Nat.mul_le_mul (by omega) hp
    rw [e, e2]
    omega
theorem dec_numOf_pos : ∀ (r : List UInt8), r.reverse.all digB = true → r ≠ [] → ¬ r.reverse.head? = some 48 → decDigits (numOf r.reverse) = r.reverse
  | [], _, h, _ => absurd rfl h
  | [x], h, _, h1 => by
    have h2 : digB x = true := by simpa using h
    have e : numOf [x] = x.toNat - 48 := by unfold numOf; simp
    have h3 := digB_iff.1 h2
    show decDigits (numOf [x]) = [x]
    rw [e, decDigits_one (by omega), ofNat_digit h2]
  | x :: y :: r, h, _, h1 => by
    rw [List.reverse_cons] at h h1 ⊢
    rw [List.all_append, Bool.and_eq_true] at h
    have hd : digB x = true := by simpa using h.2
    have h3 := digB_iff.1 hd
    have hne : (y :: r).reverse ≠ [] := by simp
    have hh : ((y :: r).reverse ++ [x]).head? = (y :: r).reverse.head? := by
      rw [List.head?_append]
      cases hq : (y :: r).reverse.head? with
      | none => exact absurd (List.head?_eq_none_iff.1 hq) hne
      | some z => rfl
    rw [hh] at h1
    have ih := dec_numOf_pos (y :: r) h.1 (by simp) h1
    have hp := numOf_pos h.1 hne h1
    rw [numOf_snoc, decDigits, dif_neg (by omega), show (numOf (y :: r).reverse * 10 + (x.toNat - 48)) / 10 = numOf (y :: r).reverse by omega, show (numOf (y :: r).reverse * 10 + (x.toNat - 48)) % 10 = x.toNat - 48 by omega, ih, ofNat_digit hd]
/-- what digits write is written by them -/
theorem dec_numOf {l : List UInt8} (h : isNumB l = true) : decDigits (numOf l) = l := by
  unfold isNumB at h
  rw [Bool.and_eq_true, Bool.or_eq_true] at h
  rcases h.2 with h2 | h2
  · have : l = [48] := by simpa using h2
    subst this
    exact decDigits_one (show numOf [48] < 10 by decide)
  · rw [Bool.and_eq_true] at h2
    have e1 : l ≠ [] := by intro e; subst e; simp at h2
    have e2 : ¬ l.head? = some 48 := by intro e; rw [e] at h2; simp at h2
    have := dec_numOf_pos l.reverse (by rw [List.reverse_reverse]; exact h.1) (by simpa using e1) (by rw [List.reverse_reverse]; exact e2)
    rwa [List.reverse_reverse] at this
end Go.Proofs.YtmhmkhdgpfhnfaaGreatDoor
