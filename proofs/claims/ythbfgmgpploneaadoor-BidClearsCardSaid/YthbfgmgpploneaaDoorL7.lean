/- A slice of slices of integers that comes in, as the walks speak of it. -/
import Derived.Test.YthbfgmgpploneaaDoorL3
set_option linter.unusedVariables false
set_option linter.unusedSimpArgs false
set_option linter.unnecessarySimpa false
namespace Go.Proofs.YthbfgmgpploneaaDoor
open Go.RowKit

theorem slA_any {w : World} {A : Option Addr} {len cap : Nat} {zs : List Int} (hl : len ≤ cap) (hm : cap ≤ maxLen) (hz : zs.length = cap) (hn : A = none → cap = 0)
    (hc : ∀ a, A = some a → ∀ i, i < cap → w.cell? (a.add i) = some (.int .i64 (zs.getD i 0))) : SlA w (.slice A len cap) (ints (zs.take len)) := by
  rcases A with _ | a
  · have h0 := hn rfl
    subst h0
    have h1 : len = 0 := by omega
    subst h1
    exact SlA.nil w
  · exact slA_row hl hm hz (fun i hi => hc a rfl i (by omega))
/-- the rows that come in -/
def rowsOf (n : Nat) (L : Nat → Nat) (Z : Nat → List Int) : List (List Int) := (List.range n).map fun r => (Z r).take (L r)
theorem rowsOf_get (n : Nat) (L : Nat → Nat) (Z : Nat → List Int) (r : Nat) (h : r < n) : (rowsOf n L Z).getD r [] = (Z r).take (L r) := by simp [rowsOf, h]
theorem matA_rows {w : World} {a : Addr} {len cap : Nat} {A : Nat → Option Addr} {L C : Nat → Nat} {Z : Nat → List Int} (hl : len ≤ cap) (hm : cap ≤ maxLen)
    (h : ∀ r, r < cap → w.cell? (a.add r) = some (.slice (A r) (L r) (C r)) ∧ L r ≤ C r ∧ C r ≤ maxLen ∧ (Z r).length = C r ∧ (A r = none → C r = 0) ∧ ∀ a', A r = some a' → ∀ c, c < C r → w.cell? (a'.add c) = some (.int .i64 ((Z r).getD c 0))) :
    MatA w (.slice (some a) len cap) (rowsOf len L Z) := by
  have e : ((List.range len).map fun r => Value.slice (A r) (L r) (C r)).length = len := by simp
  refine ⟨(List.range len).map fun r => Value.slice (A r) (L r) (C r), by simp [rowsOf], ⟨some a, cap, by rw [e], by omega, hm, (fun h => by cases h), fun h0 => ?_⟩, fun i u hu => ?_⟩
  · rw [e] at h0
    refine ⟨a, rfl, ?_, fun i hi => ?_⟩
    · have := World.block_lt_of_cell? _ _ (h 0 (by omega)).1
      rw [block_add] at this; exact this
    · rw [e] at hi
      rw [(h i (by omega)).1]; simp [hi]
  · have hi : i < len := by have := (List.getElem?_eq_some_iff.1 hu).1; rw [e] at this; exact this
    have hu2 : u = .slice (A i) (L i) (C i) := by
      simp [hi] at hu; exact hu.symm
    subst hu2
    rw [rowsOf_get _ _ _ _ hi]
    obtain ⟨_, h2, h3, h4, h5, h6⟩ := h i (by omega)
    exact slA_any h2 h3 h4 h5 h6
theorem rows_in64 {n : Nat} {L : Nat → Nat} {Z : Nat → List Int} (h : ∀ r, r < n → ∀ x ∈ Z r, (Lit.int .i64 x).wf = true) (i : Nat) : In64 ((rowsOf n L Z).getD i []) := by
  by_cases hi : i < n
  · rw [rowsOf_get _ _ _ _ hi]; exact (in64_of_wf (h i hi)).take _
  · rw [List.getD_eq_getElem?_getD, List.getElem?_eq_none (by simp [rowsOf]; omega)]; exact In64.nil
theorem MatA.nil (w : World) : MatA w (.slice none 0 0) [] := (Mat.nil w).toA
end Go.Proofs.YthbfgmgpploneaaDoor
