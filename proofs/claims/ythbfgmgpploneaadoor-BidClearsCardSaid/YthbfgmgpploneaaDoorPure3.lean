/- The rows of the table of best worths, as they are filled. -/
import Derived.Test.YthbfgmgpploneaaDoorPure2
import Derived.Test.YthbfgmgpploneaaDoorWords
set_option linter.unusedVariables false
set_option linter.unusedSimpArgs false
set_option linter.unnecessarySimpa false
namespace Go.Proofs.YthbfgmgpploneaaDoor
open Go Go.RowKit
/-- the row, when the sets below 'set' are done, and the bundles below s of 'set' -/
def rowAt (M : Nat) (b t : List Int) (on : Bool) (set s : Nat) : List Int :=
  (List.range M).map fun q => if q < set then bestTo b t on q (q + 1) else if q = set then bestTo b t on set s else 0
theorem rowAt_len (M : Nat) (b t : List Int) (on : Bool) (set s : Nat) : (rowAt M b t on set s).length = M := by simp [rowAt]
theorem rowAt_get (M : Nat) (b t : List Int) (on : Bool) (set s : Nat) (h : set < M) : (rowAt M b t on set s).getD set 0 = bestTo b t on set s := by simp [rowAt, h]
theorem rowAt_zero (M : Nat) (b t : List Int) (on : Bool) : rowAt M b t on 0 0 = List.replicate M 0 := by
  apply List.ext_getElem
  · simp [rowAt]
  · intro i h1 h2
    simp only [rowAt, List.getElem_map, List.getElem_range, Nat.not_lt_zero, if_false, List.getElem_replicate]
    split <;> simp [bestTo]
theorem rowAt_next (M : Nat) (b t : List Int) (on : Bool) (set : Nat) : rowAt M b t on set (set + 1) = rowAt M b t on (set + 1) 0 := by
  apply List.ext_getElem
  · simp [rowAt]
  · intro i h1 h2
    simp only [rowAt, List.getElem_map, List.getElem_range]
    rcases Nat.lt_trichotomy i set with h | h | h
    · rw [if_pos h, if_pos (by omega)]
    · subst h; rw [if_neg (by omega), if_pos rfl, if_pos (by omega)]
    · rw [if_neg (by omega), if_neg (by omega), if_neg (by omega)]
      by_cases h' : i = set + 1
      · subst h'; rw [if_pos rfl]; rfl
      · rw [if_neg h']
theorem rowAt_end (m : Nat) (b t : List Int) (on : Bool) : rowAt (2 ^ m) b t on (2 ^ m) 0 = rowT m b t on := by
  apply List.ext_getElem
  · simp [rowAt, rowT]
  · intro i h1 h2
    have hi : i < 2 ^ m := by simpa [rowAt] using h1
    simp only [rowAt, rowT, List.getElem_map, List.getElem_range]
    rw [if_pos hi]
theorem rowAt_set (M : Nat) (b t : List Int) (on : Bool) (set s : Nat) (v : Int) (hv : bestTo b t on set (s + 1) = v) : (rowAt M b t on set s).set set v = rowAt M b t on set (s + 1) := by
  apply List.ext_getElem
  · simp [rowAt]
  · intro i h1 h2
    rw [List.getElem_set]
    simp only [rowAt, List.getElem_map, List.getElem_range]
    by_cases h : set = i
    · subst h; rw [if_pos rfl, if_neg (by omega), if_pos rfl, hv]
    · rw [if_neg h]
      by_cases h' : i < set
      · rw [if_pos h', if_pos h']
      · rw [if_neg h', if_neg h', if_neg (by omega), if_neg (by omega)]
theorem rowAt_same (M : Nat) (b t : List Int) (on : Bool) (set s : Nat) (hv : bestTo b t on set (s + 1) = bestTo b t on set s) : rowAt M b t on set s = rowAt M b t on set (s + 1) := by
  unfold rowAt; rw [hv]
theorem bestTo_yes {b t : List Int} {on : Bool} {set s : Nat} (h : sans s set = 0) (h' : s = 0 ∨ on = true) : bestTo b t on set (s + 1) = max (bestTo b t on set s) (b.getD s 0 + t.getD (sans set s) 0) := by
  simp only [bestTo]; rw [if_pos ⟨h, h'⟩]
theorem bestTo_no {b t : List Int} {on : Bool} {set s : Nat} (h : ¬ (sans s set = 0 ∧ (s = 0 ∨ on = true))) : bestTo b t on set (s + 1) = bestTo b t on set s := by
  simp only [bestTo]; rw [if_neg h]
/-- the table, its rows from j on being done -/
def TabRel (TR T m : Nat) (bids : List (List Int)) (who : Nat) (w wr : World) (g j : Nat) : Prop :=
  ∃ vs : List Value, vs.length = bids.length + 1 ∧ Row TR wr g vs ∧ Below w.heap.size w wr ∧
    ∀ i, j ≤ i → i ≤ bids.length → ∃ h, w.heap.size ≤ h ∧ vs[i]? = some (.slice (some ⟨h, 0, none⟩) (2 ^ m) (2 ^ m)) ∧ Row T wr h (ints (tk m bids who i))
theorem TabRel.later {TR T m : Nat} {bids : List (List Int)} {who : Nat} {w wr wx : World} {g j : Nat} (h : TabRel TR T m bids who w wr g j) (hb : Below wr.heap.size wr wx) : TabRel TR T m bids who w wx g j := by
  obtain ⟨vs, hl, hr, hbl, hall⟩ := h
  refine ⟨vs, hl, hr.below hb hr.lt, hbl.trans (hb.mono hbl.size), fun i h1 h2 => ?_⟩
  obtain ⟨h, hh, hv, hrow⟩ := hall i h1 h2
  exact ⟨h, hh, hv, hrow.below hb hrow.lt⟩
theorem TabRel.below {TR T m : Nat} {bids : List (List Int)} {who : Nat} {w wr : World} {g j : Nat} (h : TabRel TR T m bids who w wr g j) : Below w.heap.size w wr := by
  obtain ⟨_, _, _, hbl, _⟩ := h; exact hbl
/-- the cells of the table -/
theorem TabRel.cell_at {TR T m : Nat} {bids : List (List Int)} {who : Nat} {w wr : World} {g j : Nat} (r : TabRel TR T m bids who w wr g j) (i s : Nat) (h1 : j ≤ i) (h2 : i ≤ bids.length) (hs : s < 2 ^ m) :
    ∃ h, wr.cell? ⟨g, i, none⟩ = some (.slice (some ⟨h, 0, none⟩) (2 ^ m) (2 ^ m)) ∧ wr.cell? ⟨h, s, none⟩ = some (.int .i64 ((tk m bids who i).getD s 0)) := by
  obtain ⟨vs, hl, hr, hbl, hall⟩ := r
  obtain ⟨h, hh, hv, hrow⟩ := hall i h1 h2
  exact ⟨h, by rw [hr.cell, hv], by rw [hrow.cell, ints_get _ _ (by rw [tk_len _ _ _ _ h2]; exact hs)]⟩
theorem TabRel.some_at {TR T m : Nat} {bids : List (List Int)} {who : Nat} {w wr : World} {g j : Nat} (r : TabRel TR T m bids who w wr g j) (i : Nat) (h2 : i ≤ bids.length) :
    (∃ u, wr.cell? ⟨g, i, none⟩ = some u) ∧ wr.frozen? ⟨g, i, none⟩ = false := by
  obtain ⟨vs, hl, hr, hbl, hall⟩ := r
  exact ⟨⟨vs[i]'(by omega), by rw [hr.cell]; exact List.getElem?_eq_getElem (by omega)⟩, hr.free i⟩
theorem TabRel.put {TR T m : Nat} {bids : List (List Int)} {who : Nat} {w wr : World} {g j h : Nat} (hne : TR ≠ T) (r : TabRel TR T m bids who w wr g (j + 1)) (hj : j ≤ bids.length) (hg : w.heap.size ≤ g) (hh : w.heap.size ≤ h) (hrow : Row T wr h (ints (tk m bids who j))) :
    TabRel TR T m bids who w (wr.setCell ⟨g, j, none⟩ (.slice (some ⟨h, 0, none⟩) (2 ^ m) (2 ^ m))) g j := by
  obtain ⟨vs, hl, hr, hbl, hall⟩ := r
  have hgh : ∀ {h' : Nat} {xs : List Value}, Row T wr h' xs → g ≠ h' := fun hx => hr.ne_ hx hne
  refine ⟨vs.set j (.slice (some ⟨h, 0, none⟩) (2 ^ m) (2 ^ m)), by simpa using hl, hr.store j _, hbl.setCell (p := ⟨g, j, none⟩) hg _, fun i h1 h2 => ?_⟩
  by_cases hij : i = j
  · subst hij
    exact ⟨h, hh, by rw [List.getElem?_set_self (by omega)], hrow.other _ (hgh hrow) _⟩
  · obtain ⟨h', hh', hv', hrow'⟩ := hall i (by omega) h2
    exact ⟨h', hh', by rw [List.getElem?_set_ne (fun e => hij e.symm)]; exact hv', hrow'.other _ (hgh hrow') _⟩
theorem TabRel.own {TR T m : Nat} {bids : List (List Int)} {who : Nat} {w wr : World} {g : Nat} (r : TabRel TR T m bids who w wr g 0) (hg : w.heap.size ≤ g) (hn : bids.length + 1 ≤ maxLen) (hM : 2 ^ m ≤ maxLen) :
    OwnM TR T w.heap.size wr (.slice (some ⟨g, 0, none⟩) (bids.length + 1) (bids.length + 1)) (tablesP m bids who) := by
  obtain ⟨vs, hl, hr, hbl, hall⟩ := r
  refine ⟨vs, by rw [tablesP_len, hl], ?_, fun i u hu => ?_⟩
  · rw [← hl]
    exact Own.of_row (more := []) (by rw [List.append_nil]; exact hr) hg (by omega) (by simp)
  · have hi : i < vs.length := (List.getElem?_eq_some_iff.1 hu).1
    obtain ⟨h, hh, hv, hrow⟩ := hall i (Nat.zero_le _) (by omega)
    rw [hu] at hv
    cases hv
    rw [tablesP_get _ _ _ _ (by omega)]
    have e : (ints (tk m bids who i)).length = 2 ^ m := by rw [ints_length, tk_len _ _ _ _ (by omega)]
    have h2 : wr.ownsRow w.heap.size T 1 (.slice (some ⟨h, 0, none⟩) (ints (tk m bids who i)).length (2 ^ m)) (ints (tk m bids who i)).length (ints (tk m bids who i)) :=
      Own.of_row (more := []) (by rw [List.append_nil]; exact hrow) hh hM (by rw [e]; simp)
    rw [e] at h2
    show wr.ownsRow _ _ _ _ _ _
    rw [e]; exact h2
end Go.Proofs.YthbfgmgpploneaaDoor
