/- The bidders of a set, what they get and what the others pay, as lists that grow. -/
import Derived.Test.YthbfgmgpploneaaDoorG3
set_option linter.unusedVariables false
set_option linter.unusedSimpArgs false
set_option linter.unnecessarySimpa false
namespace Go.Proofs.YthbfgmgpploneaaDoor
open Go.RowKit

/-- of the first k: the bidders of a set, what they are offered, and what the others pay -/
def selT (set : Nat) (bids : List (List Int)) : Nat → List (List Int)
  | 0 => []
  | k + 1 => if bt set k = true then selT set bids k ++ [bids.getD k []] else selT set bids k
def inT (set : Nat) (l : List Int) : Nat → List Int
  | 0 => []
  | k + 1 => if bt set k = true then inT set l k ++ [l.getD k 0] else inT set l k
def outT (set : Nat) (l : List Int) : Nat → List Int
  | 0 => []
  | k + 1 => if bt set k = true then outT set l k else outT set l k ++ [l.getD k 0]
theorem sel_snoc (who : Nat) (b : List Int) : ∀ (bs : List (List Int)) (j : Nat), sel who j (bs ++ [b]) = sel who j bs ++ (if bt who (j + bs.length) = true then [b] else [])
  | [], j => by
    show sel who j [b] = _
    unfold sel
    simp only [List.length_nil, Nat.add_zero]
    unfold sel
    rfl
  | c :: bs, j => by
    have ih := sel_snoc who b bs (j + 1)
    have e : j + 1 + bs.length = j + (c :: bs).length := by simp; omega
    rw [e] at ih
    show sel who j (c :: (bs ++ [b])) = sel who j (c :: bs) ++ _
    have e1 : sel who j (c :: (bs ++ [b])) = if bt who j = true then c :: sel who (j + 1) (bs ++ [b]) else sel who (j + 1) (bs ++ [b]) := rfl
    have e2 : sel who j (c :: bs) = if bt who j = true then c :: sel who (j + 1) bs else sel who (j + 1) bs := rfl
    rw [e1, e2, ih]
    split <;> simp
theorem selT_take (set : Nat) (bids : List (List Int)) (k : Nat) (hk : k ≤ bids.length) : selT set bids k = sel set 0 (bids.take k) := by
  induction k with
  | zero => simp [selT, sel]
  | succ k ih =>
    have hk' : k < bids.length := by omega
    rw [List.take_succ_eq_append_getElem hk', sel_snoc, ← ih (by omega), Nat.zero_add, List.length_take, Nat.min_eq_left (by omega)]
    have e : bids.getD k [] = bids[k] := by rw [List.getD_eq_getElem?_getD, List.getElem?_eq_getElem hk']; rfl
    simp only [selT, e]
    split <;> simp
theorem selT_sel (set : Nat) (bids : List (List Int)) : selT set bids bids.length = sel set 0 bids := by
  rw [selT_take _ _ _ (Nat.le_refl _), List.take_length]
theorem selT_in {set : Nat} {bids : List (List Int)} {k : Nat} (h : bt set k = true) : selT set bids (k + 1) = selT set bids k ++ [bids.getD k []] := if_pos h
theorem selT_out {set : Nat} {bids : List (List Int)} {k : Nat} (h : bt set k = false) : selT set bids (k + 1) = selT set bids k := if_neg (by rw [h]; decide)
theorem inT_in {set : Nat} {l : List Int} {k : Nat} (h : bt set k = true) : inT set l (k + 1) = inT set l k ++ [l.getD k 0] := if_pos h
theorem inT_out {set : Nat} {l : List Int} {k : Nat} (h : bt set k = false) : inT set l (k + 1) = inT set l k := if_neg (by rw [h]; decide)
theorem outT_in {set : Nat} {l : List Int} {k : Nat} (h : bt set k = true) : outT set l (k + 1) = outT set l k := if_pos h
theorem outT_out {set : Nat} {l : List Int} {k : Nat} (h : bt set k = false) : outT set l (k + 1) = outT set l k ++ [l.getD k 0] := if_neg (by rw [h]; decide)
theorem selT_len (set : Nat) (bids : List (List Int)) (k : Nat) : (selT set bids k).length ≤ k := by
  induction k with
  | zero => simp [selT]
  | succ k ih => simp only [selT]; split <;> first | (simp; omega) | omega
theorem inT_len (set : Nat) (l : List Int) (k : Nat) : (inT set l k).length ≤ k := by
  induction k with
  | zero => simp [inT]
  | succ k ih => simp only [inT]; split <;> first | (simp; omega) | omega
theorem outT_len (set : Nat) (l : List Int) (k : Nat) : (outT set l k).length ≤ k := by
  induction k with
  | zero => simp [outT]
  | succ k ih => simp only [outT]; split <;> first | (simp; omega) | omega
theorem selT_mem {set : Nat} {bids : List (List Int)} {k : Nat} (hk : k ≤ bids.length) : ∀ b ∈ selT set bids k, b ∈ bids := by
  induction k with
  | zero => simp [selT]
  | succ k ih =>
    intro b hb
    simp only [selT] at hb
    have hk' : k < bids.length := by omega
    split at hb
    · rcases List.mem_append.1 hb with h | h
      · exact ih (by omega) b h
      · have e : bids.getD k [] = bids[k] := by rw [List.getD_eq_getElem?_getD, List.getElem?_eq_getElem hk']; rfl
        rw [List.mem_singleton.1 h, e]
        exact List.getElem_mem hk'
    · exact ih (by omega) b hb
theorem offers_sel {m set : Nat} {bids : List (List Int)} (h : Offers m bids) : Offers m (selT set bids bids.length) := fun b hb => h b (selT_mem (Nat.le_refl _) b hb)
theorem addTo_append (a b : List Int) (k : Nat) (hk : k ≤ a.length) : addTo (a ++ b) k = addTo a k := by
  induction k with
  | zero => rfl
  | succ k ih =>
    simp only [addTo]
    rw [ih (by omega), List.getD_eq_getElem?_getD, List.getD_eq_getElem?_getD, List.getElem?_append_left (by omega)]
theorem addTo_snoc (a : List Int) (x : Int) : addTo (a ++ [x]) (a ++ [x]).length = addTo a a.length + x := by
  have e : (a ++ [x]).length = a.length + 1 := by simp
  rw [e]
  simp only [addTo]
  rw [addTo_append _ _ _ (Nat.le_refl _), List.getD_eq_getElem?_getD, List.getElem?_append_right (Nat.le_refl _)]
  simp
theorem inT_sum {bids : List (List Int)} {l : List Int} (set : Nat) (k : Nat) (hk : k ≤ l.length) : addTo (inT set (offP bids l) k) (inT set (offP bids l) k).length = ownTo bids l set k := by
  induction k with
  | zero => rfl
  | succ k ih =>
    cases hb : bt set k with
    | true =>
      rw [inT_in hb, addTo_snoc, ih (by omega), ownTo_in hb, offP_get _ _ _ (by omega)]
      rfl
    | false => rw [inT_out hb, ih (by omega), ownTo_out hb]
theorem outT_sum {p : List Int} (set : Nat) (k : Nat) : addTo (outT set p k) (outT set p k).length = restTo p set k := by
  induction k with
  | zero => rfl
  | succ k ih =>
    cases hb : bt set k with
    | true => rw [outT_in hb, ih, restTo_in hb]
    | false => rw [outT_out hb, addTo_snoc, ih, restTo_out hb]
theorem getD_snoc_bd {a : List Int} {x B : Int} (ha : ∀ i, 0 ≤ a.getD i 0 ∧ a.getD i 0 ≤ B) (hx : 0 ≤ x ∧ x ≤ B) : ∀ i, 0 ≤ (a ++ [x]).getD i 0 ∧ (a ++ [x]).getD i 0 ≤ B := fun i => by
  rw [List.getD_eq_getElem?_getD]
  rcases Nat.lt_trichotomy i a.length with h | h | h
  · rw [List.getElem?_append_left h, ← List.getD_eq_getElem?_getD]; exact ha i
  · subst h; rw [List.getElem?_append_right (Nat.le_refl _)]; simpa using hx
  · rw [List.getElem?_eq_none (by simp; omega)]
    show 0 ≤ (0 : Int) ∧ (0 : Int) ≤ B
    omega
theorem inT_bd {l : List Int} {B : Int} (hB : 0 ≤ B) (h : ∀ i, 0 ≤ l.getD i 0 ∧ l.getD i 0 ≤ B) (set : Nat) (k : Nat) : ∀ i, 0 ≤ (inT set l k).getD i 0 ∧ (inT set l k).getD i 0 ≤ B := by
  induction k with
  | zero => intro i; simp [inT]; exact hB
  | succ k ih =>
    simp only [inT]; split
    · exact getD_snoc_bd ih (h k)
    · exact ih
theorem outT_bd {l : List Int} {B : Int} (hB : 0 ≤ B) (h : ∀ i, 0 ≤ l.getD i 0 ∧ l.getD i 0 ≤ B) (set : Nat) (k : Nat) : ∀ i, 0 ≤ (outT set l k).getD i 0 ∧ (outT set l k).getD i 0 ≤ B := by
  induction k with
  | zero => intro i; simp [outT]; exact hB
  | succ k ih =>
    simp only [outT]; split
    · exact ih
    · exact getD_snoc_bd ih (h k)
/-- a slice of the call's own that holds slices of integers, which lie wherever they do -/
def OwnR (T base : Nat) (w : World) (v : Value) (rows : List (List Int)) : Prop :=
  ∃ vs, vs.length = rows.length ∧ Own T base w v vs ∧ ∀ i u, vs[i]? = some u → Sl w u (ints (rows.getD i []))
theorem OwnR.mat {T base : Nat} {w : World} {v : Value} {rows : List (List Int)} (h : OwnR T base w v rows) : Mat w v rows := by
  obtain ⟨vs, hl, hs, hr⟩ := h
  exact ⟨vs, hl, hs.sl, hr⟩
end Go.Proofs.YthbfgmgpploneaaDoor
