/- Best worths grow with the bidders and with what they offer; what all offer for their bundles is a core payment list. -/
import Derived.Test.YthbfgmgpploneaaDoorK0
set_option linter.unusedVariables false
set_option linter.unusedSimpArgs false
set_option linter.unnecessarySimpa false
namespace Go.Proofs.YthbfgmgpploneaaDoor
open Go.RowKit

theorem bestTo_mono {b b' t t' : List Int} {on on' : Bool} {set : Nat} (hb : ∀ s, b.getD s 0 ≤ b'.getD s 0) (ht : ∀ s, t.getD s 0 ≤ t'.getD s 0) (ho : on = true → on' = true) (k : Nat) : bestTo b t on set k ≤ bestTo b' t' on' set k := by
  induction k with
  | zero => exact Int.le_refl 0
  | succ k ih =>
    simp only [bestTo]
    by_cases hc : sans k set = 0 ∧ (k = 0 ∨ on = true)
    · have hc' : sans k set = 0 ∧ (k = 0 ∨ on' = true) := ⟨hc.1, hc.2.imp id ho⟩
      rw [if_pos hc, if_pos hc']
      have h1 := hb k
      have h2 := ht (sans set k)
      omega
    · rw [if_neg hc]
      split
      · omega
      · exact ih
theorem rowT_mono {m : Nat} {b b' t t' : List Int} {on on' : Bool} (hb : ∀ s, b.getD s 0 ≤ b'.getD s 0) (ht : ∀ s, t.getD s 0 ≤ t'.getD s 0) (ho : on = true → on' = true) (s : Nat) : (rowT m b t on).getD s 0 ≤ (rowT m b' t' on').getD s 0 := by
  by_cases hs : s < 2 ^ m
  · rw [rowT_get _ _ _ _ _ hs, rowT_get _ _ _ _ _ hs]; exact bestTo_mono hb ht ho _
  · rw [rowT_out _ _ _ _ _ hs, rowT_out _ _ _ _ _ hs]; exact Int.le_refl _
theorem tk_mono {m : Nat} {bids bids' : List (List Int)} {who who' : Nat} (hl : bids'.length = bids.length) (hb : ∀ i s, (bids.getD i []).getD s 0 ≤ (bids'.getD i []).getD s 0) (hw : ∀ i, i < bids.length → bt who i = true → bt who' i = true) :
    ∀ j k, k + j = bids.length → ∀ s, (tk m bids who k).getD s 0 ≤ (tk m bids' who' k).getD s 0 := by
  intro j
  induction j with
  | zero =>
    intro k hk s
    have : k = bids.length := by omega
    subst this
    have e := tk_end m bids' who'
    rw [hl] at e
    rw [tk_end, e]
    exact Int.le_refl _
  | succ j ih =>
    intro k hk s
    rw [tk_step _ _ _ _ (by omega), tk_step _ bids' _ _ (by omega)]
    exact rowT_mono (hb k) (ih (k + 1) (by omega)) (hw k (by omega)) s
theorem worthP_mono {m : Nat} {bids bids' : List (List Int)} {who who' : Nat} (hl : bids'.length = bids.length) (hb : ∀ i s, (bids.getD i []).getD s 0 ≤ (bids'.getD i []).getD s 0) (hw : ∀ i, i < bids.length → bt who i = true → bt who' i = true) : worthP m bids who ≤ worthP m bids' who' :=
  tk_mono hl hb hw bids.length 0 (by omega) _
theorem worthP_all {m : Nat} {bids : List (List Int)} (set : Nat) : worthP m bids set ≤ worthP m bids (2 ^ bids.length - 1) :=
  worthP_mono rfl (fun _ _ => Int.le_refl _) (fun i hi _ => bt_ones _ _ hi)
theorem aloneP_all {m : Nat} {bids : List (List Int)} (hm : m ≤ 6) (h : Offers m bids) : aloneP m bids = worthP m bids (2 ^ bids.length - 1) := by
  rw [← worthP_alone hm h, sel_all _ _ _ (fun j _ hj => bt_ones _ _ (by omega))]
/-- one bidder more -/
theorem worthP_more {m : Nat} {bids : List (List Int)} {o : List Int} (hm : m ≤ 6) (h : Offers m bids) (ho : offerB m o = true) : worthP m bids (2 ^ bids.length - 1) ≤ worthP m (bids ++ [o]) (2 ^ (bids ++ [o]).length - 1) := by
  have h2 : Offers m (bids ++ [o]) := fun b hb => by
    rcases List.mem_append.1 hb with hb | hb
    · exact h b hb
    · rw [List.mem_singleton.1 hb]; exact ho
  rw [← aloneP_all hm h, ← aloneP_all hm h2]
  unfold aloneP
  have e : (bids ++ [o]).length = bids.length + 1 := by simp
  have e2 : (bids ++ [o]).getD bids.length [] = o := by rw [List.getD_eq_getElem?_getD, List.getElem?_append_right (Nat.le_refl _)]; simp
  have e3 : upTo m (bids ++ [o]) bids.length = upTo m bids bids.length := by unfold upTo; rw [List.take_append_of_le_length (Nat.le_refl _)]
  have hM := pow_pos2 m
  rw [e, upTo_succ _ _ _ (by omega), e2, e3, rowT_get _ _ _ _ _ (by omega)]
  have := bestTo_ge (b := o) (t := upTo m bids bids.length) (set := 2 ^ m - 1) (u := 0) (zero_sans _)
  rw [offerB_zero ho, sans_zero] at this
  omega
/-- each offer for a bundle below k that is not empty is 3 higher -/
def raise (b : List Int) (k : Nat) : List Int := (List.range b.length).map fun s => if 1 ≤ s ∧ s < k then b.getD s 0 + 3 else b.getD s 0
theorem raise_len (b : List Int) (k : Nat) : (raise b k).length = b.length := by simp [raise]
theorem raise_get (b : List Int) (k s : Nat) (hs : s < b.length) : (raise b k).getD s 0 = if 1 ≤ s ∧ s < k then b.getD s 0 + 3 else b.getD s 0 := by simp [raise, hs]
theorem raise_out (b : List Int) (k s : Nat) (hs : ¬ s < b.length) : (raise b k).getD s 0 = 0 := by
  rw [List.getD_eq_getElem?_getD, List.getElem?_eq_none (by rw [raise_len]; omega)]; rfl
theorem raise_one (b : List Int) : raise b 1 = b := by
  refine ext_getD (raise_len _ _) fun s hs => ?_
  rw [raise_len] at hs
  rw [raise_get _ _ _ hs, if_neg (by omega)]
theorem raise_set (b : List Int) (k : Nat) (h1 : 1 ≤ k) (hk : k < b.length) : (raise b k).set k (b.getD k 0 + 3) = raise b (k + 1) := by
  refine ext_getD (by simp [raise]) fun s hs => ?_
  have hs' : s < b.length := by simpa [raise] using hs
  rw [raise_get _ _ _ hs']
  by_cases e : k = s
  · subst e
    rw [getD_set_same _ _ _ _ (by rw [raise_len]; exact hk), if_pos ⟨h1, by omega⟩]
  · rw [getD_set_other _ _ _ _ _ e, raise_get _ _ _ hs']
    by_cases h : 1 ≤ s ∧ s < k
    · rw [if_pos h, if_pos ⟨h.1, by omega⟩]
    · rw [if_neg h, if_neg (by omega)]
theorem raise_at (b : List Int) (k : Nat) (hk : k < b.length) : (raise b k).getD k 0 = b.getD k 0 := by rw [raise_get _ _ _ hk, if_neg (by omega)]
theorem raise_bd (b : List Int) (h : ∀ s, 0 ≤ b.getD s 0 ∧ b.getD s 0 ≤ 39) (k s : Nat) : 0 ≤ (raise b k).getD s 0 ∧ (raise b k).getD s 0 ≤ 42 := by
  by_cases hs : s < b.length
  · rw [raise_get _ _ _ hs]; have := h s; split <;> omega
  · rw [raise_out _ _ _ hs]; omega
theorem raise_ge (b : List Int) (k s : Nat) : b.getD s 0 ≤ (raise b k).getD s 0 ∧ (raise b k).getD s 0 ≤ b.getD s 0 + 3 := by
  by_cases hs : s < b.length
  · rw [raise_get _ _ _ hs]; split <;> omega
  · rw [raise_out _ _ _ hs, List.getD_eq_getElem?_getD, List.getElem?_eq_none (by omega)]; simp
theorem raise_offer {m : Nat} {b : List Int} (h : Offer39 m b) : offerB m (raise b b.length) = true := by
  obtain ⟨ho, h39⟩ := h
  have hlen := offerB_len ho
  have hz := offerB_zero ho
  have hp := pow_pos2 m
  have hall := ho
  unfold offerB at hall ⊢
  simp only [Bool.and_eq_true, beq_iff_eq, List.all_eq_true, List.mem_range] at hall ⊢
  refine ⟨⟨by rw [raise_len]; exact hlen, ?_⟩, fun s hs => ?_⟩
  · rw [raise_get _ _ _ (by omega), if_neg (by omega)]; exact hz
  · rw [raise_len] at hs
    have h0 := hall.2 s hs
    have hbd := raise_bd b h39 b.length s
    unfold offerAt at h0 ⊢
    simp only [Bool.and_eq_true, decide_eq_true_eq, List.all_eq_true, List.mem_range, Bool.not_eq_true', Bool.and_eq_false_iff, decide_eq_false_iff_not] at h0 ⊢
    refine ⟨⟨hbd.1, by omega⟩, fun i hi => ?_⟩
    cases hb : bt s i with
    | false => exact .inl rfl
    | true =>
      right
      have h1 := (h0.2 i hi).resolve_left (by rw [hb]; decide)
      have hs1 : sans s (2 ^ i) < b.length := Nat.lt_of_le_of_lt (sans_le _ _) hs
      rw [raise_get _ _ _ hs, raise_get _ _ _ hs1]
      have hs0 : 1 ≤ s := by
        rcases Nat.eq_zero_or_pos s with h | h
        · subst h; rw [bt_eq] at hb; simp at hb
        · exact h
      rw [if_pos ⟨hs0, hs⟩]
      split <;> omega
theorem bestTo_plus {b b' t : List Int} {on : Bool} {set : Nat} (hb : ∀ s, b'.getD s 0 ≤ b.getD s 0 + 3) (k : Nat) : bestTo b' t on set k ≤ bestTo b t on set k + 3 := by
  induction k with
  | zero => show (0 : Int) ≤ 0 + 3; omega
  | succ k ih =>
    simp only [bestTo]
    have h1 := hb k
    split <;> omega
theorem set0_getD {α : Type} (bids : List α) (x d : α) (i : Nat) (h : 0 < bids.length) : (bids.set 0 x).getD i d = if i = 0 then x else bids.getD i d := by
  by_cases e : i = 0
  · subst e; rw [if_pos rfl, getD_set_same _ _ _ _ h]
  · rw [if_neg e, getD_set_other _ _ _ _ _ (fun h => e h.symm)]
/-- a higher offer -/
theorem worthP_high {m : Nat} {bids : List (List Int)} {b' : List Int} (h1 : 1 ≤ bids.length) (hb : ∀ s, (bids.getD 0 []).getD s 0 ≤ b'.getD s 0 ∧ b'.getD s 0 ≤ (bids.getD 0 []).getD s 0 + 3) (who : Nat) :
    worthP m bids who ≤ worthP m (bids.set 0 b') who ∧ worthP m (bids.set 0 b') who ≤ worthP m bids who + 3 := by
  have hM := pow_pos2 m
  refine ⟨worthP_mono (by simp) (fun i s => ?_) (fun _ _ h => h), ?_⟩
  · rw [set0_getD _ _ _ _ h1]
    split
    · rename_i e; subst e; exact (hb s).1
    · exact Int.le_refl _
  · have e : tk m (bids.set 0 b') who 1 = tk m bids who 1 := by
      unfold tk
      cases bids with
      | nil => rfl
      | cons c cs => rfl
    unfold worthP
    rw [tk_step m (bids.set 0 b') who 0 (by simp; omega), tk_step m bids who 0 h1, set0_getD _ _ _ _ h1, if_pos rfl, e, rowT_get _ _ _ _ _ (by omega), rowT_get _ _ _ _ _ (by omega)]
    exact bestTo_plus (fun s => (hb s).2) _
theorem offers_high {m : Nat} {bids : List (List Int)} (h : ∀ b, b ∈ bids → Offer39 m b) (h1 : 1 ≤ bids.length) : Offers m (bids.set 0 (raise (bids.getD 0 []) (bids.getD 0 []).length)) := by
  intro b hb
  rcases List.mem_or_eq_of_mem_set hb with h2 | h2
  · exact (h b h2).1
  · rw [h2]
    refine raise_offer (h _ ?_)
    rw [List.getD_eq_getElem?_getD, List.getElem?_eq_getElem h1]
    exact List.getElem_mem h1
theorem own_rest {bids : List (List Int)} {l : List Int} (set k : Nat) (hk : k ≤ l.length) : ownTo bids l set k + restTo (offP bids l) set k = addTo (offP bids l) k := by
  induction k with
  | zero => rfl
  | succ k ih =>
    have ih := ih (by omega)
    have e := offP_get bids l k (by omega)
    have e2 : offAt bids l k = (bids.getD k []).getD (l.getD k 0).toNat 0 := rfl
    simp only [ownTo, restTo, addTo]
    split <;> omega
/-- what all offer for their bundles is a core payment list -/
theorem core_offered {m : Nat} {bids : List (List Int)} (h : Offers m bids) : coreP m bids (offP bids (bestP m bids)) = true := by
  refine (coreP_iff m bids _).2 ⟨fun i hi => ?_, fun set hs => ?_⟩
  · rw [offP_get _ _ _ (by rw [bestP_len]; exact hi)]
    have := offAt_bd h (bestP m bids) i
    have e : offAt bids (bestP m bids) i = (bids.getD i []).getD (pick m bids i) 0 := by
      unfold offAt; rw [bestP_get _ _ _ hi, Int.toNat_natCast]
    omega
  · have h1 := own_rest (bids := bids) (l := bestP m bids) set bids.length (by rw [bestP_len]; exact Nat.le_refl _)
    have h2 := best_worth h
    rw [offP_len, bestP_len] at h2
    have h3 := worthP_all (m := m) (bids := bids) set
    omega
end Go.Proofs.YthbfgmgpploneaaDoor
