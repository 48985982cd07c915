/- Best worths do not depend on the order of the bidders. -/
import Derived.Test.YtoenpecdhjadmaaDoorR9
set_option linter.unusedVariables false
set_option linter.unusedSimpArgs false
set_option linter.unnecessarySimpa false
namespace Go.Proofs.YtoenpecdhjadmaaDoor
open Go.RowKit

theorem bestTo_ge {b t : List Int} {set u : Nat} (hu : sans u set = 0) : b.getD u 0 + t.getD (sans set u) 0 ≤ bestTo b t true set (set + 1) :=
  (takeF_to b t set (set + 1)).2.2 u (by have := le_of_sans hu; omega) hu
theorem sans_comm (a b c : Nat) : sans (sans a b) c = sans (sans a c) b := bt_ext fun i => by
  rw [bt_sans, bt_sans, bt_sans, bt_sans]
  cases bt a i <;> cases bt b i <;> cases bt c i <;> rfl
theorem sans_sub {u v s : Nat} (h : sans v (sans s u) = 0) : sans v s = 0 := sans_zero_iff.2 fun i hi => by
  have := sans_eq_zero h i hi
  rw [bt_sans] at this
  simp at this; exact this.1
theorem sans_apart {u v s : Nat} (hu : sans u s = 0) (h : sans v (sans s u) = 0) : sans u (sans s v) = 0 := sans_zero_iff.2 fun i hi => by
  rw [bt_sans, sans_eq_zero hu i hi]
  cases hv : bt v i with
  | false => rfl
  | true =>
    have := sans_eq_zero h i hv
    rw [bt_sans, hi] at this
    simp at this
def NonNeg (t : List Int) : Prop := ∀ s, 0 ≤ t.getD s 0
theorem rowT_nonneg (m : Nat) (b t : List Int) (on : Bool) : NonNeg (rowT m b t on) := fun s => by
  by_cases hs : s < 2 ^ m
  · rw [rowT_get _ _ _ _ _ hs]; exact bestTo_lo _ _ _ _ _
  · rw [rowT_out _ _ _ _ _ hs]; exact Int.le_refl _
theorem ext_getD {a b : List Int} (hl : a.length = b.length) (h : ∀ s, s < a.length → a.getD s 0 = b.getD s 0) : a = b := by
  apply List.ext_getElem hl
  intro i h1 h2
  have := h i h1
  rw [List.getD_eq_getElem?_getD, List.getD_eq_getElem?_getD, List.getElem?_eq_getElem h1, List.getElem?_eq_getElem h2] at this
  exact this
theorem swap_le {m : Nat} {b1 b2 t : List Int} (h1 : b1.getD 0 0 = 0) (h2 : b2.getD 0 0 = 0) (ht : NonNeg t) {s : Nat} (hs : s < 2 ^ m) :
    (rowT m b1 (rowT m b2 t true) true).getD s 0 ≤ (rowT m b2 (rowT m b1 t true) true).getD s 0 := by
  rw [rowT_get _ _ _ _ _ hs, rowT_get _ _ _ _ _ hs]
  obtain ⟨u, _, hu, hu2⟩ := bestTo_got (set := s) (b := b1) (t := rowT m b2 t true) h1 (rowT_nonneg m b2 t true) (s + 1) (by omega)
  have hsu : sans s u < 2 ^ m := Nat.lt_of_le_of_lt (sans_le _ _) hs
  obtain ⟨v, _, hv, hv2⟩ := bestTo_got (set := sans s u) (b := b2) (t := t) h2 ht (sans s u + 1) (by omega)
  rw [rowT_get _ _ _ _ _ hsu] at hu2
  have hvs := sans_sub hv
  have hsv : sans s v < 2 ^ m := Nat.lt_of_le_of_lt (sans_le _ _) hs
  have g1 := bestTo_ge (b := b2) (t := rowT m b1 t true) hvs
  rw [rowT_get _ _ _ _ _ hsv] at g1
  have g2 := bestTo_ge (b := b1) (t := t) (sans_apart hu hv)
  rw [sans_comm s v u] at g2
  omega
theorem row_swap {m : Nat} {b1 b2 t : List Int} (h1 : b1.getD 0 0 = 0) (h2 : b2.getD 0 0 = 0) (ht : NonNeg t) : rowT m b1 (rowT m b2 t true) true = rowT m b2 (rowT m b1 t true) true := by
  refine ext_getD (by rw [rowT_len, rowT_len]) fun s hs => ?_
  rw [rowT_len] at hs
  have := swap_le h1 h2 ht hs
  have := swap_le h2 h1 ht hs
  omega
def addAll (m : Nat) (bs : List (List Int)) (t : List Int) : List Int := bs.foldl (fun t b => rowT m b t true) t
theorem addAll_nonneg (m : Nat) : ∀ (bs : List (List Int)) (t : List Int), NonNeg t → NonNeg (addAll m bs t)
  | [], _, h => h
  | b :: bs, t, _ => addAll_nonneg m bs _ (rowT_nonneg m b t true)
theorem addAll_len (m : Nat) : ∀ (bs : List (List Int)) (t : List Int), t.length = 2 ^ m → (addAll m bs t).length = 2 ^ m
  | [], _, h => h
  | b :: bs, t, _ => addAll_len m bs _ (rowT_len m b t true)
theorem addAll_row (m : Nat) : ∀ (bs : List (List Int)) (b t : List Int), (∀ c ∈ bs, c.getD 0 0 = 0) → b.getD 0 0 = 0 → NonNeg t → addAll m bs (rowT m b t true) = rowT m b (addAll m bs t) true
  | [], _, _, _, _, _ => rfl
  | c :: bs, b, t, hc, hb, ht => by
    show addAll m bs (rowT m c (rowT m b t true) true) = rowT m b (addAll m bs (rowT m c t true)) true
    rw [row_swap (hc c (by simp)) hb ht]
    exact addAll_row m bs b _ (fun d hd => hc d (by simp [hd])) hb (rowT_nonneg m c t true)
/-- the bidders of a set -/
def sel (who : Nat) : Nat → List (List Int) → List (List Int)
  | _, [] => []
  | k, b :: bs => if bt who k = true then b :: sel who (k + 1) bs else sel who (k + 1) bs
theorem bestTo_off {b t : List Int} {set : Nat} (h0 : b.getD 0 0 = 0) (ht : NonNeg t) : ∀ k, 0 < k → bestTo b t false set k = t.getD set 0 := by
  intro k
  induction k with
  | zero => intro h; omega
  | succ k ih =>
    intro _
    simp only [bestTo]
    by_cases hk : k = 0
    · subst hk
      rw [if_pos ⟨zero_sans _, Or.inl rfl⟩, sans_zero]
      have := ht set
      simp only [bestTo]; omega
    · rw [if_neg (by rintro ⟨_, h | h⟩; exact hk h; cases h)]
      exact ih (by omega)
theorem rowT_off {m : Nat} {b t : List Int} (h0 : b.getD 0 0 = 0) (ht : NonNeg t) (hl : t.length = 2 ^ m) : rowT m b t false = t := by
  refine ext_getD (by rw [rowT_len, hl]) fun s hs => ?_
  rw [rowT_len] at hs
  rw [rowT_get _ _ _ _ _ hs]
  exact bestTo_off h0 ht _ (by omega)
theorem sel_zero (who : Nat) : ∀ (k : Nat) (bs : List (List Int)), (∀ c ∈ bs, c.getD 0 0 = 0) → ∀ c ∈ sel who k bs, c.getD 0 0 = 0
  | _, [], _ => fun c hc => by cases hc
  | k, b :: bs, h => by
    intro c hc
    unfold sel at hc
    split at hc
    · rcases List.mem_cons.1 hc with rfl | hc
      · exact h _ (by simp)
      · exact sel_zero who (k + 1) bs (fun d hd => h d (by simp [hd])) c hc
    · exact sel_zero who (k + 1) bs (fun d hd => h d (by simp [hd])) c hc
theorem nonneg_zeros (n : Nat) : NonNeg (List.replicate n 0) := fun s => by
  rw [List.getD_eq_getElem?_getD, List.getElem?_replicate]; split <;> simp
theorem tabs_sel (m who : Nat) : ∀ (bs : List (List Int)) (k : Nat), (∀ c ∈ bs, c.getD 0 0 = 0) → (tabs m who k bs).headD [] = addAll m (sel who k bs) (List.replicate (2 ^ m) 0)
  | [], _, _ => rfl
  | b :: bs, k, h => by
    have ih := tabs_sel m who bs (k + 1) (fun c hc => h c (by simp [hc]))
    have hz := nonneg_zeros (2 ^ m)
    show rowT m b ((tabs m who (k + 1) bs).headD []) (bt who k) = _
    rw [ih]
    have e : sel who k (b :: bs) = if bt who k = true then b :: sel who (k + 1) bs else sel who (k + 1) bs := rfl
    rw [e]
    cases hb : bt who k with
    | true =>
      rw [if_pos rfl]
      exact (addAll_row m (sel who (k + 1) bs) b _ (sel_zero who _ _ (fun c hc => h c (by simp [hc]))) (h b (by simp)) hz).symm
    | false =>
      rw [if_neg (by decide)]
      exact rowT_off (h b (by simp)) (addAll_nonneg m _ _ hz) (addAll_len m _ _ (by simp))
theorem rowT_congr {m : Nat} {b t t' : List Int} (hm : m ≤ 6) (h : ∀ s, s < 64 → t.getD s 0 = t'.getD s 0) : rowT m b t true = rowT m b t' true := by
  have hM := pow_le64 hm
  refine ext_getD (by rw [rowT_len, rowT_len]) fun s hs => ?_
  rw [rowT_len] at hs
  rw [rowT_get _ _ _ _ _ hs, rowT_get _ _ _ _ _ hs]
  exact bestTo_congr h (by omega) _
theorem addAll_start {m : Nat} (hm : m ≤ 6) (bs : List (List Int)) (s : Nat) : (addAll m bs []).getD s 0 = (addAll m bs (List.replicate (2 ^ m) 0)).getD s 0 := by
  have hz : ∀ s, ([] : List Int).getD s 0 = (List.replicate (2 ^ m) (0 : Int)).getD s 0 := fun s => by
    rw [List.getD_eq_getElem?_getD, List.getD_eq_getElem?_getD, List.getElem?_replicate]; split <;> rfl
  cases bs with
  | nil => exact hz s
  | cons b bs =>
    show (addAll m bs (rowT m b [] true)).getD s 0 = (addAll m bs (rowT m b (List.replicate (2 ^ m) 0) true)).getD s 0
    rw [rowT_congr hm (fun s _ => hz s)]
/-- the best worth of a set of bidders is that of them alone -/
theorem worthP_alone {m : Nat} {bids : List (List Int)} (hm : m ≤ 6) (h : Offers m bids) (who : Nat) : aloneP m (sel who 0 bids) = worthP m bids who := by
  unfold aloneP worthP tk
  rw [List.drop_zero, tabs_sel m who bids 0 (fun c hc => offerB_zero (h c hc)), ← addAll_start hm]
  unfold upTo addAll
  rw [List.take_length]
theorem sel_all (who : Nat) : ∀ (bs : List (List Int)) (k : Nat), (∀ j, k ≤ j → j < k + bs.length → bt who j = true) → sel who k bs = bs
  | [], _, _ => rfl
  | b :: bs, k, h => by
    unfold sel
    rw [if_pos (h k (Nat.le_refl _) (by simp))]
    rw [sel_all who bs (k + 1) (fun j h1 h2 => h j (by omega) (by simp at h2 ⊢; omega))]
theorem sel_but (who i : Nat) : ∀ (bs : List (List Int)) (k : Nat), k ≤ i → (∀ j, k ≤ j → j < k + bs.length → bt who j = !(decide (j = i))) → sel who k bs = bs.eraseIdx (i - k)
  | [], _, _, _ => rfl
  | b :: bs, k, hk, h => by
    unfold sel
    have h0 := h k (Nat.le_refl _) (by simp)
    by_cases he : k = i
    · subst he
      rw [h0, if_neg (by simp), Nat.sub_self]
      refine sel_all who bs (k + 1) fun j h1 h2 => ?_
      rw [h j (by omega) (by simp at h2 ⊢; omega)]
      simp; omega
    · rw [h0, if_pos (by simp [he])]
      have e : i - k = (i - (k + 1)) + 1 := by omega
      rw [e, List.eraseIdx_cons_succ]
      rw [sel_but who i bs (k + 1) (by omega) (fun j h1 h2 => h j (by omega) (by simp at h2 ⊢; omega))]
theorem worthP_but {m : Nat} {bids : List (List Int)} (hm : m ≤ 6) (h : Offers m bids) {i : Nat} (hi : i < bids.length) : aloneP m (bids.eraseIdx i) = worthP m bids (sans (2 ^ bids.length - 1) (2 ^ i)) := by
  rw [← worthP_alone hm h, sel_but _ i bids 0 (Nat.zero_le _) fun j _ hj => ?_]
  · rfl
  · rw [bt_sans, bt_ones _ _ (by omega), bt_pow]
    simp
    omega
theorem othersTo_eq (bids : List (List Int)) (l : List Int) (i : Nat) (k : Nat) (hk : k ≤ l.length) : othersTo bids l i k = addTo (offP bids l) k - (if i < k then offAt bids l i else 0) := by
  induction k with
  | zero => simp [othersTo, addTo]
  | succ k ih =>
    have hi := ih (by omega)
    have e : addTo (offP bids l) (k + 1) = addTo (offP bids l) k + offAt bids l k := by
      show _ + (offP bids l).getD k 0 = _
      rw [offP_get _ _ _ (by omega)]
    rw [e]
    simp only [othersTo]
    by_cases hki : k = i
    · subst hki
      rw [if_pos rfl, hi, if_neg (by omega), if_pos (by omega)]; omega
    · rw [if_neg hki, hi]
      show _ + offAt bids l k = _
      by_cases hlt : i < k
      · rw [if_pos hlt, if_pos (by omega)]; omega
      · rw [if_neg hlt, if_neg (by omega)]; omega
end Go.Proofs.YtoenpecdhjadmaaDoor
