/- No one gains by a lie: allocations, payments, one item. -/
/- The program's IsAllocation at an allocation; Payments, Gain and Second at what is right. -/
/- BidVickrey's walk. -/
import Derived.Test.YthbfgmgpploneaaDoorV2
set_option linter.unusedVariables false
set_option linter.unusedSimpArgs false
set_option linter.unnecessarySimpa false
namespace Go.Proofs.YthbfgmgpploneaaDoor
open Go.RowKit

/-- what is left of the items behind the first k bundles -/
def leftL (m : Nat) (l : List Int) : Nat → Nat
  | 0 => 2 ^ m - 1
  | k + 1 => sans (leftL m l k) (l.getD k 0).toNat
/-- each of the first n bundles is one of what is left for it -/
def Fits (m : Nat) (l : List Int) (n : Nat) : Prop := ∀ k, k < n → sans (l.getD k 0).toNat (leftL m l k) = 0
theorem leftL_lt (m : Nat) (l : List Int) (k : Nat) : leftL m l k < 2 ^ m := by
  induction k with
  | zero => have := pow_pos2 m; simp only [leftL]; omega
  | succ k ih => simp only [leftL]; exact Nat.lt_of_le_of_lt (sans_le _ _) ih
theorem sans_trans {u s t : Nat} (h : sans u s = 0) (h' : sans s t = 0) : sans u t = 0 := sans_zero_iff.2 fun i hi => sans_eq_zero h' i (sans_eq_zero h i hi)
theorem sans_mono {s t : Nat} (h : sans s t = 0) (u : Nat) : sans (sans s u) (sans t u) = 0 := sans_zero_iff.2 fun i hi => by
  rw [bt_sans] at hi ⊢
  simp at hi ⊢
  exact ⟨sans_eq_zero h i hi.1, hi.2⟩
theorem sans_part (s u : Nat) : sans (sans s u) s = 0 := sans_zero_iff.2 fun i hi => by
  rw [bt_sans] at hi; simp at hi; exact hi.1
theorem tk_nonneg {m : Nat} {bids : List (List Int)} (h : Offers m bids) (who k : Nat) (hk : k ≤ bids.length) : NonNeg (tk m bids who k) := fun s => (tk_bounds h who (bids.length - k) k (by omega) s).1
/-- more items, more worth -/
theorem tk_sub {m : Nat} {bids : List (List Int)} (h : Offers m bids) (who : Nat) : ∀ j k, k + j = bids.length → ∀ s s', sans s s' = 0 → s' < 2 ^ m → (tk m bids who k).getD s 0 ≤ (tk m bids who k).getD s' 0 := by
  intro j
  induction j with
  | zero =>
    intro k hk s s' hs hl
    have : k = bids.length := by omega
    subst this
    rw [tk_end]
    have hz : ∀ x, (List.replicate (2 ^ m) (0 : Int)).getD x 0 = 0 := fun x => by
      rw [List.getD_eq_getElem?_getD, List.getElem?_replicate]; split <;> rfl
    rw [hz, hz]; exact Int.le_refl _
  | succ j ih =>
    intro k hk s s' hs hl
    have hkl : k < bids.length := by omega
    have hsl : s < 2 ^ m := Nat.lt_of_le_of_lt (le_of_sans hs) hl
    have h0 := offerB_zero (h.at_ hkl)
    have hn := tk_nonneg h who (k + 1) (by omega)
    rw [tk_step _ _ _ _ hkl, rowT_get _ _ _ _ _ hsl, rowT_get _ _ _ _ _ hl]
    cases bt who k with
    | true =>
      obtain ⟨u, _, hu, hu2⟩ := bestTo_got (set := s) h0 hn (s + 1) (by omega)
      have g := bestTo_ge (b := bids.getD k []) (t := tk m bids who (k + 1)) (sans_trans hu hs)
      have := ih (k + 1) (by omega) (sans s u) (sans s' u) (sans_mono hs u) (Nat.lt_of_le_of_lt (sans_le _ _) hl)
      omega
    | false =>
      rw [bestTo_off h0 hn _ (by omega), bestTo_off h0 hn _ (by omega)]
      exact ih (k + 1) (by omega) s s' hs hl
/-- no allocation is worth more than the best one -/
theorem fits_worth {m : Nat} {bids : List (List Int)} {l : List Int} (h : Offers m bids) (hf : Fits m l bids.length) (who : Nat) : ownTo bids l who bids.length ≤ worthP m bids who := by
  have key : ∀ j k, k + j = bids.length → ownTo bids l who bids.length - ownTo bids l who k ≤ (tk m bids who k).getD (leftL m l k) 0 := by
    intro j
    induction j with
    | zero =>
      intro k hk
      have : k = bids.length := by omega
      subst this
      have := tk_nonneg h who bids.length (Nat.le_refl _) (leftL m l bids.length)
      omega
    | succ j ih =>
      intro k hk
      have hkl : k < bids.length := by omega
      have h0 := offerB_zero (h.at_ hkl)
      have hn := tk_nonneg h who (k + 1) (by omega)
      have hi := ih (k + 1) (by omega)
      have hl := leftL_lt m l k
      have e : leftL m l (k + 1) = sans (leftL m l k) (l.getD k 0).toNat := rfl
      rw [e] at hi
      rw [tk_step _ _ _ _ hkl, rowT_get _ _ _ _ _ hl]
      cases hb : bt who k with
      | true =>
        have g := bestTo_ge (b := bids.getD k []) (t := tk m bids who (k + 1)) (hf k hkl)
        rw [ownTo_in hb] at hi
        omega
      | false =>
        rw [bestTo_off h0 hn _ (by omega)]
        have g := tk_sub h who j (k + 1) (by omega) _ _ (sans_part (leftL m l k) (l.getD k 0).toNat) hl
        rw [ownTo_out hb] at hi
        omega
  have := key bids.length 0 (by omega)
  have e : ownTo bids l who 0 = 0 := rfl
  rw [e] at this
  unfold worthP
  have e2 : leftL m l 0 = 2 ^ m - 1 := rfl
  rw [e2] at this
  omega
theorem leftL_best {m : Nat} {bids : List (List Int)} (k : Nat) (hk : k ≤ bids.length) : leftL m (bestP m bids) k = leftAt m bids k := by
  induction k with
  | zero => rfl
  | succ k ih =>
    have e : leftL m (bestP m bids) (k + 1) = sans (leftL m (bestP m bids) k) ((bestP m bids).getD k 0).toNat := rfl
    rw [e, ih (by omega), bestP_get _ _ _ (by omega), Int.toNat_natCast, leftAt_succ]
theorem best_fits {m : Nat} {bids : List (List Int)} (h : Offers m bids) : Fits m (bestP m bids) bids.length := fun k hk => by
  rw [leftL_best k (by omega), bestP_get _ _ _ hk, Int.toNat_natCast]; exact pick_sub h hk
theorem ownTo_but {bids : List (List Int)} {l : List Int} (i n k : Nat) (hk : k ≤ n) : ownTo bids l (sans (2 ^ n - 1) (2 ^ i)) k = othersTo bids l i k := by
  induction k with
  | zero => rfl
  | succ k ih =>
    have ih := ih (by omega)
    simp only [ownTo, othersTo]
    rw [ih, bt_sans, bt_ones _ _ (by omega), bt_pow]
    by_cases e : i = k
    · subst e; simp
    · have e' : ¬ k = i := fun h => e h.symm
      simp [e, e']
theorem ownTo_all {bids : List (List Int)} {l : List Int} (i n k : Nat) (hk : k ≤ n) : ownTo bids l (2 ^ n - 1) k = othersTo bids l i k + if i < k then (bids.getD i []).getD (l.getD i 0).toNat 0 else 0 := by
  induction k with
  | zero => rfl
  | succ k ih =>
    have ih := ih (by omega)
    simp only [ownTo, othersTo]
    rw [ih, bt_ones _ _ (by omega), if_pos rfl]
    by_cases e : k = i
    · subst e
      rw [if_pos rfl, if_neg (by omega), if_pos (by omega)]; omega
    · rw [if_neg e]
      by_cases h : i < k
      · rw [if_pos h, if_pos (by omega)]; omega
      · rw [if_neg h, if_neg (by omega)]; omega
/-- what bidder i is offered, and its payment -/
theorem pay_bounds {m : Nat} {bids : List (List Int)} (h : Offers m bids) {i : Nat} (hi : i < bids.length) :
    0 ≤ payOf m bids i ∧ payOf m bids i ≤ offAt bids (bestP m bids) i ∧ offAt bids (bestP m bids) i - payOf m bids i = worthP m bids (2 ^ bids.length - 1) - worthP m bids (sans (2 ^ bids.length - 1) (2 ^ i)) := by
  have h1 := fits_worth h (best_fits h) (sans (2 ^ bids.length - 1) (2 ^ i))
  rw [ownTo_but i bids.length bids.length (Nat.le_refl _)] at h1
  have h2 := best_worth h
  rw [offP_len, bestP_len] at h2
  have h3 := othersTo_eq bids (bestP m bids) i bids.length (by rw [bestP_len]; exact Nat.le_refl _)
  rw [if_pos hi] at h3
  have h4 := worthP_all (m := m) (bids := bids) (sans (2 ^ bids.length - 1) (2 ^ i))
  unfold payOf
  omega
theorem sel_set (who i : Nat) (y : List Int) : ∀ (bs : List (List Int)) (k : Nat), bt who (k + i) = false → sel who k (bs.set i y) = sel who k bs := by
  induction i with
  | zero =>
    intro bs k h
    cases bs with
    | nil => rfl
    | cons b bs =>
      rw [Nat.add_zero] at h
      show sel who k (y :: bs) = _
      unfold sel
      rw [h]; rfl
  | succ i ih =>
    intro bs k h
    cases bs with
    | nil => rfl
    | cons b bs =>
      have e : k + (i + 1) = k + 1 + i := by omega
      rw [e] at h
      have := ih bs (k + 1) h
      show sel who k (b :: bs.set i y) = _
      unfold sel
      rw [this]
theorem worthP_set {m : Nat} {bids : List (List Int)} {y : List Int} (hm : m ≤ 6) (h : Offers m bids) (hy : offerB m y = true) (i who : Nat) (hb : bt who i = false) : worthP m (bids.set i y) who = worthP m bids who := by
  rw [← worthP_alone hm h who, ← worthP_alone hm (h.set_ hy i) who, sel_set who i y bids 0 (by rw [Nat.zero_add]; exact hb)]
theorem othersTo_set {bids : List (List Int)} {l : List Int} {y : List Int} (i k : Nat) : othersTo (bids.set i y) l i k = othersTo bids l i k := by
  induction k with
  | zero => rfl
  | succ k ih =>
    simp only [othersTo]
    rw [ih]
    by_cases e : k = i
    · rw [if_pos e, if_pos e]
    · rw [if_neg e, if_neg e, getD_set_other _ _ _ _ _ (fun h => e h.symm)]
theorem bt_but {n i : Nat} : bt (sans (2 ^ n - 1) (2 ^ i)) i = false := by rw [bt_sans, bt_pow]; simp
/-- a bidder gains at most what the others lack without it -/
theorem gain_le {m : Nat} {bids : List (List Int)} {y : List Int} (hm : m ≤ 6) (h : Offers m bids) (hy : offerB m y = true) {i : Nat} (hi : i < bids.length) :
    gainP m bids i y ≤ worthP m bids (2 ^ bids.length - 1) - worthP m bids (sans (2 ^ bids.length - 1) (2 ^ i)) := by
  have hlen : (bids.set i y).length = bids.length := by simp
  have hf := best_fits (h.set_ hy i)
  rw [hlen] at hf
  have h1 := fits_worth h hf (2 ^ bids.length - 1)
  rw [ownTo_all i bids.length bids.length (Nat.le_refl _), if_pos hi] at h1
  unfold gainP
  rw [payP_get _ _ _ (by rw [hlen]; exact hi)]
  unfold payOf
  rw [hlen, worthP_set hm h hy i _ bt_but, othersTo_set]
  omega
theorem gain_true {m : Nat} {bids : List (List Int)} (h : Offers m bids) {i : Nat} (hi : i < bids.length) :
    gainP m bids i (bids.getD i []) = offAt bids (bestP m bids) i - payOf m bids i := by
  have e : bids.set i (bids.getD i []) = bids := by
    rw [List.getD_eq_getElem?_getD, List.getElem?_eq_getElem hi]
    simp
  unfold gainP
  rw [e, payP_get _ _ _ hi]
  rfl
/-- one item: everyone offers for it -/
def oneB (v : List Int) : List (List Int) := v.map fun x => [0, x]
theorem oneB_len (v : List Int) : (oneB v).length = v.length := by simp [oneB]
theorem oneB_get (v : List Int) (k : Nat) (hk : k < v.length) : (oneB v).getD k [] = [0, v.getD k 0] := by simp [oneB, hk]
theorem offer_one {x : Int} (h : 0 ≤ x ∧ x ≤ 1000000) : offerB 1 [0, x] = true := by
  unfold offerB
  simp only [Bool.and_eq_true, beq_iff_eq, List.all_eq_true, List.mem_range]
  refine ⟨⟨rfl, rfl⟩, fun s hs => ?_⟩
  have hs2 : s < 2 := hs
  unfold offerAt
  rcases (by omega : s = 0 ∨ s = 1) with rfl | rfl
  · simp [bt]
  · have e : sans 1 (2 ^ 0) = 0 := by decide
    simp [h.1, h.2]
    right
    have e1 : sans 1 1 = 0 := by decide
    rw [e1]; simpa using h.1
theorem oneB_offers {v : List Int} (h : ∀ i, 0 ≤ v.getD i 0 ∧ v.getD i 0 ≤ 1000000) : Offers 1 (oneB v) := by
  intro b hb
  obtain ⟨x, hx, rfl⟩ := List.mem_map.1 hb
  obtain ⟨i, hi, rfl⟩ := List.mem_iff_getElem.1 hx
  have := h i
  rw [List.getD_eq_getElem?_getD, List.getElem?_eq_getElem hi] at this
  exact offer_one this
theorem bestTo_one0 {b t : List Int} {on : Bool} (h0 : b.getD 0 0 = 0) (ht : t.getD 0 0 = 0) : bestTo b t on 0 1 = 0 := by
  have e1 : sans 0 0 = 0 := by decide
  simp only [bestTo, e1, h0, ht]
  simp
theorem bestTo_one1 {b t : List Int} {on : Bool} (h0 : b.getD 0 0 = 0) (ht : t.getD 0 0 = 0) : bestTo b t on 1 2 = if on = true then max (max 0 (t.getD 1 0)) (b.getD 1 0) else max 0 (t.getD 1 0) := by
  have e1 : sans 0 1 = 0 := by decide
  have e2 : sans 1 1 = 0 := by decide
  have e3 : sans 1 0 = 1 := by decide
  simp only [bestTo, e1, e2, e3, h0, ht]
  cases on <;> simp
/-- the best worth of one item: it is not less than any of the offers, and is one of them, or 0 -/
structure TopOf (v : List Int) (C : Nat → Prop) (W : Int) : Prop where
  ge : ∀ i, i < v.length → C i → v.getD i 0 ≤ W
  pos : 0 ≤ W
  got : W = 0 ∨ ∃ i, i < v.length ∧ C i ∧ W = v.getD i 0
theorem tk_one {v : List Int} (who : Nat) : ∀ j k, k + j = v.length → (tk 1 (oneB v) who k).getD 0 0 = 0 ∧ TopOf v (fun i => k ≤ i ∧ bt who i = true) ((tk 1 (oneB v) who k).getD 1 0) := by
  intro j
  induction j with
  | zero =>
    intro k hk
    have e : k = (oneB v).length := by rw [oneB_len]; omega
    have e2 := tk_end 1 (oneB v) who
    rw [← e] at e2
    rw [e2]
    exact ⟨rfl, ⟨fun i hi hc => by omega, by simp, .inl rfl⟩⟩
  | succ j ih =>
    intro k hk
    have hkv : k < v.length := by omega
    obtain ⟨h0, hT⟩ := ih (k + 1) (by omega)
    rw [tk_step _ _ _ _ (by rw [oneB_len]; exact hkv), oneB_get _ _ hkv, rowT_get _ _ _ _ _ (by decide), rowT_get _ _ _ _ _ (by decide), bestTo_one0 rfl h0, bestTo_one1 rfl h0]
    refine ⟨rfl, ?_⟩
    obtain ⟨W, hW⟩ : ∃ W, (tk 1 (oneB v) who (k + 1)).getD 1 0 = W := ⟨_, rfl⟩
    have e1 : ([0, v.getD k 0] : List Int).getD 1 0 = v.getD k 0 := rfl
    rw [hW] at hT ⊢
    rw [e1]
    have hp := hT.pos
    cases hb : bt who k with
    | true =>
      rw [if_pos rfl]
      refine ⟨fun i hi ⟨h1, h2⟩ => ?_, by omega, ?_⟩
      · by_cases e : i = k
        · subst e; omega
        · have := hT.ge i hi ⟨by omega, h2⟩; omega
      · by_cases hle : v.getD k 0 ≤ W
        · have e : max (max 0 W) (v.getD k 0) = W := by omega
          rw [e]
          rcases hT.got with h | ⟨i, hi, hc, h⟩
          · exact .inl h
          · exact .inr ⟨i, hi, ⟨by omega, hc.2⟩, h⟩
        · exact .inr ⟨k, hkv, ⟨Nat.le_refl _, hb⟩, by omega⟩
    | false =>
      rw [if_neg (by decide)]
      have e : max 0 W = W := by omega
      rw [e]
      refine ⟨fun i hi ⟨h1, h2⟩ => ?_, hp, ?_⟩
      · by_cases e : i = k
        · subst e; rw [hb] at h2; cases h2
        · exact hT.ge i hi ⟨by omega, h2⟩
      · rcases hT.got with h | ⟨i, hi, hc, h⟩
        · exact .inl h
        · exact .inr ⟨i, hi, ⟨by omega, hc.2⟩, h⟩
theorem worth_one {v : List Int} (who : Nat) : TopOf v (fun i => bt who i = true) (worthP 1 (oneB v) who) := by
  have := (tk_one (v := v) who v.length 0 (by omega)).2
  exact ⟨fun i hi hc => this.ge i hi ⟨Nat.zero_le _, hc⟩, this.pos, this.got.imp id fun ⟨i, hi, hc, h⟩ => ⟨i, hi, hc.2, h⟩⟩
theorem topTo_spec {v : List Int} (h : ∀ i, 0 ≤ v.getD i 0) : ∀ k, (∀ i, i < k → v.getD i 0 ≤ v.getD (topTo v k) 0) ∧ (0 < k → topTo v k < k) := by
  intro k
  induction k with
  | zero => exact ⟨fun i hi => by omega, fun h => by omega⟩
  | succ k ih =>
    simp only [topTo]
    by_cases hc : v.getD (topTo v k) 0 < v.getD k 0
    · rw [if_pos hc]
      refine ⟨fun i hi => ?_, fun _ => by omega⟩
      by_cases e : i = k
      · subst e; exact Int.le_refl _
      · have := ih.1 i (by omega); omega
    · rw [if_neg hc]
      refine ⟨fun i hi => ?_, fun _ => ?_⟩
      · by_cases e : i = k
        · subst e; omega
        · exact ih.1 i (by omega)
      · rcases Nat.eq_zero_or_pos k with h0 | h0
        · subst h0; simp [topTo]
        · have := ih.2 h0; omega
theorem nextTo_spec {v : List Int} (best : Nat) : ∀ k, (∀ i, i < k → i ≠ best → v.getD i 0 ≤ nextTo v best k) ∧ 0 ≤ nextTo v best k ∧ (nextTo v best k = 0 ∨ ∃ i, i < k ∧ i ≠ best ∧ nextTo v best k = v.getD i 0) := by
  intro k
  induction k with
  | zero => exact ⟨fun i hi => by omega, Int.le_refl _, .inl rfl⟩
  | succ k ih =>
    obtain ⟨h1, h2, h3⟩ := ih
    simp only [nextTo]
    by_cases e : k = best
    · rw [if_pos e]
      refine ⟨fun i hi hne => h1 i (by omega) hne, h2, h3.imp id fun ⟨i, hi, hne, h⟩ => ⟨i, by omega, hne, h⟩⟩
    · rw [if_neg e]
      refine ⟨fun i hi hne => ?_, by omega, ?_⟩
      · by_cases e2 : i = k
        · subst e2; omega
        · have := h1 i (by omega) hne; omega
      · by_cases hle : v.getD k 0 ≤ nextTo v best k
        · have e2 : max (nextTo v best k) (v.getD k 0) = nextTo v best k := by omega
          rw [e2]; exact h3.imp id fun ⟨i, hi, hne, h⟩ => ⟨i, by omega, hne, h⟩
        · exact .inr ⟨k, by omega, e, by omega⟩
/-- with one item, who has it leaves nothing -/
theorem left_after {bids : List (List Int)} {j : Nat} (hj : pick 1 bids j = 1) : ∀ k, j < k → leftAt 1 bids k = 0 := by
  intro k
  induction k with
  | zero => intro h; omega
  | succ k ih =>
    intro h
    rw [leftAt_succ]
    by_cases e : j = k
    · subst e
      rw [hj]
      have := leftAt_lt 1 bids j
      have e2 : (2 : Nat) ^ 1 = 2 := rfl
      rw [e2] at this
      rcases (by omega : leftAt 1 bids j = 0 ∨ leftAt 1 bids j = 1) with h | h <;> rw [h] <;> decide
    · rw [ih (by omega)]; exact zero_sans _
theorem pick_none {bids : List (List Int)} (h : Offers 1 bids) {i j : Nat} (hj : j < bids.length) (hi : i < bids.length) (hne : j ≠ i) (hp : pick 1 bids i = 1) : pick 1 bids j = 0 := by
  have hl := pick_lt h hj
  have e2 : (2 : Nat) ^ 1 = 2 := rfl
  rw [e2] at hl
  rcases (by omega : pick 1 bids j = 0 ∨ pick 1 bids j = 1) with h0 | h1
  · exact h0
  · exfalso
    rcases Nat.lt_or_gt_of_ne hne with hlt | hgt
    · have := pick_sub h hi
      rw [left_after h1 i hlt, hp] at this
      exact absurd this (by decide)
    · have := pick_sub h hj
      rw [left_after hp j hgt, h1] at this
      exact absurd this (by decide)
theorem others_none {v : List Int} (h : Offers 1 (oneB v)) {i : Nat} (hi : i < v.length) (hp : pick 1 (oneB v) i = 1) : ∀ k, k ≤ v.length → othersTo (oneB v) (bestP 1 (oneB v)) i k = 0 := by
  intro k
  induction k with
  | zero => intro _; rfl
  | succ k ih =>
    intro hk
    simp only [othersTo]
    rw [ih (by omega)]
    by_cases e : k = i
    · rw [if_pos e]
    · rw [if_neg e, bestP_get _ _ _ (by rw [oneB_len]; omega), pick_none h (by rw [oneB_len]; omega) (by rw [oneB_len]; exact hi) e hp, oneB_get _ _ (by omega)]
      rfl
/-- with one item the payment is that of Second -/
theorem one_pay {v : List Int} (h : ∀ i, 0 ≤ v.getD i 0 ∧ v.getD i 0 ≤ 1000000) {i : Nat} (hi : i < v.length) :
    (pick 1 (oneB v) i = 1 → payOf 1 (oneB v) i = nextTo v (topTo v v.length) v.length ∧ v.getD i 0 = worthP 1 (oneB v) (2 ^ (oneB v).length - 1)) ∧ (pick 1 (oneB v) i = 0 → payOf 1 (oneB v) i = 0) := by
  have ho := oneB_offers h
  have hi' : i < (oneB v).length := by rw [oneB_len]; exact hi
  have hb := pay_bounds ho hi'
  have he : offAt (oneB v) (bestP 1 (oneB v)) i = ([0, v.getD i 0] : List Int).getD (pick 1 (oneB v) i) 0 := by
    unfold offAt
    rw [bestP_get _ _ _ hi', Int.toNat_natCast, oneB_get _ _ hi]
  refine ⟨fun hp => ?_, fun hp => ?_⟩
  · have ho2 := others_none ho hi hp v.length (Nat.le_refl _)
    have h3 := othersTo_eq (oneB v) (bestP 1 (oneB v)) i (oneB v).length (by rw [bestP_len]; exact Nat.le_refl _)
    rw [if_pos hi', he, hp] at h3
    rw [oneB_len] at h3
    rw [ho2] at h3
    have h4 := best_worth ho
    rw [offP_len, bestP_len, oneB_len] at h4
    have e1 : ([0, v.getD i 0] : List Int).getD 1 0 = v.getD i 0 := rfl
    rw [e1] at h3
    have hw : v.getD i 0 = worthP 1 (oneB v) (2 ^ v.length - 1) := by omega
    refine ⟨?_, by rw [oneB_len]; exact hw⟩
    unfold payOf
    rw [oneB_len, ho2]
    obtain ⟨Q, hQ⟩ : ∃ Q, worthP 1 (oneB v) (sans (2 ^ v.length - 1) (2 ^ i)) = Q := ⟨_, rfl⟩
    have hTQ := worth_one (v := v) (sans (2 ^ v.length - 1) (2 ^ i))
    have hTA := worth_one (v := v) (2 ^ v.length - 1)
    rw [hQ] at hTQ ⊢
    rw [← hw] at hTA
    have hbt : ∀ j, j < v.length → bt (sans (2 ^ v.length - 1) (2 ^ i)) j = !decide (i = j) := fun j hj => by
      rw [bt_sans, bt_ones _ _ hj, bt_pow]; rfl
    have hall : ∀ j, j < v.length → v.getD j 0 ≤ v.getD i 0 := fun j hj => hTA.ge j hj (bt_ones _ _ hj)
    have hqge : ∀ j, j < v.length → j ≠ i → v.getD j 0 ≤ Q := fun j hj hne => hTQ.ge j hj (by rw [hbt j hj]; simp; exact fun e => hne e.symm)
    have hqgot : Q = 0 ∨ ∃ j, j < v.length ∧ j ≠ i ∧ Q = v.getD j 0 := hTQ.got.imp id fun ⟨j, hj, hc, e⟩ => ⟨j, hj, fun hji => by
      rw [hbt j hj, hji] at hc; simp at hc, e⟩
    have hqp := hTQ.pos
    obtain ⟨t1, t2⟩ := topTo_spec (fun j => (h j).1) v.length
    have t2 := t2 (by omega)
    obtain ⟨T, hT⟩ : ∃ T, topTo v v.length = T := ⟨_, rfl⟩
    rw [hT] at t1 t2 ⊢
    obtain ⟨n1, n2, n3⟩ := nextTo_spec (v := v) T v.length
    obtain ⟨N, hN⟩ : ∃ N, nextTo v T v.length = N := ⟨_, rfl⟩
    rw [hN] at n1 n2 n3 ⊢
    by_cases e : i = T
    · subst e
      have a1 : Q ≤ N := by
        rcases hqgot with h | ⟨j, hj, hne, h⟩
        · omega
        · have := n1 j hj hne; omega
      have a2 : N ≤ Q := by
        rcases n3 with h | ⟨j, hj, hne, h⟩
        · omega
        · have := hqge j hj hne; omega
      omega
    · have b1 := t1 i hi
      have b2 := hall T t2
      have b3 := hqge T t2 (fun h => e h.symm)
      have b4 := n1 i hi e
      have a1 : Q ≤ N := by
        rcases hqgot with h | ⟨j, hj, hne, h⟩
        · omega
        · have := hall j hj; omega
      have a2 : N ≤ Q := by
        rcases n3 with h | ⟨j, hj, hne, h⟩
        · omega
        · have := t1 j hj; omega
      omega
  · rw [he, hp] at hb
    have e0 : ([0, v.getD i 0] : List Int).getD 0 0 = 0 := rfl
    rw [e0] at hb
    omega

theorem pay_at (v : Value) (K : Nat) (bids : List (List Int)) (w : World) (hl : Mat w v bids) (h1 : 1 ≤ K) (h6 : K ≤ 6) (hn1 : 1 ≤ bids.length) (hn6 : bids.length ≤ 6) (ho : Offers K bids) :
    Calls Tryd.prog 18 #[.int .i64 K, v] w fun e w' => ∃ v', e = .returned (.tuple #[v', .int .i64 0]) ∧ Sl w' v' (ints (payP K bids)) ∧ Below w.heap.size w w' := by
  have hck := checkP_off h1 h6 hn1 hn6 ho
  have hb : payR (K : Int) bids = payP K bids := by unfold payR; rw [if_pos hck, Int.toNat_natCast]
  have := pay_spec v (K : Int) bids w hl (by unfold I64; omega) (few_off h6 hn6 ho)
  rw [hb, hck] at this
  exact this
theorem gain_at (v yv : Value) (K k : Nat) (bids : List (List Int)) (y : List Int) (w : World) (hl : Mat w v bids) (hy : Sl w yv (ints y)) (h1 : 1 ≤ K) (h6 : K ≤ 6) (hn6 : bids.length ≤ 6) (ho : Offers K bids) (hk : k < bids.length) (hof : offerB K y = true) :
    Calls Tryd.prog 19 #[.int .i64 K, v, .int .i64 k, yv] w fun e w' => e = .returned (.tuple #[.int .i64 (gainP K bids k y), .int .i64 0]) ∧ Below w.heap.size w w' := by
  have hM := pow_le64 h6
  have hg := gain_ok (K := K) (bids := bids) (k := k) (y := y) hk hof
  have := gain_spec v yv K bids (k : Int) y w hl hy h1 h6 (by omega) hn6 ho (by unfold I64; omega) (fun i => by have := offerB_at hof i; omega) (by rw [offerB_len hof]; omega)
  rw [hg.1, hg.2] at this
  exact this
theorem second_at (v : Value) (l : List Int) (w : World) (hl : Sl w v (ints l)) (h1 : 1 ≤ l.length) (h6 : l.length ≤ 6) (h : ∀ i, 0 ≤ l.getD i 0 ∧ l.getD i 0 ≤ 1000000) :
    Calls Tryd.prog 42 #[v] w fun e w' => e = .returned (.tuple #[.int .i64 (topTo l l.length : Nat), .int .i64 (nextTo l (topTo l l.length) l.length), .int .i64 0]) ∧ Below w.heap.size w w' := by
  have hE : secondE l = 0 := by
    refine if_neg ?_
    rintro (h' | h' | h')
    · omega
    · omega
    · rw [List.any_eq_true] at h'
      obtain ⟨x, hx, hb⟩ := h'
      obtain ⟨i, hi, rfl⟩ := List.mem_iff_getElem.1 hx
      have := h i
      rw [List.getD_eq_getElem?_getD, List.getElem?_eq_getElem hi] at this
      simp at this hb
      omega
  have := second_spec v l w hl (fun i => by have := h i; omega) (by omega)
  rw [secondR_ok hE, hE] at this
  exact this
/-- bundles of m items -/
def IsBundles (m : Nat) (l : List Int) : Prop := ∀ i, 0 ≤ l.getD i 0 ∧ l.getD i 0 < 2 ^ m
set_option maxRecDepth 100000 in
set_option maxHeartbeats 2000000 in
theorem isAlloc_yes (v lv : Value) (m : Nat) (bids : List (List Int)) (l : List Int) (w : World) (hl : Mat w v bids) (hll : Sl w lv (ints l)) (hm : m ≤ 6) (hn : bids.length ≤ 7) (hlen : l.length = bids.length) (hf : Fits m l bids.length) (hb : IsBundles m l) :
    Calls Tryd.prog 54 #[.agg #[.int .i64 ((2 ^ m - 1 : Nat) : Int), v], lv] w fun e w' => e = .returned (.bool true) ∧ Below w.heap.size w w' := by
  obtain ⟨p, cap, rfl, hlc, hcm⟩ := hl.form_
  obtain ⟨lp, lc, rfl, hllc, hlcm⟩ := hll.form
  unfold maxLen at hcm
  rw [hlen] at hllc ⊢
  have HLL := Lib.hid hll
  rw [hlen] at HLL
  have hr0 := row_new 73 w #[.int .i64 ((2 ^ m - 1 : Nat) : Int), .slice p bids.length cap]
  have hb0 := (Below.refl w.heap.size w).alloc (Nat.le_refl _) (.cells #[.int .i64 ((2 ^ m - 1 : Nat) : Int), .slice p bids.length cap] 73)
  have HB0 := Lib.hid hb0
  have HFIT := Lib.hid hf
  have HBU := Lib.hid hb
  have HLEN := Lib.hid hlen
  have HLT := Lib.hid (leftL_lt m l)
  have hM64 := pow_le64 hm
  have d0 := hr0.cell 0
  have d1 := hr0.cell 1
  simp only [List.getElem?_cons_zero, List.getElem?_cons_succ, List.getElem?_toArray] at d0 d1
  have HL0 : Hid (leftL m l 0 = 2 ^ m - 1) := rfl
  have HLS : Hid (∀ k, leftL m l (k + 1) = sans (leftL m l k) (l.getD k 0).toNat) := fun k => rfl
  obtain ⟨N, hN⟩ : ∃ N : Nat, 2 ^ m - 1 = N := ⟨_, rfl⟩
  rw [hN] at HL0 HB0 d0 d1 ⊢
  obtain ⟨M, hM⟩ : ∃ M : Nat, 2 ^ m = M := ⟨_, rfl⟩
  rw [hM] at HLT hM64
  have HBU2 : Hid (∀ i, 0 ≤ l.getD i 0 ∧ l.getD i 0 < (M : Int)) := fun i => by
    have := HBU.out i
    rw [← hM]; exact ⟨this.1, by have := this.2; simpa using this⟩
  clear hl hll hb hf hr0 hb0 hN hM hlen HBU hm
  have hl0 : (0 : Int) ≤ (bids.length : Int) := by omega
  go_enter Tryd.func54, Tryd.ntmps54
  go_wp2
  go_loop [5, 18] (fun s i => ∃ k : Nat, k ≤ bids.length ∧ i = .int .i64 k ∧ s = .int .i64 (leftL m l k : Nat)) (fun _ i => bids.length - (intOf i).toNat)
  case atStart => exact ⟨0, Nat.zero_le _, rfl, by rw [HL0.out]⟩
  case round =>
    obtain ⟨k, hk, rfl, rfl⟩ := hrel
    by_cases hlt : k < bids.length
    · have hb := HBU2.out k
      have hfk := HFIT.out k hlt
      have hlk := HLT.out k
      have HS := Lib.hid (HLS.out k)
      obtain ⟨b3, o3, c3, hv, _, _, hb3, hcl⟩ := HLL.out.int_at k (by rw [HLEN.out]; exact hlt)
      rw [HLEN.out] at hv
      cases hv
      have hc1 := (HB0.out.cell (p := ⟨b3, o3 + k, none⟩) hb3).trans hcl
      obtain ⟨q, hq⟩ : ∃ q, (l.getD k 0).toNat = q := ⟨_, rfl⟩
      have hqi : l.getD k 0 = (q : Int) := by omega
      rw [hqi] at hc1 hb
      rw [hq] at hfk HS
      obtain ⟨L, hL⟩ : ∃ L, leftL m l k = L := ⟨_, rfl⟩
      rw [hL] at hfk hlk HS ⊢
      have h1 := i64_andNot q L (by omega) (by omega)
      have h2 := i64_andNot L q (by omega) (by omega)
      rw [hfk] at h1
      rw [← HS.out] at h2
      clear hcl hq hqi hL hfk hb3
      go_wp2
      go_round
      case rel => exact ⟨k + 1, by omega, by go_num, rfl⟩
      case measure => simp [intOf]; omega
    · obtain rfl : k = bids.length := by omega
      go_wp2
      go_ret
      exact ⟨rfl, HB0.out⟩
theorem isAlloc_at (v lv : Value) (K : Nat) (bids : List (List Int)) (l : List Int) (w : World) (hl : Mat w v bids) (hll : Sl w lv (ints l)) (h1 : 1 ≤ K) (h6 : K ≤ 6) (hn1 : 1 ≤ bids.length) (hn6 : bids.length ≤ 6) (ho : Offers K bids) (hlen : l.length = bids.length) (hf : Fits K l bids.length) (hb : IsBundles K l) :
    Calls Tryd.prog 24 #[.int .i64 K, v, lv] w fun e w' => e = .returned (.bool true) ∧ Below w.heap.size w w' := by
  have hck := checkP_off h1 h6 hn1 hn6 ho
  have HNW := Lib.hid (new_go v K bids w hl (by unfold I64; omega) (few_off h6 hn6 ho))
  have e1 : newR (K : Int) bids v = .agg #[.int .i64 ((2 ^ K - 1 : Nat) : Int), v] := by unfold newR; rw [if_pos hck, Int.toNat_natCast]
  rw [e1, hck] at HNW
  have HC : Hid (∀ W, Below w.heap.size w W → Calls Tryd.prog 54 #[.agg #[.int .i64 ((2 ^ K - 1 : Nat) : Int), v], lv] W fun e w' => e = .returned (.bool true) ∧ Below W.heap.size W w') := fun W hb' => isAlloc_yes v lv K bids l W (hl.below hb') (hll.below hb') h6 (by omega) hlen hf hb
  obtain ⟨p, cap, rfl, hlc, hcm⟩ := hl.form_
  obtain ⟨N, hN⟩ : ∃ N : Nat, 2 ^ K - 1 = N := ⟨_, rfl⟩
  rw [hN] at HNW HC
  clear hl ho hck e1 hN hll hf hb
  go_enter Tryd.func24, Tryd.ntmps24
  go_wp2_with (first
    | (go_at_call 54; refine (HC.out _ HB1.out).mono ?_; rintro e w2 ⟨rfl, hb2⟩; have HB2 := Lib.hid (HB1.out.trans (hb2.mono HB1.out.size)); clear hb2)
    | (go_at_call 46; refine HNW.out.mono ?_; rintro e w1 ⟨rfl, hb1⟩; have HB1 := Lib.hid (hb1.alloc hb1.size (.cells #[.int .i64 (N : Int), .slice p bids.length cap] 73)); have hr1 := row_new 73 w1 #[.int .i64 (N : Int), .slice p bids.length cap]; have d0 := hr1.cell 0; have d1 := hr1.cell 1; simp only [List.getElem?_cons_zero, List.getElem?_cons_succ, List.getElem?_toArray] at d0 d1; clear hb1 hr1))
  go_ret
  exact ⟨rfl, HB2.out⟩
theorem best_bundles {m : Nat} {bids : List (List Int)} (h : Offers m bids) : IsBundles m (bestP m bids) := fun i => by
  by_cases hi : i < bids.length
  · rw [bestP_get _ _ _ hi]
    have := pick_lt h hi
    exact ⟨by omega, by exact_mod_cast this⟩
  · rw [List.getD_eq_getElem?_getD, List.getElem?_eq_none (by rw [bestP_len]; omega)]
    have := pow_pos2 m
    exact ⟨Int.le_refl _, by show (0 : Int) < 2 ^ m; exact_mod_cast this⟩

theorem belowN {B : Nat} {a w : World} (h : Below B a w) (n : Nat) : Below B a (w.drewN n) := h.trans ⟨rfl, rfl, rfl, Nat.le_refl _, fun _ _ => rfl⟩
/-- a list in a block of its own, made last -/
theorem Things.list {B T : Nat} {w : World} {M : Nat → Option Thing} (h : Things B w M) (hB : B ≤ w.heap.size) (i : Nat) (us : List Value) (hm : us.length ≤ maxLen) : Things B (w.alloc (.cells us.toArray T)) (setT M i ⟨T, .slice (some ⟨w.heap.size, 0, Option.none⟩) us.length us.length, us⟩) := by
  refine ⟨fun j t hj => ?_, fun j k t s hjk h1 h2 => ?_⟩
  · unfold setT at hj
    split at hj
    · cases hj
      have := row_new T w us.toArray
      exact Own.of_row (xs := us) (more := []) (by simpa using this) hB hm (by simp)
    · exact World.ownsRow.alloc (h.1 j t hj) _
  · unfold setT at h1 h2
    split at h1
    · cases h1
      split at h2
      · omega
      · exact (Apart.fresh (h.1 k s h2) rfl).symm
    · split at h2
      · cases h2; exact Apart.fresh (h.1 j t h1) rfl
      · exact h.2 j k t s hjk h1 h2
/-- what the second loop has at its head: the offers for the first item, and the bids for it alone -/
def OneRel (B : Nat) (w6 : World) (V : List Int) (k : Nat) (q b : Value) (wr : World) : Prop :=
  ∃ M vs, Things B wr M ∧ M 1 = some ⟨2, q, ints (V.take k)⟩ ∧ M 2 = some ⟨31, b, vs⟩ ∧ vs.length = k ∧ (∀ (j : Nat) u, vs[j]? = some u → M (10 + j) = some ⟨2, u, ints [0, V.getD j 0]⟩) ∧ Below B w6 wr
theorem OneRel.next {B : Nat} {w6 w2 : World} {V : List Int} {k : Nat} {q' b' u : Value} {x : Int} {M : Nat → Option Thing} {vs : List Value} (hk : k < V.length) (hx : V.getD k 0 = x) (hl : vs.length = k) (hr : ∀ (j : Nat) u, vs[j]? = some u → M (10 + j) = some ⟨2, u, ints [0, V.getD j 0]⟩)
    (hth : Things B w2 (setT (setT (setT M 1 ⟨2, q', ints (V.take k) ++ [.int .i64 x]⟩) (10 + k) ⟨2, u, [.int .i64 0, .int .i64 x]⟩) 2 ⟨31, b', vs ++ [u]⟩)) (hb : Below B w6 w2) : OneRel B w6 V (k + 1) q' b' w2 := by
  refine ⟨_, vs ++ [u], hth, ?_, setT_here _ _ _, by simp [hl], fun j y hy => ?_, hb⟩
  · rw [setT_other (by decide), setT_other (by omega), setT_here]
    have : V.take (k + 1) = V.take k ++ [x] := by
      rw [List.take_succ_eq_append_getElem hk, ← hx, List.getD_eq_getElem?_getD, List.getElem?_eq_getElem hk]; rfl
    rw [this, ints_append]; rfl
  · rw [setT_other (by omega)]
    rcases Nat.lt_trichotomy j vs.length with h | h | h
    · rw [List.getElem?_append_left h] at hy
      rw [setT_other (by omega), setT_other (by omega)]
      exact hr j y hy
    · rw [h, List.getElem?_append_right (Nat.le_refl _)] at hy
      simp at hy; subst hy
      have e : j = k := by omega
      rw [e, setT_here, hx]; rfl
    · rw [List.getElem?_eq_none (by simp; omega)] at hy; cases hy
set_option maxRecDepth 100000 in
set_option maxHeartbeats 8000000 in
theorem lawVickrey (S : Awake) (v ov : Value) (m : Int) (rows : List (List Int)) (of : List Int) (w : World) (hl : MatA w v rows) (hof : SlA w ov (ints of)) (hm : I64 m) (hr : ∀ i, In64 (rows.getD i [])) (hio : In64 of) :
    Calls Tryd.prog 10 #[.int .i64 m, v, ov] w fun e w' => e = .returned (.bool true) ∧ Below w.heap.size w w' := by
  have HT := Lib.hid (tame_any v m rows w hl hr)
  obtain ⟨p0, cap0, rfl, _, _⟩ := hl.form_
  obtain ⟨pp, pc, rfl, hppc, hpcm⟩ := hof.form
  have HOF := Lib.hid hof
  have HIO := Lib.hid hio
  clear hl hof hm hr hio
  go_enter Tryd.func10, Tryd.ntmps10
  go_wp2_with fail
  refine HT.out.mono ?_
  rintro e w1 ⟨K, bids, xv, rfl, hK1, hK4, hn1, hn4, h39, hown, hb1⟩
  have HX := Lib.hid hown.mat
  have HO := Lib.hid h39.offers
  have H39 := Lib.hid h39
  have HB1 := Lib.hid hb1
  obtain ⟨xp, xc, hxv, hxl, _⟩ := hown.mat.form_
  subst hxv
  clear hown h39 hb1 HT
  go_wp2_with fail
  refine (best_at _ K bids w1 HX.out hK1 (by omega) hn1 (by omega) HO.out).mono ?_
  rintro e w2 ⟨av, rfl, hao, hb2⟩
  have HA := Lib.hid hao
  obtain ⟨ap, ac, hav, hal, _⟩ := hao.form
  rw [bestP_len] at hav hal
  subst hav
  have HX2 := Lib.hid (HX.out.below hb2)
  have HB2 := Lib.hid (HB1.out.trans (hb2.mono HB1.out.size))
  clear hao hb2 HX HB1
  go_wp2_with fail
  refine (pay_at _ K bids w2 HX2.out hK1 (by omega) hn1 (by omega) HO.out).mono ?_
  rintro e w3 ⟨pv, rfl, hpo, hb3⟩
  have HP := Lib.hid hpo
  obtain ⟨qp, qc, hqv, hql, _⟩ := hpo.form
  rw [payP_len] at hqv hql
  subst hqv
  have HX3 := Lib.hid (HX2.out.below hb3)
  have HA3 := Lib.hid (HA.out.below hb3)
  have HB3 := Lib.hid (HB2.out.trans (hb3.mono HB2.out.size))
  have HALL := Lib.hid (isAlloc_at _ _ K bids (bestP K bids) w3 HX3.out HA3.out hK1 (by omega) hn1 (by omega) HO.out (bestP_len K bids) (best_fits HO.out) (best_bundles HO.out))
  clear hpo hb3 HX2 HB2 HA
  have hnn : ((bids.length : Int) != (bids.length : Int)) = false := by simp
  go_wp2_with fail
  refine HALL.out.mono ?_
  rintro e w4 ⟨rfl, hb4⟩
  have HX4 := Lib.hid (HX3.out.below hb4)
  have HA4 := Lib.hid (HA3.out.below hb4)
  have HP4 := Lib.hid (HP.out.below (by have := hb4; exact this))
  have HB4 := Lib.hid (HB3.out.trans (hb4.mono HB3.out.size))
  clear hb4 HX3 HA3 HP HB3 HALL
  go_wp2_with fail
  refine (mkOffer_any _ K of w4 (HOF.out.below HB4.out) (by omega) hK1 HIO.out).mono ?_
  rintro e w5 ⟨lv, L, rfl, hoL, hL39, hb5⟩
  obtain ⟨lp, lc, rfl, _, _⟩ := hoL.sl.form
  have HSL := Lib.hid hoL.sl
  have HL39 := Lib.hid hL39
  have HX5 := Lib.hid (HX4.out.below hb5)
  have HA5 := Lib.hid (HA4.out.below hb5)
  have HP5 := Lib.hid (HP4.out.below hb5)
  have HB5 := Lib.hid (HB4.out.trans (hb5.mono HB4.out.size))
  clear hoL hL39 hb5 HX4 HA4 HP4 HB4 hnn
  -- what is known of the numbers
  have HG1 : Hid (∀ k W, k < bids.length → Below w5.heap.size w5 W → Calls Tryd.prog 19 #[.int .i64 K, .slice xp bids.length xc, .int .i64 k, .slice lp L.length lc] W fun e w' => e = .returned (.tuple #[.int .i64 (gainP K bids k L), .int .i64 0]) ∧ Below W.heap.size W w') := fun k W hk hb => gain_at _ _ K k bids L W (HX5.out.below hb) (HSL.out.below hb) hK1 (by omega) (by omega) HO.out hk HL39.out.1
  have HG2 : Hid (∀ k W u, k < bids.length → Below w5.heap.size w5 W → Sl W u (ints (bids.getD k [])) → Calls Tryd.prog 19 #[.int .i64 K, .slice xp bids.length xc, .int .i64 k, u] W fun e w' => e = .returned (.tuple #[.int .i64 (offAt bids (bestP K bids) k - payOf K bids k), .int .i64 0]) ∧ Below W.heap.size W w') := fun k W u hk hb hu => by
    have := gain_at _ u K k bids (bids.getD k []) W (HX5.out.below hb) hu hK1 (by omega) (by omega) HO.out hk (HO.out.at_ hk)
    rw [gain_true HO.out hk] at this
    exact this
  have HPB : Hid (∀ k, k < bids.length → 0 ≤ payOf K bids k ∧ payOf K bids k ≤ offAt bids (bestP K bids) k ∧ gainP K bids k L ≤ offAt bids (bestP K bids) k - payOf K bids k) := fun k hk => by
    have h1 := pay_bounds HO.out hk
    have h2 := gain_le (by omega : K ≤ 6) HO.out HL39.out.1 hk
    omega
  have HOB := Lib.hid (fun k => offAt_bd HO.out (bestP K bids) k)
  have HOP : Hid (∀ k, k < bids.length → addTo (offP bids (bestP K bids)) (k + 1) = addTo (offP bids (bestP K bids)) k + offAt bids (bestP K bids) k) := fun k hk => by
    rw [← offP_get _ _ _ (by rw [bestP_len]; exact hk)]; rfl
  have HTOT : Hid (addTo (offP bids (bestP K bids)) bids.length = worthP K bids (2 ^ bids.length - 1)) := by
    have := best_worth HO.out
    rw [offP_len, bestP_len] at this
    exact this
  have HADB : Hid (∀ k, k ≤ 4 → 0 ≤ addTo (offP bids (bestP K bids)) k ∧ addTo (offP bids (bestP K bids)) k ≤ 4000000) := fun k hk => by
    have h := offP_bd HO.out (bestP K bids)
    have : ∀ k, 0 ≤ addTo (offP bids (bestP K bids)) k ∧ addTo (offP bids (bestP K bids)) k ≤ 1000000 * (k : Int) := by
      intro k
      induction k with
      | zero => exact ⟨Int.le_refl _, Int.le_refl _⟩
      | succ k ih =>
        have := h k
        simp only [addTo]
        omega
    have := this k
    omega
  have HPL := Lib.hid (fun i hi => pick_lt HO.out (k := i) hi)
  have HOL : Hid (∀ i, i < bids.length → (bids.getD i []).length = 2 ^ K) := fun i hi => offerB_len (HO.out.at_ hi)
  have HBG := Lib.hid (fun k hk => bestP_get K bids k hk)
  have HBL := Lib.hid (bestP_len K bids)
  have HPG := Lib.hid (fun k hk => payP_get K bids k hk)
  have HPLN := Lib.hid (payP_len K bids)
  have HAT : Hid (∀ k, k < bids.length → offAt bids (bestP K bids) k = (bids.getD k []).getD (pick K bids k) 0) := fun k hk => by
    unfold offAt; rw [bestP_get _ _ _ hk, Int.toNat_natCast]
  obtain ⟨W1, hW1⟩ : ∃ W1, worthP K bids (2 ^ bids.length - 1) = W1 := ⟨_, rfl⟩
  rw [hW1] at HTOT ⊢
  obtain ⟨nL, hnL⟩ : ∃ nL, L.length = nL := ⟨_, rfl⟩
  rw [hnL] at HG1 HSL ⊢
  have hl0 : (0 : Int) ≤ (bids.length : Int) := by omega
  have hM64 : 2 ^ K ≤ 64 := pow_le64 (by omega)
  have hM1 : 2 ≤ 2 ^ K := by
    have : 2 ^ 1 ≤ 2 ^ K := Nat.pow_le_pow_right (by omega) hK1
    omega
  obtain ⟨M, hMM⟩ : ∃ M, 2 ^ K = M := ⟨_, rfl⟩
  rw [hMM] at hM64 hM1 HPL HOL
  clear hW1 hnL hMM
  go_wp2
  go_loopw [13, 15] (fun s i wr => ∃ k : Nat, k ≤ bids.length ∧ i = .int .i64 k ∧ s = .int .i64 (addTo (offP bids (bestP K bids)) k) ∧ Below w5.heap.size w5 wr) (fun _ i _ => bids.length - (intOf i).toNat)
  case atStart => exact ⟨0, Nat.zero_le _, rfl, rfl, Below.refl _ _⟩
  case round =>
    obtain ⟨k, hk, rfl, rfl, hb⟩ := hrel
    have HBR := Lib.hid hb
    clear hb
    by_cases hlt : k < bids.length
    · obtain ⟨b1, o1, c1, u, hv, _, _, hb1s, hc1, hsu⟩ := HX5.out.row_at k hlt
      cases hv
      have hrl : (bids.getD k []).length = M := HOL.out k hlt
      have hpl := HPL.out k hlt
      have HSU := Lib.hid hsu
      obtain ⟨b2, o2, c2, rfl, hMc, hMx, hb2s, hc2⟩ := hsu.int_at (pick K bids k) (by rw [hrl]; exact hpl)
      rw [hrl] at hc1 hMc HSU
      obtain ⟨b3, o3, c3, hv, _, _, hb3s, hc3⟩ := HA5.out.int_at k (by rw [HBL.out]; exact hlt)
      rw [HBL.out] at hv
      cases hv
      rw [HBG.out k hlt] at hc3
      obtain ⟨b4, o4, c4, hv, _, _, hb4s, hc4⟩ := HP5.out.int_at k (by rw [HPLN.out]; exact hlt)
      rw [HPLN.out] at hv
      cases hv
      rw [HPG.out k hlt] at hc4
      rw [← HAT.out k hlt] at hc2
      have hpb := HPB.out k hlt
      have hob := HOB.out k
      have hab := HADB.out k (by omega)
      have HNX := Lib.hid (HOP.out k hlt)
      have HCG1 := Lib.hid (fun W hb => HG1.out k W hlt hb)
      have HCG2 := Lib.hid (fun W hb => HG2.out k W (.slice (some ⟨b2, o2, none⟩) M c2) hlt hb (HSU.out.below hb))
      have d1 := (HBR.out.cell (p := ⟨b1, o1 + k, none⟩) hb1s).trans hc1
      have d2 := (HBR.out.cell (p := ⟨b2, o2 + pick K bids k, none⟩) hb2s).trans hc2
      have d3 := (HBR.out.cell (p := ⟨b3, o3 + k, none⟩) hb3s).trans hc3
      obtain ⟨x, hx⟩ : ∃ x, offAt bids (bestP K bids) k = x := ⟨_, rfl⟩
      rw [hx] at hc2 hpb hob HNX HCG2 d2
      obtain ⟨y, hy⟩ : ∃ y, payOf K bids k = y := ⟨_, rfl⟩
      rw [hy] at hc4 hpb HCG2
      obtain ⟨g, hg⟩ : ∃ g, gainP K bids k L = g := ⟨_, rfl⟩
      rw [hg] at hpb HCG1
      obtain ⟨q, hqq⟩ : ∃ q, pick K bids k = q := ⟨_, rfl⟩
      rw [hqq] at hpl d2 d3
      obtain ⟨a, ha⟩ : ∃ a, addTo (offP bids (bestP K bids)) k = a := ⟨_, rfl⟩
      rw [ha] at hab HNX ⊢
      obtain ⟨t, ht⟩ : ∃ t, x - y = t := ⟨_, rfl⟩
      rw [ht] at hpb HCG2
      have htt : (t != x - y) = false := by rw [ht]; simp
      have hxn : (k : Int) < (bids.length : Int) := by omega
      have h1 : IntKind.i64.wrap (a + x) = a + x := IntWalk.i64_in _ (by omega)
      have h2 : IntKind.i64.wrap (x - y) = x - y := IntWalk.i64_in _ (by omega)
      have hy0 := hpb.1
      have hyx := hpb.2.1
      have hgt := hpb.2.2
      have HC4 := Lib.hid hc4
      have HC1 := Lib.hid hc1
      have HB4S := Lib.hid hb4s
      have HB1S := Lib.hid hb1s
      clear hrl hsu hx hy hg hqq ha ht hb1s hb2s hb3s hb4s hc1 hc2 hc3 hc4 hpb
      go_wp2
      go_quiet (fail)
      go_wp2_with fail
      refine (HCG1.out _ (belowN HBR.out _)).mono ?_
      rintro e w6 ⟨rfl, hb6⟩
      have HB6 := Lib.hid ((belowN HBR.out _).trans (hb6.mono (belowN HBR.out _).size))
      have d1' := (HB6.out.cell (p := ⟨b1, o1 + k, none⟩) HB1S.out).trans HC1.out
      clear hb6 HCG1 d1 d2 d3
      go_wp2_with fail
      refine (HCG2.out _ HB6.out).mono ?_
      rintro e w7 ⟨rfl, hb7⟩
      have HB7 := Lib.hid (HB6.out.trans (hb7.mono HB6.out.size))
      have d4' := (HB7.out.cell (p := ⟨b4, o4 + k, none⟩) HB4S.out).trans HC4.out
      clear hb7 HCG2 d1'
      go_wp2
      go_roundw
      case rel => exact ⟨k + 1, by omega, by go_num, by rw [HNX.out], HB7.out⟩
      case measure => simp [intOf]; omega
    · obtain rfl : k = bids.length := by omega
      rw [HTOT.out]
      have hww : (W1 != W1) = false := by simp
      obtain ⟨w6, hw6⟩ : ∃ w6 : World, w6 = wr := ⟨_, rfl⟩
      subst hw6
      have HX6 := Lib.hid (HX5.out.below HBR.out)
      have HB6 := Lib.hid (HB5.out.trans (HBR.out.mono HB5.out.size))
      obtain ⟨V, hV⟩ : ∃ V, bids.map (fun b => b.getD 1 0) = V := ⟨_, rfl⟩
      have HVL : Hid (V.length = bids.length) := by show _ = _; rw [← hV]; simp
      have HVG : Hid (∀ k, k < bids.length → V.getD k 0 = (bids.getD k []).getD 1 0) := fun k hk => by rw [← hV]; simp [hk]
      have HVB : Hid (∀ k, 0 ≤ V.getD k 0 ∧ V.getD k 0 ≤ 1000000) := fun k => by
        by_cases hk : k < bids.length
        · rw [HVG.out k hk]; exact offerB_at (HO.out.at_ hk) 1
        · rw [List.getD_eq_getElem?_getD, List.getElem?_eq_none (by rw [HVL.out]; omega)]; simp
      clear hV HX5 HA5 HP5 HB5 HBR HG1 HG2 HPB HOB HOP HTOT HADB HAT HPG HPLN HBG HBL HPL hk hlt HSL
      go_wp2
      go_loopw [21, 22, 23] (fun q b i wr => ∃ k : Nat, k ≤ bids.length ∧ i = .int .i64 k ∧ OneRel w6.heap.size w6 V k q b wr) (fun _ _ i _ => bids.length - (intOf i).toNat)
      case atStart =>
        refine ⟨0, Nat.zero_le _, rfl, setT (setT (fun _ => Option.none) 1 ⟨2, .slice none 0 0, []⟩) 2 ⟨31, .slice none 0 0, []⟩, [], ?_, rfl, rfl, rfl, (fun j u hu => by simp at hu), Below.refl _ _⟩
        exact ((Things.none _ _).nil 1).nil 2
      case round =>
        obtain ⟨k, hk, rfl, M', vs, hth, hM1, hM2, hvl, hvr, hb⟩ := hrel
        have HTH := Lib.hid hth
        have HM1' := Lib.hid hM1
        have HM2' := Lib.hid hM2
        have HVLL := Lib.hid hvl
        have HVR := Lib.hid hvr
        have HBW := Lib.hid hb
        have hsz := hb.size
        clear hth hM2 hvl hvr hb hM1
        by_cases hlt : k < bids.length
        · obtain ⟨b1, o1, c1, u, hv, _, _, hb1s, hc1, hsu⟩ := HX6.out.row_at k hlt
          cases hv
          have hrl : (bids.getD k []).length = M := HOL.out k hlt
          obtain ⟨b2, o2, c2, rfl, hMc, hMx, hb2s, hc2⟩ := hsu.int_at 1 (by rw [hrl]; omega)
          rw [hrl] at hc1 hMc
          rw [← HVG.out k hlt] at hc2
          have d1 := (HBW.out.cell (p := ⟨b1, o1 + k, none⟩) hb1s).trans hc1
          have d2 := (HBW.out.cell (p := ⟨b2, o2 + 1, none⟩) hb2s).trans hc2
          obtain ⟨x, hx⟩ : ∃ x, V.getD k 0 = x := ⟨_, rfl⟩
          rw [hx] at hc2 d2
          have HXX := Lib.hid hx
          have HC1 := Lib.hid hc1
          have HC2 := Lib.hid hc2
          have HB1S := Lib.hid hb1s
          have HB2S := Lib.hid hb2s
          have h1M : 1 < M := by omega
          have hls : (ints (V.take k)).length ≤ 64 := by rw [ints_length, List.length_take]; omega
          have hvs : vs.length ≤ 64 := by rw [HVLL.out]; omega
          clear hrl hsu hx hb1s hb2s hc1 hc2
          go_wp2_with (first | (at_builtin; refine wpList_append_thing wr rfl (.tmp 164) (.tmp 171) 31 rfl 2 (.int .i64 0) 8 Tryd.underlying31 Tryd.info2 rfl (by omega) w6.heap.size 1 M' u21 (ints (V.take k)) HTH.out HM1'.out rfl (.int .i64 x) rfl rfl ?a1 hsz ?_))
          case a1 => omega
          intro q' w7 hth7 hb7
          have HTH7 := Lib.hid hth7
          have HB7 := Lib.hid (HBW.out.trans hb7)
          have hsz7 := HB7.out.size
          have e1 := (HB7.out.cell (p := ⟨b1, o1 + k, none⟩) HB1S.out).trans HC1.out
          have e2 := (HB7.out.cell (p := ⟨b2, o2 + 1, none⟩) HB2S.out).trans HC2.out
          have HTH8 : Hid (Things w6.heap.size (w7.alloc (.cells #[.int .i64 0, .int .i64 x] 2)) (setT (setT M' 1 ⟨2, q', ints (V.take k) ++ [.int .i64 x]⟩) (10 + k) ⟨2, .slice (some ⟨w7.heap.size, 0, none⟩) 2 2, [.int .i64 0, .int .i64 x]⟩)) := HTH7.out.list hsz7 (10 + k) [.int .i64 0, .int .i64 x] (by simp [maxLen])
          have HM28 : Hid ((setT (setT M' 1 ⟨2, q', ints (V.take k) ++ [.int .i64 x]⟩) (10 + k) ⟨2, .slice (some ⟨w7.heap.size, 0, none⟩) 2 2, [.int .i64 0, .int .i64 x]⟩) 2 = some ⟨31, u22, vs⟩) := by
            show _ = _
            rw [setT_other (by omega), setT_other (by decide)]; exact HM2'.out
          clear hth7 hb7 d1 d2
          go_wp2_with (first | (at_builtin; refine wpList_append_thing (w7.alloc (.cells #[.int .i64 0, .int .i64 x] 2)) rfl (.tmp 173) (.tmp 181) 22 rfl 31 (.slice none 0 0) 24 Tryd.underlying22 Tryd.info31 rfl (by omega) w6.heap.size 2 _ u22 vs HTH8.out HM28.out rfl (.slice (some ⟨w7.heap.size, 0, none⟩) 2 2) ?hx rfl ?a2 ?a3 ?_))
          case hx => go_simp
          case a2 => omega
          case a3 => rw [alloc_size]; omega
          intro b' w8 hth8 hb8
          have HREL : Hid (OneRel w6.heap.size w6 V (k + 1) q' b' w8) := OneRel.next (by rw [HVL.out]; exact hlt) HXX.out HVLL.out HVR.out hth8 ((HB7.out.alloc hsz7 _).trans hb8)
          clear hth8 hb8
          go_wp2
          go_roundw
          case rel => exact ⟨k + 1, by omega, by go_num, HREL.out⟩
          case measure => simp [intOf]; omega
        · obtain rfl : k = bids.length := by omega
          have HMAT : Hid (Mat wr u22 (oneB V)) := ⟨vs, by rw [oneB_len, HVL.out]; exact HVLL.out, (HTH.out.own HM2'.out).sl, fun j u hu => by
            have hj : j < vs.length := (List.getElem?_eq_some_iff.1 hu).1
            rw [oneB_get _ _ (by rw [HVL.out, ← HVLL.out]; exact hj)]
            exact (HTH.out.own (HVR.out j u hu)).sl⟩
          have hfi := (HTH.out.own HM1'.out).sl
          rw [List.take_of_length_le (by rw [HVL.out]; exact Nat.le_refl _)] at hfi
          have HFI : Hid (Sl wr u21 (ints V)) := hfi
          have HB7 := Lib.hid (HB6.out.trans (HBW.out.mono HB6.out.size))
          have HO1 := Lib.hid (oneB_offers HVB.out)
          have hlen1 : (oneB V).length = bids.length := by rw [oneB_len]; exact HVL.out
          have HCB := Lib.hid (best_at u22 1 (oneB V) wr HMAT.out (Nat.le_refl _) (by omega) (by omega) (by omega) HO1.out)
          have HCP : Hid (∀ W, Below wr.heap.size wr W → Calls Tryd.prog 18 #[.int .i64 ((1 : Nat) : Int), u22] W fun e w' => ∃ v', e = .returned (.tuple #[v', .int .i64 0]) ∧ Sl w' v' (ints (payP 1 (oneB V))) ∧ Below W.heap.size W w') := fun W hb => pay_at u22 1 (oneB V) W (HMAT.out.below hb) (Nat.le_refl _) (by omega) (by omega) (by omega) HO1.out
          have HCS : Hid (∀ W, Below wr.heap.size wr W → Calls Tryd.prog 42 #[u21] W fun e w' => e = .returned (.tuple #[.int .i64 (topTo V V.length : Nat), .int .i64 (nextTo V (topTo V V.length) V.length), .int .i64 0]) ∧ Below W.heap.size W w') := fun W hb => second_at u21 V W (HFI.out.below hb) (by rw [HVL.out]; exact hn1) (by rw [HVL.out]; omega) HVB.out
          have HONE : Hid (∀ i, i < bids.length → (pick 1 (oneB V) i = 1 → payOf 1 (oneB V) i = nextTo V (topTo V V.length) V.length ∧ V.getD i 0 = worthP 1 (oneB V) (2 ^ (oneB V).length - 1)) ∧ (pick 1 (oneB V) i = 0 → payOf 1 (oneB V) i = 0)) := fun i hi => one_pay HVB.out (by rw [HVL.out]; exact hi)
          have HPK : Hid (∀ i, i < bids.length → pick 1 (oneB V) i = 0 ∨ pick 1 (oneB V) i = 1) := fun i hi => by
            have := pick_lt HO1.out (k := i) (by omega)
            have e2 : (2 : Nat) ^ 1 = 2 := rfl
            rw [e2] at this; omega
          have e11 : ((1 : Nat) : Int) = 1 := rfl
          rw [e11] at HCB HCP
          obtain ⟨Wb, hWb⟩ : ∃ Wb, worthP 1 (oneB V) (2 ^ (oneB V).length - 1) = Wb := ⟨_, rfl⟩
          rw [hWb] at HCB HONE
          obtain ⟨N2, hN2⟩ : ∃ N2, nextTo V (topTo V V.length) V.length = N2 := ⟨_, rfl⟩
          rw [hN2] at HCS HONE
          obtain ⟨T2, hT2⟩ : ∃ T2, topTo V V.length = T2 := ⟨_, rfl⟩
          rw [hT2] at HCS
          have HLEN1 := Lib.hid hlen1
          clear hfi hlen1 e11 hWb hN2 hT2 HTH HM1' HM2' HVLL HVR HBW hww HVG HX6 HB6 HVB
          go_wp2_with fail
          refine HCB.out.mono ?_
          rintro e w8 ⟨cv, rfl, hcv, hb8⟩
          obtain ⟨cp, cc, hcf, hcl, _⟩ := hcv.form
          rw [bestP_len, HLEN1.out] at hcf hcl
          subst hcf
          have HCV := Lib.hid hcv
          have HB8 := Lib.hid hb8
          clear hcv hb8 HCB
          go_wp2_with fail
          refine (HCP.out _ HB8.out).mono ?_
          rintro e w9 ⟨qv, rfl, hqv, hb9⟩
          obtain ⟨qp2, qc2, hqf, hql2, _⟩ := hqv.form
          rw [payP_len, HLEN1.out] at hqf hql2
          subst hqf
          have HQV := Lib.hid hqv
          have HCV9 := Lib.hid (HCV.out.below hb9)
          have HB9 := Lib.hid (HB8.out.trans (hb9.mono HB8.out.size))
          clear hqv hb9 HCP HCV HB8
          go_wp2_with fail
          refine (HCS.out _ HB9.out).mono ?_
          rintro e wX ⟨rfl, hbX⟩
          have HCVX := Lib.hid (HCV9.out.below hbX)
          have HQVX := Lib.hid (HQV.out.below hbX)
          have HBX := Lib.hid (HB9.out.trans (hbX.mono HB9.out.size))
          have HFX := Lib.hid (HFI.out.below HBX.out)
          obtain ⟨fp, fc, hff, hfl, _⟩ := HFI.out.form
          rw [HVL.out] at hff hfl
          subst hff
          clear hbX HCS HCV9 HQV HB9
          have hnn : ((bids.length : Int) != (bids.length : Int)) = false := by simp
          go_wp2
          go_loop [31] (fun i => ∃ k : Nat, k ≤ bids.length ∧ i = .int .i64 k) (fun i => bids.length - (intOf i).toNat)
          case atStart => exact ⟨0, Nat.zero_le _, rfl⟩
          case round =>
            obtain ⟨k, hk, rfl⟩ := hrel
            by_cases hlt : k < bids.length
            · obtain ⟨b3, o3, c3, hv, _, _, _, hc3⟩ := HCVX.out.int_at k (by rw [bestP_len, HLEN1.out]; exact hlt)
              rw [bestP_len, HLEN1.out] at hv
              cases hv
              obtain ⟨b4, o4, c4, hv, _, _, _, hc4⟩ := HQVX.out.int_at k (by rw [payP_len, HLEN1.out]; exact hlt)
              rw [payP_len, HLEN1.out] at hv
              cases hv
              obtain ⟨b5, o5, c5, hv, _, _, _, hc5⟩ := HFX.out.int_at k (by rw [HVL.out]; exact hlt)
              rw [HVL.out] at hv
              cases hv
              rw [bestP_get _ _ _ (by rw [HLEN1.out]; exact hlt)] at hc3
              rw [payP_get _ _ _ (by rw [HLEN1.out]; exact hlt)] at hc4
              have hone := HONE.out k hlt
              rcases HPK.out k hlt with hp | hp
              · rw [hone.2 hp] at hc4
                have hc3' : wX.cell? ⟨b3, o3 + k, none⟩ = some (.int .i64 0) := by rw [hc3, hp]; rfl
                clear hc3 hp hone
                go_wp2
                go_round
                case rel => exact ⟨k + 1, by omega, by go_num⟩
                case measure => simp [intOf]; omega
              · obtain ⟨g1, g2⟩ := hone.1 hp
                rw [g1] at hc4
                rw [g2] at hc5
                have hc3' : wX.cell? ⟨b3, o3 + k, none⟩ = some (.int .i64 1) := by rw [hc3, hp]; rfl
                have hn2 : (N2 != N2) = false := by simp
                have hwb : (Wb != Wb) = false := by simp
                clear hc3 hp hone g1 g2
                go_wp2
                go_round
                case rel => exact ⟨k + 1, by omega, by go_num⟩
                case measure => simp [intOf]; omega
            · obtain rfl : k = bids.length := by omega
              have HBT := Lib.hid (HB7.out.trans (HBX.out.mono HB7.out.size))
              go_wp2_with (go_at_call 16; refine (awake_any S _).mono ?_; rintro e wY ⟨rfl, hbY⟩; have HBY := Lib.hid (HBT.out.trans (hbY.mono HBT.out.size)); clear hbY)
              go_ret
              exact ⟨rfl, HBY.out⟩
end Go.Proofs.YthbfgmgpploneaaDoor
