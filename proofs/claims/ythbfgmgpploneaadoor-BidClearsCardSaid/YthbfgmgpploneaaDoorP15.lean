/- The least prices of single bids are what the bidders pay who get the items. -/
/- The program's own check of prices: Clears of any market, and of an auction. -/
/- Clears of the program, at any bids that are right. -/
/- BidShapley: the least prices are what the bidders pay, and lower ones do not clear. -/
import Derived.Test.YthbfgmgpploneaaDoorP10
set_option linter.unusedVariables false
set_option linter.unusedSimpArgs false
set_option linter.unnecessarySimpa false
namespace Go.Proofs.YthbfgmgpploneaaDoor
open Go.RowKit

theorem ownTo_sumF (bids : List (List Int)) (l : List Int) (i n : Nat) : ∀ k, k ≤ n → ownTo bids l (sans (2 ^ n - 1) (2 ^ i)) k = sumF (fun j => if j = i then 0 else (bids.getD j []).getD (l.getD j 0).toNat 0) k := by
  intro k
  induction k with
  | zero => intro _; rfl
  | succ k ih =>
    intro hk
    have hb : bt (sans (2 ^ n - 1) (2 ^ i)) k = !decide (i = k) := by rw [bt_sans, bt_ones _ _ (by omega), bt_pow]; rfl
    simp only [sumF]
    by_cases e : k = i
    · subst e
      rw [ownTo_out (by rw [hb]; simp), ih (by omega), if_pos rfl]; omega
    · rw [ownTo_in (by rw [hb]; simp; exact fun h => e h.symm), ih (by omega), if_neg e]
/-- no ring gains, also if a bidder may leave for what it pays -/
theorem no_gain2 {m : Nat} {bids : List (List Int)} {l : List Int} {i0 : Nat} {pay : Int} (h : Offers m bids) (hf : Fits m l bids.length) (hbest : ownTo bids l (2 ^ bids.length - 1) bids.length = worthP m bids (2 ^ bids.length - 1)) (hi0 : i0 < bids.length)
    (hpay : ownTo bids l (sans (2 ^ bids.length - 1) (2 ^ i0)) bids.length + pay = worthP m bids (sans (2 ^ bids.length - 1) (2 ^ i0))) :
    NoGain (bids.length + 1) (fun u v => if u = i0 ∧ v = bids.length then max (val bids u (bund m bids.length l v) - val bids u (bund m bids.length l u)) (-pay) else val bids u (bund m bids.length l v) - val bids u (bund m bids.length l u)) := by
  intro d c hd hcn hcd hci
  obtain ⟨n, hn⟩ : ∃ n, bids.length = n := ⟨_, rfl⟩
  by_cases hex : ∃ x, x < d ∧ c (x + 1) = i0 ∧ c x = n ∧ val bids i0 (bund m n l n) - val bids i0 (bund m n l i0) < -pay
  · obtain ⟨x0, hx0, hc1, hc0, hlt⟩ := hex
    rw [hn] at hf hbest hcn hi0 hpay ⊢
    have hl' : ∀ i, i < n → (((List.range n).map fun i => (bund m n l (shift d c i) : Int)).getD i 0).toNat = bund m n l (shift d c i) := fun i hi => by simp [hi]
    have hsl : ∀ i, i < n + 1 → shift d c i ≤ n := fun i hi => Nat.le_of_lt_succ (shift_lt hcn hi)
    have hf' : Fits m ((List.range n).map fun i => (bund m n l (shift d c i) : Int)) n := by
      refine fits_of (fun i hi x hx => ?_) (fun i j hij hj x hx => ?_)
      · rw [hl' i hi] at hx; exact bund_sub hf x hx
      · rw [hl' j hj] at hx
        rw [hl' i (by omega)]
        exact bund_apart hf (hsl j (by omega)) (hsl i (by omega)) (shift_inj hd hcd hci (by omega)) x hx
    have hw := fits_worth h (l := (List.range n).map fun i => (bund m n l (shift d c i) : Int)) (by rw [hn]; exact hf') (sans (2 ^ n - 1) (2 ^ i0))
    rw [hn, ← hpay, ownTo_sumF _ _ i0 n n (Nat.le_refl _), ownTo_sumF _ _ i0 n n (Nat.le_refl _)] at hw
    have e1 := sumF_congr (f := fun j => if j = i0 then 0 else (bids.getD j []).getD (((List.range n).map fun i => (bund m n l (shift d c i) : Int)).getD j 0).toNat 0) (g := fun j => if j = i0 then 0 else val bids j (bund m n l (shift d c j))) (n := n) (fun j hj => by
      show (if j = i0 then (0 : Int) else _) = if j = i0 then (0 : Int) else _
      rw [hl' j hj]
      unfold val; rw [hn, if_pos hj])
    have e2 := sumF_congr (f := fun j => if j = i0 then 0 else (bids.getD j []).getD (l.getD j 0).toNat 0) (g := fun j => if j = i0 then 0 else val bids j (bund m n l j)) (n := n) (fun j hj => by
      show (if j = i0 then (0 : Int) else _) = if j = i0 then (0 : Int) else _
      have : bund m n l j = (l.getD j 0).toNat := if_pos hj
      rw [this]
      unfold val; rw [hn, if_pos hj])
    rw [e1, e2] at hw
    have hs := sum_on (N := n + 1) d (fun x => c (x + 1)) (fun j => if j = i0 then 0 else val bids j (bund m n l (shift d c j)) - val bids j (bund m n l j)) (fun x hx => by
      by_cases e : x + 1 = d
      · rw [e, hcd]; exact hcn 0 hd
      · exact hcn (x + 1) (by omega)) (ring_inj hd hcd hci) (fun i hi hx => by
        show (if i = i0 then (0 : Int) else _) = 0
        rw [shift_off hx]; split <;> omega)
    have e4 : ∀ S, val bids n S = 0 := fun S => by unfold val; rw [hn, if_neg (by omega)]
    have e5 : sumF (fun j => if j = i0 then 0 else val bids j (bund m n l (shift d c j)) - val bids j (bund m n l j)) (n + 1) = sumF (fun j => if j = i0 then 0 else val bids j (bund m n l (shift d c j))) n - sumF (fun j => if j = i0 then 0 else val bids j (bund m n l j)) n := by
      have e6 := sumF_congr (f := fun j => if j = i0 then 0 else val bids j (bund m n l (shift d c j)) - val bids j (bund m n l j)) (g := fun j => (if j = i0 then 0 else val bids j (bund m n l (shift d c j))) - (if j = i0 then 0 else val bids j (bund m n l j))) (n := n) (fun j hj => by
        show (if j = i0 then (0 : Int) else _) = (if j = i0 then (0 : Int) else _) - if j = i0 then (0 : Int) else _
        split <;> omega)
      rw [sumF_sub] at e6
      simp only [sumF]
      rw [e4, e4, e6]
      split <;> omega
    -- the ring with the leave at x0
    have r1 := sumF_but (f := fun x => if c (x + 1) = i0 ∧ c x = n then max (val bids (c (x + 1)) (bund m n l (c x)) - val bids (c (x + 1)) (bund m n l (c (x + 1)))) (-pay) else val bids (c (x + 1)) (bund m n l (c x)) - val bids (c (x + 1)) (bund m n l (c (x + 1)))) hx0
    have r2 := sumF_but (f := fun x => if c (x + 1) = i0 then 0 else val bids (c (x + 1)) (bund m n l (shift d c (c (x + 1)))) - val bids (c (x + 1)) (bund m n l (c (x + 1)))) hx0
    have r3 := sumF_congr (f := fun x => if x = x0 then 0 else if c (x + 1) = i0 ∧ c x = n then max (val bids (c (x + 1)) (bund m n l (c x)) - val bids (c (x + 1)) (bund m n l (c (x + 1)))) (-pay) else val bids (c (x + 1)) (bund m n l (c x)) - val bids (c (x + 1)) (bund m n l (c (x + 1)))) (g := fun x => if x = x0 then 0 else if c (x + 1) = i0 then 0 else val bids (c (x + 1)) (bund m n l (shift d c (c (x + 1)))) - val bids (c (x + 1)) (bund m n l (c (x + 1)))) (n := d) (fun x hx => by
      by_cases e : x = x0
      · show (if x = x0 then (0 : Int) else _) = if x = x0 then (0 : Int) else _
        rw [if_pos e, if_pos e]
      · have hne : c (x + 1) ≠ i0 := fun h' => by
          rw [← hc1] at h'
          rcases Nat.lt_or_gt_of_ne e with h2 | h2
          · exact ring_inj hd hcd hci x x0 h2 hx0 h'
          · exact ring_inj hd hcd hci x0 x h2 hx h'.symm
        show (if x = x0 then (0 : Int) else _) = if x = x0 then (0 : Int) else _
        rw [if_neg e, if_neg e, if_neg (fun h' => hne h'.1), if_neg hne, shift_at hd hcd hci hx])
    rw [hc1, hc0, if_pos ⟨rfl, rfl⟩] at r1
    rw [hc1, if_pos rfl] at r2
    rw [r3] at r1
    have hs' : sumF (fun j => if j = i0 then 0 else val bids j (bund m n l (shift d c j)) - val bids j (bund m n l j)) (n + 1) = sumF (fun x => if c (x + 1) = i0 then 0 else val bids (c (x + 1)) (bund m n l (shift d c (c (x + 1)))) - val bids (c (x + 1)) (bund m n l (c (x + 1)))) d := hs
    have r1' : sumF (fun x => if c (x + 1) = i0 ∧ c x = n then max (val bids (c (x + 1)) (bund m n l (c x)) - val bids (c (x + 1)) (bund m n l (c (x + 1)))) (-pay) else val bids (c (x + 1)) (bund m n l (c x)) - val bids (c (x + 1)) (bund m n l (c (x + 1)))) d ≤ 0 := by omega
    exact r1'
  · have hold := no_gain h hf hbest d c hd hcn hcd hci
    have e := sumF_congr (f := fun x => if c (x + 1) = i0 ∧ c x = bids.length then max (val bids (c (x + 1)) (bund m bids.length l (c x)) - val bids (c (x + 1)) (bund m bids.length l (c (x + 1)))) (-pay) else val bids (c (x + 1)) (bund m bids.length l (c x)) - val bids (c (x + 1)) (bund m bids.length l (c (x + 1)))) (g := fun x => val bids (c (x + 1)) (bund m bids.length l (c x)) - val bids (c (x + 1)) (bund m bids.length l (c (x + 1)))) (n := d) (fun x hx => by
      by_cases hc : c (x + 1) = i0 ∧ c x = bids.length
      · show (if c (x + 1) = i0 ∧ c x = bids.length then _ else _) = _
        rw [if_pos hc]
        have : ¬ (val bids i0 (bund m n l n) - val bids i0 (bund m n l i0) < -pay) := fun h' => hex ⟨x, hx, hc.1, by rw [hc.2, hn], h'⟩
        rw [hc.1, hc.2, hn]
        omega
      · show (if c (x + 1) = i0 ∧ c x = bids.length then _ else _) = _
        rw [if_neg hc])
    show sumF (fun x => if c (x + 1) = i0 ∧ c x = bids.length then max (val bids (c (x + 1)) (bund m bids.length l (c x)) - val bids (c (x + 1)) (bund m bids.length l (c (x + 1)))) (-pay) else val bids (c (x + 1)) (bund m bids.length l (c x)) - val bids (c (x + 1)) (bund m bids.length l (c (x + 1)))) d ≤ 0
    rw [e]; exact hold
/-- prices of bundles without envy at which a bidder pays no more than its payment -/
theorem noEnvy_pay {m : Nat} {bids : List (List Int)} (h : Offers m bids) {i : Nat} (hi : i < bids.length) : ∃ P, NoEnvy m bids P ∧ P i ≤ payOf m bids i := by
  have hpay : ownTo bids (bestP m bids) (sans (2 ^ bids.length - 1) (2 ^ i)) bids.length + payOf m bids i = worthP m bids (sans (2 ^ bids.length - 1) (2 ^ i)) := by
    rw [ownTo_but i bids.length bids.length (Nat.le_refl _)]
    unfold payOf; omega
  obtain ⟨q, hq⟩ := potentials (no_gain2 h (best_fits h) (best_total h) hi hpay)
  have hq' : ∀ u v, u < bids.length + 1 → v < bids.length + 1 → q u + (val bids u (bund m bids.length (bestP m bids) v) - val bids u (bund m bids.length (bestP m bids) u)) ≤ q v := fun u v hu hv => by
    have := hq u v hu hv
    split at this <;> omega
  have hq2 := hq i bids.length (by omega) (by omega)
  simp only [and_self, if_true] at hq2
  refine ⟨fun v => q v - q bids.length, ⟨by simp, fun v hv => ?_, fun u v hu hv => ?_⟩, ?_⟩
  · have := hq' bids.length v (by omega) (by omega)
    have e4 : ∀ S, val bids bids.length S = 0 := fun S => by unfold val; rw [if_neg (by omega)]
    rw [e4, e4] at this
    show 0 ≤ q v - q bids.length
    omega
  · have := hq' u v (by omega) (by omega)
    show val bids u (bund m bids.length (bestP m bids) v) - (q v - q bids.length) ≤ val bids u (bund m bids.length (bestP m bids) u) - (q u - q bids.length)
    omega
  · show q i - q bids.length ≤ payOf m bids i
    omega
theorem sumTo_split {p : List Int} {u s : Nat} (h : sans u s = 0) (n : Nat) : sumTo p s n = sumTo p u n + sumTo p (sans s u) n := by
  induction n with
  | zero => rfl
  | succ n ih =>
    rw [sumTo_next, sumTo_next, sumTo_next, bt_sans]
    cases hs : bt s n with
    | true => cases hu : bt u n <;> simp <;> omega
    | false =>
      cases hu : bt u n with
      | true => have := sans_eq_zero h n hu; rw [hs] at this; cases this
      | false => simp; omega
/-- what the bidders of a set from k on have at these prices -/
def ownsFrom (m : Nat) (bids : List (List Int)) (p : List Int) (who : Nat) : Nat → Int
  | 0 => 0
  | k + 1 => if bt who k = true then ownsFrom m bids p who k + ownOf bids (bestP m bids) p k else ownsFrom m bids p who k
/-- the worth of a set of bidders is no more than what they have and what the items cost -/
theorem worth_le {m : Nat} {bids : List (List Int)} {p : List Int} (h : Offers m bids) (hp : Clear m bids p) (who : Nat) : worthP m bids who ≤ ownsFrom m bids p who bids.length + sumP p (2 ^ m - 1) := by
  have hw := ((clearsP_iff _ _ _ _).1 hp.2.2).1
  have key : ∀ j k, k + j = bids.length → ∀ s, s < 2 ^ m → (tk m bids who k).getD s 0 ≤ ownsFrom m bids p who bids.length - ownsFrom m bids p who k + sumP p s := by
    intro j
    induction j with
    | zero =>
      intro k hk s hs
      have : k = bids.length := by omega
      subst this
      rw [tk_end]
      have hz : (List.replicate (2 ^ m) (0 : Int)).getD s 0 = 0 := by rw [List.getD_eq_getElem?_getD, List.getElem?_replicate]; split <;> rfl
      have := (sumTo_nonneg hp.2.1 s p.length).1
      rw [hz]; unfold sumP; omega
    | succ j ih =>
      intro k hk s hs
      have hkl : k < bids.length := by omega
      have h0 := offerB_zero (h.at_ hkl)
      have hnn := tk_nonneg h who (k + 1) (by omega)
      rw [tk_step _ _ _ _ hkl, rowT_get _ _ _ _ _ hs]
      cases hb : bt who k with
      | true =>
        obtain ⟨u, hul, hu, hu2⟩ := bestTo_got (set := s) h0 hnn (s + 1) (by omega)
        have h1 := ih (k + 1) (by omega) (sans s u) (Nat.lt_of_le_of_lt (sans_le _ _) hs)
        have h2 := hw k hkl u (by omega)
        have h3 := sumTo_split (p := p) hu p.length
        have e : ownsFrom m bids p who (k + 1) = ownsFrom m bids p who k + ownOf bids (bestP m bids) p k := if_pos hb
        unfold sumP at h1 h2 ⊢
        omega
      | false =>
        rw [bestTo_off h0 hnn _ (by omega)]
        have h1 := ih (k + 1) (by omega) s hs
        have e : ownsFrom m bids p who (k + 1) = ownsFrom m bids p who k := if_neg (by rw [hb]; decide)
        omega
  have := key bids.length 0 (by omega) (2 ^ m - 1) (by have := pow_pos2 m; omega)
  have e : ownsFrom m bids p who 0 = 0 := rfl
  unfold worthP
  omega
theorem sum_left {m : Nat} {bids : List (List Int)} {p : List Int} (h : Offers m bids) : ∀ k, k ≤ bids.length → sumP p (2 ^ m - 1) = sumF (fun j => sumP p (pick m bids j)) k + sumP p (leftAt m bids k) := by
  intro k
  induction k with
  | zero => intro _; simp [sumF, leftAt]
  | succ k ih =>
    intro hk
    have h1 := ih (by omega)
    have h2 := sumTo_split (p := p) (pick_sub h (k := k) (by omega)) p.length
    rw [leftAt_succ]
    simp only [sumF]
    unfold sumP at h1 ⊢
    omega
theorem sumTo_free {p : List Int} {s : Nat} (h : ∀ k, bt s k = true → p.getD k 0 = 0) (n : Nat) : sumTo p s n = 0 := by
  induction n with
  | zero => rfl
  | succ n ih =>
    rw [sumTo_next, ih]
    cases hb : bt s n with
    | true => rw [if_pos rfl, h n hb]; rfl
    | false => rfl
theorem owns_others {m : Nat} {bids : List (List Int)} {p : List Int} (i : Nat) : ∀ k, k ≤ bids.length → ownsFrom m bids p (sans (2 ^ bids.length - 1) (2 ^ i)) k = othersTo bids (bestP m bids) i k - (sumF (fun j => sumP p (pick m bids j)) k - if i < k then sumP p (pick m bids i) else 0) := by
  intro k
  induction k with
  | zero => intro _; rfl
  | succ k ih =>
    intro hk
    have h1 := ih (by omega)
    have hb : bt (sans (2 ^ bids.length - 1) (2 ^ i)) k = !decide (i = k) := by rw [bt_sans, bt_ones _ _ (by omega), bt_pow]; rfl
    have ho := ownOf_best (m := m) (bids := bids) (p := p) (i := k) (by omega)
    have hv : (bids.getD k []).getD ((bestP m bids).getD k 0).toNat 0 = (bids.getD k []).getD (pick m bids k) 0 := by rw [bestP_get _ _ _ (by omega), Int.toNat_natCast]
    simp only [ownsFrom, othersTo, sumF]
    by_cases e : k = i
    · subst e
      rw [if_neg (by rw [hb]; simp), if_pos rfl, if_pos (by omega)]
      rw [if_neg (by omega)] at h1
      omega
    · rw [if_pos (by rw [hb]; simp; exact fun h => e h.symm), if_neg e]
      by_cases hlt : i < k
      · rw [if_pos hlt] at h1; rw [if_pos (by omega)]; omega
      · rw [if_neg hlt] at h1; rw [if_neg (by omega)]; omega
/-- the least prices are the payments -/
theorem least_pay {m : Nat} {bids : List (List Int)} {p : List Int} (h : Offers m bids) (hs : isSingleP m bids = true) (hp : Least m bids p) {i : Nat} (hi : i < bids.length) : sumP p (pick m bids i) = payOf m bids i := by
  have hle : sumP p (pick m bids i) ≤ payOf m bids i := by
    obtain ⟨P, hP, hPi⟩ := noEnvy_pay h hi
    have hcl : Clear m bids (itemPrices m bids P) := ⟨by simp [itemPrices], itemPrices_nonneg h hP, noEnvy_clears h hs hP⟩
    have h1 := sumTo_mono (hp.2.2.2 _ hcl) (pick m bids i) m
    have h2 := sum_pick h hs hP hi
    unfold sumP at h2 ⊢
    rw [hcl.1] at h2
    rw [hp.2.1]
    omega
  have hge : payOf m bids i ≤ sumP p (pick m bids i) := by
    have h1 := worth_le h hp.1 (sans (2 ^ bids.length - 1) (2 ^ i))
    have h2 := sum_left (p := p) h bids.length (Nat.le_refl _)
    have h3 := owns_others (m := m) (bids := bids) (p := p) i bids.length (Nat.le_refl _)
    rw [if_pos hi] at h3
    have h4 : sumP p (leftAt m bids bids.length) = 0 := sumTo_free (fun k hk => by
      have hkm : k < m := Nat.lt_of_not_le fun hle => by rw [bt_lt (leftAt_lt m bids bids.length) hle] at hk; cases hk
      rcases ((clearsP_iff _ _ _ _).1 hp.1.2.2).2 k hkm with h5 | h5
      · obtain ⟨j, hj, hb⟩ := (taken_bits _ _ _).1 h5
        rw [← leftL_best bids.length (Nat.le_refl _)] at hk
        have := ((left_bits m (bestP m bids) k bids.length).1 hk).2 j hj
        rw [hb] at this; cases this
      · exact h5) _
    unfold payOf
    omega
  omega
/-- lower prices do not clear -/
theorem least_lower {m : Nat} {bids : List (List Int)} {p p' : List Int} (hp : Least m bids p) (hl : p'.length = m) (hn : ∀ k, 0 ≤ p'.getD k 0) {k : Nat} (hk : p'.getD k 0 < p.getD k 0) : clearsP m bids (bestP m bids) p' = false := by
  cases hc : clearsP m bids (bestP m bids) p' with
  | false => rfl
  | true =>
    have := hp.2.2.2 p' ⟨hl, hn, hc⟩ k
    omega

/-- the favorite: the own bundle, and none is better; or one that is better -/
theorem fav_any (bids : List (List Int)) (p : List Int) (m i q : Nat) :
    (favP bids p i (2 ^ m - 1) (gainOf bids p i q, q) = (gainOf bids p i q, q) ∧ ∀ s, s < 2 ^ m → gainOf bids p i s ≤ gainOf bids p i q) ∨
    ∃ b, b < 2 ^ m ∧ favP bids p i (2 ^ m - 1) (gainOf bids p i q, q) = (gainOf bids p i b, b) ∧ gainOf bids p i q < gainOf bids p i b := by
  have hM := pow_pos2 m
  have hmem : ∀ s, s < 2 ^ m → s ∈ subs (2 ^ m - 1) := fun s hsl => mem_subs.2 (sans_zero_iff.2 fun x hx => bt_ones _ _ (by
    refine Nat.lt_of_not_le fun hle => ?_
    rw [bt_lt hsl hle] at hx; cases hx))
  obtain ⟨h1, h2, h3⟩ := favF_spec bids p i (subs (2 ^ m - 1)) (gainOf bids p i q, q)
  have e : favP bids p i (2 ^ m - 1) (gainOf bids p i q, q) = favF bids p i (gainOf bids p i q, q) (subs (2 ^ m - 1)) := rfl
  rw [e]
  rcases h3 with h3 | ⟨l1, b, l2, e2, h3, h4, h5⟩
  · left
    refine ⟨h3, fun s hsl => ?_⟩
    have := h2 s (hmem s hsl)
    rw [h3] at this
    exact this
  · right
    have hbm : b ∈ subs (2 ^ m - 1) := by rw [e2]; simp
    have hbl : b < 2 ^ m := by have := le_of_sans (mem_subs.1 hbm); omega
    exact ⟨b, hbl, h3, h4⟩
theorem clears_left (m : Nat) (bids : List (List Int)) (l p : List Int) : clearsP m bids l p = true ↔
    (∀ i, i < bids.length → ∀ s, s < 2 ^ m → gainOf bids p i s ≤ gainOf bids p i (l.getD i 0).toNat) ∧ ∀ k, k < m → bt (leftL m l bids.length) k = true → p.getD k 0 = 0 := by
  rw [clearsP_iff]
  refine and_congr Iff.rfl (forall_congr' fun k => forall_congr' fun hk => ?_)
  constructor
  · rintro (h | h) hl
    · obtain ⟨j, hj, hb⟩ := (taken_bits _ _ _).1 h
      rw [((left_bits _ _ _ _).1 hl).2 j hj] at hb; cases hb
    · exact h
  · intro h
    by_cases hl : bt (leftL m l bids.length) k = true
    · exact .inr (h hl)
    · refine .inl ((taken_bits _ _ _).2 ?_)
      refine Classical.byContradiction fun hno => hl ((left_bits _ _ _ _).2 ⟨bt_ones _ _ hk, fun j hj => ?_⟩)
      cases hb : bt (l.getD j 0).toNat k with
      | false => rfl
      | true => exact absurd ⟨j, hj, hb⟩ hno
theorem clears_no {m : Nat} {bids : List (List Int)} {l p : List Int} (h : ¬ ((∀ i, i < bids.length → ∀ s, s < 2 ^ m → gainOf bids p i s ≤ gainOf bids p i (l.getD i 0).toNat) ∧ ∀ k, k < m → bt (leftL m l bids.length) k = true → p.getD k 0 = 0)) : clearsP m bids l p = false := by
  cases hb : clearsP m bids l p with
  | false => rfl
  | true => exact absurd ((clears_left m bids l p).1 hb) h
set_option maxRecDepth 100000 in
set_option maxHeartbeats 4000000 in
theorem mclears_go (w : World) (g m : Nat) (bids : List (List Int)) (l p : List Int) (hM : Market w g (2 ^ m - 1) bids l p) (hm : m ≤ 6) (hn : bids.length ≤ 7) (ho : Offers m bids) (hlen : l.length = bids.length) (hb : IsBundles m l) (hpl : p.length = m) (hsm : Small12 p) :
    Calls Tryd.prog 56 #[.pointer (some ⟨g, 0, none⟩)] w fun e w' => e = .returned (.bool (clearsP m bids l p)) ∧ Below w.heap.size w w' := by
  have hp60 : p.length ≤ 60 := by omega
  have hM0 := pow_pos2 m
  have hM64 := pow_le64 hm
  have hbn : ∀ i, (l.getD i 0).toNat < 2 ^ m ∧ l.getD i 0 = ((l.getD i 0).toNat : Int) := fun i => by
    have := hb i
    have e : ((2 : Int) ^ m) = ((2 ^ m : Nat) : Int) := by simp
    rw [e] at this
    omega
  have HGAIN : Hid (∀ W, Market W g (2 ^ m - 1) bids l p → ∀ i, i < bids.length → ∀ b : Nat, b < 2 ^ m → Calls Tryd.prog 76 #[.pointer (some ⟨g, 0, none⟩), .int .i64 i, .int .i64 b] W fun e w' => e = .returned (.agg #[.int .i64 (gainOf bids p i b), .int .i64 b]) ∧ Below W.heap.size W w') := fun W hW i hi b hbN =>
    gain_go g (2 ^ m - 1) i b bids l p W hW hi hn (by rw [offerB_len (ho.at_ hi)]; exact hbN) (by omega) hp60 hsm (offers_bd ho)
  have HFAV : Hid (∀ W, Market W g (2 ^ m - 1) bids l p → ∀ i, i < bids.length → ∀ q : Nat, Calls Tryd.prog 77 #[.pointer (some ⟨g, 0, none⟩), .int .i64 i, .agg #[.int .i64 (gainOf bids p i q), .int .i64 (q : Nat)]] W fun e w' => e = .returned (.agg #[.int .i64 (favP bids p i (2 ^ m - 1) (gainOf bids p i q, q)).1, .int .i64 (favP bids p i (2 ^ m - 1) (gainOf bids p i q, q)).2]) ∧ Below W.heap.size W w') := fun W hW i hi q =>
    favorite_go g (2 ^ m - 1) i _ _ bids l p W hW hi hn (by rw [offerB_len (ho.at_ hi)]; omega) (by omega) hp60 hsm (offers_bd ho)
  have HCASE := Lib.hid (fun i q => fav_any bids p m i q)
  have HNO := Lib.hid (fun h => @clears_no m bids l p h)
  have HYES := Lib.hid (clears_left m bids l p).2
  have HBN := Lib.hid hbn
  have HM := Lib.hid hM
  have HLL : Hid (∀ k, leftL m l k < 2 ^ m) := leftL_lt m l
  have HLS : Hid (∀ k, leftL m l (k + 1) = sans (leftL m l k) (l.getD k 0).toNat) := fun k => rfl
  have HPL := Lib.hid hpl
  have HHAS := Lib.hid (fun b k (hb : b < 1000) (hk : k < 60) W => has_any b k W hb hk)
  obtain ⟨pb, cb, ll, pp, hr, hmt, hll, hps⟩ := hM.cells
  obtain ⟨lp, lc, rfl, hlc, hlm⟩ := hll.form
  obtain ⟨ap, ac, rfl, hpc, hpm⟩ := hps.form
  have k0 := hr.cell 0
  have k2 := hr.cell 2
  have k3 := hr.cell 3
  simp only [List.getElem?_cons_zero, List.getElem?_cons_succ] at k0 k2 k3
  have hglt := hr.lt
  have HL := Lib.hid hll
  have HPS := Lib.hid hps
  rw [hlen] at k2
  rw [hpl] at k3
  have HK3 := Lib.hid k3
  have HLEN := Lib.hid hlen
  have hl0 : (0 : Int) ≤ (bids.length : Int) := by omega
  have hL00 : leftL m l 0 = 2 ^ m - 1 := rfl
  obtain ⟨M, hMM⟩ : ∃ M, 2 ^ m = M := ⟨_, rfl⟩
  have HMM := Lib.hid hMM
  obtain ⟨N, hNN⟩ : ∃ N, 2 ^ m - 1 = N := ⟨_, rfl⟩
  have HNN := Lib.hid hNN
  rw [hNN] at k0 hL00
  rw [hMM] at hM64
  have HL0 := Lib.hid hL00
  clear hM hr hmt hll hps hsm ho hM0 hMM hb hbn hlen hNN hL00 hpl k3
  go_enter Tryd.func56, Tryd.ntmps56
  go_wp2
  go_loopw [3, 19] (fun s i wr => ∃ k : Nat, k ≤ bids.length ∧ i = .int .i64 k ∧ s = .int .i64 (leftL m l k : Nat) ∧ Below w.heap.size w wr ∧ ∀ j, j < k → ∀ s, s < 2 ^ m → gainOf bids p j s ≤ gainOf bids p j (l.getD j 0).toNat) (fun _ i _ => bids.length - (intOf i).toNat)
  case atStart => exact ⟨0, Nat.zero_le _, rfl, by rw [HL0.out], Below.refl _ _, fun j hj => by omega⟩
  case round =>
    obtain ⟨k, hk, rfl, rfl, hb, hall⟩ := hrel
    have HB := Lib.hid hb
    have HALL := Lib.hid hall
    have HMR := Lib.hid (HM.out.below hb)
    have hLk := HLL.out k
    rw [HMM.out] at hLk
    by_cases hlt : k < bids.length
    · obtain ⟨b1, o1, c1, hv, _, _, _, hcx⟩ := (HL.out.below hb).int_at k (by rw [HLEN.out]; exact hlt)
      rw [HLEN.out] at hv
      cases hv
      obtain ⟨hqM, hqI⟩ := HBN.out k
      rw [hqI] at hcx
      have HG := Lib.hid (HGAIN.out wr HMR.out k hlt _ hqM)
      have HF0 := Lib.hid (fun W h => HFAV.out W h k hlt (l.getD k 0).toNat)
      have hcase := HCASE.out k (l.getD k 0).toNat
      have HSTEP := Lib.hid (HLS.out k)
      have HQ := Lib.hid hqI
      obtain ⟨q, hq⟩ : ∃ q, (l.getD k 0).toNat = q := ⟨_, rfl⟩
      have HQE := Lib.hid hq
      rw [hq] at HG HF0 hcase hcx hqM HSTEP HQ
      rw [HMM.out] at hqM
      obtain ⟨x, hx⟩ : ∃ x, gainOf bids p k q = x := ⟨_, rfl⟩
      have HXE := Lib.hid hx
      rw [hx] at HG HF0 hcase
      obtain ⟨T, hT⟩ : ∃ T, leftL m l k = T := ⟨_, rfl⟩
      rw [hT] at hLk HSTEP ⊢
      have hsans := i64_andNot T q (by omega) (by omega)
      clear hqI hq hx hT hb hall
      rcases hcase with ⟨hfe, hno⟩ | ⟨b, hbM, hfe, hgt⟩
      · have HF : Hid (∀ W, Market W g (2 ^ m - 1) bids l p → Calls Tryd.prog 77 #[.pointer (some ⟨g, 0, none⟩), .int .i64 k, .agg #[.int .i64 x, .int .i64 (q : Nat)]] W fun e w' => e = .returned (.agg #[.int .i64 x, .int .i64 (q : Nat)]) ∧ Below W.heap.size W w') := fun W h => by
          have := HF0.out W h
          rw [hfe] at this; exact this
        have e1 : (x == x) = true := by simp
        have e2 : ((q : Int) == (q : Int)) = true := by simp
        have HNOB := Lib.hid hno
        clear hno hfe HF0
        go_wp2_with (go_at_call 76; refine HG.out.mono ?_; rintro e w1 ⟨rfl, hb1⟩; have HM1 := Lib.hid ((HMR.out.below hb1).below ((Below.refl w1.heap.size w1).alloc (Nat.le_refl _) (.cells #[.int .i64 x, .int .i64 (q : Nat)] 98))); have HB1 := Lib.hid ((HB.out.trans (hb1.mono HB.out.size)).alloc (Nat.le_trans HB.out.size hb1.size) (.cells #[.int .i64 x, .int .i64 (q : Nat)] 98)); have HR5 := Lib.hid (row_new 98 w1 #[.int .i64 x, .int .i64 (q : Nat)]); clear hb1)
        obtain ⟨W3, hW3⟩ : ∃ W3, w1.alloc (.cells #[.int .i64 x, .int .i64 (q : Nat)] 98) = W3 := ⟨_, rfl⟩
        rw [hW3] at HM1 HR5 HB1 ⊢
        clear hW3
        refine wp_region_rel (by kernel_rfl) 56 rfl (by kernel_rfl) [.fix (.pointer (some ⟨g, 0, none⟩)), .fix (.int .i64 k), .fix (.agg #[.int .i64 x, .int .i64 (q : Nat)]), .fix (.agg #[.int .i64 x, .int .i64 (q : Nat)]), .fix (.agg #[.int .i64 x, .int .i64 (q : Nat)]), .fix (.bool false)] rfl (stays_fix (by rfl)) ?hop ?hQ
        case hop =>
          intro W hW j o hj vs wz hb hV
          have hbz : Below W3.heap.size W3 wz := by rw [hW] at hb; exact ((Below.refl W3.heap.size W3).drew).trans hb
          have c0 := (HR5.out.below hbz HR5.out.lt).cell 0
          have c1 := (HR5.out.below hbz HR5.out.lt).cell 1
          simp only [List.getElem?_cons_zero, List.getElem?_cons_succ, List.getElem?_toArray] at c0 c1
          have HMZ := Lib.hid (HM1.out.below hbz)
          clear hW hb
          have hj' : j < 6 := (List.getElem?_eq_some_iff.1 hj).1
          rcases (by omega : j = 0 ∨ j = 1 ∨ j = 2 ∨ j = 3 ∨ j = 4 ∨ j = 5) with rfl | rfl | rfl | rfl | rfl | rfl
          all_goals cases hj
          all_goals clear hj'
          all_goals refine .inl ⟨rfl, ?_⟩
          all_goals (try simp [predsR, Region.binds, Vk] at hV)
          all_goals simp only [putAll]
          all_goals generalize hR : Res _ _ vs wz = R
          all_goals go_simp
          all_goals subst hR
          · exact ⟨rfl, Below.refl _ _⟩
          · exact ⟨rfl, Below.refl _ _⟩
          · exact ⟨rfl, Below.refl _ _⟩
          · refine (HF.out _ HMZ.out).mono ?_
            rintro e wy ⟨rfl, hby⟩
            exact ⟨_, rfl, rfl, hby⟩
          · exact ⟨rfl, Below.refl _ _⟩
          · exact ⟨rfl, Below.refl _ _⟩
        case hQ =>
          intro W hW vs wz hb hV hD
          have hbz : Below W3.heap.size W3 wz := by rw [hW] at hb; exact ((Below.refl W3.heap.size W3).drew).trans hb
          have HBZ := Lib.hid (HB1.out.trans (hbz.mono HB1.out.size))
          have v0 : vs 0 = _ := hV 0 (by decide)
          have v1 : vs 1 = _ := hV 1 (by decide)
          have v2 : vs 2 = _ := hV 2 (by decide)
          have v3 : vs 3 = _ := hV 3 (by decide)
          have v4 : vs 4 = _ := hV 4 (by decide)
          have v5 : vs 5 = _ := hV 5 (by decide)
          simp only [putAll, v0, v1, v2, v3, v4, v5]
          clear hV hD hb hW hbz v0 v1 v2 v3 v4 v5
          go_wp2
          go_roundw
          case rel => exact ⟨k + 1, by omega, by go_num, by rw [HSTEP.out], HBZ.out, fun j hj => by
            by_cases e : j = k
            · subst e; rw [HQE.out, HXE.out]; exact HNOB.out
            · exact HALL.out j (by omega)⟩
          case measure => simp [intOf]; omega
      · have HFALSE : Hid (clearsP m bids l p = false) := HNO.out fun h => by
          have := h.1 k hlt b hbM
          rw [HQE.out, HXE.out] at this
          omega
        obtain ⟨y, hy⟩ : ∃ y, gainOf bids p k b = y := ⟨_, rfl⟩
        rw [hy] at hfe hgt
        have HF : Hid (∀ W, Market W g (2 ^ m - 1) bids l p → Calls Tryd.prog 77 #[.pointer (some ⟨g, 0, none⟩), .int .i64 k, .agg #[.int .i64 x, .int .i64 (q : Nat)]] W fun e w' => e = .returned (.agg #[.int .i64 y, .int .i64 (b : Nat)]) ∧ Below W.heap.size W w') := fun W h => by
          have := HF0.out W h
          rw [hfe] at this; exact this
        have e1 : (y == x) = false := by rw [beq_eq_false_iff_ne]; omega
        clear hfe HF0 hy hgt hbM
        go_wp2_with (go_at_call 76; refine HG.out.mono ?_; rintro e w1 ⟨rfl, hb1⟩; have HM1 := Lib.hid ((HMR.out.below hb1).below ((Below.refl w1.heap.size w1).alloc (Nat.le_refl _) (.cells #[.int .i64 x, .int .i64 (q : Nat)] 98))); have HB1 := Lib.hid ((HB.out.trans (hb1.mono HB.out.size)).alloc (Nat.le_trans HB.out.size hb1.size) (.cells #[.int .i64 x, .int .i64 (q : Nat)] 98)); have HR5 := Lib.hid (row_new 98 w1 #[.int .i64 x, .int .i64 (q : Nat)]); clear hb1)
        obtain ⟨W3, hW3⟩ : ∃ W3, w1.alloc (.cells #[.int .i64 x, .int .i64 (q : Nat)] 98) = W3 := ⟨_, rfl⟩
        rw [hW3] at HM1 HR5 HB1 ⊢
        clear hW3
        refine wp_region_rel (by kernel_rfl) 56 rfl (by kernel_rfl) [.fix (.pointer (some ⟨g, 0, none⟩)), .fix (.int .i64 k), .fix (.agg #[.int .i64 x, .int .i64 (q : Nat)]), .fix (.agg #[.int .i64 y, .int .i64 (b : Nat)]), .fix (.agg #[.int .i64 x, .int .i64 (q : Nat)]), .fix (.bool true)] rfl (stays_fix (by rfl)) ?hop ?hQ
        case hop =>
          intro W hW j o hj vs wz hb hV
          have hbz : Below W3.heap.size W3 wz := by rw [hW] at hb; exact ((Below.refl W3.heap.size W3).drew).trans hb
          have c0 := (HR5.out.below hbz HR5.out.lt).cell 0
          have c1 := (HR5.out.below hbz HR5.out.lt).cell 1
          simp only [List.getElem?_cons_zero, List.getElem?_cons_succ, List.getElem?_toArray] at c0 c1
          have HMZ := Lib.hid (HM1.out.below hbz)
          clear hW hb
          have hj' : j < 6 := (List.getElem?_eq_some_iff.1 hj).1
          rcases (by omega : j = 0 ∨ j = 1 ∨ j = 2 ∨ j = 3 ∨ j = 4 ∨ j = 5) with rfl | rfl | rfl | rfl | rfl | rfl
          all_goals cases hj
          all_goals clear hj'
          all_goals refine .inl ⟨rfl, ?_⟩
          all_goals (try simp [predsR, Region.binds, Vk] at hV)
          all_goals simp only [putAll]
          all_goals generalize hR : Res _ _ vs wz = R
          all_goals go_simp
          all_goals subst hR
          · exact ⟨rfl, Below.refl _ _⟩
          · exact ⟨rfl, Below.refl _ _⟩
          · exact ⟨rfl, Below.refl _ _⟩
          · refine (HF.out _ HMZ.out).mono ?_
            rintro e wy ⟨rfl, hby⟩
            exact ⟨_, rfl, rfl, hby⟩
          · exact ⟨rfl, Below.refl _ _⟩
          · exact ⟨rfl, Below.refl _ _⟩
        case hQ =>
          intro W hW vs wz hb hV hD
          have hbz : Below W3.heap.size W3 wz := by rw [hW] at hb; exact ((Below.refl W3.heap.size W3).drew).trans hb
          have HBZ := Lib.hid (HB1.out.trans (hbz.mono HB1.out.size))
          have v0 : vs 0 = _ := hV 0 (by decide)
          have v1 : vs 1 = _ := hV 1 (by decide)
          have v2 : vs 2 = _ := hV 2 (by decide)
          have v3 : vs 3 = _ := hV 3 (by decide)
          have v4 : vs 4 = _ := hV 4 (by decide)
          have v5 : vs 5 = _ := hV 5 (by decide)
          simp only [putAll, v0, v1, v2, v3, v4, v5]
          clear hV hD hb hW hbz v0 v1 v2 v3 v4 v5
          go_wp2
          go_ret
          exact ⟨by rw [HFALSE.out]; rfl, HBZ.out⟩
    · obtain rfl : k = bids.length := by omega
      have c3 := (hb.cell (p := ⟨g, 3, none⟩) hglt).trans HK3.out
      obtain ⟨L, hL⟩ : ∃ L, leftL m l bids.length = L := ⟨_, rfl⟩
      have HLE := Lib.hid hL
      rw [hL] at hLk ⊢
      clear hb hall hL
      go_wp2
      go_loopw [43] (fun i wx => ∃ k : Nat, k ≤ m ∧ i = .int .i64 k ∧ Below w.heap.size w wx ∧ ∀ j, j < k → bt L j = true → p.getD j 0 = 0) (fun i _ => m - (intOf i).toNat)
      case atStart => exact ⟨0, Nat.zero_le _, rfl, HB.out, fun j hj => by omega⟩
      case round =>
        obtain ⟨k, hk, rfl, hb, hz⟩ := hrel
        have HZ := Lib.hid hz
        have HB2 := Lib.hid hb
        by_cases hlt : k < m
        · obtain ⟨b1, o1, c1, hv, _, _, _, hcx⟩ := (HPS.out.below hb).int_at k (by rw [HPL.out]; exact hlt)
          rw [HPL.out] at hv
          cases hv
          have HH := Lib.hid (fun W => HHAS.out L k (by omega) (by omega) W)
          have HKL := Lib.hid hlt
          obtain ⟨x, hx⟩ : ∃ x, p.getD k 0 = x := ⟨_, rfl⟩
          have HX := Lib.hid hx
          rw [hx] at hcx
          cases hbt : bt L k with
          | false =>
            have HBT := Lib.hid hbt
            rw [hbt] at HH
            clear hb hz hx hbt
            go_wp2_with (go_at_call 78; refine (HH.out _).mono ?_; rintro e w1 ⟨rfl, rfl⟩)
            go_roundw
            case rel => exact ⟨k + 1, by omega, by go_num, HB2.out, fun j hj h => by
              by_cases e : j = k
              · subst e; rw [HBT.out] at h; cases h
              · exact HZ.out j (by omega) h⟩
            case measure => simp [intOf]; omega
          | true =>
            have HBT := Lib.hid hbt
            rw [hbt] at HH
            by_cases hx0 : x = 0
            · subst hx0
              clear hb hz hx hbt
              go_wp2_with (go_at_call 78; refine (HH.out _).mono ?_; rintro e w1 ⟨rfl, rfl⟩)
              go_roundw
              case rel => exact ⟨k + 1, by omega, by go_num, HB2.out, fun j hj h => by
                by_cases e : j = k
                · subst e; exact HX.out
                · exact HZ.out j (by omega) h⟩
              case measure => simp [intOf]; omega
            · have HFALSE : Hid (clearsP m bids l p = false) := HNO.out fun h => by
                have := h.2 k hlt (by rw [HLE.out]; exact hbt)
                rw [hx] at this
                exact hx0 this
              have e1 : (x == 0) = false := by rw [beq_eq_false_iff_ne]; exact hx0
              have e2 : (x != 0) = true := by rw [bne_iff_ne]; exact hx0
              clear hb hz hx hbt
              go_wp2_with (go_at_call 78; refine (HH.out _).mono ?_; rintro e w1 ⟨rfl, rfl⟩)
              go_ret
              exact ⟨by rw [HFALSE.out]; rfl, HB2.out⟩
        · obtain rfl : k = m := by omega
          have HTRUE : Hid (clearsP k bids l p = true) := HYES.out ⟨HALL.out, fun j hj h => HZ.out j hj (by rw [← HLE.out]; exact h)⟩
          clear hb hz
          go_wp2
          go_ret
          exact ⟨by rw [HTRUE.out]; rfl, HB2.out⟩

/-- may these prices be asked about, after the allocation is one? -/
def askB (K : Nat) (ok : Bool) (p : List Int) : Bool := ok && (p.length == K && from0 1000000000 p)
theorem small_from0 {p : List Int} (h : from0 1000000000 p = true) : Small12 p := fun i => by
  by_cases hi : i < p.length
  · have := from0_iff.1 h i hi; omega
  · rw [List.getD_eq_getElem?_getD, List.getElem?_eq_none (by omega)]; show _ ≤ (0 : Int) ∧ (0 : Int) ≤ _; omega
set_option maxRecDepth 100000 in
set_option maxHeartbeats 4000000 in
theorem bidClears_go (v lv pv : Value) (K : Nat) (bids : List (List Int)) (l p : List Int) (w : World) (ok : Bool) (hl : Mat w v bids) (hll : Sl w lv (ints l)) (hpp : Sl w pv (ints p)) (h1 : 1 ≤ K) (h6 : K ≤ 6) (hn1 : 1 ≤ bids.length) (hn6 : bids.length ≤ 6) (ho : Offers K bids) (hp : p.length ≤ 1000)
    (hok : ok = true → l.length = bids.length ∧ IsBundles K l)
    (his : ∀ W, Below w.heap.size w W → Calls Tryd.prog 54 #[.agg #[.int .i64 ((2 ^ K - 1 : Nat) : Int), v], lv] W fun e w' => e = .returned (.bool ok) ∧ Below W.heap.size W w') :
    Calls Tryd.prog 22 #[.int .i64 K, v, lv, pv] w fun e w' => e = .returned (.tuple #[.bool (if askB K ok p = true then clearsP K bids l p else false), .int .i64 (if askB K ok p = true then 0 else 1)]) ∧ Below w.heap.size w w' := by
  obtain ⟨A1, hA1⟩ : ∃ A1 : Bool, (if askB K ok p = true then clearsP K bids l p else false) = A1 := ⟨_, rfl⟩
  obtain ⟨A2, hA2⟩ : ∃ A2 : Int, (if askB K ok p = true then 0 else 1) = A2 := ⟨_, rfl⟩
  rw [hA1, hA2]
  have HA1 := Lib.hid hA1
  have HA2 := Lib.hid hA2
  have hck := checkP_off h1 h6 hn1 hn6 ho
  have HNW := Lib.hid (new_go v K bids w hl (by unfold I64; omega) (few_off h6 hn6 ho))
  have e1 : newR (K : Int) bids v = .agg #[.int .i64 ((2 ^ K - 1 : Nat) : Int), v] := by unfold newR; rw [if_pos hck, Int.toNat_natCast]
  rw [e1, hck] at HNW
  have HIS := Lib.hid his
  have HAF := Lib.hid (fun W (h : Sl W pv (ints p)) => areFrom0_any pv p 1000000000 W h hp)
  have HCL : Hid (∀ W g, Market W g (2 ^ K - 1) bids l p → l.length = bids.length → IsBundles K l → p.length = K → Small12 p → Calls Tryd.prog 56 #[.pointer (some ⟨g, 0, none⟩)] W fun e w' => e = .returned (.bool (clearsP K bids l p)) ∧ Below W.heap.size W w') := fun W g hM a b c d => mclears_go W g K bids l p hM h6 (by omega) ho a b c d
  have HOK := Lib.hid hok
  have HL := Lib.hid hl
  have HLL := Lib.hid hll
  have HPP := Lib.hid hpp
  obtain ⟨pb, cap, rfl, hlc, hcm⟩ := hl.form_
  obtain ⟨lp, lc, rfl, hllc, hlcm⟩ := hll.form
  obtain ⟨pp, pc, rfl, hppc, hpcm⟩ := hpp.form
  obtain ⟨N, hN⟩ : ∃ N : Nat, 2 ^ K - 1 = N := ⟨_, rfl⟩
  rw [hN] at HNW HIS HCL
  clear hl hll hpp ho hck e1 hN hok his hA1 hA2
  go_enter Tryd.func22, Tryd.ntmps22
  go_wp2_with fail
  refine HNW.out.mono ?_
  rintro e w1 ⟨rfl, hb1⟩
  have HB1 := Lib.hid (hb1.alloc hb1.size (.cells #[.int .i64 (N : Int), .slice pb bids.length cap] 73))
  have hr1 := row_new 73 w1 #[.int .i64 (N : Int), .slice pb bids.length cap]
  have d0 := hr1.cell 0
  have d1 := hr1.cell 1
  simp only [List.getElem?_cons_zero, List.getElem?_cons_succ, List.getElem?_toArray] at d0 d1
  have HR1 := Lib.hid hr1
  clear hb1 hr1 HNW
  go_wp2_with fail
  refine (HIS.out _ HB1.out).mono ?_
  rintro e w2 ⟨rfl, hb2⟩
  have HB2 := Lib.hid (HB1.out.trans (hb2.mono HB1.out.size))
  have hr2 := HR1.out.below hb2 HR1.out.lt
  have c0 := hr2.cell 0
  have c1 := hr2.cell 1
  simp only [List.getElem?_cons_zero, List.getElem?_cons_succ, List.getElem?_toArray] at c0 c1
  clear hb2 hr2 d0 d1 HIS
  cases ok with
  | false =>
    have HA : Hid (askB K false p = false) := rfl
    go_wp2
    go_ret2
    have z1 := HA1.out
    have z2 := HA2.out
    rw [HA.out] at z1 z2
    exact ⟨by rw [← z1, ← z2]; rfl, HB2.out⟩
  | true =>
    have HOKT := Lib.hid (HOK.out rfl)
    clear HOK
    by_cases hpl : p.length = K
    · have HPL := Lib.hid hpl
      have HAF2 := Lib.hid (HAF.out w2 (HPP.out.below HB2.out))
      have e5 : ((p.length : Int) == (K : Int)) = true := by simp [hpl]
      have e6 : ((p.length : Int) != (K : Int)) = false := by simp [hpl]
      obtain ⟨F, hF⟩ : ∃ F, from0 1000000000 p = F := ⟨_, rfl⟩
      have HF := Lib.hid hF
      rw [hF] at HAF2
      have HA : Hid (askB K true p = F) := by show askB K true p = F; unfold askB; rw [hF, hpl]; simp
      clear hF hpl HAF
      cases F with
      | false =>
        go_wp2_with fail
        refine HAF2.out.mono ?_
        rintro e w3 ⟨rfl, rfl⟩
        go_wp2
        go_ret2
        have z1 := HA1.out
        have z2 := HA2.out
        rw [HA.out] at z1 z2
        exact ⟨by rw [← z1, ← z2]; rfl, HB2.out⟩
      | true =>
        go_wp2_with fail
        refine HAF2.out.mono ?_
        rintro e w3 ⟨rfl, rfl⟩
        have hbn := (Below.refl w2.heap.size w2).alloc (Nat.le_refl _) (.cells #[.int .i64 (N : Nat), .slice pb bids.length cap, .slice lp l.length lc, .slice pp p.length pc] 84)
        have HB3 := Lib.hid (HB2.out.trans (hbn.mono HB2.out.size))
        have HMK : Hid (Market (w2.alloc (.cells #[.int .i64 (N : Nat), .slice pb bids.length cap, .slice lp l.length lc, .slice pp p.length pc] 84)) w2.heap.size N bids l p) := ⟨pb, cap, _, _, by simpa using row_new 84 w2 #[.int .i64 (N : Nat), .slice pb bids.length cap, .slice lp l.length lc, .slice pp p.length pc], HL.out.below HB3.out, HLL.out.below HB3.out, HPP.out.below HB3.out⟩
        clear hbn
        go_wp2_with fail
        refine (HCL.out _ _ HMK.out HOKT.out.1 HOKT.out.2 HPL.out (small_from0 HF.out)).mono ?_
        rintro e w4 ⟨rfl, hb4⟩
        have HB4 := Lib.hid (HB3.out.trans (hb4.mono HB3.out.size))
        clear hb4
        go_wp2
        go_ret2
        have z1 := HA1.out
        have z2 := HA2.out
        rw [HA.out] at z1 z2
        exact ⟨by rw [← z1, ← z2]; rfl, HB4.out⟩
    · have HA : Hid (askB K true p = false) := by
        show askB K true p = false
        unfold askB
        have : (p.length == K) = false := by rw [beq_eq_false_iff_ne]; exact hpl
        rw [this]; rfl
      have e5 : ((p.length : Int) == (K : Int)) = false := by rw [beq_eq_false_iff_ne]; omega
      have e6 : ((p.length : Int) != (K : Int)) = true := by rw [bne_iff_ne]; omega
      clear hpl HAF
      go_wp2
      go_ret2
      have z1 := HA1.out
      have z2 := HA2.out
      rw [HA.out] at z1 z2
      exact ⟨by rw [← z1, ← z2]; rfl, HB2.out⟩
/-- at an allocation, with prices that are right -/
theorem bidClears_yes (v lv pv : Value) (K : Nat) (bids : List (List Int)) (l p : List Int) (w : World) (hl : Mat w v bids) (hll : Sl w lv (ints l)) (hpp : Sl w pv (ints p)) (h1 : 1 ≤ K) (h6 : K ≤ 6) (hn1 : 1 ≤ bids.length) (hn6 : bids.length ≤ 6) (ho : Offers K bids) (hp : p.length = K) (hp0 : from0 1000000000 p = true)
    (hlen : l.length = bids.length) (hf : Fits K l bids.length) (hb : IsBundles K l) :
    Calls Tryd.prog 22 #[.int .i64 K, v, lv, pv] w fun e w' => e = .returned (.tuple #[.bool (clearsP K bids l p), .int .i64 0]) ∧ Below w.heap.size w w' := by
  have h := bidClears_go v lv pv K bids l p w true hl hll hpp h1 h6 hn1 hn6 ho (by omega) (fun _ => ⟨hlen, hb⟩) (fun W hW => isAlloc_yes v lv K bids l W (hl.below hW) (hll.below hW) h6 (by omega) hlen hf hb)
  have ha : askB K true p = true := by unfold askB; rw [hp0, hp]; simp
  rw [ha] at h
  exact h

theorem singleTo_pow (o : List Int) (k : Nat) : ∀ n, singleTo o (2 ^ k) n = if k < n then max 0 (o.getD k 0) else 0 := by
  intro n
  induction n with
  | zero => rfl
  | succ n ih =>
    simp only [singleTo]
    rw [ih, bt_pow]
    by_cases e : k = n
    · subst e; simp
    · have : decide (k = n) = false := by simpa using e
      rw [this]
      simp only [Bool.false_eq_true, if_false]
      by_cases h : k < n
      · rw [if_pos h, if_pos (by omega)]
      · rw [if_neg h, if_neg (by omega)]
theorem singleTo_again (m : Nat) (o : List Int) (s : Nat) : ∀ n, n ≤ m → singleTo (itemsRow m (singleRow m o)) s n = singleTo o s n := by
  intro n
  induction n with
  | zero => intro _; rfl
  | succ n ih =>
    intro hn
    have hg : (itemsRow m (singleRow m o)).getD n 0 = max 0 (o.getD n 0) := by
      have : (itemsRow m (singleRow m o)).getD n 0 = (singleRow m o).getD (2 ^ n) 0 := by
        have hl : n < m := by omega
        simp [itemsRow, hl]
      rw [this, singleRow_get m o _ (pow_lt_pow (by omega)), singleTo_pow, if_pos (by omega)]
    have h0 := singleTo_lo o s n
    simp only [singleTo]
    rw [ih (by omega), hg]
    split <;> omega
theorem isSingle_singleP (m : Nat) (B : List (List Int)) : isSingleP m (singleP m B) = true := by
  rw [isSingleP_iff]
  intro i hi s hs
  rw [singleP_len] at hi
  have e : (singleP m B).getD i [] = singleRow m (B.getD i []) := by
    unfold singleP
    rw [List.getD_eq_getElem?_getD, List.getElem?_map, List.getElem?_eq_getElem hi, List.getD_eq_getElem?_getD, List.getElem?_eq_getElem hi]; rfl
  rw [e, singleTo_again m _ s m (Nat.le_refl _), singleRow_get m _ s hs]
theorem Least.million {K : Nat} {bids : List (List Int)} {p : List Int} (h : Least K bids p) (ho : Offers K bids) (hs : isSingleP K bids = true) (i : Nat) : 0 ≤ p.getD i 0 ∧ p.getD i 0 ≤ 1000000 := by
  have h0 := h.2.2.1 i
  refine ⟨h0, ?_⟩
  by_cases hi : i < K
  · have h2 := ((clearsP_iff _ _ _ _).1 h.1.2.2).2 i hi
    rcases h2 with h2 | h2
    · obtain ⟨j, hj, hb⟩ := (taken_bits _ _ _).1 h2
      rw [bestP_get _ _ _ hj, Int.toNat_natCast] at hb
      have h3 := h.2.own ho hs hj
      have h4 := ownOf_best (m := K) (bids := bids) (p := p) hj
      have h5 := (sumTo_nonneg h.2.2.1 (pick K bids j) K).2 i hi hb
      have h6 := (offerB_at (ho.at_ hj) (pick K bids j)).2
      unfold sumP at h4
      rw [h.2.1] at h4
      omega
    · omega
  · have : p.getD i 0 = 0 := by rw [List.getD_eq_getElem?_getD, List.getElem?_eq_none (by rw [h.2.1]; omega)]; rfl
    omega
/-- a price that one lowers if it is that of item k, or if k is m -/
def lowers (k m : Nat) (q : List Int) (i : Nat) : Bool := decide (0 < q.getD i 0) && (i == k || k == m)
def lowAt (k m : Nat) (q : List Int) (i : Nat) : Int := if lowers k m q i then q.getD i 0 - 1 else q.getD i 0
def lowTo (k m : Nat) (q : List Int) (n : Nat) : List Int := (List.range n).map (lowAt k m q)
def someTo (k m : Nat) (q : List Int) (n : Nat) : Bool := (List.range n).any (lowers k m q)
theorem lowTo_succ (k m : Nat) (q : List Int) (n : Nat) : lowTo k m q (n + 1) = lowTo k m q n ++ [lowAt k m q n] := by unfold lowTo; rw [List.range_succ, List.map_append]; rfl
theorem someTo_succ (k m : Nat) (q : List Int) (n : Nat) : someTo k m q (n + 1) = (someTo k m q n || lowers k m q n) := by unfold someTo; rw [List.range_succ, List.any_append]; simp
theorem lowTo_len (k m : Nat) (q : List Int) (n : Nat) : (lowTo k m q n).length = n := by simp [lowTo]
theorem lowTo_get (k m : Nat) (q : List Int) (n i : Nat) (h : i < n) : (lowTo k m q n).getD i 0 = lowAt k m q i := by simp [lowTo, h]
theorem lowAt_bd {k m : Nat} {q : List Int} (i : Nat) (h : 0 ≤ q.getD i 0 ∧ q.getD i 0 ≤ 1000000) : 0 ≤ lowAt k m q i ∧ lowAt k m q i ≤ 1000000 := by
  unfold lowAt
  split
  · rename_i e
    unfold lowers at e
    simp only [Bool.and_eq_true, decide_eq_true_eq] at e
    omega
  · omega
theorem lowTo_from0 {k m : Nat} {q : List Int} (h : ∀ i, 0 ≤ q.getD i 0 ∧ q.getD i 0 ≤ 1000000) (n : Nat) : from0 1000000000 (lowTo k m q n) = true := from0_iff.2 fun i hi => by
  rw [lowTo_len] at hi
  rw [lowTo_get _ _ _ _ _ hi]
  have := lowAt_bd (k := k) (m := m) i (h i)
  omega
theorem some_lower {m : Nat} {bids : List (List Int)} {q : List Int} (hp : Least m bids q) (h : ∀ i, 0 ≤ q.getD i 0 ∧ q.getD i 0 ≤ 1000000) {k : Nat} (hs : someTo k m q m = true) : clearsP m bids (bestP m bids) (lowTo k m q m) = false := by
  unfold someTo at hs
  obtain ⟨i, hi, hlo⟩ := List.any_eq_true.1 hs
  have hi := List.mem_range.1 hi
  refine least_lower hp (lowTo_len _ _ _ _) (fun j => ?_) (k := i) ?_
  · by_cases hj : j < m
    · rw [lowTo_get _ _ _ _ _ hj]; exact (lowAt_bd j (h j)).1
    · rw [List.getD_eq_getElem?_getD, List.getElem?_eq_none (by rw [lowTo_len]; omega)]; exact Int.le_refl _
  · rw [lowTo_get _ _ _ _ _ hi]
    unfold lowAt
    rw [if_pos hlo]
    omega
set_option maxRecDepth 100000 in
set_option maxHeartbeats 8000000 in
theorem lawShapley (S : Awake) (v : Value) (m k0 : Int) (rows : List (List Int)) (w : World) (ht : Tab64 w) (hl : MatA w v rows) (hm : I64 m) (hr : ∀ i, In64 (rows.getD i [])) :
    Calls Tryd.prog 11 #[.int .i64 m, v, .int .i64 k0] w fun e w' => e = .returned (.bool true) ∧ Below w.heap.size w w' := by
  have HTD := Lib.hid (tamed_any v m rows w hl hr)
  have HTAB := Lib.hid ht
  obtain ⟨p0, cap0, rfl, _, _⟩ := hl.form_
  clear hl hm hr ht
  go_enter Tryd.func11, Tryd.ntmps11
  go_wp2_with fail
  refine HTD.out.mono ?_
  rintro e w1 ⟨K, B, xv, rfl, hK1, hK5, hn1, hn5, hall, hown, hb1⟩
  obtain ⟨bids, hbids⟩ : ∃ bids, singleP K B = bids := ⟨_, rfl⟩
  have hln := singleP_len K B
  have ho := single_offers hall
  have hsg := isSingle_singleP K B
  rw [hbids] at hown hln ho hsg
  rw [← hln] at hn1 hn5
  have HX := Lib.hid hown.mat
  have HO := Lib.hid ho
  have HSG := Lib.hid hsg
  have HB1 := Lib.hid hb1
  obtain ⟨xp, xc, hxv, hxl, _⟩ := hown.mat.form_
  subst hxv
  clear hown hall hb1 HTD hln ho hbids hsg
  obtain ⟨z, hzK, hz⟩ := tmodN k0 (K + 1) (by omega)
  go_wp2_with fail
  refine (best_at _ K bids _ HX.out hK1 (by omega) hn1 (by omega) HO.out).mono ?_
  rintro e wa ⟨av, rfl, hao, hba⟩
  obtain ⟨ap, ac, hav, hal, _⟩ := hao.form
  rw [bestP_len] at hav hal
  subst hav
  have HA := Lib.hid hao
  have HXa := Lib.hid (HX.out.below hba)
  have HBa := Lib.hid (HB1.out.trans (hba.mono HB1.out.size))
  clear hao hba HX HB1
  go_wp2_with fail
  refine (pay_at _ K bids wa HXa.out hK1 (by omega) hn1 (by omega) HO.out).mono ?_
  rintro e wb ⟨pv, rfl, hpo, hbb⟩
  obtain ⟨qp, qc, hqv, hql, _⟩ := hpo.form
  rw [payP_len] at hqv hql
  subst hqv
  have HP := Lib.hid hpo
  have HXb := Lib.hid (HXa.out.below hbb)
  have HAb := Lib.hid (HA.out.below hbb)
  have HBb := Lib.hid (HBa.out.trans (hbb.mono HBa.out.size))
  clear hpo hbb HXa HA HBa
  go_wp2_with fail
  refine (pricesY_at _ K bids wb HXb.out hK1 (by omega) hn1 (by omega) HO.out HSG.out (HTAB.out.below HBb.out HTAB.out.lt)).mono ?_
  rintro e wd ⟨v', q, rfl, hsq, hle, hbd⟩
  obtain ⟨pp, pc, rfl, hppc, _⟩ := hsq.form
  have HQL := Lib.hid hle.1.1
  rw [hle.1.1] at hppc
  have HXd := Lib.hid (HXb.out.below hbd)
  have HAd := Lib.hid (HAb.out.below hbd)
  have HPd := Lib.hid (HP.out.below hbd)
  have HSQ := Lib.hid hsq
  have HLQ := Lib.hid hle
  have HMIL := Lib.hid (hle.million HO.out HSG.out)
  have HBd := Lib.hid (HBb.out.trans (hbd.mono HBb.out.size))
  have HBU := Lib.hid (best_bundles HO.out)
  have HFR : Hid (from0 1000000000 q = true) := from0_iff.2 fun i hi => by have := HMIL.out i; omega
  clear hbd hsq hle HXb HAb HP HBb HTAB
  go_wp2_with fail
  refine (bidClears_yes _ _ _ K bids (bestP K bids) q wd HXd.out HAd.out HSQ.out hK1 (by omega) hn1 (by omega) HO.out HQL.out HFR.out (bestP_len _ _) (best_fits HO.out) HBU.out).mono ?_
  rw [HLQ.out.1.2.2]
  rintro e we ⟨rfl, hbe⟩
  have HXe := Lib.hid (HXd.out.below hbe)
  have HAe := Lib.hid (HAd.out.below hbe)
  have HPe := Lib.hid (HPd.out.below hbe)
  have HQe := Lib.hid (HSQ.out.below hbe)
  have HBe := Lib.hid (HBd.out.trans (hbe.mono HBd.out.size))
  rw [HQL.out] at HQe ⊢
  clear hbe HXd HAd HPd HSQ HBd
  have hql0 : (0 : Int) ≤ (K : Int) := by omega
  have hn0 : (0 : Int) ≤ (bids.length : Int) := by omega
  go_wp2
  go_loop [17, 18, 19] (fun i _ _ => ∃ i' : Nat, i' ≤ bids.length ∧ i = .int .i64 i') (fun i _ _ => bids.length - (intOf i).toNat)
  case atStart => exact ⟨0, Nat.zero_le _, rfl⟩
  case round =>
    obtain ⟨i, hi, rfl⟩ := hrel
    by_cases hlt : i < bids.length
    · obtain ⟨b1, o1, c1, hv, _, _, _, hca⟩ := HAe.out.int_at i (by rw [bestP_len]; exact hlt)
      rw [bestP_len] at hv
      cases hv
      obtain ⟨b2, o2, c2, hv, _, _, _, hcp⟩ := HPe.out.int_at i (by rw [payP_len]; exact hlt)
      rw [payP_len] at hv
      cases hv
      have hpay := least_pay HO.out HSG.out HLQ.out hlt
      have hpg : (payP K bids).getD i 0 = payOf K bids i := by simp [payP, hlt]
      rw [hpg, ← hpay] at hcp
      unfold sumP at hcp
      rw [HQL.out] at hcp
      rw [bestP_get _ _ _ hlt] at hca
      have hpl := pick_lt HO.out hlt
      have hM64 := pow_le64 (show K ≤ 6 by omega)
      have HNE := Lib.hid (sumTo_le (p := q) (B := 1000000) (by omega) (fun i => by have := HMIL.out i; omega) (pick K bids i))
      obtain ⟨s, hs⟩ : ∃ s, pick K bids i = s := ⟨_, rfl⟩
      rw [hs] at hca hcp hpl HNE
      have hs64 : s < 64 := Nat.lt_of_lt_of_le hpl hM64
      clear hpay hpg hs hpl hM64
      obtain ⟨y, hy⟩ : ∃ y, sumTo q s K = y := ⟨_, rfl⟩
      have HY := Lib.hid hy
      rw [hy] at hcp
      clear hy
      go_wp2
      go_loop [18, 19] (fun t j => ∃ j' : Nat, j' ≤ K ∧ j = .int .i64 j' ∧ t = .int .i64 (sumTo q s j')) (fun _ j => K - (intOf j).toNat)
      case atStart => exact ⟨0, Nat.zero_le _, rfl, rfl⟩
      case round =>
        obtain ⟨j, hj, rfl, rfl⟩ := hrel
        by_cases hjK : j < K
        · obtain ⟨b3, o3, c3, hv, _, _, _, hcq⟩ := HQe.out.int_at j (by rw [HQL.out]; exact hjK)
          rw [HQL.out] at hv
          cases hv
          have hbd := HNE.out j
          have hx1 := HMIL.out j
          have HE : Hid (sumTo q s (j + 1) = if bt s j then sumTo q s j + q.getD j 0 else sumTo q s j) := rfl
          have hsh := btI s j
          have HBT : Hid (bt s j = (s / 2 ^ j % 2 == 1)) := rfl
          obtain ⟨d, hd⟩ : ∃ d, s / 2 ^ j = d := ⟨_, rfl⟩
          obtain ⟨x, hx⟩ : ∃ x, q.getD j 0 = x := ⟨_, rfl⟩
          obtain ⟨u, hu⟩ : ∃ u, sumTo q s j = u := ⟨_, rfl⟩
          rw [hd] at hsh HBT
          rw [hx] at hcq HE hx1
          rw [hu] at HE hbd ⊢
          clear hx hu hd
          by_cases hodd : d % 2 = 1
          · have HT : Hid (bt s j = true) := by show _ = _; rw [HBT.out]; simpa using hodd
            have hb1 : ((d : Int) % 2 == 1) = true := by rw [beq_iff_eq]; omega
            clear hodd
            go_wp2
            go_round
            case rel => exact ⟨j + 1, by omega, by go_num, by rw [HE.out, HT.out]; rfl⟩
            case measure => simp [intOf]; omega
          · have HT : Hid (bt s j = false) := by show _ = _; rw [HBT.out]; simpa using hodd
            have hb1 : ((d : Int) % 2 == 1) = false := by rw [beq_eq_false_iff_ne]; omega
            clear hodd
            go_wp2
            go_round
            case rel => exact ⟨j + 1, by omega, by go_num, by rw [HE.out, HT.out]; rfl⟩
            case measure => simp [intOf]; omega
        · obtain rfl : j = K := by omega
          rw [HY.out]
          have hyy : (y != y) = false := by simp
          go_wp2
          go_round
          case rel => exact ⟨i + 1, by omega, by go_num⟩
          case measure => simp [intOf]; omega
    · obtain rfl : i = bids.length := by omega
      have hz2 : (IntKind.u64.wrap k0).tmod ((K : Int) + 1) = (z : Int) := by
        have : (((K + 1 : Nat)) : Int) = (K : Int) + 1 := by omega
        rw [← this]; exact hz
      have hw1 : IntKind.u64.wrap ((K : Int) + 1) = (K : Int) + 1 := by
        have e : ((K : Int) + 1) % 2 ^ 64 = (K : Int) + 1 := Int.emod_eq_of_lt (by omega) (by omega)
        simp only [IntKind.wrap, IntKind.bits, IntKind.signed, e]
        simp
      have hw2 : IntKind.i64.wrap (z : Int) = (z : Int) := wrap_small z (by omega)
      have hne : ¬ ((K : Int) + 1 = 0) := by omega
      clear hz
      go_wp2
      go_loopw [20, 21, 22, 23] (fun lo so j _ wr => ∃ j' : Nat, j' ≤ K ∧ j = .int .i64 j' ∧ so = .bool (someTo z K q j') ∧ Own 2 we.heap.size wr lo (ints (lowTo z K q j')) ∧ Below we.heap.size we wr) (fun _ _ j _ _ => K - (intOf j).toNat)
      case atStart => exact ⟨0, Nat.zero_le _, rfl, rfl, World.ownsRow_nil _ _ _ _, Below.refl _ _⟩
      case round =>
        obtain ⟨j, hj, rfl, rfl, hown, hbel⟩ := hrel
        have HOWN := Lib.hid hown
        have HBEL := Lib.hid hbel
        by_cases hjK : j < K
        · obtain ⟨b3, o3, c3, hv, _, _, _, hcq⟩ := (HQe.out.below hbel).int_at j (by rw [HQL.out]; exact hjK)
          rw [HQL.out] at hv
          cases hv
          have hx1 := HMIL.out j
          have HLS := Lib.hid (lowTo_succ z K q j)
          have HSS := Lib.hid (someTo_succ z K q j)
          have HLA : Hid (lowAt z K q j = if lowers z K q j then q.getD j 0 - 1 else q.getD j 0) := rfl
          have HLO : Hid (lowers z K q j = (decide (0 < q.getD j 0) && (j == z || z == K))) := rfl
          obtain ⟨x, hx⟩ : ∃ x, q.getD j 0 = x := ⟨_, rfl⟩
          rw [hx] at hcq hx1 HLA HLO
          obtain ⟨t, ht⟩ : ∃ t, someTo z K q j = t := ⟨_, rfl⟩
          rw [ht] at HSS ⊢
          clear hx ht hown hbel
          by_cases h0 : 0 < x
          · have hd0 : decide (0 < x) = true := by simpa using h0
            by_cases hjz : j = z
            · have hj1 : ((j : Int) == (z : Int)) = true := by rw [beq_iff_eq]; omega
              have HLT : Hid (lowers z K q j = true) := by show _ = _; rw [HLO.out, hd0, hjz]; simp
              have HV : Hid (lowAt z K q j = x - 1) := by show _ = _; rw [HLA.out, HLT.out]; rfl
              have HS2 : Hid (someTo z K q (j + 1) = true) := by show _ = _; rw [HSS.out, HLT.out]; simp
              clear h0 HLA HLO HLT HSS hjz
              go_wp2_with (first | (at_builtin; refine wpList_append_box wr rfl (.tmp 158) (.tmp 160) 31 rfl 2 (.int .i64 0) 8 Tryd.underlying31 Tryd.info2 rfl (by omega) we.heap.size u20 (ints (lowTo z K q j)) rfl HOWN.out (.int .i64 (x - 1)) rfl rfl ?a1 ?a2 ?_))
              case a1 => rw [ints_length, lowTo_len]; omega
              case a2 => exact HBEL.out.size
              intro v' w' hown hbel _
              have HOWN2 : Hid (Own 2 we.heap.size w' v' (ints (lowTo z K q (j + 1)))) := by
                rw [HLS.out, HV.out, ints_append]; exact hown
              have HBEL2 := Lib.hid (HBEL.out.trans hbel)
              clear hown hbel HOWN HBEL
              go_wp2
              go_roundw
              case rel => exact ⟨j + 1, by omega, by go_num, by rw [HS2.out], HOWN2.out, HBEL2.out⟩
              case measure => simp [intOf]; omega
            · have hj1 : ((j : Int) == (z : Int)) = false := by rw [beq_eq_false_iff_ne]; omega
              by_cases hzm : z = K
              · have hj2 : ((z : Int) == (K : Int)) = true := by rw [beq_iff_eq]; omega
                have HLT : Hid (lowers z K q j = true) := by show _ = _; rw [HLO.out, hd0, hzm]; simp
                have HV : Hid (lowAt z K q j = x - 1) := by show _ = _; rw [HLA.out, HLT.out]; rfl
                have HS2 : Hid (someTo z K q (j + 1) = true) := by show _ = _; rw [HSS.out, HLT.out]; simp
                clear h0 HLA HLO HLT HSS hjz hzm
                go_wp2_with (first | (at_builtin; refine wpList_append_box wr rfl (.tmp 158) (.tmp 160) 31 rfl 2 (.int .i64 0) 8 Tryd.underlying31 Tryd.info2 rfl (by omega) we.heap.size u20 (ints (lowTo z K q j)) rfl HOWN.out (.int .i64 (x - 1)) rfl rfl ?a1 ?a2 ?_))
                case a1 => rw [ints_length, lowTo_len]; omega
                case a2 => exact HBEL.out.size
                intro v' w' hown hbel _
                have HOWN2 : Hid (Own 2 we.heap.size w' v' (ints (lowTo z K q (j + 1)))) := by
                  rw [HLS.out, HV.out, ints_append]; exact hown
                have HBEL2 := Lib.hid (HBEL.out.trans hbel)
                clear hown hbel HOWN HBEL
                go_wp2
                go_roundw
                case rel => exact ⟨j + 1, by omega, by go_num, by rw [HS2.out], HOWN2.out, HBEL2.out⟩
                case measure => simp [intOf]; omega
              · have hj2 : ((z : Int) == (K : Int)) = false := by rw [beq_eq_false_iff_ne]; omega
                have HLT : Hid (lowers z K q j = false) := by
                  show _ = _
                  have a1 : (j == z) = false := by rw [beq_eq_false_iff_ne]; exact hjz
                  have a2 : (z == K) = false := by rw [beq_eq_false_iff_ne]; exact hzm
                  rw [HLO.out, hd0, a1, a2]; rfl
                have HV : Hid (lowAt z K q j = x) := by show _ = _; rw [HLA.out, HLT.out]; rfl
                have HS2 : Hid (someTo z K q (j + 1) = t) := by show _ = _; rw [HSS.out, HLT.out]; simp
                clear h0 HLA HLO HLT HSS hjz hzm
                go_wp2_with (first | (at_builtin; refine wpList_append_box wr rfl (.tmp 158) (.tmp 160) 31 rfl 2 (.int .i64 0) 8 Tryd.underlying31 Tryd.info2 rfl (by omega) we.heap.size u20 (ints (lowTo z K q j)) rfl HOWN.out (.int .i64 (x)) rfl rfl ?a1 ?a2 ?_))
                case a1 => rw [ints_length, lowTo_len]; omega
                case a2 => exact HBEL.out.size
                intro v' w' hown hbel _
                have HOWN2 : Hid (Own 2 we.heap.size w' v' (ints (lowTo z K q (j + 1)))) := by
                  rw [HLS.out, HV.out, ints_append]; exact hown
                have HBEL2 := Lib.hid (HBEL.out.trans hbel)
                clear hown hbel HOWN HBEL
                go_wp2
                go_roundw
                case rel => exact ⟨j + 1, by omega, by go_num, by rw [HS2.out], HOWN2.out, HBEL2.out⟩
                case measure => simp [intOf]; omega
          · have hd0 : decide (0 < x) = false := by simpa using h0
            have HLT : Hid (lowers z K q j = false) := by show _ = _; rw [HLO.out, hd0]; rfl
            have HV : Hid (lowAt z K q j = x) := by show _ = _; rw [HLA.out, HLT.out]; rfl
            have HS2 : Hid (someTo z K q (j + 1) = t) := by show _ = _; rw [HSS.out, HLT.out]; simp
            clear h0 HLA HLO HLT HSS
            go_wp2_with (first | (at_builtin; refine wpList_append_box wr rfl (.tmp 158) (.tmp 160) 31 rfl 2 (.int .i64 0) 8 Tryd.underlying31 Tryd.info2 rfl (by omega) we.heap.size u20 (ints (lowTo z K q j)) rfl HOWN.out (.int .i64 (x)) rfl rfl ?a1 ?a2 ?_))
            case a1 => rw [ints_length, lowTo_len]; omega
            case a2 => exact HBEL.out.size
            intro v' w' hown hbel _
            have HOWN2 : Hid (Own 2 we.heap.size w' v' (ints (lowTo z K q (j + 1)))) := by
              rw [HLS.out, HV.out, ints_append]; exact hown
            have HBEL2 := Lib.hid (HBEL.out.trans hbel)
            clear hown hbel HOWN HBEL
            go_wp2
            go_roundw
            case rel => exact ⟨j + 1, by omega, by go_num, by rw [HS2.out], HOWN2.out, HBEL2.out⟩
            case measure => simp [intOf]; omega
        · obtain rfl : j = K := by omega
          have HXr := Lib.hid (HXe.out.below hbel)
          have HAr := Lib.hid (HAe.out.below hbel)
          have HCL := Lib.hid (bidClears_yes _ _ _ j bids (bestP j bids) (lowTo z j q j) wr HXr.out HAr.out hown.sl hK1 (by omega) hn1 (by omega) HO.out (lowTo_len _ _ _ _) (lowTo_from0 HMIL.out _) (bestP_len _ _) (best_fits HO.out) HBU.out)
          have HSOME := Lib.hid (fun h => some_lower (k := z) HLQ.out HMIL.out h)
          obtain ⟨lp9, lc9, rfl, _, _⟩ := hown.sl.form
          have HBr := Lib.hid (HBe.out.trans (hbel.mono HBe.out.size))
          obtain ⟨t, ht⟩ : ∃ t, someTo z j q j = t := ⟨_, rfl⟩
          rw [ht] at HSOME ⊢
          obtain ⟨c, hc⟩ : ∃ c, clearsP j bids (bestP j bids) (lowTo z j q j) = c := ⟨_, rfl⟩
          rw [hc] at HSOME HCL
          have HTC := Lib.hid (show t = false ∨ c = false by
            cases t with
            | false => exact .inl rfl
            | true => exact .inr (HSOME.out rfl))
          clear hown hbel ht hc HSOME
          go_wp2_with fail
          refine HCL.out.mono ?_
          rintro e wl ⟨rfl, hbl⟩
          have HBl := Lib.hid (HBr.out.trans (hbl.mono HBr.out.size))
          clear hbl HCL
          have htc := HTC.out
          rcases htc with rfl | rfl
          · go_wp2_with (go_at_call 16; refine (awake_any S _).mono ?_; rintro e wy ⟨rfl, hby⟩; have HBy := Lib.hid (HBl.out.trans (hby.mono HBl.out.size)); clear hby)
            go_ret
            exact ⟨rfl, HBy.out⟩
          · cases t
            · go_wp2_with (go_at_call 16; refine (awake_any S _).mono ?_; rintro e wy ⟨rfl, hby⟩; have HBy := Lib.hid (HBl.out.trans (hby.mono HBl.out.size)); clear hby)
              go_ret
              exact ⟨rfl, HBy.out⟩
            · go_wp2_with (go_at_call 16; refine (awake_any S _).mono ?_; rintro e wy ⟨rfl, hby⟩; have HBy := Lib.hid (HBl.out.trans (hby.mono HBl.out.size)); clear hby)
              go_ret
              exact ⟨rfl, HBy.out⟩
end Go.Proofs.YthbfgmgpploneaaDoor
