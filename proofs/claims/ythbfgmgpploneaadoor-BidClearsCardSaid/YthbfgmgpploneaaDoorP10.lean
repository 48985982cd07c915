/- Prices that clear: potentials of a net without rings of positive weight. -/
/- Of a best allocation: what each bidder would pay for its bundle such that no one would rather have another's. -/
/- Single bids: bundles of one item, prices that clear exist. -/
/- Single bids: the least prices that clear, and how prices rise to them. -/
/- The reference's Prices: the least prices that clear. -/
/- The program's TrailingZeros at powers, the table of math/bits being what it is. -/
/- The program's rise: a favorite bundle has one item, and its price rises to where it is no favorite. -/
/- The program's leastPrices and Prices: the least prices that clear. -/
/- IsSingle and Prices at bids; BidBest's walk. -/
/- BidBest's walk. -/
import Derived.Test.YthbfgmgpploneaaDoorV2
import Derived.Test.YthbfgmgpploneaaDoorU3
import Derived.Test.YthbfgmgpploneaaDoorR20
set_option linter.unusedVariables false
set_option linter.unusedSimpArgs false
set_option linter.unnecessarySimpa false
namespace Go.Proofs.YthbfgmgpploneaaDoor
open Go.RowKit

/-- the sum of the first n values -/
def sumF (f : Nat → Int) : Nat → Int
  | 0 => 0
  | n + 1 => sumF f n + f n
/-- the best of D v and what comes from the first u nodes -/
def relax (w : Nat → Nat → Int) (D : Nat → Int) (v : Nat) : Nat → Int
  | 0 => D v
  | u + 1 => max (relax w D v u) (D u + w u v)
theorem relax_ge (w : Nat → Nat → Int) (D : Nat → Int) (v n : Nat) : D v ≤ relax w D v n ∧ (∀ u, u < n → D u + w u v ≤ relax w D v n) ∧ (relax w D v n = D v ∨ ∃ u, u < n ∧ relax w D v n = D u + w u v) := by
  induction n with
  | zero => exact ⟨Int.le_refl _, fun u hu => by omega, .inl rfl⟩
  | succ n ih =>
    obtain ⟨h1, h2, h3⟩ := ih
    simp only [relax]
    refine ⟨by omega, fun u hu => ?_, ?_⟩
    · by_cases e : u = n
      · subst e; omega
      · have := h2 u (by omega); omega
    · by_cases hle : D n + w n v ≤ relax w D v n
      · rcases h3 with h | ⟨u, hu, h⟩
        · exact .inl (by omega)
        · exact .inr ⟨u, by omega, by omega⟩
      · exact .inr ⟨n, by omega, by omega⟩
def dist (N : Nat) (w : Nat → Nat → Int) : Nat → Nat → Int
  | 0, _ => 0
  | t + 1, v => relax w (dist N w t) v N
theorem dist_up (N : Nat) (w : Nat → Nat → Int) (t v : Nat) : dist N w t v ≤ dist N w (t + 1) v := (relax_ge w (dist N w t) v N).1
theorem dist_mono (N : Nat) (w : Nat → Nat → Int) (v : Nat) {s t : Nat} (h : s ≤ t) : dist N w s v ≤ dist N w t v := by
  induction t with
  | zero => have : s = 0 := by omega
            subst this; exact Int.le_refl _
  | succ t ih =>
    by_cases e : s = t + 1
    · subst e; exact Int.le_refl _
    · have := ih (by omega); have := dist_up N w t v; omega
theorem dist_trace {N : Nat} {w : Nat → Nat → Int} {t v : Nat} (h : dist N w (t + 1) v < dist N w (t + 2) v) : ∃ u, u < N ∧ dist N w (t + 2) v = dist N w (t + 1) u + w u v ∧ dist N w t u < dist N w (t + 1) u := by
  rcases (relax_ge w (dist N w (t + 1)) v N).2.2 with e | ⟨u, hu, e⟩
  · have : dist N w (t + 2) v = dist N w (t + 1) v := e
    omega
  · have e' : dist N w (t + 2) v = dist N w (t + 1) u + w u v := e
    refine ⟨u, hu, e', ?_⟩
    have h1 : dist N w t u + w u v ≤ dist N w (t + 1) v := (relax_ge w (dist N w t) v N).2.1 u hu
    omega
theorem two_alike : ∀ (N : Nat) (f : Nat → Nat), (∀ i, i ≤ N → f i < N) → ∃ i j, i < j ∧ j ≤ N ∧ f i = f j := by
  intro N
  induction N with
  | zero => intro f h; have := h 0 (Nat.le_refl _); omega
  | succ N ih =>
    intro f h
    by_cases hex : ∃ i, i ≤ N ∧ f i = f (N + 1)
    · obtain ⟨i, hi, e⟩ := hex; exact ⟨i, N + 1, by omega, Nat.le_refl _, e⟩
    · have hne : ∀ i, i ≤ N → f i ≠ f (N + 1) := fun i hi e => hex ⟨i, hi, e⟩
      obtain ⟨i, j, hij, hj, e⟩ := ih (fun i => if f i = N then f (N + 1) else f i) (fun i hi => by
        have h1 := h i (by omega)
        have h2 := h (N + 1) (Nat.le_refl _)
        have h3 := hne i hi
        show (if f i = N then f (N + 1) else f i) < N
        split <;> omega)
      refine ⟨i, j, hij, by omega, ?_⟩
      have h1 := hne i (by omega)
      have h2 := hne j hj
      split at e <;> split at e <;> omega
/-- no ring of different nodes has positive weight -/
def NoGain (N : Nat) (w : Nat → Nat → Int) : Prop := ∀ (d : Nat) (c : Nat → Nat), 0 < d → (∀ x, x < d → c x < N) → c d = c 0 → (∀ x y, x < y → y < d → c x ≠ c y) → sumF (fun x => w (c (x + 1)) (c x)) d ≤ 0
theorem sumF_tele {f g : Nat → Int} {d : Nat} (h : ∀ x, x < d → f x = g x - g (x + 1)) : sumF f d = g 0 - g d := by
  induction d with
  | zero => simp [sumF]
  | succ d ih =>
    simp only [sumF]
    rw [ih (fun x hx => h x (by omega)), h d (by omega)]
    omega
theorem dist_still {N : Nat} {w : Nat → Nat → Int} (hw : NoGain N w) {v : Nat} (hv : v < N) : dist N w (N + 1) v = dist N w N v := by
  refine Classical.byContradiction fun hne => ?_
  have hlt : dist N w N v < dist N w (N + 1) v := by have := dist_up N w N v; omega
  -- back from v
  have key : ∀ s, s ≤ N → ∃ k : Nat → Nat, (∀ x, x ≤ s → k x < N ∧ dist N w (N - x) (k x) < dist N w (N + 1 - x) (k x)) ∧ ∀ x, x < s → dist N w (N + 1 - x) (k x) = dist N w (N - x) (k (x + 1)) + w (k (x + 1)) (k x) := by
    intro s
    induction s with
    | zero => intro _; exact ⟨fun _ => v, fun x hx => by
        have : x = 0 := by omega
        subst this; exact ⟨hv, hlt⟩, fun x hx => by omega⟩
    | succ s ih =>
      intro hs
      obtain ⟨k, h1, h2⟩ := ih (by omega)
      have hk := h1 s (Nat.le_refl _)
      have e1 : N - s = N - (s + 1) + 1 := by omega
      have e2 : N + 1 - s = N - (s + 1) + 2 := by omega
      have hk2 := hk.2
      rw [e1, e2] at hk2
      obtain ⟨u, hu, h3, h4⟩ := dist_trace hk2
      refine ⟨fun x => if x = s + 1 then u else k x, fun x hx => ?_, fun x hx => ?_⟩
      · by_cases e : x = s + 1
        · subst e
          simp only [if_pos]
          have e3 : N + 1 - (s + 1) = N - (s + 1) + 1 := by omega
          rw [e3]; exact ⟨hu, h4⟩
        · simp only [if_neg e]; exact h1 x (by omega)
      · have e : ¬ x = s + 1 := by omega
        simp only [if_neg e]
        by_cases e4 : x = s
        · subst e4
          rw [if_pos rfl, e1, e2]; exact h3
        · rw [if_neg (by omega)]; exact h2 x (by omega)
  obtain ⟨k, h1, h2⟩ := key N (Nat.le_refl _)
  obtain ⟨i, j, hij, hj, e⟩ := two_alike N k (fun i hi => (h1 i hi).1)
  have ring : ∀ d r, 0 < d → r + d ≤ N → k r = k (r + d) → False := by
    intro d
    induction d using Nat.strongRecOn with
    | _ d ih =>
      intro r hd hrd he
      have hs := hw d (fun x => k (r + x)) hd (fun x hx => (h1 (r + x) (by omega)).1) (by simp only [Nat.add_zero]; exact he.symm) (fun x y hxy hy hk => ih (y - x) (by omega) (r + x) (by omega) (by omega) (by
        have : r + x + (y - x) = r + y := by omega
        rw [this]; exact hk))
      have ht := sumF_tele (f := fun x => w (k (r + (x + 1))) (k (r + x))) (g := fun x => dist N w (N + 1 - (r + x)) (k (r + x))) (d := d) (fun x hx => by
        have := h2 (r + x) (by omega)
        have e3 : N + 1 - (r + (x + 1)) = N - (r + x) := by omega
        have e4 : r + x + 1 = r + (x + 1) := by omega
        rw [e4] at this
        simp only [e3]
        omega)
      rw [ht] at hs
      simp only [Nat.add_zero] at hs
      rw [← he] at hs
      have h5 := (h1 r (by omega)).2
      have h6 := dist_mono N w (k r) (show N + 1 - (r + d) ≤ N - r by omega)
      omega
  exact ring (j - i) i (by omega) (by omega) (by rw [show i + (j - i) = j by omega]; exact e)
theorem potentials {N : Nat} {w : Nat → Nat → Int} (hw : NoGain N w) : ∃ q : Nat → Int, ∀ u v, u < N → v < N → q u + w u v ≤ q v :=
  ⟨dist N w N, fun u v hu hv => by
    have := (relax_ge w (dist N w N) v N).2.1 u hu
    rw [← dist_still hw hv]; exact this⟩

theorem sumF_zero {f : Nat → Int} {n : Nat} (h : ∀ i, i < n → f i = 0) : sumF f n = 0 := by
  induction n with
  | zero => rfl
  | succ n ih => simp only [sumF]; rw [ih (fun i hi => h i (by omega)), h n (by omega)]; rfl
theorem sumF_congr {f g : Nat → Int} {n : Nat} (h : ∀ i, i < n → f i = g i) : sumF f n = sumF g n := by
  induction n with
  | zero => rfl
  | succ n ih => simp only [sumF]; rw [ih (fun i hi => h i (by omega)), h n (by omega)]
theorem sumF_sub (f g : Nat → Int) (n : Nat) : sumF (fun i => f i - g i) n = sumF f n - sumF g n := by
  induction n with
  | zero => rfl
  | succ n ih => simp only [sumF]; rw [ih]; omega
theorem sumF_but {f : Nat → Int} {n a : Nat} (ha : a < n) : sumF f n = sumF (fun i => if i = a then 0 else f i) n + f a := by
  induction n with
  | zero => omega
  | succ n ih =>
    simp only [sumF]
    by_cases e : n = a
    · subst e
      rw [if_pos rfl]
      have := sumF_congr (f := f) (g := fun i => if i = n then 0 else f i) (n := n) (fun i hi => by rw [if_neg (by omega)])
      omega
    · rw [if_neg e]
      have := ih (by omega)
      omega
theorem sum_on {N : Nat} : ∀ (d : Nat) (c : Nat → Nat) (f : Nat → Int), (∀ x, x < d → c x < N) → (∀ x y, x < y → y < d → c x ≠ c y) → (∀ i, i < N → (∀ x, x < d → c x ≠ i) → f i = 0) → sumF f N = sumF (fun x => f (c x)) d := by
  intro d
  induction d with
  | zero => intro c f _ _ h; exact sumF_zero (fun i hi => h i hi (fun x hx => by omega))
  | succ d ih =>
    intro c f h1 h2 h3
    rw [sumF_but (h1 d (by omega)), ih c (fun i => if i = c d then 0 else f i) (fun x hx => h1 x (by omega)) (fun x y hxy hy => h2 x y hxy (by omega)) (fun i hi hx => ?_)]
    · simp only [sumF]
      rw [sumF_congr (g := fun x => f (c x)) (fun x hx => by rw [if_neg (h2 x d hx (by omega))])]
    · skip
      split
      · rfl
      · rename_i e
        refine h3 i hi (fun x hx' => ?_)
        by_cases e2 : x = d
        · subst e2; exact fun h => e h.symm
        · exact hx x (by omega)
theorem ownTo_sum (bids : List (List Int)) (l : List Int) (n : Nat) : ∀ k, k ≤ n → ownTo bids l (2 ^ n - 1) k = sumF (fun i => (bids.getD i []).getD (l.getD i 0).toNat 0) k := by
  intro k
  induction k with
  | zero => intro _; rfl
  | succ k ih =>
    intro hk
    rw [ownTo_in (bt_ones _ _ (by omega)), ih (by omega)]
    rfl
theorem left_bits (m : Nat) (l : List Int) (x : Nat) : ∀ k, bt (leftL m l k) x = true ↔ bt (2 ^ m - 1) x = true ∧ ∀ j, j < k → bt (l.getD j 0).toNat x = false := by
  intro k
  induction k with
  | zero => exact ⟨fun h => ⟨h, fun j hj => by omega⟩, fun h => h.1⟩
  | succ k ih =>
    simp only [leftL]
    rw [bt_sans]
    simp only [Bool.and_eq_true, Bool.not_eq_true']
    rw [ih]
    constructor
    · rintro ⟨⟨h1, h2⟩, h3⟩
      refine ⟨h1, fun j hj => ?_⟩
      by_cases e : j = k
      · subst e; exact h3
      · exact h2 j (by omega)
    · rintro ⟨h1, h2⟩
      exact ⟨⟨h1, fun j hj => h2 j (by omega)⟩, h2 k (by omega)⟩
theorem fits_of {m n : Nat} {l : List Int} (h1 : ∀ i, i < n → ∀ x, bt (l.getD i 0).toNat x = true → bt (2 ^ m - 1) x = true) (h2 : ∀ i j, i < j → j < n → ∀ x, bt (l.getD j 0).toNat x = true → bt (l.getD i 0).toNat x = false) : Fits m l n := fun k hk =>
  sans_zero_iff.2 fun x hx => (left_bits m l x k).2 ⟨h1 k hk x hx, fun j hj => h2 j k hj hk x hx⟩
/-- the bundle of bidder i; of the one behind the last, what is left -/
def bund (m n : Nat) (l : List Int) (i : Nat) : Nat := if i < n then (l.getD i 0).toNat else leftL m l n
/-- what bidder i offers for a bundle; the one behind the last nothing -/
def val (bids : List (List Int)) (i S : Nat) : Int := if i < bids.length then (bids.getD i []).getD S 0 else 0
theorem bund_sub {m n : Nat} {l : List Int} (hf : Fits m l n) {i : Nat} (x : Nat) (h : bt (bund m n l i) x = true) : bt (2 ^ m - 1) x = true := by
  unfold bund at h
  split at h
  · rename_i hi
    exact ((left_bits m l x i).1 (sans_zero_iff.1 (hf i hi) x h)).1
  · exact ((left_bits m l x n).1 h).1
theorem bund_apart {m n : Nat} {l : List Int} (hf : Fits m l n) {i j : Nat} (hi : i ≤ n) (hj : j ≤ n) (hne : i ≠ j) (x : Nat) (h : bt (bund m n l i) x = true) : bt (bund m n l j) x = false := by
  have key : ∀ i j, i < j → j ≤ n → bt (bund m n l i) x = true → bt (bund m n l j) x = true → False := by
    intro i j hij hj h1 h2
    have e1 : bund m n l i = (l.getD i 0).toNat := if_pos (by omega)
    rw [e1] at h1
    by_cases hjn : j < n
    · have e2 : bund m n l j = (l.getD j 0).toNat := if_pos hjn
      rw [e2] at h2
      have := ((left_bits m l x j).1 (sans_zero_iff.1 (hf j hjn) x h2)).2 i hij
      rw [h1] at this; cases this
    · have e2 : bund m n l j = leftL m l n := if_neg hjn
      rw [e2] at h2
      have := ((left_bits m l x n).1 h2).2 i (by omega)
      rw [h1] at this; cases this
  cases hb : bt (bund m n l j) x with
  | false => rfl
  | true =>
    rcases Nat.lt_or_gt_of_ne hne with h' | h'
    · exact (key i j h' hj h hb).elim
    · exact (key j i h' hi hb h).elim
open Classical in
/-- along a ring each takes the bundle of the one before it -/
noncomputable def shift (d : Nat) (c : Nat → Nat) (i : Nat) : Nat := if h : ∃ x, x < d ∧ c (x + 1) = i then c h.choose else i
theorem ring_inj {d : Nat} {c : Nat → Nat} (hd : 0 < d) (hc : c d = c 0) (h : ∀ x y, x < y → y < d → c x ≠ c y) : ∀ x y, x < y → y < d → c (x + 1) ≠ c (y + 1) := by
  intro x y hxy hy
  by_cases e : y + 1 = d
  · rw [e, hc]; exact fun h' => h 0 (x + 1) (by omega) (by omega) h'.symm
  · exact h (x + 1) (y + 1) (by omega) (by omega)
theorem shift_at {d : Nat} {c : Nat → Nat} (hd : 0 < d) (hc : c d = c 0) (h : ∀ x y, x < y → y < d → c x ≠ c y) {x : Nat} (hx : x < d) : shift d c (c (x + 1)) = c x := by
  have hex : ∃ y, y < d ∧ c (y + 1) = c (x + 1) := ⟨x, hx, rfl⟩
  unfold shift
  rw [dif_pos hex]
  obtain ⟨h1, h2⟩ := hex.choose_spec
  rcases Nat.lt_trichotomy hex.choose x with h' | h' | h'
  · exact absurd h2 (ring_inj hd hc h _ _ h' hx)
  · rw [h']
  · exact absurd h2.symm (ring_inj hd hc h _ _ h' h1)
theorem shift_off {d : Nat} {c : Nat → Nat} {i : Nat} (h : ∀ x, x < d → c (x + 1) ≠ i) : shift d c i = i := dif_neg (fun ⟨x, hx, e⟩ => h x hx e)
theorem shift_lt {d N : Nat} {c : Nat → Nat} (hc : ∀ x, x < d → c x < N) {i : Nat} (hi : i < N) : shift d c i < N := by
  unfold shift
  split
  · rename_i h; exact hc _ h.choose_spec.1
  · exact hi
theorem shift_inj {d : Nat} {c : Nat → Nat} (hd : 0 < d) (hc : c d = c 0) (h : ∀ x y, x < y → y < d → c x ≠ c y) {i j : Nat} (hne : i ≠ j) : shift d c i ≠ shift d c j := by
  have hin : ∀ x, x < d → ∃ y, y < d ∧ c (y + 1) = c x := fun x hx => by
    rcases Nat.eq_zero_or_pos x with h0 | h0
    · subst h0; exact ⟨d - 1, by omega, by rw [show d - 1 + 1 = d by omega]; exact hc⟩
    · exact ⟨x - 1, by omega, by rw [show x - 1 + 1 = x by omega]⟩
  by_cases hi : ∃ x, x < d ∧ c (x + 1) = i
  · obtain ⟨x, hx, rfl⟩ := hi
    rw [shift_at hd hc h hx]
    by_cases hj : ∃ y, y < d ∧ c (y + 1) = j
    · obtain ⟨y, hy, rfl⟩ := hj
      rw [shift_at hd hc h hy]
      rcases Nat.lt_trichotomy x y with h' | h' | h'
      · exact h x y h' hy
      · subst h'; exact absurd rfl hne
      · exact fun e => h y x h' hx e.symm
    · rw [shift_off (fun y hy e => hj ⟨y, hy, e⟩)]
      intro e
      obtain ⟨y, hy, e2⟩ := hin x hx
      exact hj ⟨y, hy, e2.trans e⟩
  · rw [shift_off (fun y hy e => hi ⟨y, hy, e⟩)]
    by_cases hj : ∃ y, y < d ∧ c (y + 1) = j
    · obtain ⟨y, hy, rfl⟩ := hj
      rw [shift_at hd hc h hy]
      intro e
      obtain ⟨z, hz, e2⟩ := hin y hy
      exact hi ⟨z, hz, e2.trans e.symm⟩
    · rw [shift_off (fun y hy e => hj ⟨y, hy, e⟩)]; exact hne
/-- no ring of bidders gains by handing bundles on -/
theorem no_gain {m : Nat} {bids : List (List Int)} {l : List Int} (h : Offers m bids) (hf : Fits m l bids.length) (hbest : ownTo bids l (2 ^ bids.length - 1) bids.length = worthP m bids (2 ^ bids.length - 1)) :
    NoGain (bids.length + 1) (fun u v => val bids u (bund m bids.length l v) - val bids u (bund m bids.length l u)) := by
  intro d c hd hcn hcd hci
  obtain ⟨n, hn⟩ : ∃ n, bids.length = n := ⟨_, rfl⟩
  rw [hn] at hf hbest hcn ⊢
  have hl' : ∀ i, i < n → (((List.range n).map fun i => (bund m n l (shift d c i) : Int)).getD i 0).toNat = bund m n l (shift d c i) := fun i hi => by simp [hi]
  have hsl : ∀ i, i < n + 1 → shift d c i ≤ n := fun i hi => Nat.le_of_lt_succ (shift_lt hcn hi)
  have hf' : Fits m ((List.range n).map fun i => (bund m n l (shift d c i) : Int)) n := by
    refine fits_of (fun i hi x hx => ?_) (fun i j hij hj x hx => ?_)
    · rw [hl' i hi] at hx; exact bund_sub hf x hx
    · rw [hl' j hj] at hx
      rw [hl' i (by omega)]
      exact bund_apart hf (hsl j (by omega)) (hsl i (by omega)) (shift_inj hd hcd hci (by omega)) x hx
  have hw := fits_worth h (l := (List.range n).map fun i => (bund m n l (shift d c i) : Int)) (by rw [hn]; exact hf') (2 ^ n - 1)
  rw [hn, ← hbest, ownTo_sum _ _ n n (Nat.le_refl _), ownTo_sum _ _ n n (Nat.le_refl _)] at hw
  have e1 := sumF_congr (f := fun i => (bids.getD i []).getD (((List.range n).map fun i => (bund m n l (shift d c i) : Int)).getD i 0).toNat 0) (g := fun i => val bids i (bund m n l (shift d c i))) (n := n) (fun i hi => by
    skip
    rw [hl' i hi]
    unfold val; rw [hn, if_pos hi])
  have e2 := sumF_congr (f := fun i => (bids.getD i []).getD (l.getD i 0).toNat 0) (g := fun i => val bids i (bund m n l i)) (n := n) (fun i hi => by
    skip
    have : bund m n l i = (l.getD i 0).toNat := if_pos hi
    rw [this]
    unfold val; rw [hn, if_pos hi])
  rw [e1, e2] at hw
  have hs := sum_on (N := n + 1) d (fun x => c (x + 1)) (fun i => val bids i (bund m n l (shift d c i)) - val bids i (bund m n l i)) (fun x hx => by
    by_cases e : x + 1 = d
    · rw [e, hcd]; exact hcn 0 hd
    · exact hcn (x + 1) (by omega)) (ring_inj hd hcd hci) (fun i hi hx => by rw [shift_off hx]; omega)
  have e3 := sumF_congr (f := fun x => val bids (c (x + 1)) (bund m n l (shift d c (c (x + 1)))) - val bids (c (x + 1)) (bund m n l (c (x + 1)))) (g := fun x => val bids (c (x + 1)) (bund m n l (c x)) - val bids (c (x + 1)) (bund m n l (c (x + 1)))) (n := d) (fun x hx => by
    rw [shift_at hd hcd hci hx])
  have e4 : ∀ S, val bids n S = 0 := fun S => by unfold val; rw [hn, if_neg (by omega)]
  have e5 : sumF (fun i => val bids i (bund m n l (shift d c i)) - val bids i (bund m n l i)) (n + 1) = sumF (fun i => val bids i (bund m n l (shift d c i))) n - sumF (fun i => val bids i (bund m n l i)) n := by
    simp only [sumF]
    rw [e4, e4, sumF_sub]; omega
  rw [← e3, ← hs, e5]
  omega
/-- what each would pay for its bundle such that no one would rather have another's, or none, or what is left -/
theorem bundle_prices {m : Nat} {bids : List (List Int)} {l : List Int} (h : Offers m bids) (hf : Fits m l bids.length) (hbest : ownTo bids l (2 ^ bids.length - 1) bids.length = worthP m bids (2 ^ bids.length - 1)) :
    ∃ P : Nat → Int, P bids.length = 0 ∧ (∀ v, v ≤ bids.length → 0 ≤ P v) ∧ ∀ u v, u ≤ bids.length → v ≤ bids.length → val bids u (bund m bids.length l v) - P v ≤ val bids u (bund m bids.length l u) - P u := by
  obtain ⟨q, hq⟩ := potentials (no_gain h hf hbest)
  refine ⟨fun v => q v - q bids.length, by simp, fun v hv => ?_, fun u v hu hv => ?_⟩
  · have := hq bids.length v (by omega) (by omega)
    have e4 : ∀ S, val bids bids.length S = 0 := fun S => by unfold val; rw [if_neg (by omega)]
    rw [e4, e4] at this
    show 0 ≤ q v - q bids.length
    omega
  · have := hq u v (by omega) (by omega)
    show val bids u (bund m bids.length l v) - (q v - q bids.length) ≤ val bids u (bund m bids.length l u) - (q u - q bids.length)
    omega

theorem singleTo_cases (o : List Int) (s : Nat) : ∀ m, (singleTo o s m = 0 ∨ ∃ k, k < m ∧ bt s k = true ∧ singleTo o s m = o.getD k 0) ∧ ∀ k, k < m → bt s k = true → o.getD k 0 ≤ singleTo o s m := by
  intro m
  induction m with
  | zero => exact ⟨.inl rfl, fun k hk => by omega⟩
  | succ m ih =>
    obtain ⟨h1, h2⟩ := ih
    simp only [singleTo]
    cases hb : bt s m with
    | true =>
      rw [if_pos rfl]
      refine ⟨?_, fun k hk hk2 => ?_⟩
      · by_cases hle : o.getD m 0 ≤ singleTo o s m
        · have e : max (singleTo o s m) (o.getD m 0) = singleTo o s m := by omega
          rw [e]
          exact h1.imp id fun ⟨k, hk, hb, e⟩ => ⟨k, by omega, hb, e⟩
        · exact .inr ⟨m, by omega, hb, by omega⟩
      · by_cases e : k = m
        · subst e; omega
        · have := h2 k (by omega) hk2; omega
    | false =>
      rw [if_neg (by decide)]
      refine ⟨h1.imp id fun ⟨k, hk, hb, e⟩ => ⟨k, by omega, hb, e⟩, fun k hk hk2 => ?_⟩
      by_cases e : k = m
      · subst e; rw [hb] at hk2; cases hk2
      · exact h2 k (by omega) hk2
theorem single_val {m : Nat} {bids : List (List Int)} (hs : isSingleP m bids = true) {i : Nat} (hi : i < bids.length) {s : Nat} (h : s < 2 ^ m) :
    ((bids.getD i []).getD s 0 = 0 ∨ ∃ k, k < m ∧ bt s k = true ∧ (bids.getD i []).getD s 0 = (bids.getD i []).getD (2 ^ k) 0) ∧ ∀ k, k < m → bt s k = true → (bids.getD i []).getD (2 ^ k) 0 ≤ (bids.getD i []).getD s 0 := by
  have e := (isSingleP_iff m bids).1 hs i hi s h
  have c := singleTo_cases (itemsRow m (bids.getD i [])) s m
  have hg : ∀ k, k < m → (itemsRow m (bids.getD i [])).getD k 0 = (bids.getD i []).getD (2 ^ k) 0 := fun k hk => by simp [itemsRow, hk]
  rw [e] at c
  refine ⟨c.1.imp id fun ⟨k, hk, hb, e⟩ => ⟨k, hk, hb, by rw [← hg k hk]; exact e⟩, fun k hk hb => by rw [← hg k hk]; exact c.2 k hk hb⟩
theorem pow_lt_pow {k m : Nat} (h : k < m) : 2 ^ k < 2 ^ m := Nat.pow_lt_pow_right (by omega) h
theorem pow_sub {k s : Nat} (h : bt s k = true) : sans (2 ^ k) s = 0 := sans_zero_iff.2 fun i hi => by
  rw [bt_pow] at hi
  have : k = i := by simpa using hi
  rw [← this]; exact h
theorem bt_pow_self (k : Nat) : bt (2 ^ k) k = true := by rw [bt_pow]; simp
/-- the first best bundles of single bids have one item, or none -/
theorem pick_single {m : Nat} {bids : List (List Int)} (h : Offers m bids) (hs : isSingleP m bids = true) {i : Nat} (hi : i < bids.length) : pick m bids i = 0 ∨ ∃ k, k < m ∧ pick m bids i = 2 ^ k := by
  obtain ⟨h1, h2⟩ := pick_spec h hi
  have hl := leftAt_lt m bids i
  have hpl := pick_lt h hi
  have hn := tk_nonneg h (2 ^ bids.length - 1) (i + 1) (by omega)
  unfold hitK hits at h1
  simp only [Bool.and_eq_true, beq_iff_eq] at h1
  obtain ⟨hsub, hval⟩ := h1
  obtain ⟨u, hu⟩ : ∃ u, pick m bids i = u := ⟨_, rfl⟩
  rw [hu] at hsub hval hpl h2 ⊢
  obtain ⟨L, hL⟩ : ∃ L, leftAt m bids i = L := ⟨_, rfl⟩
  rw [hL] at hsub hval hl
  have hstep := tk_step m bids (2 ^ bids.length - 1) i hi
  rw [bt_ones _ _ hi] at hstep
  -- a bundle that is as good is not less
  have key : ∀ u', sans u' L = 0 → sans u' u = 0 → (bids.getD i []).getD u 0 ≤ (bids.getD i []).getD u' 0 → u ≤ u' := by
    intro u' hs' hsu hge
    refine Nat.le_of_not_lt fun hlt => ?_
    have hno := h2 u' hlt
    have hsu2 : sans (sans L u) (sans L u') = 0 := sans_zero_iff.2 fun x hx => by
      rw [bt_sans] at hx ⊢
      simp at hx ⊢
      refine ⟨hx.1, ?_⟩
      cases hb : bt u' x with
      | false => rfl
      | true => have := sans_eq_zero hsu x hb; rw [hx.2] at this; cases this
    have hm := tk_sub h (2 ^ bids.length - 1) (bids.length - (i + 1)) (i + 1) (by omega) (sans L u) (sans L u') hsu2 (Nat.lt_of_le_of_lt (sans_le _ _) hl)
    have hge2 := bestTo_ge (b := bids.getD i []) (t := tk m bids (2 ^ bids.length - 1) (i + 1)) hs'
    have hv2 : (tk m bids (2 ^ bids.length - 1) i).getD L 0 = bestTo (bids.getD i []) (tk m bids (2 ^ bids.length - 1) (i + 1)) true L (L + 1) := by rw [hstep, rowT_get _ _ _ _ _ hl]
    have hit : hitK m bids i u' = true := by
      unfold hitK hits
      simp only [Bool.and_eq_true, beq_iff_eq]
      rw [hL]
      exact ⟨hs', by omega⟩
    rw [hit] at hno; cases hno
  rcases (single_val hs hi hpl).1 with h0 | ⟨k, hk, hb, e⟩
  · left
    have hb0 := offerB_zero (h.at_ hi)
    have := key 0 (zero_sans _) (zero_sans _) (by omega)
    omega
  · right
    refine ⟨k, hk, ?_⟩
    have h3 := key (2 ^ k) (sans_trans (pow_sub hb) hsub) (pow_sub hb) (by omega)
    have h4 := le_of_sans (pow_sub hb)
    omega
theorem sumTo_nonneg {p : List Int} (h : ∀ k, 0 ≤ p.getD k 0) (s n : Nat) : 0 ≤ sumTo p s n ∧ ∀ k, k < n → bt s k = true → p.getD k 0 ≤ sumTo p s n := by
  induction n with
  | zero => exact ⟨Int.le_refl _, fun k hk => by omega⟩
  | succ n ih =>
    have hn := h n
    rw [sumTo_next]
    cases hb : bt s n with
    | true =>
      rw [if_pos rfl]
      refine ⟨by omega, fun k hk hk2 => ?_⟩
      by_cases e : k = n
      · subst e; omega
      · have := ih.2 k (by omega) hk2; omega
    | false =>
      rw [if_neg (by decide)]
      refine ⟨ih.1, fun k hk hk2 => ?_⟩
      by_cases e : k = n
      · subst e; rw [hb] at hk2; cases hk2
      · exact ih.2 k (by omega) hk2
theorem sumTo_pow (p : List Int) (k n : Nat) : sumTo p (2 ^ k) n = if k < n then p.getD k 0 else 0 := by
  induction n with
  | zero => rfl
  | succ n ih =>
    rw [sumTo_next, ih, bt_pow]
    by_cases e : k = n
    · subst e; simp
    · have : decide (k = n) = false := by simpa using e
      rw [this, if_neg (by decide)]
      by_cases hlt : k < n
      · rw [if_pos hlt, if_pos (by omega)]
      · rw [if_neg hlt, if_neg (by omega)]
theorem bt_zero (k : Nat) : bt 0 k = false := by rw [bt_eq]; simp
theorem sumTo_none (p : List Int) (n : Nat) : sumTo p 0 n = 0 := by
  induction n with
  | zero => rfl
  | succ n ih => rw [sumTo_next, bt_zero, if_neg (by decide), ih]
theorem taken_bits (l : List Int) (x : Nat) : ∀ n, bt (takenTo l n) x = true ↔ ∃ j, j < n ∧ bt (l.getD j 0).toNat x = true := by
  intro n
  induction n with
  | zero => exact ⟨(fun h => by
      rw [show takenTo l 0 = 0 from rfl, bt_zero] at h
      cases h), fun ⟨j, hj, _⟩ => by omega⟩
  | succ n ih =>
    have e : bt (takenTo l (n + 1)) x = (bt (takenTo l n) x || bt (l.getD n 0).toNat x) := by
      show bt (takenTo l n ||| (l.getD n 0).toNat) x = _
      rw [bt_eq, bt_eq, bt_eq, Nat.testBit_or]
    rw [e, Bool.or_eq_true, ih]
    constructor
    · rintro (⟨j, hj, h⟩ | h)
      · exact ⟨j, by omega, h⟩
      · exact ⟨n, by omega, h⟩
    · rintro ⟨j, hj, h⟩
      by_cases e : j = n
      · subst e; exact .inr h
      · exact .inl ⟨j, by omega, h⟩
/-- prices of the items out of prices of the bundles -/
noncomputable def itemPrice (m : Nat) (bids : List (List Int)) (P : Nat → Int) (k : Nat) : Int := open Classical in if h : ∃ i, i < bids.length ∧ pick m bids i = 2 ^ k then P h.choose else 0
noncomputable def itemPrices (m : Nat) (bids : List (List Int)) (P : Nat → Int) : List Int := (List.range m).map (itemPrice m bids P)
theorem bund_best {m : Nat} {bids : List (List Int)} {i : Nat} (hi : i < bids.length) : bund m bids.length (bestP m bids) i = pick m bids i := by
  unfold bund
  rw [if_pos hi, bestP_get _ _ _ hi, Int.toNat_natCast]
theorem pick_inj {m : Nat} {bids : List (List Int)} (h : Offers m bids) {i j k : Nat} (hi : i < bids.length) (hj : j < bids.length) (h1 : bt (pick m bids i) k = true) (h2 : bt (pick m bids j) k = true) : i = j := by
  refine Classical.byContradiction fun hne => ?_
  have := bund_apart (best_fits h) (Nat.le_of_lt hi) (Nat.le_of_lt hj) hne k (by rw [bund_best hi]; exact h1)
  rw [bund_best hj, h2] at this; cases this
theorem itemPrice_at {m : Nat} {bids : List (List Int)} (h : Offers m bids) {P : Nat → Int} {i k : Nat} (hi : i < bids.length) (hp : pick m bids i = 2 ^ k) : itemPrice m bids P k = P i := by
  have hex : ∃ i, i < bids.length ∧ pick m bids i = 2 ^ k := ⟨i, hi, hp⟩
  unfold itemPrice
  rw [dif_pos hex]
  obtain ⟨h1, h2⟩ := hex.choose_spec
  rw [pick_inj h h1 hi (k := k) (by rw [h2]; exact bt_pow_self k) (by rw [hp]; exact bt_pow_self k)]
theorem itemPrice_off {m : Nat} {bids : List (List Int)} {P : Nat → Int} {k : Nat} (h : ∀ i, i < bids.length → pick m bids i ≠ 2 ^ k) : itemPrice m bids P k = 0 := dif_neg (fun ⟨i, hi, e⟩ => h i hi e)
theorem best_total {m : Nat} {bids : List (List Int)} (h : Offers m bids) : ownTo bids (bestP m bids) (2 ^ bids.length - 1) bids.length = worthP m bids (2 ^ bids.length - 1) := by
  have h2 := best_worth h
  rw [offP_len, bestP_len] at h2
  rw [← h2]
  have : ∀ k, k ≤ bids.length → ownTo bids (bestP m bids) (2 ^ bids.length - 1) k = addTo (offP bids (bestP m bids)) k := by
    intro k
    induction k with
    | zero => intro _; rfl
    | succ k ih =>
      intro hk
      rw [ownTo_in (bt_ones _ _ (by omega)), ih (by omega)]
      have e : addTo (offP bids (bestP m bids)) (k + 1) = addTo (offP bids (bestP m bids)) k + (offP bids (bestP m bids)).getD k 0 := rfl
      rw [e, offP_get _ _ _ (by rw [bestP_len]; omega)]
      rfl
  exact this _ (Nat.le_refl _)
/-- prices of bundles without envy -/
def NoEnvy (m : Nat) (bids : List (List Int)) (P : Nat → Int) : Prop := P bids.length = 0 ∧ (∀ v, v ≤ bids.length → 0 ≤ P v) ∧ ∀ u v, u ≤ bids.length → v ≤ bids.length → val bids u (bund m bids.length (bestP m bids) v) - P v ≤ val bids u (bund m bids.length (bestP m bids) u) - P u
theorem noEnvy_ex {m : Nat} {bids : List (List Int)} (h : Offers m bids) : ∃ P, NoEnvy m bids P := bundle_prices h (best_fits h) (best_total h)
theorem itemPrices_get (m : Nat) (bids : List (List Int)) (P : Nat → Int) (k : Nat) (hk : k < m) : (itemPrices m bids P).getD k 0 = itemPrice m bids P k := by simp [itemPrices, hk]
theorem itemPrice_nonneg {m : Nat} {bids : List (List Int)} (h : Offers m bids) {P : Nat → Int} (hP : NoEnvy m bids P) (k : Nat) : 0 ≤ itemPrice m bids P k := by
  by_cases hex : ∃ i, i < bids.length ∧ pick m bids i = 2 ^ k
  · obtain ⟨i, hi, e⟩ := hex
    rw [itemPrice_at h hi e]; exact hP.2.1 i (by omega)
  · rw [itemPrice_off (fun i hi e => hex ⟨i, hi, e⟩)]; exact Int.le_refl _
theorem itemPrices_nonneg {m : Nat} {bids : List (List Int)} (h : Offers m bids) {P : Nat → Int} (hP : NoEnvy m bids P) (k : Nat) : 0 ≤ (itemPrices m bids P).getD k 0 := by
  by_cases hk : k < m
  · rw [itemPrices_get _ _ _ _ hk]; exact itemPrice_nonneg h hP k
  · rw [List.getD_eq_getElem?_getD, List.getElem?_eq_none (by simp [itemPrices]; omega)]; simp
theorem left_lt (m : Nat) (bids : List (List Int)) : leftL m (bestP m bids) bids.length < 2 ^ m := leftL_lt _ _ _
theorem noEnvy_free {m : Nat} {bids : List (List Int)} (h : Offers m bids) {P : Nat → Int} (hP : NoEnvy m bids P) {i : Nat} (hi : i < bids.length) : 0 ≤ (bids.getD i []).getD (leftL m (bestP m bids) bids.length) 0 ∧ (bids.getD i []).getD (leftL m (bestP m bids) bids.length) 0 ≤ (bids.getD i []).getD (pick m bids i) 0 - P i := by
  have h1 := hP.2.2 i bids.length (by omega) (Nat.le_refl _)
  rw [hP.1, bund_best hi] at h1
  have e : bund m bids.length (bestP m bids) bids.length = leftL m (bestP m bids) bids.length := if_neg (by omega)
  rw [e] at h1
  unfold val at h1
  rw [if_pos hi, if_pos hi] at h1
  have h2 := offerB_at (h.at_ hi) (leftL m (bestP m bids) bids.length)
  omega
theorem sum_pick {m : Nat} {bids : List (List Int)} (h : Offers m bids) (hs : isSingleP m bids = true) {P : Nat → Int} (hP : NoEnvy m bids P) {i : Nat} (hi : i < bids.length) : sumP (itemPrices m bids P) (pick m bids i) = P i := by
  unfold sumP
  rcases pick_single h hs hi with h0 | ⟨k, hk, e⟩
  · rw [h0, sumTo_none]
    have h1 := noEnvy_free h hP hi
    rw [h0, offerB_zero (h.at_ hi)] at h1
    have h2 := hP.2.1 i (by omega)
    omega
  · rw [e, sumTo_pow, if_pos (by simp [itemPrices]; exact hk), itemPrices_get _ _ _ _ hk, itemPrice_at h hi e]
theorem ownOf_best {bids : List (List Int)} {p : List Int} {m i : Nat} (hi : i < bids.length) : ownOf bids (bestP m bids) p i = (bids.getD i []).getD (pick m bids i) 0 - sumP p (pick m bids i) := by
  unfold ownOf
  rw [bestP_get _ _ _ hi, Int.toNat_natCast]
/-- prices of the items clear, if no one envies another's bundle -/
theorem noEnvy_clears {m : Nat} {bids : List (List Int)} (h : Offers m bids) (hs : isSingleP m bids = true) {P : Nat → Int} (hP : NoEnvy m bids P) : clearsP m bids (bestP m bids) (itemPrices m bids P) = true := by
  refine (clearsP_iff _ _ _ _).2 ⟨fun i hi s hsl => ?_, fun k hk => ?_⟩
  · rw [ownOf_best hi, sum_pick h hs hP hi]
    have hf := noEnvy_free h hP hi
    have hnn := sumTo_nonneg (itemPrices_nonneg h hP) s (itemPrices m bids P).length
    have hlen : (itemPrices m bids P).length = m := by simp [itemPrices]
    unfold sumP
    rw [hlen] at hnn ⊢
    rcases (single_val hs hi hsl).1 with h0 | ⟨k, hk, hb, e⟩
    · omega
    · have h1 := hnn.2 k hk hb
      rw [itemPrices_get _ _ _ _ hk] at h1
      by_cases hex : ∃ j, j < bids.length ∧ pick m bids j = 2 ^ k
      · obtain ⟨j, hj, ej⟩ := hex
        rw [itemPrice_at h hj ej] at h1
        have h2 := hP.2.2 i j (by omega) (by omega)
        rw [bund_best hi, bund_best hj, ej] at h2
        unfold val at h2
        rw [if_pos hi, if_pos hi] at h2
        omega
      · have hfree : bt (leftL m (bestP m bids) bids.length) k = true := (left_bits m (bestP m bids) k bids.length).2 ⟨bt_ones _ _ hk, fun j hj => by
          rw [bestP_get _ _ _ hj, Int.toNat_natCast]
          cases hbj : bt (pick m bids j) k with
          | false => rfl
          | true =>
            rcases pick_single h hs hj with h0 | ⟨k', hk', ej⟩
            · rw [h0, bt_zero] at hbj; cases hbj
            · rw [ej, bt_pow] at hbj
              have : k' = k := by simpa using hbj
              subst this
              exact (hex ⟨j, hj, ej⟩).elim⟩
        have h2 := (single_val hs hi (left_lt m bids)).2 k hk hfree
        rw [itemPrice_off (fun i hi e => hex ⟨i, hi, e⟩)] at h1
        omega
  · cases hb : bt (takenTo (bestP m bids) bids.length) k with
    | true => exact .inl rfl
    | false =>
      right
      rw [itemPrices_get _ _ _ _ hk]
      refine itemPrice_off fun i hi e => ?_
      have := (taken_bits (bestP m bids) k bids.length).2 ⟨i, hi, by rw [bestP_get _ _ _ hi, Int.toNat_natCast, e]; exact bt_pow_self k⟩
      rw [hb] at this; cases this

/-- item prices that clear the first best allocation -/
def Clear (m : Nat) (bids : List (List Int)) (p : List Int) : Prop := p.length = m ∧ (∀ k, 0 ≤ p.getD k 0) ∧ clearsP m bids (bestP m bids) p = true
/-- prices that are not above any that clear -/
def Low (m : Nat) (bids : List (List Int)) (p : List Int) : Prop := p.length = m ∧ (∀ k, 0 ≤ p.getD k 0) ∧ ∀ p', Clear m bids p' → ∀ k, p.getD k 0 ≤ p'.getD k 0
def Least (m : Nat) (bids : List (List Int)) (p : List Int) : Prop := Clear m bids p ∧ Low m bids p
theorem Least.unique {m : Nat} {bids : List (List Int)} {p p' : List Int} (h : Least m bids p) (h' : Least m bids p') : p = p' := by
  refine ext_getD (by rw [h.2.1, h'.2.1]) fun k _ => ?_
  have h1 := h.2.2.2 p' h'.1 k
  have h2 := h'.2.2.2 p h.1 k
  omega
theorem clear_ex {m : Nat} {bids : List (List Int)} (h : Offers m bids) (hs : isSingleP m bids = true) : ∃ p, Clear m bids p := by
  obtain ⟨P, hP⟩ := noEnvy_ex h
  exact ⟨itemPrices m bids P, by simp [itemPrices], itemPrices_nonneg h hP, noEnvy_clears h hs hP⟩
theorem zeros_low (m : Nat) (bids : List (List Int)) : Low m bids (List.replicate m 0) := by
  have hz : ∀ k, (List.replicate m (0 : Int)).getD k 0 = 0 := fun k => by
    rw [List.getD_eq_getElem?_getD, List.getElem?_replicate]; split <;> rfl
  exact ⟨by simp, fun k => by rw [hz]; exact Int.le_refl _, fun p' hp' k => by rw [hz]; exact hp'.2.1 k⟩
theorem sumTo_mono {p p' : List Int} (h : ∀ k, p.getD k 0 ≤ p'.getD k 0) (s n : Nat) : sumTo p s n ≤ sumTo p' s n := by
  induction n with
  | zero => exact Int.le_refl _
  | succ n ih =>
    rw [sumTo_next, sumTo_next]
    have := h n
    split <;> omega
/-- with lower prices a bidder has more of its bundle -/
theorem ownOf_mono {m : Nat} {bids : List (List Int)} {p p' : List Int} (hl : p.length = p'.length) (h : ∀ k, p.getD k 0 ≤ p'.getD k 0) (i : Nat) : ownOf bids (bestP m bids) p' i ≤ ownOf bids (bestP m bids) p i := by
  unfold ownOf sumP
  rw [hl]
  have := sumTo_mono h ((bestP m bids).getD i 0).toNat p'.length
  omega
theorem Clear.own {m : Nat} {bids : List (List Int)} {p : List Int} (h : Clear m bids p) (ho : Offers m bids) {i : Nat} (hi : i < bids.length) : 0 ≤ ownOf bids (bestP m bids) p i ∧ ∀ k, k < m → (bids.getD i []).getD (2 ^ k) 0 - p.getD k 0 ≤ ownOf bids (bestP m bids) p i := by
  have h2 := ((clearsP_iff _ _ _ _).1 h.2.2).1 i hi
  refine ⟨?_, fun k hk => ?_⟩
  · have := h2 0 (pow_pos2 m)
    unfold sumP at this
    rw [sumTo_none, offerB_zero (ho.at_ hi)] at this
    omega
  · have := h2 (2 ^ k) (pow_lt_pow hk)
    unfold sumP at this
    rw [sumTo_pow, h.1, if_pos hk] at this
    exact this
theorem Low.own {m : Nat} {bids : List (List Int)} {p : List Int} (h : Low m bids p) (ho : Offers m bids) (hs : isSingleP m bids = true) {i : Nat} (hi : i < bids.length) : 0 ≤ ownOf bids (bestP m bids) p i := by
  obtain ⟨p', hp'⟩ := clear_ex ho hs
  have h1 := (hp'.own ho hi).1
  have h2 := ownOf_mono (m := m) (bids := bids) (p := p) (p' := p') (by rw [h.1, hp'.1]) (h.2.2 p' hp') i
  omega
theorem set_getD (p : List Int) (k j : Nat) (x : Int) (hk : k < p.length) : (p.set k x).getD j 0 = if j = k then x else p.getD j 0 := by
  by_cases e : j = k
  · subst e; rw [if_pos rfl, getD_set_same _ _ _ _ hk]
  · rw [if_neg e, getD_set_other _ _ _ _ _ (fun h => e h.symm)]
/-- a price rises so far that the bidder does not want the item more -/
theorem Low.rise {m : Nat} {bids : List (List Int)} {p : List Int} (h : Low m bids p) (ho : Offers m bids) {i k : Nat} (hi : i < bids.length) (hk : k < m) (hge : p.getD k 0 < (bids.getD i []).getD (2 ^ k) 0 - ownOf bids (bestP m bids) p i) :
    Low m bids (p.set k ((bids.getD i []).getD (2 ^ k) 0 - ownOf bids (bestP m bids) p i)) := by
  have hkl : k < p.length := by rw [h.1]; exact hk
  refine ⟨by simp [h.1], fun j => ?_, fun p' hp' j => ?_⟩
  · rw [set_getD _ _ _ _ hkl]
    have := h.2.1 k
    have := h.2.1 j
    split <;> omega
  · rw [set_getD _ _ _ _ hkl]
    split
    · rename_i e
      subst e
      have h1 := (hp'.own ho hi).2 j hk
      have h2 := ownOf_mono (m := m) (bids := bids) (p := p) (p' := p') (by rw [h.1, hp'.1]) (h.2.2 p' hp') i
      omega
    · exact h.2.2 p' hp' j
theorem Low.bd {m : Nat} {bids : List (List Int)} {p : List Int} (h : Low m bids p) (ho : Offers m bids) (hs : isSingleP m bids = true) {i : Nat} (hi : i < bids.length) (k : Nat) : (bids.getD i []).getD (2 ^ k) 0 - ownOf bids (bestP m bids) p i ≤ 1000000 := by
  have h1 := h.own ho hs hi
  have h2 := (offerB_at (ho.at_ hi) (2 ^ k)).2
  omega
/-- no bidder would rather have another item alone -/
def Still (m : Nat) (bids : List (List Int)) (p : List Int) : Prop := ∀ i, i < bids.length → ∀ k, k < m → bt (pick m bids i) k = false → (bids.getD i []).getD (2 ^ k) 0 - ownOf bids (bestP m bids) p i ≤ p.getD k 0
theorem Low.still {m : Nat} {bids : List (List Int)} {p : List Int} (h : Low m bids p) (ho : Offers m bids) (hs : isSingleP m bids = true) (hst : Still m bids p) : Least m bids p := by
  refine ⟨⟨h.1, h.2.1, (clearsP_iff _ _ _ _).2 ⟨fun i hi s hsl => ?_, fun k hk => ?_⟩⟩, h⟩
  · have hown := h.own ho hs hi
    have hnn := sumTo_nonneg h.2.1 s m
    unfold sumP
    rw [h.1]
    rcases (single_val hs hi hsl).1 with h0 | ⟨k, hk, hb, e⟩
    · omega
    · have h1 := hnn.2 k hk hb
      cases hbk : bt (pick m bids i) k with
      | false =>
        have := hst i hi k hk hbk
        omega
      | true =>
        rcases pick_single ho hs hi with h0 | ⟨k', hk', ej⟩
        · rw [h0, bt_zero] at hbk; cases hbk
        · rw [ej, bt_pow] at hbk
          have : k' = k := by simpa using hbk
          subst this
          have ho2 := ownOf_best (bids := bids) (p := p) (m := m) hi
          rw [ej] at ho2
          unfold sumP at ho2
          rw [sumTo_pow, h.1, if_pos hk] at ho2
          omega
  · obtain ⟨p', hp'⟩ := clear_ex ho hs
    have h1 := ((clearsP_iff _ _ _ _).1 hp'.2.2).2 k hk
    have h2 := h.2.2 p' hp' k
    have h3 := h.2.1 k
    refine h1.imp id fun h4 => by omega
/-- what the prices have still to rise at most -/
def room (p : List Int) : Nat → Nat
  | 0 => 0
  | k + 1 => room p k + (1000000 - p.getD k 0).toNat
theorem room_set {p : List Int} {x : Int} {k : Nat} (hx : x ≤ 1000000) (hp : p.getD k 0 < x) (hk : k < p.length) (n : Nat) : room (p.set k x) n + (if k < n then 1 else 0) ≤ room p n := by
  induction n with
  | zero => simp [room]
  | succ n ih =>
    simp only [room]
    rw [set_getD _ _ _ _ hk]
    by_cases e : n = k
    · subst e
      rw [if_neg (by omega)] at ih
      rw [if_pos rfl, if_pos (by omega)]
      omega
    · rw [if_neg e]
      by_cases hlt : k < n
      · rw [if_pos hlt] at ih; rw [if_pos (by omega)]; omega
      · rw [if_neg hlt] at ih; rw [if_neg (by omega)]; omega

theorem sumTo_set_off (p : List Int) (k : Nat) (x : Int) (hk : k < p.length) {s : Nat} (hb : bt s k = false) (n : Nat) : sumTo (p.set k x) s n = sumTo p s n := by
  induction n with
  | zero => rfl
  | succ n ih =>
    rw [sumTo_next, sumTo_next, ih, set_getD _ _ _ _ hk]
    by_cases e : n = k
    · subst e; rw [hb, if_neg (by decide), if_neg (by decide)]
    · rw [if_neg e]
theorem ownOf_set {m : Nat} {bids : List (List Int)} {p : List Int} {i k : Nat} {x : Int} (hi : i < bids.length) (hk : k < p.length) (hb : bt (pick m bids i) k = false) : ownOf bids (bestP m bids) (p.set k x) i = ownOf bids (bestP m bids) p i := by
  rw [ownOf_best hi, ownOf_best hi]
  unfold sumP
  rw [List.length_set, sumTo_set_off _ _ _ hk hb]
/-- the cells' room -/
def roomW (w : World) (g : Nat) : Nat → Nat
  | 0 => 0
  | k + 1 => roomW w g k + (1000000 - intOf ((w.cell? ⟨g, k, none⟩).getD undef)).toNat
theorem roomW_row {w : World} {g : Nat} {p : List Int} {T : TypeId} (h : Row T w g (ints p)) (n : Nat) (hn : n ≤ p.length) : roomW w g n = room p n := by
  induction n with
  | zero => rfl
  | succ n ih =>
    simp only [roomW, room]
    rw [ih (by omega), h.cell, ints_get _ _ (by omega)]
    rfl
def boolN : Value → Nat
  | .bool true => 1
  | _ => 0
/-- bidder i does not want an item below k more -/
def StillTo (m : Nat) (bids : List (List Int)) (p : List Int) (i k : Nat) : Prop := ∀ k', k' < k → bt (pick m bids i) k' = false → (bids.getD i []).getD (2 ^ k') 0 - ownOf bids (bestP m bids) p i ≤ p.getD k' 0
/-- what the loops have: prices that are low; the same ones as ahead of the round, or higher ones -/
def RiseRel (m : Nat) (bids : List (List Int)) (w : World) (p0 : List Int) (i : Nat) (b : Bool) (p : List Int) (wr : World) : Prop :=
  (Low m bids p ∧ ∀ k, p.getD k 0 ≤ 1000000) ∧ Row 2 wr w.heap.size (ints p) ∧ Below w.heap.size w wr ∧ (b = false → p = p0 ∧ ∀ j, j < i → StillTo m bids p j m) ∧ (b = true → room p m < room p0 m)
theorem btI0 (d : Nat) : ((d : Int) % 2 == 0) = !(d % 2 == 1) := by
  rw [Bool.eq_iff_iff, beq_iff_eq]
  simp only [Bool.not_eq_true', beq_eq_false_iff_ne]
  omega
theorem RiseRel.drewN {m : Nat} {bids : List (List Int)} {w : World} {p0 : List Int} {i : Nat} {b : Bool} {p : List Int} {wr : World} (h : RiseRel m bids w p0 i b p wr) (n : Nat) : RiseRel m bids w p0 i b p (wr.drewN n) := ⟨h.1, h.2.1, belowN h.2.2.1 n, h.2.2.2⟩
theorem RiseRel.raise {m : Nat} {bids : List (List Int)} {w : World} {p0 : List Int} {i k : Nat} {b : Bool} {p : List Int} {wr : World} {T : Int} (h : RiseRel m bids w p0 i b p wr) (ho : Offers m bids) (hs : isSingleP m bids = true) (hi : i < bids.length) (hk : k < m)
    (hb : bt (pick m bids i) k = false) (hT : T = (bids.getD i []).getD (2 ^ k) 0 - ownOf bids (bestP m bids) p i) (hge : p.getD k 0 < T) : RiseRel m bids w p0 i true (p.set k T) (wr.setCell ⟨w.heap.size, k, none⟩ (.int .i64 T)) ∧ ownOf bids (bestP m bids) (p.set k T) i = ownOf bids (bestP m bids) p i := by
  obtain ⟨⟨hlow, hbd⟩, hrow, hbel, hf, ht⟩ := h
  have hkl : k < p.length := by rw [hlow.1]; exact hk
  have hle := hlow.bd ho hs hi k
  have hroom := room_set (p := p) (x := T) (k := k) (by omega) hge hkl m
  rw [if_pos hk] at hroom
  refine ⟨⟨⟨?_, fun j => ?_⟩, ?_, hbel.setCell (p := ⟨w.heap.size, k, none⟩) (Nat.le_refl _) _, (fun h => by cases h), fun _ => ?_⟩, ownOf_set hi hkl hb⟩
  · subst hT; exact hlow.rise ho hi hk hge
  · rw [set_getD _ _ _ _ hkl]
    have := hbd j
    split <;> omega
  · rw [← ints_set]; exact hrow.store k _
  · cases b with
    | true => have := ht rfl; omega
    | false => have := (hf rfl).1; subst this; omega
theorem RiseRel.next {m : Nat} {bids : List (List Int)} {w : World} {p0 : List Int} {i : Nat} {b : Bool} {p : List Int} {wr : World} (h : RiseRel m bids w p0 i b p wr) (hst : b = false → StillTo m bids p i m) : RiseRel m bids w p0 (i + 1) b p wr := by
  obtain ⟨h1, h2, h3, h4, h5⟩ := h
  refine ⟨h1, h2, h3, fun hb => ⟨(h4 hb).1, fun j hj => ?_⟩, h5⟩
  by_cases e : j = i
  · subst e; exact hst hb
  · exact (h4 hb).2 j (by omega)
set_option maxRecDepth 100000 in
set_option maxHeartbeats 4000000 in
theorem prices_any (v : Value) (m : Nat) (bids : List (List Int)) (w : World) (hl : Mat w v bids) (hm1 : 1 ≤ m) (hm : m ≤ 6) (hn1 : 1 ≤ bids.length) (hn : bids.length ≤ 7) (ho : Offers m bids) (hs : isSingleP m bids = true) :
    Calls Tryd.prog 34 #[.int .i64 m, v] w fun e w' => ∃ v' p, e = .returned v' ∧ Own 2 w.heap.size w' v' (ints p) ∧ Least m bids p ∧ Below w.heap.size w w' := by
  obtain ⟨p0, cap, rfl, hlc, hcm⟩ := hl.form_
  unfold maxLen at hcm
  have HBEST := Lib.hid (fun W hb => best_any _ m bids W (hl.below hb) hm hn ho)
  have HL := Lib.hid hl
  have HO := Lib.hid ho
  have HS := Lib.hid hs
  have HPL := Lib.hid (fun i hi => pick_lt ho (k := i) hi)
  have HOL : Hid (∀ i, i < bids.length → (bids.getD i []).length = 2 ^ m) := fun i hi => offerB_len (ho.at_ hi)
  have hM64 := pow_le64 hm
  obtain ⟨M, hMM⟩ : ∃ M, 2 ^ m = M := ⟨_, rfl⟩
  rw [hMM] at hM64 HPL HOL
  have HMM := Lib.hid hMM
  clear hl ho hs hMM
  go_enter Tryd.func34, Tryd.ntmps34
  go_wp2_with fail
  refine (HBEST.out _ (Below.refl _ _)).mono ?_
  rintro e w1 ⟨lv, rfl, hown, hb1⟩
  have HLS := Lib.hid hown.sl
  obtain ⟨lp, lc, hlv, hll, _⟩ := hown.sl.form
  rw [bestP_len] at hlv hll
  subst hlv
  have HB1 := Lib.hid hb1
  clear hown hb1 HBEST
  go_wp2_with (first | (at_make; refine wpList_make_row _ rfl _ _ 31 rfl 2 (.int .i64 0) 8 Tryd.underlying31 Tryd.info2 rfl .i64 .i64 _ _ m rfl rfl ?e1 ?e2 ?e3 ?e4 ?_))
  case e1 => rfl
  case e2 => rfl
  case e3 => omega
  case e4 => unfold maxLen; omega
  intro w2 hrow hbel
  rw [ints_replicate] at hrow
  have HX := Lib.hid (HL.out.below HB1.out)
  have HG := Lib.hid HB1.out.size
  have HBG := Lib.hid hbel
  have HROW := Lib.hid hrow
  have HBL := Lib.hid (bestP_len m bids)
  have HBG2 := Lib.hid (fun k hk => bestP_get m bids k hk)
  have HOWNE : Hid (∀ p i, i < bids.length → ownOf bids (bestP m bids) p i = (bids.getD i []).getD (pick m bids i) 0 - sumP p (pick m bids i)) := fun p i hi => ownOf_best hi
  have HSUM : Hid (∀ W g p s, Row 2 W g (ints p) → p.length = m → Low m bids p ∧ (∀ k, p.getD k 0 ≤ 1000000) → Calls Tryd.prog 60 #[.slice (some ⟨g, 0, none⟩) m m, .int .i64 (s : Nat)] W fun e w' => e = .returned (.int .i64 (sumP p s)) ∧ W = w') := fun W g p s hr hpl hlow => by
    have hsl : Sl W (.slice (some ⟨g, 0, none⟩) m m) (ints p) := by
      have := Sl.of_row (xs := ints p) (more := []) (cap := m) (by rw [List.append_nil]; exact hr) (by rw [ints_length, hpl]; exact Nat.le_refl _) (by unfold maxLen; omega)
      rw [ints_length, hpl] at this; exact this
    exact sum_any _ p s W hsl (by omega) (fun i => by have := hlow.1.2.1 i; have := hlow.2 i; omega)
  have hl0 : (0 : Int) ≤ (bids.length : Int) := by omega
  clear hbel hrow
  go_wp2
  go_loopw [7, 8, 9, 10, 11] (fun ag _ _ _ _ wr => ∃ (b : Bool) (p : List Int), ag = .bool b ∧ (Low m bids p ∧ ∀ k, p.getD k 0 ≤ 1000000) ∧ Row 2 wr w1.heap.size (ints p) ∧ Below w1.heap.size w1 wr ∧ (b = false → ∀ j, j < bids.length → StillTo m bids p j m)) (fun ag _ _ _ _ wr => 2 * roomW wr w1.heap.size m + boolN ag)
  case atStart =>
    refine ⟨true, List.replicate m 0, rfl, ⟨zeros_low m bids, fun k => ?_⟩, HROW.out, HBG.out, fun h => by cases h⟩
    rw [List.getD_eq_getElem?_getD, List.getElem?_replicate]; split <;> simp
  case round =>
    clear HROW
    obtain ⟨b, q0, rfl, hlow, hrow, hb, hst⟩ := hrel
    cases b with
    | false =>
      have HL3 := Lib.hid (hlow.1.still HO.out HS.out (fun i hi k hk => hst rfl i hi k hk))
      have HOWN : Hid (Own 2 w.heap.size wr (.slice (some ⟨w1.heap.size, 0, none⟩) m m) (ints q0)) := by
        have := Own.of_row (base := w.heap.size) (xs := ints q0) (more := []) (cap := m) (by rw [List.append_nil]; exact hrow) HG.out (by unfold maxLen; omega) (by rw [ints_length, hlow.1.1]; simp)
        rw [ints_length, hlow.1.1] at this; exact this
      have HBF := Lib.hid (HB1.out.trans (hb.mono HG.out))
      clear hlow hrow hb hst
      go_wp2
      go_ret
      exact ⟨_, q0, rfl, HOWN.out, HL3.out, HBF.out⟩
    | true =>
      obtain ⟨wo, hwo⟩ : ∃ wo : World, wo = wr := ⟨_, rfl⟩
      subst hwo
      have HROOM : Hid (roomW wo w1.heap.size m = room q0 m) := roomW_row hrow m (by rw [hlow.1.1]; exact Nat.le_refl _)
      have HSTART : Hid (RiseRel m bids w1 q0 0 false q0 wo) := ⟨hlow, hrow, hb, fun _ => ⟨rfl, fun j hj => by omega⟩, fun h => by cases h⟩
      clear hlow hrow hb hst
      go_wp2
      go_loopw [7, 8, 9, 10, 11] (fun ag i _ _ _ wx => ∃ (i' : Nat) (b : Bool) (p : List Int), i' ≤ bids.length ∧ i = .int .i64 i' ∧ ag = .bool b ∧ RiseRel m bids w1 q0 i' b p wx) (fun _ i _ _ _ _ => bids.length - (intOf i).toNat)
      case atStart => exact ⟨0, false, q0, Nat.zero_le _, rfl, rfl, HSTART.out⟩
      case round =>
        clear HSTART
        obtain ⟨i, b, p, hi, rfl, rfl, hR⟩ := hrel
        have HR := Lib.hid hR
        by_cases hlt : i < bids.length
        · have hb := hR.2.2.1
          have hrow := hR.2.1
          have hlow := hR.1
          obtain ⟨b1, o1, c1, u, hv, _, _, hb1s, hc1, hsu⟩ := HX.out.row_at i hlt
          cases hv
          have hrl : (bids.getD i []).length = M := HOL.out i hlt
          have hpl := HPL.out i hlt
          have HSU := Lib.hid hsu
          obtain ⟨b2, o2, c2, rfl, hMc, hMx, hb2s, hc2⟩ := hsu.int_at (pick m bids i) (by rw [hrl]; exact hpl)
          rw [hrl] at hc1 hMc HSU
          obtain ⟨b3, o3, c3, hv, _, _, hb3s, hc3⟩ := HLS.out.int_at i (by rw [HBL.out]; exact hlt)
          rw [HBL.out] at hv
          cases hv
          rw [HBG2.out i hlt] at hc3
          have d1 := (hb.cell (p := ⟨b1, o1 + i, none⟩) hb1s).trans hc1
          have d2 := (hb.cell (p := ⟨b2, o2 + pick m bids i, none⟩) hb2s).trans hc2
          have d3 := (hb.cell (p := ⟨b3, o3 + i, none⟩) hb3s).trans hc3
          have HCS := Lib.hid (fun n => HSUM.out (wr.drewN n) w1.heap.size p (pick m bids i) (hrow) hlow.1.1 hlow)
          have hxb := offerB_at (HO.out.at_ hlt) (pick m bids i)
          have hown0 := hlow.1.own HO.out HS.out hlt
          have hownE := HOWNE.out p i hlt
          have HEQ : Hid (ownOf bids (bestP m bids) p i = (bids.getD i []).getD (pick m bids i) 0 - sumP p (pick m bids i)) := hownE
          have hs0 : 0 ≤ sumP p (pick m bids i) := (sumTo_nonneg hlow.1.2.1 (pick m bids i) p.length).1
          have hsb : -60000000000000 ≤ sumP p (pick m bids i) ∧ sumP p (pick m bids i) ≤ 60000000000000 := sumP_bd (fun k => by have := hlow.1.2.1 k; have := hlow.2 k; omega) (by rw [hlow.1.1]; omega) _
          have HC1 := Lib.hid hc1
          have HC3 := Lib.hid hc3
          have HB1S := Lib.hid hb1s
          have HB3S := Lib.hid hb3s
          obtain ⟨x, hx⟩ : ∃ x, (bids.getD i []).getD (pick m bids i) 0 = x := ⟨_, rfl⟩
          rw [hx] at d2 hxb hownE HEQ
          obtain ⟨y, hy⟩ : ∃ y, sumP p (pick m bids i) = y := ⟨_, rfl⟩
          rw [hy] at hsb hs0 HCS hownE HEQ
          obtain ⟨q, hq⟩ : ∃ q, pick m bids i = q := ⟨_, rfl⟩
          have HQ := Lib.hid hq
          rw [hq] at d2 d3 hpl HCS HC3
          have hsub : IntKind.i64.wrap (x - y) = x - y := IntWalk.i64_in _ (by omega)
          rw [hownE] at hown0
          have hown1 : x - y ≤ 1000000 := by omega
          clear hR hb hrow hlow hrl hsu hx hy hq hb1s hb2s hb3s hc1 hc2 hc3 hownE
          go_wp2
          go_quiet ((go_at_call 60; exact quiet_gen (HCS.out _) ⟨_, rfl⟩))
          go_wp2
          go_loopw [7, 10, 11] (fun ag k _ wy => ∃ (k' : Nat) (b' : Bool) (p' : List Int), k' ≤ m ∧ k = .int .i64 k' ∧ ag = .bool b' ∧ RiseRel m bids w1 q0 i b' p' wy ∧ ownOf bids (bestP m bids) p' i = x - y ∧ (b' = false → StillTo m bids p' i k')) (fun _ k _ _ => m - (intOf k).toNat)
          case atStart => exact ⟨0, b, p, Nat.zero_le _, rfl, rfl, HR.out.drewN _, HEQ.out, fun _ k hk => by omega⟩
          case round =>
            obtain ⟨k, b', p', hk, rfl, rfl, hR, hown, hst⟩ := hrel
            have HR3 := Lib.hid hR
            have HOW := Lib.hid hown
            have HST := Lib.hid hst
            by_cases hkm : k < m
            · have hb := hR.2.2.1
              have hrow := hR.2.1
              have hSk : 2 ^ k < M := by rw [← HMM.out]; exact pow_lt_pow hkm
              obtain ⟨b2', o2', c2', hv, _, _, hb2s, hc2⟩ := HSU.out.int_at (2 ^ k) (by rw [HOL.out i hlt]; exact hSk)
              rw [HOL.out i hlt] at hv
              cases hv
              have e1 := (hb.cell (p := ⟨b1, o1 + i, none⟩) HB1S.out).trans HC1.out
              have e2 := (hb.cell (p := ⟨b2, o2 + 2 ^ k, none⟩) hb2s).trans hc2
              have e3 := (hb.cell (p := ⟨b3, o3 + i, none⟩) HB3S.out).trans HC3.out
              have e4 := hrow.cell k
              rw [ints_get _ _ (by rw [hR.1.1.1]; exact hkm)] at e4
              have e5 := hrow.free k
              have hp0 := hR.1.1.2.1 k
              have hp1 := hR.1.2 k
              have hzb := offerB_at (HO.out.at_ hlt) (2 ^ k)
              have hwp := wrap_pow k (by omega)
              have hsh := btI q k
              have HBT : Hid (bt (pick m bids i) k = (q / 2 ^ k % 2 == 1)) := by rw [HQ.out]; exact Lib.hid rfl
              have HRZ : Hid (∀ n T, bt (pick m bids i) k = false → T = (bids.getD i []).getD (2 ^ k) 0 - (x - y) → p'.getD k 0 < T → RiseRel m bids w1 q0 i true (p'.set k T) ((wr.drewN n).setCell ⟨w1.heap.size, k, none⟩ (.int .i64 T)) ∧ ownOf bids (bestP m bids) (p'.set k T) i = x - y) := fun n T h1 h2 h3 => by
                have := (hR.drewN n).raise HO.out HS.out hlt hkm h1 (T := T) (by rw [hown]; exact h2) h3
                rw [hown] at this; exact this
              have HSN : Hid ((bt (pick m bids i) k = true ∨ (bids.getD i []).getD (2 ^ k) 0 - (x - y) ≤ p'.getD k 0) → b' = false → StillTo m bids p' i (k + 1)) := fun h hb' k' hk' hbt => by
                by_cases e : k' = k
                · subst e
                  rw [hown]
                  rcases h with h | h
                  · rw [h] at hbt; cases hbt
                  · exact h
                · exact HST.out hb' k' (by omega) hbt
              obtain ⟨z, hz⟩ : ∃ z, (bids.getD i []).getD (2 ^ k) 0 = z := ⟨_, rfl⟩
              rw [hz] at e2 hzb HRZ HSN
              obtain ⟨pk, hpk⟩ : ∃ pk, p'.getD k 0 = pk := ⟨_, rfl⟩
              rw [hpk] at e4 hp0 hp1 HRZ HSN
              obtain ⟨S, hSS⟩ : ∃ S, 2 ^ k = S := ⟨_, rfl⟩
              rw [hSS] at hSk e2 hwp
              obtain ⟨d, hd⟩ : ∃ d, q / 2 ^ k = d := ⟨_, rfl⟩
              rw [hd] at hsh HBT
              have hb0 := btI0 d
              have hsub2 : IntKind.i64.wrap (z - (x - y)) = z - (x - y) := IntWalk.i64_in _ (by omega)
              have hbx : bt (pick m bids i) k = true ∨ bt (pick m bids i) k = false := by cases bt (pick m bids i) k <;> simp
              clear hR hb hrow hown hst hb2s hc2 hz hpk hSS hd
              rcases hbx with hbx | hbx
              · have htst : ((d : Int) % 2 == 0) = false := by rw [hb0, ← HBT.out, hbx]; rfl
                have HN := Lib.hid (HSN.out (.inl hbx))
                clear hb0 hbx HBT HSN HRZ
                go_wp2
                go_quiet (fail)
                go_wp2
                go_roundw
                case rel => exact ⟨k + 1, b', p', by omega, by go_num, rfl, HR3.out.drewN _, HOW.out, HN.out⟩
                case measure => simp [intOf]; omega
              · have htst : ((d : Int) % 2 == 0) = true := by rw [hb0, ← HBT.out, hbx]; rfl
                by_cases hgt : pk < z - (x - y)
                · have HN := Lib.hid (fun n => HRZ.out n _ hbx rfl hgt)
                  have hd1 : decide (pk < z - (x - y)) = true := by rw [decide_eq_true_eq]; exact hgt
                  clear hb0 hbx HBT HSN HRZ
                  go_wp2
                  go_quiet (fail)
                  go_wp2
                  go_roundw
                  case rel => exact ⟨k + 1, true, _, by omega, by go_num, rfl, (HN.out _).1, (HN.out 0).2, fun h => by cases h⟩
                  case measure => simp [intOf]; omega
                · have hle : z - (x - y) ≤ pk := by omega
                  have hd1 : decide (pk < z - (x - y)) = false := by rw [decide_eq_false_iff_not]; exact hgt
                  have HN := Lib.hid (HSN.out (.inr hle))
                  clear hb0 hbx HBT HSN HRZ
                  go_wp2
                  go_quiet (fail)
                  go_wp2
                  go_roundw
                  case rel => exact ⟨k + 1, b', p', by omega, by go_num, rfl, HR3.out.drewN _, HOW.out, HN.out⟩
                  case measure => simp [intOf]; omega
            · obtain rfl : k = m := by omega
              have HN := Lib.hid (HR3.out.next HST.out)
              clear hR hown hst
              go_wp2
              go_roundw
              case rel => exact ⟨i + 1, b', p', by omega, by go_num, rfl, HN.out⟩
              case measure => simp [intOf]; omega
        · obtain rfl : i = bids.length := by omega
          clear hR
          go_wp2
          go_roundw
          case rel => exact ⟨b, p, rfl, HR.out.1, HR.out.2.1, HR.out.2.2.1, fun hb => (HR.out.2.2.2.1 hb).2⟩
          case measure =>
            rw [HROOM.out, roomW_row HR.out.2.1 m (by rw [HR.out.1.1.1]; exact Nat.le_refl _)]
            have e1 : boolN (.bool true) = 1 := rfl
            cases b with
            | true => have := HR.out.2.2.2.2 rfl; omega
            | false =>
              have e2 : boolN (.bool false) = 0 := rfl
              have := (HR.out.2.2.2.1 rfl).1
              subst this; omega

/-- the cells of the table that are read at the powers below 64 -/
structure Tab64 (W : World) : Prop where
  c0 : W.cell? ⟨1, 0, none⟩ = some (.int .u8 0)
  c1 : W.cell? ⟨1, 1, none⟩ = some (.int .u8 1)
  c2 : W.cell? ⟨1, 3, none⟩ = some (.int .u8 2)
  c3 : W.cell? ⟨1, 7, none⟩ = some (.int .u8 3)
  c4 : W.cell? ⟨1, 15, none⟩ = some (.int .u8 4)
  c5 : W.cell? ⟨1, 31, none⟩ = some (.int .u8 5)
  lt : 1 < W.heap.size
theorem Tab64.below {B : Nat} {W W' : World} (h : Tab64 W) (hb : Below B W W') (hB : 1 < B) : Tab64 W' :=
  ⟨(hb.cell (p := ⟨1, 0, none⟩) hB).trans h.c0, (hb.cell (p := ⟨1, 1, none⟩) hB).trans h.c1, (hb.cell (p := ⟨1, 3, none⟩) hB).trans h.c2, (hb.cell (p := ⟨1, 7, none⟩) hB).trans h.c3, (hb.cell (p := ⟨1, 15, none⟩) hB).trans h.c4, (hb.cell (p := ⟨1, 31, none⟩) hB).trans h.c5, Nat.lt_of_lt_of_le h.lt hb.size⟩
set_option maxRecDepth 100000 in
set_option maxHeartbeats 1000000 in
theorem tz64_0 (W : World) (h : Tab64 W) : Calls Tryd.prog 88 #[.int .u64 1] W fun e w' => e = .returned (.int .i64 0) ∧ W = w' := by
  have c := h.c0
  have hA : bits BinOp.and .u64 1 (IntKind.u64.wrap (-1)) = 1 := by kernel_rfl
  have hB : IntKind.u64.wrap 285870213051353865 / 288230376151711744 = 0 := by kernel_rfl
  have hC : IntKind.u64.wrap (1 * 285870213051353865) / 288230376151711744 = 0 := by kernel_rfl
  clear h
  go_enter Tryd.func88, Tryd.ntmps88
  go_wp2
  go_ret
  exact ⟨rfl, rfl⟩
set_option maxHeartbeats 1000000 in
theorem tz_0 (W : World) (h : Tab64 W) : Calls Tryd.prog 85 #[.int .u64 1] W fun e w' => e = .returned (.int .i64 0) ∧ W = w' := by
  have HL := Lib.hid (tz64_0 W h)
  clear h
  go_enter Tryd.func85, Tryd.ntmps85
  go_wp2_with fail
  refine HL.out.mono ?_
  rintro e w' ⟨rfl, rfl⟩
  go_wp2
  go_ret
  exact ⟨rfl, rfl⟩
set_option maxRecDepth 100000 in
set_option maxHeartbeats 1000000 in
theorem tz64_1 (W : World) (h : Tab64 W) : Calls Tryd.prog 88 #[.int .u64 2] W fun e w' => e = .returned (.int .i64 1) ∧ W = w' := by
  have c := h.c1
  have hA : bits BinOp.and .u64 2 (IntKind.u64.wrap (-2)) = 2 := by kernel_rfl
  have hB : IntKind.u64.wrap 571740426102707730 / 288230376151711744 = 1 := by kernel_rfl
  have hC : IntKind.u64.wrap (2 * 285870213051353865) / 288230376151711744 = 1 := by kernel_rfl
  clear h
  go_enter Tryd.func88, Tryd.ntmps88
  go_wp2
  go_ret
  exact ⟨rfl, rfl⟩
set_option maxHeartbeats 1000000 in
theorem tz_1 (W : World) (h : Tab64 W) : Calls Tryd.prog 85 #[.int .u64 2] W fun e w' => e = .returned (.int .i64 1) ∧ W = w' := by
  have HL := Lib.hid (tz64_1 W h)
  clear h
  go_enter Tryd.func85, Tryd.ntmps85
  go_wp2_with fail
  refine HL.out.mono ?_
  rintro e w' ⟨rfl, rfl⟩
  go_wp2
  go_ret
  exact ⟨rfl, rfl⟩
set_option maxRecDepth 100000 in
set_option maxHeartbeats 1000000 in
theorem tz64_2 (W : World) (h : Tab64 W) : Calls Tryd.prog 88 #[.int .u64 4] W fun e w' => e = .returned (.int .i64 2) ∧ W = w' := by
  have c := h.c2
  have hA : bits BinOp.and .u64 4 (IntKind.u64.wrap (-4)) = 4 := by kernel_rfl
  have hB : IntKind.u64.wrap 1143480852205415460 / 288230376151711744 = 3 := by kernel_rfl
  have hC : IntKind.u64.wrap (4 * 285870213051353865) / 288230376151711744 = 3 := by kernel_rfl
  clear h
  go_enter Tryd.func88, Tryd.ntmps88
  go_wp2
  go_ret
  exact ⟨rfl, rfl⟩
set_option maxHeartbeats 1000000 in
theorem tz_2 (W : World) (h : Tab64 W) : Calls Tryd.prog 85 #[.int .u64 4] W fun e w' => e = .returned (.int .i64 2) ∧ W = w' := by
  have HL := Lib.hid (tz64_2 W h)
  clear h
  go_enter Tryd.func85, Tryd.ntmps85
  go_wp2_with fail
  refine HL.out.mono ?_
  rintro e w' ⟨rfl, rfl⟩
  go_wp2
  go_ret
  exact ⟨rfl, rfl⟩
set_option maxRecDepth 100000 in
set_option maxHeartbeats 1000000 in
theorem tz64_3 (W : World) (h : Tab64 W) : Calls Tryd.prog 88 #[.int .u64 8] W fun e w' => e = .returned (.int .i64 3) ∧ W = w' := by
  have c := h.c3
  have hA : bits BinOp.and .u64 8 (IntKind.u64.wrap (-8)) = 8 := by kernel_rfl
  have hB : IntKind.u64.wrap 2286961704410830920 / 288230376151711744 = 7 := by kernel_rfl
  have hC : IntKind.u64.wrap (8 * 285870213051353865) / 288230376151711744 = 7 := by kernel_rfl
  clear h
  go_enter Tryd.func88, Tryd.ntmps88
  go_wp2
  go_ret
  exact ⟨rfl, rfl⟩
set_option maxHeartbeats 1000000 in
theorem tz_3 (W : World) (h : Tab64 W) : Calls Tryd.prog 85 #[.int .u64 8] W fun e w' => e = .returned (.int .i64 3) ∧ W = w' := by
  have HL := Lib.hid (tz64_3 W h)
  clear h
  go_enter Tryd.func85, Tryd.ntmps85
  go_wp2_with fail
  refine HL.out.mono ?_
  rintro e w' ⟨rfl, rfl⟩
  go_wp2
  go_ret
  exact ⟨rfl, rfl⟩
set_option maxRecDepth 100000 in
set_option maxHeartbeats 1000000 in
theorem tz64_4 (W : World) (h : Tab64 W) : Calls Tryd.prog 88 #[.int .u64 16] W fun e w' => e = .returned (.int .i64 4) ∧ W = w' := by
  have c := h.c4
  have hA : bits BinOp.and .u64 16 (IntKind.u64.wrap (-16)) = 16 := by kernel_rfl
  have hB : IntKind.u64.wrap 4573923408821661840 / 288230376151711744 = 15 := by kernel_rfl
  have hC : IntKind.u64.wrap (16 * 285870213051353865) / 288230376151711744 = 15 := by kernel_rfl
  clear h
  go_enter Tryd.func88, Tryd.ntmps88
  go_wp2
  go_ret
  exact ⟨rfl, rfl⟩
set_option maxHeartbeats 1000000 in
theorem tz_4 (W : World) (h : Tab64 W) : Calls Tryd.prog 85 #[.int .u64 16] W fun e w' => e = .returned (.int .i64 4) ∧ W = w' := by
  have HL := Lib.hid (tz64_4 W h)
  clear h
  go_enter Tryd.func85, Tryd.ntmps85
  go_wp2_with fail
  refine HL.out.mono ?_
  rintro e w' ⟨rfl, rfl⟩
  go_wp2
  go_ret
  exact ⟨rfl, rfl⟩
set_option maxRecDepth 100000 in
set_option maxHeartbeats 1000000 in
theorem tz64_5 (W : World) (h : Tab64 W) : Calls Tryd.prog 88 #[.int .u64 32] W fun e w' => e = .returned (.int .i64 5) ∧ W = w' := by
  have c := h.c5
  have hA : bits BinOp.and .u64 32 (IntKind.u64.wrap (-32)) = 32 := by kernel_rfl
  have hB : IntKind.u64.wrap 9147846817643323680 / 288230376151711744 = 31 := by kernel_rfl
  have hC : IntKind.u64.wrap (32 * 285870213051353865) / 288230376151711744 = 31 := by kernel_rfl
  clear h
  go_enter Tryd.func88, Tryd.ntmps88
  go_wp2
  go_ret
  exact ⟨rfl, rfl⟩
set_option maxHeartbeats 1000000 in
theorem tz_5 (W : World) (h : Tab64 W) : Calls Tryd.prog 85 #[.int .u64 32] W fun e w' => e = .returned (.int .i64 5) ∧ W = w' := by
  have HL := Lib.hid (tz64_5 W h)
  clear h
  go_enter Tryd.func85, Tryd.ntmps85
  go_wp2_with fail
  refine HL.out.mono ?_
  rintro e w' ⟨rfl, rfl⟩
  go_wp2
  go_ret
  exact ⟨rfl, rfl⟩
theorem tz_go (k : Nat) (hk : k < 6) (W : World) (h : Tab64 W) : Calls Tryd.prog 85 #[.int .u64 ((2 ^ k : Nat) : Int)] W fun e w' => e = .returned (.int .i64 (k : Nat)) ∧ W = w' := by
  rcases (by omega : k = 0 ∨ k = 1 ∨ k = 2 ∨ k = 3 ∨ k = 4 ∨ k = 5) with rfl | rfl | rfl | rfl | rfl | rfl
  · exact tz_0 W h
  · exact tz_1 W h
  · exact tz_2 W h
  · exact tz_3 W h
  · exact tz_4 W h
  · exact tz_5 W h
set_option maxRecDepth 100000 in
set_option maxHeartbeats 1000000 in
theorem len64_1 (w : World) : Calls Tryd.prog 84 #[.int .u64 1] w fun e w' => e = .returned (.int .i64 1) ∧ w = w' := by
  go_enter Tryd.func84, Tryd.ntmps84
  go_wp2
  go_ret
  exact ⟨by kernel_rfl, rfl⟩
set_option maxHeartbeats 1000000 in
theorem len_1 (w : World) : Calls Tryd.prog 74 #[.int .u64 1] w fun e w' => e = .returned (.int .i64 1) ∧ w = w' := by
  have HL := Lib.hid (len64_1 w)
  go_enter Tryd.func74, Tryd.ntmps74
  go_wp2_with fail
  refine HL.out.mono ?_
  rintro e w' ⟨rfl, rfl⟩
  go_wp2
  go_ret
  exact ⟨rfl, rfl⟩
set_option maxRecDepth 100000 in
set_option maxHeartbeats 1000000 in
theorem len64_2 (w : World) : Calls Tryd.prog 84 #[.int .u64 3] w fun e w' => e = .returned (.int .i64 2) ∧ w = w' := by
  go_enter Tryd.func84, Tryd.ntmps84
  go_wp2
  go_ret
  exact ⟨by kernel_rfl, rfl⟩
set_option maxHeartbeats 1000000 in
theorem len_2 (w : World) : Calls Tryd.prog 74 #[.int .u64 3] w fun e w' => e = .returned (.int .i64 2) ∧ w = w' := by
  have HL := Lib.hid (len64_2 w)
  go_enter Tryd.func74, Tryd.ntmps74
  go_wp2_with fail
  refine HL.out.mono ?_
  rintro e w' ⟨rfl, rfl⟩
  go_wp2
  go_ret
  exact ⟨rfl, rfl⟩
set_option maxRecDepth 100000 in
set_option maxHeartbeats 1000000 in
theorem len64_3 (w : World) : Calls Tryd.prog 84 #[.int .u64 7] w fun e w' => e = .returned (.int .i64 3) ∧ w = w' := by
  go_enter Tryd.func84, Tryd.ntmps84
  go_wp2
  go_ret
  exact ⟨by kernel_rfl, rfl⟩
set_option maxHeartbeats 1000000 in
theorem len_3 (w : World) : Calls Tryd.prog 74 #[.int .u64 7] w fun e w' => e = .returned (.int .i64 3) ∧ w = w' := by
  have HL := Lib.hid (len64_3 w)
  go_enter Tryd.func74, Tryd.ntmps74
  go_wp2_with fail
  refine HL.out.mono ?_
  rintro e w' ⟨rfl, rfl⟩
  go_wp2
  go_ret
  exact ⟨rfl, rfl⟩
set_option maxRecDepth 100000 in
set_option maxHeartbeats 1000000 in
theorem len64_4 (w : World) : Calls Tryd.prog 84 #[.int .u64 15] w fun e w' => e = .returned (.int .i64 4) ∧ w = w' := by
  go_enter Tryd.func84, Tryd.ntmps84
  go_wp2
  go_ret
  exact ⟨by kernel_rfl, rfl⟩
set_option maxHeartbeats 1000000 in
theorem len_4 (w : World) : Calls Tryd.prog 74 #[.int .u64 15] w fun e w' => e = .returned (.int .i64 4) ∧ w = w' := by
  have HL := Lib.hid (len64_4 w)
  go_enter Tryd.func74, Tryd.ntmps74
  go_wp2_with fail
  refine HL.out.mono ?_
  rintro e w' ⟨rfl, rfl⟩
  go_wp2
  go_ret
  exact ⟨rfl, rfl⟩
set_option maxRecDepth 100000 in
set_option maxHeartbeats 1000000 in
theorem len64_5 (w : World) : Calls Tryd.prog 84 #[.int .u64 31] w fun e w' => e = .returned (.int .i64 5) ∧ w = w' := by
  go_enter Tryd.func84, Tryd.ntmps84
  go_wp2
  go_ret
  exact ⟨by kernel_rfl, rfl⟩
set_option maxHeartbeats 1000000 in
theorem len_5 (w : World) : Calls Tryd.prog 74 #[.int .u64 31] w fun e w' => e = .returned (.int .i64 5) ∧ w = w' := by
  have HL := Lib.hid (len64_5 w)
  go_enter Tryd.func74, Tryd.ntmps74
  go_wp2_with fail
  refine HL.out.mono ?_
  rintro e w' ⟨rfl, rfl⟩
  go_wp2
  go_ret
  exact ⟨rfl, rfl⟩
set_option maxRecDepth 100000 in
set_option maxHeartbeats 1000000 in
theorem len64_6 (w : World) : Calls Tryd.prog 84 #[.int .u64 63] w fun e w' => e = .returned (.int .i64 6) ∧ w = w' := by
  go_enter Tryd.func84, Tryd.ntmps84
  go_wp2
  go_ret
  exact ⟨by kernel_rfl, rfl⟩
set_option maxHeartbeats 1000000 in
theorem len_6 (w : World) : Calls Tryd.prog 74 #[.int .u64 63] w fun e w' => e = .returned (.int .i64 6) ∧ w = w' := by
  have HL := Lib.hid (len64_6 w)
  go_enter Tryd.func74, Tryd.ntmps74
  go_wp2_with fail
  refine HL.out.mono ?_
  rintro e w' ⟨rfl, rfl⟩
  go_wp2
  go_ret
  exact ⟨rfl, rfl⟩
theorem len_go (m : Nat) (h1 : 1 ≤ m) (h6 : m ≤ 6) (w : World) : Calls Tryd.prog 74 #[.int .u64 ((2 ^ m - 1 : Nat) : Int)] w fun e w' => e = .returned (.int .i64 m) ∧ w = w' := by
  rcases (by omega : m = 1 ∨ m = 2 ∨ m = 3 ∨ m = 4 ∨ m = 5 ∨ m = 6) with rfl | rfl | rfl | rfl | rfl | rfl
  · exact len_1 w
  · exact len_2 w
  · exact len_3 w
  · exact len_4 w
  · exact len_5 w
  · exact len_6 w

theorem favF_spec (bids : List (List Int)) (p : List Int) (i : Nat) : ∀ (l : List Nat) (own : Int × Nat), own.1 ≤ (favF bids p i own l).1 ∧ (∀ b ∈ l, gainOf bids p i b ≤ (favF bids p i own l).1) ∧
    (favF bids p i own l = own ∨ ∃ l1 b l2, l = l1 ++ b :: l2 ∧ favF bids p i own l = (gainOf bids p i b, b) ∧ own.1 < gainOf bids p i b ∧ ∀ b' ∈ l1, gainOf bids p i b' < gainOf bids p i b) := by
  intro l
  induction l with
  | nil => intro own; exact ⟨Int.le_refl _, (fun b hb => by cases hb), .inl rfl⟩
  | cons b l ih =>
    intro own
    have e : favF bids p i own (b :: l) = favF bids p i (prefer bids p i own b) l := rfl
    rw [e]
    obtain ⟨h1, h2, h3⟩ := ih (prefer bids p i own b)
    by_cases hc : own.1 < gainOf bids p i b
    · have ep : prefer bids p i own b = (gainOf bids p i b, b) := if_pos hc
      rw [ep] at h1 h2 h3 ⊢
      refine ⟨by have : gainOf bids p i b ≤ _ := h1; omega, fun b' hb' => ?_, ?_⟩
      · rcases List.mem_cons.1 hb' with rfl | hb'
        · exact h1
        · exact h2 b' hb'
      · right
        rcases h3 with h3 | ⟨l1, b2, l2, e2, h3, h4, h5⟩
        · exact ⟨[], b, l, rfl, h3, hc, (fun b' hb' => by cases hb')⟩
        · have h4' : gainOf bids p i b < gainOf bids p i b2 := h4
          refine ⟨b :: l1, b2, l2, by rw [e2]; rfl, h3, by omega, fun b' hb' => ?_⟩
          rcases List.mem_cons.1 hb' with rfl | hb'
          · exact h4'
          · exact h5 b' hb'
    · have ep : prefer bids p i own b = own := if_neg hc
      rw [ep] at h1 h2 h3 ⊢
      refine ⟨h1, fun b' hb' => ?_, ?_⟩
      · rcases List.mem_cons.1 hb' with rfl | hb'
        · omega
        · exact h2 b' hb'
      · rcases h3 with h3 | ⟨l1, b2, l2, e2, h3, h4, h5⟩
        · exact .inl h3
        · right
          refine ⟨b :: l1, b2, l2, by rw [e2]; rfl, h3, h4, fun b' hb' => ?_⟩
          rcases List.mem_cons.1 hb' with rfl | hb'
          · omega
          · exact h5 b' hb'
theorem subs_sorted (b : Nat) : (subs b).Pairwise (· < ·) := by
  unfold subs
  exact List.Pairwise.filter _ List.pairwise_lt_range
theorem gainOf_own {m : Nat} {bids : List (List Int)} {p : List Int} {i : Nat} (hi : i < bids.length) : gainOf bids p i (pick m bids i) = ownOf bids (bestP m bids) p i := by
  rw [ownOf_best hi]; rfl
/-- the favorite: the own bundle, and none is better; or one item that is better -/
theorem fav_single {m : Nat} {bids : List (List Int)} {p : List Int} (h : Low m bids p) (ho : Offers m bids) (hs : isSingleP m bids = true) {i : Nat} (hi : i < bids.length) :
    (favP bids p i (2 ^ m - 1) (gainOf bids p i (pick m bids i), pick m bids i) = (gainOf bids p i (pick m bids i), pick m bids i) ∧ ∀ s, s < 2 ^ m → gainOf bids p i s ≤ ownOf bids (bestP m bids) p i) ∨
    ∃ k, k < m ∧ favP bids p i (2 ^ m - 1) (gainOf bids p i (pick m bids i), pick m bids i) = (gainOf bids p i (2 ^ k), 2 ^ k) ∧ gainOf bids p i (pick m bids i) < gainOf bids p i (2 ^ k) ∧ bt (pick m bids i) k = false := by
  have hM := pow_pos2 m
  have hmem : ∀ s, s < 2 ^ m → s ∈ subs (2 ^ m - 1) := fun s hsl => mem_subs.2 (sans_zero_iff.2 fun x hx => bt_ones _ _ (by
    refine Nat.lt_of_not_le fun hle => ?_
    rw [bt_lt hsl hle] at hx; cases hx))
  obtain ⟨h1, h2, h3⟩ := favF_spec bids p i (subs (2 ^ m - 1)) (gainOf bids p i (pick m bids i), pick m bids i)
  have e : favP bids p i (2 ^ m - 1) (gainOf bids p i (pick m bids i), pick m bids i) = favF bids p i (gainOf bids p i (pick m bids i), pick m bids i) (subs (2 ^ m - 1)) := rfl
  rw [e]
  rcases h3 with h3 | ⟨l1, b, l2, e2, h3, h4, h5⟩
  · left
    refine ⟨h3, fun s hsl => ?_⟩
    have := h2 s (hmem s hsl)
    rw [h3] at this
    rw [← gainOf_own hi]; exact this
  · right
    have h4' : gainOf bids p i (pick m bids i) < gainOf bids p i b := h4
    have hbm : b ∈ subs (2 ^ m - 1) := by rw [e2]; simp
    have hbl : b < 2 ^ m := by have := le_of_sans (mem_subs.1 hbm); omega
    have hown := h.own ho hs hi
    rw [← gainOf_own hi] at hown
    have hnn := sumTo_nonneg h.2.1 b m
    have hg : gainOf bids p i b = (bids.getD i []).getD b 0 - sumTo p b m := by unfold gainOf sumP; rw [h.1]
    rcases (single_val hs hi hbl).1 with h0 | ⟨k, hk, hb, ev⟩
    · omega
    · have hgk : gainOf bids p i (2 ^ k) = (bids.getD i []).getD (2 ^ k) 0 - p.getD k 0 := by unfold gainOf sumP; rw [h.1, sumTo_pow, if_pos hk]
      have hge : gainOf bids p i b ≤ gainOf bids p i (2 ^ k) := by
        have := hnn.2 k hk hb
        omega
      have hkb : b = 2 ^ k := by
        refine Classical.byContradiction fun hne => ?_
        have hle := le_of_sans (pow_sub hb)
        have hlt : 2 ^ k < b := by omega
        have hin := hmem (2 ^ k) (pow_lt_pow hk)
        rw [e2] at hin
        have hsort := subs_sorted (2 ^ m - 1)
        rw [e2, List.pairwise_append] at hsort
        rcases List.mem_append.1 hin with hin | hin
        · have := h5 _ hin; omega
        · rcases List.mem_cons.1 hin with hin | hin
          · omega
          · have := (List.pairwise_cons.1 hsort.2.1).1 _ hin; omega
      subst hkb
      refine ⟨k, hk, h3, h4', ?_⟩
      cases hbk : bt (pick m bids i) k with
      | false => rfl
      | true =>
        rcases pick_single ho hs hi with h0 | ⟨k', hk', ej⟩
        · rw [h0, bt_zero] at hbk; cases hbk
        · rw [ej, bt_pow] at hbk
          have : k' = k := by simpa using hbk
          subst this
          rw [ej] at h4'; omega
/-- a market as leastPrices has it: the prices lie in a block of the call's own -/
structure MarketR (w0 W : World) (g gp N : Nat) (bids : List (List Int)) (l p : List Int) : Prop where
  row : ∃ pb cb ll, Row 84 W g [.int .i64 N, .slice pb bids.length cb, ll, .slice (some ⟨gp, 0, none⟩) p.length p.length] ∧ Mat w0 (.slice pb bids.length cb) bids ∧ Own 3 w0.heap.size W ll (ints l)
  prices : Row 2 W gp (ints p)
  below : Below w0.heap.size w0 W
  ge : w0.heap.size ≤ gp
section
variable {w0 W W' : World} {g gp N : Nat} {bids : List (List Int)} {l p : List Int}
theorem MarketR.later (h : MarketR w0 W g gp N bids l p) (hb : Below W.heap.size W W') : MarketR w0 W' g gp N bids l p := by
  obtain ⟨pb, cb, ll, h1, h2, h3⟩ := h.row
  exact ⟨⟨pb, cb, ll, h1.below hb h1.lt, h2, h3.below hb (Nat.le_refl _)⟩, h.prices.below hb h.prices.lt, h.below.trans (hb.mono h.below.size), h.ge⟩
theorem MarketR.market (h : MarketR w0 W g gp N bids l p) (hp : p.length ≤ 60) : Market W g N bids l p := by
  obtain ⟨pb, cb, ll, h1, h2, h3⟩ := h.row
  have hs := Sl.of_row (xs := ints p) (more := []) (cap := p.length) (by rw [List.append_nil]; exact h.prices) (by rw [ints_length]; exact Nat.le_refl _) (by unfold maxLen; omega)
  rw [ints_length] at hs
  exact ⟨pb, cb, ll, _, h1, h2.below h.below, h3.sl, hs⟩
theorem MarketR.put (h : MarketR w0 W g gp N bids l p) (k : Nat) (x : Int) : MarketR w0 (W.setCell ⟨gp, k, none⟩ (.int .i64 x)) g gp N bids l (p.set k x) := by
  obtain ⟨pb, cb, ll, h1, h2, h3⟩ := h.row
  have hne : g ≠ gp := h1.ne_ h.prices (by decide)
  have ht := Touch.cell W gp k (.int .i64 x)
  refine ⟨⟨pb, cb, ll, ?_, h2, ?_⟩, ?_, h.below.setCell (p := ⟨gp, k, none⟩) h.ge _, h.ge⟩
  · rw [List.length_set]; exact h1.touch ht hne
  · refine h3.touch ht (fun e => ?_)
    rcases h3.form_ with ⟨rfl, _⟩ | ⟨g', cap, more, rfl, _, _, _, _, hr⟩
    · cases e
    · have e' : g' = gp := by simpa [Value.ownBlock] using e
      subst e'
      exact hr.ne_ h.prices (by decide) rfl
  · rw [← ints_set]; exact h.prices.store k _
theorem MarketR.lt (h : MarketR w0 W g gp N bids l p) : g < W.heap.size := by
  obtain ⟨pb, cb, ll, h1, _, _⟩ := h.row
  exact h1.lt
end
/-- what a rise leaves -/
def RisePost (w0 : World) (g gp N m : Nat) (bids : List (List Int)) (p : List Int) (e : Ending) (w' : World) : Prop :=
  (e = .returned (.bool false) ∧ MarketR w0 w' g gp N bids (bestP m bids) p ∧ ∀ i, i < bids.length → ∀ s, s < 2 ^ m → gainOf bids p i s ≤ ownOf bids (bestP m bids) p i) ∨
  ∃ p', e = .returned (.bool true) ∧ MarketR w0 w' g gp N bids (bestP m bids) p' ∧ Low m bids p' ∧ (∀ k, p'.getD k 0 ≤ 1000000) ∧ room p' m < room p m
set_option maxRecDepth 100000 in
set_option maxHeartbeats 4000000 in
theorem rise_go (w0 w : World) (g gp m : Nat) (bids : List (List Int)) (p : List Int) (hM : MarketR w0 w g gp (2 ^ m - 1) bids (bestP m bids) p) (ht : Tab64 w0) (hm : m ≤ 6) (hn : bids.length ≤ 7) (ho : Offers m bids) (hs : isSingleP m bids = true) (hlow : Low m bids p) (hbd : ∀ k, p.getD k 0 ≤ 1000000) :
    Calls Tryd.prog 75 #[.pointer (some ⟨g, 0, none⟩)] w (RisePost w0 g gp (2 ^ m - 1) m bids p) := by
  have hp60 : p.length ≤ 60 := by rw [hlow.1]; omega
  have hsm : Small12 p := fun k => by have := hlow.2.1 k; have := hbd k; omega
  have hM0 := pow_pos2 m
  have hM64 := pow_le64 hm
  have HGAIN : Hid (∀ W, MarketR w0 W g gp (2 ^ m - 1) bids (bestP m bids) p → ∀ i, i < bids.length → ∀ b : Nat, b < 2 ^ m → Calls Tryd.prog 76 #[.pointer (some ⟨g, 0, none⟩), .int .i64 i, .int .i64 b] W fun e w' => e = .returned (.agg #[.int .i64 (gainOf bids p i b), .int .i64 b]) ∧ Below W.heap.size W w') := fun W hW i hi b hbN =>
    gain_go g (2 ^ m - 1) i b bids (bestP m bids) p W (hW.market hp60) hi hn (by rw [offerB_len (ho.at_ hi)]; exact hbN) (by omega) hp60 hsm (offers_bd ho)
  have HFAV : Hid (∀ W, MarketR w0 W g gp (2 ^ m - 1) bids (bestP m bids) p → ∀ i, i < bids.length → Calls Tryd.prog 77 #[.pointer (some ⟨g, 0, none⟩), .int .i64 i, .agg #[.int .i64 (gainOf bids p i (pick m bids i)), .int .i64 (pick m bids i : Nat)]] W fun e w' => e = .returned (.agg #[.int .i64 (favP bids p i (2 ^ m - 1) (gainOf bids p i (pick m bids i), pick m bids i)).1, .int .i64 (favP bids p i (2 ^ m - 1) (gainOf bids p i (pick m bids i), pick m bids i)).2]) ∧ Below W.heap.size W w') := fun W hW i hi =>
    favorite_go g (2 ^ m - 1) i _ _ bids (bestP m bids) p W (hW.market hp60) hi hn (by rw [offerB_len (ho.at_ hi)]; omega) (by omega) hp60 hsm (offers_bd ho)
  have HCASE := Lib.hid (fun i hi => fav_single hlow ho hs (i := i) hi)
  have HRISE : Hid (∀ i k, i < bids.length → k < m → bt (pick m bids i) k = false → gainOf bids p i (pick m bids i) < gainOf bids p i (2 ^ k) →
      (p.getD k 0 + (gainOf bids p i (2 ^ k) - gainOf bids p i (pick m bids i)) ≤ 1000000 ∧ 0 ≤ gainOf bids p i (pick m bids i) ∧ gainOf bids p i (2 ^ k) ≤ 1000000) ∧ Low m bids (p.set k (p.getD k 0 + (gainOf bids p i (2 ^ k) - gainOf bids p i (pick m bids i)))) ∧ (∀ j, (p.set k (p.getD k 0 + (gainOf bids p i (2 ^ k) - gainOf bids p i (pick m bids i)))).getD j 0 ≤ 1000000) ∧ room (p.set k (p.getD k 0 + (gainOf bids p i (2 ^ k) - gainOf bids p i (pick m bids i)))) m < room p m) := fun i k hi hk hb hlt => by
    have hkl : k < p.length := by rw [hlow.1]; exact hk
    have hgk : gainOf bids p i (2 ^ k) = (bids.getD i []).getD (2 ^ k) 0 - p.getD k 0 := by unfold gainOf sumP; rw [hlow.1, sumTo_pow, if_pos hk]
    have hown := hlow.own ho hs hi
    have hle := hlow.bd ho hs hi k
    have hpk := hlow.2.1 k
    have hob := (offerB_at (ho.at_ hi) (2 ^ k)).2
    have ego := gainOf_own (m := m) (p := p) hi
    have eT : p.getD k 0 + (gainOf bids p i (2 ^ k) - gainOf bids p i (pick m bids i)) = (bids.getD i []).getD (2 ^ k) 0 - ownOf bids (bestP m bids) p i := by omega
    rw [eT]
    have hge : p.getD k 0 < (bids.getD i []).getD (2 ^ k) 0 - ownOf bids (bestP m bids) p i := by omega
    have hroom := room_set (p := p) (k := k) hle hge hkl m
    rw [if_pos hk] at hroom
    refine ⟨⟨by omega, by omega, by omega⟩, hlow.rise ho hi hk hge, fun j => ?_, by omega⟩
    rw [set_getD _ _ _ _ hkl]
    have := hbd j
    split <;> omega
  have HPL := Lib.hid (fun i hi => pick_lt ho (k := i) hi)
  have HPK := Lib.hid (fun k hk => bestP_get m bids k hk)
  have HM := Lib.hid hM
  have HT := Lib.hid ht
  have HPLEN := Lib.hid hlow.1
  have HLB : Hid (∀ k, 0 ≤ p.getD k 0) := hlow.2.1
  obtain ⟨pb, cb, ll, hr, hmt, hll⟩ := hM.row
  have hllb := hll.sl.form
  rw [bestP_len] at hllb
  obtain ⟨lp, lc, rfl, hlc, hlm⟩ := hllb
  have HLL := Lib.hid hll
  have k1 := hr.cell 2
  have k2 := hr.cell 3
  simp only [List.getElem?_cons_zero, List.getElem?_cons_succ] at k1 k2
  have HROW := Lib.hid hr
  have HBLN := Lib.hid (bestP_len m bids)
  have hl0 : (0 : Int) ≤ (bids.length : Int) := by omega
  obtain ⟨M, hMM⟩ : ∃ M, 2 ^ m = M := ⟨_, rfl⟩
  have HMM := Lib.hid hMM
  clear hM hr hmt hll hsm hlow hbd ho hs ht hM0 hMM
  go_enter Tryd.func75, Tryd.ntmps75
  go_wp2
  go_loopw [12] (fun i wr => ∃ k : Nat, k ≤ bids.length ∧ i = .int .i64 k ∧ Below w.heap.size w wr ∧ ∀ j, j < k → ∀ s, s < 2 ^ m → gainOf bids p j s ≤ ownOf bids (bestP m bids) p j) (fun i _ => bids.length - (intOf i).toNat)
  case atStart => exact ⟨0, Nat.zero_le _, rfl, Below.refl _ _, fun j hj => by omega⟩
  case round =>
    obtain ⟨k, hk, rfl, hb, hall⟩ := hrel
    have HB := Lib.hid hb
    have HALL := Lib.hid hall
    have HMR := Lib.hid (HM.out.later hb)
    by_cases hlt : k < bids.length
    · obtain ⟨b1, o1, c1, hv, _, _, _, hcx⟩ := (HLL.out.sl.below hb).int_at k (by rw [HBLN.out]; exact hlt)
      rw [HBLN.out] at hv
      cases hv
      rw [HPK.out k hlt] at hcx
      have HG := Lib.hid (HGAIN.out wr HMR.out k hlt _ (HPL.out k hlt))
      have HF := Lib.hid (fun W h => HFAV.out W h k hlt)
      have hcase := HCASE.out k hlt
      have HR := Lib.hid (fun kk => HRISE.out k kk hlt)
      obtain ⟨x, hx⟩ : ∃ x, gainOf bids p k (pick m bids k) = x := ⟨_, rfl⟩
      rw [hx] at HG HF HR hcase
      obtain ⟨q, hq⟩ : ∃ q, pick m bids k = q := ⟨_, rfl⟩
      rw [hq] at HG HF HR hcase hcx
      rcases hcase with ⟨hfe, hno⟩ | ⟨kk, hkk, hfe, hgt, hbk⟩
      · rw [hfe] at HF
        have e1 : (x == x) = true := by simp
        have e2 : ((q : Int) == (q : Int)) = true := by simp
        have HNO := Lib.hid hno
        clear hb hall hx hq hno hfe
        go_wp2_with (first
          | (go_at_call 76; refine HG.out.mono ?_; rintro e w1 ⟨rfl, hb1⟩; have HM1 := Lib.hid ((HMR.out.later hb1).later ((Below.refl w1.heap.size w1).alloc (Nat.le_refl _) (.cells #[.int .i64 x, .int .i64 (q : Nat)] 98))); have HB1 := Lib.hid ((HB.out.trans (hb1.mono HB.out.size)).alloc (Nat.le_trans HB.out.size hb1.size) (.cells #[.int .i64 x, .int .i64 (q : Nat)] 98)); have HR5 := Lib.hid (row_new 98 w1 #[.int .i64 x, .int .i64 (q : Nat)]); clear hb1)
          | (go_at_call 77; refine (HF.out _ HM1.out).mono ?_; rintro e w2 ⟨rfl, hb2⟩; have hr5 := (HR5.out.below hb2 HR5.out.lt).alloc (.cells #[.int .i64 x, .int .i64 (q : Nat)] 98); have d0 := hr5.cell 0; have d1 := hr5.cell 1; simp only [List.getElem?_cons_zero, List.getElem?_cons_succ, List.getElem?_toArray] at d0 d1; have HB2 := Lib.hid ((HB1.out.trans (hb2.mono HB1.out.size)).alloc (Nat.le_trans HB1.out.size hb2.size) (.cells #[.int .i64 x, .int .i64 (q : Nat)] 98)); clear hb2 hr5))
        go_roundw
        case rel => exact ⟨k + 1, by omega, by go_num, HB2.out, fun j hj => by
          by_cases e : j = k
          · subst e; exact HNO.out
          · exact HALL.out j (by omega)⟩
        case measure => simp [intOf]; omega
      · rw [hfe] at HF
        have HK := Lib.hid (HR.out kk hkk hbk hgt)
        obtain ⟨y, hy⟩ : ∃ y, gainOf bids p k (2 ^ kk) = y := ⟨_, rfl⟩
        rw [hy] at HF HK hgt
        have e1 : (y == x) = false := by rw [beq_eq_false_iff_ne]; omega
        have HTZ : Hid (∀ W, Tab64 W → Calls Tryd.prog 85 #[.int .u64 ((2 ^ kk : Nat) : Int)] W fun e w' => e = .returned (.int .i64 (kk : Nat)) ∧ W = w') := fun W h => tz_go kk (by omega) W h
        have hS64 : 2 ^ kk < 64 := Nat.lt_of_lt_of_le (pow_lt_pow hkk) hM64
        have HPE := Lib.hid (HMR.out.prices.cell kk)
        obtain ⟨Sx, hSx⟩ : ∃ Sx, 2 ^ kk = Sx := ⟨_, rfl⟩
        rw [hSx] at HF HTZ hS64
        have hconv : IntKind.u64.wrap (Sx : Int) = (Sx : Int) := by
          have e : (Sx : Int) % 2 ^ 64 = Sx := Int.emod_eq_of_lt (by omega) (by omega)
          simp only [IntKind.wrap, IntKind.bits, IntKind.signed, e]
          simp
        clear hb hall hx hq hfe hy hbk HR hSx
        go_wp2_with (first
          | (go_at_call 76; refine HG.out.mono ?_; rintro e w1 ⟨rfl, hb1⟩; have HM1 := Lib.hid ((HMR.out.later hb1).later ((Below.refl w1.heap.size w1).alloc (Nat.le_refl _) (.cells #[.int .i64 x, .int .i64 (q : Nat)] 98))); have HB1 := Lib.hid ((HB.out.trans (hb1.mono HB.out.size)).alloc (Nat.le_trans HB.out.size hb1.size) (.cells #[.int .i64 x, .int .i64 (q : Nat)] 98)); have HR5 := Lib.hid (row_new 98 w1 #[.int .i64 x, .int .i64 (q : Nat)]); clear hb1)
          | (go_at_call 77; refine (HF.out _ HM1.out).mono ?_; rintro e w2 ⟨rfl, hb2⟩; have hr5 := (HR5.out.below hb2 HR5.out.lt).alloc (.cells #[.int .i64 y, .int .i64 (Sx : Nat)] 98); have d0 := hr5.cell 0; have d1 := hr5.cell 1; have hr6 := row_new 98 w2 #[.int .i64 y, .int .i64 (Sx : Nat)]; have d2 := hr6.cell 0; have d3 := hr6.cell 1; simp only [List.getElem?_cons_zero, List.getElem?_cons_succ, List.getElem?_toArray] at d0 d1 d2 d3; have HB2 := Lib.hid ((HB1.out.trans (hb2.mono HB1.out.size)).alloc (Nat.le_trans HB1.out.size hb2.size) (.cells #[.int .i64 y, .int .i64 (Sx : Nat)] 98)); have HM2 := Lib.hid ((HM1.out.later hb2).later ((Below.refl w2.heap.size w2).alloc (Nat.le_refl _) (.cells #[.int .i64 y, .int .i64 (Sx : Nat)] 98))); have HR6 := Lib.hid hr6; have HR5b := Lib.hid hr5; clear hb2 hr5 hr6))
        have hkp : kk < p.length := by rw [HPLEN.out]; exact hkk
        have hkb := HK.out.1
        have hpk0 := HLB.out kk
        obtain ⟨pk, hpkE⟩ : ∃ pk, p.getD kk 0 = pk := ⟨_, rfl⟩
        rw [hpkE] at hpk0 hkb HK
        have HPKE := Lib.hid hpkE
        clear hpkE
        have hs1 : IntKind.i64.wrap (y - x) = y - x := IntWalk.i64_in _ (by omega)
        have hs2 : IntKind.i64.wrap (pk + (y - x)) = pk + (y - x) := IntWalk.i64_in _ (by omega)
        obtain ⟨W3, hW3⟩ : ∃ W3, w2.alloc (.cells #[.int .i64 y, .int .i64 (Sx : Nat)] 98) = W3 := ⟨_, rfl⟩
        rw [hW3] at d0 d1 d2 d3 HM2 HR6 HR5b HB2 ⊢
        clear hW3
        refine wp_region_rel_tail (by kernel_rfl) 17 46 rfl (by kernel_rfl) (by kernel_rfl) [.fix (.pointer (some ⟨g, 0, none⟩)), .fix (.pointer (some ⟨g, 0, none⟩)), .fix (.pointer (some ⟨g, 3, none⟩)), .fix (.slice (some ⟨gp, 0, none⟩) p.length p.length), .fix (.pointer (some ⟨w2.heap.size, 1, none⟩)), .fix (.int .i64 (Sx : Nat)), .fix (.int .u64 (Sx : Nat)), .fix (.int .i64 (kk : Nat)), .fix (.pointer (some ⟨gp, kk, none⟩)), .fix (.int .i64 pk), .fix (.pointer (some ⟨w2.heap.size, 0, none⟩)), .fix (.int .i64 y), .fix (.pointer (some ⟨w1.heap.size, 0, none⟩)), .fix (.int .i64 x), .fix (.int .i64 (y - x)), .fix (.int .i64 (pk + (y - x))), .fix (.pointer (some ⟨gp, kk, none⟩))] rfl (stays_fix (by rfl)) ?hop ?hQ
        case hop =>
          intro W hW j o hj vs wz hb hV
          have hbz : Below W3.heap.size W3 wz := by rw [hW] at hb; exact ((Below.refl W3.heap.size W3).drew).trans hb
          have hbt := HB2.out.trans (hbz.mono HB2.out.size)
          have c0 := (HR5b.out.below hbz HR5b.out.lt).cell 0
          have c2 := (HR6.out.below hbz HR6.out.lt).cell 0
          have c3 := (HR6.out.below hbz HR6.out.lt).cell 1
          have cg := (hbt.cell (p := ⟨g, 3, none⟩) HROW.out.lt).trans k2
          have cp := (HM2.out.later hbz).prices.cell kk
          rw [ints_get _ _ (by rw [HPLEN.out]; exact hkk), HPKE.out] at cp
          have tt : Tab64 wz := HT.out.below (HM2.out.later hbz).below HT.out.lt
          simp only [List.getElem?_cons_zero, List.getElem?_cons_succ] at c0 c2 c3
          clear hW hb hbt
          simp only [List.take_succ_cons, List.take_zero] at hj
          have hj' : j < 17 := (List.getElem?_eq_some_iff.1 hj).1
          rcases (by omega : j = 0 ∨ j = 1 ∨ j = 2 ∨ j = 3 ∨ j = 4 ∨ j = 5 ∨ j = 6 ∨ j = 7 ∨ j = 8 ∨ j = 9 ∨ j = 10 ∨ j = 11 ∨ j = 12 ∨ j = 13 ∨ j = 14 ∨ j = 15 ∨ j = 16) with rfl | rfl | rfl | rfl | rfl | rfl | rfl | rfl | rfl | rfl | rfl | rfl | rfl | rfl | rfl | rfl | rfl
          · cases hj
            clear hj'
            refine .inl ⟨rfl, ?_⟩
            simp only [List.take_succ_cons, List.take_zero]
            (try simp [predsR, Region.binds, Vk] at hV)
            simp only [putAll]
            generalize hR : Res _ _ vs wz = R
            go_simp
            subst hR
            exact ⟨rfl, Below.refl _ _⟩
          · cases hj
            clear hj'
            refine .inl ⟨rfl, ?_⟩
            simp only [List.take_succ_cons, List.take_zero]
            (try simp [predsR, Region.binds, Vk] at hV)
            simp only [putAll]
            generalize hR : Res _ _ vs wz = R
            go_simp
            subst hR
            exact ⟨rfl, Below.refl _ _⟩
          · cases hj
            clear hj'
            refine .inl ⟨rfl, ?_⟩
            simp only [List.take_succ_cons, List.take_zero]
            (try simp [predsR, Region.binds, Vk] at hV)
            simp only [putAll]
            generalize hR : Res _ _ vs wz = R
            go_simp
            subst hR
            exact ⟨rfl, Below.refl _ _⟩
          · cases hj
            clear hj'
            refine .inl ⟨rfl, ?_⟩
            simp only [List.take_succ_cons, List.take_zero]
            (try simp [predsR, Region.binds, Vk] at hV)
            simp only [putAll]
            generalize hR : Res _ _ vs wz = R
            go_simp
            subst hR
            exact ⟨rfl, Below.refl _ _⟩
          · cases hj
            clear hj'
            refine .inl ⟨rfl, ?_⟩
            simp only [List.take_succ_cons, List.take_zero]
            (try simp [predsR, Region.binds, Vk] at hV)
            simp only [putAll]
            generalize hR : Res _ _ vs wz = R
            go_simp
            subst hR
            exact ⟨rfl, Below.refl _ _⟩
          · cases hj
            clear hj'
            refine .inl ⟨rfl, ?_⟩
            simp only [List.take_succ_cons, List.take_zero]
            (try simp [predsR, Region.binds, Vk] at hV)
            simp only [putAll]
            generalize hR : Res _ _ vs wz = R
            go_simp
            subst hR
            exact ⟨rfl, Below.refl _ _⟩
          · cases hj
            clear hj'
            refine .inl ⟨rfl, ?_⟩
            simp only [List.take_succ_cons, List.take_zero]
            (try simp [predsR, Region.binds, Vk] at hV)
            simp only [putAll]
            generalize hR : Res _ _ vs wz = R
            go_simp
            subst hR
            exact ⟨rfl, Below.refl _ _⟩
          · cases hj
            clear hj'
            refine .inl ⟨rfl, ?_⟩
            simp only [List.take_succ_cons, List.take_zero]
            (try simp [predsR, Region.binds, Vk] at hV)
            simp only [putAll]
            generalize hR : Res _ _ vs wz = R
            go_simp
            subst hR
            refine (HTZ.out _ tt).mono ?_
            rintro e wy ⟨rfl, rfl⟩
            exact ⟨_, rfl, rfl, Below.refl _ _⟩
          · cases hj
            clear hj'
            refine .inl ⟨rfl, ?_⟩
            simp only [List.take_succ_cons, List.take_zero]
            (try simp [predsR, Region.binds, Vk] at hV)
            simp only [putAll]
            generalize hR : Res _ _ vs wz = R
            go_simp
            subst hR
            exact ⟨rfl, Below.refl _ _⟩
          · cases hj
            clear hj'
            refine .inl ⟨rfl, ?_⟩
            simp only [List.take_succ_cons, List.take_zero]
            (try simp [predsR, Region.binds, Vk] at hV)
            simp only [putAll]
            generalize hR : Res _ _ vs wz = R
            go_simp
            subst hR
            exact ⟨rfl, Below.refl _ _⟩
          · cases hj
            clear hj'
            refine .inl ⟨rfl, ?_⟩
            simp only [List.take_succ_cons, List.take_zero]
            (try simp [predsR, Region.binds, Vk] at hV)
            simp only [putAll]
            generalize hR : Res _ _ vs wz = R
            go_simp
            subst hR
            exact ⟨rfl, Below.refl _ _⟩
          · cases hj
            clear hj'
            refine .inl ⟨rfl, ?_⟩
            simp only [List.take_succ_cons, List.take_zero]
            (try simp [predsR, Region.binds, Vk] at hV)
            simp only [putAll]
            generalize hR : Res _ _ vs wz = R
            go_simp
            subst hR
            exact ⟨rfl, Below.refl _ _⟩
          · cases hj
            clear hj'
            refine .inl ⟨rfl, ?_⟩
            simp only [List.take_succ_cons, List.take_zero]
            (try simp [predsR, Region.binds, Vk] at hV)
            simp only [putAll]
            generalize hR : Res _ _ vs wz = R
            go_simp
            subst hR
            exact ⟨rfl, Below.refl _ _⟩
          · cases hj
            clear hj'
            refine .inl ⟨rfl, ?_⟩
            simp only [List.take_succ_cons, List.take_zero]
            (try simp [predsR, Region.binds, Vk] at hV)
            simp only [putAll]
            generalize hR : Res _ _ vs wz = R
            go_simp
            subst hR
            exact ⟨rfl, Below.refl _ _⟩
          · cases hj
            clear hj'
            refine .inl ⟨rfl, ?_⟩
            simp only [List.take_succ_cons, List.take_zero]
            (try simp [predsR, Region.binds, Vk] at hV)
            simp only [putAll]
            generalize hR : Res _ _ vs wz = R
            go_simp
            subst hR
            exact ⟨rfl, Below.refl _ _⟩
          · cases hj
            clear hj'
            refine .inl ⟨rfl, ?_⟩
            simp only [List.take_succ_cons, List.take_zero]
            (try simp [predsR, Region.binds, Vk] at hV)
            simp only [putAll]
            generalize hR : Res _ _ vs wz = R
            go_simp
            subst hR
            exact ⟨rfl, Below.refl _ _⟩
          · cases hj
            clear hj'
            refine .inl ⟨rfl, ?_⟩
            simp only [List.take_succ_cons, List.take_zero]
            (try simp [predsR, Region.binds, Vk] at hV)
            simp only [putAll]
            generalize hR : Res _ _ vs wz = R
            go_simp
            subst hR
            exact ⟨rfl, Below.refl _ _⟩
        case hQ =>
          intro W hW vs wz hb hV hD
          have hbz : Below W3.heap.size W3 wz := by rw [hW] at hb; exact ((Below.refl W3.heap.size W3).drew).trans hb
          have HMZ := Lib.hid (HM2.out.later hbz)
          have HPUT := Lib.hid ((HM2.out.later hbz).put kk (pk + (y - x)))
          have hfz := (HM2.out.later hbz).prices.free kk
          have cpz := (HM2.out.later hbz).prices.cell kk
          rw [ints_get _ _ (by rw [HPLEN.out]; exact hkk), HPKE.out] at cpz
          have v0 : vs 0 = _ := hV 0 (by decide)
          have v1 : vs 1 = _ := hV 1 (by decide)
          have v2 : vs 2 = _ := hV 2 (by decide)
          have v3 : vs 3 = _ := hV 3 (by decide)
          have v4 : vs 4 = _ := hV 4 (by decide)
          have v5 : vs 5 = _ := hV 5 (by decide)
          have v6 : vs 6 = _ := hV 6 (by decide)
          have v7 : vs 7 = _ := hV 7 (by decide)
          have v8 : vs 8 = _ := hV 8 (by decide)
          have v9 : vs 9 = _ := hV 9 (by decide)
          have v10 : vs 10 = _ := hV 10 (by decide)
          have v11 : vs 11 = _ := hV 11 (by decide)
          have v12 : vs 12 = _ := hV 12 (by decide)
          have v13 : vs 13 = _ := hV 13 (by decide)
          have v14 : vs 14 = _ := hV 14 (by decide)
          have v15 : vs 15 = _ := hV 15 (by decide)
          have v16 : vs 16 = _ := hV 16 (by decide)
          simp only [List.take_succ_cons, List.take_zero, List.drop_succ_cons, List.drop_zero, putAll, v0, v1, v2, v3, v4, v5, v6, v7, v8, v9, v10, v11, v12, v13, v14, v15, v16]
          clear hV hD hb hW hbz v0 v1 v2 v3 v4 v5 v6 v7 v8 v9 v10 v11 v12 v13 v14 v15 v16
          go_wp2
          go_ret
          exact .inr ⟨_, rfl, HPUT.out, HK.out.2.1, HK.out.2.2.1, HK.out.2.2.2⟩
    · obtain rfl : k = bids.length := by omega
      clear hb hall
      go_wp2
      go_ret
      exact .inl ⟨rfl, HMR.out, HALL.out⟩

/-- prices of nothing yet, in a block of the call's own -/
def MakeZ (w0 : World) (m : Nat) (u : Value) (W : World) : Prop := ∃ gp, u = .slice (some ⟨gp, 0, none⟩) m m ∧ w0.heap.size ≤ gp ∧ Row 2 W gp (ints (zerosN m))
theorem MakeZ.below {w0 : World} {m : Nat} {u : Value} {W W' : World} (h : MakeZ w0 m u W) (hb : Below W.heap.size W W') : MakeZ w0 m u W' := by
  obtain ⟨gp, h1, h2, h3⟩ := h
  exact ⟨gp, h1, h2, h3.below hb h3.lt⟩
/-- the cells of such a market, as a value -/
def MarketZ (w0 : World) (N m : Nat) (pb : Option Addr) (n cb : Nat) (l : List Int) (u : Value) (W : World) : Prop :=
  ∃ ll gp, u = .agg #[.int .i64 (N : Nat), .slice pb n cb, ll, .slice (some ⟨gp, 0, none⟩) m m] ∧ Own 3 w0.heap.size W ll (ints l) ∧ w0.heap.size ≤ gp ∧ Row 2 W gp (ints (zerosN m))
theorem MarketZ.below {w0 : World} {N m : Nat} {pb : Option Addr} {n cb : Nat} {l : List Int} {u : Value} {W W' : World} (h : MarketZ w0 N m pb n cb l u W) (hb : Below W.heap.size W W') : MarketZ w0 N m pb n cb l u W' := by
  obtain ⟨ll, gp, h1, h2, h3, h4⟩ := h
  exact ⟨ll, gp, h1, h2.below hb (Nat.le_refl _), h3, h4.below hb h4.lt⟩
/-- such a market in a box -/
def MarketY (w0 : World) (N m : Nat) (bids : List (List Int)) (l : List Int) (u : Value) (W : World) : Prop := ∃ g gp, u = .pointer (some ⟨g, 0, none⟩) ∧ MarketR w0 W g gp N bids l (zerosN m)
theorem MarketY.below {w0 : World} {N m : Nat} {bids : List (List Int)} {l : List Int} {u : Value} {W W' : World} (h : MarketY w0 N m bids l u W) (hb : Below W.heap.size W W') : MarketY w0 N m bids l u W' := by
  obtain ⟨g, gp, h1, h2⟩ := h
  exact ⟨g, gp, h1, h2.later hb⟩
theorem make_zeros2 (w1 : World) (m : Nat) (hm : m ≤ 6) : ∃ w2, (Instr.makeSlice 31 (.int .i64 (m : Nat)) (.int .i64 (m : Nat))).run Tryd.prog w1 = .ok (.slice (some ⟨w1.heap.size, 0, none⟩) m m) w2 ∧ Row 2 w2 w1.heap.size (ints (zerosN m)) ∧ Below w1.heap.size w1 w2 := by
  obtain ⟨i, hi, hz0, hz1, hz2⟩ := info_parts Tryd.info2
  obtain ⟨w2, hrun, hown, hgr⟩ := run_make_full (P := Tryd.prog) w1 w1.heap.size 31 2 i (.int .i64 0) 1 Tryd.underlying31 hi hz0 hz1 .i64 .i64 m (by rw [hz2]; omega) (by unfold maxLen; omega) (Nat.le_refl _)
  refine ⟨w2, hrun, ?_, (Below.refl w1.heap.size w1).grown hgr (Nat.le_refl _) (fun k hk => by cases hk)⟩
  rw [Nat.mul_one, madeCells_one _ rfl] at hown
  have hrow := Row.of_owns hown
  rw [ints_replicate] at hrow
  exact hrow
theorem zerosN_len (m : Nat) : (zerosN m).length = m := by simp [zerosN]
set_option maxRecDepth 100000 in
set_option maxHeartbeats 4000000 in
theorem least_go (v : Value) (m : Nat) (bids : List (List Int)) (w : World) (hl : Mat w v bids) (hm : m ≤ 6) (hn : bids.length ≤ 7) (hn1 : 1 ≤ bids.length) (ho : Offers m bids) (hm1 : 1 ≤ m) (hs : isSingleP m bids = true) (ht : Tab64 w)
    : Calls Tryd.prog 53 #[.agg #[.int .i64 ((2 ^ m - 1 : Nat) : Int), v]] w fun e w' => ∃ v' q, e = .returned v' ∧ Sl w' v' (ints q) ∧ Least m bids q ∧ Below w.heap.size w w' := by
  obtain ⟨p, cap, rfl, hlc, hcm⟩ := hl.form_
  unfold maxLen at hcm
  have hM64 := pow_le64 hm
  have hM0 := pow_pos2 m
  have HL := Lib.hid hl
  have hr0 := row_new 73 w #[.int .i64 ((2 ^ m - 1 : Nat) : Int), .slice p bids.length cap]
  have hb0 := (Below.refl w.heap.size w).alloc (Nat.le_refl _) (.cells #[.int .i64 ((2 ^ m - 1 : Nat) : Int), .slice p bids.length cap] 73)
  have HFIRST : Hid (∀ W, Below w.heap.size w W → Calls Tryd.prog 47 #[.agg #[.int .i64 ((2 ^ m - 1 : Nat) : Int), .slice p bids.length cap]] W fun e w' => ∃ v', e = .returned v' ∧ Own 3 w.heap.size w' v' (ints (bestP m bids)) ∧ Below W.heap.size W w') := fun W hb => (first_go _ m bids W (hl.below hb) hm hn hn1 ho).mono fun e w' ⟨v', h1, h2, h3⟩ => ⟨v', h1, h2.base hb.size, h3⟩
  have HRISE : Hid (∀ W g gp q, MarketR w W g gp (2 ^ m - 1) bids (bestP m bids) q → Low m bids q → (∀ k, q.getD k 0 ≤ 1000000) → Calls Tryd.prog 75 #[.pointer (some ⟨g, 0, none⟩)] W (RisePost w g gp (2 ^ m - 1) m bids q)) := fun W g gp q hM hlow hbd => rise_go w W g gp m bids q hM ht hm hn ho hs hlow hbd
  have HRISE2 : Hid (∀ W g gp q, MarketR w W g gp (2 ^ m - 1) bids (bestP m bids) q → Low m bids q → (∀ k, q.getD k 0 ≤ 1000000) → Calls Tryd.prog 75 #[.pointer (some ⟨g, 0, none⟩)] W fun e w' => ∃ (b : Bool) (q' : List Int), e = .returned (.bool b) ∧ MarketR w w' g gp (2 ^ m - 1) bids (bestP m bids) q' ∧ (Low m bids q' ∧ ∀ k, q'.getD k 0 ≤ 1000000) ∧ (b = false → q' = q ∧ ∀ i, i < bids.length → ∀ s, s < 2 ^ m → gainOf bids q i s ≤ ownOf bids (bestP m bids) q i) ∧ (b = true → room q' m < room q m)) := fun W g gp q hM hlow hbd => (HRISE.out W g gp q hM hlow hbd).mono fun e w' h => by
    rcases h with ⟨he, h1, h2⟩ | ⟨q', he, h1, h2, h3, h4⟩
    · exact ⟨false, q, he, h1, ⟨hlow, hbd⟩, fun _ => ⟨rfl, h2⟩, fun h => by cases h⟩
    · exact ⟨true, q', he, h1, ⟨h2, h3⟩, (fun h => by cases h), fun _ => h4⟩
  clear HRISE
  have HDONE : Hid (∀ q, Low m bids q → (∀ i, i < bids.length → ∀ s, s < 2 ^ m → gainOf bids q i s ≤ ownOf bids (bestP m bids) q i) → Least m bids q) := fun q hlow hno => hlow.still ho hs (fun i hi k hk _ => by
    have := hno i hi (2 ^ k) (pow_lt_pow hk)
    unfold gainOf sumP at this
    rw [hlow.1, sumTo_pow, if_pos hk] at this
    omega)
  have HZLOW := Lib.hid (zeros_low m bids)
  have hlen := fun W => len_go m hm1 hm W
  have HLENB : Hid (∀ W, Calls Tryd.prog 74 #[.int .u64 ((2 ^ m - 1 : Nat) : Int)] W fun e w' => e = .returned (.int .i64 m) ∧ W = w') := hlen
  have hN64 : 2 ^ m - 1 < 64 := by omega
  obtain ⟨N, hN⟩ : ∃ N : Nat, 2 ^ m - 1 = N := ⟨_, rfl⟩
  rw [hN] at hr0 hb0 HFIRST HRISE2 HLENB hN64 ⊢
  have hconv : IntKind.u64.wrap (N : Int) = (N : Int) := by
    have e : (N : Int) % 2 ^ 64 = N := Int.emod_eq_of_lt (by omega) (by omega)
    simp only [IntKind.wrap, IntKind.bits, IntKind.signed, e]
    simp
  have HZL : Hid ((zerosN m).length = m) := by show _ = _; simp [zerosN]
  have HBL : Hid ((bestP m bids).length = bids.length) := bestP_len m bids
  obtain ⟨GL, hG⟩ : ∃ GL, bestP m bids = GL := ⟨_, rfl⟩
  rw [hG] at HFIRST HBL
  have HG := Lib.hid hG
  have HR0 := Lib.hid hr0
  have HB0 := Lib.hid hb0
  have HMM := Lib.hid hm
  obtain ⟨W0, hW0⟩ : ∃ W0, w.alloc (.cells #[.int .i64 N, .slice p bids.length cap] 73) = W0 := ⟨_, rfl⟩
  rw [hW0] at HR0 HB0
  clear hl ho hr0 hb0 hN hG hlen hM64 hM0 hs ht
  go_enter Tryd.func53, Tryd.ntmps53
  go_wp2
  clear hW0
  refine wp_region_rel (by kernel_rfl) 23 rfl (by kernel_rfl) [.fix (.agg #[.int .i64 (N : Nat), .slice p bids.length cap]), .fix (.agg #[.int .i64 (N : Nat), .slice p bids.length cap]), .mem (fun u W => Own 3 w.heap.size W u (ints GL)), .fix (.pointer (some ⟨w.heap.size, 0, none⟩)), .fix (.int .i64 (N : Nat)), .fix (.int .u64 (N : Nat)), .fix (.int .i64 m), .mem (MakeZ w m), .mem (MarketZ w N m p bids.length cap GL), .mem (MarketY w N m bids GL), .mem (MarketY w N m bids GL)] rfl (stays_of (fun i M hk v w w' h hb => by rcases i with _ | _ | _ | _ | _ | _ | _ | _ | _ | _ | _ | i <;> simp at hk <;> subst hk <;> first | exact Own.below h hb (Nat.le_refl _) | exact MakeZ.below h hb | exact MarketZ.below h hb | exact MarketY.below h hb) (fun j b k T n => by rcases j with _ | _ | _ | _ | _ | _ | _ | _ | _ | _ | _ | j <;> simp)) ?hop ?hQ
  case hop =>
    intro W hW j o hj vs w1 hb hV
    have hbw : Below W0.heap.size W0 w1 := by rw [hW] at hb; exact ((Below.refl W0.heap.size W0).drew).trans hb
    have d0 : w1.cell? ⟨w.heap.size, 0, none⟩ = some (.int .i64 (N : Nat)) := (HR0.out.below hbw HR0.out.lt).cell 0
    have d1 : w1.cell? ⟨w.heap.size, 1, none⟩ = some (.slice p bids.length cap) := (HR0.out.below hbw HR0.out.lt).cell 1
    clear hW hb
    have hj' : j < 11 := (List.getElem?_eq_some_iff.1 hj).1
    rcases (by omega : j = 0 ∨ j = 1 ∨ j = 2 ∨ j = 3 ∨ j = 4 ∨ j = 5 ∨ j = 6 ∨ j = 7 ∨ j = 8 ∨ j = 9 ∨ j = 10) with rfl | rfl | rfl | rfl | rfl | rfl | rfl | rfl | rfl | rfl | rfl
    · cases hj
      clear hj'
      refine .inl ⟨rfl, ?_⟩
      (try simp [predsR, Region.binds, Vk] at hV)
      simp only [putAll]
      generalize hR : Res _ _ vs w1 = R
      go_simp
      subst hR
      exact ⟨rfl, Below.refl _ _⟩
    · cases hj
      clear hj'
      refine .inl ⟨rfl, ?_⟩
      (try simp [predsR, Region.binds, Vk] at hV)
      simp only [putAll]
      generalize hR : Res _ _ vs w1 = R
      go_simp
      subst hR
      exact ⟨rfl, Below.refl _ _⟩
    · cases hj
      clear hj'
      refine .inl ⟨rfl, ?_⟩
      (try simp [predsR, Region.binds, Vk] at hV)
      simp only [putAll]
      generalize hR : Res _ _ vs w1 = R
      go_simp
      subst hR
      refine (HFIRST.out w1 (HB0.out.trans (hbw.mono HB0.out.size))).mono ?_
      rintro e w2 ⟨v2, rfl, hs2, hb2⟩
      exact ⟨_, rfl, hs2, hb2⟩
    · cases hj
      clear hj'
      refine .inl ⟨rfl, ?_⟩
      (try simp [predsR, Region.binds, Vk] at hV)
      simp only [putAll]
      generalize hR : Res _ _ vs w1 = R
      go_simp
      subst hR
      exact ⟨rfl, Below.refl _ _⟩
    · cases hj
      clear hj'
      refine .inl ⟨rfl, ?_⟩
      (try simp [predsR, Region.binds, Vk] at hV)
      simp only [putAll]
      generalize hR : Res _ _ vs w1 = R
      go_simp
      subst hR
      exact ⟨rfl, Below.refl _ _⟩
    · cases hj
      clear hj'
      refine .inl ⟨rfl, ?_⟩
      (try simp [predsR, Region.binds, Vk] at hV)
      simp only [putAll]
      generalize hR : Res _ _ vs w1 = R
      go_simp
      subst hR
      exact ⟨rfl, Below.refl _ _⟩
    · cases hj
      clear hj'
      refine .inl ⟨rfl, ?_⟩
      (try simp [predsR, Region.binds, Vk] at hV)
      simp only [putAll]
      generalize hR : Res _ _ vs w1 = R
      go_simp
      subst hR
      refine (HLENB.out w1).mono ?_
      rintro e w2 ⟨rfl, rfl⟩
      exact ⟨_, rfl, rfl, Below.refl _ _⟩
    · cases hj
      clear hj'
      refine .inl ⟨rfl, ?_⟩
      (try simp [predsR, Region.binds, Vk] at hV)
      simp only [putAll]
      generalize hR : Res _ _ vs w1 = R
      go_simp
      subst hR
      obtain ⟨w2, hrun, hs, hb2⟩ := make_zeros2 w1 m HMM.out
      rw [hrun]
      exact ⟨⟨_, rfl, (HB0.out.trans (hbw.mono HB0.out.size)).size, hs⟩, hb2⟩
    · cases hj
      clear hj'
      refine .inl ⟨rfl, ?_⟩
      generalize hG : relUpon _ _ _ = G
      have q0 : vs 0 = _ := hV 0 (by decide)
      have hS2 : Own 3 w.heap.size w1 (vs 2) (ints GL) := hV 2 (by decide)
      obtain ⟨gp, q7, hge, hrz⟩ : MakeZ w m (vs 7) w1 := hV 7 (by decide)
      obtain ⟨lp, lc, q2, _, _⟩ := hS2.sl.form
      rw [q2] at hS2
      clear hV
      subst hG
      simp only [putAll]
      generalize hR : Res _ _ vs w1 = R
      go_simp
      subst hR
      exact ⟨⟨_, gp, rfl, hS2, hge, hrz⟩, Below.refl _ _⟩
    · cases hj
      clear hj'
      refine .inl ⟨rfl, ?_⟩
      generalize hG : relUpon _ _ _ = G
      obtain ⟨ll, gp, q8, hS2, hge, hrz⟩ : MarketZ w N m p bids.length cap GL (vs 8) w1 := hV 8 (by decide)
      clear hV
      subst hG
      simp only [putAll]
      generalize hR : Res _ _ vs w1 = R
      go_simp
      subst hR
      have hbn := (Below.refl w1.heap.size w1).alloc (Nat.le_refl _) (.cells #[.int .i64 (N : Nat), .slice p bids.length cap, ll, .slice (some ⟨gp, 0, none⟩) m m] 84)
      have hrow := row_new 84 w1 #[.int .i64 (N : Nat), .slice p bids.length cap, ll, .slice (some ⟨gp, 0, none⟩) m m]
      refine ⟨⟨w1.heap.size, gp, rfl, ⟨⟨p, cap, ll, ?_, HL.out, hS2.below hbn (Nat.le_refl _)⟩, hrz.below hbn hrz.lt, (HB0.out.trans (hbw.mono HB0.out.size)).trans (hbn.mono (HB0.out.trans (hbw.mono HB0.out.size)).size), hge⟩⟩, hbn⟩
      rw [zerosN_len]; exact hrow
    · cases hj
      clear hj'
      refine .inl ⟨rfl, ?_⟩
      generalize hG : relUpon _ _ _ = G
      have hS : MarketY w N m bids GL (vs 9) w1 := hV 9 (by decide)
      clear hV
      subst hG
      simp only [putAll]
      generalize hR : Res _ _ vs w1 = R
      go_simp
      subst hR
      exact ⟨hS, Below.refl _ _⟩
  case hQ =>
    intro W hW vs w1 hb hV hD
    have hbw : Below W0.heap.size W0 w1 := by rw [hW] at hb; exact ((Below.refl W0.heap.size W0).drew).trans hb
    have v0 : vs 0 = _ := hV 0 (by decide)
    have v1 : vs 1 = _ := hV 1 (by decide)
    have v3 : vs 3 = _ := hV 3 (by decide)
    have v4 : vs 4 = _ := hV 4 (by decide)
    have v5 : vs 5 = _ := hV 5 (by decide)
    have v6 : vs 6 = _ := hV 6 (by decide)
    obtain ⟨g, gp, hg, hM⟩ : MarketY w N m bids GL (vs 10) w1 := hV 10 (by decide)
    simp only [putAll, hg, v0, v1, v3, v4, v5, v6]
    obtain ⟨z2, hz2⟩ : ∃ z, vs 2 = z := ⟨_, rfl⟩
    obtain ⟨z7, hz7⟩ : ∃ z, vs 7 = z := ⟨_, rfl⟩
    obtain ⟨z8, hz8⟩ : ∃ z, vs 8 = z := ⟨_, rfl⟩
    obtain ⟨z9, hz9⟩ : ∃ z, vs 9 = z := ⟨_, rfl⟩
    rw [hz2, hz7, hz8, hz9]
    have HM := Lib.hid hM
    have HB1 := Lib.hid (HB0.out.trans (hbw.mono HB0.out.size))
    clear hV hD v0 v1 v3 v4 v5 v6 hb hbw hW hz2 hz7 hz8 hz9 hg hM
    go_wp2
    go_loopw [18] (fun _ wr => ∃ q, MarketR w wr g gp N bids (bestP m bids) q ∧ Low m bids q ∧ ∀ k, q.getD k 0 ≤ 1000000) (fun _ wr => roomW wr gp m)
    case atStart =>
      refine ⟨zerosN m, by rw [HG.out]; exact HM.out, HZLOW.out, fun k => ?_⟩
      have : (zerosN m).getD k 0 = 0 := by unfold zerosN; rw [List.getD_eq_getElem?_getD, List.getElem?_replicate]; split <;> rfl
      omega
    case round =>
      obtain ⟨q, hM, hlow, hbd⟩ := hrel
      have HRI := Lib.hid (HRISE2.out wr g gp q hM hlow hbd)
      have HMQ := Lib.hid hM
      have HLQ := Lib.hid hlow
      clear hM hlow hbd
      go_wp2_with fail
      refine HRI.out.mono ?_
      rintro e w2 ⟨b, q', rfl, hM2, hl2, hf2, ht2⟩
      cases b with
      | false =>
        obtain ⟨rfl, hno⟩ := hf2 rfl
        have HLE := Lib.hid (HDONE.out q' hl2.1 hno)
        obtain ⟨pb, cb, ll, hrr, _, _⟩ := hM2.row
        have k3 := hrr.cell 3
        simp only [List.getElem?_cons_zero, List.getElem?_cons_succ] at k3
        have hs := Sl.of_row (xs := ints q') (more := []) (cap := q'.length) (by rw [List.append_nil]; exact hM2.prices) (by rw [ints_length]; exact Nat.le_refl _) (by rw [hl2.1.1]; have := HMM.out; unfold maxLen; omega)
        rw [ints_length] at hs
        have HSL := Lib.hid hs
        have HBE := Lib.hid hM2.below
        clear hM2 hl2 hf2 ht2 hno hrr hs HRI
        go_wp2
        go_ret
        exact ⟨_, q', rfl, HSL.out, HLE.out, HBE.out⟩
      | true =>
        have HR2 := Lib.hid (ht2 rfl)
        have HM2 := Lib.hid hM2
        have HL2 := Lib.hid hl2
        clear hM2 hl2 hf2 ht2 HRI
        go_wp2
        go_roundw
        case rel => exact ⟨q', HM2.out, HL2.out⟩
        case measure =>
          rw [roomW_row HM2.out.prices m (by rw [HL2.out.1.1]; exact Nat.le_refl _), roomW_row HMQ.out.prices m (by rw [HLQ.out.1]; exact Nat.le_refl _)]
          exact HR2.out

theorem isSing_at (v : Value) (K : Nat) (bids : List (List Int)) (w : World) (hl : Mat w v bids) (h1 : 1 ≤ K) (h6 : K ≤ 6) (hn1 : 1 ≤ bids.length) (hn6 : bids.length ≤ 6) (ho : Offers K bids) :
    Calls Tryd.prog 20 #[.int .i64 K, v] w fun e w' => e = .returned (.tuple #[.bool (isSingleP K bids), .int .i64 0]) ∧ Below w.heap.size w w' := by
  have hck := checkP_off h1 h6 hn1 hn6 ho
  have HNW := Lib.hid (new_go v K bids w hl (by unfold I64; omega) (few_off h6 hn6 ho))
  have e1 : newR (K : Int) bids v = .agg #[.int .i64 ((2 ^ K - 1 : Nat) : Int), v] := by unfold newR; rw [if_pos hck, Int.toNat_natCast]
  rw [e1, hck] at HNW
  have HC : Hid (∀ W, Below w.heap.size w W → Calls Tryd.prog 52 #[.agg #[.int .i64 ((2 ^ K - 1 : Nat) : Int), v]] W fun e w' => e = .returned (.bool (isSingleP K bids)) ∧ Below W.heap.size W w') := fun W hb => isSingle_go _ v K bids W (hl.below hb) h6 (by omega) (fun i hi => offerB_len (ho.at_ hi))
  obtain ⟨p, cap, rfl, hlc, hcm⟩ := hl.form_
  obtain ⟨N, hN⟩ : ∃ N : Nat, 2 ^ K - 1 = N := ⟨_, rfl⟩
  rw [hN] at HNW HC
  obtain ⟨sb, hsb⟩ : ∃ sb, isSingleP K bids = sb := ⟨_, rfl⟩
  rw [hsb] at HC ⊢
  clear hl ho hck e1 hN hsb
  go_enter Tryd.func20, Tryd.ntmps20
  go_wp2_with (first
    | (go_at_call 52; refine (HC.out _ HB1.out).mono ?_; rintro e w2 ⟨rfl, hb2⟩; have HB2 := Lib.hid (HB1.out.trans (hb2.mono HB1.out.size)); clear hb2)
    | (go_at_call 46; refine HNW.out.mono ?_; rintro e w1 ⟨rfl, hb1⟩; have HB1 := Lib.hid (hb1.alloc hb1.size (.cells #[.int .i64 (N : Int), .slice p bids.length cap] 73)); have hr1 := row_new 73 w1 #[.int .i64 (N : Int), .slice p bids.length cap]; have d0 := hr1.cell 0; have d1 := hr1.cell 1; simp only [List.getElem?_cons_zero, List.getElem?_cons_succ, List.getElem?_toArray] at d0 d1; clear hb1 hr1))
  go_ret2
  exact ⟨rfl, HB2.out⟩
theorem pricesN_at (v : Value) (K : Nat) (bids : List (List Int)) (w : World) (hl : Mat w v bids) (h1 : 1 ≤ K) (h6 : K ≤ 6) (hn1 : 1 ≤ bids.length) (hn6 : bids.length ≤ 6) (ho : Offers K bids) (hs : isSingleP K bids = false) :
    Calls Tryd.prog 21 #[.int .i64 K, v] w fun e w' => e = .returned (.tuple #[.slice none 0 0, .int .i64 4]) ∧ Below w.heap.size w w' := by
  have hck := checkP_off h1 h6 hn1 hn6 ho
  have HNW := Lib.hid (new_go v K bids w hl (by unfold I64; omega) (few_off h6 hn6 ho))
  have e1 : newR (K : Int) bids v = .agg #[.int .i64 ((2 ^ K - 1 : Nat) : Int), v] := by unfold newR; rw [if_pos hck, Int.toNat_natCast]
  rw [e1, hck] at HNW
  have HC : Hid (∀ W, Below w.heap.size w W → Calls Tryd.prog 52 #[.agg #[.int .i64 ((2 ^ K - 1 : Nat) : Int), v]] W fun e w' => e = .returned (.bool false) ∧ Below W.heap.size W w') := fun W hb => by
    have := isSingle_go ((2 ^ K - 1 : Nat) : Int) v K bids W (hl.below hb) h6 (by omega) (fun i hi => offerB_len (ho.at_ hi))
    rw [hs] at this; exact this
  obtain ⟨p, cap, rfl, hlc, hcm⟩ := hl.form_
  obtain ⟨N, hN⟩ : ∃ N : Nat, 2 ^ K - 1 = N := ⟨_, rfl⟩
  rw [hN] at HNW HC
  clear hl ho hck e1 hN hs
  go_enter Tryd.func21, Tryd.ntmps21
  go_wp2_with (first
    | (go_at_call 52; refine (HC.out _ HB1.out).mono ?_; rintro e w2 ⟨rfl, hb2⟩; have HB2 := Lib.hid (HB1.out.trans (hb2.mono HB1.out.size)); clear hb2)
    | (go_at_call 46; refine HNW.out.mono ?_; rintro e w1 ⟨rfl, hb1⟩; have HB1 := Lib.hid (hb1.alloc hb1.size (.cells #[.int .i64 (N : Int), .slice p bids.length cap] 73)); have hr1 := row_new 73 w1 #[.int .i64 (N : Int), .slice p bids.length cap]; have d0 := hr1.cell 0; have d1 := hr1.cell 1; simp only [List.getElem?_cons_zero, List.getElem?_cons_succ, List.getElem?_toArray] at d0 d1; clear hb1 hr1))
  go_ret2
  exact ⟨rfl, HB2.out⟩
theorem pricesY_at (v : Value) (K : Nat) (bids : List (List Int)) (w : World) (hl : Mat w v bids) (h1 : 1 ≤ K) (h6 : K ≤ 6) (hn1 : 1 ≤ bids.length) (hn6 : bids.length ≤ 6) (ho : Offers K bids) (hs : isSingleP K bids = true) (ht : Tab64 w) :
    Calls Tryd.prog 21 #[.int .i64 K, v] w fun e w' => ∃ v' q, e = .returned (.tuple #[v', .int .i64 0]) ∧ Sl w' v' (ints q) ∧ Least K bids q ∧ Below w.heap.size w w' := by
  have hck := checkP_off h1 h6 hn1 hn6 ho
  have HNW := Lib.hid (new_go v K bids w hl (by unfold I64; omega) (few_off h6 hn6 ho))
  have e1 : newR (K : Int) bids v = .agg #[.int .i64 ((2 ^ K - 1 : Nat) : Int), v] := by unfold newR; rw [if_pos hck, Int.toNat_natCast]
  rw [e1, hck] at HNW
  have HC : Hid (∀ W, Below w.heap.size w W → Calls Tryd.prog 52 #[.agg #[.int .i64 ((2 ^ K - 1 : Nat) : Int), v]] W fun e w' => e = .returned (.bool true) ∧ Below W.heap.size W w') := fun W hb => by
    have := isSingle_go ((2 ^ K - 1 : Nat) : Int) v K bids W (hl.below hb) h6 (by omega) (fun i hi => offerB_len (ho.at_ hi))
    rw [hs] at this; exact this
  have HLE : Hid (∀ W, Below w.heap.size w W → Calls Tryd.prog 53 #[.agg #[.int .i64 ((2 ^ K - 1 : Nat) : Int), v]] W fun e w' => ∃ v' q, e = .returned v' ∧ Sl w' v' (ints q) ∧ Least K bids q ∧ Below W.heap.size W w') := fun W hb => least_go v K bids W (hl.below hb) h6 (by omega) hn1 ho h1 hs (ht.below hb ht.lt)
  obtain ⟨p, cap, rfl, hlc, hcm⟩ := hl.form_
  obtain ⟨N, hN⟩ : ∃ N : Nat, 2 ^ K - 1 = N := ⟨_, rfl⟩
  rw [hN] at HNW HC HLE
  clear hl ho hck e1 hN hs ht
  go_enter Tryd.func21, Tryd.ntmps21
  go_wp2_with fail
  refine HNW.out.mono ?_
  rintro e w1 ⟨rfl, hb1⟩
  have HB1 := Lib.hid (hb1.alloc hb1.size (.cells #[.int .i64 (N : Int), .slice p bids.length cap] 73))
  have hr1 := row_new 73 w1 #[.int .i64 (N : Int), .slice p bids.length cap]
  have d0 := hr1.cell 0
  have d1 := hr1.cell 1
  simp only [List.getElem?_cons_zero, List.getElem?_cons_succ, List.getElem?_toArray] at d0 d1
  have HR1 := Lib.hid hr1
  clear hb1 hr1 HNW
  go_wp2_with fail
  refine (HC.out _ HB1.out).mono ?_
  rintro e w2 ⟨rfl, hb2⟩
  have HB2 := Lib.hid (HB1.out.trans (hb2.mono HB1.out.size))
  have hr2 := HR1.out.below hb2 HR1.out.lt
  have e0 := hr2.cell 0
  have e1 := hr2.cell 1
  simp only [List.getElem?_cons_zero, List.getElem?_cons_succ, List.getElem?_toArray] at e0 e1
  clear hb2 hr2 HC d0 d1
  go_wp2_with fail
  refine (HLE.out _ HB2.out).mono ?_
  rintro e w3 ⟨v', q, rfl, hsq, hle, hb3⟩
  obtain ⟨qp, qc, rfl, _, _⟩ := hsq.form
  have HSQ := Lib.hid hsq
  have HLQ := Lib.hid hle
  have HB3 := Lib.hid (HB2.out.trans (hb3.mono HB2.out.size))
  clear hsq hle hb3 HLE e0 e1
  go_wp2
  go_ret2
  exact ⟨_, q, rfl, HSQ.out, HLQ.out, HB3.out⟩

theorem eqB_same (a : List Int) : eqB a a = true := eqB_yes rfl
theorem single_offers {K : Nat} {B : List (List Int)} (h : AllItems20 K B) : Offers K (singleP K B) := singleP_offers fun o ho i => by have := (h o ho).2 i; omega
theorem Least.small {K : Nat} {bids : List (List Int)} {p : List Int} (h : Least K bids p) (ho : Offers K bids) (hs : isSingleP K bids = true) (hn1 : 1 ≤ bids.length) (i : Nat) : -1000000000000 ≤ p.getD i 0 ∧ p.getD i 0 ≤ 1000000000000 := by
  have h0 := h.2.2.1 i
  refine ⟨by omega, ?_⟩
  by_cases hi : i < K
  · -- an item that costs something is someone's, who offers as much
    have h2 := ((clearsP_iff _ _ _ _).1 h.1.2.2).2 i hi
    rcases h2 with h2 | h2
    · obtain ⟨j, hj, hb⟩ := (taken_bits _ _ _).1 h2
      rw [bestP_get _ _ _ hj, Int.toNat_natCast] at hb
      have h3 := h.2.own ho hs hj
      have h4 := ownOf_best (m := K) (bids := bids) (p := p) hj
      have h5 := (sumTo_nonneg h.2.2.1 (pick K bids j) K).2 i hi hb
      have h6 := (offerB_at (ho.at_ hj) (pick K bids j)).2
      unfold sumP at h4
      rw [h.2.1] at h4
      omega
    · omega
  · have : p.getD i 0 = 0 := by rw [List.getD_eq_getElem?_getD, List.getElem?_eq_none (by rw [h.2.1]; omega)]; rfl
    omega
set_option maxRecDepth 100000 in
set_option maxHeartbeats 8000000 in
theorem lawBest (S : Awake) (v : Value) (sb : Bool) (m : Int) (rows : List (List Int)) (w : World) (ht : Tab64 w) (hl : MatA w v rows) (hm : I64 m) (hr : ∀ i, In64 (rows.getD i [])) :
    Calls Tryd.prog 4 #[.int .i64 m, v, .bool sb] w fun e w' => e = .returned (.bool true) ∧ Below w.heap.size w w' := by
  have HT := Lib.hid (tame_any v m rows w hl hr)
  have HTD : Hid (∀ W (m' : Int), Below w.heap.size w W → Calls Tryd.prog 26 #[.int .i64 m', v] W fun e w' => ∃ (k : Nat) (B : List (List Int)) (v' : Value), e = .returned (.tuple #[.int .i64 (k : Int), v']) ∧ 1 ≤ k ∧ k ≤ 5 ∧ 1 ≤ B.length ∧ B.length ≤ 5 ∧ AllItems20 k B ∧ OwnM 31 2 W.heap.size w' v' (singleP k B) ∧ Below W.heap.size W w') := fun W m' hb => tamed_any v m' rows W (hl.below hb) hr
  have HTAB := Lib.hid ht
  obtain ⟨p0, cap0, rfl, _, _⟩ := hl.form_
  clear hl hm hr ht
  cases sb
  · go_enter Tryd.func4, Tryd.ntmps4
    go_wp2_with fail
    refine HT.out.mono ?_
    rintro e w1 ⟨K, bids, xv, rfl, hK1, hK4, hn1, hn4, h39, hown, hb1⟩
    have hK5 : K ≤ 5 := by omega
    have hn5 : bids.length ≤ 5 := by omega
    have HX := Lib.hid hown.mat
    have HO := Lib.hid h39.offers
    have HB1 := Lib.hid hb1
    obtain ⟨xp, xc, hxv, hxl, _⟩ := hown.mat.form_
    subst hxv
    clear hown h39 hb1 HT HTD hK4 hn4
    go_wp2_with fail
    refine (best_at _ K bids _ HX.out hK1 (by omega) hn1 (by omega) HO.out).mono ?_
    rintro e wa ⟨av, rfl, hao, hba⟩
    obtain ⟨ap, ac, hav, hal, _⟩ := hao.form
    rw [bestP_len] at hav hal
    subst hav
    have HA := Lib.hid hao
    have HXa := Lib.hid (HX.out.below hba)
    have HBa := Lib.hid (HB1.out.trans (hba.mono HB1.out.size))
    clear hao hba HX HB1
    go_wp2_with fail
    refine (pay_at _ K bids wa HXa.out hK1 (by omega) hn1 (by omega) HO.out).mono ?_
    rintro e wb ⟨pv, rfl, hpo, hbb⟩
    obtain ⟨qp, qc, hqv, hql, _⟩ := hpo.form
    rw [payP_len] at hqv hql
    subst hqv
    have HP := Lib.hid hpo
    have HXb := Lib.hid (HXa.out.below hbb)
    have HAb := Lib.hid (HA.out.below hbb)
    have HBb := Lib.hid (HBa.out.trans (hbb.mono HBa.out.size))
    clear hpo hbb HXa HA HBa
    go_wp2_with fail
    refine (isSing_at _ K bids wb HXb.out hK1 (by omega) hn1 (by omega) HO.out).mono ?_
    rintro e wc ⟨rfl, hbc⟩
    have HXc := Lib.hid (HXb.out.below hbc)
    have HAc := Lib.hid (HAb.out.below hbc)
    have HPc := Lib.hid (HP.out.below hbc)
    have HBc := Lib.hid (HBb.out.trans (hbc.mono HBb.out.size))
    clear hbc HXb HAb HP HBb
    have HEV := Lib.hid (fun W => everyone_form xp bids.length xc W hxl (by omega))
    have hE := best_bounds (n := bids.length) (by omega)
    have HWO : Hid (∀ W, Below wc.heap.size wc W → Calls Tryd.prog 27 #[.int .i64 K, .slice xp bids.length xc, .int .i64 ((2 ^ bids.length - 1 : Nat) : Int)] W fun e w' => e = .returned (.int .i64 (worthP K bids (2 ^ bids.length - 1))) ∧ Below W.heap.size W w') := fun W hb => worth_any _ K bids _ W (HXc.out.below hb) (by omega) (by omega) HO.out (by omega)
    have HBE : Hid (∀ W, Below wc.heap.size wc W → Calls Tryd.prog 30 #[.int .i64 K, .slice xp bids.length xc] W fun e w' => ∃ v', e = .returned v' ∧ Own 3 W.heap.size w' v' (ints (bestP K bids)) ∧ Below W.heap.size W w') := fun W hb => best_any _ K bids W (HXc.out.below hb) (by omega) (by omega) HO.out
    have HPA : Hid (∀ W, Below wc.heap.size wc W → Calls Tryd.prog 32 #[.int .i64 K, .slice xp bids.length xc] W fun e w' => ∃ v', e = .returned v' ∧ Own 2 W.heap.size w' v' (ints (payP K bids)) ∧ Below W.heap.size W w') := fun W hb => pay_any _ K bids W (HXc.out.below hb) (by omega) (by omega) HO.out
    have HIS : Hid (∀ W, Below wc.heap.size wc W → Calls Tryd.prog 33 #[.int .i64 K, .slice xp bids.length xc] W fun e w' => e = .returned (.bool (isSingleP K bids)) ∧ Below W.heap.size W w') := fun W hb => isSingle_any _ K bids W (HXc.out.below hb) (by omega) (by omega) (fun i hi => offerB_len (HO.out.at_ hi))
    have HINT : Hid (∀ W u, Below wc.heap.size wc W → Sl W u (ints (bestP K bids)) → Calls Tryd.prog 29 #[.slice ap bids.length ac, u] W fun e w' => e = .returned (.bool true) ∧ Below W.heap.size W w') := fun W u hb hu => by
      have := intsEq_any _ u _ _ W (HAc.out.below hb) hu
      rw [eqB_same] at this; exact this
    have HLON : Hid (∀ W u, Below wc.heap.size wc W → Sl W u (ints (payP K bids)) → Calls Tryd.prog 31 #[.slice qp bids.length qc, u] W fun e w' => e = .returned (.bool true) ∧ Below W.heap.size W w') := fun W u hb hu => by
      have := longs_any _ u _ _ W (HPc.out.below hb) hu
      rw [eqB_same] at this; exact this
    obtain ⟨E, hEE⟩ : ∃ E, 2 ^ bids.length - 1 = E := ⟨_, rfl⟩
    rw [hEE] at HEV HWO hE ⊢
    obtain ⟨W1, hW1⟩ : ∃ W1, worthP K bids E = W1 := ⟨_, rfl⟩
    rw [hW1] at HWO ⊢
    have hww : (W1 != W1) = false := by simp
    have HTc := Lib.hid (HTAB.out.below HBc.out HTAB.out.lt)
    clear hEE hW1
    obtain ⟨sg, hsg⟩ : ∃ sg, isSingleP K bids = sg := ⟨_, rfl⟩
    have HSG := Lib.hid hsg
    rw [hsg] at HIS ⊢
    clear hsg
    cases sg with
    | false =>
      go_wp2_with fail
      refine (pricesN_at _ K bids wc HXc.out hK1 (by omega) hn1 (by omega) HO.out HSG.out).mono ?_
      rintro e wd ⟨rfl, hbd⟩
      have HBd := Lib.hid hbd
      clear hbd
      go_wp2_with fail
      refine (HEV.out _).mono ?_
      rintro e wz ⟨rfl, rfl⟩
      go_wp2_with fail
      refine (HWO.out _ HBd.out).mono ?_
      rintro e we ⟨rfl, hbe⟩
      have HBe := Lib.hid (HBd.out.trans (hbe.mono HBd.out.size))
      have HBde := Lib.hid hbe
      clear hbe
      go_wp2_with fail
      refine (HBE.out _ HBe.out).mono ?_
      rintro e wf ⟨bv, rfl, hbo, hbf⟩
      obtain ⟨bp9, bc9, rfl, _, _⟩ := hbo.sl.form
      have HBO := Lib.hid hbo.sl
      have HBf := Lib.hid (HBe.out.trans (hbf.mono HBe.out.size))
      have HBdf := Lib.hid (HBde.out.trans (hbf.mono HBde.out.size))
      clear hbo hbf
      go_wp2_with fail
      refine (HINT.out _ _ HBf.out HBO.out).mono ?_
      rintro e wg ⟨rfl, hbg⟩
      have HBg := Lib.hid (HBf.out.trans (hbg.mono HBf.out.size))
      have HBdg := Lib.hid (HBdf.out.trans (hbg.mono HBdf.out.size))
      clear hbg
      go_wp2_with fail
      refine (HPA.out _ HBg.out).mono ?_
      rintro e wh ⟨cv9, rfl, hco, hbh⟩
      obtain ⟨cp9, cc9, rfl, _, _⟩ := hco.sl.form
      have HCO := Lib.hid hco.sl
      have HBh := Lib.hid (HBg.out.trans (hbh.mono HBg.out.size))
      have HBdh := Lib.hid (HBdg.out.trans (hbh.mono HBdg.out.size))
      clear hco hbh
      go_wp2_with fail
      refine (HLON.out _ _ HBh.out HCO.out).mono ?_
      rintro e wh2 ⟨rfl, hbh2⟩
      have HBh2 := Lib.hid (HBh.out.trans (hbh2.mono HBh.out.size))
      have HBdh2 := Lib.hid (HBdh.out.trans (hbh2.mono HBdh.out.size))
      clear hbh2
      go_wp2_with fail
      refine (HIS.out _ HBh2.out).mono ?_
      rintro e wi ⟨rfl, hbi⟩
      have HBi := Lib.hid (HBh2.out.trans (hbi.mono HBh2.out.size))
      have HBdi := Lib.hid (HBdh2.out.trans (hbi.mono HBdh2.out.size))
      clear hbi
      have HBi2 := Lib.hid (HBc.out.trans (HBi.out.mono HBc.out.size))
      go_wp2_with (go_at_call 16; refine (awake_any S _).mono ?_; rintro e wy ⟨rfl, hby⟩; have HBy := Lib.hid (HBi2.out.trans (hby.mono HBi2.out.size)); clear hby)
      go_ret
      exact ⟨rfl, HBy.out⟩
    | true =>
      go_wp2_with fail
      refine (pricesY_at _ K bids wc HXc.out hK1 (by omega) hn1 (by omega) HO.out HSG.out HTc.out).mono ?_
      rintro e wd ⟨v', q, rfl, hsq, hle, hbd⟩
      obtain ⟨pp, pc, rfl, _, _⟩ := hsq.form
      have HSQ := Lib.hid hsq
      have HLQ := Lib.hid hle
      have HBd := Lib.hid hbd
      have HQL := Lib.hid hle.1.1
      clear hbd hsq hle
      go_wp2_with fail
      refine (HEV.out _).mono ?_
      rintro e wz ⟨rfl, rfl⟩
      go_wp2_with fail
      refine (HWO.out _ HBd.out).mono ?_
      rintro e we ⟨rfl, hbe⟩
      have HBe := Lib.hid (HBd.out.trans (hbe.mono HBd.out.size))
      have HBde := Lib.hid hbe
      clear hbe
      go_wp2_with fail
      refine (HBE.out _ HBe.out).mono ?_
      rintro e wf ⟨bv, rfl, hbo, hbf⟩
      obtain ⟨bp9, bc9, rfl, _, _⟩ := hbo.sl.form
      have HBO := Lib.hid hbo.sl
      have HBf := Lib.hid (HBe.out.trans (hbf.mono HBe.out.size))
      have HBdf := Lib.hid (HBde.out.trans (hbf.mono HBde.out.size))
      clear hbo hbf
      go_wp2_with fail
      refine (HINT.out _ _ HBf.out HBO.out).mono ?_
      rintro e wg ⟨rfl, hbg⟩
      have HBg := Lib.hid (HBf.out.trans (hbg.mono HBf.out.size))
      have HBdg := Lib.hid (HBdf.out.trans (hbg.mono HBdf.out.size))
      clear hbg
      go_wp2_with fail
      refine (HPA.out _ HBg.out).mono ?_
      rintro e wh ⟨cv9, rfl, hco, hbh⟩
      obtain ⟨cp9, cc9, rfl, _, _⟩ := hco.sl.form
      have HCO := Lib.hid hco.sl
      have HBh := Lib.hid (HBg.out.trans (hbh.mono HBg.out.size))
      have HBdh := Lib.hid (HBdg.out.trans (hbh.mono HBdg.out.size))
      clear hco hbh
      go_wp2_with fail
      refine (HLON.out _ _ HBh.out HCO.out).mono ?_
      rintro e wh2 ⟨rfl, hbh2⟩
      have HBh2 := Lib.hid (HBh.out.trans (hbh2.mono HBh.out.size))
      have HBdh2 := Lib.hid (HBdh.out.trans (hbh2.mono HBdh.out.size))
      clear hbh2
      go_wp2_with fail
      refine (HIS.out _ HBh2.out).mono ?_
      rintro e wi ⟨rfl, hbi⟩
      have HBi := Lib.hid (HBh2.out.trans (hbi.mono HBh2.out.size))
      have HBdi := Lib.hid (HBdh2.out.trans (hbi.mono HBdh2.out.size))
      clear hbi
      have HXi := Lib.hid (HXc.out.below HBi.out)
      go_wp2_with fail
      refine (prices_any _ K bids wi HXi.out hK1 (by omega) hn1 (by omega) HO.out HSG.out).mono ?_
      rintro e wj ⟨rv, q2, rfl, hrq, hle2, hbj⟩
      obtain rfl : q2 = q := hle2.unique HLQ.out
      obtain ⟨rp, rc, rfl, _, _⟩ := hrq.sl.form
      have HRQ := Lib.hid hrq.sl
      have HBj := Lib.hid (HBi.out.trans (hbj.mono HBi.out.size))
      have HSQj := Lib.hid ((HSQ.out.below HBdi.out).below hbj)
      clear hrq hle2 hbj
      have HLQ2 := Lib.hid (longs_any _ _ _ _ wj HSQj.out HRQ.out)
      rw [eqB_same] at HLQ2
      go_wp2_with fail
      refine HLQ2.out.mono ?_
      rintro e wk ⟨rfl, hbk⟩
      have HBk := Lib.hid (HBj.out.trans (hbk.mono HBj.out.size))
      have HSQk := Lib.hid (HSQj.out.below hbk)
      clear hbk HLQ2
      have HCL := Lib.hid (clears_any _ _ _ K bids (bestP K bids) q2 wk (HXc.out.below HBk.out) (HAc.out.below HBk.out) HSQk.out (by omega) (by omega) HO.out ⟨bestP_len K bids, fun i => by have := best_bundles HO.out i; exact ⟨this.1, by exact_mod_cast this.2⟩⟩ (fun i => HLQ.out.small HO.out HSG.out hn1 i) HQL.out)
      rw [HLQ.out.1.2.2] at HCL
      go_wp2_with fail
      refine HCL.out.mono ?_
      rintro e wl ⟨rfl, hbl⟩
      have HBl := Lib.hid (HBk.out.trans (hbl.mono HBk.out.size))
      clear hbl HCL
      have HBi2 := Lib.hid (HBc.out.trans (HBl.out.mono HBc.out.size))
      go_wp2_with (go_at_call 16; refine (awake_any S _).mono ?_; rintro e wy ⟨rfl, hby⟩; have HBy := Lib.hid (HBi2.out.trans (hby.mono HBi2.out.size)); clear hby)
      go_ret
      exact ⟨rfl, HBy.out⟩
  · go_enter Tryd.func4, Tryd.ntmps4
    go_wp2_with fail
    refine HT.out.mono ?_
    rintro e w1 ⟨K0, bids0, xv, rfl, hK1, hK4, hn1, hn4, h39, hown, hb1⟩
    have HB0 := Lib.hid hb1
    obtain ⟨xp0, xc0, hxv, hxl, _⟩ := hown.mat.form_
    subst hxv
    clear hown h39 hb1 hK1 hK4 hn1 hn4 hxl
    go_wp2_with fail
    refine (HTD.out _ _ HB0.out).mono ?_
    rintro e w2 ⟨K, B, xv, rfl, hK1, hK5, hn1, hn5, hall, hown, hb2⟩
    obtain ⟨bids, hbids⟩ : ∃ bids, singleP K B = bids := ⟨_, rfl⟩
    have hln := singleP_len K B
    have ho := single_offers hall
    rw [hbids] at hown hln ho
    rw [← hln] at hn1 hn5
    have HX := Lib.hid hown.mat
    have HO := Lib.hid ho
    have HB1 := Lib.hid (HB0.out.trans (hb2.mono HB0.out.size))
    obtain ⟨xp, xc, hxv, hxl, _⟩ := hown.mat.form_
    subst hxv
    clear hown hall hb2 HT HTD hln ho hbids HB0
    go_wp2_with fail
    refine (best_at _ K bids _ HX.out hK1 (by omega) hn1 (by omega) HO.out).mono ?_
    rintro e wa ⟨av, rfl, hao, hba⟩
    obtain ⟨ap, ac, hav, hal, _⟩ := hao.form
    rw [bestP_len] at hav hal
    subst hav
    have HA := Lib.hid hao
    have HXa := Lib.hid (HX.out.below hba)
    have HBa := Lib.hid (HB1.out.trans (hba.mono HB1.out.size))
    clear hao hba HX HB1
    go_wp2_with fail
    refine (pay_at _ K bids wa HXa.out hK1 (by omega) hn1 (by omega) HO.out).mono ?_
    rintro e wb ⟨pv, rfl, hpo, hbb⟩
    obtain ⟨qp, qc, hqv, hql, _⟩ := hpo.form
    rw [payP_len] at hqv hql
    subst hqv
    have HP := Lib.hid hpo
    have HXb := Lib.hid (HXa.out.below hbb)
    have HAb := Lib.hid (HA.out.below hbb)
    have HBb := Lib.hid (HBa.out.trans (hbb.mono HBa.out.size))
    clear hpo hbb HXa HA HBa
    go_wp2_with fail
    refine (isSing_at _ K bids wb HXb.out hK1 (by omega) hn1 (by omega) HO.out).mono ?_
    rintro e wc ⟨rfl, hbc⟩
    have HXc := Lib.hid (HXb.out.below hbc)
    have HAc := Lib.hid (HAb.out.below hbc)
    have HPc := Lib.hid (HP.out.below hbc)
    have HBc := Lib.hid (HBb.out.trans (hbc.mono HBb.out.size))
    clear hbc HXb HAb HP HBb
    have HEV := Lib.hid (fun W => everyone_form xp bids.length xc W hxl (by omega))
    have hE := best_bounds (n := bids.length) (by omega)
    have HWO : Hid (∀ W, Below wc.heap.size wc W → Calls Tryd.prog 27 #[.int .i64 K, .slice xp bids.length xc, .int .i64 ((2 ^ bids.length - 1 : Nat) : Int)] W fun e w' => e = .returned (.int .i64 (worthP K bids (2 ^ bids.length - 1))) ∧ Below W.heap.size W w') := fun W hb => worth_any _ K bids _ W (HXc.out.below hb) (by omega) (by omega) HO.out (by omega)
    have HBE : Hid (∀ W, Below wc.heap.size wc W → Calls Tryd.prog 30 #[.int .i64 K, .slice xp bids.length xc] W fun e w' => ∃ v', e = .returned v' ∧ Own 3 W.heap.size w' v' (ints (bestP K bids)) ∧ Below W.heap.size W w') := fun W hb => best_any _ K bids W (HXc.out.below hb) (by omega) (by omega) HO.out
    have HPA : Hid (∀ W, Below wc.heap.size wc W → Calls Tryd.prog 32 #[.int .i64 K, .slice xp bids.length xc] W fun e w' => ∃ v', e = .returned v' ∧ Own 2 W.heap.size w' v' (ints (payP K bids)) ∧ Below W.heap.size W w') := fun W hb => pay_any _ K bids W (HXc.out.below hb) (by omega) (by omega) HO.out
    have HIS : Hid (∀ W, Below wc.heap.size wc W → Calls Tryd.prog 33 #[.int .i64 K, .slice xp bids.length xc] W fun e w' => e = .returned (.bool (isSingleP K bids)) ∧ Below W.heap.size W w') := fun W hb => isSingle_any _ K bids W (HXc.out.below hb) (by omega) (by omega) (fun i hi => offerB_len (HO.out.at_ hi))
    have HINT : Hid (∀ W u, Below wc.heap.size wc W → Sl W u (ints (bestP K bids)) → Calls Tryd.prog 29 #[.slice ap bids.length ac, u] W fun e w' => e = .returned (.bool true) ∧ Below W.heap.size W w') := fun W u hb hu => by
      have := intsEq_any _ u _ _ W (HAc.out.below hb) hu
      rw [eqB_same] at this; exact this
    have HLON : Hid (∀ W u, Below wc.heap.size wc W → Sl W u (ints (payP K bids)) → Calls Tryd.prog 31 #[.slice qp bids.length qc, u] W fun e w' => e = .returned (.bool true) ∧ Below W.heap.size W w') := fun W u hb hu => by
      have := longs_any _ u _ _ W (HPc.out.below hb) hu
      rw [eqB_same] at this; exact this
    obtain ⟨E, hEE⟩ : ∃ E, 2 ^ bids.length - 1 = E := ⟨_, rfl⟩
    rw [hEE] at HEV HWO hE ⊢
    obtain ⟨W1, hW1⟩ : ∃ W1, worthP K bids E = W1 := ⟨_, rfl⟩
    rw [hW1] at HWO ⊢
    have hww : (W1 != W1) = false := by simp
    have HTc := Lib.hid (HTAB.out.below HBc.out HTAB.out.lt)
    clear hEE hW1
    obtain ⟨sg, hsg⟩ : ∃ sg, isSingleP K bids = sg := ⟨_, rfl⟩
    have HSG := Lib.hid hsg
    rw [hsg] at HIS ⊢
    clear hsg
    cases sg with
    | false =>
      go_wp2_with fail
      refine (pricesN_at _ K bids wc HXc.out hK1 (by omega) hn1 (by omega) HO.out HSG.out).mono ?_
      rintro e wd ⟨rfl, hbd⟩
      have HBd := Lib.hid hbd
      clear hbd
      go_wp2_with fail
      refine (HEV.out _).mono ?_
      rintro e wz ⟨rfl, rfl⟩
      go_wp2_with fail
      refine (HWO.out _ HBd.out).mono ?_
      rintro e we ⟨rfl, hbe⟩
      have HBe := Lib.hid (HBd.out.trans (hbe.mono HBd.out.size))
      have HBde := Lib.hid hbe
      clear hbe
      go_wp2_with fail
      refine (HBE.out _ HBe.out).mono ?_
      rintro e wf ⟨bv, rfl, hbo, hbf⟩
      obtain ⟨bp9, bc9, rfl, _, _⟩ := hbo.sl.form
      have HBO := Lib.hid hbo.sl
      have HBf := Lib.hid (HBe.out.trans (hbf.mono HBe.out.size))
      have HBdf := Lib.hid (HBde.out.trans (hbf.mono HBde.out.size))
      clear hbo hbf
      go_wp2_with fail
      refine (HINT.out _ _ HBf.out HBO.out).mono ?_
      rintro e wg ⟨rfl, hbg⟩
      have HBg := Lib.hid (HBf.out.trans (hbg.mono HBf.out.size))
      have HBdg := Lib.hid (HBdf.out.trans (hbg.mono HBdf.out.size))
      clear hbg
      go_wp2_with fail
      refine (HPA.out _ HBg.out).mono ?_
      rintro e wh ⟨cv9, rfl, hco, hbh⟩
      obtain ⟨cp9, cc9, rfl, _, _⟩ := hco.sl.form
      have HCO := Lib.hid hco.sl
      have HBh := Lib.hid (HBg.out.trans (hbh.mono HBg.out.size))
      have HBdh := Lib.hid (HBdg.out.trans (hbh.mono HBdg.out.size))
      clear hco hbh
      go_wp2_with fail
      refine (HLON.out _ _ HBh.out HCO.out).mono ?_
      rintro e wh2 ⟨rfl, hbh2⟩
      have HBh2 := Lib.hid (HBh.out.trans (hbh2.mono HBh.out.size))
      have HBdh2 := Lib.hid (HBdh.out.trans (hbh2.mono HBdh.out.size))
      clear hbh2
      go_wp2_with fail
      refine (HIS.out _ HBh2.out).mono ?_
      rintro e wi ⟨rfl, hbi⟩
      have HBi := Lib.hid (HBh2.out.trans (hbi.mono HBh2.out.size))
      have HBdi := Lib.hid (HBdh2.out.trans (hbi.mono HBdh2.out.size))
      clear hbi
      have HBi2 := Lib.hid (HBc.out.trans (HBi.out.mono HBc.out.size))
      go_wp2_with (go_at_call 16; refine (awake_any S _).mono ?_; rintro e wy ⟨rfl, hby⟩; have HBy := Lib.hid (HBi2.out.trans (hby.mono HBi2.out.size)); clear hby)
      go_ret
      exact ⟨rfl, HBy.out⟩
    | true =>
      go_wp2_with fail
      refine (pricesY_at _ K bids wc HXc.out hK1 (by omega) hn1 (by omega) HO.out HSG.out HTc.out).mono ?_
      rintro e wd ⟨v', q, rfl, hsq, hle, hbd⟩
      obtain ⟨pp, pc, rfl, _, _⟩ := hsq.form
      have HSQ := Lib.hid hsq
      have HLQ := Lib.hid hle
      have HBd := Lib.hid hbd
      have HQL := Lib.hid hle.1.1
      clear hbd hsq hle
      go_wp2_with fail
      refine (HEV.out _).mono ?_
      rintro e wz ⟨rfl, rfl⟩
      go_wp2_with fail
      refine (HWO.out _ HBd.out).mono ?_
      rintro e we ⟨rfl, hbe⟩
      have HBe := Lib.hid (HBd.out.trans (hbe.mono HBd.out.size))
      have HBde := Lib.hid hbe
      clear hbe
      go_wp2_with fail
      refine (HBE.out _ HBe.out).mono ?_
      rintro e wf ⟨bv, rfl, hbo, hbf⟩
      obtain ⟨bp9, bc9, rfl, _, _⟩ := hbo.sl.form
      have HBO := Lib.hid hbo.sl
      have HBf := Lib.hid (HBe.out.trans (hbf.mono HBe.out.size))
      have HBdf := Lib.hid (HBde.out.trans (hbf.mono HBde.out.size))
      clear hbo hbf
      go_wp2_with fail
      refine (HINT.out _ _ HBf.out HBO.out).mono ?_
      rintro e wg ⟨rfl, hbg⟩
      have HBg := Lib.hid (HBf.out.trans (hbg.mono HBf.out.size))
      have HBdg := Lib.hid (HBdf.out.trans (hbg.mono HBdf.out.size))
      clear hbg
      go_wp2_with fail
      refine (HPA.out _ HBg.out).mono ?_
      rintro e wh ⟨cv9, rfl, hco, hbh⟩
      obtain ⟨cp9, cc9, rfl, _, _⟩ := hco.sl.form
      have HCO := Lib.hid hco.sl
      have HBh := Lib.hid (HBg.out.trans (hbh.mono HBg.out.size))
      have HBdh := Lib.hid (HBdg.out.trans (hbh.mono HBdg.out.size))
      clear hco hbh
      go_wp2_with fail
      refine (HLON.out _ _ HBh.out HCO.out).mono ?_
      rintro e wh2 ⟨rfl, hbh2⟩
      have HBh2 := Lib.hid (HBh.out.trans (hbh2.mono HBh.out.size))
      have HBdh2 := Lib.hid (HBdh.out.trans (hbh2.mono HBdh.out.size))
      clear hbh2
      go_wp2_with fail
      refine (HIS.out _ HBh2.out).mono ?_
      rintro e wi ⟨rfl, hbi⟩
      have HBi := Lib.hid (HBh2.out.trans (hbi.mono HBh2.out.size))
      have HBdi := Lib.hid (HBdh2.out.trans (hbi.mono HBdh2.out.size))
      clear hbi
      have HXi := Lib.hid (HXc.out.below HBi.out)
      go_wp2_with fail
      refine (prices_any _ K bids wi HXi.out hK1 (by omega) hn1 (by omega) HO.out HSG.out).mono ?_
      rintro e wj ⟨rv, q2, rfl, hrq, hle2, hbj⟩
      obtain rfl : q2 = q := hle2.unique HLQ.out
      obtain ⟨rp, rc, rfl, _, _⟩ := hrq.sl.form
      have HRQ := Lib.hid hrq.sl
      have HBj := Lib.hid (HBi.out.trans (hbj.mono HBi.out.size))
      have HSQj := Lib.hid ((HSQ.out.below HBdi.out).below hbj)
      clear hrq hle2 hbj
      have HLQ2 := Lib.hid (longs_any _ _ _ _ wj HSQj.out HRQ.out)
      rw [eqB_same] at HLQ2
      go_wp2_with fail
      refine HLQ2.out.mono ?_
      rintro e wk ⟨rfl, hbk⟩
      have HBk := Lib.hid (HBj.out.trans (hbk.mono HBj.out.size))
      have HSQk := Lib.hid (HSQj.out.below hbk)
      clear hbk HLQ2
      have HCL := Lib.hid (clears_any _ _ _ K bids (bestP K bids) q2 wk (HXc.out.below HBk.out) (HAc.out.below HBk.out) HSQk.out (by omega) (by omega) HO.out ⟨bestP_len K bids, fun i => by have := best_bundles HO.out i; exact ⟨this.1, by exact_mod_cast this.2⟩⟩ (fun i => HLQ.out.small HO.out HSG.out hn1 i) HQL.out)
      rw [HLQ.out.1.2.2] at HCL
      go_wp2_with fail
      refine HCL.out.mono ?_
      rintro e wl ⟨rfl, hbl⟩
      have HBl := Lib.hid (HBk.out.trans (hbl.mono HBk.out.size))
      clear hbl HCL
      have HBi2 := Lib.hid (HBc.out.trans (HBl.out.mono HBc.out.size))
      go_wp2_with (go_at_call 16; refine (awake_any S _).mono ?_; rintro e wy ⟨rfl, hby⟩; have HBy := Lib.hid (HBi2.out.trans (hby.mono HBi2.out.size)); clear hby)
      go_ret
      exact ⟨rfl, HBy.out⟩
end Go.Proofs.YthbfgmgpploneaaDoor
