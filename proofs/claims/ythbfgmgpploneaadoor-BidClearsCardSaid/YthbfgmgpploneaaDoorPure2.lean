/- Plain numbers for bids: the first best allocation, payments, gains, single bids, prices, cores. -/
import Derived.Test.YthbfgmgpploneaaDoorPure
set_option linter.unusedVariables false
set_option linter.unusedSimpArgs false
set_option linter.unnecessarySimpa false
namespace Go.Proofs.YthbfgmgpploneaaDoor
open Go

theorem bt_ones (n k : Nat) (h : k < n) : bt (2 ^ n - 1) k = true := by
  rw [bt_eq, Nat.testBit_two_pow_sub_one]; simpa using h
/-- what is left for the bidders from k on -/
def leftAt (m : Nat) (bids : List (List Int)) : Nat → Nat
  | 0 => 2 ^ m - 1
  | k + 1 => sans (leftAt m bids k) (firstSub (bids.getD k []) (tk m bids (2 ^ bids.length - 1) (k + 1)) ((tk m bids (2 ^ bids.length - 1) k).getD (leftAt m bids k) 0) (leftAt m bids k))
/-- the bundle of bidder k -/
def pick (m : Nat) (bids : List (List Int)) (k : Nat) : Nat :=
  firstSub (bids.getD k []) (tk m bids (2 ^ bids.length - 1) (k + 1)) ((tk m bids (2 ^ bids.length - 1) k).getD (leftAt m bids k) 0) (leftAt m bids k)
theorem leftAt_succ (m : Nat) (bids : List (List Int)) (k : Nat) : leftAt m bids (k + 1) = sans (leftAt m bids k) (pick m bids k) := rfl
theorem leftAt_lt (m : Nat) (bids : List (List Int)) (k : Nat) : leftAt m bids k < 2 ^ m := by
  induction k with
  | zero => have := pow_pos2 m; simp only [leftAt]; omega
  | succ k ih => rw [leftAt_succ]; exact Nat.lt_of_le_of_lt (sans_le _ _) ih
/-- is it the bundle that bidder k gets? -/
def hitK (m : Nat) (bids : List (List Int)) (k s : Nat) : Bool :=
  hits (bids.getD k []) (tk m bids (2 ^ bids.length - 1) (k + 1)) ((tk m bids (2 ^ bids.length - 1) k).getD (leftAt m bids k) 0) (leftAt m bids k) s
theorem hitK_ex {m : Nat} {bids : List (List Int)} (h : Offers m bids) {k : Nat} (hk : k < bids.length) : ∃ s, s ≤ leftAt m bids k ∧ hitK m bids k s = true := by
  have hs := tk_step m bids (2 ^ bids.length - 1) k hk
  have hb := tk_bounds h (2 ^ bids.length - 1) (bids.length - (k + 1)) (k + 1) (by omega)
  rw [bt_ones _ _ hk] at hs
  obtain ⟨u, h1, h2, h3⟩ := bestTo_got (set := leftAt m bids k) (offerB_zero (h.at_ hk)) (fun s => (hb s).1) (leftAt m bids k + 1) (by omega)
  refine ⟨u, by omega, ?_⟩
  unfold hitK hits
  rw [hs, rowT_get _ _ _ _ _ (leftAt_lt m bids k), h2, h3]
  simp
theorem pick_eq {m : Nat} {bids : List (List Int)} {k s : Nat} (hs : hitK m bids k s = true) (hb : ∀ u, u < s → hitK m bids k u = false) : pick m bids k = s := firstSub_eq hs hb
theorem pick_spec {m : Nat} {bids : List (List Int)} (h : Offers m bids) {k : Nat} (hk : k < bids.length) : hitK m bids k (pick m bids k) = true ∧ (∀ u, u < pick m bids k → hitK m bids k u = false) := by
  obtain ⟨s, _, hs⟩ := hitK_ex h hk
  have key : ∀ n s, s ≤ n → hitK m bids k s = true → ∃ v, hitK m bids k v = true ∧ ∀ u, u < v → hitK m bids k u = false := by
    intro n
    induction n with
    | zero => intro s h0 h1; exact ⟨s, h1, fun u hu => by omega⟩
    | succ n ih =>
      intro s h0 h1
      by_cases hx : ∃ u, u < s ∧ hitK m bids k u = true
      · obtain ⟨u, h2, h3⟩ := hx; exact ih u (by omega) h3
      · refine ⟨s, h1, fun u hu => ?_⟩
        by_cases h4 : hitK m bids k u = true
        · exact absurd ⟨u, hu, h4⟩ hx
        · simpa using h4
  obtain ⟨v, h1, h2⟩ := key s s (Nat.le_refl _) hs
  have := pick_eq h1 h2
  rw [this]; exact ⟨h1, h2⟩
theorem pick_sub {m : Nat} {bids : List (List Int)} (h : Offers m bids) {k : Nat} (hk : k < bids.length) : sans (pick m bids k) (leftAt m bids k) = 0 := by
  have := (pick_spec h hk).1
  unfold hitK hits at this
  simp only [Bool.and_eq_true, beq_iff_eq] at this
  exact this.1
theorem pick_lt {m : Nat} {bids : List (List Int)} (h : Offers m bids) {k : Nat} (hk : k < bids.length) : pick m bids k < 2 ^ m :=
  Nat.lt_of_le_of_lt (le_of_sans (pick_sub h hk)) (leftAt_lt m bids k)
def bestP (m : Nat) (bids : List (List Int)) : List Int := (List.range bids.length).map fun k => (pick m bids k : Int)
theorem bestP_len (m : Nat) (bids : List (List Int)) : (bestP m bids).length = bids.length := by simp [bestP]
theorem bestP_get (m : Nat) (bids : List (List Int)) (k : Nat) (hk : k < bids.length) : (bestP m bids).getD k 0 = pick m bids k := by simp [bestP, hk]

/-- is the list, behind bundles with the items t, one of bundles without an item in common? -/
def allocGo (M : Nat) : Nat → List Int → Bool
  | _, [] => true
  | t, x :: xs => decide (0 ≤ x) && decide (x < M) && (x.toNat &&& t == 0) && allocGo M (t ||| x.toNat) xs
def allocB (m n : Nat) (l : List Int) : Bool := allocGo (2 ^ m) 0 l && l.length == n

/-- what the bidders before k offer for their bundles, without bidder i -/
def othersTo (bids : List (List Int)) (l : List Int) (i : Nat) : Nat → Int
  | 0 => 0
  | k + 1 => if k = i then othersTo bids l i k else othersTo bids l i k + (bids.getD k []).getD (l.getD k 0).toNat 0
def payOf (m : Nat) (bids : List (List Int)) (i : Nat) : Int := worthP m bids (sans (2 ^ bids.length - 1) (2 ^ i)) - othersTo bids (bestP m bids) i bids.length
def payP (m : Nat) (bids : List (List Int)) : List Int := (List.range bids.length).map (payOf m bids)
theorem payP_len (m : Nat) (bids : List (List Int)) : (payP m bids).length = bids.length := by simp [payP]
theorem payP_get (m : Nat) (bids : List (List Int)) (k : Nat) (hk : k < bids.length) : (payP m bids).getD k 0 = payOf m bids k := by simp [payP, hk]
def gainP (m : Nat) (bids : List (List Int)) (who : Nat) (offer : List Int) : Int :=
  (bids.getD who []).getD ((bestP m (bids.set who offer)).getD who 0).toNat 0 - (payP m (bids.set who offer)).getD who 0

/-- the greatest offer, for the items of s below k -/
def singleTo (o : List Int) (s : Nat) : Nat → Int
  | 0 => 0
  | k + 1 => if bt s k then max (singleTo o s k) (o.getD k 0) else singleTo o s k
def singleRow (m : Nat) (o : List Int) : List Int := (List.range (2 ^ m)).map fun s => singleTo o s m
def singleP (m : Nat) (offers : List (List Int)) : List (List Int) := offers.map (singleRow m)
def itemsRow (m : Nat) (b : List Int) : List Int := (List.range m).map fun k => b.getD (2 ^ k) 0
def itemsP (m : Nat) (bids : List (List Int)) : List (List Int) := bids.map (itemsRow m)
def isSingleP (m : Nat) (bids : List (List Int)) : Bool := bids.all fun b => (List.range (2 ^ m)).all fun s => singleTo (itemsRow m b) s m == b.getD s 0
/-- the sum of the prices of the items of s below k -/
def sumTo (p : List Int) (s : Nat) : Nat → Int
  | 0 => 0
  | k + 1 => if bt s k then sumTo p s k + p.getD k 0 else sumTo p s k
def sumP (p : List Int) (s : Nat) : Int := sumTo p s p.length
theorem singleRow_len (m : Nat) (o : List Int) : (singleRow m o).length = 2 ^ m := by simp [singleRow]
theorem singleRow_get (m : Nat) (o : List Int) (s : Nat) (hs : s < 2 ^ m) : (singleRow m o).getD s 0 = singleTo o s m := by simp [singleRow, hs]
theorem singleTo_lo (o : List Int) (s k : Nat) : 0 ≤ singleTo o s k := by
  induction k with
  | zero => exact Int.le_refl 0
  | succ k ih => simp only [singleTo]; split <;> omega
theorem singleTo_hi {o : List Int} {B : Int} (h0 : 0 ≤ B) (h : ∀ i, o.getD i 0 ≤ B) (s k : Nat) : singleTo o s k ≤ B := by
  induction k with
  | zero => exact h0
  | succ k ih => have := h k; simp only [singleTo]; split <;> omega
theorem singleTo_mono {o : List Int} {s t : Nat} (h : ∀ i, bt s i = true → bt t i = true) (k : Nat) : singleTo o s k ≤ singleTo o t k := by
  induction k with
  | zero => exact Int.le_refl _
  | succ k ih =>
    simp only [singleTo]
    cases hs : bt s k with
    | true => rw [h k hs]; simp only [if_true]; omega
    | false =>
      cases bt t k <;> simp <;> omega
/-- single bids are offers -/
theorem singleRow_offer {m : Nat} {o : List Int} (h : ∀ i, o.getD i 0 ≤ 1000000) : offerB m (singleRow m o) = true := by
  unfold offerB
  simp only [Bool.and_eq_true, beq_iff_eq, List.all_eq_true, List.mem_range, singleRow_len, true_and]
  refine ⟨?_, fun s hs => ?_⟩
  · rw [singleRow_get m o 0 (pow_pos2 m)]
    have : ∀ k, singleTo o 0 k = 0 := by
      intro k
      induction k with
      | zero => rfl
      | succ k ih => simp only [singleTo]; have : bt 0 k = false := by rw [bt_eq]; simp
                     rw [this]; simpa using ih
    exact this m
  · unfold offerAt
    rw [singleRow_get m o s hs]
    simp only [Bool.and_eq_true, decide_eq_true_eq, List.all_eq_true, List.mem_range]
    refine ⟨⟨singleTo_lo _ _ _, singleTo_hi (by omega) h _ _⟩, fun i hi => ?_⟩
    rw [singleRow_get m o _ (Nat.lt_of_le_of_lt (sans_le _ _) hs)]
    have : singleTo o (sans s (2 ^ i)) m ≤ singleTo o s m := singleTo_mono (fun j hj => by rw [bt_sans] at hj; simp at hj; exact hj.1) m
    simp; exact Or.inr this
theorem singleP_offers {m : Nat} {offers : List (List Int)} (h : ∀ o, o ∈ offers → ∀ i, o.getD i 0 ≤ 1000000) : Offers m (singleP m offers) := by
  intro b hb
  obtain ⟨o, ho, rfl⟩ := List.mem_map.1 hb
  exact singleRow_offer (h o ho)
/-- may this bidder's bundle be cleared at these prices? -/
def wants (m : Nat) (b p : List Int) (own : Int) : Bool := (List.range (2 ^ m)).all fun s => decide (b.getD s 0 - sumP p s ≤ own)
def takenTo (l : List Int) : Nat → Nat
  | 0 => 0
  | k + 1 => takenTo l k ||| (l.getD k 0).toNat
def clearsP (m : Nat) (bids : List (List Int)) (l p : List Int) : Bool :=
  ((List.range bids.length).all fun i => wants m (bids.getD i []) p ((bids.getD i []).getD (l.getD i 0).toNat 0 - sumP p (l.getD i 0).toNat)) &&
  (List.range m).all fun k => bt (takenTo l bids.length) k || p.getD k 0 == 0
/-- what the bidders of a set, and the others, offer and pay, those below k -/
def ownTo (bids : List (List Int)) (l : List Int) (set : Nat) : Nat → Int
  | 0 => 0
  | k + 1 => if bt set k then ownTo bids l set k + (bids.getD k []).getD (l.getD k 0).toNat 0 else ownTo bids l set k
def restTo (p : List Int) (set : Nat) : Nat → Int
  | 0 => 0
  | k + 1 => if bt set k then restTo p set k else restTo p set k + p.getD k 0
def coreP (m : Nat) (bids : List (List Int)) (p : List Int) : Bool :=
  ((List.range bids.length).all fun i => decide (0 ≤ p.getD i 0) && decide (p.getD i 0 ≤ (bids.getD i []).getD ((bestP m bids).getD i 0).toNat 0)) &&
  (List.range (2 ^ bids.length)).all fun set => decide (worthP m bids set - ownTo bids (bestP m bids) set bids.length ≤ restTo p set bids.length)
/-- the first index of the greatest number before k -/
def topTo (l : List Int) : Nat → Nat
  | 0 => 0
  | k + 1 => if l.getD (topTo l k) 0 < l.getD k 0 then k else topTo l k
def nextTo (l : List Int) (best : Nat) : Nat → Int
  | 0 => 0
  | k + 1 => if k = best then nextTo l best k else max (nextTo l best k) (l.getD k 0)
end Go.Proofs.YthbfgmgpploneaaDoor
