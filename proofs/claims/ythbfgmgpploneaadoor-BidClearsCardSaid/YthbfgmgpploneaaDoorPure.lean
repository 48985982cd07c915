/- Plain numbers for bids: bundles as numbers whose bits are items, best worths, allocations. -/
import Derived.Laws.BitsAllLaws
import Derived.IntWalk
set_option linter.unusedVariables false
set_option linter.unusedSimpArgs false
set_option linter.unnecessarySimpa false
namespace Go.Proofs.YthbfgmgpploneaaDoor
open Go

/-- is item i in the bundle? -/
def bt (s i : Nat) : Bool := s / 2 ^ i % 2 == 1
/-- the bundle a without what is in b -/
def sans (a b : Nat) : Nat := a ^^^ (a &&& b)
theorem bt_eq (s i : Nat) : bt s i = s.testBit i := by
  unfold bt; rw [Nat.testBit_eq_decide_div_mod_eq]; rfl
theorem bt_sans (a b i : Nat) : bt (sans a b) i = (bt a i && !bt b i) := by
  rw [bt_eq, bt_eq, bt_eq]; unfold sans
  rw [Nat.testBit_xor, Nat.testBit_and]
  cases a.testBit i <;> cases b.testBit i <;> rfl
theorem bt_ext {a b : Nat} (h : ∀ i, bt a i = bt b i) : a = b := Nat.eq_of_testBit_eq fun i => by rw [← bt_eq, ← bt_eq]; exact h i
theorem sans_le (a b : Nat) : sans a b ≤ a := by
  apply Nat.le_of_testBit
  intro i h
  unfold sans at h
  rw [Nat.testBit_xor, Nat.testBit_and] at h
  revert h
  cases a.testBit i <;> cases b.testBit i <;> simp
theorem sans_zero (a : Nat) : sans a 0 = a := by unfold sans; simp
theorem zero_sans (a : Nat) : sans 0 a = 0 := by unfold sans; simp
theorem sans_self (a : Nat) : sans a a = 0 := by unfold sans; simp
theorem sans_eq_zero {a b : Nat} (h : sans a b = 0) : ∀ i, bt a i = true → bt b i = true := by
  intro i ha
  have := bt_sans a b i
  rw [h, ha] at this
  have h0 : bt 0 i = false := by rw [bt_eq]; simp
  rw [h0] at this
  revert this
  cases bt b i <;> simp
theorem le_of_sans {a b : Nat} (h : sans a b = 0) : a ≤ b := by
  apply Nat.le_of_testBit
  intro i hi
  rw [← bt_eq] at hi ⊢
  exact sans_eq_zero h i hi
theorem bt_pow (i j : Nat) : bt (2 ^ i) j = decide (i = j) := by
  rw [bt_eq, Nat.testBit_two_pow]
theorem bt_lt {m s i : Nat} (hs : s < 2 ^ m) (hi : m ≤ i) : bt s i = false := by
  rw [bt_eq]; exact Nat.testBit_lt_two_pow (Nat.lt_of_lt_of_le hs (Nat.pow_le_pow_right (by omega) hi))
theorem wrap_small (n : Nat) (h : n < 9223372036854775808) : IntKind.i64.wrap (n : Int) = (n : Int) := by
  have e : (n : Int) % 2 ^ 64 = n := Int.emod_eq_of_lt (by omega) (by omega)
  simp only [IntKind.wrap, IntKind.bits, IntKind.signed, e]
  rw [if_neg]
  simp
  omega
theorem i64_and (a b : Nat) (ha : a < 9223372036854775808) (hb : b < 9223372036854775808) : bits .and .i64 (a : Int) (b : Int) = ((a &&& b : Nat) : Int) := by
  show IntKind.i64.wrap ((BitVec.ofInt 64 (a : Int) &&& BitVec.ofInt 64 (b : Int)).toNat : Int) = _
  rw [BitVec.toNat_and, ofInt_u64 a (by omega), ofInt_u64 b (by omega)]
  exact wrap_small _ (Nat.lt_of_le_of_lt Nat.and_le_left ha)
theorem i64_or (a b : Nat) (ha : a < 4611686018427387904) (hb : b < 4611686018427387904) : bits .or .i64 (a : Int) (b : Int) = ((a ||| b : Nat) : Int) := by
  show IntKind.i64.wrap ((BitVec.ofInt 64 (a : Int) ||| BitVec.ofInt 64 (b : Int)).toNat : Int) = _
  rw [BitVec.toNat_or, ofInt_u64 a (by omega), ofInt_u64 b (by omega)]
  have : a ||| b < 2 ^ 62 := Nat.or_lt_two_pow (by omega) (by omega)
  exact wrap_small _ (by omega)
theorem i64_andNot (a b : Nat) (ha : a < 9223372036854775808) (hb : b < 9223372036854775808) : bits .andNot .i64 (a : Int) (b : Int) = ((sans a b : Nat) : Int) := by
  show IntKind.i64.wrap ((BitVec.ofInt 64 (a : Int) &&& ~~~BitVec.ofInt 64 (b : Int)).toNat : Int) = _
  rw [BitVec.toNat_and, BitVec.toNat_not, ofInt_u64 a (by omega), ofInt_u64 b (by omega)]
  have e : a &&& (2 ^ 64 - 1 - b) = sans a b := by
    apply Nat.eq_of_testBit_eq
    intro i
    rw [show 2 ^ 64 - 1 - b = 2 ^ 64 - (b + 1) from by omega]
    unfold sans
    rw [Nat.testBit_and, Nat.testBit_two_pow_sub_succ (by omega), Nat.testBit_xor, Nat.testBit_and]
    by_cases hi : i < 64
    · simp only [hi, decide_true, Bool.true_and]
      cases a.testBit i <;> cases b.testBit i <;> rfl
    · have : a.testBit i = false := Nat.testBit_lt_two_pow (Nat.lt_of_lt_of_le (m := 2 ^ 64) (by omega) (Nat.pow_le_pow_right (by omega) (by omega)))
      simp [this]
  rw [e]
  exact wrap_small _ (Nat.lt_of_le_of_lt (sans_le a b) ha)
theorem cast_shr (s i : Nat) : (s : Int) / 2 ^ i = ((s / 2 ^ i : Nat) : Int) := by
  rw [Int.natCast_ediv]; simp
theorem wrap_pow (m : Nat) (h : m ≤ 61) : IntKind.i64.wrap (2 ^ m) = ((2 ^ m : Nat) : Int) := by
  have : 2 ^ m ≤ 2 ^ 61 := Nat.pow_le_pow_right (by omega) h
  have e : ((2 : Int) ^ m) = ((2 ^ m : Nat) : Int) := by simp
  rw [e]; exact wrap_small _ (by omega)
theorem pow_le64 {m : Nat} (h : m ≤ 6) : 2 ^ m ≤ 64 := Nat.pow_le_pow_right (n := 2) (by omega) h
theorem pow_pos2 (m : Nat) : 0 < 2 ^ m := Nat.pow_pos (by omega)

/-- may a bidder offer this for m items? -/
def offerAt (m : Nat) (l : List Int) (s : Nat) : Bool :=
  decide (0 ≤ l.getD s 0) && decide (l.getD s 0 ≤ 1000000) && (List.range m).all fun i => !(bt s i && decide (l.getD s 0 < l.getD (sans s (2 ^ i)) 0))
def offerB (m : Nat) (l : List Int) : Bool := l.length == 2 ^ m && l.getD 0 0 == 0 && (List.range l.length).all (offerAt m l)
theorem offerB_len {m : Nat} {l : List Int} (h : offerB m l = true) : l.length = 2 ^ m := by
  unfold offerB at h; simp at h; exact h.1.1
theorem offerB_zero {m : Nat} {l : List Int} (h : offerB m l = true) : l.getD 0 0 = 0 := by
  unfold offerB at h; simp only [Bool.and_eq_true, beq_iff_eq] at h; exact h.1.2
theorem offerB_at {m : Nat} {l : List Int} (h : offerB m l = true) (s : Nat) : 0 ≤ l.getD s 0 ∧ l.getD s 0 ≤ 1000000 := by
  unfold offerB at h; simp only [Bool.and_eq_true, List.all_eq_true, List.mem_range] at h
  by_cases hs : s < l.length
  · have := h.2 s hs
    unfold offerAt at this; simp only [Bool.and_eq_true, decide_eq_true_eq] at this
    exact this.1
  · rw [List.getD_eq_getElem?_getD, List.getElem?_eq_none (by omega)]; simp

/-- the best worth of a set with this bidder (and those after it, whose best worths are t), looking at the bundles below s -/
def bestTo (b t : List Int) (on : Bool) (set : Nat) : Nat → Int
  | 0 => 0
  | s + 1 => if sans s set = 0 ∧ (s = 0 ∨ on = true) then max (bestTo b t on set s) (b.getD s 0 + t.getD (sans set s) 0) else bestTo b t on set s
def rowT (m : Nat) (b t : List Int) (on : Bool) : List Int := (List.range (2 ^ m)).map fun set => bestTo b t on set (set + 1)
def tabs (m who : Nat) : Nat → List (List Int) → List (List Int)
  | _, [] => [List.replicate (2 ^ m) 0]
  | k, b :: bs => rowT m b ((tabs m who (k + 1) bs).headD []) (bt who k) :: tabs m who (k + 1) bs
/-- the best worths of each set of items with the bidders from k on -/
def tk (m : Nat) (bids : List (List Int)) (who k : Nat) : List Int := (tabs m who k (bids.drop k)).headD []
theorem tk_end (m : Nat) (bids : List (List Int)) (who : Nat) : tk m bids who bids.length = List.replicate (2 ^ m) 0 := by
  unfold tk; rw [List.drop_length]; rfl
theorem tk_step (m : Nat) (bids : List (List Int)) (who k : Nat) (hk : k < bids.length) : tk m bids who k = rowT m (bids.getD k []) (tk m bids who (k + 1)) (bt who k) := by
  unfold tk
  rw [List.drop_eq_getElem_cons hk]
  simp only [tabs, List.headD_cons]
  rw [List.getD_eq_getElem?_getD, List.getElem?_eq_getElem hk]; rfl
def tablesP (m : Nat) (bids : List (List Int)) (who : Nat) : List (List Int) := (List.range (bids.length + 1)).map (tk m bids who)
theorem tablesP_len (m : Nat) (bids : List (List Int)) (who : Nat) : (tablesP m bids who).length = bids.length + 1 := by simp [tablesP]
theorem tablesP_get (m : Nat) (bids : List (List Int)) (who k : Nat) (hk : k ≤ bids.length) : (tablesP m bids who).getD k [] = tk m bids who k := by
  have : k < bids.length + 1 := by omega
  simp [tablesP, this]
def worthP (m : Nat) (bids : List (List Int)) (who : Nat) : Int := (tk m bids who 0).getD (2 ^ m - 1) 0
theorem rowT_len (m : Nat) (b t : List Int) (on : Bool) : (rowT m b t on).length = 2 ^ m := by simp [rowT]
theorem rowT_get (m : Nat) (b t : List Int) (on : Bool) (s : Nat) (hs : s < 2 ^ m) : (rowT m b t on).getD s 0 = bestTo b t on s (s + 1) := by simp [rowT, hs]
theorem rowT_out (m : Nat) (b t : List Int) (on : Bool) (s : Nat) (hs : ¬ s < 2 ^ m) : (rowT m b t on).getD s 0 = 0 := by
  rw [List.getD_eq_getElem?_getD, List.getElem?_eq_none (by rw [rowT_len]; omega)]; rfl
theorem tk_len (m : Nat) (bids : List (List Int)) (who k : Nat) (hk : k ≤ bids.length) : (tk m bids who k).length = 2 ^ m := by
  by_cases h : k = bids.length
  · subst h; rw [tk_end]; simp
  · rw [tk_step _ _ _ _ (by omega), rowT_len]
theorem bestTo_lo (b t : List Int) (on : Bool) (set s : Nat) : 0 ≤ bestTo b t on set s := by
  induction s with
  | zero => exact Int.le_refl 0
  | succ s ih => simp only [bestTo]; split <;> omega
theorem bestTo_hi {b t : List Int} {on : Bool} {B C : Int} (hB : ∀ s, b.getD s 0 ≤ B) (hC : ∀ s, t.getD s 0 ≤ C) (h0 : 0 ≤ B + C) (set s : Nat) : bestTo b t on set s ≤ B + C := by
  induction s with
  | zero => exact h0
  | succ s ih =>
    simp only [bestTo]
    split
    · have := hB s; have := hC (sans set s); omega
    · exact ih
/-- all bids are offers -/
def Offers (m : Nat) (bids : List (List Int)) : Prop := ∀ b, b ∈ bids → offerB m b = true
theorem Offers.at_ {m : Nat} {bids : List (List Int)} (h : Offers m bids) {k : Nat} (hk : k < bids.length) : offerB m (bids.getD k []) = true := by
  rw [List.getD_eq_getElem?_getD, List.getElem?_eq_getElem hk]; exact h _ (List.getElem_mem hk)
theorem tk_bounds {m : Nat} {bids : List (List Int)} (h : Offers m bids) (who : Nat) : ∀ j k, k + j = bids.length → ∀ s, 0 ≤ (tk m bids who k).getD s 0 ∧ (tk m bids who k).getD s 0 ≤ 1000000 * (j : Int) := by
  intro j
  induction j with
  | zero =>
    intro k hk s
    have : k = bids.length := by omega
    subst this
    rw [tk_end]
    by_cases hs : s < 2 ^ m <;> simp [hs]
  | succ j ih =>
    intro k hk s
    rw [tk_step _ _ _ _ (by omega)]
    have ho := h.at_ (k := k) (by omega)
    have hi := ih (k + 1) (by omega)
    by_cases hs : s < 2 ^ m
    · rw [rowT_get _ _ _ _ _ hs]
      refine ⟨bestTo_lo _ _ _ _ _, ?_⟩
      have := bestTo_hi (on := bt who k) (B := 1000000) (C := 1000000 * (j : Int)) (fun s => (offerB_at ho s).2) (fun s => (hi s).2) (by omega) s (s + 1)
      omega
    · rw [rowT_out _ _ _ _ _ hs]; omega
/-- a bundle with which the best worth is reached -/
theorem bestTo_got {b t : List Int} {set : Nat} (h0 : b.getD 0 0 = 0) (ht : ∀ s, 0 ≤ t.getD s 0) : ∀ s, 0 < s → ∃ u, u < s ∧ sans u set = 0 ∧ b.getD u 0 + t.getD (sans set u) 0 = bestTo b t true set s := by
  intro s
  induction s with
  | zero => intro h; omega
  | succ s ih =>
    intro _
    by_cases hs : s = 0
    · subst hs
      refine ⟨0, by omega, zero_sans _, ?_⟩
      have := ht (sans set 0)
      simp only [bestTo, zero_sans, true_or, and_self, if_true]
      omega
    · simp only [bestTo]
      obtain ⟨u, hu, hu1, hu2⟩ := ih (by omega)
      by_cases hc : sans s set = 0 ∧ (s = 0 ∨ True)
      · rw [if_pos hc]
        by_cases hm : bestTo b t true set s ≤ b.getD s 0 + t.getD (sans set s) 0
        · exact ⟨s, by omega, hc.1, by omega⟩
        · exact ⟨u, by omega, hu1, by omega⟩
      · rw [if_neg hc]; exact ⟨u, by omega, hu1, hu2⟩
/-- does the bundle s of the set 'left' reach v? -/
def hits (b t : List Int) (v : Int) (left s : Nat) : Bool := sans s left == 0 && b.getD s 0 + t.getD (sans left s) 0 == v
def firstSub (b t : List Int) (v : Int) (left : Nat) : Nat := ((List.range (left + 1)).find? (hits b t v left)).getD 0
theorem firstSub_eq {b t : List Int} {v : Int} {left s : Nat} (hs : hits b t v left s = true) (hb : ∀ u, u < s → hits b t v left u = false) : firstSub b t v left = s := by
  have hl : s ≤ left := by unfold hits at hs; simp at hs; exact le_of_sans hs.1
  unfold firstSub
  have : (List.range (left + 1)).find? (hits b t v left) = some s := by
    rw [List.find?_range_eq_some]
    exact ⟨hs, by simp; omega, fun j hj => by simp [hb j hj]⟩
  rw [this]; rfl
end Go.Proofs.YthbfgmgpploneaaDoor
