/- The program's small functions: areFrom0, areSoMany, sum, has, allItems, and slices.Max, slices.Index, Second. -/
/- The program's Second. -/
/- The program's single and Single. -/
import Derived.Test.YthbfgmgpploneaaDoorL2
import Derived.Test.YthbfgmgpploneaaDoorR1
import Derived.Test.YthbfgmgpploneaaDoorL5
set_option linter.unusedVariables false
set_option linter.unusedSimpArgs false
set_option linter.unnecessarySimpa false
namespace Go.Proofs.YthbfgmgpploneaaDoor
open Go.RowKit

def from0 (M : Int) (l : List Int) : Bool := l.all fun x => decide (0 ≤ x) && decide (x ≤ M)
theorem from0_iff {M : Int} {l : List Int} : from0 M l = true ↔ ∀ i, i < l.length → 0 ≤ l.getD i 0 ∧ l.getD i 0 ≤ M := by
  unfold from0
  simp only [List.all_eq_true, Bool.and_eq_true, decide_eq_true_eq]
  constructor
  · intro h i hi
    refine h _ ?_
    rw [List.getD_eq_getElem?_getD, List.getElem?_eq_getElem hi]; exact List.getElem_mem hi
  · intro h x hx
    obtain ⟨i, hi, rfl⟩ := List.mem_iff_getElem.1 hx
    have := h i hi
    rw [List.getD_eq_getElem?_getD, List.getElem?_eq_getElem hi] at this; exact this
theorem from0_no {M : Int} {l : List Int} {i : Nat} (hi : i < l.length) (h : l.getD i 0 < 0 ∨ M < l.getD i 0) : from0 M l = false := by
  cases hb : from0 M l with
  | false => rfl
  | true => have := from0_iff.1 hb i hi; omega
set_option maxHeartbeats 1000000 in
theorem areFrom0_any (v : Value) (l : List Int) (M : Int) (w : World) (hl : Sl w v (ints l)) (hm : l.length ≤ 1000) :
    Calls Tryd.prog 55 #[v, .int .i64 M] w fun e w' => e = .returned (.bool (from0 M l)) ∧ w = w' := by
  obtain ⟨p, cap, rfl, hlc, hcm⟩ := hl.form
  have HL := Lib.hid hl
  clear hl
  have hl0 : (0 : Int) ≤ (l.length : Int) := by omega
  go_enter Tryd.func55, Tryd.ntmps55
  go_wp2
  go_loop [9] (fun i => ∃ k : Nat, k ≤ l.length ∧ i = .int .i64 k ∧ ∀ j, j < k → 0 ≤ l.getD j 0 ∧ l.getD j 0 ≤ M) (fun i => l.length - (intOf i).toNat)
  case atStart => exact ⟨0, Nat.zero_le _, rfl, fun j hj => by omega⟩
  case round =>
    obtain ⟨k, hk, rfl, hall⟩ := hrel
    have HALL := Lib.hid hall
    clear hall
    by_cases hlt : k < l.length
    · obtain ⟨b, off, cap', hv, _, _, _, hc1⟩ := HL.out.int_at k hlt
      cases hv
      have HNO := Lib.hid (@from0_no M l k hlt)
      obtain ⟨x, hx⟩ : ∃ x, l.getD k 0 = x := ⟨_, rfl⟩
      rw [hx] at hc1 HNO
      have HX := Lib.hid hx
      clear hx
      by_cases h0 : x < 0
      · have HF := Lib.hid (HNO.out (Or.inl h0))
        clear HNO
        go_wp2
        go_ret
        exact ⟨by rw [HF.out]; rfl, rfl⟩
      · by_cases h1 : M < x
        · have HF := Lib.hid (HNO.out (Or.inr h1))
          clear HNO
          go_wp2
          go_ret
          exact ⟨by rw [HF.out]; rfl, rfl⟩
        · clear HNO
          go_wp2
          go_round
          case rel => exact ⟨k + 1, by omega, by go_num, fun j hj => by
            rcases Nat.lt_or_ge j k with h | h
            · exact HALL.out j h
            · have : j = k := by omega
              subst this; rw [HX.out]; omega⟩
          case measure => simp [intOf]; omega
    · obtain rfl : k = l.length := by omega
      have HT : Hid (from0 M l = true) := from0_iff.2 HALL.out
      go_wp2
      go_ret
      exact ⟨by rw [HT.out]; rfl, rfl⟩
set_option maxHeartbeats 400000 in
theorem areSoMany_form (p : Option Addr) (n cap : Nat) (w : World) :
    Calls Tryd.prog 62 #[.slice p n cap] w fun e w' => e = .returned (.bool (decide (1 ≤ n) && decide (n ≤ 6))) ∧ w = w' := by
  by_cases h1 : n < 1
  · have e1 : (decide (1 ≤ n) && decide (n ≤ 6)) = false := by simp; omega
    rw [e1]
    obtain rfl : n = 0 := by omega
    go_enter Tryd.func62, Tryd.ntmps62
    go_wp2
    go_ret
    exact ⟨rfl, rfl⟩
  · by_cases h2 : 6 < n
    · have e1 : (decide (1 ≤ n) && decide (n ≤ 6)) = false := by simp; omega
      rw [e1]
      have h3 : decide ((1 : Int) ≤ (n : Int)) = true := by rw [decide_eq_true_eq]; omega
      have h4 : decide ((n : Int) ≤ 6) = false := by rw [decide_eq_false_iff_not]; omega
      go_enter Tryd.func62, Tryd.ntmps62
      go_wp2
      go_ret
      exact ⟨rfl, rfl⟩
    · have e1 : (decide (1 ≤ n) && decide (n ≤ 6)) = true := by simp; omega
      rw [e1]
      have h3 : decide ((1 : Int) ≤ (n : Int)) = true := by rw [decide_eq_true_eq]; omega
      have h4 : decide ((n : Int) ≤ 6) = true := by rw [decide_eq_true_eq]; omega
      go_enter Tryd.func62, Tryd.ntmps62
      go_wp2
      go_ret
      exact ⟨rfl, rfl⟩
/-- the sum of the numbers before k -/
def addTo (l : List Int) : Nat → Int
  | 0 => 0
  | k + 1 => addTo l k + l.getD k 0
theorem addTo_bd {l : List Int} {B : Int} (h : ∀ i, -B ≤ l.getD i 0 ∧ l.getD i 0 ≤ B) (k : Nat) : -(B * k) ≤ addTo l k ∧ addTo l k ≤ B * k := by
  induction k with
  | zero => simp [addTo]
  | succ k ih =>
    have := h k
    simp only [addTo]
    have e : B * ((k + 1 : Nat) : Int) = B * k + B := by rw [Int.natCast_succ, Int.mul_add, Int.mul_one]
    rw [e]; omega
set_option maxHeartbeats 1000000 in
theorem sum_go (v : Value) (l : List Int) (w : World) (hl : Sl w v (ints l)) (hm : l.length ≤ 1000) (hb : ∀ i, -1000000000000 ≤ l.getD i 0 ∧ l.getD i 0 ≤ 1000000000000) :
    Calls Tryd.prog 48 #[v] w fun e w' => e = .returned (.int .i64 (addTo l l.length)) ∧ w = w' := by
  obtain ⟨p, cap, rfl, hlc, hcm⟩ := hl.form
  have HL := Lib.hid hl
  have HBD := Lib.hid (addTo_bd hb)
  have HB := Lib.hid hb
  clear hl hb
  have hl0 : (0 : Int) ≤ (l.length : Int) := by omega
  go_enter Tryd.func48, Tryd.ntmps48
  go_wp2
  go_loop [3, 8] (fun s i => ∃ k : Nat, k ≤ l.length ∧ i = .int .i64 k ∧ s = .int .i64 (addTo l k)) (fun _ i => l.length - (intOf i).toNat)
  case atStart => exact ⟨0, Nat.zero_le _, rfl, rfl⟩
  case round =>
    obtain ⟨k, hk, rfl, rfl⟩ := hrel
    by_cases hlt : k < l.length
    · obtain ⟨b, off, cap', hv, _, _, _, hc1⟩ := HL.out.int_at k hlt
      cases hv
      have HS : Hid (addTo l (k + 1) = addTo l k + l.getD k 0) := rfl
      have h1 := HBD.out k
      have h2 := HB.out k
      obtain ⟨x, hx⟩ : ∃ x, l.getD k 0 = x := ⟨_, rfl⟩
      obtain ⟨y, hy⟩ : ∃ y, addTo l k = y := ⟨_, rfl⟩
      rw [hx] at hc1 HS h2
      rw [hy] at HS h1 ⊢
      have hw1 : IntKind.i64.wrap (y + x) = y + x := IntWalk.i64_in _ (by omega)
      clear hx hy h1 h2
      go_wp2
      go_round
      case rel => exact ⟨k + 1, by omega, by go_num, by rw [HS.out]⟩
      case measure => simp [intOf]; omega
    · obtain rfl : k = l.length := by omega
      go_wp2
      go_ret
      exact ⟨rfl, rfl⟩
set_option maxHeartbeats 400000 in
theorem has_any (b i : Nat) (w : World) (hb : b < 1000) (hi : i < 60) :
    Calls Tryd.prog 78 #[.int .i64 b, .int .i64 i] w fun e w' => e = .returned (.bool (bt b i)) ∧ w = w' := by
  have hd : b / 2 ^ i ≤ b := Nat.div_le_self _ _
  have h1 : bits .and .i64 ((b / 2 ^ i : Nat) : Int) 1 = ((b / 2 ^ i % 2 : Nat) : Int) := by rw [← Nat.and_one_is_mod]; exact i64_and (b / 2 ^ i) 1 (by omega) (by omega)
  have hs := cast_shr b i
  have hbt : bt b i = (b / 2 ^ i % 2 == 1) := rfl
  rw [hbt]
  obtain ⟨q, hq⟩ : ∃ q, b / 2 ^ i = q := ⟨_, rfl⟩
  rw [hq] at h1 hd hs ⊢
  have hr : q % 2 < 2 := Nat.mod_lt _ (by omega)
  obtain ⟨r, hrr⟩ : ∃ r, q % 2 = r := ⟨_, rfl⟩
  rw [hrr] at h1 hr ⊢
  have e2 : ((r : Int) == 1) = (r == 1) := by rw [Bool.eq_iff_iff, beq_iff_eq, beq_iff_eq]; omega
  have hw : IntKind.i64.wrap (q : Int) = (q : Int) := wrap_small q (by omega)
  clear hq hrr
  go_enter Tryd.func78, Tryd.ntmps78
  go_wp2
  go_ret
  exact ⟨by rw [← e2, ← h1]; rfl, rfl⟩
set_option maxHeartbeats 400000 in
theorem allItems_any (m : Nat) (w : World) (hm : m ≤ 6) :
    Calls Tryd.prog 66 #[.int .i64 m] w fun e w' => e = .returned (.int .i64 ((2 ^ m - 1 : Nat) : Int)) ∧ w = w' := by
  have hM := wrap_pow m (by omega)
  have hM64 := pow_le64 hm
  have hM0 := pow_pos2 m
  obtain ⟨M, hMM⟩ : ∃ M, 2 ^ m = M := ⟨_, rfl⟩
  rw [hMM] at hM hM64 hM0 ⊢
  have e0 : (((M - 1 : Nat)) : Int) = (M : Int) - 1 := by omega
  rw [e0]
  have hM1 : IntKind.i64.wrap ((M : Int) - 1) = (M : Int) - 1 := IntWalk.i64_in _ (by omega)
  clear e0 hMM
  go_enter Tryd.func66, Tryd.ntmps66
  go_wp2
  go_ret
  exact ⟨rfl, rfl⟩
/-- what the first index of the greatest says -/
theorem topTo_max (l : List Int) (k : Nat) : ∀ j, j < k → l.getD j 0 ≤ l.getD (topTo l k) 0 := by
  induction k with
  | zero => intro j hj; omega
  | succ k ih =>
    intro j hj
    by_cases h : l.getD (topTo l k) 0 < l.getD k 0
    · rw [topTo_yes l k h]
      rcases Nat.lt_or_ge j k with g | g
      · have := ih j g; omega
      · have : j = k := by omega
        subst this; exact Int.le_refl _
    · rw [topTo_no l k h]
      rcases Nat.lt_or_ge j k with g | g
      · exact ih j g
      · have : j = k := by omega
        subst this; omega
theorem topTo_first (l : List Int) (k : Nat) : ∀ j, j < topTo l k → l.getD j 0 < l.getD (topTo l k) 0 := by
  induction k with
  | zero => intro j hj; simp [topTo] at hj
  | succ k ih =>
    intro j hj
    by_cases h : l.getD (topTo l k) 0 < l.getD k 0
    · rw [topTo_yes l k h] at hj ⊢
      have := topTo_max l k j hj
      omega
    · rw [topTo_no l k h] at hj ⊢
      exact ih j hj
set_option maxHeartbeats 1000000 in
theorem max_go (v : Value) (l : List Int) (w : World) (hl : Sl w v (ints l)) (h0 : 0 < l.length) (hm : l.length ≤ 1000) :
    Calls Tryd.prog 65 #[v] w fun e w' => e = .returned (.int .i64 (l.getD (topTo l l.length) 0)) ∧ w = w' := by
  obtain ⟨p, cap, rfl, hlc, hcm⟩ := hl.form
  have HL := Lib.hid hl
  clear hl
  obtain ⟨b0, off0, cap0, hv, _, _, _, hc0⟩ := HL.out.int_at 0 h0
  cases hv
  have HT1 : Hid (l.getD 0 0 = l.getD (topTo l 1) 0) := by
    show _ = _
    rw [topTo_no l 0 (by simp [topTo])]; rfl
  obtain ⟨x0, hx0⟩ : ∃ x, l.getD 0 0 = x := ⟨_, rfl⟩
  rw [hx0] at hc0 HT1
  clear hx0
  rw [Nat.add_zero] at hc0
  have hl1 : (1 : Int) ≤ (l.length : Int) := by omega
  go_enter Tryd.func65, Tryd.ntmps65
  go_wp2
  go_loop [3, 4] (fun m i => ∃ k : Nat, 1 ≤ k ∧ k ≤ l.length ∧ i = .int .i64 k ∧ m = .int .i64 (l.getD (topTo l k) 0)) (fun _ i => l.length - (intOf i).toNat)
  case atStart => exact ⟨1, Nat.le_refl _, h0, rfl, by rw [HT1.out]⟩
  case round =>
    obtain ⟨k, hk1, hk, rfl, rfl⟩ := hrel
    by_cases hlt : k < l.length
    · obtain ⟨b, off, cap', hv, _, _, _, hc1⟩ := HL.out.int_at k hlt
      cases hv
      have HS : Hid (l.getD (topTo l (k + 1)) 0 = max (l.getD (topTo l k) 0) (l.getD k 0)) := by
        show _ = _
        by_cases h : l.getD (topTo l k) 0 < l.getD k 0
        · rw [topTo_yes l k h]; omega
        · rw [topTo_no l k h]; omega
      obtain ⟨x, hx⟩ : ∃ x, l.getD k 0 = x := ⟨_, rfl⟩
      obtain ⟨y, hy⟩ : ∃ y, l.getD (topTo l k) 0 = y := ⟨_, rfl⟩
      rw [hx] at hc1 HS
      rw [hy] at HS ⊢
      clear hx hy
      go_wp2
      go_round
      case rel => exact ⟨k + 1, by omega, by omega, by go_num, by rw [HS.out, goMax]⟩
      case measure => simp [intOf]; omega
    · obtain rfl : k = l.length := by omega
      go_wp2
      go_ret
      exact ⟨rfl, rfl⟩
set_option maxHeartbeats 1000000 in
theorem index_go (v : Value) (l : List Int) (w : World) (hl : Sl w v (ints l)) (h0 : 0 < l.length) (hm : l.length ≤ 1000) :
    Calls Tryd.prog 64 #[v, .int .i64 (l.getD (topTo l l.length) 0)] w fun e w' => e = .returned (.int .i64 (topTo l l.length)) ∧ w = w' := by
  obtain ⟨p, cap, rfl, hlc, hcm⟩ := hl.form
  have HL := Lib.hid hl
  clear hl
  have HF := Lib.hid (topTo_first l l.length)
  have htl := topTo_lt l l.length h0
  obtain ⟨t, ht⟩ : ∃ t, topTo l l.length = t := ⟨_, rfl⟩
  rw [ht] at HF htl ⊢
  clear ht
  obtain ⟨y, hy⟩ : ∃ y, l.getD t 0 = y := ⟨_, rfl⟩
  rw [hy] at HF ⊢
  have HY := Lib.hid hy
  clear hy
  go_enter Tryd.func64, Tryd.ntmps64
  go_wp2
  go_loop [8] (fun i => ∃ k : Nat, k ≤ t ∧ i = .int .i64 k) (fun i => l.length - (intOf i).toNat)
  case atStart => exact ⟨0, Nat.zero_le _, rfl⟩
  case round =>
    obtain ⟨k, hk, rfl⟩ := hrel
    have hlt : k < l.length := by omega
    obtain ⟨b, off, cap', hv, _, _, _, hc1⟩ := HL.out.int_at k hlt
    cases hv
    by_cases hkt : k < t
    · have hne : (y == l.getD k 0) = false := by rw [beq_eq_false_iff_ne]; have := HF.out k hkt; omega
      obtain ⟨x, hx⟩ : ∃ x, l.getD k 0 = x := ⟨_, rfl⟩
      rw [hx] at hc1 hne
      clear hx
      go_wp2
      go_round
      case rel => exact ⟨k + 1, by omega, by go_num⟩
      case measure => simp [intOf]; omega
    · obtain rfl : k = t := by omega
      rw [HY.out] at hc1
      have heq : (y == y) = true := by simp
      go_wp2
      go_ret
      exact ⟨rfl, rfl⟩

theorem from0_bad {l : List Int} : from0 1000000000000 l = !(l.any badAt) := by
  unfold from0
  rw [List.not_any_eq_all_not]
  congr 1
  funext x
  unfold badAt
  rw [Bool.eq_iff_iff]
  simp only [Bool.and_eq_true, decide_eq_true_eq, Bool.not_eq_true', Bool.or_eq_false_iff, decide_eq_false_iff_not]
  omega
theorem secondR_bad {l : List Int} (h : secondE l = 1) : secondR l = (0, 0) := by unfold secondR; rw [h]; rfl
theorem secondR_ok {l : List Int} (h : secondE l = 0) : secondR l = ((topTo l l.length : Int), nextTo l (topTo l l.length) l.length) := by unfold secondR; rw [h]; rfl
set_option maxRecDepth 100000 in
set_option maxHeartbeats 2000000 in
theorem second_spec : SpecSecond := by
  intro v l w hl hi hm
  obtain ⟨p, cap, rfl, hlc, hcm⟩ := hl.form
  have HL := Lib.hid hl
  have HFR := Lib.hid (areFrom0_any _ l 1000000000000 w hl (by omega))
  have hl0 : (0 : Int) ≤ (l.length : Int) := by omega
  by_cases h1 : l.length < 1
  · have e1 := secondE_bad (l := l) (Or.inl h1)
    rw [secondR_bad e1, e1]
    have hd : decide ((l.length : Int) < 1) = true := by rw [decide_eq_true_eq]; omega
    clear hl hi e1 h1
    go_enter Tryd.func42, Tryd.ntmps42
    go_wp2
    go_ret3
    exact ⟨rfl, Below.refl _ _⟩
  · have hd : decide ((l.length : Int) < 1) = false := by rw [decide_eq_false_iff_not]; omega
    have hd' : (1 : Int) ≤ (l.length : Int) := by omega
    by_cases h2 : 100 < l.length
    · have e1 := secondE_bad (l := l) (Or.inr (Or.inl h2))
      rw [secondR_bad e1, e1]
      have hd2 : (100 : Int) < (l.length : Int) := by omega
      clear hl hi e1
      go_enter Tryd.func42, Tryd.ntmps42
      go_wp2
      go_ret3
      exact ⟨rfl, Below.refl _ _⟩
    · have hd2 : ¬ ((100 : Int) < (l.length : Int)) := by omega
      have hd3 : decide ((100 : Int) < (l.length : Int)) = false := by rw [decide_eq_false_iff_not]; omega
      cases h3 : from0 1000000000000 l with
      | false =>
        have e1 := secondE_bad (l := l) (Or.inr (Or.inr (by rw [from0_bad] at h3; simpa using h3)))
        rw [secondR_bad e1, e1]
        rw [h3] at HFR
        clear hl hi e1 h3
        go_enter Tryd.func42, Tryd.ntmps42
        go_wp2_with (first | (go_at_call 55; refine HFR.out.mono ?_; rintro e w1 ⟨rfl, rfl⟩))
        go_ret3
        exact ⟨rfl, Below.refl _ _⟩
      | true =>
        have e1 : secondE l = 0 := secondE_ok (by
          rintro (h | h | h)
          · exact h1 h
          · exact h2 h
          · rw [from0_bad, h] at h3; cases h3)
        rw [secondR_ok e1, e1]
        rw [h3] at HFR
        have HMX := Lib.hid (max_go _ l w hl (by omega) (by omega))
        have HIX := Lib.hid (index_go _ l w hl (by omega) (by omega))
        obtain ⟨t, ht⟩ : ∃ t, topTo l l.length = t := ⟨_, rfl⟩
        rw [ht] at HMX HIX ⊢
        obtain ⟨y, hy⟩ : ∃ y, l.getD t 0 = y := ⟨_, rfl⟩
        rw [hy] at HMX HIX
        clear hl hi e1 h3 ht hy
        go_enter Tryd.func42, Tryd.ntmps42
        go_wp2_with (first
          | (go_at_call 55; refine HFR.out.mono ?_; rintro e w1 ⟨rfl, rfl⟩)
          | (go_at_call 65; refine HMX.out.mono ?_; rintro e w1 ⟨rfl, rfl⟩)
          | (go_at_call 64; refine HIX.out.mono ?_; rintro e w1 ⟨rfl, rfl⟩))
        go_loop [6, 28] (fun n i => ∃ k : Nat, k ≤ l.length ∧ n = .int .i64 (nextTo l t k) ∧ i = .int .i64 k) (fun _ i => l.length - (intOf i).toNat)
        case atStart => exact ⟨0, Nat.zero_le _, rfl, rfl⟩
        case round =>
          obtain ⟨k, hk, rfl, rfl⟩ := hrel
          by_cases hlt : k < l.length
          · obtain ⟨b, off, cap', hv, _, _, _, hc1⟩ := HL.out.int_at k hlt
            cases hv
            have HE : Hid (nextTo l t (k + 1) = if k = t then nextTo l t k else max (nextTo l t k) (l.getD k 0)) := rfl
            obtain ⟨x, hx⟩ : ∃ x, l.getD k 0 = x := ⟨_, rfl⟩
            obtain ⟨y, hy⟩ : ∃ y, nextTo l t k = y := ⟨_, rfl⟩
            rw [hx] at hc1 HE
            rw [hy] at HE ⊢
            clear hx hy
            by_cases hkt : k = t
            · subst hkt
              go_wp2
              go_round
              case rel => exact ⟨k + 1, by omega, by rw [HE.out, if_pos rfl], by go_num⟩
              case measure => simp [intOf]; omega
            · have H := Lib.hid hkt
              have hb : ((k : Int) != (t : Int)) = true := by rw [bne_iff_ne]; omega
              clear hkt
              go_wp2
              go_round
              case rel => exact ⟨k + 1, by omega, by rw [HE.out, if_neg H.out, goMax], by go_num⟩
              case measure => simp [intOf]; omega
          · obtain rfl : k = l.length := by omega
            go_wp2
            go_ret3
            exact ⟨rfl, Below.refl _ _⟩

set_option maxRecDepth 100000 in
set_option maxHeartbeats 4000000 in
theorem single_go (v : Value) (o : List Int) (w : World) (hl : Sl w v (ints o)) (hm : o.length ≤ 6) :
    Calls Tryd.prog 63 #[v] w fun e w' => ∃ v', e = .returned v' ∧ Own 2 w.heap.size w' v' (ints (singleRow o.length o)) ∧ Below w.heap.size w w' := by
  obtain ⟨p, cap, rfl, hlc, hcm⟩ := hl.form
  have hM := wrap_pow o.length (by omega)
  have hM64 := pow_le64 hm
  have hM0 := pow_pos2 o.length
  obtain ⟨M, hMM⟩ : ∃ M, 2 ^ o.length = M := ⟨_, rfl⟩
  rw [hMM] at hM hM64 hM0
  have HMM := Lib.hid hMM
  have HL := Lib.hid hl
  clear hl hMM
  go_enter Tryd.func63, Tryd.ntmps63
  go_wp2_with (first | (at_make; refine wpList_make_row _ rfl _ _ 31 rfl 2 (.int .i64 0) 8 Tryd.underlying31 Tryd.info2 rfl .i64 .i64 _ _ M rfl rfl ?e1 ?e2 ?e3 ?e4 ?_))
  case e1 => rfl
  case e2 => rfl
  case e3 => omega
  case e4 => unfold maxLen; omega
  intro w3 hrow hbel
  have HROW : Hid (Row 2 w3 w.heap.size (ints (sAt o.length M o 0 0))) := by rw [sAt_zero, ← ints_replicate]; exact hrow
  have HBEL := Lib.hid hbel
  clear hrow hbel
  go_wp2
  go_loopw [13] (fun s wx => ∃ set : Nat, set ≤ M ∧ s = .int .i64 set ∧ Row 2 wx w.heap.size (ints (sAt o.length M o set 0)) ∧ Below w.heap.size w wx) (fun s _ => M - (intOf s).toNat)
  case atStart => exact ⟨0, Nat.zero_le _, rfl, HROW.out, HBEL.out⟩
  case round =>
    obtain ⟨set, hset, rfl, hrow, hbel⟩ := hrel
    clear HROW HBEL
    by_cases hsM : set < M
    · obtain ⟨wm, hwm⟩ : ∃ wm : World, wm = wr := ⟨_, rfl⟩
      subst hwm
      have HROW := Lib.hid hrow
      have HBEL := Lib.hid hbel
      clear hrow hbel
      go_wp2
      go_loopw [18] (fun s wx => ∃ k : Nat, k ≤ o.length ∧ s = .int .i64 k ∧ Row 2 wx w.heap.size (ints (sAt o.length M o set k)) ∧ Below w.heap.size w wx) (fun s _ => o.length - (intOf s).toNat)
      case atStart => exact ⟨0, Nat.zero_le _, rfl, HROW.out, HBEL.out⟩
      case round =>
        obtain ⟨k, hk, rfl, hrow, hbel⟩ := hrel
        clear HROW HBEL
        by_cases hkm : k < o.length
        · obtain ⟨b, off, cap', hv, _, _, _, hcx⟩ := (HL.out.below hbel).int_at k hkm
          cases hv
          have hcr := hrow.cell set
          rw [ints_get _ _ (by rw [sAt_len]; exact hsM), sAt_get _ _ _ _ _ hsM] at hcr
          have hfr := hrow.free set
          have HROW := Lib.hid hrow
          have HBEL := Lib.hid hbel
          have HSET := Lib.hid (sAt_set o.length M o set k)
          have HSAME := Lib.hid (sAt_same o.length M o set k)
          have HYES := Lib.hid (@singleTo_yes o set k)
          have HNO := Lib.hid (@singleTo_no o set k)
          have HHAS := Lib.hid (fun W => has_any set k W (by omega) (by omega))
          obtain ⟨x, hx⟩ : ∃ x, o.getD k 0 = x := ⟨_, rfl⟩
          obtain ⟨r, hr⟩ : ∃ r, singleTo o set k = r := ⟨_, rfl⟩
          rw [hx] at hcx HYES
          rw [hr] at hcr HYES HNO HSAME
          clear hrow hbel hx hr
          cases hbt : bt set k with
          | true =>
            rw [hbt] at HHAS
            have HNEW : Hid (Row 2 (wr.setCell ⟨w.heap.size, set, none⟩ (.int .i64 (if r < x then x else r))) w.heap.size (ints (sAt o.length M o set (k + 1)))) := by
              rw [← HSET.out _ (HYES.out hbt), goMax, ← ints_set]
              exact HROW.out.store set _
            have HBEL2 : Hid (∀ u, Below w.heap.size w (wr.setCell ⟨w.heap.size, set, none⟩ u)) := fun u => HBEL.out.setCell (Nat.le_refl _) u
            clear hbt HSET HSAME HYES HNO
            go_wp2_with (first | (go_at_call 78; refine (HHAS.out _).mono ?_; rintro e w1 ⟨rfl, rfl⟩))
            go_roundw
            case rel => exact ⟨k + 1, by omega, by go_num, HNEW.out, HBEL2.out _⟩
            case measure => simp [intOf]; omega
          | false =>
            rw [hbt] at HHAS
            have HS : Hid (Row 2 wr w.heap.size (ints (sAt o.length M o set (k + 1)))) := by
              rw [← HSAME.out (HNO.out hbt)]; exact HROW.out
            clear hbt HSET HSAME HYES HNO
            go_wp2_with (first | (go_at_call 78; refine (HHAS.out _).mono ?_; rintro e w1 ⟨rfl, rfl⟩))
            go_roundw
            case rel => exact ⟨k + 1, by omega, by go_num, HS.out, HBEL.out⟩
            case measure => simp [intOf]; omega
        · obtain rfl : k = o.length := by omega
          have HROW : Hid (Row 2 wr w.heap.size (ints (sAt o.length M o (set + 1) 0))) := by rw [← sAt_next]; exact hrow
          have HBEL := Lib.hid hbel
          clear hrow hbel
          go_wp2
          go_roundw
          case rel => exact ⟨set + 1, by omega, by go_num, HROW.out, HBEL.out⟩
          case measure => simp [intOf]; omega
    · obtain rfl : set = M := by omega
      have hfin : sAt o.length set o set 0 = singleRow o.length o := by rw [← HMM.out, sAt_end]
      rw [hfin] at hrow
      have hlr : (ints (singleRow o.length o)).length = set := by rw [ints_length, singleRow_len, HMM.out]
      have HRO : Hid (Own 2 w.heap.size wr (.slice (some ⟨w.heap.size, 0, none⟩) set set) (ints (singleRow o.length o))) := by
        have h2 := Own.of_row (T := 2) (base := w.heap.size) (cap := set) (xs := ints (singleRow o.length o)) (more := []) (by rw [List.append_nil]; exact hrow) (Nat.le_refl _) (by unfold maxLen; omega) (by rw [hlr]; simp)
        have e : Value.slice (some ⟨w.heap.size, 0, none⟩) (ints (singleRow o.length o)).length set = .slice (some ⟨w.heap.size, 0, none⟩) set set := by rw [hlr]
        rw [e] at h2; exact h2
      have HBX := Lib.hid hbel
      clear hfin hrow hbel hlr
      go_wp2
      go_ret
      exact ⟨_, rfl, HRO.out, HBX.out⟩

theorem goodRow_from0 {K : Nat} {r : List Int} : goodRow K r = (r.length == K && from0 1000000 r) := rfl
set_option maxRecDepth 100000 in
set_option maxHeartbeats 4000000 in
theorem single_spec : SpecSingle := by
  intro v m o w hl hm hf
  obtain ⟨p, cap, rfl, hlc, hcm⟩ := hl.form_
  unfold maxLen at hcm
  have hn7 := hf.1
  have HL := Lib.hid hl
  have HF := Lib.hid hf
  by_cases h1 : m < 1
  · have e1 := singleE_arg (m := m) (o := o) (Or.inl h1)
    rw [singleR_no (by rw [e1]; decide), e1]
    clear hl hf e1 hm
    have hd : decide (m < 1) = true := by rw [decide_eq_true_eq]; exact h1
    go_enter Tryd.func40, Tryd.ntmps40
    go_wp2
    go_ret2
    exact ⟨_, rfl, Mat.nil _, Below.refl _ _⟩
  · by_cases h6 : 6 < m
    · have e1 := singleE_arg (m := m) (o := o) (Or.inr h6)
      rw [singleR_no (by rw [e1]; decide), e1]
      clear hl hf e1 hm
      have hd : decide (m < 1) = false := by rw [decide_eq_false_iff_not]; exact h1
      have hd2 : decide (6 < m) = true := by rw [decide_eq_true_eq]; exact h6
      go_enter Tryd.func40, Tryd.ntmps40
      go_wp2
      go_ret2
      exact ⟨_, rfl, Mat.nil _, Below.refl _ _⟩
    · obtain ⟨K, rfl⟩ : ∃ K : Nat, m = (K : Int) := ⟨m.toNat, by omega⟩
      have hK1 : 1 ≤ K := by omega
      have hK6 : K ≤ 6 := by omega
      have hd : decide ((K : Int) < 1) = false := by rw [decide_eq_false_iff_not]; exact h1
      have hd2 : decide (6 < (K : Int)) = false := by rw [decide_eq_false_iff_not]; exact h6
      have HMANY := Lib.hid (fun W => areSoMany_form p o.length cap W)
      clear hl hf hm h1 h6
      cases hmany : (decide (1 ≤ o.length) && decide (o.length ≤ 6)) with
      | false =>
        have e1 : singleE (K : Int) o = 80 := singleE_len hK1 hK6 (by simp at hmany; omega)
        rw [singleR_no (by rw [e1]; decide), e1]
        rw [hmany] at HMANY
        clear hmany e1
        go_enter Tryd.func40, Tryd.ntmps40
        go_wp2_with (first | (go_at_call 62; refine (HMANY.out _).mono ?_; rintro e w1 ⟨rfl, rfl⟩))
        go_ret2
        exact ⟨_, rfl, Mat.nil _, Below.refl _ _⟩
      | true =>
        rw [hmany] at HMANY
        have ho6 : o.length ≤ 6 := by simp at hmany; omega
        have ho1 : 1 ≤ o.length := by simp at hmany; omega
        clear hmany
        go_enter Tryd.func40, Tryd.ntmps40
        go_wp2_with (first | (go_at_call 62; refine (HMANY.out _).mono ?_; rintro e w1 ⟨rfl, rfl⟩))
        go_loopw [6, 20] (fun u i wr => ∃ i' : Nat, i' ≤ o.length ∧ i = .int .i64 i' ∧ (∀ j, j < i' → goodRow K (o.getD j []) = true) ∧ OwnM 31 2 w.heap.size wr u ((singleP K o).take i') ∧ Below w.heap.size w wr) (fun _ i _ => o.length - (intOf i).toNat)
        case atStart => exact ⟨0, Nat.zero_le _, rfl, fun j hj => by omega, OwnM.nil _ _ _ _, Below.refl _ _⟩
        case round =>
          obtain ⟨i, hi, rfl, hall, hown, hbel⟩ := hrel
          have HALL := Lib.hid hall
          clear hall
          by_cases hlt : i < o.length
          · obtain ⟨b1, o1, c1, u, hv, _, _, _, hcu, hsu⟩ := (HL.out.below hbel).row_at i hlt
            cases hv
            obtain ⟨up, uc, rfl, hulc, hucm⟩ := hsu.form
            have hlen65 := (HF.out.2 i).1
            have HOWN := Lib.hid hown
            have HBW := Lib.hid hbel
            have HTAKE : Hid ((singleP K o).take (i + 1) = (singleP K o).take i ++ [singleRow K (o.getD i [])]) := map_take_succ _ _ _ [] hlt
            have HBAD := Lib.hid (@singleE_row K o i hK1 hK6 hlt)
            have HNEXT : Hid (goodRow K (o.getD i []) = true → ∀ j, j < i + 1 → goodRow K (o.getD j []) = true) := by
              intro hg j hj
              rcases Nat.lt_or_ge j i with h | h
              · exact HALL.out j h
              · have : j = i := by omega
                subst this; exact hg
            have HFR := Lib.hid (areFrom0_any _ (o.getD i []) 1000000 wr hsu (by omega))
            have HSU := Lib.hid hsu
            obtain ⟨r, hr⟩ : ∃ r, o.getD i [] = r := ⟨_, rfl⟩
            rw [hr] at hcu hulc hlen65 HTAKE HBAD HNEXT HFR HSU
            clear hown hbel hr hsu
            by_cases hrK : r.length = K
            · subst hrK
              have hd3 : ((r.length : Int) != (r.length : Int)) = false := by simp
              cases hfr : from0 1000000 r with
              | false =>
                have e1 : singleE (r.length : Int) o = 80 := HBAD.out (by rw [goodRow_from0, hfr]; simp)
                rw [hfr] at HFR
                have HE1 := Lib.hid e1
                clear hfr e1
                go_wp2_with (first | (go_at_call 55; refine HFR.out.mono ?_; rintro e w1 ⟨rfl, rfl⟩))
                go_ret2
                rw [singleR_no (by rw [HE1.out]; decide), HE1.out]
                exact ⟨_, rfl, Mat.nil _, HBW.out⟩
              | true =>
                have HG := Lib.hid (HNEXT.out (by rw [goodRow_from0, hfr]; simp))
                rw [hfr] at HFR
                have HSG := Lib.hid (single_go _ r wr HSU.out (by omega))
                clear hfr HNEXT HBAD
                go_wp2_with (first
                  | (go_at_call 55; refine HFR.out.mono ?_; rintro e w1 ⟨rfl, rfl⟩)
                  | (go_at_call 63; refine HSG.out.mono ?_; rintro e w2 ⟨v2, rfl, hrow2, hb2⟩; obtain ⟨p2, c2, rfl, _, _⟩ := hrow2.sl.form; have HR2 := Lib.hid hrow2; have HB2 := Lib.hid hb2; obtain ⟨vs, hvl, hvo, hvr⟩ := HOWN.out.below hb2 (Nat.le_refl _); have HVL := Lib.hid hvl; have HVO := Lib.hid hvo; have HVR := Lib.hid hvr; have hv7 : vs.length ≤ 7 := (by rw [hvl, List.length_take]; omega); have HBX := Lib.hid (HBW.out.trans (hb2.mono HBW.out.size)); have HRO := Lib.hid (hrow2.base HBW.out.size); clear hrow2 hb2 HSG hvl hvo hvr)
                  | (at_builtin; refine wpList_append_box w2 rfl (.tmp 33) (.tmp 36) 22 rfl 31 (.slice none 0 0) 24 Tryd.underlying22 Tryd.info31 rfl (by omega) w.heap.size u6 vs rfl HVO.out _ rfl rfl ?a1 ?a2 ?_))
                case a1 => omega
                case a2 => exact HBX.out.size
                intro v' w' hown hbel hkeep
                have HM2 : Hid (OwnM 31 2 w.heap.size w' v' ((singleP r.length o).take (i + 1))) := by
                  rw [HTAKE.out]; exact OwnM.snoc (by decide) HVL.out HVR.out HRO.out hown hkeep
                have HB3 := Lib.hid (HBX.out.trans hbel)
                clear hown hbel hkeep
                go_wp2
                go_roundw
                case rel => exact ⟨i + 1, by omega, by go_num, HG.out, HM2.out, HB3.out⟩
                case measure => simp [intOf]; omega
            · have e1 : singleE (K : Int) o = 80 := HBAD.out (by rw [goodRow_from0]; simp; intro h; exact absurd h hrK)
              have HE1 := Lib.hid e1
              have hd3 : ((r.length : Int) != (K : Int)) = true := by rw [bne_iff_ne]; omega
              clear e1 hrK HBAD HNEXT HFR
              go_wp2
              go_ret2
              rw [singleR_no (by rw [HE1.out]; decide), HE1.out]
              exact ⟨_, rfl, Mat.nil _, HBW.out⟩
          · obtain rfl : i = o.length := by omega
            have e1 := singleE_ok hK1 hK6 ho1 ho6 HALL.out
            have e2 : singleR (K : Int) o = singleP K o := by unfold singleR; rw [e1, Int.toNat_natCast]; rfl
            have HE1 := Lib.hid e1
            have HE2 := Lib.hid e2
            rw [List.take_of_length_le (by simp [singleP])] at hown
            have HM := Lib.hid hown.mat
            have HB := Lib.hid hbel
            clear hown hbel e1 e2
            go_wp2
            go_ret2
            rw [HE1.out, HE2.out]
            exact ⟨_, rfl, HM.out, HB.out⟩
end Go.Proofs.YthbfgmgpploneaaDoor
