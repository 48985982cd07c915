/- The program's small functions: areFrom0, areSoMany, sum, has, allItems, and slices.Max, slices.Index, Second. -/
import Derived.Test.YtoenpecdhjadmaaDoorL2
import Derived.Test.YtoenpecdhjadmaaDoorR1
set_option linter.unusedVariables false
set_option linter.unusedSimpArgs false
set_option linter.unnecessarySimpa false
namespace Go.Proofs.YtoenpecdhjadmaaDoor
open Go.RowKit

def from0 (M : Int) (l : List Int) : Bool := l.all fun x => decide (0 ≤ x) && decide (x ≤ M)
theorem from0_iff {M : Int} {l : List Int} : from0 M l = true ↔ ∀ i, i < l.length → 0 ≤ l.getD i 0 ∧ l.getD i 0 ≤ M := by
  unfold from0
  simp only [List.all_eq_true, Bool.and_eq_true, decide_eq_true_eq]
  constructor
  · intro h i hi
    refine h _ ?_
    rw [List.getD_eq_getElem?_getD, List.getElem?_eq_getElem hi]; exact List.getElem_mem hi
  · intro h x hx
    obtain ⟨i, hi, rfl⟩ := List.mem_iff_getElem.1 hx
    have := h i hi
    rw [List.getD_eq_getElem?_getD, List.getElem?_eq_getElem hi] at this; exact this
theorem from0_no {M : Int} {l : List Int} {i : Nat} (hi : i < l.length) (h : l.getD i 0 < 0 ∨ M < l.getD i 0) : from0 M l = false := by
  cases hb : from0 M l with
  | false => rfl
  | true => have := from0_iff.1 hb i hi; omega
set_option maxHeartbeats 1000000 in
theorem areFrom0_any (v : Value) (l : List Int) (M : Int) (w : World) (hl : Sl w v (ints l)) (hm : l.length ≤ 1000) :
    Calls Tryd.prog 55 #[v, .int .i64 M] w fun e w' => e = .returned (.bool (from0 M l)) ∧ w = w' := by
  obtain ⟨p, cap, rfl, hlc, hcm⟩ := hl.form
  have HL := Lib.hid hl
  clear hl
  have hl0 : (0 : Int) ≤ (l.length : Int) := by omega
  go_enter Tryd.func55, Tryd.ntmps55
  go_wp2
  go_loop [9] (fun i => ∃ k : Nat, k ≤ l.length ∧ i = .int .i64 k ∧ ∀ j, j < k → 0 ≤ l.getD j 0 ∧ l.getD j 0 ≤ M) (fun i => l.length - (intOf i).toNat)
  case atStart => exact ⟨0, Nat.zero_le _, rfl, fun j hj => by omega⟩
  case round =>
    obtain ⟨k, hk, rfl, hall⟩ := hrel
    have HALL := Lib.hid hall
    clear hall
    by_cases hlt : k < l.length
    · obtain ⟨b, off, cap', hv, _, _, _, hc1⟩ := HL.out.int_at k hlt
      cases hv
      have HNO := Lib.hid (@from0_no M l k hlt)
      obtain ⟨x, hx⟩ : ∃ x, l.getD k 0 = x := ⟨_, rfl⟩
      rw [hx] at hc1 HNO
      have HX := Lib.hid hx
      clear hx
      by_cases h0 : x < 0
      · have HF := Lib.hid (HNO.out (Or.inl h0))
        clear HNO
        go_wp2
        go_ret
        exact ⟨by rw [HF.out]; rfl, rfl⟩
      · by_cases h1 : M < x
        · have HF := Lib.hid (HNO.out (Or.inr h1))
          clear HNO
          go_wp2
          go_ret
          exact ⟨by rw [HF.out]; rfl, rfl⟩
        · clear HNO
          go_wp2
          go_round
          case rel => exact ⟨k + 1, by omega, by go_num, fun j hj => by
            rcases Nat.lt_or_ge j k with h | h
            · exact HALL.out j h
            · have : j = k := by omega
              subst this; rw [HX.out]; omega⟩
          case measure => simp [intOf]; omega
    · obtain rfl : k = l.length := by omega
      have HT : Hid (from0 M l = true) := from0_iff.2 HALL.out
      go_wp2
      go_ret
      exact ⟨by rw [HT.out]; rfl, rfl⟩
set_option maxHeartbeats 400000 in
theorem areSoMany_form (p : Option Addr) (n cap : Nat) (w : World) :
    Calls Tryd.prog 62 #[.slice p n cap] w fun e w' => e = .returned (.bool (decide (1 ≤ n) && decide (n ≤ 6))) ∧ w = w' := by
  by_cases h1 : n < 1
  · have e1 : (decide (1 ≤ n) && decide (n ≤ 6)) = false := by simp; omega
    rw [e1]
    obtain rfl : n = 0 := by omega
    go_enter Tryd.func62, Tryd.ntmps62
    go_wp2
    go_ret
    exact ⟨rfl, rfl⟩
  · by_cases h2 : 6 < n
    · have e1 : (decide (1 ≤ n) && decide (n ≤ 6)) = false := by simp; omega
      rw [e1]
      have h3 : decide ((1 : Int) ≤ (n : Int)) = true := by rw [decide_eq_true_eq]; omega
      have h4 : decide ((n : Int) ≤ 6) = false := by rw [decide_eq_false_iff_not]; omega
      go_enter Tryd.func62, Tryd.ntmps62
      go_wp2
      go_ret
      exact ⟨rfl, rfl⟩
    · have e1 : (decide (1 ≤ n) && decide (n ≤ 6)) = true := by simp; omega
      rw [e1]
      have h3 : decide ((1 : Int) ≤ (n : Int)) = true := by rw [decide_eq_true_eq]; omega
      have h4 : decide ((n : Int) ≤ 6) = true := by rw [decide_eq_true_eq]; omega
      go_enter Tryd.func62, Tryd.ntmps62
      go_wp2
      go_ret
      exact ⟨rfl, rfl⟩
/-- the sum of the numbers before k -/
def addTo (l : List Int) : Nat → Int
  | 0 => 0
  | k + 1 => addTo l k + l.getD k 0
theorem addTo_bd {l : List Int} {B : Int} (h : ∀ i, -B ≤ l.getD i 0 ∧ l.getD i 0 ≤ B) (k : Nat) : -(B * k) ≤ addTo l k ∧ addTo l k ≤ B * k := by
  induction k with
  | zero => simp [addTo]
  | succ k ih =>
    have := h k
    simp only [addTo]
    have e : B * ((k + 1 : Nat) : Int) = B * k + B := by rw [Int.natCast_succ, Int.mul_add, Int.mul_one]
    rw [e]; omega
set_option maxHeartbeats 1000000 in
theorem sum_go (v : Value) (l : List Int) (w : World) (hl : Sl w v (ints l)) (hm : l.length ≤ 1000) (hb : ∀ i, -1000000000000 ≤ l.getD i 0 ∧ l.getD i 0 ≤ 1000000000000) :
    Calls Tryd.prog 48 #[v] w fun e w' => e = .returned (.int .i64 (addTo l l.length)) ∧ w = w' := by
  obtain ⟨p, cap, rfl, hlc, hcm⟩ := hl.form
  have HL := Lib.hid hl
  have HBD := Lib.hid (addTo_bd hb)
  have HB := Lib.hid hb
  clear hl hb
  have hl0 : (0 : Int) ≤ (l.length : Int) := by omega
  go_enter Tryd.func48, Tryd.ntmps48
  go_wp2
  go_loop [3, 8] (fun s i => ∃ k : Nat, k ≤ l.length ∧ i = .int .i64 k ∧ s = .int .i64 (addTo l k)) (fun _ i => l.length - (intOf i).toNat)
  case atStart => exact ⟨0, Nat.zero_le _, rfl, rfl⟩
  case round =>
    obtain ⟨k, hk, rfl, rfl⟩ := hrel
    by_cases hlt : k < l.length
    · obtain ⟨b, off, cap', hv, _, _, _, hc1⟩ := HL.out.int_at k hlt
      cases hv
      have HS : Hid (addTo l (k + 1) = addTo l k + l.getD k 0) := rfl
      have h1 := HBD.out k
      have h2 := HB.out k
      obtain ⟨x, hx⟩ : ∃ x, l.getD k 0 = x := ⟨_, rfl⟩
      obtain ⟨y, hy⟩ : ∃ y, addTo l k = y := ⟨_, rfl⟩
      rw [hx] at hc1 HS h2
      rw [hy] at HS h1 ⊢
      have hw1 : IntKind.i64.wrap (y + x) = y + x := IntWalk.i64_in _ (by omega)
      clear hx hy h1 h2
      go_wp2
      go_round
      case rel => exact ⟨k + 1, by omega, by go_num, by rw [HS.out]⟩
      case measure => simp [intOf]; omega
    · obtain rfl : k = l.length := by omega
      go_wp2
      go_ret
      exact ⟨rfl, rfl⟩
set_option maxHeartbeats 400000 in
theorem has_any (b i : Nat) (w : World) (hb : b < 1000) (hi : i < 60) :
    Calls Tryd.prog 78 #[.int .i64 b, .int .i64 i] w fun e w' => e = .returned (.bool (bt b i)) ∧ w = w' := by
  have hd : b / 2 ^ i ≤ b := Nat.div_le_self _ _
  have h1 : bits .and .i64 ((b / 2 ^ i : Nat) : Int) 1 = ((b / 2 ^ i % 2 : Nat) : Int) := by rw [← Nat.and_one_is_mod]; exact i64_and (b / 2 ^ i) 1 (by omega) (by omega)
  have hs := cast_shr b i
  have hbt : bt b i = (b / 2 ^ i % 2 == 1) := rfl
  rw [hbt]
  obtain ⟨q, hq⟩ : ∃ q, b / 2 ^ i = q := ⟨_, rfl⟩
  rw [hq] at h1 hd hs ⊢
  have hr : q % 2 < 2 := Nat.mod_lt _ (by omega)
  obtain ⟨r, hrr⟩ : ∃ r, q % 2 = r := ⟨_, rfl⟩
  rw [hrr] at h1 hr ⊢
  have e2 : ((r : Int) == 1) = (r == 1) := by rw [Bool.eq_iff_iff, beq_iff_eq, beq_iff_eq]; omega
  have hw : IntKind.i64.wrap (q : Int) = (q : Int) := wrap_small q (by omega)
  clear hq hrr
  go_enter Tryd.func78, Tryd.ntmps78
  go_wp2
  go_ret
  exact ⟨by rw [← e2, ← h1]; rfl, rfl⟩
set_option maxHeartbeats 400000 in
theorem allItems_any (m : Nat) (w : World) (hm : m ≤ 6) :
    Calls Tryd.prog 66 #[.int .i64 m] w fun e w' => e = .returned (.int .i64 ((2 ^ m - 1 : Nat) : Int)) ∧ w = w' := by
  have hM := wrap_pow m (by omega)
  have hM64 := pow_le64 hm
  have hM0 := pow_pos2 m
  obtain ⟨M, hMM⟩ : ∃ M, 2 ^ m = M := ⟨_, rfl⟩
  rw [hMM] at hM hM64 hM0 ⊢
  have e0 : (((M - 1 : Nat)) : Int) = (M : Int) - 1 := by omega
  rw [e0]
  have hM1 : IntKind.i64.wrap ((M : Int) - 1) = (M : Int) - 1 := IntWalk.i64_in _ (by omega)
  clear e0 hMM
  go_enter Tryd.func66, Tryd.ntmps66
  go_wp2
  go_ret
  exact ⟨rfl, rfl⟩
/-- what the first index of the greatest says -/
theorem topTo_max (l : List Int) (k : Nat) : ∀ j, j < k → l.getD j 0 ≤ l.getD (topTo l k) 0 := by
  induction k with
  | zero => intro j hj; omega
  | succ k ih =>
    intro j hj
    by_cases h : l.getD (topTo l k) 0 < l.getD k 0
    · rw [topTo_yes l k h]
      rcases Nat.lt_or_ge j k with g | g
      · have := ih j g; omega
      · have : j = k := by omega
        subst this; exact Int.le_refl _
    · rw [topTo_no l k h]
      rcases Nat.lt_or_ge j k with g | g
      · exact ih j g
      · have : j = k := by omega
        subst this; omega
theorem topTo_first (l : List Int) (k : Nat) : ∀ j, j < topTo l k → l.getD j 0 < l.getD (topTo l k) 0 := by
  induction k with
  | zero => intro j hj; simp [topTo] at hj
  | succ k ih =>
    intro j hj
    by_cases h : l.getD (topTo l k) 0 < l.getD k 0
    · rw [topTo_yes l k h] at hj ⊢
      have := topTo_max l k j hj
      omega
    · rw [topTo_no l k h] at hj ⊢
      exact ih j hj
set_option maxHeartbeats 1000000 in
theorem max_go (v : Value) (l : List Int) (w : World) (hl : Sl w v (ints l)) (h0 : 0 < l.length) (hm : l.length ≤ 1000) :
    Calls Tryd.prog 65 #[v] w fun e w' => e = .returned (.int .i64 (l.getD (topTo l l.length) 0)) ∧ w = w' := by
  obtain ⟨p, cap, rfl, hlc, hcm⟩ := hl.form
  have HL := Lib.hid hl
  clear hl
  obtain ⟨b0, off0, cap0, hv, _, _, _, hc0⟩ := HL.out.int_at 0 h0
  cases hv
  have HT1 : Hid (l.getD 0 0 = l.getD (topTo l 1) 0) := by
    show _ = _
    rw [topTo_no l 0 (by simp [topTo])]; rfl
  obtain ⟨x0, hx0⟩ : ∃ x, l.getD 0 0 = x := ⟨_, rfl⟩
  rw [hx0] at hc0 HT1
  clear hx0
  rw [Nat.add_zero] at hc0
  have hl1 : (1 : Int) ≤ (l.length : Int) := by omega
  go_enter Tryd.func65, Tryd.ntmps65
  go_wp2
  go_loop [3, 4] (fun m i => ∃ k : Nat, 1 ≤ k ∧ k ≤ l.length ∧ i = .int .i64 k ∧ m = .int .i64 (l.getD (topTo l k) 0)) (fun _ i => l.length - (intOf i).toNat)
  case atStart => exact ⟨1, Nat.le_refl _, h0, rfl, by rw [HT1.out]⟩
  case round =>
    obtain ⟨k, hk1, hk, rfl, rfl⟩ := hrel
    by_cases hlt : k < l.length
    · obtain ⟨b, off, cap', hv, _, _, _, hc1⟩ := HL.out.int_at k hlt
      cases hv
      have HS : Hid (l.getD (topTo l (k + 1)) 0 = max (l.getD (topTo l k) 0) (l.getD k 0)) := by
        show _ = _
        by_cases h : l.getD (topTo l k) 0 < l.getD k 0
        · rw [topTo_yes l k h]; omega
        · rw [topTo_no l k h]; omega
      obtain ⟨x, hx⟩ : ∃ x, l.getD k 0 = x := ⟨_, rfl⟩
      obtain ⟨y, hy⟩ : ∃ y, l.getD (topTo l k) 0 = y := ⟨_, rfl⟩
      rw [hx] at hc1 HS
      rw [hy] at HS ⊢
      clear hx hy
      go_wp2
      go_round
      case rel => exact ⟨k + 1, by omega, by omega, by go_num, by rw [HS.out, goMax]⟩
      case measure => simp [intOf]; omega
    · obtain rfl : k = l.length := by omega
      go_wp2
      go_ret
      exact ⟨rfl, rfl⟩
set_option maxHeartbeats 1000000 in
theorem index_go (v : Value) (l : List Int) (w : World) (hl : Sl w v (ints l)) (h0 : 0 < l.length) (hm : l.length ≤ 1000) :
    Calls Tryd.prog 64 #[v, .int .i64 (l.getD (topTo l l.length) 0)] w fun e w' => e = .returned (.int .i64 (topTo l l.length)) ∧ w = w' := by
  obtain ⟨p, cap, rfl, hlc, hcm⟩ := hl.form
  have HL := Lib.hid hl
  clear hl
  have HF := Lib.hid (topTo_first l l.length)
  have htl := topTo_lt l l.length h0
  obtain ⟨t, ht⟩ : ∃ t, topTo l l.length = t := ⟨_, rfl⟩
  rw [ht] at HF htl ⊢
  clear ht
  obtain ⟨y, hy⟩ : ∃ y, l.getD t 0 = y := ⟨_, rfl⟩
  rw [hy] at HF ⊢
  have HY := Lib.hid hy
  clear hy
  go_enter Tryd.func64, Tryd.ntmps64
  go_wp2
  go_loop [8] (fun i => ∃ k : Nat, k ≤ t ∧ i = .int .i64 k) (fun i => l.length - (intOf i).toNat)
  case atStart => exact ⟨0, Nat.zero_le _, rfl⟩
  case round =>
    obtain ⟨k, hk, rfl⟩ := hrel
    have hlt : k < l.length := by omega
    obtain ⟨b, off, cap', hv, _, _, _, hc1⟩ := HL.out.int_at k hlt
    cases hv
    by_cases hkt : k < t
    · have hne : (y == l.getD k 0) = false := by rw [beq_eq_false_iff_ne]; have := HF.out k hkt; omega
      obtain ⟨x, hx⟩ : ∃ x, l.getD k 0 = x := ⟨_, rfl⟩
      rw [hx] at hc1 hne
      clear hx
      go_wp2
      go_round
      case rel => exact ⟨k + 1, by omega, by go_num⟩
      case measure => simp [intOf]; omega
    · obtain rfl : k = t := by omega
      rw [HY.out] at hc1
      have heq : (y == y) = true := by simp
      go_wp2
      go_ret
      exact ⟨rfl, rfl⟩
end Go.Proofs.YtoenpecdhjadmaaDoor
