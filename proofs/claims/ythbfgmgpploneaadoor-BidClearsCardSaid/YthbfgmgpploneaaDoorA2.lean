import Derived.Test.YthbfgmgpploneaaDoorA1
set_option linter.unusedVariables false
set_option linter.unusedSimpArgs false
set_option linter.unnecessarySimpa false
namespace Go.Proofs.YthbfgmgpploneaaDoor
open Go.RowKit

theorem Sl.drewN {w : World} {v : Value} {xs : List Value} (h : Sl w v xs) (n : Nat) : Sl (w.drewN n) v xs := h.below (below_drewN (Below.refl _ _) n)
theorem goMax (y x : Int) : max y x = if y < x then x else y := by omega
theorem topTo_le (l : List Int) (k : Nat) : topTo l k ≤ k := by
  induction k with
  | zero => exact Nat.le_refl 0
  | succ k ih => simp only [topTo]; split <;> omega
theorem topTo_lt (l : List Int) (k : Nat) (h : 0 < k) : topTo l k < k := by
  induction k with
  | zero => omega
  | succ k ih => simp only [topTo]; have := topTo_le l k; split <;> omega
theorem topTo_yes (l : List Int) (k : Nat) (h : l.getD (topTo l k) 0 < l.getD k 0) : topTo l (k + 1) = k := by simp only [topTo]; rw [if_pos h]
theorem topTo_no (l : List Int) (k : Nat) (h : ¬ l.getD (topTo l k) 0 < l.getD k 0) : topTo l (k + 1) = topTo l k := by simp only [topTo]; rw [if_neg h]
/-- the head of a loop that reads a slice of integers -/
def RdRel (v : Value) (l : List Int) (w wr : World) : Prop := Sl wr v (ints l) ∧ Below w.heap.size w wr
theorem RdRel.drewN {v : Value} {l : List Int} {w wr : World} (h : RdRel v l w wr) (n : Nat) : RdRel v l w (wr.drewN n) := ⟨h.1.drewN n, below_drewN h.2 n⟩
set_option maxHeartbeats 1000000 in
theorem second_any (v : Value) (l : List Int) (w : World) (hl : Sl w v (ints l)) (h0 : 0 < l.length) (hm : l.length ≤ 1000) :
    Calls Tryd.prog 43 #[v] w fun e w' => e = .returned (.tuple #[.int .i64 (topTo l l.length), .int .i64 (nextTo l (topTo l l.length) l.length)]) ∧ Below w.heap.size w w' := by
  obtain ⟨p, cap, rfl, hlc, hcm⟩ := hl.form
  have HL := Lib.hid hl
  clear hl
  have hl0 : (0 : Int) ≤ (l.length : Int) := by omega
  go_enter Tryd.func43, Tryd.ntmps43
  go_wp2
  go_loopw [4, 5] (fun b i wr => ∃ k : Nat, k ≤ l.length ∧ b = .int .i64 (topTo l k) ∧ i = .int .i64 k ∧ RdRel (.slice p l.length cap) l w wr) (fun _ i _ => l.length - (intOf i).toNat)
  case atStart => exact ⟨0, Nat.zero_le _, rfl, rfl, HL.out, Below.refl _ _⟩
  case round =>
    obtain ⟨k, hk, rfl, rfl, hrel⟩ := hrel
    by_cases hlt : k < l.length
    · have htl := topTo_le l k
      obtain ⟨b, off, cap', hv, _, _, _, hc1⟩ := hrel.1.int_at k hlt
      obtain ⟨b', off', cap'', hv', _, _, _, hc2⟩ := hrel.1.int_at (topTo l k) (by omega)
      cases hv
      cases hv'
      have HY := topTo_yes l k
      have HN := topTo_no l k
      obtain ⟨x, hx⟩ : ∃ x, l.getD k 0 = x := ⟨_, rfl⟩
      obtain ⟨t, ht⟩ : ∃ t, topTo l k = t := ⟨_, rfl⟩
      rw [ht] at hc2 HY HN htl ⊢
      obtain ⟨y, hy⟩ : ∃ y, l.getD t 0 = y := ⟨_, rfl⟩
      rw [hx] at hc1 HY HN
      rw [hy] at hc2 HY HN
      have HREL := Lib.hid hrel
      clear hrel hx ht hy
      by_cases hgt : y < x
      · have H := Lib.hid (HY hgt)
        clear HY HN
        go_wp2
        go_quiet (fail)
        go_wp2
        go_roundw
        case rel => exact ⟨k + 1, by omega, by rw [H.out], by go_num, HREL.out.drewN _⟩
        case measure => simp [intOf]; omega
      · have H := Lib.hid (HN hgt)
        clear HY HN
        go_wp2
        go_quiet (fail)
        go_wp2
        go_roundw
        case rel => exact ⟨k + 1, by omega, by rw [H.out], by go_num, HREL.out.drewN _⟩
        case measure => simp [intOf]; omega
    · obtain rfl : k = l.length := by omega
      have HREL := Lib.hid hrel
      have htl := topTo_le l l.length
      clear hrel HL
      obtain ⟨t, ht⟩ : ∃ t, topTo l l.length = t := ⟨_, rfl⟩
      rw [ht] at htl ⊢
      have HT := Lib.hid ht
      clear ht
      obtain ⟨wo, rfl⟩ : ∃ wo : World, wo = wr := ⟨_, rfl⟩
      go_wp2
      go_loop [6, 7] (fun n i => ∃ k : Nat, k ≤ l.length ∧ n = .int .i64 (nextTo l t k) ∧ i = .int .i64 k) (fun _ i => l.length - (intOf i).toNat)
      case atStart => exact ⟨0, Nat.zero_le _, rfl, rfl⟩
      case round =>
        obtain ⟨k, hk, rfl, rfl⟩ := hrel
        by_cases hlt : k < l.length
        · obtain ⟨b, off, cap', hv, _, _, _, hc1⟩ := HREL.out.1.int_at k hlt
          cases hv
          have HE : Hid (nextTo l t (k + 1) = if k = t then nextTo l t k else max (nextTo l t k) (l.getD k 0)) := rfl
          obtain ⟨x, hx⟩ : ∃ x, l.getD k 0 = x := ⟨_, rfl⟩
          obtain ⟨y, hy⟩ : ∃ y, nextTo l t k = y := ⟨_, rfl⟩
          rw [hx] at hc1 HE
          rw [hy] at HE ⊢
          clear hx hy
          by_cases hkt : k = t
          · subst hkt
            go_wp2
            go_round
            case rel => exact ⟨k + 1, by omega, by rw [HE.out, if_pos rfl], by go_num⟩
            case measure => simp [intOf]; omega
          · have H := Lib.hid hkt
            have hb : ((k : Int) != (t : Int)) = true := by rw [bne_iff_ne]; omega
            clear hkt
            go_wp2
            go_round
            case rel => exact ⟨k + 1, by omega, by rw [HE.out, if_neg H.out, goMax], by go_num⟩
            case measure => simp [intOf]; omega
        · obtain rfl : k = l.length := by omega
          go_wp2
          go_ret2
          exact ⟨by rw [HT.out]; rfl, HREL.out.2⟩
end Go.Proofs.YthbfgmgpploneaaDoor
