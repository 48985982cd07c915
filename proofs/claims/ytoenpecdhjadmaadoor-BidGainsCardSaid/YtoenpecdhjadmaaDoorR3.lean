/- The program's Second. -/
import Derived.Test.YtoenpecdhjadmaaDoorR2
set_option linter.unusedVariables false
set_option linter.unusedSimpArgs false
set_option linter.unnecessarySimpa false
namespace Go.Proofs.YtoenpecdhjadmaaDoor
open Go.RowKit

theorem from0_bad {l : List Int} : from0 1000000000000 l = !(l.any badAt) := by
  unfold from0
  rw [List.not_any_eq_all_not]
  congr 1
  funext x
  unfold badAt
  rw [Bool.eq_iff_iff]
  simp only [Bool.and_eq_true, decide_eq_true_eq, Bool.not_eq_true', Bool.or_eq_false_iff, decide_eq_false_iff_not]
  omega
theorem secondR_bad {l : List Int} (h : secondE l = 1) : secondR l = (0, 0) := by unfold secondR; rw [h]; rfl
theorem secondR_ok {l : List Int} (h : secondE l = 0) : secondR l = ((topTo l l.length : Int), nextTo l (topTo l l.length) l.length) := by unfold secondR; rw [h]; rfl
set_option maxRecDepth 100000 in
set_option maxHeartbeats 2000000 in
theorem second_spec : SpecSecond := by
  intro v l w hl hi hm
  obtain ⟨p, cap, rfl, hlc, hcm⟩ := hl.form
  have HL := Lib.hid hl
  have HFR := Lib.hid (areFrom0_any _ l 1000000000000 w hl (by omega))
  have hl0 : (0 : Int) ≤ (l.length : Int) := by omega
  by_cases h1 : l.length < 1
  · have e1 := secondE_bad (l := l) (Or.inl h1)
    rw [secondR_bad e1, e1]
    have hd : decide ((l.length : Int) < 1) = true := by rw [decide_eq_true_eq]; omega
    clear hl hi e1 h1
    go_enter Tryd.func42, Tryd.ntmps42
    go_wp2
    go_ret3
    exact ⟨rfl, Below.refl _ _⟩
  · have hd : decide ((l.length : Int) < 1) = false := by rw [decide_eq_false_iff_not]; omega
    have hd' : (1 : Int) ≤ (l.length : Int) := by omega
    by_cases h2 : 100 < l.length
    · have e1 := secondE_bad (l := l) (Or.inr (Or.inl h2))
      rw [secondR_bad e1, e1]
      have hd2 : (100 : Int) < (l.length : Int) := by omega
      clear hl hi e1
      go_enter Tryd.func42, Tryd.ntmps42
      go_wp2
      go_ret3
      exact ⟨rfl, Below.refl _ _⟩
    · have hd2 : ¬ ((100 : Int) < (l.length : Int)) := by omega
      have hd3 : decide ((100 : Int) < (l.length : Int)) = false := by rw [decide_eq_false_iff_not]; omega
      cases h3 : from0 1000000000000 l with
      | false =>
        have e1 := secondE_bad (l := l) (Or.inr (Or.inr (by rw [from0_bad] at h3; simpa using h3)))
        rw [secondR_bad e1, e1]
        rw [h3] at HFR
        clear hl hi e1 h3
        go_enter Tryd.func42, Tryd.ntmps42
        go_wp2_with (first | (go_at_call 55; refine HFR.out.mono ?_; rintro e w1 ⟨rfl, rfl⟩))
        go_ret3
        exact ⟨rfl, Below.refl _ _⟩
      | true =>
        have e1 : secondE l = 0 := secondE_ok (by
          rintro (h | h | h)
          · exact h1 h
          · exact h2 h
          · rw [from0_bad, h] at h3; cases h3)
        rw [secondR_ok e1, e1]
        rw [h3] at HFR
        have HMX := Lib.hid (max_go _ l w hl (by omega) (by omega))
        have HIX := Lib.hid (index_go _ l w hl (by omega) (by omega))
        obtain ⟨t, ht⟩ : ∃ t, topTo l l.length = t := ⟨_, rfl⟩
        rw [ht] at HMX HIX ⊢
        obtain ⟨y, hy⟩ : ∃ y, l.getD t 0 = y := ⟨_, rfl⟩
        rw [hy] at HMX HIX
        clear hl hi e1 h3 ht hy
        go_enter Tryd.func42, Tryd.ntmps42
        go_wp2_with (first
          | (go_at_call 55; refine HFR.out.mono ?_; rintro e w1 ⟨rfl, rfl⟩)
          | (go_at_call 65; refine HMX.out.mono ?_; rintro e w1 ⟨rfl, rfl⟩)
          | (go_at_call 64; refine HIX.out.mono ?_; rintro e w1 ⟨rfl, rfl⟩))
        go_loop [6, 28] (fun n i => ∃ k : Nat, k ≤ l.length ∧ n = .int .i64 (nextTo l t k) ∧ i = .int .i64 k) (fun _ i => l.length - (intOf i).toNat)
        case atStart => exact ⟨0, Nat.zero_le _, rfl, rfl⟩
        case round =>
          obtain ⟨k, hk, rfl, rfl⟩ := hrel
          by_cases hlt : k < l.length
          · obtain ⟨b, off, cap', hv, _, _, _, hc1⟩ := HL.out.int_at k hlt
            cases hv
            have HE : Hid (nextTo l t (k + 1) = if k = t then nextTo l t k else max (nextTo l t k) (l.getD k 0)) := rfl
            obtain ⟨x, hx⟩ : ∃ x, l.getD k 0 = x := ⟨_, rfl⟩
            obtain ⟨y, hy⟩ : ∃ y, nextTo l t k = y := ⟨_, rfl⟩
            rw [hx] at hc1 HE
            rw [hy] at HE ⊢
            clear hx hy
            by_cases hkt : k = t
            · subst hkt
              go_wp2
              go_round
              case rel => exact ⟨k + 1, by omega, by rw [HE.out, if_pos rfl], by go_num⟩
              case measure => simp [intOf]; omega
            · have H := Lib.hid hkt
              have hb : ((k : Int) != (t : Int)) = true := by rw [bne_iff_ne]; omega
              clear hkt
              go_wp2
              go_round
              case rel => exact ⟨k + 1, by omega, by rw [HE.out, if_neg H.out, goMax], by go_num⟩
              case measure => simp [intOf]; omega
          · obtain rfl : k = l.length := by omega
            go_wp2
            go_ret3
            exact ⟨rfl, Below.refl _ _⟩
end Go.Proofs.YtoenpecdhjadmaaDoor
