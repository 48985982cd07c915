import Derived.Test.YthbfgmgpploneaaDoorL1
set_option linter.unusedVariables false
set_option linter.unusedSimpArgs false
set_option linter.unnecessarySimpa false
namespace Go.Proofs.YthbfgmgpploneaaDoor
open Go.RowKit

def badAt (x : Int) : Bool := decide (x < 0) || decide (1000000000000 < x)
theorem any_take_succ (l : List Int) (f : Int → Bool) (k : Nat) (hk : k < l.length) : (l.take (k + 1)).any f = ((l.take k).any f || f (l.getD k 0)) := by
  rw [List.take_succ_eq_append_getElem hk, List.any_append]; simp [hk]
theorem secondE_bad {l : List Int} (h : l.length < 1 ∨ 100 < l.length ∨ l.any badAt = true) : secondE l = 1 := if_pos h
theorem secondE_ok {l : List Int} (h : ¬ (l.length < 1 ∨ 100 < l.length ∨ l.any badAt = true)) : secondE l = 0 := if_neg h
theorem In64.take {l : List Int} (h : In64 l) (n : Nat) : In64 (l.take n) := fun i => by
  rw [List.getD_eq_getElem?_getD, List.getElem?_take]
  split
  · have := h i; rw [List.getD_eq_getElem?_getD] at this; exact this
  · simp
set_option maxRecDepth 100000 in
set_option maxHeartbeats 4000000 in
theorem lawSeconds (S : Awake) (v : Value) (l0 : List Int) (w : World) (hl0 : SlA w v (ints l0)) (hi0 : In64 l0) :
    Calls Tryd.prog 7 #[v] w fun e w' => e = .returned (.bool true) ∧ Below w.heap.size w w' := by
  obtain ⟨p0, cap0, rfl, hlc0, hcm0⟩ := hl0.form
  have HC := Lib.hid (list_any _ l0 101 w hl0 (by omega))
  have e0 : ((101 : Nat) : Int) = 101 := rfl
  rw [e0] at HC
  have hlen : (l0.take 101).length ≤ 101 := by simp; omega
  have hi := hi0.take 101
  obtain ⟨l, hl⟩ : ∃ l, l0.take 101 = l := ⟨_, rfl⟩
  rw [hl] at HC hlen hi
  have HI := Lib.hid hi
  clear hl0 hi0 hl e0 hi
  go_enter Tryd.func7, Tryd.ntmps7
  go_wp2_with fail
  refine HC.out.mono ?_
  rintro e w1 ⟨xv, rfl, hown, hb1⟩
  have HL := Lib.hid hown.sl
  obtain ⟨p, cap, hxv, hlc, hcm⟩ := hown.sl.form
  subst hxv
  have HB1 := Lib.hid hb1
  clear hown hb1 HC
  go_wp2_with fail
  have HSEC := Lib.hid (S.second _ l _ HL.out HI.out hlen)
  obtain ⟨K, hK⟩ : ∃ K, (secondR l).1 = K := ⟨_, rfl⟩
  obtain ⟨N, hN⟩ : ∃ N, (secondR l).2 = N := ⟨_, rfl⟩
  obtain ⟨E, hE⟩ : ∃ E, secondE l = E := ⟨_, rfl⟩
  rw [hK, hN, hE] at HSEC
  have HK := Lib.hid hK
  have HN := Lib.hid hN
  have HE := Lib.hid hE
  clear hK hN hE
  refine HSEC.out.mono ?_
  rintro e w2 ⟨rfl, hb2⟩
  have HL2 := Lib.hid (HL.out.below hb2)
  have HB2 := Lib.hid (HB1.out.trans (hb2.mono HB1.out.size))
  clear hb2 HL HB1 HSEC
  obtain ⟨b0, hb0⟩ : ∃ b0, (decide (l.length < 1) || decide (100 < l.length)) = b0 := ⟨_, rfl⟩
  have HB0 := Lib.hid hb0
  clear hb0
  go_wp2
  all_goals
    go_loop [7, 8] (fun b i => ∃ k : Nat, k ≤ l.length ∧ i = .int .i64 k ∧ b = .bool (b0 || (l.take k).any badAt)) (fun _ i => l.length - (intOf i).toNat)
    case atStart => exact ⟨0, Nat.zero_le _, rfl, congrArg Value.bool (by rw [← HB0.out, Bool.eq_iff_iff]; simp only [Bool.or_eq_true, decide_eq_true_eq, List.take_zero, List.any_nil, Bool.false_eq_true, or_false, true_iff]; omega)⟩
    case round =>
      obtain ⟨k, hk, rfl, rfl⟩ := hrel
      obtain ⟨c, hc⟩ : ∃ c, (b0 || (l.take k).any badAt) = c := ⟨_, rfl⟩
      rw [hc]
      by_cases hlt : k < l.length
      · obtain ⟨b1, o1, c1, hv, _, _, _, hcx⟩ := HL2.out.int_at k hlt
        cases hv
        have HT : Hid ((b0 || (l.take (k + 1)).any badAt) = (c || badAt (l.getD k 0))) := by
          show _ = _
          rw [any_take_succ _ _ _ hlt, ← Bool.or_assoc, hc]
        obtain ⟨x, hx⟩ : ∃ x, l.getD k 0 = x := ⟨_, rfl⟩
        rw [hx] at hcx HT
        clear hc hx
        cases c with
        | true =>
          go_wp2
          go_round
          case rel => exact ⟨k + 1, by omega, by go_num, by rw [HT.out]; rfl⟩
          case measure => simp [intOf]; omega
        | false =>
          by_cases hx0 : x < 0
          · have hd : decide (x < 0) = true := by rw [decide_eq_true_eq]; exact hx0
            have HT2 : Hid ((b0 || (l.take (k + 1)).any badAt) = true) := by show _ = _; rw [HT.out]; unfold badAt; rw [hd]; rfl
            clear HT
            go_wp2
            go_round
            case rel => exact ⟨k + 1, by omega, by go_num, by rw [HT2.out]⟩
            case measure => simp [intOf]; omega
          · have hd : decide (x < 0) = false := by rw [decide_eq_false_iff_not]; exact hx0
            have HT2 : Hid ((b0 || (l.take (k + 1)).any badAt) = decide (1000000000000 < x)) := by show _ = _; rw [HT.out]; unfold badAt; rw [hd]; rfl
            clear HT
            go_wp2
            go_round
            case rel => exact ⟨k + 1, by omega, by go_num, by rw [HT2.out]⟩
            case measure => simp [intOf]; omega
      · obtain rfl : k = l.length := by omega
        rw [List.take_length] at hc
        have HC := Lib.hid hc
        clear hc
        cases c with
        | true =>
          have hbad : l.length < 1 ∨ 100 < l.length ∨ l.any badAt = true := by
            have h1 := HC.out
            rw [← HB0.out] at h1
            simp only [Bool.or_eq_true, decide_eq_true_eq] at h1
            rcases h1 with (h | h) | h
            · exact Or.inl (by omega)
            · exact Or.inr (Or.inl (by omega))
            · exact Or.inr (Or.inr h)
          have e1 := secondE_bad hbad
          obtain rfl : E = 1 := by rw [← HE.out, e1]
          obtain rfl : K = 0 := by rw [← HK.out]; unfold secondR; rw [e1]; rfl
          obtain rfl : N = 0 := by rw [← HN.out]; unfold secondR; rw [e1]; rfl
          clear hbad e1
          go_wp2_with (go_at_call 16; refine (awake_any S _).mono ?_; rintro e w3 ⟨rfl, hb3⟩; have HB3 := Lib.hid (HB2.out.trans (hb3.mono HB2.out.size)); clear hb3)
          go_ret
          exact ⟨rfl, HB3.out⟩
        | false =>
          have hgood : ¬ (l.length < 1 ∨ 100 < l.length ∨ l.any badAt = true) := by
            have h1 := HC.out
            rw [← HB0.out] at h1
            simp only [Bool.or_eq_false_iff, decide_eq_false_iff_not] at h1
            intro h
            rcases h with h | h | h
            · omega
            · omega
            · rw [h1.2] at h; cases h
          have e1 := secondE_ok hgood
          obtain rfl : E = 0 := by rw [← HE.out, e1]
          have hK : K = topTo l l.length := by rw [← HK.out]; unfold secondR; rw [e1]; rfl
          have hN : N = nextTo l (topTo l l.length) l.length := by rw [← HN.out]; unfold secondR; rw [e1]; rfl
          subst hK; subst hN
          have HR := Lib.hid (second_any _ l w2 HL2.out (by omega) (by omega))
          obtain ⟨t, ht⟩ : ∃ t, topTo l l.length = t := ⟨_, rfl⟩
          rw [ht] at HR ⊢
          obtain ⟨n, hn⟩ : ∃ n, nextTo l t l.length = n := ⟨_, rfl⟩
          rw [hn] at HR ⊢
          clear hgood e1 HK HN HE ht hn
          go_wp2_with (first
            | (go_at_call 43; refine HR.out.mono ?_; rintro e w3 ⟨rfl, hb3⟩; have HB3 := Lib.hid (HB2.out.trans (hb3.mono HB2.out.size)); clear hb3)
            | (go_at_call 16; refine (awake_any S _).mono ?_; rintro e w4 ⟨rfl, hb4⟩; have HB4 := Lib.hid (HB3.out.trans (hb4.mono HB3.out.size)); clear hb4))
          go_ret
          exact ⟨rfl, HB4.out⟩
end Go.Proofs.YthbfgmgpploneaaDoor
