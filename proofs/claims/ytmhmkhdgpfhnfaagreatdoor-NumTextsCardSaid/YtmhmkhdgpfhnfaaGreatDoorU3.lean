/- The reference's Len and Small. -/
import Derived.Test.YtmhmkhdgpfhnfaaGreatDoorU2
set_option linter.unusedVariables false
set_option linter.unusedSimpArgs false
set_option linter.unnecessarySimpa false
namespace Go.Proofs.YtmhmkhdgpfhnfaaGreatDoor.Ref
open Go.RowKit Go.Lib

theorem nDigits_join {K r t N : Nat} (ht : t ≠ 0) (hr : r < 1000000000 ^ K) (hN : N = r + 1000000000 ^ K * t) : nDigits N = 9 * K + nDigits t := by
  have h1 := nDigits_ge t ht
  have h2 := lt_pow_nDigits t
  have h3 := nDigits_pos t
  obtain ⟨m, hm⟩ : ∃ m, nDigits t = m + 1 := ⟨nDigits t - 1, by omega⟩
  rw [hm, Nat.add_sub_cancel] at h1
  rw [hm] at h2 ⊢
  rw [show 9 * K + (m + 1) = (9 * K + m) + 1 by omega]
  have hP : 10 ^ (9 * K) = 1000000000 ^ K := by rw [Nat.pow_mul]
  refine nDigits_unique (9 * K + m) N ?_ ?_
  · rw [Nat.pow_add, hP, hN]
    have := Nat.mul_le_mul_left (1000000000 ^ K) h1
    omega
  · rw [show 9 * K + m + 1 = 9 * K + (m + 1) by omega, Nat.pow_add, hP, hN]
    have h4 : 1000000000 ^ K * (t + 1) ≤ 1000000000 ^ K * 10 ^ (m + 1) := Nat.mul_le_mul_left _ h2
    rw [Nat.mul_add, Nat.mul_one] at h4
    omega
/-- the digits that are left -/
def leftD (v : Nat) : Nat := if v = 0 then 0 else nDigits v
theorem leftD_next {v : Nat} (h : 0 < v) : leftD v = leftD (v / 10) + 1 := by
  unfold leftD
  rw [if_neg (by omega)]
  by_cases h10 : v < 10
  · rw [if_pos (by omega), nDigits_small h10]
  · rw [if_neg (by omega), nDigits_big h10]
set_option maxRecDepth 100000 in
set_option maxHeartbeats 1000000 in
theorem len_go (v : Value) (N : Nat) (w : World) (h : LbA w v (limbs N)) (hl : (limbs N).length ≤ 400000) :
    Calls Tryz.prog 118 #[v] w fun e w' => e = .returned (.int .i64 (nDigits N : Nat)) ∧ w' = w := by
  obtain ⟨p, cap, rfl, hc1, hc2⟩ := h.form_
  by_cases h0 : N = 0
  · subst h0
    have HD := Lib.hid (nDigits_small (show 0 < 10 by omega))
    rw [limbs_zero]
    clear h hc1 hc2 hl
    go_enter Tryz.func118, Tryz.ntmps118
    go_wp2
    go_ret
    exact ⟨by rw [HD.out]; rfl, rfl⟩
  · obtain ⟨K, hK⟩ : ∃ K, (limbs N).length = K + 1 := by
      have : (limbs N).length ≠ 0 := fun e => h0 ((limbs_nil_iff N).1 (List.length_eq_zero_iff.1 e))
      exact ⟨(limbs N).length - 1, by omega⟩
    obtain ⟨ad, cap', hv, hl1, hl2, had, hcell⟩ := h.at_ K (by omega)
    injection hv with e1 e2 e3
    subst e1 e3
    obtain ⟨t, ht⟩ : ∃ t, (limbs N).getD K 0 = t := ⟨_, rfl⟩
    have ht9 := getD_lo (Lo_limbs N) K
    rw [ht] at hcell ht9
    have hspl := val_split (limbs N) K (by omega)
    have hdr : (limbs N).drop (K + 1) = [] := List.drop_of_length_le (by omega)
    have htk := val_lt ((limbs N).take K) ((Lo_limbs N).take K)
    rw [List.length_take, Nat.min_eq_left (by omega)] at htk
    rw [val_limbs, hdr, ht] at hspl
    have ht0 : t ≠ 0 := by
      intro e
      rw [e] at hspl
      simp only [val, Nat.mul_zero, Nat.add_zero] at hspl
      have := limbs_lower N h0
      rw [hK, Nat.add_sub_cancel] at this
      omega
    have hD : Hid (nDigits N = 9 * K + leftD t) := by
      show _ = _
      unfold leftD
      rw [if_neg ht0]
      exact nDigits_join ht0 htk (by simpa [val] using hspl)
    rw [hK] at hl hc1 ⊢
    obtain ⟨D, hDD⟩ : ∃ D, nDigits N = D := ⟨_, rfl⟩
    rw [hDD] at hD ⊢
    have hD9 : D ≤ 4000000 := by
      rw [← hDD]
      have := val_lt (limbs N) (Lo_limbs N)
      rw [val_limbs, hK] at this
      have := nDigits_le (N := N) (k := 9 * (K + 1)) (by rw [Nat.pow_mul]; exact this) (by omega)
      omega
    have gk0 : ¬ (((K + 1 : Nat) : Int) = 0) := by omega
    have gk1 : ((K + 1 : Nat) : Int) - 1 = (K : Int) := by omega
    have gwk : IntKind.i64.wrap (K : Int) = (K : Int) := IntWalk.i64_in _ (by omega)
    have gw9 : IntKind.i64.wrap (9 * (K : Int)) = ((9 * K : Nat) : Int) := by rw [show 9 * (K : Int) = ((9 * K : Nat) : Int) by omega]; exact IntWalk.i64_in _ (by omega)
    clear h hK hspl hdr htk ht ht0 hDD e2 hl1 hl2 had
    go_enter Tryz.func118, Tryz.ntmps118
    go_wp2_with fail
    go_loopg [3, 4] t (fun k nv vv wr => ∃ n : Nat, vv = .int .i64 (k : Nat) ∧ nv = .int .i64 (n : Nat) ∧ n + leftD k = D ∧ k < 1000000000 ∧ wr = w)
    case atStart => exact ⟨9 * K, rfl, rfl, hD.out.symm, ht9, rfl⟩
    case round =>
      obtain ⟨n, rfl, rfl, hn, hk9, hwr⟩ := hrel
      subst hwr
      by_cases hk0 : 0 < gk
      · have gpos : (0 : Int) < (gk : Int) := by omega
        have hnx := leftD_next hk0
        have gquo : (gk : Int).tdiv 10 = ((gk / 10 : Nat) : Int) := tdivN gk 10
        obtain ⟨q, hq⟩ : ∃ q, gk / 10 = q := ⟨_, rfl⟩
        rw [hq] at gquo hnx
        have hq9 : q < 1000000000 := by omega
        have hqk : q < gk := by omega
        have gwn : IntKind.i64.wrap ((n : Int) + 1) = (n : Int) + 1 := by rw [show (n : Int) + 1 = ((n + 1 : Nat) : Int) by omega]; exact IntWalk.i64_in _ (by omega)
        have HN : Hid (n + 1 + leftD q = D) := by show _ = _; omega
        clear hnx hn hq hcell
        go_wp2_with fail
        go_roundg q
        case measure => omega
        case rel => exact ⟨n + 1, by go_num, by go_num, HN.out, hq9, rfl⟩
      · obtain rfl : gk = 0 := by omega
        have hnD : n = D := by unfold leftD at hn; simpa using hn
        have gneg : ¬ ((0 : Int) < ((0 : Nat) : Int)) := by omega
        have HE := Lib.hid hnD
        clear hn hnD hcell
        go_wp2_with fail
        go_ret
        exact ⟨by rw [← HE.out]; rfl, rfl⟩
set_option maxRecDepth 100000 in
set_option maxHeartbeats 1000000 in
theorem small_q (n d : Int) (k : Nat) (v1 : Value) (w : World) (h1 : Qv w v1 n d) (hl1 : (limbs n.natAbs).length ≤ 400000) (hl2 : (limbs d.natAbs).length ≤ 400000) :
    Calls Tryz.prog 53 #[v1, .int .i64 (k : Nat)] w fun e w' => e = .returned (.bool (decide (nDigits n.natAbs ≤ k) && decide (nDigits d.natAbs ≤ k))) ∧ Below w.heap.size w w' := by
  obtain ⟨b1, p1, n1, c1, b2, p2, n2, c2, rfl, hz1, hz2⟩ := h1.form
  obtain ⟨_, _, e1, hk1⟩ := hz1
  obtain ⟨_, _, e2, hk2⟩ := hz2
  simp only [Value.agg.injEq, Array.mk.injEq, List.cons.injEq, and_true] at e1 e2
  rw [← e1.2] at hk1
  rw [← e2.2] at hk2
  clear e1 e2
  have hbe := (Below.refl w.heap.size w).alloc (Nat.le_refl _) (.cells #[.bool b1, .slice p1 n1 c1, .bool b2, .slice p2 n2 c2] 36)
  have HL1 := Lib.hid (len_go _ n.natAbs _ (SlA.below hk1 hbe) hl1)
  have HL2 := Lib.hid (len_go _ d.natAbs _ (SlA.below hk2 hbe) hl2)
  have HBE := Lib.hid hbe
  obtain ⟨x, hx⟩ : ∃ x, nDigits n.natAbs = x := ⟨_, rfl⟩
  obtain ⟨y, hy⟩ : ∃ x, nDigits d.natAbs = x := ⟨_, rfl⟩
  rw [hx] at HL1 ⊢
  rw [hy] at HL2 ⊢
  clear hbe hk1 hk2 hl1 hl2 hx hy h1
  by_cases hxk : x ≤ k
  · have gx : (x : Int) ≤ (k : Int) := by omega
    rw [decide_eq_true hxk, Bool.true_and]
    by_cases hyk : y ≤ k
    · have gy : (y : Int) ≤ (k : Int) := by omega
      rw [decide_eq_true hyk]
      clear hxk hyk
      go_enter Tryz.func53, Tryz.ntmps53
      go_wp2_with fail
      refine HL1.out.mono ?_
      rintro e w2 ⟨rfl, rfl⟩
      go_wp2_with fail
      refine HL2.out.mono ?_
      rintro e w3 ⟨rfl, rfl⟩
      go_wp2_with fail
      go_ret
      exact ⟨rfl, HBE.out⟩
    · have gy : ¬ ((y : Int) ≤ (k : Int)) := by omega
      have HDY := Lib.hid (decide_eq_false hyk)
      rw [decide_eq_false hyk]
      clear hxk hyk
      go_enter Tryz.func53, Tryz.ntmps53
      go_wp2_with fail
      refine HL1.out.mono ?_
      rintro e w2 ⟨rfl, rfl⟩
      go_wp2_with fail
      refine HL2.out.mono ?_
      rintro e w3 ⟨rfl, rfl⟩
      go_wp2_with fail
      go_ret
      exact ⟨congrArg (fun b => Ending.returned (.bool b)) HDY.out, HBE.out⟩
  · have gx : ¬ ((x : Int) ≤ (k : Int)) := by omega
    rw [decide_eq_false hxk, Bool.false_and]
    clear hxk
    go_enter Tryz.func53, Tryz.ntmps53
    go_wp2_with fail
    refine HL1.out.mono ?_
    rintro e w2 ⟨rfl, rfl⟩
    go_wp2_with fail
    go_ret
    exact ⟨rfl, HBE.out⟩
end Go.Proofs.YtmhmkhdgpfhnfaaGreatDoor.Ref
