/- The reference's Grid and Number, the program's Grid. -/
import Derived.Test.YtllhejjcmfiebaaDoorG1
set_option linter.unusedVariables false
set_option linter.unusedSimpArgs false
set_option linter.unnecessarySimpa false
namespace Go.Proofs.YtllhejjcmfiebaaDoor
open Go.RowKit

set_option maxRecDepth 100000 in
set_option maxHeartbeats 2000000 in
theorem rgrid_go (r c : Nat) (hr : 1 ≤ r) (hc : 1 ≤ c) (hr9 : r ≤ 9) (hc9 : c ≤ 9) (hn : r * c ≤ 9) (w : World) :
    Calls Tryd.prog 35 #[.int .i64 r, .int .i64 c] w fun e w' => ∃ v, e = .returned (.tuple #[.int .i64 ((r * c : Nat) : Int), v]) ∧ OwnP w.heap.size w' v (gridE r c (r * c)) ∧ Below w.heap.size w w' := by
  have hmul : (r : Int) * (c : Int) = ((r * c : Nat) : Int) := by rw [Int.natCast_mul]
  obtain ⟨n, hnn⟩ : ∃ n, r * c = n := ⟨_, rfl⟩
  rw [hnn] at hmul hn ⊢
  have HM := Lib.hid hnn
  have HLEN := Lib.hid (gridE_len r c)
  clear hnn
  go_enter Tryd.func35, Tryd.ntmps35
  go_wp2
  go_loopw [7, 8] (fun v i wr => ∃ k : Nat, k ≤ n ∧ i = .int .i64 k ∧ OwnP w.heap.size wr v (gridE r c k) ∧ Below w.heap.size w wr) (fun _ i _ => n - (intOf i).toNat)
  case atStart => exact ⟨0, Nat.zero_le _, rfl, OwnP.nil _ _, Below.refl _ _⟩
  case round =>
    obtain ⟨k, hk, rfl, hown, hbel⟩ := hrel
    obtain ⟨p, cap, rfl, _, _⟩ := hown.len
    have HOWN := Lib.hid hown
    have HB := Lib.hid hbel
    have hlen := HLEN.out k
    clear hown hbel
    by_cases hlt : k < n
    · have HS : Hid (gridE r c (k + 1) = gridE r c k ++ gridS r c k) := rfl
      have hgs : gridS r c k = (if k % c < c - 1 then [((k : Int), (k : Int) + 1)] else []) ++ (if k / c < r - 1 then [((k : Int), (k : Int) + c)] else []) := rfl
      obtain ⟨q, hq⟩ : ∃ q, k % c = q := ⟨_, rfl⟩
      obtain ⟨d, hd⟩ : ∃ d, k / c = d := ⟨_, rfl⟩
      have hq9 : q < 9 := by rw [← hq]; have := Nat.mod_lt k (show c > 0 by omega); omega
      have hd9 : d ≤ 9 := by rw [← hd]; have := Nat.div_le_self k c; omega
      rw [hq, hd] at hgs
      have hmod : (k : Int) % (c : Int) = (q : Int) := by rw [← hq]; rfl
      have hdiv : (k : Int) / (c : Int) = (d : Int) := by rw [← hd]; rfl
      have hc1 : IntKind.i64.wrap ((c : Int) - 1) = (c : Int) - 1 := IntWalk.i64_in _ (by omega)
      have hr1 : IntKind.i64.wrap ((r : Int) - 1) = (r : Int) - 1 := IntWalk.i64_in _ (by omega)
      have HDN : Hid (d < r - 1 ↔ k + c < n) := by
        show _ ↔ _
        rw [← hd, ← HM.out]
        have e1 : (k + c) / c = k / c + 1 := Nat.add_div_right k (by omega)
        have e2 : (k + c) / c < r ↔ k + c < r * c := Nat.div_lt_iff_lt_mul (by omega)
        rw [e1] at e2
        rw [← e2]
        omega
      clear hq hd hdiv hc1 hr1
      by_cases h1 : q < c - 1
      · have h1' : (q : Int) + 1 < (c : Int) := by omega
        rw [if_pos h1] at hgs
        go_wp2_with (at_builtin; refine wpList_append_boxK wr rfl (.tmp 23) (.tmp 28) 22 rfl 90 _ 2 16 Tryd.underlying22 Tryd.infoP rfl (by omega) (by omega) w.heap.size (.slice p (gridE r c k).length cap) (gridE r c k).length (prs (gridE r c k)) rfl HOWN.out _ ?c9 _ rfl ?c0 ?c1 ?c2 ?c3 ?_)
        try (case c9 => rfl)
        case c0 => rfl
        case c1 => simp [Value.oneCell']
        case c2 => omega
        case c3 => exact HB.out.size
        intro v1 w1 ho hb hkp hrp
        have HO1 : Hid (OwnK 90 2 w.heap.size w1 v1 ((gridE r c k).length + 1) (prs (gridE r c k ++ [((k : Int), (k : Int) + 1)]))) := by
          show OwnK _ _ _ _ _ _ _
          rw [prs_append]; exact ho
        obtain ⟨p1, cap1, rfl, _, _⟩ := ho.len
        have HB1 := Lib.hid (HB.out.trans hb)
        clear ho hb hkp hrp
        by_cases h2 : d < r - 1
        · have h2' : (k : Int) + (c : Int) < (n : Int) := by have := (HDN.out).1 h2; omega
          rw [if_pos h2] at hgs
          go_wp2_with (at_builtin; refine wpList_append_boxK w1 rfl (.tmp 35) (.tmp 41) 22 rfl 90 _ 2 16 Tryd.underlying22 Tryd.infoP rfl (by omega) (by omega) w.heap.size (.slice p1 ((gridE r c k).length + 1) cap1) ((gridE r c k).length + 1) (prs (gridE r c k ++ [((k : Int), (k : Int) + 1)])) rfl HO1.out _ ?c9 _ rfl ?c0 ?c1 ?c2 ?c3 ?_)
          try (case c9 => rfl)
          case c0 => rfl
          case c1 => simp [Value.oneCell']
          case c2 => omega
          case c3 => exact HB1.out.size
          intro v2 w2 ho hb hkp hrp
          have HO2 : Hid (OwnP w.heap.size w2 v2 (gridE r c k ++ ([((k : Int), (k : Int) + 1)] ++ [((k : Int), (k : Int) + c)]))) := by
            show OwnK _ _ _ _ _ _ _
            rw [← List.append_assoc, prs_append, List.length_append, List.length_append]; exact ho
          obtain ⟨p2, cap2, rfl, _, _⟩ := ho.len
          have HB2 := Lib.hid (HB1.out.trans hb)
          clear ho hb hkp hrp
          go_wp2
          go_roundw
          case rel => exact ⟨k + 1, by omega, by go_num, by rw [HS.out, hgs]; exact HO2.out, HB2.out⟩
          case measure => simp [intOf]; omega
        · have h2' : ¬ ((k : Int) + (c : Int) < (n : Int)) := by have := mt (HDN.out).2 h2; omega
          rw [if_neg h2, List.append_nil] at hgs
          go_wp2
          go_roundw
          case rel => exact ⟨k + 1, by omega, by go_num, by rw [HS.out, hgs]; show OwnK _ _ _ _ _ _ _; rw [List.length_append]; exact HO1.out, HB1.out⟩
          case measure => simp [intOf]; omega
      · have h1' : ¬ ((q : Int) + 1 < (c : Int)) := by omega
        rw [if_neg h1, List.nil_append] at hgs
        by_cases h2 : d < r - 1
        · have h2' : (k : Int) + (c : Int) < (n : Int) := by have := (HDN.out).1 h2; omega
          rw [if_pos h2] at hgs
          go_wp2_with (at_builtin; refine wpList_append_boxK wr rfl (.tmp 35) (.tmp 41) 22 rfl 90 _ 2 16 Tryd.underlying22 Tryd.infoP rfl (by omega) (by omega) w.heap.size (.slice p (gridE r c k).length cap) (gridE r c k).length (prs (gridE r c k)) rfl HOWN.out _ ?c9 _ rfl ?c0 ?c1 ?c2 ?c3 ?_)
          try (case c9 => rfl)
          case c0 => rfl
          case c1 => simp [Value.oneCell']
          case c2 => omega
          case c3 => exact HB.out.size
          intro v2 w2 ho hb hkp hrp
          have HO2 : Hid (OwnP w.heap.size w2 v2 (gridE r c k ++ [((k : Int), (k : Int) + c)])) := by
            show OwnK _ _ _ _ _ _ _
            rw [prs_append, List.length_append]; exact ho
          obtain ⟨p2, cap2, rfl, _, _⟩ := ho.len
          have HB2 := Lib.hid (HB.out.trans hb)
          clear ho hb hkp hrp
          go_wp2
          go_roundw
          case rel => exact ⟨k + 1, by omega, by go_num, by rw [HS.out, hgs]; exact HO2.out, HB2.out⟩
          case measure => simp [intOf]; omega
        · have h2' : ¬ ((k : Int) + (c : Int) < (n : Int)) := by have := mt (HDN.out).2 h2; omega
          rw [if_neg h2] at hgs
          go_wp2
          go_roundw
          case rel => exact ⟨k + 1, by omega, by go_num, by rw [HS.out, hgs]; rw [List.append_nil]; exact HOWN.out, HB.out⟩
          case measure => simp [intOf]; omega
    · obtain rfl : k = n := by omega
      go_wp2
      go_ret2
      exact ⟨_, rfl, HOWN.out, HB.out⟩

/-- whether a number of places is right -/
def sizeB (n : Int) : Bool := decide (2 ≤ n) && decide (n ≤ 9)
theorem number_any (n : Int) (w : World) : Calls Tryd.prog 34 #[.int .i64 n] w fun e w' => e = .returned (.bool (sizeB n)) ∧ w = w' := by
  have HS : Hid (sizeB n = (decide (2 ≤ n) && decide (n ≤ 9))) := rfl
  by_cases h1 : 2 ≤ n
  · by_cases h2 : n ≤ 9
    · go_enter Tryd.func34, Tryd.ntmps34
      go_wp2
      go_ret
      exact ⟨by rw [HS.out]; simp [h1, h2], rfl⟩
    · go_enter Tryd.func34, Tryd.ntmps34
      go_wp2
      go_ret
      exact ⟨by rw [HS.out]; simp [h1, h2], rfl⟩
  · go_enter Tryd.func34, Tryd.ntmps34
    go_wp2
    go_ret
    exact ⟨by rw [HS.out]; simp; omega, rfl⟩
theorem isSize_any (n : Int) (w : World) : Calls Tryd.prog 50 #[.int .i64 n] w fun e w' => e = .returned (.bool (sizeB n)) ∧ w = w' := by
  have HS : Hid (sizeB n = (decide (2 ≤ n) && decide (n ≤ 9))) := rfl
  by_cases h1 : 2 ≤ n
  · by_cases h2 : n ≤ 9
    · go_enter Tryd.func50, Tryd.ntmps50
      go_wp2
      go_ret
      exact ⟨by rw [HS.out]; simp [h1, h2], rfl⟩
    · go_enter Tryd.func50, Tryd.ntmps50
      go_wp2
      go_ret
      exact ⟨by rw [HS.out]; simp [h1, h2], rfl⟩
  · go_enter Tryd.func50, Tryd.ntmps50
    go_wp2
    go_ret
    exact ⟨by rw [HS.out]; simp; omega, rfl⟩
end Go.Proofs.YtllhejjcmfiebaaDoor
