/- The reference's Hole, Near, Moved. -/
import Derived.Test.YtllhejjcmfiebaaDoorS29
import Derived.Test.YtllhejjcmfiebaaDoorS31
set_option linter.unusedVariables false
set_option linter.unusedSimpArgs false
set_option linter.unnecessarySimpa false
namespace Go.Proofs.YtllhejjcmfiebaaDoor
open Go.RowKit Go.Shelf
attribute [local go_sem] eqP

set_option maxRecDepth 100000 in
set_option maxHeartbeats 2000000 in
theorem rhole_go (v : Value) (n : Nat) (p : List Int) (w : World) (hp : SlA w v (ints p)) (hw : PosW n p) (hn9 : n ≤ 9) :
    Calls Tryd.prog 40 #[v] w fun e w' => e = .returned (.int .i64 (holeL p : Nat)) ∧ Below w.heap.size w w' := by
  have hlen := hw.len
  obtain ⟨hh1, hh2, hh3⟩ := hw.hole
  have HLT := Lib.hid hh3
  have HZ := Lib.hid hh2
  obtain ⟨h, hh⟩ : ∃ h, holeL p = h := ⟨_, rfl⟩
  rw [hh] at hh1 HLT HZ ⊢
  have HL := Lib.hid hp
  obtain ⟨q, c, rfl, hc1, hc2⟩ := hp.form
  have hhl : h < p.length := by omega
  clear hp hw hlen hh hh2 hh3
  go_enter Tryd.func40, Tryd.ntmps40
  go_wp2
  go_loopw [3] (fun i wr => ∃ k : Nat, k ≤ h ∧ i = .int .i64 k ∧ Below w.heap.size w wr) (fun i _ => h - (intOf i).toNat)
  case atStart => exact ⟨0, Nat.zero_le _, rfl, Below.refl _ _⟩
  case round =>
    obtain ⟨k, hk, rfl, hbel⟩ := hrel
    have hkl : k < p.length := by omega
    obtain ⟨ad, cap', hv, _, _, hg, hc⟩ := (HL.out.below hbel).int_at k hkl
    cases hv
    have HB := Lib.hid hbel
    have gk : (k : Int) < (p.length : Int) := by omega
    clear hbel
    by_cases hkh : k < h
    · have hne := HLT.out k hkh
      obtain ⟨y, hy⟩ : ∃ y, p.getD k 0 = y := ⟨_, rfl⟩
      rw [hy] at hne hc
      have hd : (y != 0) = true := by rw [bne_iff_ne]; exact hne
      clear hy hne
      go_wp2
      go_roundw
      case rel => exact ⟨k + 1, by omega, by go_num, HB.out⟩
      case measure => simp [intOf]; omega
    · obtain rfl : k = h := by omega
      have hz := HZ.out
      rw [hz] at hc
      clear hz
      go_wp2
      go_ret
      exact ⟨rfl, HB.out⟩
set_option maxRecDepth 100000 in
set_option maxHeartbeats 2000000 in
theorem rnear_go (v : Value) (N a : Nat) (t : Int) (l : Ps) (w : World) (hl : SlP w v l) (hn9 : N ≤ 9) (hok : ∀ j, j < l.length → okAt N l j = true) :
    Calls Tryd.prog 39 #[v, .int .i64 (a : Nat), .int .i64 t] w fun e w' => e = .returned (.bool (nearB (toE l) a t)) ∧ Below w.heap.size w w' := by
  have HIFF := Lib.hid (near_iff hn9 hok a t)
  obtain ⟨R, hR⟩ : ∃ R, nearB (toE l) a t = R := ⟨_, rfl⟩
  obtain ⟨lo, hlo⟩ : ∃ lo, min (a : Int) t = lo := ⟨_, rfl⟩
  obtain ⟨hi, hhi⟩ : ∃ hi, max (a : Int) t = hi := ⟨_, rfl⟩
  rw [hR, hlo, hhi] at HIFF
  rw [hR]
  have HL := Lib.hid hl
  obtain ⟨q, c, rfl, hc1, hc2⟩ := hl.len
  clear hl hok hR
  go_enter Tryd.func39, Tryd.ntmps39
  go_wp2
  go_loopw [7] (fun i wr => ∃ k : Nat, k ≤ l.length ∧ i = .int .i64 k ∧ (∀ j, j < k → l[j]? ≠ some (lo, hi)) ∧ Below w.heap.size w wr) (fun i _ => l.length - (intOf i).toNat)
  case atStart => exact ⟨0, Nat.zero_le _, rfl, fun j hj => by omega, Below.refl _ _⟩
  case round =>
    obtain ⟨k, hk, rfl, hall, hbel⟩ := hrel
    by_cases hlt : k < l.length
    · obtain ⟨ad, cap', e, hv, hg, hek, d1, d2⟩ := (HL.out.below hbel).at_ k hlt
      cases hv
      obtain ⟨x, y⟩ := e
      dsimp only at d1 d2
      have HB := Lib.hid hbel
      have HALL := Lib.hid hall
      have HEK := Lib.hid hek
      clear hbel hall hek
      cases hxy : (x == lo && y == hi) with
      | true =>
        have HR : Hid (R = true) := by
          show _ = _
          rw [Bool.and_eq_true, beq_iff_eq, beq_iff_eq] at hxy
          refine HIFF.out.1 ?_
          have := HEK.out
          rw [hxy.1, hxy.2] at this
          exact List.mem_of_getElem? this
        go_wp2
        go_ret
        exact ⟨by rw [HR.out]; rfl, HB.out⟩
      | false =>
        have HNX : Hid (∀ j, j < k + 1 → l[j]? ≠ some (lo, hi)) := fun j hj => by
          rcases Nat.lt_or_ge j k with h | h
          · exact HALL.out j h
          · have : j = k := by omega
            subst this
            rw [HEK.out]
            intro he
            cases he
            simp at hxy
        go_wp2
        go_roundw
        case rel => exact ⟨k + 1, by omega, by go_num, HNX.out, HB.out⟩
        case measure => simp [intOf]; omega
    · obtain rfl : k = l.length := by omega
      have HR : Hid (R = false) := by
        show _ = _
        cases R with
        | false => rfl
        | true =>
          obtain ⟨j, hj⟩ := List.getElem?_of_mem (HIFF.out.2 rfl)
          exact absurd hj (hall j (List.getElem?_eq_some_iff.1 hj).1)
      have HB := Lib.hid hbel
      clear hall hbel
      go_wp2
      go_ret
      exact ⟨by rw [HR.out]; rfl, HB.out⟩
set_option maxRecDepth 100000 in
set_option maxHeartbeats 2000000 in
theorem rmoved_go (v : Value) (n t : Nat) (p : List Int) (w : World) (hp : SlA w v (ints p)) (hw : PosW n p) (hn9 : n ≤ 9) (ht : t < n) :
    Calls Tryd.prog 41 #[v, .int .i64 (t : Nat)] w fun e w' => ∃ v', e = .returned v' ∧ Own 3 w.heap.size w' v' (ints (movedL p t)) ∧ Below w.heap.size w w' := by
  have HHOLE := Lib.hid (fun W (hb : Below w.heap.size w W) => rhole_go v n p W (hp.below hb) hw hn9)
  have hlen := hw.len
  have hh1 := hw.hole.1
  have HMV : Hid (movedL p t = (p.set (holeL p) (p.getD t 0)).set t 0) := rfl
  obtain ⟨h, hh⟩ : ∃ h, holeL p = h := ⟨_, rfl⟩
  rw [hh] at hh1 HMV HHOLE
  have HL := Lib.hid hp
  obtain ⟨q, c, rfl, hc1, hc2⟩ := hp.form
  have hhl : h < p.length := by omega
  have htl : t < p.length := by omega
  have hp9 : p.length ≤ 9 := by omega
  clear hp hw hlen hh
  go_enter Tryd.func41, Tryd.ntmps41
  go_wp2_with (first | (at_builtin; refine wpList_append_sl _ rfl (.tmp 7) (.tmp 8) 23 rfl 3 (.int .i64 0) 8 Tryd.underlying23 Tryd.infoI rfl w.heap.size (.slice none 0 0) [] rfl (World.ownsRow_nil _ _ _ _) (.slice q p.length c) (ints p) rfl HL.out (ints_one _) ?c1 ?c2 (Nat.le_refl _) ?_))
  case c1 => rw [ints_length]; simp [maxLen]; omega
  case c2 => rw [ints_length]; simp; omega
  intro v1 w1 hown hg
  skip
  have hb1 : Below w.heap.size w w1 := (Below.refl _ _).grown hg (Nat.le_refl _) (fun k hk => by cases hk)
  rcases hown.form_ with ⟨rfl, hx0⟩ | ⟨g, co, more, rfl, hg0, hco1, hco2, hce, hr⟩
  · exfalso
    have h0 : p.length = 0 := by rw [← ints_length, hx0]; rfl
    omega
  · rw [ints_length] at hco1 hce ⊢
    have HR := Lib.hid hr
    have HB1 := Lib.hid hb1
    have HCE := Lib.hid hce
    have HCO := Lib.hid hco2
    have hco3 : co ≤ 9223372036854775807 := by unfold maxLen at hco2; omega
    clear hown hg hr hb1 hce hco2
    go_wp2_with (first | (go_at_call 40; refine (HHOLE.out _ HB1.out).mono ?_; rintro e w2 ⟨rfl, hb2⟩; have HB2 := Lib.hid (HB1.out.trans (hb2.mono HB1.out.size)); have HR2 := Lib.hid (HR.out.below hb2 HR.out.lt); clear hb2))
    obtain ⟨ad, cap', hv, _, _, hg1, hcm⟩ := (HL.out.below HB2.out).int_at t htl
    cases hv
    obtain ⟨z, hz⟩ : ∃ z, p.getD t 0 = z := ⟨_, rfl⟩
    rw [hz] at hcm HMV
    have hr2 := HR2.out
    have k2 := hr2.cell h
    rw [List.getElem?_append_left (by rw [ints_length]; exact hhl), ints_get _ _ hhl] at k2
    have f2 := hr2.free h
    have hr3 := hr2.store h (.int .i64 z)
    rw [List.set_append_left _ _ (by rw [ints_length]; exact hhl), ints_set] at hr3
    have k3 := hr3.cell t
    rw [List.getElem?_append_left (by rw [ints_length, List.length_set]; exact htl), ints_get _ _ (by rw [List.length_set]; exact htl)] at k3
    have f3 := hr3.free t
    have hr4 := hr3.store t (.int .i64 0)
    rw [List.set_append_left _ _ (by rw [ints_length, List.length_set]; exact htl), ints_set, ← HMV.out] at hr4
    have HR4 := Lib.hid hr4
    have HB4 := Lib.hid ((HB2.out.setCell (p := ⟨g, h, none⟩) hg0 (.int .i64 z)).setCell (p := ⟨g, t, none⟩) hg0 (.int .i64 0))
    obtain ⟨y, hy⟩ : ∃ y, p.getD h 0 = y := ⟨_, rfl⟩
    rw [hy] at k2
    obtain ⟨y3, hy3⟩ : ∃ y3, (p.set h z).getD t 0 = y3 := ⟨_, rfl⟩
    rw [hy3] at k3
    have HLEN : Hid ((movedL p t).length = p.length) := movedL_len p t
    have gh : (h : Int) < (p.length : Int) := by omega
    have gt : (t : Int) < (p.length : Int) := by omega
    clear hz hy hy3 hr2 hr3 hr4
    go_wp2
    rw [show (Instr.indexAt 23 (Value.slice (some ad) p.length c) (Value.int .i64 t)).run Tryd.prog w2 = .ok (.pointer (some (ad.add t))) w2 by go_simp]
    go_wp2
    go_ret
    refine ⟨_, rfl, ?_, HB4.out⟩
    have := Own.of_row (cap := co) HR4.out hg0 HCO.out (by rw [ints_length, HLEN.out]; exact HCE.out)
    rw [ints_length, HLEN.out] at this
    exact this
end Go.Proofs.YtllhejjcmfiebaaDoor
