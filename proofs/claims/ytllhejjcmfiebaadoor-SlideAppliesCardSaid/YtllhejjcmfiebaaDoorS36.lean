/- The program's apply and list. -/
import Derived.Test.YtllhejjcmfiebaaDoorS35
set_option linter.unusedVariables false
set_option linter.unusedSimpArgs false
set_option linter.unnecessarySimpa false
namespace Go.Proofs.YtllhejjcmfiebaaDoor
open Go.RowKit Go.Shelf

theorem posF_hole {N : Nat} {q : List Int} (h : PosW N q) (hN9 : N ≤ 9) : posF q q.length (holeL q) = 0 ∧ (∀ j, j < holeL q → posF q q.length j ≠ 0) ∧ holeL q < 9 := by
  have hl := h.len
  obtain ⟨h1, h2, h3⟩ := h.hole
  refine ⟨?_, fun j hj => ?_, by omega⟩
  · unfold posF; rw [if_pos (by omega)]; exact h2
  · unfold posF; rw [if_pos (by omega)]; exact h3 j hj
theorem moved_int (N tn : Nat) (t : Int) (q : List Int) (w : World) (hw : PosW N q) (hN9 : N ≤ 9) (ht : tn < N) (hne : tn ≠ holeL q) (e : t = (tn : Int)) :
    Calls Tryd.prog 77 #[nineV (posF q q.length), .int .i64 (holeL q : Nat), .int .i64 t] w fun e w' => e = .returned (nineV (posF (movedL q tn) (movedL q tn).length)) ∧ Below w.heap.size w w' := by
  subst e
  rw [posF_moved hw ht]
  exact moved_go _ _ _ w (by have := hw.hole.1; omega) (by omega) (fun e => hne e.symm)
/-- one hole alone -/
def Uq (n : Nat) (q : List Int) : Prop := ∀ j, j < n → q.getD j 0 = 0 → j = holeL q
theorem uq_moved {n t : Nat} {q : List Int} (hw : PosW n q) (hu : Uq n q) (ht : t < n) (hne : t ≠ holeL q) : holeL (movedL q t) = t ∧ Uq n (movedL q t) := by
  have hl := hw.len
  have hh := hw.hole.1
  have hget : ∀ j, (movedL q t).getD j 0 = if t = j then 0 else if holeL q = j then q.getD t 0 else q.getD j 0 := fun j => by
    unfold movedL
    rw [getD_set _ _ _ _ (by simp; omega), getD_set _ _ _ _ (by omega)]
  have key : ∀ j, j < n → (movedL q t).getD j 0 = 0 → j = t := fun j hj h0 => by
    rw [hget] at h0
    by_cases h1 : t = j
    · exact h1.symm
    · rw [if_neg h1] at h0
      by_cases h2 : holeL q = j
      · rw [if_pos h2] at h0
        exact absurd (hu t ht h0) hne
      · rw [if_neg h2] at h0
        exact absurd (hu j hj h0).symm h2
  have h1 : holeL (movedL q t) = t := by
    refine holeL_eq (by rw [movedL_len]; omega) (by rw [hget, if_pos rfl]) fun j hj h0 => ?_
    have := key j (by omega) h0
    omega
  refine ⟨h1, fun j hj h0 => ?_⟩
  rw [h1]; exact key j hj h0
set_option maxRecDepth 100000 in
set_option maxHeartbeats 4000000 in
theorem apply_go (g N : Nat) (E : Es) (vm : Value) (p m : List Int) (w : World) (hb : BoardR w g N E) (hE : Lt E N) (hne : ∀ e ∈ E, e.1 ≠ e.2) (hN9 : N ≤ 9) (hp : PosW N p) (hu : Uq N p) (hm : SlA w vm (ints m)) (hm40 : m.length ≤ 1000) :
    Calls Tryd.prog 57 #[.pointer (some ⟨g, 0, none⟩), nineV (posF p p.length), vm] w fun e w' => e = .returned (.tuple #[nineV (posF (applyL E p m).1 (applyL E p m).1.length), .int .i64 ((applyL E p m).2 : Nat)]) ∧ Below w.heap.size w w' := by
  have HM := Lib.hid hm
  have HBR := Lib.hid hb
  have HE := Lib.hid hE
  have HNE := Lib.hid hne
  have HP := Lib.hid hp
  have HU := Lib.hid hu
  obtain ⟨pm, cm, rfl, hcm1, hcm2⟩ := hm.form
  have hr0 := (row_new 82 w (nineL (posF p p.length)).toArray).alloc (.cells #[.int .i8 0, .int .i8 0, .int .i8 0, .int .i8 0, .int .i8 0, .int .i8 0, .int .i8 0, .int .i8 0, .int .i8 0] 82)
  have hr1 := row_new 82 (w.alloc (.cells (nineL (posF p p.length)).toArray 82)) #[.int .i8 0, .int .i8 0, .int .i8 0, .int .i8 0, .int .i8 0, .int .i8 0, .int .i8 0, .int .i8 0, .int .i8 0]
  have hb0 := ((Below.refl w.heap.size w).alloc (Nat.le_refl _) (.cells (nineL (posF p p.length)).toArray 82)).alloc (by simp) (.cells #[.int .i8 0, .int .i8 0, .int .i8 0, .int .i8 0, .int .i8 0, .int .i8 0, .int .i8 0, .int .i8 0, .int .i8 0] 82)
  rw [World.size_alloc] at hr1
  obtain ⟨W0, hW0⟩ : ∃ W0, (w.alloc (.cells (nineL (posF p p.length)).toArray 82)).alloc (.cells #[.int .i8 0, .int .i8 0, .int .i8 0, .int .i8 0, .int .i8 0, .int .i8 0, .int .i8 0, .int .i8 0, .int .i8 0] 82) = W0 := ⟨_, rfl⟩
  rw [hW0] at hr0 hr1 hb0
  have HR0 : Hid (Row 82 W0 w.heap.size (nineL (posF p p.length))) := hr0
  have HR1 : Hid (Row 82 W0 (w.heap.size + 1) (nineL (ownF 0))) := hr1
  have HB0 := Lib.hid hb0
  have hph := posF_hole hp hN9
  have HHO := hole_go (posF p p.length) (holeL p) W0 hph.2.2 hph.1 hph.2.1
  obtain ⟨P0, hP0⟩ : ∃ P0, posF p p.length = P0 := ⟨_, rfl⟩
  have HP0 := Lib.hid hP0
  rw [hP0] at hW0 HR0 HHO ⊢
  unfold nineV at HHO
  have HHOLE := Lib.hid HHO
  obtain ⟨c0, c1, c2, c3, c4, c5, c6, c7, c8⟩ := nine_cells HR0.out
  have hW : (w.alloc (.cells #[.int .i8 (P0 0), .int .i8 (P0 1), .int .i8 (P0 2), .int .i8 (P0 3), .int .i8 (P0 4), .int .i8 (P0 5), .int .i8 (P0 6), .int .i8 (P0 7), .int .i8 (P0 8)] 82)).alloc (.cells #[.int .i8 0, .int .i8 0, .int .i8 0, .int .i8 0, .int .i8 0, .int .i8 0, .int .i8 0, .int .i8 0, .int .i8 0] 82) = W0 := hW0
  clear hr0 hr1 hb0 hW0 hm hb hE hne hp hu hph HHO hP0
  have HNV : Hid (nineV P0 = .agg #[.int .i8 (P0 0), .int .i8 (P0 1), .int .i8 (P0 2), .int .i8 (P0 3), .int .i8 (P0 4), .int .i8 (P0 5), .int .i8 (P0 6), .int .i8 (P0 7), .int .i8 (P0 8)]) := rfl
  rw [HNV.out]
  clear HNV
  go_enter Tryd.func57, Tryd.ntmps57
  go_wp2_with (first | (go_at_call 75; refine (HHOLE.out).mono ?_; rintro e w1 ⟨rfl, hb1⟩; have HB1 := Lib.hid (HB0.out.trans (hb1.mono HB0.out.size)); have HQ0 := Lib.hid (HR0.out.below hb1 HR0.out.lt); have HQ1 := Lib.hid (HR1.out.below hb1 HR1.out.lt); clear hb1))
  clear hW c0 c1 c2 c3 c4 c5 c6 c7 c8 HHOLE HR0 HR1 HB0
  have HQ2 : Hid (Row 82 w1 w.heap.size (nineL (posF p p.length))) := by show Row _ _ _ _; rw [HP0.out]; exact HQ0.out
  clear HQ0 HP0
  obtain ⟨wq, hwq0⟩ : ∃ wq : World, wq = w1 := ⟨_, rfl⟩
  subst hwq0
  go_loopw [8, 15] (fun hv i wr => ∃ (k : Nat) (q : List Int), k ≤ m.length ∧ i = .int .i64 k ∧ hv = .int .i64 (holeL q : Nat) ∧ Row 82 wr w.heap.size (nineL (posF q q.length)) ∧ Row 82 wr (w.heap.size + 1) (nineL (ownF 0)) ∧ PosW N q ∧ Uq N q ∧ AtMove E p m k q ∧ Below w.heap.size w wr) (fun _ i _ => m.length - (intOf i).toNat)
  case atStart => exact ⟨0, p, Nat.zero_le _, rfl, rfl, HQ2.out, HQ1.out, HP.out, HU.out, AtMove.start _ _ _, HB1.out⟩
  case round =>
    obtain ⟨k, q, hk, rfl, rfl, hq0, hq1, hwq, huq, hat, hbel⟩ := hrel
    clear HQ2 HQ1 HP HU HB1
    by_cases hlt : k < m.length
    · obtain ⟨adm, cm', hv, _, _, hadm, hcm⟩ := (HM.out.below hbel).int_at k hlt
      cases hv
      obtain ⟨t, ht⟩ : ∃ t, m.getD k 0 = t := ⟨_, rfl⟩
      rw [ht] at hcm
      have hh := hwq.hole.1
      have hnb := BoardR.next (HBR.out.below hbel HBR.out.lt) (holeL q) (by omega)
      have h512 : nb E (holeL q) < 512 := Nat.lt_of_lt_of_le (nb_lt HE.out (holeL q)) (Nat.pow_le_pow_right (n := 2) (by omega) hN9)
      have HHAS := Lib.hid (fun W => has_go (nb E (holeL q)) t W h512)
      have gk : (k : Int) < (m.length : Int) := by omega
      have hdef : (decide (0 ≤ t) && (nb E (holeL q)).testBit t.toNat) = nearB E (holeL q) t := rfl
      rw [hdef] at HHAS
      cases hB : nearB E (holeL q) t with
      | true =>
        obtain ⟨tn, htn0, htn⟩ := nearB_lt HE.out hB
        have hnt : tn ≠ holeL q := by
          rintro rfl
          have hb2 : (nb E (holeL q)).testBit t.toNat = true := by
            unfold nearB at hB
            rw [Bool.and_eq_true] at hB
            exact hB.2
          rw [htn0, Int.toNat_natCast] at hb2
          rcases (nb_bit E _ _).1 hb2 with hm2 | hm2
          · exact HNE.out _ hm2 rfl
          · exact HNE.out _ hm2 rfl
        have HNX := Lib.hid (hat.next hlt (by rw [ht]; exact hB))
        have HWN := Lib.hid (hwq.moved htn)
        rw [ht, show t.toNat = tn by omega] at HNX
        have HMVD := fun W => moved_int N tn t q W hwq hN9 htn hnt htn0
        obtain ⟨hh2, huq2⟩ := uq_moved hwq huq htn hnt
        have HH2 : Hid (Value.int .i64 t = .int .i64 (holeL (movedL q tn) : Nat)) := by show _ = _; rw [hh2, htn0]
        have HU2 := Lib.hid huq2
        rw [hB] at HHAS
        obtain ⟨h, hhe⟩ : ∃ h, holeL q = h := ⟨_, rfl⟩
        obtain ⟨F, hF⟩ : ∃ F, posF q q.length = F := ⟨_, rfl⟩
        obtain ⟨F2, hF2⟩ : ∃ F2, posF (movedL q tn) (movedL q tn).length = F2 := ⟨_, rfl⟩
        have HF2 := Lib.hid hF2
        rw [hhe, hF, hF2] at HMVD
        rw [hhe] at hnb h512 HHAS hh ⊢
        rw [hF] at hq0
        obtain ⟨S, hS⟩ : ∃ S, nb E h = S := ⟨_, rfl⟩
        rw [hS] at hnb HHAS
        unfold nineV at HMVD
        have HMV := Lib.hid HMVD
        have HQ0 := Lib.hid hq0
        have HQ1 := Lib.hid hq1
        have HB := Lib.hid hbel
        have gh9 : (h : Int) < 9 := by omega
        clear hq0 hq1 hbel hwq huq hat ht hB htn hnt htn0 hh2 huq2 hhe hF hF2 HMVD hS h512 hdef
        go_wp2_with (first
          | (go_at_call 77; refine (HMV.out _).mono ?_; rintro e w3 ⟨rfl, hb3⟩; have hz0 := HZ0.out.below hb3 HZ0.out.lt; have hz1 := HZ1.out.below hb3 HZ1.out.lt; have hr2 := row_st9 F2 hz0; unfold st9 at hr2; have HR2 := Lib.hid hr2; have ho2 := other_st9 F2 hz1 (show w.heap.size ≠ w.heap.size + 1 by omega); unfold st9 at ho2; have HO2 := Lib.hid ho2; have hbb := below_st9 F2 (HB2.out.trans (hb3.mono HB2.out.size)) (Nat.le_refl w.heap.size); unfold st9 at hbb; have HBB := Lib.hid hbb; obtain ⟨d0, d1, d2, d3, d4, d5, d6, d7, d8⟩ := nine_cells hz0; have f0 := hz0.free 0; have f1 := hz0.free 1; have f2 := hz0.free 2; have f3 := hz0.free 3; have f4 := hz0.free 4; have f5 := hz0.free 5; have f6 := hz0.free 6; have f7 := hz0.free 7; have f8 := hz0.free 8; clear hb3 hz0 hz1 hr2 ho2 hbb)
          | (go_at_call 76; refine (HHAS.out _).mono ?_; rintro e w2 ⟨rfl, hb2⟩; have HZ0 := Lib.hid (HQ0.out.below hb2 HQ0.out.lt); have HZ1 := Lib.hid (HQ1.out.below hb2 HQ1.out.lt); have HB2 := Lib.hid (HB.out.trans (hb2.mono HB.out.size)); obtain ⟨c0, c1, c2, c3, c4, c5, c6, c7, c8⟩ := nine_cells HZ0.out; clear hb2))
        go_roundw
        case rel => exact ⟨k + 1, movedL q tn, by omega, by go_num, HH2.out, by rw [HF2.out]; exact HR2.out, HO2.out, HWN.out, HU2.out, HNX.out, HBB.out⟩
        case measure => simp [intOf]; omega
      | false =>
        have HST := Lib.hid (hat.stop hlt (by rw [ht]; exact hB))
        rw [hB] at HHAS
        obtain ⟨h, hhe⟩ : ∃ h, holeL q = h := ⟨_, rfl⟩
        obtain ⟨F, hF⟩ : ∃ F, posF q q.length = F := ⟨_, rfl⟩
        have HF := Lib.hid hF
        rw [hhe] at hnb h512 HHAS hh ⊢
        rw [hF] at hq0
        obtain ⟨S, hS⟩ : ∃ S, nb E h = S := ⟨_, rfl⟩
        rw [hS] at hnb HHAS
        have HQ0 := Lib.hid hq0
        have HQ1 := Lib.hid hq1
        have HB := Lib.hid hbel
        have gh9 : (h : Int) < 9 := by omega
        clear hq0 hq1 hbel hwq huq hat ht hB hhe hF hS h512 hdef
        go_wp2_with (first
          | (go_at_call 76; refine (HHAS.out _).mono ?_; rintro e w2 ⟨rfl, hb2⟩; have hz0 := HQ0.out.below hb2 HQ0.out.lt; have hz1 := HQ1.out.below hb2 HQ1.out.lt; have hr2 := row_st9 F hz1; unfold st9 at hr2; have HR2 := Lib.hid hr2; have hbb := below_st9 F (HB.out.trans (hb2.mono HB.out.size)) (by omega : w.heap.size ≤ w.heap.size + 1); unfold st9 at hbb; have HBB := Lib.hid hbb; obtain ⟨c0, c1, c2, c3, c4, c5, c6, c7, c8⟩ := nine_cells hz0; obtain ⟨d0, d1, d2, d3, d4, d5, d6, d7, d8⟩ := nine_cells hz1; have f0 := hz1.free 0; have f1 := hz1.free 1; have f2 := hz1.free 2; have f3 := hz1.free 3; have f4 := hz1.free 4; have f5 := hz1.free 5; have f6 := hz1.free 6; have f7 := hz1.free 7; have f8 := hz1.free 8; clear hb2 hz0 hz1 hr2 hbb))
        obtain ⟨e0, e1, e2, e3, e4, e5, e6, e7, e8⟩ := nine_cells HR2.out
        have hst := HST.out
        rw [hst]
        rw [HF.out]
        refine bodyPost_ret (v := .tuple #[nineV F, .int .i64 (k : Nat)]) (by simp [results, Tryd.results57, go_sem, e0, e1, e2, e3, e4, e5, e6, e7, e8, nineV]) rfl ⟨rfl, HBB.out⟩
    · obtain rfl : k = m.length := by omega
      have HDN := Lib.hid hat.done
      clear hat
      obtain ⟨F, hF⟩ : ∃ F, posF q q.length = F := ⟨_, rfl⟩
      rw [hF] at hq0
      obtain ⟨c0, c1, c2, c3, c4, c5, c6, c7, c8⟩ := nine_cells hq0
      obtain ⟨d0, d1, d2, d3, d4, d5, d6, d7, d8⟩ := nine_cells hq1
      have f0 := hq1.free 0
      have f1 := hq1.free 1
      have f2 := hq1.free 2
      have f3 := hq1.free 3
      have f4 := hq1.free 4
      have f5 := hq1.free 5
      have f6 := hq1.free 6
      have f7 := hq1.free 7
      have f8 := hq1.free 8
      have hR2 := row_st9 F hq1
      unfold st9 at hR2
      have HR2 := Lib.hid hR2
      have HBB := Lib.hid (below_st9 F hbel (by omega : w.heap.size ≤ w.heap.size + 1))
      have HF := Lib.hid hF
      clear hq0 hq1 hbel hR2 hF
      go_wp2
      obtain ⟨e0, e1, e2, e3, e4, e5, e6, e7, e8⟩ := nine_cells HR2.out
      have hst := HDN.out
      rw [hst]
      rw [HF.out]
      refine bodyPost_ret (v := .tuple #[nineV F, .int .i64 (m.length : Nat)]) (by simp [results, Tryd.results57, go_sem, e0, e1, e2, e3, e4, e5, e6, e7, e8, nineV]) rfl ⟨rfl, HBB.out⟩
end Go.Proofs.YtllhejjcmfiebaaDoor
