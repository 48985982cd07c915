/- The program's single and Single. -/
import Derived.Test.YtoenpecdhjadmaaDoorR3
import Derived.Test.YtoenpecdhjadmaaDoorL5
set_option linter.unusedVariables false
set_option linter.unusedSimpArgs false
set_option linter.unnecessarySimpa false
namespace Go.Proofs.YtoenpecdhjadmaaDoor
open Go.RowKit

set_option maxRecDepth 100000 in
set_option maxHeartbeats 4000000 in
theorem single_go (v : Value) (o : List Int) (w : World) (hl : Sl w v (ints o)) (hm : o.length ≤ 6) :
    Calls Tryd.prog 63 #[v] w fun e w' => ∃ v', e = .returned v' ∧ Own 2 w.heap.size w' v' (ints (singleRow o.length o)) ∧ Below w.heap.size w w' := by
  obtain ⟨p, cap, rfl, hlc, hcm⟩ := hl.form
  have hM := wrap_pow o.length (by omega)
  have hM64 := pow_le64 hm
  have hM0 := pow_pos2 o.length
  obtain ⟨M, hMM⟩ : ∃ M, 2 ^ o.length = M := ⟨_, rfl⟩
  rw [hMM] at hM hM64 hM0
  have HMM := Lib.hid hMM
  have HL := Lib.hid hl
  clear hl hMM
  go_enter Tryd.func63, Tryd.ntmps63
  go_wp2_with (first | (at_make; refine wpList_make_row _ rfl _ _ 31 rfl 2 (.int .i64 0) 8 Tryd.underlying31 Tryd.info2 rfl .i64 .i64 _ _ M rfl rfl ?e1 ?e2 ?e3 ?e4 ?_))
  case e1 => rfl
  case e2 => rfl
  case e3 => omega
  case e4 => unfold maxLen; omega
  intro w3 hrow hbel
  have HROW : Hid (Row 2 w3 w.heap.size (ints (sAt o.length M o 0 0))) := by rw [sAt_zero, ← ints_replicate]; exact hrow
  have HBEL := Lib.hid hbel
  clear hrow hbel
  go_wp2
  go_loopw [13] (fun s wx => ∃ set : Nat, set ≤ M ∧ s = .int .i64 set ∧ Row 2 wx w.heap.size (ints (sAt o.length M o set 0)) ∧ Below w.heap.size w wx) (fun s _ => M - (intOf s).toNat)
  case atStart => exact ⟨0, Nat.zero_le _, rfl, HROW.out, HBEL.out⟩
  case round =>
    obtain ⟨set, hset, rfl, hrow, hbel⟩ := hrel
    clear HROW HBEL
    by_cases hsM : set < M
    · obtain ⟨wm, hwm⟩ : ∃ wm : World, wm = wr := ⟨_, rfl⟩
      subst hwm
      have HROW := Lib.hid hrow
      have HBEL := Lib.hid hbel
      clear hrow hbel
      go_wp2
      go_loopw [18] (fun s wx => ∃ k : Nat, k ≤ o.length ∧ s = .int .i64 k ∧ Row 2 wx w.heap.size (ints (sAt o.length M o set k)) ∧ Below w.heap.size w wx) (fun s _ => o.length - (intOf s).toNat)
      case atStart => exact ⟨0, Nat.zero_le _, rfl, HROW.out, HBEL.out⟩
      case round =>
        obtain ⟨k, hk, rfl, hrow, hbel⟩ := hrel
        clear HROW HBEL
        by_cases hkm : k < o.length
        · obtain ⟨b, off, cap', hv, _, _, _, hcx⟩ := (HL.out.below hbel).int_at k hkm
          cases hv
          have hcr := hrow.cell set
          rw [ints_get _ _ (by rw [sAt_len]; exact hsM), sAt_get _ _ _ _ _ hsM] at hcr
          have hfr := hrow.free set
          have HROW := Lib.hid hrow
          have HBEL := Lib.hid hbel
          have HSET := Lib.hid (sAt_set o.length M o set k)
          have HSAME := Lib.hid (sAt_same o.length M o set k)
          have HYES := Lib.hid (@singleTo_yes o set k)
          have HNO := Lib.hid (@singleTo_no o set k)
          have HHAS := Lib.hid (fun W => has_any set k W (by omega) (by omega))
          obtain ⟨x, hx⟩ : ∃ x, o.getD k 0 = x := ⟨_, rfl⟩
          obtain ⟨r, hr⟩ : ∃ r, singleTo o set k = r := ⟨_, rfl⟩
          rw [hx] at hcx HYES
          rw [hr] at hcr HYES HNO HSAME
          clear hrow hbel hx hr
          cases hbt : bt set k with
          | true =>
            rw [hbt] at HHAS
            have HNEW : Hid (Row 2 (wr.setCell ⟨w.heap.size, set, none⟩ (.int .i64 (if r < x then x else r))) w.heap.size (ints (sAt o.length M o set (k + 1)))) := by
              rw [← HSET.out _ (HYES.out hbt), goMax, ← ints_set]
              exact HROW.out.store set _
            have HBEL2 : Hid (∀ u, Below w.heap.size w (wr.setCell ⟨w.heap.size, set, none⟩ u)) := fun u => HBEL.out.setCell (Nat.le_refl _) u
            clear hbt HSET HSAME HYES HNO
            go_wp2_with (first | (go_at_call 78; refine (HHAS.out _).mono ?_; rintro e w1 ⟨rfl, rfl⟩))
            go_roundw
            case rel => exact ⟨k + 1, by omega, by go_num, HNEW.out, HBEL2.out _⟩
            case measure => simp [intOf]; omega
          | false =>
            rw [hbt] at HHAS
            have HS : Hid (Row 2 wr w.heap.size (ints (sAt o.length M o set (k + 1)))) := by
              rw [← HSAME.out (HNO.out hbt)]; exact HROW.out
            clear hbt HSET HSAME HYES HNO
            go_wp2_with (first | (go_at_call 78; refine (HHAS.out _).mono ?_; rintro e w1 ⟨rfl, rfl⟩))
            go_roundw
            case rel => exact ⟨k + 1, by omega, by go_num, HS.out, HBEL.out⟩
            case measure => simp [intOf]; omega
        · obtain rfl : k = o.length := by omega
          have HROW : Hid (Row 2 wr w.heap.size (ints (sAt o.length M o (set + 1) 0))) := by rw [← sAt_next]; exact hrow
          have HBEL := Lib.hid hbel
          clear hrow hbel
          go_wp2
          go_roundw
          case rel => exact ⟨set + 1, by omega, by go_num, HROW.out, HBEL.out⟩
          case measure => simp [intOf]; omega
    · obtain rfl : set = M := by omega
      have hfin : sAt o.length set o set 0 = singleRow o.length o := by rw [← HMM.out, sAt_end]
      rw [hfin] at hrow
      have hlr : (ints (singleRow o.length o)).length = set := by rw [ints_length, singleRow_len, HMM.out]
      have HRO : Hid (Own 2 w.heap.size wr (.slice (some ⟨w.heap.size, 0, none⟩) set set) (ints (singleRow o.length o))) := by
        have h2 := Own.of_row (T := 2) (base := w.heap.size) (cap := set) (xs := ints (singleRow o.length o)) (more := []) (by rw [List.append_nil]; exact hrow) (Nat.le_refl _) (by unfold maxLen; omega) (by rw [hlr]; simp)
        have e : Value.slice (some ⟨w.heap.size, 0, none⟩) (ints (singleRow o.length o)).length set = .slice (some ⟨w.heap.size, 0, none⟩) set set := by rw [hlr]
        rw [e] at h2; exact h2
      have HBX := Lib.hid hbel
      clear hfin hrow hbel hlr
      go_wp2
      go_ret
      exact ⟨_, rfl, HRO.out, HBX.out⟩

theorem goodRow_from0 {K : Nat} {r : List Int} : goodRow K r = (r.length == K && from0 1000000 r) := rfl
set_option maxRecDepth 100000 in
set_option maxHeartbeats 4000000 in
theorem single_spec : SpecSingle := by
  intro v m o w hl hm hf
  obtain ⟨p, cap, rfl, hlc, hcm⟩ := hl.form_
  unfold maxLen at hcm
  have hn7 := hf.1
  have HL := Lib.hid hl
  have HF := Lib.hid hf
  by_cases h1 : m < 1
  · have e1 := singleE_arg (m := m) (o := o) (Or.inl h1)
    rw [singleR_no (by rw [e1]; decide), e1]
    clear hl hf e1 hm
    have hd : decide (m < 1) = true := by rw [decide_eq_true_eq]; exact h1
    go_enter Tryd.func40, Tryd.ntmps40
    go_wp2
    go_ret2
    exact ⟨_, rfl, Mat.nil _, Below.refl _ _⟩
  · by_cases h6 : 6 < m
    · have e1 := singleE_arg (m := m) (o := o) (Or.inr h6)
      rw [singleR_no (by rw [e1]; decide), e1]
      clear hl hf e1 hm
      have hd : decide (m < 1) = false := by rw [decide_eq_false_iff_not]; exact h1
      have hd2 : decide (6 < m) = true := by rw [decide_eq_true_eq]; exact h6
      go_enter Tryd.func40, Tryd.ntmps40
      go_wp2
      go_ret2
      exact ⟨_, rfl, Mat.nil _, Below.refl _ _⟩
    · obtain ⟨K, rfl⟩ : ∃ K : Nat, m = (K : Int) := ⟨m.toNat, by omega⟩
      have hK1 : 1 ≤ K := by omega
      have hK6 : K ≤ 6 := by omega
      have hd : decide ((K : Int) < 1) = false := by rw [decide_eq_false_iff_not]; exact h1
      have hd2 : decide (6 < (K : Int)) = false := by rw [decide_eq_false_iff_not]; exact h6
      have HMANY := Lib.hid (fun W => areSoMany_form p o.length cap W)
      clear hl hf hm h1 h6
      cases hmany : (decide (1 ≤ o.length) && decide (o.length ≤ 6)) with
      | false =>
        have e1 : singleE (K : Int) o = 80 := singleE_len hK1 hK6 (by simp at hmany; omega)
        rw [singleR_no (by rw [e1]; decide), e1]
        rw [hmany] at HMANY
        clear hmany e1
        go_enter Tryd.func40, Tryd.ntmps40
        go_wp2_with (first | (go_at_call 62; refine (HMANY.out _).mono ?_; rintro e w1 ⟨rfl, rfl⟩))
        go_ret2
        exact ⟨_, rfl, Mat.nil _, Below.refl _ _⟩
      | true =>
        rw [hmany] at HMANY
        have ho6 : o.length ≤ 6 := by simp at hmany; omega
        have ho1 : 1 ≤ o.length := by simp at hmany; omega
        clear hmany
        go_enter Tryd.func40, Tryd.ntmps40
        go_wp2_with (first | (go_at_call 62; refine (HMANY.out _).mono ?_; rintro e w1 ⟨rfl, rfl⟩))
        go_loopw [6, 20] (fun u i wr => ∃ i' : Nat, i' ≤ o.length ∧ i = .int .i64 i' ∧ (∀ j, j < i' → goodRow K (o.getD j []) = true) ∧ OwnM 31 2 w.heap.size wr u ((singleP K o).take i') ∧ Below w.heap.size w wr) (fun _ i _ => o.length - (intOf i).toNat)
        case atStart => exact ⟨0, Nat.zero_le _, rfl, fun j hj => by omega, OwnM.nil _ _ _ _, Below.refl _ _⟩
        case round =>
          obtain ⟨i, hi, rfl, hall, hown, hbel⟩ := hrel
          have HALL := Lib.hid hall
          clear hall
          by_cases hlt : i < o.length
          · obtain ⟨b1, o1, c1, u, hv, _, _, _, hcu, hsu⟩ := (HL.out.below hbel).row_at i hlt
            cases hv
            obtain ⟨up, uc, rfl, hulc, hucm⟩ := hsu.form
            have hlen65 := (HF.out.2 i).1
            have HOWN := Lib.hid hown
            have HBW := Lib.hid hbel
            have HTAKE : Hid ((singleP K o).take (i + 1) = (singleP K o).take i ++ [singleRow K (o.getD i [])]) := map_take_succ _ _ _ [] hlt
            have HBAD := Lib.hid (@singleE_row K o i hK1 hK6 hlt)
            have HNEXT : Hid (goodRow K (o.getD i []) = true → ∀ j, j < i + 1 → goodRow K (o.getD j []) = true) := by
              intro hg j hj
              rcases Nat.lt_or_ge j i with h | h
              · exact HALL.out j h
              · have : j = i := by omega
                subst this; exact hg
            have HFR := Lib.hid (areFrom0_any _ (o.getD i []) 1000000 wr hsu (by omega))
            have HSU := Lib.hid hsu
            obtain ⟨r, hr⟩ : ∃ r, o.getD i [] = r := ⟨_, rfl⟩
            rw [hr] at hcu hulc hlen65 HTAKE HBAD HNEXT HFR HSU
            clear hown hbel hr hsu
            by_cases hrK : r.length = K
            · subst hrK
              have hd3 : ((r.length : Int) != (r.length : Int)) = false := by simp
              cases hfr : from0 1000000 r with
              | false =>
                have e1 : singleE (r.length : Int) o = 80 := HBAD.out (by rw [goodRow_from0, hfr]; simp)
                rw [hfr] at HFR
                have HE1 := Lib.hid e1
                clear hfr e1
                go_wp2_with (first | (go_at_call 55; refine HFR.out.mono ?_; rintro e w1 ⟨rfl, rfl⟩))
                go_ret2
                rw [singleR_no (by rw [HE1.out]; decide), HE1.out]
                exact ⟨_, rfl, Mat.nil _, HBW.out⟩
              | true =>
                have HG := Lib.hid (HNEXT.out (by rw [goodRow_from0, hfr]; simp))
                rw [hfr] at HFR
                have HSG := Lib.hid (single_go _ r wr HSU.out (by omega))
                clear hfr HNEXT HBAD
                go_wp2_with (first
                  | (go_at_call 55; refine HFR.out.mono ?_; rintro e w1 ⟨rfl, rfl⟩)
                  | (go_at_call 63; refine HSG.out.mono ?_; rintro e w2 ⟨v2, rfl, hrow2, hb2⟩; obtain ⟨p2, c2, rfl, _, _⟩ := hrow2.sl.form; have HR2 := Lib.hid hrow2; have HB2 := Lib.hid hb2; obtain ⟨vs, hvl, hvo, hvr⟩ := HOWN.out.below hb2 (Nat.le_refl _); have HVL := Lib.hid hvl; have HVO := Lib.hid hvo; have HVR := Lib.hid hvr; have hv7 : vs.length ≤ 7 := (by rw [hvl, List.length_take]; omega); have HBX := Lib.hid (HBW.out.trans (hb2.mono HBW.out.size)); have HRO := Lib.hid (hrow2.base HBW.out.size); clear hrow2 hb2 HSG hvl hvo hvr)
                  | (at_builtin; refine wpList_append_box w2 rfl (.tmp 33) (.tmp 36) 22 rfl 31 (.slice none 0 0) 24 Tryd.underlying22 Tryd.info31 rfl (by omega) w.heap.size u6 vs rfl HVO.out _ rfl rfl ?a1 ?a2 ?_))
                case a1 => omega
                case a2 => exact HBX.out.size
                intro v' w' hown hbel hkeep
                have HM2 : Hid (OwnM 31 2 w.heap.size w' v' ((singleP r.length o).take (i + 1))) := by
                  rw [HTAKE.out]; exact OwnM.snoc (by decide) HVL.out HVR.out HRO.out hown hkeep
                have HB3 := Lib.hid (HBX.out.trans hbel)
                clear hown hbel hkeep
                go_wp2
                go_roundw
                case rel => exact ⟨i + 1, by omega, by go_num, HG.out, HM2.out, HB3.out⟩
                case measure => simp [intOf]; omega
            · have e1 : singleE (K : Int) o = 80 := HBAD.out (by rw [goodRow_from0]; simp; intro h; exact absurd h hrK)
              have HE1 := Lib.hid e1
              have hd3 : ((r.length : Int) != (K : Int)) = true := by rw [bne_iff_ne]; omega
              clear e1 hrK HBAD HNEXT HFR
              go_wp2
              go_ret2
              rw [singleR_no (by rw [HE1.out]; decide), HE1.out]
              exact ⟨_, rfl, Mat.nil _, HBW.out⟩
          · obtain rfl : i = o.length := by omega
            have e1 := singleE_ok hK1 hK6 ho1 ho6 HALL.out
            have e2 : singleR (K : Int) o = singleP K o := by unfold singleR; rw [e1, Int.toNat_natCast]; rfl
            have HE1 := Lib.hid e1
            have HE2 := Lib.hid e2
            rw [List.take_of_length_le (by simp [singleP])] at hown
            have HM := Lib.hid hown.mat
            have HB := Lib.hid hbel
            clear hown hbel e1 e2
            go_wp2
            go_ret2
            rw [HE1.out, HE2.out]
            exact ⟨_, rfl, HM.out, HB.out⟩
end Go.Proofs.YtoenpecdhjadmaaDoor
