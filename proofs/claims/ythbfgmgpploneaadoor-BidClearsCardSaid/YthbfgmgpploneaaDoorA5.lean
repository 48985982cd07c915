import Derived.Test.YthbfgmgpploneaaDoorA4
import Derived.Test.YthbfgmgpploneaaDoorPure3
import Derived.StillTailTactics
set_option linter.unusedVariables false
set_option linter.unusedSimpArgs false
set_option linter.unnecessarySimpa false
namespace Go.Proofs.YthbfgmgpploneaaDoor
open Go.RowKit

theorem Tryd.info31 : (Tryd.prog.info? 31).map (fun i => (i.zero, i.size, i.bytes)) = some (some (.slice none 0 0), 1, 24) := by kernel_rfl
set_option maxRecDepth 100000 in
set_option maxHeartbeats 4000000 in
theorem tables_any (v : Value) (m : Nat) (bids : List (List Int)) (who : Nat) (w : World) (hl : Mat w v bids) (hm : m ≤ 6) (hn : bids.length ≤ 7) (ho : Offers m bids) (hw : who < 1000) :
    Calls Tryd.prog 58 #[.int .i64 m, v, .int .i64 who] w fun e w' => ∃ v', e = .returned v' ∧ OwnM 31 2 w.heap.size w' v' (tablesP m bids who) ∧ Below w.heap.size w w' := by
  obtain ⟨p, cap, rfl, hlc, hcm⟩ := hl.form_
  unfold maxLen at hcm
  have hM := wrap_pow m (by omega)
  have hM64 := pow_le64 hm
  have hM0 := pow_pos2 m
  obtain ⟨M, hMM⟩ : ∃ M, 2 ^ m = M := ⟨_, rfl⟩
  rw [hMM] at hM hM64 hM0
  have HMM := Lib.hid hMM
  have HL := Lib.hid hl
  have HO := Lib.hid ho
  clear hl hMM ho
  go_enter Tryd.func58, Tryd.ntmps58
  go_wp2_with (first | (at_make; refine wpList_make_row _ rfl _ _ 22 rfl 31 (.slice none 0 0) 24 Tryd.underlying22 Tryd.info31 rfl .i64 .i64 _ _ (bids.length + 1) rfl rfl ?c1 ?c2 ?c3 ?c4 ?_))
  case c1 => simp
  case c2 => simp
  case c3 => omega
  case c4 => unfold maxLen; omega
  intro w1 hrow hbel
  have HR1 := Lib.hid hrow
  have HB1 := Lib.hid hbel
  clear hrow hbel
  go_wp2_with (first | (at_make; refine wpList_make_row _ rfl _ _ 31 rfl 2 (.int .i64 0) 8 Tryd.underlying31 Tryd.info2 rfl .i64 .i64 _ _ M rfl rfl ?d1 ?d2 ?d3 ?d4 ?_))
  case d1 => rfl
  case d2 => rfl
  case d3 => omega
  case d4 => unfold maxLen; omega
  intro w2 hrow hbel
  have hr0 := HR1.out.below hbel HR1.out.lt
  have hc0 := hr0.cell bids.length
  rw [List.getElem?_replicate, if_pos (by omega)] at hc0
  have hf0 := hr0.free bids.length
  have hT : TabRel 31 2 m bids who w (w2.setCell ⟨w.heap.size, bids.length, none⟩ (.slice (some ⟨w1.heap.size, 0, none⟩) (2 ^ m) (2 ^ m))) w.heap.size bids.length :=
    TabRel.put (by decide) ⟨List.replicate (bids.length + 1) (.slice none 0 0), by simp, hr0, HB1.out.trans (hbel.mono HB1.out.size), fun i h1 h2 => by omega⟩ (Nat.le_refl _) (Nat.le_refl _) HB1.out.size (by
      rw [tk_end, HMM.out, ← ints_replicate]; exact hrow)
  rw [HMM.out] at hT
  have HT := Lib.hid hT
  clear hr0 hT hrow hbel HR1 HB1
  go_wp2
  have HN0 : Hid (bids.length ≤ 7) := hn
  go_loopw [9, 10, 11, 12] (fun k _ _ _ wr => ∃ j : Nat, j ≤ bids.length ∧ k = .int .i64 ((j : Int) - 1) ∧ TabRel 31 2 m bids who w wr w.heap.size j) (fun k _ _ _ _ => (intOf k + 1).toNat)
  case atStart => exact ⟨bids.length, Nat.le_refl _, rfl, HT.out⟩
  case round =>
    obtain ⟨j, hj, rfl, hrel⟩ := hrel
    clear HT hc0 hf0
    rcases j with _ | k
    · have HREL := Lib.hid hrel
      clear hrel
      have e0 : ((0 : Nat) : Int) - 1 = -1 := rfl
      rw [e0]
      clear e0
      go_wp2
      go_ret
      exact ⟨_, rfl, HREL.out.own (Nat.le_refl _) (by unfold maxLen; omega) (by rw [HMM.out]; unfold maxLen; omega), HREL.out.below⟩
    · have e0 : ((k + 1 : Nat) : Int) - 1 = (k : Int) := by omega
      rw [e0]
      clear e0
      have hkn : k < bids.length := by omega
      obtain ⟨wo, hwo⟩ : ∃ wo : World, wo = wr := ⟨_, rfl⟩
      subst hwo
      have HREL := Lib.hid hrel
      clear hrel
      go_wp2_with (first | (at_make; refine wpList_make_row _ rfl _ _ 31 rfl 2 (.int .i64 0) 8 Tryd.underlying31 Tryd.info2 rfl .i64 .i64 _ _ M rfl rfl ?e1 ?e2 ?e3 ?e4 ?_))
      case e1 => rfl
      case e2 => rfl
      case e3 => omega
      case e4 => unfold maxLen; omega
      intro w3 hrow hbel
      obtain ⟨b, hbk⟩ : ∃ b, bids.getD k [] = b := ⟨_, rfl⟩
      obtain ⟨t, htk⟩ : ∃ t, tk m bids who (k + 1) = t := ⟨_, rfl⟩
      have HBK := Lib.hid hbk
      have HTK := Lib.hid htk
      have HROW : Hid (Row 2 w3 wo.heap.size (ints (rowAt M b t (bt who k) 0 0))) := by rw [rowAt_zero, ← ints_replicate]; exact hrow
      have HBEL := Lib.hid hbel
      clear hrow hbel hbk htk
      go_wp2
      go_loopw [11, 12] (fun s _ wx => ∃ set : Nat, set ≤ M ∧ s = .int .i64 set ∧ Row 2 wx wo.heap.size (ints (rowAt M b t (bt who k) set 0)) ∧ Below wo.heap.size wo wx) (fun s _ _ => M - (intOf s).toNat)
      case atStart => exact ⟨0, Nat.zero_le _, rfl, HROW.out, HBEL.out⟩
      case round =>
        obtain ⟨set, hset, rfl, hrow, hbel⟩ := hrel
        clear HROW HBEL
        by_cases hlt : set < M
        · obtain ⟨wm, hwm⟩ : ∃ wm : World, wm = wr := ⟨_, rfl⟩
          subst hwm
          have HROW := Lib.hid hrow
          have HBEL := Lib.hid hbel
          clear hrow hbel
          go_wp2
          go_loopw [12] (fun s wx => ∃ sub : Nat, sub ≤ set + 1 ∧ s = .int .i64 sub ∧ Row 2 wx wo.heap.size (ints (rowAt M b t (bt who k) set sub)) ∧ Below wo.heap.size wo wx) (fun s _ => set + 1 - (intOf s).toNat)
          case atStart => exact ⟨0, Nat.zero_le _, rfl, HROW.out, HBEL.out⟩
          case round =>
            obtain ⟨sub, hsub, rfl, hrow, hbel⟩ := hrel
            clear HROW HBEL
            by_cases hle : sub ≤ set
            · have hofs := HO.out.at_ hkn
              have hbd := offerB_at hofs sub
              have hblen := offerB_len hofs
              have hbw := HREL.out.below.trans (hbel.mono HREL.out.below.size)
              obtain ⟨b1, off1, cap1, u, hv, _, _, _, hcb, hsl⟩ := (HL.out.below hbw).row_at k hkn
              cases hv
              obtain ⟨b2, off2, cap2, rfl, hcap2, _, _, hcx⟩ := hsl.int_at sub (by rw [hblen, HMM.out]; omega)
              have hus : sans set sub < M := Nat.lt_of_le_of_lt (sans_le _ _) hlt
              obtain ⟨h3, hco, hcy⟩ := (HREL.out.later hbel).cell_at (k + 1) (sans set sub) (Nat.le_refl _) (by omega) (by rw [HMM.out]; exact hus)
              have htb := tk_bounds HO.out who (bids.length - (k + 1)) (k + 1) (by omega) (sans set sub)
              have hcr := hrow.cell set
              rw [ints_get _ _ (by rw [rowAt_len]; exact hlt), rowAt_get _ _ _ _ _ _ hlt] at hcr
              have hfr := hrow.free set
              have han1 := i64_andNot sub set (by omega) (by omega)
              have han2 := i64_andNot set sub (by omega) (by omega)
              have hsh := btI who k
              have HBT : Hid (bt who k = (who / 2 ^ k % 2 == 1)) := rfl
              have HYES := Lib.hid (@bestTo_yes b t (bt who k) set sub)
              have HNO := Lib.hid (@bestTo_no b t (bt who k) set sub)
              rw [HBK.out] at hbd hblen hcx hcap2 hcb
              rw [hblen, HMM.out] at hcb hcap2
              rw [HTK.out] at hcy htb
              rw [HMM.out] at hco
              have HROW := Lib.hid hrow
              have HBEL := Lib.hid hbel
              obtain ⟨d, hd⟩ : ∃ d, who / 2 ^ k = d := ⟨_, rfl⟩
              obtain ⟨u1, hu1⟩ : ∃ u1, sans sub set = u1 := ⟨_, rfl⟩
              obtain ⟨u2, hu2⟩ : ∃ u2, sans set sub = u2 := ⟨_, rfl⟩
              rw [hd] at hsh HBT
              rw [hu1] at han1 HYES HNO
              rw [hu2] at han2 hus hcy htb HYES
              obtain ⟨x, hx⟩ : ∃ x, b.getD sub 0 = x := ⟨_, rfl⟩
              obtain ⟨y, hy⟩ : ∃ y, t.getD u2 0 = y := ⟨_, rfl⟩
              obtain ⟨r, hr⟩ : ∃ r, bestTo b t (bt who k) set sub = r := ⟨_, rfl⟩
              have HSET := Lib.hid (rowAt_set M b t (bt who k) set sub)
              have HSAME := Lib.hid (rowAt_same M b t (bt who k) set sub)
              rw [hx] at hcx hbd HYES
              rw [hy] at hcy htb HYES
              rw [hr] at hcr HYES HNO HSAME
              clear hofs hbw hsl hrow hbel hd hu1 hu2 hx hy hr hblen
              have hsM : sub < M := by omega
              have HNEW : Hid (u1 = 0 → (sub = 0 ∨ bt who k = true) → Row 2 (wr.drew.setCell ⟨wo.heap.size, set, none⟩ (.int .i64 (if r < x + y then x + y else r))) wo.heap.size (ints (rowAt M b t (bt who k) set (sub + 1)))) := by
                intro g1 g2
                rw [← HSET.out _ (HYES.out g1 g2), goMax, ← ints_set]
                exact HROW.out.drew.store set _
              have HBEL2 : Hid (∀ u, Below wo.heap.size wo (wr.drew.setCell ⟨wo.heap.size, set, none⟩ u)) := fun u => HBEL.out.drew.setCell (Nat.le_refl _) u
              clear HSET HYES
              by_cases h1 : u1 = 0
              · have hb1 : ((u1 : Int) == 0) = true := by rw [beq_iff_eq]; omega
                have HNEW := Lib.hid (HNEW.out h1)
                have hxy : IntKind.i64.wrap (x + y) = x + y := IntWalk.i64_in _ (by omega)
                have hk1 : IntKind.i64.wrap ((k : Int) + 1) = (k : Int) + 1 := IntWalk.i64_in _ (by omega)
                have hk2 : 0 ≤ (k : Int) + 1 := by omega
                have hk3 : ((k : Int) + 1).toNat = k + 1 := by omega
                have hk4 : (k : Int) + 1 < (bids.length : Int) + 1 := by omega
                clear h1
                by_cases h2 : sub = 0
                · have hb2 : ((sub : Int) == 0) = true := by rw [beq_iff_eq]; omega
                  have H2 := Lib.hid h2
                  clear h2 HBT
                  go_wp2
                  go_still_tail 26, (by kernel_rfl)
                  change wpList _ _ _ _ _ wr.drew
                  go_wp2
                  go_roundw
                  case rel => exact ⟨sub + 1, by omega, by go_num, HNEW.out (Or.inl H2.out), HBEL2.out _⟩
                  case measure => simp [intOf]; omega
                · have hb2 : ((sub : Int) == 0) = false := by rw [beq_eq_false_iff_ne]; omega
                  have H2 := Lib.hid h2
                  clear h2
                  by_cases hodd : d % 2 = 1
                  · have HT : Hid (bt who k = true) := by show _ = _; rw [HBT.out]; simpa using hodd
                    have hb3 : ((d : Int) % 2 == 1) = true := by rw [beq_iff_eq]; omega
                    clear hodd HBT
                    go_wp2
                    go_still_tail 26, (by kernel_rfl)
                    change wpList _ _ _ _ _ wr.drew
                    go_wp2
                    go_roundw
                    case rel => exact ⟨sub + 1, by omega, by go_num, HNEW.out (Or.inr HT.out), HBEL2.out _⟩
                    case measure => simp [intOf]; omega
                  · have HT : Hid (bt who k = false) := by show _ = _; rw [HBT.out]; simpa using hodd
                    have hb3 : ((d : Int) % 2 == 1) = false := by rw [beq_eq_false_iff_ne]; omega
                    have HS : Hid (Row 2 wr wo.heap.size (ints (rowAt M b t (bt who k) set (sub + 1)))) := by
                      rw [← HSAME.out (HNO.out (fun h => h.2.elim H2.out (fun g => by rw [HT.out] at g; cases g)))]; exact HROW.out
                    clear hodd HBT HSAME HNO
                    go_wp2
                    go_roundw
                    case rel => exact ⟨sub + 1, by omega, by go_num, HS.out, HBEL.out⟩
                    case measure => simp [intOf]; omega
              · have hb1 : ((u1 : Int) == 0) = false := by rw [beq_eq_false_iff_ne]; omega
                have HS : Hid (Row 2 wr wo.heap.size (ints (rowAt M b t (bt who k) set (sub + 1)))) := by
                  rw [← HSAME.out (HNO.out (fun h => h1 h.1))]; exact HROW.out
                clear h1 HSAME HNO HNEW HBT
                go_wp2
                go_roundw
                case rel => exact ⟨sub + 1, by omega, by go_num, HS.out, HBEL.out⟩
                case measure => simp [intOf]; omega
            · obtain rfl : sub = set + 1 := by omega
              have HROW : Hid (Row 2 wr wo.heap.size (ints (rowAt M b t (bt who k) (set + 1) 0))) := by rw [← rowAt_next]; exact hrow
              have HBEL := Lib.hid hbel
              clear hrow hbel
              go_wp2
              go_roundw
              case rel => exact ⟨set + 1, by omega, by go_num, HROW.out, HBEL.out⟩
              case measure => simp [intOf]; omega
        · obtain rfl : set = M := by omega
          have hr := HREL.out.later hbel
          have hfin : rowAt set b t (bt who k) set 0 = tk m bids who k := by
            rw [tk_step _ _ _ _ hkn, HBK.out, HTK.out, ← HMM.out, rowAt_end]
          rw [hfin] at hrow
          obtain ⟨⟨u, hcu⟩, hfu⟩ := hr.some_at k (by omega)
          have hput := TabRel.put (by decide) hr (by omega) (Nat.le_refl _) HREL.out.below.size hrow
          rw [HMM.out] at hput
          have HPUT := Lib.hid hput
          clear hr hfin hrow hbel hput
          go_wp2
          go_roundw
          case rel => exact ⟨k, by omega, by go_num, HPUT.out⟩
          case measure => simp [intOf]
end Go.Proofs.YthbfgmgpploneaaDoor
