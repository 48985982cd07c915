import Derived.Test.YthbfgmgpploneaaDoorB1
set_option linter.unusedVariables false
set_option linter.unusedSimpArgs false
set_option linter.unnecessarySimpa false
namespace Go.Proofs.YthbfgmgpploneaaDoor
open Go.RowKit

theorem OwnM.snoc {TR T base : Nat} {W w' : World} {v' u : Value} {rows : List (List Int)} {vs : List Value} {r : List Int} (hne : T ≠ TR) (hl : vs.length = rows.length)
    (hr : ∀ i u, vs[i]? = some u → Own T base W u (ints (rows.getD i []))) (hu : Own T base W u (ints r)) (ho : Own TR base w' v' (vs ++ [u])) (hk : ∀ T b2 v2 ys, T ≠ TR → Own T b2 W v2 ys → Own T b2 w' v2 ys) :
    OwnM TR T base w' v' (rows ++ [r]) := by
  refine ⟨vs ++ [u], by simp [hl], ho, fun i y hy => ?_⟩
  rcases Nat.lt_or_ge i vs.length with h | h
  · rw [List.getElem?_append_left h] at hy
    have e : (rows ++ [r]).getD i [] = rows.getD i [] := by rw [List.getD_eq_getElem?_getD, List.getD_eq_getElem?_getD, List.getElem?_append_left (by omega)]
    rw [e]; exact hk T _ _ _ hne (hr i y hy)
  · have hi : i = vs.length := by have := (List.getElem?_eq_some_iff.1 hy).1; simp at this; omega
    subst hi
    rw [List.getElem?_append_right (Nat.le_refl _), Nat.sub_self] at hy
    cases hy
    have e : (rows ++ [r]).getD vs.length [] = r := by rw [List.getD_eq_getElem?_getD, hl, List.getElem?_append_right (Nat.le_refl _), Nat.sub_self]; rfl
    rw [e]; exact hk T _ _ _ hne hu
theorem Own.one {T base : Nat} {w : World} {v : Value} {xs : List Value} (h : Own T base w v xs) : v.oneCell' = true := h.sl.one
/-- the row of single bids, when the sets below 'set' are done, and the items below k of 'set' -/
def sAt (m M : Nat) (o : List Int) (set k : Nat) : List Int := (List.range M).map fun q => if q < set then singleTo o q m else if q = set then singleTo o set k else 0
theorem sAt_len (m M : Nat) (o : List Int) (set k : Nat) : (sAt m M o set k).length = M := by simp [sAt]
theorem sAt_get (m M : Nat) (o : List Int) (set k : Nat) (h : set < M) : (sAt m M o set k).getD set 0 = singleTo o set k := by simp [sAt, h]
theorem sAt_zero (m M : Nat) (o : List Int) : sAt m M o 0 0 = List.replicate M 0 := by
  apply List.ext_getElem
  · simp [sAt]
  · intro i h1 h2
    simp only [sAt, List.getElem_map, List.getElem_range, Nat.not_lt_zero, if_false, List.getElem_replicate]
    split <;> simp [singleTo]
theorem sAt_next (m M : Nat) (o : List Int) (set : Nat) : sAt m M o set m = sAt m M o (set + 1) 0 := by
  apply List.ext_getElem
  · simp [sAt]
  · intro i h1 h2
    simp only [sAt, List.getElem_map, List.getElem_range]
    rcases Nat.lt_trichotomy i set with h | h | h
    · rw [if_pos h, if_pos (by omega)]
    · subst h; rw [if_neg (by omega), if_pos rfl, if_pos (by omega)]
    · rw [if_neg (by omega), if_neg (by omega), if_neg (by omega)]
      by_cases h' : i = set + 1
      · subst h'; rw [if_pos rfl]; rfl
      · rw [if_neg h']
theorem sAt_end (m : Nat) (o : List Int) : sAt m (2 ^ m) o (2 ^ m) 0 = singleRow m o := by
  apply List.ext_getElem
  · simp [sAt, singleRow]
  · intro i h1 h2
    have hi : i < 2 ^ m := by simpa [sAt] using h1
    simp only [sAt, singleRow, List.getElem_map, List.getElem_range]
    rw [if_pos hi]
theorem sAt_set (m M : Nat) (o : List Int) (set k : Nat) (v : Int) (hv : singleTo o set (k + 1) = v) : (sAt m M o set k).set set v = sAt m M o set (k + 1) := by
  apply List.ext_getElem
  · simp [sAt]
  · intro i h1 h2
    rw [List.getElem_set]
    simp only [sAt, List.getElem_map, List.getElem_range]
    by_cases h : set = i
    · subst h; rw [if_pos rfl, if_neg (by omega), if_pos rfl, hv]
    · rw [if_neg h]
      by_cases h' : i < set
      · rw [if_pos h', if_pos h']
      · rw [if_neg h', if_neg h', if_neg (by omega), if_neg (by omega)]
theorem sAt_same (m M : Nat) (o : List Int) (set k : Nat) (hv : singleTo o set (k + 1) = singleTo o set k) : sAt m M o set k = sAt m M o set (k + 1) := by unfold sAt; rw [hv]
theorem singleTo_yes {o : List Int} {s k : Nat} (h : bt s k = true) : singleTo o s (k + 1) = max (singleTo o s k) (o.getD k 0) := by simp only [singleTo]; rw [h]; rfl
theorem singleTo_no {o : List Int} {s k : Nat} (h : bt s k = false) : singleTo o s (k + 1) = singleTo o s k := by simp only [singleTo]; rw [h]; rfl
theorem map_take_succ {α β : Type} (f : α → β) (l : List α) (k : Nat) (d : α) (hk : k < l.length) : (l.map f).take (k + 1) = (l.map f).take k ++ [f (l.getD k d)] := by
  rw [List.take_succ_eq_append_getElem (by simpa using hk)]
  simp [hk]
set_option maxRecDepth 100000 in
set_option maxHeartbeats 4000000 in
theorem single_any (v : Value) (m : Nat) (bids : List (List Int)) (w : World) (hl : Mat w v bids) (hm : m ≤ 6) (hn : bids.length ≤ 7) (ho : ∀ i, i < bids.length → (bids.getD i []).length = m) :
    Calls Tryd.prog 41 #[.int .i64 m, v] w fun e w' => ∃ v', e = .returned v' ∧ OwnM 31 2 w.heap.size w' v' (singleP m bids) ∧ Below w.heap.size w w' := by
  obtain ⟨p, cap, rfl, hlc, hcm⟩ := hl.form_
  unfold maxLen at hcm
  have hM := wrap_pow m (by omega)
  have hM64 := pow_le64 hm
  have hM0 := pow_pos2 m
  obtain ⟨M, hMM⟩ : ∃ M, 2 ^ m = M := ⟨_, rfl⟩
  rw [hMM] at hM hM64 hM0
  have HMM := Lib.hid hMM
  have HL := Lib.hid hl
  have HO := Lib.hid ho
  clear hl hMM ho
  go_enter Tryd.func41, Tryd.ntmps41
  go_wp2
  go_loopw [5, 6, 7, 8, 9] (fun o i _ _ _ wr => ∃ i' : Nat, i' ≤ bids.length ∧ i = .int .i64 i' ∧ OwnM 31 2 w.heap.size wr o ((singleP m bids).take i') ∧ Below w.heap.size w wr) (fun _ i _ _ _ _ => bids.length - (intOf i).toNat)
  case atStart => exact ⟨0, Nat.zero_le _, rfl, OwnM.nil _ _ _ _, Below.refl _ _⟩
  case round =>
    obtain ⟨i, hi, rfl, hown, hbel⟩ := hrel
    by_cases hlt : i < bids.length
    · obtain ⟨wo, hwo⟩ : ∃ wo : World, wo = wr := ⟨_, rfl⟩
      subst hwo
      have HOWN := Lib.hid hown
      have HBW := Lib.hid hbel
      have HTAKE : Hid ((singleP m bids).take (i + 1) = (singleP m bids).take i ++ [singleRow m (bids.getD i [])]) := map_take_succ _ _ _ [] hlt
      clear hown hbel
      go_wp2_with (first | (at_make; refine wpList_make_row _ rfl _ _ 31 rfl 2 (.int .i64 0) 8 Tryd.underlying31 Tryd.info2 rfl .i64 .i64 _ _ M rfl rfl ?e1 ?e2 ?e3 ?e4 ?_))
      case e1 => rfl
      case e2 => rfl
      case e3 => omega
      case e4 => unfold maxLen; omega
      intro w3 hrow hbel
      obtain ⟨b, hbk⟩ : ∃ b, bids.getD i [] = b := ⟨_, rfl⟩
      have HBK := Lib.hid hbk
      have HROW : Hid (Row 2 w3 wo.heap.size (ints (sAt m M b 0 0))) := by rw [sAt_zero, ← ints_replicate]; exact hrow
      have HBEL := Lib.hid hbel
      clear hrow hbel hbk
      go_wp2
      go_loopw [8, 9] (fun s _ wx => ∃ set : Nat, set ≤ M ∧ s = .int .i64 set ∧ Row 2 wx wo.heap.size (ints (sAt m M b set 0)) ∧ Below wo.heap.size wo wx) (fun s _ _ => M - (intOf s).toNat)
      case atStart => exact ⟨0, Nat.zero_le _, rfl, HROW.out, HBEL.out⟩
      case round =>
        obtain ⟨set, hset, rfl, hrow, hbel⟩ := hrel
        clear HROW HBEL
        by_cases hsM : set < M
        · obtain ⟨wm, hwm⟩ : ∃ wm : World, wm = wr := ⟨_, rfl⟩
          subst hwm
          have HROW := Lib.hid hrow
          have HBEL := Lib.hid hbel
          clear hrow hbel
          go_wp2
          go_loopw [9] (fun s wx => ∃ k : Nat, k ≤ m ∧ s = .int .i64 k ∧ Row 2 wx wo.heap.size (ints (sAt m M b set k)) ∧ Below wo.heap.size wo wx) (fun s _ => m - (intOf s).toNat)
          case atStart => exact ⟨0, Nat.zero_le _, rfl, HROW.out, HBEL.out⟩
          case round =>
            obtain ⟨k, hk, rfl, hrow, hbel⟩ := hrel
            clear HROW HBEL
            by_cases hkm : k < m
            · have hbw := HBW.out.trans (hbel.mono HBW.out.size)
              obtain ⟨b1, o1, c1, b2, o2, c2, hv, hcb, hcx, _, hlc2⟩ := (HL.out.below hbw).at2 rfl hlt (M := m) (s := k) (HO.out i hlt) hkm rfl
              cases hv
              have hcr := hrow.cell set
              rw [ints_get _ _ (by rw [sAt_len]; exact hsM), sAt_get _ _ _ _ _ hsM] at hcr
              have hfr := hrow.free set
              have hsh := btI set k
              have HBT : Hid (bt set k = (set / 2 ^ k % 2 == 1)) := rfl
              rw [HBK.out] at hcx
              have HROW := Lib.hid hrow
              have HBEL := Lib.hid hbel
              have HSET := Lib.hid (sAt_set m M b set k)
              have HSAME := Lib.hid (sAt_same m M b set k)
              have HYES := Lib.hid (@singleTo_yes b set k)
              have HNO := Lib.hid (@singleTo_no b set k)
              obtain ⟨d, hd⟩ : ∃ d, set / 2 ^ k = d := ⟨_, rfl⟩
              rw [hd] at hsh HBT
              obtain ⟨x, hx⟩ : ∃ x, b.getD k 0 = x := ⟨_, rfl⟩
              obtain ⟨r, hr⟩ : ∃ r, singleTo b set k = r := ⟨_, rfl⟩
              rw [hx] at hcx HYES
              rw [hr] at hcr HYES HNO HSAME
              clear hrow hbel hbw hd hx hr
              by_cases hodd : d % 2 = 1
              · have HT : Hid (bt set k = true) := by show _ = _; rw [HBT.out]; simpa using hodd
                have hb3 : ((d : Int) % 2 == 1) = true := by rw [beq_iff_eq]; omega
                have HNEW : Hid (Row 2 (wr.drew.setCell ⟨wo.heap.size, set, none⟩ (.int .i64 (if r < x then x else r))) wo.heap.size (ints (sAt m M b set (k + 1)))) := by
                  rw [← HSET.out _ (HYES.out HT.out), goMax, ← ints_set]
                  exact HROW.out.drew.store set _
                have HBEL2 : Hid (∀ u, Below wo.heap.size wo (wr.drew.setCell ⟨wo.heap.size, set, none⟩ u)) := fun u => HBEL.out.drew.setCell (Nat.le_refl _) u
                clear hodd HBT HSET HSAME HYES HNO
                go_wp2
                go_still_tail 15, (by kernel_rfl)
                change wpList _ _ _ _ _ wr.drew
                go_wp2
                go_roundw
                case rel => exact ⟨k + 1, by omega, by go_num, HNEW.out, HBEL2.out _⟩
                case measure => simp [intOf]; omega
              · have HT : Hid (bt set k = false) := by show _ = _; rw [HBT.out]; simpa using hodd
                have hb3 : ((d : Int) % 2 == 1) = false := by rw [beq_eq_false_iff_ne]; omega
                have HS : Hid (Row 2 wr wo.heap.size (ints (sAt m M b set (k + 1)))) := by
                  rw [← HSAME.out (HNO.out HT.out)]; exact HROW.out
                clear hodd HBT HSET HSAME HYES HNO
                go_wp2
                go_roundw
                case rel => exact ⟨k + 1, by omega, by go_num, HS.out, HBEL.out⟩
                case measure => simp [intOf]; omega
            · obtain rfl : k = m := by omega
              have HROW : Hid (Row 2 wr wo.heap.size (ints (sAt k M b (set + 1) 0))) := by rw [← sAt_next]; exact hrow
              have HBEL := Lib.hid hbel
              clear hrow hbel
              go_wp2
              go_roundw
              case rel => exact ⟨set + 1, by omega, by go_num, HROW.out, HBEL.out⟩
              case measure => simp [intOf]; omega
        · obtain rfl : set = M := by omega
          obtain ⟨vs, hvl, hvo, hvr⟩ := HOWN.out.below hbel (Nat.le_refl _)
          have hfin : sAt m set b set 0 = singleRow m b := by rw [← HMM.out, sAt_end]
          rw [hfin] at hrow
          have hlr : (ints (singleRow m b)).length = set := by rw [ints_length, singleRow_len, HMM.out]
          have HRO : Hid (Own 2 w.heap.size wr (.slice (some ⟨wo.heap.size, 0, none⟩) set set) (ints (singleRow m b))) := by
            have h2 := Own.of_row (T := 2) (base := w.heap.size) (cap := set) (xs := ints (singleRow m b)) (more := []) (by rw [List.append_nil]; exact hrow) HBW.out.size (by unfold maxLen; omega) (by rw [hlr]; simp)
            have e : Value.slice (some ⟨wo.heap.size, 0, none⟩) (ints (singleRow m b)).length set = .slice (some ⟨wo.heap.size, 0, none⟩) set set := by rw [hlr]
            rw [e] at h2; exact h2
          have HVL := Lib.hid hvl
          have HVO := Lib.hid hvo
          have HVR := Lib.hid hvr
          have HBX := Lib.hid (HBW.out.trans (hbel.mono HBW.out.size))
          have hv7 : vs.length ≤ 7 := by rw [hvl, List.length_take]; omega
          clear hfin hrow hbel hvl hvo hvr hlr
          go_wp2_with (first | (at_builtin; refine wpList_append_box wr rfl (.tmp 50) (.tmp 52) 22 rfl 31 (.slice none 0 0) 24 Tryd.underlying22 Tryd.info31 rfl (by omega) w.heap.size u5 vs rfl HVO.out (.slice (some ⟨wo.heap.size, 0, none⟩) set set) rfl rfl ?a1 ?a2 ?_))
          case a1 => omega
          case a2 => exact HBX.out.size
          intro v' w' hown hbel hkeep
          have HM2 : Hid (OwnM 31 2 w.heap.size w' v' ((singleP m bids).take (i + 1))) := by
            rw [HTAKE.out, HBK.out]; exact OwnM.snoc (by decide) HVL.out HVR.out HRO.out hown hkeep
          have HB2 := Lib.hid (HBX.out.trans hbel)
          clear hown hbel hkeep
          go_wp2
          go_roundw
          case rel => exact ⟨i + 1, by omega, by go_num, HM2.out, HB2.out⟩
          case measure => simp [intOf]; omega
    · obtain rfl : i = bids.length := by omega
      have HOWN : Hid (OwnM 31 2 w.heap.size wr u5 (singleP m bids)) := by
        rw [List.take_of_length_le (by simp [singleP])] at hown; exact hown
      have HALL := Lib.hid hbel
      clear hown hbel
      go_wp2
      go_ret
      exact ⟨_, rfl, HOWN.out, HALL.out⟩
end Go.Proofs.YthbfgmgpploneaaDoor
