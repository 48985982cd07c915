import Derived.Test.YthbfgmgpploneaaDoorB2
set_option linter.unusedVariables false
set_option linter.unusedSimpArgs false
set_option linter.unnecessarySimpa false
namespace Go.Proofs.YthbfgmgpploneaaDoor
open Go.RowKit

theorem itemsRow_len (m : Nat) (b : List Int) : (itemsRow m b).length = m := by simp [itemsRow]
theorem itemsRow_take (m : Nat) (b : List Int) (k : Nat) (hk : k < m) : (itemsRow m b).take (k + 1) = (itemsRow m b).take k ++ [b.getD (2 ^ k) 0] := range_map_take _ _ _ hk
theorem pow_lt_pow2 {k m : Nat} (h : k < m) : 2 ^ k < 2 ^ m := Nat.pow_lt_pow_right (by omega) h
set_option maxRecDepth 100000 in
set_option maxHeartbeats 4000000 in
theorem items_any (v : Value) (m : Nat) (bids : List (List Int)) (w : World) (hl : Mat w v bids) (hm : m ≤ 6) (hn : bids.length ≤ 7) (ho : ∀ i, i < bids.length → (bids.getD i []).length = 2 ^ m) :
    Calls Tryd.prog 59 #[.int .i64 m, v] w fun e w' => ∃ v', e = .returned v' ∧ OwnM 31 2 w.heap.size w' v' (itemsP m bids) ∧ Below w.heap.size w w' := by
  obtain ⟨p, cap, rfl, hlc, hcm⟩ := hl.form_
  unfold maxLen at hcm
  have hM64 := pow_le64 hm
  have HPOW : Hid (∀ k, k < m → 2 ^ k < 2 ^ m) := fun k hk => pow_lt_pow2 hk
  obtain ⟨M, hMM⟩ : ∃ M, 2 ^ m = M := ⟨_, rfl⟩
  rw [hMM] at hM64 HPOW ho
  have HL := Lib.hid hl
  have HO := Lib.hid ho
  clear hl hMM ho
  go_enter Tryd.func59, Tryd.ntmps59
  go_wp2
  go_loopw [5, 6, 7, 8] (fun o i _ _ wr => ∃ i' : Nat, i' ≤ bids.length ∧ i = .int .i64 i' ∧ OwnM 31 2 w.heap.size wr o ((itemsP m bids).take i') ∧ Below w.heap.size w wr) (fun _ i _ _ _ => bids.length - (intOf i).toNat)
  case atStart => exact ⟨0, Nat.zero_le _, rfl, OwnM.nil _ _ _ _, Below.refl _ _⟩
  case round =>
    obtain ⟨i, hi, rfl, hown, hbel⟩ := hrel
    by_cases hlt : i < bids.length
    · obtain ⟨wo, hwo⟩ : ∃ wo : World, wo = wr := ⟨_, rfl⟩
      subst hwo
      have HOWN := Lib.hid hown
      have HBW := Lib.hid hbel
      have HTAKE : Hid ((itemsP m bids).take (i + 1) = (itemsP m bids).take i ++ [itemsRow m (bids.getD i [])]) := map_take_succ _ _ _ [] hlt
      obtain ⟨b, hbk⟩ : ∃ b, bids.getD i [] = b := ⟨_, rfl⟩
      have HBK := Lib.hid hbk
      clear hown hbel hbk
      go_wp2
      go_loopw [7, 8] (fun r k wx => ∃ k' : Nat, k' ≤ m ∧ k = .int .i64 k' ∧ Own 2 wo.heap.size wx r (ints ((itemsRow m b).take k')) ∧ Below wo.heap.size wo wx) (fun _ k _ => m - (intOf k).toNat)
      case atStart => exact ⟨0, Nat.zero_le _, rfl, World.ownsRow_nil _ _ _ _, Below.refl _ _⟩
      case round =>
        obtain ⟨k, hk, rfl, hown, hbel⟩ := hrel
        by_cases hkm : k < m
        · have hbw := HBW.out.trans (hbel.mono HBW.out.size)
          have hwk := wrap_pow k (by omega)
          have hP := HPOW.out k hkm
          obtain ⟨b1, o1, c1, b2, o2, c2, hv, hcb, hcx, _, hlc2⟩ := (HL.out.below hbw).at2 rfl hlt (M := M) (s := 2 ^ k) (HO.out i hlt) hP rfl
          cases hv
          rw [HBK.out] at hcx
          have HT2 := Lib.hid (itemsRow_take m b k hkm)
          have HR := Lib.hid hown
          have HBEL := Lib.hid hbel
          obtain ⟨P, hPP⟩ : ∃ P, 2 ^ k = P := ⟨_, rfl⟩
          rw [hPP] at hwk hP hcx HT2
          obtain ⟨x, hx⟩ : ∃ x, b.getD P 0 = x := ⟨_, rfl⟩
          rw [hx] at hcx HT2
          have hP2 : (P : Int) < (M : Int) := by omega
          clear hown hbel hbw hPP hx
          go_wp2
          go_region_law (refine step_append_box wr.drew _ rfl (.tmp 20) (.tmp 29) 31 rfl 2 (.int .i64 0) 8 Tryd.underlying31 Tryd.info2 rfl (by omega) wo.heap.size u7 (ints ((itemsRow m b).take k)) rfl HR.out.drew (.int .i64 x) rfl rfl rfl (by rw [ints_length, List.length_take]; omega) HBEL.out.size ?_; intro v' w' hown hbel _; have HOWN2 := Lib.hid hown; have HBX2 := Lib.hid hbel; clear hown hbel)
          all_goals
            go_wp2
            go_roundw
            case rel => exact ⟨k + 1, by omega, by go_num, by rw [HT2.out, ints_append]; exact HOWN2.out, HBEL.out.drew.trans HBX2.out⟩
            case measure => simp [intOf]; omega
        · obtain rfl : k = m := by omega
          rw [List.take_of_length_le (by rw [itemsRow_len]; exact Nat.le_refl _)] at hown
          obtain ⟨vs, hvl, hvo, hvr⟩ := HOWN.out.below hbel (Nat.le_refl _)
          obtain ⟨rp, rc, hrv, _, _⟩ := hown.sl.form
          subst hrv
          rw [itemsRow_len] at hown ⊢
          have HRO : Hid (Own 2 w.heap.size wr (.slice rp k rc) (ints (itemsRow k b))) := hown.base HBW.out.size
          have HVL := Lib.hid hvl
          have HVO := Lib.hid hvo
          have HVR := Lib.hid hvr
          have HBX := Lib.hid (HBW.out.trans (hbel.mono HBW.out.size))
          have hv7 : vs.length ≤ 7 := by rw [hvl, List.length_take]; omega
          clear hown hbel hvl hvo hvr
          go_wp2_with (first | (at_builtin; refine wpList_append_box wr rfl (.tmp 31) (.tmp 33) 22 rfl 31 (.slice none 0 0) 24 Tryd.underlying22 Tryd.info31 rfl (by omega) w.heap.size u5 vs rfl HVO.out (.slice rp k rc) rfl rfl ?a3 ?a4 ?_))
          case a3 => omega
          case a4 => exact HBX.out.size
          intro v' w' hown hbel hkeep
          have HM2 : Hid (OwnM 31 2 w.heap.size w' v' ((itemsP k bids).take (i + 1))) := by
            rw [HTAKE.out, HBK.out]; exact OwnM.snoc (by decide) HVL.out HVR.out HRO.out hown hkeep
          have HB2 := Lib.hid (HBX.out.trans hbel)
          clear hown hbel hkeep
          go_wp2
          go_roundw
          case rel => exact ⟨i + 1, by omega, by go_num, HM2.out, HB2.out⟩
          case measure => simp [intOf]; omega
    · obtain rfl : i = bids.length := by omega
      have HOWN : Hid (OwnM 31 2 w.heap.size wr u5 (itemsP m bids)) := by
        rw [List.take_of_length_le (by simp [itemsP])] at hown; exact hown
      have HALL := Lib.hid hbel
      clear hown hbel
      go_wp2
      go_ret
      exact ⟨_, rfl, HOWN.out, HALL.out⟩
end Go.Proofs.YthbfgmgpploneaaDoor
