import Derived.Test.YthbfgmgpploneaaDoorA8
set_option linter.unusedVariables false
set_option linter.unusedSimpArgs false
set_option linter.unnecessarySimpa false
namespace Go.Proofs.YthbfgmgpploneaaDoor
open Go.RowKit

theorem payP_take (m : Nat) (bids : List (List Int)) (k : Nat) (hk : k < bids.length) : (payP m bids).take (k + 1) = (payP m bids).take k ++ [payOf m bids k] := range_map_take _ _ _ hk
theorem offers_bd {m : Nat} {bids : List (List Int)} (h : Offers m bids) (k s : Nat) : 0 ≤ (bids.getD k []).getD s 0 ∧ (bids.getD k []).getD s 0 ≤ 1000000 := by
  by_cases hk : k < bids.length
  · exact offerB_at (h.at_ hk) s
  · rw [List.getD_eq_getElem?_getD (l := bids), List.getElem?_eq_none (by omega)]; simp
theorem othersTo_bd {m : Nat} {bids : List (List Int)} (h : Offers m bids) (l : List Int) (i k : Nat) : 0 ≤ othersTo bids l i k ∧ othersTo bids l i k ≤ 1000000 * (k : Int) := by
  induction k with
  | zero => simp [othersTo]
  | succ k ih =>
    have := offers_bd h k (l.getD k 0).toNat
    simp only [othersTo]; split <;> omega
theorem worthP_bd {m : Nat} {bids : List (List Int)} (h : Offers m bids) (who : Nat) : 0 ≤ worthP m bids who ∧ worthP m bids who ≤ 1000000 * (bids.length : Int) := tk_bounds h who bids.length 0 (by omega) _
theorem othersTo_skip (bids : List (List Int)) (l : List Int) (i k : Nat) (h : k = i) : othersTo bids l i (k + 1) = othersTo bids l i k := by simp only [othersTo]; rw [if_pos h]
theorem othersTo_add (bids : List (List Int)) (l : List Int) (i k : Nat) (h : k ≠ i) : othersTo bids l i (k + 1) = othersTo bids l i k + (bids.getD k []).getD (l.getD k 0).toNat 0 := by simp only [othersTo]; rw [if_neg h]
set_option maxRecDepth 100000 in
set_option maxHeartbeats 4000000 in
theorem pay_any (v : Value) (m : Nat) (bids : List (List Int)) (w : World) (hl : Mat w v bids) (hm : m ≤ 6) (hn : bids.length ≤ 7) (ho : Offers m bids) :
    Calls Tryd.prog 32 #[.int .i64 m, v] w fun e w' => ∃ v', e = .returned v' ∧ Own 2 w.heap.size w' v' (ints (payP m bids)) ∧ Below w.heap.size w w' := by
  have hM64 := pow_le64 hm
  obtain ⟨p, cap, rfl, hlc, hcm⟩ := hl.form_
  unfold maxLen at hcm
  have HB := Lib.hid (fun W hb => best_any _ m bids W (hl.below hb) hm hn ho)
  obtain ⟨M, hMM⟩ : ∃ M, 2 ^ m = M := ⟨_, rfl⟩
  rw [hMM] at hM64
  have HMM := Lib.hid hMM
  have HL := Lib.hid hl
  have HO := Lib.hid ho
  clear hl ho hMM
  go_enter Tryd.func32, Tryd.ntmps32
  go_wp2_with fail
  refine (HB.out _ (Below.refl _ _)).mono ?_
  rintro e w1 ⟨lv, rfl, hown, hb1⟩
  have HLS := Lib.hid hown.sl
  obtain ⟨lp, lc, hlv, hll, _⟩ := hown.sl.form
  rw [bestP_len] at hlv hll
  subst hlv
  have HB1 := Lib.hid hb1
  clear hown hb1 HB
  go_wp2
  go_loopw [6, 7, 8, 9] (fun o i _ _ wr => ∃ k : Nat, k ≤ bids.length ∧ i = .int .i64 k ∧ Own 2 w1.heap.size wr o (ints ((payP m bids).take k)) ∧ Below w1.heap.size w1 wr) (fun _ i _ _ _ => bids.length - (intOf i).toNat)
  case atStart => exact ⟨0, Nat.zero_le _, rfl, World.ownsRow_nil _ _ _ _, Below.refl _ _⟩
  case round =>
    obtain ⟨i, hi, rfl, hown, hbel⟩ := hrel
    by_cases hlt : i < bids.length
    · have HTAKE := Lib.hid (payP_take m bids i hlt)
      have hE := best_bounds hn
      have hPi : 2 ^ i ≤ 64 := pow_le64 (by omega)
      have hwp := wrap_pow i (by omega)
      have hand := i64_andNot (2 ^ bids.length - 1) (2 ^ i) (by omega) (by omega)
      have hub : sans (2 ^ bids.length - 1) (2 ^ i) < 1000 := Nat.lt_of_le_of_lt (sans_le _ _) hE
      have HPAY : Hid (payOf m bids i = worthP m bids (sans (2 ^ bids.length - 1) (2 ^ i)) - othersTo bids (bestP m bids) i bids.length) := rfl
      have hWb := worthP_bd HO.out (sans (2 ^ bids.length - 1) (2 ^ i))
      obtain ⟨E, hEE⟩ : ∃ E, 2 ^ bids.length - 1 = E := ⟨_, rfl⟩
      have HEV : Hid (∀ W, Calls Tryd.prog 28 #[.slice p bids.length cap] W fun e w' => e = .returned (.int .i64 (E : Int)) ∧ W = w') := fun W => by rw [← hEE]; exact everyone_form p bids.length cap W hlc hn
      obtain ⟨P, hPP⟩ : ∃ P, 2 ^ i = P := ⟨_, rfl⟩
      rw [hEE, hPP] at hand hub HPAY hWb
      rw [hPP] at hwp
      obtain ⟨u, hu⟩ : ∃ u, sans E P = u := ⟨_, rfl⟩
      rw [hu] at hand hub HPAY hWb
      have HWO : Hid (∀ W, Below w1.heap.size w1 W → Calls Tryd.prog 27 #[.int .i64 m, .slice p bids.length cap, .int .i64 u] W fun e w' => e = .returned (.int .i64 (worthP m bids u)) ∧ Below W.heap.size W w') := fun W hb =>
        worth_any _ m bids u W (HL.out.below (Beh.all ⟨HB1.out, hb⟩)) hm hn HO.out hub
      obtain ⟨V, hV⟩ : ∃ V, worthP m bids u = V := ⟨_, rfl⟩
      rw [hV] at HPAY hWb HWO
      have HOWN := Lib.hid hown
      have HBEL := Lib.hid hbel
      obtain ⟨wo, hwo⟩ : ∃ wo : World, wo = wr := ⟨_, rfl⟩
      subst hwo
      clear hEE hPP hu hV hown hbel
      go_wp2
      go_region_with (first
        | (go_at_call 28; refine (HEV.out _).mono ?_; rintro e w' ⟨rfl, rfl⟩)
        | (go_at_call 27; refine (HWO.out _ HBEL.out.drew).mono ?_; rintro e w2 ⟨rfl, hb2⟩; have HB2 := Lib.hid hb2; clear hb2))
      have HB3 : Hid (Below wo.heap.size wo w2) := (Below.refl _ _).drew.trans HB2.out
      clear HWO HEV hand hwp
      go_wp2
      go_loopw [8, 9] (fun y k wx => ∃ k' : Nat, k' ≤ bids.length ∧ k = .int .i64 k' ∧ y = .int .i64 (V - othersTo bids (bestP m bids) i k') ∧ Below wo.heap.size wo wx) (fun _ k _ => bids.length - (intOf k).toNat)
      case atStart => exact ⟨0, Nat.zero_le _, rfl, by simp only [othersTo]; rw [Int.sub_zero], HB3.out⟩
      case round =>
        obtain ⟨k, hk, rfl, rfl, hb⟩ := hrel
        clear HB2 HB3
        by_cases hkn : k < bids.length
        · have HSK := Lib.hid (othersTo_skip bids (bestP m bids) i k)
          have HAD := Lib.hid (othersTo_add bids (bestP m bids) i k)
          have hbt : Below w1.heap.size w1 wr := HBEL.out.trans (hb.mono HBEL.out.size)
          have hbw := HB1.out.trans (hbt.mono HB1.out.size)
          have hpl := pick_lt HO.out hkn
          have hbd := offers_bd HO.out k (pick m bids k)
          have hot := othersTo_bd HO.out (bestP m bids) i k
          obtain ⟨b1, o1, c1, b2, o2, c2, hv, hcb, hcx, hlc1, hlc2⟩ := (HL.out.below hbw).at2 rfl hkn (M := M) (s := pick m bids k) (by rw [← HMM.out]; exact offerB_len (HO.out.at_ hkn)) (by rw [← HMM.out]; exact hpl) rfl
          cases hv
          obtain ⟨b3, o3, c3, hv, _, _, _, hcl⟩ := (HLS.out.below hbt).int_at k (by rw [bestP_len]; exact hkn)
          rw [bestP_len] at hv
          cases hv
          rw [bestP_get _ _ _ hkn] at hcl HAD
          rw [Int.toNat_natCast] at HAD
          rw [HMM.out] at hpl
          have HB := Lib.hid hb
          obtain ⟨q, hq⟩ : ∃ q, pick m bids k = q := ⟨_, rfl⟩
          rw [hq] at hpl hbd hcx hcl HAD
          obtain ⟨x, hx⟩ : ∃ x, (bids.getD k []).getD q 0 = x := ⟨_, rfl⟩
          obtain ⟨z, hz⟩ : ∃ z, othersTo bids (bestP m bids) i k = z := ⟨_, rfl⟩
          rw [hx] at hcx hbd HAD
          rw [hz] at hot HAD HSK ⊢
          have hsub : IntKind.i64.wrap (V - z - x) = V - z - x := IntWalk.i64_in _ (by omega)
          clear hb hbt hbw hq hx hz
          by_cases hki : k = i
          · have hb1 : ((k : Int) != (i : Int)) = false := by rw [bne_eq_false_iff_eq]; omega
            have HE := Lib.hid (HSK.out hki)
            clear hki HSK HAD
            go_wp2
            go_roundw
            case rel => exact ⟨k + 1, by omega, by go_num, by rw [HE.out], HB.out⟩
            case measure => simp [intOf]; omega
          · have hb1 : ((k : Int) != (i : Int)) = true := by rw [bne_iff_ne]; omega
            have HE := Lib.hid (HAD.out hki)
            clear hki HSK HAD
            go_wp2
            go_quiet (fail)
            go_wp2
            go_roundw
            case rel => exact ⟨k + 1, by omega, by go_num, by rw [HE.out]; exact congrArg (Value.int .i64) (by omega), below_drewN HB.out _⟩
            case measure => simp [intOf]; omega
        · obtain rfl : k = bids.length := by omega
          have HO6 : Hid (Own 2 w1.heap.size wr u6 (ints ((payP m bids).take i))) := HOWN.out.below hb (Nat.le_refl _)
          have HBB : Hid (Below w1.heap.size w1 wr) := HBEL.out.trans (hb.mono HBEL.out.size)
          have HV : Hid (payOf m bids i = V - othersTo bids (bestP m bids) i bids.length) := HPAY.out
          obtain ⟨y, hy⟩ : ∃ y, V - othersTo bids (bestP m bids) i bids.length = y := ⟨_, rfl⟩
          rw [hy] at HV ⊢
          clear hb hy
          go_wp2_with (first | (at_builtin; refine wpList_append_box wr rfl (.tmp 48) (.tmp 50) 31 rfl 2 (.int .i64 0) 8 Tryd.underlying31 Tryd.info2 rfl (by omega) w1.heap.size u6 (ints ((payP m bids).take i)) rfl HO6.out (.int .i64 y) rfl rfl ?a1 ?a2 ?_))
          case a1 => rw [ints_length, List.length_take]; omega
          case a2 => exact HBB.out.size
          intro v' w' hown hbel _
          have HOWN2 : Hid (Own 2 w1.heap.size w' v' (ints ((payP m bids).take (i + 1)))) := by
            rw [HTAKE.out, HV.out, ints_append]; exact hown
          have HBEL2 := Lib.hid (HBB.out.trans hbel)
          clear hown hbel HO6 HBB
          go_wp2
          go_roundw
          case rel => exact ⟨i + 1, by omega, by go_num, HOWN2.out, HBEL2.out⟩
          case measure => simp [intOf]; omega
    · obtain rfl : i = bids.length := by omega
      have HOWN : Hid (Own 2 w.heap.size wr u6 (ints (payP m bids))) := by
        have := hown.base HB1.out.size
        rw [List.take_of_length_le (by rw [payP_len]; exact Nat.le_refl _)] at this
        exact this
      have HALL := Lib.hid (Beh.all ⟨HB1.out, hbel⟩)
      clear hown hbel
      go_wp2
      go_ret
      exact ⟨_, rfl, HOWN.out, HALL.out⟩
end Go.Proofs.YthbfgmgpploneaaDoor
