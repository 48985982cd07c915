import Derived.Test.YthbfgmgpploneaaDoorB3
set_option linter.unusedVariables false
set_option linter.unusedSimpArgs false
set_option linter.unnecessarySimpa false
namespace Go.Proofs.YthbfgmgpploneaaDoor
open Go.RowKit

theorem isSingleP_iff (m : Nat) (bids : List (List Int)) : isSingleP m bids = true ↔ ∀ i, i < bids.length → ∀ s, s < 2 ^ m → singleTo (itemsRow m (bids.getD i [])) s m = (bids.getD i []).getD s 0 := by
  unfold isSingleP
  simp only [List.all_eq_true, List.mem_range, beq_iff_eq]
  constructor
  · intro h i hi s hs
    refine h _ ?_ s hs
    rw [List.getD_eq_getElem?_getD, List.getElem?_eq_getElem hi]; exact List.getElem_mem hi
  · intro h b hb s hs
    obtain ⟨i, hi, rfl⟩ := List.mem_iff_getElem.1 hb
    have := h i hi s hs
    rw [List.getD_eq_getElem?_getD, List.getElem?_eq_getElem hi] at this
    exact this
theorem isSingleP_no {m : Nat} {bids : List (List Int)} {i s : Nat} (hi : i < bids.length) (hs : s < 2 ^ m) (h : singleTo (itemsRow m (bids.getD i [])) s m ≠ (bids.getD i []).getD s 0) : isSingleP m bids = false := by
  cases hb : isSingleP m bids with
  | false => rfl
  | true => exact absurd ((isSingleP_iff m bids).1 hb i hi s hs) h
theorem itemsP_get (m : Nat) (bids : List (List Int)) (i : Nat) (hi : i < bids.length) : (itemsP m bids).getD i [] = itemsRow m (bids.getD i []) := by
  simp [itemsP, hi]
theorem singleP_get (m : Nat) (bids : List (List Int)) (i : Nat) (hi : i < bids.length) : (singleP m bids).getD i [] = singleRow m (bids.getD i []) := by
  simp [singleP, hi]
theorem itemsP_len (m : Nat) (bids : List (List Int)) : (itemsP m bids).length = bids.length := by simp [itemsP]
theorem singleP_len (m : Nat) (bids : List (List Int)) : (singleP m bids).length = bids.length := by simp [singleP]
set_option maxRecDepth 100000 in
set_option maxHeartbeats 4000000 in
theorem isSingle_any (v : Value) (m : Nat) (bids : List (List Int)) (w : World) (hl : Mat w v bids) (hm : m ≤ 6) (hn : bids.length ≤ 7) (ho : ∀ i, i < bids.length → (bids.getD i []).length = 2 ^ m) :
    Calls Tryd.prog 33 #[.int .i64 m, v] w fun e w' => e = .returned (.bool (isSingleP m bids)) ∧ Below w.heap.size w w' := by
  obtain ⟨p, cap, rfl, hlc, hcm⟩ := hl.form_
  unfold maxLen at hcm
  have hM := wrap_pow m (by omega)
  have hM64 := pow_le64 hm
  have HIT := Lib.hid (fun W hb => items_any _ m bids W (hl.below hb) hm hn ho)
  have HSI := Lib.hid (fun W v2 h2 => single_any v2 m (itemsP m bids) W h2 hm (by rw [itemsP_len]; exact hn) (fun i hi => by rw [itemsP_len] at hi; rw [itemsP_get _ _ _ hi, itemsRow_len]))
  have HNO : Hid (∀ i s, i < bids.length → s < 2 ^ m → singleTo (itemsRow m (bids.getD i [])) s m ≠ (bids.getD i []).getD s 0 → isSingleP m bids = false) := fun i s h1 h2 h3 => isSingleP_no h1 h2 h3
  have HYES := Lib.hid (isSingleP_iff m bids).2
  have HSR : Hid (∀ i, i < bids.length → ((singleP m (itemsP m bids)).getD i []).length = 2 ^ m) := fun i hi => by rw [singleP_get _ _ _ (by rw [itemsP_len]; exact hi), singleRow_len]
  have HSG : Hid (∀ i, i < bids.length → ∀ s, s < 2 ^ m → ((singleP m (itemsP m bids)).getD i []).getD s 0 = singleTo (itemsRow m (bids.getD i [])) s m) := fun i hi s hs => by rw [singleP_get _ _ _ (by rw [itemsP_len]; exact hi), singleRow_get _ _ _ hs, itemsP_get _ _ _ hi]
  obtain ⟨M, hMM⟩ : ∃ M, 2 ^ m = M := ⟨_, rfl⟩
  rw [hMM] at hM hM64 ho HNO HYES HSR HSG
  have HL := Lib.hid hl
  have HO := Lib.hid ho
  clear hl hMM ho
  go_enter Tryd.func33, Tryd.ntmps33
  go_wp2_with fail
  refine (HIT.out _ (Below.refl _ _)).mono ?_
  rintro e w1 ⟨iv, rfl, h1, hb1⟩
  have HI := Lib.hid h1.mat
  have HB1 := Lib.hid hb1
  clear h1 hb1 HIT
  go_wp2_with fail
  refine (HSI.out _ _ HI.out).mono ?_
  rintro e w2 ⟨sv, rfl, h2, hb2⟩
  have HS := Lib.hid h2.mat
  have HB2 := Lib.hid (HB1.out.trans (hb2.mono HB1.out.size))
  obtain ⟨sp, sc, hsv, hsl, _⟩ := h2.mat.form_
  rw [singleP_len, itemsP_len] at hsv hsl
  subst hsv
  clear h2 hb2 HSI HI HB1
  go_wp2
  go_loopw [6, 7] (fun i _ wr => ∃ k : Nat, k ≤ bids.length ∧ i = .int .i64 k ∧ Below w2.heap.size w2 wr ∧ ∀ i, i < k → ∀ s, s < M → singleTo (itemsRow m (bids.getD i [])) s m = (bids.getD i []).getD s 0) (fun i _ _ => bids.length - (intOf i).toNat)
  case atStart => exact ⟨0, Nat.zero_le _, rfl, Below.refl _ _, fun i hi => by omega⟩
  case round =>
    obtain ⟨i, hi, rfl, hb, hall⟩ := hrel
    have HALL := Lib.hid hall
    clear hall
    by_cases hlt : i < bids.length
    · obtain ⟨wo, hwo⟩ : ∃ wo : World, wo = wr := ⟨_, rfl⟩
      subst hwo
      have HB := Lib.hid hb
      clear hb
      go_wp2
      go_loopw [7] (fun s wx => ∃ k : Nat, k ≤ M ∧ s = .int .i64 k ∧ Below w2.heap.size w2 wx ∧ ∀ s, s < k → singleTo (itemsRow m (bids.getD i [])) s m = (bids.getD i []).getD s 0) (fun s _ => M - (intOf s).toNat)
      case atStart => exact ⟨0, Nat.zero_le _, rfl, HB.out, fun s hs => by omega⟩
      case round =>
        obtain ⟨k, hk, rfl, hb, hin⟩ := hrel
        have HIN := Lib.hid hin
        clear hin
        by_cases hkM : k < M
        · obtain ⟨b1, o1, c1, b2, o2, c2, hv, hcb, hcx, _, hlc2⟩ := (HL.out.below (HB2.out.trans (hb.mono HB2.out.size))).at2 rfl hlt (M := M) (s := k) (HO.out i hlt) hkM rfl
          cases hv
          obtain ⟨b3, o3, c3, b4, o4, c4, hv, hcs, hcy, _, hlc4⟩ := (HS.out.below hb).at2 (by rw [singleP_len, itemsP_len]) hlt (M := M) (s := k) (HSR.out i hlt) hkM (HSG.out i hlt k hkM)
          cases hv
          have HBAD := Lib.hid (HNO.out i k hlt hkM)
          have HBX := Lib.hid hb
          obtain ⟨x, hx⟩ : ∃ x, (bids.getD i []).getD k 0 = x := ⟨_, rfl⟩
          obtain ⟨y, hy⟩ : ∃ y, singleTo (itemsRow m (bids.getD i [])) k m = y := ⟨_, rfl⟩
          have HX := Lib.hid hx
          have HY := Lib.hid hy
          rw [hx] at hcx HBAD
          rw [hy] at hcy HBAD
          clear hb hx hy
          by_cases hxy : y = x
          · have hb1 : (y != x) = false := by rw [bne_eq_false_iff_eq]; exact hxy
            have HIN2 : Hid (∀ s, s < k + 1 → singleTo (itemsRow m (bids.getD i [])) s m = (bids.getD i []).getD s 0) := by
              intro s hs
              rcases Nat.lt_or_ge s k with h | h
              · exact HIN.out s h
              · have : s = k := by omega
                subst this; rw [HX.out, HY.out, hxy]
            clear hxy HBAD
            go_wp2
            go_quiet (fail)
            go_wp2
            go_roundw
            case rel => exact ⟨k + 1, by omega, by go_num, below_drewN HBX.out _, HIN2.out⟩
            case measure => simp [intOf]; omega
          · have hb1 : (y != x) = true := by rw [bne_iff_ne]; exact hxy
            have HF := Lib.hid (HBAD.out hxy)
            clear hxy HBAD
            go_wp2
            go_quiet (fail)
            go_wp2
            go_ret
            exact ⟨by rw [HF.out]; rfl, below_drewN (HB2.out.trans (HBX.out.mono HB2.out.size)) _⟩
        · obtain rfl : k = M := by omega
          have HBX := Lib.hid hb
          have HALL2 : Hid (∀ j, j < i + 1 → ∀ s, s < k → singleTo (itemsRow m (bids.getD j [])) s m = (bids.getD j []).getD s 0) := by
            intro j hj
            rcases Nat.lt_or_ge j i with h | h
            · exact HALL.out j h
            · have : j = i := by omega
              subst this; exact HIN.out
          clear hb
          go_wp2
          go_roundw
          case rel => exact ⟨i + 1, by omega, by go_num, HBX.out, HALL2.out⟩
          case measure => simp [intOf]; omega
    · obtain rfl : i = bids.length := by omega
      have HT := Lib.hid (HYES.out HALL.out)
      have HBX := Lib.hid hb
      clear hb
      go_wp2
      go_ret
      exact ⟨by rw [HT.out]; rfl, HB2.out.trans (HBX.out.mono HB2.out.size)⟩
end Go.Proofs.YthbfgmgpploneaaDoor
