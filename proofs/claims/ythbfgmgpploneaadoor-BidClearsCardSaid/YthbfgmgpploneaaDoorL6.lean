import Derived.Test.YthbfgmgpploneaaDoorL5
set_option linter.unusedVariables false
set_option linter.unusedSimpArgs false
set_option linter.unnecessarySimpa false
namespace Go.Proofs.YthbfgmgpploneaaDoor
open Go.RowKit

def coreE (bids : List (List Int)) (p : List Int) : Int := if p.length = bids.length then 0 else 1
def coreB (K : Nat) (bids : List (List Int)) (p : List Int) : Bool := if p.length = bids.length then coreP K bids p else false
/-- IsCore, at bids -/
def SpecCore : Prop := ∀ (v pv : Value) (K : Nat) (bids : List (List Int)) (p : List Int) (w : World), Mat w v bids → Sl w pv (ints p) → 1 ≤ K → K ≤ 6 → 1 ≤ bids.length → bids.length ≤ 6 → Offers K bids → In64 p → p.length ≤ 8 →
  Calls Tryd.prog 23 #[.int .i64 K, v, pv] w fun e w' => e = .returned (.tuple #[.bool (coreB K bids p), .int .i64 (coreE bids p)]) ∧ Below w.heap.size w w'
theorem In64.of_bd {l : List Int} (h : ∀ i, -100000000000 ≤ l.getD i 0 ∧ l.getD i 0 ≤ 100000000000) : In64 l := fun i => by have := h i; omega
theorem payP_bd {m : Nat} {bids : List (List Int)} (h : Offers m bids) (hn : bids.length ≤ 7) (i : Nat) : -8000000 ≤ (payP m bids).getD i 0 ∧ (payP m bids).getD i 0 ≤ 8000000 := by
  by_cases hi : i < bids.length
  · rw [payP_get _ _ _ hi]; exact gain_bd h hn i
  · rw [List.getD_eq_getElem?_getD, List.getElem?_eq_none (by rw [payP_len]; omega)]; simp
/-- a list with small numbers -/
def Bd8 (n : Nat) (L : List Int) : Prop := L.length = n ∧ ∀ i, -8000010 ≤ L.getD i 0 ∧ L.getD i 0 ≤ 8000010
theorem Bd8.set_ {n : Nat} {L : List Int} (h : Bd8 n L) (i : Nat) {x : Int} (h1 : -8000010 ≤ x) (h2 : x ≤ 8000010) : Bd8 n (L.set i x) := by
  refine ⟨by simpa using h.1, fun j => ?_⟩
  by_cases e : i = j
  · subst e
    by_cases hi : i < L.length
    · rw [getD_set_same _ _ _ _ hi]; exact ⟨h1, h2⟩
    · rw [List.getD_eq_getElem?_getD, List.getElem?_eq_none (by simp; omega)]; simp
  · rw [getD_set_other _ _ _ _ _ e]; exact h.2 j
set_option maxRecDepth 100000 in
set_option maxHeartbeats 8000000 in
theorem lawCores (S : Awake) (C : SpecCore) (v pv : Value) (m : Int) (rows : List (List Int)) (pay : List Int) (w : World) (hl : MatA w v rows) (hpay : SlA w pv (ints pay)) (hm : I64 m) (hr : ∀ i, In64 (rows.getD i [])) (hip : In64 pay) :
    Calls Tryd.prog 9 #[.int .i64 m, v, pv] w fun e w' => e = .returned (.bool true) ∧ Below w.heap.size w w' := by
  have HT := Lib.hid (tame_any v m rows w hl hr)
  have HLI := Lib.hid (fun W hb => list_any pv pay 8 W (hpay.below hb) (by omega))
  obtain ⟨p0, cap0, rfl, _, _⟩ := hl.form_
  obtain ⟨pp, pc, rfl, hppc, hpcm⟩ := hpay.form
  have e8 : ((8 : Nat) : Int) = 8 := rfl
  rw [e8] at HLI
  have HPAY := Lib.hid hpay
  have HIP := Lib.hid hip
  have hl8 : (pay.take 8).length ≤ 8 := by simp; omega
  have hi8 := hip.take 8
  obtain ⟨P8, hP8⟩ : ∃ P8, pay.take 8 = P8 := ⟨_, rfl⟩
  rw [hP8] at HLI hl8 hi8
  have HI8 := Lib.hid hi8
  clear hl hpay hm hr hip e8 hi8 hP8
  go_enter Tryd.func9, Tryd.ntmps9
  go_wp2_with fail
  refine HT.out.mono ?_
  rintro e w1 ⟨K, bids, xv, rfl, hK1, hK4, hn1, hn4, h39, hown, hb1⟩
  have HX := Lib.hid hown.mat
  have HO := Lib.hid h39.offers
  have HB1 := Lib.hid hb1
  obtain ⟨xp, xc, hxv, hxl, _⟩ := hown.mat.form_
  subst hxv
  have hM64 : 2 ^ K ≤ 64 := pow_le64 (by omega)
  have HPL := Lib.hid (fun i hi => pick_lt HO.out (k := i) hi)
  have HOL : Hid (∀ i, i < bids.length → (bids.getD i []).length = 2 ^ K) := fun i hi => offerB_len (HO.out.at_ hi)
  obtain ⟨M, hMM⟩ : ∃ M, 2 ^ K = M := ⟨_, rfl⟩
  rw [hMM] at hM64 HPL HOL
  clear hown h39 hb1 HT hMM
  go_wp2_with fail
  refine (HLI.out _ HB1.out).mono ?_
  rintro e w2 ⟨lv, rfl, hlo, hb2⟩
  have HP := Lib.hid hlo.sl
  obtain ⟨qp, qc, hqv, hql, _⟩ := hlo.sl.form
  subst hqv
  have HX2 := Lib.hid (HX.out.below hb2)
  have HB2 := Lib.hid (HB1.out.trans (hb2.mono HB1.out.size))
  clear hlo hb2 HX HB1 HLI
  go_wp2_with fail
  refine (best_any _ K bids w2 HX2.out (by omega) (by omega) HO.out).mono ?_
  rintro e w3 ⟨av, rfl, hao, hb3⟩
  have HA := Lib.hid hao.sl
  obtain ⟨ap, ac, hav, hal, _⟩ := hao.sl.form
  rw [bestP_len] at hav hal
  subst hav
  have HX3 := Lib.hid (HX2.out.below hb3)
  have HP3 := Lib.hid (HP.out.below hb3)
  have HB3 := Lib.hid (HB2.out.trans (hb3.mono HB2.out.size))
  clear hao hb3 HX2 HB2 HP
  go_wp2
  go_loopw [8, 10, 11, 12, 13, 14] (fun pv r _ _ _ _ wr => ∃ (r' : Nat) (p : List Int), r' ≤ 3 ∧ r = .int .i64 r' ∧ Sl wr pv (ints p) ∧ In64 p ∧ p.length ≤ 8 ∧ Below w3.heap.size w3 wr) (fun _ r _ _ _ _ _ => 3 - (intOf r).toNat)
  case atStart => exact ⟨0, _, Nat.zero_le _, rfl, HP3.out, HI8.out, hl8, Below.refl _ _⟩
  case round =>
    obtain ⟨r, p, hr3, rfl, hsp, hip, hp8, hb⟩ := hrel
    obtain ⟨yp, yc, hyv, hyl, _⟩ := hsp.form
    subst hyv
    have HSP := Lib.hid hsp
    have HBR := Lib.hid hb
    have HXR := Lib.hid (HX3.out.below hb)
    have HAR := Lib.hid (HA.out.below hb)
    have HIPP := Lib.hid hip
    clear hsp hip hb HP3
    by_cases hlt : r < 3
    · have HC := Lib.hid (C _ _ K bids p wr HXR.out HSP.out hK1 (by omega) hn1 (by omega) HO.out HIPP.out hp8)
      -- the check of the two answers; then the payments
      by_cases hlen : p.length = bids.length
      · have e1 : coreB K bids p = coreP K bids p := if_pos hlen
        have e2 : coreE bids p = 0 := if_pos hlen
        rw [e1, e2] at HC
        have hb1 : ((p.length : Int) != (bids.length : Int)) = false := by rw [bne_eq_false_iff_eq]; omega
        have HLN := Lib.hid hlen
        clear e1 e2 hlen
        go_wp2_with fail
        refine HC.out.mono ?_
        rintro e w4 ⟨rfl, hb4⟩
        have HCR := Lib.hid (isCore_any _ _ K bids p w4 (HXR.out.below hb4) (HSP.out.below hb4) (by omega) (by omega) HO.out HLN.out)
        have HX4 := Lib.hid (HXR.out.below hb4)
        have HA4 := Lib.hid (HAR.out.below hb4)
        have HB4 := Lib.hid (HBR.out.trans (hb4.mono HBR.out.size))
        obtain ⟨cb, hcb⟩ : ∃ cb, coreP K bids p = cb := ⟨_, rfl⟩
        rw [hcb] at HCR ⊢
        clear hb4 hcb HC HXR HAR HBR
        have hcc : (cb != cb) = false := by simp
        go_wp2_with fail
        refine HCR.out.mono ?_
        rintro e w5 ⟨rfl, hb5⟩
        have HX4 := Lib.hid (HX4.out.below hb5)
        have HA4 := Lib.hid (HA4.out.below hb5)
        have HB4 := Lib.hid (HB4.out.trans (hb5.mono HB4.out.size))
        clear hb5 HCR
        go_wp2_with fail
        refine (pay_any _ K bids w5 HX4.out (by omega) (by omega) HO.out).mono ?_
        rintro e w6 ⟨qv, rfl, hq, hb6⟩
        have hqlen : (ints (payP K bids)).length = bids.length := by rw [ints_length, payP_len]
        rcases hq.form_ with ⟨_, h0⟩ | ⟨g, gc, more, hqv, hgb, hgl, hgm, hgc, hrow⟩
        · rw [h0] at hqlen; simp at hqlen; omega
        rw [hqlen] at hqv hgl hgc
        subst hqv
        have HBD : Hid (Bd8 bids.length (payP K bids)) := ⟨payP_len _ _, fun i => by have := payP_bd HO.out (by omega) i; omega⟩
        have HROW := Lib.hid hrow
        have HB6 := Lib.hid hb6
        have HGB := Lib.hid hgb
        have HGM := Lib.hid hgm
        have hgl2 : bids.length ≤ gc := hgl
        have HGC := Lib.hid hgc
        clear hq hqlen hrow hb6 hgb hgm hgl hgc
        go_wp2
        go_loopw [14] (fun i wx => ∃ (i' : Nat) (L : List Int), i' ≤ bids.length ∧ i = .int .i64 i' ∧ Bd8 bids.length L ∧ Row 2 wx g (ints L ++ more) ∧ Below w5.heap.size w5 wx) (fun i _ => bids.length - (intOf i).toNat)
        case atStart => exact ⟨0, _, Nat.zero_le _, rfl, HBD.out, HROW.out, HB6.out⟩
        case round =>
          obtain ⟨i, L, hi, rfl, hL, hrow, hb⟩ := hrel
          have HLB := Lib.hid hL
          have HRW := Lib.hid hrow
          have HBX := Lib.hid hb
          clear HROW HBD HB6
          by_cases hgo : i < bids.length ∧ r = 0
          · obtain ⟨hin, hr0e⟩ := hgo
            have hr0 : ((r : Int) == 0) = true := by rw [beq_iff_eq]; omega
            clear hr0e
            have hxin : (i : Int) < (bids.length : Int) := by omega
            obtain ⟨b3, o3, c3, hv, _, _, _, hcl⟩ := (HA4.out.below HBX.out).int_at i (by rw [bestP_len]; exact hin)
            rw [bestP_len] at hv
            cases hv
            rw [bestP_get _ _ _ hin] at hcl
            obtain ⟨b1, o1, c1, b2, o2, c2, hv, hcb1, hcx, _, hlc2⟩ := (HX4.out.below HBX.out).at2 rfl hin (M := M) (s := pick K bids i) (HOL.out i hin) (HPL.out i hin) rfl
            cases hv
            have hq := HPL.out i hin
            have hxb := offers_bd HO.out i (pick K bids i)
            obtain ⟨q, hqq⟩ : ∃ q, pick K bids i = q := ⟨_, rfl⟩
            rw [hqq] at hcl hcx hq hxb
            obtain ⟨x, hx⟩ : ∃ x, (bids.getD i []).getD q 0 = x := ⟨_, rfl⟩
            rw [hx] at hcx hxb
            have hcr := HRW.out.cell i
            rw [List.getElem?_append_left (by rw [ints_length, HLB.out.1]; exact hin), ints_get _ _ (by rw [HLB.out.1]; exact hin)] at hcr
            have hfr := HRW.out.free i
            obtain ⟨y, hy⟩ : ∃ y, L.getD i 0 = y := ⟨_, rfl⟩
            rw [hy] at hcr
            have hiL : i < (ints L).length := by rw [ints_length, HLB.out.1]; exact hin
            have HST : Hid (Row 2 (wr.drew.setCell ⟨g, i, none⟩ (.int .i64 x)) g (ints (L.set i x) ++ more)) := by
              have := HRW.out.drew.store i (.int .i64 x)
              rw [List.set_append_left _ _ hiL, ints_set] at this
              exact this
            have HLX := Lib.hid (HLB.out.set_ i (x := x) (by omega) (by omega))
            have HBS := Lib.hid (HBX.out.drew.setCell (p := ⟨g, i, none⟩) HGB.out (.int .i64 x))
            clear hqq hx hy HRW HLB
            by_cases hip : i < pay.length
            · obtain ⟨ad, c5, hv, _, _, _, hcp⟩ := (HPAY.out.below (HB3.out.trans ((HB4.out.trans (HBS.out.mono HB4.out.size)).mono HB3.out.size))).int_at i hip
              cases hv
              obtain ⟨z, hz5, hz⟩ := tmodN (pay.getD i 0) 5 (by omega)
              have hz' : (IntKind.u64.wrap (pay.getD i 0)).tmod 5 = (z : Int) := hz
              have hpr := HIP.out i
              obtain ⟨t, ht⟩ : ∃ t, pay.getD i 0 = t := ⟨_, rfl⟩
              rw [ht] at hcp hz' hpr
              have HSUB : Hid (IntKind.i64.wrap (x - (z : Int)) = x - (z : Int)) := IntWalk.i64_in _ (by omega)
              have HZ := Lib.hid hz'
              clear hz'
              have hiL2 : i < (ints (L.set i x)).length := by rw [ints_length, HLX.out.1]; exact hin
              obtain ⟨W5, hW5⟩ : ∃ W5, (wr.setCell ⟨g, i, none⟩ (.int .i64 x)).drew = W5 := ⟨_, rfl⟩
              have hW6 : wr.drew.setCell ⟨g, i, none⟩ (.int .i64 x) = W5 := by rw [← hW5]; rfl
              rw [hW6] at hcp HST HBS
              clear hW6
              have HW5 := Lib.hid hW5
              have hcg := HST.out.cell i
              rw [List.getElem?_append_left hiL2, ints_get _ _ (by rw [HLX.out.1]; exact hin), getD_set_same _ _ _ _ (by rw [← ints_length]; exact hiL)] at hcg
              have hfg := HST.out.free i
              have HST2 : Hid (∀ v, Row 2 (W5.drew.setCell ⟨g, i, none⟩ (.int .i64 v)) g (ints ((L.set i x).set i v) ++ more)) := fun v => by
                have := HST.out.drew.store i (.int .i64 v)
                rw [List.set_append_left _ _ hiL2, ints_set] at this
                exact this
              have HLX2 := Lib.hid (HLX.out.set_ i (x := x - (z : Int)) (by omega) (by omega))
              have HBS2 := Lib.hid (HBS.out.drew.setCell (p := ⟨g, i, none⟩) HGB.out (.int .i64 (x - (z : Int))))
              have hz' := HZ.out
              have hsub := HSUB.out
              clear hz ht hW5
              go_wp2
              go_still_tail 13, (by kernel_rfl)
              change wpList _ _ _ _ _ wr.drew
              go_wp2
              rw [HW5.out]
              clear hcl hcb1 hcx hcr hfr
              go_still_tail 15, (by kernel_rfl)
              change wpList _ _ _ _ _ W5.drew
              go_wp2
              go_roundw
              case rel => exact ⟨i + 1, _, by omega, by go_num, HLX2.out, HST2.out _, HBS2.out⟩
              case measure => simp [intOf]; omega
            · have hip2 : ¬ (i : Int) < (pay.length : Int) := by omega
              go_wp2
              go_still_tail 13, (by kernel_rfl)
              change wpList _ _ _ _ _ wr.drew
              go_wp2
              go_roundw
              case rel => exact ⟨i + 1, _, by omega, by go_num, HLX.out, HST.out, HBS.out⟩
              case measure => simp [intOf]; omega
          · skip
            have HSL : Hid (Sl wr (.slice (some ⟨g, 0, none⟩) bids.length gc) (ints L)) := by
              have h2 := Sl.of_row (xs := ints L) (more := more) (cap := gc) HRW.out (by rw [ints_length, HLB.out.1]; exact hgl2) HGM.out
              rw [ints_length, HLB.out.1] at h2; exact h2
            have HI2 : Hid (In64 L) := fun j => by have := HLB.out.2 j; omega
            have hL8 : L.length ≤ 8 := by rw [HLB.out.1]; omega
            have HBN := Lib.hid (HB4.out.trans (HBX.out.mono HB4.out.size))
            by_cases hin : i < bids.length
            · have hr0 : ((r : Int) == 0) = false := by rw [beq_eq_false_iff_ne]; omega
              clear hgo
              go_wp2
              go_roundw
              case rel => exact ⟨r + 1, L, by omega, by go_num, HSL.out, HI2.out, hL8, HBN.out⟩
              case measure => simp [intOf]; omega
            · have hin2 : ¬ (i : Int) < (bids.length : Int) := by omega
              clear hgo
              go_wp2
              go_roundw
              case rel => exact ⟨r + 1, L, by omega, by go_num, HSL.out, HI2.out, hL8, HBN.out⟩
              case measure => simp [intOf]; omega
      · have e1 : coreB K bids p = false := if_neg hlen
        have e2 : coreE bids p = 1 := if_neg hlen
        rw [e1, e2] at HC
        have hb1 : ((p.length : Int) != (bids.length : Int)) = true := by rw [bne_iff_ne]; omega
        clear e1 e2 hlen
        go_wp2_with fail
        refine HC.out.mono ?_
        rintro e w4 ⟨rfl, hb4⟩
        have HX4 := Lib.hid (HXR.out.below hb4)
        have HA4 := Lib.hid (HAR.out.below hb4)
        have HB4 := Lib.hid (HBR.out.trans (hb4.mono HBR.out.size))
        clear hb4 HC HXR HAR HBR
        go_wp2_with fail
        refine (pay_any _ K bids w4 HX4.out (by omega) (by omega) HO.out).mono ?_
        rintro e w6 ⟨qv, rfl, hq, hb6⟩
        have hqlen : (ints (payP K bids)).length = bids.length := by rw [ints_length, payP_len]
        rcases hq.form_ with ⟨_, h0⟩ | ⟨g, gc, more, hqv, hgb, hgl, hgm, hgc, hrow⟩
        · rw [h0] at hqlen; simp at hqlen; omega
        rw [hqlen] at hqv hgl hgc
        subst hqv
        have HBD : Hid (Bd8 bids.length (payP K bids)) := ⟨payP_len _ _, fun i => by have := payP_bd HO.out (by omega) i; omega⟩
        have HROW := Lib.hid hrow
        have HB6 := Lib.hid hb6
        have HGB := Lib.hid hgb
        have HGM := Lib.hid hgm
        have hgl2 : bids.length ≤ gc := hgl
        have HGC := Lib.hid hgc
        clear hq hqlen hrow hb6 hgb hgm hgl hgc
        go_wp2
        go_loopw [14] (fun i wx => ∃ (i' : Nat) (L : List Int), i' ≤ bids.length ∧ i = .int .i64 i' ∧ Bd8 bids.length L ∧ Row 2 wx g (ints L ++ more) ∧ Below w4.heap.size w4 wx) (fun i _ => bids.length - (intOf i).toNat)
        case atStart => exact ⟨0, _, Nat.zero_le _, rfl, HBD.out, HROW.out, HB6.out⟩
        case round =>
          obtain ⟨i, L, hi, rfl, hL, hrow, hb⟩ := hrel
          have HLB := Lib.hid hL
          have HRW := Lib.hid hrow
          have HBX := Lib.hid hb
          clear HROW HBD HB6
          by_cases hgo : i < bids.length ∧ r = 0
          · obtain ⟨hin, hr0e⟩ := hgo
            have hr0 : ((r : Int) == 0) = true := by rw [beq_iff_eq]; omega
            clear hr0e
            have hxin : (i : Int) < (bids.length : Int) := by omega
            obtain ⟨b3, o3, c3, hv, _, _, _, hcl⟩ := (HA4.out.below HBX.out).int_at i (by rw [bestP_len]; exact hin)
            rw [bestP_len] at hv
            cases hv
            rw [bestP_get _ _ _ hin] at hcl
            obtain ⟨b1, o1, c1, b2, o2, c2, hv, hcb1, hcx, _, hlc2⟩ := (HX4.out.below HBX.out).at2 rfl hin (M := M) (s := pick K bids i) (HOL.out i hin) (HPL.out i hin) rfl
            cases hv
            have hq := HPL.out i hin
            have hxb := offers_bd HO.out i (pick K bids i)
            obtain ⟨q, hqq⟩ : ∃ q, pick K bids i = q := ⟨_, rfl⟩
            rw [hqq] at hcl hcx hq hxb
            obtain ⟨x, hx⟩ : ∃ x, (bids.getD i []).getD q 0 = x := ⟨_, rfl⟩
            rw [hx] at hcx hxb
            have hcr := HRW.out.cell i
            rw [List.getElem?_append_left (by rw [ints_length, HLB.out.1]; exact hin), ints_get _ _ (by rw [HLB.out.1]; exact hin)] at hcr
            have hfr := HRW.out.free i
            obtain ⟨y, hy⟩ : ∃ y, L.getD i 0 = y := ⟨_, rfl⟩
            rw [hy] at hcr
            have hiL : i < (ints L).length := by rw [ints_length, HLB.out.1]; exact hin
            have HST : Hid (Row 2 (wr.drew.setCell ⟨g, i, none⟩ (.int .i64 x)) g (ints (L.set i x) ++ more)) := by
              have := HRW.out.drew.store i (.int .i64 x)
              rw [List.set_append_left _ _ hiL, ints_set] at this
              exact this
            have HLX := Lib.hid (HLB.out.set_ i (x := x) (by omega) (by omega))
            have HBS := Lib.hid (HBX.out.drew.setCell (p := ⟨g, i, none⟩) HGB.out (.int .i64 x))
            clear hqq hx hy HRW HLB
            by_cases hip : i < pay.length
            · obtain ⟨ad, c5, hv, _, _, _, hcp⟩ := (HPAY.out.below (HB3.out.trans ((HB4.out.trans (HBS.out.mono HB4.out.size)).mono HB3.out.size))).int_at i hip
              cases hv
              obtain ⟨z, hz5, hz⟩ := tmodN (pay.getD i 0) 5 (by omega)
              have hz' : (IntKind.u64.wrap (pay.getD i 0)).tmod 5 = (z : Int) := hz
              have hpr := HIP.out i
              obtain ⟨t, ht⟩ : ∃ t, pay.getD i 0 = t := ⟨_, rfl⟩
              rw [ht] at hcp hz' hpr
              have HSUB : Hid (IntKind.i64.wrap (x - (z : Int)) = x - (z : Int)) := IntWalk.i64_in _ (by omega)
              have HZ := Lib.hid hz'
              clear hz'
              have hiL2 : i < (ints (L.set i x)).length := by rw [ints_length, HLX.out.1]; exact hin
              obtain ⟨W5, hW5⟩ : ∃ W5, (wr.setCell ⟨g, i, none⟩ (.int .i64 x)).drew = W5 := ⟨_, rfl⟩
              have hW6 : wr.drew.setCell ⟨g, i, none⟩ (.int .i64 x) = W5 := by rw [← hW5]; rfl
              rw [hW6] at hcp HST HBS
              clear hW6
              have HW5 := Lib.hid hW5
              have hcg := HST.out.cell i
              rw [List.getElem?_append_left hiL2, ints_get _ _ (by rw [HLX.out.1]; exact hin), getD_set_same _ _ _ _ (by rw [← ints_length]; exact hiL)] at hcg
              have hfg := HST.out.free i
              have HST2 : Hid (∀ v, Row 2 (W5.drew.setCell ⟨g, i, none⟩ (.int .i64 v)) g (ints ((L.set i x).set i v) ++ more)) := fun v => by
                have := HST.out.drew.store i (.int .i64 v)
                rw [List.set_append_left _ _ hiL2, ints_set] at this
                exact this
              have HLX2 := Lib.hid (HLX.out.set_ i (x := x - (z : Int)) (by omega) (by omega))
              have HBS2 := Lib.hid (HBS.out.drew.setCell (p := ⟨g, i, none⟩) HGB.out (.int .i64 (x - (z : Int))))
              have hz' := HZ.out
              have hsub := HSUB.out
              clear hz ht hW5
              go_wp2
              go_still_tail 13, (by kernel_rfl)
              change wpList _ _ _ _ _ wr.drew
              go_wp2
              rw [HW5.out]
              clear hcl hcb1 hcx hcr hfr
              go_still_tail 15, (by kernel_rfl)
              change wpList _ _ _ _ _ W5.drew
              go_wp2
              go_roundw
              case rel => exact ⟨i + 1, _, by omega, by go_num, HLX2.out, HST2.out _, HBS2.out⟩
              case measure => simp [intOf]; omega
            · have hip2 : ¬ (i : Int) < (pay.length : Int) := by omega
              go_wp2
              go_still_tail 13, (by kernel_rfl)
              change wpList _ _ _ _ _ wr.drew
              go_wp2
              go_roundw
              case rel => exact ⟨i + 1, _, by omega, by go_num, HLX.out, HST.out, HBS.out⟩
              case measure => simp [intOf]; omega
          · skip
            have HSL : Hid (Sl wr (.slice (some ⟨g, 0, none⟩) bids.length gc) (ints L)) := by
              have h2 := Sl.of_row (xs := ints L) (more := more) (cap := gc) HRW.out (by rw [ints_length, HLB.out.1]; exact hgl2) HGM.out
              rw [ints_length, HLB.out.1] at h2; exact h2
            have HI2 : Hid (In64 L) := fun j => by have := HLB.out.2 j; omega
            have hL8 : L.length ≤ 8 := by rw [HLB.out.1]; omega
            have HBN := Lib.hid (HB4.out.trans (HBX.out.mono HB4.out.size))
            by_cases hin : i < bids.length
            · have hr0 : ((r : Int) == 0) = false := by rw [beq_eq_false_iff_ne]; omega
              clear hgo
              go_wp2
              go_roundw
              case rel => exact ⟨r + 1, L, by omega, by go_num, HSL.out, HI2.out, hL8, HBN.out⟩
              case measure => simp [intOf]; omega
            · have hin2 : ¬ (i : Int) < (bids.length : Int) := by omega
              clear hgo
              go_wp2
              go_roundw
              case rel => exact ⟨r + 1, L, by omega, by go_num, HSL.out, HI2.out, hL8, HBN.out⟩
              case measure => simp [intOf]; omega
    · obtain rfl : r = 3 := by omega
      have HBB := Lib.hid (HB3.out.trans (HBR.out.mono HB3.out.size))
      go_wp2_with (go_at_call 16; refine (awake_any S _).mono ?_; rintro e w5 ⟨rfl, hb5⟩; have HB5 := Lib.hid (HBB.out.trans (hb5.mono HBB.out.size)); clear hb5)
      go_ret
      exact ⟨rfl, HB5.out⟩
end Go.Proofs.YthbfgmgpploneaaDoor
