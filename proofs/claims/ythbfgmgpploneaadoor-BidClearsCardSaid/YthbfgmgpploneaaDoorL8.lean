import Derived.Test.YthbfgmgpploneaaDoorL6
set_option linter.unusedVariables false
set_option linter.unusedSimpArgs false
set_option linter.unnecessarySimpa false
namespace Go.Proofs.YthbfgmgpploneaaDoor
open Go.RowKit

def gainE (K : Nat) (bids : List (List Int)) (who : Int) (y : List Int) : Int := if who < 0 ∨ (bids.length : Int) ≤ who then 1 else if offerB K y = false then 80 else 0
def gainV (K : Nat) (bids : List (List Int)) (who : Int) (y : List Int) : Int := if gainE K bids who y = 0 then gainP K bids who.toNat y else 0
/-- Gain, at bids -/
def SpecGain : Prop := ∀ (v yv : Value) (K : Nat) (bids : List (List Int)) (who : Int) (y : List Int) (w : World), Mat w v bids → Sl w yv (ints y) → 1 ≤ K → K ≤ 6 → 1 ≤ bids.length → bids.length ≤ 6 → Offers K bids → I64 who → In64 y → y.length ≤ 65 →
  Calls Tryd.prog 19 #[.int .i64 K, v, .int .i64 who, yv] w fun e w' => e = .returned (.tuple #[.int .i64 (gainV K bids who y), .int .i64 (gainE K bids who y)]) ∧ Below w.heap.size w w'
theorem gain_arg {K : Nat} {bids : List (List Int)} {who : Int} {y : List Int} (h : who < 0 ∨ (bids.length : Int) ≤ who) : gainE K bids who y = 1 ∧ gainV K bids who y = 0 := by
  have e : gainE K bids who y = 1 := if_pos h
  exact ⟨e, by unfold gainV; rw [e]; rfl⟩
theorem gain_bid {K : Nat} {bids : List (List Int)} {k : Nat} {y : List Int} (h : k < bids.length) (ho : offerB K y = false) : gainE K bids k y = 80 ∧ gainV K bids k y = 0 := by
  have e : gainE K bids k y = 80 := by unfold gainE; rw [if_neg (by omega), if_pos ho]
  exact ⟨e, by unfold gainV; rw [e]; rfl⟩
theorem gain_ok {K : Nat} {bids : List (List Int)} {k : Nat} {y : List Int} (h : k < bids.length) (ho : offerB K y = true) : gainE K bids k y = 0 ∧ gainV K bids k y = gainP K bids k y := by
  have e : gainE K bids k y = 0 := by unfold gainE; rw [if_neg (by omega), if_neg (by rw [ho]; decide)]
  exact ⟨e, by unfold gainV; rw [e, if_pos rfl, Int.toNat_natCast]⟩
set_option maxRecDepth 100000 in
set_option maxHeartbeats 8000000 in
theorem lawGains (S : Awake) (C : SpecGain) (v ov : Value) (m : Int) (rows : List (List Int)) (of : List Int) (w : World) (hl : MatA w v rows) (hof : SlA w ov (ints of)) (hm : I64 m) (hr : ∀ i, In64 (rows.getD i [])) (hio : In64 of) :
    Calls Tryd.prog 5 #[.int .i64 m, v, ov] w fun e w' => e = .returned (.bool true) ∧ Below w.heap.size w w' := by
  have HT := Lib.hid (tame_any v m rows w hl hr)
  have HLI := Lib.hid (fun W hb => list_any ov of 65 W (hof.below hb) (by omega))
  obtain ⟨p0, cap0, rfl, _, _⟩ := hl.form_
  obtain ⟨op, oc, rfl, hopc, hocm⟩ := hof.form
  have e65 : ((65 : Nat) : Int) = 65 := rfl
  rw [e65] at HLI
  have hl65 : (of.take 65).length ≤ 65 := by simp; omega
  have hi65 := hio.take 65
  obtain ⟨P65, hP65⟩ : ∃ P65, of.take 65 = P65 := ⟨_, rfl⟩
  rw [hP65] at HLI hl65 hi65
  have HI65 := Lib.hid hi65
  have HOF := Lib.hid hof
  have HIO := Lib.hid hio
  clear hl hof hm hr hio e65 hi65 hP65
  go_enter Tryd.func5, Tryd.ntmps5
  go_wp2_with fail
  refine HT.out.mono ?_
  rintro e w1 ⟨K, bids, xv, rfl, hK1, hK4, hn1, hn4, h39, hown, hb1⟩
  have HX := Lib.hid hown.mat
  have HO := Lib.hid h39.offers
  have HB1 := Lib.hid hb1
  obtain ⟨xp, xc, hxv, hxl, _⟩ := hown.mat.form_
  subst hxv
  have HMK : Hid (∀ W, Below w.heap.size w W → Calls Tryd.prog 39 #[.int .i64 K, .slice op of.length oc] W fun e w' => ∃ v' L, e = .returned v' ∧ Own 2 W.heap.size w' v' (ints L) ∧ Offer39 K L ∧ Below W.heap.size W w') := fun W hb => mkOffer_any _ K of W (HOF.out.below hb) (by omega) hK1 HIO.out
  clear hown h39 hb1 HT
  go_wp2_with fail
  refine (HLI.out _ HB1.out).mono ?_
  rintro e w2 ⟨lv, rfl, hlo, hb2⟩
  have HP := Lib.hid hlo.sl
  obtain ⟨qp, qc, hqv, hql, _⟩ := hlo.sl.form
  subst hqv
  have HX2 := Lib.hid (HX.out.below hb2)
  have HBW := Lib.hid (HB1.out.trans (hb2.mono HB1.out.size))
  clear hlo hb2 HX HB1
  go_wp2
  go_loopw [8, 9, 10, 11, 12, 13] (fun yv who _ _ _ _ wr => ∃ (j : Nat) (y : List Int), j ≤ bids.length + 2 ∧ who = .int .i64 ((j : Int) - 1) ∧ Sl wr yv (ints y) ∧ In64 y ∧ y.length ≤ 65 ∧ Below w2.heap.size w2 wr) (fun _ who _ _ _ _ _ => bids.length + 2 - (intOf who + 1).toNat)
  case atStart => exact ⟨0, _, Nat.zero_le _, rfl, HP.out, HI65.out, hl65, Below.refl _ _⟩
  case round =>
    obtain ⟨j, y, hj, rfl, hsy, hiy, hy65, hb⟩ := hrel
    have HSY := Lib.hid hsy
    have HIY := Lib.hid hiy
    have HBR := Lib.hid hb
    obtain ⟨yp, yc, hyv, _, _⟩ := hsy.form
    subst hyv
    clear hsy hiy hb HP
    obtain ⟨who, hwho⟩ : ∃ who : Int, (j : Int) - 1 = who := ⟨_, rfl⟩
    have HWHO := Lib.hid hwho
    rw [hwho]
    have hwlo : -1 ≤ who := by omega
    have hwhi : who ≤ (bids.length : Int) + 1 := by omega
    clear hwho
    by_cases hlt : who ≤ (bids.length : Int)
    · obtain ⟨wo, hwo⟩ : ∃ wo : World, wo = wr := ⟨_, rfl⟩
      subst hwo
      go_wp2
      go_loopw [8, 10, 11, 12, 13] (fun yv r _ _ _ wr => ∃ (r' : Nat) (y : List Int), r' ≤ 2 ∧ r = .int .i64 r' ∧ Sl wr yv (ints y) ∧ In64 y ∧ y.length ≤ 65 ∧ Below w2.heap.size w2 wr) (fun _ r _ _ _ _ => 2 - (intOf r).toNat)
      case atStart => exact ⟨0, _, Nat.zero_le _, rfl, HSY.out, HIY.out, hy65, HBR.out⟩
      case round =>
        obtain ⟨rd, z, hrd, rfl, hsz, hiz, hz65, hb⟩ := hrel
        have HSZ := Lib.hid hsz
        have HBX := Lib.hid hb
        have HXR := Lib.hid (HX2.out.below hb)
        obtain ⟨zp, zc, hzv, _, _⟩ := hsz.form
        subst hzv
        clear HSY HIY HBR hsz hb
        by_cases hlt2 : rd < 2
        · have HC := Lib.hid (C _ _ K bids who z wr HXR.out HSZ.out hK1 (by omega) hn1 (by omega) HO.out ⟨by omega, by omega⟩ hiz hz65)
          clear hiz
          by_cases hbad : who < 0 ∨ (bids.length : Int) ≤ who
          · obtain ⟨e1, e2⟩ := gain_arg (K := K) (bids := bids) (y := z) hbad
            rw [e1, e2] at HC
            have hd1 : who < 0 ∨ ¬ who < 0 := Classical.em _
            clear e1 e2
            by_cases hw0 : who < 0
            · clear hbad hd1
              go_wp2_with fail
              refine HC.out.mono ?_
              rintro e w4 ⟨rfl, hb4⟩
              have HB4 := Lib.hid (HBX.out.trans (hb4.mono HBX.out.size))
              clear hb4 HC HXR HSZ HBX
              go_wp2_with fail
              refine (HMK.out w4 (HBW.out.trans (HB4.out.mono HBW.out.size))).mono ?_
              rintro e wz ⟨yv2, L, rfl, hlo, h39, hbz⟩
              obtain ⟨yp2, yc2, hyv2, _, _⟩ := hlo.sl.form
              subst hyv2
              have HSL2 := Lib.hid hlo.sl
              have HI2 : Hid (In64 L) := fun j => by have := h39.2 j; omega
              have hL65 : L.length ≤ 65 := by have := offerB_len h39.1; have : 2 ^ K ≤ 64 := pow_le64 (by omega); omega
              have HBZ := Lib.hid (HB4.out.trans (hbz.mono HB4.out.size))
              clear hlo h39 hbz
              go_wp2
              go_roundw
              case rel => exact ⟨rd + 1, _, by omega, by go_num, HSL2.out, HI2.out, hL65, HBZ.out⟩
              case measure => simp [intOf]; omega
            · have hge : (bids.length : Int) ≤ who := by omega
              clear hbad hd1
              go_wp2_with fail
              refine HC.out.mono ?_
              rintro e w4 ⟨rfl, hb4⟩
              have HB4 := Lib.hid (HBX.out.trans (hb4.mono HBX.out.size))
              clear hb4 HC HXR HSZ HBX
              go_wp2_with fail
              refine (HMK.out w4 (HBW.out.trans (HB4.out.mono HBW.out.size))).mono ?_
              rintro e wz ⟨yv2, L, rfl, hlo, h39, hbz⟩
              obtain ⟨yp2, yc2, hyv2, _, _⟩ := hlo.sl.form
              subst hyv2
              have HSL2 := Lib.hid hlo.sl
              have HI2 : Hid (In64 L) := fun j => by have := h39.2 j; omega
              have hL65 : L.length ≤ 65 := by have := offerB_len h39.1; have : 2 ^ K ≤ 64 := pow_le64 (by omega); omega
              have HBZ := Lib.hid (HB4.out.trans (hbz.mono HB4.out.size))
              clear hlo h39 hbz
              go_wp2
              go_roundw
              case rel => exact ⟨rd + 1, _, by omega, by go_num, HSL2.out, HI2.out, hL65, HBZ.out⟩
              case measure => simp [intOf]; omega
          · obtain ⟨k, rfl⟩ : ∃ k : Nat, who = (k : Int) := ⟨who.toNat, by omega⟩
            have hk : k < bids.length := by omega
            have hk1 : ¬ (k : Int) < 0 := by omega
            have hk2 : ¬ (bids.length : Int) ≤ (k : Int) := by omega
            clear hbad hwlo hwhi
            cases hof : offerB K z with
            | false =>
              obtain ⟨e1, e2⟩ := gain_bid hk hof
              rw [e1, e2] at HC
              clear e1 e2
              go_wp2_with fail
              refine HC.out.mono ?_
              rintro e w4 ⟨rfl, hb4⟩
              have HOFR := Lib.hid (offer_any _ K z w4 (HSZ.out.below hb4) (by omega))
              rw [hof] at HOFR
              have HB4 := Lib.hid (HBX.out.trans (hb4.mono HBX.out.size))
              clear hb4 HC HXR HSZ HBX hof
              go_wp2_with fail
              refine HOFR.out.mono ?_
              rintro e w5 ⟨rfl, hb5⟩
              have HB5 := Lib.hid (HB4.out.trans (hb5.mono HB4.out.size))
              clear hb5 HOFR HB4
              go_wp2_with fail
              refine (HMK.out w5 (HBW.out.trans (HB5.out.mono HBW.out.size))).mono ?_
              rintro e wz ⟨yv2, L, rfl, hlo, h39, hbz⟩
              obtain ⟨yp2, yc2, hyv2, _, _⟩ := hlo.sl.form
              subst hyv2
              have HSL2 := Lib.hid hlo.sl
              have HI2 : Hid (In64 L) := fun j => by have := h39.2 j; omega
              have hL65 : L.length ≤ 65 := by have := offerB_len h39.1; have : 2 ^ K ≤ 64 := pow_le64 (by omega); omega
              have HBZ := Lib.hid (HB5.out.trans (hbz.mono HB5.out.size))
              clear hlo h39 hbz
              go_wp2
              go_roundw
              case rel => exact ⟨rd + 1, _, by omega, by go_num, HSL2.out, HI2.out, hL65, HBZ.out⟩
              case measure => simp [intOf]; omega
            | true =>
              obtain ⟨e1, e2⟩ := gain_ok hk hof
              rw [e1, e2] at HC
              clear e1 e2
              go_wp2_with fail
              refine HC.out.mono ?_
              rintro e w4 ⟨rfl, hb4⟩
              have HOFR := Lib.hid (offer_any _ K z w4 (HSZ.out.below hb4) (by omega))
              rw [hof] at HOFR
              have HB4 := Lib.hid (HBX.out.trans (hb4.mono HBX.out.size))
              have HX4 := Lib.hid (HXR.out.below hb4)
              have HZ4 := Lib.hid (HSZ.out.below hb4)
              have HOFZ := Lib.hid hof
              clear hb4 HC HXR HSZ HBX hof
              go_wp2_with fail
              refine HOFR.out.mono ?_
              rintro e w5 ⟨rfl, hb5⟩
              have HB5 := Lib.hid (HB4.out.trans (hb5.mono HB4.out.size))
              have HGA := Lib.hid (gain_any _ _ K bids z k w5 (HX4.out.below hb5) (HZ4.out.below hb5) (by omega) (by omega) hk HO.out HOFZ.out)
              obtain ⟨G, hG⟩ : ∃ G, gainP K bids k z = G := ⟨_, rfl⟩
              rw [hG] at HGA ⊢
              have hGG : (G != G) = false := by simp
              clear hb5 HOFR HB4 HX4 HZ4 hG
              go_wp2_with fail
              refine HGA.out.mono ?_
              rintro e w6 ⟨rfl, hb6⟩
              have HB6 := Lib.hid (HB5.out.trans (hb6.mono HB5.out.size))
              clear hb6 HGA HB5
              go_wp2_with fail
              refine (HMK.out w6 (HBW.out.trans (HB6.out.mono HBW.out.size))).mono ?_
              rintro e wz ⟨yv2, L, rfl, hlo, h39, hbz⟩
              obtain ⟨yp2, yc2, hyv2, _, _⟩ := hlo.sl.form
              subst hyv2
              have HSL2 := Lib.hid hlo.sl
              have HI2 : Hid (In64 L) := fun j => by have := h39.2 j; omega
              have hL65 : L.length ≤ 65 := by have := offerB_len h39.1; have : 2 ^ K ≤ 64 := pow_le64 (by omega); omega
              have HBZ := Lib.hid (HB6.out.trans (hbz.mono HB6.out.size))
              clear hlo h39 hbz
              go_wp2
              go_roundw
              case rel => exact ⟨rd + 1, _, by omega, by go_num, HSL2.out, HI2.out, hL65, HBZ.out⟩
              case measure => simp [intOf]; omega
        · obtain rfl : rd = 2 := by omega
          clear hiz HSZ HXR
          go_wp2_with fail
          refine (HLI.out _ (HBW.out.trans (HBX.out.mono HBW.out.size))).mono ?_
          rintro e w4 ⟨lv4, rfl, hlo4, hb4⟩
          obtain ⟨lp4, lc4, hlv4, _, _⟩ := hlo4.sl.form
          subst hlv4
          have HSL4 := Lib.hid hlo4.sl
          have HB4 := Lib.hid (HBX.out.trans (hb4.mono HBX.out.size))
          have HNX : Hid (who + 1 = ((j + 1 : Nat) : Int) - 1) := by show _ = _; have := HWHO.out; omega
          have hjn : j + 1 ≤ bids.length + 2 := by have := HWHO.out; omega
          have hme : bids.length + 2 - (who + 1 + 1).toNat < bids.length + 2 - (who + 1).toNat := by have := HWHO.out; omega
          clear hlo4 hb4 HBX
          go_wp2
          go_roundw
          case rel => exact ⟨j + 1, _, hjn, by rw [HNX.out], HSL4.out, HI65.out, hl65, HB4.out⟩
          case measure => simp only [intOf]; exact hme
    · have HBB := Lib.hid (HBW.out.trans (HBR.out.mono HBW.out.size))
      go_wp2_with (go_at_call 16; refine (awake_any S _).mono ?_; rintro e w5 ⟨rfl, hb5⟩; have HB5 := Lib.hid (HBB.out.trans (hb5.mono HBB.out.size)); clear hb5)
      go_ret
      exact ⟨rfl, HB5.out⟩
end Go.Proofs.YthbfgmgpploneaaDoor
