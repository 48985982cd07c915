/- A fraction of the program is one of the reference; NumMakes. -/
import Derived.Test.YtmhmkhdgpfhnfaaGreatDoorT6
import Derived.Test.YtmhmkhdgpfhnfaaGreatDoorAwake
set_option linter.unusedVariables false
set_option linter.unusedSimpArgs false
set_option linter.unnecessarySimpa false
namespace Go.Proofs.YtmhmkhdgpfhnfaaGreatDoor.Ref
open Go.RowKit Go.Lib

theorem rt_zero (w : World) : Rt w (.agg #[.bool false, .slice none 0 0, .slice none 0 0]) 0 1 := by
  refine ⟨none, 0, 0, _, rfl, ?_, .inl ⟨rfl, rfl⟩⟩
  rw [show (0 : Int).natAbs = 0 from rfl, limbs_zero]
  exact Rd.nil _ _
theorem formB_zero : formB 0 (1 : Nat) = ⟨#[48]⟩ := by
  unfold formB
  refine (if_pos rfl).trans ?_
  unfold itoa
  rw [if_neg (by omega), show (0 : Int).toNat = 0 from rfl, decDigits_one (by omega)]
  rfl
theorem rat_lens (a b : Int) (hb : b ≠ 0) (ha9 : a.natAbs ≤ 9223372036854775808) (hb9 : b.natAbs ≤ 9223372036854775808) : (limbs (ratN a b).natAbs).length ≤ 100000 ∧ (limbs (ratD a b).natAbs).length ≤ 100000 := by
  obtain ⟨_, h2, h3⟩ := low_sign a b hb
  rw [h2, h3, Int.natAbs_natCast]
  exact ⟨Nat.le_trans (limbs_mono (Nat.div_le_self _ _)) (Nat.le_trans (limbs_len3 ha9) (by omega)), Nat.le_trans (limbs_mono (Nat.div_le_self _ _)) (Nat.le_trans (limbs_len3 hb9) (by omega))⟩
set_option maxRecDepth 100000 in
set_option maxHeartbeats 2000000 in
theorem is_same (n : Int) (d : Nat) (v1 v2 : Value) (w : World) (h1 : Rt w v1 n d) (h2 : Qv w v2 n d) (hd : 0 < d) (hl1 : (limbs n.natAbs).length ≤ 100000) (hl2 : (limbs d).length ≤ 100000) (hT : TabW w) :
    Calls Tryz.prog 19 #[v1, v2] w fun e w' => e = .returned (.bool true) ∧ Below w.heap.size w w' := by
  obtain ⟨b0, p0, k0, c0, q0, m0, e0, rfl, hb0, hr0, hw0⟩ := h1.form
  obtain ⟨b1, p1, n1, c1, b2, p2, n2, c2, rfl, hz1, hz2⟩ := h2.form
  obtain ⟨S, hS⟩ : ∃ S, formB n d = S := ⟨_, rfl⟩
  have HST := Lib.hid (fun W v h hT => ratString_any v n d W h hl1 hl2 hT)
  have HFO := Lib.hid (fun W v h => form_go n d v W h (by omega) hl1 (by rw [Int.natAbs_natCast]; exact hl2))
  rw [hS] at HST HFO
  have H1 := Lib.hid h1
  have H2 := Lib.hid h2
  have HT := Lib.hid hT
  clear h1 h2 hT hz1 hz2 hr0 hw0 hS hl1 hl2 hb0
  go_enter Tryz.func19, Tryz.ntmps19
  go_upto_region 1 with (fail)
  obtain ⟨x1, x3, x4, x5⟩ := two_boxes w 27 36 #[.bool b0, .slice p0 k0 c0, .slice q0 m0 e0] #[.bool b1, .slice p1 n1 c1, .bool b2, .slice p2 n2 c2]
  generalize (w.alloc (.cells #[.bool b0, .slice p0 k0 c0, .slice q0 m0 e0] 27)).alloc (.cells #[.bool b1, .slice p1 n1 c1, .bool b2, .slice p2 n2 c2] 36) = wX at *
  obtain ⟨h, hh⟩ : ∃ h, w.heap.size = h := ⟨_, rfl⟩
  have HH := Lib.hid hh
  have K1 := Lib.hid (H1.out.below x4)
  have K2 := Lib.hid (H2.out.below x4)
  have KT := Lib.hid (TabW.below HT.out x4)
  rw [hh] at x1 x3 x4 x5 ⊢
  have X1 := Lib.hid x1
  have X3 := Lib.hid x3
  have X4 := Lib.hid x4
  have hsx : h ≤ wX.heap.size := by omega
  have HSX := Lib.hid hsx
  clear x1 x3 x4 x5 hh hsx H1 H2 HT
  refine wp_region_rel (by kernel_rfl) 10 rfl (by kernel_rfl) [.fix (.agg #[.bool b0, .slice p0 k0 c0, .slice q0 m0 e0]), .fix (.string S), .fix (.agg #[.bool b1, .slice p1 n1 c1, .bool b2, .slice p2 n2 c2]), .fix (.string S), .fix (.bool true), .fix (.bool true)] rfl (stays_fix rfl) ?hop ?hQ
  case hop =>
    intro W hW j o hj vs w1' hb hV
    have hj' : j < 6 := (List.getElem?_eq_some_iff.1 hj).1
    rcases (by omega : j = 0 ∨ j = 1 ∨ j = 2 ∨ j = 3 ∨ j = 4 ∨ j = 5) with rfl | rfl | rfl | rfl | rfl | rfl
    · cases hj
      clear hj'
      refine .inl ⟨rfl, ?_⟩
      generalize hG : relUpon _ _ _ = G
      have hbw : Below wX.heap.size wX w1' := by rw [hW] at hb; exact ((Below.refl wX.heap.size wX).drew).trans hb
      have d0 := (X1.out.below hbw X1.out.lt).cell 0
      have d1 := (X1.out.below hbw X1.out.lt).cell 1
      have d2 := (X1.out.below hbw X1.out.lt).cell 2
      simp only [List.getElem?_cons_zero, List.getElem?_cons_succ] at d0 d1 d2
      clear hbw hW hb hV
      subst hG
      simp only [putAll]
      generalize hR : Res _ _ vs w1' = R
      go_simp
      subst hR
      exact ⟨rfl, Below.refl _ _⟩
    · cases hj
      clear hj'
      refine .inl ⟨rfl, ?_⟩
      generalize hG : relUpon _ _ _ = G
      have hbw : Below wX.heap.size wX w1' := by rw [hW] at hb; exact ((Below.refl wX.heap.size wX).drew).trans hb
      have q0_ : vs 0 = _ := hV 0 (by decide)
      have HKK := Lib.hid (K1.out.below hbw)
      have HTT := Lib.hid (TabW.below KT.out hbw)
      clear hbw hW hb hV
      subst hG
      simp only [putAll]
      generalize hR : Res _ _ vs w1' = R
      go_simp
      subst hR
      refine (HST.out w1' _ HKK.out HTT.out).mono ?_
      rintro e w2 ⟨rfl, hb2⟩
      exact ⟨_, rfl, rfl, hb2⟩
    · cases hj
      clear hj'
      refine .inl ⟨rfl, ?_⟩
      generalize hG : relUpon _ _ _ = G
      have hbw : Below wX.heap.size wX w1' := by rw [hW] at hb; exact ((Below.refl wX.heap.size wX).drew).trans hb
      have d0 := (X3.out.below hbw X3.out.lt).cell 0
      have d1 := (X3.out.below hbw X3.out.lt).cell 1
      have d2 := (X3.out.below hbw X3.out.lt).cell 2
      have d3 := (X3.out.below hbw X3.out.lt).cell 3
      simp only [List.getElem?_cons_zero, List.getElem?_cons_succ] at d0 d1 d2 d3
      clear hbw hW hb hV
      subst hG
      simp only [putAll]
      generalize hR : Res _ _ vs w1' = R
      go_simp
      subst hR
      exact ⟨rfl, Below.refl _ _⟩
    · cases hj
      clear hj'
      refine .inl ⟨rfl, ?_⟩
      generalize hG : relUpon _ _ _ = G
      have hbw : Below wX.heap.size wX w1' := by rw [hW] at hb; exact ((Below.refl wX.heap.size wX).drew).trans hb
      have q2_ : vs 2 = _ := hV 2 (by decide)
      have HKK := Lib.hid (K2.out.below hbw)
      clear hbw hW hb hV
      subst hG
      simp only [putAll]
      generalize hR : Res _ _ vs w1' = R
      go_simp
      subst hR
      refine (HFO.out w1' _ HKK.out).mono ?_
      rintro e w2 ⟨rfl, hb2⟩
      exact ⟨_, rfl, rfl, hb2⟩
    · cases hj
      clear hj'
      refine .inl ⟨rfl, ?_⟩
      generalize hG : relUpon _ _ _ = G
      have q1_ : vs 1 = _ := hV 1 (by decide)
      have q3_ : vs 3 = _ := hV 3 (by decide)
      clear hV hb hW
      subst hG
      simp only [putAll]
      generalize hR : Res _ _ vs w1' = R
      go_simp
      subst hR
      exact ⟨rfl, Below.refl _ _⟩
    · cases hj
      clear hj'
      refine .inl ⟨rfl, ?_⟩
      generalize hG : relUpon _ _ _ = G
      have q4_ : vs 4 = _ := hV 4 (by decide)
      clear hV hb hW
      subst hG
      simp only [putAll]
      generalize hR : Res _ _ vs w1' = R
      go_simp
      subst hR
      exact ⟨rfl, Below.refl _ _⟩
  case hQ =>
    intro W hW vs w2 hb hV hD
    have hbw : Below wX.heap.size wX w2 := by rw [hW] at hb; exact ((Below.refl wX.heap.size wX).drew).trans hb
    have e0_ : vs 0 = _ := hV 0 (by simp)
    have e1_ : vs 1 = _ := hV 1 (by simp)
    have e2_ : vs 2 = _ := hV 2 (by simp)
    have e3_ : vs 3 = _ := hV 3 (by simp)
    have e4_ : vs 4 = _ := hV 4 (by simp)
    have e5_ : vs 5 = _ := hV 5 (by simp)
    have hfin := X4.out.trans (hbw.mono HSX.out)
    have HFIN := Lib.hid hfin
    clear hV hD hb hW hbw hfin HST HFO
    generalize hKK : Exit.then _ _ = KK
    simp only [putAll, e0_, e1_, e2_, e3_, e4_, e5_]
    go_simp
    subst hKK
    clear e0_ e1_ e2_ e3_ e4_ e5_
    go_wp2_with fail
    go_ret
    rw [HH.out]
    exact ⟨rfl, HFIN.out⟩
set_option maxRecDepth 100000 in
set_option maxHeartbeats 2000000 in
theorem lawMakes (a b : Int) (w : World) (hT : TabW w) (ha1 : -9223372036854775808 ≤ a) (ha2 : a ≤ 9223372036854775807) (hb1 : -9223372036854775808 ≤ b) (hb2 : b ≤ 9223372036854775807) :
    Calls Tryz.prog 4 #[.int .i64 a, .int .i64 b] w fun e w' => e = .returned (.bool true) ∧ Below w.heap.size w w' := by
  have HT := Lib.hid hT
  have hla : (limbs a.natAbs).length ≤ 100000 := Nat.le_trans (limbs_len3 (by omega)) (by omega)
  have HOF := Lib.hid (fun W => of_any a W ha1 ha2)
  have HRO := Lib.hid (fun W => of_go a W ha1 ha2)
  have HIS := Lib.hid (fun W v1 v2 h1 h2 hT => is_same a 1 v1 v2 W h1 h2 (by omega) hla (Nat.le_trans (limbs_len3 (by omega)) (by omega)) hT)
  have HBA := Lib.hid (And.intro (And.intro ha1 ha2) (And.intro hb1 hb2))
  clear hT hla ha1 ha2 hb1 hb2
  by_cases hb0 : b = 0
  · subst hb0
    go_enter Tryz.func4, Tryz.ntmps4
    go_wp2_with fail
    refine (HOF.out w).mono ?_
    rintro e w1 ⟨v1, rfl, hv1, hb1⟩
    have HV1 := Lib.hid hv1
    have HB1 := Lib.hid hb1
    obtain ⟨_, _, _, _, _, _, _, rfl, hbx, _, _⟩ := hv1.form
    clear hv1 hb1 hbx
    go_wp2_with fail
    refine (HRO.out w1).mono ?_
    rintro e w2 ⟨v2, rfl, hv2, hb2⟩
    have HV2 := Lib.hid hv2
    have HB2 := Lib.hid hb2
    obtain ⟨_, _, _, _, rfl, _⟩ := hv2.form
    clear hv2 hb2
    go_wp2_with fail
    refine (whole_go a _ w2 HV2.out).mono ?_
    rintro e w3 ⟨v3, rfl, hv3, hb3⟩
    have HV3 := Lib.hid hv3
    have HB3 := Lib.hid hb3
    obtain ⟨_, _, _, _, _, _, _, _, rfl, _⟩ := hv3.form
    have hs1 := HB1.out.size
    have hs2 := HB2.out.size
    have hb12 := HB1.out.trans (HB2.out.mono hs1)
    have hb13 := hb12.trans (hb3.mono (Nat.le_trans hs1 hs2))
    have HB13 := Lib.hid hb13
    have hb23 := HB2.out.trans (hb3.mono hs2)
    have HB23 := Lib.hid hb23
    have HT3 := Lib.hid (TabW.below HT.out hb13)
    clear hv3 hb3 hs1 hs2 hb12 hb13 hb23
    go_wp2_with fail
    refine (HIS.out w3 _ _ (HV1.out.below HB23.out) HV3.out HT3.out).mono ?_
    rintro e w4 ⟨rfl, hb4⟩
    have HB4 := Lib.hid (HB13.out.trans (hb4.mono HB13.out.size))
    have HT4 := Lib.hid (TabW.below HT.out HB4.out)
    clear hb4 HV1 HV2 HV3 HB1 HB2 HB3 HB13 HB23 HT3 HIS HOF HRO
    go_wp2_with fail
    refine (make_zero a w4).mono ?_
    rintro e w5 ⟨rfl, hb5⟩
    have HB5 := Lib.hid (HB4.out.trans (hb5.mono HB4.out.size))
    clear hb5
    have HB6 := Lib.hid (HB5.out.trans (((Below.refl _ _).alloc (Nat.le_refl _) (.cells #[.bool false, .slice none 0 0, .slice none 0 0] 27)).mono HB5.out.size))
    have HT6 := Lib.hid (TabW.below HT.out HB6.out)
    clear HT4 HB5 HB4
    go_wp2_with fail
    refine (ratString_any _ 0 1 _ (rt_zero _) (by rw [show (0 : Int).natAbs = 0 from rfl, limbs_zero]; exact Nat.zero_le _) (by rw [limbs_one]; decide) HT6.out).mono ?_
    rw [formB_zero]
    rintro e w7 ⟨rfl, hb7⟩
    have HB7 := Lib.hid (HB6.out.trans (hb7.mono HB6.out.size))
    clear hb7 HB6 HT6
    go_wp2_with fail
    refine (awake_spec w7).mono ?_
    rintro e w8 ⟨rfl, hb8⟩
    have HB8 := Lib.hid (HB7.out.trans (hb8.mono HB7.out.size))
    clear hb8 HB7
    go_wp2_with fail
    go_ret
    exact ⟨rfl, HB8.out⟩
  · have HMK := Lib.hid (fun W => make_any a b W hb0 HBA.out.1.1 HBA.out.1.2 HBA.out.2.1 HBA.out.2.2)
    have HFR := Lib.hid (fun W => frac_go a b W hb0 HBA.out.1.1 HBA.out.1.2 HBA.out.2.1 HBA.out.2.2)
    have HLN := Lib.hid (rat_lens a b hb0 (by have := HBA.out; omega) (by have := HBA.out; omega))
    have gb0 : ¬ (b = 0) := hb0
    clear hb0
    go_enter Tryz.func4, Tryz.ntmps4
    go_wp2_with fail
    refine (HOF.out w).mono ?_
    rintro e w1 ⟨v1, rfl, hv1, hb1⟩
    have HV1 := Lib.hid hv1
    have HB1 := Lib.hid hb1
    obtain ⟨_, _, _, _, _, _, _, rfl, hbx, _, _⟩ := hv1.form
    clear hv1 hb1 hbx
    go_wp2_with fail
    refine (HRO.out w1).mono ?_
    rintro e w2 ⟨v2, rfl, hv2, hb2⟩
    have HV2 := Lib.hid hv2
    have HB2 := Lib.hid hb2
    obtain ⟨_, _, _, _, rfl, _⟩ := hv2.form
    clear hv2 hb2
    go_wp2_with fail
    refine (whole_go a _ w2 HV2.out).mono ?_
    rintro e w3 ⟨v3, rfl, hv3, hb3⟩
    have HV3 := Lib.hid hv3
    have HB3 := Lib.hid hb3
    obtain ⟨_, _, _, _, _, _, _, _, rfl, _⟩ := hv3.form
    have hs1 := HB1.out.size
    have hs2 := HB2.out.size
    have hb12 := HB1.out.trans (HB2.out.mono hs1)
    have hb13 := hb12.trans (hb3.mono (Nat.le_trans hs1 hs2))
    have HB13 := Lib.hid hb13
    have hb23 := HB2.out.trans (hb3.mono hs2)
    have HB23 := Lib.hid hb23
    have HT3 := Lib.hid (TabW.below HT.out hb13)
    clear hv3 hb3 hs1 hs2 hb12 hb13 hb23
    go_wp2_with fail
    refine (HIS.out w3 _ _ (HV1.out.below HB23.out) HV3.out HT3.out).mono ?_
    rintro e w4 ⟨rfl, hb4⟩
    have HB4 := Lib.hid (HB13.out.trans (hb4.mono HB13.out.size))
    have HT4 := Lib.hid (TabW.below HT.out HB4.out)
    clear hb4 HV1 HV2 HV3 HB1 HB2 HB3 HB13 HB23 HT3 HIS HOF HRO
    go_wp2_with fail
    refine (HMK.out w4).mono ?_
    rintro e w5 ⟨v, d, rfl, hd, hd0, hv, hb5⟩
    have HV := Lib.hid hv
    obtain ⟨b1, p, k, c, q, m, e, rfl, hbx, hrx, hlx⟩ := hv.form
    clear hbx hrx hlx
    have HD := Lib.hid (And.intro hd hd0)
    have HB5 := Lib.hid (HB4.out.trans (hb5.mono HB4.out.size))
    have hrow := row_new 27 w5 #[.bool b1, .slice p k c, .slice q m e]
    have hbe := (Below.refl w5.heap.size w5).alloc (Nat.le_refl _) (.cells #[.bool b1, .slice p k c, .slice q m e] 27)
    have HROW := Lib.hid hrow
    have HBE := Lib.hid hbe
    clear hd hd0 hv hb5 hrow hbe HMK
    go_upto_region 6 with (fail)
    generalize w5.alloc (.cells #[.bool b1, .slice p k c, .slice q m e] 27) = wX at *
    obtain ⟨h, hh⟩ : ∃ h, w5.heap.size = h := ⟨_, rfl⟩
    have K1 := Lib.hid (HV.out.below HBE.out)
    have HBX := Lib.hid (HB5.out.trans (HBE.out.mono HB5.out.size))
    have KT := Lib.hid (TabW.below HT.out HBX.out)
    rw [hh] at HROW HBE ⊢
    clear hh HBE HB5 HB4 HT4 HV
    refine wp_region_rel (by kernel_rfl) 44 rfl (by kernel_rfl) [.fix (.int .i64 0), .fix (.bool true), .fix (.bool true), .fix (.agg #[.bool b1, .slice p k c, .slice q m e]), .fix (.int .i64 a), .fix (.int .i64 b), .mem (fun u W => Qv W u (ratN a b) (ratD a b)), .fix (.bool true), .fix (.bool true), .fix (.bool true), .fix (.bool true), .fix (.bool true), .fix (.bool true)] rfl (stays_stb (fun i M hk => by rcases i with _ | _ | _ | _ | _ | _ | _ | _ | _ | _ | _ | _ | _ | i <;> simp at hk <;> subst hk <;> first | exact stb_zv _ | exact stb_qv _ _ | exact stb_lb _)) ?hop ?hQ
    case hop =>
      intro W hW j o hj vs w1' hb hV
      have hj' : j < 13 := (List.getElem?_eq_some_iff.1 hj).1
      rcases (by omega : j = 0 ∨ j = 1 ∨ j = 2 ∨ j = 3 ∨ j = 4 ∨ j = 5 ∨ j = 6 ∨ j = 7 ∨ j = 8 ∨ j = 9 ∨ j = 10 ∨ j = 11 ∨ j = 12) with rfl | rfl | rfl | rfl | rfl | rfl | rfl | rfl | rfl | rfl | rfl | rfl | rfl
      · cases hj
        clear hj'
        refine .inl ⟨rfl, ?_⟩
        generalize hG : relUpon _ _ _ = G
        clear hV hb hW
        subst hG
        simp only [putAll]
        generalize hR : Res _ _ vs w1' = R
        go_simp
        subst hR
        exact ⟨rfl, Below.refl _ _⟩
      · cases hj
        clear hj'
        refine .inl ⟨rfl, ?_⟩
        generalize hG : relUpon _ _ _ = G
        have q0_ : vs 0 = _ := hV 0 (by decide)
        clear hV hb hW
        subst hG
        simp only [putAll]
        generalize hR : Res _ _ vs w1' = R
        go_simp
        subst hR
        exact ⟨rfl, Below.refl _ _⟩
      · cases hj
        clear hj'
        refine .inl ⟨rfl, ?_⟩
        generalize hG : relUpon _ _ _ = G
        have q1_ : vs 1 = _ := hV 1 (by decide)
        clear hV hb hW
        subst hG
        simp only [putAll]
        generalize hR : Res _ _ vs w1' = R
        go_simp
        subst hR
        exact ⟨rfl, Below.refl _ _⟩
      · cases hj
        clear hj'
        refine .inl ⟨rfl, ?_⟩
        generalize hG : relUpon _ _ _ = G
        have hbw : Below wX.heap.size wX w1' := by rw [hW] at hb; exact ((Below.refl wX.heap.size wX).drew).trans hb
        have d0 := (HROW.out.below hbw HROW.out.lt).cell 0
        have d1 := (HROW.out.below hbw HROW.out.lt).cell 1
        have d2 := (HROW.out.below hbw HROW.out.lt).cell 2
        simp only [List.getElem?_cons_zero, List.getElem?_cons_succ] at d0 d1 d2
        clear hbw hW hb hV
        subst hG
        simp only [putAll]
        generalize hR : Res _ _ vs w1' = R
        go_simp
        subst hR
        exact ⟨rfl, Below.refl _ _⟩
      · cases hj
        clear hj'
        refine .inl ⟨rfl, ?_⟩
        generalize hG : relUpon _ _ _ = G
        clear hV hb hW
        subst hG
        simp only [putAll]
        generalize hR : Res _ _ vs w1' = R
        go_simp
        subst hR
        exact ⟨rfl, Below.refl _ _⟩
      · cases hj
        clear hj'
        refine .inl ⟨rfl, ?_⟩
        generalize hG : relUpon _ _ _ = G
        clear hV hb hW
        subst hG
        simp only [putAll]
        generalize hR : Res _ _ vs w1' = R
        go_simp
        subst hR
        exact ⟨rfl, Below.refl _ _⟩
      · cases hj
        clear hj'
        refine .inl ⟨rfl, ?_⟩
        generalize hG : relUpon _ _ _ = G
        have q4_ : vs 4 = _ := hV 4 (by decide)
        have q5_ : vs 5 = _ := hV 5 (by decide)
        clear hW hb hV
        subst hG
        simp only [putAll]
        generalize hR : Res _ _ vs w1' = R
        go_simp
        subst hR
        refine (HFR.out w1').mono ?_
        rintro e w2 ⟨v, rfl, hq, hb2⟩
        exact ⟨_, rfl, hq, hb2⟩
      · cases hj
        clear hj'
        refine .inl ⟨rfl, ?_⟩
        generalize hG : relUpon _ _ _ = G
        have hbw : Below wX.heap.size wX w1' := by rw [hW] at hb; exact ((Below.refl wX.heap.size wX).drew).trans hb
        have q3_ : vs 3 = _ := hV 3 (by decide)
        have hq : Qv w1' (vs 6) (ratN a b) (ratD a b) := hV 6 (by decide)
        rw [HD.out.1] at hq
        have HQQ := Lib.hid hq
        have HKK := Lib.hid (K1.out.below hbw)
        have HTT := Lib.hid (TabW.below KT.out hbw)
        have HDL : Hid ((limbs d).length ≤ 100000) := by have := HLN.out.2; rw [HD.out.1, Int.natAbs_natCast] at this; exact this
        clear hbw hW hb hV hq
        subst hG
        simp only [putAll]
        generalize hR : Res _ _ vs w1' = R
        go_simp
        subst hR
        refine (is_same (ratN a b) d _ _ w1' HKK.out HQQ.out HD.out.2 HLN.out.1 HDL.out HTT.out).mono ?_
        rintro e w2 ⟨rfl, hb2⟩
        exact ⟨_, rfl, rfl, hb2⟩
      · cases hj
        clear hj'
        refine .inl ⟨rfl, ?_⟩
        generalize hG : relUpon _ _ _ = G
        have q2_ : vs 2 = _ := hV 2 (by decide)
        have q7_ : vs 7 = _ := hV 7 (by decide)
        clear hV hb hW
        subst hG
        simp only [putAll]
        generalize hR : Res _ _ vs w1' = R
        go_simp
        subst hR
        exact ⟨rfl, Below.refl _ _⟩
      · cases hj
        clear hj'
        refine .inl ⟨rfl, ?_⟩
        generalize hG : relUpon _ _ _ = G
        have q8_ : vs 8 = _ := hV 8 (by decide)
        clear hV hb hW
        subst hG
        simp only [putAll]
        generalize hR : Res _ _ vs w1' = R
        go_simp
        subst hR
        exact ⟨rfl, Below.refl _ _⟩
      · cases hj
        clear hj'
        refine .inl ⟨rfl, ?_⟩
        generalize hG : relUpon _ _ _ = G
        clear hW hb hV
        subst hG
        simp only [putAll]
        generalize hR : Res _ _ vs w1' = R
        go_simp
        subst hR
        refine (awake_spec w1').mono ?_
        rintro e w2 ⟨rfl, hb2⟩
        exact ⟨_, rfl, rfl, hb2⟩
      · cases hj
        clear hj'
        refine .inl ⟨rfl, ?_⟩
        generalize hG : relUpon _ _ _ = G
        have q9_ : vs 9 = _ := hV 9 (by decide)
        have q10_ : vs 10 = _ := hV 10 (by decide)
        clear hV hb hW
        subst hG
        simp only [putAll]
        generalize hR : Res _ _ vs w1' = R
        go_simp
        subst hR
        exact ⟨rfl, Below.refl _ _⟩
      · cases hj
        clear hj'
        refine .inl ⟨rfl, ?_⟩
        generalize hG : relUpon _ _ _ = G
        have q11_ : vs 11 = _ := hV 11 (by decide)
        clear hV hb hW
        subst hG
        simp only [putAll]
        generalize hR : Res _ _ vs w1' = R
        go_simp
        subst hR
        exact ⟨rfl, Below.refl _ _⟩
    case hQ =>
      intro W hW vs w2 hb hV hD
      have hbw : Below wX.heap.size wX w2 := by rw [hW] at hb; exact ((Below.refl wX.heap.size wX).drew).trans hb
      have e0_ : vs 0 = _ := hV 0 (by simp)
      have e1_ : vs 1 = _ := hV 1 (by simp)
      have e2_ : vs 2 = _ := hV 2 (by simp)
      have e3_ : vs 3 = _ := hV 3 (by simp)
      have e4_ : vs 4 = _ := hV 4 (by simp)
      have e5_ : vs 5 = _ := hV 5 (by simp)
      have e7_ : vs 7 = _ := hV 7 (by simp)
      have e8_ : vs 8 = _ := hV 8 (by simp)
      have e9_ : vs 9 = _ := hV 9 (by simp)
      have e10_ : vs 10 = _ := hV 10 (by simp)
      have e11_ : vs 11 = _ := hV 11 (by simp)
      have e12_ : vs 12 = _ := hV 12 (by simp)
      obtain ⟨_, _, _, _, _, _, _, _, e6_, _⟩ := Qv.form (show Qv w2 (vs 6) (ratN a b) (ratD a b) from hV 6 (by simp))
      have hfin := HBX.out.trans (hbw.mono HBX.out.size)
      have HFIN := Lib.hid hfin
      clear hV hD hb hW hbw hfin
      generalize hKK : Exit.then _ _ = KK
      simp only [putAll, e0_, e1_, e2_, e3_, e4_, e5_, e6_, e7_, e8_, e9_, e10_, e11_, e12_]
      go_simp
      subst hKK
      clear e0_ e1_ e2_ e3_ e4_ e5_ e6_ e7_ e8_ e9_ e10_ e11_ e12_
      go_wp2_with fail
      go_ret
      exact ⟨rfl, HFIN.out⟩
end Go.Proofs.YtmhmkhdgpfhnfaaGreatDoor.Ref
