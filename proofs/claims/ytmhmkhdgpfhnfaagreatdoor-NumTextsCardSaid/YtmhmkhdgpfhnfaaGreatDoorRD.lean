/- The reference's integers: Sign, Add of different signs, Sub, Cmp. -/
import Derived.Test.YtmhmkhdgpfhnfaaGreatDoorRC
set_option linter.unusedVariables false
set_option linter.unusedSimpArgs false
set_option linter.unnecessarySimpa false
namespace Go.Proofs.YtmhmkhdgpfhnfaaGreatDoor.Ref
open Go.RowKit

theorem stb_lb (l : List Nat) : Stb (fun u W => LbA W u l) := ⟨fun v w w' h hb => SlA.below h hb, fun v w w' T g n xs hr hx t h => h.touch hr hx t⟩
theorem add_hi {x y : Int} {a1 a2 : Nat} {b1 b2 : Bool} (h1 : decide (x < 0) = b1 ∧ x.natAbs = a1) (h2 : decide (y < 0) = b2 ∧ y.natAbs = a2) (hne : b1 ≠ b2) (h : ¬ a1 < a2) : (x + y).natAbs = a1 - a2 ∧ sgR b1 (a1 - a2) = decide (x + y < 0) := by
  obtain ⟨rfl, rfl⟩ := h1
  obtain ⟨rfl, rfl⟩ := h2
  have e : (x + y).natAbs = x.natAbs - y.natAbs := by
    by_cases hx : x < 0 <;> by_cases hy : y < 0
    · rw [decide_eq_true hx, decide_eq_true hy] at hne; exact absurd rfl hne
    · omega
    · omega
    · rw [decide_eq_false hx, decide_eq_false hy] at hne; exact absurd rfl hne
  refine ⟨e, ?_⟩
  rw [← e]
  by_cases h0 : x + y = 0
  · rw [h0]; exact sgR_zero _
  · rw [sgR_pos (by omega)]
    by_cases hx : x < 0
    · rw [decide_eq_true hx, decide_eq_true (by omega)]
    · rw [decide_eq_false hx, decide_eq_false (by omega)]
theorem add_lo {x y : Int} {a1 a2 : Nat} {b1 b2 : Bool} (h1 : decide (x < 0) = b1 ∧ x.natAbs = a1) (h2 : decide (y < 0) = b2 ∧ y.natAbs = a2) (hne : b1 ≠ b2) (h : a1 < a2) : (x + y).natAbs = a2 - a1 ∧ sgR b2 (a2 - a1) = decide (x + y < 0) := by
  have := add_hi h2 h1 (fun e => hne e.symm) (by omega)
  rw [Int.add_comm x y]; exact this
theorem cmpI_lt {a b : Nat} (h : a < b) : cmpI a b = -1 := by unfold cmpI; rw [if_pos h]
theorem cmpI_ge {a b : Nat} (h : ¬ a < b) : 0 ≤ cmpI a b := by unfold cmpI; rw [if_neg h]; split <;> omega
set_option maxRecDepth 100000 in
set_option maxHeartbeats 1000000 in
theorem sign_go (x : Int) (v1 : Value) (w : World) (h1 : Zv w v1 x) :
    Calls Tryz.prog 76 #[v1] w fun e w' => e = .returned (.int .i64 (Int.sign x)) ∧ Below w.heap.size w w' := by
  obtain ⟨p, c, rfl, h1⟩ := h1
  obtain ⟨b1, hb1⟩ : ∃ b, decide (x < 0) = b := ⟨_, rfl⟩
  obtain ⟨n, hn⟩ : ∃ n, (limbs x.natAbs).length = n := ⟨_, rfl⟩
  have h0 : n = 0 ↔ x = 0 := by
    rw [← hn, List.length_eq_zero_iff, limbs_nil_iff]; omega
  have hb := (Below.refl w.heap.size w).alloc (Nat.le_refl _) (.cells #[.bool b1, .slice p n c] 34)
  have HB := Lib.hid hb
  rw [hb1, hn]
  by_cases hx : x = 0
  · subst hx
    obtain rfl : n = 0 := h0.2 rfl
    clear hb1 hn h0 h1 hb
    go_enter Tryz.func76, Tryz.ntmps76
    go_wp2
    go_ret
    exact ⟨rfl, HB.out⟩
  · have hn0 : (0 : Int) < (n : Int) := by have : n ≠ 0 := fun e => hx (h0.1 e); omega
    have gne : ¬ ((n : Int) = 0) := by omega
    by_cases hs : x < 0
    · obtain rfl : b1 = true := by rw [← hb1]; exact decide_eq_true hs
      have HE : Hid (Int.sign x = -1) := Int.sign_eq_neg_one_of_neg hs
      clear hb1 hn h0 h1 hb hx hs
      go_enter Tryz.func76, Tryz.ntmps76
      go_wp2
      go_ret
      exact ⟨by rw [HE.out]; rfl, HB.out⟩
    · obtain rfl : b1 = false := by rw [← hb1]; exact decide_eq_false hs
      have HE : Hid (Int.sign x = 1) := Int.sign_eq_one_of_pos (by omega)
      clear hb1 hn h0 h1 hb hx hs
      go_enter Tryz.func76, Tryz.ntmps76
      go_wp2
      go_ret
      exact ⟨by rw [HE.out]; rfl, HB.out⟩
set_option maxRecDepth 100000 in
set_option maxHeartbeats 1000000 in
theorem add_ne (x y : Int) (v1 v2 : Value) (w : World) (h1 : Zv w v1 x) (h2 : Zv w v2 y) (hne : decide (x < 0) ≠ decide (y < 0)) (hl1 : (limbs x.natAbs).length ≤ 800000) (hl2 : (limbs y.natAbs).length ≤ 800000) :
    Calls Tryz.prog 87 #[v1, v2] w (OutZ w (x + y)) := by
  obtain ⟨p1, c1, rfl, h1⟩ := h1
  obtain ⟨p2, c2, rfl, h2⟩ := h2
  obtain ⟨b1, hb1⟩ : ∃ b, decide (x < 0) = b := ⟨_, rfl⟩
  obtain ⟨a1, ha1⟩ : ∃ a, x.natAbs = a := ⟨_, rfl⟩
  obtain ⟨b2, hb2⟩ : ∃ b, decide (y < 0) = b := ⟨_, rfl⟩
  obtain ⟨a2, ha2⟩ : ∃ a, y.natAbs = a := ⟨_, rfl⟩
  have HBX := Lib.hid (And.intro hb1 ha1)
  have HBY := Lib.hid (And.intro hb2 ha2)
  rw [hb1, hb2] at hne
  rw [hb1, hb2, ha1, ha2]
  rw [ha1] at h1 hl1
  rw [ha2] at h2 hl2
  have hbe : (b1 == b2) = false := by simpa using hne
  have hbe2 : ¬ (b1 = b2) := hne
  have HNE := Lib.hid hne
  have HLL := Lib.hid (And.intro hl1 hl2)
  obtain ⟨n1, hn1⟩ : ∃ n, (limbs a1).length = n := ⟨_, rfl⟩
  obtain ⟨n2, hn2⟩ : ∃ n, (limbs a2).length = n := ⟨_, rfl⟩
  rw [hn1] at h1 ⊢
  rw [hn2] at h2 ⊢
  have H1 := Lib.hid h1
  have H2 := Lib.hid h2
  clear hb1 hb2 ha1 ha2 hn1 hn2 h1 h2 hl1 hl2 hne
  go_enter Tryz.func87, Tryz.ntmps87
  go_upto_region 1 with (fail)
  obtain ⟨x1, x2, x3, x4, x5⟩ := three_boxes w 34 34 34 #[.bool b1, .slice p1 n1 c1] #[.bool b2, .slice p2 n2 c2] #[.bool false, .slice none 0 0]
  rw [show w.heap.size + 1 + 1 = w.heap.size + 2 from rfl]
  generalize ((w.alloc (.cells #[.bool b1, .slice p1 n1 c1] 34)).alloc (.cells #[.bool b2, .slice p2 n2 c2] 34)).alloc (.cells #[.bool false, .slice none 0 0] 34) = W0 at *
  obtain ⟨h, hh⟩ : ∃ h, w.heap.size = h := ⟨_, rfl⟩
  have HH := Lib.hid hh
  have K1 : Hid (LbA W0 (.slice p1 n1 c1) (limbs a1)) := SlA.below H1.out x4
  have K2 : Hid (LbA W0 (.slice p2 n2 c2) (limbs a2)) := SlA.below H2.out x4
  rw [hh] at x1 x2 x3 x4 x5 ⊢
  have q1 := x1.cell 0
  have q2 := x1.cell 1
  have q3 := x2.cell 0
  have q4 := x2.cell 1
  simp only [List.getElem?_cons_zero, List.getElem?_cons_succ] at q1 q2 q3 q4
  have X1 := Lib.hid x1
  have X2 := Lib.hid x2
  have X3 := Lib.hid x3
  have X4 := Lib.hid x4
  have X5 := Lib.hid x5
  clear x1 x2 x3 x4 x5 hh H1 H2
  have HC := Lib.hid (cmp_go _ _ a1 a2 W0 K1.out K2.out (by have := HLL.out.1; omega))
  go_upto_region 3 with (fail)
  by_cases hlt : a1 < a2
  · rw [cmpI_lt hlt] at HC
    have HAD := Lib.hid (add_lo HBX.out HBY.out HNE.out hlt)
    have HSUB : Hid (∀ W, LbA W (.slice p2 n2 c2) (limbs a2) → LbA W (.slice p1 n1 c1) (limbs a1) → Calls Tryz.prog 143 #[.slice p2 n2 c2, .slice p1 n1 c1] W (OutN W (limbs (a2 - a1)))) := fun W h2 h1 => by
      have := sub_go _ _ _ _ W h2 h1 (Lo_limbs _) (Lo_limbs _) (limbs_mono (Nat.le_of_lt hlt)) (by rw [val_limbs, val_limbs]; exact Nat.le_of_lt hlt) (by have := HLL.out.2; omega)
      rw [val_limbs, val_limbs] at this
      exact this
    clear hlt
    go_upto_region 5 with (fail)
    all_goals first | (refine HC.out.mono ?_) | skip
    rintro e wX ⟨rfl, hb1⟩
    have Y1 := Lib.hid (X1.out.below hb1 X1.out.lt)
    have Y2 := Lib.hid (X2.out.below hb1 X2.out.lt)
    have Y3 := Lib.hid (X3.out.below hb1 X3.out.lt)
    have J1 : Hid (LbA wX (.slice p1 n1 c1) (limbs a1)) := SlA.below K1.out hb1
    have J2 : Hid (LbA wX (.slice p2 n2 c2) (limbs a2)) := SlA.below K2.out hb1
    have HB0 : Hid (Below h w wX) := X4.out.trans (hb1.mono (by rw [X5.out]; omega))
    clear hb1 HC X1 X2 X3 X4 X5 K1 K2 q1 q2 q3 q4
    go_upto_region 5 with (fail)
    refine wp_region_rel_tails (by kernel_rfl) 8 40 rfl (by kernel_rfl) (by kernel_rfl) [.fix (.pointer (some ⟨h + 1, 0, none⟩)), .fix (.bool b2), .fix (.pointer (some ⟨h + 1, 1, none⟩)), .fix (.slice p2 n2 c2), .fix (.pointer (some ⟨h, 1, none⟩)), .fix (.slice p1 n1 c1), .mem (fun u W => LbA W u (limbs (a2 - a1))), .mem (fun u W => Zv W u (x + y))] rfl (stays_stb (fun i M hk => by rcases i with _ | _ | _ | _ | _ | _ | _ | _ | i <;> simp at hk <;> subst hk <;> first | exact stb_zv _ | exact stb_lb _)) ?hop ?hQ
    case hop =>
      intro W hW j o hj vs w1' hb hV
      simp only [List.take_succ_cons, List.take_zero] at hj
      have hj' : j < 8 := (List.getElem?_eq_some_iff.1 hj).1
      rcases (by omega : j = 0 ∨ j = 1 ∨ j = 2 ∨ j = 3 ∨ j = 4 ∨ j = 5 ∨ j = 6 ∨ j = 7) with rfl | rfl | rfl | rfl | rfl | rfl | rfl | rfl
      · cases hj
        clear hj'
        refine .inl ⟨rfl, ?_⟩
        simp only [List.take_succ_cons, List.take_zero]
        generalize hG : relUpon _ _ _ = G
        clear hV hb hW
        subst hG
        simp only [putAll]
        generalize hR : Res _ _ vs w1' = R
        go_simp
        subst hR
        exact ⟨rfl, Below.refl _ _⟩
      · cases hj
        clear hj'
        refine .inl ⟨rfl, ?_⟩
        simp only [List.take_succ_cons, List.take_zero]
        generalize hG : relUpon _ _ _ = G
        have hbw : Below wX.heap.size wX w1' := by rw [hW] at hb; exact ((Below.refl wX.heap.size wX).drew).trans hb
        have q0_ : vs 0 = _ := hV 0 (by decide)
        have d0 := (Y2.out.below hbw Y2.out.lt).cell 0
        simp only [List.getElem?_cons_zero, List.getElem?_cons_succ] at d0
        clear hbw hW hb hV
        subst hG
        simp only [putAll]
        generalize hR : Res _ _ vs w1' = R
        go_simp
        subst hR
        exact ⟨rfl, Below.refl _ _⟩
      · cases hj
        clear hj'
        refine .inl ⟨rfl, ?_⟩
        simp only [List.take_succ_cons, List.take_zero]
        generalize hG : relUpon _ _ _ = G
        clear hV hb hW
        subst hG
        simp only [putAll]
        generalize hR : Res _ _ vs w1' = R
        go_simp
        subst hR
        exact ⟨rfl, Below.refl _ _⟩
      · cases hj
        clear hj'
        refine .inl ⟨rfl, ?_⟩
        simp only [List.take_succ_cons, List.take_zero]
        generalize hG : relUpon _ _ _ = G
        have hbw : Below wX.heap.size wX w1' := by rw [hW] at hb; exact ((Below.refl wX.heap.size wX).drew).trans hb
        have q2_ : vs 2 = _ := hV 2 (by decide)
        have d0 := (Y2.out.below hbw Y2.out.lt).cell 1
        simp only [List.getElem?_cons_zero, List.getElem?_cons_succ] at d0
        clear hbw hW hb hV
        subst hG
        simp only [putAll]
        generalize hR : Res _ _ vs w1' = R
        go_simp
        subst hR
        exact ⟨rfl, Below.refl _ _⟩
      · cases hj
        clear hj'
        refine .inl ⟨rfl, ?_⟩
        simp only [List.take_succ_cons, List.take_zero]
        generalize hG : relUpon _ _ _ = G
        clear hV hb hW
        subst hG
        simp only [putAll]
        generalize hR : Res _ _ vs w1' = R
        go_simp
        subst hR
        exact ⟨rfl, Below.refl _ _⟩
      · cases hj
        clear hj'
        refine .inl ⟨rfl, ?_⟩
        simp only [List.take_succ_cons, List.take_zero]
        generalize hG : relUpon _ _ _ = G
        have hbw : Below wX.heap.size wX w1' := by rw [hW] at hb; exact ((Below.refl wX.heap.size wX).drew).trans hb
        have q4_ : vs 4 = _ := hV 4 (by decide)
        have d0 := (Y1.out.below hbw Y1.out.lt).cell 1
        simp only [List.getElem?_cons_zero, List.getElem?_cons_succ] at d0
        clear hbw hW hb hV
        subst hG
        simp only [putAll]
        generalize hR : Res _ _ vs w1' = R
        go_simp
        subst hR
        exact ⟨rfl, Below.refl _ _⟩
      · cases hj
        clear hj'
        refine .inl ⟨rfl, ?_⟩
        simp only [List.take_succ_cons, List.take_zero]
        generalize hG : relUpon _ _ _ = G
        have hbw : Below wX.heap.size wX w1' := by rw [hW] at hb; exact ((Below.refl wX.heap.size wX).drew).trans hb
        have q3_ : vs 3 = _ := hV 3 (by decide)
        have q5_ : vs 5 = _ := hV 5 (by decide)
        have HBW := Lib.hid hbw
        clear hbw hW hb hV
        subst hG
        simp only [putAll]
        generalize hR : Res _ _ vs w1' = R
        go_simp
        subst hR
        refine (HSUB.out w1' (SlA.below J2.out HBW.out) (SlA.below J1.out HBW.out)).mono ?_
        rintro e w2 ⟨v, rfl, hz, hb2⟩
        exact ⟨_, rfl, hz, hb2⟩
      · cases hj
        clear hj'
        refine .inl ⟨rfl, ?_⟩
        simp only [List.take_succ_cons, List.take_zero]
        generalize hG : relUpon _ _ _ = G
        have q1_ : vs 1 = _ := hV 1 (by decide)
        have hls : LbA w1' (vs 6) (limbs (a2 - a1)) := hV 6 (by decide)
        obtain ⟨ps, cs, q6_, _, _⟩ := hls.form_
        rw [q6_] at hls
        have HLS := Lib.hid hls
        clear hV hb hW hls
        subst hG
        simp only [putAll]
        generalize hR : Res _ _ vs w1' = R
        go_simp
        subst hR
        refine (int_go b2 _ (a2 - a1) w1' HLS.out).mono ?_
        rintro e w2 ⟨rfl, hb2⟩
        exact ⟨_, rfl, Zv.mk' HAD.out.1 HAD.out.2 (SlA.below HLS.out hb2), hb2⟩
    case hQ =>
      intro W hW vs w2 hb hV hD
      have hbw : Below wX.heap.size wX w2 := by rw [hW] at hb; exact ((Below.refl wX.heap.size wX).drew).trans hb
      have e0_ : vs 0 = _ := hV 0 (by omega)
      have e1_ : vs 1 = _ := hV 1 (by omega)
      have e2_ : vs 2 = _ := hV 2 (by omega)
      have e3_ : vs 3 = _ := hV 3 (by omega)
      have e4_ : vs 4 = _ := hV 4 (by omega)
      have e5_ : vs 5 = _ := hV 5 (by omega)
      obtain ⟨ps, cs, e6_, _, _⟩ := LbA.form_ (show LbA w2 (vs 6) (limbs (a2 - a1)) from hV 6 (by omega))
      obtain ⟨br, pr, nr, cr, e7_, hz⟩ := Zv.form (show Zv w2 (vs 7) (x + y) from hV 7 (by omega))
      obtain ⟨nd, hnd⟩ : ∃ n, (limbs (a2 - a1)).length = n := ⟨_, rfl⟩
      rw [hnd] at e6_
      have hr3 := Y3.out.below hbw Y3.out.lt
      obtain ⟨⟨f1, f2⟩, ⟨f3, f4⟩, f5⟩ := row2 hr3 (.bool br) (.slice pr nr cr)
      have hz2 := hz.put2 hr3 (noInt_bool _) (noInt_slice _ _ _) (.bool br) (.slice pr nr cr)
      have hbe := ((HB0.out.trans (hbw.mono (by have := Y3.out.lt; omega))).setCell (p := ⟨h + 2, 0, none⟩) (Nat.le_add_right h 2) (.bool br)).setCell (p := ⟨h + 2, 1, none⟩) (Nat.le_add_right h 2) (.slice pr nr cr)
      have HZ := Lib.hid hz2
      have HBE := Lib.hid hbe
      have F5 := Lib.hid f5
      have g1 := F5.out.cell 0
      have g2 := F5.out.cell 1
      simp only [List.getElem?_cons_zero, List.getElem?_cons_succ] at g1 g2
      clear hV hD hb hW hbw hz hz2 hr3 hbe f5 hnd Y1 Y2 Y3 J1 J2 HSUB HAD
      generalize hKK : Exit.then _ _ = KK
      simp only [List.take_succ_cons, List.take_zero, List.drop_succ_cons, List.drop_zero, putAll, e0_, e1_, e2_, e3_, e4_, e5_, e6_, e7_]
      go_simp
      subst hKK
      clear e0_ e1_ e2_ e3_ e4_ e5_ e6_ e7_
      go_wp2
      refine bodyPost_ret (v := .agg #[.bool br, .slice pr nr cr]) (by simp [results, Tryz.results87, go_sem, g1, g2]) rfl ⟨_, rfl, HZ.out, ?_⟩
      rw [HH.out]
      exact HBE.out
  · have hge := cmpI_ge hlt
    obtain ⟨cc, hcc⟩ : ∃ c, cmpI a1 a2 = c := ⟨_, rfl⟩
    rw [hcc] at HC hge
    have HAD := Lib.hid (add_hi HBX.out HBY.out HNE.out hlt)
    have HSUB : Hid (∀ W, LbA W (.slice p1 n1 c1) (limbs a1) → LbA W (.slice p2 n2 c2) (limbs a2) → Calls Tryz.prog 143 #[.slice p1 n1 c1, .slice p2 n2 c2] W (OutN W (limbs (a1 - a2)))) := fun W h1 h2 => by
      have := sub_go _ _ _ _ W h1 h2 (Lo_limbs _) (Lo_limbs _) (limbs_mono (by omega)) (by rw [val_limbs, val_limbs]; omega) (by have := HLL.out.1; omega)
      rw [val_limbs, val_limbs] at this
      exact this
    clear hlt hcc
    go_upto_region 4 with (fail)
    all_goals first | (refine HC.out.mono ?_) | skip
    rintro e wX ⟨rfl, hb1⟩
    have Y1 := Lib.hid (X1.out.below hb1 X1.out.lt)
    have Y2 := Lib.hid (X2.out.below hb1 X2.out.lt)
    have Y3 := Lib.hid (X3.out.below hb1 X3.out.lt)
    have J1 : Hid (LbA wX (.slice p1 n1 c1) (limbs a1)) := SlA.below K1.out hb1
    have J2 : Hid (LbA wX (.slice p2 n2 c2) (limbs a2)) := SlA.below K2.out hb1
    have HB0 : Hid (Below h w wX) := X4.out.trans (hb1.mono (by rw [X5.out]; omega))
    clear hb1 HC X1 X2 X3 X4 X5 K1 K2 q1 q2 q3 q4
    go_upto_region 4 with (fail)
    refine wp_region_rel_tails (by kernel_rfl) 8 40 rfl (by kernel_rfl) (by kernel_rfl) [.fix (.pointer (some ⟨h, 0, none⟩)), .fix (.bool b1), .fix (.pointer (some ⟨h, 1, none⟩)), .fix (.slice p1 n1 c1), .fix (.pointer (some ⟨h + 1, 1, none⟩)), .fix (.slice p2 n2 c2), .mem (fun u W => LbA W u (limbs (a1 - a2))), .mem (fun u W => Zv W u (x + y))] rfl (stays_stb (fun i M hk => by rcases i with _ | _ | _ | _ | _ | _ | _ | _ | i <;> simp at hk <;> subst hk <;> first | exact stb_zv _ | exact stb_lb _)) ?hop ?hQ
    case hop =>
      intro W hW j o hj vs w1' hb hV
      simp only [List.take_succ_cons, List.take_zero] at hj
      have hj' : j < 8 := (List.getElem?_eq_some_iff.1 hj).1
      rcases (by omega : j = 0 ∨ j = 1 ∨ j = 2 ∨ j = 3 ∨ j = 4 ∨ j = 5 ∨ j = 6 ∨ j = 7) with rfl | rfl | rfl | rfl | rfl | rfl | rfl | rfl
      · cases hj
        clear hj'
        refine .inl ⟨rfl, ?_⟩
        simp only [List.take_succ_cons, List.take_zero]
        generalize hG : relUpon _ _ _ = G
        clear hV hb hW
        subst hG
        simp only [putAll]
        generalize hR : Res _ _ vs w1' = R
        go_simp
        subst hR
        exact ⟨rfl, Below.refl _ _⟩
      · cases hj
        clear hj'
        refine .inl ⟨rfl, ?_⟩
        simp only [List.take_succ_cons, List.take_zero]
        generalize hG : relUpon _ _ _ = G
        have hbw : Below wX.heap.size wX w1' := by rw [hW] at hb; exact ((Below.refl wX.heap.size wX).drew).trans hb
        have q0_ : vs 0 = _ := hV 0 (by decide)
        have d0 := (Y1.out.below hbw Y1.out.lt).cell 0
        simp only [List.getElem?_cons_zero, List.getElem?_cons_succ] at d0
        clear hbw hW hb hV
        subst hG
        simp only [putAll]
        generalize hR : Res _ _ vs w1' = R
        go_simp
        subst hR
        exact ⟨rfl, Below.refl _ _⟩
      · cases hj
        clear hj'
        refine .inl ⟨rfl, ?_⟩
        simp only [List.take_succ_cons, List.take_zero]
        generalize hG : relUpon _ _ _ = G
        clear hV hb hW
        subst hG
        simp only [putAll]
        generalize hR : Res _ _ vs w1' = R
        go_simp
        subst hR
        exact ⟨rfl, Below.refl _ _⟩
      · cases hj
        clear hj'
        refine .inl ⟨rfl, ?_⟩
        simp only [List.take_succ_cons, List.take_zero]
        generalize hG : relUpon _ _ _ = G
        have hbw : Below wX.heap.size wX w1' := by rw [hW] at hb; exact ((Below.refl wX.heap.size wX).drew).trans hb
        have q2_ : vs 2 = _ := hV 2 (by decide)
        have d0 := (Y1.out.below hbw Y1.out.lt).cell 1
        simp only [List.getElem?_cons_zero, List.getElem?_cons_succ] at d0
        clear hbw hW hb hV
        subst hG
        simp only [putAll]
        generalize hR : Res _ _ vs w1' = R
        go_simp
        subst hR
        exact ⟨rfl, Below.refl _ _⟩
      · cases hj
        clear hj'
        refine .inl ⟨rfl, ?_⟩
        simp only [List.take_succ_cons, List.take_zero]
        generalize hG : relUpon _ _ _ = G
        clear hV hb hW
        subst hG
        simp only [putAll]
        generalize hR : Res _ _ vs w1' = R
        go_simp
        subst hR
        exact ⟨rfl, Below.refl _ _⟩
      · cases hj
        clear hj'
        refine .inl ⟨rfl, ?_⟩
        simp only [List.take_succ_cons, List.take_zero]
        generalize hG : relUpon _ _ _ = G
        have hbw : Below wX.heap.size wX w1' := by rw [hW] at hb; exact ((Below.refl wX.heap.size wX).drew).trans hb
        have q4_ : vs 4 = _ := hV 4 (by decide)
        have d0 := (Y2.out.below hbw Y2.out.lt).cell 1
        simp only [List.getElem?_cons_zero, List.getElem?_cons_succ] at d0
        clear hbw hW hb hV
        subst hG
        simp only [putAll]
        generalize hR : Res _ _ vs w1' = R
        go_simp
        subst hR
        exact ⟨rfl, Below.refl _ _⟩
      · cases hj
        clear hj'
        refine .inl ⟨rfl, ?_⟩
        simp only [List.take_succ_cons, List.take_zero]
        generalize hG : relUpon _ _ _ = G
        have hbw : Below wX.heap.size wX w1' := by rw [hW] at hb; exact ((Below.refl wX.heap.size wX).drew).trans hb
        have q3_ : vs 3 = _ := hV 3 (by decide)
        have q5_ : vs 5 = _ := hV 5 (by decide)
        have HBW := Lib.hid hbw
        clear hbw hW hb hV
        subst hG
        simp only [putAll]
        generalize hR : Res _ _ vs w1' = R
        go_simp
        subst hR
        refine (HSUB.out w1' (SlA.below J1.out HBW.out) (SlA.below J2.out HBW.out)).mono ?_
        rintro e w2 ⟨v, rfl, hz, hb2⟩
        exact ⟨_, rfl, hz, hb2⟩
      · cases hj
        clear hj'
        refine .inl ⟨rfl, ?_⟩
        simp only [List.take_succ_cons, List.take_zero]
        generalize hG : relUpon _ _ _ = G
        have q1_ : vs 1 = _ := hV 1 (by decide)
        have hls : LbA w1' (vs 6) (limbs (a1 - a2)) := hV 6 (by decide)
        obtain ⟨ps, cs, q6_, _, _⟩ := hls.form_
        rw [q6_] at hls
        have HLS := Lib.hid hls
        clear hV hb hW hls
        subst hG
        simp only [putAll]
        generalize hR : Res _ _ vs w1' = R
        go_simp
        subst hR
        refine (int_go b1 _ (a1 - a2) w1' HLS.out).mono ?_
        rintro e w2 ⟨rfl, hb2⟩
        exact ⟨_, rfl, Zv.mk' HAD.out.1 HAD.out.2 (SlA.below HLS.out hb2), hb2⟩
    case hQ =>
      intro W hW vs w2 hb hV hD
      have hbw : Below wX.heap.size wX w2 := by rw [hW] at hb; exact ((Below.refl wX.heap.size wX).drew).trans hb
      have e0_ : vs 0 = _ := hV 0 (by omega)
      have e1_ : vs 1 = _ := hV 1 (by omega)
      have e2_ : vs 2 = _ := hV 2 (by omega)
      have e3_ : vs 3 = _ := hV 3 (by omega)
      have e4_ : vs 4 = _ := hV 4 (by omega)
      have e5_ : vs 5 = _ := hV 5 (by omega)
      obtain ⟨ps, cs, e6_, _, _⟩ := LbA.form_ (show LbA w2 (vs 6) (limbs (a1 - a2)) from hV 6 (by omega))
      obtain ⟨br, pr, nr, cr, e7_, hz⟩ := Zv.form (show Zv w2 (vs 7) (x + y) from hV 7 (by omega))
      obtain ⟨nd, hnd⟩ : ∃ n, (limbs (a1 - a2)).length = n := ⟨_, rfl⟩
      rw [hnd] at e6_
      have hr3 := Y3.out.below hbw Y3.out.lt
      obtain ⟨⟨f1, f2⟩, ⟨f3, f4⟩, f5⟩ := row2 hr3 (.bool br) (.slice pr nr cr)
      have hz2 := hz.put2 hr3 (noInt_bool _) (noInt_slice _ _ _) (.bool br) (.slice pr nr cr)
      have hbe := ((HB0.out.trans (hbw.mono (by have := Y3.out.lt; omega))).setCell (p := ⟨h + 2, 0, none⟩) (Nat.le_add_right h 2) (.bool br)).setCell (p := ⟨h + 2, 1, none⟩) (Nat.le_add_right h 2) (.slice pr nr cr)
      have HZ := Lib.hid hz2
      have HBE := Lib.hid hbe
      have F5 := Lib.hid f5
      have g1 := F5.out.cell 0
      have g2 := F5.out.cell 1
      simp only [List.getElem?_cons_zero, List.getElem?_cons_succ] at g1 g2
      clear hV hD hb hW hbw hz hz2 hr3 hbe f5 hnd Y1 Y2 Y3 J1 J2 HSUB HAD
      generalize hKK : Exit.then _ _ = KK
      simp only [List.take_succ_cons, List.take_zero, List.drop_succ_cons, List.drop_zero, putAll, e0_, e1_, e2_, e3_, e4_, e5_, e6_, e7_]
      go_simp
      subst hKK
      clear e0_ e1_ e2_ e3_ e4_ e5_ e6_ e7_
      go_wp2
      refine bodyPost_ret (v := .agg #[.bool br, .slice pr nr cr]) (by simp [results, Tryz.results87, go_sem, g1, g2]) rfl ⟨_, rfl, HZ.out, ?_⟩
      rw [HH.out]
      exact HBE.out
end Go.Proofs.YtmhmkhdgpfhnfaaGreatDoor.Ref
