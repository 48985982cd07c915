/- The reference's integers: Add, Sub, Cmp. -/
import Derived.Test.YtmhmkhdgpfhnfaaGreatDoorU1
set_option linter.unusedVariables false
set_option linter.unusedSimpArgs false
set_option linter.unnecessarySimpa false
namespace Go.Proofs.YtmhmkhdgpfhnfaaGreatDoor.Ref
open Go.RowKit

theorem add_same {x y : Int} {a1 a2 : Nat} {b1 b2 : Bool} (h1 : decide (x < 0) = b1 ∧ x.natAbs = a1) (h2 : decide (y < 0) = b2 ∧ y.natAbs = a2) (he : b1 = b2) : (x + y).natAbs = a1 + a2 ∧ sgR b1 (a1 + a2) = decide (x + y < 0) := by
  obtain ⟨rfl, rfl⟩ := h1
  obtain ⟨rfl, rfl⟩ := h2
  have e : (x + y).natAbs = x.natAbs + y.natAbs := by
    by_cases hx : x < 0 <;> by_cases hy : y < 0
    · omega
    · rw [decide_eq_true hx, decide_eq_false hy] at he; cases he
    · rw [decide_eq_false hx, decide_eq_true hy] at he; cases he
    · omega
  refine ⟨e, ?_⟩
  rw [← e]
  by_cases h0 : x + y = 0
  · rw [h0]; exact sgR_zero _
  · rw [sgR_pos (by omega)]
    by_cases hx : x < 0
    · rw [decide_eq_true hx] at he
      have hy := of_decide_eq_true he.symm
      rw [decide_eq_true hx, decide_eq_true (by omega)]
    · rw [decide_eq_false hx] at he
      have hy := of_decide_eq_false he.symm
      rw [decide_eq_false hx, decide_eq_false (by omega)]
set_option maxRecDepth 100000 in
set_option maxHeartbeats 1000000 in
theorem add_eq (x y : Int) (v1 v2 : Value) (w : World) (h1 : Zv w v1 x) (h2 : Zv w v2 y) (hne : decide (x < 0) = decide (y < 0)) (hl1 : (limbs x.natAbs).length ≤ 400000) (hl2 : (limbs y.natAbs).length ≤ 400000) :
    Calls Tryz.prog 87 #[v1, v2] w (OutZ w (x + y)) := by
  obtain ⟨p1, c1, rfl, h1⟩ := h1
  obtain ⟨p2, c2, rfl, h2⟩ := h2
  obtain ⟨b1, hb1⟩ : ∃ b, decide (x < 0) = b := ⟨_, rfl⟩
  obtain ⟨a1, ha1⟩ : ∃ a, x.natAbs = a := ⟨_, rfl⟩
  obtain ⟨b2, hb2⟩ : ∃ b, decide (y < 0) = b := ⟨_, rfl⟩
  obtain ⟨a2, ha2⟩ : ∃ a, y.natAbs = a := ⟨_, rfl⟩
  have HBX := Lib.hid (And.intro hb1 ha1)
  have HBY := Lib.hid (And.intro hb2 ha2)
  rw [hb1, hb2] at hne
  rw [hb1, hb2, ha1, ha2]
  rw [ha1] at h1 hl1
  rw [ha2] at h2 hl2
  have hbe : (b1 == b2) = true := by simpa using hne
  have HNE := Lib.hid hne
  have HLL := Lib.hid (And.intro hl1 hl2)
  obtain ⟨n1, hn1⟩ : ∃ n, (limbs a1).length = n := ⟨_, rfl⟩
  obtain ⟨n2, hn2⟩ : ∃ n, (limbs a2).length = n := ⟨_, rfl⟩
  rw [hn1] at h1 ⊢
  rw [hn2] at h2 ⊢
  have H1 := Lib.hid h1
  have H2 := Lib.hid h2
  clear hb1 hb2 ha1 ha2 hn1 hn2 h1 h2 hl1 hl2 hne
  go_enter Tryz.func87, Tryz.ntmps87
  go_upto_region 1 with (fail)
  obtain ⟨x1, x2, x3, x4, x5⟩ := three_boxes w 34 34 34 #[.bool b1, .slice p1 n1 c1] #[.bool b2, .slice p2 n2 c2] #[.bool false, .slice none 0 0]
  rw [show w.heap.size + 1 + 1 = w.heap.size + 2 from rfl]
  generalize ((w.alloc (.cells #[.bool b1, .slice p1 n1 c1] 34)).alloc (.cells #[.bool b2, .slice p2 n2 c2] 34)).alloc (.cells #[.bool false, .slice none 0 0] 34) = wX at *
  obtain ⟨h, hh⟩ : ∃ h, w.heap.size = h := ⟨_, rfl⟩
  have HH := Lib.hid hh
  have K1 : Hid (LbA wX (.slice p1 n1 c1) (limbs a1)) := SlA.below H1.out x4
  have K2 : Hid (LbA wX (.slice p2 n2 c2) (limbs a2)) := SlA.below H2.out x4
  rw [hh] at x1 x2 x3 x4 x5 ⊢
  have q1 := x1.cell 0
  have q2 := x1.cell 1
  have q3 := x2.cell 0
  have q4 := x2.cell 1
  simp only [List.getElem?_cons_zero, List.getElem?_cons_succ] at q1 q2 q3 q4
  have X1 := Lib.hid x1
  have X2 := Lib.hid x2
  have X3 := Lib.hid x3
  have X4 := Lib.hid x4
  have X5 := Lib.hid x5
  clear x1 x2 x3 x4 x5 hh H1 H2
  have HAD := Lib.hid (add_same HBX.out HBY.out HNE.out)
  have HSUM : Hid (∀ W, LbA W (.slice p1 n1 c1) (limbs a1) → LbA W (.slice p2 n2 c2) (limbs a2) → Calls Tryz.prog 141 #[.slice p1 n1 c1, .slice p2 n2 c2] W (OutN W (limbs (a1 + a2)))) := fun W h1 h2 => addN_go _ _ a1 a2 W h1 h2 HLL.out.1 HLL.out.2
  go_upto_region 2 with (fail)
  have Y1 := X1
  have Y2 := X2
  have Y3 := X3
  have J1 := K1
  have J2 := K2
  have HB0 := X4
  clear X1 X2 X3 X4 X5 K1 K2 q1 q2 q3 q4
  refine wp_region_rel_tails (by kernel_rfl) 8 40 rfl (by kernel_rfl) (by kernel_rfl) [.fix (.pointer (some ⟨h, 0, none⟩)), .fix (.bool b1), .fix (.pointer (some ⟨h, 1, none⟩)), .fix (.slice p1 n1 c1), .fix (.pointer (some ⟨h + 1, 1, none⟩)), .fix (.slice p2 n2 c2), .mem (fun u W => LbA W u (limbs (a1 + a2))), .mem (fun u W => Zv W u (x + y))] rfl (stays_stb (fun i M hk => by rcases i with _ | _ | _ | _ | _ | _ | _ | _ | i <;> simp at hk <;> subst hk <;> first | exact stb_zv _ | exact stb_qv _ _ | exact stb_lb _)) ?hop ?hQ
  case hop =>
    intro W hW j o hj vs w1' hb hV
    simp only [List.take_succ_cons, List.take_zero] at hj
    have hj' : j < 8 := (List.getElem?_eq_some_iff.1 hj).1
    rcases (by omega : j = 0 ∨ j = 1 ∨ j = 2 ∨ j = 3 ∨ j = 4 ∨ j = 5 ∨ j = 6 ∨ j = 7) with rfl | rfl | rfl | rfl | rfl | rfl | rfl | rfl
    · cases hj
      clear hj'
      refine .inl ⟨rfl, ?_⟩
      simp only [List.take_succ_cons, List.take_zero]
      generalize hG : relUpon _ _ _ = G
      clear hV hb hW
      subst hG
      simp only [putAll]
      generalize hR : Res _ _ vs w1' = R
      go_simp
      subst hR
      exact ⟨rfl, Below.refl _ _⟩
    · cases hj
      clear hj'
      refine .inl ⟨rfl, ?_⟩
      simp only [List.take_succ_cons, List.take_zero]
      generalize hG : relUpon _ _ _ = G
      have hbw : Below wX.heap.size wX w1' := by rw [hW] at hb; exact ((Below.refl wX.heap.size wX).drew).trans hb
      have q0_ : vs 0 = _ := hV 0 (by decide)
      have d0 := (Y1.out.below hbw Y1.out.lt).cell 0
      simp only [List.getElem?_cons_zero, List.getElem?_cons_succ] at d0
      clear hbw hW hb hV
      subst hG
      simp only [putAll]
      generalize hR : Res _ _ vs w1' = R
      go_simp
      subst hR
      exact ⟨rfl, Below.refl _ _⟩
    · cases hj
      clear hj'
      refine .inl ⟨rfl, ?_⟩
      simp only [List.take_succ_cons, List.take_zero]
      generalize hG : relUpon _ _ _ = G
      clear hV hb hW
      subst hG
      simp only [putAll]
      generalize hR : Res _ _ vs w1' = R
      go_simp
      subst hR
      exact ⟨rfl, Below.refl _ _⟩
    · cases hj
      clear hj'
      refine .inl ⟨rfl, ?_⟩
      simp only [List.take_succ_cons, List.take_zero]
      generalize hG : relUpon _ _ _ = G
      have hbw : Below wX.heap.size wX w1' := by rw [hW] at hb; exact ((Below.refl wX.heap.size wX).drew).trans hb
      have q2_ : vs 2 = _ := hV 2 (by decide)
      have d1 := (Y1.out.below hbw Y1.out.lt).cell 1
      simp only [List.getElem?_cons_zero, List.getElem?_cons_succ] at d1
      clear hbw hW hb hV
      subst hG
      simp only [putAll]
      generalize hR : Res _ _ vs w1' = R
      go_simp
      subst hR
      exact ⟨rfl, Below.refl _ _⟩
    · cases hj
      clear hj'
      refine .inl ⟨rfl, ?_⟩
      simp only [List.take_succ_cons, List.take_zero]
      generalize hG : relUpon _ _ _ = G
      clear hV hb hW
      subst hG
      simp only [putAll]
      generalize hR : Res _ _ vs w1' = R
      go_simp
      subst hR
      exact ⟨rfl, Below.refl _ _⟩
    · cases hj
      clear hj'
      refine .inl ⟨rfl, ?_⟩
      simp only [List.take_succ_cons, List.take_zero]
      generalize hG : relUpon _ _ _ = G
      have hbw : Below wX.heap.size wX w1' := by rw [hW] at hb; exact ((Below.refl wX.heap.size wX).drew).trans hb
      have q4_ : vs 4 = _ := hV 4 (by decide)
      have d1 := (Y2.out.below hbw Y2.out.lt).cell 1
      simp only [List.getElem?_cons_zero, List.getElem?_cons_succ] at d1
      clear hbw hW hb hV
      subst hG
      simp only [putAll]
      generalize hR : Res _ _ vs w1' = R
      go_simp
      subst hR
      exact ⟨rfl, Below.refl _ _⟩
    · cases hj
      clear hj'
      refine .inl ⟨rfl, ?_⟩
      simp only [List.take_succ_cons, List.take_zero]
      generalize hG : relUpon _ _ _ = G
      have hbw : Below wX.heap.size wX w1' := by rw [hW] at hb; exact ((Below.refl wX.heap.size wX).drew).trans hb
      have q3_ : vs 3 = _ := hV 3 (by decide)
      have q5_ : vs 5 = _ := hV 5 (by decide)
      have HBW := Lib.hid hbw
      clear hbw hW hb hV
      subst hG
      simp only [putAll]
      generalize hR : Res _ _ vs w1' = R
      go_simp
      subst hR
      refine (HSUM.out w1' (SlA.below J1.out HBW.out) (SlA.below J2.out HBW.out)).mono ?_
      rintro e w2 ⟨v, rfl, hz, hb2⟩
      exact ⟨_, rfl, hz, hb2⟩
    · cases hj
      clear hj'
      refine .inl ⟨rfl, ?_⟩
      simp only [List.take_succ_cons, List.take_zero]
      generalize hG : relUpon _ _ _ = G
      have q1_ : vs 1 = _ := hV 1 (by decide)
      have hls : LbA w1' (vs 6) (limbs (a1 + a2)) := hV 6 (by decide)
      obtain ⟨ps, cs, q6_, _, _⟩ := hls.form_
      rw [q6_] at hls
      have HLS := Lib.hid hls
      clear hV hb hW hls
      subst hG
      simp only [putAll]
      generalize hR : Res _ _ vs w1' = R
      go_simp
      subst hR
      refine (int_go b1 _ (a1 + a2) w1' HLS.out).mono ?_
      rintro e w2 ⟨rfl, hb2⟩
      exact ⟨_, rfl, Zv.mk' HAD.out.1 HAD.out.2 (SlA.below HLS.out hb2), hb2⟩
  case hQ =>
    intro W hW vs w2 hb hV hD
    have hbw : Below wX.heap.size wX w2 := by rw [hW] at hb; exact ((Below.refl wX.heap.size wX).drew).trans hb
    have e0_ : vs 0 = _ := hV 0 (by omega)
    have e1_ : vs 1 = _ := hV 1 (by omega)
    have e2_ : vs 2 = _ := hV 2 (by omega)
    have e3_ : vs 3 = _ := hV 3 (by omega)
    have e4_ : vs 4 = _ := hV 4 (by omega)
    have e5_ : vs 5 = _ := hV 5 (by omega)
    obtain ⟨ps, cs, e6_, _, _⟩ := LbA.form_ (show LbA w2 (vs 6) (limbs (a1 + a2)) from hV 6 (by omega))
    obtain ⟨br, pr, nr, cr, e7_, hz⟩ := Zv.form (show Zv w2 (vs 7) (x + y) from hV 7 (by omega))
    obtain ⟨nd, hnd⟩ : ∃ n, (limbs (a1 + a2)).length = n := ⟨_, rfl⟩
    rw [hnd] at e6_
    have hr3 := Y3.out.below hbw Y3.out.lt
    obtain ⟨⟨f1, f2⟩, ⟨f3, f4⟩, f5⟩ := row2 hr3 (.bool br) (.slice pr nr cr)
    have hz2 := hz.put2 hr3 (noInt_bool _) (noInt_slice _ _ _) (.bool br) (.slice pr nr cr)
    have hbe := ((HB0.out.trans (hbw.mono (by have := Y3.out.lt; omega))).setCell (p := ⟨h + 2, 0, none⟩) (Nat.le_add_right h 2) (.bool br)).setCell (p := ⟨h + 2, 1, none⟩) (Nat.le_add_right h 2) (.slice pr nr cr)
    have HZ := Lib.hid hz2
    have HBE := Lib.hid hbe
    have F5 := Lib.hid f5
    have g1 := F5.out.cell 0
    have g2 := F5.out.cell 1
    simp only [List.getElem?_cons_zero, List.getElem?_cons_succ] at g1 g2
    clear hV hD hb hW hbw hz hz2 hr3 hbe f5 hnd Y1 Y2 Y3 J1 J2 HSUM HAD
    generalize hKK : Exit.then _ _ = KK
    simp only [List.take_succ_cons, List.take_zero, List.drop_succ_cons, List.drop_zero, putAll, e0_, e1_, e2_, e3_, e4_, e5_, e6_, e7_]
    go_simp
    subst hKK
    clear e0_ e1_ e2_ e3_ e4_ e5_ e6_ e7_
    go_wp2
    refine bodyPost_ret (v := .agg #[.bool br, .slice pr nr cr]) (by simp [results, Tryz.results87, go_sem, g1, g2]) rfl ⟨_, rfl, HZ.out, ?_⟩
    rw [HH.out]
    exact HBE.out
theorem add_any (x y : Int) (v1 v2 : Value) (w : World) (h1 : Zv w v1 x) (h2 : Zv w v2 y) (hl1 : (limbs x.natAbs).length ≤ 400000) (hl2 : (limbs y.natAbs).length ≤ 400000) :
    Calls Tryz.prog 87 #[v1, v2] w (OutZ w (x + y)) := by
  by_cases h : decide (x < 0) = decide (y < 0)
  · exact add_eq x y v1 v2 w h1 h2 h hl1 hl2
  · exact add_ne x y v1 v2 w h1 h2 h (by omega) (by omega)
set_option maxRecDepth 100000 in
set_option maxHeartbeats 1000000 in
theorem sub_any (x y : Int) (v1 v2 : Value) (w : World) (h1 : Zv w v1 x) (h2 : Zv w v2 y) (hl1 : (limbs x.natAbs).length ≤ 400000) (hl2 : (limbs y.natAbs).length ≤ 400000) :
    Calls Tryz.prog 89 #[v1, v2] w (OutZ w (x - y)) := by
  obtain ⟨b1, p1, n1, c1, rfl, h1⟩ := h1.form
  obtain ⟨b2, p2, n2, c2, rfl, h2⟩ := h2.form
  have H1 := Lib.hid h1
  have H2 := Lib.hid h2
  have HA := Lib.hid (fun W v1 v2 h1 h2 => add_any x (-y) v1 v2 W h1 h2 hl1 (by rw [Int.natAbs_neg]; exact hl2))
  rw [show x + -y = x - y by omega] at HA
  clear hl1 hl2 h1 h2
  go_enter Tryz.func89, Tryz.ntmps89
  go_upto_region 1 with (fail)
  obtain ⟨x1, x2, x3, x4, x5⟩ := three_boxes w 34 34 34 #[.bool b1, .slice p1 n1 c1] #[.bool b2, .slice p2 n2 c2] #[.bool false, .slice none 0 0]
  rw [show w.heap.size + 1 + 1 = w.heap.size + 2 from rfl]
  generalize ((w.alloc (.cells #[.bool b1, .slice p1 n1 c1] 34)).alloc (.cells #[.bool b2, .slice p2 n2 c2] 34)).alloc (.cells #[.bool false, .slice none 0 0] 34) = wX at *
  obtain ⟨h, hh⟩ : ∃ h, w.heap.size = h := ⟨_, rfl⟩
  have HH := Lib.hid hh
  have J1 : Hid (Zv wX (.agg #[.bool b1, .slice p1 n1 c1]) x) := H1.out.below x4
  have J2 : Hid (Zv wX (.agg #[.bool b2, .slice p2 n2 c2]) y) := H2.out.below x4
  rw [hh] at x1 x2 x3 x4 x5 ⊢
  have Y1 := Lib.hid x1
  have Y2 := Lib.hid x2
  have Y3 := Lib.hid x3
  have HB0 := Lib.hid x4
  clear x1 x2 x3 x4 x5 hh H1 H2
  refine wp_region_rel_tails (by kernel_rfl) 4 9 rfl (by kernel_rfl) (by kernel_rfl) [.fix (.agg #[.bool b1, .slice p1 n1 c1]), .fix (.agg #[.bool b2, .slice p2 n2 c2]), .mem (fun u W => Zv W u (-y)), .mem (fun u W => Zv W u (x - y))] rfl (stays_stb (fun i M hk => by rcases i with _ | _ | _ | _ | i <;> simp at hk <;> subst hk <;> first | exact stb_zv _ | exact stb_lb _)) ?hop ?hQ
  case hop =>
    intro W hW j o hj vs w1' hb hV
    simp only [List.take_succ_cons, List.take_zero] at hj
    have hj' : j < 4 := (List.getElem?_eq_some_iff.1 hj).1
    rcases (by omega : j = 0 ∨ j = 1 ∨ j = 2 ∨ j = 3) with rfl | rfl | rfl | rfl
    · cases hj
      clear hj'
      refine .inl ⟨rfl, ?_⟩
      simp only [List.take_succ_cons, List.take_zero]
      generalize hG : relUpon _ _ _ = G
      have hbw : Below wX.heap.size wX w1' := by rw [hW] at hb; exact ((Below.refl wX.heap.size wX).drew).trans hb
      have d0 := (Y1.out.below hbw Y1.out.lt).cell 0
      have d1 := (Y1.out.below hbw Y1.out.lt).cell 1
      simp only [List.getElem?_cons_zero, List.getElem?_cons_succ] at d0 d1
      clear hbw hW hb hV
      subst hG
      simp only [putAll]
      generalize hR : Res _ _ vs w1' = R
      go_simp
      subst hR
      exact ⟨rfl, Below.refl _ _⟩
    · cases hj
      clear hj'
      refine .inl ⟨rfl, ?_⟩
      simp only [List.take_succ_cons, List.take_zero]
      generalize hG : relUpon _ _ _ = G
      have hbw : Below wX.heap.size wX w1' := by rw [hW] at hb; exact ((Below.refl wX.heap.size wX).drew).trans hb
      have d0 := (Y2.out.below hbw Y2.out.lt).cell 0
      have d1 := (Y2.out.below hbw Y2.out.lt).cell 1
      simp only [List.getElem?_cons_zero, List.getElem?_cons_succ] at d0 d1
      clear hbw hW hb hV
      subst hG
      simp only [putAll]
      generalize hR : Res _ _ vs w1' = R
      go_simp
      subst hR
      exact ⟨rfl, Below.refl _ _⟩
    · cases hj
      clear hj'
      refine .inl ⟨rfl, ?_⟩
      simp only [List.take_succ_cons, List.take_zero]
      generalize hG : relUpon _ _ _ = G
      have hbw : Below wX.heap.size wX w1' := by rw [hW] at hb; exact ((Below.refl wX.heap.size wX).drew).trans hb
      have q1_ : vs 1 = _ := hV 1 (by decide)
      have HBW := Lib.hid hbw
      clear hbw hW hb hV
      subst hG
      simp only [putAll]
      generalize hR : Res _ _ vs w1' = R
      go_simp
      subst hR
      refine (neg_go _ _ w1' (J2.out.below HBW.out)).mono ?_
      rintro e w2 ⟨v, rfl, hz, hb2⟩
      exact ⟨_, rfl, hz, hb2⟩
    · cases hj
      clear hj'
      refine .inl ⟨rfl, ?_⟩
      simp only [List.take_succ_cons, List.take_zero]
      generalize hG : relUpon _ _ _ = G
      have hbw : Below wX.heap.size wX w1' := by rw [hW] at hb; exact ((Below.refl wX.heap.size wX).drew).trans hb
      have q0_ : vs 0 = _ := hV 0 (by decide)
      have hz : Zv w1' (vs 2) (-y) := hV 2 (by decide)
      have HZ := Lib.hid hz
      have HBW := Lib.hid hbw
      clear hbw hW hb hV hz
      subst hG
      simp only [putAll]
      generalize hR : Res _ _ vs w1' = R
      go_simp
      subst hR
      refine (HA.out w1' _ _ (J1.out.below HBW.out) HZ.out).mono ?_
      rintro e w2 ⟨v, rfl, hz, hb2⟩
      exact ⟨_, rfl, hz, hb2⟩
  case hQ =>
    intro W hW vs w2 hb hV hD
    have hbw : Below wX.heap.size wX w2 := by rw [hW] at hb; exact ((Below.refl wX.heap.size wX).drew).trans hb
    have e0_ : vs 0 = _ := hV 0 (by omega)
    have e1_ : vs 1 = _ := hV 1 (by omega)
    obtain ⟨_, _, _, _, e2_, _⟩ := Zv.form (show Zv w2 (vs 2) (-y) from hV 2 (by omega))
    obtain ⟨br, pr, nr, cr, e3_, hz⟩ := Zv.form (show Zv w2 (vs 3) (x - y) from hV 3 (by omega))
    have hr3 := Y3.out.below hbw Y3.out.lt
    obtain ⟨⟨f1, f2⟩, ⟨f3, f4⟩, f5⟩ := row2 hr3 (.bool br) (.slice pr nr cr)
    have hz2 := hz.put2 hr3 (noInt_bool _) (noInt_slice _ _ _) (.bool br) (.slice pr nr cr)
    have hbe := ((HB0.out.trans (hbw.mono (by have := Y3.out.lt; omega))).setCell (p := ⟨h + 2, 0, none⟩) (Nat.le_add_right h 2) (.bool br)).setCell (p := ⟨h + 2, 1, none⟩) (Nat.le_add_right h 2) (.slice pr nr cr)
    have HZ := Lib.hid hz2
    have HBE := Lib.hid hbe
    have F5 := Lib.hid f5
    have g1 := F5.out.cell 0
    have g2 := F5.out.cell 1
    simp only [List.getElem?_cons_zero, List.getElem?_cons_succ] at g1 g2
    clear hV hD hb hW hbw hz hz2 hr3 hbe f5 Y1 Y2 Y3 J1 J2 HA
    generalize hKK : Exit.then _ _ = KK
    simp only [List.take_succ_cons, List.take_zero, List.drop_succ_cons, List.drop_zero, putAll, e0_, e1_, e2_, e3_]
    go_simp
    subst hKK
    clear e0_ e1_ e2_ e3_
    go_wp2
    refine bodyPost_ret (v := .agg #[.bool br, .slice pr nr cr]) (by simp [results, Tryz.results89, go_sem, g1, g2]) rfl ⟨_, rfl, HZ.out, ?_⟩
    rw [HH.out]
    exact HBE.out
set_option maxRecDepth 100000 in
set_option maxHeartbeats 1000000 in
theorem cmpZ_any (x y : Int) (v1 v2 : Value) (w : World) (h1 : Zv w v1 x) (h2 : Zv w v2 y) (hl1 : (limbs x.natAbs).length ≤ 400000) (hl2 : (limbs y.natAbs).length ≤ 400000) :
    Calls Tryz.prog 70 #[v1, v2] w fun e w' => e = .returned (.int .i64 (Int.sign (x - y))) ∧ Below w.heap.size w w' := by
  obtain ⟨b1, p1, n1, c1, rfl, h1⟩ := h1.form
  obtain ⟨b2, p2, n2, c2, rfl, h2⟩ := h2.form
  have H1 := Lib.hid h1
  have H2 := Lib.hid h2
  have HS := Lib.hid (fun W v1 v2 h1 h2 => sub_any x y v1 v2 W h1 h2 hl1 hl2)
  obtain ⟨sg, hsg⟩ : ∃ s, Int.sign (x - y) = s := ⟨_, rfl⟩
  have HG := Lib.hid (fun W v h => sign_go (x - y) v W h)
  rw [hsg] at HG ⊢
  clear hl1 hl2 h1 h2 hsg
  have x4 := ((Below.refl w.heap.size w).alloc (Nat.le_refl _) (.cells #[.bool b1, .slice p1 n1 c1] 34)).alloc (by simp) (.cells #[.bool b2, .slice p2 n2 c2] 34)
  have x1 := (row_new 34 w #[.bool b1, .slice p1 n1 c1]).alloc (.cells #[.bool b2, .slice p2 n2 c2] 34)
  have x2 := row_new 34 (w.alloc (.cells #[.bool b1, .slice p1 n1 c1] 34)) #[.bool b2, .slice p2 n2 c2]
  have x5 : (w.alloc (.cells #[.bool b1, .slice p1 n1 c1] 34)).heap.size = w.heap.size + 1 := by simp
  rw [x5] at x2
  go_enter Tryz.func70, Tryz.ntmps70
  go_upto_region 1 with (fail)
  generalize (w.alloc (.cells #[.bool b1, .slice p1 n1 c1] 34)).alloc (.cells #[.bool b2, .slice p2 n2 c2] 34) = w0 at *
  have q1 := x1.cell 0
  have q2 := x1.cell 1
  have q3 := x2.cell 0
  have q4 := x2.cell 1
  simp only [List.getElem?_cons_zero, List.getElem?_cons_succ] at q1 q2 q3 q4
  have X4 := Lib.hid x4
  have J1 : Hid (Zv w0 (.agg #[.bool b1, .slice p1 n1 c1]) x) := H1.out.below x4
  have J2 : Hid (Zv w0 (.agg #[.bool b2, .slice p2 n2 c2]) y) := H2.out.below x4
  clear x1 x2 x4 x5 H1 H2
  go_wp2_with fail
  refine (HS.out w0 _ _ J1.out J2.out).mono ?_
  rintro e w1 ⟨v1, rfl, hz1, hb1⟩
  obtain ⟨b3, p3, n3, c3, rfl, hz1⟩ := hz1.form
  have HZ1 := Lib.hid hz1
  have HB1 := Lib.hid hb1
  clear hz1 hb1
  go_wp2_with fail
  refine (HG.out w1 _ HZ1.out).mono ?_
  rintro e w2 ⟨rfl, hb2⟩
  have HB2 := Lib.hid hb2
  clear hb2
  go_wp2
  go_ret
  have hs0 := X4.out.size
  have hs1 := HB1.out.size
  exact ⟨rfl, X4.out.trans ((HB1.out.mono hs0).trans (HB2.out.mono (Nat.le_trans hs0 hs1)))⟩
end Go.Proofs.YtmhmkhdgpfhnfaaGreatDoor.Ref
