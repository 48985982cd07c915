/- SlideGreat: the law. -/
import Derived.Test.YtllhejjcmfiebaaDoorSX
set_option linter.unusedVariables false
set_option linter.unusedSimpArgs false
set_option linter.unnecessarySimpa false
namespace Go.Proofs.YtllhejjcmfiebaaDoor
open Go.RowKit Go.Shelf
theorem grid_board (r c : Nat) (hr : 1 ≤ r) (hc : 1 ≤ c) (hr9 : r ≤ 9) (hc9 : c ≤ 9) (hn2 : 2 ≤ r * c) (hn : r * c ≤ 9) (hch : checkB (r * c : Nat) (gridE r c (r * c)) = 0) (w : World) :
  Calls Tryd.prog 35 #[.int .i64 r, .int .i64 c] w fun e w' => ∃ (N : Nat) (x : Ps) (v : Value), e = .returned (.tuple #[.int .i64 (N : Nat), v]) ∧ 2 ≤ N ∧ N ≤ 9 ∧ OwnP w.heap.size w' v x ∧ checkB N x = 0 ∧ Below w.heap.size w w' := by
 refine (rgrid_go r c hr hc hr9 hc9 hn w).mono ?_
 rintro e w' ⟨v, h1, h2, h3⟩
 exact ⟨r * c, _, v, h1, hn2, hn, h2, hch, h3⟩
set_option maxRecDepth 100000 in
set_option maxHeartbeats 8000000 in
theorem lawGreat (v0 v1 : Value) (l0 l1 : List Int) (w : World) (ht : Tab w) (h0 : SlA w v0 (ints l0)) (h1 : SlA w v1 (ints l1)) :
  Calls Tryd.prog 9 #[.agg #[v0, v1]] w fun e w' => e = .returned (.bool true) ∧ Below w.heap.size w w' := by
 have HG8 := Lib.hid (fun W => show Calls Tryd.prog 35 #[.int .i64 2, .int .i64 4] W _ from grid_board 2 4 (by decide) (by decide) (by decide) (by decide) (by decide) (by decide) (by decide +kernel) W)
 have HG9 := Lib.hid (fun W => show Calls Tryd.prog 35 #[.int .i64 3, .int .i64 3] W _ from grid_board 3 3 (by decide) (by decide) (by decide) (by decide) (by decide) (by decide) (by decide +kernel) W)
 have HT := Lib.hid ht
 have HO0 := Lib.hid h0
 have HO1 := Lib.hid h1
 obtain ⟨p0, c0, rfl, hc01, hc02⟩ := h0.form
 obtain ⟨p1, c1, rfl, hc11, hc12⟩ := h1.form
 have hbx := row_new 48 w #[.slice p0 l0.length c0, .slice p1 l1.length c1]
 have hb0 := (Below.refl w.heap.size w).alloc (Nat.le_refl _) (.cells #[.slice p0 l0.length c0, .slice p1 l1.length c1] 48)
 obtain ⟨WA, hWA⟩ : ∃ WA, w.alloc (.cells #[.slice p0 l0.length c0, .slice p1 l1.length c1] 48) = WA := ⟨_, rfl⟩
 rw [hWA] at hbx hb0
 have HBX := Lib.hid hbx
 have HB0 := Lib.hid hb0
 clear ht h0 h1 hbx hb0
 go_enter Tryd.func9, Tryd.ntmps9
 go_wp2_with fail
 refine (HG8.out WA).mono ?_
 rintro e WG ⟨N8, x8, vx8, rfl, hN82, hN89, hx8, hch8, hbg⟩
 have HBG := Lib.hid (HB0.out.trans (hbg.mono HB0.out.size))
 have rG := HBX.out.below hbg HBX.out.lt
 have HBXG := Lib.hid rG
 have kG := rG.cell 0
 simp only [List.getElem?_cons_zero] at kG
 have HX8 := Lib.hid hx8
 have HCH8 := Lib.hid hch8
 clear hx8 hch8 hbg rG hWA HBX
 by_cases h13 : l0.length = 13
 ·have g13 : (l0.length : Int) = 13 := by omega
  clear h13
  go_wp2_with fail
  refine (HG9.out WG).mono ?_
  rintro e W0 ⟨N, x, vx, rfl, hN2, hN9, hx, hch, hb1⟩
  have HX1 := Lib.hid (hx.base HBG.out.size)
  have HBOX := Lib.hid (HBXG.out.below hb1 HBXG.out.lt)
  have HB1 := Lib.hid (HBG.out.trans (hb1.mono HBG.out.size))
  have HCH := Lib.hid hch
  clear hx hch hb1 kG g13 HG8 HG9 HB0 HBG HBXG HX8 HCH8
  have HORD := Lib.hid (fun W u l' (hl : SlA W u (ints l')) => order_go u N l' W hl hN9)
  go_wp2_with fail
  refine wp_region_rel (by kernel_rfl) 114 rfl (by kernel_rfl) [.fix (.int .i64 (N : Nat)), .fix (.pointer (some ⟨w.heap.size, 0, none⟩)), .fix (.slice p0 l0.length c0), .mem (fun u W => Own 3 w.heap.size W u (ints (ordN l0 N))), .fix (.int .i64 (N : Nat)), .fix (.pointer (some ⟨w.heap.size, 1, none⟩)), .fix (.slice p1 l1.length c1), .mem (fun u W => Own 3 w.heap.size W u (ints (ordN l1 N))), .mem (fun u W => Own 3 w.heap.size W u (ints (ordN l0 N))), .mem (fun u W => Own 3 w.heap.size W u (ints (ordN l1 N)))] rfl (stays_of (fun i M hk v w' w'' h hb => by rcases i with _ | _ | _ | _ | _ | _ | _ | _ | _ | _ | i <;> simp at hk <;> subst hk <;> exact Own.below h hb (Nat.le_refl _)) (fun j b k T n => by rcases j with _ | _ | _ | _ | _ | _ | _ | _ | _ | _ | j <;> simp)) ?hop ?hQ
  case hop =>
   intro W hW j0 o hj vs0 wz hb hV
   have hbw : Below W0.heap.size W0 wz := by rw [hW] at hb; exact ((Below.refl W0.heap.size W0).drew).trans hb
   clear hW hb
   have hj' : j0 < 10 := (List.getElem?_eq_some_iff.1 hj).1
   rcases (by omega : j0 = 0 ∨ j0 = 1 ∨ j0 = 2 ∨ j0 = 3 ∨ j0 = 4 ∨ j0 = 5 ∨ j0 = 6 ∨ j0 = 7 ∨ j0 = 8 ∨ j0 = 9) with rfl | rfl | rfl | rfl | rfl | rfl | rfl | rfl | rfl | rfl
   ·cases hj
    clear hj'
    refine .inl ⟨rfl, ?_⟩
    (try simp [predsR, Region.binds, Vk] at hV)
    simp only [putAll]
    generalize hR : Res _ _ vs0 wz = R
    go_simp
    subst hR
    exact ⟨rfl, Below.refl _ _⟩
   ·cases hj
    clear hj'
    refine .inl ⟨rfl, ?_⟩
    (try simp [predsR, Region.binds, Vk] at hV)
    simp only [putAll]
    generalize hR : Res _ _ vs0 wz = R
    go_simp
    subst hR
    exact ⟨rfl, Below.refl _ _⟩
   ·cases hj
    clear hj'
    refine .inl ⟨rfl, ?_⟩
    generalize hG : relUpon _ _ _ = G
    have q1_ : vs0 1 = _ := hV 1 (by decide)
    clear hV
    have d0 : wz.cell? ⟨w.heap.size, 0, none⟩ = some (.slice p0 l0.length c0) := (HBOX.out.below hbw HBOX.out.lt).cell 0
    subst hG
    simp only [putAll]
    generalize hR : Res _ _ vs0 wz = R
    go_simp
    subst hR
    exact ⟨rfl, Below.refl _ _⟩
   ·cases hj
    clear hj'
    refine .inl ⟨rfl, ?_⟩
    generalize hG : relUpon _ _ _ = G
    have q0_ : vs0 0 = _ := hV 0 (by decide)
    have q2_ : vs0 2 = _ := hV 2 (by decide)
    clear hV
    subst hG
    simp only [putAll]
    generalize hR : Res _ _ vs0 wz = R
    go_simp
    subst hR
    refine (HORD.out wz _ _ (HO0.out.below (HB1.out.trans (hbw.mono HB1.out.size)))).mono ?_
    rintro e w2 ⟨v2, rfl, ho2, hb2⟩
    exact ⟨_, rfl, ho2.base (HB1.out.trans (hbw.mono HB1.out.size)).size, hb2⟩
   ·cases hj
    clear hj'
    refine .inl ⟨rfl, ?_⟩
    (try simp [predsR, Region.binds, Vk] at hV)
    simp only [putAll]
    generalize hR : Res _ _ vs0 wz = R
    go_simp
    subst hR
    exact ⟨rfl, Below.refl _ _⟩
   ·cases hj
    clear hj'
    refine .inl ⟨rfl, ?_⟩
    (try simp [predsR, Region.binds, Vk] at hV)
    simp only [putAll]
    generalize hR : Res _ _ vs0 wz = R
    go_simp
    subst hR
    exact ⟨rfl, Below.refl _ _⟩
   ·cases hj
    clear hj'
    refine .inl ⟨rfl, ?_⟩
    generalize hG : relUpon _ _ _ = G
    have q5_ : vs0 5 = _ := hV 5 (by decide)
    clear hV
    have d1 : wz.cell? ⟨w.heap.size, 1, none⟩ = some (.slice p1 l1.length c1) := (HBOX.out.below hbw HBOX.out.lt).cell 1
    subst hG
    simp only [putAll]
    generalize hR : Res _ _ vs0 wz = R
    go_simp
    subst hR
    exact ⟨rfl, Below.refl _ _⟩
   ·cases hj
    clear hj'
    refine .inl ⟨rfl, ?_⟩
    generalize hG : relUpon _ _ _ = G
    have q4_ : vs0 4 = _ := hV 4 (by decide)
    have q6_ : vs0 6 = _ := hV 6 (by decide)
    clear hV
    subst hG
    simp only [putAll]
    generalize hR : Res _ _ vs0 wz = R
    go_simp
    subst hR
    refine (HORD.out wz _ _ (HO1.out.below (HB1.out.trans (hbw.mono HB1.out.size)))).mono ?_
    rintro e w2 ⟨v2, rfl, ho2, hb2⟩
    exact ⟨_, rfl, ho2.base (HB1.out.trans (hbw.mono HB1.out.size)).size, hb2⟩
   ·cases hj
    clear hj'
    refine .inl ⟨rfl, ?_⟩
    generalize hG : relUpon _ _ _ = G
    have q3_ : Own 3 w.heap.size wz (vs0 3) (ints (ordN l0 N)) := hV 3 (by decide)
    clear hV
    subst hG
    simp only [putAll]
    generalize hR : Res _ _ vs0 wz = R
    go_simp
    subst hR
    exact ⟨q3_, Below.refl _ _⟩
   ·cases hj
    clear hj'
    refine .inl ⟨rfl, ?_⟩
    generalize hG : relUpon _ _ _ = G
    have q7_ : Own 3 w.heap.size wz (vs0 7) (ints (ordN l1 N)) := hV 7 (by decide)
    clear hV
    subst hG
    simp only [putAll]
    generalize hR : Res _ _ vs0 wz = R
    go_simp
    subst hR
    exact ⟨q7_, Below.refl _ _⟩
  case hQ =>
   intro W hW vs0 wz hb hV hD
   have hbw : Below W0.heap.size W0 wz := by rw [hW] at hb; exact ((Below.refl W0.heap.size W0).drew).trans hb
   have e0_ : vs0 0 = _ := hV 0 (by decide)
   have e1_ : vs0 1 = _ := hV 1 (by decide)
   have e2_ : vs0 2 = _ := hV 2 (by decide)
   have e4_ : vs0 4 = _ := hV 4 (by decide)
   have e5_ : vs0 5 = _ := hV 5 (by decide)
   have e6_ : vs0 6 = _ := hV 6 (by decide)
   have g8 : Own 3 w.heap.size wz (vs0 8) (ints (ordN l0 N)) := hV 8 (by decide)
   have g9 : Own 3 w.heap.size wz (vs0 9) (ints (ordN l1 N)) := hV 9 (by decide)
   generalize hKK : Exit.then _ _ = KK
   simp only [putAll, e0_, e1_, e2_, e4_, e5_, e6_]
   go_simp
   subst hKK
   clear hV hD hb hW e0_ e1_ e2_ e4_ e5_ e6_
   obtain ⟨y3, hy3⟩ : ∃ y3, vs0 3 = y3 := ⟨_, rfl⟩
   obtain ⟨y7, hy7⟩ : ∃ y7, vs0 7 = y7 := ⟨_, rfl⟩
   obtain ⟨pv, hpv⟩ : ∃ pv, vs0 8 = pv := ⟨_, rfl⟩
   obtain ⟨qv, hqv⟩ : ∃ qv, vs0 9 = qv := ⟨_, rfl⟩
   rw [hpv] at g8
   rw [hqv] at g9
   rw [hy3, hy7, hpv, hqv]
   have hbW := HB1.out.trans (hbw.mono HB1.out.size)
   have hX := OwnP.sl (l := x) (HX1.out.below hbw (Nat.le_refl _))
   have hT : Tab wz := HT.out.below hbW HT.out.lt
   have hBW := Lib.hid hbW
   have HBOX1 := Lib.hid (HBOX.out.below hbw HBOX.out.lt)
   have HO11 := Lib.hid (HO1.out.below hbW)
   clear hy3 hy7 hpv hqv HORD HO0 HO1 HX1 HT HB1 HBOX hbw hbW
   have hch := HCH.out
   clear HCH
   obtain ⟨hok, hjn⟩ := ok_of_check hch
   obtain ⟨N', hN'', _, _, hE⟩ := check_lt hch
   obtain rfl : N = N' := by omega
   have hPP := ordN_posP l0 N
   have hQQ := ordN_posP l1 N
   generalize ordN l0 N = P at *
   generalize ordN l1 N = Q0 at *
   have hP : SlA wz pv (ints P) := g8.sl.toA
   have hQ : SlA wz qv (ints Q0) := g9.sl.toA
   have hpe := posE_of hN2 hN9 hPP
   obtain ⟨pp, cp, rfl, hcp1, hcp2⟩ := hP.form
   obtain ⟨px, cx, rfl, hcx1, hcx2⟩ := hX.len
   have ht := hT.lt
   obtain ⟨w1, hw1⟩ : ∃ w1 : World, w1 = wz := ⟨_, rfl⟩
   subst hw1
   clear g8 g9 hN''
   have HPP := Lib.hid hPP
   have HFAR := Lib.hid (fun (W : World) (hb : Below w1.heap.size w1 W) => far_go N _ _ x P W (hX.below hb) hN2 hN9 hok (hP.below hb) hPP)
   have HCNT := Lib.hid (fun (W : World) (hb : Below w1.heap.size w1 W) => scount_go _ _ N x P W (hX.below hb) (hT.below hb ht) (hP.below hb) hch hpe hPP)
   have HSLV := Lib.hid (fun (u : Value) (Q : List Int) (W : World) (hb : Below w1.heap.size w1 W) (hq : SlA W u (ints Q)) (hQ : PosP N Q) => ssolve_go _ _ u N x P Q W (hX.below hb) (hT.below hb ht) (hP.below hb) hq hch hN2 hN9 hPP hQ)
   have HRA := Lib.hid (fun (u : Value) (M : List Int) (W : World) (hb : Below w1.heap.size w1 W) (hm : SlA W u (ints M)) (h6 : M.length ≤ 1000000) => rapply_big _ _ u N N x P M W (hX.below hb) (hP.below hb) hm (hPP.w (by omega)) hN9 hok hE h6)
   have HIS := Lib.hid (fun (va vb : Value) (l' : List Int) (W : World) (ha : SlA W va (ints l')) (hb : SlA W vb (ints l')) => ints_same va vb l' W ha hb)
   have HAW := Lib.hid (fun W (hb : Below w1.heap.size w1 W) => awake_spec W (hT.below hb ht))
   have HDF := Lib.hid (fun (d : Nat) (Q : List Int) (h : DistIs (toE x) N P d Q) => dist_few hPP hN9 h)
   have HP := Lib.hid hP
   have HQ := Lib.hid hQ
   have HQQ := Lib.hid hQQ
   have HS1 := Lib.hid (fun (W : World) (hb : Below w1.heap.size w1 W) => HSLV.out _ Q0 W hb (hQ.below hb) hQQ)
   obtain ⟨pq, cq, rfl, hcq1, hcq2⟩ := hQ.form
   clear hP hQ hX hT hch hok hjn hE hpe hPP hQQ HSLV
   go_wp2_with fail
   refine (HFAR.out w1 (Below.refl _ _)).mono ?_
   rintro e w2 ⟨fv, F, cn, M, La, rfl, hfv, hfo, hb2⟩
   have HFO := Lib.hid hfo
   obtain ⟨k, hne, hnil, hc, hM, hLa, hF⟩ := hfo.ex
   have HLAST : Hid (LastAt (toE x) N P k) := ⟨hne, hnil⟩
   have HFL := Lib.hid hF.1
   have HCN := Lib.hid hc
   obtain ⟨sv, rfl, hsv⟩ := hfv
   obtain ⟨ps, cs, rfl, hcs1, hcs2⟩ := hsv.form
   have r10 := row_new 70 w2 #[.slice ps F.length cs, .int .i64 (cn : Nat), .int .i64 (M : Nat), .int .i64 (La : Nat)]
   have b10 := below_alloc_refl w2 (.cells #[.slice ps F.length cs, .int .i64 (cn : Nat), .int .i64 (M : Nat), .int .i64 (La : Nat)] 70)
   obtain ⟨W3, hW3⟩ : ∃ W3, w2.alloc (.cells #[.slice ps F.length cs, .int .i64 (cn : Nat), .int .i64 (M : Nat), .int .i64 (La : Nat)] 70) = W3 := ⟨_, rfl⟩
   rw [hW3] at r10 b10
   obtain ⟨g10, hg10⟩ : ∃ g10, w2.heap.size = g10 := ⟨_, rfl⟩
   rw [hg10] at r10
   have HB3 := Lib.hid (hb2.trans (b10.mono hb2.size))
   have HR10 := Lib.hid r10
   have HSV := Lib.hid (show FarV W3 (.agg #[.slice ps F.length cs, .int .i64 (cn : Nat), .int .i64 (M : Nat), .int .i64 (La : Nat)]) F (cn : Nat) (M : Nat) (La : Nat) from ⟨_, rfl, hsv.below b10⟩)
   clear hfo hne hnil hc hM hLa hF hsv r10 b10 hb2 HFAR
   go_wp2_with fail
   refine (HS1.out W3 HB3.out).mono ?_
   rintro e w4 ⟨v', m, bo, rfl, ho, hs, hb4⟩
   have HB4 := Lib.hid (HB3.out.trans (hb4.mono HB3.out.size))
   have HR4 := Lib.hid (HR10.out.below hb4 HR10.out.lt)
   have HSV4 := Lib.hid (HSV.out.below hb4)
   have HMA := Lib.hid ho.sl.toA
   have HS := Lib.hid hs
   obtain ⟨pm, cm, rfl, hcm1, hcm2⟩ := HMA.out.form
   clear ho hs hb4 HB3 HR10 HSV HS1
   go_wp2_with fail
   refine (HCNT.out w4 HB4.out).mono ?_
   rintro e w5 ⟨k4, hk4, rfl, hb5⟩
   obtain rfl : k4 = k := LastAt.uniq hk4 HLAST.out
   rw [← HCN.out]
   have HB5 := Lib.hid (HB4.out.trans (hb5.mono HB4.out.size))
   have rB := HR4.out.below hb5 HR4.out.lt
   have HRB := Lib.hid rB
   have f0 := rB.cell 0
   have f1 := rB.cell 1
   have f2 := rB.cell 2
   have f3 := rB.cell 3
   simp only [List.getElem?_cons_zero, List.getElem?_cons_succ] at f0 f1 f2 f3
   have HQ5 := Lib.hid (HQ.out.below HB5.out)
   have HM5 := Lib.hid (HMA.out.below hb5)
   have hsg := steps_go _ _ N F Q0 (cn : Nat) (M : Nat) (La : Nat) w5 (HSV4.out.below hb5) HFL.out HQ5.out HQQ.out.len hN9
   have gcc : ((cn : Int) != (cn : Int)) = false := by simp
   clear hk4 hb5 HB4 HR4 HSV4 HMA HCNT rB
   rcases solve_steps HQQ.out HFO.out HS.out with ⟨rfl, hst, hap⟩ | ⟨rfl, hst, hm0⟩
   ·have hm6 : m.length ≤ 362880 := by
     rcases HS.out with ⟨_, hd, _⟩ | ⟨h, _⟩
     ·exact HDF.out _ _ hd
     ·cases h
    rw [hst] at hsg
    have HSG := Lib.hid hsg
    have HAPP := Lib.hid hap
    clear hsg hst hap
    go_wp2_with fail
    refine (HSG.out).mono ?_
    rintro e w6 ⟨rfl, hb6⟩
    have HB6 := Lib.hid (HB5.out.trans (hb6.mono HB5.out.size))
    have HQ6 := Lib.hid (HQ5.out.below hb6)
    have HM6 := Lib.hid (HM5.out.below hb6)
    have r6 := HRB.out.below hb6 HRB.out.lt
    clear f0 f1 f2 f3
    have f1 := r6.cell 1
    simp only [List.getElem?_cons_zero, List.getElem?_cons_succ] at f1
    clear hb6 r6 HSG
    have hra := HRA.out _ m w6 HB6.out HM6.out (by omega)
    rw [HAPP.out] at hra
    dsimp only at hra
    have HRAX := Lib.hid hra
    have hms : (0 : Int) ≤ (m.length : Int) := by omega
    have gml : ((m.length : Int) != (m.length : Int)) = false := by simp
    clear hra
    go_wp2_with fail
    refine (HRAX.out).mono ?_
    rintro e w7 ⟨vr, rfl, hor, hb7⟩
    have HB7 := Lib.hid (HB6.out.trans (hb7.mono HB6.out.size))
    have HQ7 := Lib.hid (HQ6.out.below hb7)
    have HOR := Lib.hid hor
    obtain ⟨pr, cr, rfl, hcr1, hcr2⟩ := hor.form
    clear hor hb7 f1
    go_wp2_with fail
    refine (HIS.out _ _ Q0 w7 HOR.out HQ7.out).mono ?_
    rintro e w8 ⟨rfl, hb8⟩
    have HB8 := Lib.hid (HB7.out.trans (hb8.mono HB7.out.size))
    clear hb8
    go_wp2_with fail
    refine (HAW.out w8 HB8.out).mono ?_
    rintro e w9 ⟨rfl, hb9⟩
    have HB9 := Lib.hid (hBW.out.trans ((HB8.out.trans (hb9.mono HB8.out.size)).mono hBW.out.size))
    clear hb9
    go_wp2
    go_ret
    exact ⟨rfl, HB9.out⟩
   ·subst hm0
    rw [hst] at hsg
    have HSG := Lib.hid hsg
    clear hsg hst
    go_wp2_with fail
    refine (HSG.out).mono ?_
    rintro e w6 ⟨rfl, hb6⟩
    have HB6 := Lib.hid (HB5.out.trans (hb6.mono HB5.out.size))
    have HQ6 := Lib.hid (HQ5.out.below hb6)
    have HM6 := Lib.hid (HM5.out.below hb6)
    have r6 := HRB.out.below hb6 HRB.out.lt
    clear f0 f1 f2 f3
    have f1 := r6.cell 1
    simp only [List.getElem?_cons_zero, List.getElem?_cons_succ] at f1
    clear hb6 r6 HSG
    have hra := HRA.out _ [] w6 HB6.out HM6.out (by simp)
    have hap : applyL (toE x) P [] = (P, 0) := rfl
    rw [hap] at hra
    dsimp only at hra
    have HRAX := Lib.hid hra
    clear hra hap
    go_wp2_with fail
    refine (HRAX.out).mono ?_
    rintro e w7 ⟨vr, rfl, hor, hb7⟩
    have HB7 := Lib.hid (HB6.out.trans (hb7.mono HB6.out.size))
    obtain ⟨pr, cr, rfl, hcr1, hcr2⟩ := hor.form
    clear hor hb7 f1
    go_wp2_with fail
    refine (HAW.out w7 HB7.out).mono ?_
    rintro e w9 ⟨rfl, hb9⟩
    have HB9 := Lib.hid (hBW.out.trans ((HB7.out.trans (hb9.mono HB7.out.size)).mono hBW.out.size))
    clear hb9
    go_wp2
    go_ret
    exact ⟨rfl, HB9.out⟩
 ·have g13 : ¬ ((l0.length : Int) = 13) := by omega
  clear h13
  obtain ⟨W0, hW0⟩ : ∃ W0 : World, W0 = WG := ⟨_, rfl⟩
  subst hW0
  obtain ⟨N, hN⟩ : ∃ N : Nat, N = N8 := ⟨_, rfl⟩
  subst hN
  obtain ⟨x, hx⟩ : ∃ x : Ps, x = x8 := ⟨_, rfl⟩
  subst hx
  obtain ⟨vx, hvx⟩ : ∃ vx : Value, vx = vx8 := ⟨_, rfl⟩
  subst hvx
  have hN2 := hN82
  have hN9 := hN89
  have HX1 := Lib.hid (HX8.out.base HB0.out.size)
  have HBOX := HBXG
  have HB1 := HBG
  have HCH := HCH8
  have HORD := Lib.hid (fun W u l' (hl : SlA W u (ints l')) => order_go u N l' W hl hN9)
  go_wp2_with fail
  clear kG g13 HG8 HG9 HB0 HBG HBXG HX8 HCH8
  refine wp_region_rel (by kernel_rfl) 114 rfl (by kernel_rfl) [.fix (.int .i64 (N : Nat)), .fix (.pointer (some ⟨w.heap.size, 0, none⟩)), .fix (.slice p0 l0.length c0), .mem (fun u W => Own 3 w.heap.size W u (ints (ordN l0 N))), .fix (.int .i64 (N : Nat)), .fix (.pointer (some ⟨w.heap.size, 1, none⟩)), .fix (.slice p1 l1.length c1), .mem (fun u W => Own 3 w.heap.size W u (ints (ordN l1 N))), .mem (fun u W => Own 3 w.heap.size W u (ints (ordN l0 N))), .mem (fun u W => Own 3 w.heap.size W u (ints (ordN l1 N)))] rfl (stays_of (fun i M hk v w' w'' h hb => by rcases i with _ | _ | _ | _ | _ | _ | _ | _ | _ | _ | i <;> simp at hk <;> subst hk <;> exact Own.below h hb (Nat.le_refl _)) (fun j b k T n => by rcases j with _ | _ | _ | _ | _ | _ | _ | _ | _ | _ | j <;> simp)) ?hop ?hQ
  case hop =>
   intro W hW j0 o hj vs0 wz hb hV
   have hbw : Below W0.heap.size W0 wz := by rw [hW] at hb; exact ((Below.refl W0.heap.size W0).drew).trans hb
   clear hW hb
   have hj' : j0 < 10 := (List.getElem?_eq_some_iff.1 hj).1
   rcases (by omega : j0 = 0 ∨ j0 = 1 ∨ j0 = 2 ∨ j0 = 3 ∨ j0 = 4 ∨ j0 = 5 ∨ j0 = 6 ∨ j0 = 7 ∨ j0 = 8 ∨ j0 = 9) with rfl | rfl | rfl | rfl | rfl | rfl | rfl | rfl | rfl | rfl
   ·cases hj
    clear hj'
    refine .inl ⟨rfl, ?_⟩
    (try simp [predsR, Region.binds, Vk] at hV)
    simp only [putAll]
    generalize hR : Res _ _ vs0 wz = R
    go_simp
    subst hR
    exact ⟨rfl, Below.refl _ _⟩
   ·cases hj
    clear hj'
    refine .inl ⟨rfl, ?_⟩
    (try simp [predsR, Region.binds, Vk] at hV)
    simp only [putAll]
    generalize hR : Res _ _ vs0 wz = R
    go_simp
    subst hR
    exact ⟨rfl, Below.refl _ _⟩
   ·cases hj
    clear hj'
    refine .inl ⟨rfl, ?_⟩
    generalize hG : relUpon _ _ _ = G
    have q1_ : vs0 1 = _ := hV 1 (by decide)
    clear hV
    have d0 : wz.cell? ⟨w.heap.size, 0, none⟩ = some (.slice p0 l0.length c0) := (HBOX.out.below hbw HBOX.out.lt).cell 0
    subst hG
    simp only [putAll]
    generalize hR : Res _ _ vs0 wz = R
    go_simp
    subst hR
    exact ⟨rfl, Below.refl _ _⟩
   ·cases hj
    clear hj'
    refine .inl ⟨rfl, ?_⟩
    generalize hG : relUpon _ _ _ = G
    have q0_ : vs0 0 = _ := hV 0 (by decide)
    have q2_ : vs0 2 = _ := hV 2 (by decide)
    clear hV
    subst hG
    simp only [putAll]
    generalize hR : Res _ _ vs0 wz = R
    go_simp
    subst hR
    refine (HORD.out wz _ _ (HO0.out.below (HB1.out.trans (hbw.mono HB1.out.size)))).mono ?_
    rintro e w2 ⟨v2, rfl, ho2, hb2⟩
    exact ⟨_, rfl, ho2.base (HB1.out.trans (hbw.mono HB1.out.size)).size, hb2⟩
   ·cases hj
    clear hj'
    refine .inl ⟨rfl, ?_⟩
    (try simp [predsR, Region.binds, Vk] at hV)
    simp only [putAll]
    generalize hR : Res _ _ vs0 wz = R
    go_simp
    subst hR
    exact ⟨rfl, Below.refl _ _⟩
   ·cases hj
    clear hj'
    refine .inl ⟨rfl, ?_⟩
    (try simp [predsR, Region.binds, Vk] at hV)
    simp only [putAll]
    generalize hR : Res _ _ vs0 wz = R
    go_simp
    subst hR
    exact ⟨rfl, Below.refl _ _⟩
   ·cases hj
    clear hj'
    refine .inl ⟨rfl, ?_⟩
    generalize hG : relUpon _ _ _ = G
    have q5_ : vs0 5 = _ := hV 5 (by decide)
    clear hV
    have d1 : wz.cell? ⟨w.heap.size, 1, none⟩ = some (.slice p1 l1.length c1) := (HBOX.out.below hbw HBOX.out.lt).cell 1
    subst hG
    simp only [putAll]
    generalize hR : Res _ _ vs0 wz = R
    go_simp
    subst hR
    exact ⟨rfl, Below.refl _ _⟩
   ·cases hj
    clear hj'
    refine .inl ⟨rfl, ?_⟩
    generalize hG : relUpon _ _ _ = G
    have q4_ : vs0 4 = _ := hV 4 (by decide)
    have q6_ : vs0 6 = _ := hV 6 (by decide)
    clear hV
    subst hG
    simp only [putAll]
    generalize hR : Res _ _ vs0 wz = R
    go_simp
    subst hR
    refine (HORD.out wz _ _ (HO1.out.below (HB1.out.trans (hbw.mono HB1.out.size)))).mono ?_
    rintro e w2 ⟨v2, rfl, ho2, hb2⟩
    exact ⟨_, rfl, ho2.base (HB1.out.trans (hbw.mono HB1.out.size)).size, hb2⟩
   ·cases hj
    clear hj'
    refine .inl ⟨rfl, ?_⟩
    generalize hG : relUpon _ _ _ = G
    have q3_ : Own 3 w.heap.size wz (vs0 3) (ints (ordN l0 N)) := hV 3 (by decide)
    clear hV
    subst hG
    simp only [putAll]
    generalize hR : Res _ _ vs0 wz = R
    go_simp
    subst hR
    exact ⟨q3_, Below.refl _ _⟩
   ·cases hj
    clear hj'
    refine .inl ⟨rfl, ?_⟩
    generalize hG : relUpon _ _ _ = G
    have q7_ : Own 3 w.heap.size wz (vs0 7) (ints (ordN l1 N)) := hV 7 (by decide)
    clear hV
    subst hG
    simp only [putAll]
    generalize hR : Res _ _ vs0 wz = R
    go_simp
    subst hR
    exact ⟨q7_, Below.refl _ _⟩
  case hQ =>
   intro W hW vs0 wz hb hV hD
   have hbw : Below W0.heap.size W0 wz := by rw [hW] at hb; exact ((Below.refl W0.heap.size W0).drew).trans hb
   have e0_ : vs0 0 = _ := hV 0 (by decide)
   have e1_ : vs0 1 = _ := hV 1 (by decide)
   have e2_ : vs0 2 = _ := hV 2 (by decide)
   have e4_ : vs0 4 = _ := hV 4 (by decide)
   have e5_ : vs0 5 = _ := hV 5 (by decide)
   have e6_ : vs0 6 = _ := hV 6 (by decide)
   have g8 : Own 3 w.heap.size wz (vs0 8) (ints (ordN l0 N)) := hV 8 (by decide)
   have g9 : Own 3 w.heap.size wz (vs0 9) (ints (ordN l1 N)) := hV 9 (by decide)
   generalize hKK : Exit.then _ _ = KK
   simp only [putAll, e0_, e1_, e2_, e4_, e5_, e6_]
   go_simp
   subst hKK
   clear hV hD hb hW e0_ e1_ e2_ e4_ e5_ e6_
   obtain ⟨y3, hy3⟩ : ∃ y3, vs0 3 = y3 := ⟨_, rfl⟩
   obtain ⟨y7, hy7⟩ : ∃ y7, vs0 7 = y7 := ⟨_, rfl⟩
   obtain ⟨pv, hpv⟩ : ∃ pv, vs0 8 = pv := ⟨_, rfl⟩
   obtain ⟨qv, hqv⟩ : ∃ qv, vs0 9 = qv := ⟨_, rfl⟩
   rw [hpv] at g8
   rw [hqv] at g9
   rw [hy3, hy7, hpv, hqv]
   have hbW := HB1.out.trans (hbw.mono HB1.out.size)
   have hX := OwnP.sl (l := x) (HX1.out.below hbw (Nat.le_refl _))
   have hT : Tab wz := HT.out.below hbW HT.out.lt
   have hBW := Lib.hid hbW
   have HBOX1 := Lib.hid (HBOX.out.below hbw HBOX.out.lt)
   have HO11 := Lib.hid (HO1.out.below hbW)
   clear hy3 hy7 hpv hqv HORD HO0 HO1 HX1 HT HB1 HBOX hbw hbW
   have hch := HCH.out
   clear HCH
   obtain ⟨hok, hjn⟩ := ok_of_check hch
   obtain ⟨N', hN'', _, _, hE⟩ := check_lt hch
   obtain rfl : N = N' := by omega
   have hPP := ordN_posP l0 N
   have hQQ := ordN_posP l1 N
   generalize ordN l0 N = P at *
   generalize ordN l1 N = Q0 at *
   have hP : SlA wz pv (ints P) := g8.sl.toA
   have hQ : SlA wz qv (ints Q0) := g9.sl.toA
   have hpe := posE_of hN2 hN9 hPP
   obtain ⟨pp, cp, rfl, hcp1, hcp2⟩ := hP.form
   obtain ⟨px, cx, rfl, hcx1, hcx2⟩ := hX.len
   have ht := hT.lt
   obtain ⟨w1, hw1⟩ : ∃ w1 : World, w1 = wz := ⟨_, rfl⟩
   subst hw1
   clear g8 g9 hN''
   have HPP := Lib.hid hPP
   have HFAR := Lib.hid (fun (W : World) (hb : Below w1.heap.size w1 W) => far_go N _ _ x P W (hX.below hb) hN2 hN9 hok (hP.below hb) hPP)
   have HCNT := Lib.hid (fun (W : World) (hb : Below w1.heap.size w1 W) => scount_go _ _ N x P W (hX.below hb) (hT.below hb ht) (hP.below hb) hch hpe hPP)
   have HSLV := Lib.hid (fun (u : Value) (Q : List Int) (W : World) (hb : Below w1.heap.size w1 W) (hq : SlA W u (ints Q)) (hQ : PosP N Q) => ssolve_go _ _ u N x P Q W (hX.below hb) (hT.below hb ht) (hP.below hb) hq hch hN2 hN9 hPP hQ)
   have HRA := Lib.hid (fun (u : Value) (M : List Int) (W : World) (hb : Below w1.heap.size w1 W) (hm : SlA W u (ints M)) (h6 : M.length ≤ 1000000) => rapply_big _ _ u N N x P M W (hX.below hb) (hP.below hb) hm (hPP.w (by omega)) hN9 hok hE h6)
   have HIS := Lib.hid (fun (va vb : Value) (l' : List Int) (W : World) (ha : SlA W va (ints l')) (hb : SlA W vb (ints l')) => ints_same va vb l' W ha hb)
   have HAW := Lib.hid (fun W (hb : Below w1.heap.size w1 W) => awake_spec W (hT.below hb ht))
   have HDF := Lib.hid (fun (d : Nat) (Q : List Int) (h : DistIs (toE x) N P d Q) => dist_few hPP hN9 h)
   have HP := Lib.hid hP
   have HQ := Lib.hid hQ
   have HQQ := Lib.hid hQQ
   have HS1 := Lib.hid (fun (W : World) (hb : Below w1.heap.size w1 W) => HSLV.out _ Q0 W hb (hQ.below hb) hQQ)
   obtain ⟨pq, cq, rfl, hcq1, hcq2⟩ := hQ.form
   clear hP hQ hX hT hch hok hjn hE hpe hPP hQQ HSLV
   go_wp2_with fail
   refine (HFAR.out w1 (Below.refl _ _)).mono ?_
   rintro e w2 ⟨fv, F, cn, M, La, rfl, hfv, hfo, hb2⟩
   have HFO := Lib.hid hfo
   obtain ⟨k, hne, hnil, hc, hM, hLa, hF⟩ := hfo.ex
   have HLAST : Hid (LastAt (toE x) N P k) := ⟨hne, hnil⟩
   have HFL := Lib.hid hF.1
   have HCN := Lib.hid hc
   obtain ⟨sv, rfl, hsv⟩ := hfv
   obtain ⟨ps, cs, rfl, hcs1, hcs2⟩ := hsv.form
   have r10 := row_new 70 w2 #[.slice ps F.length cs, .int .i64 (cn : Nat), .int .i64 (M : Nat), .int .i64 (La : Nat)]
   have b10 := below_alloc_refl w2 (.cells #[.slice ps F.length cs, .int .i64 (cn : Nat), .int .i64 (M : Nat), .int .i64 (La : Nat)] 70)
   obtain ⟨W3, hW3⟩ : ∃ W3, w2.alloc (.cells #[.slice ps F.length cs, .int .i64 (cn : Nat), .int .i64 (M : Nat), .int .i64 (La : Nat)] 70) = W3 := ⟨_, rfl⟩
   rw [hW3] at r10 b10
   obtain ⟨g10, hg10⟩ : ∃ g10, w2.heap.size = g10 := ⟨_, rfl⟩
   rw [hg10] at r10
   have HB3 := Lib.hid (hb2.trans (b10.mono hb2.size))
   have HR10 := Lib.hid r10
   have HSV := Lib.hid (show FarV W3 (.agg #[.slice ps F.length cs, .int .i64 (cn : Nat), .int .i64 (M : Nat), .int .i64 (La : Nat)]) F (cn : Nat) (M : Nat) (La : Nat) from ⟨_, rfl, hsv.below b10⟩)
   clear hfo hne hnil hc hM hLa hF hsv r10 b10 hb2 HFAR
   go_wp2_with fail
   refine (HS1.out W3 HB3.out).mono ?_
   rintro e w4 ⟨v', m, bo, rfl, ho, hs, hb4⟩
   have HB4 := Lib.hid (HB3.out.trans (hb4.mono HB3.out.size))
   have HR4 := Lib.hid (HR10.out.below hb4 HR10.out.lt)
   have HSV4 := Lib.hid (HSV.out.below hb4)
   have HMA := Lib.hid ho.sl.toA
   have HS := Lib.hid hs
   obtain ⟨pm, cm, rfl, hcm1, hcm2⟩ := HMA.out.form
   clear ho hs hb4 HB3 HR10 HSV HS1
   go_wp2_with fail
   refine (HCNT.out w4 HB4.out).mono ?_
   rintro e w5 ⟨k4, hk4, rfl, hb5⟩
   obtain rfl : k4 = k := LastAt.uniq hk4 HLAST.out
   rw [← HCN.out]
   have HB5 := Lib.hid (HB4.out.trans (hb5.mono HB4.out.size))
   have rB := HR4.out.below hb5 HR4.out.lt
   have HRB := Lib.hid rB
   have f0 := rB.cell 0
   have f1 := rB.cell 1
   have f2 := rB.cell 2
   have f3 := rB.cell 3
   simp only [List.getElem?_cons_zero, List.getElem?_cons_succ] at f0 f1 f2 f3
   have HQ5 := Lib.hid (HQ.out.below HB5.out)
   have HM5 := Lib.hid (HMA.out.below hb5)
   have hsg := steps_go _ _ N F Q0 (cn : Nat) (M : Nat) (La : Nat) w5 (HSV4.out.below hb5) HFL.out HQ5.out HQQ.out.len hN9
   have gcc : ((cn : Int) != (cn : Int)) = false := by simp
   clear hk4 hb5 HB4 HR4 HSV4 HMA HCNT rB
   rcases solve_steps HQQ.out HFO.out HS.out with ⟨rfl, hst, hap⟩ | ⟨rfl, hst, hm0⟩
   ·have hm6 : m.length ≤ 362880 := by
     rcases HS.out with ⟨_, hd, _⟩ | ⟨h, _⟩
     ·exact HDF.out _ _ hd
     ·cases h
    rw [hst] at hsg
    have HSG := Lib.hid hsg
    have HAPP := Lib.hid hap
    clear hsg hst hap
    go_wp2_with fail
    refine (HSG.out).mono ?_
    rintro e w6 ⟨rfl, hb6⟩
    have HB6 := Lib.hid (HB5.out.trans (hb6.mono HB5.out.size))
    have HQ6 := Lib.hid (HQ5.out.below hb6)
    have HM6 := Lib.hid (HM5.out.below hb6)
    have r6 := HRB.out.below hb6 HRB.out.lt
    clear f0 f1 f2 f3
    have f1 := r6.cell 1
    simp only [List.getElem?_cons_zero, List.getElem?_cons_succ] at f1
    clear hb6 r6 HSG
    have hra := HRA.out _ m w6 HB6.out HM6.out (by omega)
    rw [HAPP.out] at hra
    dsimp only at hra
    have HRAX := Lib.hid hra
    have hms : (0 : Int) ≤ (m.length : Int) := by omega
    have gml : ((m.length : Int) != (m.length : Int)) = false := by simp
    clear hra
    go_wp2_with fail
    refine (HRAX.out).mono ?_
    rintro e w7 ⟨vr, rfl, hor, hb7⟩
    have HB7 := Lib.hid (HB6.out.trans (hb7.mono HB6.out.size))
    have HQ7 := Lib.hid (HQ6.out.below hb7)
    have HOR := Lib.hid hor
    obtain ⟨pr, cr, rfl, hcr1, hcr2⟩ := hor.form
    clear hor hb7 f1
    go_wp2_with fail
    refine (HIS.out _ _ Q0 w7 HOR.out HQ7.out).mono ?_
    rintro e w8 ⟨rfl, hb8⟩
    have HB8 := Lib.hid (HB7.out.trans (hb8.mono HB7.out.size))
    clear hb8
    go_wp2_with fail
    refine (HAW.out w8 HB8.out).mono ?_
    rintro e w9 ⟨rfl, hb9⟩
    have HB9 := Lib.hid (hBW.out.trans ((HB8.out.trans (hb9.mono HB8.out.size)).mono hBW.out.size))
    clear hb9
    go_wp2
    go_ret
    exact ⟨rfl, HB9.out⟩
   ·subst hm0
    rw [hst] at hsg
    have HSG := Lib.hid hsg
    clear hsg hst
    go_wp2_with fail
    refine (HSG.out).mono ?_
    rintro e w6 ⟨rfl, hb6⟩
    have HB6 := Lib.hid (HB5.out.trans (hb6.mono HB5.out.size))
    have HQ6 := Lib.hid (HQ5.out.below hb6)
    have HM6 := Lib.hid (HM5.out.below hb6)
    have r6 := HRB.out.below hb6 HRB.out.lt
    clear f0 f1 f2 f3
    have f1 := r6.cell 1
    simp only [List.getElem?_cons_zero, List.getElem?_cons_succ] at f1
    clear hb6 r6 HSG
    have hra := HRA.out _ [] w6 HB6.out HM6.out (by simp)
    have hap : applyL (toE x) P [] = (P, 0) := rfl
    rw [hap] at hra
    dsimp only at hra
    have HRAX := Lib.hid hra
    clear hra hap
    go_wp2_with fail
    refine (HRAX.out).mono ?_
    rintro e w7 ⟨vr, rfl, hor, hb7⟩
    have HB7 := Lib.hid (HB6.out.trans (hb7.mono HB6.out.size))
    obtain ⟨pr, cr, rfl, hcr1, hcr2⟩ := hor.form
    clear hor hb7 f1
    go_wp2_with fail
    refine (HAW.out w7 HB7.out).mono ?_
    rintro e w9 ⟨rfl, hb9⟩
    have HB9 := Lib.hid (hBW.out.trans ((HB7.out.trans (hb9.mono HB7.out.size)).mono hBW.out.size))
    clear hb9
    go_wp2
    go_ret
    exact ⟨rfl, HB9.out⟩
end Go.Proofs.YtllhejjcmfiebaaDoor
