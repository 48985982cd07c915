/- SlideSolves: the law. -/
import Derived.Test.YtllhejjcmfiebaaDoorSX
set_option linter.unusedVariables false
set_option linter.unusedSimpArgs false
set_option linter.unnecessarySimpa false
namespace Go.Proofs.YtllhejjcmfiebaaDoor
open Go.RowKit Go.Shelf
set_option maxRecDepth 100000 in
set_option maxHeartbeats 8000000 in
theorem lawSolves (n : Int) (v v0 v1 : Value) (l : Ps) (l0 l1 : List Int) (w : World) (ht : Tab w) (hl : PaA w v l) (h0 : SlA w v0 (ints l0)) (h1 : SlA w v1 (ints l1)) :
  Calls Tryd.prog 7 #[.int .i64 n, v, .agg #[v0, v1]] w fun e w' => e = .returned (.bool true) ∧ Below w.heap.size w w' := by
 have HTAME := Lib.hid (fun W (hb : Below w.heap.size w W) => (show Calls Tryd.prog 28 #[.int .i64 n, v, .int .i64 7] W _ from tame_go n v l 7 W (hl.below hb) (by omega) (by omega)))
 have HT := Lib.hid ht
 have HO0 := Lib.hid h0
 have HO1 := Lib.hid h1
 obtain ⟨p, c, rfl, _, _⟩ := hl.form
 obtain ⟨p0, c0, rfl, hc01, hc02⟩ := h0.form
 obtain ⟨p1, c1, rfl, hc11, hc12⟩ := h1.form
 have hbx := row_new 48 w #[.slice p0 l0.length c0, .slice p1 l1.length c1]
 have hb0 := (Below.refl w.heap.size w).alloc (Nat.le_refl _) (.cells #[.slice p0 l0.length c0, .slice p1 l1.length c1] 48)
 obtain ⟨WA, hWA⟩ : ∃ WA, w.alloc (.cells #[.slice p0 l0.length c0, .slice p1 l1.length c1] 48) = WA := ⟨_, rfl⟩
 rw [hWA] at hbx hb0
 have HBX := Lib.hid hbx
 have HB0 := Lib.hid hb0
 clear ht hl h0 h1 hbx hb0
 go_enter Tryd.func7, Tryd.ntmps7
 go_wp2_with fail
 refine (HTAME.out _ HB0.out).mono ?_
 rintro e W0 ⟨N, x, vx, rfl, hN2, hN7, hx, hch, hb1⟩
 have HX1 := Lib.hid (hx.base HB0.out.size)
 have HBOX := Lib.hid (HBX.out.below hb1 HBX.out.lt)
 have HB1 := Lib.hid (HB0.out.trans (hb1.mono HB0.out.size))
 have HCH := Lib.hid hch
 have hN9 : N ≤ 9 := by omega
 clear hx hch hb1 hWA HTAME HBX HB0
 have HORD := Lib.hid (fun W u l' (hl : SlA W u (ints l')) => order_go u N l' W hl hN9)
 go_wp2_with fail
 refine wp_region_rel (by kernel_rfl) 189 rfl (by kernel_rfl) [.fix (.int .i64 (N : Nat)), .fix (.pointer (some ⟨w.heap.size, 0, none⟩)), .fix (.slice p0 l0.length c0), .mem (fun u W => Own 3 w.heap.size W u (ints (ordN l0 N))), .fix (.int .i64 (N : Nat)), .fix (.pointer (some ⟨w.heap.size, 1, none⟩)), .fix (.slice p1 l1.length c1), .mem (fun u W => Own 3 w.heap.size W u (ints (ordN l1 N))), .mem (fun u W => Own 3 w.heap.size W u (ints (ordN l0 N))), .mem (fun u W => Own 3 w.heap.size W u (ints (ordN l1 N)))] rfl (stays_of (fun i M hk v w' w'' h hb => by rcases i with _ | _ | _ | _ | _ | _ | _ | _ | _ | _ | i <;> simp at hk <;> subst hk <;> exact Own.below h hb (Nat.le_refl _)) (fun j b k T n => by rcases j with _ | _ | _ | _ | _ | _ | _ | _ | _ | _ | j <;> simp)) ?hop ?hQ
 case hop =>
  intro W hW j0 o hj vs0 wz hb hV
  have hbw : Below W0.heap.size W0 wz := by rw [hW] at hb; exact ((Below.refl W0.heap.size W0).drew).trans hb
  clear hW hb
  have hj' : j0 < 10 := (List.getElem?_eq_some_iff.1 hj).1
  rcases (by omega : j0 = 0 ∨ j0 = 1 ∨ j0 = 2 ∨ j0 = 3 ∨ j0 = 4 ∨ j0 = 5 ∨ j0 = 6 ∨ j0 = 7 ∨ j0 = 8 ∨ j0 = 9) with rfl | rfl | rfl | rfl | rfl | rfl | rfl | rfl | rfl | rfl
  ·cases hj
   clear hj'
   refine .inl ⟨rfl, ?_⟩
   (try simp [predsR, Region.binds, Vk] at hV)
   simp only [putAll]
   generalize hR : Res _ _ vs0 wz = R
   go_simp
   subst hR
   exact ⟨rfl, Below.refl _ _⟩
  ·cases hj
   clear hj'
   refine .inl ⟨rfl, ?_⟩
   (try simp [predsR, Region.binds, Vk] at hV)
   simp only [putAll]
   generalize hR : Res _ _ vs0 wz = R
   go_simp
   subst hR
   exact ⟨rfl, Below.refl _ _⟩
  ·cases hj
   clear hj'
   refine .inl ⟨rfl, ?_⟩
   generalize hG : relUpon _ _ _ = G
   have q1_ : vs0 1 = _ := hV 1 (by decide)
   clear hV
   have d0 : wz.cell? ⟨w.heap.size, 0, none⟩ = some (.slice p0 l0.length c0) := (HBOX.out.below hbw HBOX.out.lt).cell 0
   subst hG
   simp only [putAll]
   generalize hR : Res _ _ vs0 wz = R
   go_simp
   subst hR
   exact ⟨rfl, Below.refl _ _⟩
  ·cases hj
   clear hj'
   refine .inl ⟨rfl, ?_⟩
   generalize hG : relUpon _ _ _ = G
   have q0_ : vs0 0 = _ := hV 0 (by decide)
   have q2_ : vs0 2 = _ := hV 2 (by decide)
   clear hV
   subst hG
   simp only [putAll]
   generalize hR : Res _ _ vs0 wz = R
   go_simp
   subst hR
   refine (HORD.out wz _ _ (HO0.out.below (HB1.out.trans (hbw.mono HB1.out.size)))).mono ?_
   rintro e w2 ⟨v2, rfl, ho2, hb2⟩
   exact ⟨_, rfl, ho2.base (HB1.out.trans (hbw.mono HB1.out.size)).size, hb2⟩
  ·cases hj
   clear hj'
   refine .inl ⟨rfl, ?_⟩
   (try simp [predsR, Region.binds, Vk] at hV)
   simp only [putAll]
   generalize hR : Res _ _ vs0 wz = R
   go_simp
   subst hR
   exact ⟨rfl, Below.refl _ _⟩
  ·cases hj
   clear hj'
   refine .inl ⟨rfl, ?_⟩
   (try simp [predsR, Region.binds, Vk] at hV)
   simp only [putAll]
   generalize hR : Res _ _ vs0 wz = R
   go_simp
   subst hR
   exact ⟨rfl, Below.refl _ _⟩
  ·cases hj
   clear hj'
   refine .inl ⟨rfl, ?_⟩
   generalize hG : relUpon _ _ _ = G
   have q5_ : vs0 5 = _ := hV 5 (by decide)
   clear hV
   have d1 : wz.cell? ⟨w.heap.size, 1, none⟩ = some (.slice p1 l1.length c1) := (HBOX.out.below hbw HBOX.out.lt).cell 1
   subst hG
   simp only [putAll]
   generalize hR : Res _ _ vs0 wz = R
   go_simp
   subst hR
   exact ⟨rfl, Below.refl _ _⟩
  ·cases hj
   clear hj'
   refine .inl ⟨rfl, ?_⟩
   generalize hG : relUpon _ _ _ = G
   have q4_ : vs0 4 = _ := hV 4 (by decide)
   have q6_ : vs0 6 = _ := hV 6 (by decide)
   clear hV
   subst hG
   simp only [putAll]
   generalize hR : Res _ _ vs0 wz = R
   go_simp
   subst hR
   refine (HORD.out wz _ _ (HO1.out.below (HB1.out.trans (hbw.mono HB1.out.size)))).mono ?_
   rintro e w2 ⟨v2, rfl, ho2, hb2⟩
   exact ⟨_, rfl, ho2.base (HB1.out.trans (hbw.mono HB1.out.size)).size, hb2⟩
  ·cases hj
   clear hj'
   refine .inl ⟨rfl, ?_⟩
   generalize hG : relUpon _ _ _ = G
   have q3_ : Own 3 w.heap.size wz (vs0 3) (ints (ordN l0 N)) := hV 3 (by decide)
   clear hV
   subst hG
   simp only [putAll]
   generalize hR : Res _ _ vs0 wz = R
   go_simp
   subst hR
   exact ⟨q3_, Below.refl _ _⟩
  ·cases hj
   clear hj'
   refine .inl ⟨rfl, ?_⟩
   generalize hG : relUpon _ _ _ = G
   have q7_ : Own 3 w.heap.size wz (vs0 7) (ints (ordN l1 N)) := hV 7 (by decide)
   clear hV
   subst hG
   simp only [putAll]
   generalize hR : Res _ _ vs0 wz = R
   go_simp
   subst hR
   exact ⟨q7_, Below.refl _ _⟩
 case hQ =>
  intro W hW vs0 wz hb hV hD
  have hbw : Below W0.heap.size W0 wz := by rw [hW] at hb; exact ((Below.refl W0.heap.size W0).drew).trans hb
  have e0_ : vs0 0 = _ := hV 0 (by decide)
  have e1_ : vs0 1 = _ := hV 1 (by decide)
  have e2_ : vs0 2 = _ := hV 2 (by decide)
  have e4_ : vs0 4 = _ := hV 4 (by decide)
  have e5_ : vs0 5 = _ := hV 5 (by decide)
  have e6_ : vs0 6 = _ := hV 6 (by decide)
  have g8 : Own 3 w.heap.size wz (vs0 8) (ints (ordN l0 N)) := hV 8 (by decide)
  have g9 : Own 3 w.heap.size wz (vs0 9) (ints (ordN l1 N)) := hV 9 (by decide)
  generalize hKK : Exit.then _ _ = KK
  simp only [putAll, e0_, e1_, e2_, e4_, e5_, e6_]
  go_simp
  subst hKK
  clear hV hD hb hW e0_ e1_ e2_ e4_ e5_ e6_
  obtain ⟨y3, hy3⟩ : ∃ y3, vs0 3 = y3 := ⟨_, rfl⟩
  obtain ⟨y7, hy7⟩ : ∃ y7, vs0 7 = y7 := ⟨_, rfl⟩
  obtain ⟨pv, hpv⟩ : ∃ pv, vs0 8 = pv := ⟨_, rfl⟩
  obtain ⟨qv, hqv⟩ : ∃ qv, vs0 9 = qv := ⟨_, rfl⟩
  rw [hpv] at g8
  rw [hqv] at g9
  rw [hy3, hy7, hpv, hqv]
  have hbW := HB1.out.trans (hbw.mono HB1.out.size)
  have hX := OwnP.sl (l := x) (HX1.out.below hbw (Nat.le_refl _))
  have hT : Tab wz := HT.out.below hbW HT.out.lt
  have hBW := Lib.hid hbW
  have HBOX1 := Lib.hid (HBOX.out.below hbw HBOX.out.lt)
  have HO11 := Lib.hid (HO1.out.below hbW)
  clear hy3 hy7 hpv hqv HORD HO0 HO1 HX1 HT HB1 HBOX hbw hbW
  have hch := HCH.out
  clear HCH
  obtain ⟨hok, hjn⟩ := ok_of_check hch
  obtain ⟨N', hN'', _, _, hE⟩ := check_lt hch
  obtain rfl : N = N' := by omega
  have hPP := ordN_posP l0 N
  have hQQ := ordN_posP l1 N
  generalize ordN l0 N = P at *
  generalize ordN l1 N = Q0 at *
  have hP : SlA wz pv (ints P) := g8.sl.toA
  have hQ : SlA wz qv (ints Q0) := g9.sl.toA
  have hpe := posE_of hN2 hN9 hPP
  obtain ⟨pp, cp, rfl, hcp1, hcp2⟩ := hP.form
  obtain ⟨px, cx, rfl, hcx1, hcx2⟩ := hX.len
  have ht := hT.lt
  obtain ⟨w1, hw1⟩ : ∃ w1 : World, w1 = wz := ⟨_, rfl⟩
  subst hw1
  clear g8 g9 hN''
  have HPP := Lib.hid hPP
  have HFAR := Lib.hid (fun (W : World) (hb : Below w1.heap.size w1 W) => far_go N _ _ x P W (hX.below hb) hN2 hN9 hok (hP.below hb) hPP)
  have HCNT := Lib.hid (fun (W : World) (hb : Below w1.heap.size w1 W) => scount_go _ _ N x P W (hX.below hb) (hT.below hb ht) (hP.below hb) hch hpe hPP)
  have HFST := Lib.hid (fun (W : World) (hb : Below w1.heap.size w1 W) => sfarthest_go _ _ N x P W (hX.below hb) (hT.below hb ht) (hP.below hb) hch hpe hPP)
  have HSLV := Lib.hid (fun (u : Value) (Q : List Int) (W : World) (hb : Below w1.heap.size w1 W) (hq : SlA W u (ints Q)) (hQ : PosP N Q) => ssolve_go _ _ u N x P Q W (hX.below hb) (hT.below hb ht) (hP.below hb) hq hch hN2 hN9 hPP hQ)
  have HRCH := Lib.hid (fun (u : Value) (Q : List Int) (W : World) (hb : Below w1.heap.size w1 W) (hq : SlA W u (ints Q)) (hQ : PosP N Q) => sreaches_go _ _ u N x P Q W (hX.below hb) (hT.below hb ht) (hP.below hb) hq hch hN2 hN9 hPP hQ)
  have HRA := Lib.hid (fun (u : Value) (M : List Int) (W : World) (hb : Below w1.heap.size w1 W) (hm : SlA W u (ints M)) (h6 : M.length ≤ 1000000) => rapply_big _ _ u N N x P M W (hX.below hb) (hP.below hb) hm (hPP.w (by omega)) hN9 hok hE h6)
  have HIS := Lib.hid (fun (va vb : Value) (l' : List Int) (W : World) (ha : SlA W va (ints l')) (hb : SlA W vb (ints l')) => ints_same va vb l' W ha hb)
  have HHO := Lib.hid (fun (u : Value) (Q : List Int) (W : World) (hq : SlA W u (ints Q)) (hQ : PosP N Q) => rhole_go u N Q W hq (hQ.w (by omega)) hN9)
  have HNR := Lib.hid (fun (W : World) (hb : Below w1.heap.size w1 W) a t => rnear_go _ N a t x W (hX.below hb) hN9 hok)
  have HMV := Lib.hid (fun (u : Value) (Q : List Int) (tn : Nat) (W : World) (hq : SlA W u (ints Q)) (hQ : PosP N Q) (ht : tn < N) => rmoved_int u N tn (tn : Int) Q W hq (hQ.w (by omega)) hN9 ht rfl)
  have HAW := Lib.hid (fun W (hb : Below w1.heap.size w1 W) => awake_spec W (hT.below hb ht))
  have HDF := Lib.hid (fun (d : Nat) (Q : List Int) (h : DistIs (toE x) N P d Q) => dist_few hPP hN9 h)
  have HP := Lib.hid hP
  have HQ := Lib.hid hQ
  have HQQ := Lib.hid hQQ
  clear hP hQ hX hT hch hok hjn hE hpe hPP hQQ
  go_wp2_with fail
  refine (HFAR.out w1 (Below.refl _ _)).mono ?_
  rintro e w2 ⟨fv, F, cn, M, La, rfl, hfv, hfo, hb2⟩
  have HFO := Lib.hid hfo
  obtain ⟨k, hne, hnil, hc, hM, hLa, hF⟩ := hfo.ex
  have HLAST : Hid (LastAt (toE x) N P k) := ⟨hne, hnil⟩
  have HFL := Lib.hid hF.1
  have HCN := Lib.hid hc
  have HMK := Lib.hid hM
  have HLA := Lib.hid hLa
  obtain ⟨sv, rfl, hsv⟩ := hfv
  obtain ⟨ps, cs, rfl, hcs1, hcs2⟩ := hsv.form
  have r10 := row_new 70 w2 #[.slice ps F.length cs, .int .i64 (cn : Nat), .int .i64 (M : Nat), .int .i64 (La : Nat)]
  have b10 := below_alloc_refl w2 (.cells #[.slice ps F.length cs, .int .i64 (cn : Nat), .int .i64 (M : Nat), .int .i64 (La : Nat)] 70)
  obtain ⟨W3, hW3⟩ : ∃ W3, w2.alloc (.cells #[.slice ps F.length cs, .int .i64 (cn : Nat), .int .i64 (M : Nat), .int .i64 (La : Nat)] 70) = W3 := ⟨_, rfl⟩
  rw [hW3] at r10 b10
  obtain ⟨g10, hg10⟩ : ∃ g10, w2.heap.size = g10 := ⟨_, rfl⟩
  rw [hg10] at r10
  have HB3 := Lib.hid (hb2.trans (b10.mono hb2.size))
  have HR10 := Lib.hid r10
  have HSV := Lib.hid (show FarV W3 (.agg #[.slice ps F.length cs, .int .i64 (cn : Nat), .int .i64 (M : Nat), .int .i64 (La : Nat)]) F (cn : Nat) (M : Nat) (La : Nat) from ⟨_, rfl, hsv.below b10⟩)
  clear hfo hne hnil hc hM hLa hF hsv r10 b10 hb2 HFAR
  go_wp2_with fail
  refine (HCNT.out W3 HB3.out).mono ?_
  rintro e w4 ⟨k4, hk4, rfl, hb4⟩
  obtain rfl : k4 = k := LastAt.uniq hk4 HLAST.out
  rw [← HCN.out]
  have HB4 := Lib.hid (HB3.out.trans (hb4.mono HB3.out.size))
  have HR4 := Lib.hid (HR10.out.below hb4 HR10.out.lt)
  have HSV4 := Lib.hid (HSV.out.below hb4)
  clear hk4 hb4 HCNT HB3 HR10 HSV
  go_wp2_with fail
  refine (HFST.out w4 HB4.out).mono ?_
  rintro e w5 ⟨k5, hk5, rfl, hb5⟩
  obtain rfl : k5 = k4 := LastAt.uniq hk5 HLAST.out
  rw [← HLA.out, ← HMK.out]
  have HB5 := Lib.hid (HB4.out.trans (hb5.mono HB4.out.size))
  have r5 := HR4.out.below hb5 HR4.out.lt
  have HR5 := Lib.hid r5
  have HSV5 := Lib.hid (HSV4.out.below hb5)
  have f1 := r5.cell 1
  have f2 := r5.cell 2
  have f3 := r5.cell 3
  simp only [List.getElem?_cons_zero, List.getElem?_cons_succ] at f1 f2 f3
  have gc1 : ((cn : Int) != (cn : Int)) = false := by simp
  have gc2 : ((M : Int) != (M : Int)) = false := by simp
  have gc3 : ((La : Int) != (La : Int)) = false := by simp
  clear hk5 hb5 HFST HB4 HR4 HSV4 r5
  go_wp2
  clear f1 f2 f3 gc1 gc2 gc3
  go_loopw [9, 16] (fun qv rv wr => ∃ (r : Nat) (Q : List Int), r ≤ 2 ∧ rv = .int .i64 (r : Nat) ∧ SlA wr qv (ints Q) ∧ PosP N Q ∧ Below w5.heap.size w5 wr) (fun _ rv _ => 2 - (intOf rv).toNat)
  case atStart => exact ⟨0, Q0, by omega, rfl, HQ.out.below HB5.out, HQQ.out, Below.refl _ _⟩
  case round =>
   obtain ⟨r, Q, hr2, rfl, hq, hQ, hbel⟩ := hrel
   have HB5R := Lib.hid hbel
   have HB1R := Lib.hid (HB5.out.trans (hbel.mono HB5.out.size))
   have HQ1 := Lib.hid hq
   have HQP1 := Lib.hid hQ
   by_cases hr : r < 2
   ·have gr : (r : Int) < 2 := by omega
    have gwr : IntKind.i64.wrap ((r : Int) + 1) = (r : Int) + 1 := by rw [show (r : Int) + 1 = ((r + 1 : Nat) : Int) by omega]; exact IntWalk.i64_in _ (by omega)
    have HSL := Lib.hid (HSLV.out _ Q wr HB1R.out hq hQ)
    obtain ⟨pq1, cq1, rfl, _, _⟩ := hq.form
    clear hq hQ hbel
    go_wp2_with fail
    refine (HSL.out).mono ?_
    rintro e wA ⟨v', m, bo, rfl, ho, hs, hbA⟩
    have HBA1 := Lib.hid (HB1R.out.trans (hbA.mono HB1R.out.size))
    have HBA5 := Lib.hid (HB5R.out.trans (hbA.mono HB5R.out.size))
    have HQA1 := Lib.hid (HQ1.out.below hbA)
    have HMA := Lib.hid ho.sl.toA
    have HS := Lib.hid hs
    obtain ⟨pm, cm, rfl, hcm1, hcm2⟩ := HMA.out.form
    rcases solve_steps HQP1.out HFO.out hs with ⟨rfl, hst, hap⟩ | ⟨rfl, hst, hm0⟩
    ·have hm6 : m.length ≤ 362880 := by
      rcases hs with ⟨_, hd, _⟩ | ⟨h, _⟩
      ·exact HDF.out _ _ hd
      ·cases h
     have HST := Lib.hid hst
     have HAPP := Lib.hid hap
     clear ho hs hbA hst hap
     go_wp2_with fail
     refine (HRCH.out _ Q wA HBA1.out HQA1.out HQP1.out).mono ?_
     rintro e wB ⟨m2, bo2, rfl, hs2, hbB⟩
     obtain rfl := hs2.bool HS.out
     have HBB1 := Lib.hid (HBA1.out.trans (hbB.mono HBA1.out.size))
     have HBB5 := Lib.hid (HBA5.out.trans (hbB.mono HBA5.out.size))
     have HQB1 := Lib.hid (HQA1.out.below hbB)
     have rB := HR5.out.below HBB5.out HR5.out.lt
     have f0 := rB.cell 0
     have f1 := rB.cell 1
     have f2 := rB.cell 2
     have f3 := rB.cell 3
     simp only [List.getElem?_cons_zero, List.getElem?_cons_succ] at f0 f1 f2 f3
     have hsg := steps_go _ _ N F Q (cn : Nat) (M : Nat) (La : Nat) wB (HSV5.out.below HBB5.out) HFL.out HQB1.out HQP1.out.len hN9
     rw [HST.out] at hsg
     have HSG := Lib.hid hsg
     clear hs2 rB hsg
     go_wp2_with fail
     refine (HSG.out).mono ?_
     rintro e wC ⟨rfl, hbC⟩
     have HBC1 := Lib.hid (HBB1.out.trans (hbC.mono HBB1.out.size))
     have HBC5 := Lib.hid (HBB5.out.trans (hbC.mono HBB5.out.size))
     have HQC1 := Lib.hid (HQB1.out.below hbC)
     clear f0 f1 f2 f3 HSG
     have hms : (0 : Int) ≤ (m.length : Int) := by omega
     have gml : ((m.length : Int) != (m.length : Int)) = false := by simp
     have HMC := Lib.hid ((HMA.out.below hbB).below hbC)
     have hra := HRA.out _ m wC HBC1.out HMC.out (by omega)
     rw [HAPP.out] at hra
     dsimp only at hra
     have HRAX := Lib.hid hra
     clear hra hbB hbC
     go_wp2_with fail
     refine (HRAX.out).mono ?_
     rintro e wD ⟨vr, rfl, hor, hbD⟩
     have HBD1 := Lib.hid (HBC1.out.trans (hbD.mono HBC1.out.size))
     have HBD5 := Lib.hid (HBC5.out.trans (hbD.mono HBC5.out.size))
     have HQD1 := Lib.hid (HQC1.out.below hbD)
     have HOR := Lib.hid hor
     obtain ⟨pr, cr, rfl, hcr1, hcr2⟩ := hor.form
     clear hor hbD
     go_wp2_with fail
     refine (HIS.out _ _ Q wD HOR.out HQD1.out).mono ?_
     rintro e wE ⟨rfl, hbE⟩
     have HBO := Lib.hid (HBD1.out.trans (hbE.mono HBD1.out.size))
     have HBO5 := Lib.hid (HBD5.out.trans (hbE.mono HBD5.out.size))
     have HPO := Lib.hid (HP.out.below HBO.out)
     clear hbE HSL HBA1 HBA5 HQA1 HMA HBB1 HBB5 HQB1 HBC1 HBC5 HQC1 HBD1 HBD5 HQD1 HOR HRAX HMC HST HAPP gml hms
     obtain ⟨wo, hwo⟩ : ∃ wo : World, wo = wE := ⟨_, rfl⟩
     subst hwo
     go_wp2
     go_loopw [9, 25] (fun qv i wr => ∃ (j : Nat) (Q : List Int), j ≤ l1.length ∧ j ≤ 30 ∧ i = .int .i64 (j : Nat) ∧ SlA wr qv (ints Q) ∧ PosP N Q ∧ Below wo.heap.size wo wr) (fun _ i _ => 30 - (intOf i).toNat)
     case atStart => exact ⟨0, P, Nat.zero_le _, Nat.zero_le _, rfl, HPO.out, HPP.out, Below.refl _ _⟩
     case round =>
      obtain ⟨j, Q, hjl, hj30, rfl, hq, hQ, hbel⟩ := hrel
      have HBJ := Lib.hid (HBO.out.trans (hbel.mono HBO.out.size))
      have HBJ5 := Lib.hid (HBO5.out.trans (hbel.mono HBO5.out.size))
      have kb := (HBOX1.out.below HBJ.out HBOX1.out.lt).cell 1
      simp only [List.getElem?_cons_zero, List.getElem?_cons_succ] at kb
      have HQJ := Lib.hid hq
      have HQP := Lib.hid hQ
      have HBEL := Lib.hid hbel
      by_cases hlt : j < l1.length
      ·by_cases hlt3 : j < 30
       ·obtain ⟨adm, capm, hvm, hlc, hlm, hgm, hcm⟩ := (HO11.out.below HBJ.out).int_at j hlt
        injection hvm with e1 _ e3
        subst e1
        subst e3
        obtain ⟨z, hz1, hz2⟩ := tmodN (l1.getD j 0) N (by omega)
        obtain ⟨lj, hlj⟩ : ∃ lj, l1.getD j 0 = lj := ⟨_, rfl⟩
        rw [hlj] at hz2 hcm
        have gj : (j : Int) < (l1.length : Int) := by omega
        have gj3 : (j : Int) < 30 := by omega
        have gN : IntKind.u64.wrap (N : Int) = (N : Int) := IntWalk.u64_in _ (by omega)
        have gz : IntKind.i64.wrap (z : Int) = (z : Int) := IntWalk.i64_in _ (by omega)
        have gN0 : ¬ ((N : Int) = 0) := by omega
        have gw : IntKind.i64.wrap ((j : Int) + 1) = (j : Int) + 1 := by rw [show (j : Int) + 1 = ((j + 1 : Nat) : Int) by omega]; exact IntWalk.i64_in _ (by omega)
        have hho := HHO.out _ Q wr hq hQ
        obtain ⟨hh, hhe⟩ : ∃ hh, holeL Q = hh := ⟨_, rfl⟩
        rw [hhe] at hho
        have HH := Lib.hid hho
        have HZ1 := Lib.hid hz1
        obtain ⟨pq, cq, rfl, hcq1, hcq2⟩ := hq.form
        clear hq hQ hbel hlj hho hhe hlc hlm hz1
        go_wp2_with fail
        refine (HH.out).mono ?_
        rintro e wa ⟨rfl, hba⟩
        have HBA := Lib.hid (HBJ.out.trans (hba.mono HBJ.out.size))
        have HBA2 := Lib.hid (HBEL.out.trans (hba.mono HBEL.out.size))
        have HQA := Lib.hid (HQJ.out.below hba)
        clear hba kb hcm
        cases hB : nearB (toE x) hh (z : Int) with
        | true =>
         have hnr := HNR.out wa HBA.out hh (z : Int)
         rw [hB] at hnr
         have HNRZ := Lib.hid hnr
         clear hnr hB
         go_wp2_with fail
         refine (HNRZ.out).mono ?_
         rintro e wb ⟨rfl, hbb⟩
         have HBB := Lib.hid (HBA.out.trans (hbb.mono HBA.out.size))
         have HBB2 := Lib.hid (HBA2.out.trans (hbb.mono HBA2.out.size))
         have HQB := Lib.hid (HQA.out.below hbb)
         clear hbb
         go_wp2_with fail
         refine (HMV.out _ Q z wb HQB.out HQP.out HZ1.out).mono ?_
         rintro e wc ⟨v3, rfl, ho3, hb3⟩
         have HO3 := Lib.hid ho3.sl.toA
         have HBC2 := Lib.hid (HBB2.out.trans (hb3.mono HBB2.out.size))
         clear ho3 hb3
         go_wp2
         go_roundw
         case rel => exact ⟨j + 1, movedL Q z, by omega, by omega, by go_num, HO3.out, HQP.out.moved HZ1.out, HBC2.out⟩
         case measure => simp [intOf]; omega
        | false =>
         have hnr := HNR.out wa HBA.out hh (z : Int)
         rw [hB] at hnr
         have HNRZ := Lib.hid hnr
         clear hnr hB
         go_wp2_with fail
         refine (HNRZ.out).mono ?_
         rintro e wb ⟨rfl, hbb⟩
         have HBB2 := Lib.hid (HBA2.out.trans (hbb.mono HBA2.out.size))
         have HQB := Lib.hid (HQA.out.below hbb)
         clear hbb
         go_wp2
         go_roundw
         case rel => exact ⟨j + 1, Q, by omega, by omega, by go_num, HQB.out, HQP.out, HBB2.out⟩
         case measure => simp [intOf]; omega
       ·have gj : (j : Int) < (l1.length : Int) := by omega
        have gj3 : ¬ ((j : Int) < 30) := by omega
        clear hq hQ hbel
        go_wp2
        go_roundw
        case rel => exact ⟨r + 1, Q, by omega, by go_num, HQJ.out, HQP.out, HBJ5.out⟩
        case measure => simp [intOf]; omega
      ·have gj : ¬ ((j : Int) < (l1.length : Int)) := by omega
       clear hq hQ hbel
       go_wp2
       go_roundw
       case rel => exact ⟨r + 1, Q, by omega, by go_num, HQJ.out, HQP.out, HBJ5.out⟩
       case measure => simp [intOf]; omega
    ·subst hm0
     have HST := Lib.hid hst
     clear ho hs hbA hst
     go_wp2_with fail
     refine (HRCH.out _ Q wA HBA1.out HQA1.out HQP1.out).mono ?_
     rintro e wB ⟨m2, bo2, rfl, hs2, hbB⟩
     obtain rfl := hs2.bool HS.out
     have HBB1 := Lib.hid (HBA1.out.trans (hbB.mono HBA1.out.size))
     have HBB5 := Lib.hid (HBA5.out.trans (hbB.mono HBA5.out.size))
     have HQB1 := Lib.hid (HQA1.out.below hbB)
     have rB := HR5.out.below HBB5.out HR5.out.lt
     have f0 := rB.cell 0
     have f1 := rB.cell 1
     have f2 := rB.cell 2
     have f3 := rB.cell 3
     simp only [List.getElem?_cons_zero, List.getElem?_cons_succ] at f0 f1 f2 f3
     have hsg := steps_go _ _ N F Q (cn : Nat) (M : Nat) (La : Nat) wB (HSV5.out.below HBB5.out) HFL.out HQB1.out HQP1.out.len hN9
     rw [HST.out] at hsg
     have HSG := Lib.hid hsg
     clear hs2 rB hsg
     go_wp2_with fail
     refine (HSG.out).mono ?_
     rintro e wC ⟨rfl, hbC⟩
     have HBC1 := Lib.hid (HBB1.out.trans (hbC.mono HBB1.out.size))
     have HBC5 := Lib.hid (HBB5.out.trans (hbC.mono HBB5.out.size))
     have HQC1 := Lib.hid (HQB1.out.below hbC)
     clear f0 f1 f2 f3 HSG
     have HBO := HBC1
     have HBO5 := HBC5
     have HPO := Lib.hid (HP.out.below HBO.out)
     clear hbB hbC HSL HBA1 HBA5 HQA1 HMA HBB1 HBB5 HQB1 HBC1 HBC5 HQC1 HST
     obtain ⟨wo, hwo⟩ : ∃ wo : World, wo = wC := ⟨_, rfl⟩
     subst hwo
     go_wp2
     go_loopw [9, 25] (fun qv i wr => ∃ (j : Nat) (Q : List Int), j ≤ l1.length ∧ j ≤ 30 ∧ i = .int .i64 (j : Nat) ∧ SlA wr qv (ints Q) ∧ PosP N Q ∧ Below wo.heap.size wo wr) (fun _ i _ => 30 - (intOf i).toNat)
     case atStart => exact ⟨0, P, Nat.zero_le _, Nat.zero_le _, rfl, HPO.out, HPP.out, Below.refl _ _⟩
     case round =>
      obtain ⟨j, Q, hjl, hj30, rfl, hq, hQ, hbel⟩ := hrel
      have HBJ := Lib.hid (HBO.out.trans (hbel.mono HBO.out.size))
      have HBJ5 := Lib.hid (HBO5.out.trans (hbel.mono HBO5.out.size))
      have kb := (HBOX1.out.below HBJ.out HBOX1.out.lt).cell 1
      simp only [List.getElem?_cons_zero, List.getElem?_cons_succ] at kb
      have HQJ := Lib.hid hq
      have HQP := Lib.hid hQ
      have HBEL := Lib.hid hbel
      by_cases hlt : j < l1.length
      ·by_cases hlt3 : j < 30
       ·obtain ⟨adm, capm, hvm, hlc, hlm, hgm, hcm⟩ := (HO11.out.below HBJ.out).int_at j hlt
        injection hvm with e1 _ e3
        subst e1
        subst e3
        obtain ⟨z, hz1, hz2⟩ := tmodN (l1.getD j 0) N (by omega)
        obtain ⟨lj, hlj⟩ : ∃ lj, l1.getD j 0 = lj := ⟨_, rfl⟩
        rw [hlj] at hz2 hcm
        have gj : (j : Int) < (l1.length : Int) := by omega
        have gj3 : (j : Int) < 30 := by omega
        have gN : IntKind.u64.wrap (N : Int) = (N : Int) := IntWalk.u64_in _ (by omega)
        have gz : IntKind.i64.wrap (z : Int) = (z : Int) := IntWalk.i64_in _ (by omega)
        have gN0 : ¬ ((N : Int) = 0) := by omega
        have gw : IntKind.i64.wrap ((j : Int) + 1) = (j : Int) + 1 := by rw [show (j : Int) + 1 = ((j + 1 : Nat) : Int) by omega]; exact IntWalk.i64_in _ (by omega)
        have hho := HHO.out _ Q wr hq hQ
        obtain ⟨hh, hhe⟩ : ∃ hh, holeL Q = hh := ⟨_, rfl⟩
        rw [hhe] at hho
        have HH := Lib.hid hho
        have HZ1 := Lib.hid hz1
        obtain ⟨pq, cq, rfl, hcq1, hcq2⟩ := hq.form
        clear hq hQ hbel hlj hho hhe hlc hlm hz1
        go_wp2_with fail
        refine (HH.out).mono ?_
        rintro e wa ⟨rfl, hba⟩
        have HBA := Lib.hid (HBJ.out.trans (hba.mono HBJ.out.size))
        have HBA2 := Lib.hid (HBEL.out.trans (hba.mono HBEL.out.size))
        have HQA := Lib.hid (HQJ.out.below hba)
        clear hba kb hcm
        cases hB : nearB (toE x) hh (z : Int) with
        | true =>
         have hnr := HNR.out wa HBA.out hh (z : Int)
         rw [hB] at hnr
         have HNRZ := Lib.hid hnr
         clear hnr hB
         go_wp2_with fail
         refine (HNRZ.out).mono ?_
         rintro e wb ⟨rfl, hbb⟩
         have HBB := Lib.hid (HBA.out.trans (hbb.mono HBA.out.size))
         have HBB2 := Lib.hid (HBA2.out.trans (hbb.mono HBA2.out.size))
         have HQB := Lib.hid (HQA.out.below hbb)
         clear hbb
         go_wp2_with fail
         refine (HMV.out _ Q z wb HQB.out HQP.out HZ1.out).mono ?_
         rintro e wc ⟨v3, rfl, ho3, hb3⟩
         have HO3 := Lib.hid ho3.sl.toA
         have HBC2 := Lib.hid (HBB2.out.trans (hb3.mono HBB2.out.size))
         clear ho3 hb3
         go_wp2
         go_roundw
         case rel => exact ⟨j + 1, movedL Q z, by omega, by omega, by go_num, HO3.out, HQP.out.moved HZ1.out, HBC2.out⟩
         case measure => simp [intOf]; omega
        | false =>
         have hnr := HNR.out wa HBA.out hh (z : Int)
         rw [hB] at hnr
         have HNRZ := Lib.hid hnr
         clear hnr hB
         go_wp2_with fail
         refine (HNRZ.out).mono ?_
         rintro e wb ⟨rfl, hbb⟩
         have HBB2 := Lib.hid (HBA2.out.trans (hbb.mono HBA2.out.size))
         have HQB := Lib.hid (HQA.out.below hbb)
         clear hbb
         go_wp2
         go_roundw
         case rel => exact ⟨j + 1, Q, by omega, by omega, by go_num, HQB.out, HQP.out, HBB2.out⟩
         case measure => simp [intOf]; omega
       ·have gj : (j : Int) < (l1.length : Int) := by omega
        have gj3 : ¬ ((j : Int) < 30) := by omega
        clear hq hQ hbel
        go_wp2
        go_roundw
        case rel => exact ⟨r + 1, Q, by omega, by go_num, HQJ.out, HQP.out, HBJ5.out⟩
        case measure => simp [intOf]; omega
      ·have gj : ¬ ((j : Int) < (l1.length : Int)) := by omega
       clear hq hQ hbel
       go_wp2
       go_roundw
       case rel => exact ⟨r + 1, Q, by omega, by go_num, HQJ.out, HQP.out, HBJ5.out⟩
       case measure => simp [intOf]; omega
   ·have gr : ¬ ((r : Int) < 2) := by omega
    clear hq hQ hbel
    go_wp2_with fail
    refine (HAW.out wr HB1R.out).mono ?_
    rintro e wE ⟨rfl, hbE⟩
    have HBE := Lib.hid (hBW.out.trans ((HB1R.out.trans (hbE.mono HB1R.out.size)).mono hBW.out.size))
    clear hbE
    go_wp2
    go_ret
    exact ⟨rfl, HBE.out⟩
end Go.Proofs.YtllhejjcmfiebaaDoor
