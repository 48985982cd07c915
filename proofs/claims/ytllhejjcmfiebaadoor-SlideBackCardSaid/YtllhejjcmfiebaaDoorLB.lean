/- SlideBack: the law. -/
import Derived.Test.YtllhejjcmfiebaaDoorSX
set_option linter.unusedVariables false
set_option linter.unusedSimpArgs false
set_option linter.unnecessarySimpa false
namespace Go.Proofs.YtllhejjcmfiebaaDoor
open Go.RowKit Go.Shelf
theorem lv_ends {E : Es} {N : Nat} {x : List Int} (hx : PosP N x) : ∃ k, (lv E N x (k + 1)).2 = [] := by
 refine Classical.byContradiction fun h => ?_
 have hne : ∀ j, (lv E N x j).2 ≠ [] := fun j hj => h ⟨j, by have := lv_nil hj 1; exact this⟩
 have h1 := lvl_len (nbrL E N) x (fact N) (fun j _ => hne j)
 have h2 := lv_few (E := E) hx (fact N)
 have h3 : fact N + 1 ≤ (lv E N x (fact N)).1.length := h1
 omega
theorem count_size {E : Es} {N k k0 : Nat} {p : List Int} (hE : Lt E N) (hn2 : 2 ≤ N) (hn9 : N ≤ 9) (hj : joinedP N E (-1) = true) (hp : PosP N p) (h : LastAt E N p k) (h0 : LastAt E N (firstN N) k0) :
  (lv E N p k).1.length = N * zeros (lv E N (firstN N) k0).1 := by
 have a := allOf_end h.2
 have b := allOf_end h0.2
 rw [count_same hE hn2 hn9 hj hp (firstN_pos N) a b fun x hx => (lv_ends hx).elim fun k hk => ⟨_, allOf_end hk⟩]
 exact count_times hE hn2 hn9 hj (firstN_pos N) b
theorem solve_back {E : Es} {N : Nat} {p q a b : List Int} {ok back : Bool} (hp : PosP N p) (hq : PosP N q) (h0 : 0 < N) (h : SolL E N p q a ok) (h' : SolL E N q p b back) : back = ok ∧ b.length = a.length := by
 rcases h with ⟨rfl, h1, _⟩ | ⟨rfl, rfl, h1⟩ <;> rcases h' with ⟨rfl, h2, _⟩ | ⟨rfl, rfl, h2⟩
 ·exact ⟨rfl, h2.uniq (h1.symm hp h0)⟩
 ·exact absurd (way_rev hp h0 h1.1).2 (h2 _)
 ·exact absurd (way_rev hq h0 h2.1).2 (h1 _)
 ·exact ⟨rfl, rfl⟩
theorem solve_far {E : Es} {N k : Nat} {p q a : List Int} {ok : Bool} (h : SolL E N p q a ok) (hk : LastAt E N p k) : a.length ≤ k := by
 rcases h with ⟨_, h1, _⟩ | ⟨_, rfl, _⟩
 ·obtain ⟨i, hi, hw⟩ := lvl_end hk.2 h1.1
  refine Nat.le_of_not_lt fun hlt => h1.2 i (by omega) hw
 ·exact Nat.zero_le _
theorem solve_way {E : Es} {N d : Nat} {p q a : List Int} {ok : Bool} (h : SolL E N p q a ok) (hw : Way (nbrL E N) p d q) : ok = true := by
 rcases h with ⟨rfl, _⟩ | ⟨_, _, h1⟩
 ·rfl
 ·exact absurd hw (h1 d)
set_option maxRecDepth 100000 in
set_option maxHeartbeats 8000000 in
theorem lawBack (n : Int) (v v0 v1 : Value) (l : Ps) (l0 l1 : List Int) (w : World) (ht : Tab w) (hl : PaA w v l) (h0 : SlA w v0 (ints l0)) (h1 : SlA w v1 (ints l1)) :
  Calls Tryd.prog 11 #[.int .i64 n, v, .agg #[v0, v1]] w fun e w' => e = .returned (.bool true) ∧ Below w.heap.size w w' := by
 have HTAME := Lib.hid (fun W (hb : Below w.heap.size w W) => (show Calls Tryd.prog 28 #[.int .i64 n, v, .int .i64 7] W _ from tame_go n v l 7 W (hl.below hb) (by omega) (by omega)))
 have HT := Lib.hid ht
 have HO0 := Lib.hid h0
 have HO1 := Lib.hid h1
 obtain ⟨p, c, rfl, _, _⟩ := hl.form
 obtain ⟨p0, c0, rfl, hc01, hc02⟩ := h0.form
 obtain ⟨p1, c1, rfl, hc11, hc12⟩ := h1.form
 have hbx := row_new 48 w #[.slice p0 l0.length c0, .slice p1 l1.length c1]
 have hb0 := (Below.refl w.heap.size w).alloc (Nat.le_refl _) (.cells #[.slice p0 l0.length c0, .slice p1 l1.length c1] 48)
 obtain ⟨WA, hWA⟩ : ∃ WA, w.alloc (.cells #[.slice p0 l0.length c0, .slice p1 l1.length c1] 48) = WA := ⟨_, rfl⟩
 rw [hWA] at hbx hb0
 have HBX := Lib.hid hbx
 have HB0 := Lib.hid hb0
 clear ht hl h0 h1 hbx hb0
 go_enter Tryd.func11, Tryd.ntmps11
 go_wp2_with fail
 refine (HTAME.out _ HB0.out).mono ?_
 rintro e W0 ⟨N, x, vx, rfl, hN2, hN7, hx, hch, hb1⟩
 have HX1 := Lib.hid (hx.base HB0.out.size)
 have HBOX := Lib.hid (HBX.out.below hb1 HBX.out.lt)
 have HB1 := Lib.hid (HB0.out.trans (hb1.mono HB0.out.size))
 have HCH := Lib.hid hch
 have hN9 : N ≤ 9 := by omega
 clear hx hch hb1 hWA HTAME HBX HB0
 have HORD := Lib.hid (fun W u l' (hl : SlA W u (ints l')) => order_go u N l' W hl hN9)
 go_wp2_with fail
 refine wp_region_rel (by kernel_rfl) 193 rfl (by kernel_rfl) [.fix (.int .i64 (N : Nat)), .fix (.pointer (some ⟨w.heap.size, 0, none⟩)), .fix (.slice p0 l0.length c0), .mem (fun u W => Own 3 w.heap.size W u (ints (ordN l0 N))), .fix (.int .i64 (N : Nat)), .fix (.pointer (some ⟨w.heap.size, 1, none⟩)), .fix (.slice p1 l1.length c1), .mem (fun u W => Own 3 w.heap.size W u (ints (ordN l1 N))), .mem (fun u W => Own 3 w.heap.size W u (ints (ordN l0 N))), .mem (fun u W => Own 3 w.heap.size W u (ints (ordN l1 N)))] rfl (stays_of (fun i M hk v w' w'' h hb => by rcases i with _ | _ | _ | _ | _ | _ | _ | _ | _ | _ | i <;> simp at hk <;> subst hk <;> exact Own.below h hb (Nat.le_refl _)) (fun j b k T n => by rcases j with _ | _ | _ | _ | _ | _ | _ | _ | _ | _ | j <;> simp)) ?hop ?hQ
 case hop =>
  intro W hW j0 o hj vs0 wz hb hV
  have hbw : Below W0.heap.size W0 wz := by rw [hW] at hb; exact ((Below.refl W0.heap.size W0).drew).trans hb
  clear hW hb
  have hj' : j0 < 10 := (List.getElem?_eq_some_iff.1 hj).1
  rcases (by omega : j0 = 0 ∨ j0 = 1 ∨ j0 = 2 ∨ j0 = 3 ∨ j0 = 4 ∨ j0 = 5 ∨ j0 = 6 ∨ j0 = 7 ∨ j0 = 8 ∨ j0 = 9) with rfl | rfl | rfl | rfl | rfl | rfl | rfl | rfl | rfl | rfl
  ·cases hj
   clear hj'
   refine .inl ⟨rfl, ?_⟩
   (try simp [predsR, Region.binds, Vk] at hV)
   simp only [putAll]
   generalize hR : Res _ _ vs0 wz = R
   go_simp
   subst hR
   exact ⟨rfl, Below.refl _ _⟩
  ·cases hj
   clear hj'
   refine .inl ⟨rfl, ?_⟩
   (try simp [predsR, Region.binds, Vk] at hV)
   simp only [putAll]
   generalize hR : Res _ _ vs0 wz = R
   go_simp
   subst hR
   exact ⟨rfl, Below.refl _ _⟩
  ·cases hj
   clear hj'
   refine .inl ⟨rfl, ?_⟩
   generalize hG : relUpon _ _ _ = G
   have q1_ : vs0 1 = _ := hV 1 (by decide)
   clear hV
   have d0 : wz.cell? ⟨w.heap.size, 0, none⟩ = some (.slice p0 l0.length c0) := (HBOX.out.below hbw HBOX.out.lt).cell 0
   subst hG
   simp only [putAll]
   generalize hR : Res _ _ vs0 wz = R
   go_simp
   subst hR
   exact ⟨rfl, Below.refl _ _⟩
  ·cases hj
   clear hj'
   refine .inl ⟨rfl, ?_⟩
   generalize hG : relUpon _ _ _ = G
   have q0_ : vs0 0 = _ := hV 0 (by decide)
   have q2_ : vs0 2 = _ := hV 2 (by decide)
   clear hV
   subst hG
   simp only [putAll]
   generalize hR : Res _ _ vs0 wz = R
   go_simp
   subst hR
   refine (HORD.out wz _ _ (HO0.out.below (HB1.out.trans (hbw.mono HB1.out.size)))).mono ?_
   rintro e w2 ⟨v2, rfl, ho2, hb2⟩
   exact ⟨_, rfl, ho2.base (HB1.out.trans (hbw.mono HB1.out.size)).size, hb2⟩
  ·cases hj
   clear hj'
   refine .inl ⟨rfl, ?_⟩
   (try simp [predsR, Region.binds, Vk] at hV)
   simp only [putAll]
   generalize hR : Res _ _ vs0 wz = R
   go_simp
   subst hR
   exact ⟨rfl, Below.refl _ _⟩
  ·cases hj
   clear hj'
   refine .inl ⟨rfl, ?_⟩
   (try simp [predsR, Region.binds, Vk] at hV)
   simp only [putAll]
   generalize hR : Res _ _ vs0 wz = R
   go_simp
   subst hR
   exact ⟨rfl, Below.refl _ _⟩
  ·cases hj
   clear hj'
   refine .inl ⟨rfl, ?_⟩
   generalize hG : relUpon _ _ _ = G
   have q5_ : vs0 5 = _ := hV 5 (by decide)
   clear hV
   have d1 : wz.cell? ⟨w.heap.size, 1, none⟩ = some (.slice p1 l1.length c1) := (HBOX.out.below hbw HBOX.out.lt).cell 1
   subst hG
   simp only [putAll]
   generalize hR : Res _ _ vs0 wz = R
   go_simp
   subst hR
   exact ⟨rfl, Below.refl _ _⟩
  ·cases hj
   clear hj'
   refine .inl ⟨rfl, ?_⟩
   generalize hG : relUpon _ _ _ = G
   have q4_ : vs0 4 = _ := hV 4 (by decide)
   have q6_ : vs0 6 = _ := hV 6 (by decide)
   clear hV
   subst hG
   simp only [putAll]
   generalize hR : Res _ _ vs0 wz = R
   go_simp
   subst hR
   refine (HORD.out wz _ _ (HO1.out.below (HB1.out.trans (hbw.mono HB1.out.size)))).mono ?_
   rintro e w2 ⟨v2, rfl, ho2, hb2⟩
   exact ⟨_, rfl, ho2.base (HB1.out.trans (hbw.mono HB1.out.size)).size, hb2⟩
  ·cases hj
   clear hj'
   refine .inl ⟨rfl, ?_⟩
   generalize hG : relUpon _ _ _ = G
   have q3_ : Own 3 w.heap.size wz (vs0 3) (ints (ordN l0 N)) := hV 3 (by decide)
   clear hV
   subst hG
   simp only [putAll]
   generalize hR : Res _ _ vs0 wz = R
   go_simp
   subst hR
   exact ⟨q3_, Below.refl _ _⟩
  ·cases hj
   clear hj'
   refine .inl ⟨rfl, ?_⟩
   generalize hG : relUpon _ _ _ = G
   have q7_ : Own 3 w.heap.size wz (vs0 7) (ints (ordN l1 N)) := hV 7 (by decide)
   clear hV
   subst hG
   simp only [putAll]
   generalize hR : Res _ _ vs0 wz = R
   go_simp
   subst hR
   exact ⟨q7_, Below.refl _ _⟩
 case hQ =>
  intro W hW vs0 wz hb hV hD
  have hbw : Below W0.heap.size W0 wz := by rw [hW] at hb; exact ((Below.refl W0.heap.size W0).drew).trans hb
  have e0_ : vs0 0 = _ := hV 0 (by decide)
  have e1_ : vs0 1 = _ := hV 1 (by decide)
  have e2_ : vs0 2 = _ := hV 2 (by decide)
  have e4_ : vs0 4 = _ := hV 4 (by decide)
  have e5_ : vs0 5 = _ := hV 5 (by decide)
  have e6_ : vs0 6 = _ := hV 6 (by decide)
  have g8 : Own 3 w.heap.size wz (vs0 8) (ints (ordN l0 N)) := hV 8 (by decide)
  have g9 : Own 3 w.heap.size wz (vs0 9) (ints (ordN l1 N)) := hV 9 (by decide)
  generalize hKK : Exit.then _ _ = KK
  simp only [putAll, e0_, e1_, e2_, e4_, e5_, e6_]
  go_simp
  subst hKK
  clear hV hD hb hW e0_ e1_ e2_ e4_ e5_ e6_
  obtain ⟨y3, hy3⟩ : ∃ y3, vs0 3 = y3 := ⟨_, rfl⟩
  obtain ⟨y7, hy7⟩ : ∃ y7, vs0 7 = y7 := ⟨_, rfl⟩
  obtain ⟨pv, hpv⟩ : ∃ pv, vs0 8 = pv := ⟨_, rfl⟩
  obtain ⟨qv, hqv⟩ : ∃ qv, vs0 9 = qv := ⟨_, rfl⟩
  rw [hpv] at g8
  rw [hqv] at g9
  rw [hy3, hy7, hpv, hqv]
  have hbW := HB1.out.trans (hbw.mono HB1.out.size)
  have hX := OwnP.sl (l := x) (HX1.out.below hbw (Nat.le_refl _))
  have hT : Tab wz := HT.out.below hbW HT.out.lt
  have hBW := Lib.hid hbW
  have HBOX1 := Lib.hid (HBOX.out.below hbw HBOX.out.lt)
  have HO11 := Lib.hid (HO1.out.below hbW)
  clear hy3 hy7 hpv hqv HORD HO0 HO1 HX1 HT HB1 HBOX hbw hbW
  have hch := HCH.out
  clear HCH
  obtain ⟨hok, hjn⟩ := ok_of_check hch
  obtain ⟨N', hN'', _, _, hE⟩ := check_lt hch
  obtain rfl : N = N' := by omega
  have hPP := ordN_posP l0 N
  have hQQ := ordN_posP l1 N
  generalize ordN l0 N = P at *
  generalize ordN l1 N = Q0 at *
  have hP : SlA wz pv (ints P) := g8.sl.toA
  have hQ : SlA wz qv (ints Q0) := g9.sl.toA
  have hpe := posE_of hN2 hN9 hPP
  obtain ⟨pp, cp, rfl, hcp1, hcp2⟩ := hP.form
  obtain ⟨px, cx, rfl, hcx1, hcx2⟩ := hX.len
  have ht := hT.lt
  obtain ⟨w1, hw1⟩ : ∃ w1 : World, w1 = wz := ⟨_, rfl⟩
  subst hw1
  clear g8 g9 hN''
  have HPP := Lib.hid hPP
  have HCNT := Lib.hid (fun (W : World) (hb : Below w1.heap.size w1 W) => scount_go _ _ N x P W (hX.below hb) (hT.below hb ht) (hP.below hb) hch hpe hPP)
  have HFST := Lib.hid (fun (W : World) (hb : Below w1.heap.size w1 W) => sfarthest_go _ _ N x P W (hX.below hb) (hT.below hb ht) (hP.below hb) hch hpe hPP)
  have HSLV := Lib.hid (fun (u : Value) (Q : List Int) (W : World) (hb : Below w1.heap.size w1 W) (hq : SlA W u (ints Q)) (hQ : PosP N Q) => ssolve_go _ _ u N x P Q W (hX.below hb) (hT.below hb ht) (hP.below hb) hq hch hN2 hN9 hPP hQ)
  have HRCH := Lib.hid (fun (u : Value) (Q : List Int) (W : World) (hb : Below w1.heap.size w1 W) (hq : SlA W u (ints Q)) (hQ : PosP N Q) => sreaches_go _ _ u N x P Q W (hX.below hb) (hT.below hb ht) (hP.below hb) hq hch hN2 hN9 hPP hQ)
  have HAW := Lib.hid (fun W (hb : Below w1.heap.size w1 W) => awake_spec W (hT.below hb ht))
  have HSLB := Lib.hid (fun (W : World) (hb : Below w1.heap.size w1 W) => ssolve_go _ _ _ N x Q0 P W (hX.below hb) (hT.below hb ht) (hQ.below hb) (hP.below hb) hch hN2 hN9 hQQ hPP)
  have HSIZ := Lib.hid (fun (W : World) (hb : Below w1.heap.size w1 W) => ssize_go _ N x W (hX.below hb) (hT.below hb ht) hch)
  have HLST := Lib.hid (fun (W : World) (hb : Below w1.heap.size w1 W) => (show Calls Tryd.prog 13 #[.slice p1 l1.length c1, .int .i64 30] W _ from list_any (.slice p1 l1.length c1) l1 30 W (HO11.out.below hb) (by omega)))
  have HAPL := Lib.hid (fun (u : Value) (M : List Int) (W : World) (hb : Below w1.heap.size w1 W) (hm : SlA W u (ints M)) (h40 : M.length ≤ 1000) => sapply_go _ _ u N x P M W (hX.below hb) (hT.below hb ht) (hP.below hb) hm h40 hch hpe hPP.uq)
  have HSGN := Lib.hid (fun (u : Value) (R : List Int) (W : World) (hb : Below w1.heap.size w1 W) (hr : SlA W u (ints R)) (hR : PosP N R) => (sign2_go _ u (N : Nat) P R W (hP.below hb) hr).mono (fun e W' h => (⟨h.1.2.2 hpe (posE_of hN2 hN9 hR), h.2⟩ : e = .returned (.tuple #[.int .i64 (signL P R), .int .i64 0]) ∧ Below W.heap.size W W')))
  have HPU := Lib.hid (fun (k k0 : Nat) (h : LastAt (toE x) N P k) (h0 : LastAt (toE x) N (firstN N) k0) => count_size hE hN2 hN9 hjn hPP h h0)
  have HAL := Lib.hid (fun (m : List Int) => sign_apply hE (ne2_of hN9 hch) hN9 (by omega) hPP m P hPP)
  have HLE := Lib.hid (fun (m : List Int) => applyL_le (toE x) m P)
  have HSS := Lib.hid (sign_self hPP hN9)
  have HSB := Lib.hid (fun (a b : List Int) (ok back : Bool) (h : SolL (toE x) N P Q0 a ok) (h' : SolL (toE x) N Q0 P b back) => solve_back hPP hQQ (by omega) h h')
  have HFEW := Lib.hid (fun k => show (lv (toE x) N P k).1.length ≤ 362880 from Nat.le_trans (lv_few hPP k) (by have := fact_mono hN9; rw [fact9] at this; exact this))
  have HLLE := Lib.hid (fun k => lv_le (E := toE x) (N := N) (p := P) k)
  have HP := Lib.hid hP
  have HQ := Lib.hid hQ
  have HQQ := Lib.hid hQQ
  have HS1 := Lib.hid (HSLV.out _ Q0 w1 (Below.refl _ _) hQ hQQ)
  obtain ⟨pq, cq, rfl, hcq1, hcq2⟩ := hQ.form
  clear hP hQ hX hT hch hok hjn hE hpe hPP hQQ HSLV
  go_wp2_with fail
  refine (HS1.out).mono ?_
  rintro e w2 ⟨va, a, ok, rfl, hoa, hsa, hb2⟩
  have HSA := Lib.hid hsa
  have HB2 := Lib.hid hb2
  obtain ⟨pa, ca, rfl, hca1, hca2⟩ := hoa.sl.toA.form
  clear hoa hsa hb2 HS1
  go_wp2_with fail
  refine (HSLB.out w2 HB2.out).mono ?_
  rintro e w3 ⟨vb, b, bk, rfl, hob, hsb, hb3⟩
  obtain ⟨hbk, hbl⟩ := HSB.out _ _ _ _ HSA.out hsb
  subst hbk
  have HB3 := Lib.hid (HB2.out.trans (hb3.mono HB2.out.size))
  obtain ⟨pb, cb, rfl, hcb1, hcb2⟩ := hob.sl.toA.form
  rw [hbl]
  rw [hbl] at hcb1
  clear hob hsb hb3 hbl HSLB HB2
  go_wp2_with fail
  refine (HCNT.out w3 HB3.out).mono ?_
  rintro e w4 ⟨k, hk, rfl, hb4⟩
  have HK := Lib.hid hk
  have HB4 := Lib.hid (HB3.out.trans (hb4.mono HB3.out.size))
  have hcn6 := HFEW.out k
  obtain ⟨cn, hcn⟩ : ∃ cn, (lv (toE x) N P k).1.length = cn := ⟨_, rfl⟩
  rw [hcn] at hcn6 ⊢
  have HCN := Lib.hid hcn
  clear hk hb4 hcn HCNT HB3
  go_wp2_with fail
  refine (HSIZ.out w4 HB4.out).mono ?_
  rintro e w5 ⟨k0, hk0, rfl, hb5⟩
  have hcs := HPU.out k k0 HK.out hk0
  rw [HCN.out] at hcs
  have HB5 := Lib.hid (HB4.out.trans (hb5.mono HB4.out.size))
  obtain ⟨Z, hZ⟩ : ∃ Z, zeros (lv (toE x) N (firstN N) k0).1 = Z := ⟨_, rfl⟩
  rw [hZ] at hcs ⊢
  have gmul : IntKind.i64.wrap ((N : Int) * (Z : Int)) = (cn : Int) := by
   rw [show (N : Int) * (Z : Int) = ((N * Z : Nat) : Int) by rw [Int.natCast_mul], ← hcs]; exact IntWalk.i64_in _ (by omega)
  clear hk0 hb5 hZ hcs HSIZ HB4
  go_wp2_with fail
  refine (HFST.out w5 HB5.out).mono ?_
  rintro e w6 ⟨k6, hk6, rfl, hb6⟩
  obtain rfl : k6 = k := LastAt.uniq hk6 HK.out
  have HB6 := Lib.hid (HB5.out.trans (hb6.mono HB5.out.size))
  have hLa1 : 0 < (lv (toE x) N P k6).2.length := List.length_pos_iff.2 hk6.1
  have hLa2 := HLLE.out k6
  rw [HCN.out] at hLa2
  obtain ⟨La, hLa⟩ : ∃ La, (lv (toE x) N P k6).2.length = La := ⟨_, rfl⟩
  rw [hLa] at hLa1 hLa2 ⊢
  have hak := solve_far HSA.out hk6
  have g1 : (a.length : Int) ≤ (k6 : Int) := by omega
  have g2 : (1 : Int) ≤ (La : Int) := by omega
  have g3 : (La : Int) ≤ (cn : Int) := by omega
  have g4 : ((a.length : Int) != (a.length : Int)) = false := by simp
  have g5 : ((cn : Int) != (cn : Int)) = false := by simp
  have g6 : (bk != bk) = false := by simp
  have r1 := HBOX1.out.below HB6.out HBOX1.out.lt
  have k1 := r1.cell 1
  simp only [List.getElem?_cons_zero, List.getElem?_cons_succ] at k1
  clear hk6 hb6 hLa hak HFST HB5 r1
  go_wp2_with fail
  refine (HLST.out w6 HB6.out).mono ?_
  rintro e w7 ⟨vm, rfl, hom, hb7⟩
  have HB7 := Lib.hid (HB6.out.trans (hb7.mono HB6.out.size))
  have hml : (l1.take 30).length ≤ 30 := by rw [List.length_take]; omega
  obtain ⟨m, hm⟩ : ∃ m, l1.take 30 = m := ⟨_, rfl⟩
  rw [hm] at hml hom
  have HMV := Lib.hid hom.sl.toA
  obtain ⟨pm, cm, rfl, hcm1, hcm2⟩ := HMV.out.form
  obtain ⟨hR, hsg, kw, hw⟩ := HAL.out m
  have hDl := HLE.out m
  rw [HSS.out] at hsg
  have hap := HAPL.out _ m w7 HB7.out HMV.out (by omega)
  obtain ⟨D, hD⟩ : ∃ D, (applyL (toE x) P m).2 = D := ⟨_, rfl⟩
  obtain ⟨R, hRe⟩ : ∃ R, (applyL (toE x) P m).1 = R := ⟨_, rfl⟩
  rw [hD, hRe] at hap hsg
  rw [hRe] at hR hw
  rw [hD] at hDl
  have HAP := Lib.hid hap
  have HR := Lib.hid hR
  have HW := Lib.hid hw
  have HSG := Lib.hid hsg
  clear hom hb7 hm hR hsg hw hap hD hRe k1 g1 g2 g3 g4 g5 g6 gmul hLa1 hLa2 hcn6 HB6
  go_wp2_with fail
  refine (HAP.out).mono ?_
  rintro e w8 ⟨vr, rfl, hor, hb8⟩
  have HOR := Lib.hid hor.sl.toA
  have HB8 := Lib.hid (HB7.out.trans (hb8.mono HB7.out.size))
  obtain ⟨pr, cr, rfl, hcr1, hcr2⟩ := HOR.out.form
  clear hor hb8 HAP
  go_wp2_with fail
  refine (HSGN.out _ R w8 HB8.out HOR.out HR.out).mono ?_
  rintro e w9 ⟨rfl, hb9⟩
  have HB9 := Lib.hid (HB8.out.trans (hb9.mono HB8.out.size))
  have HOR9 := Lib.hid (HOR.out.below hb9)
  have hsg2 := HSG.out
  obtain ⟨sg, hsge⟩ : ∃ sg, signL P R = sg := ⟨_, rfl⟩
  rw [hsge] at hsg2 ⊢
  have HSG2 := Lib.hid hsg2
  clear hb9 hsge HSG hsg2
  go_wp2_with fail
  refine (HRCH.out _ R w9 HB9.out HOR9.out HR.out).mono ?_
  rintro e w10 ⟨m2, bo, rfl, hs, hb10⟩
  obtain rfl : bo = true := solve_way hs HW.out
  have HB10 := Lib.hid (HB9.out.trans (hb10.mono HB9.out.size))
  have gD : (D : Int) ≤ (m.length : Int) := by omega
  have gtm : (D : Int).tmod 2 = (D : Int) % 2 := Int.tmod_eq_emod_of_nonneg (by omega)
  clear hs hb10 hDl HB9
  have FIN : Hid (∀ (w11 : World), Below w10.heap.size w10 w11 → Below w.heap.size w w11) := fun w11 h => hBW.out.trans ((HB10.out.trans (h.mono HB10.out.size)).mono hBW.out.size)
  have hsg2 := HSG2.out
  clear HSG2
  by_cases hev : D % 2 = 0
  ·rw [if_pos hev] at hsg2
   have gt0 : (D : Int).tmod 2 = 0 := by rw [gtm]; omega
   clear hev gtm
   subst hsg2
   go_wp2_with fail
   refine (HAW.out w10 HB10.out).mono ?_
   rintro e w11 ⟨rfl, hb11⟩
   have HF := Lib.hid (FIN.out w11 hb11)
   clear hb11
   go_wp2
   go_ret
   exact ⟨rfl, HF.out⟩
  ·rw [if_neg hev] at hsg2
   have gt0 : (D : Int).tmod 2 = 1 := by rw [gtm]; omega
   clear hev gtm
   subst hsg2
   go_wp2_with fail
   refine (HAW.out w10 HB10.out).mono ?_
   rintro e w11 ⟨rfl, hb11⟩
   have HF := Lib.hid (FIN.out w11 hb11)
   clear hb11
   go_wp2
   go_ret
   exact ⟨rfl, HF.out⟩
end Go.Proofs.YtllhejjcmfiebaaDoor
