/- SlideBoards: the law. -/
import Derived.Test.YtllhejjcmfiebaaDoorS31
import Derived.Test.YtllhejjcmfiebaaDoorQR
import Derived.Test.YtllhejjcmfiebaaDoorAwake
import Derived.Test.YtllhejjcmfiebaaDoorS20
set_option linter.unusedVariables false
set_option linter.unusedSimpArgs false
set_option linter.unnecessarySimpa false
namespace Go.Proofs.YtllhejjcmfiebaaDoor
open Go.RowKit Go.Shelf

theorem stays_of {ks : List Kd} (hM : ∀ (i : Nat) M, ks[i]? = some (.mem M) → ∀ v w w', M v w → Below w.heap.size w w' → M v w') (hF : ∀ (j b k T n : Nat), ks[j]? ≠ some (.fill b k T n)) : Stays ks :=
  ⟨fun i M v w w' hk h hb => hM i M hk v w w' h hb, fun i M v w w' j g b k T n xs hk hf => absurd hf (hF j b k T n)⟩
theorem PaA.below {w w' : World} {v : Value} {l : Ps} (h : PaA w v l) (hb : Below w.heap.size w w') : PaA w' v l := by
  rcases h with h | ⟨ad, cap, rfl, h2, h3, h4⟩
  · exact .inl h
  · refine .inr ⟨ad, cap, rfl, h2, h3, fun j u hj => ?_⟩
    have := h4 j u hj
    exact (hb.cell (p := ad.add j) (World.block_lt_of_cell? _ _ this)).trans this
theorem ve_of_check {N : Nat} {l : Ps} (h : checkB N l = 0) : VE l N := by
  unfold checkB at h
  split at h
  · rename_i hs
    simp only [sizeB, Bool.and_eq_true, decide_eq_true_eq] at hs
    split at h
    · rename_i hb
      rw [Bool.and_eq_true] at hb
      exact ve_of (by omega) fun j hj => List.all_eq_true.1 hb.1 j (List.mem_range.2 hj)
    · cases h
  · cases h
set_option maxRecDepth 100000 in
set_option maxHeartbeats 8000000 in
theorem lawBoards (n : Int) (v v0 v1 : Value) (l : Ps) (l0 l1 : List Int) (w : World) (ht : Tab w) (hl : PaA w v l) (h0 : SlA w v0 (ints l0)) (h1 : SlA w v1 (ints l1)) :
    Calls Tryd.prog 4 #[.int .i64 n, v, .agg #[v0, v1]] w fun e w' => e = .returned (.bool true) ∧ Below w.heap.size w w' := by
  have HTAME := Lib.hid (fun W (hb : Below w.heap.size w W) => (show Calls Tryd.prog 28 #[.int .i64 n, v, .int .i64 9] W _ from tame_go n v l 9 W (hl.below hb) (by omega) (by omega)))
  have HT := Lib.hid ht
  have HO0 := Lib.hid h0
  have HO1 := Lib.hid h1
  obtain ⟨p, c, rfl, _, _⟩ := hl.form
  obtain ⟨p0, c0, rfl, hc01, hc02⟩ := h0.form
  obtain ⟨p1, c1, rfl, hc11, hc12⟩ := h1.form
  have hbx := row_new 48 w #[.slice p0 l0.length c0, .slice p1 l1.length c1]
  have hb0 := (Below.refl w.heap.size w).alloc (Nat.le_refl _) (.cells #[.slice p0 l0.length c0, .slice p1 l1.length c1] 48)
  obtain ⟨WA, hWA⟩ : ∃ WA, w.alloc (.cells #[.slice p0 l0.length c0, .slice p1 l1.length c1] 48) = WA := ⟨_, rfl⟩
  rw [hWA] at hbx hb0
  have HBX := Lib.hid hbx
  have HB0 := Lib.hid hb0
  clear ht hl h0 h1 hbx hb0
  go_enter Tryd.func4, Tryd.ntmps4
  go_wp2_with (first
    | (go_at_call 28; refine (HTAME.out _ HB0.out).mono ?_; rintro e W0 ⟨N, x, vx, rfl, hN2, hN9, hx, hch, hb1⟩; have HX1 := Lib.hid (hx.base HB0.out.size); have HBOX := Lib.hid (HBX.out.below hb1 HBX.out.lt); have HB1 := Lib.hid (HB0.out.trans (hb1.mono HB0.out.size)); have HCH := Lib.hid hch; clear hx hch hb1))
  clear hWA HTAME HBX HB0
  have hch := HCH.out
  clear HCH
  have HORD := Lib.hid (fun W u l' (hl : SlA W u (ints l')) => order_go u N l' W hl hN9)
  refine wp_region_rel (by kernel_rfl) 96 rfl (by kernel_rfl) [.fix (.int .i64 (N : Nat)), .fix (.pointer (some ⟨w.heap.size, 0, none⟩)), .fix (.slice p0 l0.length c0), .mem (fun u W => Own 3 w.heap.size W u (ints (ordN l0 N))), .fix (.int .i64 (N : Nat)), .fix (.pointer (some ⟨w.heap.size, 1, none⟩)), .fix (.slice p1 l1.length c1), .mem (fun u W => Own 3 w.heap.size W u (ints (ordN l1 N))), .mem (fun u W => Own 3 w.heap.size W u (ints (ordN l0 N))), .mem (fun u W => Own 3 w.heap.size W u (ints (ordN l1 N)))] rfl (stays_of (fun i M hk v w' w'' h hb => by rcases i with _ | _ | _ | _ | _ | _ | _ | _ | _ | _ | i <;> simp at hk <;> subst hk <;> exact Own.below h hb (Nat.le_refl _)) (fun j b k T n => by rcases j with _ | _ | _ | _ | _ | _ | _ | _ | _ | _ | j <;> simp)) ?hop ?hQ
  case hop =>
    intro W hW j o hj vs w1 hb hV
    have hbw : Below W0.heap.size W0 w1 := by rw [hW] at hb; exact ((Below.refl W0.heap.size W0).drew).trans hb
    have d0 : w1.cell? ⟨w.heap.size, 0, none⟩ = some (.slice p0 l0.length c0) := (HBOX.out.below hbw HBOX.out.lt).cell 0
    have d1 : w1.cell? ⟨w.heap.size, 1, none⟩ = some (.slice p1 l1.length c1) := (HBOX.out.below hbw HBOX.out.lt).cell 1
    clear hW hb
    have hj' : j < 10 := (List.getElem?_eq_some_iff.1 hj).1
    rcases (by omega : j = 0 ∨ j = 1 ∨ j = 2 ∨ j = 3 ∨ j = 4 ∨ j = 5 ∨ j = 6 ∨ j = 7 ∨ j = 8 ∨ j = 9) with rfl | rfl | rfl | rfl | rfl | rfl | rfl | rfl | rfl | rfl
    · cases hj
      clear hj'
      refine .inl ⟨rfl, ?_⟩
      (try simp [predsR, Region.binds, Vk] at hV)
      simp only [putAll]
      generalize hR : Res _ _ vs w1 = R
      go_simp
      subst hR
      exact ⟨rfl, Below.refl _ _⟩
    · cases hj
      clear hj'
      refine .inl ⟨rfl, ?_⟩
      (try simp [predsR, Region.binds, Vk] at hV)
      simp only [putAll]
      generalize hR : Res _ _ vs w1 = R
      go_simp
      subst hR
      exact ⟨rfl, Below.refl _ _⟩
    · cases hj
      clear hj'
      refine .inl ⟨rfl, ?_⟩
      generalize hG : relUpon _ _ _ = G
      have q1 : vs 1 = _ := hV 1 (by decide)
      clear hV
      subst hG
      simp only [putAll]
      generalize hR : Res _ _ vs w1 = R
      go_simp
      subst hR
      exact ⟨rfl, Below.refl _ _⟩
    · cases hj
      clear hj'
      refine .inl ⟨rfl, ?_⟩
      generalize hG : relUpon _ _ _ = G
      have q0 : vs 0 = _ := hV 0 (by decide)
      have q2 : vs 2 = _ := hV 2 (by decide)
      clear hV
      subst hG
      simp only [putAll]
      generalize hR : Res _ _ vs w1 = R
      go_simp
      subst hR
      refine (HORD.out w1 _ l0 (HO0.out.below (HB1.out.trans (hbw.mono HB1.out.size)))).mono ?_
      rintro e w2 ⟨v2, rfl, ho2, hb2⟩
      exact ⟨_, rfl, ho2.base (HB1.out.trans (hbw.mono HB1.out.size)).size, hb2⟩
    · cases hj
      clear hj'
      refine .inl ⟨rfl, ?_⟩
      (try simp [predsR, Region.binds, Vk] at hV)
      simp only [putAll]
      generalize hR : Res _ _ vs w1 = R
      go_simp
      subst hR
      exact ⟨rfl, Below.refl _ _⟩
    · cases hj
      clear hj'
      refine .inl ⟨rfl, ?_⟩
      (try simp [predsR, Region.binds, Vk] at hV)
      simp only [putAll]
      generalize hR : Res _ _ vs w1 = R
      go_simp
      subst hR
      exact ⟨rfl, Below.refl _ _⟩
    · cases hj
      clear hj'
      refine .inl ⟨rfl, ?_⟩
      generalize hG : relUpon _ _ _ = G
      have q5 : vs 5 = _ := hV 5 (by decide)
      clear hV
      subst hG
      simp only [putAll]
      generalize hR : Res _ _ vs w1 = R
      go_simp
      subst hR
      exact ⟨rfl, Below.refl _ _⟩
    · cases hj
      clear hj'
      refine .inl ⟨rfl, ?_⟩
      generalize hG : relUpon _ _ _ = G
      have q4 : vs 4 = _ := hV 4 (by decide)
      have q6 : vs 6 = _ := hV 6 (by decide)
      clear hV
      subst hG
      simp only [putAll]
      generalize hR : Res _ _ vs w1 = R
      go_simp
      subst hR
      refine (HORD.out w1 _ l1 (HO1.out.below (HB1.out.trans (hbw.mono HB1.out.size)))).mono ?_
      rintro e w2 ⟨v2, rfl, ho2, hb2⟩
      exact ⟨_, rfl, ho2.base (HB1.out.trans (hbw.mono HB1.out.size)).size, hb2⟩
    · cases hj
      clear hj'
      refine .inl ⟨rfl, ?_⟩
      generalize hG : relUpon _ _ _ = G
      have hS : Own 3 w.heap.size w1 (vs 3) (ints (ordN l0 N)) := hV 3 (by decide)
      clear hV
      subst hG
      simp only [putAll]
      generalize hR : Res _ _ vs w1 = R
      go_simp
      subst hR
      exact ⟨hS, Below.refl _ _⟩
    · cases hj
      clear hj'
      refine .inl ⟨rfl, ?_⟩
      generalize hG : relUpon _ _ _ = G
      have hS : Own 3 w.heap.size w1 (vs 7) (ints (ordN l1 N)) := hV 7 (by decide)
      clear hV
      subst hG
      simp only [putAll]
      generalize hR : Res _ _ vs w1 = R
      go_simp
      subst hR
      exact ⟨hS, Below.refl _ _⟩
  case hQ =>
    intro W hW vs w1 hb hV hD
    have hbw : Below W0.heap.size W0 w1 := by rw [hW] at hb; exact ((Below.refl W0.heap.size W0).drew).trans hb
    have hP0 : Own 3 w.heap.size w1 (vs 8) (ints (ordN l0 N)) := hV 8 (by decide)
    have hQ0 : Own 3 w.heap.size w1 (vs 9) (ints (ordN l1 N)) := hV 9 (by decide)
    have v0 : vs 0 = _ := hV 0 (by decide)
    have v1 : vs 1 = _ := hV 1 (by decide)
    have v2 : vs 2 = _ := hV 2 (by decide)
    have v4 : vs 4 = _ := hV 4 (by decide)
    have v5 : vs 5 = _ := hV 5 (by decide)
    have v6 : vs 6 = _ := hV 6 (by decide)
    simp only [putAll, v0, v1, v2, v4, v5, v6]
    obtain ⟨pv, hpv⟩ : ∃ pv, vs 8 = pv := ⟨_, rfl⟩
    obtain ⟨qv, hqv⟩ : ∃ qv, vs 9 = qv := ⟨_, rfl⟩
    rw [hpv] at hP0
    rw [hqv] at hQ0
    rw [hpv, hqv]
    obtain ⟨y3, hy3⟩ : ∃ y3, vs 3 = y3 := ⟨_, rfl⟩
    obtain ⟨y7, hy7⟩ : ∃ y7, vs 7 = y7 := ⟨_, rfl⟩
    rw [hy3, hy7]
    have hbW := HB1.out.trans (hbw.mono HB1.out.size)
    have hX := OwnP.sl (l := x) (HX1.out.below hbw (Nat.le_refl _))
    have hT : Tab w1 := HT.out.below hbW HT.out.lt
    have hBW := Lib.hid hbW
    clear hV hD v0 v1 v2 v4 v5 v6 hb hW hpv hqv hy3 hy7 HBOX HORD HO0 HO1 HX1 HT HB1 hbw
    obtain ⟨pp, cp, rfl, hcp1, hcp2⟩ := hP0.sl.toA.form
    obtain ⟨pq, cq, rfl, hcq1, hcq2⟩ := hQ0.sl.toA.form
    have hP : SlA w1 _ (ints (ordN l0 N)) := hP0.sl.toA
    have hQ : SlA w1 _ (ints (ordN l1 N)) := hQ0.sl.toA
    have eP := ordN_pos hN2 hN9 l0
    have eQ := ordN_pos hN2 hN9 l1
    have lP := ordN_len l0 N
    have lQ := ordN_len l1 N
    obtain ⟨N', hN', _, _, _, rP⟩ := posE_zero eP
    obtain rfl : N = N' := by omega
    obtain ⟨N', hN', _, _, _, rQ⟩ := posE_zero eQ
    obtain rfl : N = N' := by omega
    generalize ordN l0 N = P at *
    generalize ordN l1 N = Q at *
    have hV := ve_of_check hch
    have ht := hT.lt
    have H1 := Lib.hid (fun W (hb : Below w1.heap.size w1 W) => whole_go _ (N : Nat) x W (hX.below hb) (hT.below hb ht) hch)
    have H2 := Lib.hid (fun W (hb : Below w1.heap.size w1 W) => sides_go _ (N : Nat) x W (hX.below hb) (hT.below hb ht) hch)
    have H3 := Lib.hid (fun W (hb : Below w1.heap.size w1 W) => (sign2_go _ _ (N : Nat) P Q W (hP.below hb) (hQ.below hb)).mono fun e w' h => (⟨h.1.2.2 eP eQ, h.2⟩ : e = .returned (.tuple #[.int .i64 (signL P Q), .int .i64 0]) ∧ Below W.heap.size W w'))
    have H4 := Lib.hid (fun W (hb : Below w1.heap.size w1 W) => rsides_go _ N x W (hX.below hb) hV hN2 hN9)
    have H5 := Lib.hid (fun W (hb : Below w1.heap.size w1 W) => rwhole_go _ N x W (hX.below hb) hV hN2 hN9)
    have H6 := Lib.hid (fun W (hb : Below w1.heap.size w1 W) => rsign_go _ _ N P Q W (hP.below hb) (hQ.below hb) (by omega) hN9 lP lQ rP rQ)
    have H7 := Lib.hid (fun W (hb : Below w1.heap.size w1 W) => awake_spec W (hT.below hb ht))
    have HB := Lib.hid (Below.refl w1.heap.size w1)
    rw [lP] at *
    rw [lQ] at *
    rw [Int.toNat_natCast] at H1 H2
    unfold sidesW at H2
    unfold sidesV at H4
    obtain ⟨wh, hwh⟩ : ∃ wh, wholeB N (toE x) = wh := ⟨_, rfl⟩
    obtain ⟨sg, hsg⟩ : ∃ sg, signL P Q = sg := ⟨_, rfl⟩
    obtain ⟨A, hA⟩ : ∃ A, (sdN (toE x) N).1 = A := ⟨_, rfl⟩
    obtain ⟨B, hB⟩ : ∃ B, (sdN (toE x) N).2 = B := ⟨_, rfl⟩
    obtain ⟨px, cx, hxv, hcx1, hcx2⟩ := hX.len
    subst hxv
    rw [hwh] at H1 H5
    rw [hsg] at H3 H6
    rw [hA, hB] at H2 H4
    have hbsg : (sg == sg) = true := by simp
    have hbwh : (wh == wh) = true := by simp
    have hbA : ((A : Int) == (A : Int)) = true := by simp
    clear hP hQ eP eQ rP rQ hV hT hX hwh hsg hA hB hP0 hQ0 hch lP lQ
    by_cases hAB : A &&& B = 0
    · rw [if_pos hAB] at H2 H4
      clear hAB
      go_wp2_with (first
        | (go_at_call 19; refine (H1.out _ HB.out).mono ?_; rintro e wA ⟨rfl, hb2⟩; have HBA := Lib.hid (HB.out.trans hb2); clear hb2)
        | (go_at_call 20; refine (H2.out _ HBA.out).mono ?_; rintro e wB ⟨rfl, hb2⟩; have HBB := Lib.hid (HBA.out.trans (hb2.mono HBA.out.size)); clear hb2)
        | (go_at_call 18; refine (H3.out _ HBB.out).mono ?_; rintro e wC ⟨rfl, hb2⟩; have HBC := Lib.hid (HBB.out.trans (hb2.mono HBB.out.size)); clear hb2)
        | (go_at_call 30; refine (H4.out _ HBC.out).mono ?_; rintro e wD ⟨rfl, hb2⟩; have HBD := Lib.hid (HBC.out.trans (hb2.mono HBC.out.size)); clear hb2)
        | (go_at_call 31; refine (H5.out _ HBD.out).mono ?_; rintro e wE ⟨rfl, hb2⟩; have HBE := Lib.hid (HBD.out.trans (hb2.mono HBD.out.size)); clear hb2)
        | (go_at_call 32; refine (H6.out _ HBE.out).mono ?_; rintro e wF ⟨rfl, hb2⟩; have HBF := Lib.hid (HBE.out.trans (hb2.mono HBE.out.size)); clear hb2)
        | (go_at_call 22; refine (H7.out _ HBF.out).mono ?_; rintro e wG ⟨rfl, hb2⟩; have HBG := Lib.hid (HBF.out.trans (hb2.mono HBF.out.size)); clear hb2))
      go_ret
      exact ⟨rfl, hBW.out.trans (HBG.out.mono hBW.out.size)⟩
    · rw [if_neg hAB] at H2 H4
      clear hAB
      go_wp2_with (first
        | (go_at_call 19; refine (H1.out _ HB.out).mono ?_; rintro e wA ⟨rfl, hb2⟩; have HBA := Lib.hid (HB.out.trans hb2); clear hb2)
        | (go_at_call 20; refine (H2.out _ HBA.out).mono ?_; rintro e wB ⟨rfl, hb2⟩; have HBB := Lib.hid (HBA.out.trans (hb2.mono HBA.out.size)); clear hb2)
        | (go_at_call 18; refine (H3.out _ HBB.out).mono ?_; rintro e wC ⟨rfl, hb2⟩; have HBC := Lib.hid (HBB.out.trans (hb2.mono HBB.out.size)); clear hb2)
        | (go_at_call 30; refine (H4.out _ HBC.out).mono ?_; rintro e wD ⟨rfl, hb2⟩; have HBD := Lib.hid (HBC.out.trans (hb2.mono HBC.out.size)); clear hb2)
        | (go_at_call 31; refine (H5.out _ HBD.out).mono ?_; rintro e wE ⟨rfl, hb2⟩; have HBE := Lib.hid (HBD.out.trans (hb2.mono HBD.out.size)); clear hb2)
        | (go_at_call 32; refine (H6.out _ HBE.out).mono ?_; rintro e wF ⟨rfl, hb2⟩; have HBF := Lib.hid (HBE.out.trans (hb2.mono HBE.out.size)); clear hb2)
        | (go_at_call 22; refine (H7.out _ HBF.out).mono ?_; rintro e wG ⟨rfl, hb2⟩; have HBG := Lib.hid (HBF.out.trans (hb2.mono HBF.out.size)); clear hb2))
      go_ret
      exact ⟨rfl, hBW.out.trans (HBG.out.mono hBW.out.size)⟩
end Go.Proofs.YtllhejjcmfiebaaDoor
