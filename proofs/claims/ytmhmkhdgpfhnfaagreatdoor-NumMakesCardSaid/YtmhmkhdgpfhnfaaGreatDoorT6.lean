/- The program's fractions made of integers: wholeOf, ratio, lowest, Of, Make. -/
import Derived.Test.YtmhmkhdgpfhnfaaGreatDoorT4
set_option linter.unusedVariables false
set_option linter.unusedSimpArgs false
set_option linter.unnecessarySimpa false
/- The program's fractions made of integers: wholeOf, ratio, lowest, Of, Make. -/
namespace Go.Proofs.YtmhmkhdgpfhnfaaGreatDoor.Ref
open Go.RowKit Go.Lib

theorem row3 {T : TypeId} {w : World} {h : Nat} {x0 x1 x2 : Value} (r : Row T w h [x0, x1, x2]) (y0 y1 y2 : Value) :
    (w.cell? ⟨h, 0, none⟩ = some x0 ∧ w.frozen? ⟨h, 0, none⟩ = false) ∧ ((w.setCell ⟨h, 0, none⟩ y0).cell? ⟨h, 1, none⟩ = some x1 ∧ (w.setCell ⟨h, 0, none⟩ y0).frozen? ⟨h, 1, none⟩ = false) ∧
    (((w.setCell ⟨h, 0, none⟩ y0).setCell ⟨h, 1, none⟩ y1).cell? ⟨h, 2, none⟩ = some x2 ∧ ((w.setCell ⟨h, 0, none⟩ y0).setCell ⟨h, 1, none⟩ y1).frozen? ⟨h, 2, none⟩ = false) ∧
    Row T (((w.setCell ⟨h, 0, none⟩ y0).setCell ⟨h, 1, none⟩ y1).setCell ⟨h, 2, none⟩ y2) h [y0, y1, y2] := by
  have r1 := r.store 0 y0
  have r2 := r1.store 1 y1
  exact ⟨⟨r.cell 0, r.free 0⟩, ⟨r1.cell 1, r1.free 1⟩, ⟨r2.cell 2, r2.free 2⟩, r2.store 2 y2⟩
theorem rd_put {T g : Nat} {w : World} {v : Value} {l : List Nat} {xs : List Value} (h : Rd .u32 w v l) (hr : Row T w g xs) (hx : ∀ x ∈ xs, NoInt x) (i : Nat) (u : Value) : Rd .u32 (w.setCell ⟨g, i, none⟩ u) v l := by
  obtain ⟨p, cap, hv, hl, hm, hn, hp⟩ := h
  refine ⟨p, cap, hv, hl, hm, hn, fun h0 => ?_⟩
  obtain ⟨b, off, rfl, hb, hc⟩ := hp h0
  have hbg : b ≠ g := by
    rintro rfl
    have h1 := hc 0 h0
    rw [Nat.add_zero, hr.cell] at h1
    exact hx _ (List.mem_of_getElem? h1) _ _ rfl
  have hs : b < (w.setCell ⟨g, i, none⟩ u).heap.size := Nat.lt_of_lt_of_le hb ((Below.refl 0 w).setCell (Nat.zero_le _) u).size
  refine ⟨b, off, rfl, hs, fun j hj => ?_⟩
  rw [World.cell?_of_block (w := w) (Below.heap_setCell _ _ _ _ (by show b ≠ g; exact hbg))]
  exact hc j hj
theorem rd_put3 {T g : Nat} {w : World} {v x0 x1 x2 : Value} {l : List Nat} (h : Rd .u32 w v l) (hr : Row T w g [x0, x1, x2]) (h0 : NoInt x0) (h1 : NoInt x1) (h2 : NoInt x2) (y0 y1 y2 : Value) (g0 : NoInt y0) (g1 : NoInt y1) :
    Rd .u32 (((w.setCell ⟨g, 0, none⟩ y0).setCell ⟨g, 1, none⟩ y1).setCell ⟨g, 2, none⟩ y2) v l := by
  have a1 : ∀ x ∈ [x0, x1, x2], NoInt x := by intro x hx; simp at hx; rcases hx with rfl | rfl | rfl <;> assumption
  have r1 := hr.store 0 y0
  have a2 : ∀ x ∈ [y0, x1, x2], NoInt x := by intro x hx; simp at hx; rcases hx with rfl | rfl | rfl <;> assumption
  have r2 := r1.store 1 y1
  have a3 : ∀ x ∈ [y0, y1, x2], NoInt x := by intro x hx; simp at hx; rcases hx with rfl | rfl | rfl <;> assumption
  exact rd_put (rd_put (rd_put h hr a1 0 y0) r1 a2 1 y1) r2 a3 2 y2
theorem Lw.form {w : World} {l : Value} {d : Nat} (h : Lw w l d) : ∃ p k c, l = .slice p k c := by
  rcases h with ⟨_, rfl⟩ | ⟨_, p, c, rfl, _⟩
  · exact ⟨none, 0, 0, rfl⟩
  · exact ⟨p, _, c, rfl⟩
theorem Lw.put3 {T g : Nat} {w : World} {v x0 x1 x2 : Value} {d : Nat} (h : Lw w v d) (hr : Row T w g [x0, x1, x2]) (h0 : NoInt x0) (h1 : NoInt x1) (h2 : NoInt x2) (y0 y1 y2 : Value) (g0 : NoInt y0) (g1 : NoInt y1) :
    Lw (((w.setCell ⟨g, 0, none⟩ y0).setCell ⟨g, 1, none⟩ y1).setCell ⟨g, 2, none⟩ y2) v d := by
  rcases h with h | ⟨h, h'⟩
  · exact .inl h
  · exact .inr ⟨h, rd_put3 h' hr h0 h1 h2 y0 y1 y2 g0 g1⟩
theorem Rt.form {w : World} {v : Value} {n : Int} {d : Nat} (h : Rt w v n d) : ∃ b p k c q m e, v = .agg #[.bool b, .slice p k c, .slice q m e] ∧ b = decide (n < 0) ∧ Rd .u32 w (.slice p k c) (limbs n.natAbs) ∧ Lw w (.slice q m e) d := by
  obtain ⟨p, k, c, l, rfl, h2, h3⟩ := h
  obtain ⟨q, m, e, rfl⟩ := h3.form
  exact ⟨_, p, k, c, q, m, e, rfl, rfl, h2, h3⟩
theorem three_boxes' (w : World) (T1 T2 T3 : TypeId) (c1 c2 c3 : Array Value) :
    Row T1 (((w.alloc (.cells c1 T1)).alloc (.cells c2 T2)).alloc (.cells c3 T3)) w.heap.size c1.toList ∧
    Row T2 (((w.alloc (.cells c1 T1)).alloc (.cells c2 T2)).alloc (.cells c3 T3)) (w.heap.size + 1) c2.toList ∧
    Row T3 (((w.alloc (.cells c1 T1)).alloc (.cells c2 T2)).alloc (.cells c3 T3)) (w.heap.size + 2) c3.toList ∧
    Below w.heap.size w (((w.alloc (.cells c1 T1)).alloc (.cells c2 T2)).alloc (.cells c3 T3)) := by
  obtain ⟨h1, h2, h3, h4, _⟩ := three_boxes w T1 T2 T3 c1 c2 c3
  exact ⟨h1, h2, h3, h4⟩
theorem two_le {d : Nat} (h0 : d ≠ 0) (h1 : ¬ d = 1) : 2 ≤ d := by omega
theorem sgB_eq (b : Bool) (n : Nat) : sgB b n = sgR b n := rfl
theorem low_sign (x y : Int) (hy : y ≠ 0) : sgB (decide (x < 0) != decide (y < 0)) (x.natAbs / Nat.gcd x.natAbs y.natAbs) = decide (ratN x y < 0) ∧ (ratN x y).natAbs = x.natAbs / Nat.gcd x.natAbs y.natAbs ∧ ratD x y = ((y.natAbs / Nat.gcd x.natAbs y.natAbs : Nat) : Int) := by
  have hg0 : 0 < Nat.gcd x.natAbs y.natAbs := Nat.gcd_pos_of_pos_right _ (by omega)
  have hgd : Nat.gcd x.natAbs y.natAbs ∣ y.natAbs := Nat.gcd_dvd_right _ _
  unfold ratN ratD
  generalize Nat.gcd x.natAbs y.natAbs = g at *
  have e1 : (x.tdiv (g : Int)).natAbs = x.natAbs / g := by rw [Int.natAbs_tdiv]; rfl
  have e2 : (y.tdiv (g : Int)).natAbs = y.natAbs / g := by rw [Int.natAbs_tdiv]; rfl
  have e3 := sgR_quo x (g : Int)
  rw [decide_eq_false (show ¬ ((g : Int) < 0) by omega), Int.natAbs_natCast, Bool.bne_false] at e3
  have e4 := tdiv_sign hgd hg0 hy
  refine ⟨?_, ?_, ?_⟩
  · rw [sgB_eq]
    by_cases h : y < 0
    · rw [decide_eq_true h, if_pos h, Bool.bne_true]
      have e5 := sgR_neg (x.tdiv (g : Int))
      rw [e1, ← e3] at e5
      rw [← e5]
      by_cases h0 : x.natAbs / g = 0
      · rw [h0, sgR_zero, sgR_zero]
      · rw [sgR_pos h0, sgR_pos h0, sgR_pos h0]
    · rw [decide_eq_false h, if_neg h, Bool.bne_false, e3]
  · by_cases h : y < 0
    · rw [if_pos h, Int.natAbs_neg, e1]
    · rw [if_neg h, e1]
  · by_cases h : y < 0
    · rw [if_pos h]
      have := e4.2 h
      omega
    · rw [if_neg h]
      have : ¬ y.tdiv (g : Int) < 0 := fun e => h (e4.1 e)
      omega
set_option maxRecDepth 100000 in
set_option maxHeartbeats 2000000 in
theorem wholeOf_any (z : Int) (w : World) (h1 : -9223372036854775808 ≤ z) (h2 : z ≤ 9223372036854775807) :
    Calls Tryz.prog 78 #[.int .i64 z] w fun e w' => ∃ v, e = .returned v ∧ Wh w' v z ∧ Below w.heap.size w w' := by
  obtain ⟨a, ha⟩ : ∃ a, z.natAbs = a := ⟨_, rfl⟩
  have HA := Lib.hid ha
  have HN : Hid (∀ W, Calls Tryz.prog 127 #[.int .u64 (a : Nat)] W (OutX 153 .u32 W (limbs a))) := fun W => (naturalOf_any a W (by unfold big64; omega)).mono fun _ _ h => h.x
  obtain ⟨L, hL⟩ : ∃ L, (limbs a).length = L := ⟨_, rfl⟩
  have HL := Lib.hid hL
  by_cases hz : z < 0
  · have hz' := Lib.hid hz
    obtain ⟨U, hU⟩ : ∃ U : Nat, (U : Int) = 18446744073709551616 - (a : Int) := ⟨18446744073709551616 - a, by omega⟩
    have gc : IntKind.u64.wrap z = (U : Int) := by rw [u64_negR hz (by omega)]; omega
    have gc2 : IntKind.u64.wrap (-(U : Int)) = (a : Int) := by rw [u64_negR (by omega) (by omega)]; omega
    have gc3 : IntKind.u64.wrap (0 - (U : Int)) = (a : Int) := by rw [u64_negR (by omega) (by omega)]; omega
    clear hU ha hL h1 h2
    go_enter Tryz.func78, Tryz.ntmps78
    go_upto_region 1 with (fail)
    have x1 := row_new 25 w #[.bool false, .slice none 0 0]
    have x2 := (Below.refl w.heap.size w).alloc (Nat.le_refl _) (.cells #[.bool false, .slice none 0 0] 25)
    have x3 : w.heap.size < (w.alloc (.cells #[.bool false, .slice none 0 0] 25)).heap.size := by simp
    generalize w.alloc (.cells #[.bool false, .slice none 0 0] 25) = w0 at *
    obtain ⟨h, hh⟩ : ∃ h, w.heap.size = h := ⟨_, rfl⟩
    have HH := Lib.hid hh
    rw [hh] at x1 x2 x3 ⊢
    have X1 := Lib.hid x1
    have X2 := Lib.hid x2
    have X3 := Lib.hid x3
    clear x1 x2 x3 hh
    go_wp2_with fail
    refine (HN.out w0).mono ?_
    rintro e w1 ⟨p, cap, rfl, ho, hb⟩
    have HO := Lib.hid ho
    have HB := Lib.hid hb
    clear ho hb
    rw [HL.out]
    have hbb_ := HB.out
    have hrow_ := X1.out.below hbb_ X3.out
    obtain ⟨⟨f1, f2⟩, ⟨f3, f4⟩, f5⟩ := row2 hrow_ (.bool true) (.slice p L cap)
    have hbe_ := ((X2.out.trans (hbb_.mono (Nat.le_of_lt X3.out))).setCell (p := ⟨h, 0, none⟩) (Nat.le_refl h) (.bool true)).setCell (p := ⟨h, 1, none⟩) (Nat.le_refl h) (.slice p L cap)
    have F5 := Lib.hid f5
    have HBE := Lib.hid hbe_
    have c0_ := F5.out.cell 0
    have c1_ := F5.out.cell 1
    simp only [List.getElem?_cons_zero, List.getElem?_cons_succ] at c0_ c1_
    clear hbb_ hrow_ hbe_ f5
    clear HN
    go_wp2
    refine bodyPost_ret (v := .agg #[.bool true, .slice p L cap]) (by simp [results, Tryz.results78, go_sem, c0_, c1_]) rfl ?_
    rw [HH.out]
    exact ⟨_, rfl, ⟨.slice p L cap, by rw [decide_eq_true hz'.out], by
      have := ((HO.out.setBelow (a := ⟨h, 0, none⟩) X3.out (.bool true)).setBelow (a := ⟨h, 1, none⟩) X3.out (.slice p L cap)).rd
      rw [HL.out] at this
      rw [HA.out]
      exact this⟩, HBE.out⟩
  · have hz' := Lib.hid hz
    have gc : IntKind.u64.wrap z = (a : Int) := by rw [IntKind.wrap_u64]; omega
    clear ha hL h1 h2
    go_enter Tryz.func78, Tryz.ntmps78
    go_upto_region 1 with (fail)
    have x1 := row_new 25 w #[.bool false, .slice none 0 0]
    have x2 := (Below.refl w.heap.size w).alloc (Nat.le_refl _) (.cells #[.bool false, .slice none 0 0] 25)
    have x3 : w.heap.size < (w.alloc (.cells #[.bool false, .slice none 0 0] 25)).heap.size := by simp
    generalize w.alloc (.cells #[.bool false, .slice none 0 0] 25) = w0 at *
    obtain ⟨h, hh⟩ : ∃ h, w.heap.size = h := ⟨_, rfl⟩
    have HH := Lib.hid hh
    rw [hh] at x1 x2 x3 ⊢
    have X1 := Lib.hid x1
    have X2 := Lib.hid x2
    have X3 := Lib.hid x3
    clear x1 x2 x3 hh
    go_wp2_with fail
    refine (HN.out w0).mono ?_
    rintro e w1 ⟨p, cap, rfl, ho, hb⟩
    have HO := Lib.hid ho
    have HB := Lib.hid hb
    clear ho hb
    rw [HL.out]
    have hbb_ := HB.out
    have hrow_ := X1.out.below hbb_ X3.out
    obtain ⟨⟨f1, f2⟩, ⟨f3, f4⟩, f5⟩ := row2 hrow_ (.bool false) (.slice p L cap)
    have hbe_ := ((X2.out.trans (hbb_.mono (Nat.le_of_lt X3.out))).setCell (p := ⟨h, 0, none⟩) (Nat.le_refl h) (.bool false)).setCell (p := ⟨h, 1, none⟩) (Nat.le_refl h) (.slice p L cap)
    have F5 := Lib.hid f5
    have HBE := Lib.hid hbe_
    have c0_ := F5.out.cell 0
    have c1_ := F5.out.cell 1
    simp only [List.getElem?_cons_zero, List.getElem?_cons_succ] at c0_ c1_
    clear hbb_ hrow_ hbe_ f5
    clear HN
    go_wp2
    refine bodyPost_ret (v := .agg #[.bool false, .slice p L cap]) (by simp [results, Tryz.results78, go_sem, c0_, c1_]) rfl ?_
    rw [HH.out]
    exact ⟨_, rfl, ⟨.slice p L cap, by rw [decide_eq_false (by have := hz'.out; omega)], by
      have := ((HO.out.setBelow (a := ⟨h, 0, none⟩) X3.out (.bool false)).setBelow (a := ⟨h, 1, none⟩) X3.out (.slice p L cap)).rd
      rw [HL.out] at this
      rw [HA.out]
      exact this⟩, HBE.out⟩
set_option maxRecDepth 100000 in
set_option maxHeartbeats 2000000 in
theorem ratio_any (neg : Bool) (s l : Value) (a d : Nat) (w : World) (hs : Rd .u32 w s (limbs a)) (hd : Rd .u32 w l (limbs d)) (hd0 : d ≠ 0) (ha : (limbs a).length ≤ 1073741820) (hdl : (limbs d).length ≤ 1073741820) :
    Calls Tryz.prog 136 #[.bool neg, s, l] w fun e w' => ∃ p k c l', e = .returned (.agg #[.bool (sgB neg a), .slice p k c, l']) ∧ Rd .u32 w' (.slice p k c) (limbs a) ∧ Lw w' l' d ∧ Below w.heap.size w w' := by
  have HRS := Lib.hid hs
  have HRD := Lib.hid hd
  have HDL := Lib.hid (show (limbs d).length ≤ 1073741824 by omega)
  obtain ⟨p, c, rfl, _⟩ := hs
  obtain ⟨q, cq, rfl, _⟩ := hd
  obtain ⟨L, hL⟩ : ∃ L, (limbs a).length = L := ⟨_, rfl⟩
  obtain ⟨M, hM⟩ : ∃ L, (limbs d).length = L := ⟨_, rfl⟩
  have HAL := Lib.hid ha
  rw [hL] at HRS ⊢
  rw [hM] at HRD ⊢
  clear ha hdl hL hM
  by_cases h1 : d = 1
  · have HONE : Hid (oneB d = true) := by show _ = _; rw [h1]; rfl
    have HD1 := Lib.hid h1
    clear hd0 h1
    go_enter Tryz.func136, Tryz.ntmps136
    go_upto_region 1 with (fail)
    have x1 := row_new 27 w #[.bool false, .slice none 0 0, .slice none 0 0]
    have x2 := (Below.refl w.heap.size w).alloc (Nat.le_refl _) (.cells #[.bool false, .slice none 0 0, .slice none 0 0] 27)
    have x3 : w.heap.size < (w.alloc (.cells #[.bool false, .slice none 0 0, .slice none 0 0] 27)).heap.size := by simp
    generalize w.alloc (.cells #[.bool false, .slice none 0 0, .slice none 0 0] 27) = w0 at *
    obtain ⟨h, hh⟩ : ∃ h, w.heap.size = h := ⟨_, rfl⟩
    have HH := Lib.hid hh
    rw [hh] at x1 x2 x3 ⊢
    have X1 := Lib.hid x1
    have X2 := Lib.hid x2
    have X3 := Lib.hid x3
    clear x1 x2 x3 hh
    go_wp2_with fail
    refine (isOne_any (.slice q M cq) d w0 (HRD.out.below (by rw [HH.out]; exact X2.out)) HDL.out).mono ?_
    rw [HONE.out]
    rintro e w1 ⟨rfl, hw1⟩
    subst hw1
    go_wp2_with fail
    refine (signed_any neg (.slice p L c) a w0 (HRS.out.below (by rw [HH.out]; exact X2.out)) HAL.out).mono ?_
    rintro e w2 ⟨rfl, hb2⟩
    have HB2 := Lib.hid hb2
    obtain ⟨sb, hsb⟩ : ∃ b, sgB neg a = b := ⟨_, rfl⟩
    have HSB := Lib.hid hsb
    rw [hsb]
    clear hb2 hsb
    have hbb_ := HB2.out
    have hrow_ := X1.out.below hbb_ X3.out
    obtain ⟨⟨f1, f2⟩, ⟨f3, f4⟩, ⟨f5, f6⟩, f7⟩ := row3 hrow_ (.bool sb) (.slice p L c) (.slice none 0 0)
    have hbe_ := (((X2.out.trans (hbb_.mono (Nat.le_of_lt X3.out))).setCell (p := ⟨h, 0, none⟩) (Nat.le_refl h) (.bool sb)).setCell (p := ⟨h, 1, none⟩) (Nat.le_refl h) (.slice p L c)).setCell (p := ⟨h, 2, none⟩) (Nat.le_refl h) (.slice none 0 0)
    have F5 := Lib.hid f7
    have HBE := Lib.hid hbe_
    have c0_ := F5.out.cell 0
    have c1_ := F5.out.cell 1
    have c2_ := F5.out.cell 2
    simp only [List.getElem?_cons_zero, List.getElem?_cons_succ] at c0_ c1_ c2_
    clear hbb_ hrow_ hbe_ f7
    go_wp2
    refine bodyPost_ret (v := .agg #[.bool sb, .slice p L c, .slice none 0 0]) (by simp [results, Tryz.results136, go_sem, c0_, c1_, c2_]) rfl ?_
    rw [HH.out]
    exact ⟨_, _, _, _, by rw [HSB.out], HRS.out.below (by rw [HH.out]; exact HBE.out), .inl ⟨HD1.out, rfl⟩, HBE.out⟩
  · have HONE : Hid (oneB d = false) := by show _ = _; unfold oneB; simp [h1]
    have HD2 := Lib.hid (two_le hd0 h1)
    clear hd0 h1
    go_enter Tryz.func136, Tryz.ntmps136
    go_upto_region 1 with (fail)
    have x1 := row_new 27 w #[.bool false, .slice none 0 0, .slice none 0 0]
    have x2 := (Below.refl w.heap.size w).alloc (Nat.le_refl _) (.cells #[.bool false, .slice none 0 0, .slice none 0 0] 27)
    have x3 : w.heap.size < (w.alloc (.cells #[.bool false, .slice none 0 0, .slice none 0 0] 27)).heap.size := by simp
    generalize w.alloc (.cells #[.bool false, .slice none 0 0, .slice none 0 0] 27) = w0 at *
    obtain ⟨h, hh⟩ : ∃ h, w.heap.size = h := ⟨_, rfl⟩
    have HH := Lib.hid hh
    rw [hh] at x1 x2 x3 ⊢
    have X1 := Lib.hid x1
    have X2 := Lib.hid x2
    have X3 := Lib.hid x3
    clear x1 x2 x3 hh
    go_wp2_with fail
    refine (isOne_any (.slice q M cq) d w0 (HRD.out.below (by rw [HH.out]; exact X2.out)) HDL.out).mono ?_
    rw [HONE.out]
    rintro e w1 ⟨rfl, hw1⟩
    subst hw1
    go_wp2_with fail
    refine (signed_any neg (.slice p L c) a w0 (HRS.out.below (by rw [HH.out]; exact X2.out)) HAL.out).mono ?_
    rintro e w2 ⟨rfl, hb2⟩
    have HB2 := Lib.hid hb2
    obtain ⟨sb, hsb⟩ : ∃ b, sgB neg a = b := ⟨_, rfl⟩
    have HSB := Lib.hid hsb
    rw [hsb]
    clear hb2 hsb
    have hbb_ := HB2.out
    have hrow_ := X1.out.below hbb_ X3.out
    obtain ⟨⟨f1, f2⟩, ⟨f3, f4⟩, ⟨f5, f6⟩, f7⟩ := row3 hrow_ (.bool sb) (.slice p L c) (.slice q M cq)
    have hbe_ := (((X2.out.trans (hbb_.mono (Nat.le_of_lt X3.out))).setCell (p := ⟨h, 0, none⟩) (Nat.le_refl h) (.bool sb)).setCell (p := ⟨h, 1, none⟩) (Nat.le_refl h) (.slice p L c)).setCell (p := ⟨h, 2, none⟩) (Nat.le_refl h) (.slice q M cq)
    have F5 := Lib.hid f7
    have HBE := Lib.hid hbe_
    have c0_ := F5.out.cell 0
    have c1_ := F5.out.cell 1
    have c2_ := F5.out.cell 2
    simp only [List.getElem?_cons_zero, List.getElem?_cons_succ] at c0_ c1_ c2_
    clear hbb_ hrow_ hbe_ f7
    go_wp2
    refine bodyPost_ret (v := .agg #[.bool sb, .slice p L c, .slice q M cq]) (by simp [results, Tryz.results136, go_sem, c0_, c1_, c2_]) rfl ?_
    rw [HH.out]
    exact ⟨_, _, _, _, by rw [HSB.out], HRS.out.below (by rw [HH.out]; exact HBE.out), .inr ⟨HD2.out, HRD.out.below (by rw [HH.out]; exact HBE.out)⟩, HBE.out⟩
set_option maxRecDepth 100000 in
set_option maxHeartbeats 2000000 in
theorem lowest_any (x y : Int) (v1 v2 : Value) (w : World) (h1 : Wh w v1 x) (h2 : Wh w v2 y) (hy : y ≠ 0) (hl1 : (limbs x.natAbs).length ≤ 1073741820) (hl2 : (limbs y.natAbs).length ≤ 1073741820) :
    Calls Tryz.prog 80 #[v1, v2] w fun e w' => ∃ v d, e = .returned v ∧ ratD x y = ((d : Nat) : Int) ∧ 0 < d ∧ Rt w' v (ratN x y) d ∧ Below w.heap.size w w' := by
  obtain ⟨p1, k1, c1, rfl, hr1⟩ := Wh.form h1
  obtain ⟨p2, k2, c2, rfl, hr2⟩ := Wh.form h2
  have hg : Nat.gcd x.natAbs y.natAbs ≠ 0 := fun e => hy (by have := Nat.eq_zero_of_gcd_eq_zero_right e; omega)
  obtain ⟨hs1, hs2, hs3⟩ := low_sign x y hy
  have HRED := Lib.hid (fun W h1 h2 => reduced_any (.slice p1 k1 c1) (.slice p2 k2 c2) x.natAbs y.natAbs W h1 h2 hl1 hl2 hg)
  have hd0 : y.natAbs / Nat.gcd x.natAbs y.natAbs ≠ 0 := by
    have h1 := Nat.gcd_dvd_right x.natAbs y.natAbs
    have h2 := Nat.le_of_dvd (by omega) h1
    exact Nat.ne_of_gt (Nat.div_pos h2 (Nat.pos_of_ne_zero hg))
  have hla : (limbs (x.natAbs / Nat.gcd x.natAbs y.natAbs)).length ≤ 1073741820 := Nat.le_trans (limbs_mono (Nat.div_le_self _ _)) hl1
  have hlb : (limbs (y.natAbs / Nat.gcd x.natAbs y.natAbs)).length ≤ 1073741820 := Nat.le_trans (limbs_mono (Nat.div_le_self _ _)) hl2
  obtain ⟨a, ha⟩ : ∃ a, x.natAbs / Nat.gcd x.natAbs y.natAbs = a := ⟨_, rfl⟩
  obtain ⟨d, hd⟩ : ∃ d, y.natAbs / Nat.gcd x.natAbs y.natAbs = d := ⟨_, rfl⟩
  rw [ha] at hs1 hs2 hla HRED
  rw [hd] at hs3 hd0 hlb HRED
  have HR1 := Lib.hid hr1
  have HR2 := Lib.hid hr2
  have HS := Lib.hid (And.intro hs1 (And.intro hs2 hs3))
  have HD0 := Lib.hid hd0
  have HLA := Lib.hid (And.intro hla hlb)
  obtain ⟨b1, hb1⟩ : ∃ b, decide (x < 0) = b := ⟨_, rfl⟩
  obtain ⟨b2, hb2⟩ : ∃ b, decide (y < 0) = b := ⟨_, rfl⟩
  rw [hb1, hb2] at HS
  rw [hb1, hb2]
  clear h1 h2 hr1 hr2 hg hs1 hs2 hs3 hd0 hla hlb hl1 hl2 ha hd hb1 hb2 hy
  go_enter Tryz.func80, Tryz.ntmps80
  go_upto_region 1 with (fail)
  obtain ⟨x1, x2, x3, x4⟩ := three_boxes' w 25 25 27 #[.bool b1, .slice p1 k1 c1] #[.bool b2, .slice p2 k2 c2] #[.bool false, .slice none 0 0, .slice none 0 0]
  rw [show w.heap.size + 1 + 1 = w.heap.size + 2 from rfl]
  generalize ((w.alloc (.cells #[.bool b1, .slice p1 k1 c1] 25)).alloc (.cells #[.bool b2, .slice p2 k2 c2] 25)).alloc (.cells #[.bool false, .slice none 0 0, .slice none 0 0] 27) = w0 at *
  obtain ⟨h, hh⟩ : ∃ h, w.heap.size = h := ⟨_, rfl⟩
  have HH := Lib.hid hh
  have R1 := Lib.hid (HR1.out.below x4)
  have R2 := Lib.hid (HR2.out.below x4)
  rw [hh] at x1 x2 x3 x4 ⊢
  have q1 := x1.cell 0
  have q2 := x1.cell 1
  have q3 := x2.cell 0
  have q4 := x2.cell 1
  simp only [List.getElem?_cons_zero, List.getElem?_cons_succ] at q1 q2 q3 q4
  have X1 := Lib.hid x1
  have X2 := Lib.hid x2
  have X3 := Lib.hid x3
  have X4 := Lib.hid x4
  clear x1 x2 x3 x4 hh HR1 HR2
  go_wp2_with fail
  refine (HRED.out w0 R1.out R2.out).mono ?_
  rintro e w1 ⟨v1, v2, rfl, hv1, hv2, hbw⟩
  have HV1 := Lib.hid hv1
  have HV2 := Lib.hid hv2
  obtain ⟨pa, ca, rfl, _⟩ := hv1
  obtain ⟨pd, cd, rfl, _⟩ := hv2
  obtain ⟨La, hLa⟩ : ∃ L, (limbs a).length = L := ⟨_, rfl⟩
  obtain ⟨Ld, hLd⟩ : ∃ L, (limbs d).length = L := ⟨_, rfl⟩
  rw [hLa] at HV1 ⊢
  rw [hLd] at HV2 ⊢
  have y1 := (X1.out.below hbw X1.out.lt).cell 0
  have y3 := (X2.out.below hbw X2.out.lt).cell 0
  simp only [List.getElem?_cons_zero, List.getElem?_cons_succ] at y1 y3
  have HBW := Lib.hid hbw
  clear hbw hLa hLd HRED R1 R2 q1 q2 q3 q4
  go_wp2_with fail
  refine (ratio_any (!(b1 == b2)) _ _ a d w1 HV1.out HV2.out HD0.out HLA.out.1 HLA.out.2).mono ?_
  rintro e w2 ⟨p, k, c, l', rfl, hr, hlw, hb2⟩
  have HR := Lib.hid hr
  have HLW := Lib.hid hlw
  obtain ⟨pl, kl, cl, rfl⟩ := hlw.form
  have HSG : Hid (sgB (!(b1 == b2)) a = decide (ratN x y < 0)) := HS.out.1
  have HB2 := Lib.hid hb2
  obtain ⟨sb, hsb⟩ : ∃ b, sgB (!(b1 == b2)) a = b := ⟨_, rfl⟩
  rw [hsb] at HSG ⊢
  clear hr hlw hb2 hsb
  have hbb := HBW.out.trans (HB2.out.mono HBW.out.size)
  have hrow := X3.out.below hbb X3.out.lt
  obtain ⟨⟨f1, f2⟩, ⟨f3, f4⟩, ⟨f5, f6⟩, f7⟩ := row3 hrow (.bool sb) (.slice p k c) (.slice pl kl cl)
  have hbe := (((X4.out.trans (hbb.mono (by have := X3.out.lt; omega))).setCell (p := ⟨h + 2, 0, none⟩) (Nat.le_add_right h 2) (.bool sb)).setCell (p := ⟨h + 2, 1, none⟩) (Nat.le_add_right h 2) (.slice p k c)).setCell (p := ⟨h + 2, 2, none⟩) (Nat.le_add_right h 2) (.slice pl kl cl)
  have F5 := Lib.hid f7
  have HBE := Lib.hid hbe
  have c0_ := F5.out.cell 0
  have c1_ := F5.out.cell 1
  have c2_ := F5.out.cell 2
  simp only [List.getElem?_cons_zero, List.getElem?_cons_succ] at c0_ c1_ c2_
  have hr2 := rd_put3 HR.out hrow (noInt_bool _) (noInt_slice _ _ _) (noInt_slice _ _ _) (.bool sb) (.slice p k c) (.slice pl kl cl) (noInt_bool _) (noInt_slice _ _ _)
  have hl2 := HLW.out.put3 hrow (noInt_bool _) (noInt_slice _ _ _) (noInt_slice _ _ _) (.bool sb) (.slice p k c) (.slice pl kl cl) (noInt_bool _) (noInt_slice _ _ _)
  have HR2 := Lib.hid hr2
  have HL2 := Lib.hid hl2
  clear hbb hrow hbe f7 hr2 hl2
  go_wp2
  refine bodyPost_ret (v := .agg #[.bool sb, .slice p k c, .slice pl kl cl]) (by simp [results, Tryz.results80, go_sem, c0_, c1_, c2_]) rfl ?_
  rw [HH.out]
  exact ⟨_, d, rfl, HS.out.2.2, Nat.pos_of_ne_zero HD0.out, ⟨p, k, c, _, by rw [HSG.out], by rw [HS.out.2.1]; exact HR2.out, HL2.out⟩, HBE.out⟩
end Go.Proofs.YtmhmkhdgpfhnfaaGreatDoor.Ref
/- The program's fractions made of integers: Of, Make. -/
namespace Go.Proofs.YtmhmkhdgpfhnfaaGreatDoor.Ref
open Go.RowKit Go.Lib

set_option maxRecDepth 100000 in
set_option maxHeartbeats 2000000 in
theorem of_any (z : Int) (w : World) (h1 : -9223372036854775808 ≤ z) (h2 : z ≤ 9223372036854775807) :
    Calls Tryz.prog 20 #[.int .i64 z] w fun e w' => ∃ v, e = .returned v ∧ Rt w' v z 1 ∧ Below w.heap.size w w' := by
  have HW := Lib.hid (fun W => wholeOf_any z W h1 h2)
  clear h1 h2
  go_enter Tryz.func20, Tryz.ntmps20
  go_upto_region 1 with (fail)
  have x1 := row_new 27 w #[.bool false, .slice none 0 0, .slice none 0 0]
  have x2 := (Below.refl w.heap.size w).alloc (Nat.le_refl _) (.cells #[.bool false, .slice none 0 0, .slice none 0 0] 27)
  have x3 : w.heap.size < (w.alloc (.cells #[.bool false, .slice none 0 0, .slice none 0 0] 27)).heap.size := by simp
  generalize w.alloc (.cells #[.bool false, .slice none 0 0, .slice none 0 0] 27) = w0 at *
  obtain ⟨h, hh⟩ : ∃ h, w.heap.size = h := ⟨_, rfl⟩
  have HH := Lib.hid hh
  rw [hh] at x1 x2 x3 ⊢
  have X1 := Lib.hid x1
  have X2 := Lib.hid x2
  have X3 := Lib.hid x3
  clear x1 x2 x3 hh
  go_wp2_with fail
  refine (HW.out w0).mono ?_
  rintro e w1 ⟨v, rfl, hv, hb⟩
  obtain ⟨p, k, c, rfl, hr⟩ := Wh.form hv
  have HR := Lib.hid hr
  have HB := Lib.hid hb
  obtain ⟨b1, hb1⟩ : ∃ b, decide (z < 0) = b := ⟨_, rfl⟩
  have HB1 := Lib.hid hb1
  rw [hb1]
  clear hv hr hb hb1
  have hbb_ := HB.out
  have hrow_ := X1.out.below hbb_ X3.out
  obtain ⟨⟨f1, f2⟩, ⟨f3, f4⟩, ⟨f5, f6⟩, f7⟩ := row3 hrow_ (.bool b1) (.slice p k c) (.slice none 0 0)
  have hbe_ := (((X2.out.trans (hbb_.mono (Nat.le_of_lt X3.out))).setCell (p := ⟨h, 0, none⟩) (Nat.le_refl h) (.bool b1)).setCell (p := ⟨h, 1, none⟩) (Nat.le_refl h) (.slice p k c)).setCell (p := ⟨h, 2, none⟩) (Nat.le_refl h) (.slice none 0 0)
  have F5 := Lib.hid f7
  have HBE := Lib.hid hbe_
  have c0_ := F5.out.cell 0
  have c1_ := F5.out.cell 1
  have c2_ := F5.out.cell 2
  simp only [List.getElem?_cons_zero, List.getElem?_cons_succ] at c0_ c1_ c2_
  have HR2 := Lib.hid (rd_put3 HR.out hrow_ (noInt_bool _) (noInt_slice _ _ _) (noInt_slice _ _ _) (.bool b1) (.slice p k c) (.slice none 0 0) (noInt_bool _) (noInt_slice _ _ _))
  clear hbb_ hrow_ hbe_ f7
  clear HW
  go_wp2
  refine bodyPost_ret (v := .agg #[.bool b1, .slice p k c, .slice none 0 0]) (by simp [results, Tryz.results20, go_sem, c0_, c1_, c2_]) rfl ?_
  rw [HH.out]
  exact ⟨_, rfl, ⟨p, k, c, _, by rw [HB1.out], HR2.out, .inl ⟨rfl, rfl⟩⟩, HBE.out⟩
set_option maxRecDepth 100000 in
set_option maxHeartbeats 2000000 in
theorem make_zero (a : Int) (w : World) :
    Calls Tryz.prog 23 #[.int .i64 a, .int .i64 0] w fun e w' => e = .returned (.tuple #[.agg #[.bool false, .slice none 0 0, .slice none 0 0], .int .i64 6]) ∧ Below w.heap.size w w' := by
  go_enter Tryz.func23, Tryz.ntmps23
  go_upto_region 2 with (fail)
  have x1 := row_new 27 w #[.bool false, .slice none 0 0, .slice none 0 0]
  have x2 := (Below.refl w.heap.size w).alloc (Nat.le_refl _) (.cells #[.bool false, .slice none 0 0, .slice none 0 0] 27)
  have x3 : w.heap.size < (w.alloc (.cells #[.bool false, .slice none 0 0, .slice none 0 0] 27)).heap.size := by simp
  generalize w.alloc (.cells #[.bool false, .slice none 0 0, .slice none 0 0] 27) = w0 at *
  obtain ⟨h, hh⟩ : ∃ h, w.heap.size = h := ⟨_, rfl⟩
  have HH := Lib.hid hh
  rw [hh] at x1 x2 x3 ⊢
  have X1 := Lib.hid x1
  have X2 := Lib.hid x2
  have X3 := Lib.hid x3
  clear x1 x2 x3 hh
  have hrow_ := X1.out
  obtain ⟨⟨f1, f2⟩, ⟨f3, f4⟩, ⟨f5, f6⟩, f7⟩ := row3 hrow_ (.bool false) (.slice none 0 0) (.slice none 0 0)
  have hbe_ := ((X2.out.setCell (p := ⟨h, 0, none⟩) (Nat.le_refl h) (.bool false)).setCell (p := ⟨h, 1, none⟩) (Nat.le_refl h) (.slice none 0 0)).setCell (p := ⟨h, 2, none⟩) (Nat.le_refl h) (.slice none 0 0)
  have F5 := Lib.hid f7
  have HBE := Lib.hid hbe_
  have c0_ := F5.out.cell 0
  have c1_ := F5.out.cell 1
  have c2_ := F5.out.cell 2
  simp only [List.getElem?_cons_zero, List.getElem?_cons_succ] at c0_ c1_ c2_
  clear hrow_ hbe_ f7
  go_wp2
  refine bodyPost_ret (v := .tuple #[.agg #[.bool false, .slice none 0 0, .slice none 0 0], .int .i64 6]) (by simp [results, Tryz.results23, go_sem, c0_, c1_, c2_]) rfl ?_
  rw [HH.out]
  exact ⟨rfl, HBE.out⟩
set_option maxRecDepth 100000 in
set_option maxHeartbeats 2000000 in
theorem make_any (a b : Int) (w : World) (hb0 : b ≠ 0) (ha1 : -9223372036854775808 ≤ a) (ha2 : a ≤ 9223372036854775807) (hb1 : -9223372036854775808 ≤ b) (hb2 : b ≤ 9223372036854775807) :
    Calls Tryz.prog 23 #[.int .i64 a, .int .i64 b] w fun e w' => ∃ v d, e = .returned (.tuple #[v, .int .i64 0]) ∧ ratD a b = ((d : Nat) : Int) ∧ 0 < d ∧ Rt w' v (ratN a b) d ∧ Below w.heap.size w w' := by
  have HWA := Lib.hid (fun W => wholeOf_any a W ha1 ha2)
  have HWB := Lib.hid (fun W => wholeOf_any b W hb1 hb2)
  have HL1 := Nat.le_trans (limbs_len3 (show a.natAbs ≤ 9223372036854775808 by omega)) (show 3 ≤ 1073741820 by omega)
  have HL2 := Nat.le_trans (limbs_len3 (show b.natAbs ≤ 9223372036854775808 by omega)) (show 3 ≤ 1073741820 by omega)
  have HLO := Lib.hid (fun W v1 v2 h1 h2 => lowest_any a b v1 v2 W h1 h2 hb0 HL1 HL2)
  have gb : ¬ (b = 0) := hb0
  clear ha1 ha2 hb1 hb2 HL1 HL2 hb0
  go_enter Tryz.func23, Tryz.ntmps23
  go_upto_region 3 with (fail)
  have x1 := row_new 27 w #[.bool false, .slice none 0 0, .slice none 0 0]
  have x2 := (Below.refl w.heap.size w).alloc (Nat.le_refl _) (.cells #[.bool false, .slice none 0 0, .slice none 0 0] 27)
  have x3 : w.heap.size < (w.alloc (.cells #[.bool false, .slice none 0 0, .slice none 0 0] 27)).heap.size := by simp
  generalize w.alloc (.cells #[.bool false, .slice none 0 0, .slice none 0 0] 27) = w0 at *
  obtain ⟨h, hh⟩ : ∃ h, w.heap.size = h := ⟨_, rfl⟩
  have HH := Lib.hid hh
  rw [hh] at x1 x2 x3 ⊢
  have X1 := Lib.hid x1
  have X2 := Lib.hid x2
  have X3 := Lib.hid x3
  clear x1 x2 x3 hh
  clear gb
  go_wp2_with fail
  refine (HWA.out w0).mono ?_
  rintro e w1 ⟨v1, rfl, hv1, hb1⟩
  obtain ⟨p1, k1, c1, rfl, _⟩ := Wh.form hv1
  have HV1 := Lib.hid hv1
  have HB1 := Lib.hid hb1
  obtain ⟨s1, hs1⟩ : ∃ b, decide (a < 0) = b := ⟨_, rfl⟩
  rw [hs1] at HV1 ⊢
  clear hv1 hb1 hs1
  go_wp2_with fail
  refine (HWB.out w1).mono ?_
  rintro e w2 ⟨v2, rfl, hv2, hb2⟩
  obtain ⟨p2, k2, c2, rfl, _⟩ := Wh.form hv2
  have HV2 := Lib.hid hv2
  have HB2 := Lib.hid hb2
  obtain ⟨s2, hs2⟩ : ∃ x, decide (b < 0) = x := ⟨_, rfl⟩
  rw [hs2] at HV2 ⊢
  clear hv2 hb2 hs2
  go_wp2_with fail
  refine (HLO.out w2 _ _ (Wh.below HV1.out HB2.out) HV2.out).mono ?_
  rintro e w3 ⟨v, d, rfl, hd, hd0, hv, hb3⟩
  obtain ⟨b1, p, k, c, q, m, e, rfl, hbs, hr, hl⟩ := hv.form
  have HR := Lib.hid hr
  have HLW := Lib.hid hl
  have HBS := Lib.hid hbs
  have HD := Lib.hid (And.intro hd hd0)
  have hs1 := HB1.out.size
  have hs2 := HB2.out.size
  have HB := Lib.hid (HB1.out.trans ((HB2.out.mono hs1).trans (hb3.mono (Nat.le_trans hs1 hs2))))
  clear hd hd0 hv hb3 hbs hr hl hs1 hs2
  have hbb_ := HB.out
  have hrow_ := X1.out.below hbb_ X3.out
  obtain ⟨⟨f1, f2⟩, ⟨f3, f4⟩, ⟨f5, f6⟩, f7⟩ := row3 hrow_ (.bool b1) (.slice p k c) (.slice q m e)
  have hbe_ := (((X2.out.trans (hbb_.mono (Nat.le_of_lt X3.out))).setCell (p := ⟨h, 0, none⟩) (Nat.le_refl h) (.bool b1)).setCell (p := ⟨h, 1, none⟩) (Nat.le_refl h) (.slice p k c)).setCell (p := ⟨h, 2, none⟩) (Nat.le_refl h) (.slice q m e)
  have F5 := Lib.hid f7
  have HBE := Lib.hid hbe_
  have c0_ := F5.out.cell 0
  have c1_ := F5.out.cell 1
  have c2_ := F5.out.cell 2
  simp only [List.getElem?_cons_zero, List.getElem?_cons_succ] at c0_ c1_ c2_
  have HR2 := Lib.hid (rd_put3 HR.out hrow_ (noInt_bool _) (noInt_slice _ _ _) (noInt_slice _ _ _) (.bool b1) (.slice p k c) (.slice q m e) (noInt_bool _) (noInt_slice _ _ _))
  have HL2 := Lib.hid (HLW.out.put3 hrow_ (noInt_bool _) (noInt_slice _ _ _) (noInt_slice _ _ _) (.bool b1) (.slice p k c) (.slice q m e) (noInt_bool _) (noInt_slice _ _ _))
  clear hbb_ hrow_ hbe_ f7
  clear HWA HWB HLO
  go_wp2
  refine bodyPost_ret (v := .tuple #[.agg #[.bool b1, .slice p k c, .slice q m e], .int .i64 0]) (by simp [results, Tryz.results23, go_sem, c0_, c1_, c2_]) rfl ?_
  rw [HH.out]
  exact ⟨_, d, rfl, HD.out.1, HD.out.2, ⟨p, k, c, _, by rw [HBS.out], HR2.out, HL2.out⟩, HBE.out⟩
end Go.Proofs.YtmhmkhdgpfhnfaaGreatDoor.Ref
