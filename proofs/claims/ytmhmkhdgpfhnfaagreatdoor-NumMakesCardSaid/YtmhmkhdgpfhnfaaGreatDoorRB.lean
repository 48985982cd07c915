/- The reference's fractions: Ratio. -/
import Derived.Test.YtmhmkhdgpfhnfaaGreatDoorRA
set_option linter.unusedVariables false
set_option linter.unusedSimpArgs false
set_option linter.unnecessarySimpa false
namespace Go.Proofs.YtmhmkhdgpfhnfaaGreatDoor.Ref
open Go.RowKit

theorem LbA.touch {T g n : Nat} {w w' : World} {v : Value} {l : List Nat} {xs : List Value} (h : LbA w v l) (hr : Row T w g xs) (hx : Bx n xs) (t : Touch g w w') : LbA w' v l := by
  have hne := h.ne_row hr hx.2
  obtain ⟨p, cap, hv, hl, hm, hn, hp⟩ := h
  refine ⟨p, cap, hv, hl, hm, hn, fun h0 => ?_⟩
  obtain ⟨ad, hp, hbs, hc⟩ := hp h0
  subst hp
  refine ⟨ad, rfl, by rw [t.size]; exact hbs, fun i hi => ?_⟩
  rw [World.cell?_of_block (w := w) (t.other _ (by rw [block_add]; exact hne ad _ _ hv h0))]
  exact hc i hi
theorem Zv.touch {T g n : Nat} {w w' : World} {v : Value} {z : Int} {xs : List Value} (h : Zv w v z) (hr : Row T w g xs) (hx : Bx n xs) (t : Touch g w w') : Zv w' v z := by
  obtain ⟨p, c, h1, h2⟩ := h
  exact ⟨p, c, h1, h2.touch hr hx t⟩
theorem stays_zv {ks : List Kd} (h : ∀ (i : Nat) M, ks[i]? = some (.mem M) → ∃ z, M = fun u W => Zv W u z) : Stays ks :=
  ⟨fun i M v w w' hk hv hb => by obtain ⟨z, rfl⟩ := h i M hk; exact Zv.below hv hb,
   fun i M v w w' j g b k T n xs hk _ hr hx t hv => by obtain ⟨z, rfl⟩ := h i M hk; exact Zv.touch hv hr hx t⟩
/-- a fraction of the reference -/
def Qv (w : World) (v : Value) (n d : Int) : Prop := ∃ b1 s1 b2 s2, v = .agg #[.bool b1, s1, .bool b2, s2] ∧ Zv w (.agg #[.bool b1, s1]) n ∧ Zv w (.agg #[.bool b2, s2]) d
theorem Qv.below {w w' : World} {v : Value} {n d : Int} (h : Qv w v n d) (hb : Below w.heap.size w w') : Qv w' v n d := by
  obtain ⟨b1, s1, b2, s2, h1, h2, h3⟩ := h
  exact ⟨b1, s1, b2, s2, h1, h2.below hb, h3.below hb⟩
def OutQ (w : World) (n d : Int) (e : Ending) (w' : World) : Prop := ∃ v, e = .returned v ∧ Qv w' v n d ∧ Below w.heap.size w w'
theorem row4 {T : TypeId} {w : World} {h : Nat} {x0 x1 x2 x3 : Value} (r : Row T w h [x0, x1, x2, x3]) (y0 y1 y2 y3 : Value) :
    (w.cell? ⟨h, 0, none⟩ = some x0 ∧ w.frozen? ⟨h, 0, none⟩ = false) ∧
    ((w.setCell ⟨h, 0, none⟩ y0).cell? ⟨h, 1, none⟩ = some x1 ∧ (w.setCell ⟨h, 0, none⟩ y0).frozen? ⟨h, 1, none⟩ = false) ∧
    (((w.setCell ⟨h, 0, none⟩ y0).setCell ⟨h, 1, none⟩ y1).cell? ⟨h, 2, none⟩ = some x2 ∧ ((w.setCell ⟨h, 0, none⟩ y0).setCell ⟨h, 1, none⟩ y1).frozen? ⟨h, 2, none⟩ = false) ∧
    ((((w.setCell ⟨h, 0, none⟩ y0).setCell ⟨h, 1, none⟩ y1).setCell ⟨h, 2, none⟩ y2).cell? ⟨h, 3, none⟩ = some x3 ∧ (((w.setCell ⟨h, 0, none⟩ y0).setCell ⟨h, 1, none⟩ y1).setCell ⟨h, 2, none⟩ y2).frozen? ⟨h, 3, none⟩ = false) ∧
    Row T ((((w.setCell ⟨h, 0, none⟩ y0).setCell ⟨h, 1, none⟩ y1).setCell ⟨h, 2, none⟩ y2).setCell ⟨h, 3, none⟩ y3) h [y0, y1, y2, y3] := by
  have r1 := r.store 0 y0
  have r2 := r1.store 1 y1
  have r3 := r2.store 2 y2
  exact ⟨⟨r.cell 0, r.free 0⟩, ⟨r1.cell 1, r1.free 1⟩, ⟨r2.cell 2, r2.free 2⟩, ⟨r3.cell 3, r3.free 3⟩, r3.store 3 y3⟩
theorem LbA.put4 {T g : Nat} {w : World} {v x0 x1 x2 x3 : Value} {l : List Nat} (h : LbA w v l) (hr : Row T w g [x0, x1, x2, x3]) (h0 : NoInt x0) (h1 : NoInt x1) (h2 : NoInt x2) (h3 : NoInt x3) (y0 y1 y2 y3 : Value) :
    LbA ((((w.setCell ⟨g, 0, none⟩ y0).setCell ⟨g, 1, none⟩ y1).setCell ⟨g, 2, none⟩ y2).setCell ⟨g, 3, none⟩ y3) v l := by
  have hn := h.ne_row hr (Bx.four h0 h1 h2 h3).2
  exact (((h.far hn y0).far hn y1).far hn y2).far hn y3
theorem Zv.put4 {T g : Nat} {w : World} {v x0 x1 x2 x3 : Value} {z : Int} (h : Zv w v z) (hr : Row T w g [x0, x1, x2, x3]) (h0 : NoInt x0) (h1 : NoInt x1) (h2 : NoInt x2) (h3 : NoInt x3) (y0 y1 y2 y3 : Value) :
    Zv ((((w.setCell ⟨g, 0, none⟩ y0).setCell ⟨g, 1, none⟩ y1).setCell ⟨g, 2, none⟩ y2).setCell ⟨g, 3, none⟩ y3) v z := by
  obtain ⟨p, c, e1, e2⟩ := h
  exact ⟨p, c, e1, e2.put4 hr h0 h1 h2 h3 y0 y1 y2 y3⟩
theorem Zv.put2 {T g : Nat} {w : World} {v x0 x1 : Value} {z : Int} (h : Zv w v z) (hr : Row T w g [x0, x1]) (h0 : NoInt x0) (h1 : NoInt x1) (y0 y1 : Value) :
    Zv ((w.setCell ⟨g, 0, none⟩ y0).setCell ⟨g, 1, none⟩ y1) v z := by
  obtain ⟨p, c, e1, e2⟩ := h
  exact ⟨p, c, e1, e2.put2 hr h0 h1 y0 y1⟩
theorem Row.put2 {T U g k : Nat} {w : World} {xs : List Value} (h : Row T w k xs) (hk : k ≠ g) (y0 y1 : Value) : Row T ((w.setCell ⟨g, 0, none⟩ y0).setCell ⟨g, 1, none⟩ y1) k xs :=
  (h.other ⟨g, 0, none⟩ (fun e => hk e.symm) y0).other ⟨g, 1, none⟩ (fun e => hk e.symm) y1
/-- lowest terms -/
def ratN (x y : Int) : Int := if y < 0 then -(x.tdiv (Nat.gcd x.natAbs y.natAbs : Nat)) else x.tdiv (Nat.gcd x.natAbs y.natAbs : Nat)
def ratD (x y : Int) : Int := if y < 0 then -(y.tdiv (Nat.gcd x.natAbs y.natAbs : Nat)) else y.tdiv (Nat.gcd x.natAbs y.natAbs : Nat)
theorem tdiv_sign {y : Int} {g : Nat} (hd : g ∣ y.natAbs) (hg : 0 < g) (hy : y ≠ 0) : (y.tdiv (g : Int) < 0 ↔ y < 0) := by
  obtain ⟨q, hq⟩ := hd
  have hq0 : q ≠ 0 := by rintro rfl; rw [Nat.mul_zero] at hq; omega
  by_cases h : y < 0
  · have e : y = -((g : Int) * q) := by rw [← Int.natCast_mul, ← hq]; omega
    rw [e, Int.neg_tdiv, Int.mul_tdiv_cancel_left _ (by omega)]
    refine ⟨fun _ => ?_, fun _ => by omega⟩
    have : 0 < (g : Int) * q := Int.mul_pos (by omega) (by omega)
    omega
  · have e : y = (g : Int) * q := by rw [← Int.natCast_mul, ← hq]; omega
    have h1 : 0 ≤ (g : Int) * q := Int.mul_nonneg (by omega) (by omega)
    rw [e, Int.mul_tdiv_cancel_left _ (by omega)]
    refine ⟨fun h2 => by omega, fun h2 => by omega⟩
set_option maxRecDepth 100000 in
set_option maxHeartbeats 2000000 in
theorem ratio_go (x y : Int) (v1 v2 : Value) (w : World) (h1 : Zv w v1 x) (h2 : Zv w v2 y) (hy : y ≠ 0) (hl1 : (limbs x.natAbs).length ≤ 800000) (hl2 : (limbs y.natAbs).length ≤ 800000) :
    Calls Tryz.prog 81 #[v1, v2] w (OutQ w (ratN x y) (ratD x y)) := by
  have HZ1 := Lib.hid h1
  have HZ2 := Lib.hid h2
  obtain ⟨p1, c1, rfl, _⟩ := h1
  obtain ⟨p2, c2, rfl, _⟩ := h2
  obtain ⟨b1, hb1⟩ : ∃ b, decide (x < 0) = b := ⟨_, rfl⟩
  obtain ⟨b2, hb2⟩ : ∃ b, decide (y < 0) = b := ⟨_, rfl⟩
  obtain ⟨s1, hs1⟩ : ∃ s, Value.slice p1 (limbs x.natAbs).length c1 = s := ⟨_, rfl⟩
  obtain ⟨s2, hs2⟩ : ∃ s, Value.slice p2 (limbs y.natAbs).length c2 = s := ⟨_, rfl⟩
  have HS := Lib.hid (show NoInt s1 ∧ NoInt s2 by rw [← hs1, ← hs2]; exact ⟨noInt_slice _ _ _, noInt_slice _ _ _⟩)
  rw [hb1, hs1] at HZ1 ⊢
  rw [hb2, hs2] at HZ2 ⊢
  clear hb1 hb2 hs1 hs2
  obtain ⟨g, hg⟩ : ∃ g, Nat.gcd x.natAbs y.natAbs = g := ⟨_, rfl⟩
  have hg0 : 0 < g := by rw [← hg]; exact Nat.gcd_pos_of_pos_right _ (by omega)
  have hgd : g ∣ y.natAbs := by rw [← hg]; exact Nat.gcd_dvd_right _ _
  have HSG := Lib.hid (tdiv_sign hgd hg0 hy)
  have HLG := Lib.hid (show (limbs ((g : Int)).natAbs).length ≤ 800000 from Nat.le_trans (limbs_mono (by rw [Int.natAbs_natCast]; exact Nat.le_of_dvd (by omega) hgd)) hl2)
  have HN : Hid (ratN x y = if y.tdiv (g : Int) < 0 then -(x.tdiv (g : Int)) else x.tdiv (g : Int)) := by
    show _ = _
    unfold ratN
    rw [hg]
    by_cases h : y < 0
    · rw [if_pos h, if_pos (HSG.out.2 h)]
    · rw [if_neg h, if_neg (fun e => h (HSG.out.1 e))]
  have HDD : Hid (ratD x y = if y.tdiv (g : Int) < 0 then -(y.tdiv (g : Int)) else y.tdiv (g : Int)) := by
    show _ = _
    unfold ratD
    rw [hg]
    by_cases h : y < 0
    · rw [if_pos h, if_pos (HSG.out.2 h)]
    · rw [if_neg h, if_neg (fun e => h (HSG.out.1 e))]
  have HG := Lib.hid hg
  have HL := Lib.hid (And.intro hl1 hl2)
  obtain ⟨nn, hnn⟩ : ∃ n, ratN x y = n := ⟨_, rfl⟩
  obtain ⟨dd, hdd⟩ : ∃ d, ratD x y = d := ⟨_, rfl⟩
  rw [hnn] at HN ⊢
  rw [hdd] at HDD ⊢
  clear hg hgd hl1 hl2 hnn hdd
  go_enter Tryz.func81, Tryz.ntmps81
  go_upto_region 1 with (fail)
  obtain ⟨x1, x2, x3, x4, x5⟩ := three_boxes w 34 34 36 #[.bool b1, s1] #[.bool b2, s2] #[.bool false, .slice none 0 0, .bool false, .slice none 0 0]
  rw [show w.heap.size + 1 + 1 = w.heap.size + 2 from rfl]
  generalize ((w.alloc (.cells #[.bool b1, s1] 34)).alloc (.cells #[.bool b2, s2] 34)).alloc (.cells #[.bool false, .slice none 0 0, .bool false, .slice none 0 0] 36) = W0 at *
  obtain ⟨h, hh⟩ : ∃ h, w.heap.size = h := ⟨_, rfl⟩
  have HH := Lib.hid hh
  have K1 : Hid (Zv W0 (.agg #[.bool b1, s1]) x) := HZ1.out.below x4
  have K2 : Hid (Zv W0 (.agg #[.bool b2, s2]) y) := HZ2.out.below x4
  rw [hh] at x1 x2 x3 x4 x5 ⊢
  have q1 := x1.cell 0
  have q2 := x1.cell 1
  have q3 := x2.cell 0
  have q4 := x2.cell 1
  simp only [List.getElem?_cons_zero, List.getElem?_cons_succ] at q1 q2 q3 q4
  have X1 := Lib.hid x1
  have X2 := Lib.hid x2
  have X3 := Lib.hid x3
  have X4 := Lib.hid x4
  have X5 := Lib.hid x5
  clear x1 x2 x3 x4 x5 hh HZ1 HZ2
  go_wp2_with fail
  refine (gcdZ_go x y _ _ W0 K1.out K2.out HL.out.1 HL.out.2).mono ?_
  rw [HG.out]
  rintro e w1 ⟨v, rfl, hv, hb1⟩
  have HV := Lib.hid hv
  obtain ⟨p, c, rfl, _⟩ := hv
  obtain ⟨bg, hbg⟩ : ∃ b, decide ((g : Int) < 0) = b := ⟨_, rfl⟩
  obtain ⟨ng, hng⟩ : ∃ n, (limbs ((g : Int)).natAbs).length = n := ⟨_, rfl⟩
  rw [hbg, hng] at HV ⊢
  have hbx := row_new 34 w1 #[.bool bg, .slice p ng c]
  have hbb := (Below.refl w1.heap.size w1).alloc (Nat.le_refl _) (.cells #[.bool bg, .slice p ng c] 34)
  have hsz : (w1.alloc (.cells #[.bool bg, .slice p ng c] 34)).heap.size = w1.heap.size + 1 := by simp
  have HB1 := Lib.hid hb1
  clear hb1 hbg hng
  go_upto_region 2 with (fail)
  have hW1 := Below.trans (HB1.out) (hbb.mono HB1.out.size)
  have hszl : w1.heap.size < (w1.alloc (.cells #[.bool bg, .slice p ng c] 34)).heap.size := by rw [hsz]; exact Nat.lt_succ_self _
  obtain ⟨hg, hhg⟩ : ∃ k, w1.heap.size = k := ⟨_, rfl⟩
  have KG : Hid (Zv (w1.alloc (.cells #[.bool bg, .slice p ng c] 34)) (.agg #[.bool bg, .slice p ng c]) g) := HV.out.below hbb
  rw [hhg] at hbx hbb hsz hszl ⊢
  generalize w1.alloc (.cells #[.bool bg, .slice p ng c] 34) = W1 at *
  have G1 := Lib.hid hbx
  have HW1 := Lib.hid hW1
  have HGS := Lib.hid hszl
  have HG3 := Lib.hid (show h + 3 ≤ hg by have := HB1.out.size; rw [X5.out, hhg] at this; exact this)
  have Y1 := Lib.hid (X1.out.below hW1 X1.out.lt)
  have Y2 := Lib.hid (X2.out.below hW1 X2.out.lt)
  have Y3 := Lib.hid (X3.out.below hW1 X3.out.lt)
  have J1 := Lib.hid (K1.out.below hW1)
  have J2 := Lib.hid (K2.out.below hW1)
  clear hbx hbb hsz hszl hW1 hhg q1 q2 q3 q4
  refine wp_region_rel_tails (by kernel_rfl) 8 26 rfl (by kernel_rfl) (by kernel_rfl) [.fix (.agg #[.bool b1, s1]), .fix (.agg #[.bool bg, .slice p ng c]), .mem (fun u W => Zv W u (x.tdiv (g : Int))), .fix (.agg #[.bool b2, s2]), .fix (.agg #[.bool bg, .slice p ng c]), .mem (fun u W => Zv W u (y.tdiv (g : Int))), .box 34 2, .box 34 2] rfl (stays_zv (fun i M hk => by rcases i with _ | _ | _ | _ | _ | _ | _ | _ | i <;> simp at hk <;> exact ⟨_, hk.symm⟩)) ?hop ?hQ
  case hop =>
    intro W hW j o hj vs w1' hb hV
    simp only [List.take_succ_cons, List.take_zero] at hj
    have hj' : j < 8 := (List.getElem?_eq_some_iff.1 hj).1
    rcases (by omega : j = 0 ∨ j = 1 ∨ j = 2 ∨ j = 3 ∨ j = 4 ∨ j = 5 ∨ j = 6 ∨ j = 7) with rfl | rfl | rfl | rfl | rfl | rfl | rfl | rfl
    · cases hj
      clear hj'
      refine .inl ⟨rfl, ?_⟩
      simp only [List.take_succ_cons, List.take_zero]
      generalize hG : relUpon _ _ _ = G
      have hbw : Below W1.heap.size W1 w1' := by rw [hW] at hb; exact ((Below.refl W1.heap.size W1).drew).trans hb
      have d0 := (Y1.out.below hbw Y1.out.lt).cell 0
      have d1 := (Y1.out.below hbw Y1.out.lt).cell 1
      simp only [List.getElem?_cons_zero, List.getElem?_cons_succ] at d0 d1
      clear hbw hW hb hV
      subst hG
      simp only [putAll]
      generalize hR : Res _ _ vs w1' = R
      go_simp
      subst hR
      exact ⟨rfl, Below.refl _ _⟩
    · cases hj
      clear hj'
      refine .inl ⟨rfl, ?_⟩
      simp only [List.take_succ_cons, List.take_zero]
      generalize hG : relUpon _ _ _ = G
      have hbw : Below W1.heap.size W1 w1' := by rw [hW] at hb; exact ((Below.refl W1.heap.size W1).drew).trans hb
      have d0 := (G1.out.below hbw G1.out.lt).cell 0
      have d1 := (G1.out.below hbw G1.out.lt).cell 1
      simp only [List.getElem?_cons_zero, List.getElem?_cons_succ] at d0 d1
      clear hbw hW hb hV
      subst hG
      simp only [putAll]
      generalize hR : Res _ _ vs w1' = R
      go_simp
      subst hR
      exact ⟨rfl, Below.refl _ _⟩
    · cases hj
      clear hj'
      refine .inl ⟨rfl, ?_⟩
      simp only [List.take_succ_cons, List.take_zero]
      generalize hG : relUpon _ _ _ = G
      have hbw : Below W1.heap.size W1 w1' := by rw [hW] at hb; exact ((Below.refl W1.heap.size W1).drew).trans hb
      have q0_ : vs 0 = _ := hV 0 (by decide)
      have q1_ : vs 1 = _ := hV 1 (by decide)
      have HBW := Lib.hid hbw
      clear hbw hW hb hV
      subst hG
      simp only [putAll]
      generalize hR : Res _ _ vs w1' = R
      go_simp
      subst hR
      refine (quo_go x (g : Int) _ _ w1' (J1.out.below HBW.out) (KG.out.below HBW.out) (by omega) HL.out.1 HLG.out).mono ?_
      rintro e w2 ⟨v, rfl, hz, hb2⟩
      exact ⟨_, rfl, hz, hb2⟩
    · cases hj
      clear hj'
      refine .inl ⟨rfl, ?_⟩
      simp only [List.take_succ_cons, List.take_zero]
      generalize hG : relUpon _ _ _ = G
      have hbw : Below W1.heap.size W1 w1' := by rw [hW] at hb; exact ((Below.refl W1.heap.size W1).drew).trans hb
      have d0 := (Y2.out.below hbw Y2.out.lt).cell 0
      have d1 := (Y2.out.below hbw Y2.out.lt).cell 1
      simp only [List.getElem?_cons_zero, List.getElem?_cons_succ] at d0 d1
      clear hbw hW hb hV
      subst hG
      simp only [putAll]
      generalize hR : Res _ _ vs w1' = R
      go_simp
      subst hR
      exact ⟨rfl, Below.refl _ _⟩
    · cases hj
      clear hj'
      refine .inl ⟨rfl, ?_⟩
      simp only [List.take_succ_cons, List.take_zero]
      generalize hG : relUpon _ _ _ = G
      have hbw : Below W1.heap.size W1 w1' := by rw [hW] at hb; exact ((Below.refl W1.heap.size W1).drew).trans hb
      have d0 := (G1.out.below hbw G1.out.lt).cell 0
      have d1 := (G1.out.below hbw G1.out.lt).cell 1
      simp only [List.getElem?_cons_zero, List.getElem?_cons_succ] at d0 d1
      clear hbw hW hb hV
      subst hG
      simp only [putAll]
      generalize hR : Res _ _ vs w1' = R
      go_simp
      subst hR
      exact ⟨rfl, Below.refl _ _⟩
    · cases hj
      clear hj'
      refine .inl ⟨rfl, ?_⟩
      simp only [List.take_succ_cons, List.take_zero]
      generalize hG : relUpon _ _ _ = G
      have hbw : Below W1.heap.size W1 w1' := by rw [hW] at hb; exact ((Below.refl W1.heap.size W1).drew).trans hb
      have q3_ : vs 3 = _ := hV 3 (by decide)
      have q4_ : vs 4 = _ := hV 4 (by decide)
      have HBW := Lib.hid hbw
      clear hbw hW hb hV
      subst hG
      simp only [putAll]
      generalize hR : Res _ _ vs w1' = R
      go_simp
      subst hR
      refine (quo_go y (g : Int) _ _ w1' (J2.out.below HBW.out) (KG.out.below HBW.out) (by omega) HL.out.2 HLG.out).mono ?_
      rintro e w2 ⟨v, rfl, hz, hb2⟩
      exact ⟨_, rfl, hz, hb2⟩
    · cases hj
      clear hj'
      refine .inl ⟨rfl, ?_⟩
      simp only [List.take_succ_cons, List.take_zero]
      generalize hG : relUpon _ _ _ = G
      clear hW hb hV
      subst hG
      simp only [putAll]
      generalize hR : Res _ _ vs w1' = R
      go_simp
      subst hR
      exact ⟨[.bool false, .slice none 0 0], rfl, rfl, Bx.two (noInt_bool _) (noInt_slice _ _ _)⟩
    · cases hj
      clear hj'
      refine .inl ⟨rfl, ?_⟩
      simp only [List.take_succ_cons, List.take_zero]
      generalize hG : relUpon _ _ _ = G
      clear hW hb hV
      subst hG
      simp only [putAll]
      generalize hR : Res _ _ vs w1' = R
      go_simp
      subst hR
      exact ⟨[.bool false, .slice none 0 0], rfl, rfl, Bx.two (noInt_bool _) (noInt_slice _ _ _)⟩
  case hQ =>
    intro W hW vs w2 hb hV hD
    obtain ⟨g6, xs6, e6, hg6, r6, hx6⟩ := hV 6 (by omega)
    obtain ⟨g7, xs7, e7, hg7, r7, hx7⟩ := hV 7 (by omega)
    have hne : g6 ≠ g7 := fun e => hD 6 7 _ _ _ _ (by decide) rfl rfl (by omega) (by omega) (by rw [e6, e7, e])
    obtain ⟨x0, x1, rfl⟩ : ∃ x0 x1, xs6 = [x0, x1] := by
      rcases xs6 with _ | ⟨x0, _ | ⟨x1, _ | ⟨x2, xs⟩⟩⟩ <;> first | exact ⟨_, _, rfl⟩ | (have := hx6.1; simp at this)
    obtain ⟨x2, x3, rfl⟩ : ∃ x0 x1, xs7 = [x0, x1] := by
      rcases xs7 with _ | ⟨x0, _ | ⟨x1, _ | ⟨x2, xs⟩⟩⟩ <;> first | exact ⟨_, _, rfl⟩ | (have := hx7.1; simp at this)
    have n60 : NoInt x0 := hx6.2 _ (by simp)
    have n61 : NoInt x1 := hx6.2 _ (by simp)
    have n70 : NoInt x2 := hx7.2 _ (by simp)
    have n71 : NoInt x3 := hx7.2 _ (by simp)
    rw [hW] at hg6 hg7 hb
    have hbw : Below W1.heap.size W1 w2 := ((Below.refl W1.heap.size W1).drew).trans hb
    have hh3 : h + 3 ≤ W1.heap.size := by have := HGS.out; have := HG3.out; omega
    have hg6 : h + 3 ≤ g6 := Nat.le_trans hh3 hg6
    have hg7 : h + 3 ≤ g7 := Nat.le_trans hh3 hg7
    have rh := Y3.out.below hbw Y3.out.lt
    have hbe : Below h w w2 := X4.out.trans ((HW1.out.mono (by rw [X5.out]; omega)).trans (hbw.mono (by omega)))
    clear hx6 hx7
    have e0 : vs 0 = _ := hV 0 (by omega)
    have e1 : vs 1 = _ := hV 1 (by omega)
    have e3 : vs 3 = _ := hV 3 (by omega)
    have e4 : vs 4 = _ := hV 4 (by omega)
    obtain ⟨pn, cn, eA, hzA⟩ : Zv w2 (vs 2) (x.tdiv (g : Int)) := hV 2 (by omega)
    obtain ⟨pd, cd, eB, hzB⟩ : Zv w2 (vs 5) (y.tdiv (g : Int)) := hV 5 (by omega)
    obtain ⟨bn, hbn⟩ : ∃ b, decide ((x.tdiv (g : Int)) < 0) = b := ⟨_, rfl⟩
    obtain ⟨bd, hbd⟩ : ∃ b, decide ((y.tdiv (g : Int)) < 0) = b := ⟨_, rfl⟩
    obtain ⟨lN, hlN⟩ : ∃ n, (limbs (x.tdiv (g : Int)).natAbs).length = n := ⟨_, rfl⟩
    obtain ⟨lD, hlD⟩ : ∃ n, (limbs (y.tdiv (g : Int)).natAbs).length = n := ⟨_, rfl⟩
    have hZA : Zv w2 (.agg #[.bool bn, .slice pn lN cn]) (x.tdiv (g : Int)) := by rw [← hbn, ← hlN]; exact ⟨pn, cn, rfl, hzA⟩
    have hZB : Zv w2 (.agg #[.bool bd, .slice pd lD cd]) (y.tdiv (g : Int)) := by rw [← hbd, ← hlD]; exact ⟨pd, cd, rfl, hzB⟩
    rw [hbn, hlN] at eA
    rw [hbd, hlD] at eB
    have hgne : g6 ≠ g7 := hne
    obtain ⟨⟨f1, f2⟩, ⟨f3, f4⟩, f5⟩ := row2 r6 (.bool bn) (.slice pn lN cn)
    obtain ⟨⟨f6, f7⟩, ⟨f8, f9⟩, f10⟩ := row2 (r7.put2 (U := 0) (g := g6) (fun e => hgne e.symm) (.bool bn) (.slice pn lN cn)) (.bool bd) (.slice pd lD cd)
    have f11 := f5.put2 (U := 0) (g := g7) hgne (.bool bd) (.slice pd lD cd)
    have f12 := (rh.put2 (U := 0) (g := g6) (by omega) (.bool bn) (.slice pn lN cn)).put2 (U := 0) (g := g7) (by omega) (.bool bd) (.slice pd lD cd)
    have hr7' := r7.put2 (U := 0) (g := g6) (fun e => hgne e.symm) (.bool bn) (.slice pn lN cn)
    have z1 := (hZA.put2 r6 n60 n61 (.bool bn) (.slice pn lN cn)).put2 hr7' n70 n71 (.bool bd) (.slice pd lD cd)
    have z2 := (hZB.put2 r6 n60 n61 (.bool bn) (.slice pn lN cn)).put2 hr7' n70 n71 (.bool bd) (.slice pd lD cd)
    have b1' := (((hbe.setCell (p := ⟨g6, 0, none⟩) (show h ≤ g6 by omega) (.bool bn)).setCell (p := ⟨g6, 1, none⟩) (show h ≤ g6 by omega) (.slice pn lN cn)).setCell (p := ⟨g7, 0, none⟩) (show h ≤ g7 by omega) (.bool bd)).setCell (p := ⟨g7, 1, none⟩) (show h ≤ g7 by omega) (.slice pd lD cd)
    have ZX1 := Lib.hid z1
    have ZX2 := Lib.hid z2
    have BX := Lib.hid b1'
    have RX6 := Lib.hid f11
    have RX7 := Lib.hid f10
    have RXH := Lib.hid f12
    have HBD := Lib.hid hbd
    have HGN := Lib.hid hgne
    have HG6 := Lib.hid (And.intro hg6 hg7)
    clear hV hD hb hW hzA hzB hZA hZB hr7' z1 z2 b1' f5 f10 f11 f12 r6 r7 rh hbn hbd hlN hlD hbe hne hgne hg6 hg7 n60 n61 n70 n71
    generalize hKK : Exit.then _ _ = KK
    simp only [List.take_succ_cons, List.take_zero, List.drop_succ_cons, List.drop_zero, putAll, e0, e1, e3, e4, eA, eB, e6, e7]
    go_simp
    subst hKK
    clear e0 e1 e3 e4 eA eB e6 e7
    go_upto_region 3 with (fail)
    generalize (((w2.setCell ⟨g6, 0, none⟩ (.bool bn)).setCell ⟨g6, 1, none⟩ (.slice pn lN cn)).setCell ⟨g7, 0, none⟩ (.bool bd)).setCell ⟨g7, 1, none⟩ (.slice pd lD cd) = wX at *
    clear f1 f2 f3 f4 f6 f7 f8 f9
    clear HS Y1 Y2 Y3 J1 J2 G1 HW1 KG
    by_cases hs : y.tdiv (g : Int) < 0
    · obtain rfl : bd = true := by rw [← HBD.out]; exact decide_eq_true hs
      have HNN : Hid (nn = -(x.tdiv (g : Int))) := by show _ = _; rw [HN.out, if_pos hs]
      have HND : Hid (dd = -(y.tdiv (g : Int))) := by show _ = _; rw [HDD.out, if_pos hs]
      have k70 := RX7.out.cell 0
      simp only [List.getElem?_cons_zero, List.getElem?_cons_succ] at k70
      clear hs
      go_upto_region 4 with (fail)
      refine wp_region_rel_tails (by kernel_rfl) 4 26 rfl (by kernel_rfl) (by kernel_rfl) [.fix (.agg #[.bool bn, .slice pn lN cn]), .mem (fun u W => Zv W u (-(x.tdiv (g : Int)))), .fix (.agg #[.bool true, .slice pd lD cd]), .mem (fun u W => Zv W u (-(y.tdiv (g : Int))))] rfl (stays_zv (fun i M hk => by rcases i with _ | _ | _ | _ | _ | _ | _ | _ | i <;> simp at hk <;> exact ⟨_, hk.symm⟩)) ?hop ?hQ
      case hop =>
        intro W hW j o hj vs w1' hb hV
        simp only [List.take_succ_cons, List.take_zero] at hj
        have hj' : j < 4 := (List.getElem?_eq_some_iff.1 hj).1
        rcases (by omega : j = 0 ∨ j = 1 ∨ j = 2 ∨ j = 3) with rfl | rfl | rfl | rfl
        · cases hj
          clear hj'
          refine .inl ⟨rfl, ?_⟩
          simp only [List.take_succ_cons, List.take_zero]
          generalize hG : relUpon _ _ _ = G
          have hbw : Below wX.heap.size wX w1' := by rw [hW] at hb; exact ((Below.refl wX.heap.size wX).drew).trans hb
          have d0 := (RX6.out.below hbw RX6.out.lt).cell 0
          have d1 := (RX6.out.below hbw RX6.out.lt).cell 1
          simp only [List.getElem?_cons_zero, List.getElem?_cons_succ] at d0 d1
          clear hbw hW hb hV
          subst hG
          simp only [putAll]
          generalize hR : Res _ _ vs w1' = R
          go_simp
          subst hR
          exact ⟨rfl, Below.refl _ _⟩
        · cases hj
          clear hj'
          refine .inl ⟨rfl, ?_⟩
          simp only [List.take_succ_cons, List.take_zero]
          generalize hG : relUpon _ _ _ = G
          have hbw : Below wX.heap.size wX w1' := by rw [hW] at hb; exact ((Below.refl wX.heap.size wX).drew).trans hb
          have q0_ : vs 0 = _ := hV 0 (by decide)
          have HBW := Lib.hid hbw
          clear hbw hW hb hV
          subst hG
          simp only [putAll]
          generalize hR : Res _ _ vs w1' = R
          go_simp
          subst hR
          refine (neg_go _ _ w1' (ZX1.out.below HBW.out)).mono ?_
          rintro e w2 ⟨v, rfl, hz, hb2⟩
          exact ⟨_, rfl, hz, hb2⟩
        · cases hj
          clear hj'
          refine .inl ⟨rfl, ?_⟩
          simp only [List.take_succ_cons, List.take_zero]
          generalize hG : relUpon _ _ _ = G
          have hbw : Below wX.heap.size wX w1' := by rw [hW] at hb; exact ((Below.refl wX.heap.size wX).drew).trans hb
          have d0 := (RX7.out.below hbw RX7.out.lt).cell 0
          have d1 := (RX7.out.below hbw RX7.out.lt).cell 1
          simp only [List.getElem?_cons_zero, List.getElem?_cons_succ] at d0 d1
          clear hbw hW hb hV
          subst hG
          simp only [putAll]
          generalize hR : Res _ _ vs w1' = R
          go_simp
          subst hR
          exact ⟨rfl, Below.refl _ _⟩
        · cases hj
          clear hj'
          refine .inl ⟨rfl, ?_⟩
          simp only [List.take_succ_cons, List.take_zero]
          generalize hG : relUpon _ _ _ = G
          have hbw : Below wX.heap.size wX w1' := by rw [hW] at hb; exact ((Below.refl wX.heap.size wX).drew).trans hb
          have q2_ : vs 2 = _ := hV 2 (by decide)
          have HBW := Lib.hid hbw
          clear hbw hW hb hV
          subst hG
          simp only [putAll]
          generalize hR : Res _ _ vs w1' = R
          go_simp
          subst hR
          refine (neg_go _ _ w1' (ZX2.out.below HBW.out)).mono ?_
          rintro e w2 ⟨v, rfl, hz, hb2⟩
          exact ⟨_, rfl, hz, hb2⟩
      case hQ =>
        intro W hW vs w2 hb hV hD
        have hbw : Below wX.heap.size wX w2 := by rw [hW] at hb; exact ((Below.refl wX.heap.size wX).drew).trans hb
        have r6 := RX6.out.below hbw RX6.out.lt
        have r7 := RX7.out.below hbw RX7.out.lt
        have rh := RXH.out.below hbw RXH.out.lt
        have hne : g6 ≠ g7 := HGN.out
        have hg6 : h + 3 ≤ g6 := HG6.out.1
        have hg7 : h + 3 ≤ g7 := HG6.out.2
        have hbe : Below h w w2 := BX.out.trans (hbw.mono (by have := RX6.out.lt; omega))
        have n60 : NoInt (.bool bn) := noInt_bool _
        have n61 : NoInt (.slice pn lN cn) := noInt_slice _ _ _
        have n70 : NoInt (.bool true) := noInt_bool _
        have n71 : NoInt (.slice pd lD cd) := noInt_slice _ _ _
        clear RX6 RX7 RXH ZX1 ZX2 BX HGN HG6 HBD hbw
        have e0 : vs 0 = _ := hV 0 (by omega)
        have e2 : vs 2 = _ := hV 2 (by omega)
        obtain ⟨pn, cn, eA, hzA⟩ : Zv w2 (vs 1) (-(x.tdiv (g : Int))) := hV 1 (by omega)
        obtain ⟨pd, cd, eB, hzB⟩ : Zv w2 (vs 3) (-(y.tdiv (g : Int))) := hV 3 (by omega)
        obtain ⟨bn, hbn⟩ : ∃ b, decide ((-(x.tdiv (g : Int))) < 0) = b := ⟨_, rfl⟩
        obtain ⟨bd, hbd⟩ : ∃ b, decide ((-(y.tdiv (g : Int))) < 0) = b := ⟨_, rfl⟩
        obtain ⟨lN, hlN⟩ : ∃ n, (limbs (-(x.tdiv (g : Int))).natAbs).length = n := ⟨_, rfl⟩
        obtain ⟨lD, hlD⟩ : ∃ n, (limbs (-(y.tdiv (g : Int))).natAbs).length = n := ⟨_, rfl⟩
        have hZA : Zv w2 (.agg #[.bool bn, .slice pn lN cn]) (-(x.tdiv (g : Int))) := by rw [← hbn, ← hlN]; exact ⟨pn, cn, rfl, hzA⟩
        have hZB : Zv w2 (.agg #[.bool bd, .slice pd lD cd]) (-(y.tdiv (g : Int))) := by rw [← hbd, ← hlD]; exact ⟨pd, cd, rfl, hzB⟩
        rw [hbn, hlN] at eA
        rw [hbd, hlD] at eB
        have hgne : g6 ≠ g7 := hne
        obtain ⟨⟨f1, f2⟩, ⟨f3, f4⟩, f5⟩ := row2 r6 (.bool bn) (.slice pn lN cn)
        obtain ⟨⟨f6, f7⟩, ⟨f8, f9⟩, f10⟩ := row2 (r7.put2 (U := 0) (g := g6) (fun e => hgne e.symm) (.bool bn) (.slice pn lN cn)) (.bool bd) (.slice pd lD cd)
        have f11 := f5.put2 (U := 0) (g := g7) hgne (.bool bd) (.slice pd lD cd)
        have f12 := (rh.put2 (U := 0) (g := g6) (by omega) (.bool bn) (.slice pn lN cn)).put2 (U := 0) (g := g7) (by omega) (.bool bd) (.slice pd lD cd)
        have hr7' := r7.put2 (U := 0) (g := g6) (fun e => hgne e.symm) (.bool bn) (.slice pn lN cn)
        have z1 := (hZA.put2 r6 n60 n61 (.bool bn) (.slice pn lN cn)).put2 hr7' n70 n71 (.bool bd) (.slice pd lD cd)
        have z2 := (hZB.put2 r6 n60 n61 (.bool bn) (.slice pn lN cn)).put2 hr7' n70 n71 (.bool bd) (.slice pd lD cd)
        have b1' := (((hbe.setCell (p := ⟨g6, 0, none⟩) (show h ≤ g6 by omega) (.bool bn)).setCell (p := ⟨g6, 1, none⟩) (show h ≤ g6 by omega) (.slice pn lN cn)).setCell (p := ⟨g7, 0, none⟩) (show h ≤ g7 by omega) (.bool bd)).setCell (p := ⟨g7, 1, none⟩) (show h ≤ g7 by omega) (.slice pd lD cd)
        have ZX1 := Lib.hid z1
        have ZX2 := Lib.hid z2
        have BX := Lib.hid b1'
        have RX6 := Lib.hid f11
        have RX7 := Lib.hid f10
        have RXH := Lib.hid f12
        have HBD := Lib.hid hbd
        have HGN := Lib.hid hgne
        have HG6 := Lib.hid (And.intro hg6 hg7)
        clear hV hD hb hW hzA hzB hZA hZB hr7' z1 z2 b1' f5 f10 f11 f12 r6 r7 rh hbn hbd hlN hlD hbe hne hgne hg6 hg7 n60 n61 n70 n71
        generalize hKK : Exit.then _ _ = KK
        simp only [List.take_succ_cons, List.take_zero, List.drop_succ_cons, List.drop_zero, putAll, e0, e2, eA, eB]
        go_simp
        subst hKK
        clear e0 e2 eA eB
        go_upto_region 5 with (fail)
        generalize (((w2.setCell ⟨g6, 0, none⟩ (.bool bn)).setCell ⟨g6, 1, none⟩ (.slice pn lN cn)).setCell ⟨g7, 0, none⟩ (.bool bd)).setCell ⟨g7, 1, none⟩ (.slice pd lD cd) = wX at *
        clear f1 f2 f3 f4 f6 f7 f8 f9
        have k60 := RX6.out.cell 0
        have k61 := RX6.out.cell 1
        have k70 := RX7.out.cell 0
        have k71 := RX7.out.cell 1
        simp only [List.getElem?_cons_zero, List.getElem?_cons_succ] at k60 k61 k70 k71
        obtain ⟨⟨f1, f2⟩, ⟨f3, f4⟩, ⟨f5, f6⟩, ⟨f7, f8⟩, f9⟩ := row4 RXH.out (.bool bn) (.slice pn lN cn) (.bool bd) (.slice pd lD cd)
        have z1 := ZX1.out.put4 RXH.out (noInt_bool _) (noInt_slice _ _ _) (noInt_bool _) (noInt_slice _ _ _) (.bool bn) (.slice pn lN cn) (.bool bd) (.slice pd lD cd)
        have z2 := ZX2.out.put4 RXH.out (noInt_bool _) (noInt_slice _ _ _) (noInt_bool _) (noInt_slice _ _ _) (.bool bn) (.slice pn lN cn) (.bool bd) (.slice pd lD cd)
        have b1' := (((BX.out.setCell (p := ⟨h + 2, 0, none⟩) (Nat.le_add_right h 2) (.bool bn)).setCell (p := ⟨h + 2, 1, none⟩) (Nat.le_add_right h 2) (.slice pn lN cn)).setCell (p := ⟨h + 2, 2, none⟩) (Nat.le_add_right h 2) (.bool bd)).setCell (p := ⟨h + 2, 3, none⟩) (Nat.le_add_right h 2) (.slice pd lD cd)
        rw [← HNN.out] at z1
        rw [← HND.out] at z2
        have Z1 := Lib.hid z1
        have Z2 := Lib.hid z2
        have B1' := Lib.hid b1'
        have F9 := Lib.hid f9
        have e1 := F9.out.cell 0
        have e2 := F9.out.cell 1
        have e3 := F9.out.cell 2
        have e4 := F9.out.cell 3
        simp only [List.getElem?_cons_zero, List.getElem?_cons_succ] at e1 e2 e3 e4
        clear z1 z2 b1' f9
        go_wp2
        refine bodyPost_ret (v := .agg #[.bool bn, .slice pn lN cn, .bool bd, .slice pd lD cd]) (by simp [results, Tryz.results81, go_sem, e1, e2, e3, e4]) rfl ⟨_, rfl, ⟨_, _, _, _, rfl, Z1.out, Z2.out⟩, ?_⟩
        rw [HH.out]
        exact B1'.out
    · obtain rfl : bd = false := by rw [← HBD.out]; exact decide_eq_false hs
      have HNN : Hid (nn = x.tdiv (g : Int)) := by show _ = _; rw [HN.out, if_neg hs]
      have HND : Hid (dd = y.tdiv (g : Int)) := by show _ = _; rw [HDD.out, if_neg hs]
      have k70 := RX7.out.cell 0
      simp only [List.getElem?_cons_zero, List.getElem?_cons_succ] at k70
      clear hs
      go_upto_region 5 with (fail)
      have k60 := RX6.out.cell 0
      have k61 := RX6.out.cell 1
      have k70 := RX7.out.cell 0
      have k71 := RX7.out.cell 1
      simp only [List.getElem?_cons_zero, List.getElem?_cons_succ] at k60 k61 k70 k71
      obtain ⟨⟨f1, f2⟩, ⟨f3, f4⟩, ⟨f5, f6⟩, ⟨f7, f8⟩, f9⟩ := row4 RXH.out (.bool bn) (.slice pn lN cn) (.bool false) (.slice pd lD cd)
      have z1 := ZX1.out.put4 RXH.out (noInt_bool _) (noInt_slice _ _ _) (noInt_bool _) (noInt_slice _ _ _) (.bool bn) (.slice pn lN cn) (.bool false) (.slice pd lD cd)
      have z2 := ZX2.out.put4 RXH.out (noInt_bool _) (noInt_slice _ _ _) (noInt_bool _) (noInt_slice _ _ _) (.bool bn) (.slice pn lN cn) (.bool false) (.slice pd lD cd)
      have b1' := (((BX.out.setCell (p := ⟨h + 2, 0, none⟩) (Nat.le_add_right h 2) (.bool bn)).setCell (p := ⟨h + 2, 1, none⟩) (Nat.le_add_right h 2) (.slice pn lN cn)).setCell (p := ⟨h + 2, 2, none⟩) (Nat.le_add_right h 2) (.bool false)).setCell (p := ⟨h + 2, 3, none⟩) (Nat.le_add_right h 2) (.slice pd lD cd)
      rw [← HNN.out] at z1
      rw [← HND.out] at z2
      have Z1 := Lib.hid z1
      have Z2 := Lib.hid z2
      have B1' := Lib.hid b1'
      have F9 := Lib.hid f9
      have e1 := F9.out.cell 0
      have e2 := F9.out.cell 1
      have e3 := F9.out.cell 2
      have e4 := F9.out.cell 3
      simp only [List.getElem?_cons_zero, List.getElem?_cons_succ] at e1 e2 e3 e4
      clear z1 z2 b1' f9
      go_wp2
      refine bodyPost_ret (v := .agg #[.bool bn, .slice pn lN cn, .bool false, .slice pd lD cd]) (by simp [results, Tryz.results81, go_sem, e1, e2, e3, e4]) rfl ⟨_, rfl, ⟨_, _, _, _, rfl, Z1.out, Z2.out⟩, ?_⟩
      rw [HH.out]
      exact B1'.out
end Go.Proofs.YtmhmkhdgpfhnfaaGreatDoor.Ref
