import Derived.Test.YtmhmkhdgpfhnfaaGreatDoorC7
import Derived.Deep.RegionHeld3
set_option linter.unusedVariables false
set_option linter.unusedSimpArgs false
set_option linter.unnecessarySimpa false
namespace Go.Proofs.YtmhmkhdgpfhnfaaGreatDoor
open Go.RowKit
/-- the sign that 'signed' gives -/
def sgB (neg : Bool) (n : Nat) : Bool := neg && decide (n ≠ 0)
theorem sgB_false (n : Nat) : sgB false n = false := rfl
theorem sgB_zero (neg : Bool) : sgB neg 0 = false := by cases neg <;> rfl
theorem sgB_pos {n : Nat} (h : n ≠ 0) (neg : Bool) : sgB neg n = neg := by unfold sgB; simp [h]
/-- the two cells of a whole number -/
def Wh (w : World) (v : Value) (z : Int) : Prop := ∃ s, v = .agg #[.bool (decide (z < 0)), s] ∧ Rd .u32 w s (limbs z.natAbs)
set_option maxHeartbeats 400000 in
theorem signed_any (neg : Bool) (s : Value) (n : Nat) (w : World) (hs : Rd .u32 w s (limbs n)) (hl : (limbs n).length ≤ 1073741820) :
    Calls Tryz.prog 62 #[.bool neg, s] w fun e w' => e = .returned (.agg #[.bool (sgB neg n), s]) ∧ Below w.heap.size w w' := by
  obtain ⟨p, cap, rfl, hlc, hcm, hn, hp⟩ := hs
  cases neg with
  | false =>
    clear hp hn
    go_enter Tryz.func62, Tryz.ntmps62
    go_wp2
    refine bodyPost_ret (v := .agg #[.bool false, .slice p (limbs n).length cap]) (by simp [results, Tryz.results62, go_sem]) rfl ⟨rfl, (Below.refl _ _).alloc (Nat.le_refl _) _⟩
  | true =>
    by_cases h0 : n = 0
    · subst h0
      obtain ⟨rfl, rfl⟩ := hn limbs_zero
      rw [limbs_zero]
      clear hp hn hlc hl
      go_enter Tryz.func62, Tryz.ntmps62
      go_wp2
      refine bodyPost_ret (v := .agg #[.bool false, .slice none 0 0]) (by simp [results, Tryz.results62, go_sem]) rfl ⟨by rw [sgB_zero], (Below.refl _ _).alloc (Nat.le_refl _) _⟩
    · have hne : 0 < (limbs n).length := List.length_pos_iff.2 (fun h => h0 ((limbs_nil_iff n).1 h))
      have hl0 : (0 : Int) < ((limbs n).length : Int) := by omega
      have H0 := Lib.hid h0
      clear hp hn h0
      go_enter Tryz.func62, Tryz.ntmps62
      go_wp2
      refine bodyPost_ret (v := .agg #[.bool true, .slice p (limbs n).length cap]) (by simp [results, Tryz.results62, go_sem]) rfl ⟨by rw [sgB_pos H0.out], (Below.refl _ _).alloc (Nat.le_refl _) _⟩
set_option maxHeartbeats 1000000 in
theorem reduced_any (x y : Value) (a b : Nat) (w : World) (hx : Rd .u32 w x (limbs a)) (hy : Rd .u32 w y (limbs b)) (ha : (limbs a).length ≤ 1073741820) (hb : (limbs b).length ≤ 1073741820) (hg : Nat.gcd a b ≠ 0) :
    Calls Tryz.prog 135 #[x, y] w fun e w' => ∃ v1 v2, e = .returned (.tuple #[v1, v2]) ∧ Rd .u32 w' v1 (limbs (a / Nat.gcd a b)) ∧ Rd .u32 w' v2 (limbs (b / Nat.gcd a b)) ∧ Below w.heap.size w w' := by
  have hgl : (limbs (Nat.gcd a b)).length ≤ 1073741820 := by
    rcases Nat.eq_zero_or_pos a with h | h
    · subst h; rw [Nat.gcd_zero_left]; exact hb
    · exact Nat.le_trans (len_mono (Nat.gcd_le_left b h)) ha
  have H1 := Lib.hid (gcd_any x y a b w hx hy ha hb)
  have HX := Lib.hid hx
  have HY := Lib.hid hy
  have HG := Lib.hid hg
  generalize hgg : Nat.gcd a b = g at *
  clear hx hy hg hgg
  go_enter Tryz.func135, Tryz.ntmps135
  go_wp2_with fail
  refine H1.out.mono ?_
  rintro e w1 ⟨v, rfl, o1, b1⟩
  have H2 := Lib.hid (quotient_any x v a g w1 (HX.out.below b1) o1.rd ha hgl HG.out)
  have O1 := Lib.hid o1
  have B1 := Lib.hid b1
  clear o1 b1 H1
  go_wp2_with fail
  refine H2.out.mono ?_
  rintro e w2 ⟨v2, rfl, o2, b2⟩
  have H3 := Lib.hid (quotient_any y v b g w2 ((HY.out.below B1.out).below b2) (O1.out.rd.below b2) hb hgl HG.out)
  have O2 := Lib.hid o2
  have B2 := Lib.hid b2
  clear o2 b2 H2
  go_wp2_with fail
  refine H3.out.mono ?_
  rintro e w3 ⟨v3, rfl, o3, b3⟩
  have O3 := Lib.hid o3
  have B3 := Lib.hid b3
  clear o3 b3 H3
  go_wp2
  go_ret2
  have s1 := B1.out.size
  have s2 := B2.out.size
  exact ⟨_, _, rfl, O2.out.rd.below B3.out, O3.out.rd, B1.out.trans ((B2.out.mono s1).trans (B3.out.mono (Nat.le_trans s1 s2)))⟩
theorem mul_len (a b : Nat) : (limbs (a * b)).length ≤ (limbs a).length + (limbs b).length := by
  apply limbs_length_le
  have h1 := val_lt (limbs a) (Lo_limbs a)
  have h2 := val_lt (limbs b) (Lo_limbs b)
  rw [val_limbs] at h1 h2
  rw [Nat.pow_add]
  exact Nat.mul_lt_mul'' h1 h2
theorem row2 {T : TypeId} {w : World} {h : Nat} {x0 x1 : Value} (r : Row T w h [x0, x1]) (y0 y1 : Value) :
    (w.cell? ⟨h, 0, none⟩ = some x0 ∧ w.frozen? ⟨h, 0, none⟩ = false) ∧ ((w.setCell ⟨h, 0, none⟩ y0).cell? ⟨h, 1, none⟩ = some x1 ∧ (w.setCell ⟨h, 0, none⟩ y0).frozen? ⟨h, 1, none⟩ = false) ∧
    Row T ((w.setCell ⟨h, 0, none⟩ y0).setCell ⟨h, 1, none⟩ y1) h [y0, y1] := by
  have r1 := r.store 0 y0
  exact ⟨⟨r.cell 0, r.free 0⟩, ⟨r1.cell 1, r1.free 1⟩, r1.store 1 y1⟩
theorem boxes_on {T1 T2 : TypeId} {w w' : World} {h1 h2 : Nat} {x0 x1 y0 y1 : Value} (r1 : Row T1 w h1 [x0, x1]) (r2 : Row T2 w h2 [y0, y1]) (hb : Below w.heap.size w w') (l1 : h1 < w.heap.size) (l2 : h2 < w.heap.size) :
    w'.cell? ⟨h1, 0, none⟩ = some x0 ∧ w'.cell? ⟨h1, 1, none⟩ = some x1 ∧ w'.cell? ⟨h2, 0, none⟩ = some y0 ∧ w'.cell? ⟨h2, 1, none⟩ = some y1 :=
  ⟨(r1.below hb l1).cell 0, (r1.below hb l1).cell 1, (r2.below hb l2).cell 0, (r2.below hb l2).cell 1⟩
theorem boxes_store {T1 T2 : TypeId} {w : World} {h1 h2 h3 : Nat} {x0 x1 y0 y1 : Value} (r1 : Row T1 w h1 [x0, x1]) (r2 : Row T2 w h2 [y0, y1]) (n1 : h1 ≠ h3) (n2 : h2 ≠ h3) (u v : Value) :
    ((w.setCell ⟨h3, 0, none⟩ u).setCell ⟨h3, 1, none⟩ v).cell? ⟨h1, 0, none⟩ = some x0 ∧ ((w.setCell ⟨h3, 0, none⟩ u).setCell ⟨h3, 1, none⟩ v).cell? ⟨h1, 1, none⟩ = some x1 ∧
    ((w.setCell ⟨h3, 0, none⟩ u).setCell ⟨h3, 1, none⟩ v).cell? ⟨h2, 0, none⟩ = some y0 ∧ ((w.setCell ⟨h3, 0, none⟩ u).setCell ⟨h3, 1, none⟩ v).cell? ⟨h2, 1, none⟩ = some y1 := by
  have e1 := (r1.other ⟨h3, 0, none⟩ (fun e => n1 e.symm) u).other ⟨h3, 1, none⟩ (fun e => n1 e.symm) v
  have e2 := (r2.other ⟨h3, 0, none⟩ (fun e => n2 e.symm) u).other ⟨h3, 1, none⟩ (fun e => n2 e.symm) v
  exact ⟨e1.cell 0, e1.cell 1, e2.cell 0, e2.cell 1⟩
theorem Own.setBelow {T : TypeId} {K : IntKind} {base : Nat} {w : World} {v : Value} {l : List Nat} (h : Own T K base w v l) {a : Addr} (ha : a.block < base) (u : Value) : Own T K base (w.setCell a u) v l := by
  rcases h with h | ⟨hne, g, cap, more, rfl, hg, hm, hlc, hcm, hr⟩
  · exact Or.inl h
  · exact Or.inr ⟨hne, g, cap, more, rfl, hg, hm, hlc, hcm, hr.other _ (by omega) _⟩
/-- 'Out', the slice written out -/
def OutX (T : TypeId) (K : IntKind) (w : World) (l : List Nat) (e : Ending) (w' : World) : Prop :=
  ∃ p cap, e = .returned (.slice p l.length cap) ∧ Own T K w.heap.size w' (.slice p l.length cap) l ∧ Below w.heap.size w w'
theorem Out.x {T : TypeId} {K : IntKind} {w w' : World} {l : List Nat} {e : Ending} (h : Out T K w l e w') : OutX T K w l e w' := by
  obtain ⟨v, he, ho, hb⟩ := h
  obtain ⟨p, cap, rfl, _⟩ := ho.rd
  exact ⟨p, cap, he, ho, hb⟩
/-- the two boxes of the arguments and the box of the result -/
theorem three_boxes (w : World) (T1 T2 T3 : TypeId) (c1 c2 c3 : Array Value) :
    Row T1 (((w.alloc (.cells c1 T1)).alloc (.cells c2 T2)).alloc (.cells c3 T3)) w.heap.size c1.toList ∧
    Row T2 (((w.alloc (.cells c1 T1)).alloc (.cells c2 T2)).alloc (.cells c3 T3)) (w.heap.size + 1) c2.toList ∧
    Row T3 (((w.alloc (.cells c1 T1)).alloc (.cells c2 T2)).alloc (.cells c3 T3)) (w.heap.size + 2) c3.toList ∧
    Below w.heap.size w (((w.alloc (.cells c1 T1)).alloc (.cells c2 T2)).alloc (.cells c3 T3)) := by
  refine ⟨((row_new T1 w c1).alloc _).alloc _, ?_, ?_, (((Below.refl _ _).alloc (Nat.le_refl _) _).alloc (by simp) _).alloc (by simp; omega) _⟩
  · have := (row_new T2 (w.alloc (.cells c1 T1)) c2).alloc (.cells c3 T3)
    simpa using this
  · have := row_new T3 ((w.alloc (.cells c1 T1)).alloc (.cells c2 T2)) c3
    simpa using this
set_option maxRecDepth 100000 in
set_option maxHeartbeats 4000000 in
theorem times_any (n1 n2 : Bool) (s1 s2 : Value) (a b : Nat) (w : World) (h1 : Rd .u32 w s1 (limbs a)) (h2 : Rd .u32 w s2 (limbs b)) (ha : (limbs a).length ≤ 536870910) (hb : (limbs b).length ≤ 536870910) :
    Calls Tryz.prog 91 #[.agg #[.bool n1, s1], .agg #[.bool n2, s2]] w fun e w' => ∃ s, e = .returned (.agg #[.bool (sgB (n1 != n2) (a * b)), s]) ∧ Rd .u32 w' s (limbs (a * b)) ∧ Below w.heap.size w w' := by
  have H1 := Lib.hid h1
  have H2 := Lib.hid h2
  clear h1 h2
  go_enter Tryz.func91, Tryz.ntmps91
  go_upto_region 1 with (fail)
  obtain ⟨x1, x2, x3, x4⟩ := three_boxes w 25 25 25 #[.bool n1, s1] #[.bool n2, s2] #[.bool false, .slice none 0 0]
  rw [show w.heap.size + 1 + 1 = w.heap.size + 2 from rfl]
  generalize ((w.alloc (.cells #[.bool n1, s1] 25)).alloc (.cells #[.bool n2, s2] 25)).alloc (.cells #[.bool false, .slice none 0 0] 25) = W0 at *
  obtain ⟨h, hh⟩ : ∃ h, w.heap.size = h := ⟨_, rfl⟩
  have HH := Lib.hid hh
  have K1 : Hid (Rd .u32 W0 s1 (limbs a)) := H1.out.below x4
  have K2 : Hid (Rd .u32 W0 s2 (limbs b)) := H2.out.below x4
  rw [hh] at x1 x2 x3 x4 ⊢
  have hlt3 := x3.lt
  have a1 := x1.cell 0
  have a2 := x1.cell 1
  have a3 := x2.cell 0
  have a4 := x2.cell 1
  simp only [List.getElem?_cons_zero, List.getElem?_cons_succ] at a1 a2 a3 a4
  have X1 := Lib.hid x1
  have X2 := Lib.hid x2
  have X3 := Lib.hid x3
  have X4 := Lib.hid x4
  have PR : Hid (∀ W, Below W0.heap.size W0 W → Calls Tryz.prog 145 #[s1, s2] W (OutX 153 .u32 W (limbs (a * b)))) := fun W hb => by
    have := product_any s1 s2 (limbs a) (limbs b) W (K1.out.below hb) (K2.out.below hb) (Lo_limbs a) (Lo_limbs b) (by omega) (by omega)
    rw [val_limbs, val_limbs] at this
    exact this.mono fun _ _ h => h.x
  have hml : (limbs (a * b)).length ≤ 1073741820 := by have := mul_len a b; omega
  clear x1 x2 x3 x4 hh H1 H2
  go_region_held3 (fun w' => w'.cell? ⟨h, 0, none⟩ = some (.bool n1) ∧ w'.cell? ⟨h, 1, none⟩ = some s1 ∧ w'.cell? ⟨h + 1, 0, none⟩ = some (.bool n2) ∧ w'.cell? ⟨h + 1, 1, none⟩ = some s2)
    (first | exact ⟨a1, a2, a3, a4⟩ | exact ⟨e1, e2, e3, e4⟩ | exact ⟨i1, i2, i3, i4⟩ | exact ⟨j1, j2, j3, j4⟩)
    (first
      | (go_at_call 145; refine (PR.out _ ((Below.refl _ _).drew)).mono ?_; rintro e w1 ⟨pv, cv, rfl, o1, b1⟩; obtain ⟨e1, e2, e3, e4⟩ := boxes_on X1.out.drew X2.out.drew b1 (Nat.lt_of_le_of_lt (Nat.le_add_right h 2) hlt3) (Nat.lt_of_le_of_lt (Nat.le_succ (h + 1)) hlt3); have O1 := Lib.hid o1; have B1 := Lib.hid b1; clear o1 b1)
      | (go_at_call 62; refine (signed_any _ _ _ _ O1.out.rd hml).mono ?_; rintro e w2 ⟨rfl, b2⟩; obtain ⟨i1, i2, i3, i4⟩ := boxes_on X1.out.drew X2.out.drew (B1.out.trans (b2.mono B1.out.size)) (Nat.lt_of_le_of_lt (Nat.le_add_right h 2) hlt3) (Nat.lt_of_le_of_lt (Nat.le_succ (h + 1)) hlt3); obtain ⟨⟨f1, f2⟩, ⟨f3, f4⟩, f5⟩ := row2 ((X3.out.drew.below B1.out hlt3).below b2 (Nat.lt_of_lt_of_le hlt3 B1.out.size)) (.bool (sgB (!(n1 == n2)) (a * b))) (.slice pv (limbs (a * b)).length cv); obtain ⟨j1, j2, j3, j4⟩ := boxes_store (X1.out.drew.below (B1.out.trans (b2.mono B1.out.size)) (Nat.lt_of_le_of_lt (Nat.le_add_right h 2) hlt3)) (X2.out.drew.below (B1.out.trans (b2.mono B1.out.size)) (Nat.lt_of_le_of_lt (Nat.le_succ (h + 1)) hlt3)) (show h ≠ h + 2 by omega) (show h + 1 ≠ h + 2 by omega) (.bool (sgB (!(n1 == n2)) (a * b))) (.slice pv (limbs (a * b)).length cv); have B2 := Lib.hid b2; have F5 := Lib.hid f5; clear b2 f5))
  have c1 := F5.out.cell 0
  have c2 := F5.out.cell 1
  simp only [List.getElem?_cons_zero, List.getElem?_cons_succ] at c1 c2
  have hsz : W0.drew.heap.size = W0.heap.size := rfl
  clear PR
  go_wp2
  refine bodyPost_ret (v := .agg #[.bool (sgB (!(n1 == n2)) (a * b)), .slice pv (limbs (a * b)).length cv]) (by simp [results, Tryz.results91, go_sem, c1, c2]) rfl ⟨.slice pv (limbs (a * b)).length cv, ?_, ?_, ?_⟩
  · rfl
  · exact (((O1.out.below B2.out (Nat.le_refl _)).setBelow (a := ⟨h + 2, 0, none⟩) hlt3 _).setBelow (a := ⟨h + 2, 1, none⟩) hlt3 _).rd
  · rw [HH.out]
    have hh0 : h ≤ W0.heap.size := by omega
    have hh1 : h ≤ w1.heap.size := Nat.le_trans hh0 B1.out.size
    exact ((X4.out.drew.trans ((B1.out.mono hh0).trans (B2.out.mono hh1))).setCell (p := ⟨h + 2, 0, none⟩) (Nat.le_add_right h 2) _).setCell (p := ⟨h + 2, 1, none⟩) (Nat.le_add_right h 2) _
end Go.Proofs.YtmhmkhdgpfhnfaaGreatDoor
