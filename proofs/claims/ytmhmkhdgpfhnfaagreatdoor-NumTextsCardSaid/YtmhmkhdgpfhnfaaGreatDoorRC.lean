/- The reference's fractions: Whole, Frac. -/
import Derived.Test.YtmhmkhdgpfhnfaaGreatDoorRB
set_option linter.unusedVariables false
set_option linter.unusedSimpArgs false
set_option linter.unnecessarySimpa false
namespace Go.Proofs.YtmhmkhdgpfhnfaaGreatDoor.Ref
open Go.RowKit

theorem Zv.lit {w : World} {b : Bool} {s : Value} {z : Int} (h : Zv w (.agg #[.bool b, s]) z) : ∃ p n c, s = .slice p n c := by
  obtain ⟨p, c, h1, _⟩ := h
  simp only [Value.agg.injEq, Array.mk.injEq, List.cons.injEq, and_true] at h1
  exact ⟨p, _, c, h1.2⟩
theorem Zv.form {w : World} {v : Value} {z : Int} (h : Zv w v z) : ∃ b p n c, v = .agg #[.bool b, .slice p n c] ∧ Zv w (.agg #[.bool b, .slice p n c]) z := by
  obtain ⟨p, c, h1, h2⟩ := h
  exact ⟨_, p, _, c, h1, p, c, rfl, h2⟩
theorem Qv.form {w : World} {v : Value} {n d : Int} (h : Qv w v n d) : ∃ b1 p1 n1 c1 b2 p2 n2 c2, v = .agg #[.bool b1, .slice p1 n1 c1, .bool b2, .slice p2 n2 c2] ∧ Zv w (.agg #[.bool b1, .slice p1 n1 c1]) n ∧ Zv w (.agg #[.bool b2, .slice p2 n2 c2]) d := by
  obtain ⟨b1, s1, b2, s2, h1, h2, h3⟩ := h
  obtain ⟨p1, n1, c1, rfl⟩ := h2.lit
  obtain ⟨p2, n2, c2, rfl⟩ := h3.lit
  exact ⟨b1, p1, n1, c1, b2, p2, n2, c2, h1, h2, h3⟩
theorem Qv.touch {T g m : Nat} {w w' : World} {v : Value} {n d : Int} {xs : List Value} (h : Qv w v n d) (hr : Row T w g xs) (hx : Bx m xs) (t : Touch g w w') : Qv w' v n d := by
  obtain ⟨b1, s1, b2, s2, h1, h2, h3⟩ := h
  exact ⟨b1, s1, b2, s2, h1, h2.touch hr hx t, h3.touch hr hx t⟩
/-- what stays -/
def Stb (M : Value → World → Prop) : Prop := (∀ v w w', M v w → Below w.heap.size w w' → M v w') ∧ (∀ v w w' (T g n : Nat) xs, Row T w g xs → Bx n xs → Touch g w w' → M v w → M v w')
theorem stb_zv (z : Int) : Stb (fun u W => Zv W u z) := ⟨fun v w w' h hb => h.below hb, fun v w w' T g n xs hr hx t h => h.touch hr hx t⟩
theorem stb_qv (n d : Int) : Stb (fun u W => Qv W u n d) := ⟨fun v w w' h hb => h.below hb, fun v w w' T g m xs hr hx t h => h.touch hr hx t⟩
theorem stays_stb {ks : List Kd} (h : ∀ (i : Nat) M, ks[i]? = some (.mem M) → Stb M) : Stays ks :=
  ⟨fun i M v w w' hk hv hb => (h i M hk).1 v w w' hv hb, fun i M v w w' j g b k T n xs hk _ hr hx t hv => (h i M hk).2 v w w' T g n xs hr hx t hv⟩
set_option maxRecDepth 100000 in
set_option maxHeartbeats 1000000 in
theorem whole_go (x : Int) (v1 : Value) (w : World) (h1 : Zv w v1 x) :
    Calls Tryz.prog 21 #[v1] w (OutQ w x 1) := by
  obtain ⟨bn, pn, lN, cn, rfl, h1⟩ := h1.form
  have HZ1 := Lib.hid h1
  clear h1
  go_enter Tryz.func21, Tryz.ntmps21
  go_upto_region 1 with (fail)
  obtain ⟨x1, x3, x4, x5⟩ := two_boxes w 34 36 #[.bool bn, .slice pn lN cn] #[.bool false, .slice none 0 0, .bool false, .slice none 0 0]
  generalize (w.alloc (.cells #[.bool bn, .slice pn lN cn] 34)).alloc (.cells #[.bool false, .slice none 0 0, .bool false, .slice none 0 0] 36) = wX at *
  obtain ⟨h, hh⟩ : ∃ h, w.heap.size = h := ⟨_, rfl⟩
  have HH := Lib.hid hh
  have K1 : Hid (Zv wX (.agg #[.bool bn, .slice pn lN cn]) x) := HZ1.out.below x4
  rw [hh] at x1 x3 x4 x5 ⊢
  have X1 := Lib.hid x1
  have X3 := Lib.hid x3
  have X4 := Lib.hid x4
  have X5 := Lib.hid x5
  clear x1 x3 x4 x5 hh HZ1
  refine wp_region_rel_tails (by kernel_rfl) 3 6 rfl (by kernel_rfl) (by kernel_rfl) [.fix (.agg #[.bool bn, .slice pn lN cn]), .mem (fun u W => Zv W u 1), .mem (fun u W => Qv W u x 1)] rfl (stays_stb (fun i M hk => by rcases i with _ | _ | _ | i <;> simp at hk <;> subst hk <;> first | exact stb_zv _ | exact stb_qv _ _)) ?hop ?hQ
  case hop =>
    intro W hW j o hj vs w1' hb hV
    simp only [List.take_succ_cons, List.take_zero] at hj
    have hj' : j < 3 := (List.getElem?_eq_some_iff.1 hj).1
    rcases (by omega : j = 0 ∨ j = 1 ∨ j = 2) with rfl | rfl | rfl
    · cases hj
      clear hj'
      refine .inl ⟨rfl, ?_⟩
      simp only [List.take_succ_cons, List.take_zero]
      generalize hG : relUpon _ _ _ = G
      have hbw : Below wX.heap.size wX w1' := by rw [hW] at hb; exact ((Below.refl wX.heap.size wX).drew).trans hb
      have d0 := (X1.out.below hbw X1.out.lt).cell 0
      have d1 := (X1.out.below hbw X1.out.lt).cell 1
      simp only [List.getElem?_cons_zero, List.getElem?_cons_succ] at d0 d1
      clear hbw hW hb hV
      subst hG
      simp only [putAll]
      generalize hR : Res _ _ vs w1' = R
      go_simp
      subst hR
      exact ⟨rfl, Below.refl _ _⟩
    · cases hj
      clear hj'
      refine .inl ⟨rfl, ?_⟩
      simp only [List.take_succ_cons, List.take_zero]
      generalize hG : relUpon _ _ _ = G
      clear hV hb hW
      subst hG
      simp only [putAll]
      generalize hR : Res _ _ vs w1' = R
      go_simp
      subst hR
      refine (of_go 1 w1' (by omega) (by omega)).mono ?_
      rintro e w2 ⟨v, rfl, hz, hb2⟩
      exact ⟨_, rfl, hz, hb2⟩
    · cases hj
      clear hj'
      refine .inl ⟨rfl, ?_⟩
      simp only [List.take_succ_cons, List.take_zero]
      generalize hG : relUpon _ _ _ = G
      have hbw : Below wX.heap.size wX w1' := by rw [hW] at hb; exact ((Below.refl wX.heap.size wX).drew).trans hb
      have q0_ : vs 0 = _ := hV 0 (by decide)
      obtain ⟨b2, p2, n2, c2, q1_, hz⟩ := Zv.form (show Zv w1' (vs 1) 1 from hV 1 (by decide))
      have HZ := Lib.hid hz
      have HK := Lib.hid (K1.out.below hbw)
      clear hV hb hW hbw hz
      subst hG
      simp only [putAll]
      generalize hR : Res _ _ vs w1' = R
      go_simp
      subst hR
      exact ⟨⟨_, _, _, _, rfl, HK.out, HZ.out⟩, Below.refl _ _⟩
  case hQ =>
    intro W hW vs w2 hb hV hD
    have hbw : Below wX.heap.size wX w2 := by rw [hW] at hb; exact ((Below.refl wX.heap.size wX).drew).trans hb
    have e0 : vs 0 = _ := hV 0 (by omega)
    obtain ⟨_, _, _, _, e1_, _⟩ := Zv.form (show Zv w2 (vs 1) 1 from hV 1 (by omega))
    obtain ⟨bn, pn, lN, cn, bd, pd, lD, cd, e2_, hz1, hz2⟩ := Qv.form (show Qv w2 (vs 2) x 1 from hV 2 (by omega))
    have hrow := X3.out.below hbw X3.out.lt
    have hbe := X4.out.trans (hbw.mono (by rw [X5.out]; omega))
    have HROW := Lib.hid hrow
    have HZ1 := Lib.hid hz1
    have HZ2 := Lib.hid hz2
    have HBE := Lib.hid hbe
    clear hV hD hb hW hbw hrow hz1 hz2 hbe X1 X3 X4 X5 K1
    generalize hKK : Exit.then _ _ = KK
    simp only [List.take_succ_cons, List.take_zero, List.drop_succ_cons, List.drop_zero, putAll, e0, e1_, e2_]
    go_simp
    subst hKK
    clear e0 e1_ e2_
    obtain ⟨⟨f1, f2⟩, ⟨f3, f4⟩, ⟨f5, f6⟩, ⟨f7, f8⟩, f9⟩ := row4 (HROW.out) (.bool bn) (.slice pn lN cn) (.bool bd) (.slice pd lD cd)
    have z1 := (HZ1.out).put4 (HROW.out) (noInt_bool _) (noInt_slice _ _ _) (noInt_bool _) (noInt_slice _ _ _) (.bool bn) (.slice pn lN cn) (.bool bd) (.slice pd lD cd)
    have z2 := (HZ2.out).put4 (HROW.out) (noInt_bool _) (noInt_slice _ _ _) (noInt_bool _) (noInt_slice _ _ _) (.bool bn) (.slice pn lN cn) (.bool bd) (.slice pd lD cd)
    have b1' := ((((HBE.out).setCell (p := ⟨h + 1, 0, none⟩) (Nat.le_add_right h 1) (.bool bn)).setCell (p := ⟨h + 1, 1, none⟩) (Nat.le_add_right h 1) (.slice pn lN cn)).setCell (p := ⟨h + 1, 2, none⟩) (Nat.le_add_right h 1) (.bool bd)).setCell (p := ⟨h + 1, 3, none⟩) (Nat.le_add_right h 1) (.slice pd lD cd)
    have Z1 := Lib.hid z1
    have Z2 := Lib.hid z2
    have B1' := Lib.hid b1'
    have F9 := Lib.hid f9
    have e1 := F9.out.cell 0
    have e2 := F9.out.cell 1
    have e3 := F9.out.cell 2
    have e4 := F9.out.cell 3
    simp only [List.getElem?_cons_zero, List.getElem?_cons_succ] at e1 e2 e3 e4
    clear z1 z2 b1' f9
    go_wp2
    refine bodyPost_ret (v := .agg #[.bool bn, .slice pn lN cn, .bool bd, .slice pd lD cd]) (by simp [results, Tryz.results21, go_sem, e1, e2, e3, e4]) rfl ⟨_, rfl, ⟨_, _, _, _, rfl, Z1.out, Z2.out⟩, ?_⟩
    rw [HH.out]
    exact B1'.out
end Go.Proofs.YtmhmkhdgpfhnfaaGreatDoor.Ref
