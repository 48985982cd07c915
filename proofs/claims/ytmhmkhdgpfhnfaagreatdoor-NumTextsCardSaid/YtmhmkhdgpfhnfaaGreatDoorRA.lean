/- The reference's integers: Gcd, Quo, Neg. -/
import Derived.Test.YtmhmkhdgpfhnfaaGreatDoorR9
import Derived.Test.YtmhmkhdgpfhnfaaGreatDoorRT
import Derived.Deep.RegionHeld3
import Derived.Deep.DeepCutAuto
set_option linter.unusedVariables false
set_option linter.unusedSimpArgs false
set_option linter.unnecessarySimpa false
namespace Go.Proofs.YtmhmkhdgpfhnfaaGreatDoor.Ref
open Go.RowKit

theorem Zv.mk' {w : World} {p : Option Addr} {c : Nat} {z : Int} {n : Nat} {b : Bool} (hn : z.natAbs = n) (hb : b = decide (z < 0)) (h : LbA w (.slice p (limbs n).length c) (limbs n)) : Zv w (.agg #[.bool b, .slice p (limbs n).length c]) z := by
  subst hn
  subst hb
  exact ⟨p, c, rfl, h⟩
/-- three boxes, the last for the result -/
theorem three_boxes (w : World) (T1 T2 T3 : TypeId) (c1 c2 c3 : Array Value) :
    Row T1 (((w.alloc (.cells c1 T1)).alloc (.cells c2 T2)).alloc (.cells c3 T3)) w.heap.size c1.toList ∧
    Row T2 (((w.alloc (.cells c1 T1)).alloc (.cells c2 T2)).alloc (.cells c3 T3)) (w.heap.size + 1) c2.toList ∧
    Row T3 (((w.alloc (.cells c1 T1)).alloc (.cells c2 T2)).alloc (.cells c3 T3)) (w.heap.size + 2) c3.toList ∧
    Below w.heap.size w (((w.alloc (.cells c1 T1)).alloc (.cells c2 T2)).alloc (.cells c3 T3)) ∧
    (((w.alloc (.cells c1 T1)).alloc (.cells c2 T2)).alloc (.cells c3 T3)).heap.size = w.heap.size + 3 := by
  refine ⟨((row_new T1 w c1).alloc _).alloc _, ?_, ?_, (((Below.refl _ _).alloc (Nat.le_refl _) _).alloc (by simp) _).alloc (by simp; omega) _, by simp⟩
  · have := (row_new T2 (w.alloc (.cells c1 T1)) c2).alloc (.cells c3 T3)
    simpa using this
  · have := row_new T3 ((w.alloc (.cells c1 T1)).alloc (.cells c2 T2)) c3
    simpa using this
theorem two_boxes (w : World) (T1 T3 : TypeId) (c1 c3 : Array Value) :
    Row T1 ((w.alloc (.cells c1 T1)).alloc (.cells c3 T3)) w.heap.size c1.toList ∧
    Row T3 ((w.alloc (.cells c1 T1)).alloc (.cells c3 T3)) (w.heap.size + 1) c3.toList ∧
    Below w.heap.size w ((w.alloc (.cells c1 T1)).alloc (.cells c3 T3)) ∧
    ((w.alloc (.cells c1 T1)).alloc (.cells c3 T3)).heap.size = w.heap.size + 2 := by
  refine ⟨(row_new T1 w c1).alloc _, ?_, ((Below.refl _ _).alloc (Nat.le_refl _) _).alloc (by simp) _, by simp⟩
  have := row_new T3 (w.alloc (.cells c1 T1)) c3
  simpa using this
theorem LbA.ne_row {T g : Nat} {w : World} {v : Value} {l : List Nat} {xs : List Value} (h : LbA w v l) (hr : Row T w g xs) (hx : ∀ x ∈ xs, NoInt x) : ∀ ad n c, v = .slice (some ad) n c → 0 < n → ad.block ≠ g := by
  intro ad n c hv hn hg
  have hl : 0 < l.length := by
    obtain ⟨p, cap, h1, _⟩ := h.form_
    rw [hv] at h1; injection h1 with _ e _; omega
  obtain ⟨ad', cap', h1, _, _, _, hc⟩ := h.at_ 0 hl
  rw [hv] at h1
  injection h1 with e1 _ _
  injection e1 with e1
  subst e1
  unfold Row at hr
  unfold World.cell? at hc
  rw [block_add, hg, hr] at hc
  simp only at hc
  split at hc
  · cases hc
  · rw [List.getElem?_toArray] at hc
    have hm := List.mem_of_getElem? hc
    exact hx _ hm _ _ rfl
theorem LbA.put2 {T g : Nat} {w : World} {v x0 x1 : Value} {l : List Nat} (h : LbA w v l) (hr : Row T w g [x0, x1]) (h0 : NoInt x0) (h1 : NoInt x1) (y0 y1 : Value) : LbA ((w.setCell ⟨g, 0, none⟩ y0).setCell ⟨g, 1, none⟩ y1) v l := by
  have hn := h.ne_row hr (fun x hx => by
    rcases List.mem_cons.1 hx with rfl | hx
    · exact h0
    · rcases List.mem_cons.1 hx with rfl | hx
      · exact h1
      · cases hx)
  exact (h.far hn y0).far hn y1
theorem sgR_neg (x : Int) : sgR (!decide (x < 0)) x.natAbs = decide (-x < 0) := by
  unfold sgR
  by_cases h : x < 0
  · rw [decide_eq_true h, decide_eq_false (show ¬ (-x < 0) by omega)]; rfl
  · by_cases h0 : x = 0
    · subst h0; rfl
    · rw [decide_eq_false h, decide_eq_true (show -x < 0 by omega), decide_eq_true (show x.natAbs ≠ 0 by omega)]; rfl
set_option maxRecDepth 100000 in
set_option maxHeartbeats 1000000 in
theorem gcdZ_go (x y : Int) (v1 v2 : Value) (w : World) (h1 : Zv w v1 x) (h2 : Zv w v2 y) (hl1 : (limbs x.natAbs).length ≤ 800000) (hl2 : (limbs y.natAbs).length ≤ 800000) :
    Calls Tryz.prog 71 #[v1, v2] w (OutZ w ((Nat.gcd x.natAbs y.natAbs : Nat) : Int)) := by
  obtain ⟨p1, c1, rfl, h1⟩ := h1
  obtain ⟨p2, c2, rfl, h2⟩ := h2
  obtain ⟨b1, hb1⟩ : ∃ b, decide (x < 0) = b := ⟨_, rfl⟩
  obtain ⟨a1, ha1⟩ : ∃ a, x.natAbs = a := ⟨_, rfl⟩
  obtain ⟨b2, hb2⟩ : ∃ b, decide (y < 0) = b := ⟨_, rfl⟩
  obtain ⟨a2, ha2⟩ : ∃ a, y.natAbs = a := ⟨_, rfl⟩
  have HBX := Lib.hid (And.intro hb1 ha1)
  rw [hb1, ha1]
  rw [ha1] at h1
  have HBY := Lib.hid (And.intro hb2 ha2)
  rw [hb2, ha2]
  rw [ha2] at h2
  obtain ⟨s1, hs1⟩ : ∃ s, Value.slice p1 (limbs a1).length c1 = s := ⟨_, rfl⟩
  rw [hs1] at h1 ⊢
  have HS1 := Lib.hid hs1
  have H1 := Lib.hid h1
  obtain ⟨s2, hs2⟩ : ∃ s, Value.slice p2 (limbs a2).length c2 = s := ⟨_, rfl⟩
  rw [hs2] at h2 ⊢
  have HS2 := Lib.hid hs2
  have H2 := Lib.hid h2
  rw [ha1] at hl1
  rw [ha2] at hl2
  go_enter Tryz.func71, Tryz.ntmps71
  go_upto_region 1 with (fail)
  obtain ⟨x1, x2, x3, x4, x5⟩ := three_boxes w 34 34 34 #[.bool b1, s1] #[.bool b2, s2] #[.bool false, .slice none 0 0]
  rw [show w.heap.size + 1 + 1 = w.heap.size + 2 from rfl]
  generalize ((w.alloc (.cells #[.bool b1, s1] 34)).alloc (.cells #[.bool b2, s2] 34)).alloc (.cells #[.bool false, .slice none 0 0] 34) = W0 at *
  obtain ⟨h, hh⟩ : ∃ h, w.heap.size = h := ⟨_, rfl⟩
  have HH := Lib.hid hh
  have K1 : Hid (LbA W0 s1 (limbs a1)) := SlA.below H1.out x4
  have K2 : Hid (LbA W0 s2 (limbs a2)) := SlA.below H2.out x4
  rw [hh] at x1 x2 x3 x4 x5 ⊢
  have q1 := x1.cell 0
  have q2 := x1.cell 1
  have q3 := x2.cell 0
  have q4 := x2.cell 1
  simp only [List.getElem?_cons_zero, List.getElem?_cons_succ] at q1 q2 q3 q4
  have X2 := Lib.hid x2
  clear x2 hs2 hb2 ha2 h2
  have X1 := Lib.hid x1
  have X3 := Lib.hid x3
  have X4 := Lib.hid x4
  have X5 := Lib.hid x5
  clear x1 x3 x4 x5 hh hs1 hb1 ha1 h1
  go_wp2_with fail
  refine (gcdN_go s1 s2 a1 a2 W0 K1.out K2.out hl1 hl2).mono ?_
  rintro e w1 ⟨v, rfl, hv, hb1⟩
  have hr1 := X3.out.below hb1 X3.out.lt
  have R1 := Lib.hid hr1
  have B1 : Hid (Below h w w1) := X4.out.trans (hb1.mono (by rw [X5.out]; omega))
  obtain ⟨p, c, rfl, _, _⟩ := hv.form_
  obtain ⟨g, hg⟩ : ∃ g, Nat.gcd a1 a2 = g := ⟨_, rfl⟩
  rw [hg] at hv ⊢
  have HV := Lib.hid hv
  have HG := Lib.hid hg
  clear hv hr1 hb1 hg
  go_wp2_with fail
  refine (int_go false _ (g) w1 HV.out).mono ?_
  rintro e wz ⟨rfl, hbz⟩
  have hrz := (R1.out).below hbz (R1.out).lt
  obtain ⟨⟨f1, f2⟩, ⟨f3, f4⟩, f5⟩ := row2 hrz (.bool (sgR false (g))) (.slice p (limbs (g)).length c)
  have HL2 := Lib.hid (LbA.put2 (SlA.below HV.out hbz) hrz (noInt_bool _) (noInt_slice _ _ _) (.bool (sgR false (g))) (.slice p (limbs (g)).length c))
  have F5 := Lib.hid f5
  have HBZ := Lib.hid ((B1.out).trans (hbz.mono (by have h9 := (B1.out).size; rw [HH.out] at h9; exact h9)))
  clear hbz f5 hrz
  have e1 := F5.out.cell 0
  have e2 := F5.out.cell 1
  simp only [List.getElem?_cons_zero, List.getElem?_cons_succ] at e1 e2
  go_wp2
  refine bodyPost_ret (v := .agg #[.bool (sgR false (g)), .slice p (limbs (g)).length c]) (by simp [results, Tryz.results71, go_sem, e1, e2]) rfl ⟨_, rfl, Zv.mk' (by rw [HG.out]; rfl) (by rw [decide_eq_false (by omega)]; rfl) HL2.out, ?_⟩
  rw [HH.out]
  exact (HBZ.out.setCell (p := ⟨h + 2, 0, none⟩) (Nat.le_add_right h 2) _).setCell (p := ⟨h + 2, 1, none⟩) (Nat.le_add_right h 2) _
set_option maxRecDepth 100000 in
set_option maxHeartbeats 1000000 in
theorem neg_go (x : Int) (v1 : Value) (w : World) (h1 : Zv w v1 x) :
    Calls Tryz.prog 117 #[v1] w (OutZ w (-x)) := by
  obtain ⟨p1, c1, rfl, h1⟩ := h1
  obtain ⟨b1, hb1⟩ : ∃ b, decide (x < 0) = b := ⟨_, rfl⟩
  obtain ⟨a1, ha1⟩ : ∃ a, x.natAbs = a := ⟨_, rfl⟩
  have HBX := Lib.hid (And.intro hb1 ha1)
  rw [hb1, ha1]
  rw [ha1] at h1
  obtain ⟨s1, hs1⟩ : ∃ s, Value.slice p1 (limbs a1).length c1 = s := ⟨_, rfl⟩
  rw [hs1] at h1 ⊢
  have HS1 := Lib.hid hs1
  have H1 := Lib.hid h1
  go_enter Tryz.func117, Tryz.ntmps117
  go_upto_region 1 with (fail)
  obtain ⟨x1, x3, x4, x5⟩ := two_boxes w 34 34 #[.bool b1, s1] #[.bool false, .slice none 0 0]
  generalize (w.alloc (.cells #[.bool b1, s1] 34)).alloc (.cells #[.bool false, .slice none 0 0] 34) = W0 at *
  obtain ⟨h, hh⟩ : ∃ h, w.heap.size = h := ⟨_, rfl⟩
  have HH := Lib.hid hh
  have K1 : Hid (LbA W0 s1 (limbs a1)) := SlA.below H1.out x4
  rw [hh] at x1 x3 x4 x5 ⊢
  have q1 := x1.cell 0
  have q2 := x1.cell 1
  simp only [List.getElem?_cons_zero, List.getElem?_cons_succ] at q1 q2
  have X1 := Lib.hid x1
  have X3 := Lib.hid x3
  have X4 := Lib.hid x4
  have X5 := Lib.hid x5
  clear x1 x3 x4 x5 hh hs1 hb1 ha1 h1
  have HB0 : Hid (Below h w W0) := X4.out
  have R1 := Lib.hid X3.out
  obtain ⟨p, c, hs, _, _⟩ := K1.out.form_
  subst hs
  go_wp2_with fail
  refine (int_go (!b1) _ (a1) W0 K1.out).mono ?_
  rintro e wz ⟨rfl, hbz⟩
  have hrz := (R1.out).below hbz (R1.out).lt
  obtain ⟨⟨f1, f2⟩, ⟨f3, f4⟩, f5⟩ := row2 hrz (.bool (sgR (!b1) (a1))) (.slice p (limbs (a1)).length c)
  have HL2 := Lib.hid (LbA.put2 (SlA.below K1.out hbz) hrz (noInt_bool _) (noInt_slice _ _ _) (.bool (sgR (!b1) (a1))) (.slice p (limbs (a1)).length c))
  have F5 := Lib.hid f5
  have HBZ := Lib.hid ((HB0.out).trans (hbz.mono (by have h9 := (HB0.out).size; rw [HH.out] at h9; exact h9)))
  clear hbz f5 hrz
  have e1 := F5.out.cell 0
  have e2 := F5.out.cell 1
  simp only [List.getElem?_cons_zero, List.getElem?_cons_succ] at e1 e2
  go_wp2
  refine bodyPost_ret (v := .agg #[.bool (sgR (!b1) (a1)), .slice p (limbs (a1)).length c]) (by simp [results, Tryz.results117, go_sem, e1, e2]) rfl ⟨_, rfl, Zv.mk' (by rw [Int.natAbs_neg]; exact HBX.out.2) (by rw [← HBX.out.1, ← HBX.out.2]; exact sgR_neg x) HL2.out, ?_⟩
  rw [HH.out]
  exact (HBZ.out.setCell (p := ⟨h + 1, 0, none⟩) (Nat.le_add_right h 1) _).setCell (p := ⟨h + 1, 1, none⟩) (Nat.le_add_right h 1) _
end Go.Proofs.YtmhmkhdgpfhnfaaGreatDoor.Ref
