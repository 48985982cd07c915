/- The program's small: what has few digits, or the panic. -/
import Derived.Test.YtmhmkhdgpfhnfaaGreatDoorV3
import Derived.Test.YtmhmkhdgpfhnfaaGreatDoorV4
set_option linter.unusedVariables false
set_option linter.unusedSimpArgs false
set_option linter.unnecessarySimpa false
namespace Go.Proofs.YtmhmkhdgpfhnfaaGreatDoor.Ref
open Go.RowKit Go.Lib

theorem digs_zero : digs 0 = 1 := by rw [digs]; simp
theorem digs_one : digs 1 = 1 := by rw [digs]; simp
theorem Lw.digits {w : World} {q : Option Addr} {m x d : Nat} (h : Lw w (.slice q m x) d) (hl : (limbs d).length ≤ 1073741820) : ∃ d0, Rd .u32 w (.slice q m x) (limbs d0) ∧ digs d0 = digs d ∧ (limbs d0).length ≤ 1073741820 := by
  rcases h with ⟨h1, h2⟩ | ⟨h1, h2⟩
  · refine ⟨0, ?_, by rw [h1, digs_zero, digs_one], by rw [limbs_zero]; simp⟩
    cases h2
    rw [limbs_zero]
    exact Rd.nil .u32 w
  · exact ⟨d, h2, rfl, hl⟩
set_option maxRecDepth 100000 in
set_option maxHeartbeats 2000000 in
theorem small_ok (v : Value) (n : Int) (d : Nat) (w : World) (h : Rt w v n d) (h1 : nDigits n.natAbs ≤ 20000) (h2 : nDigits d ≤ 20000) (hl1 : (limbs n.natAbs).length ≤ 1073741820) (hl2 : (limbs d).length ≤ 1073741820) :
    Calls Tryz.prog 68 #[v] w fun e w' => e = .returned v ∧ Below w.heap.size w w' := by
  obtain ⟨b, p, k, c, q, m, x, rfl, hb, hr, hlw⟩ := h.form
  obtain ⟨d0, hd0, hdg, hdl⟩ := hlw.digits hl2
  have HD1 := Lib.hid (fun W (hW : Below w.heap.size w W) => digits_any (.slice p k c) n.natAbs W (hr.below hW) (by omega))
  have HD2 := Lib.hid (fun W (hW : Below w.heap.size w W) => digits_any (.slice q m x) d0 W (hd0.below hW) (by omega))
  rw [hdg] at HD2
  have HM1 := Lib.hid (fun W => mustBeSmall_ok (digs n.natAbs) W (by rw [digs_nDigits]; exact h1))
  have HM2 := Lib.hid (fun W => mustBeSmall_ok (digs d) W (by rw [digs_nDigits]; exact h2))
  generalize digs n.natAbs = D1 at *
  generalize digs d = D2 at *
  clear hb hr hlw hd0 hdg hdl h1 h2 hl1 hl2 h
  go_enter Tryz.func68, Tryz.ntmps68
  go_upto_region 1 with (fail)
  obtain ⟨x1, x3, x4⟩ := two_new w 27 27 #[.bool b, .slice p k c, .slice q m x] #[.bool false, .slice none 0 0, .slice none 0 0]
  generalize (w.alloc (.cells #[.bool b, .slice p k c, .slice q m x] 27)).alloc (.cells #[.bool false, .slice none 0 0, .slice none 0 0] 27) = w0 at *
  obtain ⟨h, hh⟩ : ∃ h, w.heap.size = h := ⟨_, rfl⟩
  have HH := Lib.hid hh
  rw [hh] at x1 x3 x4 HD1 HD2 ⊢
  have a0 := x1.cell 0
  have a1 := x1.cell 1
  have a2 := x1.cell 2
  simp only [List.getElem?_cons_zero, List.getElem?_cons_succ] at a0 a1 a2
  have X4 := Lib.hid x4
  obtain ⟨⟨f1, f2⟩, ⟨f3, f4⟩, ⟨f5, f6⟩, f7⟩ := row3 x3 (.bool b) (.slice p k c) (.slice q m x)
  have hbe := (((x4.setCell (p := ⟨h + 1, 0, none⟩) (Nat.le_succ h) (.bool b)).setCell (p := ⟨h + 1, 1, none⟩) (Nat.le_succ h) (.slice p k c)).setCell (p := ⟨h + 1, 2, none⟩) (Nat.le_succ h) (.slice q m x))
  have HBE := Lib.hid hbe
  have c0 := f7.cell 0
  have c1 := f7.cell 1
  have c2 := f7.cell 2
  simp only [List.getElem?_cons_zero, List.getElem?_cons_succ] at c0 c1 c2
  clear x1 x3 x4 f7 hbe hh
  go_wp2_with fail
  refine (HD1.out _ X4.out).mono ?_
  rintro e w1 ⟨rfl, hw⟩
  subst hw
  go_wp2_with fail
  refine (HM1.out _).mono ?_
  rintro e w1 ⟨rfl, rfl⟩
  go_wp2_with fail
  refine (HD2.out _ X4.out).mono ?_
  rintro e w1 ⟨rfl, hw⟩
  subst hw
  go_wp2_with fail
  refine (HM2.out _).mono ?_
  rintro e w1 ⟨rfl, rfl⟩
  clear HD1 HD2 HM1 HM2
  go_wp2
  refine bodyPost_ret (v := .agg #[.bool b, .slice p k c, .slice q m x]) (by simp [results, Tryz.results68, go_sem, c0, c1, c2]) rfl ?_
  rw [HH.out]
  exact ⟨rfl, HBE.out⟩
set_option maxRecDepth 100000 in
set_option maxHeartbeats 2000000 in
theorem small_big1 (v : Value) (n : Int) (d : Nat) (w : World) (h : Rt w v n d) (h1 : ¬ nDigits n.natAbs ≤ 20000) (hl1 : (limbs n.natAbs).length ≤ 1073741820) :
    Calls Tryz.prog 68 #[v] w fun e w' => e = .panicked notSmall ∧ Below w.heap.size w w' := by
  obtain ⟨b, p, k, c, q, m, x, rfl, hb, hr, hlw⟩ := h.form
  have HD1 := Lib.hid (fun W (hW : Below w.heap.size w W) => digits_any (.slice p k c) n.natAbs W (hr.below hW) (by omega))
  have HM1 := Lib.hid (fun W => mustBeSmall_big (digs n.natAbs) W (by rw [digs_nDigits]; exact h1))
  generalize digs n.natAbs = D1 at *
  clear hb hr hlw h1 hl1 h
  go_enter Tryz.func68, Tryz.ntmps68
  go_upto_region 1 with (fail)
  obtain ⟨x1, x3, x4⟩ := two_new w 27 27 #[.bool b, .slice p k c, .slice q m x] #[.bool false, .slice none 0 0, .slice none 0 0]
  generalize (w.alloc (.cells #[.bool b, .slice p k c, .slice q m x] 27)).alloc (.cells #[.bool false, .slice none 0 0, .slice none 0 0] 27) = w0 at *
  obtain ⟨h, hh⟩ : ∃ h, w.heap.size = h := ⟨_, rfl⟩
  have HH := Lib.hid hh
  rw [hh] at x1 x3 x4 HD1 ⊢
  have a0 := x1.cell 0
  have a1 := x1.cell 1
  have a2 := x1.cell 2
  simp only [List.getElem?_cons_zero, List.getElem?_cons_succ] at a0 a1 a2
  have X4 := Lib.hid x4
  clear x1 x3 x4 hh
  go_wp2_with fail
  refine (HD1.out _ X4.out).mono ?_
  rintro e w1 ⟨rfl, hw⟩
  subst hw
  go_wp2_with fail
  refine (HM1.out _).mono ?_
  rintro e w1 ⟨rfl, rfl⟩
  go_wp2
  rw [HH.out]
  exact ⟨rfl, rfl, X4.out⟩
set_option maxRecDepth 100000 in
set_option maxHeartbeats 2000000 in
theorem small_big2 (v : Value) (n : Int) (d : Nat) (w : World) (h : Rt w v n d) (h1 : nDigits n.natAbs ≤ 20000) (h2 : ¬ nDigits d ≤ 20000) (hl1 : (limbs n.natAbs).length ≤ 1073741820) (hl2 : (limbs d).length ≤ 1073741820) :
    Calls Tryz.prog 68 #[v] w fun e w' => e = .panicked notSmall ∧ Below w.heap.size w w' := by
  obtain ⟨b, p, k, c, q, m, x, rfl, hb, hr, hlw⟩ := h.form
  obtain ⟨d0, hd0, hdg, hdl⟩ := hlw.digits hl2
  have HD1 := Lib.hid (fun W (hW : Below w.heap.size w W) => digits_any (.slice p k c) n.natAbs W (hr.below hW) (by omega))
  have HD2 := Lib.hid (fun W (hW : Below w.heap.size w W) => digits_any (.slice q m x) d0 W (hd0.below hW) (by omega))
  rw [hdg] at HD2
  have HM1 := Lib.hid (fun W => mustBeSmall_ok (digs n.natAbs) W (by rw [digs_nDigits]; exact h1))
  have HM2 := Lib.hid (fun W => mustBeSmall_big (digs d) W (by rw [digs_nDigits]; exact h2))
  generalize digs n.natAbs = D1 at *
  generalize digs d = D2 at *
  clear hb hr hlw hd0 hdg hdl h1 h2 hl1 hl2 h
  go_enter Tryz.func68, Tryz.ntmps68
  go_upto_region 1 with (fail)
  obtain ⟨x1, x3, x4⟩ := two_new w 27 27 #[.bool b, .slice p k c, .slice q m x] #[.bool false, .slice none 0 0, .slice none 0 0]
  generalize (w.alloc (.cells #[.bool b, .slice p k c, .slice q m x] 27)).alloc (.cells #[.bool false, .slice none 0 0, .slice none 0 0] 27) = w0 at *
  obtain ⟨h, hh⟩ : ∃ h, w.heap.size = h := ⟨_, rfl⟩
  have HH := Lib.hid hh
  rw [hh] at x1 x3 x4 HD1 HD2 ⊢
  have a0 := x1.cell 0
  have a1 := x1.cell 1
  have a2 := x1.cell 2
  simp only [List.getElem?_cons_zero, List.getElem?_cons_succ] at a0 a1 a2
  have X4 := Lib.hid x4
  clear x1 x3 x4 hh
  go_wp2_with fail
  refine (HD1.out _ X4.out).mono ?_
  rintro e w1 ⟨rfl, hw⟩
  subst hw
  go_wp2_with fail
  refine (HM1.out _).mono ?_
  rintro e w1 ⟨rfl, rfl⟩
  go_wp2_with fail
  refine (HD2.out _ X4.out).mono ?_
  rintro e w1 ⟨rfl, hw⟩
  subst hw
  go_wp2_with fail
  refine (HM2.out _).mono ?_
  rintro e w1 ⟨rfl, rfl⟩
  go_wp2
  rw [HH.out]
  exact ⟨rfl, rfl, X4.out⟩
/-- what small is given: a fraction of few digits, or not -/
def smallB (n : Int) (d : Nat) : Prop := nDigits n.natAbs ≤ 20000 ∧ nDigits d ≤ 20000
theorem smallR_big (v : Value) (n : Int) (d : Nat) (w : World) (h : Rt w v n d) (hs : ¬ smallB n d) (hl1 : (limbs n.natAbs).length ≤ 1073741820) (hl2 : (limbs d).length ≤ 1073741820) :
    Calls Tryz.prog 68 #[v] w fun e w' => e = .panicked notSmall ∧ Below w.heap.size w w' := by
  by_cases h1 : nDigits n.natAbs ≤ 20000
  · exact small_big2 v n d w h h1 (fun h2 => hs ⟨h1, h2⟩) hl1 hl2
  · exact small_big1 v n d w h h1 hl1
/-- the three cells of a fraction, boxed -/
def BoxR (w : World) (g : Nat) (n : Int) (d : Nat) : Prop := ∃ b p k c q m x, Row 27 w g [.bool b, .slice p k c, .slice q m x] ∧ Rt w (.agg #[.bool b, .slice p k c, .slice q m x]) n d
set_option maxRecDepth 100000 in
set_option maxHeartbeats 2000000 in
theorem work_ok (g : Nat) (n : Int) (d : Nat) (w : World) (h : BoxR w g n d) (hg : g < w.heap.size) (hs : smallB n d) (hl1 : (limbs n.natAbs).length ≤ 1073741820) (hl2 : (limbs d).length ≤ 1073741820) :
    Calls Tryz.prog 67 #[.pointer (some ⟨g, 0, none⟩)] w fun e w' => ∃ v, e = .returned v ∧ Rt w' v n d ∧ Below w.heap.size w w' := by
  obtain ⟨b, p, k, c, q, m, x, hrow, hrt⟩ := h
  have HSM := Lib.hid (fun W (hW : Below w.heap.size w W) => small_ok (.agg #[.bool b, .slice p k c, .slice q m x]) n d W (hrt.below hW) hs.1 hs.2 hl1 hl2)
  have HROW := Lib.hid hrow
  have HRT := Lib.hid hrt
  have HG := Lib.hid hg
  clear hrow hrt hg hs hl1 hl2
  go_enter Tryz.func67, Tryz.ntmps67
  go_upto_region 1 with (fail)
  have x1 := row_new 27 w #[.bool false, .slice none 0 0, .slice none 0 0]
  have x2 := (Below.refl w.heap.size w).alloc (Nat.le_refl _) (.cells #[.bool false, .slice none 0 0, .slice none 0 0] 27)
  have x3 : w.heap.size < (w.alloc (.cells #[.bool false, .slice none 0 0, .slice none 0 0] 27)).heap.size := by simp
  generalize w.alloc (.cells #[.bool false, .slice none 0 0, .slice none 0 0] 27) = w0 at *
  have hr0 := HROW.out.below x2 HG.out
  have a0 := hr0.cell 0
  have a1 := hr0.cell 1
  have a2 := hr0.cell 2
  simp only [List.getElem?_cons_zero, List.getElem?_cons_succ] at a0 a1 a2
  have X1 := Lib.hid x1
  have X2 := Lib.hid x2
  have X3 := Lib.hid x3
  clear x1 x2 x3 hr0 HROW
  obtain ⟨h, hh⟩ : ∃ h, w.heap.size = h := ⟨_, rfl⟩
  have HH := Lib.hid hh
  rw [hh] at X1 X2 X3 HSM ⊢
  clear hh
  go_wp2_with fail
  refine (HSM.out _ X2.out).mono ?_
  rintro e w1 ⟨rfl, hb⟩
  have HB := Lib.hid hb
  clear hb HSM
  have hbb_ := HB.out
  have hrow_ := X1.out.below hbb_ X3.out
  obtain ⟨⟨f1, f2⟩, ⟨f3, f4⟩, ⟨f5, f6⟩, f7⟩ := row3 hrow_ (.bool b) (.slice p k c) (.slice q m x)
  have hbe_ := (((X2.out.trans (hbb_.mono (Nat.le_of_lt X3.out))).setCell (p := ⟨h, 0, none⟩) (Nat.le_refl h) (.bool b)).setCell (p := ⟨h, 1, none⟩) (Nat.le_refl h) (.slice p k c)).setCell (p := ⟨h, 2, none⟩) (Nat.le_refl h) (.slice q m x)
  have HBE := Lib.hid hbe_
  have c0 := f7.cell 0
  have c1 := f7.cell 1
  have c2 := f7.cell 2
  simp only [List.getElem?_cons_zero, List.getElem?_cons_succ] at c0 c1 c2
  clear hbb_ hrow_ hbe_ f7
  go_wp2
  refine bodyPost_ret (v := .agg #[.bool b, .slice p k c, .slice q m x]) (by simp [results, Tryz.results67, go_sem, c0, c1, c2]) rfl ?_
  rw [HH.out]
  exact ⟨_, rfl, HRT.out.below (by rw [HH.out]; exact HBE.out), HBE.out⟩
set_option maxRecDepth 100000 in
set_option maxHeartbeats 2000000 in
theorem work_big (g : Nat) (n : Int) (d : Nat) (w : World) (h : BoxR w g n d) (hg : g < w.heap.size) (hs : ¬ smallB n d) (hl1 : (limbs n.natAbs).length ≤ 1073741820) (hl2 : (limbs d).length ≤ 1073741820) :
    Calls Tryz.prog 67 #[.pointer (some ⟨g, 0, none⟩)] w fun e w' => e = .panicked notSmall ∧ Below w.heap.size w w' := by
  obtain ⟨b, p, k, c, q, m, x, hrow, hrt⟩ := h
  have HSM := Lib.hid (fun W (hW : Below w.heap.size w W) => smallR_big (.agg #[.bool b, .slice p k c, .slice q m x]) n d W (hrt.below hW) hs hl1 hl2)
  have HROW := Lib.hid hrow
  have HG := Lib.hid hg
  clear hrow hrt hg hs hl1 hl2
  go_enter Tryz.func67, Tryz.ntmps67
  go_upto_region 1 with (fail)
  have x2 := (Below.refl w.heap.size w).alloc (Nat.le_refl _) (.cells #[.bool false, .slice none 0 0, .slice none 0 0] 27)
  have x3 : w.heap.size < (w.alloc (.cells #[.bool false, .slice none 0 0, .slice none 0 0] 27)).heap.size := by simp
  generalize w.alloc (.cells #[.bool false, .slice none 0 0, .slice none 0 0] 27) = w0 at *
  have hr0 := HROW.out.below x2 HG.out
  have a0 := hr0.cell 0
  have a1 := hr0.cell 1
  have a2 := hr0.cell 2
  simp only [List.getElem?_cons_zero, List.getElem?_cons_succ] at a0 a1 a2
  have X2 := Lib.hid x2
  have X3 := Lib.hid x3
  clear x2 x3 hr0 HROW
  obtain ⟨h, hh⟩ : ∃ h, w.heap.size = h := ⟨_, rfl⟩
  have HH := Lib.hid hh
  rw [hh] at X2 X3 HSM ⊢
  clear hh
  go_wp2_with fail
  refine (HSM.out _ X2.out).mono ?_
  rintro e w1 ⟨rfl, hb⟩
  have HB := Lib.hid (X2.out.trans (hb.mono (Nat.le_of_lt X3.out)))
  clear hb HSM
  go_wp2
  rw [HH.out]
  exact ⟨rfl, rfl, HB.out⟩
end Go.Proofs.YtmhmkhdgpfhnfaaGreatDoor.Ref
