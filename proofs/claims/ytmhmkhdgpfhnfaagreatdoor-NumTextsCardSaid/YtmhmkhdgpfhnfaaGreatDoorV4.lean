/- The program's attempt: what is recovered. -/
import Derived.Test.YtmhmkhdgpfhnfaaGreatDoorT6
import Derived.Recover
import Derived.Defers
set_option linter.unusedVariables false
set_option linter.unusedSimpArgs false
set_option linter.unnecessarySimpa false
namespace Go.Proofs.YtmhmkhdgpfhnfaaGreatDoor.Ref
open Go.RowKit Go.Lib

/-- the panic of what is not small -/
def notSmall : List PanicEntry := [{ v := .iface 28 (.int .i64 11), recovered := false }]
theorem mustBeSmall_ok (k : Nat) (w : World) (h : k ≤ 20000) :
    Calls Tryz.prog 129 #[.int .i64 (k : Nat)] w fun e w' => e = .returned (.tuple #[]) ∧ w' = w := by
  have gk : ¬ ((20000 : Int) < (k : Int)) := by omega
  clear h
  go_enter Tryz.func129, Tryz.ntmps129
  go_wp2
  go_end0
  exact ⟨rfl, rfl⟩
theorem mustBeSmall_big (k : Nat) (w : World) (h : ¬ k ≤ 20000) :
    Calls Tryz.prog 129 #[.int .i64 (k : Nat)] w fun e w' => e = .panicked notSmall ∧ w' = w := by
  have gk : (20000 : Int) < (k : Int) := by omega
  clear h
  go_enter Tryz.func129, Tryz.ntmps129
  go_wp2
  exact ⟨rfl, rfl, rfl⟩
theorem catch_panicking (p : Addr) (x : Int) (pv : Value) (u : TypeId) (older : List PanicEntry) (w : World) (hc : w.cell? p = some (.int .i64 x)) (hz : w.frozen? p = false) :
    CallsD Tryz.prog 128 #[.pointer (some p)] (.panicking ({ v := .iface u pv, recovered := false } :: older)) w fun e u' w' =>
      e = .returned (.tuple #[]) ∧ u' = .panicking ({ v := .iface u pv, recovered := true } :: older) ∧ w' = w.setCell p (.int .i64 11) := by
  refine callsD_of_wpS Tryz.func128 rfl fun c₀ cs hu => ?_
  apply wpS_seq
  apply wpS_region
  simp [wpOpsS, go_sem, recoverD, hu, Tryz.ntmps128, Exit.thenS]
  refine wpS_cond (t := true) (by simp [Act.eval, Array.replicate]) ?_
  simp only [if_true]
  apply wpS_region
  simp [wpOpsS, go_sem, hc, hz, bodyPostS, results, Tryz.results128]
theorem catch_idle (p : Addr) (w : World) :
    CallsD Tryz.prog 128 #[.pointer (some p)] .returning w fun e u' w' => e = .returned (.tuple #[]) ∧ u' = .returning ∧ w' = w := by
  refine callsD_of_wpS Tryz.func128 rfl fun c₀ cs hu => ?_
  apply wpS_seq
  apply wpS_region
  simp [wpOpsS, go_sem, recoverD, hu, Tryz.ntmps128, Exit.thenS]
  refine wpS_cond (t := false) (by simp [Act.eval, Array.replicate]) ?_
  simp only [Bool.false_eq_true, if_false]
  refine wpS_of_wp (wp_skip ?_)
  cases c₀
  simp_all [bodyPostS, results, Tryz.results128]
theorem rd_putU {T g : Nat} {w : World} {v : Value} {l : List Nat} {xs : List Value} (h : Rd .u32 w v l) (hr : Row T w g xs) (hx : ∀ x ∈ xs, ∀ n : Int, x ≠ .int .u32 n) (i : Nat) (u : Value) : Rd .u32 (w.setCell ⟨g, i, none⟩ u) v l := by
  obtain ⟨p, cap, hv, hl, hm, hn, hp⟩ := h
  refine ⟨p, cap, hv, hl, hm, hn, fun h0 => ?_⟩
  obtain ⟨b, off, rfl, hb, hc⟩ := hp h0
  have hbg : b ≠ g := by
    rintro rfl
    have h1 := hc 0 h0
    rw [Nat.add_zero, hr.cell] at h1
    exact hx _ (List.mem_of_getElem? h1) _ rfl
  have hs : b < (w.setCell ⟨g, i, none⟩ u).heap.size := Nat.lt_of_lt_of_le hb ((Below.refl 0 w).setCell (Nat.zero_le _) u).size
  refine ⟨b, off, rfl, hs, fun j hj => ?_⟩
  rw [World.cell?_of_block (w := w) (Below.heap_setCell _ _ _ _ (by show b ≠ g; exact hbg))]
  exact hc j hj
theorem Rt.put3 {T g : Nat} {w : World} {v x0 x1 x2 : Value} {n : Int} {d : Nat} (h : Rt w v n d) (hr : Row T w g [x0, x1, x2]) (h0 : NoInt x0) (h1 : NoInt x1) (h2 : NoInt x2) (y0 y1 y2 : Value) (g0 : NoInt y0) (g1 : NoInt y1) :
    Rt (((w.setCell ⟨g, 0, none⟩ y0).setCell ⟨g, 1, none⟩ y1).setCell ⟨g, 2, none⟩ y2) v n d := by
  obtain ⟨p, k, c, l, hv, hr', hl⟩ := h
  exact ⟨p, k, c, l, hv, rd_put3 hr' hr h0 h1 h2 y0 y1 y2 g0 g1, hl.put3 hr h0 h1 h2 y0 y1 y2 g0 g1⟩
theorem Rt.putI {T g : Nat} {w : World} {v : Value} {n : Int} {d : Nat} {x : Int} (h : Rt w v n d) (hr : Row T w g [.int .i64 x]) (i : Nat) (u : Value) : Rt (w.setCell ⟨g, i, none⟩ u) v n d := by
  obtain ⟨p, k, c, l, hv, hr', hl⟩ := h
  have hx : ∀ y ∈ [Value.int .i64 x], ∀ n : Int, y ≠ .int .u32 n := by
    intro y hy n e
    simp at hy
    rw [hy] at e
    cases e
  refine ⟨p, k, c, l, hv, rd_putU hr' hr hx i u, ?_⟩
  rcases hl with hl | ⟨h1, h2⟩
  · exact .inl hl
  · exact .inr ⟨h1, rd_putU h2 hr hx i u⟩
theorem two_new (w : World) (T1 T3 : TypeId) (c1 c3 : Array Value) :
    Row T1 ((w.alloc (.cells c1 T1)).alloc (.cells c3 T3)) w.heap.size c1.toList ∧ Row T3 ((w.alloc (.cells c1 T1)).alloc (.cells c3 T3)) (w.heap.size + 1) c3.toList ∧
    Below w.heap.size w ((w.alloc (.cells c1 T1)).alloc (.cells c3 T3)) := by
  obtain ⟨h1, h2, h3, _⟩ := two_boxes w T1 T3 c1 c3
  exact ⟨h1, h2, h3⟩
set_option maxRecDepth 100000 in
set_option maxHeartbeats 2000000 in
theorem attempt_ok (fn : FuncId) (caps : Array Value) (n : Int) (d : Nat) (w : World) (hent : ∀ args w, (callFunc fn args).run Tryz.prog w = .ok (.enter fn args) w)
    (hwork : ∀ W, Below w.heap.size w W → Calls Tryz.prog fn caps W fun e w' => ∃ v, e = .returned v ∧ Rt w' v n d ∧ Below W.heap.size W w') :
    Calls Tryz.prog 66 #[.func (Fn.func fn) #[] caps] w fun e w' => ∃ v, e = .returned (.tuple #[v, .int .i64 0]) ∧ Rt w' v n d ∧ Below w.heap.size w w' := by
  have hmf : ∀ (fn : Fn) (first cap : Array Value) (w : World), (Instr.makeFunc fn first cap).run Tryz.prog w = .ok (.func fn first cap) w := fun _ _ _ _ => rfl
  have HWK := Lib.hid hwork
  clear hwork
  obtain ⟨x1, x3, x4⟩ := two_new w 27 28 #[.bool false, .slice none 0 0, .slice none 0 0] #[.int .i64 0]
  have X1 := Lib.hid x1
  have X3 := Lib.hid x3
  have X4 := Lib.hid x4
  clear x1 x3 x4
  go_enter_defers Tryz.func66, Tryz.ntmps66
  go_wp2_with fail
  refine (HWK.out _ X4.out).mono ?_
  rintro e w2 ⟨v, rfl, hv, hb⟩
  obtain ⟨b, p, k, c, q, m, x, rfl, hbx, hrx, hlx⟩ := hv.form
  clear hbx hrx hlx
  obtain ⟨h, hh⟩ : ∃ h, w.heap.size = h := ⟨_, rfl⟩
  have HH := Lib.hid hh
  have hr1 := X1.out.below hb X1.out.lt
  have hr3 := X3.out.below hb X3.out.lt
  have hbw := X4.out.trans (hb.mono (Nat.le_of_lt X1.out.lt))
  rw [hh] at hr1 hr3 hbw ⊢
  obtain ⟨⟨f1, f2⟩, ⟨f3, f4⟩, ⟨f5, f6⟩, f7⟩ := row3 hr1 (.bool b) (.slice p k c) (.slice q m x)
  have hv3 := hv.put3 hr1 (noInt_bool _) (noInt_slice _ _ _) (noInt_slice _ _ _) (.bool b) (.slice p k c) (.slice q m x) (noInt_bool _) (noInt_slice _ _ _)
  have hr4 := ((hr3.other ⟨h, 0, none⟩ (by show h ≠ h + 1; omega) (.bool b)).other ⟨h, 1, none⟩ (by show h ≠ h + 1; omega) (.slice p k c)).other ⟨h, 2, none⟩ (by show h ≠ h + 1; omega) (.slice q m x)
  have g1 := hr4.cell 0
  have g2 := hr4.free 0
  have hr5 := hr4.store 0 (.int .i64 0)
  have f8 := f7.other ⟨h + 1, 0, none⟩ (by show h + 1 ≠ h; omega) (.int .i64 0)
  have hv4 := hv3.putI hr4 0 (.int .i64 0)
  have hbe := ((((hbw.setCell (p := ⟨h, 0, none⟩) (Nat.le_refl h) (.bool b)).setCell (p := ⟨h, 1, none⟩) (Nat.le_refl h) (.slice p k c)).setCell (p := ⟨h, 2, none⟩) (Nat.le_refl h) (.slice q m x)).setCell (p := ⟨h + 1, 0, none⟩) (Nat.le_succ h) (.int .i64 0))
  have HV4 := Lib.hid hv4
  have HBE := Lib.hid hbe
  have c0 := f8.cell 0
  have c1 := f8.cell 1
  have c2 := f8.cell 2
  have c3 := hr5.cell 0
  simp only [List.getElem?_cons_zero, List.getElem?_cons_succ] at c0 c1 c2 c3 g1
  clear hv hb hr1 hr3 hbw hv3 hr4 hr5 f7 f8 hv4 hbe hh HWK X1 X3 X4
  go_wp2_with fail
  refine leaves_cons (f := 128) (args := #[.pointer (some ⟨h + 1, 0, none⟩)]) (by simp) (by simp [go_sem]) ?_
  refine (catch_idle ⟨h + 1, 0, none⟩ _).mono ?_
  rintro e u' w'' ⟨rfl, rfl, rfl⟩
  simp at c3
  simp [Leaves, settle, results, Tryz.results66, go_sem, c0, c1, c2, c3]
  refine ⟨HV4.out, ?_⟩
  rw [HH.out]
  exact HBE.out
set_option maxRecDepth 100000 in
set_option maxHeartbeats 2000000 in
theorem attempt_big (fn : FuncId) (caps : Array Value) (w : World) (hent : ∀ args w, (callFunc fn args).run Tryz.prog w = .ok (.enter fn args) w)
    (hwork : ∀ W, Below w.heap.size w W → Calls Tryz.prog fn caps W fun e w' => e = .panicked notSmall ∧ Below W.heap.size W w') :
    Calls Tryz.prog 66 #[.func (Fn.func fn) #[] caps] w fun e w' => e = .returned (.tuple #[.agg #[.bool false, .slice none 0 0, .slice none 0 0], .int .i64 11]) ∧ Below w.heap.size w w' := by
  have hmf : ∀ (fn : Fn) (first cap : Array Value) (w : World), (Instr.makeFunc fn first cap).run Tryz.prog w = .ok (.func fn first cap) w := fun _ _ _ _ => rfl
  have HWK := Lib.hid hwork
  clear hwork
  obtain ⟨x1, x3, x4⟩ := two_new w 27 28 #[.bool false, .slice none 0 0, .slice none 0 0] #[.int .i64 0]
  have X1 := Lib.hid x1
  have X3 := Lib.hid x3
  have X4 := Lib.hid x4
  clear x1 x3 x4
  go_enter_defers Tryz.func66, Tryz.ntmps66
  go_wp2_with fail
  refine (HWK.out _ X4.out).mono ?_
  rintro e w2 ⟨rfl, hb⟩
  obtain ⟨h, hh⟩ : ∃ h, w.heap.size = h := ⟨_, rfl⟩
  have HH := Lib.hid hh
  have hr1 := X1.out.below hb X1.out.lt
  have hr3 := X3.out.below hb X3.out.lt
  have hbw := X4.out.trans (hb.mono (Nat.le_of_lt X1.out.lt))
  rw [hh] at hr1 hr3 hbw ⊢
  have hr5 := hr3.store 0 (.int .i64 11)
  have f8 := hr1.other ⟨h + 1, 0, none⟩ (by show h + 1 ≠ h; omega) (.int .i64 11)
  have HBE := Lib.hid (hbw.setCell (p := ⟨h + 1, 0, none⟩) (Nat.le_succ h) (.int .i64 11))
  have k0 := hr3.cell 0
  have k1 := hr3.free 0
  have c0 := f8.cell 0
  have c1 := f8.cell 1
  have c2 := f8.cell 2
  have c3 := hr5.cell 0
  simp at c0 c1 c2 c3 k0
  clear hb hr1 hr3 hbw hr5 f8 hh HWK X1 X3 X4
  refine leaves_cons (f := 128) (args := #[.pointer (some ⟨h + 1, 0, none⟩)]) (by simp) (by simp [go_sem]) ?_
  refine (catch_panicking ⟨h + 1, 0, none⟩ 0 (.int .i64 11) _ _ _ k0 k1).mono ?_
  rintro e u' w'' ⟨rfl, rfl, rfl⟩
  simp [Leaves, settle, results, Tryz.results66, go_sem, c0, c1, c2, c3]
  rw [HH.out]
  exact HBE.out
end Go.Proofs.YtmhmkhdgpfhnfaaGreatDoor.Ref
