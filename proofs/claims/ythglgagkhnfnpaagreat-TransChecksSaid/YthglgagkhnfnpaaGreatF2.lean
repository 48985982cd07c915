/- checkSequential, Same, First for what is no machine. -/
import Derived.Test.YthglgagkhnfnpaaGreatF1
set_option linter.unusedVariables false
set_option linter.unusedSimpArgs false
set_option linter.unnecessarySimpa false
namespace Go.Proofs.YthglgagkhnfnpaaGreat
open Go.RowKit

theorem row_new' (T : TypeId) (w : World) (g : Nat) (cs : Array Value) (hg : g = w.heap.size) : Row T (w.alloc (.cells cs T)) g cs.toList := by subst hg; exact row_new T w cs
set_option maxHeartbeats 1000000
theorem checkSeq_one (g : Nat) (s : Int) (pE pN : Option Addr) (nE cE nN cN : Nat) (w : World) (hr : Row 33 w g [.int .i64 s, .slice pE nE cE, .slice pN nN cN]) (h : Bad w (.agg #[.int .i64 s, .slice pE nE cE, .slice pN nN cN])) :
    Calls Tryz.prog 26 #[.slice (some ⟨g, 0, none⟩) 1 1] w fun e w' => e = .returned (.int .i64 30) ∧ Below w.heap.size w w' := by
  have H := Lib.hid h
  have c0 : w.cell? ⟨g, 0, none⟩ = some (.int .i64 s) := hr.cell 0
  have c1 : w.cell? ⟨g, 1, none⟩ = some (.slice pE nE cE) := hr.cell 1
  have c2 : w.cell? ⟨g, 2, none⟩ = some (.slice pN nN cN) := hr.cell 2
  have c3 := hr.lt
  clear h hr
  go_enter Tryz.func26, Tryz.ntmps26
  go_wp2
  refine wp_loop_rounds 1 ?_
  rw [rounds_succ]
  go_wp2_with (go_at_call 6; refine (H.out _ (box_below _ _)).mono ?_; rintro e w1 ⟨rfl, hb⟩; have HB1 := Lib.hid hb; clear hb)
  go_ret
  exact ⟨rfl, (box_below _ _).trans (HB1.out.mono (by simp))⟩
theorem checkSeq_two (g : Nat) (s0 s : Int) (pE0 pN0 pE pN : Option Addr) (nE0 cE0 nN0 cN0 nE cE nN cN : Nat) (w : World) (hr : Row 33 w g [.int .i64 s0, .slice pE0 nE0 cE0, .slice pN0 nN0 cN0, .int .i64 s, .slice pE nE cE, .slice pN nN cN]) (b : Bool)
    (h0 : ∀ w1, Below w.heap.size w w1 → Calls Tryz.prog 6 #[.agg #[.int .i64 s0, .slice pE0 nE0 cE0, .slice pN0 nN0 cN0]] w1 fun e w' => e = .returned (.int .i64 (if b then 0 else 30)) ∧ Below w1.heap.size w1 w')
    (h : Bad w (.agg #[.int .i64 s, .slice pE nE cE, .slice pN nN cN])) :
    Calls Tryz.prog 26 #[.slice (some ⟨g, 0, none⟩) 2 2] w fun e w' => e = .returned (.int .i64 30) ∧ Below w.heap.size w w' := by
  have H := Lib.hid h
  have c0 : w.cell? ⟨g, 0, none⟩ = some (.int .i64 s0) := hr.cell 0
  have c1 : w.cell? ⟨g, 1, none⟩ = some (.slice pE0 nE0 cE0) := hr.cell 1
  have c2 : w.cell? ⟨g, 2, none⟩ = some (.slice pN0 nN0 cN0) := hr.cell 2
  have c3 : w.cell? ⟨g, 3, none⟩ = some (.int .i64 s) := hr.cell 3
  have c4 : w.cell? ⟨g, 4, none⟩ = some (.slice pE nE cE) := hr.cell 4
  have c5 : w.cell? ⟨g, 5, none⟩ = some (.slice pN nN cN) := hr.cell 5
  have c6 := hr.lt
  clear h hr
  cases b
  · have H0 : Hid (∀ w1, Below w.heap.size w w1 → Calls Tryz.prog 6 #[.agg #[.int .i64 s0, .slice pE0 nE0 cE0, .slice pN0 nN0 cN0]] w1 fun e w' => e = .returned (.int .i64 30) ∧ Below w1.heap.size w1 w') := h0
    clear h0
    go_enter Tryz.func26, Tryz.ntmps26
    go_wp2
    refine wp_loop_rounds 1 ?_
    rw [rounds_succ]
    go_wp2_with (go_at_call 6; refine (H0.out _ (box_below _ _)).mono ?_; rintro e w1 ⟨rfl, hb⟩; have HB1 := Lib.hid hb; clear hb)
    go_ret
    exact ⟨rfl, (box_below _ _).trans (HB1.out.mono (by simp))⟩
  · have H0 : Hid (∀ w1, Below w.heap.size w w1 → Calls Tryz.prog 6 #[.agg #[.int .i64 s0, .slice pE0 nE0 cE0, .slice pN0 nN0 cN0]] w1 fun e w' => e = .returned (.int .i64 0) ∧ Below w1.heap.size w1 w') := h0
    clear h0
    go_enter Tryz.func26, Tryz.ntmps26
    go_wp2
    refine wp_loop_rounds 2 ?_
    rw [rounds_succ]
    go_wp2_with (fail)
    go_at_call 6
    refine (H0.out _ (box_below _ _)).mono ?_
    rintro e w1 ⟨rfl, hb⟩
    have HBB := Lib.hid ((box_below w (.cells #[.int .i64 s0, .slice pE0 nE0 cE0, .slice pN0 nN0 cN0] 33)).trans (hb.mono (by simp)))
    clear hb
    go_wp2_with (fail)
    rw [rounds_succ]
    have d3 := (HBB.out.cell (p := ⟨g, 3, none⟩) c6).trans c3
    have d4 := (HBB.out.cell (p := ⟨g, 4, none⟩) c6).trans c4
    have d5 := (HBB.out.cell (p := ⟨g, 5, none⟩) c6).trans c5
    go_wp2_with (go_at_call 6; refine (H.out _ (HBB.out.trans ((box_below _ _).mono HBB.out.size))).mono ?_; rintro e w2 ⟨rfl, hb⟩; have HB2 := Lib.hid hb; clear hb)
    go_ret
    exact ⟨rfl, (HBB.out.trans ((box_below _ _).mono HBB.out.size)).trans (HB2.out.mono (by have := HBB.out.size; simp; omega))⟩
theorem same_bad (s0 s : Int) (pE0 pN0 pE pN : Option Addr) (nE0 cE0 nN0 cN0 nE cE nN cN : Nat) (w : World) (b : Bool)
    (h0 : ∀ w1, Below w.heap.size w w1 → Calls Tryz.prog 6 #[.agg #[.int .i64 s0, .slice pE0 nE0 cE0, .slice pN0 nN0 cN0]] w1 fun e w' => e = .returned (.int .i64 (if b then 0 else 30)) ∧ Below w1.heap.size w1 w')
    (h : Bad w (.agg #[.int .i64 s, .slice pE nE cE, .slice pN nN cN])) :
    Calls Tryz.prog 14 #[.agg #[.int .i64 s0, .slice pE0 nE0 cE0, .slice pN0 nN0 cN0], .agg #[.int .i64 s, .slice pE nE cE, .slice pN nN cN]] w fun e w' => e = .returned (.tuple #[.string ⟨#[]⟩, .bool false, .int .i64 30]) ∧ Below w.heap.size w w' := by
  have H := Lib.hid h
  have H0 := Lib.hid h0
  clear h h0
  go_enter Tryz.func14, Tryz.ntmps14
  go_wp2_with (fail)
  go_at_call 26
  have HB := Lib.hid (((box_below w (.cells #[.int .i64 s0, .slice pE0 nE0 cE0, .slice pN0 nN0 cN0] 33)).trans ((box_below _ (.cells #[.int .i64 s, .slice pE nE cE, .slice pN nN cN] 33)).mono (by simp))).trans ((box_below _ (.cells #[.int .i64 s0, .slice pE0 nE0 cE0, .slice pN0 nN0 cN0, .int .i64 s, .slice pE nE cE, .slice pN nN cN] 33)).mono (by simp; omega)))
  refine (checkSeq_two _ s0 s pE0 pN0 pE pN nE0 cE0 nN0 cN0 nE cE nN cN _ ?c0 b ?c1 ?c2).mono ?_
  case c0 => exact row_new' _ _ _ _ (by simp)
  case c1 => exact fun w1 h1 => H0.out w1 (HB.out.trans (h1.mono HB.out.size))
  case c2 => exact H.out.below HB.out
  rintro e w1 ⟨rfl, hb⟩
  have HB1 := Lib.hid hb
  clear hb
  go_wp2_with (fail)
  go_ret3
  exact ⟨rfl, HB.out.trans (HB1.out.mono HB.out.size)⟩
theorem first_bad (s : Int) (pE pN : Option Addr) (nE cE nN cN : Nat) (w : World) (h : Bad w (.agg #[.int .i64 s, .slice pE nE cE, .slice pN nN cN])) :
    Calls Tryz.prog 15 #[.agg #[.int .i64 s, .slice pE nE cE, .slice pN nN cN]] w fun e w' => e = .returned (.tuple #[.string ⟨#[]⟩, .agg #[.int .i64 0, .slice none 0 0, .slice none 0 0], .int .i64 30]) ∧ Below w.heap.size w w' := by
  have H := Lib.hid h
  clear h
  go_enter Tryz.func15, Tryz.ntmps15
  go_wp2_with (fail)
  go_at_call 26
  have HB := Lib.hid (((box_below w (.cells #[.int .i64 s, .slice pE nE cE, .slice pN nN cN] 33)).trans ((box_below _ (.cells #[.int .i64 0, .slice none 0 0, .slice none 0 0] 33)).mono (by simp))).trans ((box_below _ (.cells #[.int .i64 s, .slice pE nE cE, .slice pN nN cN] 33)).mono (by simp; omega)))
  have HR : Hid (Row 33 (((w.alloc (.cells #[.int .i64 s, .slice pE nE cE, .slice pN nN cN] 33)).alloc (.cells #[.int .i64 0, .slice none 0 0, .slice none 0 0] 33)).alloc (.cells #[.int .i64 s, .slice pE nE cE, .slice pN nN cN] 33)) (w.heap.size + 1) [.int .i64 0, .slice none 0 0, .slice none 0 0]) := (row_new' _ _ _ _ (by simp)).alloc _
  refine (checkSeq_one _ s pE pN nE cE nN cN _ ?c0 ?c1).mono ?_
  case c0 => exact row_new' _ _ _ _ (by simp)
  case c1 => exact H.out.below HB.out
  rintro e w1 ⟨rfl, hb⟩
  have HB1 := Lib.hid hb
  have HR1 := Lib.hid (HR.out.below hb HR.out.lt)
  clear hb
  have r0 : w1.cell? ⟨w.heap.size + 1, 0, none⟩ = some (.int .i64 0) := HR1.out.cell 0
  have r1 : w1.cell? ⟨w.heap.size + 1, 1, none⟩ = some (.slice none 0 0) := HR1.out.cell 1
  have r2 : w1.cell? ⟨w.heap.size + 1, 2, none⟩ = some (.slice none 0 0) := HR1.out.cell 2
  have q0 := HR1.out.free 0
  have q1 := HR1.out.free 1
  have q2 := HR1.out.free 2
  go_wp2_with (fail)
  have k0 := (HR1.out.store 0 (.int .i64 0)).cell 0
  have k1 := ((HR1.out.store 0 (.int .i64 0)).store 1 (.slice none 0 0)).cell 1
  have k2 := (((HR1.out.store 0 (.int .i64 0)).store 1 (.slice none 0 0)).store 2 (.slice none 0 0)).cell 2
  simp only [List.set_cons_zero, List.set_cons_succ, List.getElem?_cons_zero, List.getElem?_cons_succ] at k0 k1 k2
  refine bodyPost_ret (v := .tuple #[.string ⟨#[]⟩, .agg #[.int .i64 0, .slice none 0 0, .slice none 0 0], .int .i64 30]) (by simp [results, Tryz.results15, go_sem, k0, k1, k2, r0, r1, r2]) rfl ⟨rfl, ?_⟩
  have hbw := HB.out.trans (HB1.out.mono HB.out.size)
  first
    | exact hbw
    | exact (((hbw.setCell (by simp) _).setCell (by simp) _).setCell (by simp) _)
end Go.Proofs.YthglgagkhnfnpaaGreat
