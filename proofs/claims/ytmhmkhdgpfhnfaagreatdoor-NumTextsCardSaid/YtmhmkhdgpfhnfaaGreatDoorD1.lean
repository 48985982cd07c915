import Derived.Test.YtmhmkhdgpfhnfaaGreatDoorC7
import Derived.Deep.RegionHeld3
set_option linter.unusedVariables false
set_option linter.unusedSimpArgs false
set_option linter.unnecessarySimpa false
namespace Go.Proofs.YtmhmkhdgpfhnfaaGreatDoor
open Go.RowKit
/-- the sign that 'signed' gives -/
def sgB (neg : Bool) (n : Nat) : Bool := neg && decide (n ≠ 0)
theorem sgB_zero (neg : Bool) : sgB neg 0 = false := by cases neg <;> rfl
theorem sgB_pos {n : Nat} (h : n ≠ 0) (neg : Bool) : sgB neg n = neg := by unfold sgB; simp [h]
/-- the two cells of a whole number -/
def Wh (w : World) (v : Value) (z : Int) : Prop := ∃ s, v = .agg #[.bool (decide (z < 0)), s] ∧ Rd .u32 w s (limbs z.natAbs)
set_option maxHeartbeats 400000 in
theorem signed_any (neg : Bool) (s : Value) (n : Nat) (w : World) (hs : Rd .u32 w s (limbs n)) (hl : (limbs n).length ≤ 1073741820) :
    Calls Tryz.prog 62 #[.bool neg, s] w fun e w' => e = .returned (.agg #[.bool (sgB neg n), s]) ∧ Below w.heap.size w w' := by
  obtain ⟨p, cap, rfl, hlc, hcm, hn, hp⟩ := hs
  cases neg with
  | false =>
    clear hp hn
    go_enter Tryz.func62, Tryz.ntmps62
    go_wp2
    refine bodyPost_ret (v := .agg #[.bool false, .slice p (limbs n).length cap]) (by simp [results, Tryz.results62, go_sem]) rfl ⟨rfl, (Below.refl _ _).alloc (Nat.le_refl _) _⟩
  | true =>
    by_cases h0 : n = 0
    · subst h0
      obtain ⟨rfl, rfl⟩ := hn limbs_zero
      rw [limbs_zero]
      clear hp hn hlc hl
      go_enter Tryz.func62, Tryz.ntmps62
      go_wp2
      refine bodyPost_ret (v := .agg #[.bool false, .slice none 0 0]) (by simp [results, Tryz.results62, go_sem]) rfl ⟨by rw [sgB_zero], (Below.refl _ _).alloc (Nat.le_refl _) _⟩
    · have hne : 0 < (limbs n).length := List.length_pos_iff.2 (fun h => h0 ((limbs_nil_iff n).1 h))
      have hl0 : (0 : Int) < ((limbs n).length : Int) := by omega
      have H0 := Lib.hid h0
      clear hp hn h0
      go_enter Tryz.func62, Tryz.ntmps62
      go_wp2
      refine bodyPost_ret (v := .agg #[.bool true, .slice p (limbs n).length cap]) (by simp [results, Tryz.results62, go_sem]) rfl ⟨by rw [sgB_pos H0.out], (Below.refl _ _).alloc (Nat.le_refl _) _⟩
theorem row2 {T : TypeId} {w : World} {h : Nat} {x0 x1 : Value} (r : Row T w h [x0, x1]) (y0 y1 : Value) :
    (w.cell? ⟨h, 0, none⟩ = some x0 ∧ w.frozen? ⟨h, 0, none⟩ = false) ∧ ((w.setCell ⟨h, 0, none⟩ y0).cell? ⟨h, 1, none⟩ = some x1 ∧ (w.setCell ⟨h, 0, none⟩ y0).frozen? ⟨h, 1, none⟩ = false) ∧
    Row T ((w.setCell ⟨h, 0, none⟩ y0).setCell ⟨h, 1, none⟩ y1) h [y0, y1] := by
  have r1 := r.store 0 y0
  exact ⟨⟨r.cell 0, r.free 0⟩, ⟨r1.cell 1, r1.free 1⟩, r1.store 1 y1⟩
/-- 'Out', the slice written out -/
def OutX (T : TypeId) (K : IntKind) (w : World) (l : List Nat) (e : Ending) (w' : World) : Prop :=
  ∃ p cap, e = .returned (.slice p l.length cap) ∧ Own T K w.heap.size w' (.slice p l.length cap) l ∧ Below w.heap.size w w'
theorem Out.x {T : TypeId} {K : IntKind} {w w' : World} {l : List Nat} {e : Ending} (h : Out T K w l e w') : OutX T K w l e w' := by
  obtain ⟨v, he, ho, hb⟩ := h
  obtain ⟨p, cap, rfl, _⟩ := ho.rd
  exact ⟨p, cap, he, ho, hb⟩
/-- the two boxes of the arguments and the box of the result -/
theorem three_boxes (w : World) (T1 T2 T3 : TypeId) (c1 c2 c3 : Array Value) :
    Row T1 (((w.alloc (.cells c1 T1)).alloc (.cells c2 T2)).alloc (.cells c3 T3)) w.heap.size c1.toList ∧
    Row T2 (((w.alloc (.cells c1 T1)).alloc (.cells c2 T2)).alloc (.cells c3 T3)) (w.heap.size + 1) c2.toList ∧
    Row T3 (((w.alloc (.cells c1 T1)).alloc (.cells c2 T2)).alloc (.cells c3 T3)) (w.heap.size + 2) c3.toList ∧
    Below w.heap.size w (((w.alloc (.cells c1 T1)).alloc (.cells c2 T2)).alloc (.cells c3 T3)) := by
  refine ⟨((row_new T1 w c1).alloc _).alloc _, ?_, ?_, (((Below.refl _ _).alloc (Nat.le_refl _) _).alloc (by simp) _).alloc (by simp; omega) _⟩
  · have := (row_new T2 (w.alloc (.cells c1 T1)) c2).alloc (.cells c3 T3)
    simpa using this
  · have := row_new T3 ((w.alloc (.cells c1 T1)).alloc (.cells c2 T2)) c3
    simpa using this
end Go.Proofs.YtmhmkhdgpfhnfaaGreatDoor
