/- The program's fractions made of integers: wholeOf, ratio, lowest, Of, Make. -/
import Derived.Test.YtmhmkhdgpfhnfaaGreatDoorT4
set_option linter.unusedVariables false
set_option linter.unusedSimpArgs false
set_option linter.unnecessarySimpa false
/- The program's fractions made of integers: wholeOf, ratio, lowest, Of, Make. -/
namespace Go.Proofs.YtmhmkhdgpfhnfaaGreatDoor.Ref
open Go.RowKit Go.Lib

theorem row3 {T : TypeId} {w : World} {h : Nat} {x0 x1 x2 : Value} (r : Row T w h [x0, x1, x2]) (y0 y1 y2 : Value) :
    (w.cell? ⟨h, 0, none⟩ = some x0 ∧ w.frozen? ⟨h, 0, none⟩ = false) ∧ ((w.setCell ⟨h, 0, none⟩ y0).cell? ⟨h, 1, none⟩ = some x1 ∧ (w.setCell ⟨h, 0, none⟩ y0).frozen? ⟨h, 1, none⟩ = false) ∧
    (((w.setCell ⟨h, 0, none⟩ y0).setCell ⟨h, 1, none⟩ y1).cell? ⟨h, 2, none⟩ = some x2 ∧ ((w.setCell ⟨h, 0, none⟩ y0).setCell ⟨h, 1, none⟩ y1).frozen? ⟨h, 2, none⟩ = false) ∧
    Row T (((w.setCell ⟨h, 0, none⟩ y0).setCell ⟨h, 1, none⟩ y1).setCell ⟨h, 2, none⟩ y2) h [y0, y1, y2] := by
  have r1 := r.store 0 y0
  have r2 := r1.store 1 y1
  exact ⟨⟨r.cell 0, r.free 0⟩, ⟨r1.cell 1, r1.free 1⟩, ⟨r2.cell 2, r2.free 2⟩, r2.store 2 y2⟩
theorem rd_put {T g : Nat} {w : World} {v : Value} {l : List Nat} {xs : List Value} (h : Rd .u32 w v l) (hr : Row T w g xs) (hx : ∀ x ∈ xs, NoInt x) (i : Nat) (u : Value) : Rd .u32 (w.setCell ⟨g, i, none⟩ u) v l := by
  obtain ⟨p, cap, hv, hl, hm, hn, hp⟩ := h
  refine ⟨p, cap, hv, hl, hm, hn, fun h0 => ?_⟩
  obtain ⟨b, off, rfl, hb, hc⟩ := hp h0
  have hbg : b ≠ g := by
    rintro rfl
    have h1 := hc 0 h0
    rw [Nat.add_zero, hr.cell] at h1
    exact hx _ (List.mem_of_getElem? h1) _ _ rfl
  have hs : b < (w.setCell ⟨g, i, none⟩ u).heap.size := Nat.lt_of_lt_of_le hb ((Below.refl 0 w).setCell (Nat.zero_le _) u).size
  refine ⟨b, off, rfl, hs, fun j hj => ?_⟩
  rw [World.cell?_of_block (w := w) (Below.heap_setCell _ _ _ _ (by show b ≠ g; exact hbg))]
  exact hc j hj
theorem rd_put3 {T g : Nat} {w : World} {v x0 x1 x2 : Value} {l : List Nat} (h : Rd .u32 w v l) (hr : Row T w g [x0, x1, x2]) (h0 : NoInt x0) (h1 : NoInt x1) (h2 : NoInt x2) (y0 y1 y2 : Value) (g0 : NoInt y0) (g1 : NoInt y1) :
    Rd .u32 (((w.setCell ⟨g, 0, none⟩ y0).setCell ⟨g, 1, none⟩ y1).setCell ⟨g, 2, none⟩ y2) v l := by
  have a1 : ∀ x ∈ [x0, x1, x2], NoInt x := by intro x hx; simp at hx; rcases hx with rfl | rfl | rfl <;> assumption
  have r1 := hr.store 0 y0
  have a2 : ∀ x ∈ [y0, x1, x2], NoInt x := by intro x hx; simp at hx; rcases hx with rfl | rfl | rfl <;> assumption
  have r2 := r1.store 1 y1
  have a3 : ∀ x ∈ [y0, y1, x2], NoInt x := by intro x hx; simp at hx; rcases hx with rfl | rfl | rfl <;> assumption
  exact rd_put (rd_put (rd_put h hr a1 0 y0) r1 a2 1 y1) r2 a3 2 y2
theorem Lw.form {w : World} {l : Value} {d : Nat} (h : Lw w l d) : ∃ p k c, l = .slice p k c := by
  rcases h with ⟨_, rfl⟩ | ⟨_, p, c, rfl, _⟩
  · exact ⟨none, 0, 0, rfl⟩
  · exact ⟨p, _, c, rfl⟩
theorem Lw.put3 {T g : Nat} {w : World} {v x0 x1 x2 : Value} {d : Nat} (h : Lw w v d) (hr : Row T w g [x0, x1, x2]) (h0 : NoInt x0) (h1 : NoInt x1) (h2 : NoInt x2) (y0 y1 y2 : Value) (g0 : NoInt y0) (g1 : NoInt y1) :
    Lw (((w.setCell ⟨g, 0, none⟩ y0).setCell ⟨g, 1, none⟩ y1).setCell ⟨g, 2, none⟩ y2) v d := by
  rcases h with h | ⟨h, h'⟩
  · exact .inl h
  · exact .inr ⟨h, rd_put3 h' hr h0 h1 h2 y0 y1 y2 g0 g1⟩
theorem Rt.form {w : World} {v : Value} {n : Int} {d : Nat} (h : Rt w v n d) : ∃ b p k c q m e, v = .agg #[.bool b, .slice p k c, .slice q m e] ∧ b = decide (n < 0) ∧ Rd .u32 w (.slice p k c) (limbs n.natAbs) ∧ Lw w (.slice q m e) d := by
  obtain ⟨p, k, c, l, rfl, h2, h3⟩ := h
  obtain ⟨q, m, e, rfl⟩ := h3.form
  exact ⟨_, p, k, c, q, m, e, rfl, rfl, h2, h3⟩
end Go.Proofs.YtmhmkhdgpfhnfaaGreatDoor.Ref
/- The program's fractions made of integers: Of, Make. -/
namespace Go.Proofs.YtmhmkhdgpfhnfaaGreatDoor.Ref
open Go.RowKit Go.Lib

end Go.Proofs.YtmhmkhdgpfhnfaaGreatDoor.Ref
