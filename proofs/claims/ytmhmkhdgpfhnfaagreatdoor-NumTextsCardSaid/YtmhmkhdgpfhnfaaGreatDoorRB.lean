/- The reference's fractions: Ratio. -/
import Derived.Test.YtmhmkhdgpfhnfaaGreatDoorRA
set_option linter.unusedVariables false
set_option linter.unusedSimpArgs false
set_option linter.unnecessarySimpa false
namespace Go.Proofs.YtmhmkhdgpfhnfaaGreatDoor.Ref
open Go.RowKit

theorem LbA.touch {T g n : Nat} {w w' : World} {v : Value} {l : List Nat} {xs : List Value} (h : LbA w v l) (hr : Row T w g xs) (hx : Bx n xs) (t : Touch g w w') : LbA w' v l := by
  have hne := h.ne_row hr hx.2
  obtain ⟨p, cap, hv, hl, hm, hn, hp⟩ := h
  refine ⟨p, cap, hv, hl, hm, hn, fun h0 => ?_⟩
  obtain ⟨ad, hp, hbs, hc⟩ := hp h0
  subst hp
  refine ⟨ad, rfl, by rw [t.size]; exact hbs, fun i hi => ?_⟩
  rw [World.cell?_of_block (w := w) (t.other _ (by rw [block_add]; exact hne ad _ _ hv h0))]
  exact hc i hi
theorem Zv.touch {T g n : Nat} {w w' : World} {v : Value} {z : Int} {xs : List Value} (h : Zv w v z) (hr : Row T w g xs) (hx : Bx n xs) (t : Touch g w w') : Zv w' v z := by
  obtain ⟨p, c, h1, h2⟩ := h
  exact ⟨p, c, h1, h2.touch hr hx t⟩
/-- a fraction of the reference -/
def Qv (w : World) (v : Value) (n d : Int) : Prop := ∃ b1 s1 b2 s2, v = .agg #[.bool b1, s1, .bool b2, s2] ∧ Zv w (.agg #[.bool b1, s1]) n ∧ Zv w (.agg #[.bool b2, s2]) d
theorem Qv.below {w w' : World} {v : Value} {n d : Int} (h : Qv w v n d) (hb : Below w.heap.size w w') : Qv w' v n d := by
  obtain ⟨b1, s1, b2, s2, h1, h2, h3⟩ := h
  exact ⟨b1, s1, b2, s2, h1, h2.below hb, h3.below hb⟩
def OutQ (w : World) (n d : Int) (e : Ending) (w' : World) : Prop := ∃ v, e = .returned v ∧ Qv w' v n d ∧ Below w.heap.size w w'
theorem row4 {T : TypeId} {w : World} {h : Nat} {x0 x1 x2 x3 : Value} (r : Row T w h [x0, x1, x2, x3]) (y0 y1 y2 y3 : Value) :
    (w.cell? ⟨h, 0, none⟩ = some x0 ∧ w.frozen? ⟨h, 0, none⟩ = false) ∧
    ((w.setCell ⟨h, 0, none⟩ y0).cell? ⟨h, 1, none⟩ = some x1 ∧ (w.setCell ⟨h, 0, none⟩ y0).frozen? ⟨h, 1, none⟩ = false) ∧
    (((w.setCell ⟨h, 0, none⟩ y0).setCell ⟨h, 1, none⟩ y1).cell? ⟨h, 2, none⟩ = some x2 ∧ ((w.setCell ⟨h, 0, none⟩ y0).setCell ⟨h, 1, none⟩ y1).frozen? ⟨h, 2, none⟩ = false) ∧
    ((((w.setCell ⟨h, 0, none⟩ y0).setCell ⟨h, 1, none⟩ y1).setCell ⟨h, 2, none⟩ y2).cell? ⟨h, 3, none⟩ = some x3 ∧ (((w.setCell ⟨h, 0, none⟩ y0).setCell ⟨h, 1, none⟩ y1).setCell ⟨h, 2, none⟩ y2).frozen? ⟨h, 3, none⟩ = false) ∧
    Row T ((((w.setCell ⟨h, 0, none⟩ y0).setCell ⟨h, 1, none⟩ y1).setCell ⟨h, 2, none⟩ y2).setCell ⟨h, 3, none⟩ y3) h [y0, y1, y2, y3] := by
  have r1 := r.store 0 y0
  have r2 := r1.store 1 y1
  have r3 := r2.store 2 y2
  exact ⟨⟨r.cell 0, r.free 0⟩, ⟨r1.cell 1, r1.free 1⟩, ⟨r2.cell 2, r2.free 2⟩, ⟨r3.cell 3, r3.free 3⟩, r3.store 3 y3⟩
theorem LbA.put4 {T g : Nat} {w : World} {v x0 x1 x2 x3 : Value} {l : List Nat} (h : LbA w v l) (hr : Row T w g [x0, x1, x2, x3]) (h0 : NoInt x0) (h1 : NoInt x1) (h2 : NoInt x2) (h3 : NoInt x3) (y0 y1 y2 y3 : Value) :
    LbA ((((w.setCell ⟨g, 0, none⟩ y0).setCell ⟨g, 1, none⟩ y1).setCell ⟨g, 2, none⟩ y2).setCell ⟨g, 3, none⟩ y3) v l := by
  have hn := h.ne_row hr (Bx.four h0 h1 h2 h3).2
  exact (((h.far hn y0).far hn y1).far hn y2).far hn y3
theorem Zv.put4 {T g : Nat} {w : World} {v x0 x1 x2 x3 : Value} {z : Int} (h : Zv w v z) (hr : Row T w g [x0, x1, x2, x3]) (h0 : NoInt x0) (h1 : NoInt x1) (h2 : NoInt x2) (h3 : NoInt x3) (y0 y1 y2 y3 : Value) :
    Zv ((((w.setCell ⟨g, 0, none⟩ y0).setCell ⟨g, 1, none⟩ y1).setCell ⟨g, 2, none⟩ y2).setCell ⟨g, 3, none⟩ y3) v z := by
  obtain ⟨p, c, e1, e2⟩ := h
  exact ⟨p, c, e1, e2.put4 hr h0 h1 h2 h3 y0 y1 y2 y3⟩
theorem Zv.put2 {T g : Nat} {w : World} {v x0 x1 : Value} {z : Int} (h : Zv w v z) (hr : Row T w g [x0, x1]) (h0 : NoInt x0) (h1 : NoInt x1) (y0 y1 : Value) :
    Zv ((w.setCell ⟨g, 0, none⟩ y0).setCell ⟨g, 1, none⟩ y1) v z := by
  obtain ⟨p, c, e1, e2⟩ := h
  exact ⟨p, c, e1, e2.put2 hr h0 h1 y0 y1⟩
theorem Row.put2 {T U g k : Nat} {w : World} {xs : List Value} (h : Row T w k xs) (hk : k ≠ g) (y0 y1 : Value) : Row T ((w.setCell ⟨g, 0, none⟩ y0).setCell ⟨g, 1, none⟩ y1) k xs :=
  (h.other ⟨g, 0, none⟩ (fun e => hk e.symm) y0).other ⟨g, 1, none⟩ (fun e => hk e.symm) y1
end Go.Proofs.YtmhmkhdgpfhnfaaGreatDoor.Ref
