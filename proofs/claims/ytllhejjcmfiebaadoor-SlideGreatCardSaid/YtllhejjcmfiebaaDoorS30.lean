/- Two slices of numbers in an array that come in, opened. -/
import Derived.Test.YtllhejjcmfiebaaDoorS28
import Derived.WideShapes
import Derived.Deep.Matrix
import Derived.ChangeSlices
set_option linter.unusedVariables false
set_option linter.unusedSimpArgs false
set_option linter.unnecessarySimpa false
namespace Go.Proofs.YtllhejjcmfiebaaDoor
open Go.RowKit Go.Shelf Go.Deep Go.ChangeShapes
theorem open_list {H : Type} {enc : TypeId × Value → H} {w : World} {base : Nat} {spare : Nat → Bool} {held : Bool} {v : Value} {k : Nat} {y : DataW H × List MemPlace}
  (h : DataW.trod enc Tryd.prog w base spare held k 23 [v] = some y) : ∃ l, SlA w v (ints l) := by
 rcases open_ints Tryd.underlying23 Tryd.underlying3 (by kernel_rfl) h with ⟨hcs, _⟩ | ⟨x, l, c, zs, hcs, _, hl, hm, hz, _, hcell, hwz⟩
 ·simp at hcs
  subst hcs
  exact ⟨[], SlA.nil w⟩
 ·simp at hcs
  subst hcs
  exact ⟨zs.take l, slA_row hl hm (by rw [hz]; split <;> omega) hcell⟩
set_option maxRecDepth 100000 in
theorem open_two {H : Type} {enc : TypeId × Value → H} {w : World} {base b0 : Nat} {spare : Nat → Bool} {held : Bool} {r : Reach} {v : Value} {d : DataW H} {ps : List MemPlace}
  (hv : Value.okWide Tryd.prog w r b0 48 v) (h : DataW.Trod enc Tryd.prog w base spare held 48 v d ps) :
  ∃ v0 v1 l0 l1, v = .agg #[v0, v1] ∧ SlA w v0 (ints l0) ∧ SlA w v1 (ints l1) := by
 simp only [Value.okWide, Tryd.underlying48] at hv
 obtain ⟨cs, rfl, hsz, _⟩ := hv
 have c2 : Tryd.prog.cellsOf 48 = 2 := by kernel_rfl
 have c1 : Tryd.prog.cellsOf 23 = 1 := by kernel_rfl
 rw [c2] at hsz
 obtain ⟨v0, v1, rfl⟩ : ∃ v0 v1, cs = #[v0, v1] := by
  obtain ⟨l⟩ := cs
  match l, hsz with
  | [v0, v1], _ => exact ⟨v0, v1, rfl⟩
 obtain ⟨fuel, hf⟩ := h
 obtain ⟨xs, k, hk, hxy, _, hxl, hf2⟩ := DataW.trod_array Tryd.underlying48 hf
 have g0 := hf2 0 (by omega)
 have g1 := hf2 1 (by omega)
 rw [c1] at g0 g1
 obtain ⟨y0, y1, rfl⟩ : ∃ y0 y1, xs = [y0, y1] := by
  match xs, hxl with
  | [y0, y1], _ => exact ⟨y0, y1, rfl⟩
 simp [Value.cells] at g0 g1
 obtain ⟨l0, h0⟩ := open_list g0
 obtain ⟨l1, h1⟩ := open_list g1
 exact ⟨v0, v1, l0, l1, rfl, h0, h1⟩
end Go.Proofs.YtllhejjcmfiebaaDoor
