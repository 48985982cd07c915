/- What comes in, as machines. -/
import Derived.Test.YthglgagkhnfnpaaGreatG2
import Derived.Lib.SmallJoins
import Derived.Deep.Slices
import Derived.ChangeOld
set_option linter.unusedVariables false
set_option linter.unusedSimpArgs false
set_option linter.unnecessarySimpa false
namespace Go.Proofs.YthglgagkhnfnpaaGreat
open Go.ChangeShapes Go.WideShapes Go.ChangeAt Go.RowKit Go.Deep

theorem build {α : Type} (F : Nat → α → Prop) : ∀ n : Nat, (∀ i, i < n → ∃ a, F i a) → ∃ l : List α, l.length = n ∧ ∀ i a, l[i]? = some a → F i a
  | 0, _ => ⟨[], rfl, fun i a h => by simp at h⟩
  | n + 1, h => by
    obtain ⟨l, hl, hf⟩ := build F n fun i hi => h i (by omega)
    obtain ⟨x, hx⟩ := h n (by omega)
    refine ⟨l ++ [x], by simp [hl], fun i a ha => ?_⟩
    rcases Nat.lt_or_ge i l.length with hi | hi
    · rw [List.getElem?_append_left hi] at ha; exact hf i a ha
    · have hi2 : i < (l ++ [x]).length := (List.getElem?_eq_some_iff.1 ha).1
      have : i = l.length := by simp at hi2; omega
      subst this
      rw [List.getElem?_append_right (Nat.le_refl _), Nat.sub_self] at ha
      cases ha
      rw [hl]; exact hx
theorem addr_zero (a : Addr) : a.add 0 = a := by simp [Addr.add]
theorem cells3 : Tryz.prog.cellsOf 3 = 1 := by kernel_rfl
theorem cells4 : Tryz.prog.cellsOf 4 = 1 := by kernel_rfl
theorem cells5 : Tryz.prog.cellsOf 5 = 1 := by kernel_rfl
theorem cells9 : Tryz.prog.cellsOf 9 = 1 := by kernel_rfl
theorem cellsE : Tryz.prog.cellsOf 52 = 4 := by kernel_rfl
theorem cellsN : Tryz.prog.cellsOf 54 = 2 := by kernel_rfl
section
variable {H : Type} {enc : TypeId × Value → H} {W : World} {base : Nat} {spare : Nat → Bool} {held : Bool}
set_option maxRecDepth 100000 in
theorem ed_of {n : Nat} {cs : List Value} {x : DataW H × List MemPlace} (h : DataW.trod enc Tryz.prog W base spare held n 52 cs = some x) : ∃ e : Ed, cs = e.cells ∧ e.inr ∧ e.o.size ≤ maxLen := by
  obtain ⟨xs, n', _, _, hlen, hxl, hg⟩ := DataW.trod_struct Tryz.underlying52 h
  rw [cellsE] at hlen
  match cs, hlen, hg with
  | [c0, c1, c2, c3], _, hg =>
    have hxl : xs.length = 4 := hxl
    match xs, hxl, hg with
    | [y0, y1, y2, y3], _, hg =>
      have g0 : DataW.trod enc Tryz.prog W base spare held n' 3 (([c0, c1, c2, c3].drop 0).take (Tryz.prog.cellsOf 3)) = some y0 := hg 0 _ rfl
      have g1 : DataW.trod enc Tryz.prog W base spare held n' 5 (([c0, c1, c2, c3].drop 1).take (Tryz.prog.cellsOf 5)) = some y1 := hg 1 _ rfl
      have g2 : DataW.trod enc Tryz.prog W base spare held n' 9 (([c0, c1, c2, c3].drop 2).take (Tryz.prog.cellsOf 9)) = some y2 := hg 2 _ rfl
      have g3 : DataW.trod enc Tryz.prog W base spare held n' 3 (([c0, c1, c2, c3].drop 3).take (Tryz.prog.cellsOf 3)) = some y3 := hg 3 _ rfl
      rw [cells3] at g0 g3
      rw [cells5] at g1
      rw [cells9] at g2
      obtain ⟨f, hf, _, wf⟩ := DataW.trod_int Tryz.underlying3 (x := y0) g0
      obtain ⟨l, hl, _, wl⟩ := DataW.trod_int Tryz.underlying5 (x := y1) g1
      obtain ⟨o, ho, _, wo⟩ := DataW.trod_string Tryz.underlying9 (x := y2) g2
      obtain ⟨t, ht, _, wt⟩ := DataW.trod_int Tryz.underlying3 (x := y3) g3
      simp at hf hl ho ht
      subst hf
      subst hl
      subst ho
      subst ht
      simp [Lit.wf, IntKind.min, IntKind.max, IntKind.bits, IntKind.signed] at wf wl wt
      have e1 : ((l.toNat : Nat) : Int) = l := Int.toNat_of_nonneg (by omega)
      exact ⟨⟨f, l.toNat, o, t⟩, by simp [Ed.cells, e1], ⟨wf.1, wf.2, wt.1, wt.2, by show l.toNat < 256; omega⟩, wo⟩
set_option maxRecDepth 100000 in
theorem en_of {n : Nat} {cs : List Value} {x : DataW H × List MemPlace} (h : DataW.trod enc Tryz.prog W base spare held n 54 cs = some x) : ∃ e : En, cs = e.cells ∧ e.a.size ≤ maxLen := by
  obtain ⟨xs, n', _, _, hlen, hxl, hg⟩ := DataW.trod_struct Tryz.underlying54 h
  rw [cellsN] at hlen
  match cs, hlen, hg with
  | [c0, c1], _, hg =>
    have hxl : xs.length = 2 := hxl
    match xs, hxl, hg with
    | [y0, y1], _, hg =>
      have g0 : DataW.trod enc Tryz.prog W base spare held n' 4 (([c0, c1].drop 0).take (Tryz.prog.cellsOf 4)) = some y0 := hg 0 _ rfl
      have g1 : DataW.trod enc Tryz.prog W base spare held n' 9 (([c0, c1].drop 1).take (Tryz.prog.cellsOf 9)) = some y1 := hg 1 _ rfl
      rw [cells4] at g0
      rw [cells9] at g1
      obtain ⟨b, hb, _⟩ := DataW.trod_bool Tryz.underlying4 (x := y0) g0
      obtain ⟨o, ho, _, wo⟩ := DataW.trod_string Tryz.underlying9 (x := y1) g1
      simp at hb ho
      subst hb
      subst ho
      exact ⟨⟨b, o⟩, rfl, wo⟩
theorem slE_of {n : Nat} {v : Value} {x : DataW H × List MemPlace} (h : DataW.trod enc Tryz.prog W base spare held n 22 [v] = some x) : ∃ es, SlE W v es ∧ ∀ e ∈ es, e.inr := by
  rcases open_slice Tryz.underlying22 h with ⟨hv, _⟩ | ⟨ad, len, cap, m, n', D, Pl, hv, hb, hl, hm, hmm, _, hi⟩
  · simp at hv
    subst hv
    exact ⟨[], ⟨none, 0, rfl, Nat.le_refl _, Nat.zero_le _, fun h => absurd h (by simp)⟩, fun e he => by cases he⟩
  · simp at hv
    subst hv
    have hlm : len ≤ m := by rw [hmm]; split <;> omega
    obtain ⟨es, hel, hf⟩ := build (fun i (e : Ed) => (W.cell? (ad.add (i * 4)) = some (.int .i64 e.f) ∧ W.cell? ((ad.add (i * 4)).add 1) = some (.int .u8 e.l) ∧ W.cell? ((ad.add (i * 4)).add 2) = some (.string e.o) ∧ W.cell? ((ad.add (i * 4)).add 3) = some (.int .i64 e.t) ∧ e.o.size ≤ maxLen) ∧ e.inr) len (by
      intro i hlt
      obtain ⟨cs', hc, ht⟩ := hi i (by omega)
      obtain ⟨_, hcl, hat⟩ := World.cells?_some hc
      rw [cellsE] at hcl hat
      obtain ⟨e, rfl, h1, h2⟩ := ed_of ht
      refine ⟨e, ⟨?_, ?_, ?_, ?_, h2⟩, h1⟩
      · have := hat 0 (by omega); rw [addr_zero] at this; exact this
      · exact hat 1 (by omega)
      · exact hat 2 (by omega)
      · exact hat 3 (by omega))
    refine ⟨es, ⟨some ad, cap, by rw [hel], by omega, hm, fun h0 => ⟨ad, rfl, ?_, fun i e he => (hf i e he).1⟩⟩, fun e he => ?_⟩
    · obtain ⟨e, he⟩ : ∃ e, es[0]? = some e := ⟨es[0], List.getElem?_eq_getElem h0⟩
      have := World.block_lt_of_cell? W _ (hf 0 e he).1.1
      simpa [block_add] using this
    · obtain ⟨i, hi, he⟩ := List.mem_iff_getElem.1 he
      exact (hf i e (by rw [List.getElem?_eq_getElem hi, he])).2
theorem slN_of {n : Nat} {v : Value} {x : DataW H × List MemPlace} (h : DataW.trod enc Tryz.prog W base spare held n 23 [v] = some x) : ∃ ns, SlN W v ns := by
  rcases open_slice Tryz.underlying23 h with ⟨hv, _⟩ | ⟨ad, len, cap, m, n', D, Pl, hv, hb, hl, hm, hmm, _, hi⟩
  · simp at hv
    subst hv
    exact ⟨[], ⟨none, 0, rfl, Nat.le_refl _, Nat.zero_le _, fun h => absurd h (by simp)⟩⟩
  · simp at hv
    subst hv
    have hlm : len ≤ m := by rw [hmm]; split <;> omega
    obtain ⟨es, hel, hf⟩ := build (fun i (e : En) => W.cell? (ad.add (i * 2)) = some (.bool e.b) ∧ W.cell? ((ad.add (i * 2)).add 1) = some (.string e.a) ∧ e.a.size ≤ maxLen) len (by
      intro i hlt
      obtain ⟨cs', hc, ht⟩ := hi i (by omega)
      obtain ⟨_, hcl, hat⟩ := World.cells?_some hc
      rw [cellsN] at hcl hat
      obtain ⟨e, rfl, h2⟩ := en_of ht
      refine ⟨e, ?_, ?_, h2⟩
      · have := hat 0 (by omega); rw [addr_zero] at this; exact this
      · exact hat 1 (by omega))
    refine ⟨es, ⟨some ad, cap, by rw [hel], by omega, hm, fun h0 => ⟨ad, rfl, ?_, fun i e he => hf i e he⟩⟩⟩
    obtain ⟨e, he⟩ : ∃ e, es[0]? = some e := ⟨es[0], List.getElem?_eq_getElem h0⟩
    have := World.block_lt_of_cell? W _ (hf 0 e he).1
    simpa [block_add] using this
end
end Go.Proofs.YthglgagkhnfnpaaGreat
