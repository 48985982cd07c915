/- What comes in, as rules and as pairs of configurations. -/
import Derived.Test.YtbkalcnblhhjlaaE1
import Derived.Lib.SmallJoins
import Derived.Deep.Slices
import Derived.ChangeOld
import Derived.ProofKit
set_option linter.unnecessarySimpa false
set_option linter.unusedVariables false
set_option linter.unusedSimpArgs false
namespace Go.Proofs.Ytbkalcnblhhjlaa
open Go.ChangeShapes Go.WideShapes Go.ChangeAt Go.RowKit Go.Deep

theorem build {α : Type} (F : Nat → α → Prop) : ∀ n : Nat, (∀ i, i < n → ∃ a, F i a) → ∃ l : List α, l.length = n ∧ ∀ i a, l[i]? = some a → F i a
  | 0, _ => ⟨[], rfl, fun i a h => by simp at h⟩
  | n + 1, h => by
    obtain ⟨l, hl, hf⟩ := build F n fun i hi => h i (by omega)
    obtain ⟨x, hx⟩ := h n (by omega)
    refine ⟨l ++ [x], by simp [hl], fun i a ha => ?_⟩
    rcases Nat.lt_or_ge i l.length with hi | hi
    · rw [List.getElem?_append_left hi] at ha; exact hf i a ha
    · have hi2 : i < (l ++ [x]).length := (List.getElem?_eq_some_iff.1 ha).1
      have : i = l.length := by simp at hi2; omega
      subst this
      rw [List.getElem?_append_right (Nat.le_refl _), Nat.sub_self] at ha
      cases ha
      rw [hl]; exact hx
theorem addr_zero' (a : Addr) : a.add 0 = a := by simp [Addr.add]
theorem cellsI : Try.prog.cellsOf 3 = 1 := by kernel_rfl
theorem cellsU : Try.prog.cellsOf 5 = 1 := by kernel_rfl
theorem cellsS : Try.prog.cellsOf 9 = 1 := by kernel_rfl
theorem cellsR : Try.prog.cellsOf 47 = 4 := by kernel_rfl
theorem cellsC : Try.prog.cellsOf 26 = 2 := by kernel_rfl
theorem cellsP : Try.prog.cellsOf 28 = 4 := by kernel_rfl
theorem slA_row {w : World} {x : Addr} {len cap : Nat} {zs : List Int} (hl : len ≤ cap) (hm : cap ≤ maxLen) (hz : zs.length = cap) (hc : ∀ i, i < zs.length → w.cell? (x.add i) = some (.int .i64 (zs.getD i 0))) :
    SlA w (.slice (some x) len cap) (ints (zs.take len)) := by
  have e : (ints (zs.take len)).length = len := by rw [ints_length, List.length_take]; omega
  refine ⟨some x, cap, by rw [e], by omega, hm, (fun h => by cases h), fun h0 => ?_⟩
  rw [e] at h0
  refine ⟨x, rfl, ?_, fun i hi => ?_⟩
  · have := World.block_lt_of_cell? _ _ (hc 0 (by omega))
    rw [block_add] at this; exact this
  · rw [e] at hi
    rw [hc i (by omega), ints_get _ _ (by rw [List.length_take]; omega)]
    have : (zs.take len).getD i 0 = zs.getD i 0 := by rw [List.getD_eq_getElem?_getD, List.getD_eq_getElem?_getD, List.getElem?_take_of_lt hi]
    rw [this]
section
variable {H : Type} {enc : TypeId × Value → H} {W : World} {base : Nat} {spare : Nat → Bool} {held : Bool}
set_option maxRecDepth 100000 in
theorem ru_of {n : Nat} {cs : List Value} {x : DataW H × List MemPlace} (h : DataW.trod enc Try.prog W base spare held n 47 cs = some x) : ∃ e : Ru, cs = e.cells ∧ e.p.size ≤ maxLen := by
  obtain ⟨xs, n', _, _, hlen, hxl, hg⟩ := DataW.trod_struct Try.underlying47 h
  rw [cellsR] at hlen
  match cs, hlen, hg with
  | [c0, c1, c2, c3], _, hg =>
    have hxl : xs.length = 4 := hxl
    match xs, hxl, hg with
    | [y0, y1, y2, y3], _, hg =>
      have g0 : DataW.trod enc Try.prog W base spare held n' 3 (([c0, c1, c2, c3].drop 0).take (Try.prog.cellsOf 3)) = some y0 := hg 0 _ rfl
      have g1 : DataW.trod enc Try.prog W base spare held n' 5 (([c0, c1, c2, c3].drop 1).take (Try.prog.cellsOf 5)) = some y1 := hg 1 _ rfl
      have g2 : DataW.trod enc Try.prog W base spare held n' 3 (([c0, c1, c2, c3].drop 2).take (Try.prog.cellsOf 3)) = some y2 := hg 2 _ rfl
      have g3 : DataW.trod enc Try.prog W base spare held n' 9 (([c0, c1, c2, c3].drop 3).take (Try.prog.cellsOf 9)) = some y3 := hg 3 _ rfl
      rw [cellsI] at g0 g2
      rw [cellsU] at g1
      rw [cellsS] at g3
      obtain ⟨f, hf, _, wf⟩ := DataW.trod_int Try.underlying3 (x := y0) g0
      obtain ⟨l, hl, _, wl⟩ := DataW.trod_int Try.underlying5 (x := y1) g1
      obtain ⟨t, ht, _, wt⟩ := DataW.trod_int Try.underlying3 (x := y2) g2
      obtain ⟨o, ho, _, wo⟩ := DataW.trod_string Try.underlying9 (x := y3) g3
      simp at hf hl ho ht
      subst hf
      subst hl
      subst ho
      subst ht
      simp [Lit.wf, IntKind.min, IntKind.max, IntKind.bits, IntKind.signed] at wf wl wt
      have e1 : ((l.toNat : Nat) : Int) = l := Int.toNat_of_nonneg (by omega)
      exact ⟨⟨f, l.toNat, t, o⟩, by simp [Ru.cells, e1], wo⟩
set_option maxRecDepth 100000 in
theorem slR_of {n : Nat} {v : Value} {x : DataW H × List MemPlace} (h : DataW.trod enc Try.prog W base spare held n 22 [v] = some x) : ∃ es, SlR W v es := by
  rcases open_slice Try.underlying22 h with ⟨hv, _⟩ | ⟨ad, len, cap, m, n', D, Pl, hv, hb, hl, hm, hmm, _, hi⟩
  · simp at hv
    subst hv
    exact ⟨[], ⟨none, 0, rfl, Nat.le_refl _, Nat.zero_le _, fun h => absurd h (by simp)⟩⟩
  · simp at hv
    subst hv
    have hlm : len ≤ m := by rw [hmm]; split <;> omega
    obtain ⟨es, hel, hf⟩ := build (fun i (e : Ru) => W.cell? (ad.add (i * 4)) = some (.int .i64 e.f) ∧ W.cell? ((ad.add (i * 4)).add 1) = some (.int .u8 e.l) ∧ W.cell? ((ad.add (i * 4)).add 2) = some (.int .i64 e.t) ∧ W.cell? ((ad.add (i * 4)).add 3) = some (.string e.p) ∧ e.p.size ≤ maxLen) len (by
      intro i hlt
      obtain ⟨cs', hc, ht⟩ := hi i (by omega)
      obtain ⟨_, hcl, hat⟩ := World.cells?_some hc
      rw [cellsR] at hcl hat
      obtain ⟨e, rfl, h2⟩ := ru_of ht
      refine ⟨e, ⟨?_, ?_, ?_, ?_, h2⟩⟩
      · have := hat 0 (by omega); rw [addr_zero'] at this; exact this
      · exact hat 1 (by omega)
      · exact hat 2 (by omega)
      · exact hat 3 (by omega))
    refine ⟨es, ⟨some ad, cap, by rw [hel], by omega, hm, fun h0 => ⟨ad, rfl, ?_, fun i e he => hf i e he⟩⟩⟩
    obtain ⟨e, he⟩ : ∃ e, es[0]? = some e := ⟨es[0], List.getElem?_eq_getElem h0⟩
    have := World.block_lt_of_cell? W _ (hf 0 e he).1
    simpa [block_add] using this
set_option maxRecDepth 100000 in
/-- a configuration's two cells -/
theorem cf_of {n : Nat} {cs : List Value} {x : DataW H × List MemPlace} (h : DataW.trod enc Try.prog W base spare held n 26 cs = some x) : ∃ (q : Int) (s : ByteArray), cs = [.int .i64 q, .string s] ∧ s.size ≤ maxLen := by
  obtain ⟨xs, n', _, _, hlen, hxl, hg⟩ := DataW.trod_struct Try.underlying26 h
  rw [cellsC] at hlen
  match cs, hlen, hg with
  | [c0, c1], _, hg =>
    have hxl : xs.length = 2 := hxl
    match xs, hxl, hg with
    | [y0, y1], _, hg =>
      have g0 : DataW.trod enc Try.prog W base spare held n' 3 (([c0, c1].drop 0).take (Try.prog.cellsOf 3)) = some y0 := hg 0 _ rfl
      have g1 : DataW.trod enc Try.prog W base spare held n' 9 (([c0, c1].drop 1).take (Try.prog.cellsOf 9)) = some y1 := hg 1 _ rfl
      rw [cellsI] at g0
      rw [cellsS] at g1
      obtain ⟨q, hq, _, _⟩ := DataW.trod_int Try.underlying3 (x := y0) g0
      obtain ⟨s, hs, _, ws⟩ := DataW.trod_string Try.underlying9 (x := y1) g1
      simp at hq hs
      subst hq
      subst hs
      exact ⟨q, s, rfl, ws⟩
set_option maxRecDepth 100000 in
/-- a pair's four cells -/
theorem pr_of {n : Nat} {c0 c1 c2 c3 : Value} {x : DataW H × List MemPlace} (h : DataW.trod enc Try.prog W base spare held n 28 [c0, c1, c2, c3] = some x) :
    ∃ (q1 q2 : Int) (s1 s2 : ByteArray), c0 = .int .i64 q1 ∧ c1 = .string s1 ∧ c2 = .int .i64 q2 ∧ c3 = .string s2 ∧ s1.size ≤ maxLen ∧ s2.size ≤ maxLen := by
  obtain ⟨xs, n', _, _, hlen, hxl, hg⟩ := DataW.trod_struct Try.underlying28 h
  have hxl : xs.length = 2 := hxl
  match xs, hxl, hg with
  | [y0, y1], _, hg =>
    have g0 : DataW.trod enc Try.prog W base spare held n' 26 (([c0, c1, c2, c3].drop 0).take (Try.prog.cellsOf 26)) = some y0 := hg 0 _ rfl
    have g1 : DataW.trod enc Try.prog W base spare held n' 26 (([c0, c1, c2, c3].drop 2).take (Try.prog.cellsOf 26)) = some y1 := hg 1 _ rfl
    rw [cellsC] at g0 g1
    obtain ⟨q1, s1, h1, w1⟩ := cf_of g0
    obtain ⟨q2, s2, h2, w2⟩ := cf_of g1
    simp at h1 h2
    exact ⟨q1, q2, s1, s2, h1.1, h1.2, h2.1, h2.2, w1, w2⟩
/-- a slice of integers -/
theorem slI_of {n : Nat} {v : Value} {x : DataW H × List MemPlace} (hsp : ∀ b, spare b = true) (h : DataW.trod enc Try.prog W base spare held n 29 [v] = some x) : ∃ l : List Int, SlA W v (ints l) := by
  rcases open_ints Try.underlying29 Try.underlying3 cellsI h with ⟨hv, _⟩ | ⟨ad, len, cap, zs, hv, _, hl, hm, hz, _, hc, _⟩
  · simp at hv
    subst hv
    exact ⟨[], SlA.nil W⟩
  · simp at hv
    subst hv
    rw [hsp] at hz
    exact ⟨zs.take len, slA_row hl hm hz hc⟩
end
end Go.Proofs.Ytbkalcnblhhjlaa
