/- What a machine is: plain. -/
import Derived.Test.YthglgagkhnfnpaaGreatD3
set_option linter.unusedVariables false
set_option linter.unusedSimpArgs false
set_option linter.unnecessarySimpa false
namespace Go.Proofs.YthglgagkhnfnpaaGreat
open Go.RowKit

def endP (e : En) : Bool := wordP e.a && (e.b || e.a.size == 0)
def okAt (n : Nat) (es : List Ed) (k : Nat) : Bool :=
  match es[k]? with
  | some e => edgeP n e && (k == 0 || (match es[k - 1]? with | some p => lessE p e | none => false))
  | none => true
def upTo (n : Nat) (es : List Ed) (k : Nat) : Bool := (List.range k).all (okAt n es)
def endsTo (ns : List En) (k : Nat) : Bool := (ns.take k).all endP
def headP (s : Int) (ne nn : Nat) : Bool := decide (nn ≤ 5) && (decide (ne ≤ 20) && stateP nn s)
def checkP (s : Int) (es : List Ed) (ns : List En) : Bool := headP s es.length ns.length && (endsTo ns ns.length && upTo ns.length es es.length)
theorem upTo_succ (n : Nat) (es : List Ed) (k : Nat) : upTo n es (k + 1) = (upTo n es k && okAt n es k) := by
  unfold upTo; rw [List.range_succ, List.all_append]; simp
theorem upTo_false {n : Nat} {es : List Ed} {k : Nat} (hk : k < es.length) (h : okAt n es k = false) : upTo n es es.length = false := by
  unfold upTo; rw [List.all_eq_false]
  exact ⟨k, List.mem_range.2 hk, by rw [h]; simp⟩
theorem endsTo_succ (ns : List En) (k : Nat) (e : En) (h : ns[k]? = some e) : endsTo ns (k + 1) = (endsTo ns k && endP e) := by
  have hi : k < ns.length := (List.getElem?_eq_some_iff.1 h).1
  have he : ns[k] = e := (List.getElem?_eq_some_iff.1 h).2
  unfold endsTo; rw [List.take_succ_eq_append_getElem hi, List.all_append, he]; simp
theorem endsTo_false {ns : List En} {k : Nat} {e : En} (h : ns[k]? = some e) (hf : endP e = false) : endsTo ns ns.length = false := by
  unfold endsTo; rw [List.all_eq_false]
  have hi : k < ns.length := (List.getElem?_eq_some_iff.1 h).1
  have he : ns[k] = e := (List.getElem?_eq_some_iff.1 h).2
  exact ⟨e, by rw [List.take_of_length_le (Nat.le_refl _), ← he]; exact List.getElem_mem hi, by rw [hf]; simp⟩
theorem okAt_zero {n : Nat} {es : List Ed} {e : Ed} (h : es[0]? = some e) : okAt n es 0 = edgeP n e := by simp [okAt, h]
theorem okAt_pos {n : Nat} {es : List Ed} {k : Nat} {e p : Ed} (h : es[k]? = some e) (hk : 0 < k) (hp : es[k - 1]? = some p) : okAt n es k = (edgeP n e && lessE p e) := by
  have : (k == 0) = false := by rw [beq_eq_false_iff_ne]; omega
  simp [okAt, h, hp, this]
theorem okAt_no {n : Nat} {es : List Ed} {k : Nat} {e : Ed} (h : es[k]? = some e) (hf : edgeP n e = false) : okAt n es k = false := by simp [okAt, h, hf]
/-- the order as a number, and as a Bool -/
theorem cmpE_lt (p e : Ed) : decide (cmpE p e < 0) = lessE p e := by
  obtain ⟨f, l, o, t⟩ := p
  obtain ⟨f', l', o', t'⟩ := e
  unfold cmpE lessE
  dsimp only
  by_cases h1 : f = f'
  · subst h1
    have e1 : Lib.compareInt f f = 0 := by unfold Lib.compareInt; rw [if_neg (by omega), if_neg (by omega)]
    rw [e1]
    by_cases h2 : l = l'
    · subst h2
      have e2 : Lib.compareInt (l : Int) l = 0 := by unfold Lib.compareInt; rw [if_neg (by omega), if_neg (by omega)]
      rw [e2]
      by_cases h3 : t = t'
      · subst h3
        have e3 : Lib.compareInt t t = 0 := by unfold Lib.compareInt; rw [if_neg (by omega), if_neg (by omega)]
        rw [e3]
        simp only [orP, ne_eq, not_true_eq_false, if_false]
        unfold cmpS
        cases hb : Op.bytesLess o.toList o'.toList
        · cases hq : (o.toList == o'.toList) <;> simp
        · simp
      · rcases Int.lt_or_gt_of_ne h3 with h | h
        · have e3 : Lib.compareInt t t' = -1 := by unfold Lib.compareInt; rw [if_pos h]
          rw [e3]; simp [orP, h3, h]
        · have e3 : Lib.compareInt t t' = 1 := by unfold Lib.compareInt; rw [if_neg (by omega), if_pos h]
          rw [e3]; simp [orP, h3]; omega
    · rcases Nat.lt_or_gt_of_ne h2 with h | h
      · have e3 : Lib.compareInt (l : Int) l' = -1 := by unfold Lib.compareInt; rw [if_pos (by omega)]
        rw [e3]; simp [orP, h2, h]
      · have e3 : Lib.compareInt (l : Int) l' = 1 := by unfold Lib.compareInt; rw [if_neg (by omega), if_pos (by omega)]
        rw [e3]; simp [orP, h2]; omega
  · rcases Int.lt_or_gt_of_ne h1 with h | h
    · have e3 : Lib.compareInt f f' = -1 := by unfold Lib.compareInt; rw [if_pos h]
      rw [e3]; simp [orP, h1, h]
    · have e3 : Lib.compareInt f f' = 1 := by unfold Lib.compareInt; rw [if_neg (by omega), if_pos h]
      rw [e3]; simp [orP, h1]; omega
end Go.Proofs.YthglgagkhnfnpaaGreat
