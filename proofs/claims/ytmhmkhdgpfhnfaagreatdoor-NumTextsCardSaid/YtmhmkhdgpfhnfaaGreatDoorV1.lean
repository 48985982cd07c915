/- The program's way to read a fraction, and that it is the reference's. -/
import Derived.Test.YtmhmkhdgpfhnfaaGreatDoorU5
import Derived.Lib.Index
import Derived.Lib.IndexMore
set_option linter.unusedVariables false
set_option linter.unusedSimpArgs false
set_option linter.unnecessarySimpa false
namespace Go.Proofs.YtmhmkhdgpfhnfaaGreatDoor.Ref
open Go.RowKit Go.Lib

def negS (l : List UInt8) : Bool := l.head? == some 45
def unS (l : List UInt8) : List UInt8 := if negS l = true then l.drop 1 else l
def overS (l : List UInt8) : List UInt8 := (unS l).take (slashAt (unS l))
def underS (l : List UInt8) : List UInt8 := (unS l).drop (slashAt (unS l) + 1)
def divS (l : List UInt8) : Bool := decide (slashAt (unS l) < (unS l).length)
def topS (l : List UInt8) : Int := if negS l = true then -(numOf (overS l) : Int) else (numOf (overS l) : Int)
def badOver (l : List UInt8) : Bool := !isNumB (overS l) || (overS l == [48] && negS l)
def badUnder (l : List UInt8) : Bool := !isNumB (underS l) || underS l == [48] || underS l == [49]
def pp (l : List UInt8) : Nat × Int × Int :=
  if 41000 < l.length then (2, 0, 0) else
  if badOver l = true then (10, 0, 0) else
  if divS l = true then
    if badUnder l = true then (10, 0, 0) else if Nat.gcd (numOf (overS l)) (numOf (underS l)) ≠ 1 then (10, 0, 0) else smallQ (topS l) (numOf (underS l))
  else smallQ (topS l) 1
theorem okNum_false (m : List UInt8) : okNum false m = isNumB m := by
  unfold okNum isNumB
  cases m.all digB
  · rfl
  · simp only [Bool.true_and, Bool.or_false]
    cases m with
    | nil => rfl
    | cons a b =>
      cases b with
      | nil =>
        by_cases h : a = 48
        · subst h; rfl
        · have : ((a : UInt8) == 48) = false := by simpa using h
          simp [h]
      | cons c d =>
        by_cases h : a = 48
        · subst h; rfl
        · simp [h]
theorem okNum_true (m : List UInt8) : okNum true m = (isNumB m && !(m == [48])) := by
  unfold okNum isNumB
  cases m.all digB
  · rfl
  · simp only [Bool.true_and, Bool.or_true, Bool.and_true]
    cases m with
    | nil => rfl
    | cons a b =>
      cases b with
      | nil =>
        by_cases h : a = 48
        · subst h; rfl
        · simp [h]
      | cons c d =>
        by_cases h : a = 48
        · subst h; rfl
        · simp [h]
theorem slashAt_cons (x : UInt8) (l : List UInt8) (h : x ≠ 47) : slashAt (x :: l) = slashAt l + 1 := by
  unfold slashAt
  rw [List.findIdx_cons]
  have : (x == 47) = false := by simpa using h
  rw [this]
  rfl
theorem isNumB_head {m : List UInt8} (h : m.head? = some 45) : isNumB m = false := by
  cases m with
  | nil => cases h
  | cons a b =>
    simp only [List.head?_cons, Option.some.injEq] at h
    subst h
    unfold isNumB
    rw [List.all_cons, show digB 45 = false by decide]
    rfl
theorem numOf_small {m : List UInt8} (h : isNumB m = true) : (numOf m = 0 ↔ m = [48]) ∧ (numOf m = 1 ↔ m = [49]) := by
  have hd := dec_numOf h
  refine ⟨⟨fun e => ?_, fun e => by rw [e]; rfl⟩, ⟨fun e => ?_, fun e => by rw [e]; rfl⟩⟩
  · rw [← hd, e, decDigits_one (by omega)]; rfl
  · rw [← hd, e, decDigits_one (by omega)]; rfl
theorem isNumB_ne {m : List UInt8} (h : isNumB m = true) : m ≠ [] := by
  rintro rfl
  cases h
/-- the numerator is read alike -/
theorem top_eq (l : List UInt8) : parseZ (l.take (slashAt l)) = if badOver l = true then none else some (topS l) := by
  unfold parseZ badOver topS overS unS
  by_cases hn : negS l = true
  · simp only [hn, if_pos]
    cases l with
    | nil => cases hn
    | cons x l =>
      have hx : x = 45 := by unfold negS at hn; simpa using hn
      subst hx
      rw [slashAt_cons 45 l (by decide)]
      simp only [List.take_succ_cons, List.head?_cons, if_pos, List.drop_succ_cons, List.drop_zero, List.drop_one, List.tail_cons]
      rw [okNum_true]
      generalize List.take (slashAt l) l = m
      by_cases h1 : isNumB m = true
      · rw [h1]
        by_cases h2 : (m == [48]) = true
        · rw [h2]; rfl
        · rw [Bool.not_eq_true] at h2
          rw [h2]; rfl
      · rw [Bool.not_eq_true] at h1
        rw [h1]; rfl
  · rw [if_neg hn, if_neg hn]
    rw [Bool.not_eq_true] at hn
    rw [hn]
    have hh : ¬ (List.take (slashAt l) l).head? = some 45 := by
      intro e
      cases l with
      | nil => cases e
      | cons x l =>
        have hx : ¬ x = 45 := by unfold negS at hn; simpa using hn
        cases hs : slashAt (x :: l) with
        | zero => rw [hs] at e; cases e
        | succ k =>
          rw [hs, List.take_succ_cons, List.head?_cons] at e
          exact hx (Option.some.inj e)
    rw [if_neg hh, okNum_false]
    generalize List.take (slashAt l) l = m
    by_cases h1 : isNumB m = true
    · rw [h1]; simp
    · rw [Bool.not_eq_true] at h1
      rw [h1]; rfl
/-- and so is the denominator -/
theorem under_eq (l : List UInt8) : l.drop (slashAt l + 1) = underS l ∧ (decide (slashAt l < l.length) = divS l) := by
  unfold underS divS unS
  by_cases hn : negS l = true
  · rw [if_pos hn]
    cases l with
    | nil => cases hn
    | cons x l =>
      have hx : x = 45 := by unfold negS at hn; simpa using hn
      subst hx
      rw [slashAt_cons 45 l (by decide)]
      refine ⟨by simp, ?_⟩
      simp only [List.length_cons, List.drop_succ_cons, List.drop_zero]
      by_cases h : slashAt l < l.length
      · rw [decide_eq_true h, decide_eq_true (by omega)]
      · rw [decide_eq_false h, decide_eq_false (by omega)]
  · rw [if_neg hn]
    exact ⟨rfl, rfl⟩
theorem pp_eq (l : List UInt8) : pp l = pq l := by
  unfold pp pq
  by_cases hbig : 41000 < l.length
  · rw [if_pos hbig, if_pos hbig]
  · rw [if_neg hbig, if_neg hbig, top_eq]
    obtain ⟨hu, hd⟩ := under_eq l
    by_cases ho : badOver l = true
    · rw [if_pos ho, if_pos ho]
    · rw [if_neg ho, if_neg ho]
      simp only
      have hov : (topS l).natAbs = numOf (overS l) := by
        unfold topS
        by_cases hn : negS l = true
        · rw [if_pos hn]; omega
        · rw [if_neg hn]; omega
      by_cases hdv : slashAt l < l.length
      · rw [if_pos hdv, ← hd, decide_eq_true hdv, if_pos rfl, hu]
        unfold parseZ
        by_cases hh : (underS l).head? = some 45
        · have hi := isNumB_head hh
          rw [if_pos hh]
          have hb : badUnder l = true := by unfold badUnder; rw [hi]; rfl
          rw [if_pos hb]
          by_cases h2 : okNum true ((underS l).drop 1) = true
          · rw [if_pos h2]
            simp only
            rw [if_pos (.inl (by omega))]
          · rw [if_neg h2]
        · rw [if_neg hh, okNum_false]
          by_cases hi : isNumB (underS l) = true
          · rw [if_pos hi]
            simp only
            obtain ⟨h0, h1⟩ := numOf_small hi
            rw [hov, Int.natAbs_natCast]
            by_cases hb : badUnder l = true
            · rw [if_pos hb]
              have : numOf (underS l) < 2 := by
                unfold badUnder at hb
                rw [hi, Bool.not_true, Bool.false_or, Bool.or_eq_true] at hb
                rcases hb with h | h
                · have := h0.2 (by simpa using h); omega
                · have := h1.2 (by simpa using h); omega
              rw [if_pos (.inl (by omega))]
            · rw [if_neg hb]
              have h2 : ¬ (numOf (underS l) : Int) < 2 := by
                intro e
                apply hb
                unfold badUnder
                rw [hi, Bool.not_true, Bool.false_or, Bool.or_eq_true]
                rcases (by omega : numOf (underS l) = 0 ∨ numOf (underS l) = 1) with h | h
                · left; rw [h0.1 h]; rfl
                · right; rw [h1.1 h]; rfl
              by_cases hg : Nat.gcd (numOf (overS l)) (numOf (underS l)) ≠ 1
              · rw [if_pos hg, if_pos (.inr hg)]
              · rw [if_neg hg, if_neg (by rintro (h | h); exact h2 h; exact hg h)]
          · rw [if_neg hi]
            rw [Bool.not_eq_true] at hi
            have hb : badUnder l = true := by unfold badUnder; rw [hi]; rfl
            rw [if_pos hb]
      · rw [if_neg hdv, ← hd, decide_eq_false hdv, if_neg (by decide)]
end Go.Proofs.YtmhmkhdgpfhnfaaGreatDoor.Ref
