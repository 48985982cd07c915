/- What is read is written again. -/
import Derived.Test.YtmhmkhdgpfhnfaaGreatDoorV7
set_option linter.unusedVariables false
set_option linter.unusedSimpArgs false
set_option linter.unnecessarySimpa false
namespace Go.Proofs.YtmhmkhdgpfhnfaaGreatDoor.Ref
open Go.RowKit Go.Lib

theorem unS_back (l : List UInt8) : l = (if negS l = true then [45] else []) ++ unS l := by
  unfold unS
  cases h : negS l with
  | false => simp
  | true =>
    simp only [if_true]
    unfold negS at h
    cases l with
    | nil => simp at h
    | cons a b =>
      have : a = 45 := by simpa using h
      rw [this]; rfl
theorem over_under (l : List UInt8) : unS l = if divS l = true then overS l ++ (47 :: underS l) else overS l := by
  unfold divS overS underS
  obtain ⟨u, hu⟩ : ∃ u, unS l = u := ⟨_, rfl⟩
  rw [hu]
  by_cases h : slashAt u < u.length
  · rw [if_pos (by simpa using h)]
    conv => lhs; rw [← List.take_append_drop (slashAt u) u]
    congr 1
    rw [List.drop_eq_getElem_cons h]
    congr 1
    have := List.findIdx_getElem (p := fun b : UInt8 => b == 47) (xs := u) (w := h)
    exact beq_iff_eq.1 this
  · rw [if_neg (by simpa using h), List.take_of_length_le (by omega)]
theorem itoa_top (l : List UInt8) (h1 : isNumB (overS l) = true) (h2 : ¬ (overS l = [48] ∧ negS l = true)) : itoa (topS l) = (if negS l = true then [45] else []) ++ overS l := by
  have hd := dec_numOf h1
  have hz := (numOf_small h1).1
  unfold topS itoa
  cases hn : negS l with
  | true =>
    have h0 : numOf (overS l) ≠ 0 := fun e => h2 ⟨hz.1 e, hn⟩
    simp only [if_true]
    rw [if_pos (by omega), show (-(numOf (overS l) : Int)).natAbs = numOf (overS l) by omega, hd]
    rfl
  | false =>
    simp only [Bool.false_eq_true, if_false]
    rw [if_neg (by omega), show ((numOf (overS l) : Nat) : Int).toNat = numOf (overS l) by omega, hd]
    rfl
theorem badOver_false {l : List UInt8} (h : badOver l = false) : isNumB (overS l) = true ∧ ¬ (overS l = [48] ∧ negS l = true) := by
  unfold badOver at h
  rw [Bool.or_eq_false_iff] at h
  refine ⟨by simpa using h.1, fun ⟨h1, h2⟩ => ?_⟩
  rw [h1, h2] at h
  exact absurd h.2 (by decide)
theorem badUnder_false {l : List UInt8} (h : badUnder l = false) : isNumB (underS l) = true ∧ ¬ underS l = [48] ∧ ¬ underS l = [49] := by
  unfold badUnder at h
  rw [Bool.or_eq_false_iff, Bool.or_eq_false_iff] at h
  exact ⟨by simpa using h.1.1, by simpa using h.1.2, by simpa using h.2⟩
theorem nd_limbsK {a K : Nat} (h : nDigits a ≤ K) : (limbs a).length ≤ K := by
  refine limbs_length_le a K (Nat.lt_of_lt_of_le (lt_pow_nDigits a) ?_)
  exact Nat.le_trans (Nat.pow_le_pow_right (by decide) h) (Nat.pow_le_pow_left (by decide) _)
theorem nd_limbs {a : Nat} (h : nDigits a ≤ 20000) : (limbs a).length ≤ 100000 := Nat.le_trans (nd_limbsK h) (by omega)
/-- what is read, is written so -/
theorem read_back (l : List UInt8) (r : Nat × Int × Int) (h : pq l = r) (h0 : r.1 = 0) : ∃ d : Nat, r.2.2 = ((d : Nat) : Int) ∧ 0 < d ∧ formB r.2.1 (d : Nat) = ⟨l.toArray⟩ ∧ (limbs r.2.1.natAbs).length ≤ 100000 ∧ (limbs d).length ≤ 100000 := by
  have hun := unS_back l
  have hou := over_under l
  rw [← pp_eq] at h
  unfold pp at h
  by_cases g1 : 41000 < l.length
  · rw [if_pos g1] at h; subst h; exact absurd h0 (by decide)
  rw [if_neg g1] at h
  cases g2 : badOver l with
  | true => rw [g2, if_pos rfl] at h; subst h; exact absurd h0 (by decide)
  | false =>
    rw [g2, if_neg (by decide)] at h
    obtain ⟨k1, k2⟩ := badOver_false g2
    have ht := itoa_top l k1 k2
    cases g3 : divS l with
    | true =>
      rw [g3, if_pos rfl] at h hou
      cases g4 : badUnder l with
      | true => rw [g4, if_pos rfl] at h; subst h; exact absurd h0 (by decide)
      | false =>
        rw [g4, if_neg (by decide)] at h
        obtain ⟨k3, k4, k5⟩ := badUnder_false g4
        by_cases g5 : Nat.gcd (numOf (overS l)) (numOf (underS l)) ≠ 1
        · rw [if_pos g5] at h; subst h; exact absurd h0 (by decide)
        rw [if_neg g5] at h
        unfold smallQ at h
        by_cases g6 : nDigits (topS l).natAbs ≤ 20000 ∧ nDigits ((numOf (underS l) : Nat) : Int).natAbs ≤ 20000
        · rw [if_pos g6] at h
          subst h
          have e0 : numOf (underS l) ≠ 0 := fun e => k4 ((numOf_small k3).1.1 e)
          have e1 : numOf (underS l) ≠ 1 := fun e => k5 ((numOf_small k3).2.1 e)
          refine ⟨numOf (underS l), rfl, by omega, ?_, nd_limbs g6.1, nd_limbs (by simpa using g6.2)⟩
          unfold formB
          rw [if_neg (by show ¬ ((numOf (underS l) : Nat) : Int) = 1; omega)]
          show _ = (⟨l.toArray⟩ : ByteArray)
          have hd : itoa ((numOf (underS l) : Nat) : Int) = underS l := by
            unfold itoa
            rw [if_neg (by omega), Int.toNat_natCast, dec_numOf k3]
          rw [hd, ht]
          conv => rhs; rw [hun, hou]
          apply ByteArray.ext
          apply Array.toList_inj.1
          simp
        · rw [if_neg g6] at h; subst h; exact absurd h0 (by decide)
    | false =>
      rw [g3, if_neg (by decide)] at h hou
      unfold smallQ at h
      by_cases g6 : nDigits (topS l).natAbs ≤ 20000 ∧ nDigits (1 : Int).natAbs ≤ 20000
      · rw [if_pos g6] at h
        subst h
        refine ⟨1, rfl, by omega, ?_, nd_limbs g6.1, by rw [limbs_one]; decide⟩
        unfold formB
        refine (if_pos rfl).trans ?_
        show (⟨(itoa (topS l)).toArray⟩ : ByteArray) = ⟨l.toArray⟩
        rw [ht]
        conv => rhs; rw [hun, hou]
      · rw [if_neg g6] at h; subst h; exact absurd h0 (by decide)
end Go.Proofs.YtmhmkhdgpfhnfaaGreatDoor.Ref
