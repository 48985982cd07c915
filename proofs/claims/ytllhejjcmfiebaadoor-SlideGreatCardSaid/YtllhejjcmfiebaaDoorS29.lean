/- Moves of the hole: theory. -/
import Derived.Test.YtllhejjcmfiebaaDoorS28
set_option linter.unusedVariables false
set_option linter.unusedSimpArgs false
set_option linter.unnecessarySimpa false
namespace Go.Proofs.YtllhejjcmfiebaaDoor
open Go.RowKit Go.Shelf
def holeL (p : List Int) : Nat := p.findIdx (· == 0)
structure PosW (n : Nat) (p : List Int) : Prop where
 len : p.length = n
 rng : ∀ j, j < n → 0 ≤ p.getD j 0 ∧ p.getD j 0 < n
 zero : ∃ j, j < n ∧ p.getD j 0 = 0
theorem PosW.hole {n : Nat} {p : List Int} (h : PosW n p) : holeL p < n ∧ p.getD (holeL p) 0 = 0 ∧ ∀ j, j < holeL p → p.getD j 0 ≠ 0 := by
 obtain ⟨j, hj, h0⟩ := h.zero
 have hlen := h.len
 have hlt : holeL p < p.length := by
  unfold holeL
  rw [List.findIdx_lt_length]
  rw [List.getD_eq_getElem?_getD, List.getElem?_eq_getElem (show j < p.length by omega), Option.getD_some] at h0
  exact ⟨p[j], List.getElem_mem _, by rw [beq_iff_eq]; exact h0⟩
 refine ⟨by omega, ?_, fun i hi => ?_⟩
 ·have := List.findIdx_getElem (xs := p) (p := (· == 0)) (w := hlt)
  rw [List.getD_eq_getElem?_getD, List.getElem?_eq_getElem hlt, Option.getD_some]
  exact beq_iff_eq.1 this
 ·have hi' : i < p.findIdx (· == 0) := hi
  have := List.not_of_lt_findIdx hi'
  rw [List.getD_eq_getElem?_getD, List.getElem?_eq_getElem (show i < p.length by omega), Option.getD_some]
  intro hc
  rw [hc] at this
  simp at this
def movedL (p : List Int) (t : Nat) : List Int := (p.set (holeL p) (p.getD t 0)).set t 0
theorem getD_set (p : List Int) (i j : Nat) (x : Int) (hi : i < p.length) : (p.set i x).getD j 0 = if i = j then x else p.getD j 0 := by
 rw [List.getD_eq_getElem?_getD, List.getElem?_set]
 by_cases h : i = j
 ·subst h; simp [hi]
 ·rw [if_neg h, if_neg h, List.getD_eq_getElem?_getD]
theorem movedL_len (p : List Int) (t : Nat) : (movedL p t).length = p.length := by unfold movedL; simp
theorem PosW.moved {n t : Nat} {p : List Int} (h : PosW n p) (ht : t < n) : PosW n (movedL p t) := by
 have hlen := h.len
 have hh := h.hole
 refine ⟨by rw [movedL_len, hlen], fun j hj => ?_, t, ht, ?_⟩
 ·unfold movedL
  rw [getD_set _ _ _ _ (by simp; omega), getD_set _ _ _ _ (by omega)]
  split
  ·omega
  ·split
   ·exact h.rng t ht
   ·exact h.rng j hj
 ·unfold movedL
  rw [getD_set _ _ _ _ (by simp; omega), if_pos rfl]
def nearB (E : Es) (a : Nat) (t : Int) : Bool := decide (0 ≤ t) && (nb E a).testBit t.toNat
theorem near_iff {N : Nat} {l : Ps} (hn9 : N ≤ 9) (h : ∀ j, j < l.length → okAt N l j = true) (a : Nat) (t : Int) : ((min (a : Int) t, max (a : Int) t) ∈ l) ↔ nearB (toE l) a t = true := by
 have hok : ∀ p ∈ l, ∃ i j : Nat, p = ((i : Int), (j : Int)) ∧ i < j ∧ j < N := fun p hp => by
  obtain ⟨k, hk⟩ := List.getElem?_of_mem hp
  have hkl := (List.getElem?_eq_some_iff.1 hk).1
  have h1 := h k hkl
  unfold okAt at h1
  rw [List.getD_eq_getElem?_getD, hk] at h1
  exact edgeOk_lt h1 hn9
 unfold nearB
 rw [Bool.and_eq_true, decide_eq_true_eq, nb_bit]
 unfold Adj toE
 simp only [List.mem_map, Prod.mk.injEq]
 constructor
 ·intro hm
  obtain ⟨i, j, hij, h1, h2⟩ := hok _ hm
  have h3 : min (a : Int) t = i := congrArg Prod.fst hij
  have h4 : max (a : Int) t = j := congrArg Prod.snd hij
  refine ⟨by omega, ?_⟩
  rcases Int.le_total (a : Int) t with h5 | h5
  ·exact .inl ⟨_, hm, by rw [h3]; omega, by rw [h4]; omega⟩
  ·exact .inr ⟨_, hm, by rw [h3]; omega, by rw [h4]; omega⟩
 ·rintro ⟨h0, ⟨p, hp, h1, h2⟩ | ⟨p, hp, h1, h2⟩⟩
  ·obtain ⟨i, j, rfl, h3, h4⟩ := hok p hp
   dsimp only at h1 h2
   have e1 : min (a : Int) t = i := by omega
   have e2 : max (a : Int) t = j := by omega
   rw [e1, e2]; exact hp
  ·obtain ⟨i, j, rfl, h3, h4⟩ := hok p hp
   dsimp only at h1 h2
   have e1 : min (a : Int) t = i := by omega
   have e2 : max (a : Int) t = j := by omega
   rw [e1, e2]; exact hp
theorem nearB_lt {E : Es} {n a : Nat} {t : Int} (hE : Lt E n) (h : nearB E a t = true) : ∃ k : Nat, t = k ∧ k < n := by
 unfold nearB at h
 rw [Bool.and_eq_true, decide_eq_true_eq, nb_bit] at h
 have := (hE.adj h.2).2
 exact ⟨t.toNat, by omega, this⟩
def applyL (E : Es) : List Int → List Int → List Int × Nat
 | p, [] => (p, 0)
 | p, t :: m => if nearB E (holeL p) t then ((applyL E (movedL p t.toNat) m).1, (applyL E (movedL p t.toNat) m).2 + 1) else (p, 0)
theorem applyL_yes {E : Es} {p m : List Int} {t : Int} (h : nearB E (holeL p) t = true) : applyL E p (t :: m) = ((applyL E (movedL p t.toNat) m).1, (applyL E (movedL p t.toNat) m).2 + 1) := by
 show (if _ then _ else _) = _
 rw [if_pos h]
theorem applyL_no {E : Es} {p m : List Int} {t : Int} (h : nearB E (holeL p) t = false) : applyL E p (t :: m) = (p, 0) := by
 show (if _ then _ else _) = _
 rw [if_neg (by rw [h]; simp)]
def AtMove (E : Es) (p m : List Int) (k : Nat) (q : List Int) : Prop := applyL E p m = ((applyL E q (m.drop k)).1, (applyL E q (m.drop k)).2 + k)
theorem AtMove.start (E : Es) (p m : List Int) : AtMove E p m 0 p := by unfold AtMove; simp
theorem AtMove.next {E : Es} {p m q : List Int} {k : Nat} (h : AtMove E p m k q) (hk : k < m.length) (hn : nearB E (holeL q) (m.getD k 0) = true) : AtMove E p m (k + 1) (movedL q (m.getD k 0).toNat) := by
 unfold AtMove at h ⊢
 rw [List.getD_eq_getElem?_getD, List.getElem?_eq_getElem hk, Option.getD_some] at hn ⊢
 rw [List.drop_eq_getElem_cons hk] at h
 rw [h, applyL_yes hn]
 exact Prod.ext rfl (by dsimp only; omega)
theorem AtMove.stop {E : Es} {p m q : List Int} {k : Nat} (h : AtMove E p m k q) (hk : k < m.length) (hn : nearB E (holeL q) (m.getD k 0) = false) : applyL E p m = (q, k) := by
 unfold AtMove at h
 rw [List.getD_eq_getElem?_getD, List.getElem?_eq_getElem hk, Option.getD_some] at hn
 rw [List.drop_eq_getElem_cons hk] at h
 rw [h, applyL_no hn]
 exact Prod.ext rfl (by dsimp only; omega)
theorem AtMove.done {E : Es} {p m q : List Int} (h : AtMove E p m m.length q) : applyL E p m = (q, m.length) := by
 unfold AtMove at h
 rw [List.drop_length] at h
 rw [h]
 exact Prod.ext rfl (by show 0 + m.length = m.length; omega)
theorem posF_moved {n t : Nat} {p : List Int} (h : PosW n p) (ht : t < n) : posF (movedL p t) (movedL p t).length = upd (upd (posF p p.length) (holeL p) (posF p p.length t)) t (posF p p.length (holeL p)) := by
 have hlen := h.len
 have hh := h.hole
 funext j
 rw [movedL_len]
 have hpf : ∀ i, posF p p.length i = if i < p.length then p.getD i 0 else (i : Int) := fun _ => rfl
 show (if j < p.length then (movedL p t).getD j 0 else (j : Int)) = (if j = t then posF p p.length (holeL p) else if j = holeL p then posF p p.length t else posF p p.length j)
 rw [hpf, hpf, hpf]
 by_cases hj : j < p.length
 ·rw [if_pos hj]
  unfold movedL
  rw [getD_set _ _ _ _ (by simp; omega), getD_set _ _ _ _ (by omega)]
  by_cases h1 : t = j
  ·subst h1
   rw [if_pos rfl, if_pos rfl, if_pos (by omega)]
   exact hh.2.1.symm
  ·rw [if_neg h1, if_neg (show ¬ j = t from fun e => h1 e.symm)]
   by_cases h2 : holeL p = j
   ·rw [if_pos h2, if_pos h2.symm, if_pos (by omega)]
   ·rw [if_neg h2, if_neg (show ¬ j = holeL p from fun e => h2 e.symm), if_pos hj]
 ·rw [if_neg hj, if_neg (by omega), if_neg (by omega), if_neg hj]
end Go.Proofs.YtllhejjcmfiebaaDoor
