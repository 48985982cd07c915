/- Searching level by level: pure theory. -/
import Derived.Test.YtllhejjcmfiebaaDoorS29
set_option linter.unusedVariables false
set_option linter.unusedSimpArgs false
set_option linter.unnecessarySimpa false
namespace Go.Proofs.YtllhejjcmfiebaaDoor
section
variable {α : Type}
def Way (nbr : α → List α) (p : α) : Nat → α → Prop
 | 0, q => q = p
 | k + 1, q => ∃ r, Way nbr p k r ∧ q ∈ nbr r
theorem Way.all {nbr : α → List α} {p : α} {P : α → Prop} (hp : P p) (hs : ∀ x, P x → ∀ y ∈ nbr x, P y) : ∀ {k : Nat} {x : α}, Way nbr p k x → P x
 | 0, x, h => by rw [show x = p from h]; exact hp
 | k + 1, x, ⟨r, hr, hx⟩ => hs r (Way.all hp hs hr) x hx
theorem Way.trans {nbr : α → List α} {p q : α} {j : Nat} (h : Way nbr p j q) : ∀ {k : Nat} {r : α}, Way nbr q k r → Way nbr p (j + k) r
 | 0, r, hr => by rw [show r = q from hr]; exact h
 | k + 1, r, ⟨x, hx, hr⟩ => ⟨x, Way.trans h hx, hr⟩
theorem Way.first {nbr : α → List α} {p : α} : ∀ {k : Nat} {r : α}, Way nbr p (k + 1) r → ∃ q ∈ nbr p, Way nbr q k r
 | 0, r, ⟨x, hx, hr⟩ => ⟨r, by rw [← show x = p from hx]; exact hr, rfl⟩
 | k + 1, r, ⟨x, hx, hr⟩ => by
  obtain ⟨q, hq, hw⟩ := Way.first hx
  exact ⟨q, hq, x, hw, hr⟩
theorem Way.rev {nbr : α → List α} {P : α → Prop} (hs : ∀ x, P x → ∀ y ∈ nbr x, P y ∧ x ∈ nbr y) {p : α} (hp : P p) : ∀ {k : Nat} {q : α}, Way nbr p k q → P q ∧ Way nbr q k p
 | 0, q, h => by rw [show q = p from h]; exact ⟨hp, rfl⟩
 | k + 1, q, ⟨x, hx, hq⟩ => by
  obtain ⟨h1, h2⟩ := Way.rev hs hp hx
  obtain ⟨h3, h4⟩ := hs x h1 q hq
  refine ⟨h3, ?_⟩
  have : Way nbr q 1 x := ⟨q, rfl, h4⟩
  have := this.trans h2
  rwa [Nat.add_comm] at this
theorem Way.split {nbr : α → List α} {p r : α} {j : Nat} : ∀ {k : Nat}, Way nbr p (j + k) r → ∃ q, Way nbr p j q ∧ Way nbr q k r
 | 0, h => ⟨r, h, rfl⟩
 | k + 1, ⟨x, hx, hr⟩ => by
  obtain ⟨q, h1, h2⟩ := Way.split hx
  exact ⟨q, h1, x, h2, hr⟩
variable [DecidableEq α]
def addN (S : List α × List α) (q : α) : List α × List α := if q ∈ S.1 then S else (S.1 ++ [q], S.2 ++ [q])
def addL (S : List α × List α) (l : List α) : List α × List α := l.foldl addN S
def growS (nbr : α → List α) (S : List α × List α) (last : List α) : List α × List α := last.foldl (fun S p => addL S (nbr p)) S
def lvl (nbr : α → List α) (p : α) : Nat → List α × List α
 | 0 => ([p], [p])
 | k + 1 => growS nbr ((lvl nbr p k).1, []) (lvl nbr p k).2
theorem addL_snoc (S : List α × List α) (l : List α) (q : α) : addL S (l ++ [q]) = addN (addL S l) q := by simp [addL]
theorem growS_snoc (nbr : α → List α) (S : List α × List α) (l : List α) (q : α) : growS nbr S (l ++ [q]) = addL (growS nbr S l) (nbr q) := by simp [growS]
def Tail (K : List α) (S : List α × List α) : Prop := S.1 = K ++ S.2
theorem Tail.add {K : List α} {S : List α × List α} (h : Tail K S) (q : α) : Tail K (addN S q) := by
 unfold addN; split
 ·exact h
 ·unfold Tail at h ⊢; dsimp only; rw [h, List.append_assoc]
theorem Tail.addL {K : List α} : ∀ (l : List α) {S : List α × List α}, Tail K S → Tail K (addL S l)
 | [], S, h => h
 | q :: l, S, h => Tail.addL l (h.add q)
theorem Tail.grow {K : List α} (nbr : α → List α) : ∀ (l : List α) {S : List α × List α}, Tail K S → Tail K (growS nbr S l)
 | [], S, h => h
 | q :: l, S, h => Tail.grow nbr l (h.addL _)
theorem lvl_tail (nbr : α → List α) (p : α) (k : Nat) : Tail (lvl nbr p k).1 (lvl nbr p (k + 1)) := Tail.grow nbr _ (by unfold Tail; simp)
theorem addN_mem {S : List α × List α} {q x : α} : x ∈ (addN S q).1 ↔ x ∈ S.1 ∨ x = q := by
 unfold addN; split
 ·rename_i h
  exact ⟨.inl, fun h' => h'.elim id fun e => e ▸ h⟩
 ·simp
theorem addL_mem {x : α} : ∀ (l : List α) {S : List α × List α}, x ∈ (addL S l).1 ↔ x ∈ S.1 ∨ x ∈ l
 | [], S => by simp [addL]
 | q :: l, S => by
  show x ∈ (addL (addN S q) l).1 ↔ _
  rw [addL_mem l, addN_mem, List.mem_cons, or_assoc]
theorem growS_mem {nbr : α → List α} {x : α} : ∀ (l : List α) {S : List α × List α}, x ∈ (growS nbr S l).1 ↔ x ∈ S.1 ∨ ∃ p ∈ l, x ∈ nbr p
 | [], S => by simp [growS]
 | q :: l, S => by
  show x ∈ (growS nbr (addL S (nbr q)) l).1 ↔ _
  rw [growS_mem l, addL_mem, or_assoc]
  simp only [List.mem_cons]
  constructor
  ·rintro (h | h | ⟨p, h1, h2⟩)
   ·exact .inl h
   ·exact .inr ⟨q, .inl rfl, h⟩
   ·exact .inr ⟨p, .inr h1, h2⟩
  ·rintro (h | ⟨p, rfl | h1, h2⟩)
   ·exact .inl h
   ·exact .inr (.inl h2)
   ·exact .inr (.inr ⟨p, h1, h2⟩)
theorem addN_nodup {S : List α × List α} (h : S.1.Nodup) (q : α) : (addN S q).1.Nodup := by
 unfold addN; split
 ·exact h
 ·rename_i hq
  rw [List.nodup_append]
  exact ⟨h, by simp, fun a ha b hb => by simp at hb; subst hb; exact fun e => hq (e ▸ ha)⟩
theorem addL_nodup : ∀ (l : List α) {S : List α × List α}, S.1.Nodup → (addL S l).1.Nodup
 | [], S, h => h
 | q :: l, S, h => addL_nodup l (addN_nodup h q)
theorem growS_nodup {nbr : α → List α} : ∀ (l : List α) {S : List α × List α}, S.1.Nodup → (growS nbr S l).1.Nodup
 | [], S, h => h
 | q :: l, S, h => growS_nodup l (addL_nodup _ h)
theorem lvl_nodup (nbr : α → List α) (p : α) : ∀ k, (lvl nbr p k).1.Nodup
 | 0 => by simp [lvl]
 | k + 1 => growS_nodup _ (lvl_nodup nbr p k)
theorem lvl_known (nbr : α → List α) (p : α) : ∀ k, (∀ x, x ∈ (lvl nbr p k).1 ↔ ∃ j, j ≤ k ∧ Way nbr p j x) ∧ (∀ x, x ∈ (lvl nbr p k).2 ↔ Way nbr p k x ∧ ∀ j, j < k → ¬ Way nbr p j x)
 | 0 => by
  constructor
  ·intro x
   show x ∈ [p] ↔ _
   rw [List.mem_singleton]
   constructor
   ·rintro rfl; exact ⟨0, Nat.le_refl _, rfl⟩
   ·rintro ⟨j, hj, h⟩
    obtain rfl : j = 0 := by omega
    exact h
  ·intro x
   show x ∈ [p] ↔ _
   rw [List.mem_singleton]
   exact ⟨fun h => ⟨h, fun j hj => by omega⟩, fun h => h.1⟩
 | k + 1 => by
  obtain ⟨h1, h2⟩ := lvl_known nbr p k
  have hk : ∀ x, x ∈ (lvl nbr p (k + 1)).1 ↔ ∃ j, j ≤ k + 1 ∧ Way nbr p j x := by
   intro x
   show x ∈ (growS nbr ((lvl nbr p k).1, []) (lvl nbr p k).2).1 ↔ _
   rw [growS_mem]
   dsimp only
   rw [h1]
   constructor
   ·rintro (⟨j, hj, h⟩ | ⟨r, hr, hx⟩)
    ·exact ⟨j, by omega, h⟩
    ·exact ⟨k + 1, Nat.le_refl _, r, ((h2 r).1 hr).1, hx⟩
   ·rintro ⟨j, hj, h⟩
    by_cases hjk : j ≤ k
    ·exact .inl ⟨j, hjk, h⟩
    ·obtain rfl : j = k + 1 := by omega
     obtain ⟨r, hr, hx⟩ := h
     by_cases hold : ∃ i, i < k ∧ Way nbr p i r
     ·obtain ⟨i, hi, hir⟩ := hold
      exact .inl ⟨i + 1, by omega, r, hir, hx⟩
     ·exact .inr ⟨r, (h2 r).2 ⟨hr, fun i hi hw => hold ⟨i, hi, hw⟩⟩, hx⟩
  refine ⟨hk, fun x => ?_⟩
  have ht : (lvl nbr p (k + 1)).1 = (lvl nbr p k).1 ++ (lvl nbr p (k + 1)).2 := lvl_tail nbr p k
  have hnd := lvl_nodup nbr p (k + 1)
  rw [ht, List.nodup_append] at hnd
  constructor
  ·intro hx
   have hno : ¬ ∃ j, j ≤ k ∧ Way nbr p j x := fun hc => hnd.2.2 x ((h1 x).2 hc) x hx rfl
   obtain ⟨j, hj, hw⟩ := (hk x).1 (by rw [ht]; exact List.mem_append_right _ hx)
   have : j = k + 1 := by
    by_cases h : j ≤ k
    ·exact absurd ⟨j, h, hw⟩ hno
    ·omega
   subst this
   exact ⟨hw, fun i hi hw' => hno ⟨i, by omega, hw'⟩⟩
  ·rintro ⟨hw, hno⟩
   have hx : x ∈ (lvl nbr p (k + 1)).1 := (hk x).2 ⟨k + 1, Nat.le_refl _, hw⟩
   rw [ht, List.mem_append] at hx
   rcases hx with hx | hx
   ·obtain ⟨j, hj, hw'⟩ := (h1 x).1 hx
    exact absurd hw' (hno j (by omega))
   ·exact hx
theorem lvl_end {nbr : α → List α} {p : α} {k : Nat} (h : (lvl nbr p k).2 = []) {j : Nat} {x : α} (hw : Way nbr p j x) : ∃ i, i < k ∧ Way nbr p i x := by
 induction j generalizing x with
 | zero =>
  rcases Nat.eq_zero_or_pos k with h0 | h0
  ·subst h0; simp [lvl] at h
  ·exact ⟨0, h0, hw⟩
 | succ j ih =>
  obtain ⟨r, hr, hx⟩ := hw
  obtain ⟨i, hi, hir⟩ := ih hr
  by_cases hik : i + 1 < k
  ·exact ⟨i + 1, hik, r, hir, hx⟩
  ·have hki : k = i + 1 := by omega
   refine Classical.byContradiction fun hno => ?_
   have : x ∈ (lvl nbr p k).2 := (lvl_known nbr p k).2 x |>.2 ⟨by rw [hki]; exact ⟨r, hir, hx⟩, fun j' hj' hw' => hno ⟨j', hj', hw'⟩⟩
   rw [h] at this; cases this
theorem lvl_in {nbr : α → List α} {p : α} {P : α → Prop} (hp : P p) (hs : ∀ x, P x → ∀ y ∈ nbr x, P y) {k : Nat} {x : α} (h : x ∈ (lvl nbr p k).1) : P x := by
 obtain ⟨j, _, hw⟩ := ((lvl_known nbr p k).1 x).1 h
 exact Way.all hp hs hw
end
end Go.Proofs.YtllhejjcmfiebaaDoor
namespace Go.Proofs.YtllhejjcmfiebaaDoor
def fact : Nat → Nat
 | 0 => 1
 | n + 1 => fact n * (n + 1)
theorem fact_pos : ∀ n, 0 < fact n
 | 0 => by decide
 | n + 1 => Nat.mul_pos (fact_pos n) (by omega)
def lessN (x : Int) (l : List Int) : Nat := l.countP fun y => decide (y < x)
theorem lessN_le (x : Int) (l : List Int) : lessN x l ≤ l.length := List.countP_le_length
def rankL : List Int → Nat
 | [] => 0
 | x :: l => lessN x l * fact l.length + rankL l
theorem rankL_lt : ∀ l : List Int, rankL l < fact l.length
 | [] => by decide
 | x :: l => by
  have h1 := rankL_lt l
  have h2 := lessN_le x l
  have h3 : lessN x l * fact l.length ≤ l.length * fact l.length := Nat.mul_le_mul_right _ h2
  show lessN x l * fact l.length + rankL l < fact l.length * (l.length + 1)
  rw [Nat.mul_add, Nat.mul_one, Nat.mul_comm (fact l.length)]
  omega
theorem less_of {x y : Int} {l m : List Int} (hp : (x :: l).Perm (y :: m)) (h : lessN x l = lessN y m) : ¬ x < y := by
 intro hxy
 have e1 : (x :: l).countP (fun z => decide (z < x)) = lessN x l := by rw [List.countP_cons]; simp [lessN]
 have e2 : (y :: m).countP (fun z => decide (z < y)) = lessN y m := by rw [List.countP_cons]; simp [lessN]
 have e3 : (x :: l).countP (fun z => decide (z < y)) = (y :: m).countP (fun z => decide (z < y)) := hp.countP_eq _
 have e4 : (x :: l).countP (fun z => decide (z < x)) < (x :: l).countP (fun z => decide (z < y)) := by
  refine countP_lt _ (fun z _ hz => ?_) ⟨x, List.mem_cons_self .., by simp [hxy], by simp⟩
  have := of_decide_eq_true hz
  exact decide_eq_true (by omega)
 omega
theorem rankL_inj : ∀ {p q : List Int}, p.Perm q → rankL p = rankL q → p = q
 | [], q, hp, _ => by have := hp.length_eq; exact (List.length_eq_zero_iff.1 this.symm).symm
 | x :: l, [], hp, _ => by have := hp.length_eq; simp at this
 | x :: l, y :: m, hp, h => by
  have hlen : l.length = m.length := by have := hp.length_eq; simpa using this
  have h1 := rankL_lt l
  have h2 := rankL_lt m
  have h3 : lessN x l * fact l.length + rankL l = lessN y m * fact m.length + rankL m := h
  rw [hlen] at h3 h1
  have hf := fact_pos m.length
  have h4 : lessN x l = lessN y m := by
   have a1 : (lessN x l * fact m.length + rankL l) / fact m.length = lessN x l := by
    rw [Nat.mul_comm, Nat.mul_add_div hf, Nat.div_eq_of_lt h1, Nat.add_zero]
   have a2 : (lessN y m * fact m.length + rankL m) / fact m.length = lessN y m := by
    rw [Nat.mul_comm, Nat.mul_add_div hf, Nat.div_eq_of_lt h2, Nat.add_zero]
   rw [← a1, ← a2, h3]
  have hxy : x = y := by
   have g1 := less_of hp h4
   have g2 := less_of hp.symm h4.symm
   omega
  subst hxy
  rw [h4] at h3
  have h5 : rankL l = rankL m := by omega
  rw [rankL_inj ((List.perm_cons x).1 hp) h5]
theorem rank_step {p : List Int} {i out : Nat} (hi : i < p.length) (h : out * fact (p.length - i) + rankL (p.drop i) = rankL p) :
  (out * (p.length - i) + lessN (p.getD i 0) (p.drop (i + 1))) * fact (p.length - (i + 1)) + rankL (p.drop (i + 1)) = rankL p := by
 have hd := List.drop_eq_getElem_cons hi
 have hg : p.getD i 0 = p[i] := by rw [List.getD_eq_getElem?_getD, List.getElem?_eq_getElem hi]; rfl
 rw [hd] at h
 have hr : rankL (p[i] :: p.drop (i + 1)) = lessN p[i] (p.drop (i + 1)) * fact (p.drop (i + 1)).length + rankL (p.drop (i + 1)) := rfl
 rw [hr, List.length_drop] at h
 obtain ⟨m, hm⟩ : ∃ m, p.length - (i + 1) = m := ⟨_, rfl⟩
 have hm1 : p.length - i = m + 1 := by omega
 rw [hm1, hm] at h ⊢
 rw [hg]
 have hfact : fact (m + 1) = fact m * (m + 1) := rfl
 rw [hfact] at h
 rw [Nat.add_mul, Nat.mul_assoc, Nat.mul_comm (m + 1)]
 omega
structure PosP (n : Nat) (p : List Int) : Prop where
 nodup : p.Nodup
 mem : ∀ x : Int, x ∈ p ↔ 0 ≤ x ∧ x < n
def firstN (n : Nat) : List Int := (List.range n).map fun (i : Nat) => (i : Int)
theorem firstN_pos (n : Nat) : PosP n (firstN n) := by
 refine ⟨?_, fun x => ?_⟩
 ·unfold firstN
  rw [List.nodup_iff_pairwise_ne, List.pairwise_map]
  exact List.nodup_range.imp fun h => by omega
 ·unfold firstN
  rw [List.mem_map]
  constructor
  ·rintro ⟨i, hi, rfl⟩
   have := List.mem_range.1 hi
   omega
  ·rintro ⟨h0, h1⟩
   exact ⟨x.toNat, List.mem_range.2 (by omega), by omega⟩
theorem PosP.perm {n : Nat} {p q : List Int} (hp : PosP n p) (hq : PosP n q) : p.Perm q := (List.perm_ext_iff_of_nodup hp.nodup hq.nodup).2 fun x => (hp.mem x).trans (hq.mem x).symm
theorem PosP.of_perm {n : Nat} {p q : List Int} (hp : PosP n p) (h : p.Perm q) : PosP n q := ⟨h.nodup_iff.1 hp.nodup, fun x => h.mem_iff.symm.trans (hp.mem x)⟩
theorem PosP.len {n : Nat} {p : List Int} (hp : PosP n p) : p.length = n := by
 rw [(hp.perm (firstN_pos n)).length_eq]; simp [firstN]
theorem PosP.inj {n : Nat} {p q : List Int} (hp : PosP n p) (hq : PosP n q) (h : rankL p = rankL q) : p = q := rankL_inj (hp.perm hq) h
theorem PosP.lt {n : Nat} {p : List Int} (hp : PosP n p) : rankL p < fact n := by have := rankL_lt p; rwa [hp.len] at this
theorem PosP.at_ {n : Nat} {p : List Int} (hp : PosP n p) {j : Nat} (hj : j < n) : 0 ≤ p.getD j 0 ∧ p.getD j 0 < n := by
 have hl := hp.len
 refine (hp.mem _).1 ?_
 rw [List.getD_eq_getElem?_getD, List.getElem?_eq_getElem (show j < p.length by omega), Option.getD_some]
 exact List.getElem_mem _
theorem PosP.w {n : Nat} {p : List Int} (hp : PosP n p) (h0 : 0 < n) : PosW n p := by
 refine ⟨hp.len, fun j hj => hp.at_ hj, ?_⟩
 obtain ⟨j, hj⟩ := List.getElem?_of_mem ((hp.mem 0).2 ⟨by omega, by omega⟩)
 have hjl := (List.getElem?_eq_some_iff.1 hj).1
 exact ⟨j, by rw [hp.len] at hjl; exact hjl, by rw [List.getD_eq_getElem?_getD, hj]; rfl⟩
def swapL (p : List Int) (a b : Nat) : List Int := (p.set a (p.getD b 0)).set b (p.getD a 0)
theorem swapL_get {p : List Int} {a b : Nat} (ha : a < p.length) (hb : b < p.length) (j : Nat) : (swapL p a b).getD j 0 = if b = j then p.getD a 0 else if a = j then p.getD b 0 else p.getD j 0 := by
 unfold swapL
 rw [getD_set _ _ _ _ (by simp; omega), getD_set _ _ _ _ ha]
theorem swapL_perm {p : List Int} {a b : Nat} (ha : a < p.length) (hb : b < p.length) : (swapL p a b).Perm p := by
 rw [List.perm_iff_count]
 intro x
 have ga : p.getD a 0 = p[a] := by rw [List.getD_eq_getElem?_getD, List.getElem?_eq_getElem ha]; rfl
 have gb : p.getD b 0 = p[b] := by rw [List.getD_eq_getElem?_getD, List.getElem?_eq_getElem hb]; rfl
 unfold swapL
 rw [ga, gb, List.count_set (by simp; omega), List.count_set ha, List.getElem_set]
 have hpos : ∀ i (hi : i < p.length), p[i] = x → 0 < p.count x := fun i hi h => List.count_pos_iff.2 (h ▸ List.getElem_mem hi)
 have h1 := hpos a ha
 have h2 := hpos b hb
 by_cases hab : a = b
 ·subst hab
  by_cases hx : p[a] = x
  ·have := h1 hx
   simp [hx]; omega
  ·simp [hx]
 ·rw [if_neg hab]
  by_cases hxa : p[a] = x
  ·by_cases hxb : p[b] = x
   ·have := h1 hxa; simp [hxa, hxb]; omega
   ·have := h1 hxa; simp [hxa, hxb]; omega
  ·by_cases hxb : p[b] = x
   ·have := h2 hxb; simp [hxa, hxb]
   ·simp [hxa, hxb]
theorem movedL_swap {n t : Nat} {p : List Int} (h : PosW n p) (ht : t < n) : movedL p t = swapL p (holeL p) t := by
 have := h.hole.2.1
 unfold movedL swapL
 rw [this]
theorem PosP.moved {n t : Nat} {p : List Int} (hp : PosP n p) (ht : t < n) : PosP n (movedL p t) := by
 have hw := hp.w (by omega)
 have hl := hp.len
 have hh := hw.hole.1
 rw [movedL_swap hw ht]
 exact hp.of_perm (swapL_perm (by omega) (by omega)).symm
theorem ext_getD {p q : List Int} (hl : p.length = q.length) (h : ∀ j, j < p.length → p.getD j 0 = q.getD j 0) : p = q := by
 refine List.ext_getElem hl fun i h1 h2 => ?_
 have := h i h1
 rw [List.getD_eq_getElem?_getD, List.getD_eq_getElem?_getD, List.getElem?_eq_getElem h1, List.getElem?_eq_getElem h2] at this
 exact this
theorem PosP.getD_inj {n : Nat} {p : List Int} (hp : PosP n p) {i j : Nat} (hi : i < n) (hj : j < n) (h : p.getD i 0 = p.getD j 0) : i = j := by
 have hl := hp.len
 rw [List.getD_eq_getElem?_getD, List.getD_eq_getElem?_getD, List.getElem?_eq_getElem (show i < p.length by omega), List.getElem?_eq_getElem (show j < p.length by omega), Option.getD_some, Option.getD_some] at h
 refine Classical.byContradiction fun hne => ?_
 have hpw := List.pairwise_iff_getElem.1 (List.nodup_iff_pairwise_ne.1 hp.nodup)
 rcases Nat.lt_or_gt_of_ne hne with hlt | hlt
 ·exact hpw i j (by omega) (by omega) hlt h
 ·exact hpw j i (by omega) (by omega) hlt h.symm
theorem PosP.hole_eq {n k : Nat} {p : List Int} (hp : PosP n p) (hk : k < n) (h : p.getD k 0 = 0) : holeL p = k := by
 have hw := (hp.w (by omega)).hole
 exact hp.getD_inj hw.1 hk (by rw [hw.2.1, h])
theorem PosP.moved_back {n t : Nat} {p : List Int} (hp : PosP n p) (ht : t < n) : holeL (movedL p t) = t ∧ movedL (movedL p t) (holeL p) = p := by
 have hw := hp.w (by omega)
 have hl := hp.len
 have hh := hw.hole
 have hm := hp.moved ht
 have hget : ∀ j, (movedL p t).getD j 0 = if t = j then 0 else if holeL p = j then p.getD t 0 else p.getD j 0 := fun j => by
  unfold movedL
  rw [getD_set _ _ _ _ (by simp; omega), getD_set _ _ _ _ (by omega)]
 have h1 : holeL (movedL p t) = t := hm.hole_eq ht (by rw [hget, if_pos rfl])
 refine ⟨h1, ?_⟩
 rw [movedL_swap (hm.w (by omega)) hh.1, h1]
 refine ext_getD (by unfold swapL; simp [movedL_len]) fun j hj => ?_
 rw [swapL_get (by rw [movedL_len]; omega) (by rw [movedL_len]; omega), hget, hget, hget]
 by_cases h2 : holeL p = j
 ·rw [if_pos h2, if_pos rfl, ← h2, hh.2.1]
 ·rw [if_neg h2]
  by_cases h3 : t = j
  ·rw [if_pos h3, if_neg (fun e => h2 (by rw [← h3, e])), if_pos rfl, h3]
  ·rw [if_neg h3, if_neg h3, if_neg h2]
def nbrL (E : Es) (n : Nat) (p : List Int) : List (List Int) := ((List.range n).filter fun t => (nb E (holeL p)).testBit t).map (movedL p)
theorem nbrL_pos {E : Es} {n : Nat} {p : List Int} (hp : PosP n p) : ∀ q ∈ nbrL E n p, PosP n q := by
 intro q hq
 unfold nbrL at hq
 obtain ⟨t, ht, rfl⟩ := List.mem_map.1 hq
 rw [List.mem_filter, List.mem_range] at ht
 exact hp.moved ht.1
theorem nbrL_back {E : Es} {n : Nat} {p : List Int} (hp : PosP n p) (h0 : 0 < n) : ∀ q ∈ nbrL E n p, PosP n q ∧ p ∈ nbrL E n q := by
 intro q hq
 refine ⟨nbrL_pos hp q hq, ?_⟩
 unfold nbrL at hq ⊢
 obtain ⟨t, ht, rfl⟩ := List.mem_map.1 hq
 rw [List.mem_filter, List.mem_range] at ht
 obtain ⟨h1, h2⟩ := hp.moved_back ht.1
 refine List.mem_map.2 ⟨holeL p, ?_, h2⟩
 rw [List.mem_filter, List.mem_range, h1]
 exact ⟨(hp.w h0).hole.1, (nb_bit E t (holeL p)).2 ((nb_bit E (holeL p) t).1 ht.2).symm⟩
end Go.Proofs.YtllhejjcmfiebaaDoor
namespace Go.Proofs.YtllhejjcmfiebaaDoor
theorem nodup_lt {N : Nat} {l : List Nat} (hnd : l.Nodup) (h : ∀ x ∈ l, x < N) : l.length ≤ N := by
 have hp : l.Perm ((List.range N).filter fun x => decide (x ∈ l)) :=
  (List.perm_ext_iff_of_nodup hnd (List.nodup_range.filter _)).2 fun x => by
   rw [List.mem_filter, List.mem_range, decide_eq_true_eq]
   exact ⟨fun hx => ⟨h x hx, hx⟩, fun hx => hx.2⟩
 rw [hp.length_eq]
 have := List.length_filter_le (fun x => decide (x ∈ l)) (List.range N)
 simpa using this
theorem pos_few {n : Nat} {Q : List (List Int)} (hQ : ∀ q ∈ Q, PosP n q) (hnd : Q.Nodup) : Q.length ≤ fact n := by
 have : (Q.map rankL).Nodup := by
  rw [List.nodup_iff_pairwise_ne, List.pairwise_map]
  rw [List.nodup_iff_pairwise_ne] at hnd
  refine hnd.imp_of_mem fun ha hb hne he => hne ((hQ _ ha).inj (hQ _ hb) he)
 have := nodup_lt (N := fact n) this fun x hx => by
  obtain ⟨q, hq, rfl⟩ := List.mem_map.1 hx
  exact (hQ q hq).lt
 simpa using this
def DistIs (E : Es) (n : Nat) (p : List Int) (d : Nat) (q : List Int) : Prop := Way (nbrL E n) p d q ∧ ∀ j, j < d → ¬ Way (nbrL E n) p j q
theorem DistIs.uniq {E : Es} {n : Nat} {p q : List Int} {d e : Nat} (h : DistIs E n p d q) (k : DistIs E n p e q) : d = e := by
 rcases Nat.lt_trichotomy d e with hl | hl | hl
 ·exact absurd h.1 (k.2 d hl)
 ·exact hl
 ·exact absurd k.1 (h.2 e hl)
abbrev lv (E : Es) (n : Nat) (p : List Int) (k : Nat) : List (List Int) × List (List Int) := lvl (nbrL E n) p k
def pt (E : Es) (n : Nat) (p : List Int) (k j : Nat) : List (List Int) × List (List Int) := growS (nbrL E n) ((lv E n p k).1, []) ((lv E n p k).2.take j)
theorem pt_zero (E : Es) (n : Nat) (p : List Int) (k : Nat) : pt E n p k 0 = ((lv E n p k).1, []) := by unfold pt growS; simp
theorem pt_last (E : Es) (n : Nat) (p : List Int) (k : Nat) : pt E n p k (lv E n p k).2.length = lv E n p (k + 1) := by unfold pt; rw [List.take_length]; rfl
theorem pt_next {E : Es} {n : Nat} {p q : List Int} {k j : Nat} (h : (lv E n p k).2[j]? = some q) : pt E n p k (j + 1) = addL (pt E n p k j) (nbrL E n q) := by
 unfold pt
 have hj := (List.getElem?_eq_some_iff.1 h).1
 rw [List.take_succ_eq_append_getElem hj, show (lv E n p k).2[j] = q from (List.getElem?_eq_some_iff.1 h).2, growS_snoc]
theorem pt_tail (E : Es) (n : Nat) (p : List Int) (k j : Nat) : Tail (lv E n p k).1 (pt E n p k j) := Tail.grow _ _ (by unfold Tail; simp)
theorem lv_pos {E : Es} {n : Nat} {p : List Int} (hp : PosP n p) (k : Nat) : ∀ q ∈ (lv E n p k).1, PosP n q := fun q hq => lvl_in hp (fun x hx y hy => nbrL_pos hx y hy) hq
theorem lv_sub (E : Es) (n : Nat) (p : List Int) : ∀ k, ∀ q ∈ (lv E n p k).2, q ∈ (lv E n p k).1
 | 0, q, h => h
 | k + 1, q, h => by
  have ht : (lv E n p (k + 1)).1 = (lv E n p k).1 ++ (lv E n p (k + 1)).2 := lvl_tail _ p k
  rw [ht]; exact List.mem_append_right _ h
theorem pt_pos {E : Es} {n : Nat} {p : List Int} (hp : PosP n p) (k j : Nat) : ∀ q ∈ (pt E n p k j).1, PosP n q := by
 intro q hq
 unfold pt at hq
 rw [growS_mem] at hq
 rcases hq with hq | ⟨r, hr, hq⟩
 ·exact lv_pos hp k q hq
 ·exact nbrL_pos (lv_pos hp k r (lv_sub E n p k r (List.mem_of_mem_take hr))) q hq
theorem pt_nodup (E : Es) (n : Nat) (p : List Int) (k j : Nat) : (pt E n p k j).1.Nodup := growS_nodup _ (lvl_nodup _ p k)
theorem lv_dist {E : Es} {n : Nat} {p q : List Int} {k : Nat} : q ∈ (lv E n p k).2 ↔ DistIs E n p k q := (lvl_known _ p k).2 q
theorem lv_head (E : Es) (n : Nat) (p : List Int) : ∀ k, ∃ K, (lv E n p k).1 = K ++ (lv E n p k).2 ∧ (0 < k → K = (lv E n p (k - 1)).1) ∧ (k = 0 → K = [])
 | 0 => ⟨[], rfl, fun h => by omega, fun _ => rfl⟩
 | k + 1 => ⟨(lv E n p k).1, lvl_tail _ p k, fun _ => rfl, fun h => by omega⟩
theorem pt_at {E : Es} {n : Nat} {p : List Int} {k j i : Nat} (hi : i + (lv E n p k).2.length = (lv E n p k).1.length + j) (hj : j < (lv E n p k).2.length) : (pt E n p k j).1[i]? = (lv E n p k).2[j]? := by
 obtain ⟨K, hK, _⟩ := lv_head E n p k
 have ht : (pt E n p k j).1 = (lv E n p k).1 ++ (pt E n p k j).2 := pt_tail E n p k j
 have hl : (lv E n p k).1.length = K.length + (lv E n p k).2.length := by rw [hK, List.length_append]
 rw [ht, List.getElem?_append_left (by omega), hK, List.getElem?_append_right (by omega)]
 congr 1
 omega
theorem new_dist {E : Es} {n : Nat} {p q x : List Int} {k : Nat} (hq : q ∈ (lv E n p k).2) (hx : x ∈ nbrL E n q) (hno : x ∉ (lv E n p k).1) : DistIs E n p (k + 1) x := by
 refine ⟨⟨q, (lv_dist.1 hq).1, hx⟩, fun j hj hw => hno (((lvl_known _ p k).1 x).2 ⟨j, by omega, hw⟩)⟩
end Go.Proofs.YtllhejjcmfiebaaDoor
namespace Go.Proofs.YtllhejjcmfiebaaDoor
section
variable {E : Es} {n : Nat} {p q : List Int}
theorem way_rev (hp : PosP n p) (h0 : 0 < n) {k : Nat} {x : List Int} (h : Way (nbrL E n) p k x) : PosP n x ∧ Way (nbrL E n) x k p := Way.rev (fun y hy z hz => nbrL_back hy h0 z hz) hp h
theorem known_iff {k : Nat} {x : List Int} : x ∈ (lv E n p k).1 ↔ ∃ j, j ≤ k ∧ Way (nbrL E n) p j x := (lvl_known _ p k).1 x
theorem apart (hp : PosP n p) (hq : PosP n q) (h0 : 0 < n) {a b : Nat} (hd : ∀ x, x ∈ (lv E n p a).1 → x ∉ (lv E n q b).1) {d : Nat} (hw : Way (nbrL E n) p d q) : a + b < d := by
 refine Nat.lt_of_not_le fun hle => ?_
 have hsp : ∃ x j, j ≤ a ∧ d - j ≤ b ∧ j ≤ d ∧ Way (nbrL E n) p j x ∧ Way (nbrL E n) x (d - j) q := by
  by_cases h : d ≤ a
  ·exact ⟨q, d, h, by omega, Nat.le_refl _, hw, by rw [Nat.sub_self]; exact rfl⟩
  ·have hw' : Way (nbrL E n) p (a + (d - a)) q := by rw [show a + (d - a) = d by omega]; exact hw
   obtain ⟨x, h1, h2⟩ := hw'.split
   exact ⟨x, a, Nat.le_refl _, by omega, by omega, h1, h2⟩
 obtain ⟨x, j, h1, h2, h3, h4, h5⟩ := hsp
 have hx := (way_rev hp h0 h4).1
 have := (way_rev hx h0 h5).2
 exact hd x (known_iff.2 ⟨j, h1, h4⟩) (known_iff.2 ⟨d - j, h2, this⟩)
theorem meet_dist (hp : PosP n p) (hq : PosP n q) (h0 : 0 < n) {a b : Nat} (hd : ∀ x, x ∈ (lv E n p a).1 → x ∉ (lv E n q b).1) {x : List Int} (h1 : DistIs E n p (a + 1) x) (h2 : x ∈ (lv E n q b).1) :
  DistIs E n q b x ∧ DistIs E n p (a + 1 + b) q := by
 obtain ⟨j, hj, hw⟩ := known_iff.1 h2
 have hxr := way_rev hq h0 hw
 have hlow : ∀ d, Way (nbrL E n) p d q → a + b < d := fun d hw' => apart hp hq h0 hd hw'
 have hjb : ∀ i, i ≤ b → Way (nbrL E n) q i x → i = b := fun i hi hwi => by
  have := hlow _ (h1.1.trans (way_rev hq h0 hwi).2)
  omega
 have hj' := hjb j hj hw
 subst hj'
 refine ⟨⟨hw, fun i hi hwi => ?_⟩, h1.1.trans hxr.2, fun i hi hwi => ?_⟩
 ·have := hjb i (by omega) hwi; omega
 ·have := hlow i hwi; omega
theorem never (hp : PosP n p) (hq : PosP n q) (h0 : 0 < n) {a b : Nat} (hd : ∀ x, x ∈ (lv E n p a).1 → x ∉ (lv E n q b).1) (he : (lv E n p a).2 = []) (d : Nat) : ¬ Way (nbrL E n) p d q := by
 intro hw
 obtain ⟨i, hi, hwi⟩ := lvl_end he hw
 exact hd q (known_iff.2 ⟨i, by omega, hwi⟩) (known_iff.2 ⟨0, by omega, rfl⟩)
theorem DistIs.symm (hp : PosP n p) (h0 : 0 < n) {d : Nat} (h : DistIs E n p d q) : DistIs E n q d p := by
 obtain ⟨hq, hw⟩ := way_rev hp h0 h.1
 exact ⟨hw, fun j hj hwj => h.2 j hj (way_rev hq h0 hwj).2⟩
end
def Steps (E : Es) (n : Nat) : List (List Int) → Prop
 | [] => True
 | [_] => True
 | x :: y :: l => y ∈ nbrL E n x ∧ Steps E n (y :: l)
theorem nbrL_move {E : Es} {n : Nat} {x y : List Int} (hx : PosP n x) (h : y ∈ nbrL E n x) : holeL y < n ∧ nearB E (holeL x) (holeL y : Nat) = true ∧ movedL x (holeL y) = y := by
 unfold nbrL at h
 obtain ⟨t, ht, rfl⟩ := List.mem_map.1 h
 rw [List.mem_filter, List.mem_range] at ht
 obtain ⟨h1, h2⟩ := hx.moved_back ht.1
 rw [h1]
 refine ⟨ht.1, ?_, rfl⟩
 unfold nearB
 rw [Bool.and_eq_true, decide_eq_true_eq, Int.toNat_natCast]
 exact ⟨by omega, ht.2⟩
def holesL (l : List (List Int)) : List Int := l.map fun x => ((holeL x : Nat) : Int)
theorem steps_apply {E : Es} {n : Nat} : ∀ (l : List (List Int)) (x : List Int), PosP n x → Steps E n (x :: l) → applyL E x (holesL l) = ((x :: l).getLast (by simp), l.length)
 | [], x, _, _ => rfl
 | y :: l, x, hx, h => by
  obtain ⟨h1, h2⟩ := h
  obtain ⟨h3, h4, h5⟩ := nbrL_move hx h1
  have hy := nbrL_pos hx y h1
  have ih := steps_apply l y hy h2
  show applyL E x (((holeL y : Nat) : Int) :: holesL l) = _
  rw [applyL_yes h4, Int.toNat_natCast, h5, ih]
  exact Prod.ext rfl rfl
theorem Steps.join {E : Es} {n : Nat} {m : List (List Int)} {z : List Int} : ∀ (l : List (List Int)), Steps E n (l ++ [z]) → Steps E n (z :: m) → Steps E n (l ++ z :: m)
 | [], _, h => h
 | [x], h, k => ⟨h.1, k⟩
 | x :: y :: l, h, k => ⟨h.1, Steps.join (y :: l) h.2 k⟩
theorem Steps.snoc {E : Es} {n : Nat} {y z : List Int} : ∀ (l : List (List Int)), Steps E n (l ++ [y]) → z ∈ nbrL E n y → Steps E n (l ++ [y, z])
 | [], _, hz => ⟨hz, trivial⟩
 | [x], h, hz => ⟨h.1, hz, trivial⟩
 | x :: x' :: l, h, hz => ⟨h.1, Steps.snoc (x' :: l) h.2 hz⟩
theorem Steps.reverse {E : Es} {n : Nat} (h0 : 0 < n) : ∀ (l : List (List Int)), (∀ x ∈ l, PosP n x) → Steps E n l → Steps E n l.reverse
 | [], _, _ => trivial
 | [x], _, _ => trivial
 | x :: y :: l, hP, h => by
  have ih := Steps.reverse h0 (y :: l) (fun z hz => hP z (List.mem_cons_of_mem _ hz)) h.2
  have hb := (nbrL_back (hP x (List.mem_cons_self ..)) h0 y h.1).2
  rw [List.reverse_cons] at ih
  rw [List.reverse_cons, List.reverse_cons, List.append_assoc]
  exact Steps.snoc l.reverse ih hb
end Go.Proofs.YtllhejjcmfiebaaDoor
namespace Go.Proofs.YtllhejjcmfiebaaDoor
theorem nodup_sub {β : Type} [DecidableEq β] {l m : List β} (hl : l.Nodup) (hm : m.Nodup) (h : ∀ x ∈ l, x ∈ m) : l.length ≤ m.length := by
 have hp : l.Perm (m.filter fun x => decide (x ∈ l)) :=
  (List.perm_ext_iff_of_nodup hl (hm.filter _)).2 fun x => by
   rw [List.mem_filter, decide_eq_true_eq]
   exact ⟨fun hx => ⟨h x hx, hx⟩, fun hx => hx.2⟩
 rw [hp.length_eq]
 exact List.length_filter_le _ _
structure AllOf (E : Es) (n : Nat) (p : List Int) (K : List (List Int)) : Prop where
 nodup : K.Nodup
 mem : ∀ x, x ∈ K ↔ ∃ k, Way (nbrL E n) p k x
theorem AllOf.pos {E : Es} {n : Nat} {p : List Int} {K : List (List Int)} (h : AllOf E n p K) (hp : PosP n p) : ∀ x ∈ K, PosP n x := fun x hx => by
 obtain ⟨k, hw⟩ := (h.mem x).1 hx
 exact Way.all hp (fun y hy z hz => nbrL_pos hy z hz) hw
theorem AllOf.same {E : Es} {n : Nat} {p q : List Int} {K M : List (List Int)} (h : AllOf E n p K) (h' : AllOf E n q M) (hp : PosP n p) (h0 : 0 < n) (hq : q ∈ K) : K.length = M.length := by
 obtain ⟨k, hw⟩ := (h.mem q).1 hq
 obtain ⟨hqp, hr⟩ := way_rev hp h0 hw
 refine Nat.le_antisymm (nodup_sub h.nodup h'.nodup fun x hx => ?_) (nodup_sub h'.nodup h.nodup fun x hx => ?_)
 ·obtain ⟨j, hj⟩ := (h.mem x).1 hx
  exact (h'.mem x).2 ⟨k + j, hr.trans hj⟩
 ·obtain ⟨j, hj⟩ := (h'.mem x).1 hx
  exact (h.mem x).2 ⟨k + j, hw.trans hj⟩
theorem PosP.ex {n : Nat} {p : List Int} (hp : PosP n p) {x : Int} (h0 : 0 ≤ x) (h1 : x < n) : ∃ j, j < n ∧ p.getD j 0 = x := by
 obtain ⟨j, hj⟩ := List.getElem?_of_mem ((hp.mem x).2 ⟨h0, h1⟩)
 have hjl := (List.getElem?_eq_some_iff.1 hj).1
 exact ⟨j, by rw [hp.len] at hjl; exact hjl, by rw [List.getD_eq_getElem?_getD, hj]; rfl⟩
section
variable {n : Nat} {p q : List Int} (hp : PosP n p) (hq : PosP n q) (hh : holeL p = holeL q) (h0 : 0 < n)
include hp hq in
end
section
variable {E : Es} {n : Nat} (hE : Lt E n) (hn2 : 2 ≤ n) (hn9 : n ≤ 9) (hj : joinedP n E (-1) = true)
include hE hn2 hn9 hj in
end
end Go.Proofs.YtllhejjcmfiebaaDoor
namespace Go.Proofs.YtllhejjcmfiebaaDoor
def tr (a b i : Nat) : Nat := if i = a then b else if i = b then a else i
theorem posF_at {n : Nat} {p : List Int} (hp : PosP n p) (hn9 : n ≤ 9) {j : Nat} (hj : j < 9) : 0 ≤ posF p p.length j ∧ posF p p.length j < 9 ∧ (posF p p.length j < n ↔ j < n) := by
 have hl := hp.len
 unfold posF
 by_cases h : j < p.length
 ·rw [if_pos h]
  have := hp.at_ (show j < n by omega)
  omega
 ·rw [if_neg h]; omega
def Ne2 (E : Es) : Prop := ∀ e ∈ E, e.1 ≠ e.2
end Go.Proofs.YtllhejjcmfiebaaDoor
