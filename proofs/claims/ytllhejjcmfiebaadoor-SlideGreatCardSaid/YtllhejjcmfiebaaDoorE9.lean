/- The way back: from where two searches met to their starts. Pure theory. -/
import Derived.Test.YtllhejjcmfiebaaDoorN7
set_option linter.unusedVariables false
set_option linter.unusedSimpArgs false
set_option linter.unnecessarySimpa false
namespace Go.Proofs.YtllhejjcmfiebaaDoor
open Go.RowKit Go.Shelf
def parF (par : List (List Int × List Int)) (q : List Int) : List Int := match par.find? (fun x => x.1 == q) with
 | some x => x.2
 | none => []
theorem parF_get {par : List (List Int × List Int)} {q : List Int} (hq : q ∈ keysP par) : ∃ x ∈ par, x.1 = q ∧ parF par q = x.2 ∧ lookF par q = posF (parF par q) (parF par q).length := by
 have h := find_keys par q
 rw [decide_eq_true hq] at h
 obtain ⟨x, hx⟩ := Option.isSome_iff_exists.1 h
 refine ⟨x, List.mem_of_find?_eq_some hx, by simpa using List.find?_some hx, ?_, ?_⟩
 ·unfold parF; rw [hx]
 ·unfold lookF parF; rw [hx]
theorem dist_zero {E : Es} {N : Nat} {p : List Int} : DistIs E N p 0 p := ⟨rfl, fun j hj => absurd hj (Nat.not_lt_zero _)⟩
theorem par_step {E : Es} {N : Nat} {p : List Int} {par : List (List Int × List Int)} (h : ParOK E N p par) {q : List Int} (hq : q ∈ keysP par) {d : Nat} (hd : DistIs E N p d q) :
  (d = 0 ∧ q = p ∧ parF par q = q) ∨ (∃ e, d = e + 1 ∧ DistIs E N p e (parF par q) ∧ q ∈ nbrL E N (parF par q) ∧ parF par q ∈ keysP par ∧ parF par q ≠ q) := by
 obtain ⟨x, hx, rfl, hp, _⟩ := parF_get hq
 rw [hp]
 rcases h x hx with ⟨h1, h2⟩ | ⟨e, h1, h2, h3, h4⟩
 ·refine .inl ⟨?_, h1, by rw [h1, h2]⟩
  rw [h1] at hd
  exact hd.uniq dist_zero
 ·have hde := hd.uniq h2
  refine .inr ⟨e, hde, h1, h3, h4, fun he => ?_⟩
  rw [he] at h1
  have := h1.uniq h2
  omega
def backL (par : List (List Int × List Int)) : Nat → List Int → List (List Int)
 | 0, q => [q]
 | d + 1, q => q :: backL par d (parF par q)
theorem backL_head (par : List (List Int × List Int)) : ∀ (d : Nat) (q : List Int), ∃ t, backL par d q = q :: t ∧ t.length = d
 | 0, q => ⟨[], rfl, rfl⟩
 | d + 1, q => by
  obtain ⟨t, h1, h2⟩ := backL_head par d (parF par q)
  exact ⟨_, rfl, by rw [h1, List.length_cons, h2]⟩
theorem backL_steps {E : Es} {N : Nat} {p : List Int} {par : List (List Int × List Int)} (h : ParOK E N p par) (hp : PosP N p) (h0 : 0 < N) : ∀ (d : Nat) (q : List Int), q ∈ keysP par → DistIs E N p d q →
  (∀ x ∈ backL par d q, PosP N x) ∧ Steps E N (backL par d q) ∧ ∃ m, backL par d q = m ++ [p]
 | 0, q, hq, hd => by
  rcases par_step h hq hd with ⟨_, rfl, _⟩ | ⟨e, he, _⟩
  ·exact ⟨fun x hx => by rw [List.mem_singleton.1 hx]; exact hp, trivial, [], rfl⟩
  ·cases he
 | d + 1, q, hq, hd => by
  rcases par_step h hq hd with ⟨h1, _⟩ | ⟨e, he, h1, h2, h3, _⟩
  ·cases h1
  ·obtain rfl : d = e := by omega
   obtain ⟨i1, i2, m, i3⟩ := backL_steps h hp h0 d (parF par q) h3 h1
   obtain ⟨t, ht, _⟩ := backL_head par d (parF par q)
   have hpq := (way_rev hp h0 h1.1).1
   have hb := nbrL_back hpq h0 q h2
   refine ⟨fun x hx => ?_, ?_, q :: m, ?_⟩
   ·rcases List.mem_cons.1 hx with rfl | hx
    ·exact hb.1
    ·exact i1 x hx
   ·show Steps E N (q :: backL par d (parF par q))
    rw [ht] at i2 ⊢
    exact ⟨hb.2, i2⟩
   ·show q :: backL par d (parF par q) = _
    rw [i3]; rfl
theorem meet_apply {E : Es} {N a b : Nat} {p q x : List Int} {par par' : List (List Int × List Int)} (h : ParOK E N p par) (h' : ParOK E N q par') (hp : PosP N p) (hq : PosP N q) (h0 : 0 < N)
  (hx : x ∈ keysP par) (hx' : x ∈ keysP par') (ha : DistIs E N p a x) (hb : DistIs E N q b x) :
  applyL E p (holesL (backL par a x).reverse.tail ++ holesL (backL par' b x).tail) = (q, a + b) := by
 obtain ⟨i1, i2, m, i3⟩ := backL_steps h hp h0 a x hx ha
 obtain ⟨j1, j2, m', j3⟩ := backL_steps h' hq h0 b x hx' hb
 obtain ⟨t, ht, htl⟩ := backL_head par a x
 obtain ⟨t', ht', htl'⟩ := backL_head par' b x
 have hr := Steps.reverse h0 _ i1 i2
 have hrev : (backL par a x).reverse = p :: m.reverse := by rw [i3, List.reverse_append]; rfl
 have hrev2 : (backL par a x).reverse = t.reverse ++ [x] := by rw [ht, List.reverse_cons]
 have hml : m.length = a := by
  have := congrArg List.length i3
  rw [ht, List.length_cons, List.length_append, List.length_singleton] at this
  omega
 have hj : Steps E N (p :: (m.reverse ++ t')) := by
  have h1 := Steps.join t.reverse (z := x) (m := t') (by rw [← hrev2]; exact hr) (by rw [← ht']; exact j2)
  have h2 : t.reverse ++ x :: t' = p :: (m.reverse ++ t') := by
   rw [show t.reverse ++ x :: t' = (t.reverse ++ [x]) ++ t' by simp, ← hrev2, hrev, List.cons_append]
  rw [h2] at h1; exact h1
 have hs := steps_apply _ p hp hj
 rw [hrev, List.tail_cons, ht', List.tail_cons]
 have hh : holesL m.reverse ++ holesL t' = holesL (m.reverse ++ t') := by unfold holesL; rw [List.map_append]
 rw [hh, hs]
 refine Prod.ext ?_ ?_
 ·have hl : (p :: (m.reverse ++ t')).getLast? = some q := by
   have h2 : p :: (m.reverse ++ t') = t.reverse ++ x :: t' := by
    rw [show t.reverse ++ x :: t' = (t.reverse ++ [x]) ++ t' by simp, ← hrev2, hrev, List.cons_append]
   rw [h2, ← ht', j3, ← List.append_assoc, List.getLast?_append]; rfl
  rw [List.getLast?_eq_some_getLast (by simp)] at hl
  exact Option.some.inj hl
 ·show (m.reverse ++ t').length = a + b
  rw [List.length_append, List.length_reverse, hml, htl']
end Go.Proofs.YtllhejjcmfiebaaDoor
namespace Go.Proofs.YtllhejjcmfiebaaDoor
open Go.RowKit Go.Shelf
def eq9 (f g : Nat → Int) : Bool := f 0 == g 0 && (f 1 == g 1 && (f 2 == g 2 && (f 3 == g 3 && (f 4 == g 4 && (f 5 == g 5 && (f 6 == g 6 && (f 7 == g 7 && f 8 == g 8)))))))
set_option maxHeartbeats 1000000 in
theorem equal9 (f g : Nat → Int) (w : World) : (Op.equalIn 10000 82 (nineV f) (nineV g)).run Tryd.prog w = .ok (eq9 f g) w := by
 unfold nineV eq9
 rw [show (10000 : Nat) = 9999 + 1 from rfl, Op.equalIn]
 simp only [Sem.run_bind, run_underlying Tryd.underlying82, Result.andThen_ok]
 simp only [Std.Legacy.Range.forIn_eq_forIn_range', Std.Legacy.Range.size, Nat.sub_zero, Nat.add_sub_cancel, Nat.div_one, List.range'_succ, List.range'_zero, List.forIn_cons, List.forIn_nil]
 go_simp
 by_cases h0 : f 0 = g 0
 case neg => simp [h0]
 rw [if_pos h0]
 by_cases h1 : f 1 = g 1
 case neg => simp [h0, h1]
 rw [if_pos h1]
 by_cases h2 : f 2 = g 2
 case neg => simp [h0, h1, h2]
 rw [if_pos h2]
 by_cases h3 : f 3 = g 3
 case neg => simp [h0, h1, h2, h3]
 rw [if_pos h3]
 by_cases h4 : f 4 = g 4
 case neg => simp [h0, h1, h2, h3, h4]
 rw [if_pos h4]
 by_cases h5 : f 5 = g 5
 case neg => simp [h0, h1, h2, h3, h4, h5]
 rw [if_pos h5]
 by_cases h6 : f 6 = g 6
 case neg => simp [h0, h1, h2, h3, h4, h5, h6]
 rw [if_pos h6]
 by_cases h7 : f 7 = g 7
 case neg => simp [h0, h1, h2, h3, h4, h5, h6, h7]
 rw [if_pos h7]
 by_cases h8 : f 8 = g 8
 case neg => simp [h0, h1, h2, h3, h4, h5, h6, h7, h8]
 simp [h0, h1, h2, h3, h4, h5, h6, h7, h8]
theorem eq9_true {f g : Nat → Int} (h : ∀ i, i < 9 → f i = g i) : eq9 f g = true := by
 unfold eq9
 simp [h 0 (by omega), h 1 (by omega), h 2 (by omega), h 3 (by omega), h 4 (by omega), h 5 (by omega), h 6 (by omega), h 7 (by omega), h 8 (by omega)]
theorem eq9_at {f g : Nat → Int} (h : eq9 f g = true) : ∀ i, i < 9 → f i = g i := by
 unfold eq9 at h
 simp only [Bool.and_eq_true, beq_iff_eq] at h
 obtain ⟨h0, h1, h2, h3, h4, h5, h6, h7, h8⟩ := h
 intro i hi
 rcases (by omega : i = 0 ∨ i = 1 ∨ i = 2 ∨ i = 3 ∨ i = 4 ∨ i = 5 ∨ i = 6 ∨ i = 7 ∨ i = 8) with rfl | rfl | rfl | rfl | rfl | rfl | rfl | rfl | rfl <;> assumption
theorem eq9_pos {N : Nat} {p q : List Int} (hN9 : N ≤ 9) (hp : PosP N p) (hq : PosP N q) : eq9 (posF p p.length) (posF q q.length) = decide (p = q) := by
 have hpl := hp.len
 have hql := hq.len
 rw [Bool.eq_iff_iff, decide_eq_true_eq]
 refine ⟨fun h => ?_, fun h => by subst h; exact eq9_true fun _ _ => rfl⟩
 have ha := eq9_at h
 refine List.ext_getElem (by omega) fun i h1 h2 => ?_
 have := ha i (by omega)
 unfold posF at this
 rw [if_pos h1, if_pos h2, List.getD_eq_getElem?_getD, List.getD_eq_getElem?_getD, List.getElem?_eq_getElem h1, List.getElem?_eq_getElem h2] at this
 exact this
end Go.Proofs.YtllhejjcmfiebaaDoor
