/- The sides of a board: pure. -/
import Derived.Test.YtllhejjcmfiebaaDoorS7
set_option linter.unusedVariables false
set_option linter.unusedSimpArgs false
set_option linter.unnecessarySimpa false
namespace Go.Proofs.YtllhejjcmfiebaaDoor
open Go.RowKit

def orIf (c : Bool) (M p : Nat) : Nat := if c then M ||| p else M
theorem orIf_bit (c : Bool) (M p i : Nat) : (orIf c M p).testBit i = (M.testBit i || (c && p.testBit i)) := by
  unfold orIf; cases c <;> simp
/-- what the reference does with an edge: the left and the right side -/
def sdR (S : Nat × Nat) (e : Nat × Nat) : Nat := orIf (S.1.testBit e.2) (orIf (S.1.testBit e.1) S.2 (2 ^ e.2)) (2 ^ e.1)
def sdL (S : Nat × Nat) (e : Nat × Nat) : Nat := orIf ((sdR S e).testBit e.2) (orIf ((sdR S e).testBit e.1) S.1 (2 ^ e.2)) (2 ^ e.1)
def sdS (S : Nat × Nat) (e : Nat × Nat) : Nat × Nat := (sdL S e, sdR S e)
def sdE (E : Es) (S : Nat × Nat) : Nat × Nat := E.foldl sdS S
def sdN (E : Es) : Nat → Nat × Nat
  | 0 => (1, 0)
  | k + 1 => sdE E (sdN E k)
def Sup (S T : Nat × Nat) : Prop := (∀ i, S.1.testBit i = true → T.1.testBit i = true) ∧ (∀ i, S.2.testBit i = true → T.2.testBit i = true)
theorem Sup.trans {S T U : Nat × Nat} (h : Sup S T) (k : Sup T U) : Sup S U := ⟨fun i hi => k.1 i (h.1 i hi), fun i hi => k.2 i (h.2 i hi)⟩
theorem Sup.anti {S T : Nat × Nat} (h : Sup S T) (k : Sup T S) : S = T := by
  have one : ∀ a b : Nat, (∀ i, a.testBit i = true → b.testBit i = true) → (∀ i, b.testBit i = true → a.testBit i = true) → a = b := by
    intro a b h1 h2
    refine Nat.eq_of_testBit_eq fun i => ?_
    cases ha : a.testBit i with
    | true => exact (h1 i ha).symm
    | false => cases hb : b.testBit i with
      | false => rfl
      | true => rw [h2 i hb] at ha; cases ha
  exact Prod.ext (one _ _ h.1 k.1) (one _ _ h.2 k.2)
theorem sdS_sup (S e : Nat × Nat) : Sup S (sdS S e) := by
  constructor
  · intro i hi; show (sdL S e).testBit i = true; unfold sdL; rw [orIf_bit, orIf_bit, hi]; simp
  · intro i hi; show (sdR S e).testBit i = true; unfold sdR; rw [orIf_bit, orIf_bit, hi]; simp
theorem sdE_sup : ∀ (E : Es) (S : Nat × Nat), Sup S (sdE E S)
  | [], S => ⟨fun _ h => h, fun _ h => h⟩
  | e :: E, S => (sdS_sup S e).trans (sdE_sup E (sdS S e))
/-- A is the places an even number of edges away, B those an odd number -/
def ClosedE (A B : Nat → Prop) (e : Nat × Nat) : Prop := (A e.1 → B e.2) ∧ (A e.2 → B e.1) ∧ (B e.1 → A e.2) ∧ (B e.2 → A e.1)
def In2 (A B : Nat → Prop) (S : Nat × Nat) : Prop := (∀ i, S.1.testBit i = true → A i) ∧ (∀ i, S.2.testBit i = true → B i)
theorem sdS_in {A B : Nat → Prop} {S e : Nat × Nat} (h : In2 A B S) (hc : ClosedE A B e) : In2 A B (sdS S e) := by
  obtain ⟨h1, h2⟩ := h
  obtain ⟨c1, c2, c3, c4⟩ := hc
  have hR : ∀ i, (sdR S e).testBit i = true → B i := by
    intro i hi
    unfold sdR at hi
    rw [orIf_bit, orIf_bit, bit_pow, bit_pow] at hi
    simp only [Bool.or_eq_true, Bool.and_eq_true, decide_eq_true_eq] at hi
    rcases hi with (hi | ⟨hi, rfl⟩) | ⟨hi, rfl⟩
    · exact h2 i hi
    · exact c1 (h1 _ hi)
    · exact c2 (h1 _ hi)
  refine ⟨fun i hi => ?_, hR⟩
  change (sdL S e).testBit i = true at hi
  unfold sdL at hi
  rw [orIf_bit, orIf_bit, bit_pow, bit_pow] at hi
  simp only [Bool.or_eq_true, Bool.and_eq_true, decide_eq_true_eq] at hi
  rcases hi with (hi | ⟨hi, rfl⟩) | ⟨hi, rfl⟩
  · exact h1 i hi
  · exact c3 (hR _ hi)
  · exact c4 (hR _ hi)
theorem sdE_in {A B : Nat → Prop} : ∀ (E : Es) {S : Nat × Nat}, In2 A B S → (∀ e ∈ E, ClosedE A B e) → In2 A B (sdE E S)
  | [], _, h, _ => h
  | e :: E, _, h, hc => sdE_in E (sdS_in h (hc e (List.mem_cons_self ..))) fun e' he => hc e' (List.mem_cons_of_mem _ he)
theorem sdN_in {A B : Nat → Prop} {E : Es} (h0 : A 0) (hc : ∀ e ∈ E, ClosedE A B e) : ∀ k, In2 A B (sdN E k)
  | 0 => ⟨fun i hi => by
      have : (1 : Nat).testBit i = decide (0 = i) := by rw [← bit_pow]
      change (1 : Nat).testBit i = true at hi
      rw [this] at hi
      have := of_decide_eq_true hi
      subst this; exact h0, fun i hi => by change (0 : Nat).testBit i = true at hi; simp at hi⟩
  | k + 1 => sdE_in E (sdN_in h0 hc k) hc
theorem sdE_fix : ∀ (E : Es) {S : Nat × Nat}, sdE E S = S → ∀ e ∈ E, sdS S e = S
  | [], _, _, e, he => by cases he
  | e :: E, S, h, e', he => by
    have h1 : sdS S e = S := by
      have hs : Sup (sdS S e) S := by
        have := sdE_sup E (sdS S e)
        have e2 : sdE E (sdS S e) = S := h
        rw [e2] at this; exact this
      exact hs.anti (sdS_sup S e)
    rcases List.mem_cons.1 he with rfl | he
    · exact h1
    · refine sdE_fix E ?_ e' he
      have e2 : sdE E (sdS S e) = S := h
      rw [h1] at e2; exact e2
theorem closed_of_fix {S e : Nat × Nat} (h : sdS S e = S) : ClosedE (fun i => S.1.testBit i = true) (fun i => S.2.testBit i = true) e := by
  have hR : sdR S e = S.2 := congrArg Prod.snd h
  have hL : sdL S e = S.1 := congrArg Prod.fst h
  refine ⟨fun ha => ?_, fun ha => ?_, fun ha => ?_, fun ha => ?_⟩
  · show S.2.testBit e.2 = true
    rw [← hR]; unfold sdR; rw [orIf_bit, orIf_bit, ha, bit_pow]; simp
  · show S.2.testBit e.1 = true
    rw [← hR]; unfold sdR; rw [orIf_bit, ha, bit_pow]; simp
  · show S.1.testBit e.2 = true
    rw [← hL]; unfold sdL; rw [hR, orIf_bit, orIf_bit, ha, bit_pow]; simp
  · show S.1.testBit e.1 = true
    rw [← hL]; unfold sdL; rw [hR, orIf_bit, ha, bit_pow]; simp
theorem sdN_lt {n : Nat} {E : Es} (hE : Lt E n) (hn : 0 < n) (k : Nat) : (sdN E k).1 < 2 ^ n ∧ (sdN E k).2 < 2 ^ n := by
  have := sdN_in (A := fun i => i < n) (B := fun i => i < n) (E := E) hn (fun e he => ⟨fun _ => (hE e he).2, fun _ => (hE e he).1, fun _ => (hE e he).2, fun _ => (hE e he).1⟩) k
  exact ⟨lt_of_bits this.1, lt_of_bits this.2⟩
theorem card_mono {s t : Nat} (h : ∀ i, s.testBit i = true → t.testBit i = true) : card s ≤ card t := List.countP_mono_left fun i _ hi => h i hi
theorem sdN_card {n : Nat} {E : Es} (hE : Lt E n) (hn : 0 < n) (hn9 : n ≤ 9) : ∀ k, sdE E (sdN E k) = sdN E k ∨ k + 1 ≤ card (sdN E k).1 + card (sdN E k).2
  | 0 => .inr (by show 1 ≤ card 1 + card 0; decide)
  | k + 1 => by
    rcases sdN_card hE hn hn9 k with h | h
    · left
      have : sdN E (k + 1) = sdN E k := h
      rw [this]; exact h
    · by_cases he : sdE E (sdN E k) = sdN E k
      · left
        have : sdN E (k + 1) = sdN E k := he
        rw [this]; exact he
      · right
        obtain ⟨l1, l2⟩ := sdN_lt hE hn (k + 1)
        have hp : 2 ^ n ≤ 2 ^ 9 := Nat.pow_le_pow_right (by omega) hn9
        have hs : Sup (sdN E k) (sdN E (k + 1)) := sdE_sup E _
        have m1 := card_mono hs.1
        have m2 := card_mono hs.2
        by_cases h1 : (sdN E k).1 = (sdN E (k + 1)).1
        · have h2 : (sdN E k).2 ≠ (sdN E (k + 1)).2 := fun h2 => he (Prod.ext h1 h2).symm
          have := card_lt (Nat.lt_of_lt_of_le l2 hp) hs.2 h2
          omega
        · have := card_lt (Nat.lt_of_lt_of_le l1 hp) hs.1 h1
          omega
theorem countP_disj {α : Type} {p q : α → Bool} : ∀ l : List α, (∀ x ∈ l, ¬(p x = true ∧ q x = true)) → l.countP p + l.countP q = l.countP fun x => p x || q x
  | [], _ => rfl
  | a :: l, h => by
    have ih := countP_disj l fun x hx => h x (List.mem_cons_of_mem _ hx)
    have ha := h a (List.mem_cons_self ..)
    rw [List.countP_cons, List.countP_cons, List.countP_cons]
    cases hp : p a <;> cases hq : q a <;> simp [hp, hq] at ha ⊢ <;> omega
theorem card_disj {n a b : Nat} (hn : n ≤ 9) (ha : a < 2 ^ n) (hb : b < 2 ^ n) (h : a &&& b = 0) : card a + card b ≤ n := by
  have e : card a + card b = card (a ||| b) := by
    unfold card
    rw [countP_disj]
    · congr 1; funext i; rw [Nat.testBit_or]
    · rintro x _ ⟨h1, h2⟩
      have : (a &&& b).testBit x = true := by rw [Nat.testBit_and, h1, h2]; rfl
      rw [h] at this; simp at this
  rw [e]
  exact card_n hn (Nat.or_lt_two_pow ha hb)
/-- as long as the sides are apart, n rounds are enough -/
theorem sdN_end {n : Nat} {E : Es} (hE : Lt E n) (hn : 0 < n) (hn9 : n ≤ 9) (h : (sdN E n).1 &&& (sdN E n).2 = 0) : sdE E (sdN E n) = sdN E n := by
  rcases sdN_card hE hn hn9 n with h1 | h1
  · exact h1
  · obtain ⟨l1, l2⟩ := sdN_lt hE hn n
    have := card_disj hn9 l1 l2 h
    omega
/-- what the program's closure keeps -/
def InvS (E : Es) (s : Nat) : Prop := s.testBit 0 = true ∧ ∀ A B : Nat → Prop, A 0 → (∀ a b, Adj E a b → (A a → B b) ∧ (B a → A b)) → ∀ i, s.testBit i = true → A i
theorem InvS.start (E : Es) : InvS E 1 := ⟨by decide, fun A B h0 _ i hi => by
  have : (1 : Nat).testBit i = decide (0 = i) := by rw [← bit_pow]
  rw [this] at hi
  have := of_decide_eq_true hi
  subst this; exact h0⟩
theorem InvS.step {E : Es} {s : Nat} (h : InvS E s) : InvS E (s ||| near E (near E s)) := by
  refine ⟨by rw [Nat.testBit_or, h.1]; rfl, fun A B h0 hc i hi => ?_⟩
  rw [Nat.testBit_or, Bool.or_eq_true] at hi
  rcases hi with hi | hi
  · exact h.2 A B h0 hc i hi
  · obtain ⟨p, _, hp, ha⟩ := (near_bit E _ i).1 hi
    obtain ⟨q, _, hq, hb⟩ := (near_bit E _ p).1 hp
    exact (hc p i ha).2 ((hc q p hb).1 (h.2 A B h0 hc q hq))
theorem adj_closed {E : Es} {A B : Nat → Prop} (h : ∀ e ∈ E, ClosedE A B e) : ∀ a b, Adj E a b → (A a → B b) ∧ (B a → A b) := by
  intro a b hab
  rcases hab with he | he
  · exact ⟨(h _ he).1, (h _ he).2.2.1⟩
  · exact ⟨(h _ he).2.1, (h _ he).2.2.2⟩
theorem sides_same {n : Nat} {E : Es} (hE : Lt E n) (hn : 0 < n) (hn9 : n ≤ 9) {t : Nat} (hi : InvS E t) (hf : t ||| near E (near E t) = t) :
    (t &&& near E t = 0 ↔ (sdN E n).1 &&& (sdN E n).2 = 0) ∧ ((sdN E n).1 &&& (sdN E n).2 = 0 → t = (sdN E n).1) := by
  have hE9 : ∀ a b, Adj E a b → a < 9 := fun a b h => by have := (hE.adj h).1; omega
  have hnn : ∀ i, (near E (near E t)).testBit i = true → t.testBit i = true := by
    intro i hi2
    rw [← hf, Nat.testBit_or, hi2]; simp
  -- the pair of t and its neighbours is closed
  have hc : ∀ e ∈ E, ClosedE (fun i => t.testBit i = true) (fun i => (near E t).testBit i = true) e := by
    intro e he
    have h1 : Adj E e.1 e.2 := .inl he
    have h2 := h1.symm
    exact ⟨fun h => (near_bit E t _).2 ⟨_, hE9 _ _ h1, h, h1⟩, fun h => (near_bit E t _).2 ⟨_, hE9 _ _ h2, h, h2⟩,
      fun h => hnn _ ((near_bit E _ _).2 ⟨_, hE9 _ _ h1, h, h1⟩), fun h => hnn _ ((near_bit E _ _).2 ⟨_, hE9 _ _ h2, h, h2⟩)⟩
  have hin := sdN_in hi.1 hc n
  have zero_of : ∀ a b : Nat, (∀ i, ¬(a.testBit i = true ∧ b.testBit i = true)) → a &&& b = 0 := by
    intro a b h
    refine Nat.eq_of_testBit_eq fun i => ?_
    rw [Nat.testBit_and, Nat.zero_testBit]
    cases ha : a.testBit i <;> cases hb : b.testBit i <;> simp
    exact h i ⟨ha, hb⟩
  have of_zero : ∀ a b : Nat, a &&& b = 0 → ∀ i, ¬(a.testBit i = true ∧ b.testBit i = true) := by
    rintro a b h i ⟨h1, h2⟩
    have : (a &&& b).testBit i = true := by rw [Nat.testBit_and, h1, h2]; rfl
    rw [h] at this; simp at this
  have hend : (sdN E n).1 &&& (sdN E n).2 = 0 → t = (sdN E n).1 ∧ ∀ i, (near E t).testBit i = true → (sdN E n).2.testBit i = true := by
    intro h
    have hfix := sdE_fix E (sdN_end hE hn hn9 h)
    have hcl := adj_closed fun e he => closed_of_fix (hfix e he)
    have h0 : (sdN E n).1.testBit 0 = true := by
      have : ∀ k, (sdN E k).1.testBit 0 = true := by
        intro k
        induction k with
        | zero => show (1 : Nat).testBit 0 = true; decide
        | succ k ih => exact (sdE_sup E (sdN E k)).1 0 ih
      exact this n
    have hsub := hi.2 _ _ h0 hcl
    have heq : t = (sdN E n).1 := by
      refine Nat.eq_of_testBit_eq fun i => ?_
      cases ht : t.testBit i with
      | true => exact (hsub i ht).symm
      | false => cases hs : (sdN E n).1.testBit i with
        | false => rfl
        | true => rw [hin.1 i hs] at ht; cases ht
    refine ⟨heq, fun i hi2 => ?_⟩
    obtain ⟨p, _, hp, ha⟩ := (near_bit E t i).1 hi2
    exact (hcl p i ha).1 (hsub p hp)
  refine ⟨⟨fun h => zero_of _ _ fun i ⟨h1, h2⟩ => of_zero _ _ h i ⟨hin.1 i h1, hin.2 i h2⟩, fun h => zero_of _ _ fun i ⟨h1, h2⟩ => ?_⟩, fun h => (hend h).1⟩
  obtain ⟨heq, hnr⟩ := hend h
  exact of_zero _ _ h i ⟨by rw [← heq]; exact h1, hnr i h2⟩
end Go.Proofs.YtllhejjcmfiebaaDoor
