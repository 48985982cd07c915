/- Sets of places as bits, and what is connected: pure. -/
import Derived.Test.YtllhejjcmfiebaaDoorWords
set_option linter.unusedVariables false
set_option linter.unusedSimpArgs false
set_option linter.unnecessarySimpa false
namespace Go.Proofs.YtllhejjcmfiebaaDoor
abbrev Es := List (Nat × Nat)
def Adj (E : Es) (a b : Nat) : Prop := (a, b) ∈ E ∨ (b, a) ∈ E
theorem Adj.symm {E : Es} {a b : Nat} (h : Adj E a b) : Adj E b a := h.elim .inr .inl
def Lt (E : Es) (n : Nat) : Prop := ∀ e ∈ E, e.1 < n ∧ e.2 < n
theorem Lt.adj {E : Es} {n a b : Nat} (h : Lt E n) (ha : Adj E a b) : a < n ∧ b < n := by
 rcases ha with ha | ha
 ·exact h _ ha
 ·exact (h _ ha).symm
def nbS (i s : Nat) (e : Nat × Nat) : Nat := (s ||| (if i = e.1 then 2 ^ e.2 else 0)) ||| (if i = e.2 then 2 ^ e.1 else 0)
def nb (E : Es) (i : Nat) : Nat := E.foldl (nbS i) 0
theorem nb_snoc (E : Es) (e : Nat × Nat) (i : Nat) : nb (E ++ [e]) i = nbS i (nb E i) e := by simp [nb]
theorem bit_pow (a j : Nat) : (2 ^ a).testBit j = decide (a = j) := Nat.testBit_two_pow
theorem nbS_bit (i s : Nat) (e : Nat × Nat) (j : Nat) : (nbS i s e).testBit j = (s.testBit j || decide (i = e.1 ∧ e.2 = j) || decide (i = e.2 ∧ e.1 = j)) := by
 unfold nbS
 have hif : ∀ (c : Prop) [Decidable c] (k : Nat), (if c then 2 ^ k else 0).testBit j = decide (c ∧ k = j) := fun c _ k => by
  by_cases hc : c
  ·rw [if_pos hc, bit_pow]; simp [hc]
  ·rw [if_neg hc]; simp [hc]
 rw [Nat.testBit_or, Nat.testBit_or, hif, hif]
theorem nb_bit (E : Es) (i j : Nat) : (nb E i).testBit j = true ↔ Adj E i j := by
 suffices h : ∀ (E : Es) (s : Nat), (E.foldl (nbS i) s).testBit j = true ↔ s.testBit j = true ∨ Adj E i j by
  have := h E 0; simpa [nb] using this
 intro E
 induction E with
 | nil => intro s; simp [Adj]
 | cons e E ih =>
  intro s
  rw [List.foldl_cons, ih, nbS_bit]
  obtain ⟨x, y⟩ := e
  simp only [Bool.or_eq_true, decide_eq_true_eq, Adj, List.mem_cons, Prod.mk.injEq]
  constructor
  ·rintro (((h | ⟨rfl, rfl⟩) | ⟨rfl, rfl⟩) | h)
   ·exact .inl h
   ·exact .inr (.inl (.inl ⟨rfl, rfl⟩))
   ·exact .inr (.inr (.inl ⟨rfl, rfl⟩))
   ·rcases h with h | h
    ·exact .inr (.inl (.inr h))
    ·exact .inr (.inr (.inr h))
  ·rintro (h | (⟨rfl, rfl⟩ | h) | (⟨rfl, rfl⟩ | h))
   ·exact .inl (.inl (.inl h))
   ·exact .inl (.inl (.inr ⟨rfl, rfl⟩))
   ·exact .inr (.inl h)
   ·exact .inl (.inr ⟨rfl, rfl⟩)
   ·exact .inr (.inr h)
theorem lt_of_bits {s n : Nat} (h : ∀ i, s.testBit i = true → i < n) : s < 2 ^ n := by
 refine Nat.lt_pow_two_of_testBit _ fun i hi => ?_
 cases hb : s.testBit i with
 | false => rfl
 | true => have := h i hb; omega
theorem bit_lt {s n i : Nat} (hs : s < 2 ^ n) (h : s.testBit i = true) : i < n := by
 refine Nat.lt_of_not_le fun hle => ?_
 have : s < 2 ^ i := Nat.lt_of_lt_of_le hs (Nat.pow_le_pow_right (by omega) hle)
 rw [Nat.testBit_lt_two_pow this] at h
 cases h
theorem nb_lt {E : Es} {n : Nat} (h : Lt E n) (i : Nat) : nb E i < 2 ^ n := lt_of_bits fun j hj => (h.adj ((nb_bit E i j).1 hj)).2
def pls (s : Nat) : List Nat := (List.range 9).filter fun i => s.testBit i
theorem mem_pls {s i : Nat} : i ∈ pls s ↔ i < 9 ∧ s.testBit i = true := by simp [pls]
def nearOf (E : Es) (l : List Nat) : Nat := l.foldl (fun o p => o ||| nb E p) 0
theorem nearOf_snoc (E : Es) (l : List Nat) (p : Nat) : nearOf E (l ++ [p]) = nearOf E l ||| nb E p := by simp [nearOf]
theorem nearOf_bit (E : Es) (l : List Nat) (j : Nat) : (nearOf E l).testBit j = true ↔ ∃ p ∈ l, Adj E p j := by
 suffices h : ∀ (l : List Nat) (s : Nat), (l.foldl (fun o p => o ||| nb E p) s).testBit j = true ↔ s.testBit j = true ∨ ∃ p ∈ l, Adj E p j by
  have := h l 0; simpa [nearOf] using this
 intro l
 induction l with
 | nil => intro s; simp
 | cons p l ih =>
  intro s
  rw [List.foldl_cons, ih, Nat.testBit_or, Bool.or_eq_true, nb_bit]
  simp only [List.mem_cons]
  constructor
  ·rintro ((h | h) | ⟨q, hq, h⟩)
   ·exact .inl h
   ·exact .inr ⟨p, .inl rfl, h⟩
   ·exact .inr ⟨q, .inr hq, h⟩
  ·rintro (h | ⟨q, rfl | hq, h⟩)
   ·exact .inl (.inl h)
   ·exact .inl (.inr h)
   ·exact .inr ⟨q, hq, h⟩
def near (E : Es) (s : Nat) : Nat := nearOf E (pls s)
theorem near_bit (E : Es) (s j : Nat) : (near E s).testBit j = true ↔ ∃ p, p < 9 ∧ s.testBit p = true ∧ Adj E p j := by
 unfold near
 rw [nearOf_bit]
 constructor
 ·rintro ⟨p, hp, h⟩; exact ⟨p, (mem_pls.1 hp).1, (mem_pls.1 hp).2, h⟩
 ·rintro ⟨p, h1, h2, h⟩; exact ⟨p, mem_pls.2 ⟨h1, h2⟩, h⟩
theorem nearOf_lt {E : Es} {n : Nat} (h : Lt E n) (l : List Nat) : nearOf E l < 2 ^ n := lt_of_bits fun j hj => by
 obtain ⟨p, _, ha⟩ := (nearOf_bit E l j).1 hj
 exact (h.adj ha).2
theorem near_lt {E : Es} {n : Nat} (h : Lt E n) (s : Nat) : near E s < 2 ^ n := nearOf_lt h _
def card (s : Nat) : Nat := (List.range 9).countP fun i => s.testBit i
theorem countP_lt {α : Type} {p q : α → Bool} : ∀ (l : List α), (∀ x ∈ l, p x = true → q x = true) → (∃ x ∈ l, q x = true ∧ p x = false) → l.countP p < l.countP q
 | [], _, h => by obtain ⟨x, h, _⟩ := h; cases h
 | a :: l, h1, h2 => by
  have hle : l.countP p ≤ l.countP q := List.countP_mono_left fun x hx hp => h1 x (List.mem_cons_of_mem _ hx) hp
  rw [List.countP_cons, List.countP_cons]
  obtain ⟨x, hx, hq, hp⟩ := h2
  rcases List.mem_cons.1 hx with rfl | hx
  ·rw [hq, hp]; simp; omega
  ·have ih := countP_lt l (fun y hy => h1 y (List.mem_cons_of_mem _ hy)) ⟨x, hx, hq, hp⟩
   have ha := h1 a (List.mem_cons_self ..)
   cases hpa : p a
   ·cases hqa : q a <;> simp <;> omega
   ·rw [ha hpa]; simp; omega
theorem card_le (s : Nat) : card s ≤ 9 := by
 unfold card
 have := List.countP_le_length (p := fun i => s.testBit i) (l := List.range 9)
 simpa using this
theorem card_lt {s t : Nat} (ht : t < 2 ^ 9) (hsub : ∀ i, s.testBit i = true → t.testBit i = true) (hne : s ≠ t) : card s < card t := by
 refine countP_lt _ (fun i _ h => hsub i h) ?_
 obtain ⟨i, hi⟩ := Nat.exists_testBit_ne_of_ne hne
 have h1 : t.testBit i = true ∧ s.testBit i = false := by
  cases hs : s.testBit i with
  | false => cases htb : t.testBit i with
   | false => rw [hs, htb] at hi; exact absurd rfl hi
   | true => exact ⟨rfl, rfl⟩
  | true => rw [hs, hsub i hs] at hi; exact absurd rfl hi
 exact ⟨i, List.mem_range.2 (bit_lt ht h1.1), h1.1, h1.2⟩
structure Least (E : Es) (P : Nat → Prop) (first s : Nat) : Prop where
 has : s.testBit first = true
 sub : ∀ i, s.testBit i = true → P i
 closed : ∀ a b, Adj E a b → P a → P b → s.testBit a = true → s.testBit b = true
 least : ∀ T : Nat → Prop, T first → (∀ a b, Adj E a b → P a → P b → T a → T b) → ∀ i, s.testBit i = true → T i
theorem Least.uniq {E : Es} {P : Nat → Prop} {first s t : Nat} (h : Least E P first s) (k : Least E P first t) : s = t := by
 refine Nat.eq_of_testBit_eq fun i => ?_
 rw [Bool.eq_iff_iff]
 exact ⟨h.least (fun i => t.testBit i = true) k.has k.closed i, k.least (fun i => s.testBit i = true) h.has h.closed i⟩
def okb (but : Int) (e : Nat × Nat) : Bool := decide ((e.1 : Int) ≠ but) && decide ((e.2 : Int) ≠ but)
def seeS (but : Int) (S : Nat) (e : Nat × Nat) : Nat := if okb but e && (S.testBit e.1 || S.testBit e.2) then (S ||| 2 ^ e.1) ||| 2 ^ e.2 else S
def rnd (but : Int) (E : Es) (S : Nat) : Nat := E.foldl (seeS but) S
def rnds (but : Int) (E : Es) : Nat → Nat → Nat
 | 0, S => S
 | k + 1, S => rnd but E (rnds but E k S)
def firstOf (but : Int) : Nat := if but = 0 then 1 else 0
def allSeen (n : Nat) (but : Int) (S : Nat) : Bool := (List.range n).all fun i => decide ((i : Int) = but) || S.testBit i
def joinedP (n : Nat) (E : Es) (but : Int) : Bool := if n ≤ firstOf but then true else allSeen n but (rnds but E n (2 ^ firstOf but))
theorem seeS_sup (but : Int) (S : Nat) (e : Nat × Nat) (i : Nat) (h : S.testBit i = true) : (seeS but S e).testBit i = true := by
 unfold seeS; split
 ·rw [Nat.testBit_or, Nat.testBit_or, h]; rfl
 ·exact h
theorem rnd_sup (but : Int) : ∀ (E : Es) (S : Nat) (i : Nat), S.testBit i = true → (rnd but E S).testBit i = true
 | [], S, i, h => h
 | e :: E, S, i, h => rnd_sup but E _ i (seeS_sup but S e i h)
theorem seeS_least {but : Int} {T : Nat → Prop} {S : Nat} {e : Nat × Nat} (hS : ∀ i, S.testBit i = true → T i) (hc : (e.1 : Int) ≠ but → (e.2 : Int) ≠ but → (T e.1 ↔ T e.2)) : ∀ i, (seeS but S e).testBit i = true → T i := by
 intro i hi
 unfold seeS at hi
 split at hi
 ·rename_i h
  simp only [okb, Bool.and_eq_true, decide_eq_true_eq, Bool.or_eq_true] at h
  obtain ⟨⟨h1, h2⟩, h3⟩ := h
  have hab : T e.1 ∧ T e.2 := by
   rcases h3 with h3 | h3
   ·exact ⟨hS _ h3, (hc h1 h2).1 (hS _ h3)⟩
   ·exact ⟨(hc h1 h2).2 (hS _ h3), hS _ h3⟩
  rw [Nat.testBit_or, Nat.testBit_or, bit_pow, bit_pow] at hi
  simp only [Bool.or_eq_true, decide_eq_true_eq] at hi
  rcases hi with (hi | rfl) | rfl
  ·exact hS _ hi
  ·exact hab.1
  ·exact hab.2
 ·exact hS _ hi
theorem rnd_least {but : Int} {T : Nat → Prop} : ∀ (E : Es) {S : Nat}, (∀ i, S.testBit i = true → T i) → (∀ e ∈ E, (e.1 : Int) ≠ but → (e.2 : Int) ≠ but → (T e.1 ↔ T e.2)) → ∀ i, (rnd but E S).testBit i = true → T i
 | [], S, hS, _ => hS
 | e :: E, S, hS, hc => rnd_least E (seeS_least hS (hc e (List.mem_cons_self ..))) fun x hx => hc x (List.mem_cons_of_mem _ hx)
theorem rnd_fix {but : Int} : ∀ (E : Es) {S : Nat}, rnd but E S = S → ∀ e ∈ E, (e.1 : Int) ≠ but → (e.2 : Int) ≠ but → (S.testBit e.1 = true ↔ S.testBit e.2 = true)
 | [], S, _ => fun e he => by cases he
 | x :: E, S, h => by
  have h1 : seeS but S x = S := by
   refine Nat.eq_of_testBit_eq fun i => ?_
   rw [Bool.eq_iff_iff]
   refine ⟨fun hi => ?_, seeS_sup but S x i⟩
   have := rnd_sup but E _ i hi
   have h' : rnd but E (seeS but S x) = S := h
   rw [h'] at this
   exact this
  have h2 : rnd but E S = S := by have h' : rnd but E (seeS but S x) = S := h; rw [h1] at h'; exact h'
  intro e he g1 g2
  rcases List.mem_cons.1 he with rfl | he
  ·unfold seeS at h1
   have hok : okb but e = true := by simp [okb, g1, g2]
   rw [hok, Bool.true_and] at h1
   constructor
   ·intro ha
    rw [ha, Bool.true_or, if_pos rfl] at h1
    rw [← h1, Nat.testBit_or, bit_pow]; simp
   ·intro hb
    rw [hb, Bool.or_true, if_pos rfl] at h1
    rw [← h1, Nat.testBit_or, Nat.testBit_or, bit_pow]; simp
  ·exact rnd_fix E h2 e he g1 g2
theorem rnd_lt {but : Int} {n : Nat} {E : Es} (hE : Lt E n) {S : Nat} (hS : S < 2 ^ n) : rnd but E S < 2 ^ n :=
 lt_of_bits (rnd_least (T := fun i => i < n) E (fun i hi => bit_lt hS hi) fun e he _ _ => ⟨fun _ => (hE e he).2, fun _ => (hE e he).1⟩)
theorem rnds_lt {but : Int} {n : Nat} {E : Es} (hE : Lt E n) {S : Nat} (hS : S < 2 ^ n) : ∀ k, rnds but E k S < 2 ^ n
 | 0 => hS
 | k + 1 => rnd_lt hE (rnds_lt hE hS k)
theorem rnds_least {but : Int} {T : Nat → Prop} {E : Es} {S : Nat} (hS : ∀ i, S.testBit i = true → T i) (hc : ∀ e ∈ E, (e.1 : Int) ≠ but → (e.2 : Int) ≠ but → (T e.1 ↔ T e.2)) : ∀ k i, (rnds but E k S).testBit i = true → T i
 | 0 => hS
 | k + 1 => rnd_least E (rnds_least hS hc k) hc
theorem rnds_sup (but : Int) (E : Es) (S : Nat) (i : Nat) (h : S.testBit i = true) : ∀ k, (rnds but E k S).testBit i = true
 | 0 => h
 | k + 1 => rnd_sup but E _ i (rnds_sup but E S i h k)
theorem rnds_card {but : Int} {n : Nat} {E : Es} (hE : Lt E n) (hn : n ≤ 9) {S : Nat} (hS : S < 2 ^ n) (h1 : 1 ≤ card S) : ∀ k, rnd but E (rnds but E k S) = rnds but E k S ∨ k + 1 ≤ card (rnds but E k S)
 | 0 => .inr (by simpa [rnds] using h1)
 | k + 1 => by
  rcases rnds_card hE hn hS h1 k with h | h
  ·left
   have : rnds but E (k + 1) S = rnds but E k S := h
   rw [this]; exact h
  ·by_cases he : rnd but E (rnds but E k S) = rnds but E k S
   ·left
    have : rnds but E (k + 1) S = rnds but E k S := he
    rw [this]; exact he
   ·right
    have hlt : rnds but E (k + 1) S < 2 ^ 9 := Nat.lt_of_lt_of_le (rnds_lt hE hS (k + 1)) (Nat.pow_le_pow_right (by omega) hn)
    have := card_lt (s := rnds but E k S) (t := rnds but E (k + 1) S) hlt (fun i hi => rnd_sup but E _ i hi) (fun hc => he hc.symm)
    omega
theorem card_n {n s : Nat} (hn : n ≤ 9) (hs : s < 2 ^ n) : card s ≤ n := by
 have h1 : card s ≤ (List.range 9).countP fun i => decide (i < n) := List.countP_mono_left fun i _ h => by simpa using bit_lt hs h
 have h2 : ((List.range 10).all fun n => decide (((List.range 9).countP fun i => decide (i < n)) ≤ n)) = true := by decide
 have h3 := List.all_eq_true.1 h2 n (List.mem_range.2 (by omega))
 have h4 := of_decide_eq_true h3
 omega
theorem rnds_is {n : Nat} {E : Es} (hE : Lt E n) (hn : n ≤ 9) (but : Int) (hf : firstOf but < n) (hfb : (firstOf but : Int) ≠ but) :
  Least E (fun i => i < n ∧ (i : Int) ≠ but) (firstOf but) (rnds but E n (2 ^ firstOf but)) := by
 have hS : 2 ^ firstOf but < 2 ^ n := Nat.pow_lt_pow_right (by omega) hf
 have h1 : 1 ≤ card (2 ^ firstOf but) := by
  have : 0 < card (2 ^ firstOf but) := List.countP_pos_iff.2 ⟨firstOf but, List.mem_range.2 (by omega), by rw [bit_pow]; simp⟩
  omega
 have hfix : rnd but E (rnds but E n (2 ^ firstOf but)) = rnds but E n (2 ^ firstOf but) := by
  rcases rnds_card (but := but) hE hn hS h1 n with h | h
  ·exact h
  ·have := card_n hn (rnds_lt (but := but) hE hS n); omega
 have hb0 : ∀ {T : Nat → Prop}, T (firstOf but) → ∀ i, (2 ^ firstOf but).testBit i = true → T i := fun hT i hi => by
  rw [bit_pow] at hi
  have := of_decide_eq_true hi
  rw [← this]; exact hT
 refine ⟨rnds_sup but E _ _ (by rw [bit_pow]; simp) n, ?_, ?_, ?_⟩
 ·intro i hi
  have h2 := rnds_least (but := but) (E := E) (T := fun i => i < n ∧ (i : Int) ≠ but) (hb0 ⟨hf, hfb⟩) (fun e he g1 g2 => ⟨fun _ => ⟨(hE e he).2, g2⟩, fun _ => ⟨(hE e he).1, g1⟩⟩) n i hi
  exact h2
 ·intro a b hab ha hb hs
  have hfx := rnd_fix E hfix
  rcases hab with h | h
  ·exact (hfx _ h ha.2 hb.2).1 hs
  ·exact (hfx _ h hb.2 ha.2).2 hs
 ·intro T hT hc i hi
  exact rnds_least (hb0 hT) (fun e he g1 g2 => ⟨hc _ _ (.inl he) ⟨(hE e he).1, g1⟩ ⟨(hE e he).2, g2⟩, hc _ _ (.inr he) ⟨(hE e he).2, g2⟩ ⟨(hE e he).1, g1⟩⟩) n i hi
end Go.Proofs.YtllhejjcmfiebaaDoor
