/- The sides of a board: pure. -/
import Derived.Test.YtllhejjcmfiebaaDoorS7
import Derived.Test.YtllhejjcmfiebaaDoorS11
set_option linter.unusedVariables false
set_option linter.unusedSimpArgs false
set_option linter.unnecessarySimpa false
namespace Go.Proofs.YtllhejjcmfiebaaDoor
open Go.RowKit
def Sup (S T : Nat × Nat) : Prop := (∀ i, S.1.testBit i = true → T.1.testBit i = true) ∧ (∀ i, S.2.testBit i = true → T.2.testBit i = true)
theorem Sup.trans {S T U : Nat × Nat} (h : Sup S T) (k : Sup T U) : Sup S U := ⟨fun i hi => k.1 i (h.1 i hi), fun i hi => k.2 i (h.2 i hi)⟩
def InvS (E : Es) (s : Nat) : Prop := s.testBit 0 = true ∧ ∀ A B : Nat → Prop, A 0 → (∀ a b, Adj E a b → (A a → B b) ∧ (B a → A b)) → ∀ i, s.testBit i = true → A i
theorem InvS.start (E : Es) : InvS E 1 := ⟨by decide, fun A B h0 _ i hi => by
 have : (1 : Nat).testBit i = decide (0 = i) := by rw [← bit_pow]
 rw [this] at hi
 have := of_decide_eq_true hi
 subst this; exact h0⟩
theorem InvS.step {E : Es} {s : Nat} (h : InvS E s) : InvS E (s ||| near E (near E s)) := by
 refine ⟨by rw [Nat.testBit_or, h.1]; rfl, fun A B h0 hc i hi => ?_⟩
 rw [Nat.testBit_or, Bool.or_eq_true] at hi
 rcases hi with hi | hi
 ·exact h.2 A B h0 hc i hi
 ·obtain ⟨p, _, hp, ha⟩ := (near_bit E _ i).1 hi
  obtain ⟨q, _, hq, hb⟩ := (near_bit E _ p).1 hp
  exact (hc p i ha).2 ((hc q p hb).1 (h.2 A B h0 hc q hq))
end Go.Proofs.YtllhejjcmfiebaaDoor
namespace Go.Proofs.YtllhejjcmfiebaaDoor
open Go.RowKit Go.Shelf
end Go.Proofs.YtllhejjcmfiebaaDoor
