/- A region that draws: what only reads, walked once, ahead of a tail. -/
import Derived.Test.YthglgagkhnfnpaaGreatE1
set_option linter.unusedVariables false
set_option linter.unusedSimpArgs false
set_option linter.unnecessarySimpa false
namespace Go.Proofs.YthglgagkhnfnpaaGreat
open Go.RowKit

theorem still_of_quiet {P : Program} {ops : Array Oper} {w : World} {Q : Act → Prop} : ∀ (l : List Oper) (a : Act), wpQuiet P ops (fun x => x = w) Q l a → wpStill P ops w Q l a
  | [], _, h => h
  | o :: rest, a, h => by
    unfold wpQuiet at h
    unfold wpStill
    split
    · rename_i hw
      rw [if_pos hw] at h
      obtain ⟨v, hv, hk⟩ := h
      have hq := hv w rfl
      unfold Oper.still
      unfold Oper.quietAt at hq
      have hk' := still_of_quiet rest _ hk
      generalize (execOp a.eval o).run P w = r at hq ⊢
      match r, hq with
      | .ok (.value u) w', hq => obtain ⟨h1, h2⟩ := hq; subst h2; exact ⟨h1, hk'⟩
      | .ok .skip w', hq => obtain ⟨h1, h2⟩ := hq; subst h2; exact ⟨h1, hk'⟩
      | .ok (.enter f args) w', hq => exact ⟨hq.1, v, hq.2, hk'⟩
    · rename_i hw
      rw [if_neg hw] at h
      exact still_of_quiet rest _ h
theorem wp_region_quiet_tail {P : Program} {id : Nat} {Q : Exit → Act → World → Prop} {a : Act} {w : World} {l : List Oper} (n : Nat) (hm : P.follows .mixedOrders = true) (hB : Region.lexTailB .any l.toArray n = true)
    (h : ∀ W, W = w.drew → wpQuiet P l.toArray (fun x => x = W) (fun a' => wpList P l.toArray Q (l.drop n) a' W) (l.take n) a) : (Code.region id l.toArray true).wp P Q a w :=
  wp_region_still_tail n hm hB (still_of_quiet _ _ (h _ rfl))
/-- the worlds in which all that there was is as it was -/
structure Kin (W : World) where
  val : World
  below : Below W.heap.size W val
instance (W : World) : Nonempty (Kin W) := ⟨⟨W, Below.refl _ _⟩⟩
theorem kin_cell {W : World} {b o : Nat} {v : Value} (h : W.cell? ⟨b, o, none⟩ = some v) (hb : b < W.heap.size) (z : Kin W) : z.1.cell? ⟨b, o, none⟩ = some v :=
  (z.2.cell (p := ⟨b, o, none⟩) hb).trans h
theorem kin_call {P : Program} {f : FuncId} {args : Array Value} {v : Value} {W : World} (h : ∀ w, Calls P f args w fun e w' => e = .returned v ∧ Below w.heap.size w w') (z : Kin W) :
    Calls P f args z.1 fun e w' => e = .returned v ∧ ∃ z : Kin W, w' = z.1 :=
  (h z.1).mono fun _ w' h => ⟨h.1, ⟨w', z.2.trans (h.2.mono z.2.size)⟩, rfl⟩
theorem kin_still {P : Program} {f : FuncId} {args : Array Value} {v : Value} {W : World} (h : ∀ w, Calls P f args w fun e w' => e = .returned v ∧ w = w') (z : Kin W) :
    Calls P f args z.1 fun e w' => e = .returned v ∧ ∃ z : Kin W, w' = z.1 :=
  (h z.1).mono fun _ w' h => ⟨h.1, z, h.2.symm⟩
/-- A region that draws, and whose operations read, or make memory by calls. -/
theorem wp_region_kin {P : Program} {id : Nat} {Q : Exit → Act → World → Prop} {a : Act} {w : World} {l : List Oper} (hm : P.follows .mixedOrders = true) (hB : Region.lexB .any l.toArray = true)
    (h : ∀ W, W = w.drew → wpQuiet P l.toArray (fun x => ∃ z : Kin W, x = z.1) (fun a' => ∀ z : Kin W, Q .normal a' z.1) l a) : (Code.region id l.toArray true).wp P Q a w := by
  refine wp_region_quiet (C := fun x => ∃ z : Kin w.drew, x = z.1) hm hB ⟨⟨w.drew, Below.refl _ _⟩, rfl⟩ ?_
  have := h w.drew rfl
  simpa using this
end Go.Proofs.YthglgagkhnfnpaaGreat
