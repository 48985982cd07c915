/- Less. -/
import Derived.Test.YthglgagkhnfnpaaGreatC1
set_option linter.unusedVariables false
set_option linter.unusedSimpArgs false
set_option linter.unnecessarySimpa false
namespace Go.Proofs.YthglgagkhnfnpaaGreat
open Go.RowKit

/-- an edge; one before another one -/
structure Ed where
  f : Int
  l : Nat
  o : ByteArray
  t : Int
structure Ed.ok (e : Ed) : Prop where
  f0 : -9223372036854775808 ≤ e.f
  f1 : e.f ≤ 9223372036854775807
  t0 : -9223372036854775808 ≤ e.t
  t1 : e.t ≤ 9223372036854775807
  l : e.l < 256
  o : e.o.size ≤ 5
def Ed.cells (e : Ed) : List Value := [.int .i64 e.f, .int .u8 e.l, .string e.o, .int .i64 e.t]
def Ed.val (e : Ed) : Value := .agg #[.int .i64 e.f, .int .u8 e.l, .string e.o, .int .i64 e.t]
def lessE (e g : Ed) : Bool := if e.f ≠ g.f then decide (e.f < g.f) else if e.l ≠ g.l then decide (e.l < g.l) else if e.t ≠ g.t then decide (e.t < g.t) else Op.bytesLess e.o.toList g.o.toList

set_option maxHeartbeats 400000 in
theorem less_any (e g : Ed) (w : World) :
    Calls Tryz.prog 18 #[e.val, g.val] w fun r w' => r = .returned (.bool (lessE e g)) ∧ Below w.heap.size w w' := by
  obtain ⟨f, l, o, t⟩ := e
  obtain ⟨f', l', o', t'⟩ := g
  unfold Ed.val
  by_cases h1 : f = f'
  · subst h1
    by_cases h2 : l = l'
    · subst h2
      by_cases h3 : t = t'
      · subst h3
        have HN : Hid (lessE ⟨f, l, o, t⟩ ⟨f, l, o', t⟩ = Op.bytesLess o.toList o'.toList) := by show _ = _; simp [lessE]
        go_enter Tryz.func18, Tryz.ntmps18
        go_wp2
        go_ret
        exact ⟨by rw [HN.out]; rfl, ((Below.refl _ _).alloc (Nat.le_refl _) _).alloc (by simp) _⟩
      · have HN : Hid (lessE ⟨f, l, o, t⟩ ⟨f, l, o', t'⟩ = decide (t < t')) := by show _ = _; simp [lessE, h3]
        have hb1 : (t == t') = false := by rw [beq_eq_false_iff_ne]; omega
        have hb2 : (t != t') = true := by rw [bne_iff_ne]; omega
        clear h3
        go_enter Tryz.func18, Tryz.ntmps18
        go_wp2
        go_ret
        exact ⟨by rw [HN.out]; rfl, ((Below.refl _ _).alloc (Nat.le_refl _) _).alloc (by simp) _⟩
    · have HN : Hid (lessE ⟨f, l, o, t⟩ ⟨f, l', o', t'⟩ = decide (l < l')) := by show _ = _; simp [lessE, h2]
      have hb1 : ((l : Int) == l') = false := by rw [beq_eq_false_iff_ne]; omega
      have hb2 : ((l : Int) != l') = true := by rw [bne_iff_ne]; omega
      clear h2
      go_enter Tryz.func18, Tryz.ntmps18
      go_wp2
      go_ret
      exact ⟨by rw [HN.out]; rfl, ((Below.refl _ _).alloc (Nat.le_refl _) _).alloc (by simp) _⟩
  · have HN : Hid (lessE ⟨f, l, o, t⟩ ⟨f', l', o', t'⟩ = decide (f < f')) := by show _ = _; simp [lessE, h1]
    have hb1 : (f == f') = false := by rw [beq_eq_false_iff_ne]; omega
    have hb2 : (f != f') = true := by rw [bne_iff_ne]; omega
    clear h1
    go_enter Tryz.func18, Tryz.ntmps18
    go_wp2
    go_ret
    exact ⟨by rw [HN.out]; rfl, ((Below.refl _ _).alloc (Nat.le_refl _) _).alloc (by simp) _⟩
end Go.Proofs.YthglgagkhnfnpaaGreat
