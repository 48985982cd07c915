/- compareEdges, isState. -/
import Derived.Test.YthglgagkhnfnpaaGreatC3
set_option linter.unusedVariables false
set_option linter.unusedSimpArgs false
set_option linter.unnecessarySimpa false
namespace Go.Proofs.YthglgagkhnfnpaaGreat
open Go.RowKit

theorem flipC {P : Program} {f : FuncId} {args : Array Value} {w : World} {v : Value} (h : Calls P f args w fun e w' => e = .returned v ∧ w = w') : Calls P f args w fun e w' => e = .returned v ∧ w' = w :=
  h.mono fun _ _ h => ⟨h.1, h.2.symm⟩
/-- the order of edges, as a number -/
def cmpE (e g : Ed) : Int := orP [Lib.compareInt e.f g.f, Lib.compareInt e.l g.l, Lib.compareInt e.t g.t, cmpS e.o g.o]
set_option maxRecDepth 100000 in
set_option maxHeartbeats 1000000 in
theorem compareEdges_any (e g : Ed) (w : World) (he : e.ok) (hg : g.ok) :
    Calls Tryz.prog 35 #[e.val, g.val] w fun r w' => r = .returned (.int .i64 (cmpE e g)) ∧ Below w.heap.size w w' := by
  obtain ⟨f, l, o, t⟩ := e
  obtain ⟨f', l', o', t'⟩ := g
  have hl := he.l
  have hl' := hg.l
  dsimp only at hl hl'
  clear he hg
  unfold Ed.val cmpE
  dsimp only
  obtain ⟨a, ha⟩ : ∃ a, Lib.compareInt f f' = a := ⟨_, rfl⟩
  obtain ⟨b, hb⟩ : ∃ b, Lib.compareInt (l : Int) l' = b := ⟨_, rfl⟩
  obtain ⟨c, hc⟩ : ∃ c, Lib.compareInt t t' = c := ⟨_, rfl⟩
  obtain ⟨d, hd⟩ : ∃ d, cmpS o o' = d := ⟨_, rfl⟩
  rw [ha, hb, hc, hd]
  have HA : Hid (∀ w, Calls Tryz.prog 63 #[.int .i64 f, .int .i64 f'] w fun e w' => e = .returned (.int .i64 a) ∧ w' = w) := fun w => ha ▸ Tryz.cmp_Compare_int f f' w
  have HB : Hid (∀ w, Calls Tryz.prog 64 #[.int .u8 l, .int .u8 l'] w fun e w' => e = .returned (.int .i64 b) ∧ w' = w) := fun w => hb ▸ flipC (compare_byte l l' w hl hl')
  have HC : Hid (∀ w, Calls Tryz.prog 63 #[.int .i64 t, .int .i64 t'] w fun e w' => e = .returned (.int .i64 c) ∧ w' = w) := fun w => hc ▸ Tryz.cmp_Compare_int t t' w
  have HD : Hid (∀ w, Calls Tryz.prog 65 #[.string o, .string o'] w fun e w' => e = .returned (.int .i64 d) ∧ w' = w) := fun w => hd ▸ flipC (compare_string o o' w)
  clear ha hb hc hd hl hl'
  go_enter Tryz.func35, Tryz.ntmps35
  go_wp2
  obtain ⟨W, hW⟩ : ∃ W, (w.alloc (.cells #[.int .i64 f, .int .u8 l, .string o, .int .i64 t] 57)).alloc (.cells #[.int .i64 f', .int .u8 l', .string o', .int .i64 t'] 57) = W := ⟨_, rfl⟩
  have hb : Below w.heap.size w W := hW ▸ ((Below.refl _ _).alloc (Nat.le_refl _) _).alloc (by simp) _
  have r1 : Row 57 W w.heap.size [.int .i64 f, .int .u8 l, .string o, .int .i64 t] := hW ▸ (row_new _ w _).alloc _
  have r2 : Row 57 W (w.heap.size + 1) [.int .i64 f', .int .u8 l', .string o', .int .i64 t'] := by
    have := row_new 57 (w.alloc (.cells #[.int .i64 f, .int .u8 l, .string o, .int .i64 t] 57)) #[.int .i64 f', .int .u8 l', .string o', .int .i64 t']
    rw [hW] at this
    simpa using this
  rw [hW]
  have k0 : W.cell? ⟨w.heap.size, 0, none⟩ = some (.int .i64 f) := r1.cell 0
  have k1 : W.cell? ⟨w.heap.size, 1, none⟩ = some (.int .u8 l) := r1.cell 1
  have k2 : W.cell? ⟨w.heap.size, 2, none⟩ = some (.string o) := r1.cell 2
  have k3 : W.cell? ⟨w.heap.size, 3, none⟩ = some (.int .i64 t) := r1.cell 3
  have k4 : W.cell? ⟨w.heap.size + 1, 0, none⟩ = some (.int .i64 f') := r2.cell 0
  have k5 : W.cell? ⟨w.heap.size + 1, 1, none⟩ = some (.int .u8 l') := r2.cell 1
  have k6 : W.cell? ⟨w.heap.size + 1, 2, none⟩ = some (.string o') := r2.cell 2
  have k7 : W.cell? ⟨w.heap.size + 1, 3, none⟩ = some (.int .i64 t') := r2.cell 3
  have HBW := Lib.hid hb
  clear hW hb r1 r2
  refine wp_region_still_tail 20 (by kernel_rfl) (by kernel_rfl) ?_
  simp only [List.take_succ_cons, List.take_zero, List.drop_succ_cons, List.drop_zero]
  iterate 4 still_step
  still_call (HA.out _)
  iterate 4 still_step
  still_call (HB.out _)
  iterate 4 still_step
  still_call (HC.out _)
  iterate 4 still_step
  still_call (HD.out _)
  refine wpStill_nil ?_
  change wpList _ _ _ _ _ W.drew
  obtain ⟨W2, hW2⟩ : ∃ W2, W.drew = W2 := ⟨_, rfl⟩
  have HB2 := Lib.hid (hW2 ▸ HBW.out.drew : Below w.heap.size w W2)
  rw [hW2]
  clear hW2 k0 k1 k2 k3 k4 k5 k6 k7
  go_wp2_with (go_at_call 62; refine (or_any _ [a, b, c, d] _ (Sl.of_row (xs := ints [a, b, c, d]) (more := []) (cap := 4) (row_new 3 _ _) (by simp [ints]) (by unfold maxLen; omega)).toA).mono ?_; rintro e w' ⟨rfl, rfl⟩)
  go_ret
  exact ⟨rfl, HB2.out.alloc HB2.out.size _⟩
def stateP (n : Nat) (q : Int) : Bool := decide (0 ≤ q) && decide (q < n)
set_option maxHeartbeats 400000 in
theorem isState_any (s q : Int) (vE : Value) (pN : Option Addr) (n cap : Nat) (w : World) (hn : n ≤ 1000) :
    Calls Tryz.prog 33 #[.agg #[.int .i64 s, vE, .slice pN n cap], .int .i64 q] w fun e w' => e = .returned (.bool (stateP n q)) ∧ Below w.heap.size w w' := by
  by_cases h : 0 ≤ q
  · have hb : decide (0 ≤ q) = true := decide_eq_true h
    have HN : Hid (stateP n q = decide (q < n)) := by show _ = _; simp [stateP, h]
    go_enter Tryz.func33, Tryz.ntmps33
    go_wp2
    go_ret
    exact ⟨by rw [HN.out]; rfl, (Below.refl _ _).alloc (Nat.le_refl _) _⟩
  · have hb : decide (0 ≤ q) = false := decide_eq_false h
    have HN : Hid (stateP n q = false) := by show _ = _; simp [stateP, h]
    go_enter Tryz.func33, Tryz.ntmps33
    go_wp2
    go_ret
    exact ⟨by rw [HN.out]; rfl, (Below.refl _ _).alloc (Nat.le_refl _) _⟩
end Go.Proofs.YthglgagkhnfnpaaGreat
