/- What the program's calls answer, in plain numbers: the contracts that the statements lean on. -/
import Derived.Test.YthbfgmgpploneaaDoorC2
set_option linter.unusedVariables false
set_option linter.unusedSimpArgs false
set_option linter.unnecessarySimpa false
namespace Go.Proofs.YthbfgmgpploneaaDoor
open Go.RowKit

def I64 (m : Int) : Prop := -9223372036854775808 ≤ m ∧ m ≤ 9223372036854775807
/-- bids of which the statements speak: few, and short -/
def Few (bids : List (List Int)) : Prop := bids.length ≤ 7 ∧ ∀ i, (bids.getD i []).length ≤ 65 ∧ In64 (bids.getD i [])
def bestR (m : Int) (bids : List (List Int)) : Int × List Int := if checkP m bids = 0 then (worthP m.toNat bids (2 ^ bids.length - 1), bestP m.toNat bids) else (0, [])
def payR (m : Int) (bids : List (List Int)) : List Int := if checkP m bids = 0 then payP m.toNat bids else []
def singleE (m : Int) (o : List (List Int)) : Int :=
  if m < 1 ∨ 6 < m then 1 else if o.length < 1 ∨ 6 < o.length ∨ o.any (fun r => !(r.length == m.toNat && r.all fun x => decide (0 ≤ x) && decide (x ≤ 1000000))) = true then 80 else 0
def singleR (m : Int) (o : List (List Int)) : List (List Int) := if singleE m o = 0 then singleP m.toNat o else []
def secondE (l : List Int) : Int := if l.length < 1 ∨ 100 < l.length ∨ l.any (fun x => decide (x < 0) || decide (1000000000000 < x)) = true then 1 else 0
def secondR (l : List Int) : Int × Int := if secondE l = 0 then (topTo l l.length, nextTo l (topTo l l.length) l.length) else (0, 0)

def SpecCheck : Prop := ∀ (v : Value) (m : Int) (bids : List (List Int)) (w : World), Mat w v bids → I64 m → Few bids →
  Calls Tryd.prog 15 #[.int .i64 m, v] w fun e w' => e = .returned (.int .i64 (checkP m bids)) ∧ Below w.heap.size w w'
def SpecBest : Prop := ∀ (v : Value) (m : Int) (bids : List (List Int)) (w : World), Mat w v bids → I64 m → Few bids →
  Calls Tryd.prog 17 #[.int .i64 m, v] w fun e w' => ∃ v', e = .returned (.tuple #[.int .i64 (bestR m bids).1, v', .int .i64 (checkP m bids)]) ∧ Sl w' v' (ints (bestR m bids).2) ∧ Below w.heap.size w w'
def SpecPay : Prop := ∀ (v : Value) (m : Int) (bids : List (List Int)) (w : World), Mat w v bids → I64 m → Few bids →
  Calls Tryd.prog 18 #[.int .i64 m, v] w fun e w' => ∃ v', e = .returned (.tuple #[v', .int .i64 (checkP m bids)]) ∧ Sl w' v' (ints (payR m bids)) ∧ Below w.heap.size w w'
def SpecSingle : Prop := ∀ (v : Value) (m : Int) (o : List (List Int)) (w : World), Mat w v o → I64 m → Few o →
  Calls Tryd.prog 40 #[.int .i64 m, v] w fun e w' => ∃ v', e = .returned (.tuple #[v', .int .i64 (singleE m o)]) ∧ Mat w' v' (singleR m o) ∧ Below w.heap.size w w'
def SpecSecond : Prop := ∀ (v : Value) (l : List Int) (w : World), Sl w v (ints l) → In64 l → l.length ≤ 101 →
  Calls Tryd.prog 42 #[v] w fun e w' => e = .returned (.tuple #[.int .i64 (secondR l).1, .int .i64 (secondR l).2, .int .i64 (secondE l)]) ∧ Below w.heap.size w w'
/-- Prices, at the bids of which 'awake' asks, and at what are no bids -/
def SpecPricesAt : Prop := ∀ (v : Value) (w : World), Mat w v [[0, 3, 1, 3], [0, 2, 2, 2]] →
  Calls Tryd.prog 21 #[.int .i64 2, v] w fun e w' => ∃ v', e = .returned (.tuple #[v', .int .i64 0]) ∧ Sl w' v' (ints [0, 0]) ∧ Below w.heap.size w w'
def SpecPricesNo : Prop := ∀ (v : Value) (m : Int) (bids : List (List Int)) (w : World), Mat w v bids → I64 m → Few bids → checkP m bids ≠ 0 →
  Calls Tryd.prog 21 #[.int .i64 m, v] w fun e w' => ∃ v', e = .returned (.tuple #[v', .int .i64 (checkP m bids)]) ∧ Sl w' v' [] ∧ Below w.heap.size w w'
structure Awake : Prop where
  check : SpecCheck
  best : SpecBest
  pay : SpecPay
  single : SpecSingle
  second : SpecSecond
  prices : SpecPricesAt

theorem alloc_size (w : World) (o : Obj) : (w.alloc o).heap.size = w.heap.size + 1 := by simp
theorem Mat.of_rows {w : World} {T g : Nat} {vs : List Value} {rows : List (List Int)} (h : Row T w g vs) (hl : vs.length = rows.length) (hm : vs.length ≤ maxLen) (hr : ∀ i u, vs[i]? = some u → Sl w u (ints (rows.getD i []))) :
    Mat w (.slice (some ⟨g, 0, none⟩) vs.length vs.length) rows :=
  ⟨vs, hl, Sl.of_row (xs := vs) (more := []) (by rw [List.append_nil]; exact h) (Nat.le_refl _) hm, hr⟩
theorem built2 (w : World) (T2 T31 : Nat) (a b : List Int) (ha : a.length ≤ 1000) (hb : b.length ≤ 1000) :
    Mat (((w.alloc (.cells (ints a).toArray T2)).alloc (.cells (ints b).toArray T2)).alloc (.cells #[.slice (some ⟨w.heap.size, 0, none⟩) a.length a.length, .slice (some ⟨w.heap.size + 1, 0, none⟩) b.length b.length] T31))
      (.slice (some ⟨w.heap.size + 2, 0, none⟩) 2 2) [a, b] ∧
    Below w.heap.size w (((w.alloc (.cells (ints a).toArray T2)).alloc (.cells (ints b).toArray T2)).alloc (.cells #[.slice (some ⟨w.heap.size, 0, none⟩) a.length a.length, .slice (some ⟨w.heap.size + 1, 0, none⟩) b.length b.length] T31)) := by
  refine ⟨?_, ((((Below.refl w.heap.size w).alloc (Nat.le_refl _) _).alloc (by simp) _).alloc (by simp; omega) _)⟩
  have r1 := ((row_new T2 w (ints a).toArray).alloc (.cells (ints b).toArray T2)).alloc (.cells #[.slice (some ⟨w.heap.size, 0, none⟩) a.length a.length, .slice (some ⟨w.heap.size + 1, 0, none⟩) b.length b.length] T31)
  have r2 := (row_new T2 (w.alloc (.cells (ints a).toArray T2)) (ints b).toArray).alloc (.cells #[.slice (some ⟨w.heap.size, 0, none⟩) a.length a.length, .slice (some ⟨w.heap.size + 1, 0, none⟩) b.length b.length] T31)
  have r3 := row_new T31 ((w.alloc (.cells (ints a).toArray T2)).alloc (.cells (ints b).toArray T2)) #[.slice (some ⟨w.heap.size, 0, none⟩) a.length a.length, .slice (some ⟨w.heap.size + 1, 0, none⟩) b.length b.length]
  simp only [alloc_size] at r2 r3
  refine Mat.of_rows (T := T31) (vs := [.slice (some ⟨w.heap.size, 0, none⟩) a.length a.length, .slice (some ⟨w.heap.size + 1, 0, none⟩) b.length b.length]) r3 rfl (by unfold maxLen; simp) ?_
  intro i u hu
  have s1 := Sl.of_row (xs := ints a) (more := []) (cap := a.length) (by rw [List.append_nil]; exact r1) (by rw [ints_length]; exact Nat.le_refl _) (by unfold maxLen; omega)
  have s2 := Sl.of_row (xs := ints b) (more := []) (cap := b.length) (by rw [List.append_nil]; exact r2) (by rw [ints_length]; exact Nat.le_refl _) (by unfold maxLen; omega)
  rw [ints_length] at s1 s2
  rcases i with _ | _ | i
  · cases hu; exact s1
  · cases hu; exact s2
  · simp at hu
theorem built3 (w : World) (T2 T31 : Nat) (a b c : List Int) (ha : a.length ≤ 1000) (hb : b.length ≤ 1000) (hc : c.length ≤ 1000) :
    Mat ((((w.alloc (.cells (ints a).toArray T2)).alloc (.cells (ints b).toArray T2)).alloc (.cells (ints c).toArray T2)).alloc (.cells #[.slice (some ⟨w.heap.size, 0, none⟩) a.length a.length, .slice (some ⟨w.heap.size + 1, 0, none⟩) b.length b.length, .slice (some ⟨w.heap.size + 2, 0, none⟩) c.length c.length] T31))
      (.slice (some ⟨w.heap.size + 3, 0, none⟩) 3 3) [a, b, c] ∧
    Below w.heap.size w ((((w.alloc (.cells (ints a).toArray T2)).alloc (.cells (ints b).toArray T2)).alloc (.cells (ints c).toArray T2)).alloc (.cells #[.slice (some ⟨w.heap.size, 0, none⟩) a.length a.length, .slice (some ⟨w.heap.size + 1, 0, none⟩) b.length b.length, .slice (some ⟨w.heap.size + 2, 0, none⟩) c.length c.length] T31)) := by
  refine ⟨?_, (((((Below.refl w.heap.size w).alloc (Nat.le_refl _) _).alloc (by simp) _).alloc (by simp; omega) _).alloc (by simp; omega) _)⟩
  generalize ho : Obj.cells #[.slice (some ⟨w.heap.size, 0, none⟩) a.length a.length, .slice (some ⟨w.heap.size + 1, 0, none⟩) b.length b.length, .slice (some ⟨w.heap.size + 2, 0, none⟩) c.length c.length] T31 = o
  have r1 := (((row_new T2 w (ints a).toArray).alloc (.cells (ints b).toArray T2)).alloc (.cells (ints c).toArray T2)).alloc o
  have r2 := ((row_new T2 (w.alloc (.cells (ints a).toArray T2)) (ints b).toArray).alloc (.cells (ints c).toArray T2)).alloc o
  have r3 := (row_new T2 ((w.alloc (.cells (ints a).toArray T2)).alloc (.cells (ints b).toArray T2)) (ints c).toArray).alloc o
  have r4 := row_new T31 (((w.alloc (.cells (ints a).toArray T2)).alloc (.cells (ints b).toArray T2)).alloc (.cells (ints c).toArray T2)) #[.slice (some ⟨w.heap.size, 0, none⟩) a.length a.length, .slice (some ⟨w.heap.size + 1, 0, none⟩) b.length b.length, .slice (some ⟨w.heap.size + 2, 0, none⟩) c.length c.length]
  rw [ho] at r4
  simp only [alloc_size] at r2 r3 r4
  refine Mat.of_rows (T := T31) (vs := [.slice (some ⟨w.heap.size, 0, none⟩) a.length a.length, .slice (some ⟨w.heap.size + 1, 0, none⟩) b.length b.length, .slice (some ⟨w.heap.size + 2, 0, none⟩) c.length c.length]) r4 rfl (by unfold maxLen; simp) ?_
  intro i u hu
  have s1 := Sl.of_row (xs := ints a) (more := []) (cap := a.length) (by rw [List.append_nil]; exact r1) (by rw [ints_length]; exact Nat.le_refl _) (by unfold maxLen; omega)
  have s2 := Sl.of_row (xs := ints b) (more := []) (cap := b.length) (by rw [List.append_nil]; exact r2) (by rw [ints_length]; exact Nat.le_refl _) (by unfold maxLen; omega)
  have s3 := Sl.of_row (xs := ints c) (more := []) (cap := c.length) (by rw [List.append_nil]; exact r3) (by rw [ints_length]; exact Nat.le_refl _) (by unfold maxLen; omega)
  rw [ints_length] at s1 s2 s3
  rcases i with _ | _ | _ | i
  · cases hu; exact s1
  · cases hu; exact s2
  · cases hu; exact s3
  · simp at hu
theorem aw_check : checkP 1 [[0, 5], [0, 8], [0, 3]] = 0 := by decide
theorem aw_check0 : checkP 0 [[0, 5], [0, 8], [0, 3]] = 1 := by decide
theorem aw_best : bestR 1 [[0, 5], [0, 8], [0, 3]] = (8, [0, 1, 0]) := by decide +kernel
theorem aw_pay : payR 1 [[0, 5], [0, 8], [0, 3]] = [0, 5, 0] := by decide +kernel
theorem aw_second : secondR [5, 8, 3] = (1, 5) ∧ secondE [5, 8, 3] = 0 := by decide +kernel
theorem aw_single : singleR 2 [[3, 1], [2, 2]] = [[0, 3, 1, 3], [0, 2, 2, 2]] ∧ singleE 2 [[3, 1], [2, 2]] = 0 := by decide +kernel
end Go.Proofs.YthbfgmgpploneaaDoor
