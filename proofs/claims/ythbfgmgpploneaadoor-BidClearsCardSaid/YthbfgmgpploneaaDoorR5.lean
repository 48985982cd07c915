/- The program's falls: is there a bundle for which less is offered than for one within it? -/
import Derived.Test.YthbfgmgpploneaaDoorR1
import Derived.WalkMore
import Derived.Scope
set_option linter.unusedVariables false
set_option linter.unusedSimpArgs false
set_option linter.unnecessarySimpa false
namespace Go.Proofs.YthbfgmgpploneaaDoor
open Go.RowKit Go.Shelf
attribute [local go_sem] Oper.semAt_some

def fallsB (l : List Int) : Bool := (List.range l.length).any fun b => (subs b).any fun s => decide (l.getD b 0 < l.getD s 0)
theorem fallsB_yes {l : List Int} {b s : Nat} (hb : b < l.length) (hs : sans s b = 0) (h : l.getD b 0 < l.getD s 0) : fallsB l = true := by
  unfold fallsB
  exact List.any_eq_true.2 ⟨b, List.mem_range.2 hb, List.any_eq_true.2 ⟨s, mem_subs.2 hs, by simpa using h⟩⟩
theorem fallsB_no {l : List Int} (h : ∀ b, b < l.length → ∀ s, sans s b = 0 → l.getD s 0 ≤ l.getD b 0) : fallsB l = false := by
  cases hb : fallsB l with
  | false => rfl
  | true =>
    unfold fallsB at hb
    obtain ⟨b, h1, h2⟩ := List.any_eq_true.1 hb
    obtain ⟨s, h3, h4⟩ := List.any_eq_true.1 h2
    have := h b (List.mem_range.1 h1) s (mem_subs.1 h3)
    rw [decide_eq_true_eq] at h4; omega
theorem Row.turn {T B : Nat} {w w' : World} {g : Nat} {xs : List Value} {row : Option Nat} (h : Row T w g xs) (hg : w.grownBy w' row) (hr : ∀ r, row = some r → B ≤ r ∧ ∃ o : Obj, w.heap[r]? = some o ∧ o.isCells = false) : Row T w' g xs :=
  h.grown hg fun e => by
    obtain ⟨_, o, ho, hc⟩ := hr g e.symm
    unfold Row at h
    rw [h] at ho; cases ho; cases hc
theorem row_own (T g : Nat) (xs : List Value) {β : Type} (B : Nat) : OwnFrom B (fun (_ : β) W => Row T W g xs) := fun _ _ _ _ hs hg hr => hs.turn hg hr
theorem marks_own {β : Type} (A C : Nat) (ds : List Deferred) (hC : ∀ D, mark D ∈ ds → D < C) : OwnFrom C (fun (_ : β) W => Marks A W ds) := fun _ _ _ _ hs hg hr => hs.grown hC hg (fun r e => (hr r e).1)
/-- between two bundles -/
def FallsRel (l : List Int) (w : World) (sl : Value) (k : Nat) (ds : List Deferred) (wr : World) : Prop :=
  k ≤ l.length ∧ Row 31 wr w.heap.size [sl] ∧ Row 4 wr (w.heap.size + 1) [.bool false] ∧ Below w.heap.size w wr ∧ Marks w.heap.size wr ds ∧ ∀ b, b < k → ∀ s, sans s b = 0 → l.getD s 0 ≤ l.getD b 0
set_option maxRecDepth 100000 in
set_option maxHeartbeats 2000000 in
theorem falls_go (v : Value) (l : List Int) (w : World) (hl : Sl w v (ints l)) (hm : l.length ≤ 64) :
    Calls Tryd.prog 80 #[v] w fun e w' => e = .returned (.bool (fallsB l)) ∧ Below w.heap.size w w' := by
  obtain ⟨p, cap, rfl, hlc, hcm⟩ := hl.form
  have HL := Lib.hid hl
  clear hl
  refine calls_marks Tryd.func80 rfl fun Q hQ => ?_
  have HQ := Lib.hid hQ
  clear hQ
  simp only [Tryd.ntmps80, List.size_toArray, List.length_cons, List.length_nil, Nat.reduceAdd, Nat.reduceSub, Array.replicate_succ, Array.replicate_zero, List.push_toArray, List.append_toArray, List.nil_append, List.cons_append]
  go_wp2
  refine wp_scope_straight ?_
  go_wp2
  have hr1 := ((row_new 31 w #[.slice p l.length cap]).alloc (.cells #[.bool false] 4))
  have hr2 := row_new 4 (w.alloc (.cells #[.slice p l.length cap] 31)) #[.bool false]
  rw [World.size_alloc] at hr2
  have hB0 := ((Below.refl w.heap.size w).alloc (Nat.le_refl _) (.cells #[.slice p l.length cap] 31)).alloc (by simp) (.cells #[.bool false] 4)
  obtain ⟨W0, hW0⟩ : ∃ W0, (w.alloc (.cells #[.slice p l.length cap] 31)).alloc (.cells #[.bool false] 4) = W0 := ⟨_, rfl⟩
  rw [hW0] at hr1 hr2 hB0 ⊢
  clear hW0
  have hc1 := hr1.cell 0
  go_step3
  go_wp2
  refine wp_loop (fun a wr => ∃ (k : Nat) (ds : List Deferred) (x4 x5 x6 x10 x11 x12 x13 x14 x15 x16 x17 x18 x19 x20 x21 x22 x23 x24 : Value), a = { tmps := #[.slice p l.length cap, .pointer (some ⟨w.heap.size, 0, none⟩), .bool false, .pointer (some ⟨w.heap.size + 1, 0, none⟩), x4, x5, x6, .slice p l.length cap, .int .i64 l.length, .int .i64 k, x10, x11, x12, x13, x14, x15, x16, x17, x18, x19, x20, x21, x22, x23, x24], defers := ds } ∧ FallsRel l w (.slice p l.length cap) k ds wr) (fun a _ => l.length - (intOf (a.tmps.getD 9 undef)).toNat) ?start ?round
  case start => exact ⟨0, [], _, _, _, _, _, _, _, _, _, _, _, _, _, _, _, _, _, _, rfl, Nat.zero_le _, hr1, hr2, hB0, Marks.nil _ _, fun b hb => by omega⟩
  case round =>
    clear hr1 hr2 hB0 hc1 W0
    rintro a wr ⟨k, ds, x4, x5, x6, x10, x11, x12, x13, x14, x15, x16, x17, x18, x19, x20, x21, x22, x23, x24, rfl, hk, hr1, hr2, hB0, hmk, hall⟩
    have hc1 := hr1.cell 0
    have hc2 := hr2.cell 0
    have hf2 := hr2.free 0
    have HALL := Lib.hid hall
    have HMK := Lib.hid hmk
    have HB0 := Lib.hid hB0
    have HR1 := Lib.hid hr1
    have HR2 := Lib.hid hr2
    clear hall hmk hB0 hr1 hr2
    by_cases hlt : k < l.length
    · obtain ⟨b, off, cap', hv, _, _, _, hcx⟩ := (HL.out.below HB0.out).int_at k hlt
      cases hv
      have HLR := Lib.hid (HL.out.below HB0.out)
      obtain ⟨x, hx⟩ : ∃ x, l.getD k 0 = x := ⟨_, rfl⟩
      rw [hx] at hcx
      have HX := Lib.hid hx
      clear hx
      go_wp2_with (first | (go_at_call 81; refine (within_any k _).mono ?_; rintro e w1 ⟨rfl, rfl⟩))
      have hr3 := (row_new 2 wr #[.int .i64 x]).alloc (.cells #[.int .i64 k] 71)
      have hr4 := row_new 71 (wr.alloc (.cells #[.int .i64 x] 2)) #[.int .i64 k]
      have hb4 := (HB0.out.alloc HB0.out.size (.cells #[.int .i64 x] 2)).alloc (by have := HB0.out.size; simp; omega) (.cells #[.int .i64 k] 71)
      have hr1 := (HR1.out.alloc (.cells #[.int .i64 x] 2)).alloc (.cells #[.int .i64 k] 71)
      have hr2 := (HR2.out.alloc (.cells #[.int .i64 x] 2)).alloc (.cells #[.int .i64 k] 71)
      have hmk : Marks w.heap.size ((wr.alloc (.cells #[.int .i64 x] 2)).alloc (.cells #[.int .i64 k] 71)) ds := HMK.out.keeps ((KeepsOthers.alloc _ _).trans (KeepsOthers.alloc _ _))
      have hsz : ((wr.alloc (.cells #[.int .i64 x] 2)).alloc (.cells #[.int .i64 k] 71)).heap.size = wr.heap.size + 2 := by simp
      rw [World.size_alloc] at hr4
      obtain ⟨W2, hW2⟩ : ∃ W2, (wr.alloc (.cells #[.int .i64 x] 2)).alloc (.cells #[.int .i64 k] 71) = W2 := ⟨_, rfl⟩
      rw [hW2] at hr1 hr2 hr3 hr4 hb4 hmk hsz ⊢
      clear hW2
      have hsz0 := HB0.out.size
      have hmlt := hmk.lt
      refine wp_range_subs (b := k) (Bn := wr.heap.size + 1) rfl (by omega) (by omega) (by rw [hr4.cell]; rfl)
        (fun pre W => (Row 31 W w.heap.size [.slice (some ⟨b, off, none⟩) l.length cap] ∧ Row 4 W (w.heap.size + 1) [.bool false] ∧ Row 2 W wr.heap.size [.int .i64 x]) ∧ Below w.heap.size w W ∧ Marks w.heap.size W ds ∧ ∀ s ∈ pre, l.getD s.1 0 ≤ x)
        (fun c pre W => c = .exit 0 ∧ Row 4 W (w.heap.size + 1) [.bool true] ∧ Below w.heap.size w W ∧ Marks w.heap.size W ds ∧ ∃ s ∈ pre, x < l.getD s.1 0)
        (((row_own _ _ _ _).and ((row_own _ _ _ _).and (row_own _ _ _ _))).and ((ownFrom_below (Nat.le_refl _) (by omega)).and ((marks_own _ _ _ hmlt).and (ownFrom_pure _ _))))
        (fun c => (ownFrom_pure _ (fun _ => c = .exit 0)).and ((row_own _ _ _ _).and ((ownFrom_below (Nat.le_refl _) (by omega)).and ((marks_own _ _ _ hmlt).and (ownFrom_pure _ _)))))
        ⟨⟨hr1, hr2, hr3⟩, hb4, hmk, fun s hs => by cases hs⟩
        (fun s => { tmps := #[.slice (some ⟨b, off, none⟩) l.length cap, .pointer (some ⟨w.heap.size, 0, none⟩), .bool false, .pointer (some ⟨w.heap.size + 1, 0, none⟩), .int .i64 k, .pointer (some ⟨wr.heap.size, 0, none⟩), .int .i64 (s.1 : Nat), .slice (some ⟨b, off, none⟩) l.length cap, .int .i64 l.length, .int .i64 k, .bool true, .int .i64 k, .pointer (some ⟨b, off + k, none⟩), .int .i64 x, .int .i64 k, .func (.func 86) #[] #[.pointer (some ⟨wr.heap.size + 1, 0, none⟩)], .int .i64 (s.1 : Nat), x17, x18, x19, x20, x21, x22, x23, x24], defers := [] }) ?assign ?body ?done ?stop
      case assign =>
        intro l' s W K hK
        gi_wp2
        exact hK
      case body =>
        clear hr1 hr2 hr3 hr4 hb4 hmk
        rintro l' pre s W ⟨⟨hr1, hr2, hr3⟩, hb, hmk, hall⟩ hlen
        have hsl : s.1 < l.length := Nat.lt_of_le_of_lt (le_of_sans s.2) hlt
        obtain ⟨b5, off5, cap5, hv, _, _, _, hcs⟩ := (HL.out.below hb).int_at s.1 hsl
        cases hv
        have hk1 := hr1.cell 0
        have hk2 := hr2.cell 0
        have hk3 := hr3.cell 0
        have hf2 := hr2.free 0
        have H12 : Hid (Row 31 W w.heap.size [.slice (some ⟨b, off, none⟩) l.length cap] ∧ Row 4 W (w.heap.size + 1) [.bool false] ∧ Row 2 W wr.heap.size [.int .i64 x]) := ⟨hr1, hr2, hr3⟩
        have HB := Lib.hid hb
        have HMK2 := Lib.hid hmk
        have HALL2 := Lib.hid hall
        obtain ⟨y, hy⟩ : ∃ y, l.getD s.1 0 = y := ⟨_, rfl⟩
        rw [hy] at hcs
        have HY := Lib.hid hy
        clear hr1 hr2 hr3 hb hmk hall hy
        have hmx : Tryd.prog.follows .mixedOrders = true := by kernel_rfl
        by_cases hgt : x < y
        · have hr2 : Row 4 ((W.setCell ⟨w.heap.size + 1, 0, none⟩ (.bool true)).drew) (w.heap.size + 1) [.bool true] := (H12.out.2.1.store 0 _).drew
          have HF := Lib.hid hr2
          clear hr2
          gi_wp2
          gi_region_o
          all_goals gi_wp2
          all_goals exact ⟨(KeepsOthers.setCell _ _ _).trans (KeepsOthers.drew _), rfl, HF.out, (HB.out.setCell (p := ⟨w.heap.size + 1, 0, none⟩) (by show w.heap.size ≤ w.heap.size + 1; omega) _).drew, HMK2.out.keeps ((KeepsOthers.setCell _ _ _).trans (KeepsOthers.drew _)), s, by simp, by rw [HY.out]; exact hgt⟩
        · gi_wp2
          gi_region_o
          all_goals gi_wp2
          all_goals exact ⟨KeepsOthers.drew _, fun v hv => hv, ⟨H12.out.1.drew, H12.out.2.1.drew, H12.out.2.2.drew⟩, HB.out.drew, HMK2.out.keeps (KeepsOthers.drew _), fun t ht => (List.mem_append.1 ht).elim (HALL2.out t) (fun h => by simp at h; subst h; rw [HY.out]; omega)⟩
      case done =>
        have HMW := Lib.hid hmk
        clear hr1 hr2 hr3 hr4 hb4 hmk
        rintro D W hD ⟨⟨hr1, hr2, hr3⟩, hb, hmk, hall⟩ hK
        have hmk2 := HMW.out.cons hmk hD (by omega) hK
        have HALL2 : Hid (∀ b, b < k + 1 → ∀ s, sans s b = 0 → l.getD s 0 ≤ l.getD b 0) := by
          intro b' hb' s hs
          rcases Nat.lt_or_ge b' k with h | h
          · exact HALL.out b' h s hs
          · obtain rfl : b' = k := by omega
            rw [HX.out]; exact hall ⟨s, hs⟩ (mem_subsA _)
        go_wp2
        refine ⟨⟨k + 1, _, _, _, _, _, _, _, _, _, _, _, _, _, _, _, _, _, _, _, rfl, ?_, hr1, hr2, hb, hmk2, HALL2.out⟩, ?_⟩
        · omega
        · simp [intOf]; omega
      case stop =>
        have HMW := Lib.hid hmk
        clear hr1 hr2 hr3 hr4 hb4 hmk
        rintro D c pre W hD hpre ⟨rfl, hr2, hb, hmk, s, hs, hgt⟩ hK
        have hc := hr2.cell 0
        have hmk2 := HMW.out.cons hmk hD (by omega) hK
        have HT : Hid (fallsB l = true) := fallsB_yes hlt s.2 (by rw [HX.out]; exact hgt)
        go_wp2
        refine (HQ.out _ _ ?_).1
        refine marks_leave hmk2 fun w' hb' hrow => ⟨_, results_tmp rfl _ _ _, ?_, hb.trans hb'⟩
        rw [HT.out]; rfl
    · obtain rfl : k = l.length := by omega
      have HF : Hid (fallsB l = false) := fallsB_no HALL.out
      go_wp2
      refine (HQ.out _ _ ?_).1
      refine marks_leave HMK.out fun w' hb hrow => ⟨_, results_tmp rfl _ _ _, ?_, HB0.out.trans hb⟩
      rw [HF.out]; rfl
end Go.Proofs.YthbfgmgpploneaaDoor
