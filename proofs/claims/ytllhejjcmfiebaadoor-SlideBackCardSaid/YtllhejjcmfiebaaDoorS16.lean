/- The program's positions. -/
import Derived.Test.YtllhejjcmfiebaaDoorS11
set_option linter.unusedVariables false
set_option linter.unusedSimpArgs false
set_option linter.unnecessarySimpa false
namespace Go.Proofs.YtllhejjcmfiebaaDoor
open Go.RowKit Go.Shelf
def nineL (f : Nat → Int) : List Value := [.int .i8 (f 0), .int .i8 (f 1), .int .i8 (f 2), .int .i8 (f 3), .int .i8 (f 4), .int .i8 (f 5), .int .i8 (f 6), .int .i8 (f 7), .int .i8 (f 8)]
def nineV (f : Nat → Int) : Value := .agg #[.int .i8 (f 0), .int .i8 (f 1), .int .i8 (f 2), .int .i8 (f 3), .int .i8 (f 4), .int .i8 (f 5), .int .i8 (f 6), .int .i8 (f 7), .int .i8 (f 8)]
theorem nine_get (f : Nat → Int) {k : Nat} (hk : k < 9) : (nineL f)[k]? = some (.int .i8 (f k)) := by
 rcases (by omega : k = 0 ∨ k = 1 ∨ k = 2 ∨ k = 3 ∨ k = 4 ∨ k = 5 ∨ k = 6 ∨ k = 7 ∨ k = 8) with rfl | rfl | rfl | rfl | rfl | rfl | rfl | rfl | rfl <;> rfl
def upd (f : Nat → Int) (k : Nat) (v : Int) : Nat → Int := fun j => if j = k then v else f j
theorem nine_set (f : Nat → Int) {k : Nat} (hk : k < 9) (v : Int) : (nineL f).set k (.int .i8 v) = nineL (upd f k v) := by
 rcases (by omega : k = 0 ∨ k = 1 ∨ k = 2 ∨ k = 3 ∨ k = 4 ∨ k = 5 ∨ k = 6 ∨ k = 7 ∨ k = 8) with rfl | rfl | rfl | rfl | rfl | rfl | rfl | rfl | rfl <;> rfl
theorem nine_cells {T g : Nat} {w : World} {f : Nat → Int} (h : Row T w g (nineL f)) :
  w.cell? ⟨g, 0, none⟩ = some (.int .i8 (f 0)) ∧ w.cell? ⟨g, 1, none⟩ = some (.int .i8 (f 1)) ∧ w.cell? ⟨g, 2, none⟩ = some (.int .i8 (f 2)) ∧ w.cell? ⟨g, 3, none⟩ = some (.int .i8 (f 3)) ∧ w.cell? ⟨g, 4, none⟩ = some (.int .i8 (f 4)) ∧
  w.cell? ⟨g, 5, none⟩ = some (.int .i8 (f 5)) ∧ w.cell? ⟨g, 6, none⟩ = some (.int .i8 (f 6)) ∧ w.cell? ⟨g, 7, none⟩ = some (.int .i8 (f 7)) ∧ w.cell? ⟨g, 8, none⟩ = some (.int .i8 (f 8)) :=
 ⟨h.cell 0, h.cell 1, h.cell 2, h.cell 3, h.cell 4, h.cell 5, h.cell 6, h.cell 7, h.cell 8⟩
theorem i8_small {x : Int} (h0 : 0 ≤ x) (h : x < 9) : IntKind.i8.wrap x = x := by
 simp [IntKind.wrap, IntKind.bits, IntKind.signed]; omega
def ownF (k : Nat) : Nat → Int := fun j => if j < k then (j : Int) else 0
def posF (l : List Int) (k : Nat) : Nat → Int := fun j => if j < k then l.getD j 0 else (j : Int)
theorem ownF_step (k : Nat) : upd (ownF k) k k = ownF (k + 1) := by
 funext j; unfold upd ownF
 by_cases h : j = k
 ·subst h; simp
 ·by_cases h2 : j < k
  ·have : j < k + 1 := by omega
   simp [h, h2, this]
  ·have : ¬ j < k + 1 := by omega
   simp [h, h2, this]
theorem posF_step (l : List Int) (k : Nat) : upd (posF l k) k (l.getD k 0) = posF l (k + 1) := by
 funext j; unfold upd posF
 by_cases h : j = k
 ·subst h; simp
 ·by_cases h2 : j < k
  ·have : j < k + 1 := by omega
   simp [h, h2, this]
  ·have : ¬ j < k + 1 := by omega
   simp [h, h2, this]
theorem nine_own (l : List Int) : nineL (ownF 9) = nineL (posF l 0) := by
 unfold nineL ownF posF; simp
set_option maxRecDepth 100000 in
set_option maxHeartbeats 4000000 in
theorem newPos_go (v : Value) (n : Nat) (l : List Int) (w : World) (hl : SlA w v (ints l)) (hn9 : n ≤ 9) (hlen : l.length = n) (hr : ∀ j, j < n → rngAt n l j = true) :
  Calls Tryd.prog 52 #[v] w fun e w' => e = .returned (nineV (posF l l.length)) ∧ Below w.heap.size w w' := by
 obtain ⟨p, cap, rfl, hl1, hl2⟩ := hl.form
 have HL := Lib.hid hl
 have HR := Lib.hid hr
 have HLEN := Lib.hid hlen
 have hl9 : l.length ≤ 9 := by omega
 clear hl hr hlen
 go_enter Tryd.func52, Tryd.ntmps52
 go_wp2
 have hz := row_new 82 (w.alloc (.cells #[.int .i8 0, .int .i8 0, .int .i8 0, .int .i8 0, .int .i8 0, .int .i8 0, .int .i8 0, .int .i8 0, .int .i8 0] 82)) #[.int .i8 0, .int .i8 0, .int .i8 0, .int .i8 0, .int .i8 0, .int .i8 0, .int .i8 0, .int .i8 0, .int .i8 0]
 rw [World.size_alloc] at hz
 have hz1 := (row_new 82 w #[.int .i8 0, .int .i8 0, .int .i8 0, .int .i8 0, .int .i8 0, .int .i8 0, .int .i8 0, .int .i8 0, .int .i8 0]).alloc (.cells #[.int .i8 0, .int .i8 0, .int .i8 0, .int .i8 0, .int .i8 0, .int .i8 0, .int .i8 0, .int .i8 0, .int .i8 0] 82)
 have hb0 := ((Below.refl w.heap.size w).alloc (Nat.le_refl _) (.cells #[.int .i8 0, .int .i8 0, .int .i8 0, .int .i8 0, .int .i8 0, .int .i8 0, .int .i8 0, .int .i8 0, .int .i8 0] 82)).alloc (by simp) (.cells #[.int .i8 0, .int .i8 0, .int .i8 0, .int .i8 0, .int .i8 0, .int .i8 0, .int .i8 0, .int .i8 0, .int .i8 0] 82)
 have HZ : Hid (Row 82 _ (w.heap.size + 1) (nineL (ownF 0))) := hz
 have HZ1 : Hid (Row 82 _ w.heap.size (nineL (ownF 0))) := hz1
 have HB0 := Lib.hid hb0
 clear hz hz1 hb0
 go_loopw [7] (fun i wr => ∃ k : Nat, k ≤ 9 ∧ i = .int .i64 k ∧ Row 82 wr (w.heap.size + 1) (nineL (ownF k)) ∧ Row 82 wr w.heap.size (nineL (ownF 0)) ∧ Below w.heap.size w wr) (fun i _ => 9 - (intOf i).toNat)
 case atStart => exact ⟨0, Nat.zero_le _, rfl, HZ.out, HZ1.out, HB0.out⟩
 case round =>
  obtain ⟨k, hk, rfl, hrow, hrow1, hbel⟩ := hrel
  clear HZ HZ1 HB0
  by_cases hlt : k < 9
  ·have hc := hrow.cell k
   rw [nine_get _ hlt] at hc
   have hf := hrow.free k
   have h8 : IntKind.i8.wrap (k : Int) = (k : Int) := i8_small (by omega) (by omega)
   have hs := hrow.store k (.int .i8 (k : Int))
   rw [nine_set _ hlt, ownF_step] at hs
   have HS := Lib.hid hs
   have H1 := Lib.hid (hrow1.other ⟨w.heap.size + 1, k, none⟩ (by dsimp only; omega) (.int .i8 (k : Int)))
   have HB := Lib.hid (hbel.setCell (p := ⟨w.heap.size + 1, k, none⟩) (by dsimp only; omega) (.int .i8 (k : Int)))
   clear hrow hrow1 hbel hs
   go_wp2
   go_roundw
   case rel => exact ⟨k + 1, by omega, by go_num, HS.out, H1.out, HB.out⟩
   case measure => simp [intOf]; omega
  ·obtain rfl : k = 9 := by omega
   rw [nine_own l] at hrow
   have HROW := Lib.hid hrow
   have HROW1 := Lib.hid hrow1
   have HB := Lib.hid hbel
   clear hrow hrow1 hbel
   obtain ⟨wo, hwo⟩ : ∃ wo : World, wo = wr := ⟨_, rfl⟩
   subst hwo
   go_wp2
   go_loopw [17] (fun i wr => ∃ k : Nat, k ≤ l.length ∧ i = .int .i64 k ∧ Row 82 wr (w.heap.size + 1) (nineL (posF l k)) ∧ Row 82 wr w.heap.size (nineL (ownF 0)) ∧ Below w.heap.size w wr) (fun i _ => l.length - (intOf i).toNat)
   case atStart => exact ⟨0, Nat.zero_le _, rfl, HROW.out, HROW1.out, HB.out⟩
   case round =>
    obtain ⟨k, hk, rfl, hrow, hrow1, hbel⟩ := hrel
    clear HROW HROW1 HB
    by_cases hlt : k < l.length
    ·obtain ⟨ad, cap', hv, _, _, hg, hcx⟩ := (HL.out.below hbel).int_at k hlt
     cases hv
     have hrg := HR.out k (by have := HLEN.out; omega)
     simp only [rngAt, Bool.and_eq_true, decide_eq_true_eq] at hrg
     have hk9 : k < 9 := by omega
     have gk9 : (k : Int) < 9 := by omega
     have hc := hrow.cell k
     rw [nine_get _ hk9] at hc
     have hf := hrow.free k
     have hs := hrow.store k (.int .i8 (l.getD k 0))
     rw [nine_set _ hk9, posF_step] at hs
     have HS := Lib.hid hs
     have H1 := Lib.hid (hrow1.other ⟨w.heap.size + 1, k, none⟩ (by dsimp only; omega) (.int .i8 (l.getD k 0)))
     have HB := Lib.hid (hbel.setCell (p := ⟨w.heap.size + 1, k, none⟩) (by dsimp only; omega) (.int .i8 (l.getD k 0)))
     have h8 : IntKind.i8.wrap (l.getD k 0) = l.getD k 0 := i8_small hrg.1 (by omega)
     obtain ⟨x, hx⟩ : ∃ x, l.getD k 0 = x := ⟨_, rfl⟩
     rw [hx] at hcx h8 H1 HB HS
     clear hrow hrow1 hbel hs hrg hx
     go_wp2
     go_roundw
     case rel => exact ⟨k + 1, by omega, by go_num, HS.out, H1.out, HB.out⟩
     case measure => simp [intOf]; omega
    ·obtain rfl : k = l.length := by omega
     obtain ⟨F, hF⟩ : ∃ F, posF l l.length = F := ⟨_, rfl⟩
     rw [hF] at hrow
     have HF := Lib.hid hF
     obtain ⟨c0, c1, c2, c3, c4, c5, c6, c7, c8⟩ := nine_cells hrow
     obtain ⟨d0, d1, d2, d3, d4, d5, d6, d7, d8⟩ := nine_cells hrow1
     have f0 := hrow1.free 0
     have f1 := hrow1.free 1
     have f2 := hrow1.free 2
     have f3 := hrow1.free 3
     have f4 := hrow1.free 4
     have f5 := hrow1.free 5
     have f6 := hrow1.free 6
     have f7 := hrow1.free 7
     have f8 := hrow1.free 8
     have hR := (((((((((hrow1.store 0 (.int .i8 (F 0))).store 1 (.int .i8 (F 1))).store 2 (.int .i8 (F 2))).store 3 (.int .i8 (F 3))).store 4 (.int .i8 (F 4))).store 5 (.int .i8 (F 5))).store 6 (.int .i8 (F 6))).store 7 (.int .i8 (F 7))).store 8 (.int .i8 (F 8)))
     have hR2 : Row 82 _ w.heap.size (nineL F) := hR
     have HRR := Lib.hid hR2
     have HBB := Lib.hid (((((((((hbel.setCell (p := ⟨w.heap.size, 0, none⟩) (Nat.le_refl _) (.int .i8 (F 0))).setCell (p := ⟨w.heap.size, 1, none⟩) (Nat.le_refl _) (.int .i8 (F 1))).setCell (p := ⟨w.heap.size, 2, none⟩) (Nat.le_refl _) (.int .i8 (F 2))).setCell (p := ⟨w.heap.size, 3, none⟩) (Nat.le_refl _) (.int .i8 (F 3))).setCell (p := ⟨w.heap.size, 4, none⟩) (Nat.le_refl _) (.int .i8 (F 4))).setCell (p := ⟨w.heap.size, 5, none⟩) (Nat.le_refl _) (.int .i8 (F 5))).setCell (p := ⟨w.heap.size, 6, none⟩) (Nat.le_refl _) (.int .i8 (F 6))).setCell (p := ⟨w.heap.size, 7, none⟩) (Nat.le_refl _) (.int .i8 (F 7))).setCell (p := ⟨w.heap.size, 8, none⟩) (Nat.le_refl _) (.int .i8 (F 8)))
     clear hrow hrow1 hbel hR hR2 hF
     go_wp2
     obtain ⟨e0, e1, e2, e3, e4, e5, e6, e7, e8⟩ := nine_cells HRR.out
     refine bodyPost_ret (v := nineV F) (by simp [results, Tryd.results52, go_sem, e0, e1, e2, e3, e4, e5, e6, e7, e8, nineV]) rfl ⟨by rw [HF.out], HBB.out⟩
end Go.Proofs.YtllhejjcmfiebaaDoor
namespace Go.Proofs.YtllhejjcmfiebaaDoor
open Go.RowKit Go.Shelf
def takF (f q : Nat → Int) : Nat → Nat → Int
 | 0 => fun _ => 0
 | k + 1 => upd (takF f q k) (f k).toNat (q k)
def sgRow (T : Nat → Int) (i : Nat) : Nat → Int → Int
 | 0, s => s
 | j + 1, s => if T i < T j then -(sgRow T i j s) else sgRow T i j s
def sgAll (T : Nat → Int) : Nat → Int
 | 0 => 1
 | i + 1 => sgRow T i i (sgAll T i)
def One (s : Int) : Prop := s = 1 ∨ s = -1
theorem One.neg {s : Int} (h : One s) : One (-s) := by rcases h with rfl | rfl; exact .inr rfl; exact .inl rfl
theorem sgRow_one (T : Nat → Int) (i : Nat) : ∀ j s, One s → One (sgRow T i j s)
 | 0, _, h => h
 | j + 1, s, h => by
  unfold sgRow
  split
  ·exact (sgRow_one T i j s h).neg
  ·exact sgRow_one T i j s h
theorem sgAll_one (T : Nat → Int) : ∀ i, One (sgAll T i)
 | 0 => .inl rfl
 | i + 1 => sgRow_one T i i _ (sgAll_one T i)
def Sm (f : Nat → Int) : Prop := ∀ j, j < 9 → 0 ≤ f j ∧ f j < 9
set_option maxRecDepth 100000 in
theorem index9 (f : Nat → Int) {k : Nat} (hk : k < 9) (W : World) : (Instr.index 82 (.agg #[.int .i8 (f 0), .int .i8 (f 1), .int .i8 (f 2), .int .i8 (f 3), .int .i8 (f 4), .int .i8 (f 5), .int .i8 (f 6), .int .i8 (f 7), .int .i8 (f 8)]) (.int .i64 (k : Int))).run Tryd.prog W = .ok (.int .i8 (f k)) W := by
 rcases (by omega : k = 0 ∨ k = 1 ∨ k = 2 ∨ k = 3 ∨ k = 4 ∨ k = 5 ∨ k = 6 ∨ k = 7 ∨ k = 8) with rfl | rfl | rfl | rfl | rfl | rfl | rfl | rfl | rfl <;> first | rfl | kernel_rfl
set_option maxRecDepth 100000 in
set_option maxHeartbeats 4000000 in
theorem sign_go (f q : Nat → Int) (hf : Sm f) (w : World) :
  Calls Tryd.prog 53 #[nineV f, nineV q] w fun e w' => e = .returned (.int .i64 (sgAll (takF f q 9) 9)) ∧ Below w.heap.size w w' := by
 have HF := Lib.hid hf
 clear hf
 have hr1 := ((row_new 82 w (nineL f).toArray).alloc (.cells (nineL q).toArray 82)).alloc (.cells #[.int .i8 0, .int .i8 0, .int .i8 0, .int .i8 0, .int .i8 0, .int .i8 0, .int .i8 0, .int .i8 0, .int .i8 0] 82)
 have hr2 := (row_new 82 (w.alloc (.cells (nineL f).toArray 82)) (nineL q).toArray).alloc (.cells #[.int .i8 0, .int .i8 0, .int .i8 0, .int .i8 0, .int .i8 0, .int .i8 0, .int .i8 0, .int .i8 0, .int .i8 0] 82)
 have hr3 := row_new 82 ((w.alloc (.cells (nineL f).toArray 82)).alloc (.cells (nineL q).toArray 82)) #[.int .i8 0, .int .i8 0, .int .i8 0, .int .i8 0, .int .i8 0, .int .i8 0, .int .i8 0, .int .i8 0, .int .i8 0]
 have hb0 := (((Below.refl w.heap.size w).alloc (Nat.le_refl _) (.cells (nineL f).toArray 82)).alloc (by simp) (.cells (nineL q).toArray 82)).alloc (by simp; omega) (.cells #[.int .i8 0, .int .i8 0, .int .i8 0, .int .i8 0, .int .i8 0, .int .i8 0, .int .i8 0, .int .i8 0, .int .i8 0] 82)
 rw [World.size_alloc] at hr2
 rw [World.size_alloc, World.size_alloc] at hr3
 obtain ⟨W0, hW0⟩ : ∃ W0, ((w.alloc (.cells (nineL f).toArray 82)).alloc (.cells (nineL q).toArray 82)).alloc (.cells #[.int .i8 0, .int .i8 0, .int .i8 0, .int .i8 0, .int .i8 0, .int .i8 0, .int .i8 0, .int .i8 0, .int .i8 0] 82) = W0 := ⟨_, rfl⟩
 rw [hW0] at hr1 hr2 hr3 hb0
 obtain ⟨c0, c1, c2, c3, c4, c5, c6, c7, c8⟩ := nine_cells (f := f) hr1
 have HR1 : Hid (Row 82 W0 w.heap.size (nineL f)) := hr1
 have HR2 : Hid (Row 82 W0 (w.heap.size + 1) (nineL q)) := hr2
 have HR3 : Hid (Row 82 W0 (w.heap.size + 1 + 1) (nineL (takF f q 0))) := hr3
 have HB0 := Lib.hid hb0
 have hW : ((w.alloc (.cells #[.int .i8 (f 0), .int .i8 (f 1), .int .i8 (f 2), .int .i8 (f 3), .int .i8 (f 4), .int .i8 (f 5), .int .i8 (f 6), .int .i8 (f 7), .int .i8 (f 8)] 82)).alloc (.cells #[.int .i8 (q 0), .int .i8 (q 1), .int .i8 (q 2), .int .i8 (q 3), .int .i8 (q 4), .int .i8 (q 5), .int .i8 (q 6), .int .i8 (q 7), .int .i8 (q 8)] 82)).alloc (.cells #[.int .i8 0, .int .i8 0, .int .i8 0, .int .i8 0, .int .i8 0, .int .i8 0, .int .i8 0, .int .i8 0, .int .i8 0] 82) = W0 := hW0
 clear hr1 hr2 hr3 hb0 hW0
 unfold nineV
 go_enter Tryd.func53, Tryd.ntmps53
 go_wp2
 go_loopw [14] (fun i wr => ∃ k : Nat, k ≤ 9 ∧ i = .int .i64 k ∧ Row 82 wr (w.heap.size + 1) (nineL q) ∧ Row 82 wr (w.heap.size + 1 + 1) (nineL (takF f q k)) ∧ Below w.heap.size w wr) (fun i _ => 9 - (intOf i).toNat)
 case atStart => exact ⟨0, Nat.zero_le _, rfl, HR2.out, HR3.out, HB0.out⟩
 case round =>
  obtain ⟨k, hk, rfl, hrow, hrow1, hbel⟩ := hrel
  clear HR1 HR2 HR3 HB0
  by_cases hlt : k < 9
  ·have hidx := fun W => index9 f hlt W
   obtain ⟨X, hX⟩ : ∃ X : Nat, f k = (X : Int) := ⟨(f k).toNat, by have := (HF.out k hlt).1; omega⟩
   have hX9 : X < 9 := by have := (HF.out k hlt).2; omega
   have gX9 : (X : Int) < 9 := by omega
   have gk9 : (k : Int) < 9 := by omega
   rw [hX] at hidx
   have hq := hrow.cell k
   rw [nine_get _ hlt] at hq
   have ht := hrow1.cell X
   rw [nine_get _ hX9] at ht
   have hfr := hrow1.free X
   have hst := hrow1.store X (.int .i8 (q k))
   rw [nine_set _ hX9] at hst
   have HST : Hid (Row 82 (wr.setCell ⟨w.heap.size + 1 + 1, X, none⟩ (.int .i8 (q k))) (w.heap.size + 1 + 1) (nineL (takF f q (k + 1)))) := by
    show Row _ _ _ _
    have e : takF f q (k + 1) = upd (takF f q k) X (q k) := by show upd (takF f q k) (f k).toNat (q k) = _; rw [hX, Int.toNat_natCast]
    rw [e]; exact hst
   have H1 := Lib.hid (hrow.other ⟨w.heap.size + 1 + 1, X, none⟩ (by dsimp only; omega) (.int .i8 (q k)))
   have HB := Lib.hid (hbel.setCell (p := ⟨w.heap.size + 1 + 1, X, none⟩) (by dsimp only; omega) (.int .i8 (q k)))
   obtain ⟨y, hy⟩ : ∃ y, q k = y := ⟨_, rfl⟩
   rw [hy] at hq HST H1 HB
   clear hrow hrow1 hbel hst hX hy
   go_wp2
   go_roundw
   case rel => exact ⟨k + 1, by omega, by go_num, H1.out, HST.out, HB.out⟩
   case measure => simp [intOf]; omega
  ·obtain rfl : k = 9 := by omega
   obtain ⟨T, hT⟩ : ∃ T, takF f q 9 = T := ⟨_, rfl⟩
   rw [hT] at hrow1
   have HT := Lib.hid hT
   obtain ⟨t0, t1, t2, t3, t4, t5, t6, t7, t8⟩ := nine_cells (f := T) hrow1
   have HROW := Lib.hid hrow1
   have HB := Lib.hid hbel
   obtain ⟨wo, hwo⟩ : ∃ wo : World, wo = wr := ⟨_, rfl⟩
   subst hwo
   clear hrow hrow1 hbel hT
   go_wp2
   clear t0 t1 t2 t3 t4 t5 t6 t7 t8
   go_loopw [8, 25] (fun sv i wr => ∃ k : Nat, k ≤ 9 ∧ sv = .int .i64 (sgAll T k) ∧ i = .int .i64 k ∧ wr = wo) (fun _ i _ => 9 - (intOf i).toNat)
   case atStart => exact ⟨0, Nat.zero_le _, rfl, rfl, rfl⟩
   case round =>
    obtain ⟨i, hi, rfl, rfl, hwr⟩ := hrel
    subst hwr
    by_cases hlt : i < 9
    ·have hidx := fun W => index9 T hlt W
     have gi9 : (i : Int) ≤ 9 := by omega
     have gi0 : (0 : Int) ≤ (i : Int) := by omega
     have HSG : Hid (sgAll T (i + 1) = sgRow T i i (sgAll T i)) := rfl
     have H1 := Lib.hid (sgAll_one T i)
     obtain ⟨s0, hs0⟩ : ∃ s0, sgAll T i = s0 := ⟨_, rfl⟩
     rw [hs0] at HSG H1
     rw [hs0]
     obtain ⟨x, hx⟩ : ∃ x, T i = x := ⟨_, rfl⟩
     rw [hx] at hidx
     have HX := Lib.hid hx
     clear hs0 hx
     obtain ⟨wi, hwi⟩ : ∃ wi : World, wi = wr := ⟨_, rfl⟩
     subst hwi
     go_wp2
     go_loopw [8, 32] (fun sv jv wr => ∃ j : Nat, j ≤ i ∧ sv = .int .i64 (sgRow T i j s0) ∧ jv = .int .i64 j ∧ wr = wi) (fun _ jv _ => i - (intOf jv).toNat)
     case atStart => exact ⟨0, Nat.zero_le _, rfl, rfl, rfl⟩
     case round =>
      obtain ⟨j, hj, rfl, rfl, hwr⟩ := hrel
      subst hwr
      by_cases hjl : j < i
      ·have hcj := HROW.out.cell j
       rw [nine_get _ (by omega)] at hcj
       have HST : Hid (sgRow T i (j + 1) s0 = if x < T j then -(sgRow T i j s0) else sgRow T i j s0) := by show _ = _; rw [← HX.out]; rfl
       have hone := sgRow_one T i j s0 H1.out
       obtain ⟨s1, hs1⟩ : ∃ s1, sgRow T i j s0 = s1 := ⟨_, rfl⟩
       obtain ⟨y, hy⟩ : ∃ y, T j = y := ⟨_, rfl⟩
       rw [hs1, hy] at HST
       rw [hs1] at hone ⊢
       rw [hy] at hcj
       have hneg : IntKind.i64.wrap (-s1) = -s1 := IntWalk.i64_in _ (by unfold One at hone; omega)
       clear hs1 hy hone
       by_cases hxy : x < y
       ·have HV : Hid (sgRow T i (j + 1) s0 = -s1) := by show _ = _; rw [HST.out, if_pos hxy]
        go_wp2
        go_roundw
        case rel => exact ⟨j + 1, by omega, by rw [HV.out], by go_num, trivial⟩
        case measure => simp [intOf]; omega
       ·have HV : Hid (sgRow T i (j + 1) s0 = s1) := by show _ = _; rw [HST.out, if_neg hxy]
        go_wp2
        go_roundw
        case rel => exact ⟨j + 1, by omega, by rw [HV.out], by go_num, trivial⟩
        case measure => simp [intOf]; omega
      ·obtain rfl : j = i := by omega
       go_wp2
       go_roundw
       case rel => exact ⟨j + 1, by omega, by rw [HSG.out], by go_num, trivial⟩
       case measure => simp [intOf]; omega
    ·obtain rfl : i = 9 := by omega
     go_wp2
     go_ret
     exact ⟨by rw [HT.out]; rfl, HB.out⟩
end Go.Proofs.YtllhejjcmfiebaaDoor
namespace Go.Proofs.YtllhejjcmfiebaaDoor
open Go.RowKit Go.Shelf
theorem posE_zero {n : Int} {l : List Int} (h : posE n l = 0) : ∃ N : Nat, n = (N : Int) ∧ 2 ≤ N ∧ N ≤ 9 ∧ l.length = N ∧ ∀ j, j < N → rngAt N l j = true := by
 unfold posE posR at h
 split at h
 ·rename_i hc
  simp only [Bool.and_eq_true, sizeB, posB, decide_eq_true_eq] at hc
  obtain ⟨⟨h1, h2⟩, ⟨h3, h4⟩, _⟩ := hc
  refine ⟨n.toNat, by omega, by omega, by omega, h3, fun j hj => List.all_eq_true.1 h4 j (List.mem_range.2 hj)⟩
 ·cases h
theorem posF_sm {N : Nat} {l : List Int} (hN : N ≤ 9) (hl : l.length = N) (h : ∀ j, j < N → rngAt N l j = true) : Sm (posF l l.length) := by
 intro j hj
 unfold posF
 split
 ·have := h j (by omega)
  simp only [rngAt, Bool.and_eq_true, decide_eq_true_eq] at this
  omega
 ·omega
def signL (p q : List Int) : Int := sgAll (takF (posF p p.length) (posF q q.length) 9) 9
set_option maxRecDepth 100000 in
set_option maxHeartbeats 4000000 in
theorem sign2_go (vp vq : Value) (n : Int) (p q : List Int) (w : World) (hp : SlA w vp (ints p)) (hq : SlA w vq (ints q)) :
  Calls Tryd.prog 18 #[.int .i64 n, vp, vq] w fun e w' => ((posE n p ≠ 0 → e = .returned (.tuple #[.int .i64 0, .int .i64 (posE n p)])) ∧ (posE n p = 0 → posE n q ≠ 0 → e = .returned (.tuple #[.int .i64 0, .int .i64 (posE n q)])) ∧
   (posE n p = 0 → posE n q = 0 → e = .returned (.tuple #[.int .i64 (signL p q), .int .i64 0]))) ∧ Below w.heap.size w w' := by
 have HCP := Lib.hid (fun W (hb : Below w.heap.size w W) => checkPos_go vp n p W (hp.below hb))
 have HCQ := Lib.hid (fun W (hb : Below w.heap.size w W) => checkPos_go vq n q W (hq.below hb))
 have HNP := Lib.hid (fun (h : posE n p = 0) W (hb : Below w.heap.size w W) => by
  obtain ⟨N, _, _, h9, hl, hr⟩ := posE_zero h
  exact newPos_go vp N p W (hp.below hb) h9 hl hr)
 have HNQ := Lib.hid (fun (h : posE n q = 0) W (hb : Below w.heap.size w W) => by
  obtain ⟨N, _, _, h9, hl, hr⟩ := posE_zero h
  exact newPos_go vq N q W (hq.below hb) h9 hl hr)
 have HSG := Lib.hid (fun (h : posE n p = 0) W => by
  obtain ⟨N, _, _, h9, hl, hr⟩ := posE_zero h
  exact sign_go (posF p p.length) (posF q q.length) (posF_sm h9 hl hr) W)
 have HSL : Hid (sgAll (takF (posF p p.length) (posF q q.length) 9) 9 = signL p q) := rfl
 obtain ⟨pp, cp, rfl, hp1, hp2⟩ := hp.form
 obtain ⟨pq, cq, rfl, hq1, hq2⟩ := hq.form
 obtain ⟨ep, hep⟩ : ∃ ep, posE n p = ep := ⟨_, rfl⟩
 obtain ⟨eq, heq⟩ : ∃ eq, posE n q = eq := ⟨_, rfl⟩
 rw [hep] at HCP HNP HSG
 rw [heq] at HCQ HNQ
 rw [hep, heq]
 have hrow := row_new 23 w #[.slice pp p.length cp, .slice pq q.length cq]
 have HROW := Lib.hid hrow
 have HB := Lib.hid ((Below.refl w.heap.size w).alloc (Nat.le_refl _) (.cells #[.slice pp p.length cp, .slice pq q.length cq] 23))
 clear hp hq hep heq hrow
 go_enter Tryd.func18, Tryd.ntmps18
 go_wp2
 go_loopw [15] (fun i wr => ∃ k : Nat, k ≤ 2 ∧ i = .int .i64 k ∧ Row 23 wr w.heap.size [.slice pp p.length cp, .slice pq q.length cq] ∧ (1 ≤ k → ep = 0) ∧ (2 ≤ k → eq = 0) ∧ Below w.heap.size w wr) (fun i _ => 2 - (intOf i).toNat)
 case atStart => exact ⟨0, by omega, rfl, HROW.out, fun h => by omega, fun h => by omega, HB.out⟩
 case round =>
  obtain ⟨k, hk, rfl, hrow, h1, h2, hbel⟩ := hrel
  clear HROW HB
  have k0 := hrow.cell 0
  have k1 := hrow.cell 1
  simp only [List.getElem?_cons_zero, List.getElem?_cons_succ] at k0 k1
  have HROW := Lib.hid hrow
  have HB := Lib.hid hbel
  clear hrow hbel
  rcases (by omega : k = 0 ∨ k = 1 ∨ k = 2) with hk0 | hk0 | hk0
  ·subst hk0
   clear h1 h2
   by_cases he : ep = 0
   ·have HE := Lib.hid he
    subst he
    go_wp2_with (first | (go_at_call 16; refine (HCP.out _ HB.out).mono ?_; rintro e w1 ⟨rfl, hb1⟩; have HB1 := Lib.hid (HB.out.trans (hb1.mono HB.out.size)); have HR1 := Lib.hid (HROW.out.below hb1 HROW.out.lt); clear hb1))
    go_roundw
    case rel => exact ⟨1, by omega, rfl, HR1.out, by simp, by simp, HB1.out⟩
    case measure => simp [intOf]
   ·have hne : (ep != 0) = true := by rw [bne_iff_ne]; exact he
    have HE := Lib.hid he
    clear he
    go_wp2_with (first | (go_at_call 16; refine (HCP.out _ HB.out).mono ?_; rintro e w1 ⟨rfl, hb1⟩; have HB1 := Lib.hid (HB.out.trans (hb1.mono HB.out.size)); clear hb1))
    go_ret2
    exact ⟨⟨fun _ => rfl, fun h => absurd h HE.out, fun h => absurd h HE.out⟩, HB1.out⟩
  ·have he0 := h1 (by omega)
   subst he0 hk0
   clear h1 h2
   by_cases he : eq = 0
   ·have HE := Lib.hid he
    subst he
    go_wp2_with (first | (go_at_call 16; refine (HCQ.out _ HB.out).mono ?_; rintro e w1 ⟨rfl, hb1⟩; have HB1 := Lib.hid (HB.out.trans (hb1.mono HB.out.size)); have HR1 := Lib.hid (HROW.out.below hb1 HROW.out.lt); clear hb1))
    go_roundw
    case rel => exact ⟨2, by omega, rfl, HR1.out, by simp, by simp, HB1.out⟩
    case measure => simp [intOf]
   ·have hne : (eq != 0) = true := by rw [bne_iff_ne]; exact he
    have HE := Lib.hid he
    clear he
    go_wp2_with (first | (go_at_call 16; refine (HCQ.out _ HB.out).mono ?_; rintro e w1 ⟨rfl, hb1⟩; have HB1 := Lib.hid (HB.out.trans (hb1.mono HB.out.size)); clear hb1))
    go_ret2
    exact ⟨⟨fun _ => rfl, fun h => absurd h HE.out⟩, HB1.out⟩
  ·have he0 := h1 (by omega)
   have he1 := h2 (by omega)
   subst he0 he1 hk0
   clear h1 h2
   go_wp2_with fail
   refine (HNP.out trivial _ HB.out).mono ?_
   rintro e w1 ⟨rfl, hb1⟩
   have HB1 := Lib.hid (HB.out.trans (hb1.mono HB.out.size))
   clear hb1
   go_wp2_with fail
   refine (HNQ.out trivial _ HB1.out).mono ?_
   rintro e w2 ⟨rfl, hb2⟩
   have HB2 := Lib.hid (HB1.out.trans (hb2.mono HB1.out.size))
   clear hb2
   go_wp2_with fail
   refine (HSG.out trivial _).mono ?_
   rintro e w3 ⟨rfl, hb3⟩
   have HB3 := Lib.hid (HB2.out.trans (hb3.mono HB2.out.size))
   clear hb3
   rw [HSL.out]
   go_wp2
   go_ret2
   exact ⟨rfl, HB3.out⟩
end Go.Proofs.YtllhejjcmfiebaaDoor
namespace Go.Proofs.YtllhejjcmfiebaaDoor
open Go.RowKit Go.Shelf
theorem size_of_check {n : Int} {l : Ps} (h : checkB n l = 0) : sizeB n = true := by
 unfold checkB at h
 cases hs : sizeB n with
 | true => rfl
 | false => rw [hs] at h; simp at h
end Go.Proofs.YtllhejjcmfiebaaDoor
namespace Go.Proofs.YtllhejjcmfiebaaDoor
open Go.RowKit Go.Shelf
set_option maxRecDepth 100000 in
set_option maxHeartbeats 4000000 in
theorem given_nil (v : Value) (n : Int) (l : Ps) (w : World) (hl : SlP w v l) (ht : Tab w) (h : checkB n l = 0) :
  Calls Tryd.prog 49 #[.int .i64 n, v, .slice none 0 0] w fun e w' => ∃ g, (e = .returned (.tuple #[.pointer (some ⟨g, 0, none⟩), .slice none 0 0, .int .i64 0]) ∧ w.heap.size ≤ g ∧ BoardR w' g n.toNat (toE l)) ∧ Below w.heap.size w w' := by
 have HN := Lib.hid (new_go v n l w hl ht)
 rw [h] at HN
 obtain ⟨p, cap, rfl, hl1, hl2⟩ := hl.len
 clear hl ht h
 go_enter Tryd.func49, Tryd.ntmps49
 go_wp2_with (first | (go_at_call 67; refine (HN.out).mono ?_; rintro e w1 ⟨-, he, hb1⟩; obtain ⟨b, rfl, hb, hbr⟩ := he rfl; have HB1 := Lib.hid hb1; have HBR := Lib.hid hbr; clear he hb1 hbr))
 go_loopw [11, 25] (fun ps i wr => ps = .slice none 0 0 ∧ i = .int .i64 0 ∧ wr = w1) (fun _ i _ => 0)
 case atStart => exact ⟨rfl, rfl, rfl⟩
 case round =>
  obtain ⟨rfl, rfl, rfl⟩ := hrel
  go_wp2_with fail
  go_ret3
  exact ⟨b, ⟨rfl, hb, HBR.out⟩, HB1.out⟩
end Go.Proofs.YtllhejjcmfiebaaDoor
