/- The program's positions. -/
import Derived.Test.YtllhejjcmfiebaaDoorS11
set_option linter.unusedVariables false
set_option linter.unusedSimpArgs false
set_option linter.unnecessarySimpa false
namespace Go.Proofs.YtllhejjcmfiebaaDoor
open Go.RowKit Go.Shelf
def nineL (f : Nat → Int) : List Value := [.int .i8 (f 0), .int .i8 (f 1), .int .i8 (f 2), .int .i8 (f 3), .int .i8 (f 4), .int .i8 (f 5), .int .i8 (f 6), .int .i8 (f 7), .int .i8 (f 8)]
def nineV (f : Nat → Int) : Value := .agg #[.int .i8 (f 0), .int .i8 (f 1), .int .i8 (f 2), .int .i8 (f 3), .int .i8 (f 4), .int .i8 (f 5), .int .i8 (f 6), .int .i8 (f 7), .int .i8 (f 8)]
theorem nine_get (f : Nat → Int) {k : Nat} (hk : k < 9) : (nineL f)[k]? = some (.int .i8 (f k)) := by
 rcases (by omega : k = 0 ∨ k = 1 ∨ k = 2 ∨ k = 3 ∨ k = 4 ∨ k = 5 ∨ k = 6 ∨ k = 7 ∨ k = 8) with rfl | rfl | rfl | rfl | rfl | rfl | rfl | rfl | rfl <;> rfl
def upd (f : Nat → Int) (k : Nat) (v : Int) : Nat → Int := fun j => if j = k then v else f j
theorem nine_set (f : Nat → Int) {k : Nat} (hk : k < 9) (v : Int) : (nineL f).set k (.int .i8 v) = nineL (upd f k v) := by
 rcases (by omega : k = 0 ∨ k = 1 ∨ k = 2 ∨ k = 3 ∨ k = 4 ∨ k = 5 ∨ k = 6 ∨ k = 7 ∨ k = 8) with rfl | rfl | rfl | rfl | rfl | rfl | rfl | rfl | rfl <;> rfl
theorem nine_cells {T g : Nat} {w : World} {f : Nat → Int} (h : Row T w g (nineL f)) :
  w.cell? ⟨g, 0, none⟩ = some (.int .i8 (f 0)) ∧ w.cell? ⟨g, 1, none⟩ = some (.int .i8 (f 1)) ∧ w.cell? ⟨g, 2, none⟩ = some (.int .i8 (f 2)) ∧ w.cell? ⟨g, 3, none⟩ = some (.int .i8 (f 3)) ∧ w.cell? ⟨g, 4, none⟩ = some (.int .i8 (f 4)) ∧
  w.cell? ⟨g, 5, none⟩ = some (.int .i8 (f 5)) ∧ w.cell? ⟨g, 6, none⟩ = some (.int .i8 (f 6)) ∧ w.cell? ⟨g, 7, none⟩ = some (.int .i8 (f 7)) ∧ w.cell? ⟨g, 8, none⟩ = some (.int .i8 (f 8)) :=
 ⟨h.cell 0, h.cell 1, h.cell 2, h.cell 3, h.cell 4, h.cell 5, h.cell 6, h.cell 7, h.cell 8⟩
theorem i8_small {x : Int} (h0 : 0 ≤ x) (h : x < 9) : IntKind.i8.wrap x = x := by
 simp [IntKind.wrap, IntKind.bits, IntKind.signed]; omega
def ownF (k : Nat) : Nat → Int := fun j => if j < k then (j : Int) else 0
def posF (l : List Int) (k : Nat) : Nat → Int := fun j => if j < k then l.getD j 0 else (j : Int)
theorem ownF_step (k : Nat) : upd (ownF k) k k = ownF (k + 1) := by
 funext j; unfold upd ownF
 by_cases h : j = k
 ·subst h; simp
 ·by_cases h2 : j < k
  ·have : j < k + 1 := by omega
   simp [h, h2, this]
  ·have : ¬ j < k + 1 := by omega
   simp [h, h2, this]
theorem posF_step (l : List Int) (k : Nat) : upd (posF l k) k (l.getD k 0) = posF l (k + 1) := by
 funext j; unfold upd posF
 by_cases h : j = k
 ·subst h; simp
 ·by_cases h2 : j < k
  ·have : j < k + 1 := by omega
   simp [h, h2, this]
  ·have : ¬ j < k + 1 := by omega
   simp [h, h2, this]
theorem nine_own (l : List Int) : nineL (ownF 9) = nineL (posF l 0) := by
 unfold nineL ownF posF; simp
set_option maxRecDepth 100000 in
set_option maxHeartbeats 4000000 in
theorem newPos_go (v : Value) (n : Nat) (l : List Int) (w : World) (hl : SlA w v (ints l)) (hn9 : n ≤ 9) (hlen : l.length = n) (hr : ∀ j, j < n → rngAt n l j = true) :
  Calls Tryd.prog 52 #[v] w fun e w' => e = .returned (nineV (posF l l.length)) ∧ Below w.heap.size w w' := by
 obtain ⟨p, cap, rfl, hl1, hl2⟩ := hl.form
 have HL := Lib.hid hl
 have HR := Lib.hid hr
 have HLEN := Lib.hid hlen
 have hl9 : l.length ≤ 9 := by omega
 clear hl hr hlen
 go_enter Tryd.func52, Tryd.ntmps52
 go_wp2
 have hz := row_new 82 (w.alloc (.cells #[.int .i8 0, .int .i8 0, .int .i8 0, .int .i8 0, .int .i8 0, .int .i8 0, .int .i8 0, .int .i8 0, .int .i8 0] 82)) #[.int .i8 0, .int .i8 0, .int .i8 0, .int .i8 0, .int .i8 0, .int .i8 0, .int .i8 0, .int .i8 0, .int .i8 0]
 rw [World.size_alloc] at hz
 have hz1 := (row_new 82 w #[.int .i8 0, .int .i8 0, .int .i8 0, .int .i8 0, .int .i8 0, .int .i8 0, .int .i8 0, .int .i8 0, .int .i8 0]).alloc (.cells #[.int .i8 0, .int .i8 0, .int .i8 0, .int .i8 0, .int .i8 0, .int .i8 0, .int .i8 0, .int .i8 0, .int .i8 0] 82)
 have hb0 := ((Below.refl w.heap.size w).alloc (Nat.le_refl _) (.cells #[.int .i8 0, .int .i8 0, .int .i8 0, .int .i8 0, .int .i8 0, .int .i8 0, .int .i8 0, .int .i8 0, .int .i8 0] 82)).alloc (by simp) (.cells #[.int .i8 0, .int .i8 0, .int .i8 0, .int .i8 0, .int .i8 0, .int .i8 0, .int .i8 0, .int .i8 0, .int .i8 0] 82)
 have HZ : Hid (Row 82 _ (w.heap.size + 1) (nineL (ownF 0))) := hz
 have HZ1 : Hid (Row 82 _ w.heap.size (nineL (ownF 0))) := hz1
 have HB0 := Lib.hid hb0
 clear hz hz1 hb0
 go_loopw [7] (fun i wr => ∃ k : Nat, k ≤ 9 ∧ i = .int .i64 k ∧ Row 82 wr (w.heap.size + 1) (nineL (ownF k)) ∧ Row 82 wr w.heap.size (nineL (ownF 0)) ∧ Below w.heap.size w wr) (fun i _ => 9 - (intOf i).toNat)
 case atStart => exact ⟨0, Nat.zero_le _, rfl, HZ.out, HZ1.out, HB0.out⟩
 case round =>
  obtain ⟨k, hk, rfl, hrow, hrow1, hbel⟩ := hrel
  clear HZ HZ1 HB0
  by_cases hlt : k < 9
  ·have hc := hrow.cell k
   rw [nine_get _ hlt] at hc
   have hf := hrow.free k
   have h8 : IntKind.i8.wrap (k : Int) = (k : Int) := i8_small (by omega) (by omega)
   have hs := hrow.store k (.int .i8 (k : Int))
   rw [nine_set _ hlt, ownF_step] at hs
   have HS := Lib.hid hs
   have H1 := Lib.hid (hrow1.other ⟨w.heap.size + 1, k, none⟩ (by dsimp only; omega) (.int .i8 (k : Int)))
   have HB := Lib.hid (hbel.setCell (p := ⟨w.heap.size + 1, k, none⟩) (by dsimp only; omega) (.int .i8 (k : Int)))
   clear hrow hrow1 hbel hs
   go_wp2
   go_roundw
   case rel => exact ⟨k + 1, by omega, by go_num, HS.out, H1.out, HB.out⟩
   case measure => simp [intOf]; omega
  ·obtain rfl : k = 9 := by omega
   rw [nine_own l] at hrow
   have HROW := Lib.hid hrow
   have HROW1 := Lib.hid hrow1
   have HB := Lib.hid hbel
   clear hrow hrow1 hbel
   obtain ⟨wo, hwo⟩ : ∃ wo : World, wo = wr := ⟨_, rfl⟩
   subst hwo
   go_wp2
   go_loopw [17] (fun i wr => ∃ k : Nat, k ≤ l.length ∧ i = .int .i64 k ∧ Row 82 wr (w.heap.size + 1) (nineL (posF l k)) ∧ Row 82 wr w.heap.size (nineL (ownF 0)) ∧ Below w.heap.size w wr) (fun i _ => l.length - (intOf i).toNat)
   case atStart => exact ⟨0, Nat.zero_le _, rfl, HROW.out, HROW1.out, HB.out⟩
   case round =>
    obtain ⟨k, hk, rfl, hrow, hrow1, hbel⟩ := hrel
    clear HROW HROW1 HB
    by_cases hlt : k < l.length
    ·obtain ⟨ad, cap', hv, _, _, hg, hcx⟩ := (HL.out.below hbel).int_at k hlt
     cases hv
     have hrg := HR.out k (by have := HLEN.out; omega)
     simp only [rngAt, Bool.and_eq_true, decide_eq_true_eq] at hrg
     have hk9 : k < 9 := by omega
     have gk9 : (k : Int) < 9 := by omega
     have hc := hrow.cell k
     rw [nine_get _ hk9] at hc
     have hf := hrow.free k
     have hs := hrow.store k (.int .i8 (l.getD k 0))
     rw [nine_set _ hk9, posF_step] at hs
     have HS := Lib.hid hs
     have H1 := Lib.hid (hrow1.other ⟨w.heap.size + 1, k, none⟩ (by dsimp only; omega) (.int .i8 (l.getD k 0)))
     have HB := Lib.hid (hbel.setCell (p := ⟨w.heap.size + 1, k, none⟩) (by dsimp only; omega) (.int .i8 (l.getD k 0)))
     have h8 : IntKind.i8.wrap (l.getD k 0) = l.getD k 0 := i8_small hrg.1 (by omega)
     obtain ⟨x, hx⟩ : ∃ x, l.getD k 0 = x := ⟨_, rfl⟩
     rw [hx] at hcx h8 H1 HB HS
     clear hrow hrow1 hbel hs hrg hx
     go_wp2
     go_roundw
     case rel => exact ⟨k + 1, by omega, by go_num, HS.out, H1.out, HB.out⟩
     case measure => simp [intOf]; omega
    ·obtain rfl : k = l.length := by omega
     obtain ⟨F, hF⟩ : ∃ F, posF l l.length = F := ⟨_, rfl⟩
     rw [hF] at hrow
     have HF := Lib.hid hF
     obtain ⟨c0, c1, c2, c3, c4, c5, c6, c7, c8⟩ := nine_cells hrow
     obtain ⟨d0, d1, d2, d3, d4, d5, d6, d7, d8⟩ := nine_cells hrow1
     have f0 := hrow1.free 0
     have f1 := hrow1.free 1
     have f2 := hrow1.free 2
     have f3 := hrow1.free 3
     have f4 := hrow1.free 4
     have f5 := hrow1.free 5
     have f6 := hrow1.free 6
     have f7 := hrow1.free 7
     have f8 := hrow1.free 8
     have hR := (((((((((hrow1.store 0 (.int .i8 (F 0))).store 1 (.int .i8 (F 1))).store 2 (.int .i8 (F 2))).store 3 (.int .i8 (F 3))).store 4 (.int .i8 (F 4))).store 5 (.int .i8 (F 5))).store 6 (.int .i8 (F 6))).store 7 (.int .i8 (F 7))).store 8 (.int .i8 (F 8)))
     have hR2 : Row 82 _ w.heap.size (nineL F) := hR
     have HRR := Lib.hid hR2
     have HBB := Lib.hid (((((((((hbel.setCell (p := ⟨w.heap.size, 0, none⟩) (Nat.le_refl _) (.int .i8 (F 0))).setCell (p := ⟨w.heap.size, 1, none⟩) (Nat.le_refl _) (.int .i8 (F 1))).setCell (p := ⟨w.heap.size, 2, none⟩) (Nat.le_refl _) (.int .i8 (F 2))).setCell (p := ⟨w.heap.size, 3, none⟩) (Nat.le_refl _) (.int .i8 (F 3))).setCell (p := ⟨w.heap.size, 4, none⟩) (Nat.le_refl _) (.int .i8 (F 4))).setCell (p := ⟨w.heap.size, 5, none⟩) (Nat.le_refl _) (.int .i8 (F 5))).setCell (p := ⟨w.heap.size, 6, none⟩) (Nat.le_refl _) (.int .i8 (F 6))).setCell (p := ⟨w.heap.size, 7, none⟩) (Nat.le_refl _) (.int .i8 (F 7))).setCell (p := ⟨w.heap.size, 8, none⟩) (Nat.le_refl _) (.int .i8 (F 8)))
     clear hrow hrow1 hbel hR hR2 hF
     go_wp2
     obtain ⟨e0, e1, e2, e3, e4, e5, e6, e7, e8⟩ := nine_cells HRR.out
     refine bodyPost_ret (v := nineV F) (by simp [results, Tryd.results52, go_sem, e0, e1, e2, e3, e4, e5, e6, e7, e8, nineV]) rfl ⟨by rw [HF.out], HBB.out⟩
end Go.Proofs.YtllhejjcmfiebaaDoor
namespace Go.Proofs.YtllhejjcmfiebaaDoor
open Go.RowKit Go.Shelf
def One (s : Int) : Prop := s = 1 ∨ s = -1
theorem One.neg {s : Int} (h : One s) : One (-s) := by rcases h with rfl | rfl; exact .inr rfl; exact .inl rfl
end Go.Proofs.YtllhejjcmfiebaaDoor
namespace Go.Proofs.YtllhejjcmfiebaaDoor
open Go.RowKit Go.Shelf
theorem posE_zero {n : Int} {l : List Int} (h : posE n l = 0) : ∃ N : Nat, n = (N : Int) ∧ 2 ≤ N ∧ N ≤ 9 ∧ l.length = N ∧ ∀ j, j < N → rngAt N l j = true := by
 unfold posE posR at h
 split at h
 ·rename_i hc
  simp only [Bool.and_eq_true, sizeB, posB, decide_eq_true_eq] at hc
  obtain ⟨⟨h1, h2⟩, ⟨h3, h4⟩, _⟩ := hc
  refine ⟨n.toNat, by omega, by omega, by omega, h3, fun j hj => List.all_eq_true.1 h4 j (List.mem_range.2 hj)⟩
 ·cases h
end Go.Proofs.YtllhejjcmfiebaaDoor
namespace Go.Proofs.YtllhejjcmfiebaaDoor
open Go.RowKit Go.Shelf
theorem size_of_check {n : Int} {l : Ps} (h : checkB n l = 0) : sizeB n = true := by
 unfold checkB at h
 cases hs : sizeB n with
 | true => rfl
 | false => rw [hs] at h; simp at h
end Go.Proofs.YtllhejjcmfiebaaDoor
namespace Go.Proofs.YtllhejjcmfiebaaDoor
open Go.RowKit Go.Shelf
end Go.Proofs.YtllhejjcmfiebaaDoor
