/- The program's positions: hole, moved, has. -/
import Derived.Test.YtllhejjcmfiebaaDoorS34
import Derived.RegionTactic
import Derived.BigRegion
set_option linter.unusedVariables false
set_option linter.unusedSimpArgs false
set_option linter.unnecessarySimpa false
namespace Go.Proofs.YtllhejjcmfiebaaDoor
open Go.RowKit Go.Shelf

/-- nine small numbers stored over a row -/
def st9 (w : World) (g : Nat) (F : Nat → Int) : World := ((((((((w.setCell ⟨g, 0, none⟩ (.int .i8 (F 0))).setCell ⟨g, 1, none⟩ (.int .i8 (F 1))).setCell ⟨g, 2, none⟩ (.int .i8 (F 2))).setCell ⟨g, 3, none⟩ (.int .i8 (F 3))).setCell ⟨g, 4, none⟩ (.int .i8 (F 4))).setCell ⟨g, 5, none⟩ (.int .i8 (F 5))).setCell ⟨g, 6, none⟩ (.int .i8 (F 6))).setCell ⟨g, 7, none⟩ (.int .i8 (F 7))).setCell ⟨g, 8, none⟩ (.int .i8 (F 8))
theorem row_st9 {w : World} {g : Nat} {f : Nat → Int} (F : Nat → Int) (h : Row 82 w g (nineL f)) : Row 82 (st9 w g F) g (nineL F) :=
  (((((((((h.store 0 (.int .i8 (F 0))).store 1 (.int .i8 (F 1))).store 2 (.int .i8 (F 2))).store 3 (.int .i8 (F 3))).store 4 (.int .i8 (F 4))).store 5 (.int .i8 (F 5))).store 6 (.int .i8 (F 6))).store 7 (.int .i8 (F 7))).store 8 (.int .i8 (F 8)))
theorem other_st9 {T g' : Nat} {xs : List Value} {w : World} {g : Nat} (F : Nat → Int) (h : Row T w g' xs) (hne : g ≠ g') : Row T (st9 w g F) g' xs :=
  ((((((((h.other ⟨g, 0, none⟩ hne (.int .i8 (F 0))).other ⟨g, 1, none⟩ hne (.int .i8 (F 1))).other ⟨g, 2, none⟩ hne (.int .i8 (F 2))).other ⟨g, 3, none⟩ hne (.int .i8 (F 3))).other ⟨g, 4, none⟩ hne (.int .i8 (F 4))).other ⟨g, 5, none⟩ hne (.int .i8 (F 5))).other ⟨g, 6, none⟩ hne (.int .i8 (F 6))).other ⟨g, 7, none⟩ hne (.int .i8 (F 7))).other ⟨g, 8, none⟩ hne (.int .i8 (F 8))
theorem below_st9 {B : Nat} {w w' : World} {g : Nat} (F : Nat → Int) (h : Below B w w') (hg : B ≤ g) : Below B w (st9 w' g F) :=
  (((((((((h.setCell (p := ⟨g, 0, none⟩) hg (.int .i8 (F 0))).setCell (p := ⟨g, 1, none⟩) hg (.int .i8 (F 1))).setCell (p := ⟨g, 2, none⟩) hg (.int .i8 (F 2))).setCell (p := ⟨g, 3, none⟩) hg (.int .i8 (F 3))).setCell (p := ⟨g, 4, none⟩) hg (.int .i8 (F 4))).setCell (p := ⟨g, 5, none⟩) hg (.int .i8 (F 5))).setCell (p := ⟨g, 6, none⟩) hg (.int .i8 (F 6))).setCell (p := ⟨g, 7, none⟩) hg (.int .i8 (F 7))).setCell (p := ⟨g, 8, none⟩) hg (.int .i8 (F 8)))
set_option maxRecDepth 100000 in
set_option maxHeartbeats 2000000 in
theorem idx_go (f : Nat → Int) (h g : Nat) (w : World) (hr : Row 82 w g (nineL f)) (hh : h < 9) (h0 : f h = 0) (hall : ∀ j, j < h → f j ≠ 0) :
    Calls Tryd.prog 89 #[.slice (some ⟨g, 0, none⟩) 9 9, .int .i8 0] w fun e w' => e = .returned (.int .i64 (h : Nat)) ∧ Below w.heap.size w w' := by
  have HR := Lib.hid hr
  have HALL := Lib.hid hall
  have H0 := Lib.hid h0
  clear hr hall h0
  go_enter Tryd.func89, Tryd.ntmps89
  go_wp2
  go_loopw [8] (fun i wr => ∃ k : Nat, k ≤ h ∧ i = .int .i64 k ∧ Below w.heap.size w wr) (fun i _ => h - (intOf i).toNat)
  case atStart => exact ⟨0, Nat.zero_le _, rfl, Below.refl _ _⟩
  case round =>
    obtain ⟨k, hk, rfl, hbel⟩ := hrel
    have hk9 : k < 9 := by omega
    have gk9 : (k : Int) < 9 := by omega
    have hc := (HR.out.below hbel HR.out.lt).cell k
    rw [nine_get _ hk9] at hc
    have HB := Lib.hid hbel
    clear hbel
    by_cases hkh : k < h
    · have hne := HALL.out k hkh
      obtain ⟨y, hy⟩ : ∃ y, f k = y := ⟨_, rfl⟩
      rw [hy] at hne hc
      have hd : ((0 : Int) == y) = false := by rw [beq_eq_false_iff_ne]; exact fun e => hne e.symm
      clear hy hne
      go_wp2
      go_roundw
      case rel => exact ⟨k + 1, by omega, by go_num, HB.out⟩
      case measure => simp [intOf]; omega
    · obtain rfl : k = h := by omega
      rw [H0.out] at hc
      go_wp2
      go_ret
      exact ⟨rfl, HB.out⟩
set_option maxRecDepth 100000 in
set_option maxHeartbeats 2000000 in
theorem hole_go (f : Nat → Int) (h : Nat) (w : World) (hh : h < 9) (h0 : f h = 0) (hall : ∀ j, j < h → f j ≠ 0) :
    Calls Tryd.prog 75 #[nineV f] w fun e w' => e = .returned (.int .i64 (h : Nat)) ∧ Below w.heap.size w w' := by
  have hr := row_new 82 w (nineL f).toArray
  have hb0 := (Below.refl w.heap.size w).alloc (Nat.le_refl _) (.cells (nineL f).toArray 82)
  obtain ⟨W0, hW0⟩ : ∃ W0, w.alloc (.cells (nineL f).toArray 82) = W0 := ⟨_, rfl⟩
  rw [hW0] at hr hb0
  have HI := Lib.hid (idx_go f h w.heap.size W0 hr hh h0 hall)
  have HB0 := Lib.hid hb0
  have hW : w.alloc (.cells #[.int .i8 (f 0), .int .i8 (f 1), .int .i8 (f 2), .int .i8 (f 3), .int .i8 (f 4), .int .i8 (f 5), .int .i8 (f 6), .int .i8 (f 7), .int .i8 (f 8)] 82) = W0 := hW0
  clear hr hb0 h0 hall hW0
  unfold nineV
  go_enter Tryd.func75, Tryd.ntmps75
  go_wp2_with (first | (go_at_call 89; refine (HI.out).mono ?_; rintro e w1 ⟨rfl, hb1⟩; have HB1 := Lib.hid (HB0.out.trans (hb1.mono HB0.out.size)); clear hb1))
  go_ret
  exact ⟨rfl, HB1.out⟩
theorem and_one {q : Nat} (h : q < 512) : bits .and .u16 (q : Int) 1 = ((q % 2 : Nat) : Int) := by
  have := and_u16 (a := q) (b := 1) h (by omega)
  rw [Nat.and_one_is_mod] at this
  exact this
set_option maxRecDepth 100000 in
set_option maxHeartbeats 2000000 in
theorem has_go (s : Nat) (t : Int) (w : World) (hs : s < 512) :
    Calls Tryd.prog 76 #[.int .u16 (s : Nat), .int .i64 t] w fun e w' => e = .returned (.bool (decide (0 ≤ t) && s.testBit t.toNat)) ∧ Below w.heap.size w w' := by
  obtain ⟨B, hB⟩ : ∃ B, (decide (0 ≤ t) && s.testBit t.toNat) = B := ⟨_, rfl⟩
  rw [hB]
  by_cases h0 : 0 ≤ t
  · obtain ⟨X, rfl⟩ : ∃ X : Nat, t = X := ⟨t.toNat, by omega⟩
    have hB2 : B = decide (s / 2 ^ X % 2 = 1) := by
      rw [← hB, Int.toNat_natCast, bit_fact, decide_eq_true h0]
      rfl
    have hmin : s / 2 ^ (min X 16) = s / 2 ^ X := by
      by_cases h : X ≤ 16
      · rw [Nat.min_eq_left h]
      · rw [Nat.min_eq_right (by omega)]
        have h1 : s < 2 ^ 16 := by omega
        have h2 : (2 : Nat) ^ 16 ≤ 2 ^ X := Nat.pow_le_pow_right (by omega) (by omega)
        rw [Nat.div_eq_of_lt h1, Nat.div_eq_of_lt (by omega)]
    obtain ⟨Q, hQ⟩ : ∃ Q, s / 2 ^ X = Q := ⟨_, rfl⟩
    have hq : Q < 512 := by rw [← hQ]; exact Nat.lt_of_le_of_lt (Nat.div_le_self _ _) hs
    have g1 := shr_fact s (min X 16)
    rw [hmin, hQ] at g1
    rw [hQ] at hB2
    have g2 : IntKind.u16.wrap (Q : Int) = (Q : Int) := u16_small hq
    have g3 := and_one hq
    obtain ⟨R, hR⟩ : ∃ R, Q % 2 = R := ⟨_, rfl⟩
    rw [hR] at g3 hB2
    have hd : (((R : Nat) : Int) == 1) = decide (R = 1) := by
      by_cases h : R = 1
      · subst h; simp
      · have : ((R : Int) == 1) = false := by rw [beq_eq_false_iff_ne]; omega
        rw [this]; simp [h]
    have HB := Lib.hid hB2
    have HD := Lib.hid hd
    have hX : ¬ ((X : Int) < 0) := by omega
    obtain ⟨V, hV⟩ : ∃ V : Bool, (((R : Nat) : Int) == 1) = V := ⟨_, rfl⟩
    rw [hV] at HD
    clear hQ hR hB hB2 hmin hd
    go_enter Tryd.func76, Tryd.ntmps76
    go_wp2
    go_ret
    exact ⟨by rw [HB.out, ← HD.out]; rfl, Below.refl _ _⟩
  · have HB : Hid (B = false) := by show _ = _; rw [← hB, decide_eq_false h0]; rfl
    have hX : t < 0 := by omega
    clear hB
    go_enter Tryd.func76, Tryd.ntmps76
    go_wp2
    go_ret
    exact ⟨by rw [HB.out]; rfl, Below.refl _ _⟩
set_option maxRecDepth 100000 in
set_option maxHeartbeats 4000000 in
theorem moved_go (f : Nat → Int) (a b : Nat) (w : World) (ha : a < 9) (hb : b < 9) (hne : a ≠ b) :
    Calls Tryd.prog 77 #[nineV f, .int .i64 (a : Nat), .int .i64 (b : Nat)] w fun e w' => e = .returned (nineV (upd (upd f a (f b)) b (f a))) ∧ Below w.heap.size w w' := by
  have hr0 := (row_new 82 w (nineL f).toArray).alloc (.cells #[.int .i8 0, .int .i8 0, .int .i8 0, .int .i8 0, .int .i8 0, .int .i8 0, .int .i8 0, .int .i8 0, .int .i8 0] 82)
  have hr1 := row_new 82 (w.alloc (.cells (nineL f).toArray 82)) #[.int .i8 0, .int .i8 0, .int .i8 0, .int .i8 0, .int .i8 0, .int .i8 0, .int .i8 0, .int .i8 0, .int .i8 0]
  have hb0 := ((Below.refl w.heap.size w).alloc (Nat.le_refl _) (.cells (nineL f).toArray 82)).alloc (by simp) (.cells #[.int .i8 0, .int .i8 0, .int .i8 0, .int .i8 0, .int .i8 0, .int .i8 0, .int .i8 0, .int .i8 0, .int .i8 0] 82)
  rw [World.size_alloc] at hr1
  obtain ⟨W0, hW0⟩ : ∃ W0, (w.alloc (.cells (nineL f).toArray 82)).alloc (.cells #[.int .i8 0, .int .i8 0, .int .i8 0, .int .i8 0, .int .i8 0, .int .i8 0, .int .i8 0, .int .i8 0, .int .i8 0] 82) = W0 := ⟨_, rfl⟩
  rw [hW0] at hr0 hr1 hb0
  have HR0 : Hid (Row 82 W0 w.heap.size (nineL f)) := hr0
  have HR1 : Hid (Row 82 W0 (w.heap.size + 1) (nineL (ownF 0))) := hr1
  have HB0 := Lib.hid hb0
  have hW : (w.alloc (.cells #[.int .i8 (f 0), .int .i8 (f 1), .int .i8 (f 2), .int .i8 (f 3), .int .i8 (f 4), .int .i8 (f 5), .int .i8 (f 6), .int .i8 (f 7), .int .i8 (f 8)] 82)).alloc (.cells #[.int .i8 0, .int .i8 0, .int .i8 0, .int .i8 0, .int .i8 0, .int .i8 0, .int .i8 0, .int .i8 0, .int .i8 0] 82) = W0 := hW0
  have hba : ((b : Nat) : Int) ≠ (a : Int) := by omega
  clear hr0 hr1 hb0 hW0
  obtain ⟨F, hF⟩ : ∃ F, upd (upd f a (f b)) b (f a) = F := ⟨_, rfl⟩
  rw [hF]
  have ka := HR0.out.cell a
  rw [nine_get _ ha] at ka
  have kb := HR0.out.cell b
  rw [nine_get _ hb] at kb
  have fa := HR0.out.free a
  have fb := HR0.out.free b
  have hs1 := HR0.out.store a (.int .i8 (f b))
  rw [nine_set _ ha] at hs1
  have hs2 := hs1.store b (.int .i8 (f a))
  rw [nine_set _ hb, hF] at hs2
  have hq2 := (HR1.out.other ⟨w.heap.size, a, none⟩ (by dsimp only; omega) (.int .i8 (f b))).other ⟨w.heap.size, b, none⟩ (by dsimp only; omega) (.int .i8 (f a))
  have hb2 := (HB0.out.setCell (p := ⟨w.heap.size, a, none⟩) (Nat.le_refl _) (.int .i8 (f b))).setCell (p := ⟨w.heap.size, b, none⟩) (Nat.le_refl _) (.int .i8 (f a))
  obtain ⟨x, hx⟩ : ∃ x, f a = x := ⟨_, rfl⟩
  obtain ⟨y, hy⟩ : ∃ y, f b = y := ⟨_, rfl⟩
  rw [hx] at ka hs2 hq2 hb2
  rw [hy] at kb hs2 hq2 hb2
  have HS2 := Lib.hid hs2
  have HQ2 := Lib.hid hq2
  have HB2 := Lib.hid hb2
  have ga9 : (a : Int) < 9 := by omega
  have gb9 : (b : Int) < 9 := by omega
  have hx2 : Hid (f a = x) := hx
  clear hs1 hs2 hq2 hb2 hF hx hy HR0 HR1 HB0
  unfold nineV
  go_enter Tryd.func77, Tryd.ntmps77
  go_wp2
  clear hW
  go_region
  generalize hW2 : World.drew _ = W2
  have hs : Row 82 W2 w.heap.size (nineL F) := by rw [← hW2]; exact HS2.out.drew
  have hq : Row 82 W2 (w.heap.size + 1) (nineL (ownF 0)) := by rw [← hW2]; exact HQ2.out.drew
  have hbb : Below w.heap.size w W2 := by rw [← hW2]; exact HB2.out.drew
  clear hW2 HS2 HQ2 HB2 ka kb fa fb
  obtain ⟨c0, c1, c2, c3, c4, c5, c6, c7, c8⟩ := nine_cells hs
  obtain ⟨d0, d1, d2, d3, d4, d5, d6, d7, d8⟩ := nine_cells hq
  have f0 := hq.free 0
  have f1 := hq.free 1
  have f2 := hq.free 2
  have f3 := hq.free 3
  have f4 := hq.free 4
  have f5 := hq.free 5
  have f6 := hq.free 6
  have f7 := hq.free 7
  have f8 := hq.free 8
  have hR2 := row_st9 F hq
  unfold st9 at hR2
  have HR2 := Lib.hid hR2
  have HBB := Lib.hid (below_st9 F hbb (by omega : w.heap.size ≤ w.heap.size + 1))
  clear hs hq hbb hR2
  go_wp2
  obtain ⟨e0, e1, e2, e3, e4, e5, e6, e7, e8⟩ := nine_cells HR2.out
  refine bodyPost_ret (v := nineV F) (by simp [results, Tryd.results77, go_sem, e0, e1, e2, e3, e4, e5, e6, e7, e8, nineV]) rfl ⟨rfl, HBB.out⟩
end Go.Proofs.YtllhejjcmfiebaaDoor
