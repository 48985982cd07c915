/- The sign of a position against another one. -/
import Derived.Test.YtllhejjcmfiebaaDoorS12
set_option linter.unusedVariables false
set_option linter.unusedSimpArgs false
set_option linter.unnecessarySimpa false
namespace Go.Proofs.YtllhejjcmfiebaaDoor
open Go.RowKit Go.Shelf

/-- the permutation that takes the numbers of f to those of q, after k places -/
def takF (f q : Nat → Int) : Nat → Nat → Int
  | 0 => fun _ => 0
  | k + 1 => upd (takF f q k) (f k).toNat (q k)
def sgRow (T : Nat → Int) (i : Nat) : Nat → Int → Int
  | 0, s => s
  | j + 1, s => if T i < T j then -(sgRow T i j s) else sgRow T i j s
def sgAll (T : Nat → Int) : Nat → Int
  | 0 => 1
  | i + 1 => sgRow T i i (sgAll T i)
def One (s : Int) : Prop := s = 1 ∨ s = -1
theorem One.neg {s : Int} (h : One s) : One (-s) := by rcases h with rfl | rfl; exact .inr rfl; exact .inl rfl
theorem sgRow_one (T : Nat → Int) (i : Nat) : ∀ j s, One s → One (sgRow T i j s)
  | 0, _, h => h
  | j + 1, s, h => by
    unfold sgRow
    split
    · exact (sgRow_one T i j s h).neg
    · exact sgRow_one T i j s h
theorem sgAll_one (T : Nat → Int) : ∀ i, One (sgAll T i)
  | 0 => .inl rfl
  | i + 1 => sgRow_one T i i _ (sgAll_one T i)
def Sm (f : Nat → Int) : Prop := ∀ j, j < 9 → 0 ≤ f j ∧ f j < 9
set_option maxRecDepth 100000 in
theorem index9 (f : Nat → Int) {k : Nat} (hk : k < 9) (W : World) : (Instr.index 82 (.agg #[.int .i8 (f 0), .int .i8 (f 1), .int .i8 (f 2), .int .i8 (f 3), .int .i8 (f 4), .int .i8 (f 5), .int .i8 (f 6), .int .i8 (f 7), .int .i8 (f 8)]) (.int .i64 (k : Int))).run Tryd.prog W = .ok (.int .i8 (f k)) W := by
  rcases (by omega : k = 0 ∨ k = 1 ∨ k = 2 ∨ k = 3 ∨ k = 4 ∨ k = 5 ∨ k = 6 ∨ k = 7 ∨ k = 8) with rfl | rfl | rfl | rfl | rfl | rfl | rfl | rfl | rfl <;> first | rfl | kernel_rfl
set_option maxRecDepth 100000 in
set_option maxHeartbeats 4000000 in
theorem sign_go (f q : Nat → Int) (hf : Sm f) (w : World) :
    Calls Tryd.prog 53 #[nineV f, nineV q] w fun e w' => e = .returned (.int .i64 (sgAll (takF f q 9) 9)) ∧ Below w.heap.size w w' := by
  have HF := Lib.hid hf
  clear hf
  have hr1 := ((row_new 82 w (nineL f).toArray).alloc (.cells (nineL q).toArray 82)).alloc (.cells #[.int .i8 0, .int .i8 0, .int .i8 0, .int .i8 0, .int .i8 0, .int .i8 0, .int .i8 0, .int .i8 0, .int .i8 0] 82)
  have hr2 := (row_new 82 (w.alloc (.cells (nineL f).toArray 82)) (nineL q).toArray).alloc (.cells #[.int .i8 0, .int .i8 0, .int .i8 0, .int .i8 0, .int .i8 0, .int .i8 0, .int .i8 0, .int .i8 0, .int .i8 0] 82)
  have hr3 := row_new 82 ((w.alloc (.cells (nineL f).toArray 82)).alloc (.cells (nineL q).toArray 82)) #[.int .i8 0, .int .i8 0, .int .i8 0, .int .i8 0, .int .i8 0, .int .i8 0, .int .i8 0, .int .i8 0, .int .i8 0]
  have hb0 := (((Below.refl w.heap.size w).alloc (Nat.le_refl _) (.cells (nineL f).toArray 82)).alloc (by simp) (.cells (nineL q).toArray 82)).alloc (by simp; omega) (.cells #[.int .i8 0, .int .i8 0, .int .i8 0, .int .i8 0, .int .i8 0, .int .i8 0, .int .i8 0, .int .i8 0, .int .i8 0] 82)
  rw [World.size_alloc] at hr2
  rw [World.size_alloc, World.size_alloc] at hr3
  obtain ⟨W0, hW0⟩ : ∃ W0, ((w.alloc (.cells (nineL f).toArray 82)).alloc (.cells (nineL q).toArray 82)).alloc (.cells #[.int .i8 0, .int .i8 0, .int .i8 0, .int .i8 0, .int .i8 0, .int .i8 0, .int .i8 0, .int .i8 0, .int .i8 0] 82) = W0 := ⟨_, rfl⟩
  rw [hW0] at hr1 hr2 hr3 hb0
  obtain ⟨c0, c1, c2, c3, c4, c5, c6, c7, c8⟩ := nine_cells (f := f) hr1
  have HR1 : Hid (Row 82 W0 w.heap.size (nineL f)) := hr1
  have HR2 : Hid (Row 82 W0 (w.heap.size + 1) (nineL q)) := hr2
  have HR3 : Hid (Row 82 W0 (w.heap.size + 1 + 1) (nineL (takF f q 0))) := hr3
  have HB0 := Lib.hid hb0
  have hW : ((w.alloc (.cells #[.int .i8 (f 0), .int .i8 (f 1), .int .i8 (f 2), .int .i8 (f 3), .int .i8 (f 4), .int .i8 (f 5), .int .i8 (f 6), .int .i8 (f 7), .int .i8 (f 8)] 82)).alloc (.cells #[.int .i8 (q 0), .int .i8 (q 1), .int .i8 (q 2), .int .i8 (q 3), .int .i8 (q 4), .int .i8 (q 5), .int .i8 (q 6), .int .i8 (q 7), .int .i8 (q 8)] 82)).alloc (.cells #[.int .i8 0, .int .i8 0, .int .i8 0, .int .i8 0, .int .i8 0, .int .i8 0, .int .i8 0, .int .i8 0, .int .i8 0] 82) = W0 := hW0
  clear hr1 hr2 hr3 hb0 hW0
  unfold nineV
  go_enter Tryd.func53, Tryd.ntmps53
  go_wp2
  go_loopw [14] (fun i wr => ∃ k : Nat, k ≤ 9 ∧ i = .int .i64 k ∧ Row 82 wr (w.heap.size + 1) (nineL q) ∧ Row 82 wr (w.heap.size + 1 + 1) (nineL (takF f q k)) ∧ Below w.heap.size w wr) (fun i _ => 9 - (intOf i).toNat)
  case atStart => exact ⟨0, Nat.zero_le _, rfl, HR2.out, HR3.out, HB0.out⟩
  case round =>
    obtain ⟨k, hk, rfl, hrow, hrow1, hbel⟩ := hrel
    clear HR1 HR2 HR3 HB0
    by_cases hlt : k < 9
    · have hidx := fun W => index9 f hlt W
      obtain ⟨X, hX⟩ : ∃ X : Nat, f k = (X : Int) := ⟨(f k).toNat, by have := (HF.out k hlt).1; omega⟩
      have hX9 : X < 9 := by have := (HF.out k hlt).2; omega
      have gX9 : (X : Int) < 9 := by omega
      have gk9 : (k : Int) < 9 := by omega
      rw [hX] at hidx
      have hq := hrow.cell k
      rw [nine_get _ hlt] at hq
      have ht := hrow1.cell X
      rw [nine_get _ hX9] at ht
      have hfr := hrow1.free X
      have hst := hrow1.store X (.int .i8 (q k))
      rw [nine_set _ hX9] at hst
      have HST : Hid (Row 82 (wr.setCell ⟨w.heap.size + 1 + 1, X, none⟩ (.int .i8 (q k))) (w.heap.size + 1 + 1) (nineL (takF f q (k + 1)))) := by
        show Row _ _ _ _
        have e : takF f q (k + 1) = upd (takF f q k) X (q k) := by show upd (takF f q k) (f k).toNat (q k) = _; rw [hX, Int.toNat_natCast]
        rw [e]; exact hst
      have H1 := Lib.hid (hrow.other ⟨w.heap.size + 1 + 1, X, none⟩ (by dsimp only; omega) (.int .i8 (q k)))
      have HB := Lib.hid (hbel.setCell (p := ⟨w.heap.size + 1 + 1, X, none⟩) (by dsimp only; omega) (.int .i8 (q k)))
      obtain ⟨y, hy⟩ : ∃ y, q k = y := ⟨_, rfl⟩
      rw [hy] at hq HST H1 HB
      clear hrow hrow1 hbel hst hX hy
      go_wp2
      go_roundw
      case rel => exact ⟨k + 1, by omega, by go_num, H1.out, HST.out, HB.out⟩
      case measure => simp [intOf]; omega
    · obtain rfl : k = 9 := by omega
      obtain ⟨T, hT⟩ : ∃ T, takF f q 9 = T := ⟨_, rfl⟩
      rw [hT] at hrow1
      have HT := Lib.hid hT
      obtain ⟨t0, t1, t2, t3, t4, t5, t6, t7, t8⟩ := nine_cells (f := T) hrow1
      have HROW := Lib.hid hrow1
      have HB := Lib.hid hbel
      obtain ⟨wo, hwo⟩ : ∃ wo : World, wo = wr := ⟨_, rfl⟩
      subst hwo
      clear hrow hrow1 hbel hT
      go_wp2
      clear t0 t1 t2 t3 t4 t5 t6 t7 t8
      go_loopw [8, 25] (fun sv i wr => ∃ k : Nat, k ≤ 9 ∧ sv = .int .i64 (sgAll T k) ∧ i = .int .i64 k ∧ wr = wo) (fun _ i _ => 9 - (intOf i).toNat)
      case atStart => exact ⟨0, Nat.zero_le _, rfl, rfl, rfl⟩
      case round =>
        obtain ⟨i, hi, rfl, rfl, hwr⟩ := hrel
        subst hwr
        by_cases hlt : i < 9
        · have hidx := fun W => index9 T hlt W
          have gi9 : (i : Int) ≤ 9 := by omega
          have gi0 : (0 : Int) ≤ (i : Int) := by omega
          have HSG : Hid (sgAll T (i + 1) = sgRow T i i (sgAll T i)) := rfl
          have H1 := Lib.hid (sgAll_one T i)
          obtain ⟨s0, hs0⟩ : ∃ s0, sgAll T i = s0 := ⟨_, rfl⟩
          rw [hs0] at HSG H1
          rw [hs0]
          obtain ⟨x, hx⟩ : ∃ x, T i = x := ⟨_, rfl⟩
          rw [hx] at hidx
          have HX := Lib.hid hx
          clear hs0 hx
          obtain ⟨wi, hwi⟩ : ∃ wi : World, wi = wr := ⟨_, rfl⟩
          subst hwi
          go_wp2
          go_loopw [8, 32] (fun sv jv wr => ∃ j : Nat, j ≤ i ∧ sv = .int .i64 (sgRow T i j s0) ∧ jv = .int .i64 j ∧ wr = wi) (fun _ jv _ => i - (intOf jv).toNat)
          case atStart => exact ⟨0, Nat.zero_le _, rfl, rfl, rfl⟩
          case round =>
            obtain ⟨j, hj, rfl, rfl, hwr⟩ := hrel
            subst hwr
            by_cases hjl : j < i
            · have hcj := HROW.out.cell j
              rw [nine_get _ (by omega)] at hcj
              have HST : Hid (sgRow T i (j + 1) s0 = if x < T j then -(sgRow T i j s0) else sgRow T i j s0) := by show _ = _; rw [← HX.out]; rfl
              have hone := sgRow_one T i j s0 H1.out
              obtain ⟨s1, hs1⟩ : ∃ s1, sgRow T i j s0 = s1 := ⟨_, rfl⟩
              obtain ⟨y, hy⟩ : ∃ y, T j = y := ⟨_, rfl⟩
              rw [hs1, hy] at HST
              rw [hs1] at hone ⊢
              rw [hy] at hcj
              have hneg : IntKind.i64.wrap (-s1) = -s1 := IntWalk.i64_in _ (by unfold One at hone; omega)
              clear hs1 hy hone
              by_cases hxy : x < y
              · have HV : Hid (sgRow T i (j + 1) s0 = -s1) := by show _ = _; rw [HST.out, if_pos hxy]
                go_wp2
                go_roundw
                case rel => exact ⟨j + 1, by omega, by rw [HV.out], by go_num, trivial⟩
                case measure => simp [intOf]; omega
              · have HV : Hid (sgRow T i (j + 1) s0 = s1) := by show _ = _; rw [HST.out, if_neg hxy]
                go_wp2
                go_roundw
                case rel => exact ⟨j + 1, by omega, by rw [HV.out], by go_num, trivial⟩
                case measure => simp [intOf]; omega
            · obtain rfl : j = i := by omega
              go_wp2
              go_roundw
              case rel => exact ⟨j + 1, by omega, by rw [HSG.out], by go_num, trivial⟩
              case measure => simp [intOf]; omega
        · obtain rfl : i = 9 := by omega
          go_wp2
          go_ret
          exact ⟨by rw [HT.out]; rfl, HB.out⟩
end Go.Proofs.YtllhejjcmfiebaaDoor
