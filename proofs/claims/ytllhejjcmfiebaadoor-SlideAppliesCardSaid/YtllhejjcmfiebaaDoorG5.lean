/- SlideGrids: the law. -/
import Derived.Test.YtllhejjcmfiebaaDoorG4
import Derived.Test.YtllhejjcmfiebaaDoorAwake
set_option linter.unusedVariables false
set_option linter.unusedSimpArgs false
set_option linter.unnecessarySimpa false
namespace Go.Proofs.YtllhejjcmfiebaaDoor
open Go.RowKit

/-- what the law makes of a number that it is given -/
theorem tmodN (x : Int) (n : Nat) (hn : 0 < n) : ∃ z : Nat, z < n ∧ (IntKind.u64.wrap x).tmod n = (z : Int) := by
  have h : IntKind.u64.wrap x = x % 2 ^ 64 := by simp [IntKind.wrap, IntKind.bits, IntKind.signed]
  have h0 : 0 ≤ IntKind.u64.wrap x := by rw [h]; omega
  have h1 := Int.tmod_nonneg (n : Int) h0
  have h2 := Int.tmod_lt_of_pos (IntKind.u64.wrap x) (by omega : (0 : Int) < n)
  exact ⟨((IntKind.u64.wrap x).tmod n).toNat, by omega, by omega⟩
set_option maxRecDepth 100000 in
set_option maxHeartbeats 4000000 in
theorem lawGrids (r c : Int) (w : World) (ht : Tab w) (hr : I64 r) (hc : I64 c) :
    Calls Tryd.prog 5 #[.int .i64 r, .int .i64 c] w fun e w' => e = .returned (.bool true) ∧ Below w.heap.size w w' := by
  have HT := Lib.hid ht
  have HR := Lib.hid hr
  have HC := Lib.hid hc
  clear ht hr hc
  go_enter Tryd.func5, Tryd.ntmps5
  go_wp2
  go_loopw [0, 1, 5] (fun rv cv i wr => ∃ (a b : Int) (k : Nat), k ≤ 2 ∧ rv = .int .i64 a ∧ cv = .int .i64 b ∧ i = .int .i64 k ∧ I64 a ∧ I64 b ∧ Below w.heap.size w wr) (fun _ _ i _ => 2 - (intOf i).toNat)
  case atStart => exact ⟨r, c, 0, by omega, rfl, rfl, rfl, HR.out, HC.out, Below.refl _ _⟩
  case round =>
    obtain ⟨a, b, k, hk, rfl, rfl, rfl, ha, hb, hbel⟩ := hrel
    have HB := Lib.hid hbel
    by_cases hlt : k < 2
    · obtain ⟨ma, hma4, hma0⟩ := tmodN a 4 (by omega)
      obtain ⟨mb, hmb4, hmb0⟩ := tmodN b 4 (by omega)
      have hma : (IntKind.u64.wrap a).tmod 4 = (ma : Int) := hma0
      have hmb : (IntKind.u64.wrap b).tmod 4 = (mb : Int) := hmb0
      clear hma0 hmb0
      cases hg : gridB a b with
      | false =>
        have HG := Lib.hid (fun W => grid_no a b hg W)
        have HGB := Lib.hid hg
        clear hbel ha hb hg
        by_cases h1 : a < 1
        · go_wp2_with (first
            | (go_at_call 33; refine (HG.out _).mono ?_; rintro e w1 ⟨rfl, rfl⟩))
          go_roundw
          case rel => exact ⟨_, _, k + 1, by omega, rfl, rfl, by go_num, ⟨by omega, by omega⟩, ⟨by omega, by omega⟩, HB.out⟩
          case measure => simp [intOf]; omega
          
        · by_cases h2 : b < 1
          · go_wp2_with (first
              | (go_at_call 33; refine (HG.out _).mono ?_; rintro e w1 ⟨rfl, rfl⟩))
            go_roundw
            case rel => exact ⟨_, _, k + 1, by omega, rfl, rfl, by go_num, ⟨by omega, by omega⟩, ⟨by omega, by omega⟩, HB.out⟩
            case measure => simp [intOf]; omega
            
          · by_cases h3 : 9 < a
            · go_wp2_with (first
                | (go_at_call 33; refine (HG.out _).mono ?_; rintro e w1 ⟨rfl, rfl⟩))
              go_roundw
              case rel => exact ⟨_, _, k + 1, by omega, rfl, rfl, by go_num, ⟨by omega, by omega⟩, ⟨by omega, by omega⟩, HB.out⟩
              case measure => simp [intOf]; omega
              
            · by_cases h4 : 9 < b
              · go_wp2_with (first
                  | (go_at_call 33; refine (HG.out _).mono ?_; rintro e w1 ⟨rfl, rfl⟩))
                go_roundw
                case rel => exact ⟨_, _, k + 1, by omega, rfl, rfl, by go_num, ⟨by omega, by omega⟩, ⟨by omega, by omega⟩, HB.out⟩
                case measure => simp [intOf]; omega
                
              · obtain ⟨R, rfl⟩ : ∃ R : Nat, a = (R : Int) := ⟨a.toNat, by omega⟩
                obtain ⟨C, rfl⟩ : ∃ C : Nat, b = (C : Int) := ⟨b.toNat, by omega⟩
                have hmul : (R : Int) * (C : Int) = ((R * C : Nat) : Int) := by rw [Int.natCast_mul]
                have hle : R * C ≤ 81 := Nat.mul_le_mul (by omega : R ≤ 9) (by omega : C ≤ 9)
                have hs : sizeB ((R * C : Nat) : Int) = false := by
                  have h := HGB.out
                  rw [← hmul]
                  unfold gridB at h
                  have a1 : (1 : Int) ≤ R := by omega
                  have a2 : (R : Int) ≤ 9 := by omega
                  have a3 : (1 : Int) ≤ C := by omega
                  have a4 : (C : Int) ≤ 9 := by omega
                  simpa [a1, a2, a3, a4] using h
                obtain ⟨n, hn⟩ : ∃ n, R * C = n := ⟨_, rfl⟩
                rw [hn] at hmul hle hs
                have HS : Hid (∀ W, Calls Tryd.prog 34 #[.int .i64 (n : Int)] W fun e w' => e = .returned (.bool false) ∧ W = w') := fun W => by have := number_any (n : Int) W; rw [hs] at this; exact this
                clear hs hn
                go_wp2_with (first
                  | (go_at_call 33; refine (HG.out _).mono ?_; rintro e w1 ⟨rfl, rfl⟩)
                  | (go_at_call 34; refine (HS.out _).mono ?_; rintro e w1 ⟨rfl, rfl⟩))
                go_roundw
                case rel => exact ⟨_, _, k + 1, by omega, rfl, rfl, by go_num, ⟨by omega, by omega⟩, ⟨by omega, by omega⟩, HB.out⟩
                case measure => simp [intOf]; omega
      | true =>
        have hgb := hg
        simp only [gridB, sizeB, Bool.and_eq_true, decide_eq_true_eq] at hgb
        obtain ⟨R, rfl⟩ : ∃ R : Nat, a = (R : Int) := ⟨a.toNat, by omega⟩
        obtain ⟨C, rfl⟩ : ∃ C : Nat, b = (C : Int) := ⟨b.toNat, by omega⟩
        have hmul : (R : Int) * (C : Int) = ((R * C : Nat) : Int) := by rw [Int.natCast_mul]
        rw [hmul] at hgb
        have hR1 : 1 ≤ R := by omega
        have hC1 : 1 ≤ C := by omega
        have hR9 : R ≤ 9 := by omega
        have hC9 : C ≤ 9 := by omega
        have hn2 : 2 ≤ R * C := by omega
        have hn9 : R * C ≤ 9 := by omega
        have hs : sizeB ((R * C : Nat) : Int) = true := by unfold sizeB; simp; omega
        have HG := Lib.hid (fun W => grid_yes R C hR1 hC1 hR9 hC9 hn2 hn9 W)
        have HRG := Lib.hid (fun W => rgrid_go R C hR1 hC1 hR9 hC9 hn9 W)
        obtain ⟨L, hL⟩ : ∃ L, gridE R C (R * C) = L := ⟨_, rfl⟩
        obtain ⟨n, hn⟩ : ∃ n, R * C = n := ⟨_, rfl⟩
        rw [hL, hn] at HG HRG
        rw [hn] at hmul hn2 hn9 hs
        have HS : Hid (∀ W, Calls Tryd.prog 34 #[.int .i64 (n : Int)] W fun e w' => e = .returned (.bool true) ∧ W = w') := fun W => by have := number_any (n : Int) W; rw [hs] at this; exact this
        clear hbel ha hb hg hgb hs hn hL
        go_wp2_with (first
          | (go_at_call 33; refine (HG.out _).mono ?_; rintro e w1 ⟨v, rfl, ho, hb1⟩; have HO := Lib.hid ho; have HB1 := Lib.hid hb1; clear ho hb1)
          | (go_at_call 34; refine (HS.out _).mono ?_; rintro e w2 ⟨rfl, rfl⟩)
          | (go_at_call 35; refine (HRG.out _).mono ?_; rintro e w3 ⟨v3, rfl, ho, hb3⟩; have HO3 := Lib.hid ho; have HB3 := Lib.hid hb3; clear ho hb3; have HP := Lib.hid (pairs_same v v3 L w3 (HO.out.sl.below HB3.out) HO3.out.sl))
          | (go_at_call 36; refine HP.out.mono ?_; rintro e w4 ⟨rfl, hb4⟩; have HB4 := Lib.hid (((HB.out.trans (HB1.out.mono HB.out.size)).trans (HB3.out.mono (Nat.le_trans HB.out.size HB1.out.size))).trans (hb4.mono (Nat.le_trans (Nat.le_trans HB.out.size HB1.out.size) HB3.out.size))); clear hb4))
        go_roundw
        case rel => exact ⟨_, _, k + 1, by omega, rfl, rfl, by go_num, ⟨by omega, by omega⟩, ⟨by omega, by omega⟩, HB4.out⟩
        case measure => simp [intOf]; omega
    · obtain rfl : k = 2 := by omega
      have HAW := Lib.hid (awake_spec wr (HT.out.below hbel HT.out.lt))
      clear hbel ha hb
      go_wp2_with (first | (go_at_call 22; refine HAW.out.mono ?_; rintro e w1 ⟨rfl, hb1⟩; have HB1 := Lib.hid (HB.out.trans (hb1.mono HB.out.size)); clear hb1))
      go_ret
      exact ⟨rfl, HB1.out⟩
end Go.Proofs.YtllhejjcmfiebaaDoor
