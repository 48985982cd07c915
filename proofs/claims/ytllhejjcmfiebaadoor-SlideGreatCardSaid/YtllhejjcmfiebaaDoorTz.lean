/- TrailingZeros16 at small numbers, the table of math/bits being what it is. -/
import Derived.Test.YtllhejjcmfiebaaDoorWords
import Derived.Test.YtllhejjcmfiebaaDoorProg
set_option linter.unusedVariables false
set_option linter.unusedSimpArgs false
set_option linter.unnecessarySimpa false
namespace Go.Proofs.YtllhejjcmfiebaaDoor
open Go.RowKit
def tabList : List Int := [0, 1, 28, 2, 29, 14, 24, 3, 30, 22, 20, 15, 25, 17, 4, 8, 31, 27, 13, 23, 21, 19, 16, 7, 26, 12, 18, 6, 11, 5, 10, 9]
structure Tab (W : World) : Prop where
 c : ∀ r, r < 32 → W.cell? ⟨0, r, none⟩ = some (.int .u8 (tabList.getD r 0))
 lt : 0 < W.heap.size
theorem Tab.below {B : Nat} {W W' : World} (h : Tab W) (hb : Below B W W') (hB : 0 < B) : Tab W' :=
 ⟨fun r hr => (hb.cell (p := ⟨0, r, none⟩) hB).trans (h.c r hr), Nat.lt_of_lt_of_le h.lt hb.size⟩
def lowN : Nat → Nat → Nat
 | 0, _ => 0
 | k + 1, n => if n % 2 = 1 then 0 else lowN k (n / 2) + 1
def tzOk (n : Nat) : Bool :=
 bits .and .u16 (n : Int) (IntKind.u16.wrap (-(n : Int))) == ((2 ^ lowN 16 n : Nat) : Int) && decide (lowN 16 n < 9)
def tzOk2 (k : Nat) : Bool := decide (2 ^ k * 125613361 % 4294967296 / 134217728 < 32) && tabList.getD (2 ^ k * 125613361 % 4294967296 / 134217728) 0 == (k : Int)
theorem tz_all : ((List.range 512).all fun n => n == 0 || tzOk n) = true := by decide +kernel
theorem tz_all2 : ((List.range 9).all tzOk2) = true := by decide +kernel
theorem tz_facts {n : Nat} (h0 : 0 < n) (hn : n < 512) : ∃ P J : Nat, bits .and .u16 (n : Int) (IntKind.u16.wrap (-(n : Int))) = (P : Int) ∧ P < 512 ∧ P * 125613361 % 4294967296 / 134217728 = J ∧ J < 32 ∧ tabList.getD J 0 = ((lowN 16 n : Nat) : Int) ∧ lowN 16 n < 9 := by
 have h := List.all_eq_true.1 tz_all n (List.mem_range.2 hn)
 simp only [Bool.or_eq_true, beq_iff_eq, tzOk, Bool.and_eq_true, decide_eq_true_eq] at h
 rcases h with h | ⟨h1, h2⟩
 ·omega
 ·have h3 := List.all_eq_true.1 tz_all2 (lowN 16 n) (List.mem_range.2 h2)
  simp only [tzOk2, Bool.and_eq_true, decide_eq_true_eq, beq_iff_eq] at h3
  refine ⟨2 ^ lowN 16 n, _, h1, ?_, rfl, h3.1, h3.2, h2⟩
  calc 2 ^ lowN 16 n ≤ 2 ^ 8 := Nat.pow_le_pow_right (by omega) (by omega)
   _ < 512 := by decide
set_option maxRecDepth 100000 in
set_option maxHeartbeats 1000000 in
theorem tz_go (n : Nat) (h0 : 0 < n) (hn : n < 512) (W : World) (h : Tab W) : Calls Tryd.prog 85 #[.int .u16 (n : Int)] W fun e w' => e = .returned (.int .i64 (lowN 16 n : Nat)) ∧ w' = W := by
 obtain ⟨P, J, hA, hP, hC, hJ, hT, h9⟩ := tz_facts h0 hn
 have c := h.c J hJ
 rw [hT] at c
 have HT := Lib.hid hT
 have hz : ((n : Int) == 0) = false := by rw [beq_eq_false_iff_ne]; omega
 obtain ⟨L, hL⟩ : ∃ L, lowN 16 n = L := ⟨_, rfl⟩
 rw [hL] at c h9 ⊢
 clear h hT hL
 go_enter Tryd.func85, Tryd.ntmps85
 go_wp2
 go_ret
 exact ⟨rfl, rfl⟩
end Go.Proofs.YtllhejjcmfiebaaDoor
