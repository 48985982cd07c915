/- The reference's joined. -/
import Derived.Test.YtllhejjcmfiebaaDoorS7
set_option linter.unusedVariables false
set_option linter.unusedSimpArgs false
set_option linter.unnecessarySimpa false
namespace Go.Proofs.YtllhejjcmfiebaaDoor
open Go.RowKit Go.Shelf
end Go.Proofs.YtllhejjcmfiebaaDoor
namespace Go.Proofs.YtllhejjcmfiebaaDoor
open Go.RowKit Go.Shelf
end Go.Proofs.YtllhejjcmfiebaaDoor
namespace Go.Proofs.YtllhejjcmfiebaaDoor
open Go.RowKit Go.Shelf
def mask (l : List Int) : Nat → Nat
 | 0 => 0
 | k + 1 => mask l k ||| 2 ^ (l.getD k 0).toNat
def rngAt (n : Nat) (l : List Int) (k : Nat) : Bool := decide (0 ≤ l.getD k 0) && decide (l.getD k 0 < n)
def posB (n : Nat) (l : List Int) : Bool := decide (l.length = n) && (List.range n).all (rngAt n l) && decide (mask l n = 2 ^ n - 1)
theorem mask_lt {n : Nat} {l : List Int} (hn : n ≤ 9) : ∀ k, (∀ j, j < k → rngAt n l j = true) → mask l k < 2 ^ n
 | 0, _ => Nat.two_pow_pos n
 | k + 1, h => by
  have h1 := mask_lt hn k (fun j hj => h j (by omega))
  have h2 := h k (by omega)
  simp only [rngAt, Bool.and_eq_true, decide_eq_true_eq] at h2
  exact Nat.or_lt_two_pow h1 (Nat.pow_lt_pow_right (by omega) (by omega))
theorem mask_512 {n : Nat} {l : List Int} (hn : n ≤ 9) {k : Nat} (h : ∀ j, j < k → rngAt n l j = true) : mask l k < 512 :=
 Nat.lt_of_lt_of_le (mask_lt hn k h) (Nat.pow_le_pow_right (by omega) hn : 2 ^ n ≤ 2 ^ 9)
set_option maxRecDepth 100000 in
set_option maxHeartbeats 4000000 in
theorem isPos_go (v : Value) (n : Nat) (l : List Int) (w : World) (hl : SlA w v (ints l)) (hn2 : 2 ≤ n) (hn9 : n ≤ 9) :
  Calls Tryd.prog 51 #[.int .i64 n, v] w fun e w' => e = .returned (.bool (posB n l)) ∧ Below w.heap.size w w' := by
 obtain ⟨p, cap, rfl, hl1, hl2⟩ := hl.form
 have HP : Hid (posB n l = (decide (l.length = n) && (List.range n).all (rngAt n l) && decide (mask l n = 2 ^ n - 1))) := rfl
 have HL := Lib.hid hl
 clear hl
 by_cases hlen : l.length = n
 ·have hd : ((l.length : Int) != (n : Int)) = false := by simp [hlen]
  have hall2 : Hid (∀ W, Calls Tryd.prog 68 #[.int .i64 n] W fun e w' => e = .returned (.int .u16 ((2 ^ n - 1 : Nat) : Int)) ∧ w' = W) := fun W => all_go n hn9 W
  have HLEN := Lib.hid hlen
  clear hlen
  go_enter Tryd.func51, Tryd.ntmps51
  go_wp2
  go_loopw [5, 14] (fun mv i wr => ∃ k : Nat, k ≤ l.length ∧ mv = .int .u16 (mask l k) ∧ i = .int .i64 k ∧ (∀ j, j < k → rngAt n l j = true) ∧ Below w.heap.size w wr) (fun _ i _ => l.length - (intOf i).toNat)
  case atStart => exact ⟨0, Nat.zero_le _, rfl, rfl, fun j hj => by omega, Below.refl _ _⟩
  case round =>
   obtain ⟨k, hk, rfl, rfl, hall, hbel⟩ := hrel
   by_cases hlt : k < l.length
   ·obtain ⟨ad, cap', hv, _, _, hg, hc⟩ := (HL.out.below hbel).int_at k hlt
    cases hv
    have HM : Hid (mask l (k + 1) = mask l k ||| 2 ^ (l.getD k 0).toNat) := rfl
    have HRG : Hid (rngAt n l k = (decide (0 ≤ l.getD k 0) && decide (l.getD k 0 < n))) := rfl
    have hm5 := mask_512 hn9 hall
    obtain ⟨x, hx⟩ : ∃ x, l.getD k 0 = x := ⟨_, rfl⟩
    rw [hx] at hc HM HRG
    have HALL := Lib.hid hall
    have HB := Lib.hid hbel
    clear hall hbel hx
    have HNO : Hid (rngAt n l k = false → posB n l = false) := by
     intro h
     rw [HP.out]
     have : (List.range n).all (rngAt n l) = false := by
      cases ha : (List.range n).all (rngAt n l) with
      | false => rfl
      | true => have := List.all_eq_true.1 ha k (List.mem_range.2 (by have := HLEN.out; omega)); rw [h] at this; cases this
     rw [this]; simp
    by_cases h1 : x < 0
    ·have HBAD : Hid (posB n l = false) := HNO.out (by rw [HRG.out]; simp; omega)
     go_wp2
     go_ret
     exact ⟨by rw [HBAD.out]; rfl, HB.out⟩
    ·by_cases h2 : (n : Int) ≤ x
     ·have HBAD : Hid (posB n l = false) := HNO.out (by rw [HRG.out]; simp; omega)
      go_wp2
      go_ret
      exact ⟨by rw [HBAD.out]; rfl, HB.out⟩
     ·obtain ⟨X, rfl⟩ : ∃ X : Nat, x = (X : Int) := ⟨x.toNat, by omega⟩
      rw [Int.toNat_natCast] at HM
      have hX9 : X < 9 := by omega
      have hX : 2 ^ X < 512 := Nat.pow_lt_pow_right (by omega : 1 < 2) hX9
      have hor := or_u16 hm5 hX
      have hsx : IntKind.u16.wrap ((2 : Int) ^ X) = ((2 ^ X : Nat) : Int) := by rw [show ((2 : Int) ^ X) = ((2 ^ X : Nat) : Int) by simp]; exact u16_small hX
      have gX : (X : Int) ≤ 16 := by omega
      have HNX : Hid (∀ j, j < k + 1 → rngAt n l j = true) := by
       intro j hj
       rcases Nat.lt_or_ge j k with h | h
       ·exact HALL.out j h
       ·have : j = k := by omega
        subst this; rw [HRG.out]; simp; omega
      obtain ⟨q, hq⟩ : ∃ q, 2 ^ X = q := ⟨_, rfl⟩
      obtain ⟨M, hM⟩ : ∃ M, mask l k = M := ⟨_, rfl⟩
      obtain ⟨M2, hM2⟩ : ∃ M2, M ||| q = M2 := ⟨_, rfl⟩
      rw [hM, hq, hM2] at HM hor
      rw [hM] at hm5 ⊢
      rw [hq] at hsx
      clear hM hq hM2 hX
      go_wp2
      go_roundw
      case rel => exact ⟨k + 1, by omega, by rw [HM.out], by go_num, HNX.out, HB.out⟩
      case measure => simp [intOf]; omega
   ·obtain rfl : k = l.length := by omega
    have hln := HLEN.out
    have HRES : Hid (posB n l = decide (mask l l.length = 2 ^ n - 1)) := by
     show _ = _
     rw [HP.out, hln]
     have : (List.range n).all (rngAt n l) = true := List.all_eq_true.2 fun j hj => hall j (by rw [hln]; exact List.mem_range.1 hj)
     rw [this]; simp
    have HB := Lib.hid hbel
    obtain ⟨M, hM⟩ : ∃ M, mask l l.length = M := ⟨_, rfl⟩
    obtain ⟨A, hA⟩ : ∃ A, 2 ^ n - 1 = A := ⟨_, rfl⟩
    rw [hM, hA] at HRES
    rw [hM]
    rw [hA] at hall2
    have HDD : Hid (((M : Int) == (A : Int)) = decide (M = A)) := by
     show _ = _
     by_cases h : M = A
     ·subst h; simp
     ·have h' : ((M : Int) == (A : Int)) = false := by rw [beq_eq_false_iff_ne]; omega
      rw [h']; simp [h]
    clear hall hbel hM hA hln
    go_wp2_with (first | (go_at_call 68; refine (hall2.out _).mono ?_; rintro e w1 ⟨rfl, rfl⟩))
    go_ret
    refine ⟨?_, HB.out⟩
    have hdd := HDD.out
    rw [HRES.out]
    go_simp
 ·have hd : ((l.length : Int) != (n : Int)) = true := by rw [bne_iff_ne]; omega
  have HBAD : Hid (posB n l = false) := by show _ = _; rw [HP.out]; simp [hlen]
  clear hlen
  go_enter Tryd.func51, Tryd.ntmps51
  go_wp2
  go_ret
  exact ⟨by rw [HBAD.out]; rfl, Below.refl _ _⟩
end Go.Proofs.YtllhejjcmfiebaaDoor
namespace Go.Proofs.YtllhejjcmfiebaaDoor
open Go.RowKit Go.Shelf
def posR (n : Int) (l : List Int) : Bool := sizeB n && posB n.toNat l
def posE (n : Int) (l : List Int) : Int := if posR n l then 0 else 1
end Go.Proofs.YtllhejjcmfiebaaDoor
