/- Positions. -/
import Derived.Test.YtllhejjcmfiebaaDoorS9
set_option linter.unusedVariables false
set_option linter.unusedSimpArgs false
set_option linter.unnecessarySimpa false
namespace Go.Proofs.YtllhejjcmfiebaaDoor
open Go.RowKit Go.Shelf

def In64 (l : List Int) : Prop := ∀ i, I64 (l.getD i 0)
/-- the numbers that have been met among the first k -/
def mask (l : List Int) : Nat → Nat
  | 0 => 0
  | k + 1 => mask l k ||| 2 ^ (l.getD k 0).toNat
def rngAt (n : Nat) (l : List Int) (k : Nat) : Bool := decide (0 ≤ l.getD k 0) && decide (l.getD k 0 < n)
def newAt (l : List Int) (k : Nat) : Bool := !(mask l k).testBit (l.getD k 0).toNat
/-- whether a list is a position -/
def posB (n : Nat) (l : List Int) : Bool := decide (l.length = n) && (List.range n).all (rngAt n l) && decide (mask l n = 2 ^ n - 1)
theorem card_add_all : ((List.range 512).all fun S => (List.range 9).all fun x => card (S ||| 2 ^ x) == card S + (if S.testBit x then 0 else 1)) = true := by decide +kernel
theorem card_add {S x : Nat} (hS : S < 512) (hx : x < 9) : card (S ||| 2 ^ x) = card S + (if S.testBit x then 0 else 1) := by
  have h := List.all_eq_true.1 (List.all_eq_true.1 card_add_all S (List.mem_range.2 hS)) x (List.mem_range.2 hx)
  exact beq_iff_eq.1 h
theorem mask_lt {n : Nat} {l : List Int} (hn : n ≤ 9) : ∀ k, (∀ j, j < k → rngAt n l j = true) → mask l k < 2 ^ n
  | 0, _ => Nat.two_pow_pos n
  | k + 1, h => by
    have h1 := mask_lt hn k (fun j hj => h j (by omega))
    have h2 := h k (by omega)
    simp only [rngAt, Bool.and_eq_true, decide_eq_true_eq] at h2
    exact Nat.or_lt_two_pow h1 (Nat.pow_lt_pow_right (by omega) (by omega))
theorem mask_512 {n : Nat} {l : List Int} (hn : n ≤ 9) {k : Nat} (h : ∀ j, j < k → rngAt n l j = true) : mask l k < 512 :=
  Nat.lt_of_lt_of_le (mask_lt hn k h) (Nat.pow_le_pow_right (by omega) hn : 2 ^ n ≤ 2 ^ 9)
theorem mask_card_le {n : Nat} {l : List Int} (hn : n ≤ 9) : ∀ k, (∀ j, j < k → rngAt n l j = true) → card (mask l k) ≤ k
  | 0, _ => by show card 0 ≤ 0; decide
  | k + 1, h => by
    have h1 := mask_card_le hn k (fun j hj => h j (by omega))
    have h2 := h k (by omega)
    simp only [rngAt, Bool.and_eq_true, decide_eq_true_eq] at h2
    have h3 := card_add (x := (l.getD k 0).toNat) (mask_512 hn (fun j hj => h j (by omega) : ∀ j, j < k → rngAt n l j = true)) (by omega)
    show card (mask l k ||| 2 ^ (l.getD k 0).toNat) ≤ k + 1
    rw [h3]; split <;> omega
theorem mask_card_eq {n : Nat} {l : List Int} (hn : n ≤ 9) : ∀ k, (∀ j, j < k → rngAt n l j = true) → (∀ j, j < k → newAt l j = true) → card (mask l k) = k
  | 0, _, _ => by show card 0 = 0; decide
  | k + 1, h, g => by
    have h1 := mask_card_eq hn k (fun j hj => h j (by omega)) (fun j hj => g j (by omega))
    have h2 := h k (by omega)
    simp only [rngAt, Bool.and_eq_true, decide_eq_true_eq] at h2
    have h3 := card_add (x := (l.getD k 0).toNat) (mask_512 hn (fun j hj => h j (by omega) : ∀ j, j < k → rngAt n l j = true)) (by omega)
    have h4 := g k (by omega)
    simp only [newAt, Bool.not_eq_true'] at h4
    show card (mask l k ||| 2 ^ (l.getD k 0).toNat) = k + 1
    rw [h3, h4, h1]; simp
theorem mask_card_lt {n : Nat} {l : List Int} (hn : n ≤ 9) {k : Nat} (hk : newAt l k = false) : ∀ m, k < m → (∀ j, j < m → rngAt n l j = true) → card (mask l m) < m
  | 0, h, _ => by omega
  | m + 1, hkm, h => by
    have h2 := h m (by omega)
    simp only [rngAt, Bool.and_eq_true, decide_eq_true_eq] at h2
    have h3 := card_add (x := (l.getD m 0).toNat) (mask_512 hn (fun j hj => h j (by omega) : ∀ j, j < m → rngAt n l j = true)) (by omega)
    show card (mask l m ||| 2 ^ (l.getD m 0).toNat) < m + 1
    rw [h3]
    rcases Nat.lt_or_ge k m with hlt | hge
    · have h1 := mask_card_lt hn hk m hlt (fun j hj => h j (by omega))
      split <;> omega
    · have : m = k := by omega
      subst this
      have h1 := mask_card_le hn m (fun j hj => h j (by omega) : ∀ j, j < m → rngAt n l j = true)
      simp only [newAt, Bool.not_eq_false'] at hk
      rw [hk]; simp; omega
theorem card_all : ((List.range 10).all fun n => card (2 ^ n - 1) == n) = true := by decide +kernel
/-- all places are met just if none is met twice -/
theorem pos_iff {n : Nat} {l : List Int} (hn : n ≤ 9) (h : ∀ j, j < n → rngAt n l j = true) : decide (mask l n = 2 ^ n - 1) = (List.range n).all (newAt l) := by
  have hc : card (2 ^ n - 1) = n := beq_iff_eq.1 (List.all_eq_true.1 card_all n (List.mem_range.2 (by omega)))
  rw [Bool.eq_iff_iff, decide_eq_true_eq, List.all_eq_true]
  constructor
  · intro he j hj
    cases hx : newAt l j with
    | true => rfl
    | false =>
      have := mask_card_lt hn hx n (List.mem_range.1 hj) h
      rw [he, hc] at this; omega
  · intro hall
    have h1 := mask_card_eq hn n h (fun j hj => hall j (List.mem_range.2 hj))
    by_cases he : mask l n = 2 ^ n - 1
    · exact he
    · have h2 := card_lt (s := mask l n) (t := 2 ^ n - 1) (by have : 2 ^ n ≤ 2 ^ 9 := Nat.pow_le_pow_right (by omega) hn; omega) (fun i hi => (all_bit n i).2 (bit_lt (mask_lt hn n h) hi)) he
      omega
set_option maxRecDepth 100000 in
set_option maxHeartbeats 4000000 in
theorem isPos_go (v : Value) (n : Nat) (l : List Int) (w : World) (hl : SlA w v (ints l)) (hn2 : 2 ≤ n) (hn9 : n ≤ 9) :
    Calls Tryd.prog 51 #[.int .i64 n, v] w fun e w' => e = .returned (.bool (posB n l)) ∧ Below w.heap.size w w' := by
  obtain ⟨p, cap, rfl, hl1, hl2⟩ := hl.form
  have HP : Hid (posB n l = (decide (l.length = n) && (List.range n).all (rngAt n l) && decide (mask l n = 2 ^ n - 1))) := rfl
  have HL := Lib.hid hl
  clear hl
  by_cases hlen : l.length = n
  · have hd : ((l.length : Int) != (n : Int)) = false := by simp [hlen]
    have hall2 : Hid (∀ W, Calls Tryd.prog 68 #[.int .i64 n] W fun e w' => e = .returned (.int .u16 ((2 ^ n - 1 : Nat) : Int)) ∧ w' = W) := fun W => all_go n hn9 W
    have HLEN := Lib.hid hlen
    clear hlen
    go_enter Tryd.func51, Tryd.ntmps51
    go_wp2
    go_loopw [5, 14] (fun mv i wr => ∃ k : Nat, k ≤ l.length ∧ mv = .int .u16 (mask l k) ∧ i = .int .i64 k ∧ (∀ j, j < k → rngAt n l j = true) ∧ Below w.heap.size w wr) (fun _ i _ => l.length - (intOf i).toNat)
    case atStart => exact ⟨0, Nat.zero_le _, rfl, rfl, fun j hj => by omega, Below.refl _ _⟩
    case round =>
      obtain ⟨k, hk, rfl, rfl, hall, hbel⟩ := hrel
      by_cases hlt : k < l.length
      · obtain ⟨ad, cap', hv, _, _, hg, hc⟩ := (HL.out.below hbel).int_at k hlt
        cases hv
        have HM : Hid (mask l (k + 1) = mask l k ||| 2 ^ (l.getD k 0).toNat) := rfl
        have HRG : Hid (rngAt n l k = (decide (0 ≤ l.getD k 0) && decide (l.getD k 0 < n))) := rfl
        have hm5 := mask_512 hn9 hall
        obtain ⟨x, hx⟩ : ∃ x, l.getD k 0 = x := ⟨_, rfl⟩
        rw [hx] at hc HM HRG
        have HALL := Lib.hid hall
        have HB := Lib.hid hbel
        clear hall hbel hx
        have HNO : Hid (rngAt n l k = false → posB n l = false) := by
          intro h
          rw [HP.out]
          have : (List.range n).all (rngAt n l) = false := by
            cases ha : (List.range n).all (rngAt n l) with
            | false => rfl
            | true => have := List.all_eq_true.1 ha k (List.mem_range.2 (by have := HLEN.out; omega)); rw [h] at this; cases this
          rw [this]; simp
        by_cases h1 : x < 0
        · have HBAD : Hid (posB n l = false) := HNO.out (by rw [HRG.out]; simp; omega)
          go_wp2
          go_ret
          exact ⟨by rw [HBAD.out]; rfl, HB.out⟩
        · by_cases h2 : (n : Int) ≤ x
          · have HBAD : Hid (posB n l = false) := HNO.out (by rw [HRG.out]; simp; omega)
            go_wp2
            go_ret
            exact ⟨by rw [HBAD.out]; rfl, HB.out⟩
          · obtain ⟨X, rfl⟩ : ∃ X : Nat, x = (X : Int) := ⟨x.toNat, by omega⟩
            rw [Int.toNat_natCast] at HM
            have hX9 : X < 9 := by omega
            have hX : 2 ^ X < 512 := Nat.pow_lt_pow_right (by omega : 1 < 2) hX9
            have hor := or_u16 hm5 hX
            have hsx : IntKind.u16.wrap ((2 : Int) ^ X) = ((2 ^ X : Nat) : Int) := by rw [show ((2 : Int) ^ X) = ((2 ^ X : Nat) : Int) by simp]; exact u16_small hX
            have gX : (X : Int) ≤ 16 := by omega
            have HNX : Hid (∀ j, j < k + 1 → rngAt n l j = true) := by
              intro j hj
              rcases Nat.lt_or_ge j k with h | h
              · exact HALL.out j h
              · have : j = k := by omega
                subst this; rw [HRG.out]; simp; omega
            obtain ⟨q, hq⟩ : ∃ q, 2 ^ X = q := ⟨_, rfl⟩
            obtain ⟨M, hM⟩ : ∃ M, mask l k = M := ⟨_, rfl⟩
            obtain ⟨M2, hM2⟩ : ∃ M2, M ||| q = M2 := ⟨_, rfl⟩
            rw [hM, hq, hM2] at HM hor
            rw [hM] at hm5 ⊢
            rw [hq] at hsx
            clear hM hq hM2 hX
            go_wp2
            go_roundw
            case rel => exact ⟨k + 1, by omega, by rw [HM.out], by go_num, HNX.out, HB.out⟩
            case measure => simp [intOf]; omega
      · obtain rfl : k = l.length := by omega
        have hln := HLEN.out
        have HRES : Hid (posB n l = decide (mask l l.length = 2 ^ n - 1)) := by
          show _ = _
          rw [HP.out, hln]
          have : (List.range n).all (rngAt n l) = true := List.all_eq_true.2 fun j hj => hall j (by rw [hln]; exact List.mem_range.1 hj)
          rw [this]; simp
        have HB := Lib.hid hbel
        obtain ⟨M, hM⟩ : ∃ M, mask l l.length = M := ⟨_, rfl⟩
        obtain ⟨A, hA⟩ : ∃ A, 2 ^ n - 1 = A := ⟨_, rfl⟩
        rw [hM, hA] at HRES
        rw [hM]
        rw [hA] at hall2
        have HDD : Hid (((M : Int) == (A : Int)) = decide (M = A)) := by
          show _ = _
          by_cases h : M = A
          · subst h; simp
          · have h' : ((M : Int) == (A : Int)) = false := by rw [beq_eq_false_iff_ne]; omega
            rw [h']; simp [h]
        clear hall hbel hM hA hln
        go_wp2_with (first | (go_at_call 68; refine (hall2.out _).mono ?_; rintro e w1 ⟨rfl, rfl⟩))
        go_ret
        refine ⟨?_, HB.out⟩
        have hdd := HDD.out
        rw [HRES.out]
        go_simp
  · have hd : ((l.length : Int) != (n : Int)) = true := by rw [bne_iff_ne]; omega
    have HBAD : Hid (posB n l = false) := by show _ = _; rw [HP.out]; simp [hlen]
    clear hlen
    go_enter Tryd.func51, Tryd.ntmps51
    go_wp2
    go_ret
    exact ⟨by rw [HBAD.out]; rfl, Below.refl _ _⟩
end Go.Proofs.YtllhejjcmfiebaaDoor
