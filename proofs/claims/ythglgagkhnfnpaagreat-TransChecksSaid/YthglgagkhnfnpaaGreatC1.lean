/- consists, Output. -/
import Derived.Test.YthglgagkhnfnpaaGreatChecked
import Derived.Test.YthglgagkhnfnpaaGreatWords
import Derived.Deep.RegionHeld3
import Derived.Deep.DeepCutAuto
set_option linter.unusedVariables false
set_option linter.unusedSimpArgs false
set_option linter.unnecessarySimpa false
namespace Go.Proofs.YthglgagkhnfnpaaGreat
open Go.RowKit

/-- all bytes are one of two -/
def allOf (l : List UInt8) (a b : Nat) : Bool := l.all fun c => c.toNat == a || c.toNat == b
theorem allOf_snoc (l : List UInt8) (c : UInt8) (a b : Nat) : allOf (l ++ [c]) a b = (allOf l a b && (c.toNat == a || c.toNat == b)) := by simp [allOf]
theorem take_snocB (s : ByteArray) (k : Nat) (h : k < s.size) : s.data.toList.take (k + 1) = s.data.toList.take k ++ [s[k]] := by
  rw [List.take_succ_eq_append_getElem (by simpa using h)]; rfl
theorem allOf_take_false {l : List UInt8} {k a b : Nat} (h : allOf (l.take k) a b = false) : allOf l a b = false := by
  unfold allOf at *
  rw [List.all_eq_false] at *
  obtain ⟨x, hx, hp⟩ := h
  exact ⟨x, List.mem_of_mem_take hx, hp⟩
set_option maxHeartbeats 400000 in
theorem consists_any (s : ByteArray) (a b : Nat) (w : World) (hs : s.size ≤ maxLen) (ha : a < 256) (hb : b < 256) :
    Calls Tryz.prog 32 #[.string s, .int .u8 a, .int .u8 b] w fun e w' => e = .returned (.bool (allOf s.data.toList a b)) ∧ w = w' := by
  unfold maxLen at hs
  go_enter Tryz.func32, Tryz.ntmps32
  go_wp2
  go_loop [6, 7] (fun _ i => ∃ k : Nat, k ≤ s.size ∧ i = .int .i64 k ∧ allOf (s.data.toList.take k) a b = true) (fun _ i => s.size - (intOf i).toNat)
  case atStart => exact ⟨0, Nat.zero_le _, rfl, by simp [allOf]⟩
  case round =>
    obtain ⟨k, hk, rfl, hall⟩ := hrel
    have HALL := Lib.hid hall
    clear hall
    by_cases hlt : k < s.size
    · have HT := Lib.hid (take_snocB s k hlt)
      have HS := Lib.hid (allOf_snoc (s.data.toList.take k) s[k] a b)
      have hc := s[k].toNat_lt
      by_cases h1 : s[k].toNat = a
      · have hb1 : (((s[k].toNat : Nat) : Int) == (a : Int)) = true := by rw [beq_iff_eq]; omega
        have hb2 : (((s[k].toNat : Nat) : Int) != (a : Int)) = false := by rw [bne_eq_false_iff_eq]; omega
        have HN : Hid (allOf (s.data.toList.take (k + 1)) a b = true) := by show _ = _; rw [HT.out, HS.out, HALL.out]; simp [h1]
        clear h1
        go_wp2
        go_round
        case rel => exact ⟨k + 1, by omega, by go_num, HN.out⟩
        case measure => simp [intOf]; omega
      · have hb1 : (((s[k].toNat : Nat) : Int) == (a : Int)) = false := by rw [beq_eq_false_iff_ne]; omega
        have hb2 : (((s[k].toNat : Nat) : Int) != (a : Int)) = true := by rw [bne_iff_ne]; omega
        by_cases h2 : s[k].toNat = b
        · have hb3 : (((s[k].toNat : Nat) : Int) == (b : Int)) = true := by rw [beq_iff_eq]; omega
          have hb4 : (((s[k].toNat : Nat) : Int) != (b : Int)) = false := by rw [bne_eq_false_iff_eq]; omega
          have HN : Hid (allOf (s.data.toList.take (k + 1)) a b = true) := by show _ = _; rw [HT.out, HS.out, HALL.out]; simp [h2]
          clear h1 h2
          go_wp2
          go_round
          case rel => exact ⟨k + 1, by omega, by go_num, HN.out⟩
          case measure => simp [intOf]; omega
        · have hb3 : (((s[k].toNat : Nat) : Int) == (b : Int)) = false := by rw [beq_eq_false_iff_ne]; omega
          have hb4 : (((s[k].toNat : Nat) : Int) != (b : Int)) = true := by rw [bne_iff_ne]; omega
          have HN : Hid (allOf s.data.toList a b = false) := by
            refine allOf_take_false (k := k + 1) ?_
            rw [HT.out, HS.out, HALL.out]; simp [h1, h2]
          clear h1 h2
          go_wp2
          go_ret
          exact ⟨by rw [HN.out]; rfl, rfl⟩
    · have HN : Hid (allOf s.data.toList a b = true) := by
        have := HALL.out
        rw [List.take_of_length_le (by simp; omega)] at this
        exact this
      go_wp2
      go_ret
      exact ⟨by rw [HN.out]; rfl, rfl⟩
theorem output_any (s : ByteArray) (w : World) (hs : s.size ≤ maxLen) :
    Calls Tryz.prog 17 #[.string s] w fun e w' => e = .returned (.bool (allOf s.data.toList 120 121)) ∧ w = w' := by
  go_enter Tryz.func17, Tryz.ntmps17
  go_wp2_with (first | (go_at_call 32; refine (consists_any _ 120 121 _ hs (by decide) (by decide)).mono ?_; rintro e w' ⟨rfl, rfl⟩))
  go_ret
  exact ⟨rfl, rfl⟩
end Go.Proofs.YthglgagkhnfnpaaGreat
