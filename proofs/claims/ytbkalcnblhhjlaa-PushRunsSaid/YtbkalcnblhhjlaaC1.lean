/- Words of letters a to e; below a limit. -/
import Derived.Test.YtbkalcnblhhjlaaChecked
import Derived.Test.YtbkalcnblhhjlaaK
import Derived.Deep.RegionHeld3
import Derived.Deep.DeepCutAuto
import Derived.Laws.RangeAny
set_option linter.unnecessarySimpa false
set_option linter.unusedVariables false
set_option linter.unusedSimpArgs false
namespace Go.Proofs.Ytbkalcnblhhjlaa
open Go.RowKit

/-- all bytes are from a to e -/
def wordL (l : List UInt8) : Bool := l.all fun c => decide (97 ≤ c.toNat) && decide (c.toNat ≤ 101)
def wordP (s : ByteArray) : Bool := wordL s.data.toList
theorem wordL_snoc (l : List UInt8) (c : UInt8) : wordL (l ++ [c]) = (wordL l && (decide (97 ≤ c.toNat) && decide (c.toNat ≤ 101))) := by simp [wordL]
theorem take_snocB (s : ByteArray) (k : Nat) (h : k < s.size) : s.data.toList.take (k + 1) = s.data.toList.take k ++ [s[k]] := by
  rw [List.take_succ_eq_append_getElem (by simpa using h)]; rfl
theorem wordL_take_false {l : List UInt8} {k : Nat} (h : wordL (l.take k) = false) : wordL l = false := by
  unfold wordL at *
  rw [List.all_eq_false] at *
  obtain ⟨x, hx, hp⟩ := h
  exact ⟨x, List.mem_of_mem_take hx, hp⟩
set_option maxHeartbeats 400000 in
theorem word_any (s : ByteArray) (w : World) (hs : s.size ≤ maxLen) :
    Calls Try.prog 14 #[.string s] w fun e w' => e = .returned (.bool (wordP s)) ∧ w = w' := by
  unfold maxLen at hs
  go_enter Try.func14, Try.ntmps14
  go_wp2
  go_loop [3] (fun i => ∃ k : Nat, k ≤ s.size ∧ i = .int .i64 k ∧ wordL (s.data.toList.take k) = true) (fun i => s.size - (intOf i).toNat)
  case atStart => exact ⟨0, Nat.zero_le _, rfl, by simp [wordL]⟩
  case round =>
    obtain ⟨k, hk, rfl, hall⟩ := hrel
    have HALL := Lib.hid hall
    clear hall
    by_cases hlt : k < s.size
    · have HT := Lib.hid (take_snocB s k hlt)
      have HS := Lib.hid (wordL_snoc (s.data.toList.take k) s[k])
      have hc := s[k].toNat_lt
      by_cases h1 : s[k].toNat < 97
      · have HN : Hid (wordP s = false) := by
          refine wordL_take_false (k := k + 1) ?_
          rw [HT.out, HS.out, HALL.out]; simp; omega
        go_wp2
        go_ret
        exact ⟨by rw [HN.out]; rfl, rfl⟩
      · by_cases h2 : s[k].toNat > 101
        · have HN : Hid (wordP s = false) := by
            refine wordL_take_false (k := k + 1) ?_
            rw [HT.out, HS.out, HALL.out]; simp; omega
          go_wp2
          go_ret
          exact ⟨by rw [HN.out]; rfl, rfl⟩
        · have HN : Hid (wordL (s.data.toList.take (k + 1)) = true) := by show _ = _; rw [HT.out, HS.out, HALL.out]; simp; omega
          go_wp2
          go_round
          case rel => exact ⟨k + 1, by omega, by go_num, HN.out⟩
          case measure => simp [intOf]; omega
    · have HN : Hid (wordP s = true) := by
        have := HALL.out
        rw [List.take_of_length_le (by simp; omega)] at this
        exact this
      go_wp2
      go_ret
      exact ⟨by rw [HN.out]; rfl, rfl⟩
def belowP (i n : Int) : Bool := decide (0 ≤ i) && decide (i < n)
theorem isBelow_any (i n : Int) (w : World) :
    Calls Try.prog 32 #[.int .i64 i, .int .i64 n] w fun e w' => e = .returned (.bool (belowP i n)) ∧ w = w' := by
  by_cases h : 0 ≤ i
  · have hb : decide (0 ≤ i) = true := decide_eq_true h
    have HN : Hid (belowP i n = decide (i < n)) := by show _ = _; simp [belowP, h]
    go_enter Try.func32, Try.ntmps32
    go_wp2
    go_ret
    exact ⟨by rw [HN.out]; rfl, rfl⟩
  · have hb : decide (0 ≤ i) = false := decide_eq_false h
    have HN : Hid (belowP i n = false) := by show _ = _; simp [belowP, h]
    go_enter Try.func32, Try.ntmps32
    go_wp2
    go_ret
    exact ⟨by rw [HN.out]; rfl, rfl⟩
/-- letters a to e, so many at most -/
def wordN (n : Nat) (s : ByteArray) : Bool := decide (s.size ≤ n) && wordP s
set_option maxRecDepth 100000 in
set_option maxHeartbeats 1000000 in
theorem isWord_any (s : ByteArray) (n : Nat) (w : World) (hs : s.size ≤ 1000000) (hn : n ≤ 1000) :
    Calls Try.prog 33 #[.string s, .int .i64 n] w fun e w' => e = .returned (.bool (wordN n s)) ∧ Below w.heap.size w w' := by
  by_cases h3 : s.size ≤ n
  · have HW : Hid (wordN n s = wordP s) := by show _ = _; simp [wordN, h3]
    have hb0 : decide (n < s.size) = false := by simp; omega
    go_enter Try.func33, Try.ntmps33
    go_wp2
    go_loopw [6, 13] (fun _ _ wr => ∃ pos : Nat, pos ≤ s.size ∧ wr = w.iter s pos ∧ wordL (s.data.toList.take pos) = true) (fun _ _ wr => s.size - wr.iterPos w.heap.size)
    case atStart => exact ⟨0, Nat.zero_le _, rfl, by simp [wordL]⟩
    case round =>
      obtain ⟨k, hk, rfl, hall⟩ := hrel
      have HALL := Lib.hid hall
      clear hall
      by_cases hlt : k < s.size
      · have HT := Lib.hid (take_snocB s k hlt)
        have HS := Lib.hid (wordL_snoc (s.data.toList.take k) s[k])
        by_cases ha : (s[k]'hlt).toNat < 128
        · have hn := fun ty => @run_next_ascii Try.prog w s k ty hlt ha
          obtain ⟨c, hc⟩ : ∃ c, s[k].toNat = c := ⟨_, rfl⟩
          rw [hc] at ha
          simp only [hc] at hn
          have HC := Lib.hid hc
          clear hc
          by_cases h1 : c < 97
          · have HN : Hid (wordP s = false) := by
              refine wordL_take_false (k := k + 1) ?_
              rw [HT.out, HS.out, HALL.out, HC.out]; simp; omega
            go_wp2
            go_ret
            exact ⟨by rw [HW.out, HN.out]; rfl, (Below.refl _ _).alloc (Nat.le_refl _) _⟩
          · by_cases h2 : c > 101
            · have HN : Hid (wordP s = false) := by
                refine wordL_take_false (k := k + 1) ?_
                rw [HT.out, HS.out, HALL.out, HC.out]; simp; omega
              go_wp2
              go_ret
              exact ⟨by rw [HW.out, HN.out]; rfl, (Below.refl _ _).alloc (Nat.le_refl _) _⟩
            · have HN : Hid (wordL (s.data.toList.take (k + 1)) = true) := by show _ = _; rw [HT.out, HS.out, HALL.out, HC.out]; simp; omega
              go_wp2
              go_roundw
              case rel => exact ⟨k + 1, by omega, rfl, HN.out⟩
              case measure => simp; omega
        · have hn := fun ty => @run_next_any Try.prog w s k ty hlt
          have hd := decode_high s k hlt (by omega)
          have hd2 := decode_le s k
          have HN : Hid (wordP s = false) := by
            refine wordL_take_false (k := k + 1) ?_
            rw [HT.out, HS.out, HALL.out]
            simp; omega
          obtain ⟨c, hc⟩ : ∃ c, (Utf8.decode s k).1 = c := ⟨_, rfl⟩
          obtain ⟨d, hd'⟩ : ∃ d, (Utf8.decode s k).2 = d := ⟨_, rfl⟩
          rw [hc] at hd hd2
          simp only [hc, hd'] at hn
          clear hc hd' ha
          go_wp2
          go_ret
          exact ⟨by rw [HW.out, HN.out]; rfl, (Below.refl _ _).alloc (Nat.le_refl _) _⟩
      · have HN : Hid (wordP s = true) := by
          have := HALL.out
          rw [List.take_of_length_le (by simp; omega)] at this
          exact this
        have hn := fun ty => @run_next_end Try.prog w s k ty hlt
        go_wp2
        go_ret
        exact ⟨by rw [HW.out, HN.out]; rfl, (Below.refl _ _).alloc (Nat.le_refl _) _⟩
  · have HW : Hid (wordN n s = false) := by show _ = _; simp [wordN, h3]
    go_enter Try.func33, Try.ntmps33
    go_wp2
    go_ret
    exact ⟨by rw [HW.out]; rfl, Below.refl _ _⟩
end Go.Proofs.Ytbkalcnblhhjlaa
