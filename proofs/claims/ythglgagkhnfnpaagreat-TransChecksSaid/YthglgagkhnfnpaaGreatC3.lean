/- cmp.Compare at bytes and strings, cmp.Or, compareEdges, isState. -/
import Derived.Test.YthglgagkhnfnpaaGreatC2
import Derived.Test.YthglgagkhnfnpaaGreatShelf
import Derived.StillTailTactics
import Derived.Deep.RegionWith
set_option linter.unusedVariables false
set_option linter.unusedSimpArgs false
set_option linter.unnecessarySimpa false
namespace Go.Proofs.YthglgagkhnfnpaaGreat
open Go.RowKit

theorem isNaN_byte (x : Int) (w : World) : Calls Tryz.prog 85 #[.int .u8 x] w fun e w' => e = .returned (.bool false) ∧ w = w' := by
  have h1 : (x != x) = false := by simp
  go_enter Tryz.func85, Tryz.ntmps85
  go_wp2
  go_ret
  exact ⟨rfl, rfl⟩
theorem isNaN_string (x : ByteArray) (w : World) : Calls Tryz.prog 86 #[.string x] w fun e w' => e = .returned (.bool false) ∧ w = w' := by
  have h1 : (x.toList == x.toList) = true := by simp
  go_enter Tryz.func86, Tryz.ntmps86
  go_wp2
  go_ret
  exact ⟨rfl, rfl⟩
theorem compare_byte (x y : Nat) (w : World) (hx : x < 256) (hy : y < 256) : Calls Tryz.prog 64 #[.int .u8 x, .int .u8 y] w fun e w' => e = .returned (.int .i64 (Lib.compareInt x y)) ∧ w = w' := by
  rcases Nat.lt_trichotomy x y with h | h | h
  · have hb : decide (x < y) = true := by simp; omega
    have HN : Hid (Lib.compareInt x y = -1) := by show _ = _; unfold Lib.compareInt; rw [if_pos (by omega)]
    go_enter Tryz.func64, Tryz.ntmps64
    go_wp2_with (first | (go_at_call 85; refine (isNaN_byte _ _).mono ?_; rintro e w' ⟨rfl, rfl⟩))
    go_ret
    exact ⟨by rw [HN.out]; rfl, rfl⟩
  · subst h
    have hb : decide (x < x) = false := by simp
    have HN : Hid (Lib.compareInt x x = 0) := by show _ = _; unfold Lib.compareInt; rw [if_neg (by omega), if_neg (by omega)]
    go_enter Tryz.func64, Tryz.ntmps64
    go_wp2_with (first | (go_at_call 85; refine (isNaN_byte _ _).mono ?_; rintro e w' ⟨rfl, rfl⟩))
    go_ret
    exact ⟨by rw [HN.out]; rfl, rfl⟩
  · have hb : decide (x < y) = false := by simp; omega
    have hb2 : decide (y < x) = true := by simp; omega
    have HN : Hid (Lib.compareInt x y = 1) := by show _ = _; unfold Lib.compareInt; rw [if_neg (by omega), if_pos (by omega)]
    go_enter Tryz.func64, Tryz.ntmps64
    go_wp2_with (first | (go_at_call 85; refine (isNaN_byte _ _).mono ?_; rintro e w' ⟨rfl, rfl⟩))
    go_ret
    exact ⟨by rw [HN.out]; rfl, rfl⟩
/-- the order of strings, as a number -/
def cmpS (x y : ByteArray) : Int := if Op.bytesLess x.toList y.toList then -1 else if x.toList == y.toList then 0 else 1
theorem compare_string (x y : ByteArray) (w : World) : Calls Tryz.prog 65 #[.string x, .string y] w fun e w' => e = .returned (.int .i64 (cmpS x y)) ∧ w = w' := by
  obtain ⟨p, hp⟩ : ∃ p, Op.bytesLess x.toList y.toList = p := ⟨_, rfl⟩
  obtain ⟨q, hq⟩ : ∃ q, (x.toList == y.toList) = q := ⟨_, rfl⟩
  have HN : Hid (cmpS x y = if p then -1 else if q then 0 else 1) := by show _ = _; unfold cmpS; rw [hp, hq]
  cases p <;> cases q
  all_goals
    go_enter Tryz.func65, Tryz.ntmps65
    go_wp2_with (first | (go_at_call 86; refine (isNaN_string _ _).mono ?_; rintro e w' ⟨rfl, rfl⟩))
    go_ret
    exact ⟨by rw [HN.out]; rfl, rfl⟩
/-- the first that is not 0 -/
def orP : List Int → Int
  | [] => 0
  | x :: l => if x ≠ 0 then x else orP l
theorem orP_drop (l : List Int) (k : Nat) (h : k < l.length) : orP (l.drop k) = if l.getD k 0 ≠ 0 then l.getD k 0 else orP (l.drop (k + 1)) := by
  rw [List.drop_eq_getElem_cons h]
  simp [orP, h]
set_option maxHeartbeats 400000 in
theorem or_any (v : Value) (l : List Int) (w : World) (hl : SlA w v (ints l)) : Calls Tryz.prog 62 #[v] w fun e w' => e = .returned (.int .i64 (orP l)) ∧ w = w' := by
  obtain ⟨p, cap, rfl, hlc, hcm⟩ := hl.form
  have HL := Lib.hid hl
  clear hl
  go_enter Tryz.func62, Tryz.ntmps62
  go_wp2
  go_loop [2, 5, 8] (fun _ _ i => ∃ k : Nat, k ≤ l.length ∧ i = .int .i64 k ∧ orP l = orP (l.drop k)) (fun _ _ i => l.length - (intOf i).toNat)
  case atStart => exact ⟨0, Nat.zero_le _, rfl, rfl⟩
  case round =>
    obtain ⟨k, hk, rfl, hor⟩ := hrel
    have HOR := Lib.hid hor
    clear hor
    by_cases hlt : k < l.length
    · obtain ⟨ad, cap', hv, _, _, _, hc⟩ := HL.out.int_at k hlt
      cases hv
      have HD := Lib.hid (orP_drop l k hlt)
      obtain ⟨x, hx⟩ : ∃ x, l.getD k 0 = x := ⟨_, rfl⟩
      rw [hx] at hc HD
      clear hx
      by_cases h0 : x = 0
      · subst h0
        have HN : Hid (orP l = orP (l.drop (k + 1))) := by show _ = _; rw [HOR.out, HD.out]; simp
        go_wp2
        go_round
        case rel => exact ⟨k + 1, by omega, by go_num, HN.out⟩
        case measure => simp [intOf]; omega
      · have hb1 : (x == 0) = false := by rw [beq_eq_false_iff_ne]; exact h0
        have hb2 : (x != 0) = true := by rw [bne_iff_ne]; exact h0
        have HN : Hid (orP l = x) := by show _ = _; rw [HOR.out, HD.out]; simp [h0]
        clear h0
        go_wp2
        go_ret
        exact ⟨by rw [HN.out]; rfl, rfl⟩
    · have HN : Hid (orP l = 0) := by show _ = _; rw [HOR.out, List.drop_of_length_le (by omega)]; rfl
      go_wp2
      go_ret
      exact ⟨by rw [HN.out]; rfl, rfl⟩
end Go.Proofs.YthglgagkhnfnpaaGreat
