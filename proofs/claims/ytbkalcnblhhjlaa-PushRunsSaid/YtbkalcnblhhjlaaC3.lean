/- isRule, isConfig. -/
import Derived.Test.YtbkalcnblhhjlaaC2
set_option linter.unnecessarySimpa false
set_option linter.unusedVariables false
set_option linter.unusedSimpArgs false
namespace Go.Proofs.Ytbkalcnblhhjlaa
open Go.RowKit

theorem bcell {W w1 : World} (hb : Below W.heap.size W w1) : (∀ b o, b < W.heap.size → w1.cell? ⟨b, o, none⟩ = W.cell? ⟨b, o, none⟩) ∧ (∀ b o, b < W.heap.size → w1.frozen? ⟨b, o, none⟩ = W.frozen? ⟨b, o, none⟩) :=
  ⟨fun b o h => hb.cell (p := ⟨b, o, none⟩) h, fun b o h => hb.frozen (p := ⟨b, o, none⟩) h⟩
def letP (l : Nat) : Bool := decide (97 ≤ l) && decide (l ≤ 101)
/-- a rule, at so many controls -/
def ruleP (c : Int) (e : Ru) : Bool := belowP e.f c && (letP e.l && (belowP e.t c && wordN 2 e.p))
/-- a configuration -/
def confP (c q : Int) (s : ByteArray) : Bool := belowP q c && wordN 20 s
set_option maxRecDepth 100000 in
set_option maxHeartbeats 1000000 in
theorem isRule_any (c : Int) (vE : Value) (e : Ru) (w : World) (hp : e.p.size ≤ 1000) :
    Calls Try.prog 44 #[.agg #[.int .i64 c, vE], e.val] w fun r w' => r = .returned (.bool (ruleP c e)) ∧ Below w.heap.size w w' := by
  obtain ⟨f, l, t, s⟩ := e
  dsimp only at hp
  unfold Ru.val ruleP
  dsimp only
  have HD : Hid (∀ w, Calls Try.prog 33 #[.string s, .int .i64 2] w fun e w' => e = .returned (.bool (wordN 2 s)) ∧ Below w.heap.size w w') := fun w => isWord_any s 2 w (by omega) (by omega)
  cases ha : belowP f c
  · go_enter Try.func44, Try.ntmps44
    go_wp2_with (go_at_call 32; refine (isBelow_any _ _ _).mono ?_; rintro e w' ⟨rfl, rfl⟩)
    go_ret
    exact ⟨rfl, ((Below.refl _ _).alloc (Nat.le_refl _) _).alloc (by simp) _⟩
  by_cases h1 : l < 97
  · have hl : letP l = false := by simp [letP]; omega
    have HL := Lib.hid hl
    rw [hl]
    clear hl
    go_enter Try.func44, Try.ntmps44
    go_wp2_with (go_at_call 32; refine (isBelow_any _ _ _).mono ?_; rintro e w' ⟨rfl, rfl⟩)
    go_ret
    exact ⟨rfl, ((Below.refl _ _).alloc (Nat.le_refl _) _).alloc (by simp) _⟩
  by_cases h2 : 101 < l
  · have hl : letP l = false := by simp [letP]; omega
    rw [hl]
    clear hl
    go_enter Try.func44, Try.ntmps44
    go_wp2_with (go_at_call 32; refine (isBelow_any _ _ _).mono ?_; rintro e w' ⟨rfl, rfl⟩)
    go_ret
    exact ⟨rfl, ((Below.refl _ _).alloc (Nat.le_refl _) _).alloc (by simp) _⟩
  have hl : letP l = true := by simp [letP]; omega
  rw [hl]
  clear hl
  cases hb : belowP t c
  · go_enter Try.func44, Try.ntmps44
    go_wp2_with (go_at_call 32; refine (isBelow_any _ _ _).mono ?_; rintro e w' ⟨rfl, rfl⟩)
    go_ret
    exact ⟨rfl, ((Below.refl _ _).alloc (Nat.le_refl _) _).alloc (by simp) _⟩
  · go_enter Try.func44, Try.ntmps44
    go_wp2_with (first | (go_at_call 32; refine (isBelow_any _ _ _).mono ?_; rintro e w' ⟨rfl, rfl⟩) | (go_at_call 33; refine (HD.out _).mono ?_; rintro e w' ⟨rfl, hb4⟩; have HB4 := Lib.hid hb4; clear hb4))
    go_ret
    exact ⟨by simp, (((Below.refl w.heap.size w).alloc (Nat.le_refl _) _).alloc (by simp) _).trans (HB4.out.mono (by simp; omega))⟩
set_option maxRecDepth 100000 in
set_option maxHeartbeats 1000000 in
theorem isConfig_any (c q : Int) (vE : Value) (s : ByteArray) (w : World) (hs : s.size ≤ 1000000) :
    Calls Try.prog 24 #[.agg #[.int .i64 c, vE], .agg #[.int .i64 q, .string s]] w fun r w' => r = .returned (.bool (confP c q s)) ∧ Below w.heap.size w w' := by
  unfold confP
  have HD : Hid (∀ w, Calls Try.prog 33 #[.string s, .int .i64 20] w fun e w' => e = .returned (.bool (wordN 20 s)) ∧ Below w.heap.size w w') := fun w => isWord_any s 20 w (by omega) (by omega)
  cases ha : belowP q c
  · go_enter Try.func24, Try.ntmps24
    go_wp2_with (go_at_call 32; refine (isBelow_any _ _ _).mono ?_; rintro e w' ⟨rfl, rfl⟩)
    go_ret
    exact ⟨rfl, ((Below.refl _ _).alloc (Nat.le_refl _) _).alloc (by simp) _⟩
  · go_enter Try.func24, Try.ntmps24
    go_wp2_with (first | (go_at_call 32; refine (isBelow_any _ _ _).mono ?_; rintro e w' ⟨rfl, rfl⟩) | (go_at_call 33; refine (HD.out _).mono ?_; rintro e w' ⟨rfl, hb4⟩; have HB4 := Lib.hid hb4; clear hb4))
    go_ret
    exact ⟨by simp, (((Below.refl w.heap.size w).alloc (Nat.le_refl _) _).alloc (by simp) _).trans (HB4.out.mono (by simp; omega))⟩
/-- the reference's -/
theorem proper_any (c q : Int) (vE : Value) (s : ByteArray) (w : World) (hs : s.size ≤ maxLen) :
    Calls Try.prog 7 #[.agg #[.int .i64 c, vE], .agg #[.int .i64 q, .string s]] w fun r w' => r = .returned (.bool (confP c q s)) ∧ Below w.heap.size w w' := by
  have HD : Hid (∀ w, Calls Try.prog 14 #[.string s] w fun e w' => e = .returned (.bool (wordP s)) ∧ w = w') := fun w => word_any s w hs
  by_cases h0 : 0 ≤ q
  · by_cases h1 : q < c
    · cases hw : wordP s
      · have HN : Hid (confP c q s = false) := by show _ = _; simp [confP, wordN, hw]
        go_enter Try.func7, Try.ntmps7
        go_wp2_with (go_at_call 14; refine (HD.out _).mono ?_; rintro e w' ⟨rfl, rfl⟩)
        go_ret
        exact ⟨by rw [HN.out]; rfl, ((Below.refl _ _).alloc (Nat.le_refl _) _).alloc (by simp) _⟩
      · have HN : Hid (confP c q s = decide (s.size ≤ 20)) := by show _ = _; simp [confP, wordN, hw, belowP, h0, h1]
        go_enter Try.func7, Try.ntmps7
        go_wp2_with (go_at_call 14; refine (HD.out _).mono ?_; rintro e w' ⟨rfl, rfl⟩)
        go_ret
        exact ⟨by rw [HN.out]; simp; omega, ((Below.refl _ _).alloc (Nat.le_refl _) _).alloc (by simp) _⟩
    · have HN : Hid (confP c q s = false) := by show _ = _; simp [confP, belowP]; omega
      go_enter Try.func7, Try.ntmps7
      go_wp2
      go_ret
      exact ⟨by rw [HN.out]; rfl, ((Below.refl _ _).alloc (Nat.le_refl _) _).alloc (by simp) _⟩
  · have HN : Hid (confP c q s = false) := by show _ = _; simp [confP, belowP]; omega
    go_enter Try.func7, Try.ntmps7
    go_wp2
    go_ret
    exact ⟨by rw [HN.out]; rfl, ((Below.refl _ _).alloc (Nat.le_refl _) _).alloc (by simp) _⟩
end Go.Proofs.Ytbkalcnblhhjlaa
