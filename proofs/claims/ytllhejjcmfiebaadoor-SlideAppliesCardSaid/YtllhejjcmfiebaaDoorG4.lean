/- The program's Grid; SlideGrids. -/
import Derived.Test.YtllhejjcmfiebaaDoorG3
import Derived.Test.YtllhejjcmfiebaaDoorTz
set_option linter.unusedVariables false
set_option linter.unusedSimpArgs false
set_option linter.unnecessarySimpa false
namespace Go.Proofs.YtllhejjcmfiebaaDoor
open Go.RowKit

def I64 (x : Int) : Prop := -9223372036854775808 ≤ x ∧ x ≤ 9223372036854775807
/-- whether there is such a grid -/
def gridB (r c : Int) : Bool := decide (1 ≤ r) && decide (r ≤ 9) && decide (1 ≤ c) && decide (c ≤ 9) && sizeB (r * c)
theorem grid_yes (r c : Nat) (hr : 1 ≤ r) (hc : 1 ≤ c) (hr9 : r ≤ 9) (hc9 : c ≤ 9) (hn2 : 2 ≤ r * c) (hn : r * c ≤ 9) (w : World) :
    Calls Tryd.prog 33 #[.int .i64 r, .int .i64 c] w fun e w' => ∃ v, e = .returned (.tuple #[.int .i64 ((r * c : Nat) : Int), v, .int .i64 0]) ∧ OwnP w.heap.size w' v (gridE r c (r * c)) ∧ Below w.heap.size w w' := by
  have HE := Lib.hid (fun W => edges_go r c hr hc hr9 hc9 hn W)
  have hmul : (r : Int) * (c : Int) = ((r * c : Nat) : Int) := by rw [Int.natCast_mul]
  obtain ⟨n, hnn⟩ : ∃ n, r * c = n := ⟨_, rfl⟩
  rw [hnn] at hmul hn hn2 HE ⊢
  have hs : sizeB (n : Int) = true := by unfold sizeB; simp; omega
  have HS : Hid (∀ W, Calls Tryd.prog 50 #[.int .i64 (n : Int)] W fun e w' => e = .returned (.bool true) ∧ W = w') := fun W => by have := isSize_any (n : Int) W; rw [hs] at this; exact this
  clear hnn hs
  go_enter Tryd.func33, Tryd.ntmps33
  go_wp2_with (first
    | (go_at_call 50; refine (HS.out _).mono ?_; rintro e w1 ⟨rfl, rfl⟩)
    | (go_at_call 63; refine (HE.out _).mono ?_; rintro e w1 ⟨v, rfl, ho, hb⟩; have HO := Lib.hid ho; have HB := Lib.hid hb; clear ho hb))
  exact bodyPost_ret (v := .tuple #[.int .i64 n, v, .int .i64 0]) (by simp [results, Tryd.results33, go_sem]) rfl ⟨_, rfl, HO.out, HB.out⟩
theorem grid_no (r c : Int) (h : gridB r c = false) (w : World) :
    Calls Tryd.prog 33 #[.int .i64 r, .int .i64 c] w fun e w' => e = .returned (.tuple #[.int .i64 0, .slice none 0 0, .int .i64 1]) ∧ w = w' := by
  by_cases h1 : r < 1
  · clear h
    go_enter Tryd.func33, Tryd.ntmps33
    go_wp2
    exact bodyPost_ret (v := .tuple #[.int .i64 0, .slice none 0 0, .int .i64 1]) (by simp [results, Tryd.results33, go_sem]) rfl ⟨rfl, rfl⟩
  · by_cases h2 : 9 < r
    · clear h
      go_enter Tryd.func33, Tryd.ntmps33
      go_wp2
      exact bodyPost_ret (v := .tuple #[.int .i64 0, .slice none 0 0, .int .i64 1]) (by simp [results, Tryd.results33, go_sem]) rfl ⟨rfl, rfl⟩
    · by_cases h3 : c < 1
      · clear h
        go_enter Tryd.func33, Tryd.ntmps33
        go_wp2
        exact bodyPost_ret (v := .tuple #[.int .i64 0, .slice none 0 0, .int .i64 1]) (by simp [results, Tryd.results33, go_sem]) rfl ⟨rfl, rfl⟩
      · by_cases h4 : 9 < c
        · clear h
          go_enter Tryd.func33, Tryd.ntmps33
          go_wp2
          exact bodyPost_ret (v := .tuple #[.int .i64 0, .slice none 0 0, .int .i64 1]) (by simp [results, Tryd.results33, go_sem]) rfl ⟨rfl, rfl⟩
        · obtain ⟨R, rfl⟩ : ∃ R : Nat, r = (R : Int) := ⟨r.toNat, by omega⟩
          obtain ⟨C, rfl⟩ : ∃ C : Nat, c = (C : Int) := ⟨c.toNat, by omega⟩
          have hmul : (R : Int) * (C : Int) = ((R * C : Nat) : Int) := by rw [Int.natCast_mul]
          have hle : R * C ≤ 81 := Nat.mul_le_mul (by omega : R ≤ 9) (by omega : C ≤ 9)
          have hs : sizeB ((R * C : Nat) : Int) = false := by
            rw [← hmul]
            unfold gridB at h
            have a1 : (1 : Int) ≤ R := by omega
            have a2 : (R : Int) ≤ 9 := by omega
            have a3 : (1 : Int) ≤ C := by omega
            have a4 : (C : Int) ≤ 9 := by omega
            simpa [a1, a2, a3, a4] using h
          obtain ⟨n, hn⟩ : ∃ n, R * C = n := ⟨_, rfl⟩
          rw [hn] at hmul hle hs
          have HS : Hid (∀ W, Calls Tryd.prog 50 #[.int .i64 (n : Int)] W fun e w' => e = .returned (.bool false) ∧ W = w') := fun W => by have := isSize_any (n : Int) W; rw [hs] at this; exact this
          clear h hs hn
          go_enter Tryd.func33, Tryd.ntmps33
          go_wp2_with (first
            | (go_at_call 50; refine (HS.out _).mono ?_; rintro e w1 ⟨rfl, rfl⟩))
          exact bodyPost_ret (v := .tuple #[.int .i64 0, .slice none 0 0, .int .i64 1]) (by simp [results, Tryd.results33, go_sem]) rfl ⟨rfl, rfl⟩
end Go.Proofs.YtllhejjcmfiebaaDoor
