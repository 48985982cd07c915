/- isEdge. -/
import Derived.Test.YthglgagkhnfnpaaGreatC5
set_option linter.unusedVariables false
set_option linter.unusedSimpArgs false
set_option linter.unnecessarySimpa false
namespace Go.Proofs.YthglgagkhnfnpaaGreat
open Go.RowKit

theorem bcell {W w1 : World} (hb : Below W.heap.size W w1) : (∀ b o, b < W.heap.size → w1.cell? ⟨b, o, none⟩ = W.cell? ⟨b, o, none⟩) ∧ (∀ b o, b < W.heap.size → w1.frozen? ⟨b, o, none⟩ = W.frozen? ⟨b, o, none⟩) :=
  ⟨fun b o h => hb.cell (p := ⟨b, o, none⟩) h, fun b o h => hb.frozen (p := ⟨b, o, none⟩) h⟩
def edgeP (n : Nat) (e : Ed) : Bool := stateP n e.f && stateP n e.t && (e.l == 97 || e.l == 98) && wordP e.o
theorem indexAB (l : Nat) (h : l < 256) : ∃ z : Int, Lib.indexByte [97, 98] ((l : Int).toNat.toUInt8) = z ∧ decide (0 ≤ z) = (l == 97 || l == 98) ∧ -9 ≤ z ∧ z ≤ 9 := by
  have hd : ∀ l : Nat, l < 256 → decide (0 ≤ Lib.indexByte [97, 98] ((l : Int).toNat.toUInt8)) = (l == 97 || l == 98) ∧ -9 ≤ Lib.indexByte [97, 98] ((l : Int).toNat.toUInt8) ∧ Lib.indexByte [97, 98] ((l : Int).toNat.toUInt8) ≤ 9 := by decide +kernel
  exact ⟨_, rfl, hd l h⟩
set_option maxRecDepth 100000 in
set_option maxHeartbeats 1000000 in
theorem isEdge_any (s : Int) (vE : Value) (pN : Option Addr) (n cap : Nat) (e : Ed) (w : World) (he : e.ok) (hn : n ≤ 1000) :
    Calls Tryz.prog 34 #[.agg #[.int .i64 s, vE, .slice pN n cap], e.val] w fun r w' => r = .returned (.bool (edgeP n e)) ∧ Below w.heap.size w w' := by
  obtain ⟨f, l, o, t⟩ := e
  have hl := he.l
  have ho := he.o
  dsimp only at hl ho
  unfold Ed.val edgeP
  dsimp only
  obtain ⟨z, hz, hzd, hz1, hz2⟩ := indexAB l hl
  obtain ⟨c, hc⟩ : ∃ c, (l == 97 || l == 98) = c := ⟨_, rfl⟩
  obtain ⟨d, hd⟩ : ∃ d, wordP o = d := ⟨_, rfl⟩
  rw [hc, hd]
  rw [hc] at hzd
  have HC : Hid (∀ w, Calls Tryz.prog 61 #[.string ⟨#[97, 98]⟩, .int .u8 l] w fun e w' => e = .returned (.int .i64 z) ∧ w = w') := fun w => (Tryz.strings_IndexByte ⟨#[97, 98]⟩ l w).mono fun _ _ h => ⟨h.1.trans (by rw [← hz]), h.2.symm⟩
  have HD : Hid (∀ w, Calls Tryz.prog 20 #[.string o, .string ⟨#[120, 121]⟩, .int .i64 3] w fun e w' => e = .returned (.bool d) ∧ Below w.heap.size w w') := fun w => hd ▸ isWord_any o w (by omega)
  clear hc hd hz he
  cases ha : stateP n f
  · go_enter Tryz.func34, Tryz.ntmps34
    go_wp2_with (fail)
    go_at_call 33
    refine (isState_any _ _ _ _ _ _ _ hn).mono ?_
    rintro e w1 ⟨rfl, hb⟩
    obtain ⟨hc1, hf1⟩ := bcell hb
    have hz1 : w.heap.size + 1 < w1.heap.size := by
      have := hb.size
      simp at this
      omega
    have HB1 := Lib.hid hb
    clear hb
    go_wp2_with (fail)
    go_ret
    exact ⟨rfl, (((Below.refl _ _).alloc (Nat.le_refl _) _).alloc (by simp) _).trans (HB1.out.mono (by simp; omega))⟩
  cases hb : stateP n t
  · go_enter Tryz.func34, Tryz.ntmps34
    go_wp2_with (fail)
    go_at_call 33
    refine (isState_any _ _ _ _ _ _ _ hn).mono ?_
    rintro e w1 ⟨rfl, hb⟩
    obtain ⟨hc1, hf1⟩ := bcell hb
    have hz1 : w.heap.size + 1 < w1.heap.size := by
      have := hb.size
      simp at this
      omega
    have HB1 := Lib.hid hb
    clear hb
    go_wp2_with (fail)
    go_at_call 33
    refine (isState_any _ _ _ _ _ _ _ hn).mono ?_
    rintro e w2 ⟨rfl, hb⟩
    obtain ⟨hc2, hf2⟩ := bcell hb
    have hz2 : w.heap.size + 1 < w2.heap.size := by
      have := hb.size
      skip
      omega
    have HB2 := Lib.hid hb
    clear hb
    go_wp2_with (fail)
    go_ret
    exact ⟨rfl, ((((Below.refl _ _).alloc (Nat.le_refl _) _).alloc (by simp) _).trans (HB1.out.mono (by simp; omega))).trans (HB2.out.mono (by omega))⟩
  cases c
  · go_enter Tryz.func34, Tryz.ntmps34
    go_wp2_with (fail)
    go_at_call 33
    refine (isState_any _ _ _ _ _ _ _ hn).mono ?_
    rintro e w1 ⟨rfl, hb⟩
    obtain ⟨hc1, hf1⟩ := bcell hb
    have hz1 : w.heap.size + 1 < w1.heap.size := by
      have := hb.size
      simp at this
      omega
    have HB1 := Lib.hid hb
    clear hb
    go_wp2_with (fail)
    go_at_call 33
    refine (isState_any _ _ _ _ _ _ _ hn).mono ?_
    rintro e w2 ⟨rfl, hb⟩
    obtain ⟨hc2, hf2⟩ := bcell hb
    have hz2 : w.heap.size + 1 < w2.heap.size := by
      have := hb.size
      skip
      omega
    have HB2 := Lib.hid hb
    clear hb
    go_wp2_with (fail)
    go_at_call 61
    refine (HC.out _).mono ?_
    rintro e w3 ⟨rfl, rfl⟩
    go_wp2_with (fail)
    go_ret
    exact ⟨rfl, ((((Below.refl _ _).alloc (Nat.le_refl _) _).alloc (by simp) _).trans (HB1.out.mono (by simp; omega))).trans (HB2.out.mono (by omega))⟩
  · go_enter Tryz.func34, Tryz.ntmps34
    go_wp2_with (fail)
    go_at_call 33
    refine (isState_any _ _ _ _ _ _ _ hn).mono ?_
    rintro e w1 ⟨rfl, hb⟩
    obtain ⟨hc1, hf1⟩ := bcell hb
    have hz1 : w.heap.size + 1 < w1.heap.size := by
      have := hb.size
      simp at this
      omega
    have HB1 := Lib.hid hb
    clear hb
    go_wp2_with (fail)
    go_at_call 33
    refine (isState_any _ _ _ _ _ _ _ hn).mono ?_
    rintro e w2 ⟨rfl, hb⟩
    obtain ⟨hc2, hf2⟩ := bcell hb
    have hz2 : w.heap.size + 1 < w2.heap.size := by
      have := hb.size
      skip
      omega
    have HB2 := Lib.hid hb
    clear hb
    go_wp2_with (fail)
    go_at_call 61
    refine (HC.out _).mono ?_
    rintro e w3 ⟨rfl, rfl⟩
    go_wp2_with (fail)
    go_at_call 20
    refine (HD.out _).mono ?_
    rintro e w4 ⟨rfl, hb4⟩
    have HB4 := Lib.hid hb4
    clear hb4
    go_wp2_with (fail)
    go_ret
    exact ⟨by simp, (((((Below.refl _ _).alloc (Nat.le_refl _) _).alloc (by simp) _).trans (HB1.out.mono (by simp; omega))).trans (HB2.out.mono (by omega))).trans (HB4.out.mono (by omega))⟩
end Go.Proofs.YthglgagkhnfnpaaGreat
