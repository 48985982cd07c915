/- slices.Compare at two pairs. -/
import Derived.Test.YtllhejjcmfiebaaDoorS5
set_option linter.unusedVariables false
set_option linter.unusedSimpArgs false
set_option linter.unnecessarySimpa false
namespace Go.Proofs.YtllhejjcmfiebaaDoor
open Go.RowKit Go.Shelf

def cmpI (a b : Int) : Int := if a < b then -1 else if b < a then 1 else 0
theorem nan_go (a : Int) (w : World) : Calls Tryd.prog 95 #[.int .i64 a] w fun e w' => e = .returned (.bool false) ∧ w' = w := by
  have hd : (a != a) = false := by simp
  go_enter Tryd.func95, Tryd.ntmps95
  go_wp2
  go_ret
  exact ⟨rfl, rfl⟩
theorem cmp_go (a b : Int) (w : World) : Calls Tryd.prog 92 #[.int .i64 a, .int .i64 b] w fun e w' => e = .returned (.int .i64 (cmpI a b)) ∧ w' = w := by
  have HC : Hid (cmpI a b = if a < b then -1 else if b < a then 1 else 0) := rfl
  have HA := Lib.hid (fun W => nan_go a W)
  have HB := Lib.hid (fun W => nan_go b W)
  by_cases h1 : a < b
  · have HR : Hid (cmpI a b = -1) := by show _ = _; rw [HC.out, if_pos h1]
    go_enter Tryd.func92, Tryd.ntmps92
    go_wp2_with fail
    refine (HA.out _).mono ?_
    rintro e w' ⟨rfl, rfl⟩
    go_wp2_with fail
    refine (HB.out _).mono ?_
    rintro e w' ⟨rfl, rfl⟩
    go_wp2
    go_ret
    exact ⟨by rw [HR.out]; rfl, rfl⟩
  · by_cases h2 : b < a
    · have HR : Hid (cmpI a b = 1) := by show _ = _; rw [HC.out, if_neg h1, if_pos h2]
      go_enter Tryd.func92, Tryd.ntmps92
      go_wp2_with fail
      refine (HA.out _).mono ?_
      rintro e w' ⟨rfl, rfl⟩
      go_wp2_with fail
      refine (HB.out _).mono ?_
      rintro e w' ⟨rfl, rfl⟩
      go_wp2
      go_ret
      exact ⟨by rw [HR.out]; rfl, rfl⟩
    · have HR : Hid (cmpI a b = 0) := by show _ = _; rw [HC.out, if_neg h1, if_neg h2]
      go_enter Tryd.func92, Tryd.ntmps92
      go_wp2_with fail
      refine (HA.out _).mono ?_
      rintro e w' ⟨rfl, rfl⟩
      go_wp2_with fail
      refine (HB.out _).mono ?_
      rintro e w' ⟨rfl, rfl⟩
      go_wp2
      go_ret
      exact ⟨by rw [HR.out]; rfl, rfl⟩
def cmp2 (a b c d : Int) : Int := if cmpI a c = 0 then cmpI b d else cmpI a c
set_option maxRecDepth 100000 in
set_option maxHeartbeats 1000000 in
theorem compare2_go (g h : Nat) (a b c d : Int) (w : World) (ha : w.cell? ⟨g, 0, none⟩ = some (.int .i64 a)) (hb : w.cell? ⟨g, 1, none⟩ = some (.int .i64 b)) (hc : w.cell? ⟨h, 0, none⟩ = some (.int .i64 c)) (hd : w.cell? ⟨h, 1, none⟩ = some (.int .i64 d)) :
    Calls Tryd.prog 83 #[.slice (some ⟨g, 0, none⟩) 2 2, .slice (some ⟨h, 0, none⟩) 2 2] w fun e w' => e = .returned (.int .i64 (cmp2 a b c d)) ∧ w' = w := by
  have H1 := Lib.hid (fun W => cmp_go a c W)
  have H2 := Lib.hid (fun W => cmp_go b d W)
  have HR : Hid (cmp2 a b c d = if cmpI a c = 0 then cmpI b d else cmpI a c) := rfl
  obtain ⟨x, hx⟩ : ∃ x, cmpI a c = x := ⟨_, rfl⟩
  obtain ⟨y, hy⟩ : ∃ y, cmpI b d = y := ⟨_, rfl⟩
  obtain ⟨r, hr⟩ : ∃ r, cmp2 a b c d = r := ⟨_, rfl⟩
  rw [hx] at H1
  rw [hy] at H2
  rw [hr, hx, hy] at HR
  rw [hr]
  clear hx hy hr
  go_enter Tryd.func83, Tryd.ntmps83
  go_wp2
  go_loopw [11] (fun i wr => ∃ k : Nat, k ≤ 2 ∧ i = .int .i64 k ∧ wr = w ∧ (1 ≤ k → x = 0) ∧ (2 ≤ k → y = 0)) (fun i _ => 2 - (intOf i).toNat)
  case atStart => exact ⟨0, by omega, rfl, rfl, fun h => by omega, fun h => by omega⟩
  case round =>
    obtain ⟨k, hk, rfl, hwr, h1, h2⟩ := hrel
    subst hwr
    rcases (by omega : k = 0 ∨ k = 1 ∨ k = 2) with hk0 | hk1 | hk2
    · have hkz : (k : Int) = 0 := by omega
      by_cases hx0 : x = 0
      · have HX := Lib.hid hx0
        subst hx0
        subst hk0
        go_wp2_with fail
        refine (H1.out _).mono ?_
        rintro e w' ⟨rfl, rfl⟩
        go_wp2
        go_roundw
        case rel => exact ⟨1, by omega, rfl, by simp⟩
        case measure => simp [intOf]
      · have hne : (x != 0) = true := by rw [bne_iff_ne]; exact hx0
        have HRR : Hid (r = x) := by show _ = _; rw [HR.out, if_neg hx0]
        subst hk0
        go_wp2_with fail
        refine (H1.out _).mono ?_
        rintro e w' ⟨rfl, rfl⟩
        go_wp2
        go_ret
        exact ⟨by rw [HRR.out]; rfl, rfl⟩
    · have hx0 := h1 (by omega)
      subst hx0
      subst hk1
      by_cases hy0 : y = 0
      · have HX := Lib.hid hy0
        subst hy0
        go_wp2_with fail
        refine (H2.out _).mono ?_
        rintro e w' ⟨rfl, rfl⟩
        go_wp2
        go_roundw
        case rel => exact ⟨2, by omega, rfl, by simp⟩
        case measure => simp [intOf]
      · have hne : (y != 0) = true := by rw [bne_iff_ne]; exact hy0
        have HRR : Hid (r = y) := by show _ = _; rw [HR.out, if_pos rfl]
        go_wp2_with fail
        refine (H2.out _).mono ?_
        rintro e w' ⟨rfl, rfl⟩
        go_wp2
        go_ret
        exact ⟨by rw [HRR.out]; rfl, rfl⟩
    · have hx0 := h1 (by omega)
      have hy0 := h2 (by omega)
      subst hx0 hy0 hk2
      have HRR : Hid (r = 0) := by show _ = _; rw [HR.out, if_pos rfl]
      go_wp2
      go_ret
      exact ⟨by rw [HRR.out]; rfl, rfl⟩
end Go.Proofs.YtllhejjcmfiebaaDoor
