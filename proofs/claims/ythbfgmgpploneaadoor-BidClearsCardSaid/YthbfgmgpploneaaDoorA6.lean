import Derived.Test.YthbfgmgpploneaaDoorA5
import Derived.Deep.RegionWith
set_option linter.unusedVariables false
set_option linter.unusedSimpArgs false
set_option linter.unnecessarySimpa false
namespace Go.Proofs.YthbfgmgpploneaaDoor
open Go.RowKit

/-- element s of row i of a slice of slices, where it lies -/
def At2 (w : World) (v : Value) (n i M s : Nat) (x : Int) : Prop :=
  ∃ b1 o1 c1 b2 o2 c2, v = .slice (some ⟨b1, o1, none⟩) n c1 ∧ w.cell? ⟨b1, o1 + i, none⟩ = some (.slice (some ⟨b2, o2, none⟩) M c2) ∧ w.cell? ⟨b2, o2 + s, none⟩ = some (.int .i64 x) ∧ n ≤ c1 ∧ M ≤ c2
theorem Mat.at2 {w : World} {v : Value} {rows : List (List Int)} (h : Mat w v rows) {n i M s : Nat} {x : Int} (hn : rows.length = n) (hi : i < n) (hM : (rows.getD i []).length = M) (hs : s < M) (hx : (rows.getD i []).getD s 0 = x) : At2 w v n i M s x := by
  subst hn; subst hM; subst hx
  obtain ⟨b1, o1, c1, u, rfl, h1, _, _, hc, hsl⟩ := h.row_at i hi
  obtain ⟨b2, o2, c2, rfl, h2, _, _, hx⟩ := hsl.int_at s hs
  exact ⟨b1, o1, c1, b2, o2, c2, rfl, hc, hx, h1, h2⟩
set_option maxHeartbeats 1000000 in
theorem worth_any (v : Value) (m : Nat) (bids : List (List Int)) (who : Nat) (w : World) (hl : Mat w v bids) (hm : m ≤ 6) (hn : bids.length ≤ 7) (ho : Offers m bids) (hw : who < 1000) :
    Calls Tryd.prog 27 #[.int .i64 m, v, .int .i64 who] w fun e w' => e = .returned (.int .i64 (worthP m bids who)) ∧ Below w.heap.size w w' := by
  have hM := wrap_pow m (by omega)
  have hM64 := pow_le64 hm
  have hM0 := pow_pos2 m
  have HC : Hid (∀ W, Below w.heap.size w W → Calls Tryd.prog 58 #[.int .i64 m, v, .int .i64 who] W fun e w' => ∃ b1 c1 b2 c2 o1 o2, e = .returned (.slice (some ⟨b1, o1, none⟩) (bids.length + 1) c1) ∧
      w'.cell? ⟨b1, o1, none⟩ = some (.slice (some ⟨b2, o2, none⟩) (2 ^ m) c2) ∧ w'.cell? ⟨b2, o2 + (2 ^ m - 1), none⟩ = some (.int .i64 (worthP m bids who)) ∧ Below w.heap.size w w') := fun W hb =>
    (tables_any v m bids who W (hl.below hb) hm hn ho hw).mono fun e w' ⟨v', he, hown, hbl⟩ => by
      have hat := hown.mat.at2 (n := bids.length + 1) (i := 0) (M := 2 ^ m) (s := 2 ^ m - 1) (x := worthP m bids who) (tablesP_len _ _ _) (by omega) (by rw [tablesP_get _ _ _ _ (by omega), tk_len _ _ _ _ (by omega)]) (by omega) (by rw [tablesP_get _ _ _ _ (by omega)]; rfl)
      obtain ⟨b1, o1, c1, b2, o2, c2, rfl, h1, h2, _, _⟩ := hat
      exact ⟨b1, c1, b2, c2, o1, o2, he, h1, h2, hb.trans (hbl.mono hb.size)⟩
  obtain ⟨x, hx⟩ : ∃ x, worthP m bids who = x := ⟨_, rfl⟩
  obtain ⟨M, hMM⟩ : ∃ M, 2 ^ m = M := ⟨_, rfl⟩
  rw [hx, hMM] at HC
  rw [hMM] at hM hM64 hM0
  have HX := Lib.hid hx
  have hM1 : IntKind.i64.wrap ((M : Int) - 1) = (M : Int) - 1 := IntWalk.i64_in _ (by omega)
  have hM2 : 0 ≤ (M : Int) - 1 := by omega
  have hM3 : ((M : Int) - 1).toNat = M - 1 := by omega
  have hM4 : (M : Int) - 1 < (M : Int) := by omega
  have hn1 : (0 : Int) < (bids.length : Int) + 1 := by omega
  clear hl ho hx hMM
  go_enter Tryd.func27, Tryd.ntmps27
  go_wp2
  go_region_with (go_at_call 58; refine (HC.out _ ((Below.refl _ _).drew)).mono ?_; rintro e w1 ⟨b1, c1, b2, c2, o1, o2, rfl, h1, h2, hb⟩; have HB := Lib.hid hb; clear hb HC)
  all_goals
    go_wp2
    go_ret
    exact ⟨by rw [HX.out]; rfl, HB.out⟩
set_option maxHeartbeats 400000 in
theorem everyone_form (p : Option Addr) (n cap : Nat) (w : World) (hlc : n ≤ cap) (hn : n ≤ 7) :
    Calls Tryd.prog 28 #[.slice p n cap] w fun e w' => e = .returned (.int .i64 ((2 ^ n - 1 : Nat) : Int)) ∧ w = w' := by
  have hN := wrap_pow n (by omega)
  have hN0 := pow_pos2 n
  have hN1 : 2 ^ n ≤ 2 ^ 7 := Nat.pow_le_pow_right (by omega) hn
  obtain ⟨N, hNN⟩ : ∃ N, 2 ^ n = N := ⟨_, rfl⟩
  rw [hNN] at hN hN0 hN1 ⊢
  have e0 : (((N - 1 : Nat)) : Int) = (N : Int) - 1 := by omega
  rw [e0]
  clear e0 hNN
  go_enter Tryd.func28, Tryd.ntmps28
  go_wp2
  go_ret
  exact ⟨rfl, rfl⟩
theorem everyone_any (v : Value) (bids : List (List Int)) (w : World) (hl : Mat w v bids) (hn : bids.length ≤ 7) :
    Calls Tryd.prog 28 #[v] w fun e w' => e = .returned (.int .i64 ((2 ^ bids.length - 1 : Nat) : Int)) ∧ w = w' := by
  obtain ⟨p, cap, rfl, hlc, hcm⟩ := hl.form_
  exact everyone_form p _ cap w hlc hn
end Go.Proofs.YthbfgmgpploneaaDoor
