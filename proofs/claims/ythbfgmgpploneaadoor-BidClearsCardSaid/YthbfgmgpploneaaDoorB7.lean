import Derived.Test.YthbfgmgpploneaaDoorB6
set_option linter.unusedVariables false
set_option linter.unusedSimpArgs false
set_option linter.unnecessarySimpa false
namespace Go.Proofs.YthbfgmgpploneaaDoor
open Go.RowKit

theorem tmodN (x : Int) (n : Nat) (hn : 0 < n) : ∃ z : Nat, z < n ∧ (IntKind.u64.wrap x).tmod n = (z : Int) := by
  have h : IntKind.u64.wrap x = x % 2 ^ 64 := by simp [IntKind.wrap, IntKind.bits, IntKind.signed]
  rw [h, Int.tmod_eq_emod_of_nonneg (by omega)]
  refine ⟨(x % 2 ^ 64 % n).toNat, ?_, ?_⟩
  · have := Int.emod_lt_of_pos (x % 2 ^ 64) (show (0 : Int) < n by omega)
    have := Int.emod_nonneg (x % 2 ^ 64) (show (n : Int) ≠ 0 by omega)
    omega
  · have := Int.emod_nonneg (x % 2 ^ 64) (show (n : Int) ≠ 0 by omega)
    omega
def Offers39 (m : Nat) (B : List (List Int)) : Prop := ∀ b, b ∈ B → Offer39 m b
theorem Offers39.snoc {m : Nat} {B : List (List Int)} (h : Offers39 m B) {b : List Int} (hb : Offer39 m b) : Offers39 m (B ++ [b]) := fun x hx => by
  rcases List.mem_append.1 hx with h1 | h1
  · exact h x h1
  · rw [List.mem_singleton.1 h1]; exact hb
theorem Offers39.offers {m : Nat} {B : List (List Int)} (h : Offers39 m B) : Offers m B := fun b hb => (h b hb).1
/-- numbers that an int64 may be -/
def In64 (l : List Int) : Prop := ∀ i, -9223372036854775808 ≤ l.getD i 0 ∧ l.getD i 0 ≤ 9223372036854775807
theorem In64.nil : In64 [] := fun i => by simp
set_option maxRecDepth 100000 in
set_option maxHeartbeats 4000000 in
theorem tame_any (v : Value) (m : Int) (rows : List (List Int)) (w : World) (hl : MatA w v rows) (hr : ∀ i, In64 (rows.getD i [])) :
    Calls Tryd.prog 25 #[.int .i64 m, v] w fun e w' => ∃ (k : Nat) (B : List (List Int)) (v' : Value), e = .returned (.tuple #[.int .i64 (k : Int), v']) ∧ 1 ≤ k ∧ k ≤ 4 ∧ 1 ≤ B.length ∧ B.length ≤ 4 ∧ Offers39 k B ∧ OwnM 31 2 w.heap.size w' v' B ∧ Below w.heap.size w w' := by
  obtain ⟨p, cap, rfl, hlc, hcm⟩ := hl.form_
  unfold maxLen at hcm
  obtain ⟨z, hz4, hz⟩ := tmodN m 4 (by omega)
  have hz' : (IntKind.u64.wrap m).tmod 4 = (z : Int) := hz
  have HL := Lib.hid hl
  have HR := Lib.hid hr
  clear hl hr hz
  go_enter Tryd.func25, Tryd.ntmps25
  go_wp2
  have e1 : (1 : Int) + (z : Int) = ((z + 1 : Nat) : Int) := by omega
  rw [e1]
  obtain ⟨K, hK⟩ : ∃ K, z + 1 = K := ⟨_, rfl⟩
  rw [hK]
  have hK1 : 1 ≤ K := by omega
  have hK4 : K ≤ 4 := by omega
  have HC : Hid (∀ W v l, SlA W v (ints l) → In64 l → Calls Tryd.prog 39 #[.int .i64 K, v] W fun e w' => ∃ p c L, e = .returned (.slice p L.length c) ∧ Own 2 W.heap.size w' (.slice p L.length c) (ints L) ∧ Offer39 K L ∧ Below W.heap.size W w') := fun W v l h1 h2 =>
    (mkOffer_any v K l W h1 (by omega) hK1 h2).mono fun e w' ⟨v', L, he, ho, h39, hb⟩ => by
      obtain ⟨p', c', rfl, _, _⟩ := ho.sl.form
      exact ⟨p', c', L, he, ho, h39, hb⟩
  clear e1 hK
  go_loopw [6, 7] (fun o i wr => ∃ (k : Nat) (B : List (List Int)), k ≤ rows.length ∧ k ≤ 4 ∧ B.length = k ∧ i = .int .i64 k ∧ Offers39 K B ∧ OwnM 31 2 w.heap.size wr o B ∧ Below w.heap.size w wr) (fun _ i _ => 4 - (intOf i).toNat)
  case atStart => exact ⟨0, [], Nat.zero_le _, Nat.zero_le _, rfl, rfl, (fun b hb => by simp at hb), OwnM.nil _ _ _ _, Below.refl _ _⟩
  case round =>
    obtain ⟨k, B, hk, hk4, hBl, rfl, h39, hown, hbel⟩ := hrel
    have H39 := Lib.hid h39
    have HOWN := Lib.hid hown
    have HB := Lib.hid hbel
    have HBl := Lib.hid hBl
    by_cases hlt : k < rows.length ∧ k < 4
    · obtain ⟨h1, h4⟩ := hlt
      obtain ⟨ad, c1, u, hv, _, _, _, hcu, hsu⟩ := (HL.out.below hbel).row_at k h1
      cases hv
      have HCU := Lib.hid (HC.out wr u _ hsu (HR.out k))
      have hd1 : decide ((k : Int) < 4) = true := by rw [decide_eq_true_eq]; omega
      clear h39 hown hbel hsu hBl
      go_wp2_with fail
      refine HCU.out.mono ?_
      rintro e w1 ⟨lp, lc, L, rfl, ho1, hL39, hb1⟩
      obtain ⟨vs, hvl, hvo, hvr⟩ := HOWN.out.below hb1 (Nat.le_refl _)
      have HRO := Lib.hid (ho1.base HB.out.size)
      have HL39 := Lib.hid hL39
      have HVL := Lib.hid hvl
      have HVO := Lib.hid hvo
      have HVR := Lib.hid hvr
      have HBX := Lib.hid (HB.out.trans (hb1.mono HB.out.size))
      have hv7 : vs.length ≤ 7 := by rw [hvl, HBl.out]; omega
      clear ho1 hb1 hvl hvo hvr HCU hL39
      go_wp2_with (first | (at_builtin; refine wpList_append_box w1 rfl (.tmp 23) (.tmp 30) 22 rfl 31 (.slice none 0 0) 24 Tryd.underlying22 Tryd.info31 rfl (by omega) w.heap.size u6 vs rfl HVO.out (.slice lp L.length lc) rfl rfl ?a3 ?a4 ?_))
      case a3 => omega
      case a4 => exact HBX.out.size
      intro v' w' hown hbel hkeep
      have HM2 := Lib.hid (OwnM.snoc (by decide) HVL.out HVR.out HRO.out hown hkeep)
      have HB2 := Lib.hid (HBX.out.trans hbel)
      clear hown hbel hkeep
      go_wp2
      go_roundw
      case rel => exact ⟨k + 1, B ++ [L], by omega, by omega, by simp [HBl.out], by go_num, H39.out.snoc HL39.out, HM2.out, HB2.out⟩
      case measure => simp [intOf]; omega
    · have hfin : ¬ (k < rows.length ∧ k < 4) := hlt
      obtain ⟨q, qc, hqv, _, _⟩ := hown.mat.form_
      subst hqv
      rw [hBl] at HOWN ⊢
      clear h39 hown hbel hBl hlt
      by_cases hk0 : k = 0
      · subst hk0
        have HCU := Lib.hid (HC.out wr (.slice none 0 0) [] (SlA.nil wr) In64.nil)
        have hB0 : B = [] := List.length_eq_zero_iff.1 HBl.out
        subst hB0
        clear hk hk4
        have hr0 : rows.length = 0 := by omega
        have hr1 : ¬ (0 : Int) < (rows.length : Int) := by omega
        have HR0 := Lib.hid hr0
        clear hr0 hfin
        go_wp2_with fail
        refine HCU.out.mono ?_
        rintro e w1 ⟨lp, lc, L, rfl, ho1, hL39, hb1⟩
        obtain ⟨vs, hvl, hvo, hvr⟩ := HOWN.out.below hb1 (Nat.le_refl _)
        have HRO := Lib.hid (ho1.base HB.out.size)
        have HL39 := Lib.hid hL39
        have HVL := Lib.hid hvl
        have HVO := Lib.hid hvo
        have HVR := Lib.hid hvr
        have HBX := Lib.hid (HB.out.trans (hb1.mono HB.out.size))
        have hv7 : vs.length ≤ 7 := by rw [hvl]; simp
        clear ho1 hb1 hvl hvo hvr HCU hL39
        go_wp2_with (first | (at_builtin; refine wpList_append_box w1 rfl (.tmp 35) (.tmp 38) 22 rfl 31 (.slice none 0 0) 24 Tryd.underlying22 Tryd.info31 rfl (by omega) w.heap.size (.slice q 0 qc) vs rfl HVO.out (.slice lp L.length lc) rfl rfl ?b3 ?b4 ?_))
        case b3 => omega
        case b4 => exact HBX.out.size
        intro v' w' hown hbel hkeep
        have HM2 := Lib.hid (OwnM.snoc (by decide) HVL.out HVR.out HRO.out hown hkeep)
        have HB2 := Lib.hid (HBX.out.trans hbel)
        clear hown hbel hkeep
        go_wp2
        go_ret2
        exact ⟨K, [] ++ [L], v', rfl, hK1, hK4, by simp, by simp, H39.out.snoc HL39.out, HM2.out, HB2.out⟩
      · have hk1 : 1 ≤ k := by omega
        have hb0 : ((k : Int) == 0) = false := by rw [beq_eq_false_iff_ne]; omega
        by_cases h1 : k < rows.length
        · have h4 : k = 4 := by omega
          subst h4
          clear hk0 hfin
          go_wp2
          go_ret2
          exact ⟨K, B, _, rfl, hK1, hK4, by rw [HBl.out]; omega, by rw [HBl.out]; omega, H39.out, HOWN.out, HB.out⟩
        · have h2 : ¬ (k : Int) < (rows.length : Int) := by omega
          clear hk0 hfin
          go_wp2
          go_ret2
          exact ⟨K, B, _, rfl, hK1, hK4, by rw [HBl.out]; omega, by rw [HBl.out]; omega, H39.out, HOWN.out, HB.out⟩
end Go.Proofs.YthbfgmgpploneaaDoor
