import Derived.Test.YthbfgmgpploneaaDoorB7
set_option linter.unusedVariables false
set_option linter.unusedSimpArgs false
set_option linter.unnecessarySimpa false
namespace Go.Proofs.YthbfgmgpploneaaDoor
open Go.RowKit

/-- what a bidder may offer for single items, made of any numbers -/
def Items20 (K : Nat) (L : List Int) : Prop := L.length = K ∧ ∀ i, 0 ≤ L.getD i 0 ∧ L.getD i 0 ≤ 19
theorem Items20.start (K : Nat) : Items20 K (List.replicate K 0) := ⟨by simp, fun i => by by_cases h : i < K <;> simp [h]⟩
theorem Items20.put {K : Nat} {L : List Int} (h : Items20 K L) (k : Nat) {z : Nat} (hz : z < 20) : Items20 K (L.set k (z : Int)) := by
  refine ⟨by simpa using h.1, fun i => ?_⟩
  by_cases hi : k = i
  · subst hi
    by_cases hk : k < L.length
    · rw [getD_set_same _ _ _ _ hk]; omega
    · rw [List.getD_eq_getElem?_getD, List.getElem?_eq_none (by simp; omega)]; simp
  · rw [getD_set_other _ _ _ _ _ hi]; exact h.2 i
def AllItems20 (K : Nat) (B : List (List Int)) : Prop := ∀ b, b ∈ B → Items20 K b
theorem AllItems20.snoc {K : Nat} {B : List (List Int)} (h : AllItems20 K B) {b : List Int} (hb : Items20 K b) : AllItems20 K (B ++ [b]) := fun x hx => by
  rcases List.mem_append.1 hx with h1 | h1
  · exact h x h1
  · rw [List.mem_singleton.1 h1]; exact hb
theorem AllItems20.len {K : Nat} {B : List (List Int)} (h : AllItems20 K B) {i : Nat} (hi : i < B.length) : (B.getD i []).length = K := by
  rw [List.getD_eq_getElem?_getD, List.getElem?_eq_getElem hi]; exact (h _ (List.getElem_mem hi)).1
set_option maxRecDepth 100000 in
set_option maxHeartbeats 4000000 in
theorem tamed_any (v : Value) (m : Int) (rows : List (List Int)) (w : World) (hl : MatA w v rows) (hr : ∀ i, In64 (rows.getD i [])) :
    Calls Tryd.prog 26 #[.int .i64 m, v] w fun e w' => ∃ (k : Nat) (B : List (List Int)) (v' : Value), e = .returned (.tuple #[.int .i64 (k : Int), v']) ∧ 1 ≤ k ∧ k ≤ 5 ∧ 1 ≤ B.length ∧ B.length ≤ 5 ∧ AllItems20 k B ∧ OwnM 31 2 w.heap.size w' v' (singleP k B) ∧ Below w.heap.size w w' := by
  obtain ⟨p, cap, rfl, hlc, hcm⟩ := hl.form_
  unfold maxLen at hcm
  obtain ⟨z, hz5, hz⟩ := tmodN m 5 (by omega)
  have hz' : (IntKind.u64.wrap m).tmod 5 = (z : Int) := hz
  have HL := Lib.hid hl
  have HR := Lib.hid hr
  clear hl hr hz
  go_enter Tryd.func26, Tryd.ntmps26
  go_wp2
  have e1 : (1 : Int) + (z : Int) = ((z + 1 : Nat) : Int) := by omega
  rw [e1]
  obtain ⟨K, hK⟩ : ∃ K, z + 1 = K := ⟨_, rfl⟩
  rw [hK]
  have hK1 : 1 ≤ K := by omega
  have hK5 : K ≤ 5 := by omega
  clear e1 hK
  obtain ⟨N, hN1, hN2, hN3⟩ : ∃ N : Nat, (if (1 : Int) < (rows.length : Int) then (rows.length : Int) else 1) = (N : Int) ∧ 1 ≤ N ∧ rows.length ≤ N := by
    by_cases h : 1 < rows.length
    · exact ⟨rows.length, by rw [if_pos (by omega)], by omega, Nat.le_refl _⟩
    · exact ⟨1, by rw [if_neg (by omega)]; rfl, Nat.le_refl _, by omega⟩
  go_loopw [6, 7, 8, 9] (fun o i _ _ wr => ∃ (k : Nat) (B : List (List Int)), k ≤ N ∧ k ≤ 5 ∧ B.length = k ∧ i = .int .i64 k ∧ AllItems20 K B ∧ OwnM 31 2 w.heap.size wr o B ∧ Below w.heap.size w wr) (fun _ i _ _ _ => 5 - (intOf i).toNat)
  case atStart => exact ⟨0, [], Nat.zero_le _, Nat.zero_le _, rfl, rfl, (fun b hb => by simp at hb), OwnM.nil _ _ _ _, Below.refl _ _⟩
  case round =>
    obtain ⟨i, B, hi, hi5, hBl, rfl, h20, hown, hbel⟩ := hrel
    have H20 := Lib.hid h20
    have HOWN := Lib.hid hown
    have HB := Lib.hid hbel
    have HBl := Lib.hid hBl
    by_cases hlt : i < N ∧ i < 5
    · obtain ⟨h1, h5⟩ := hlt
      have hd0 : decide ((i : Int) < (N : Int)) = true := by rw [decide_eq_true_eq]; omega
      have hd1 : decide ((i : Int) < 5) = true := by rw [decide_eq_true_eq]; omega
      obtain ⟨wo, hwo⟩ : ∃ wo : World, wo = wr := ⟨_, rfl⟩
      subst hwo
      clear h20 hown hbel hBl
      go_wp2_with (first | (at_make; refine wpList_make_row _ rfl _ _ 31 rfl 2 (.int .i64 0) 8 Tryd.underlying31 Tryd.info2 rfl .i64 .i64 _ _ K rfl rfl ?e1 ?e2 ?e3 ?e4 ?_))
      case e1 => rfl
      case e2 => rfl
      case e3 => omega
      case e4 => unfold maxLen; omega
      intro w1 hrow hbel
      have HROW : Hid (Row 2 w1 wo.heap.size (ints (List.replicate K 0))) := by rw [← ints_replicate]; exact hrow
      have HBEL := Lib.hid hbel
      clear hrow hbel hd0 hd1
      go_wp2
      go_loopw [9] (fun k wx => ∃ (k' : Nat) (L : List Int), k' ≤ K ∧ k = .int .i64 k' ∧ Items20 K L ∧ Row 2 wx wo.heap.size (ints L) ∧ Below wo.heap.size wo wx) (fun k _ => K - (intOf k).toNat)
      case atStart => exact ⟨0, _, Nat.zero_le _, rfl, Items20.start K, HROW.out, HBEL.out⟩
      case round =>
        obtain ⟨k, L, hk, rfl, hLL, hrow, hbel⟩ := hrel
        clear HROW HBEL
        have HLL := Lib.hid hLL
        obtain ⟨vs, hvl, hvo, hvr⟩ := HOWN.out.below hbel (Nat.le_refl _)
        have hlr : (ints L).length = K := by rw [ints_length, hLL.1]
        have HRO : Hid (Own 2 w.heap.size wr (.slice (some ⟨wo.heap.size, 0, none⟩) K K) (ints L)) := by
          have h2 := Own.of_row (T := 2) (base := w.heap.size) (cap := K) (xs := ints L) (more := []) (by rw [List.append_nil]; exact hrow) HB.out.size (by unfold maxLen; omega) (by rw [hlr]; simp)
          have e : Value.slice (some ⟨wo.heap.size, 0, none⟩) (ints L).length K = .slice (some ⟨wo.heap.size, 0, none⟩) K K := by rw [hlr]
          rw [e] at h2; exact h2
        have HVL := Lib.hid hvl
        have HVO := Lib.hid hvo
        have HVR := Lib.hid hvr
        have HBX := Lib.hid (HB.out.trans (hbel.mono HB.out.size))
        have hv7 : vs.length ≤ 7 := by rw [hvl, HBl.out]; omega
        have HROW := Lib.hid hrow
        have HBEL := Lib.hid hbel
        clear hvl hvo hvr hLL hrow hbel hlr
        by_cases hkK : k < K
        · have hd2 : decide ((k : Int) < (K : Int)) = true := by rw [decide_eq_true_eq]; omega
          by_cases hin : i < rows.length
          · have hd3 : decide ((i : Int) < (rows.length : Int)) = true := by rw [decide_eq_true_eq]; omega
            obtain ⟨ad, c1, u, hv, _, _, _, hcu, hsu⟩ := (HL.out.below HBX.out).row_at i hin
            cases hv
            by_cases hkr : k < (rows.getD i []).length
            · obtain ⟨ad2, c2, rfl, _, _, _, hcx⟩ := hsu.int_at k hkr
              obtain ⟨y, hy20, hy⟩ := tmodN ((rows.getD i []).getD k 0) 20 (by omega)
              have hy' : (IntKind.u64.wrap ((rows.getD i []).getD k 0)).tmod 20 = (y : Int) := hy
              have hxr := HR.out i k
              have hkr2 : (k : Int) < ((rows.getD i []).length : Int) := by omega
              obtain ⟨x, hx⟩ : ∃ x, (rows.getD i []).getD k 0 = x := ⟨_, rfl⟩
              obtain ⟨n, hn⟩ : ∃ n, (rows.getD i []).length = n := ⟨_, rfl⟩
              rw [hx] at hcx hy' hxr
              rw [hn] at hcu hkr hkr2
              have hd4 : decide ((k : Int) < (n : Int)) = true := by rw [decide_eq_true_eq]; exact hkr2
              have hcr := HROW.out.cell k
              rw [ints_get _ _ (by rw [HLL.out.1]; exact hkK)] at hcr
              have hfr := HROW.out.free k
              obtain ⟨r, hr⟩ : ∃ r, L.getD k 0 = r := ⟨_, rfl⟩
              rw [hr] at hcr
              have HR2 : Hid (Row 2 (wr.setCell ⟨wo.heap.size, k, none⟩ (.int .i64 (y : Int))) wo.heap.size (ints (L.set k (y : Int)))) := by rw [← ints_set]; exact HROW.out.store k _
              have HI2 := Lib.hid (HLL.out.put k hy20)
              clear hsu hy hx hn hr
              go_wp2
              go_roundw
              case rel => exact ⟨k + 1, _, by omega, by go_num, HI2.out, HR2.out, HBEL.out.setCell (Nat.le_refl _) _⟩
              case measure => simp [intOf]; omega
            · obtain ⟨up, uc, rfl, _, _⟩ := hsu.form
              have hkr2 : ¬ (k : Int) < ((rows.getD i []).length : Int) := by omega
              obtain ⟨n, hn⟩ : ∃ n, (rows.getD i []).length = n := ⟨_, rfl⟩
              rw [hn] at hcu hkr2
              have hd4 : decide ((k : Int) < (n : Int)) = false := by rw [decide_eq_false_iff_not]; exact hkr2
              clear hsu hn hkr
              go_wp2_with (first | (at_builtin; refine wpList_append_box wr rfl (.tmp 61) (.tmp 63) 22 rfl 31 (.slice none 0 0) 24 Tryd.underlying22 Tryd.info31 rfl (by omega) w.heap.size u6 vs rfl HVO.out (.slice (some ⟨wo.heap.size, 0, none⟩) K K) rfl rfl ?p3 ?p4 ?_))
              case p3 => omega
              case p4 => exact HBX.out.size
              intro v' w' hown hbel hkeep
              have HM2 := Lib.hid (OwnM.snoc (by decide) HVL.out HVR.out HRO.out hown hkeep)
              have HB2 := Lib.hid (HBX.out.trans hbel)
              clear hown hbel hkeep
              go_wp2
              go_roundw
              case rel => exact ⟨i + 1, B ++ [L], by omega, by omega, by simp [HBl.out], by go_num, H20.out.snoc HLL.out, HM2.out, HB2.out⟩
              case measure => simp [intOf]; omega
          · have hd3 : decide ((i : Int) < (rows.length : Int)) = false := by rw [decide_eq_false_iff_not]; omega
            have hin2 : ¬ (i : Int) < (rows.length : Int) := by omega
            go_wp2_with (first | (at_builtin; refine wpList_append_box wr rfl (.tmp 61) (.tmp 63) 22 rfl 31 (.slice none 0 0) 24 Tryd.underlying22 Tryd.info31 rfl (by omega) w.heap.size u6 vs rfl HVO.out (.slice (some ⟨wo.heap.size, 0, none⟩) K K) rfl rfl ?q3 ?q4 ?_))
            case q3 => omega
            case q4 => exact HBX.out.size
            intro v' w' hown hbel hkeep
            have HM2 := Lib.hid (OwnM.snoc (by decide) HVL.out HVR.out HRO.out hown hkeep)
            have HB2 := Lib.hid (HBX.out.trans hbel)
            clear hown hbel hkeep
            go_wp2
            go_roundw
            case rel => exact ⟨i + 1, B ++ [L], by omega, by omega, by simp [HBl.out], by go_num, H20.out.snoc HLL.out, HM2.out, HB2.out⟩
            case measure => simp [intOf]; omega
        · obtain rfl : k = K := by omega
          clear hkK
          go_wp2_with (first | (at_builtin; refine wpList_append_box wr rfl (.tmp 61) (.tmp 63) 22 rfl 31 (.slice none 0 0) 24 Tryd.underlying22 Tryd.info31 rfl (by omega) w.heap.size u6 vs rfl HVO.out (.slice (some ⟨wo.heap.size, 0, none⟩) k k) rfl rfl ?r3 ?r4 ?_))
          case r3 => omega
          case r4 => exact HBX.out.size
          intro v' w' hown hbel hkeep
          have HM2 := Lib.hid (OwnM.snoc (by decide) HVL.out HVR.out HRO.out hown hkeep)
          have HB2 := Lib.hid (HBX.out.trans hbel)
          clear hown hbel hkeep
          go_wp2
          go_roundw
          case rel => exact ⟨i + 1, B ++ [L], by omega, by omega, by simp [HBl.out], by go_num, H20.out.snoc HLL.out, HM2.out, HB2.out⟩
          case measure => simp [intOf]; omega
    · obtain ⟨q, qc, hqv, _, _⟩ := hown.mat.form_
      subst hqv
      rw [hBl] at HOWN ⊢
      have hB1 : 1 ≤ B.length := by omega
      have hB5 : B.length ≤ 5 := by omega
      have HSI := Lib.hid (single_any _ K B wr HOWN.out.mat (by omega) (by omega) (fun j hj => H20.out.len hj))
      have hx : ¬ (i : Int) < (N : Int) ∨ ¬ (i : Int) < 5 := by omega
      clear h20 hown hbel hBl hlt
      by_cases h1 : i < N
      · have h5 : i = 5 := by omega
        subst h5
        have hd0 : decide (((5 : Nat) : Int) < (N : Int)) = true := by rw [decide_eq_true_eq]; omega
        clear hx
        go_wp2_with fail
        refine HSI.out.mono ?_
        rintro e w1 ⟨v', rfl, ho1, hb1⟩
        have HO1 := Lib.hid (ho1.base HB.out.size)
        have HB1 := Lib.hid (HB.out.trans (hb1.mono HB.out.size))
        clear ho1 hb1
        go_wp2
        go_ret2
        exact ⟨K, B, v', rfl, hK1, hK5, hB1, hB5, H20.out, HO1.out, HB1.out⟩
      · have h2 : ¬ (i : Int) < (N : Int) := by omega
        have hd0 : decide ((i : Int) < (N : Int)) = false := by rw [decide_eq_false_iff_not]; exact h2
        clear hx
        go_wp2_with fail
        refine HSI.out.mono ?_
        rintro e w1 ⟨v', rfl, ho1, hb1⟩
        have HO1 := Lib.hid (ho1.base HB.out.size)
        have HB1 := Lib.hid (HB.out.trans (hb1.mono HB.out.size))
        clear ho1 hb1
        go_wp2
        go_ret2
        exact ⟨K, B, v', rfl, hK1, hK5, hB1, hB5, H20.out, HO1.out, HB1.out⟩
end Go.Proofs.YthbfgmgpploneaaDoor
