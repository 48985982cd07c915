import Derived.Test.YthbfgmgpploneaaDoorL4
set_option linter.unusedVariables false
set_option linter.unusedSimpArgs false
set_option linter.unnecessarySimpa false
namespace Go.Proofs.YthbfgmgpploneaaDoor
open Go.RowKit

def goodRow (K : Nat) (r : List Int) : Bool := r.length == K && r.all fun x => decide (0 ≤ x) && decide (x ≤ 1000000)
theorem goodRow_iff (K : Nat) (r : List Int) : goodRow K r = true ↔ r.length = K ∧ ∀ j, j < r.length → 0 ≤ r.getD j 0 ∧ r.getD j 0 ≤ 1000000 := by
  unfold goodRow
  simp only [Bool.and_eq_true, beq_iff_eq, List.all_eq_true, decide_eq_true_eq]
  constructor
  · rintro ⟨h1, h2⟩
    refine ⟨h1, fun j hj => h2 _ ?_⟩
    rw [List.getD_eq_getElem?_getD, List.getElem?_eq_getElem hj]; exact List.getElem_mem hj
  · rintro ⟨h1, h2⟩
    refine ⟨h1, fun x hx => ?_⟩
    obtain ⟨j, hj, rfl⟩ := List.mem_iff_getElem.1 hx
    have := h2 j hj
    rw [List.getD_eq_getElem?_getD, List.getElem?_eq_getElem hj] at this; exact this
theorem singleE_arg {m : Int} {o : List (List Int)} (h : m < 1 ∨ 6 < m) : singleE m o = 1 := if_pos h
theorem singleE_len {K : Nat} {o : List (List Int)} (h1 : 1 ≤ K) (h6 : K ≤ 6) (h : o.length < 1 ∨ 6 < o.length) : singleE (K : Int) o = 80 := by
  unfold singleE
  rw [if_neg (by omega), if_pos (by rcases h with h | h; exact Or.inl h; exact Or.inr (Or.inl h))]
theorem singleE_row {K : Nat} {o : List (List Int)} {i : Nat} (h1 : 1 ≤ K) (h6 : K ≤ 6) (hi : i < o.length) (h : goodRow K (o.getD i []) = false) : singleE (K : Int) o = 80 := by
  unfold singleE
  rw [if_neg (by omega), if_pos]
  refine Or.inr (Or.inr (List.any_eq_true.2 ⟨o.getD i [], ?_, ?_⟩))
  · rw [List.getD_eq_getElem?_getD, List.getElem?_eq_getElem hi]; exact List.getElem_mem hi
  · rw [Int.toNat_natCast]
    show (!goodRow K (o.getD i [])) = true
    rw [h]; rfl
theorem singleE_ok {K : Nat} {o : List (List Int)} (h1 : 1 ≤ K) (h6 : K ≤ 6) (ho : 1 ≤ o.length) (ho6 : o.length ≤ 6) (h : ∀ i, i < o.length → goodRow K (o.getD i []) = true) : singleE (K : Int) o = 0 := by
  unfold singleE
  rw [if_neg (by omega), if_neg]
  rintro (g | g | g)
  · omega
  · omega
  · obtain ⟨r, hr, g2⟩ := List.any_eq_true.1 g
    obtain ⟨i, hi, rfl⟩ := List.mem_iff_getElem.1 hr
    have := h i hi
    rw [List.getD_eq_getElem?_getD, List.getElem?_eq_getElem hi] at this
    rw [Int.toNat_natCast] at g2
    have g3 : (!goodRow K (o[i])) = true := g2
    have this2 : goodRow K (o[i]) = true := this
    rw [this2] at g3; cases g3
theorem singleR_no {m : Int} {o : List (List Int)} (h : singleE m o ≠ 0) : singleR m o = [] := by unfold singleR; rw [if_neg h]
/-- what is known of 'want' behind i rows -/
def WRel (K : Nat) (o : List (List Int)) (i : Nat) (W : Int) : Prop := (W = 0 ∧ ∀ j, j < i → goodRow K (o.getD j []) = true) ∨ (W = 80 ∧ singleE (K : Int) o = 80)
/-- and behind k numbers of row i -/
def WRow (K : Nat) (o : List (List Int)) (i k : Nat) (W : Int) : Prop :=
  (W = 0 ∧ (∀ j, j < i → goodRow K (o.getD j []) = true) ∧ (o.getD i []).length = K ∧ ∀ j, j < k → 0 ≤ (o.getD i []).getD j 0 ∧ (o.getD i []).getD j 0 ≤ 1000000) ∨ (W = 80 ∧ singleE (K : Int) o = 80)
theorem WRow.bad {K : Nat} {o : List (List Int)} {i k : Nat} (h : singleE (K : Int) o = 80) : WRow K o i k 80 := Or.inr ⟨rfl, h⟩
theorem WRow.next {K : Nat} {o : List (List Int)} {i k : Nat} {W : Int} (h : WRow K o i k W) (hx : 0 ≤ (o.getD i []).getD k 0 ∧ (o.getD i []).getD k 0 ≤ 1000000) : WRow K o i (k + 1) W := by
  rcases h with ⟨h1, h2, h3, h4⟩ | h
  · refine Or.inl ⟨h1, h2, h3, fun j hj => ?_⟩
    rcases Nat.lt_or_ge j k with g | g
    · exact h4 j g
    · have : j = k := by omega
      subst this; exact hx
  · exact Or.inr h
theorem WRow.done {K : Nat} {o : List (List Int)} {i : Nat} {W : Int} (h : WRow K o i (o.getD i []).length W) : WRel K o (i + 1) W := by
  rcases h with ⟨h1, h2, h3, h4⟩ | h
  · refine Or.inl ⟨h1, fun j hj => ?_⟩
    rcases Nat.lt_or_ge j i with g | g
    · exact h2 j g
    · have : j = i := by omega
      subst this; exact (goodRow_iff _ _).2 ⟨h3, h4⟩
  · exact Or.inr h
theorem goodRow_no {K : Nat} {r : List Int} (h : ¬ (r.length = K ∧ ∀ j, j < r.length → 0 ≤ r.getD j 0 ∧ r.getD j 0 ≤ 1000000)) : goodRow K r = false := by
  cases hb : goodRow K r with
  | false => rfl
  | true => exact absurd ((goodRow_iff K r).1 hb) h
set_option maxRecDepth 100000 in
set_option maxHeartbeats 4000000 in
/-- the part in which the numbers are right, or some row is not -/
theorem lawSingles_in (S : Awake) (v : Value) (K : Nat) (rows : List (List Int)) (w : World) (hl : MatA w v rows) (hr : ∀ i, In64 (rows.getD i [])) (h1 : 1 ≤ K) (h6 : K ≤ 6) (hn1 : 1 ≤ rows.length) (hn6 : rows.length ≤ 6) :
    Calls Tryd.prog 6 #[.int .i64 K, v] w fun e w' => e = .returned (.bool true) ∧ Below w.heap.size w w' := by
  have hf := few_own hr
  have HOWN := Lib.hid (own_any v rows w hl)
  obtain ⟨p, cap, rfl, _, _⟩ := hl.form_
  have hlen : (ownP rows).length = rows.length := by rw [ownP_len]; omega
  obtain ⟨o, ho⟩ : ∃ o, ownP rows = o := ⟨_, rfl⟩
  rw [ho] at HOWN hf hlen
  have HF := Lib.hid hf
  have ho1 : 1 ≤ o.length := by omega
  have ho6 : o.length ≤ 6 := by omega
  clear hl hr ho hf hlen hn1 hn6
  go_enter Tryd.func6, Tryd.ntmps6
  go_wp2_with fail
  refine HOWN.out.mono ?_
  rintro e w1 ⟨xv, rfl, hown, hb1⟩
  have HX := Lib.hid hown.mat
  have HB1 := Lib.hid hb1
  obtain ⟨xp, xc, hxv, hxl, _⟩ := hown.mat.form_
  clear hown hb1 HOWN
  subst hxv
  go_wp2_with fail
  have HS := Lib.hid (S.single _ (K : Int) o w1 HX.out ⟨by omega, by omega⟩ HF.out)
  obtain ⟨E, hE⟩ : ∃ E, singleE (K : Int) o = E := ⟨_, rfl⟩
  rw [hE] at HS
  have HE := Lib.hid hE
  clear hE
  refine HS.out.mono ?_
  rintro e w2 ⟨sv, rfl, hsm, hb2⟩
  have HSM := Lib.hid hsm
  obtain ⟨sp, sc, hsv, hsl, _⟩ := hsm.form_
  have HX2 := Lib.hid (HX.out.below hb2)
  have HB2 := Lib.hid (HB1.out.trans (hb2.mono HB1.out.size))
  obtain ⟨ns, hns⟩ : ∃ ns, (singleR (K : Int) o).length = ns := ⟨_, rfl⟩
  rw [hns] at hsv hsl
  have HNS := Lib.hid hns
  clear hsm hb2 HX HB1 HS hns
  subst hsv
  go_wp2
  go_loopw [8, 9, 10] (fun W i _ wr => ∃ (i' : Nat) (W' : Int), i' ≤ o.length ∧ i = .int .i64 i' ∧ W = .int .i64 W' ∧ WRel K o i' W' ∧ Below w2.heap.size w2 wr) (fun _ i _ _ => o.length - (intOf i).toNat)
  case atStart => exact ⟨0, 0, Nat.zero_le _, rfl, rfl, Or.inl ⟨rfl, fun j hj => by omega⟩, Below.refl _ _⟩
  case round =>
    obtain ⟨i, W, hi, rfl, rfl, hW, hb⟩ := hrel
    have HW := Lib.hid hW
    have HB := Lib.hid hb
    obtain ⟨wo, hwo⟩ : ∃ wo : World, wo = wr := ⟨_, rfl⟩
    subst hwo
    by_cases hgo : i < o.length ∧ W = 0
    · obtain ⟨hio, rfl⟩ := hgo
      have hall : ∀ j, j < i → goodRow K (o.getD j []) = true := by
        rcases hW with h | h
        · exact h.2
        · exact absurd h.1 (by decide)
      obtain ⟨b1, o1, c1, u, hv, _, _, _, hcu, hsu⟩ := (HX2.out.below hb).row_at i hio
      cases hv
      obtain ⟨up, uc, rfl, _, _⟩ := hsu.form
      have HROW := Lib.hid (fun h => @singleE_row K o i h1 h6 hio h)
      have HALL := Lib.hid hall
      have HSU := Lib.hid hsu
      obtain ⟨r, hr⟩ : ∃ r, o.getD i [] = r := ⟨_, rfl⟩
      have HR := Lib.hid hr
      rw [hr] at hcu HROW HSU
      clear hW hb hall hsu hr
      have e0 : ((0 : Int) == 0) = true := rfl
      by_cases hlK : r.length = K
      · have hd1 : ((r.length : Int) != (K : Int)) = false := by rw [bne_eq_false_iff_eq]; omega
        have HST : Hid (WRow K o i 0 0) := Or.inl ⟨rfl, HALL.out, by rw [HR.out]; exact hlK, fun j hj => by omega⟩
        clear hlK HALL
        go_wp2
        go_loop [8, 10] (fun W k => ∃ (k' : Nat) (W' : Int), k' ≤ r.length ∧ k = .int .i64 k' ∧ W = .int .i64 W' ∧ WRow K o i k' W') (fun _ k => r.length - (intOf k).toNat)
        case atStart => exact ⟨0, _, Nat.zero_le _, rfl, rfl, HST.out⟩
        case round =>
          obtain ⟨k, W, hk, rfl, rfl, hW⟩ := hrel
          have HWR := Lib.hid hW
          clear hW HST
          by_cases hkr : k < r.length
          · obtain ⟨b2, o2, c2, hv, _, _, _, hcx⟩ := HSU.out.int_at k hkr
            cases hv
            have HBAD : Hid (¬ (0 ≤ r.getD k 0 ∧ r.getD k 0 ≤ 1000000) → singleE (K : Int) o = 80) := fun h => HROW.out (goodRow_no (fun g => h (g.2 k hkr)))
            have HOK : Hid ((0 ≤ r.getD k 0 ∧ r.getD k 0 ≤ 1000000) → WRow K o i (k + 1) W) := fun h => HWR.out.next (by rw [HR.out]; exact h)
            obtain ⟨x, hx⟩ : ∃ x, r.getD k 0 = x := ⟨_, rfl⟩
            rw [hx] at hcx HBAD HOK
            clear hx
            by_cases hx0 : x < 0
            · have hd2 : decide (x < 0) = true := by rw [decide_eq_true_eq]; exact hx0
              have HN : Hid (WRow K o i (k + 1) 80) := WRow.bad (HBAD.out (fun h => by omega))
              clear HBAD HOK
              go_wp2
              go_round
              case rel => exact ⟨k + 1, 80, by omega, by go_num, rfl, HN.out⟩
              case measure => simp [intOf]; omega
            · have hd2 : decide (x < 0) = false := by rw [decide_eq_false_iff_not]; exact hx0
              by_cases hx1 : 1000000 < x
              · have hd3 : decide (1000000 < x) = true := by rw [decide_eq_true_eq]; exact hx1
                have HN : Hid (WRow K o i (k + 1) 80) := WRow.bad (HBAD.out (fun h => by omega))
                clear HBAD HOK
                go_wp2
                go_round
                case rel => exact ⟨k + 1, 80, by omega, by go_num, rfl, HN.out⟩
                case measure => simp [intOf]; omega
              · have hd3 : decide (1000000 < x) = false := by rw [decide_eq_false_iff_not]; exact hx1
                have HN := Lib.hid (HOK.out ⟨by omega, by omega⟩)
                clear HBAD HOK
                go_wp2
                go_round
                case rel => exact ⟨k + 1, W, by omega, by go_num, rfl, HN.out⟩
                case measure => simp [intOf]; omega
          · obtain rfl : k = r.length := by omega
            have HN : Hid (WRel K o (i + 1) W) := by
              have := HWR.out
              rw [← HR.out] at this
              exact this.done
            clear HWR
            go_wp2
            go_roundw
            case rel => exact ⟨i + 1, W, by omega, by go_num, rfl, HN.out, HB.out⟩
            case measure => simp [intOf]; omega
      · have hd1 : ((r.length : Int) != (K : Int)) = true := by rw [bne_iff_ne]; omega
        have HST : Hid (WRow K o i 0 80) := WRow.bad (HROW.out (goodRow_no (fun g => hlK g.1)))
        clear hlK HALL
        go_wp2
        go_loop [8, 10] (fun W k => ∃ (k' : Nat) (W' : Int), k' ≤ r.length ∧ k = .int .i64 k' ∧ W = .int .i64 W' ∧ WRow K o i k' W') (fun _ k => r.length - (intOf k).toNat)
        case atStart => exact ⟨0, _, Nat.zero_le _, rfl, rfl, HST.out⟩
        case round =>
          obtain ⟨k, W, hk, rfl, rfl, hW⟩ := hrel
          have HWR := Lib.hid hW
          clear hW HST
          by_cases hkr : k < r.length
          · obtain ⟨b2, o2, c2, hv, _, _, _, hcx⟩ := HSU.out.int_at k hkr
            cases hv
            have HBAD : Hid (¬ (0 ≤ r.getD k 0 ∧ r.getD k 0 ≤ 1000000) → singleE (K : Int) o = 80) := fun h => HROW.out (goodRow_no (fun g => h (g.2 k hkr)))
            have HOK : Hid ((0 ≤ r.getD k 0 ∧ r.getD k 0 ≤ 1000000) → WRow K o i (k + 1) W) := fun h => HWR.out.next (by rw [HR.out]; exact h)
            obtain ⟨x, hx⟩ : ∃ x, r.getD k 0 = x := ⟨_, rfl⟩
            rw [hx] at hcx HBAD HOK
            clear hx
            by_cases hx0 : x < 0
            · have hd2 : decide (x < 0) = true := by rw [decide_eq_true_eq]; exact hx0
              have HN : Hid (WRow K o i (k + 1) 80) := WRow.bad (HBAD.out (fun h => by omega))
              clear HBAD HOK
              go_wp2
              go_round
              case rel => exact ⟨k + 1, 80, by omega, by go_num, rfl, HN.out⟩
              case measure => simp [intOf]; omega
            · have hd2 : decide (x < 0) = false := by rw [decide_eq_false_iff_not]; exact hx0
              by_cases hx1 : 1000000 < x
              · have hd3 : decide (1000000 < x) = true := by rw [decide_eq_true_eq]; exact hx1
                have HN : Hid (WRow K o i (k + 1) 80) := WRow.bad (HBAD.out (fun h => by omega))
                clear HBAD HOK
                go_wp2
                go_round
                case rel => exact ⟨k + 1, 80, by omega, by go_num, rfl, HN.out⟩
                case measure => simp [intOf]; omega
              · have hd3 : decide (1000000 < x) = false := by rw [decide_eq_false_iff_not]; exact hx1
                have HN := Lib.hid (HOK.out ⟨by omega, by omega⟩)
                clear HBAD HOK
                go_wp2
                go_round
                case rel => exact ⟨k + 1, W, by omega, by go_num, rfl, HN.out⟩
                case measure => simp [intOf]; omega
          · obtain rfl : k = r.length := by omega
            have HN : Hid (WRel K o (i + 1) W) := by
              have := HWR.out
              rw [← HR.out] at this
              exact this.done
            clear HWR
            go_wp2
            go_roundw
            case rel => exact ⟨i + 1, W, by omega, by go_num, rfl, HN.out, HB.out⟩
            case measure => simp [intOf]; omega
    · clear hW hb
      by_cases hW0 : W = 0
      · -- all rows are right
        subst hW0
        have hio : i = o.length := by omega
        subst hio
        have hall : ∀ j, j < o.length → goodRow K (o.getD j []) = true := by
          rcases HW.out with h | h
          · exact h.2
          · exact absurd h.1 (by decide)
        have e1 := singleE_ok h1 h6 ho1 ho6 hall
        have hE0 : E = 0 := by rw [← HE.out, e1]
        subst hE0
        have hsr : singleR (K : Int) o = singleP K o := by unfold singleR; rw [if_pos e1, Int.toNat_natCast]
        have HSM2 : Hid (Mat wo (.slice sp ns sc) (singleP K o)) := by have := HSM.out.below HB.out; rw [hsr] at this; exact this
        have hnso : ns = o.length := by rw [← HNS.out, hsr, singleP_len]
        subst hnso
        have HSI := Lib.hid (single_any _ K o wo (HX2.out.below HB.out) h6 (by omega) (fun j hj => ((goodRow_iff _ _).1 (hall j hj)).1))
        have HB3 := Lib.hid (HB2.out.trans (HB.out.mono HB2.out.size))
        clear hall e1 hsr hgo HW
        go_wp2_with fail
        refine HSI.out.mono ?_
        rintro e w3 ⟨tv, rfl, ht, hb3⟩
        obtain ⟨tp, tc, htv, htl, _⟩ := ht.mat.form_
        rw [singleP_len] at htv htl
        have HT := Lib.hid ht.mat
        have HS3 := Lib.hid (HSM2.out.below hb3)
        have HB4 := Lib.hid (HB3.out.trans (hb3.mono HB3.out.size))
        subst htv
        clear ht hb3 HSI HSM2 HB3
        go_wp2
        go_loopw [12] (fun k wx => ∃ k' : Nat, k' ≤ o.length ∧ k = .int .i64 k' ∧ Below w3.heap.size w3 wx) (fun k _ => o.length - (intOf k).toNat)
        case atStart => exact ⟨0, Nat.zero_le _, rfl, Below.refl _ _⟩
        case round =>
          obtain ⟨k, hk, rfl, hb⟩ := hrel
          by_cases hko : k < o.length
          · obtain ⟨b1, o1, c1, u, hv, _, _, _, hcu, hsu⟩ := (HS3.out.below hb).row_at k (by rw [singleP_len]; exact hko)
            rw [singleP_len] at hv
            cases hv
            obtain ⟨b2, o2, c2, u2, hv, _, _, _, hcu2, hsu2⟩ := (HT.out.below hb).row_at k (by rw [singleP_len]; exact hko)
            rw [singleP_len] at hv
            cases hv
            have HLG := Lib.hid (longs_any u u2 _ _ wr.drew (hsu.below (Below.refl _ _).drew) (hsu2.below (Below.refl _ _).drew))
            rw [eqB_yes rfl] at HLG
            obtain ⟨q1, d1, rfl, _, _⟩ := hsu.form
            obtain ⟨q2, d2, rfl, _, _⟩ := hsu2.form
            have HBX := Lib.hid hb
            clear hsu hsu2 hb
            go_wp2
            go_still_tail 8, (by kernel_rfl)
            change wpList _ _ _ _ _ wr.drew
            go_wp2_with fail
            refine HLG.out.mono ?_
            rintro e w4 ⟨rfl, hb4⟩
            have HB5 := Lib.hid (HBX.out.drew.trans (hb4.mono HBX.out.size))
            clear hb4 HLG
            go_wp2
            go_roundw
            case rel => exact ⟨k + 1, by omega, by go_num, HB5.out⟩
            case measure => simp [intOf]; omega
          · obtain rfl : k = o.length := by omega
            have HBX := Lib.hid (HB4.out.trans (hb.mono HB4.out.size))
            clear hb
            go_wp2_with (go_at_call 16; refine (awake_any S _).mono ?_; rintro e w5 ⟨rfl, hb5⟩; have HB5 := Lib.hid (HBX.out.trans (hb5.mono HBX.out.size)); clear hb5)
            go_ret
            exact ⟨rfl, HB5.out⟩
      · -- some row is not
        have hWE : W = 80 ∧ singleE (K : Int) o = 80 := by
          rcases HW.out with h | h
          · exact absurd h.1 hW0
          · exact h
        obtain ⟨rfl, e1⟩ := hWE
        have hE0 : E = 80 := by rw [← HE.out, e1]
        subst hE0
        have hns0 : ns = 0 := by rw [← HNS.out, singleR_no (by rw [e1]; decide)]; rfl
        subst hns0
        have HB3 := Lib.hid (HB2.out.trans (HB.out.mono HB2.out.size))
        clear hW0 e1 hgo HW
        by_cases hio : i < o.length
        · go_wp2_with (go_at_call 16; refine (awake_any S _).mono ?_; rintro e w4 ⟨rfl, hb4⟩; have HB4 := Lib.hid (HB3.out.trans (hb4.mono HB3.out.size)); clear hb4)
          go_ret
          exact ⟨rfl, HB4.out⟩
        · obtain rfl : i = o.length := by omega
          go_wp2_with (go_at_call 16; refine (awake_any S _).mono ?_; rintro e w4 ⟨rfl, hb4⟩; have HB4 := Lib.hid (HB3.out.trans (hb4.mono HB3.out.size)); clear hb4)
          go_ret
          exact ⟨rfl, HB4.out⟩
set_option maxRecDepth 100000 in
set_option maxHeartbeats 4000000 in
/-- the part in which m or the number of bidders is not right -/
theorem lawSingles_out (S : Awake) (v : Value) (m : Int) (rows : List (List Int)) (w : World) (hl : MatA w v rows) (hm : I64 m) (hr : ∀ i, In64 (rows.getD i [])) (hout : (m < 1 ∨ 6 < m) ∨ rows.length < 1 ∨ 6 < rows.length) :
    Calls Tryd.prog 6 #[.int .i64 m, v] w fun e w' => e = .returned (.bool true) ∧ Below w.heap.size w w' := by
  have hf := few_own hr
  have HOWN := Lib.hid (own_any v rows w hl)
  obtain ⟨p, cap, rfl, _, _⟩ := hl.form_
  have hlen : (ownP rows).length < 1 ↔ rows.length < 1 := by rw [ownP_len]; omega
  have hlen2 : 6 < (ownP rows).length ↔ 6 < rows.length := by rw [ownP_len]; omega
  obtain ⟨o, ho⟩ : ∃ o, ownP rows = o := ⟨_, rfl⟩
  rw [ho] at HOWN hf hlen hlen2
  have HF := Lib.hid hf
  have ho7 := hf.1
  have hne : ∃ E, singleE m o = E ∧ (E = 1 ∧ (m < 1 ∨ 6 < m) ∨ E = 80 ∧ 1 ≤ m ∧ m ≤ 6 ∧ (o.length < 1 ∨ 6 < o.length)) := by
    by_cases h : m < 1 ∨ 6 < m
    · exact ⟨1, singleE_arg h, Or.inl ⟨rfl, h⟩⟩
    · have h2 : o.length < 1 ∨ 6 < o.length := by rcases hout with g | g; exact absurd g h; omega
      obtain ⟨K, rfl⟩ : ∃ K : Nat, m = (K : Int) := ⟨m.toNat, by omega⟩
      exact ⟨80, singleE_len (by omega) (by omega) h2, Or.inr ⟨rfl, by omega, by omega, h2⟩⟩
  obtain ⟨E, hE, hcase⟩ := hne
  have hE0 : E ≠ 0 := by rcases hcase with h | h <;> omega
  have HNO : Hid (singleR m o = []) := singleR_no (by rw [hE]; exact hE0)
  have HE := Lib.hid hE
  have HM := Lib.hid hm
  have HCASE := Lib.hid hcase
  clear hl hr ho hf hlen hlen2 hout hE hm hE0 hcase
  go_enter Tryd.func6, Tryd.ntmps6
  go_wp2_with fail
  refine HOWN.out.mono ?_
  rintro e w1 ⟨xv, rfl, hown, hb1⟩
  have HX := Lib.hid hown.mat
  have HB1 := Lib.hid hb1
  obtain ⟨xp, xc, hxv, hxl, _⟩ := hown.mat.form_
  clear hown hb1 HOWN
  subst hxv
  go_wp2_with fail
  have HS := Lib.hid (S.single _ m o w1 HX.out HM.out HF.out)
  rw [HE.out, HNO.out] at HS
  refine HS.out.mono ?_
  rintro e w2 ⟨sv, rfl, hsm, hb2⟩
  obtain ⟨sp, sc, hsv, hsl, _⟩ := hsm.form_
  have HB2 := Lib.hid (HB1.out.trans (hb2.mono HB1.out.size))
  have e0 : ([] : List (List Int)).length = 0 := rfl
  rw [e0] at hsv
  clear hsm hb2 HX HB1 HS e0
  subst hsv
  rcases HCASE.out with ⟨rfl, hm1⟩ | ⟨rfl, hm1, hm6, ho6⟩
  · rcases hm1 with hm1 | hm1
    all_goals
      go_wp2
      go_loop [8, 9, 10] (fun W i _ => i = .int .i64 0 ∧ W = .int .i64 1) (fun _ _ _ => 0)
      case atStart => exact ⟨rfl, rfl⟩
      case round =>
        obtain ⟨rfl, rfl⟩ := hrel
        by_cases h0 : 0 < o.length
        all_goals
          go_wp2_with (go_at_call 16; refine (awake_any S _).mono ?_; rintro e w4 ⟨rfl, hb4⟩; have HB4 := Lib.hid (HB2.out.trans (hb4.mono HB2.out.size)); clear hb4)
          go_ret
          exact ⟨rfl, HB4.out⟩
  · rcases ho6 with ho6 | ho6
    all_goals
      go_wp2
      go_loop [8, 9, 10] (fun W i _ => i = .int .i64 0 ∧ W = .int .i64 80) (fun _ _ _ => 0)
      case atStart => exact ⟨rfl, rfl⟩
      case round =>
        obtain ⟨rfl, rfl⟩ := hrel
        by_cases h0 : 0 < o.length
        all_goals
          go_wp2_with (go_at_call 16; refine (awake_any S _).mono ?_; rintro e w4 ⟨rfl, hb4⟩; have HB4 := Lib.hid (HB2.out.trans (hb4.mono HB2.out.size)); clear hb4)
          go_ret
          exact ⟨rfl, HB4.out⟩
theorem lawSingles (S : Awake) (v : Value) (m : Int) (rows : List (List Int)) (w : World) (hl : MatA w v rows) (hm : I64 m) (hr : ∀ i, In64 (rows.getD i [])) :
    Calls Tryd.prog 6 #[.int .i64 m, v] w fun e w' => e = .returned (.bool true) ∧ Below w.heap.size w w' := by
  by_cases hout : (m < 1 ∨ 6 < m) ∨ rows.length < 1 ∨ 6 < rows.length
  · exact lawSingles_out S v m rows w hl hm hr hout
  · obtain ⟨K, rfl⟩ : ∃ K : Nat, m = (K : Int) := ⟨m.toNat, by omega⟩
    exact lawSingles_in S v K rows w hl hr (by omega) (by omega) (by omega) (by omega)
end Go.Proofs.YthbfgmgpploneaaDoor
