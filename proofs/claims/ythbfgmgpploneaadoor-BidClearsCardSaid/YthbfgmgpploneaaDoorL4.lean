import Derived.Test.YthbfgmgpploneaaDoorL3
set_option linter.unusedVariables false
set_option linter.unusedSimpArgs false
set_option linter.unnecessarySimpa false
namespace Go.Proofs.YthbfgmgpploneaaDoor
open Go.RowKit

/-- of what are no bids, every call answers with the same error -/
structure Refuses : Prop where
  gain : ∀ (v : Value) (m who : Int) (bids : List (List Int)) (w : World), Mat w v bids → I64 m → I64 who → Few bids → checkP m bids ≠ 0 →
    Calls Tryd.prog 19 #[.int .i64 m, v, .int .i64 who, .slice none 0 0] w fun e w' => e = .returned (.tuple #[.int .i64 0, .int .i64 (checkP m bids)]) ∧ Below w.heap.size w w'
  isSingle : ∀ (v : Value) (m : Int) (bids : List (List Int)) (w : World), Mat w v bids → I64 m → Few bids → checkP m bids ≠ 0 →
    Calls Tryd.prog 20 #[.int .i64 m, v] w fun e w' => e = .returned (.tuple #[.bool false, .int .i64 (checkP m bids)]) ∧ Below w.heap.size w w'
  prices : SpecPricesNo
  clears : ∀ (v : Value) (m : Int) (bids : List (List Int)) (w : World), Mat w v bids → I64 m → Few bids → checkP m bids ≠ 0 →
    Calls Tryd.prog 22 #[.int .i64 m, v, .slice none 0 0, .slice none 0 0] w fun e w' => e = .returned (.tuple #[.bool false, .int .i64 (checkP m bids)]) ∧ Below w.heap.size w w'
  isCore : ∀ (v : Value) (m : Int) (bids : List (List Int)) (w : World), Mat w v bids → I64 m → Few bids → checkP m bids ≠ 0 →
    Calls Tryd.prog 23 #[.int .i64 m, v, .slice none 0 0] w fun e w' => e = .returned (.tuple #[.bool false, .int .i64 (checkP m bids)]) ∧ Below w.heap.size w w'
  isAlloc : ∀ (v lv : Value) (m : Int) (bids : List (List Int)) (l : List Int) (w : World), Mat w v bids → Sl w lv (ints l) → l.length ≤ 7 → I64 m → Few bids → checkP m bids ≠ 0 →
    Calls Tryd.prog 24 #[.int .i64 m, v, lv] w fun e w' => e = .returned (.bool false) ∧ Below w.heap.size w w'
theorem few_own {rows : List (List Int)} (h : ∀ i, In64 (rows.getD i [])) : Few (ownP rows) := by
  refine ⟨by rw [ownP_len]; omega, fun i => ?_⟩
  by_cases hi : i < (ownP rows).length
  · have e : (ownP rows).getD i [] = (rows.getD i []).take 65 := by
      have h7 : i < 7 ∧ i < rows.length := by rw [ownP_len] at hi; omega
      unfold ownP
      rw [List.getD_eq_getElem?_getD, List.getElem?_map, List.getElem?_take_of_lt h7.1, List.getD_eq_getElem?_getD]
      rw [List.getElem?_eq_getElem h7.2]; rfl
    rw [e]
    exact ⟨by simp; omega, (h i).take 65⟩
  · rw [List.getD_eq_getElem?_getD, List.getElem?_eq_none (by omega)]
    exact ⟨by simp, In64.nil⟩
theorem checkP_or (m : Int) (bids : List (List Int)) : checkP m bids = 0 ∨ checkP m bids = 1 ∨ checkP m bids = 80 := by
  unfold checkP
  split
  · exact Or.inr (Or.inl rfl)
  · split
    · exact Or.inr (Or.inr rfl)
    · exact Or.inl rfl
theorem bestR_no {m : Int} {bids : List (List Int)} (h : checkP m bids ≠ 0) : bestR m bids = (0, []) := by unfold bestR; rw [if_neg h]
theorem payR_no {m : Int} {bids : List (List Int)} (h : checkP m bids ≠ 0) : payR m bids = [] := by unfold payR; rw [if_neg h]
theorem Sl.empty {w : World} {v : Value} (h : Sl w v []) : ∃ p c, v = .slice p 0 c := by
  obtain ⟨p, c, hv, _⟩ := h; exact ⟨p, c, hv⟩
/-- 'make([]T, n)' behind a guard that lets it by -/
theorem wpList_make_guarded {P : Program} (w : World) {ops : Array Oper} {rest : List Oper} {o : Oper} {a : Act} {Q : Exit → Act → World → Prop}
    (hg : Region.wanted o (yielded ops a.tmps) = true) (l c : Operand) (t : TypeId) (hop : o.op = Op.makeSlice t l c)
    (e : TypeId) (z : Value) (by_ : Nat) (h1 : P.underlying t = some (.slice e)) (hinfo : (P.info? e).map (fun i => (i.zero, i.size, i.bytes)) = some (some z, 1, by_)) (hz : z.cells = #[z])
    (kl kc : IntKind) (L C : Int) (n : Nat) (hl : a.eval l = .int kl L) (hc : a.eval c = .int kc C) (hL : L = (n : Int)) (hC : C = (n : Int)) (b2 : by_ * n ≤ 281474976710656) (b3 : n ≤ maxLen)
    (hK : ∀ w', Row e w' w.heap.size (List.replicate n z) → Below w.heap.size w w' → wpList P ops Q rest (a.put o.dst (.slice (some ⟨w.heap.size, 0, none⟩) n n)) w') :
    wpList P ops Q (o :: rest) a w := by
  obtain ⟨i, hi, hz0, hz1, hz2⟩ := info_parts hinfo
  refine wpList_step fun K hK' => ?_
  rw [if_pos hg]
  obtain ⟨w', hrun, r1, r2⟩ := run_make_full (P := P) w w.heap.size t e i z 1 h1 hi hz0 hz1 kl kc n (by rw [hz2]; exact b2) b3 (Nat.le_refl _)
  subst hL
  subst hC
  unfold Oper.wp
  simp [execOp, hop, hl, hc, hrun, Result.andThen]
  rw [Nat.mul_one, madeCells_one z hz] at r1
  exact hK' _ _ (hK w' (Row.of_owns r1) ((Below.refl w.heap.size w).grown r2 (Nat.le_refl _) (fun k hk => by cases hk)))
set_option maxRecDepth 100000 in
set_option maxHeartbeats 4000000 in
theorem lawChecks (S : Awake) (R : Refuses) (v : Value) (m who : Int) (rows : List (List Int)) (w : World) (hl : MatA w v rows) (hm : I64 m) (hwho : I64 who) (hr : ∀ i, In64 (rows.getD i [])) :
    Calls Tryd.prog 3 #[.int .i64 m, v, .int .i64 who] w fun e w' => e = .returned (.bool true) ∧ Below w.heap.size w w' := by
  have hf := few_own hr
  have HOWN := Lib.hid (own_any v rows w hl)
  obtain ⟨p, cap, rfl, _, _⟩ := hl.form_
  have hlen := hf.1
  obtain ⟨bids, hbids⟩ : ∃ bids, ownP rows = bids := ⟨_, rfl⟩
  rw [hbids] at HOWN hf hlen
  have HF := Lib.hid hf
  have HM := Lib.hid hm
  have HWHO := Lib.hid hwho
  clear hl hm hwho hr hbids hf
  go_enter Tryd.func3, Tryd.ntmps3
  go_wp2_with fail
  refine HOWN.out.mono ?_
  rintro e w1 ⟨xv, rfl, hown, hb1⟩
  have HX := Lib.hid hown.mat
  have HB1 := Lib.hid hb1
  obtain ⟨xp, xc, hxv, hxl, _⟩ := hown.mat.form_
  clear hown hb1 HOWN
  subst hxv
  go_wp2_with fail
  have HC1 := Lib.hid (check_any _ m bids w1 HX.out HM.out.1 HM.out.2)
  obtain ⟨c, hc⟩ : ∃ c, checkP m bids = c := ⟨_, rfl⟩
  rw [hc] at HC1
  have HC := Lib.hid hc
  refine HC1.out.mono ?_
  rintro e w2 ⟨rfl, hb2⟩
  have HX2 := Lib.hid (HX.out.below hb2)
  have HB2 := Lib.hid (HB1.out.trans (hb2.mono HB1.out.size))
  clear hb2 HX HB1 HC1 hc
  go_wp2_with fail
  have HC2 := Lib.hid (S.check _ m bids w2 HX2.out HM.out HF.out)
  rw [HC.out] at HC2
  refine HC2.out.mono ?_
  rintro e w3 ⟨rfl, hb3⟩
  have HX3 := Lib.hid (HX2.out.below hb3)
  have HB3 := Lib.hid (HB2.out.trans (hb3.mono HB2.out.size))
  clear hb3 HX2 HB2 HC2
  by_cases hc0 : c = 0
  · subst hc0
    go_wp2_with (go_at_call 16; refine (awake_any S _).mono ?_; rintro e w4 ⟨rfl, hb4⟩; have HB4 := Lib.hid (HB3.out.trans (hb4.mono HB3.out.size)); clear hb4)
    go_ret
    exact ⟨rfl, HB4.out⟩
  · have hne : (c != 0) = true := by rw [bne_iff_ne]; exact hc0
    have hne2 : (c == 0) = false := by rw [beq_eq_false_iff_ne]; exact hc0
    have HN0 : Hid (checkP m bids ≠ 0) := by show _ ≠ _; rw [HC.out]; exact hc0
    clear hc0
    -- one call after the other
    go_wp2_with fail
    have H4 := Lib.hid (S.best _ m bids w3 HX3.out HM.out HF.out)
    rw [bestR_no HN0.out, HC.out] at H4
    refine H4.out.mono ?_
    rintro e w4 ⟨v4, rfl, hs4, hb4⟩
    obtain ⟨p4, c4, hv4⟩ := (show Sl w4 v4 [] from hs4).empty
    subst hv4
    have HX4 := Lib.hid (HX3.out.below hb4)
    have HB4 := Lib.hid (HB3.out.trans (hb4.mono HB3.out.size))
    clear hs4 hb4 HX3 HB3 H4
    go_wp2_with fail
    have H5 := Lib.hid (S.pay _ m bids w4 HX4.out HM.out HF.out)
    rw [payR_no HN0.out, HC.out] at H5
    refine H5.out.mono ?_
    rintro e w5 ⟨v5, rfl, hs5, hb5⟩
    obtain ⟨p5, c5, hv5⟩ := (show Sl w5 v5 [] from hs5).empty
    subst hv5
    have HX5 := Lib.hid (HX4.out.below hb5)
    have HB5 := Lib.hid (HB4.out.trans (hb5.mono HB4.out.size))
    clear hs5 hb5 HX4 HB4 H5
    go_wp2_with fail
    have H6 := Lib.hid (R.gain _ m who bids w5 HX5.out HM.out HWHO.out HF.out HN0.out)
    rw [HC.out] at H6
    refine H6.out.mono ?_
    rintro e w6 ⟨rfl, hb6⟩
    have HX6 := Lib.hid (HX5.out.below hb6)
    have HB6 := Lib.hid (HB5.out.trans (hb6.mono HB5.out.size))
    clear hb6 HX5 HB5 H6
    go_wp2_with fail
    have H7 := Lib.hid (R.isSingle _ m bids w6 HX6.out HM.out HF.out HN0.out)
    rw [HC.out] at H7
    refine H7.out.mono ?_
    rintro e w7 ⟨rfl, hb7⟩
    have HX7 := Lib.hid (HX6.out.below hb7)
    have HB7 := Lib.hid (HB6.out.trans (hb7.mono HB6.out.size))
    clear hb7 HX6 HB6 H7
    go_wp2_with fail
    have H8 := Lib.hid (R.prices _ m bids w7 HX7.out HM.out HF.out HN0.out)
    rw [HC.out] at H8
    refine H8.out.mono ?_
    rintro e w8 ⟨v8, rfl, hs8, hb8⟩
    obtain ⟨p8, c8, hv8⟩ := hs8.empty
    subst hv8
    have HX8 := Lib.hid (HX7.out.below hb8)
    have HB8 := Lib.hid (HB7.out.trans (hb8.mono HB7.out.size))
    clear hs8 hb8 HX7 HB7 H8
    go_wp2_with fail
    have H9 := Lib.hid (R.clears _ m bids w8 HX8.out HM.out HF.out HN0.out)
    rw [HC.out] at H9
    refine H9.out.mono ?_
    rintro e w9 ⟨rfl, hb9⟩
    have HX9 := Lib.hid (HX8.out.below hb9)
    have HB9 := Lib.hid (HB8.out.trans (hb9.mono HB8.out.size))
    clear hb9 HX8 HB8 H9
    go_wp2_with fail
    have H10 := Lib.hid (R.isCore _ m bids w9 HX9.out HM.out HF.out HN0.out)
    rw [HC.out] at H10
    refine H10.out.mono ?_
    rintro e w10 ⟨rfl, hb10⟩
    have HX10 := Lib.hid (HX9.out.below hb10)
    have HB10 := Lib.hid (HB9.out.trans (hb10.mono HB9.out.size))
    have hcc : (c == c) = true := by simp
    clear hb10 HX9 HB9 H10
    go_wp2_with (first
      | (at_make; refine wpList_make_guarded _ rfl _ _ 28 rfl 3 (.int .i64 0) 8 Tryd.underlying28 Tryd.info3 rfl .i64 .i64 _ _ bids.length rfl rfl ?e1 ?e2 ?e3 ?e4 ?_))
    case e1 => rfl
    case e2 => rfl
    case e3 => omega
    case e4 => unfold maxLen; omega
    intro w11 hrow hb11
    have HX11 := Lib.hid (HX10.out.below hb11)
    have HB11 := Lib.hid (HB10.out.trans (hb11.mono HB10.out.size))
    have HLS : Hid (Sl w11 (.slice (some ⟨w10.heap.size, 0, none⟩) bids.length bids.length) (ints (List.replicate bids.length 0))) := by
      rw [ints_replicate] at hrow
      have h2 := Sl.of_row (xs := ints (List.replicate bids.length 0)) (more := []) (cap := bids.length) (by rw [List.append_nil]; exact hrow) (by rw [ints_length]; simp) (by unfold maxLen; omega)
      have e : (ints (List.replicate bids.length 0)).length = bids.length := by rw [ints_length]; simp
      rw [e] at h2; exact h2
    have H12 := Lib.hid (R.isAlloc _ _ m bids _ w11 HX11.out HLS.out (by simp; exact hlen) HM.out HF.out HN0.out)
    clear hrow hb11 HX10 HB10 HLS
    go_wp2_with (first
      | (go_at_call 24; refine H12.out.mono ?_; rintro e w12 ⟨rfl, hb12⟩; have HB12 := Lib.hid (HB11.out.trans (hb12.mono HB11.out.size)); clear hb12)
      | (go_at_call 16; refine (awake_any S _).mono ?_; rintro e w13 ⟨rfl, hb13⟩; have HB13 := Lib.hid (HB12.out.trans (hb13.mono HB12.out.size)); clear hb13))
    go_ret
    exact ⟨rfl, HB13.out⟩
end Go.Proofs.YthbfgmgpploneaaDoor
