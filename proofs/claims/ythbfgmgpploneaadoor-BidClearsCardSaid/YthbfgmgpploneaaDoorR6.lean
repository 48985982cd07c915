/- The program's isRight, newAuction, Check. -/
import Derived.Test.YthbfgmgpploneaaDoorR5
import Derived.Test.YthbfgmgpploneaaDoorR4
set_option linter.unusedVariables false
set_option linter.unusedSimpArgs false
set_option linter.unnecessarySimpa false
namespace Go.Proofs.YthbfgmgpploneaaDoor
open Go.RowKit

theorem sans_lt2 {b i : Nat} (h : bt b i = true) : sans b (2 ^ i) < b := by
  have h1 := sans_le b (2 ^ i)
  rcases Nat.lt_or_ge (sans b (2 ^ i)) b with g | g
  · exact g
  · have : sans b (2 ^ i) = b := by omega
    have h2 := bt_sans b (2 ^ i) i
    rw [this, h, bt_pow] at h2
    simp at h2
theorem sans_zero_iff {a b : Nat} : sans a b = 0 ↔ ∀ i, bt a i = true → bt b i = true := by
  refine ⟨sans_eq_zero, fun h => bt_ext fun i => ?_⟩
  rw [bt_sans]
  have h0 : bt 0 i = false := by rw [bt_eq]; simp
  rw [h0]
  cases ha : bt a i with
  | false => rfl
  | true => rw [h i ha]; rfl
/-- with every item more, at least as much is offered -/
theorem mono_all {m : Nat} {l : List Int} (h : ∀ b, b < 2 ^ m → ∀ i, i < m → bt b i = true → l.getD (sans b (2 ^ i)) 0 ≤ l.getD b 0) : ∀ b, b < 2 ^ m → ∀ s, sans s b = 0 → l.getD s 0 ≤ l.getD b 0 := by
  intro b
  induction b using Nat.strongRecOn with
  | _ b ih =>
    intro hb s hs
    by_cases he : s = b
    · subst he; exact Int.le_refl _
    · obtain ⟨i, hi1, hi2⟩ : ∃ i, bt b i = true ∧ bt s i = false := by
        refine Classical.byContradiction fun hn => he (bt_ext fun i => ?_)
        cases hbi : bt b i with
        | false =>
          cases hsi : bt s i with
          | false => rfl
          | true => rw [sans_eq_zero hs i hsi] at hbi; cases hbi
        | true =>
          cases hsi : bt s i with
          | true => rfl
          | false => exact absurd ⟨i, hbi, hsi⟩ hn
      have hm : i < m := by
        rcases Nat.lt_or_ge i m with g | g
        · exact g
        · rw [bt_lt hb g] at hi1; cases hi1
      have h1 := h b hb i hm hi1
      have hlt := sans_lt2 hi1
      have h2 := ih (sans b (2 ^ i)) hlt (by omega) s (sans_zero_iff.2 fun j hj => by
        rw [bt_sans, sans_eq_zero hs j hj, bt_pow]
        have : i ≠ j := by rintro rfl; rw [hi2] at hj; cases hj
        simp [this])
      omega
theorem offerB_iff2 {m : Nat} {l : List Int} : offerB m l = true ↔ l.length = 2 ^ m ∧ l.getD 0 0 = 0 ∧ ∀ s, s < 2 ^ m → 0 ≤ l.getD s 0 ∧ l.getD s 0 ≤ 1000000 ∧ ∀ i, i < m → bt s i = true → l.getD (sans s (2 ^ i)) 0 ≤ l.getD s 0 := by
  unfold offerB offerAt
  simp only [Bool.and_eq_true, beq_iff_eq, List.all_eq_true, List.mem_range, decide_eq_true_eq, Bool.not_eq_true', Bool.and_eq_false_iff, decide_eq_false_iff_not, Int.not_lt]
  constructor
  · rintro ⟨⟨h1, h2⟩, h3⟩
    refine ⟨h1, h2, fun s hs => ?_⟩
    obtain ⟨⟨h4, h5⟩, h6⟩ := h3 s (by omega)
    refine ⟨h4, h5, fun i hi hb => ?_⟩
    rcases h6 i hi with h | h
    · rw [hb] at h; cases h
    · exact h
  · rintro ⟨h1, h2, h3⟩
    refine ⟨⟨h1, h2⟩, fun s hs => ?_⟩
    obtain ⟨h4, h5, h6⟩ := h3 s (by omega)
    refine ⟨⟨h4, h5⟩, fun i hi => ?_⟩
    cases hb : bt s i with
    | false => exact Or.inl rfl
    | true => exact Or.inr (h6 i hi hb)
/-- the program's way of asking -/
theorem offerB_eq (m : Nat) (l : List Int) : offerB m l = (l.length == 2 ^ m && l.getD 0 0 == 0 && from0 1000000 l && !fallsB l) := by
  rw [Bool.eq_iff_iff, offerB_iff2]
  simp only [Bool.and_eq_true, beq_iff_eq, from0_iff, Bool.not_eq_true']
  constructor
  · rintro ⟨h1, h2, h3⟩
    refine ⟨⟨⟨h1, h2⟩, fun i hi => ⟨(h3 i (by omega)).1, (h3 i (by omega)).2.1⟩⟩, fallsB_no fun b hb s hs => ?_⟩
    exact mono_all (fun b hb => (h3 b hb).2.2) b (by omega) s hs
  · rintro ⟨⟨⟨h1, h2⟩, h3⟩, h4⟩
    refine ⟨h1, h2, fun s hs => ⟨(h3 s (by omega)).1, (h3 s (by omega)).2, fun i hi hb => ?_⟩⟩
    refine Classical.byContradiction fun hn => ?_
    have hsub : sans (sans s (2 ^ i)) s = 0 := sans_zero_iff.2 fun j hj => by rw [bt_sans] at hj; simp at hj; exact hj.1
    rw [fallsB_yes (b := s) (by omega) hsub (by omega)] at h4
    cases h4
def rightB (m : Nat) (bids : List (List Int)) : Bool := decide (1 ≤ bids.length) && decide (bids.length ≤ 6) && bids.all (offerB m)
theorem all_offers_no {m i : Nat} {bids : List (List Int)} (hi : i < bids.length) (h : offerB m (bids.getD i []) = false) : bids.all (offerB m) = false := by
  cases hb : bids.all (offerB m) with
  | false => rfl
  | true =>
    have := List.all_eq_true.1 hb (bids.getD i []) (by rw [List.getD_eq_getElem?_getD, List.getElem?_eq_getElem hi]; exact List.getElem_mem hi)
    rw [h] at this; cases this
theorem all_offers_yes {m : Nat} {bids : List (List Int)} (h : ∀ i, i < bids.length → offerB m (bids.getD i []) = true) : bids.all (offerB m) = true := by
  refine List.all_eq_true.2 fun b hb => ?_
  obtain ⟨i, hi, rfl⟩ := List.mem_iff_getElem.1 hb
  have := h i hi
  rw [List.getD_eq_getElem?_getD, List.getElem?_eq_getElem hi] at this; exact this
theorem checkP_right {K : Nat} {bids : List (List Int)} (h1 : 1 ≤ K) (h6 : K ≤ 6) : checkP (K : Int) bids = if rightB K bids = true then 0 else 80 := by
  by_cases h : rightB K bids = true
  · rw [if_pos h]
    unfold rightB at h
    simp only [Bool.and_eq_true, decide_eq_true_eq] at h
    refine checkP_ok (by omega) ?_
    rw [Int.toNat_natCast, h.2]
    rintro (g | g | g)
    · omega
    · omega
    · cases g
  · rw [if_neg h]
    refine checkP_bid (by omega) ?_
    rw [Int.toNat_natCast]
    unfold rightB at h
    by_cases g1 : bids.length < 1
    · exact Or.inl g1
    · by_cases g2 : 6 < bids.length
      · exact Or.inr (Or.inl g2)
      · refine Or.inr (Or.inr ?_)
        have e1 : decide (1 ≤ bids.length) = true := by rw [decide_eq_true_eq]; omega
        have e2 : decide (bids.length ≤ 6) = true := by rw [decide_eq_true_eq]; omega
        rw [e1, e2] at h
        simpa using h
set_option maxRecDepth 100000 in
set_option maxHeartbeats 2000000 in
theorem right_go (v : Value) (m : Nat) (bids : List (List Int)) (w : World) (hl : Mat w v bids) (hf : Few bids) (h6 : m ≤ 6) :
    Calls Tryd.prog 67 #[.agg #[.int .i64 ((2 ^ m - 1 : Nat) : Int), v]] w fun e w' => e = .returned (.bool (rightB m bids)) ∧ Below w.heap.size w w' := by
  obtain ⟨p, cap, rfl, hlc, hcm⟩ := hl.form_
  unfold maxLen at hcm
  have hn7 := hf.1
  have HL := Lib.hid hl
  have HF := Lib.hid hf
  have hM64 := pow_le64 h6
  have hM0 := pow_pos2 m
  have HOE := Lib.hid (offerB_eq m)
  have HONO := Lib.hid (fun i => @all_offers_no m i bids)
  have HOYES := Lib.hid (@all_offers_yes m bids)
  have HRB : Hid (rightB m bids = (decide (1 ≤ bids.length) && decide (bids.length ≤ 6) && bids.all (offerB m))) := rfl
  obtain ⟨M, hMM⟩ : ∃ M, 2 ^ m = M := ⟨_, rfl⟩
  rw [hMM] at hM64 hM0 HOE ⊢
  have HMANY := Lib.hid (fun W => areSoMany_form p bids.length cap W)
  clear hl hf h6 hMM
  have e0 : (((M - 1 : Nat)) : Int) = (M : Int) - 1 := by omega
  rw [e0]
  have hM1 : IntKind.i64.wrap ((M : Int) - 1 + 1) = (M : Int) := by rw [IntWalk.i64_in _ (by omega)]; omega
  clear e0
  cases hmany : (decide (1 ≤ bids.length) && decide (bids.length ≤ 6)) with
  | false =>
    rw [hmany] at HMANY HRB
    clear hmany
    go_enter Tryd.func67, Tryd.ntmps67
    go_wp2_with (first | (go_at_call 62; refine (HMANY.out _).mono ?_; rintro e w1 ⟨rfl, rfl⟩))
    go_ret
    exact ⟨by rw [HRB.out]; rfl, (Below.refl _ _).alloc (Nat.le_refl _) _⟩
  | true =>
    rw [hmany] at HMANY HRB
    rw [Bool.true_and] at HRB
    have ho6 : bids.length ≤ 6 := by simp at hmany; omega
    clear hmany
    have hrow := row_new 73 w #[.int .i64 ((M : Int) - 1), .slice p bids.length cap]
    have hb0 := (Below.refl w.heap.size w).alloc (Nat.le_refl _) (.cells #[.int .i64 ((M : Int) - 1), .slice p bids.length cap] 73)
    have HROW := Lib.hid hrow
    have HB0 := Lib.hid hb0
    clear hrow hb0
    go_enter Tryd.func67, Tryd.ntmps67
    go_wp2_with (first | (go_at_call 62; refine (HMANY.out _).mono ?_; rintro e w1 ⟨rfl, rfl⟩))
    go_loopw [12] (fun i wr => ∃ i' : Nat, i' ≤ bids.length ∧ i = .int .i64 i' ∧ (∀ j, j < i' → offerB m (bids.getD j []) = true) ∧ Row 73 wr w.heap.size [.int .i64 ((M : Int) - 1), .slice p bids.length cap] ∧ Below w.heap.size w wr) (fun i _ => bids.length - (intOf i).toNat)
    case atStart => exact ⟨0, Nat.zero_le _, rfl, fun j hj => by omega, HROW.out, HB0.out⟩
    case round =>
      obtain ⟨i, hi, rfl, hall, hrow, hbel⟩ := hrel
      clear HROW HB0
      have HALL := Lib.hid hall
      have HROW := Lib.hid hrow
      have HB0 := Lib.hid hbel
      have hca := hrow.cell 0
      have hcb := hrow.cell 1
      simp only [List.getElem?_cons_zero, List.getElem?_cons_succ] at hca hcb
      clear hall hrow
      by_cases hlt : i < bids.length
      · obtain ⟨b1, o1, c1, u, hv, _, _, _, hcu, hsu⟩ := (HL.out.below hbel).row_at i hlt
        cases hv
        obtain ⟨up, uc, rfl, hulc, hucm⟩ := hsu.form
        have hlen65 := (HF.out.2 i).1
        have HNO := Lib.hid (HONO.out i hlt)
        have HO := Lib.hid (HOE.out (bids.getD i []))
        have HNEXT : Hid (offerB m (bids.getD i []) = true → ∀ j, j < i + 1 → offerB m (bids.getD j []) = true) := by
          intro hg j hj
          rcases Nat.lt_or_ge j i with h | h
          · exact HALL.out j h
          · have : j = i := by omega
            subst this; exact hg
        have HFR := Lib.hid (areFrom0_any _ (bids.getD i []) 1000000 wr hsu (by omega))
        have HSU := Lib.hid hsu
        obtain ⟨r, hr⟩ : ∃ r, bids.getD i [] = r := ⟨_, rfl⟩
        rw [hr] at hcu hulc hlen65 HNO HO HNEXT HFR HSU
        clear hbel hr hsu
        by_cases hrM : r.length = M
        · subst hrM
          have hd3 : ((r.length : Int) != (r.length : Int)) = false := by simp
          obtain ⟨b5, o5, c5, hv, _, _, _, hc0⟩ := HSU.out.int_at 0 hM0
          cases hv
          rw [Nat.add_zero] at hc0
          obtain ⟨x0, hx0⟩ : ∃ x0, r.getD 0 0 = x0 := ⟨_, rfl⟩
          rw [hx0] at hc0 HO
          clear hx0
          by_cases h0 : x0 = 0
          · subst h0
            have hd4 : ((0 : Int) != 0) = false := rfl
            cases hfr : from0 1000000 r with
            | false =>
              rw [hfr] at HFR HO
              have HFA : Hid (rightB m bids = false) := by show _ = _; rw [HRB.out]; exact HNO.out (by rw [HO.out]; simp)
              clear hfr HNEXT HNO HO
              go_wp2_with (first | (go_at_call 55; refine HFR.out.mono ?_; rintro e w1 ⟨rfl, rfl⟩))
              go_ret
              exact ⟨by rw [HFA.out]; rfl, HB0.out⟩
            | true =>
              rw [hfr] at HFR HO
              have HFL := Lib.hid (falls_go _ r wr HSU.out hM64)
              cases hfl : fallsB r with
              | true =>
                rw [hfl] at HFL HO
                have HFA : Hid (rightB m bids = false) := by show _ = _; rw [HRB.out]; exact HNO.out (by rw [HO.out]; simp)
                clear hfr hfl HNEXT HNO HO
                go_wp2_with (first
                  | (go_at_call 55; refine HFR.out.mono ?_; rintro e w1 ⟨rfl, rfl⟩)
                  | (go_at_call 80; refine HFL.out.mono ?_; rintro e w2 ⟨rfl, hb2⟩; have HB2 := Lib.hid (HB0.out.trans (hb2.mono HB0.out.size)); clear hb2))
                go_ret
                exact ⟨by rw [HFA.out]; rfl, HB2.out⟩
              | false =>
                rw [hfl] at HFL HO
                have HG := Lib.hid (HNEXT.out (by rw [HO.out]; simp))
                clear hfr hfl HNEXT HNO HO
                go_wp2_with (first
                  | (go_at_call 55; refine HFR.out.mono ?_; rintro e w1 ⟨rfl, rfl⟩)
                  | (go_at_call 80; refine HFL.out.mono ?_; rintro e w2 ⟨rfl, hb2⟩; have HB2 := Lib.hid (HB0.out.trans (hb2.mono HB0.out.size)); have HR2 := Lib.hid (HROW.out.below hb2 HROW.out.lt); clear hb2))
                go_roundw
                case rel => exact ⟨i + 1, by omega, by go_num, HG.out, HR2.out, HB2.out⟩
                case measure => simp [intOf]; omega
          · have hd4 : (x0 != 0) = true := by rw [bne_iff_ne]; exact h0
            have HFA : Hid (rightB m bids = false) := by show _ = _; rw [HRB.out]; exact HNO.out (by rw [HO.out]; simp [h0])
            clear HNEXT HNO HO HFR h0
            go_wp2
            go_ret
            exact ⟨by rw [HFA.out]; rfl, HB0.out⟩
        · have hd3 : ((r.length : Int) != (M : Int)) = true := by rw [bne_iff_ne]; omega
          have HFA : Hid (rightB m bids = false) := by show _ = _; rw [HRB.out]; exact HNO.out (by rw [HO.out]; simp [hrM])
          clear HNEXT HNO HO HFR hrM
          go_wp2
          go_ret
          exact ⟨by rw [HFA.out]; rfl, HB0.out⟩
      · obtain rfl : i = bids.length := by omega
        have HT : Hid (rightB m bids = true) := by show _ = _; rw [HRB.out]; exact HOYES.out HALL.out
        go_wp2
        go_ret
        exact ⟨by rw [HT.out]; rfl, HB0.out⟩
/-- an auction, as it is handed about -/
def aucV (K : Nat) (v : Value) : Value := .agg #[.int .i64 ((2 ^ K - 1 : Nat) : Int), v]
/-- what newAuction hands back -/
def newR (m : Int) (bids : List (List Int)) (v : Value) : Value := if checkP m bids = 0 then .agg #[.int .i64 ((2 ^ m.toNat - 1 : Nat) : Int), v] else .agg #[.int .i64 0, .slice none 0 0]
set_option maxRecDepth 100000 in
set_option maxHeartbeats 2000000 in
theorem new_go (v : Value) (m : Int) (bids : List (List Int)) (w : World) (hl : Mat w v bids) (hm : I64 m) (hf : Few bids) :
    Calls Tryd.prog 46 #[.int .i64 m, v] w fun e w' => e = .returned (.tuple #[newR m bids v, .int .i64 (checkP m bids)]) ∧ Below w.heap.size w w' := by
  obtain ⟨p, cap, rfl, hlc, hcm⟩ := hl.form_
  unfold maxLen at hcm
  have hn7 := hf.1
  have hr0 := row_new 73 w #[.int .i64 0, .slice none 0 0]
  have k0 := hr0.cell 0
  have k1 := hr0.cell 1
  simp only [List.getElem?_cons_zero, List.getElem?_cons_succ] at k0 k1
  by_cases h1 : m < 1
  · have e1 := checkP_arg (m := m) (bids := bids) (Or.inl h1)
    have HN : Hid (newR m bids (.slice p bids.length cap) = .agg #[.int .i64 0, .slice none 0 0]) := by show _ = _; unfold newR; rw [e1]; rfl
    rw [e1]
    have hd : decide (m < 1) = true := by rw [decide_eq_true_eq]; exact h1
    clear hl hf e1 hm hr0
    go_enter Tryd.func46, Tryd.ntmps46
    go_wp2
    refine bodyPost_ret (v := .tuple #[.agg #[.int .i64 0, .slice none 0 0], .int .i64 1]) (by simp [results, Tryd.results46, go_sem, k0, k1]) rfl ⟨by rw [HN.out], (Below.refl _ _).alloc (Nat.le_refl _) _⟩
  · by_cases h6 : 6 < m
    · have e1 := checkP_arg (m := m) (bids := bids) (Or.inr h6)
      have HN : Hid (newR m bids (.slice p bids.length cap) = .agg #[.int .i64 0, .slice none 0 0]) := by show _ = _; unfold newR; rw [e1]; rfl
      rw [e1]
      have hd : decide (m < 1) = false := by rw [decide_eq_false_iff_not]; exact h1
      have hd2 : decide (6 < m) = true := by rw [decide_eq_true_eq]; exact h6
      clear hl hf e1 hm hr0
      go_enter Tryd.func46, Tryd.ntmps46
      go_wp2
      refine bodyPost_ret (v := .tuple #[.agg #[.int .i64 0, .slice none 0 0], .int .i64 1]) (by simp [results, Tryd.results46, go_sem, k0, k1]) rfl ⟨by rw [HN.out], (Below.refl _ _).alloc (Nat.le_refl _) _⟩
    · obtain ⟨K, rfl⟩ : ∃ K : Nat, m = (K : Int) := ⟨m.toNat, by omega⟩
      have hK1 : 1 ≤ K := by omega
      have hK6 : K ≤ 6 := by omega
      have hd : decide ((K : Int) < 1) = false := by rw [decide_eq_false_iff_not]; exact h1
      have hd2 : decide (6 < (K : Int)) = false := by rw [decide_eq_false_iff_not]; exact h6
      have HALLI := Lib.hid (fun W => allItems_any K W hK6)
      have hcr := checkP_right (bids := bids) hK1 hK6
      have HRG := Lib.hid (fun W (hb : Below w.heap.size w W) => right_go _ K bids W (hl.below hb) hf hK6)
      have HNR : Hid (newR (K : Int) bids (.slice p bids.length cap) = if checkP (K : Int) bids = 0 then .agg #[.int .i64 ((2 ^ K - 1 : Nat) : Int), .slice p bids.length cap] else .agg #[.int .i64 0, .slice none 0 0]) := by
        show _ = _; unfold newR; rw [Int.toNat_natCast]
      have hM0 := pow_pos2 K
      obtain ⟨N, hN⟩ : ∃ N : Nat, 2 ^ K - 1 = N := ⟨_, rfl⟩
      rw [hN] at HALLI HRG HNR
      have hr2 := row_new 73 (w.alloc (.cells #[.int .i64 0, .slice none 0 0] 73)) #[.int .i64 N, .slice p bids.length cap]
      rw [World.size_alloc] at hr2
      have hr1 := hr0.alloc (.cells #[.int .i64 N, .slice p bids.length cap] 73)
      have hb1 := ((Below.refl w.heap.size w).alloc (Nat.le_refl _) (.cells #[.int .i64 0, .slice none 0 0] 73)).alloc (by simp) (.cells #[.int .i64 N, .slice p bids.length cap] 73)
      have HR1 := Lib.hid hr1
      have HR2 := Lib.hid hr2
      have HB1 := Lib.hid hb1
      clear hl hf hm h1 h6 hN hr0 hr1 hr2 hb1
      cases hrb : rightB K bids with
      | false =>
        rw [hrb] at HRG hcr
        rw [if_neg (by decide)] at hcr
        rw [hcr, if_neg (by decide)] at HNR
        rw [hcr]
        clear hrb hcr
        go_enter Tryd.func46, Tryd.ntmps46
        go_wp2_with (first
          | (go_at_call 66; refine (HALLI.out _).mono ?_; rintro e w1 ⟨rfl, rfl⟩)
          | (go_at_call 67; refine (HRG.out _ HB1.out).mono ?_; rintro e w2 ⟨rfl, hb2⟩; have hr1 := HR1.out.below hb2 HR1.out.lt; have hr2 := HR2.out.below hb2 HR2.out.lt; have c0 := hr1.cell 0; have c1 := hr1.cell 1; have f0 := hr1.free 0; have f1 := hr1.free 1; have d0 := hr2.cell 0; have d1 := hr2.cell 1; simp only [List.getElem?_cons_zero, List.getElem?_cons_succ] at c0 c1 d0 d1; have HR1b := Lib.hid hr1; have HB2 := Lib.hid (HB1.out.trans (hb2.mono HB1.out.size)); clear hb2 hr1 hr2))
        have e0 := ((HR1b.out.store 0 (.int .i64 0)).store 1 (.slice none 0 0)).cell 0
        have e1 := ((HR1b.out.store 0 (.int .i64 0)).store 1 (.slice none 0 0)).cell 1
        simp only [List.set_cons_zero, List.set_cons_succ, List.getElem?_cons_zero, List.getElem?_cons_succ] at e0 e1
        refine bodyPost_ret (v := .tuple #[.agg #[.int .i64 0, .slice none 0 0], .int .i64 80]) (by simp [results, Tryd.results46, go_sem, e0, e1]) rfl ⟨by rw [HNR.out], (HB2.out.setCell (p := ⟨w.heap.size, 0, none⟩) (Nat.le_refl _) _).setCell (p := ⟨w.heap.size, 1, none⟩) (Nat.le_refl _) _⟩
      | true =>
        rw [hrb] at HRG hcr
        rw [if_pos rfl] at hcr
        rw [hcr, if_pos rfl] at HNR
        rw [hcr]
        clear hrb hcr
        go_enter Tryd.func46, Tryd.ntmps46
        go_wp2_with (first
          | (go_at_call 66; refine (HALLI.out _).mono ?_; rintro e w1 ⟨rfl, rfl⟩)
          | (go_at_call 67; refine (HRG.out _ HB1.out).mono ?_; rintro e w2 ⟨rfl, hb2⟩; have hr1 := HR1.out.below hb2 HR1.out.lt; have hr2 := HR2.out.below hb2 HR2.out.lt; have c0 := hr1.cell 0; have c1 := hr1.cell 1; have f0 := hr1.free 0; have f1 := hr1.free 1; have d0 := hr2.cell 0; have d1 := hr2.cell 1; simp only [List.getElem?_cons_zero, List.getElem?_cons_succ] at c0 c1 d0 d1; have HR1b := Lib.hid hr1; have HB2 := Lib.hid (HB1.out.trans (hb2.mono HB1.out.size)); clear hb2 hr1 hr2))
        have e0 := ((HR1b.out.store 0 (.int .i64 N)).store 1 (.slice p bids.length cap)).cell 0
        have e1 := ((HR1b.out.store 0 (.int .i64 N)).store 1 (.slice p bids.length cap)).cell 1
        simp only [List.set_cons_zero, List.set_cons_succ, List.getElem?_cons_zero, List.getElem?_cons_succ] at e0 e1
        refine bodyPost_ret (v := .tuple #[.agg #[.int .i64 N, .slice p bids.length cap], .int .i64 0]) (by simp [results, Tryd.results46, go_sem, e0, e1]) rfl ⟨by rw [HNR.out], (HB2.out.setCell (p := ⟨w.heap.size, 0, none⟩) (Nat.le_refl _) _).setCell (p := ⟨w.heap.size, 1, none⟩) (Nat.le_refl _) _⟩
theorem newR_form {w : World} {v : Value} (m : Int) (bids : List (List Int)) (hl : Mat w v bids) : ∃ N p n c, newR m bids v = .agg #[.int .i64 N, .slice p n c] := by
  obtain ⟨p, cap, rfl, _, _⟩ := hl.form_
  unfold newR
  split
  · exact ⟨_, _, _, _, rfl⟩
  · exact ⟨_, _, _, _, rfl⟩
set_option maxHeartbeats 1000000 in
theorem check_spec : SpecCheck := by
  intro v m bids w hl hm hf
  have HNW := Lib.hid (new_go v m bids w hl hm hf)
  obtain ⟨c, hc⟩ : ∃ c, checkP m bids = c := ⟨_, rfl⟩
  obtain ⟨a, p, n, cap, ha⟩ := newR_form m bids hl
  rw [hc, ha] at HNW
  rw [hc]
  clear hl hm hf hc ha
  go_enter Tryd.func15, Tryd.ntmps15
  go_wp2_with (first | (go_at_call 46; refine HNW.out.mono ?_; rintro e w1 ⟨rfl, hb1⟩; have HB1 := Lib.hid hb1; clear hb1))
  go_ret
  exact ⟨rfl, HB1.out.alloc HB1.out.size _⟩
end Go.Proofs.YthbfgmgpploneaaDoor
