import Derived.Test.YthbfgmgpploneaaDoorB4
set_option linter.unusedVariables false
set_option linter.unusedSimpArgs false
set_option linter.unnecessarySimpa false
namespace Go.Proofs.YthbfgmgpploneaaDoor
open Go.RowKit

def ownP (rows : List (List Int)) : List (List Int) := (rows.take 7).map fun r => r.take 65
theorem ownP_len (rows : List (List Int)) : (ownP rows).length = min 7 rows.length := by simp [ownP]
theorem ownP_take (rows : List (List Int)) (k : Nat) (h : k < rows.length) (h7 : k < 7) : (ownP rows).take (k + 1) = (ownP rows).take k ++ [(rows.getD k []).take 65] := by
  have hk : k < (rows.take 7).length := by simp; omega
  have := map_take_succ (fun r : List Int => r.take 65) (rows.take 7) k [] hk
  unfold ownP
  rw [this]
  have e : (rows.take 7).getD k [] = rows.getD k [] := by rw [List.getD_eq_getElem?_getD, List.getD_eq_getElem?_getD, List.getElem?_take_of_lt h7]
  rw [e]
set_option maxHeartbeats 2000000 in
theorem own_any (v : Value) (rows : List (List Int)) (w : World) (hl : MatA w v rows) :
    Calls Tryd.prog 13 #[v] w fun e w' => ∃ v', e = .returned v' ∧ OwnM 31 2 w.heap.size w' v' (ownP rows) ∧ Below w.heap.size w w' := by
  obtain ⟨p, cap, rfl, hlc, hcm⟩ := hl.form_
  unfold maxLen at hcm
  have HL := Lib.hid hl
  clear hl
  go_enter Tryd.func13, Tryd.ntmps13
  go_wp2
  go_loopw [3, 4] (fun o i wr => ∃ k : Nat, k ≤ rows.length ∧ k ≤ 7 ∧ i = .int .i64 k ∧ OwnM 31 2 w.heap.size wr o ((ownP rows).take k) ∧ Below w.heap.size w wr) (fun _ i _ => 7 - (intOf i).toNat)
  case atStart => exact ⟨0, Nat.zero_le _, Nat.zero_le _, rfl, OwnM.nil _ _ _ _, Below.refl _ _⟩
  case round =>
    obtain ⟨k, hk, hk7, rfl, hown, hbel⟩ := hrel
    by_cases hlt : k < rows.length ∧ k < 7
    · obtain ⟨h1, h7⟩ := hlt
      have HTAKE := Lib.hid (ownP_take rows k h1 h7)
      obtain ⟨ad, c1, u, hv, _, _, _, hcu, hsu⟩ := (HL.out.below hbel).row_at k h1
      cases hv
      obtain ⟨up, uc, huv, _, _⟩ := hsu.form
      have HC := Lib.hid (list_any u (rows.getD k []) 65 wr hsu (by omega))
      obtain ⟨r, hr⟩ : ∃ r, rows.getD k [] = r := ⟨_, rfl⟩
      rw [hr] at HTAKE huv HC
      have HOWN := Lib.hid hown
      have HB := Lib.hid hbel
      subst huv
      have hd1 : decide ((k : Int) < 7) = true := by rw [decide_eq_true_eq]; omega
      have e65 : ((65 : Nat) : Int) = 65 := rfl
      rw [e65] at HC
      clear hown hbel hsu hr e65
      go_wp2_with fail
      refine HC.out.mono ?_
      rintro e w1 ⟨lv, rfl, ho1, hb1⟩
      obtain ⟨lp, lc, hlv, _, _⟩ := ho1.sl.form
      subst hlv
      obtain ⟨vs, hvl, hvo, hvr⟩ := HOWN.out.below hb1 (Nat.le_refl _)
      have HRO := Lib.hid (ho1.base HB.out.size)
      have HVL := Lib.hid hvl
      have HVO := Lib.hid hvo
      have HVR := Lib.hid hvr
      have HBX := Lib.hid (HB.out.trans (hb1.mono HB.out.size))
      have hv7 : vs.length ≤ 7 := by rw [hvl, List.length_take]; omega
      obtain ⟨nl, hnl⟩ : ∃ nl, (r.take 65).length = nl := ⟨_, rfl⟩
      rw [hnl] at HRO ⊢
      clear ho1 hb1 hvl hvo hvr HC hnl
      go_wp2_with (first | (at_builtin; refine wpList_append_box w1 rfl (.tmp 15) (.tmp 21) 22 rfl 31 (.slice none 0 0) 24 Tryd.underlying22 Tryd.info31 rfl (by omega) w.heap.size u3 vs rfl HVO.out (.slice lp nl lc) rfl rfl ?a3 ?a4 ?_))
      case a3 => omega
      case a4 => exact HBX.out.size
      intro v' w' hown hbel hkeep
      have HM2 : Hid (OwnM 31 2 w.heap.size w' v' ((ownP rows).take (k + 1))) := by
        rw [HTAKE.out]; exact OwnM.snoc (by decide) HVL.out HVR.out HRO.out hown hkeep
      have HB2 := Lib.hid (HBX.out.trans hbel)
      clear hown hbel hkeep
      go_wp2
      go_roundw
      case rel => exact ⟨k + 1, by omega, by omega, by go_num, HM2.out, HB2.out⟩
      case measure => simp [intOf]; omega
    · have HOWN : Hid (OwnM 31 2 w.heap.size wr u3 (ownP rows)) := by
        rw [List.take_of_length_le (by rw [ownP_len]; omega)] at hown; exact hown
      have HALL := Lib.hid hbel
      clear hown hbel
      by_cases h1 : k < rows.length
      · have h7 : k = 7 := by omega
        subst h7
        go_wp2
        go_ret
        exact ⟨_, rfl, HOWN.out, HALL.out⟩
      · obtain rfl : k = rows.length := by omega
        clear hlt
        go_wp2
        go_ret
        exact ⟨_, rfl, HOWN.out, HALL.out⟩
def checkP (m : Int) (bids : List (List Int)) : Int := if m < 1 ∨ 6 < m then 1 else if bids.length < 1 ∨ 6 < bids.length ∨ bids.all (offerB m.toNat) = false then 80 else 0
theorem checkP_arg {m : Int} {bids : List (List Int)} (h : m < 1 ∨ 6 < m) : checkP m bids = 1 := if_pos h
theorem checkP_bid {m : Int} {bids : List (List Int)} (h : ¬ (m < 1 ∨ 6 < m)) (h' : bids.length < 1 ∨ 6 < bids.length ∨ bids.all (offerB m.toNat) = false) : checkP m bids = 80 := by unfold checkP; rw [if_neg h, if_pos h']
theorem checkP_ok {m : Int} {bids : List (List Int)} (h : ¬ (m < 1 ∨ 6 < m)) (h' : ¬ (bids.length < 1 ∨ 6 < bids.length ∨ bids.all (offerB m.toNat) = false)) : checkP m bids = 0 := by unfold checkP; rw [if_neg h, if_neg h']
theorem checkP_zero {m : Int} {bids : List (List Int)} (h : checkP m bids = 0) : 1 ≤ m ∧ m ≤ 6 ∧ 1 ≤ bids.length ∧ bids.length ≤ 6 ∧ Offers m.toNat bids := by
  by_cases h1 : m < 1 ∨ 6 < m
  · rw [checkP_arg h1] at h; cases h
  · by_cases h2 : bids.length < 1 ∨ 6 < bids.length ∨ bids.all (offerB m.toNat) = false
    · rw [checkP_bid h1 h2] at h; cases h
    · refine ⟨by omega, by omega, by omega, by omega, ?_⟩
      have h3 : bids.all (offerB m.toNat) = true := by
        cases hb : bids.all (offerB m.toNat) with
        | true => rfl
        | false => exact absurd (Or.inr (Or.inr hb)) h2
      intro b hb
      exact List.all_eq_true.1 h3 b hb
theorem checkP_of {m : Nat} {bids : List (List Int)} (h1 : 1 ≤ m) (h2 : m ≤ 6) (h3 : 1 ≤ bids.length) (h4 : bids.length ≤ 6) (h5 : Offers m bids) : checkP m bids = 0 := by
  refine checkP_ok (by omega) (fun h => ?_)
  rcases h with h | h | h
  · omega
  · omega
  · have : bids.all (offerB ((m : Int)).toNat) = true := List.all_eq_true.2 (fun b hb => by rw [Int.toNat_natCast]; exact h5 b hb)
    rw [this] at h; cases h
set_option maxHeartbeats 1000000 in
theorem check_any (v : Value) (m : Int) (bids : List (List Int)) (w : World) (hl : Mat w v bids) (hm0 : -9223372036854775808 ≤ m) (hm1 : m ≤ 9223372036854775807) :
    Calls Tryd.prog 14 #[.int .i64 m, v] w fun e w' => e = .returned (.int .i64 (checkP m bids)) ∧ Below w.heap.size w w' := by
  obtain ⟨p, cap, rfl, hlc, hcm⟩ := hl.form_
  unfold maxLen at hcm
  have HL := Lib.hid hl
  clear hl
  by_cases h1 : m < 1
  · have HE := Lib.hid (checkP_arg (bids := bids) (Or.inl h1 : m < 1 ∨ 6 < m))
    go_enter Tryd.func14, Tryd.ntmps14
    go_wp2
    go_ret
    exact ⟨by rw [HE.out]; rfl, Below.refl _ _⟩
  · by_cases h2 : 6 < m
    · have HE := Lib.hid (checkP_arg (bids := bids) (Or.inr h2 : m < 1 ∨ 6 < m))
      go_enter Tryd.func14, Tryd.ntmps14
      go_wp2
      go_ret
      exact ⟨by rw [HE.out]; rfl, Below.refl _ _⟩
    · have HBID := Lib.hid (fun h => checkP_bid (bids := bids) (m := m) (by omega) h)
      have HOK := Lib.hid (fun h => checkP_ok (bids := bids) (m := m) (by omega) h)
      obtain ⟨n, rfl⟩ : ∃ n : Nat, m = (n : Int) := ⟨m.toNat, by omega⟩
      rw [Int.toNat_natCast] at HBID HOK
      have hn1 : 1 ≤ n := by omega
      have hn6 : n ≤ 6 := by omega
      by_cases h3 : bids.length < 1
      · have HE := Lib.hid (HBID.out (Or.inl h3))
        clear h1 h2 HBID HOK
        go_enter Tryd.func14, Tryd.ntmps14
        go_wp2
        go_ret
        exact ⟨by rw [HE.out]; rfl, Below.refl _ _⟩
      · by_cases h4 : 6 < bids.length
        · have HE := Lib.hid (HBID.out (Or.inr (Or.inl h4)))
          clear h1 h2 HBID HOK
          go_enter Tryd.func14, Tryd.ntmps14
          go_wp2
          go_ret
          exact ⟨by rw [HE.out]; rfl, Below.refl _ _⟩
        · clear h1 h2
          have h5 : 1 ≤ bids.length := by omega
          clear h3
          go_enter Tryd.func14, Tryd.ntmps14
          go_wp2
          go_loopw [5] (fun i wr => ∃ k : Nat, k ≤ bids.length ∧ i = .int .i64 k ∧ Below w.heap.size w wr ∧ ∀ j, j < k → offerB n (bids.getD j []) = true) (fun i _ => bids.length - (intOf i).toNat)
          case atStart => exact ⟨0, Nat.zero_le _, rfl, Below.refl _ _, fun j hj => by omega⟩
          case round =>
            obtain ⟨k, hk, rfl, hb, hall⟩ := hrel
            have HALL := Lib.hid hall
            have HB := Lib.hid hb
            clear hall
            by_cases hlt : k < bids.length
            · obtain ⟨b1, o1, c1, u, hv, _, _, _, hcu, hsu⟩ := (HL.out.below hb).row_at k hlt
              cases hv
              have HC := Lib.hid (offer_any u n (bids.getD k []) wr hsu hn6)
              clear hb hsu
              cases hof : offerB n (bids.getD k []) with
              | true =>
                have HOF := Lib.hid hof
                rw [hof] at HC
                clear hof
                go_wp2_with fail
                refine HC.out.mono ?_
                rintro e w1 ⟨rfl, hb1⟩
                have HB2 := Lib.hid (HB.out.trans (hb1.mono HB.out.size))
                have HALL2 : Hid (∀ j, j < k + 1 → offerB n (bids.getD j []) = true) := by
                  intro j hj
                  rcases Nat.lt_or_ge j k with h | h
                  · exact HALL.out j h
                  · have : j = k := by omega
                    subst this; exact HOF.out
                clear hb1
                go_wp2
                go_roundw
                case rel => exact ⟨k + 1, by omega, by go_num, HB2.out, HALL2.out⟩
                case measure => simp [intOf]; omega
              | false =>
                have HE : Hid (checkP (n : Int) bids = 80) := HBID.out (Or.inr (Or.inr (by
                  cases hb : bids.all (offerB n) with
                  | false => rfl
                  | true =>
                    have := List.all_eq_true.1 hb (bids.getD k []) (by rw [List.getD_eq_getElem?_getD, List.getElem?_eq_getElem hlt]; exact List.getElem_mem hlt)
                    rw [hof] at this; cases this)))
                rw [hof] at HC
                clear hof
                go_wp2_with fail
                refine HC.out.mono ?_
                rintro e w1 ⟨rfl, hb1⟩
                have HB2 := Lib.hid (HB.out.trans (hb1.mono HB.out.size))
                clear hb1
                go_wp2
                go_ret
                exact ⟨by rw [HE.out]; rfl, HB2.out⟩
            · obtain rfl : k = bids.length := by omega
              have HE : Hid (checkP (n : Int) bids = 0) := HOK.out (fun h => by
                rcases h with h | h | h
                · omega
                · omega
                · have : bids.all (offerB n) = true := List.all_eq_true.2 (fun b hb => by
                    obtain ⟨i, hi, rfl⟩ := List.mem_iff_getElem.1 hb
                    have := HALL.out i hi
                    rw [List.getD_eq_getElem?_getD, List.getElem?_eq_getElem hi] at this; exact this)
                  rw [this] at h; cases h)
              clear hb
              go_wp2
              go_ret
              exact ⟨by rw [HE.out]; rfl, HB.out⟩
end Go.Proofs.YthbfgmgpploneaaDoor
