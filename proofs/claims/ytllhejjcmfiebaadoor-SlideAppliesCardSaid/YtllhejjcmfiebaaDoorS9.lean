/- The reference's Board and Check; positions. -/
import Derived.Test.YtllhejjcmfiebaaDoorS8
set_option linter.unusedVariables false
set_option linter.unusedSimpArgs false
set_option linter.unnecessarySimpa false
namespace Go.Proofs.YtllhejjcmfiebaaDoor
open Go.RowKit Go.Shelf

theorem ve_of {N : Nat} {l : Ps} (hn9 : N ≤ 9) (h : ∀ j, j < l.length → okAt N l j = true) : VE l N := by
  intro k hk
  have h1 := h k hk
  unfold okAt at h1
  rw [List.getD_eq_getElem?_getD, List.getElem?_eq_getElem hk] at h1
  obtain ⟨i, j, hij, h2, h3⟩ := edgeOk_lt h1 hn9
  exact ⟨i, j, by rw [List.getElem?_eq_getElem hk]; exact congrArg some hij, by omega, h3⟩
set_option maxRecDepth 100000 in
set_option maxHeartbeats 4000000 in
theorem rboard_go (v : Value) (N : Nat) (l : Ps) (w : World) (hl : SlP w v l) (hn2 : 2 ≤ N) (hn9 : N ≤ 9) :
    Calls Tryd.prog 48 #[.int .i64 N, v] w fun e w' => e = .returned (.bool (boardOk N l && joinedP N (toE l) (-1))) ∧ Below w.heap.size w w' := by
  obtain ⟨p, cap, rfl, hl1, hl2⟩ := hl.len
  have HL := Lib.hid hl
  clear hl
  go_enter Tryd.func48, Tryd.ntmps48
  go_wp2
  go_loopw [5] (fun i wr => ∃ k : Nat, k ≤ l.length ∧ i = .int .i64 k ∧ (∀ j, j < k → okAt N l j = true) ∧ Below w.heap.size w wr) (fun i _ => l.length - (intOf i).toNat)
  case atStart => exact ⟨0, Nat.zero_le _, rfl, fun j hj => by omega, Below.refl _ _⟩
  case round =>
    obtain ⟨k, hk, rfl, hall, hbel⟩ := hrel
    by_cases hlt : k < l.length
    · obtain ⟨ad, cap', e, hv, hg, hek, d1, d2⟩ := (HL.out.below hbel).at_ k hlt
      cases hv
      have hge : l.getD k (0, 0) = e := by rw [List.getD_eq_getElem?_getD, hek]; rfl
      have HOK : Hid (okAt N l k = edgeOk N (prevOf l k) e) := by show _ = _; unfold okAt; rw [hge]
      obtain ⟨x, y⟩ := e
      dsimp only at d1 d2
      have HALL := Lib.hid hall
      have HB := Lib.hid hbel
      by_cases h1 : x < 0
      · clear hall hge hek
        have HBAD : Hid (boardOk N l = false) := boardOk_no hlt (by rw [HOK.out]; unfold edgeOk; simp; omega)
        go_wp2
        go_quiet (fail)
        go_wp2
        go_ret
        exact ⟨by rw [HBAD.out]; rfl, below_drewN HB.out _⟩
      · by_cases h2 : y ≤ x
        · clear hall hge hek
          have HBAD : Hid (boardOk N l = false) := boardOk_no hlt (by rw [HOK.out]; unfold edgeOk; simp; omega)
          go_wp2
          go_quiet (fail)
          go_wp2
          go_ret
          exact ⟨by rw [HBAD.out]; rfl, below_drewN HB.out _⟩
        · by_cases h3 : (N : Int) ≤ y
          · clear hall hge hek
            have HBAD : Hid (boardOk N l = false) := boardOk_no hlt (by rw [HOK.out]; unfold edgeOk; simp; omega)
            go_wp2
            go_quiet (fail)
            go_wp2
            go_ret
            exact ⟨by rw [HBAD.out]; rfl, below_drewN HB.out _⟩
          · by_cases hk0 : k = 0
            · have hz : ¬ ((0 : Int) < (k : Int)) := by omega
              have hz2 : decide (0 < k) = false := by rw [decide_eq_false_iff_not]; omega
              have hz3 : decide ((0 : Int) < (k : Int)) = false := by rw [decide_eq_false_iff_not]; omega
              have HNX : Hid (∀ j, j < k + 1 → okAt N l j = true) := by
                intro j hj
                rcases Nat.lt_or_ge j k with h | h
                · exact HALL.out j h
                · have : j = k := by omega
                  subst this; rw [HOK.out]; unfold prevOf; rw [if_pos hk0]; unfold edgeOk lexB; simp; omega
              clear hall hge hek hk0
              go_wp2
              go_quiet (fail)
              go_wp2
              go_roundw
              case rel => exact ⟨k + 1, by omega, by go_num, HNX.out, below_drewN HB.out _⟩
              case measure => simp [intOf]; omega
            · obtain ⟨ad', cap'', e', hv, hg', hek', m1, m2⟩ := (HL.out.below hbel).at_ (k - 1) (by omega)
              cases hv
              have HPV : Hid (prevOf l k = e') := by show _ = _; unfold prevOf; rw [if_neg hk0, List.getD_eq_getElem?_getD, hek']; rfl
              obtain ⟨a, b⟩ := e'
              dsimp only at m1 m2
              have hk1 : IntKind.i64.wrap ((k : Int) - 1) = ((k - 1 : Nat) : Int) := by rw [show ((k : Int) - 1) = ((k - 1 : Nat) : Int) by omega]; exact IntWalk.i64_in _ (by omega)
              have hpos : decide ((0 : Int) < (k : Int)) = true := by rw [decide_eq_true_eq]; omega
              have hkc : ((k : Int) - 1) = ((k - 1 : Nat) : Int) := by omega
              obtain ⟨q, hq⟩ : ∃ q, k - 1 = q := ⟨_, rfl⟩
              rw [hq] at m1 m2 hk1 hkc
              have hql : q < l.length := by omega
              have gq : (q : Int) < (l.length : Int) := by omega
              clear hall hge hek hek' hq
              by_cases h4 : x < a
              · have hd : decide (x < a) = true := by rw [decide_eq_true_eq]; exact h4
                have HBAD : Hid (boardOk N l = false) := boardOk_no hlt (by rw [HOK.out]; rw [HPV.out]; unfold edgeOk lexB; simp; omega)
                go_wp2
                go_quiet (fail)
                go_wp2
                go_ret
                exact ⟨by rw [HBAD.out]; rfl, below_drewN HB.out _⟩
              · have hd : decide (x < a) = false := by rw [decide_eq_false_iff_not]; exact h4
                by_cases h5 : a = x
                · have hd2 : (a == x) = true := by rw [beq_iff_eq]; exact h5
                  by_cases h6 : y ≤ b
                  · have hd3 : decide (y ≤ b) = true := by rw [decide_eq_true_eq]; exact h6
                    have HBAD : Hid (boardOk N l = false) := boardOk_no hlt (by rw [HOK.out, HPV.out]; unfold edgeOk lexB; simp; omega)
                    clear h5
                    go_wp2
                    go_quiet (fail)
                    go_wp2
                    go_ret
                    exact ⟨by rw [HBAD.out]; rfl, below_drewN HB.out _⟩
                  · have hd3 : decide (y ≤ b) = false := by rw [decide_eq_false_iff_not]; exact h6
                    have HNX : Hid (∀ j, j < k + 1 → okAt N l j = true) := by
                      intro j hj
                      rcases Nat.lt_or_ge j k with h | h
                      · exact HALL.out j h
                      · have : j = k := by omega
                        subst this; rw [HOK.out]; rw [HPV.out]; unfold edgeOk lexB; simp; omega
                    clear h5
                    go_wp2
                    go_quiet (fail)
                    go_wp2
                    go_roundw
                    case rel => exact ⟨k + 1, by omega, by go_num, HNX.out, below_drewN HB.out _⟩
                    case measure => simp [intOf]; omega
                · have hd2 : (a == x) = false := by rw [beq_eq_false_iff_ne]; exact h5
                  have HNX : Hid (∀ j, j < k + 1 → okAt N l j = true) := by
                    intro j hj
                    rcases Nat.lt_or_ge j k with h | h
                    · exact HALL.out j h
                    · have : j = k := by omega
                      subst this; rw [HOK.out]; rw [HPV.out]; unfold edgeOk lexB; simp; omega
                  go_wp2
                  go_quiet (fail)
                  go_wp2
                  go_roundw
                  case rel => exact ⟨k + 1, by omega, by go_num, HNX.out, below_drewN HB.out _⟩
                  case measure => simp [intOf]; omega
    · obtain rfl : k = l.length := by omega
      have HBO : Hid (boardOk N l = true) := boardOk_yes hall
      have HJ := Lib.hid (joined_go _ N (-1) l wr (HL.out.below hbel) (ve_of hn9 hall) hn2 hn9 (by omega))
      have HB := Lib.hid hbel
      obtain ⟨jb, hjb⟩ : ∃ jb, joinedP N (toE l) (-1) = jb := ⟨_, rfl⟩
      have HJB := Lib.hid hjb
      rw [hjb] at HJ
      clear hall hbel hjb
      go_wp2_with (first | (go_at_call 62; refine HJ.out.mono ?_; rintro e w1 ⟨rfl, hb1⟩; have HB1 := Lib.hid (HB.out.trans (hb1.mono HB.out.size)); clear hb1))
      go_ret
      exact ⟨by rw [HBO.out, HJB.out, Bool.true_and]; rfl, HB1.out⟩
theorem rcheck_go (v : Value) (n : Int) (l : Ps) (w : World) (hl : SlP w v l) :
    Calls Tryd.prog 14 #[.int .i64 n, v] w fun e w' => e = .returned (.int .i64 (checkB n l)) ∧ Below w.heap.size w w' := by
  have HCH : Hid (checkB n l = if sizeB n then (if boardOk n l && joinedP n.toNat (toE l) (-1) then 0 else 100) else 1) := rfl
  have HN := Lib.hid (fun W => number_any n W)
  cases hs : sizeB n with
  | false =>
    rw [hs] at HCH HN
    have HC1 : Hid (checkB n l = 1) := by show _ = _; rw [HCH.out]; rfl
    obtain ⟨p, cap, rfl, hl1, hl2⟩ := hl.len
    clear hl hs
    go_enter Tryd.func14, Tryd.ntmps14
    go_wp2_with (first | (go_at_call 34; refine (HN.out _).mono ?_; rintro e w1 ⟨rfl, rfl⟩))
    go_ret
    exact ⟨by rw [HC1.out]; rfl, Below.refl _ _⟩
  | true =>
    rw [hs] at HCH HN
    simp only [sizeB, Bool.and_eq_true, decide_eq_true_eq] at hs
    obtain ⟨N, rfl⟩ : ∃ N : Nat, n = (N : Int) := ⟨n.toNat, by omega⟩
    rw [Int.toNat_natCast] at HCH
    have HB := Lib.hid (rboard_go v N l w hl (by omega) (by omega))
    obtain ⟨bb, hbb⟩ : ∃ bb, (boardOk N l && joinedP N (toE l) (-1)) = bb := ⟨_, rfl⟩
    rw [hbb] at HB HCH
    obtain ⟨p, cap, rfl, hl1, hl2⟩ := hl.len
    clear hl hbb
    cases bb with
    | true =>
      have HC1 : Hid (checkB N l = 0) := by show _ = _; rw [HCH.out]; rfl
      go_enter Tryd.func14, Tryd.ntmps14
      go_wp2_with (first
        | (go_at_call 34; refine (HN.out _).mono ?_; rintro e w1 ⟨rfl, rfl⟩)
        | (go_at_call 48; refine HB.out.mono ?_; rintro e w1 ⟨rfl, hb1⟩; have HB1 := Lib.hid hb1; clear hb1))
      go_ret
      exact ⟨by rw [HC1.out]; rfl, HB1.out⟩
    | false =>
      have HC1 : Hid (checkB N l = 100) := by show _ = _; rw [HCH.out]; rfl
      go_enter Tryd.func14, Tryd.ntmps14
      go_wp2_with (first
        | (go_at_call 34; refine (HN.out _).mono ?_; rintro e w1 ⟨rfl, rfl⟩)
        | (go_at_call 48; refine HB.out.mono ?_; rintro e w1 ⟨rfl, hb1⟩; have HB1 := Lib.hid hb1; clear hb1))
      go_ret
      exact ⟨by rw [HC1.out]; rfl, HB1.out⟩
end Go.Proofs.YtllhejjcmfiebaaDoor
