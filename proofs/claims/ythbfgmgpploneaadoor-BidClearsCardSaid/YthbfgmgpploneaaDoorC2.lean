import Derived.Test.YthbfgmgpploneaaDoorC1
set_option linter.unusedVariables false
set_option linter.unusedSimpArgs false
set_option linter.unnecessarySimpa false
namespace Go.Proofs.YthbfgmgpploneaaDoor
open Go.RowKit

theorem coreP_iff (m : Nat) (bids : List (List Int)) (p : List Int) : coreP m bids p = true ↔
    (∀ i, i < bids.length → 0 ≤ p.getD i 0 ∧ p.getD i 0 ≤ (bids.getD i []).getD (pick m bids i) 0) ∧
    ∀ set, set < 2 ^ bids.length → worthP m bids set - ownTo bids (bestP m bids) set bids.length ≤ restTo p set bids.length := by
  unfold coreP
  simp only [Bool.and_eq_true, List.all_eq_true, List.mem_range, decide_eq_true_eq]
  constructor
  · rintro ⟨h1, h2⟩
    refine ⟨fun i hi => ?_, h2⟩
    have := h1 i hi
    rw [bestP_get _ _ _ hi, Int.toNat_natCast] at this; exact this
  · rintro ⟨h1, h2⟩
    refine ⟨fun i hi => ?_, h2⟩
    rw [bestP_get _ _ _ hi, Int.toNat_natCast]; exact h1 i hi
theorem coreP_no {m : Nat} {bids : List (List Int)} {p : List Int} (h : ¬ ((∀ i, i < bids.length → 0 ≤ p.getD i 0 ∧ p.getD i 0 ≤ (bids.getD i []).getD (pick m bids i) 0) ∧
    ∀ set, set < 2 ^ bids.length → worthP m bids set - ownTo bids (bestP m bids) set bids.length ≤ restTo p set bids.length)) : coreP m bids p = false := by
  cases hb : coreP m bids p with
  | false => rfl
  | true => exact absurd ((coreP_iff m bids p).1 hb) h
theorem ownTo_bd {m : Nat} {bids : List (List Int)} (h : Offers m bids) (l : List Int) (set k : Nat) : 0 ≤ ownTo bids l set k ∧ ownTo bids l set k ≤ 1000000 * (k : Int) := by
  induction k with
  | zero => simp [ownTo]
  | succ k ih =>
    have := offers_bd h k (l.getD k 0).toNat
    simp only [ownTo]; split <;> omega
theorem restTo_bd {p : List Int} {n : Nat} (h : ∀ i, i < n → 0 ≤ p.getD i 0 ∧ p.getD i 0 ≤ 1000000) (set k : Nat) (hk : k ≤ n) : 0 ≤ restTo p set k ∧ restTo p set k ≤ 1000000 * (k : Int) := by
  induction k with
  | zero => simp [restTo]
  | succ k ih =>
    have := h k (by omega)
    have := ih (by omega)
    simp only [restTo]; split <;> omega
theorem ownTo_in {bids : List (List Int)} {l : List Int} {set k : Nat} (h : bt set k = true) : ownTo bids l set (k + 1) = ownTo bids l set k + (bids.getD k []).getD (l.getD k 0).toNat 0 := by simp only [ownTo]; rw [h]; rfl
theorem ownTo_out {bids : List (List Int)} {l : List Int} {set k : Nat} (h : bt set k = false) : ownTo bids l set (k + 1) = ownTo bids l set k := by simp only [ownTo]; rw [h]; rfl
theorem restTo_in {p : List Int} {set k : Nat} (h : bt set k = true) : restTo p set (k + 1) = restTo p set k := by simp only [restTo]; rw [h]; rfl
theorem restTo_out {p : List Int} {set k : Nat} (h : bt set k = false) : restTo p set (k + 1) = restTo p set k + p.getD k 0 := by simp only [restTo]; rw [h]; rfl
set_option maxRecDepth 100000 in
set_option maxHeartbeats 4000000 in
theorem isCore_any (v pv : Value) (m : Nat) (bids : List (List Int)) (p : List Int) (w : World) (hl : Mat w v bids) (hpp : Sl w pv (ints p)) (hm : m ≤ 6) (hn : bids.length ≤ 7) (ho : Offers m bids) (hpn : p.length = bids.length) :
    Calls Tryd.prog 45 #[.int .i64 m, v, pv] w fun e w' => e = .returned (.bool (coreP m bids p)) ∧ Below w.heap.size w w' := by
  obtain ⟨p0, cap, rfl, hlc, hcm⟩ := hl.form_
  obtain ⟨pp, pc, rfl, hppc, hpcm⟩ := hpp.form
  unfold maxLen at hcm
  have hM64 := pow_le64 hm
  have HNO := Lib.hid (fun h => @coreP_no m bids p h)
  have HYES := Lib.hid (coreP_iff m bids p).2
  have HOL : Hid (∀ i, i < bids.length → (bids.getD i []).length = 2 ^ m) := fun i hi => offerB_len (ho.at_ hi)
  have HPL := Lib.hid (fun i hi => pick_lt ho (k := i) hi)
  obtain ⟨M, hMM⟩ : ∃ M, 2 ^ m = M := ⟨_, rfl⟩
  rw [hMM] at hM64 HOL HPL
  have HBEST := Lib.hid (fun W hb => best_any _ m bids W (hl.below hb) hm hn ho)
  have HBD := Lib.hid (offers_bd ho)
  have HOT := Lib.hid (ownTo_bd ho (bestP m bids))
  have HWB := Lib.hid (worthP_bd ho)
  have hE := best_bounds hn
  have hE0 := pow_pos2 bids.length
  obtain ⟨E, hEE⟩ : ∃ E, 2 ^ bids.length - 1 = E := ⟨_, rfl⟩
  have HEV : Hid (∀ W, Calls Tryd.prog 28 #[.slice p0 bids.length cap] W fun e w' => e = .returned (.int .i64 (E : Int)) ∧ W = w') := fun W => by rw [← hEE]; exact everyone_form p0 bids.length cap W hlc hn
  have hE1 : 2 ^ bids.length = E + 1 := by omega
  rw [hEE] at hE
  rw [hE1] at HNO HYES
  have HWO : Hid (∀ W set, Below w.heap.size w W → set < 1000 → Calls Tryd.prog 27 #[.int .i64 m, .slice p0 bids.length cap, .int .i64 (set : Nat)] W fun e w' => e = .returned (.int .i64 (worthP m bids set)) ∧ Below W.heap.size W w') := fun W set hb hs =>
    worth_any _ m bids set W (hl.below hb) hm hn ho hs
  have HL := Lib.hid hl
  have HPP := Lib.hid hpp
  have HPN := Lib.hid hpn
  rw [hpn] at hppc HPP ⊢
  clear hl hpp ho hMM hpn hEE hE1 hE0
  go_enter Tryd.func45, Tryd.ntmps45
  go_wp2_with fail
  refine (HBEST.out _ (Below.refl _ _)).mono ?_
  rintro e w1 ⟨lv, rfl, hown, hb1⟩
  have HLS := Lib.hid hown.sl
  obtain ⟨lp, lc, hlv, hll, _⟩ := hown.sl.form
  rw [bestP_len] at hlv hll
  subst hlv
  have HB1 := Lib.hid hb1
  clear hown hb1 HBEST
  go_wp2
  go_loopw [8] (fun i wr => ∃ k : Nat, k ≤ bids.length ∧ i = .int .i64 k ∧ Below w1.heap.size w1 wr ∧ ∀ j, j < k → 0 ≤ p.getD j 0 ∧ p.getD j 0 ≤ (bids.getD j []).getD (pick m bids j) 0) (fun i _ => bids.length - (intOf i).toNat)
  case atStart => exact ⟨0, Nat.zero_le _, rfl, Below.refl _ _, fun j hj => by omega⟩
  case round =>
    obtain ⟨i, hi, rfl, hb, hall⟩ := hrel
    have HALL := Lib.hid hall
    clear hall
    have hbw := HB1.out.trans (hb.mono HB1.out.size)
    by_cases hlt : i < bids.length
    · obtain ⟨b3, o3, c3, hv, _, _, _, hcl⟩ := (HLS.out.below hb).int_at i (by rw [bestP_len]; exact hlt)
      rw [bestP_len] at hv
      cases hv
      rw [bestP_get _ _ _ hlt] at hcl
      obtain ⟨b1, o1, c1, b2, o2, c2, hv, hcb, hcx, _, hlc2⟩ := (HL.out.below hbw).at2 rfl hlt (M := M) (s := pick m bids i) (HOL.out i hlt) (HPL.out i hlt) rfl
      cases hv
      obtain ⟨b4, o4, c4, hv, _, _, _, hcp⟩ := (HPP.out.below hbw).int_at i (by rw [HPN.out]; exact hlt)
      rw [HPN.out] at hv
      cases hv
      have hq := HPL.out i hlt
      have HBAD : Hid (¬ (0 ≤ p.getD i 0 ∧ p.getD i 0 ≤ (bids.getD i []).getD (pick m bids i) 0) → coreP m bids p = false) := fun h => HNO.out (fun g => h (g.1 i hlt))
      have HNEXT : Hid ((0 ≤ p.getD i 0 ∧ p.getD i 0 ≤ (bids.getD i []).getD (pick m bids i) 0) → ∀ j, j < i + 1 → 0 ≤ p.getD j 0 ∧ p.getD j 0 ≤ (bids.getD j []).getD (pick m bids j) 0) := fun h j hj => by
        rcases Nat.lt_or_ge j i with h1 | h1
        · exact HALL.out j h1
        · have : j = i := by omega
          subst this; exact h
      obtain ⟨q, hqq⟩ : ∃ q, pick m bids i = q := ⟨_, rfl⟩
      rw [hqq] at hcl hcx hq
      rw [hqq] at HBAD HNEXT
      obtain ⟨x, hx⟩ : ∃ x, (bids.getD i []).getD q 0 = x := ⟨_, rfl⟩
      obtain ⟨y, hy⟩ : ∃ y, p.getD i 0 = y := ⟨_, rfl⟩
      rw [hx] at hcx HBAD HNEXT
      rw [hy] at hcp HBAD HNEXT
      have HBX := Lib.hid hb
      have HBW := Lib.hid hbw
      clear hb hbw hqq hx hy
      by_cases hy0 : y < 0
      · have hd1 : decide (y < 0) = true := by rw [decide_eq_true_eq]; exact hy0
        have HF : Hid (coreP m bids p = false) := HBAD.out (fun h => by omega)
        clear HBAD HNEXT
        go_wp2
        go_quiet (fail)
        go_wp2
        go_ret
        exact ⟨by rw [HF.out]; rfl, below_drewN HBW.out _⟩
      · have hd1 : decide (y < 0) = false := by rw [decide_eq_false_iff_not]; exact hy0
        by_cases hyx : x < y
        · have hd2 : decide (x < y) = true := by rw [decide_eq_true_eq]; exact hyx
          have HF : Hid (coreP m bids p = false) := HBAD.out (fun h => by omega)
          clear HBAD HNEXT
          go_wp2
          go_quiet (fail)
          go_wp2
          go_ret
          exact ⟨by rw [HF.out]; rfl, below_drewN HBW.out _⟩
        · have hd2 : decide (x < y) = false := by rw [decide_eq_false_iff_not]; exact hyx
          have HN := Lib.hid (HNEXT.out ⟨by omega, by omega⟩)
          clear HBAD HNEXT
          go_wp2
          go_quiet (fail)
          go_wp2
          go_roundw
          case rel => exact ⟨i + 1, by omega, by go_num, below_drewN HBX.out _, HN.out⟩
          case measure => simp [intOf]; omega
    · obtain rfl : i = bids.length := by omega
      obtain ⟨wo, hwo⟩ : ∃ wo : World, wo = wr := ⟨_, rfl⟩
      subst hwo
      have HRB := Lib.hid (fun set k hk => restTo_bd (p := p) (n := bids.length) (fun i hi => ⟨(HALL.out i hi).1, Int.le_trans (HALL.out i hi).2 (HBD.out i _).2⟩) set k hk)
      have HBO := Lib.hid hb
      clear hb hbw
      go_wp2
      go_loopw [9, 10, 11, 12] (fun s _ _ _ wr => ∃ set : Nat, set ≤ E + 1 ∧ s = .int .i64 set ∧ Below w1.heap.size w1 wr ∧ ∀ s, s < set → worthP m bids s - ownTo bids (bestP m bids) s bids.length ≤ restTo p s bids.length) (fun s _ _ _ _ => E + 1 - (intOf s).toNat)
      case atStart => exact ⟨0, Nat.zero_le _, rfl, HBO.out, fun s hs => by omega⟩
      case round =>
        obtain ⟨set, hset, rfl, hb, hin⟩ := hrel
        have HIN := Lib.hid hin
        have HB2 := Lib.hid hb
        clear hin hb HBO
        by_cases hle : set ≤ E
        · obtain ⟨wi, hwi⟩ : ∃ wi : World, wi = wr := ⟨_, rfl⟩
          subst hwi
          go_wp2_with (go_at_call 28; refine (HEV.out _).mono ?_; rintro e w' ⟨rfl, rfl⟩)
          go_loopw [10, 11, 12] (fun o u i wx => ∃ k : Nat, k ≤ bids.length ∧ i = .int .i64 k ∧ o = .int .i64 (restTo p set k) ∧ u = .int .i64 (ownTo bids (bestP m bids) set k) ∧ Below w1.heap.size w1 wx) (fun _ _ i _ => bids.length - (intOf i).toNat)
          case atStart => exact ⟨0, Nat.zero_le _, rfl, rfl, rfl, HB2.out⟩
          case round =>
            obtain ⟨k, hk, rfl, rfl, rfl, hb⟩ := hrel
            have hbw := HB1.out.trans (hb.mono HB1.out.size)
            have hot := HOT.out set k
            have hrt := HRB.out set k hk
            by_cases hkn : k < bids.length
            · have hsh := btI set k
              have HBT : Hid (bt set k = (set / 2 ^ k % 2 == 1)) := rfl
              have HOI := Lib.hid (fun h => @ownTo_in bids (bestP m bids) set k h)
              have HOO := Lib.hid (fun h => @ownTo_out bids (bestP m bids) set k h)
              have HRI := Lib.hid (fun h => @restTo_in p set k h)
              have HRO := Lib.hid (fun h => @restTo_out p set k h)
              obtain ⟨b3, o3, c3, hv, _, _, _, hcl⟩ := (HLS.out.below hb).int_at k (by rw [bestP_len]; exact hkn)
              rw [bestP_len] at hv
              cases hv
              rw [bestP_get _ _ _ hkn] at hcl
              rw [bestP_get _ _ _ hkn, Int.toNat_natCast] at HOI
              obtain ⟨b1, o1, c1, b2, o2, c2, hv, hcb, hcx, _, hlc2⟩ := (HL.out.below hbw).at2 rfl hkn (M := M) (s := pick m bids k) (HOL.out k hkn) (HPL.out k hkn) rfl
              cases hv
              obtain ⟨b4, o4, c4, hv, _, _, _, hcp⟩ := (HPP.out.below hbw).int_at k (by rw [HPN.out]; exact hkn)
              rw [HPN.out] at hv
              cases hv
              have hq := HPL.out k hkn
              have hxb := HBD.out k (pick m bids k)
              have hyb := HALL.out k hkn
              have hyb2 := hyb.2
              have hyb1 := hyb.1
              obtain ⟨q, hqq⟩ : ∃ q, pick m bids k = q := ⟨_, rfl⟩
              rw [hqq] at hcl hcx hq hxb HOI hyb2
              obtain ⟨x, hx⟩ : ∃ x, (bids.getD k []).getD q 0 = x := ⟨_, rfl⟩
              obtain ⟨y, hy⟩ : ∃ y, p.getD k 0 = y := ⟨_, rfl⟩
              obtain ⟨a, ha⟩ : ∃ a, ownTo bids (bestP m bids) set k = a := ⟨_, rfl⟩
              obtain ⟨c, hc⟩ : ∃ c, restTo p set k = c := ⟨_, rfl⟩
              rw [hx] at hcx hxb HOI hyb2
              rw [hy] at hcp HRO hyb1 hyb2
              rw [ha] at hot HOI HOO ⊢
              rw [hc] at hrt HRI HRO ⊢
              obtain ⟨d, hd⟩ : ∃ d, set / 2 ^ k = d := ⟨_, rfl⟩
              rw [hd] at hsh HBT
              have h1 : IntKind.i64.wrap (a + x) = a + x := IntWalk.i64_in _ (by omega)
              have h2 : IntKind.i64.wrap (c + y) = c + y := IntWalk.i64_in _ (by omega)
              have HBX := Lib.hid hb
              clear hb hbw hqq hx hy ha hc hd hyb
              by_cases hodd : d % 2 = 1
              · have HT : Hid (bt set k = true) := by show _ = _; rw [HBT.out]; simpa using hodd
                have hb3 : ((d : Int) % 2 == 1) = true := by rw [beq_iff_eq]; omega
                have E1 := Lib.hid (HOI.out HT.out)
                have E2 := Lib.hid (HRI.out HT.out)
                clear hodd HBT HOI HOO HRI HRO
                go_wp2
                go_quiet (fail)
                go_wp2
                go_roundw
                case rel => exact ⟨k + 1, by omega, by go_num, by rw [E2.out], by rw [E1.out], below_drewN HBX.out _⟩
                case measure => simp [intOf]; omega
              · have HT : Hid (bt set k = false) := by show _ = _; rw [HBT.out]; simpa using hodd
                have hb3 : ((d : Int) % 2 == 1) = false := by rw [beq_eq_false_iff_ne]; omega
                have E1 := Lib.hid (HOO.out HT.out)
                have E2 := Lib.hid (HRO.out HT.out)
                clear hodd HBT HOI HOO HRI HRO
                go_wp2
                go_roundw
                case rel => exact ⟨k + 1, by omega, by go_num, by rw [E2.out], by rw [E1.out], HBX.out⟩
                case measure => simp [intOf]; omega
            · obtain rfl : k = bids.length := by omega
              have HC := Lib.hid (HWO.out wr set hbw (by omega))
              have hwb := HWB.out set
              have HBAD : Hid (¬ (worthP m bids set - ownTo bids (bestP m bids) set bids.length ≤ restTo p set bids.length) → coreP m bids p = false) := fun h => HNO.out (fun g => h (g.2 set (by omega)))
              have HNEXT : Hid ((worthP m bids set - ownTo bids (bestP m bids) set bids.length ≤ restTo p set bids.length) → ∀ s, s < set + 1 → worthP m bids s - ownTo bids (bestP m bids) s bids.length ≤ restTo p s bids.length) := fun h s hs => by
                rcases Nat.lt_or_ge s set with h1 | h1
                · exact HIN.out s h1
                · have : s = set := by omega
                  subst this; exact h
              obtain ⟨V, hV⟩ : ∃ V, worthP m bids set = V := ⟨_, rfl⟩
              obtain ⟨a, ha⟩ : ∃ a, ownTo bids (bestP m bids) set bids.length = a := ⟨_, rfl⟩
              obtain ⟨c, hc⟩ : ∃ c, restTo p set bids.length = c := ⟨_, rfl⟩
              rw [hV] at HC hwb HBAD HNEXT
              rw [ha] at hot HBAD HNEXT ⊢
              rw [hc] at hrt HBAD HNEXT ⊢
              have HBX := Lib.hid hb
              have HBW := Lib.hid hbw
              clear hb hbw hV ha hc
              by_cases hlt2 : c < V - a
              · have HF : Hid (coreP m bids p = false) := HBAD.out (fun h => by omega)
                clear HBAD HNEXT
                go_wp2_with fail
                refine HC.out.mono ?_
                rintro e w2 ⟨rfl, hb2⟩
                have HB4 := Lib.hid (HBW.out.trans (hb2.mono HBW.out.size))
                clear hb2 HC
                go_wp2
                go_ret
                exact ⟨by rw [HF.out]; rfl, HB4.out⟩
              · have HN := Lib.hid (HNEXT.out (by omega))
                clear HBAD HNEXT
                go_wp2_with fail
                refine HC.out.mono ?_
                rintro e w2 ⟨rfl, hb2⟩
                have HB4 := Lib.hid (HBX.out.trans (hb2.mono HBX.out.size))
                clear hb2 HC
                go_wp2
                go_roundw
                case rel => exact ⟨set + 1, by omega, by go_num, HB4.out, HN.out⟩
                case measure => simp [intOf]; omega
        · obtain rfl : set = E + 1 := by omega
          have HT2 := Lib.hid (HYES.out ⟨HALL.out, HIN.out⟩)
          have e9 : ((E + 1 : Nat) : Int) = (E : Int) + 1 := by omega
          rw [e9]
          clear e9
          go_wp2_with (go_at_call 28; refine (HEV.out _).mono ?_; rintro e w' ⟨rfl, rfl⟩)
          go_ret
          exact ⟨by rw [HT2.out]; rfl, HB1.out.trans (HB2.out.mono HB1.out.size)⟩
end Go.Proofs.YthbfgmgpploneaaDoor
