import Derived.Test.YthbfgmgpploneaaDoorA6
set_option linter.unusedVariables false
set_option linter.unusedSimpArgs false
set_option linter.unnecessarySimpa false
namespace Go.Proofs.YthbfgmgpploneaaDoor
open Go.RowKit

theorem range_map_take {α : Type} (f : Nat → α) (n k : Nat) (hk : k < n) : ((List.range n).map f).take (k + 1) = ((List.range n).map f).take k ++ [f k] := by
  rw [List.take_succ_eq_append_getElem (by simpa using hk)]; simp
theorem bestP_take (m : Nat) (bids : List (List Int)) (k : Nat) (hk : k < bids.length) : (bestP m bids).take (k + 1) = (bestP m bids).take k ++ [(pick m bids k : Int)] := range_map_take _ _ _ hk
theorem Own.alloc_ {T base : Nat} {w : World} {v : Value} {xs : List Value} (h : Own T base w v xs) (o : Obj) : Own T base (w.alloc o) v xs := World.ownsRow.alloc h o
theorem tablesP_row (m : Nat) (bids : List (List Int)) (who k : Nat) (hk : k ≤ bids.length) : ((tablesP m bids who).getD k []).length = 2 ^ m := by rw [tablesP_get _ _ _ _ hk, tk_len _ _ _ _ hk]
/-- a loop behind a first part that has ended in w1 -/
def Beh (w w1 wr : World) : Prop := Below w.heap.size w w1 ∧ Below w1.heap.size w1 wr
theorem Beh.all {w w1 wr : World} (h : Beh w w1 wr) : Below w.heap.size w wr := h.1.trans (h.2.mono h.1.size)
theorem best_bounds {n : Nat} (h : n ≤ 7) : 2 ^ n - 1 < 1000 := by
  have : 2 ^ n ≤ 2 ^ 7 := Nat.pow_le_pow_right (by omega) h
  omega
set_option maxRecDepth 100000 in
set_option maxHeartbeats 4000000 in
theorem best_any (v : Value) (m : Nat) (bids : List (List Int)) (w : World) (hl : Mat w v bids) (hm : m ≤ 6) (hn : bids.length ≤ 7) (ho : Offers m bids) :
    Calls Tryd.prog 30 #[.int .i64 m, v] w fun e w' => ∃ v', e = .returned v' ∧ Own 3 w.heap.size w' v' (ints (bestP m bids)) ∧ Below w.heap.size w w' := by
  have hM := wrap_pow m (by omega)
  have hM64 := pow_le64 hm
  have hM0 := pow_pos2 m
  obtain ⟨p, cap, rfl, hlc, hcm⟩ := hl.form_
  unfold maxLen at hcm
  have HE := Lib.hid (fun W hb => everyone_any _ bids W (hl.below hb) hn)
  have HT := Lib.hid (fun W hb => tables_any _ m bids (2 ^ bids.length - 1) W (hl.below hb) hm hn ho (best_bounds hn))
  obtain ⟨M, hMM⟩ : ∃ M, 2 ^ m = M := ⟨_, rfl⟩
  rw [hMM] at hM hM64 hM0
  have HMM := Lib.hid hMM
  have HL := Lib.hid hl
  have HO := Lib.hid ho
  have hM1 : IntKind.i64.wrap ((M : Int) - 1) = (M : Int) - 1 := IntWalk.i64_in _ (by omega)
  clear hl ho hMM
  go_enter Tryd.func30, Tryd.ntmps30
  go_wp2_with fail
  refine (HE.out _ (Below.refl _ _)).mono ?_
  rintro e w0 ⟨rfl, rfl⟩
  go_wp2_with fail
  refine (HT.out _ (Below.refl _ _)).mono ?_
  rintro e w1 ⟨tv, rfl, hown, hb1⟩
  have HTM := Lib.hid hown.mat
  obtain ⟨tp, tc, htv, htl, _⟩ := hown.mat.form_
  rw [tablesP_len] at htv htl
  subst htv
  have HB1 := Lib.hid hb1
  clear hown hb1 HE HT
  go_wp2
  go_loopw [6, 7, 8, 9] (fun o l i _ wr => ∃ k : Nat, k ≤ bids.length ∧ i = .int .i64 k ∧ l = .int .i64 (leftAt m bids k) ∧ Own 3 w1.heap.size wr o (ints ((bestP m bids).take k)) ∧ Below w1.heap.size w1 wr) (fun _ _ i _ _ => bids.length - (intOf i).toNat)
  case atStart => exact ⟨0, Nat.zero_le _, rfl, by simp only [leftAt]; rw [HMM.out]; go_num, World.ownsRow_nil _ _ _ _, Below.refl _ _⟩
  case round =>
    obtain ⟨k, hk, rfl, rfl, hown, hbel⟩ := hrel
    by_cases hlt : k < bids.length
    · obtain ⟨hpk, hmin⟩ := pick_spec HO.out hlt
      have hleft := leftAt_lt m bids k
      have hple := le_of_sans (pick_sub HO.out hlt)
      have HTAKE := Lib.hid (bestP_take m bids k hlt)
      have HNEXT := Lib.hid (leftAt_succ m bids k)
      have HHIT : Hid (∀ s, hitK m bids k s = (sans s (leftAt m bids k) == 0 && (bids.getD k []).getD s 0 + (tk m bids (2 ^ bids.length - 1) (k + 1)).getD (sans (leftAt m bids k) s) 0 == (tk m bids (2 ^ bids.length - 1) k).getD (leftAt m bids k) 0)) := fun _ => rfl
      rw [HMM.out] at hleft
      obtain ⟨L, hL⟩ : ∃ L, leftAt m bids k = L := ⟨_, rfl⟩
      obtain ⟨P, hP⟩ : ∃ P, pick m bids k = P := ⟨_, rfl⟩
      rw [hL] at hleft hple HNEXT HHIT ⊢
      rw [hP] at hpk hmin hple HTAKE HNEXT
      have HPK := Lib.hid hpk
      have HMIN := Lib.hid hmin
      have HOWN := Lib.hid hown
      have HBEL := Lib.hid hbel
      obtain ⟨wo, hwo⟩ : ∃ wo : World, wo = wr := ⟨_, rfl⟩
      subst hwo
      clear hpk hmin hL hP hown hbel
      go_wp2
      go_loopw [9] (fun s wx => ∃ sub : Nat, sub ≤ P ∧ s = .int .i64 sub ∧ Below wo.heap.size wo wx) (fun s _ => P - (intOf s).toNat)
      case atStart => exact ⟨0, Nat.zero_le _, rfl, Below.refl _ _⟩
      case round =>
        obtain ⟨sub, hsub, rfl, hb⟩ := hrel
        have hbt : Below w1.heap.size w1 wr := HBEL.out.trans (hb.mono HBEL.out.size)
        have hbw := HB1.out.trans (hbt.mono HB1.out.size)
        have hofs := HO.out.at_ hlt
        have hbd := offerB_at hofs sub
        have hx1 := tk_bounds HO.out (2 ^ bids.length - 1) (bids.length - (k + 1)) (k + 1) (by omega) (sans L sub)
        have hus : sans L sub < M := Nat.lt_of_le_of_lt (sans_le _ _) hleft
        obtain ⟨b1, o1, c1, b2, o2, c2, hv, hcb, hcx, hlc1, hlc2⟩ := (HL.out.below hbw).at2 rfl hlt (M := M) (s := sub) (by rw [← HMM.out]; exact offerB_len hofs) (by omega) rfl
        cases hv
        obtain ⟨b3, o3, c3, b4, o4, c4, hv, hct, hcy, hlc3, hlc4⟩ := (HTM.out.below hbt).at2 (tablesP_len _ _ _) (i := k + 1) (by omega) (M := M) (s := sans L sub) (by rw [← HMM.out]; exact tablesP_row _ _ _ _ (by omega)) hus rfl
        cases hv
        obtain ⟨b5, o5, c5, b6, o6, c6, hv, hct2, hcz, hlc5, hlc6⟩ := (HTM.out.below hbt).at2 (tablesP_len _ _ _) (i := k) (by omega) (M := M) (s := L) (by rw [← HMM.out]; exact tablesP_row _ _ _ _ (by omega)) hleft rfl
        cases hv
        rw [tablesP_get _ _ _ _ (by omega)] at hcy hcz
        have han1 := i64_andNot sub L (by omega) (by omega)
        have han2 := i64_andNot L sub (by omega) (by omega)
        have HH := Lib.hid (HHIT.out sub)
        have HB := Lib.hid hb
        obtain ⟨u1, hu1⟩ : ∃ u1, sans sub L = u1 := ⟨_, rfl⟩
        obtain ⟨u2, hu2⟩ : ∃ u2, sans L sub = u2 := ⟨_, rfl⟩
        rw [hu1] at han1 HH
        rw [hu2] at han2 hus hcy hx1 HH
        obtain ⟨x, hx⟩ : ∃ x, (bids.getD k []).getD sub 0 = x := ⟨_, rfl⟩
        obtain ⟨y, hy⟩ : ∃ y, (tk m bids (2 ^ bids.length - 1) (k + 1)).getD u2 0 = y := ⟨_, rfl⟩
        obtain ⟨z, hz⟩ : ∃ z, (tk m bids (2 ^ bids.length - 1) k).getD L 0 = z := ⟨_, rfl⟩
        rw [hx] at hcx hbd HH
        rw [hy] at hcy hx1 HH
        rw [hz] at hcz HH
        have hxy : IntKind.i64.wrap (x + y) = x + y := IntWalk.i64_in _ (by omega)
        have hk1 : IntKind.i64.wrap ((k : Int) + 1) = (k : Int) + 1 := IntWalk.i64_in _ (by omega)
        have hk2 : 0 ≤ (k : Int) + 1 := by omega
        have hk3 : ((k : Int) + 1).toNat = k + 1 := by omega
        have hk4 : (k : Int) + 1 < (bids.length : Int) + 1 := by omega
        have hk5 : (k : Int) < (bids.length : Int) + 1 := by omega
        have hsM : sub < M := by omega
        have HLESS : Hid (hitK m bids k sub = false → sub + 1 ≤ P) := fun h => by
          rcases Nat.lt_or_ge sub P with g | g
          · exact g
          · have : sub = P := by omega
            rw [this, HPK.out] at h; cases h
        have HU2 := Lib.hid hu2
        clear hb hbt hbw hofs hu1 hu2 hx hy hz
        by_cases h1 : u1 = 0
        · have hb1 : ((u1 : Int) != 0) = false := by rw [bne_eq_false_iff_eq]; omega
          by_cases h2 : x + y = z
          · have hb2 : ((x + y) != z) = false := by rw [bne_eq_false_iff_eq]; exact h2
            have HIT : Hid (hitK m bids k sub = true) := by show _ = _; rw [HH.out, h1, h2]; simp
            have HEQ : Hid (P = sub) := by
              show _ = _
              rcases Nat.lt_or_ge sub P with g | g
              · have := HMIN.out sub g; rw [HIT.out] at this; cases this
              · omega
            clear h1 h2 HH
            go_wp2
            go_quiet (fail)
            have HO6 : Hid (∀ n, Own 3 w1.heap.size (wr.drewN n) u6 (ints ((bestP m bids).take k))) := fun n => (HOWN.out.below HB.out (Nat.le_refl _)).below (below_drewN (Below.refl _ _) n) (Nat.le_refl _)
            have HBB : Hid (∀ n, Below w1.heap.size w1 (wr.drewN n)) := fun n => below_drewN (HBEL.out.trans (HB.out.mono HBEL.out.size)) n
            go_wp2_with (first | (at_builtin; refine wpList_append_box (wr.drewN nq) rfl (.tmp 58) (.tmp 60) 28 rfl 3 (.int .i64 0) 8 Tryd.underlying28 Tryd.info3 rfl (by omega) w1.heap.size u6 (ints ((bestP m bids).take k)) rfl (HO6.out nq) (.int .i64 (sub : Int)) rfl rfl ?a1 ?a2 ?_))
            case a1 => rw [ints_length, List.length_take]; omega
            case a2 => exact (HBB.out nq).size
            intro v' w' hown hbel _
            have HOWN2 : Hid (Own 3 w1.heap.size w' v' (ints ((bestP m bids).take (k + 1)))) := by
              rw [HTAKE.out, HEQ.out, ints_append]; exact hown
            have HBEL2 := Lib.hid ((HBB.out nq).trans hbel)
            clear hown hbel HO6 HBB
            go_wp2
            go_roundw
            case rel => exact ⟨k + 1, by omega, by go_num, by rw [HNEXT.out, HEQ.out, HU2.out], HOWN2.out, HBEL2.out⟩
            case measure => simp [intOf]; omega
          · have hb2 : ((x + y) != z) = true := by rw [bne_iff_ne]; exact h2
            have HS := Lib.hid (HLESS.out (by rw [HH.out]; simp [h2]))
            clear h1 h2 HH HLESS
            go_wp2
            go_quiet (fail)
            go_wp2
            go_roundw
            case rel => exact ⟨sub + 1, HS.out, by go_num, below_drewN HB.out _⟩
            case measure => have := HS.out; simp [intOf]; omega
        · have hb1 : ((u1 : Int) != 0) = true := by rw [bne_iff_ne]; omega
          have HS := Lib.hid (HLESS.out (by rw [HH.out]; simp [h1]))
          clear h1 HH HLESS
          go_wp2
          go_quiet (fail)
          go_wp2
          go_roundw
          case rel => exact ⟨sub + 1, HS.out, by go_num, below_drewN HB.out _⟩
          case measure => have := HS.out; simp [intOf]; omega
    · obtain rfl : k = bids.length := by omega
      have HOWN : Hid (Own 3 w.heap.size wr u6 (ints (bestP m bids))) := by
        have := hown.base HB1.out.size
        rw [List.take_of_length_le (by rw [bestP_len]; exact Nat.le_refl _)] at this
        exact this
      have HALL := Lib.hid (Beh.all ⟨HB1.out, hbel⟩)
      clear hown hbel
      go_wp2
      go_ret
      exact ⟨_, rfl, HOWN.out, HALL.out⟩
end Go.Proofs.YthbfgmgpploneaaDoor
