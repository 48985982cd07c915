import Derived.Test.YthbfgmgpploneaaDoorA9
set_option linter.unusedVariables false
set_option linter.unusedSimpArgs false
set_option linter.unnecessarySimpa false
namespace Go.Proofs.YthbfgmgpploneaaDoor
open Go.RowKit

theorem Sl.one {w : World} {v : Value} {xs : List Value} (h : Sl w v xs) : v.oneCell' = true := by
  obtain ⟨p, cap, rfl, _⟩ := h; rfl
theorem Mat.cells {w : World} {v : Value} {rows : List (List Int)} (h : Mat w v rows) : ∃ vs, vs.length = rows.length ∧ Sl w v vs ∧ (∀ i u, vs[i]? = some u → Sl w u (ints (rows.getD i []))) ∧ ∀ u ∈ vs, u.oneCell' = true := by
  obtain ⟨vs, hl, hs, hr⟩ := h
  refine ⟨vs, hl, hs, hr, fun u hu => ?_⟩
  obtain ⟨i, hi, rfl⟩ := List.mem_iff_getElem.1 hu
  exact (hr i _ (List.getElem?_eq_getElem hi)).one
theorem getD_set_same {α : Type} (l : List α) (i : Nat) (x d : α) (h : i < l.length) : (l.set i x).getD i d = x := by simp [List.getD_eq_getElem?_getD, h]
theorem getD_set_other {α : Type} (l : List α) (i j : Nat) (x d : α) (h : i ≠ j) : (l.set i x).getD j d = l.getD j d := by simp [List.getD_eq_getElem?_getD, h]
set_option maxHeartbeats 1000000 in
theorem with_any (v v' : Value) (bids : List (List Int)) (offer : List Int) (who : Nat) (w : World) (hl : Mat w v bids) (hof : Sl w v' (ints offer)) (hn : bids.length ≤ 7) (hwho : who < bids.length) :
    Calls Tryd.prog 61 #[v, .int .i64 who, v'] w fun e w' => ∃ v2, e = .returned v2 ∧ Mat w' v2 (bids.set who offer) ∧ Below w.heap.size w w' := by
  obtain ⟨vs, hvl, hsl, hrows, hone⟩ := hl.cells
  obtain ⟨p, cap, rfl, hlc, hcm, _⟩ := id hsl
  obtain ⟨p2, cap2, rfl, hlc2, hcm2⟩ := hof.form
  have HSL := Lib.hid hsl
  have HROWS := Lib.hid hrows
  have HONE := Lib.hid hone
  have HOF := Lib.hid hof
  have HVL := Lib.hid hvl
  have hv7 : vs.length ≤ 7 := by omega
  have hwv : who < vs.length := by omega
  clear hl hsl hrows hone hof hvl
  go_enter Tryd.func61, Tryd.ntmps61
  go_wp2_with (first | (at_builtin; refine wpList_append_sl _ rfl (.tmp 8) (.tmp 9) 22 rfl 31 (.slice none 0 0) 24 Tryd.underlying22 Tryd.info31 rfl w.heap.size (.slice none 0 0) [] rfl (World.ownsRow_nil _ _ _ _) (.slice p vs.length cap) vs rfl HSL.out.toA HONE.out ?c1 ?c2 (Nat.le_refl _) ?_))
  case c1 => simp [maxLen]; omega
  case c2 => simp; omega
  intro v2 w1 hown hg
  replace hown : Own 31 w.heap.size w1 v2 vs := hown
  have HB1 : Hid (Below w.heap.size w w1) := (Below.refl _ _).grown hg (Nat.le_refl _) (fun k hk => by cases hk)
  rcases hown.form_ with ⟨_, h0⟩ | ⟨g, c, more, rfl, hgb, hlc2, hcm2, hcc, hrow⟩
  · rw [h0] at hwv; simp at hwv
  have hcell := hrow.cell who
  rw [List.getElem?_append_left hwv, List.getElem?_eq_getElem hwv] at hcell
  have hfr := hrow.free who
  have hst := hrow.store who (.slice p2 offer.length cap2)
  rw [List.set_append_left _ _ hwv] at hst
  have HST := Lib.hid hst
  clear hown hg hrow hst
  go_wp2
  go_ret
  have hb := HB1.out.setCell (p := ⟨g, who, none⟩) hgb (.slice p2 offer.length cap2)
  refine ⟨_, rfl, ⟨vs.set who (.slice p2 offer.length cap2), by simpa using HVL.out, ?_, fun i u hu => ?_⟩, hb⟩
  · have := Sl.of_row (cap := c) HST.out (by simpa using hlc2) hcm2
    rw [List.length_set] at this; exact this
  · by_cases hi : who = i
    · subst hi
      rw [List.getElem?_set_self hwv] at hu
      cases hu
      rw [getD_set_same _ _ _ _ hwho]
      exact HOF.out.below hb
    · rw [List.getElem?_set_ne hi] at hu
      rw [getD_set_other _ _ _ _ _ hi]
      exact (HROWS.out i u hu).below hb
theorem Offers.set_ {m : Nat} {bids : List (List Int)} (h : Offers m bids) {offer : List Int} (ho : offerB m offer = true) (who : Nat) : Offers m (bids.set who offer) := by
  intro b hb
  rcases List.mem_or_eq_of_mem_set hb with h1 | rfl
  · exact h b h1
  · exact ho
theorem gain_bd {m : Nat} {bids : List (List Int)} (h : Offers m bids) (hn : bids.length ≤ 7) (k : Nat) : -8000000 ≤ payOf m bids k ∧ payOf m bids k ≤ 8000000 := by
  have h1 := worthP_bd h (sans (2 ^ bids.length - 1) (2 ^ k))
  have h2 := othersTo_bd h (bestP m bids) k bids.length
  unfold payOf
  omega
set_option maxRecDepth 100000 in
set_option maxHeartbeats 4000000 in
theorem gain_any (v v' : Value) (m : Nat) (bids : List (List Int)) (offer : List Int) (who : Nat) (w : World) (hl : Mat w v bids) (hof : Sl w v' (ints offer)) (hm : m ≤ 6) (hn : bids.length ≤ 7) (hwho : who < bids.length) (ho : Offers m bids) (hoo : offerB m offer = true) :
    Calls Tryd.prog 38 #[.int .i64 m, v, .int .i64 who, v'] w fun e w' => e = .returned (.int .i64 (gainP m bids who offer)) ∧ Below w.heap.size w w' := by
  have hM64 := pow_le64 hm
  have ho2 := ho.set_ hoo who
  have hlen2 : (bids.set who offer).length = bids.length := by simp
  have hpl := pick_lt ho2 (k := who) (by rw [hlen2]; exact hwho)
  have hxb := offers_bd ho who (pick m (bids.set who offer) who)
  have hyb := gain_bd ho2 (by rw [hlen2]; exact hn) who
  have HG : Hid (gainP m bids who offer = (bids.getD who []).getD (pick m (bids.set who offer) who) 0 - payOf m (bids.set who offer) who) := by
    show gainP _ _ _ _ = _
    unfold gainP
    rw [bestP_get _ _ _ (by rw [hlen2]; exact hwho), payP_get _ _ _ (by rw [hlen2]; exact hwho), Int.toNat_natCast]
  obtain ⟨b1, o1, c1, b2, o2, c2, rfl, _, _, hlc1, hlc2⟩ := hl.at2 rfl hwho (M := 2 ^ m) (s := pick m (bids.set who offer) who) (offerB_len (ho.at_ hwho)) hpl rfl
  have HW := Lib.hid (with_any _ v' bids offer who w hl hof hn hwho)
  have HBEST : Hid (∀ W v2, Mat W v2 (bids.set who offer) → Calls Tryd.prog 30 #[.int .i64 m, v2] W fun e w' => ∃ b o c, e = .returned (.slice (some ⟨b, o, none⟩) bids.length c) ∧ w'.cell? ⟨b, o + who, none⟩ = some (.int .i64 (pick m (bids.set who offer) who)) ∧ b < w'.heap.size ∧ Below W.heap.size W w') := fun W v2 hm2 =>
    (best_any v2 m _ W hm2 hm (by rw [hlen2]; exact hn) ho2).mono fun e w' ⟨v3, he, hown, hb⟩ => by
      obtain ⟨b, o, c, rfl, _, _, hbl, hc⟩ := hown.sl.int_at who (by rw [bestP_len, hlen2]; exact hwho)
      rw [bestP_get _ _ _ (by rw [hlen2]; exact hwho)] at hc
      rw [bestP_len, hlen2] at he
      exact ⟨b, o, c, he, hc, hbl, hb⟩
  have HPAY : Hid (∀ W v2, Mat W v2 (bids.set who offer) → Calls Tryd.prog 32 #[.int .i64 m, v2] W fun e w' => ∃ b o c, e = .returned (.slice (some ⟨b, o, none⟩) bids.length c) ∧ w'.cell? ⟨b, o + who, none⟩ = some (.int .i64 (payOf m (bids.set who offer) who)) ∧ b < w'.heap.size ∧ Below W.heap.size W w') := fun W v2 hm2 =>
    (pay_any v2 m _ W hm2 hm (by rw [hlen2]; exact hn) ho2).mono fun e w' ⟨v3, he, hown, hb⟩ => by
      obtain ⟨b, o, c, rfl, _, _, hbl, hc⟩ := hown.sl.int_at who (by rw [payP_len, hlen2]; exact hwho)
      rw [payP_get _ _ _ (by rw [hlen2]; exact hwho)] at hc
      rw [payP_len, hlen2] at he
      exact ⟨b, o, c, he, hc, hbl, hb⟩
  have HCB : Hid (∃ b3 o3 c3, ∀ W, Below w.heap.size w W → W.cell? ⟨b1, o1 + who, none⟩ = some (.slice (some ⟨b3, o3, none⟩) (2 ^ m) c3) ∧ W.cell? ⟨b3, o3 + pick m (bids.set who offer) who, none⟩ = some (.int .i64 ((bids.getD who []).getD (pick m (bids.set who offer) who) 0))) := by
    obtain ⟨b4, o4, c4, b5, o5, c5, hv, h1, h2, _, _⟩ := hl.at2 rfl hwho (M := 2 ^ m) (s := pick m (bids.set who offer) who) (offerB_len (ho.at_ hwho)) hpl rfl
    cases hv
    exact ⟨b5, o5, c5, fun W hb => ⟨(hb.cell (World.block_lt_of_cell? _ _ h1)).trans h1, (hb.cell (World.block_lt_of_cell? _ _ h2)).trans h2⟩⟩
  obtain ⟨M, hMM⟩ : ∃ M, 2 ^ m = M := ⟨_, rfl⟩
  obtain ⟨q, hq⟩ : ∃ q, pick m (bids.set who offer) who = q := ⟨_, rfl⟩
  rw [hMM] at hM64 hpl HCB
  rw [hq] at hpl hxb HG HBEST HCB
  obtain ⟨x, hx⟩ : ∃ x, (bids.getD who []).getD q 0 = x := ⟨_, rfl⟩
  obtain ⟨y, hy⟩ : ∃ y, payOf m (bids.set who offer) who = y := ⟨_, rfl⟩
  rw [hx] at hxb HG HCB
  rw [hy] at hyb HG HPAY
  have hsub : IntKind.i64.wrap (x - y) = x - y := IntWalk.i64_in _ (by omega)
  clear hl hof ho hoo ho2 hlen2 hMM hq hx hy
  go_enter Tryd.func38, Tryd.ntmps38
  go_wp2_with fail
  refine HW.out.mono ?_
  rintro e wA ⟨v2, rfl, hmat, hbA⟩
  have HMAT := Lib.hid hmat
  have HBA := Lib.hid hbA
  obtain ⟨b3, o3, c3, hcbx⟩ := HCB.out
  obtain ⟨hcb, hcx⟩ := hcbx wA hbA
  have HCX := Lib.hid hcbx
  clear hcbx
  clear hmat hbA HW
  go_wp2
  go_region_with (first
    | (go_at_call 30; refine (HBEST.out _ _ (HMAT.out.below (Below.refl wA.heap.size wA).drew)).mono ?_; rintro e w1 ⟨bB, oB, cB, rfl, hB1, hB2, hB3⟩; have HBB := Lib.hid ((Below.refl wA.heap.size wA).drew.trans hB3); have HBX := Lib.hid hB2; obtain ⟨hcb4, hcx4⟩ := HCX.out w1 (HBA.out.trans (HBB.out.mono HBA.out.size)); clear hB2 hB3)
    | (go_at_call 32; refine (HPAY.out _ _ (HMAT.out.below HBB.out)).mono ?_; rintro e w2 ⟨bP, oP, cP, rfl, hP1, hP2, hP3⟩; have HBP := Lib.hid (HBB.out.trans (hP3.mono HBB.out.size)); obtain ⟨hcb5, hcx5⟩ := HCX.out w2 (HBA.out.trans (HBP.out.mono HBA.out.size)); have hB4 := (hP3.cell (p := ⟨bB, oB + who, none⟩) HBX.out).trans hB1; clear hP2 hP3))
  all_goals
    go_wp2
    go_ret
    exact ⟨by rw [HG.out]; rfl, HBA.out.trans (HBP.out.mono HBA.out.size)⟩
end Go.Proofs.YthbfgmgpploneaaDoor
