/- The program's leastPrices where everyone is content at once; Prices at the bids of awake. -/
import Derived.Test.YtoenpecdhjadmaaDoorR15
import Derived.Test.YtoenpecdhjadmaaDoorR19
set_option linter.unusedVariables false
set_option linter.unusedSimpArgs false
set_option linter.unnecessarySimpa false
namespace Go.Proofs.YtoenpecdhjadmaaDoor
open Go.RowKit

def zerosN (m : Nat) : List Int := List.replicate m 0
/-- the cells of a market, as a value -/
def MarketV (N : Nat) (bids : List (List Int)) (pb : Option Addr) (cb : Nat) (l p : List Int) (u : Value) (W : World) : Prop :=
  ∃ lp lc pp pc, u = .agg #[.int .i64 (N : Nat), .slice pb bids.length cb, .slice lp l.length lc, .slice pp p.length pc] ∧ Sl W (.slice lp l.length lc) (ints l) ∧ Sl W (.slice pp p.length pc) (ints p)
theorem MarketV.below {N : Nat} {bids : List (List Int)} {pb : Option Addr} {cb : Nat} {l p : List Int} {u : Value} {W W' : World} (h : MarketV N bids pb cb l p u W) (hb : Below W.heap.size W W') : MarketV N bids pb cb l p u W' := by
  obtain ⟨lp, lc, pp, pc, h1, h2, h3⟩ := h
  exact ⟨lp, lc, pp, pc, h1, h2.below hb, h3.below hb⟩
/-- a market in a box -/
def MarketB (N : Nat) (bids : List (List Int)) (l p : List Int) (u : Value) (W : World) : Prop := ∃ g, u = .pointer (some ⟨g, 0, none⟩) ∧ Market W g N bids l p
theorem MarketB.below {N : Nat} {bids : List (List Int)} {l p : List Int} {u : Value} {W W' : World} (h : MarketB N bids l p u W) (hb : Below W.heap.size W W') : MarketB N bids l p u W' := by
  obtain ⟨g, h1, h2⟩ := h
  exact ⟨g, h1, h2.below hb⟩
theorem make_zeros (w1 : World) (m : Nat) (hm : m ≤ 6) : ∃ w2, (Instr.makeSlice 31 (.int .i64 (m : Nat)) (.int .i64 (m : Nat))).run Tryd.prog w1 = .ok (.slice (some ⟨w1.heap.size, 0, none⟩) m m) w2 ∧ Sl w2 (.slice (some ⟨w1.heap.size, 0, none⟩) m m) (ints (zerosN m)) ∧ Below w1.heap.size w1 w2 := by
  obtain ⟨i, hi, hz0, hz1, hz2⟩ := info_parts Tryd.info2
  obtain ⟨w2, hrun, hown, hgr⟩ := run_make_full (P := Tryd.prog) w1 w1.heap.size 31 2 i (.int .i64 0) 1 Tryd.underlying31 hi hz0 hz1 .i64 .i64 m (by rw [hz2]; omega) (by unfold maxLen; omega) (Nat.le_refl _)
  refine ⟨w2, hrun, ?_, (Below.refl w1.heap.size w1).grown hgr (Nat.le_refl _) (fun k hk => by cases hk)⟩
  rw [Nat.mul_one, madeCells_one _ rfl] at hown
  have hrow := Row.of_owns hown
  rw [ints_replicate] at hrow
  have := Sl.of_row (cap := m) (xs := ints (zerosN m)) (more := []) (by rw [List.append_nil]; exact hrow) (by rw [ints_length]; simp [zerosN]) (by unfold maxLen; omega)
  rw [ints_length] at this
  have e : (zerosN m).length = m := by simp [zerosN]
  rw [e] at this
  exact this
set_option maxRecDepth 100000 in
set_option maxHeartbeats 4000000 in
theorem least_content (v : Value) (m : Nat) (bids : List (List Int)) (w : World) (hl : Mat w v bids) (hm : m ≤ 6) (hn : bids.length ≤ 7) (hn1 : 1 ≤ bids.length) (ho : Offers m bids)
    (hlen : ∀ W, Calls Tryd.prog 74 #[.int .u64 ((2 ^ m - 1 : Nat) : Int)] W fun e w' => e = .returned (.int .i64 m) ∧ W = w') (hc : Content (2 ^ m - 1) bids (bestP m bids) (zerosN m)) :
    Calls Tryd.prog 53 #[.agg #[.int .i64 ((2 ^ m - 1 : Nat) : Int), v]] w fun e w' => ∃ v', e = .returned v' ∧ Sl w' v' (ints (zerosN m)) ∧ Below w.heap.size w w' := by
  obtain ⟨p, cap, rfl, hlc, hcm⟩ := hl.form_
  unfold maxLen at hcm
  have hM64 := pow_le64 hm
  have hM0 := pow_pos2 m
  have HL := Lib.hid hl
  have hr0 := row_new 73 w #[.int .i64 ((2 ^ m - 1 : Nat) : Int), .slice p bids.length cap]
  have hb0 := (Below.refl w.heap.size w).alloc (Nat.le_refl _) (.cells #[.int .i64 ((2 ^ m - 1 : Nat) : Int), .slice p bids.length cap] 73)
  have HFIRST : Hid (∀ W, Below w.heap.size w W → Calls Tryd.prog 47 #[.agg #[.int .i64 ((2 ^ m - 1 : Nat) : Int), .slice p bids.length cap]] W fun e w' => ∃ v', e = .returned v' ∧ Sl w' v' (ints (bestP m bids)) ∧ Below W.heap.size W w') := fun W hb => (first_go _ m bids W (hl.below hb) hm hn hn1 ho).mono fun e w' ⟨v', h1, h2, h3⟩ => ⟨v', h1, h2.sl, h3⟩
  have HRISE : Hid (∀ W g, Market W g (2 ^ m - 1) bids (bestP m bids) (zerosN m) → Calls Tryd.prog 75 #[.pointer (some ⟨g, 0, none⟩)] W fun e w' => e = .returned (.bool false) ∧ Below W.heap.size W w') := fun W g hM =>
    rise_content g (2 ^ m - 1) bids (bestP m bids) (zerosN m) W hM hn (bestP_len m bids) (fun i hi => by
      rw [bestP_get _ _ _ hi, Int.toNat_natCast]
      have := pick_lt ho hi
      exact ⟨by omega, by omega⟩) (fun i hi => by rw [offerB_len (ho.at_ hi)]; omega) (by omega) (by unfold zerosN; simp; omega) (fun i => by
        have : (zerosN m).getD i 0 = 0 := by unfold zerosN; rw [List.getD_eq_getElem?_getD, List.getElem?_replicate]; split <;> rfl
        rw [this]; omega) (offers_bd ho) hc
  have HLENB : Hid (∀ W, Calls Tryd.prog 74 #[.int .u64 ((2 ^ m - 1 : Nat) : Int)] W fun e w' => e = .returned (.int .i64 m) ∧ W = w') := hlen
  have hN64 : 2 ^ m - 1 < 64 := by omega
  obtain ⟨N, hN⟩ : ∃ N : Nat, 2 ^ m - 1 = N := ⟨_, rfl⟩
  rw [hN] at hr0 hb0 HFIRST HRISE HLENB hN64 ⊢
  have hconv : IntKind.u64.wrap (N : Int) = (N : Int) := by
    have e : (N : Int) % 2 ^ 64 = N := Int.emod_eq_of_lt (by omega) (by omega)
    simp only [IntKind.wrap, IntKind.bits, IntKind.signed, e]
    simp
  have HZL : Hid ((zerosN m).length = m) := by show _ = _; simp [zerosN]
  have HBL : Hid ((bestP m bids).length = bids.length) := bestP_len m bids
  obtain ⟨GL, hG⟩ : ∃ GL, bestP m bids = GL := ⟨_, rfl⟩
  rw [hG] at HFIRST HRISE HBL
  have HR0 := Lib.hid hr0
  have HB0 := Lib.hid hb0
  have HMM := Lib.hid hm
  obtain ⟨W0, hW0⟩ : ∃ W0, w.alloc (.cells #[.int .i64 N, .slice p bids.length cap] 73) = W0 := ⟨_, rfl⟩
  rw [hW0] at HR0 HB0
  clear hl ho hr0 hb0 hN hG hc hlen hM64 hM0
  go_enter Tryd.func53, Tryd.ntmps53
  go_wp2
  clear hW0
  refine wp_region_rel (by kernel_rfl) 23 rfl (by kernel_rfl) [.fix (.agg #[.int .i64 (N : Nat), .slice p bids.length cap]), .fix (.agg #[.int .i64 (N : Nat), .slice p bids.length cap]), .mem (fun u W => Sl W u (ints GL)), .fix (.pointer (some ⟨w.heap.size, 0, none⟩)), .fix (.int .i64 (N : Nat)), .fix (.int .u64 (N : Nat)), .fix (.int .i64 m), .mem (fun u W => Sl W u (ints (zerosN m))), .mem (MarketV N bids p cap GL (zerosN m)), .mem (MarketB N bids GL (zerosN m)), .mem (MarketB N bids GL (zerosN m))] rfl (stays_of (fun i M hk v w w' h hb => by rcases i with _ | _ | _ | _ | _ | _ | _ | _ | _ | _ | _ | i <;> simp at hk <;> subst hk <;> first | exact Sl.below h hb | exact MarketV.below h hb | exact MarketB.below h hb) (fun j b k T n => by rcases j with _ | _ | _ | _ | _ | _ | _ | _ | _ | _ | _ | j <;> simp)) ?hop ?hQ
  case hop =>
    intro W hW j o hj vs w1 hb hV
    have hbw : Below W0.heap.size W0 w1 := by rw [hW] at hb; exact ((Below.refl W0.heap.size W0).drew).trans hb
    have d0 : w1.cell? ⟨w.heap.size, 0, none⟩ = some (.int .i64 (N : Nat)) := (HR0.out.below hbw HR0.out.lt).cell 0
    have d1 : w1.cell? ⟨w.heap.size, 1, none⟩ = some (.slice p bids.length cap) := (HR0.out.below hbw HR0.out.lt).cell 1
    clear hW hb
    have hj' : j < 11 := (List.getElem?_eq_some_iff.1 hj).1
    rcases (by omega : j = 0 ∨ j = 1 ∨ j = 2 ∨ j = 3 ∨ j = 4 ∨ j = 5 ∨ j = 6 ∨ j = 7 ∨ j = 8 ∨ j = 9 ∨ j = 10) with rfl | rfl | rfl | rfl | rfl | rfl | rfl | rfl | rfl | rfl | rfl
    · cases hj
      clear hj'
      refine .inl ⟨rfl, ?_⟩
      (try simp [predsR, Region.binds, Vk] at hV)
      simp only [putAll]
      generalize hR : Res _ _ vs w1 = R
      go_simp
      subst hR
      exact ⟨rfl, Below.refl _ _⟩
    · cases hj
      clear hj'
      refine .inl ⟨rfl, ?_⟩
      (try simp [predsR, Region.binds, Vk] at hV)
      simp only [putAll]
      generalize hR : Res _ _ vs w1 = R
      go_simp
      subst hR
      exact ⟨rfl, Below.refl _ _⟩
    · cases hj
      clear hj'
      refine .inl ⟨rfl, ?_⟩
      (try simp [predsR, Region.binds, Vk] at hV)
      simp only [putAll]
      generalize hR : Res _ _ vs w1 = R
      go_simp
      subst hR
      refine (HFIRST.out w1 (HB0.out.trans (hbw.mono HB0.out.size))).mono ?_
      rintro e w2 ⟨v2, rfl, hs2, hb2⟩
      exact ⟨_, rfl, hs2, hb2⟩
    · cases hj
      clear hj'
      refine .inl ⟨rfl, ?_⟩
      (try simp [predsR, Region.binds, Vk] at hV)
      simp only [putAll]
      generalize hR : Res _ _ vs w1 = R
      go_simp
      subst hR
      exact ⟨rfl, Below.refl _ _⟩
    · cases hj
      clear hj'
      refine .inl ⟨rfl, ?_⟩
      (try simp [predsR, Region.binds, Vk] at hV)
      simp only [putAll]
      generalize hR : Res _ _ vs w1 = R
      go_simp
      subst hR
      exact ⟨rfl, Below.refl _ _⟩
    · cases hj
      clear hj'
      refine .inl ⟨rfl, ?_⟩
      (try simp [predsR, Region.binds, Vk] at hV)
      simp only [putAll]
      generalize hR : Res _ _ vs w1 = R
      go_simp
      subst hR
      exact ⟨rfl, Below.refl _ _⟩
    · cases hj
      clear hj'
      refine .inl ⟨rfl, ?_⟩
      (try simp [predsR, Region.binds, Vk] at hV)
      simp only [putAll]
      generalize hR : Res _ _ vs w1 = R
      go_simp
      subst hR
      refine (HLENB.out w1).mono ?_
      rintro e w2 ⟨rfl, rfl⟩
      exact ⟨_, rfl, rfl, Below.refl _ _⟩
    · cases hj
      clear hj'
      refine .inl ⟨rfl, ?_⟩
      (try simp [predsR, Region.binds, Vk] at hV)
      simp only [putAll]
      generalize hR : Res _ _ vs w1 = R
      go_simp
      subst hR
      obtain ⟨w2, hrun, hs, hb2⟩ := make_zeros w1 m HMM.out
      rw [hrun]
      exact ⟨hs, hb2⟩
    · cases hj
      clear hj'
      refine .inl ⟨rfl, ?_⟩
      generalize hG : relUpon _ _ _ = G
      have q0 : vs 0 = _ := hV 0 (by decide)
      have hS2 : Sl w1 (vs 2) (ints GL) := hV 2 (by decide)
      have hS7 : Sl w1 (vs 7) (ints (zerosN m)) := hV 7 (by decide)
      obtain ⟨lp, lc, q2, _, _⟩ := hS2.form
      obtain ⟨pp, pc, q7, _, _⟩ := hS7.form
      rw [q2] at hS2
      rw [q7] at hS7
      clear hV
      subst hG
      simp only [putAll]
      generalize hR : Res _ _ vs w1 = R
      go_simp
      subst hR
      exact ⟨⟨lp, lc, pp, pc, rfl, hS2, hS7⟩, Below.refl _ _⟩
    · cases hj
      clear hj'
      refine .inl ⟨rfl, ?_⟩
      generalize hG : relUpon _ _ _ = G
      obtain ⟨lp, lc, pp, pc, q8, hS2, hS7⟩ : MarketV N bids p cap GL (zerosN m) (vs 8) w1 := hV 8 (by decide)
      clear hV
      subst hG
      simp only [putAll]
      generalize hR : Res _ _ vs w1 = R
      go_simp
      subst hR
      have hbn := (Below.refl w1.heap.size w1).alloc (Nat.le_refl _) (.cells #[.int .i64 (N : Nat), .slice p bids.length cap, .slice lp GL.length lc, .slice pp (zerosN m).length pc] 84)
      exact ⟨⟨w1.heap.size, rfl, ⟨p, cap, _, _, row_new 84 w1 #[.int .i64 (N : Nat), .slice p bids.length cap, .slice lp GL.length lc, .slice pp (zerosN m).length pc], (HL.out.below (HB0.out.trans (hbw.mono HB0.out.size))).below hbn, hS2.below hbn, hS7.below hbn⟩⟩, hbn⟩
    · cases hj
      clear hj'
      refine .inl ⟨rfl, ?_⟩
      generalize hG : relUpon _ _ _ = G
      have hS : MarketB N bids GL (zerosN m) (vs 9) w1 := hV 9 (by decide)
      clear hV
      subst hG
      simp only [putAll]
      generalize hR : Res _ _ vs w1 = R
      go_simp
      subst hR
      exact ⟨hS, Below.refl _ _⟩
  case hQ =>
    intro W hW vs w1 hb hV hD
    have hbw : Below W0.heap.size W0 w1 := by rw [hW] at hb; exact ((Below.refl W0.heap.size W0).drew).trans hb
    have v0 : vs 0 = _ := hV 0 (by decide)
    have v1 : vs 1 = _ := hV 1 (by decide)
    have v3 : vs 3 = _ := hV 3 (by decide)
    have v4 : vs 4 = _ := hV 4 (by decide)
    have v5 : vs 5 = _ := hV 5 (by decide)
    have v6 : vs 6 = _ := hV 6 (by decide)
    obtain ⟨g, hg, hM⟩ : MarketB N bids GL (zerosN m) (vs 10) w1 := hV 10 (by decide)
    simp only [putAll, hg, v0, v1, v3, v4, v5, v6]
    obtain ⟨z2, hz2⟩ : ∃ z, vs 2 = z := ⟨_, rfl⟩
    obtain ⟨z7, hz7⟩ : ∃ z, vs 7 = z := ⟨_, rfl⟩
    obtain ⟨z8, hz8⟩ : ∃ z, vs 8 = z := ⟨_, rfl⟩
    obtain ⟨z9, hz9⟩ : ∃ z, vs 9 = z := ⟨_, rfl⟩
    rw [hz2, hz7, hz8, hz9]
    have HM := Lib.hid hM
    have HRI := Lib.hid (HRISE.out w1 g hM)
    have HB1 := Lib.hid (HB0.out.trans (hbw.mono HB0.out.size))
    clear hV hD v0 v1 v3 v4 v5 v6 hb hbw hW hz2 hz7 hz8 hz9 hg hM
    go_wp2
    refine wp_loop_once ?_
    go_wp2_with (first | (go_at_call 75; refine HRI.out.mono ?_; rintro e w2 ⟨rfl, hb2⟩; obtain ⟨pb, cb, ll, pp, hrr, _, _, hpp⟩ := HM.out.cells; have hr2 := hrr.below hb2 hrr.lt; have k3 := hr2.cell 3; simp only [List.getElem?_cons_zero, List.getElem?_cons_succ] at k3; have HP := Lib.hid (hpp.below hb2); have HB2 := Lib.hid (HB1.out.trans (hb2.mono HB1.out.size)); clear hb2 hrr hpp hr2))
    go_ret
    exact ⟨_, rfl, HP.out, HB2.out⟩
set_option maxHeartbeats 1000000 in
theorem len3 (w : World) : Calls Tryd.prog 74 #[.int .u64 3] w fun e w' => e = .returned (.int .i64 2) ∧ w = w' := by
  have HL := Lib.hid (len3_go w)
  go_enter Tryd.func74, Tryd.ntmps74
  go_wp2_with (first | (go_at_call 84; refine HL.out.mono ?_; rintro e w1 ⟨rfl, rfl⟩))
  go_ret
  exact ⟨rfl, rfl⟩
abbrev awBids : List (List Int) := [[0, 3, 1, 3], [0, 2, 2, 2]]
theorem aw_offers : Offers 2 awBids := by
  intro b hb
  rcases List.mem_cons.1 hb with rfl | hb
  · decide
  · rcases List.mem_cons.1 hb with rfl | hb
    · decide
    · cases hb
theorem aw_content : Content 3 awBids (bestP 2 awBids) (zerosN 2) := by
  have hb : bestP 2 awBids = [1, 2] := by decide +kernel
  rw [hb]
  intro i hi
  rcases i with _ | _ | i
  · decide +kernel
  · decide +kernel
  · exact absurd hi (by show ¬ (i + 2 < 2); omega)
theorem aw_single2 : isSingleP 2 awBids = true := by decide +kernel
theorem aw_ok : checkP 2 awBids = 0 := by decide +kernel
theorem aw_few : Few awBids := by
  refine ⟨by simp, fun i => ?_⟩
  rcases i with _ | _ | i
  all_goals
    refine ⟨by simp, fun j => ?_⟩
    rcases j with _ | _ | _ | _ | j <;> simp
set_option maxRecDepth 100000 in
set_option maxHeartbeats 2000000 in
theorem pricesAt_spec : SpecPricesAt := by
  intro v w hl
  have hn : awBids.length = 2 := rfl
  have HNW := Lib.hid (new_go v 2 awBids w hl (by unfold I64; omega) aw_few)
  have e1 : newR 2 awBids v = .agg #[.int .i64 3, v] := by unfold newR; rw [if_pos aw_ok]; rfl
  rw [e1, aw_ok] at HNW
  have HIS : Hid (∀ W, Below w.heap.size w W → Calls Tryd.prog 52 #[.agg #[.int .i64 3, v]] W fun e w' => e = .returned (.bool true) ∧ Below W.heap.size W w') := fun W hb => by
    rw [← aw_single2]
    exact isSingle_go 3 v 2 awBids W (hl.below hb) (by omega) (by rw [hn]; omega) (fun i hi => offerB_len (aw_offers.at_ hi))
  have HLP : Hid (∀ W, Below w.heap.size w W → Calls Tryd.prog 53 #[.agg #[.int .i64 3, v]] W fun e w' => ∃ v', e = .returned v' ∧ Sl w' v' (ints [0, 0]) ∧ Below W.heap.size W w') := fun W hb =>
    least_content v 2 awBids W (hl.below hb) (by omega) (by rw [hn]; omega) (by rw [hn]; omega) aw_offers (fun W => len3 W) aw_content
  obtain ⟨p, cap, rfl, _, _⟩ := hl.form_
  clear hl e1
  go_enter Tryd.func21, Tryd.ntmps21
  go_wp2_with (first
    | (go_at_call 46; refine HNW.out.mono ?_; rintro e w1 ⟨rfl, hb1⟩; have HB1 := Lib.hid (hb1.alloc hb1.size (.cells #[.int .i64 3, .slice p 2 cap] 73)); have HR1 := Lib.hid (row_new 73 w1 #[.int .i64 3, .slice p 2 cap]); clear hb1)
    | (go_at_call 52; refine (HIS.out _ HB1.out).mono ?_; rintro e w2 ⟨rfl, hb2⟩; have hr2 := HR1.out.below hb2 HR1.out.lt; have d0 := hr2.cell 0; have d1 := hr2.cell 1; simp only [List.getElem?_cons_zero, List.getElem?_cons_succ, List.getElem?_toArray] at d0 d1; have HB2 := Lib.hid (HB1.out.trans (hb2.mono HB1.out.size)); clear hb2 hr2)
    | (go_at_call 53; refine (HLP.out _ HB2.out).mono ?_; rintro e w3 ⟨v3, rfl, hs3, hb3⟩; have HS3 := Lib.hid hs3; have HB3 := Lib.hid (HB2.out.trans (hb3.mono HB2.out.size)); clear hs3 hb3))
  go_ret2
  exact ⟨_, rfl, HS3.out, HB3.out⟩
theorem awake_spec : Awake := ⟨check_spec, best_spec, pay_spec, single_spec, second_spec, pricesAt_spec⟩
end Go.Proofs.YtoenpecdhjadmaaDoor
