/- The program's Best. -/
import Derived.Test.YtoenpecdhjadmaaDoorR10
set_option linter.unusedVariables false
set_option linter.unusedSimpArgs false
set_option linter.unnecessarySimpa false
namespace Go.Proofs.YtoenpecdhjadmaaDoor
open Go.RowKit

/-- the worth of the first best allocation is the best worth -/
theorem best_sum {m : Nat} {bids : List (List Int)} (h : Offers m bids) (k : Nat) (hk : k ≤ bids.length) :
    addTo (offP bids (bestP m bids)) k + (tk m bids (2 ^ bids.length - 1) k).getD (leftAt m bids k) 0 = worthP m bids (2 ^ bids.length - 1) := by
  induction k with
  | zero => show 0 + _ = _; rw [Int.zero_add]; rfl
  | succ k ih =>
    have hi := ih (by omega)
    have hsp := (pick_spec h (k := k) (by omega)).1
    unfold hitK hits at hsp
    simp only [Bool.and_eq_true, beq_iff_eq] at hsp
    have e1 : addTo (offP bids (bestP m bids)) (k + 1) = addTo (offP bids (bestP m bids)) k + (offP bids (bestP m bids)).getD k 0 := rfl
    rw [e1, offP_get _ _ _ (by rw [bestP_len]; omega), leftAt_succ]
    unfold offAt
    rw [bestP_get _ _ _ (by omega), Int.toNat_natCast]
    have := hsp.2
    omega
theorem best_worth {m : Nat} {bids : List (List Int)} (h : Offers m bids) : addTo (offP bids (bestP m bids)) (offP bids (bestP m bids)).length = worthP m bids (2 ^ bids.length - 1) := by
  have := best_sum h bids.length (Nat.le_refl _)
  have e : (offP bids (bestP m bids)).length = bids.length := by rw [offP_len, bestP_len]
  rw [e]
  have e2 : (tk m bids (2 ^ bids.length - 1) bids.length).getD (leftAt m bids bids.length) 0 = 0 := by
    rw [tk_end, List.getD_eq_getElem?_getD, List.getElem?_replicate]; split <;> rfl
  rw [e2] at this
  omega
theorem best_deals {m : Nat} {bids : List (List Int)} (h : Offers m bids) : Deals bids (bestP m bids) := by
  refine ⟨by rw [bestP_len]; exact Nat.le_refl _, fun i hi => ?_⟩
  rw [bestP_len] at hi
  rw [bestP_get _ _ _ hi, Int.toNat_natCast, offerB_len (h.at_ hi)]
  exact ⟨by omega, pick_lt h hi⟩
theorem offAt_bd {m : Nat} {bids : List (List Int)} (h : Offers m bids) (l : List Int) (i : Nat) : 0 ≤ offAt bids l i ∧ offAt bids l i ≤ 1000000 := offers_bd h i _
theorem offP_bd {m : Nat} {bids : List (List Int)} (h : Offers m bids) (l : List Int) (i : Nat) : 0 ≤ (offP bids l).getD i 0 ∧ (offP bids l).getD i 0 ≤ 1000000 := by
  by_cases hi : i < l.length
  · rw [offP_get _ _ _ hi]; exact offAt_bd h l i
  · rw [List.getD_eq_getElem?_getD, List.getElem?_eq_none (by rw [offP_len]; omega)]; simp
set_option maxRecDepth 100000 in
set_option maxHeartbeats 2000000 in
theorem best_spec : SpecBest := by
  intro v m bids w hl hm hf
  have hn7 := hf.1
  have HNW := Lib.hid (new_go v m bids w hl hm hf)
  by_cases hc : checkP m bids = 0
  · obtain ⟨h1, h6, hn1, hn6, ho⟩ := checkP_zero hc
    obtain ⟨K, rfl⟩ : ∃ K : Nat, m = (K : Int) := ⟨m.toNat, by omega⟩
    rw [Int.toNat_natCast] at ho
    have hK6 : K ≤ 6 := by omega
    have HB1 : Hid ((bestR (K : Int) bids).1 = worthP K bids (2 ^ bids.length - 1)) := by show _ = _; unfold bestR; rw [if_pos hc, Int.toNat_natCast]
    have HB2 : Hid ((bestR (K : Int) bids).2 = bestP K bids) := by show _ = _; unfold bestR; rw [if_pos hc, Int.toNat_natCast]
    have e1 : newR (K : Int) bids v = .agg #[.int .i64 ((2 ^ K - 1 : Nat) : Int), v] := by unfold newR; rw [if_pos hc, Int.toNat_natCast]
    rw [e1, hc] at HNW
    have HFIRST : Hid (∀ W, Below w.heap.size w W → Calls Tryd.prog 47 #[.agg #[.int .i64 ((2 ^ K - 1 : Nat) : Int), v]] W fun e w' => ∃ v', e = .returned v' ∧ Own 3 W.heap.size w' v' (ints (bestP K bids)) ∧ Below W.heap.size W w') := fun W hb => first_go v K bids W (hl.below hb) hK6 hn7 hn1 ho
    have HOFF : Hid (∀ W lv, Below w.heap.size w W → Sl W lv (ints (bestP K bids)) → Calls Tryd.prog 49 #[.agg #[.int .i64 ((2 ^ K - 1 : Nat) : Int), v], lv] W fun e w' => ∃ v', e = .returned v' ∧ Own 2 W.heap.size w' v' (ints (offP bids (bestP K bids))) ∧ Below W.heap.size W w') := fun W lv hb hs => offered_go _ v lv bids _ W (hl.below hb) hs hn7 (best_deals ho)
    have HSUM : Hid (∀ W lv, Sl W lv (ints (offP bids (bestP K bids))) → Calls Tryd.prog 48 #[lv] W fun e w' => e = .returned (.int .i64 (worthP K bids (2 ^ bids.length - 1))) ∧ W = w') := fun W lv hs => by
      rw [← best_worth ho]
      exact sum_go lv _ W hs (by rw [offP_len, bestP_len]; omega) (fun i => by have := offP_bd ho (bestP K bids) i; omega)
    obtain ⟨p, cap, rfl, hlc, hcm⟩ := hl.form_
    rw [hc]
    obtain ⟨N, hN⟩ : ∃ N : Nat, 2 ^ K - 1 = N := ⟨_, rfl⟩
    rw [hN] at HNW HFIRST HOFF
    clear hl hm hf hc ho h1 h6 e1 hN
    go_enter Tryd.func17, Tryd.ntmps17
    go_wp2_with (first
      | (go_at_call 46; refine HNW.out.mono ?_; rintro e w1 ⟨rfl, hb1⟩; have HB1' := Lib.hid (hb1.alloc hb1.size (.cells #[.int .i64 (N : Int), .slice p bids.length cap] 73)); have HR1 := Lib.hid (row_new 73 w1 #[.int .i64 (N : Int), .slice p bids.length cap]); clear hb1)
      | (go_at_call 47; refine (HFIRST.out _ HB1'.out).mono ?_; rintro e w2 ⟨v2, rfl, hown2, hb2⟩; have HS2 := Lib.hid hown2.sl; have HB2' := Lib.hid (HB1'.out.trans (hb2.mono HB1'.out.size)); have hr2 := HR1.out.below hb2 HR1.out.lt; have d0 := hr2.cell 0; have d1 := hr2.cell 1; simp only [List.getElem?_cons_zero, List.getElem?_cons_succ] at d0 d1; clear hown2 hb2 hr2)
      | (go_at_call 49; refine (HOFF.out _ _ HB2'.out HS2.out).mono ?_; rintro e w3 ⟨v3, rfl, hown3, hb3⟩; have HS3 := Lib.hid hown3.sl; have HS2b := Lib.hid (HS2.out.below hb3); have HB3 := Lib.hid (HB2'.out.trans (hb3.mono HB2'.out.size)); clear hown3 hb3)
      | (go_at_call 48; refine (HSUM.out _ _ HS3.out).mono ?_; rintro e w4 ⟨rfl, rfl⟩))
    go_ret3
    exact ⟨_, by rw [HB1.out]; rfl, by rw [HB2.out]; exact HS2b.out, HB3.out⟩
  · have HNO := Lib.hid (bestR_no hc)
    have e1 : newR m bids v = .agg #[.int .i64 0, .slice none 0 0] := by unfold newR; rw [if_neg hc]
    rw [e1] at HNW
    obtain ⟨c, hcc⟩ : ∃ c, checkP m bids = c := ⟨_, rfl⟩
    rw [hcc] at HNW hc ⊢
    have hne : (c != 0) = true := by rw [bne_iff_ne]; exact hc
    clear hl hm hf e1 hcc hc
    go_enter Tryd.func17, Tryd.ntmps17
    go_wp2_with (first
      | (go_at_call 46; refine HNW.out.mono ?_; rintro e w1 ⟨rfl, hb1⟩; have HB1 := Lib.hid hb1; clear hb1))
    go_ret3
    exact ⟨_, by rw [HNO.out]; rfl, by rw [HNO.out]; exact Sl.nil _, HB1.out.alloc HB1.out.size _⟩
end Go.Proofs.YtoenpecdhjadmaaDoor
