/- The program's isSingle. -/
import Derived.Test.YtoenpecdhjadmaaDoorR6
import Derived.BigQuiet
set_option linter.unusedVariables false
set_option linter.unusedSimpArgs false
set_option linter.unnecessarySimpa false
namespace Go.Proofs.YtoenpecdhjadmaaDoor
open Go.RowKit

set_option maxRecDepth 100000 in
set_option maxHeartbeats 2000000 in
theorem singleOffers_go (v : Value) (m : Nat) (b : List Int) (w : World) (hl : Sl w v (ints b)) (hm : m ≤ 6) (hlen : b.length = 2 ^ m) :
    Calls Tryd.prog 73 #[v] w fun e w' => ∃ v', e = .returned v' ∧ Own 2 w.heap.size w' v' (ints (itemsRow m b)) ∧ Below w.heap.size w w' := by
  obtain ⟨p, cap, rfl, hlc, hcm⟩ := hl.form
  have hM64 := pow_le64 hm
  have HL := Lib.hid hl
  have HLEN := Lib.hid hlen
  have HMONO : Hid (∀ k, k < m → 2 ^ k < b.length) := fun k hk => by rw [hlen]; exact Nat.pow_lt_pow_right (by omega) hk
  have hb64 : b.length ≤ 64 := by omega
  clear hl hlen hM64
  go_enter Tryd.func73, Tryd.ntmps73
  go_wp2
  go_loopw [3, 4] (fun o i wr => ∃ (k q : Nat), k ≤ m ∧ Hid (2 ^ k = q) ∧ i = .int .i64 q ∧ Own 2 w.heap.size wr o (ints ((itemsRow m b).take k)) ∧ Below w.heap.size w wr) (fun _ i _ => b.length - (intOf i).toNat)
  case atStart => exact ⟨0, 1, Nat.zero_le _, rfl, rfl, World.ownsRow_nil _ _ _ _, Below.refl _ _⟩
  case round =>
    obtain ⟨k, q, hk, hq, rfl, hown, hb⟩ := hrel
    have HQ := Lib.hid hq.out
    by_cases hlt : k < m
    · have hql : q < b.length := by rw [← hq.out]; exact HMONO.out k hlt
      have hqp : 0 < q := by rw [← hq.out]; exact pow_pos2 k
      obtain ⟨b1, o1, c1, hv, _, _, _, hcx⟩ := (HL.out.below hb).int_at q hql
      cases hv
      have HTAKE := Lib.hid (itemsRow_take m b k hlt)
      have hX : b.getD (2 ^ k) 0 = b.getD q 0 := by rw [hq.out]
      rw [hX] at HTAKE
      obtain ⟨x, hx⟩ : ∃ x, b.getD q 0 = x := ⟨_, rfl⟩
      rw [hx] at hcx HTAKE
      have HOWN := Lib.hid hown
      have HB := Lib.hid hb
      have hw2 : IntKind.i64.wrap ((q : Int) * 2) = (q : Int) * 2 := IntWalk.i64_in _ (by omega)
      have hqi : (q : Int) < (b.length : Int) := by omega
      clear hown hb hq hX hx
      go_wp2_with (first | (at_builtin; refine wpList_append_box wr rfl (.tmp 11) (.tmp 16) 31 rfl 2 (.int .i64 0) 8 Tryd.underlying31 Tryd.info2 rfl (by omega) w.heap.size u3 (ints ((itemsRow m b).take k)) rfl HOWN.out (.int .i64 x) rfl rfl ?a1 ?a2 ?_))
      case a1 => rw [ints_length, List.length_take]; omega
      case a2 => exact HB.out.size
      intro v' w' hown hbel hkeep
      have HOWN2 : Hid (Own 2 w.heap.size w' v' (ints ((itemsRow m b).take (k + 1)))) := by
        rw [HTAKE.out, ints_append]; exact hown
      have HB2 := Lib.hid (HB.out.trans hbel)
      clear hown hbel hkeep
      go_wp2
      go_roundw
      case rel => exact ⟨k + 1, q * 2, by omega, (by show _ = _; rw [Nat.pow_succ, HQ.out]), by go_num, HOWN2.out, HB2.out⟩
      case measure => simp [intOf]; omega
    · have hkm : k = m := by omega
      have hqe : q = b.length := by rw [← hq.out, HLEN.out, hkm]
      rw [hkm, List.take_of_length_le (by rw [itemsRow_len]; exact Nat.le_refl _)] at hown
      have HOWN := Lib.hid hown
      have HB := Lib.hid hb
      have hd : decide ((q : Int) < (b.length : Int)) = false := by rw [decide_eq_false_iff_not]; omega
      have hd2 : ¬ ((q : Int) < (b.length : Int)) := by omega
      clear hown hb hq hqe hkm
      go_wp2
      go_ret
      exact ⟨_, rfl, HOWN.out, HB.out⟩
theorem eq_no {a b : List Int} {k : Nat} (hk : k < a.length) (h : a.getD k 0 ≠ b.getD k 0) : decide (a = b) = false := by
  rw [decide_eq_false_iff_not]; rintro rfl; exact h rfl
theorem eq_yes {a b : List Int} (hl : a.length = b.length) (h : ∀ k, k < a.length → a.getD k 0 = b.getD k 0) : decide (a = b) = true := by
  rw [decide_eq_true_eq]
  apply List.ext_getElem hl
  intro i h1 h2
  have := h i h1
  rw [List.getD_eq_getElem?_getD, List.getD_eq_getElem?_getD, List.getElem?_eq_getElem h1, List.getElem?_eq_getElem h2] at this
  exact this
set_option maxRecDepth 100000 in
set_option maxHeartbeats 2000000 in
theorem equal_go (v v2 : Value) (a b : List Int) (w : World) (hl : Sl w v (ints a)) (hl2 : Sl w v2 (ints b)) (ha : a.length ≤ 1000) (hab : a.length = b.length) :
    Calls Tryd.prog 72 #[v, v2] w fun e w' => e = .returned (.bool (decide (a = b))) ∧ Below w.heap.size w w' := by
  obtain ⟨p, cap, rfl, hlc, hcm⟩ := hl.form
  obtain ⟨p2, cap2, rfl, hlc2, hcm2⟩ := hl2.form
  have HL := Lib.hid hl
  have HL2 := Lib.hid hl2
  have HYES := Lib.hid (@eq_yes a b hab)
  have HAB := Lib.hid hab
  obtain ⟨n, hn⟩ : ∃ n, a.length = n := ⟨_, rfl⟩
  have hn2 : b.length = n := by omega
  rw [hn] at HL hlc ha HYES
  rw [hn2] at HL2 hlc2
  have HN := Lib.hid hn
  have HN2 := Lib.hid hn2
  rw [hn, hn2]
  have hnn : ((n : Int) != (n : Int)) = false := by simp
  have hl0 : (0 : Int) ≤ (n : Int) := by omega
  clear hl hl2 hn hn2 hab
  go_enter Tryd.func72, Tryd.ntmps72
  go_wp2
  go_loopw [13] (fun i wr => ∃ k : Nat, k ≤ n ∧ i = .int .i64 k ∧ (∀ j, j < k → a.getD j 0 = b.getD j 0) ∧ Below w.heap.size w wr) (fun i _ => n - (intOf i).toNat)
  case atStart => exact ⟨0, Nat.zero_le _, rfl, fun j hj => by omega, Below.refl _ _⟩
  case round =>
    obtain ⟨k, hk, rfl, hall, hb⟩ := hrel
    have HALL := Lib.hid hall
    have HB := Lib.hid hb
    by_cases hlt : k < n
    · obtain ⟨b1, o1, c1, hv, _, _, _, hc1⟩ := (HL.out.below hb).int_at k (by rw [HN.out]; exact hlt)
      rw [HN.out] at hv
      cases hv
      obtain ⟨b2, o2, c2, hv, _, _, _, hc2⟩ := (HL2.out.below hb).int_at k (by rw [HN2.out]; exact hlt)
      rw [HN2.out] at hv
      cases hv
      have HNO := Lib.hid (fun h => @eq_no a b k (by rw [HN.out]; exact hlt) h)
      obtain ⟨x, hx⟩ : ∃ x, a.getD k 0 = x := ⟨_, rfl⟩
      obtain ⟨y, hy⟩ : ∃ y, b.getD k 0 = y := ⟨_, rfl⟩
      rw [hx] at hc1 HNO
      rw [hy] at hc2 HNO
      have HX := Lib.hid hx
      have HY := Lib.hid hy
      clear hall hb hx hy
      by_cases hxy : x = y
      · have hd : (x != y) = false := by rw [bne_eq_false_iff_eq]; exact hxy
        have HNEXT : Hid (∀ j, j < k + 1 → a.getD j 0 = b.getD j 0) := by
          intro j hj
          rcases Nat.lt_or_ge j k with h | h
          · exact HALL.out j h
          · have : j = k := by omega
            subst this; rw [HX.out, HY.out, hxy]
        clear hxy
        go_wp2
        go_quiet (fail)
        go_wp2
        go_roundw
        case rel => exact ⟨k + 1, by omega, by go_num, HNEXT.out, below_drewN HB.out _⟩
        case measure => simp [intOf]; omega
      · have hd : (x != y) = true := by rw [bne_iff_ne]; exact hxy
        have HF := Lib.hid (HNO.out hxy)
        clear hxy
        go_wp2
        go_quiet (fail)
        go_wp2
        go_ret
        exact ⟨by rw [HF.out]; rfl, below_drewN HB.out _⟩
    · obtain rfl : k = n := by omega
      have HT := Lib.hid (HYES.out HALL.out)
      clear hall hb
      go_wp2
      go_ret
      exact ⟨by rw [HT.out]; rfl, HB.out⟩
def isSingleRow (m : Nat) (b : List Int) : Bool := (List.range (2 ^ m)).all fun s => singleTo (itemsRow m b) s m == b.getD s 0
theorem isSingleRow_eq {m : Nat} {b : List Int} (hl : b.length = 2 ^ m) : decide (b = singleRow m (itemsRow m b)) = isSingleRow m b := by
  rw [Bool.eq_iff_iff, decide_eq_true_eq]
  unfold isSingleRow
  simp only [List.all_eq_true, List.mem_range, beq_iff_eq]
  constructor
  · intro h s hs
    have e : b.getD s 0 = (singleRow m (itemsRow m b)).getD s 0 := congrArg (fun x => x.getD s 0) h
    rw [e, singleRow_get _ _ _ hs]
  · intro h
    have := eq_yes (a := b) (b := singleRow m (itemsRow m b)) (by rw [singleRow_len, hl]) (fun k hk => by rw [singleRow_get _ _ _ (by omega), h k (by omega)])
    exact of_decide_eq_true this
theorem isSingleP_all (m : Nat) (bids : List (List Int)) : isSingleP m bids = bids.all (isSingleRow m) := rfl
theorem all_no {f : List Int → Bool} {bids : List (List Int)} {i : Nat} (hi : i < bids.length) (h : f (bids.getD i []) = false) : bids.all f = false := by
  cases hb : bids.all f with
  | false => rfl
  | true =>
    have := List.all_eq_true.1 hb (bids.getD i []) (by rw [List.getD_eq_getElem?_getD, List.getElem?_eq_getElem hi]; exact List.getElem_mem hi)
    rw [h] at this; cases this
theorem all_yes {f : List Int → Bool} {bids : List (List Int)} (h : ∀ i, i < bids.length → f (bids.getD i []) = true) : bids.all f = true := by
  refine List.all_eq_true.2 fun b hb => ?_
  obtain ⟨i, hi, rfl⟩ := List.mem_iff_getElem.1 hb
  have := h i hi
  rw [List.getD_eq_getElem?_getD, List.getElem?_eq_getElem hi] at this; exact this
set_option maxRecDepth 100000 in
set_option maxHeartbeats 2000000 in
theorem isSingle_go (N : Int) (v : Value) (m : Nat) (bids : List (List Int)) (w : World) (hl : Mat w v bids) (hm : m ≤ 6) (hn : bids.length ≤ 7) (hlen : ∀ i, i < bids.length → (bids.getD i []).length = 2 ^ m) :
    Calls Tryd.prog 52 #[.agg #[.int .i64 N, v]] w fun e w' => e = .returned (.bool (isSingleP m bids)) ∧ Below w.heap.size w w' := by
  obtain ⟨p, cap, rfl, hlc, hcm⟩ := hl.form_
  unfold maxLen at hcm
  have hM64 := pow_le64 hm
  have HL := Lib.hid hl
  have HLEN := Lib.hid hlen
  have HMM := Lib.hid hm
  have hr0 := row_new 73 w #[.int .i64 N, .slice p bids.length cap]
  have hb0 := (Below.refl w.heap.size w).alloc (Nat.le_refl _) (.cells #[.int .i64 N, .slice p bids.length cap] 73)
  have HB0 := Lib.hid hb0
  have hl0 : (0 : Int) ≤ (bids.length : Int) := by omega
  rw [isSingleP_all]
  have HNO := Lib.hid (fun i => @all_no (isSingleRow m) bids i)
  have HYES := Lib.hid (@all_yes (isSingleRow m) bids)
  obtain ⟨R, hR⟩ : ∃ R, bids.all (isSingleRow m) = R := ⟨_, rfl⟩
  rw [hR] at HNO HYES ⊢
  clear hl hlen hm hr0 hb0 hR
  go_enter Tryd.func52, Tryd.ntmps52
  go_wp2
  go_loopw [8] (fun i wr => ∃ k : Nat, k ≤ bids.length ∧ i = .int .i64 k ∧ (∀ j, j < k → isSingleRow m (bids.getD j []) = true) ∧ Below w.heap.size w wr) (fun i _ => bids.length - (intOf i).toNat)
  case atStart => exact ⟨0, Nat.zero_le _, rfl, fun j hj => by omega, HB0.out⟩
  case round =>
    clear HB0
    obtain ⟨k, hk, rfl, hall, hb⟩ := hrel
    have HALL := Lib.hid hall
    have HB := Lib.hid hb
    by_cases hlt : k < bids.length
    · obtain ⟨b1, o1, c1, u, hv, _, _, _, hcu, hsu⟩ := (HL.out.below hb).row_at k hlt
      cases hv
      obtain ⟨up, uc, rfl, hulc, hucm⟩ := hsu.form
      have hrl := HLEN.out k hlt
      have HNk := Lib.hid (HNO.out k hlt)
      have HSU := Lib.hid hsu
      have HEQ := Lib.hid (@isSingleRow_eq m (bids.getD k []) hrl)
      obtain ⟨b, hbk⟩ : ∃ b, bids.getD k [] = b := ⟨_, rfl⟩
      rw [hbk] at hcu hulc hrl HNk HSU HEQ
      have HBK := Lib.hid hbk
      have HSO := Lib.hid (singleOffers_go _ m b wr HSU.out HMM.out hrl)
      have HSG : Hid (∀ W u, Sl W u (ints (itemsRow m b)) → Calls Tryd.prog 63 #[u] W fun e w' => ∃ v', e = .returned v' ∧ Own 2 W.heap.size w' v' (ints (singleRow m (itemsRow m b))) ∧ Below W.heap.size W w') := fun W u hu => by
        have := single_go u (itemsRow m b) W hu (by rw [itemsRow_len]; exact HMM.out)
        rw [itemsRow_len] at this; exact this
      have HEG : Hid (∀ W u, Sl W (.slice up b.length uc) (ints b) → Sl W u (ints (singleRow m (itemsRow m b))) → Calls Tryd.prog 72 #[.slice up b.length uc, u] W fun e w' => e = .returned (.bool (isSingleRow m b)) ∧ Below W.heap.size W w') := fun W u h1 h2 => by
        rw [← HEQ.out]; exact equal_go _ _ _ _ W h1 h2 (by omega) (by rw [singleRow_len, hrl])
      obtain ⟨n, hn'⟩ : ∃ n, b.length = n := ⟨_, rfl⟩
      rw [hn'] at hcu hulc HSU HSO HEG
      clear hall hb hsu hbk hrl hn'
      cases hs : isSingleRow m b with
      | true =>
        have HNEXT : Hid (∀ j, j < k + 1 → isSingleRow m (bids.getD j []) = true) := by
          intro j hj
          rcases Nat.lt_or_ge j k with h | h
          · exact HALL.out j h
          · have : j = k := by omega
            subst this; rw [HBK.out]; exact hs
        rw [hs] at HEG
        clear hs HNk
        go_wp2_with (first
          | (go_at_call 73; refine HSO.out.mono ?_; rintro e w1 ⟨v1, rfl, hown1, hb1⟩; have HS1 := Lib.hid hown1.sl; have HU1 := Lib.hid (HSU.out.below hb1); have HB1 := Lib.hid (HB.out.trans (hb1.mono HB.out.size)); clear hown1 hb1)
          | (go_at_call 63; refine (HSG.out _ _ HS1.out).mono ?_; rintro e w2 ⟨v2, rfl, hown2, hb2⟩; have HS2 := Lib.hid hown2.sl; have HU2 := Lib.hid (HU1.out.below hb2); have HB2 := Lib.hid (HB1.out.trans (hb2.mono HB1.out.size)); clear hown2 hb2)
          | (go_at_call 72; refine (HEG.out _ _ HU2.out HS2.out).mono ?_; rintro e w3 ⟨rfl, hb3⟩; have HB3 := Lib.hid (HB2.out.trans (hb3.mono HB2.out.size)); clear hb3))
        go_roundw
        case rel => exact ⟨k + 1, by omega, by go_num, HNEXT.out, HB3.out⟩
        case measure => simp [intOf]; omega
      | false =>
        have HF := Lib.hid (HNk.out hs)
        rw [hs] at HEG
        clear hs HNk
        go_wp2_with (first
          | (go_at_call 73; refine HSO.out.mono ?_; rintro e w1 ⟨v1, rfl, hown1, hb1⟩; have HS1 := Lib.hid hown1.sl; have HU1 := Lib.hid (HSU.out.below hb1); have HB1 := Lib.hid (HB.out.trans (hb1.mono HB.out.size)); clear hown1 hb1)
          | (go_at_call 63; refine (HSG.out _ _ HS1.out).mono ?_; rintro e w2 ⟨v2, rfl, hown2, hb2⟩; have HS2 := Lib.hid hown2.sl; have HU2 := Lib.hid (HU1.out.below hb2); have HB2 := Lib.hid (HB1.out.trans (hb2.mono HB1.out.size)); clear hown2 hb2)
          | (go_at_call 72; refine (HEG.out _ _ HU2.out HS2.out).mono ?_; rintro e w3 ⟨rfl, hb3⟩; have HB3 := Lib.hid (HB2.out.trans (hb3.mono HB2.out.size)); clear hb3))
        go_ret
        exact ⟨by rw [HF.out]; rfl, HB3.out⟩
    · obtain rfl : k = bids.length := by omega
      have HT := Lib.hid (HYES.out HALL.out)
      clear hall hb
      go_wp2
      go_ret
      exact ⟨by rw [HT.out]; rfl, HB.out⟩
end Go.Proofs.YtoenpecdhjadmaaDoor
