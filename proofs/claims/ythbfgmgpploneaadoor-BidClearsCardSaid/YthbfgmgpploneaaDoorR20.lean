/- The program's isSingle. -/
/- The program's rise, where everyone is content; math/bits.Len. -/
/- The program's leastPrices where everyone is content at once; Prices at the bids of awake. -/
import Derived.Test.YthbfgmgpploneaaDoorR6
import Derived.BigQuiet
import Derived.Test.YthbfgmgpploneaaDoorR17
import Derived.Test.YthbfgmgpploneaaDoorR15
set_option linter.unusedVariables false
set_option linter.unusedSimpArgs false
set_option linter.unnecessarySimpa false
namespace Go.Proofs.YthbfgmgpploneaaDoor
open Go.RowKit

set_option maxRecDepth 100000 in
set_option maxHeartbeats 2000000 in
theorem singleOffers_go (v : Value) (m : Nat) (b : List Int) (w : World) (hl : Sl w v (ints b)) (hm : m ≤ 6) (hlen : b.length = 2 ^ m) :
    Calls Tryd.prog 73 #[v] w fun e w' => ∃ v', e = .returned v' ∧ Own 2 w.heap.size w' v' (ints (itemsRow m b)) ∧ Below w.heap.size w w' := by
  obtain ⟨p, cap, rfl, hlc, hcm⟩ := hl.form
  have hM64 := pow_le64 hm
  have HL := Lib.hid hl
  have HLEN := Lib.hid hlen
  have HMONO : Hid (∀ k, k < m → 2 ^ k < b.length) := fun k hk => by rw [hlen]; exact Nat.pow_lt_pow_right (by omega) hk
  have hb64 : b.length ≤ 64 := by omega
  clear hl hlen hM64
  go_enter Tryd.func73, Tryd.ntmps73
  go_wp2
  go_loopw [3, 4] (fun o i wr => ∃ (k q : Nat), k ≤ m ∧ Hid (2 ^ k = q) ∧ i = .int .i64 q ∧ Own 2 w.heap.size wr o (ints ((itemsRow m b).take k)) ∧ Below w.heap.size w wr) (fun _ i _ => b.length - (intOf i).toNat)
  case atStart => exact ⟨0, 1, Nat.zero_le _, rfl, rfl, World.ownsRow_nil _ _ _ _, Below.refl _ _⟩
  case round =>
    obtain ⟨k, q, hk, hq, rfl, hown, hb⟩ := hrel
    have HQ := Lib.hid hq.out
    by_cases hlt : k < m
    · have hql : q < b.length := by rw [← hq.out]; exact HMONO.out k hlt
      have hqp : 0 < q := by rw [← hq.out]; exact pow_pos2 k
      obtain ⟨b1, o1, c1, hv, _, _, _, hcx⟩ := (HL.out.below hb).int_at q hql
      cases hv
      have HTAKE := Lib.hid (itemsRow_take m b k hlt)
      have hX : b.getD (2 ^ k) 0 = b.getD q 0 := by rw [hq.out]
      rw [hX] at HTAKE
      obtain ⟨x, hx⟩ : ∃ x, b.getD q 0 = x := ⟨_, rfl⟩
      rw [hx] at hcx HTAKE
      have HOWN := Lib.hid hown
      have HB := Lib.hid hb
      have hw2 : IntKind.i64.wrap ((q : Int) * 2) = (q : Int) * 2 := IntWalk.i64_in _ (by omega)
      have hqi : (q : Int) < (b.length : Int) := by omega
      clear hown hb hq hX hx
      go_wp2_with (first | (at_builtin; refine wpList_append_box wr rfl (.tmp 11) (.tmp 16) 31 rfl 2 (.int .i64 0) 8 Tryd.underlying31 Tryd.info2 rfl (by omega) w.heap.size u3 (ints ((itemsRow m b).take k)) rfl HOWN.out (.int .i64 x) rfl rfl ?a1 ?a2 ?_))
      case a1 => rw [ints_length, List.length_take]; omega
      case a2 => exact HB.out.size
      intro v' w' hown hbel hkeep
      have HOWN2 : Hid (Own 2 w.heap.size w' v' (ints ((itemsRow m b).take (k + 1)))) := by
        rw [HTAKE.out, ints_append]; exact hown
      have HB2 := Lib.hid (HB.out.trans hbel)
      clear hown hbel hkeep
      go_wp2
      go_roundw
      case rel => exact ⟨k + 1, q * 2, by omega, (by show _ = _; rw [Nat.pow_succ, HQ.out]), by go_num, HOWN2.out, HB2.out⟩
      case measure => simp [intOf]; omega
    · have hkm : k = m := by omega
      have hqe : q = b.length := by rw [← hq.out, HLEN.out, hkm]
      rw [hkm, List.take_of_length_le (by rw [itemsRow_len]; exact Nat.le_refl _)] at hown
      have HOWN := Lib.hid hown
      have HB := Lib.hid hb
      have hd : decide ((q : Int) < (b.length : Int)) = false := by rw [decide_eq_false_iff_not]; omega
      have hd2 : ¬ ((q : Int) < (b.length : Int)) := by omega
      clear hown hb hq hqe hkm
      go_wp2
      go_ret
      exact ⟨_, rfl, HOWN.out, HB.out⟩
theorem eq_no {a b : List Int} {k : Nat} (hk : k < a.length) (h : a.getD k 0 ≠ b.getD k 0) : decide (a = b) = false := by
  rw [decide_eq_false_iff_not]; rintro rfl; exact h rfl
theorem eq_yes {a b : List Int} (hl : a.length = b.length) (h : ∀ k, k < a.length → a.getD k 0 = b.getD k 0) : decide (a = b) = true := by
  rw [decide_eq_true_eq]
  apply List.ext_getElem hl
  intro i h1 h2
  have := h i h1
  rw [List.getD_eq_getElem?_getD, List.getD_eq_getElem?_getD, List.getElem?_eq_getElem h1, List.getElem?_eq_getElem h2] at this
  exact this
set_option maxRecDepth 100000 in
set_option maxHeartbeats 2000000 in
theorem equal_go (v v2 : Value) (a b : List Int) (w : World) (hl : Sl w v (ints a)) (hl2 : Sl w v2 (ints b)) (ha : a.length ≤ 1000) (hab : a.length = b.length) :
    Calls Tryd.prog 72 #[v, v2] w fun e w' => e = .returned (.bool (decide (a = b))) ∧ Below w.heap.size w w' := by
  obtain ⟨p, cap, rfl, hlc, hcm⟩ := hl.form
  obtain ⟨p2, cap2, rfl, hlc2, hcm2⟩ := hl2.form
  have HL := Lib.hid hl
  have HL2 := Lib.hid hl2
  have HYES := Lib.hid (@eq_yes a b hab)
  have HAB := Lib.hid hab
  obtain ⟨n, hn⟩ : ∃ n, a.length = n := ⟨_, rfl⟩
  have hn2 : b.length = n := by omega
  rw [hn] at HL hlc ha HYES
  rw [hn2] at HL2 hlc2
  have HN := Lib.hid hn
  have HN2 := Lib.hid hn2
  rw [hn, hn2]
  have hnn : ((n : Int) != (n : Int)) = false := by simp
  have hl0 : (0 : Int) ≤ (n : Int) := by omega
  clear hl hl2 hn hn2 hab
  go_enter Tryd.func72, Tryd.ntmps72
  go_wp2
  go_loopw [13] (fun i wr => ∃ k : Nat, k ≤ n ∧ i = .int .i64 k ∧ (∀ j, j < k → a.getD j 0 = b.getD j 0) ∧ Below w.heap.size w wr) (fun i _ => n - (intOf i).toNat)
  case atStart => exact ⟨0, Nat.zero_le _, rfl, fun j hj => by omega, Below.refl _ _⟩
  case round =>
    obtain ⟨k, hk, rfl, hall, hb⟩ := hrel
    have HALL := Lib.hid hall
    have HB := Lib.hid hb
    by_cases hlt : k < n
    · obtain ⟨b1, o1, c1, hv, _, _, _, hc1⟩ := (HL.out.below hb).int_at k (by rw [HN.out]; exact hlt)
      rw [HN.out] at hv
      cases hv
      obtain ⟨b2, o2, c2, hv, _, _, _, hc2⟩ := (HL2.out.below hb).int_at k (by rw [HN2.out]; exact hlt)
      rw [HN2.out] at hv
      cases hv
      have HNO := Lib.hid (fun h => @eq_no a b k (by rw [HN.out]; exact hlt) h)
      obtain ⟨x, hx⟩ : ∃ x, a.getD k 0 = x := ⟨_, rfl⟩
      obtain ⟨y, hy⟩ : ∃ y, b.getD k 0 = y := ⟨_, rfl⟩
      rw [hx] at hc1 HNO
      rw [hy] at hc2 HNO
      have HX := Lib.hid hx
      have HY := Lib.hid hy
      clear hall hb hx hy
      by_cases hxy : x = y
      · have hd : (x != y) = false := by rw [bne_eq_false_iff_eq]; exact hxy
        have HNEXT : Hid (∀ j, j < k + 1 → a.getD j 0 = b.getD j 0) := by
          intro j hj
          rcases Nat.lt_or_ge j k with h | h
          · exact HALL.out j h
          · have : j = k := by omega
            subst this; rw [HX.out, HY.out, hxy]
        clear hxy
        go_wp2
        go_quiet (fail)
        go_wp2
        go_roundw
        case rel => exact ⟨k + 1, by omega, by go_num, HNEXT.out, Go.below_drewN HB.out _⟩
        case measure => simp [intOf]; omega
      · have hd : (x != y) = true := by rw [bne_iff_ne]; exact hxy
        have HF := Lib.hid (HNO.out hxy)
        clear hxy
        go_wp2
        go_quiet (fail)
        go_wp2
        go_ret
        exact ⟨by rw [HF.out]; rfl, Go.below_drewN HB.out _⟩
    · obtain rfl : k = n := by omega
      have HT := Lib.hid (HYES.out HALL.out)
      clear hall hb
      go_wp2
      go_ret
      exact ⟨by rw [HT.out]; rfl, HB.out⟩
def isSingleRow (m : Nat) (b : List Int) : Bool := (List.range (2 ^ m)).all fun s => singleTo (itemsRow m b) s m == b.getD s 0
theorem isSingleRow_eq {m : Nat} {b : List Int} (hl : b.length = 2 ^ m) : decide (b = singleRow m (itemsRow m b)) = isSingleRow m b := by
  rw [Bool.eq_iff_iff, decide_eq_true_eq]
  unfold isSingleRow
  simp only [List.all_eq_true, List.mem_range, beq_iff_eq]
  constructor
  · intro h s hs
    have e : b.getD s 0 = (singleRow m (itemsRow m b)).getD s 0 := congrArg (fun x => x.getD s 0) h
    rw [e, singleRow_get _ _ _ hs]
  · intro h
    have := eq_yes (a := b) (b := singleRow m (itemsRow m b)) (by rw [singleRow_len, hl]) (fun k hk => by rw [singleRow_get _ _ _ (by omega), h k (by omega)])
    exact of_decide_eq_true this
theorem isSingleP_all (m : Nat) (bids : List (List Int)) : isSingleP m bids = bids.all (isSingleRow m) := rfl
theorem all_no {f : List Int → Bool} {bids : List (List Int)} {i : Nat} (hi : i < bids.length) (h : f (bids.getD i []) = false) : bids.all f = false := by
  cases hb : bids.all f with
  | false => rfl
  | true =>
    have := List.all_eq_true.1 hb (bids.getD i []) (by rw [List.getD_eq_getElem?_getD, List.getElem?_eq_getElem hi]; exact List.getElem_mem hi)
    rw [h] at this; cases this
theorem all_yes {f : List Int → Bool} {bids : List (List Int)} (h : ∀ i, i < bids.length → f (bids.getD i []) = true) : bids.all f = true := by
  refine List.all_eq_true.2 fun b hb => ?_
  obtain ⟨i, hi, rfl⟩ := List.mem_iff_getElem.1 hb
  have := h i hi
  rw [List.getD_eq_getElem?_getD, List.getElem?_eq_getElem hi] at this; exact this
set_option maxRecDepth 100000 in
set_option maxHeartbeats 2000000 in
theorem isSingle_go (N : Int) (v : Value) (m : Nat) (bids : List (List Int)) (w : World) (hl : Mat w v bids) (hm : m ≤ 6) (hn : bids.length ≤ 7) (hlen : ∀ i, i < bids.length → (bids.getD i []).length = 2 ^ m) :
    Calls Tryd.prog 52 #[.agg #[.int .i64 N, v]] w fun e w' => e = .returned (.bool (isSingleP m bids)) ∧ Below w.heap.size w w' := by
  obtain ⟨p, cap, rfl, hlc, hcm⟩ := hl.form_
  unfold maxLen at hcm
  have hM64 := pow_le64 hm
  have HL := Lib.hid hl
  have HLEN := Lib.hid hlen
  have HMM := Lib.hid hm
  have hr0 := row_new 73 w #[.int .i64 N, .slice p bids.length cap]
  have hb0 := (Below.refl w.heap.size w).alloc (Nat.le_refl _) (.cells #[.int .i64 N, .slice p bids.length cap] 73)
  have HB0 := Lib.hid hb0
  have hl0 : (0 : Int) ≤ (bids.length : Int) := by omega
  rw [isSingleP_all]
  have HNO := Lib.hid (fun i => @all_no (isSingleRow m) bids i)
  have HYES := Lib.hid (@all_yes (isSingleRow m) bids)
  obtain ⟨R, hR⟩ : ∃ R, bids.all (isSingleRow m) = R := ⟨_, rfl⟩
  rw [hR] at HNO HYES ⊢
  clear hl hlen hm hr0 hb0 hR
  go_enter Tryd.func52, Tryd.ntmps52
  go_wp2
  go_loopw [8] (fun i wr => ∃ k : Nat, k ≤ bids.length ∧ i = .int .i64 k ∧ (∀ j, j < k → isSingleRow m (bids.getD j []) = true) ∧ Below w.heap.size w wr) (fun i _ => bids.length - (intOf i).toNat)
  case atStart => exact ⟨0, Nat.zero_le _, rfl, fun j hj => by omega, HB0.out⟩
  case round =>
    clear HB0
    obtain ⟨k, hk, rfl, hall, hb⟩ := hrel
    have HALL := Lib.hid hall
    have HB := Lib.hid hb
    by_cases hlt : k < bids.length
    · obtain ⟨b1, o1, c1, u, hv, _, _, _, hcu, hsu⟩ := (HL.out.below hb).row_at k hlt
      cases hv
      obtain ⟨up, uc, rfl, hulc, hucm⟩ := hsu.form
      have hrl := HLEN.out k hlt
      have HNk := Lib.hid (HNO.out k hlt)
      have HSU := Lib.hid hsu
      have HEQ := Lib.hid (@isSingleRow_eq m (bids.getD k []) hrl)
      obtain ⟨b, hbk⟩ : ∃ b, bids.getD k [] = b := ⟨_, rfl⟩
      rw [hbk] at hcu hulc hrl HNk HSU HEQ
      have HBK := Lib.hid hbk
      have HSO := Lib.hid (singleOffers_go _ m b wr HSU.out HMM.out hrl)
      have HSG : Hid (∀ W u, Sl W u (ints (itemsRow m b)) → Calls Tryd.prog 63 #[u] W fun e w' => ∃ v', e = .returned v' ∧ Own 2 W.heap.size w' v' (ints (singleRow m (itemsRow m b))) ∧ Below W.heap.size W w') := fun W u hu => by
        have := single_go u (itemsRow m b) W hu (by rw [itemsRow_len]; exact HMM.out)
        rw [itemsRow_len] at this; exact this
      have HEG : Hid (∀ W u, Sl W (.slice up b.length uc) (ints b) → Sl W u (ints (singleRow m (itemsRow m b))) → Calls Tryd.prog 72 #[.slice up b.length uc, u] W fun e w' => e = .returned (.bool (isSingleRow m b)) ∧ Below W.heap.size W w') := fun W u h1 h2 => by
        rw [← HEQ.out]; exact equal_go _ _ _ _ W h1 h2 (by omega) (by rw [singleRow_len, hrl])
      obtain ⟨n, hn'⟩ : ∃ n, b.length = n := ⟨_, rfl⟩
      rw [hn'] at hcu hulc HSU HSO HEG
      clear hall hb hsu hbk hrl hn'
      cases hs : isSingleRow m b with
      | true =>
        have HNEXT : Hid (∀ j, j < k + 1 → isSingleRow m (bids.getD j []) = true) := by
          intro j hj
          rcases Nat.lt_or_ge j k with h | h
          · exact HALL.out j h
          · have : j = k := by omega
            subst this; rw [HBK.out]; exact hs
        rw [hs] at HEG
        clear hs HNk
        go_wp2_with (first
          | (go_at_call 73; refine HSO.out.mono ?_; rintro e w1 ⟨v1, rfl, hown1, hb1⟩; have HS1 := Lib.hid hown1.sl; have HU1 := Lib.hid (HSU.out.below hb1); have HB1 := Lib.hid (HB.out.trans (hb1.mono HB.out.size)); clear hown1 hb1)
          | (go_at_call 63; refine (HSG.out _ _ HS1.out).mono ?_; rintro e w2 ⟨v2, rfl, hown2, hb2⟩; have HS2 := Lib.hid hown2.sl; have HU2 := Lib.hid (HU1.out.below hb2); have HB2 := Lib.hid (HB1.out.trans (hb2.mono HB1.out.size)); clear hown2 hb2)
          | (go_at_call 72; refine (HEG.out _ _ HU2.out HS2.out).mono ?_; rintro e w3 ⟨rfl, hb3⟩; have HB3 := Lib.hid (HB2.out.trans (hb3.mono HB2.out.size)); clear hb3))
        go_roundw
        case rel => exact ⟨k + 1, by omega, by go_num, HNEXT.out, HB3.out⟩
        case measure => simp [intOf]; omega
      | false =>
        have HF := Lib.hid (HNk.out hs)
        rw [hs] at HEG
        clear hs HNk
        go_wp2_with (first
          | (go_at_call 73; refine HSO.out.mono ?_; rintro e w1 ⟨v1, rfl, hown1, hb1⟩; have HS1 := Lib.hid hown1.sl; have HU1 := Lib.hid (HSU.out.below hb1); have HB1 := Lib.hid (HB.out.trans (hb1.mono HB.out.size)); clear hown1 hb1)
          | (go_at_call 63; refine (HSG.out _ _ HS1.out).mono ?_; rintro e w2 ⟨v2, rfl, hown2, hb2⟩; have HS2 := Lib.hid hown2.sl; have HU2 := Lib.hid (HU1.out.below hb2); have HB2 := Lib.hid (HB1.out.trans (hb2.mono HB1.out.size)); clear hown2 hb2)
          | (go_at_call 72; refine (HEG.out _ _ HU2.out HS2.out).mono ?_; rintro e w3 ⟨rfl, hb3⟩; have HB3 := Lib.hid (HB2.out.trans (hb3.mono HB2.out.size)); clear hb3))
        go_ret
        exact ⟨by rw [HF.out]; rfl, HB3.out⟩
    · obtain rfl : k = bids.length := by omega
      have HT := Lib.hid (HYES.out HALL.out)
      clear hall hb
      go_wp2
      go_ret
      exact ⟨by rw [HT.out]; rfl, HB.out⟩

/-- no bidder would rather have another bundle -/
def Content (N : Nat) (bids : List (List Int)) (l p : List Int) : Prop := ∀ i, i < bids.length → favP bids p i N (gainOf bids p i (l.getD i 0).toNat, (l.getD i 0).toNat) = (gainOf bids p i (l.getD i 0).toNat, (l.getD i 0).toNat)
set_option maxRecDepth 100000 in
set_option maxHeartbeats 4000000 in
theorem rise_content (g N : Nat) (bids : List (List Int)) (l p : List Int) (w : World) (hM : Market w g N bids l p) (hn : bids.length ≤ 7) (hl : l.length = bids.length) (hd : ∀ i, i < bids.length → 0 ≤ l.getD i 0 ∧ (l.getD i 0).toNat ≤ N) (hN : ∀ i, i < bids.length → N < (bids.getD i []).length) (hN64 : N < 64) (hp : p.length ≤ 60) (hsm : Small12 p)
    (hbd : ∀ i s, 0 ≤ (bids.getD i []).getD s 0 ∧ (bids.getD i []).getD s 0 ≤ 1000000) (hc : Content N bids l p) :
    Calls Tryd.prog 75 #[.pointer (some ⟨g, 0, none⟩)] w fun e w' => e = .returned (.bool false) ∧ Below w.heap.size w w' := by
  have HGAIN : Hid (∀ W, Below w.heap.size w W → ∀ i, i < bids.length → ∀ b : Nat, b ≤ N → Calls Tryd.prog 76 #[.pointer (some ⟨g, 0, none⟩), .int .i64 i, .int .i64 b] W fun e w' => e = .returned (.agg #[.int .i64 (gainOf bids p i b), .int .i64 b]) ∧ Below W.heap.size W w') := fun W hb i hi b hbN =>
    gain_go g N i b bids l p W (hM.below hb) hi hn (by have := hN i hi; omega) (by omega) hp hsm hbd
  have HFAV : Hid (∀ W, Below w.heap.size w W → ∀ i, i < bids.length → Calls Tryd.prog 77 #[.pointer (some ⟨g, 0, none⟩), .int .i64 i, .agg #[.int .i64 (gainOf bids p i (l.getD i 0).toNat), .int .i64 ((l.getD i 0).toNat : Nat)]] W fun e w' => e = .returned (.agg #[.int .i64 (gainOf bids p i (l.getD i 0).toNat), .int .i64 ((l.getD i 0).toNat : Nat)]) ∧ Below W.heap.size W w') := fun W hb i hi => by
    have := favorite_go g N i (gainOf bids p i (l.getD i 0).toNat) (l.getD i 0).toNat bids l p W (hM.below hb) hi hn (hN i hi) hN64 hp hsm hbd
    rw [hc i hi] at this; exact this
  obtain ⟨pb, cb, ll, pp, hr, hm, hll, hps⟩ := hM.cells
  obtain ⟨lp, lc, rfl, hlc, hlm⟩ := hll.form
  have k1 := hr.cell 2
  simp only [List.getElem?_cons_zero, List.getElem?_cons_succ] at k1
  rw [hl] at k1 hlc
  have HLL := Lib.hid hll
  rw [hl] at HLL
  have HD := Lib.hid hd
  have HLEN := Lib.hid hl
  have hl0 : (0 : Int) ≤ (bids.length : Int) := by omega
  clear hM hr hm hll hps hd hN hsm hbd hc hp hl
  go_enter Tryd.func75, Tryd.ntmps75
  go_wp2
  go_loopw [12] (fun i wr => ∃ k : Nat, k ≤ bids.length ∧ i = .int .i64 k ∧ Below w.heap.size w wr) (fun i _ => bids.length - (intOf i).toNat)
  case atStart => exact ⟨0, Nat.zero_le _, rfl, Below.refl _ _⟩
  case round =>
    obtain ⟨k, hk, rfl, hb⟩ := hrel
    have HB := Lib.hid hb
    by_cases hlt : k < bids.length
    · obtain ⟨b1, o1, c1, hv, _, _, _, hcx⟩ := (HLL.out.below hb).int_at k (by rw [HLEN.out]; exact hlt)
      rw [HLEN.out] at hv
      cases hv
      have hdk := HD.out k hlt
      have HG := Lib.hid (HGAIN.out wr hb k hlt _ hdk.2)
      have HF := Lib.hid (fun W h => HFAV.out W h k hlt)
      obtain ⟨q, hq⟩ : ∃ q, (l.getD k 0).toNat = q := ⟨_, rfl⟩
      have hqi : l.getD k 0 = (q : Int) := by omega
      rw [hq] at HG HF
      rw [hqi] at hcx
      obtain ⟨x, hx⟩ : ∃ x, gainOf bids p k q = x := ⟨_, rfl⟩
      rw [hx] at HG HF
      have e1 : (x == x) = true := by simp
      have e2 : ((q : Int) == (q : Int)) = true := by simp
      clear hb hq hqi hx hdk
      go_wp2_with (first
        | (go_at_call 76; refine HG.out.mono ?_; rintro e w1 ⟨rfl, hb1⟩; have HB1 := Lib.hid ((HB.out.trans (hb1.mono HB.out.size)).alloc (Nat.le_trans HB.out.size hb1.size) (.cells #[.int .i64 x, .int .i64 (q : Nat)] 98)); have HR5 := Lib.hid (row_new 98 w1 #[.int .i64 x, .int .i64 (q : Nat)]); clear hb1)
        | (go_at_call 77; refine (HF.out _ HB1.out).mono ?_; rintro e w2 ⟨rfl, hb2⟩; have hr5 := (HR5.out.below hb2 HR5.out.lt).alloc (.cells #[.int .i64 x, .int .i64 (q : Nat)] 98); have d0 := hr5.cell 0; have d1 := hr5.cell 1; simp only [List.getElem?_cons_zero, List.getElem?_cons_succ, List.getElem?_toArray] at d0 d1; have HB2 := Lib.hid ((HB1.out.trans (hb2.mono HB1.out.size)).alloc (Nat.le_trans HB1.out.size hb2.size) (.cells #[.int .i64 x, .int .i64 (q : Nat)] 98)); clear hb2 hr5))
      go_roundw
      case rel => exact ⟨k + 1, by omega, by go_num, HB2.out⟩
      case measure => simp [intOf]; omega
    · obtain rfl : k = bids.length := by omega
      go_wp2
      go_ret
      exact ⟨rfl, HB.out⟩
set_option maxRecDepth 100000 in
set_option maxHeartbeats 1000000 in
theorem len3_go (w : World) : Calls Tryd.prog 84 #[.int .u64 3] w fun e w' => e = .returned (.int .i64 2) ∧ w = w' := by
  go_enter Tryd.func84, Tryd.ntmps84
  go_wp2
  go_ret
  exact ⟨by kernel_rfl, rfl⟩

def zerosN (m : Nat) : List Int := List.replicate m 0
/-- the cells of a market, as a value -/
def MarketV (N : Nat) (bids : List (List Int)) (pb : Option Addr) (cb : Nat) (l p : List Int) (u : Value) (W : World) : Prop :=
  ∃ lp lc pp pc, u = .agg #[.int .i64 (N : Nat), .slice pb bids.length cb, .slice lp l.length lc, .slice pp p.length pc] ∧ Sl W (.slice lp l.length lc) (ints l) ∧ Sl W (.slice pp p.length pc) (ints p)
theorem MarketV.below {N : Nat} {bids : List (List Int)} {pb : Option Addr} {cb : Nat} {l p : List Int} {u : Value} {W W' : World} (h : MarketV N bids pb cb l p u W) (hb : Below W.heap.size W W') : MarketV N bids pb cb l p u W' := by
  obtain ⟨lp, lc, pp, pc, h1, h2, h3⟩ := h
  exact ⟨lp, lc, pp, pc, h1, h2.below hb, h3.below hb⟩
/-- a market in a box -/
def MarketB (N : Nat) (bids : List (List Int)) (l p : List Int) (u : Value) (W : World) : Prop := ∃ g, u = .pointer (some ⟨g, 0, none⟩) ∧ Market W g N bids l p
theorem MarketB.below {N : Nat} {bids : List (List Int)} {l p : List Int} {u : Value} {W W' : World} (h : MarketB N bids l p u W) (hb : Below W.heap.size W W') : MarketB N bids l p u W' := by
  obtain ⟨g, h1, h2⟩ := h
  exact ⟨g, h1, h2.below hb⟩
theorem make_zeros (w1 : World) (m : Nat) (hm : m ≤ 6) : ∃ w2, (Instr.makeSlice 31 (.int .i64 (m : Nat)) (.int .i64 (m : Nat))).run Tryd.prog w1 = .ok (.slice (some ⟨w1.heap.size, 0, none⟩) m m) w2 ∧ Sl w2 (.slice (some ⟨w1.heap.size, 0, none⟩) m m) (ints (zerosN m)) ∧ Below w1.heap.size w1 w2 := by
  obtain ⟨i, hi, hz0, hz1, hz2⟩ := info_parts Tryd.info2
  obtain ⟨w2, hrun, hown, hgr⟩ := run_make_full (P := Tryd.prog) w1 w1.heap.size 31 2 i (.int .i64 0) 1 Tryd.underlying31 hi hz0 hz1 .i64 .i64 m (by rw [hz2]; omega) (by unfold maxLen; omega) (Nat.le_refl _)
  refine ⟨w2, hrun, ?_, (Below.refl w1.heap.size w1).grown hgr (Nat.le_refl _) (fun k hk => by cases hk)⟩
  rw [Nat.mul_one, madeCells_one _ rfl] at hown
  have hrow := Row.of_owns hown
  rw [ints_replicate] at hrow
  have := Sl.of_row (cap := m) (xs := ints (zerosN m)) (more := []) (by rw [List.append_nil]; exact hrow) (by rw [ints_length]; simp [zerosN]) (by unfold maxLen; omega)
  rw [ints_length] at this
  have e : (zerosN m).length = m := by simp [zerosN]
  rw [e] at this
  exact this
set_option maxRecDepth 100000 in
set_option maxHeartbeats 4000000 in
theorem least_content (v : Value) (m : Nat) (bids : List (List Int)) (w : World) (hl : Mat w v bids) (hm : m ≤ 6) (hn : bids.length ≤ 7) (hn1 : 1 ≤ bids.length) (ho : Offers m bids)
    (hlen : ∀ W, Calls Tryd.prog 74 #[.int .u64 ((2 ^ m - 1 : Nat) : Int)] W fun e w' => e = .returned (.int .i64 m) ∧ W = w') (hc : Content (2 ^ m - 1) bids (bestP m bids) (zerosN m)) :
    Calls Tryd.prog 53 #[.agg #[.int .i64 ((2 ^ m - 1 : Nat) : Int), v]] w fun e w' => ∃ v', e = .returned v' ∧ Sl w' v' (ints (zerosN m)) ∧ Below w.heap.size w w' := by
  obtain ⟨p, cap, rfl, hlc, hcm⟩ := hl.form_
  unfold maxLen at hcm
  have hM64 := pow_le64 hm
  have hM0 := pow_pos2 m
  have HL := Lib.hid hl
  have hr0 := row_new 73 w #[.int .i64 ((2 ^ m - 1 : Nat) : Int), .slice p bids.length cap]
  have hb0 := (Below.refl w.heap.size w).alloc (Nat.le_refl _) (.cells #[.int .i64 ((2 ^ m - 1 : Nat) : Int), .slice p bids.length cap] 73)
  have HFIRST : Hid (∀ W, Below w.heap.size w W → Calls Tryd.prog 47 #[.agg #[.int .i64 ((2 ^ m - 1 : Nat) : Int), .slice p bids.length cap]] W fun e w' => ∃ v', e = .returned v' ∧ Sl w' v' (ints (bestP m bids)) ∧ Below W.heap.size W w') := fun W hb => (first_go _ m bids W (hl.below hb) hm hn hn1 ho).mono fun e w' ⟨v', h1, h2, h3⟩ => ⟨v', h1, h2.sl, h3⟩
  have HRISE : Hid (∀ W g, Market W g (2 ^ m - 1) bids (bestP m bids) (zerosN m) → Calls Tryd.prog 75 #[.pointer (some ⟨g, 0, none⟩)] W fun e w' => e = .returned (.bool false) ∧ Below W.heap.size W w') := fun W g hM =>
    rise_content g (2 ^ m - 1) bids (bestP m bids) (zerosN m) W hM hn (bestP_len m bids) (fun i hi => by
      rw [bestP_get _ _ _ hi, Int.toNat_natCast]
      have := pick_lt ho hi
      exact ⟨by omega, by omega⟩) (fun i hi => by rw [offerB_len (ho.at_ hi)]; omega) (by omega) (by unfold zerosN; simp; omega) (fun i => by
        have : (zerosN m).getD i 0 = 0 := by unfold zerosN; rw [List.getD_eq_getElem?_getD, List.getElem?_replicate]; split <;> rfl
        rw [this]; omega) (offers_bd ho) hc
  have HLENB : Hid (∀ W, Calls Tryd.prog 74 #[.int .u64 ((2 ^ m - 1 : Nat) : Int)] W fun e w' => e = .returned (.int .i64 m) ∧ W = w') := hlen
  have hN64 : 2 ^ m - 1 < 64 := by omega
  obtain ⟨N, hN⟩ : ∃ N : Nat, 2 ^ m - 1 = N := ⟨_, rfl⟩
  rw [hN] at hr0 hb0 HFIRST HRISE HLENB hN64 ⊢
  have hconv : IntKind.u64.wrap (N : Int) = (N : Int) := by
    have e : (N : Int) % 2 ^ 64 = N := Int.emod_eq_of_lt (by omega) (by omega)
    simp only [IntKind.wrap, IntKind.bits, IntKind.signed, e]
    simp
  have HZL : Hid ((zerosN m).length = m) := by show _ = _; simp [zerosN]
  have HBL : Hid ((bestP m bids).length = bids.length) := bestP_len m bids
  obtain ⟨GL, hG⟩ : ∃ GL, bestP m bids = GL := ⟨_, rfl⟩
  rw [hG] at HFIRST HRISE HBL
  have HR0 := Lib.hid hr0
  have HB0 := Lib.hid hb0
  have HMM := Lib.hid hm
  obtain ⟨W0, hW0⟩ : ∃ W0, w.alloc (.cells #[.int .i64 N, .slice p bids.length cap] 73) = W0 := ⟨_, rfl⟩
  rw [hW0] at HR0 HB0
  clear hl ho hr0 hb0 hN hG hc hlen hM64 hM0
  go_enter Tryd.func53, Tryd.ntmps53
  go_wp2
  clear hW0
  refine wp_region_rel (by kernel_rfl) 23 rfl (by kernel_rfl) [.fix (.agg #[.int .i64 (N : Nat), .slice p bids.length cap]), .fix (.agg #[.int .i64 (N : Nat), .slice p bids.length cap]), .mem (fun u W => Sl W u (ints GL)), .fix (.pointer (some ⟨w.heap.size, 0, none⟩)), .fix (.int .i64 (N : Nat)), .fix (.int .u64 (N : Nat)), .fix (.int .i64 m), .mem (fun u W => Sl W u (ints (zerosN m))), .mem (MarketV N bids p cap GL (zerosN m)), .mem (MarketB N bids GL (zerosN m)), .mem (MarketB N bids GL (zerosN m))] rfl (stays_of (fun i M hk v w w' h hb => by rcases i with _ | _ | _ | _ | _ | _ | _ | _ | _ | _ | _ | i <;> simp at hk <;> subst hk <;> first | exact Sl.below h hb | exact MarketV.below h hb | exact MarketB.below h hb) (fun j b k T n => by rcases j with _ | _ | _ | _ | _ | _ | _ | _ | _ | _ | _ | j <;> simp)) ?hop ?hQ
  case hop =>
    intro W hW j o hj vs w1 hb hV
    have hbw : Below W0.heap.size W0 w1 := by rw [hW] at hb; exact ((Below.refl W0.heap.size W0).drew).trans hb
    have d0 : w1.cell? ⟨w.heap.size, 0, none⟩ = some (.int .i64 (N : Nat)) := (HR0.out.below hbw HR0.out.lt).cell 0
    have d1 : w1.cell? ⟨w.heap.size, 1, none⟩ = some (.slice p bids.length cap) := (HR0.out.below hbw HR0.out.lt).cell 1
    clear hW hb
    have hj' : j < 11 := (List.getElem?_eq_some_iff.1 hj).1
    rcases (by omega : j = 0 ∨ j = 1 ∨ j = 2 ∨ j = 3 ∨ j = 4 ∨ j = 5 ∨ j = 6 ∨ j = 7 ∨ j = 8 ∨ j = 9 ∨ j = 10) with rfl | rfl | rfl | rfl | rfl | rfl | rfl | rfl | rfl | rfl | rfl
    · cases hj
      clear hj'
      refine .inl ⟨rfl, ?_⟩
      (try simp [predsR, Region.binds, Vk] at hV)
      simp only [putAll]
      generalize hR : Res _ _ vs w1 = R
      go_simp
      subst hR
      exact ⟨rfl, Below.refl _ _⟩
    · cases hj
      clear hj'
      refine .inl ⟨rfl, ?_⟩
      (try simp [predsR, Region.binds, Vk] at hV)
      simp only [putAll]
      generalize hR : Res _ _ vs w1 = R
      go_simp
      subst hR
      exact ⟨rfl, Below.refl _ _⟩
    · cases hj
      clear hj'
      refine .inl ⟨rfl, ?_⟩
      (try simp [predsR, Region.binds, Vk] at hV)
      simp only [putAll]
      generalize hR : Res _ _ vs w1 = R
      go_simp
      subst hR
      refine (HFIRST.out w1 (HB0.out.trans (hbw.mono HB0.out.size))).mono ?_
      rintro e w2 ⟨v2, rfl, hs2, hb2⟩
      exact ⟨_, rfl, hs2, hb2⟩
    · cases hj
      clear hj'
      refine .inl ⟨rfl, ?_⟩
      (try simp [predsR, Region.binds, Vk] at hV)
      simp only [putAll]
      generalize hR : Res _ _ vs w1 = R
      go_simp
      subst hR
      exact ⟨rfl, Below.refl _ _⟩
    · cases hj
      clear hj'
      refine .inl ⟨rfl, ?_⟩
      (try simp [predsR, Region.binds, Vk] at hV)
      simp only [putAll]
      generalize hR : Res _ _ vs w1 = R
      go_simp
      subst hR
      exact ⟨rfl, Below.refl _ _⟩
    · cases hj
      clear hj'
      refine .inl ⟨rfl, ?_⟩
      (try simp [predsR, Region.binds, Vk] at hV)
      simp only [putAll]
      generalize hR : Res _ _ vs w1 = R
      go_simp
      subst hR
      exact ⟨rfl, Below.refl _ _⟩
    · cases hj
      clear hj'
      refine .inl ⟨rfl, ?_⟩
      (try simp [predsR, Region.binds, Vk] at hV)
      simp only [putAll]
      generalize hR : Res _ _ vs w1 = R
      go_simp
      subst hR
      refine (HLENB.out w1).mono ?_
      rintro e w2 ⟨rfl, rfl⟩
      exact ⟨_, rfl, rfl, Below.refl _ _⟩
    · cases hj
      clear hj'
      refine .inl ⟨rfl, ?_⟩
      (try simp [predsR, Region.binds, Vk] at hV)
      simp only [putAll]
      generalize hR : Res _ _ vs w1 = R
      go_simp
      subst hR
      obtain ⟨w2, hrun, hs, hb2⟩ := make_zeros w1 m HMM.out
      rw [hrun]
      exact ⟨hs, hb2⟩
    · cases hj
      clear hj'
      refine .inl ⟨rfl, ?_⟩
      generalize hG : relUpon _ _ _ = G
      have q0 : vs 0 = _ := hV 0 (by decide)
      have hS2 : Sl w1 (vs 2) (ints GL) := hV 2 (by decide)
      have hS7 : Sl w1 (vs 7) (ints (zerosN m)) := hV 7 (by decide)
      obtain ⟨lp, lc, q2, _, _⟩ := hS2.form
      obtain ⟨pp, pc, q7, _, _⟩ := hS7.form
      rw [q2] at hS2
      rw [q7] at hS7
      clear hV
      subst hG
      simp only [putAll]
      generalize hR : Res _ _ vs w1 = R
      go_simp
      subst hR
      exact ⟨⟨lp, lc, pp, pc, rfl, hS2, hS7⟩, Below.refl _ _⟩
    · cases hj
      clear hj'
      refine .inl ⟨rfl, ?_⟩
      generalize hG : relUpon _ _ _ = G
      obtain ⟨lp, lc, pp, pc, q8, hS2, hS7⟩ : MarketV N bids p cap GL (zerosN m) (vs 8) w1 := hV 8 (by decide)
      clear hV
      subst hG
      simp only [putAll]
      generalize hR : Res _ _ vs w1 = R
      go_simp
      subst hR
      have hbn := (Below.refl w1.heap.size w1).alloc (Nat.le_refl _) (.cells #[.int .i64 (N : Nat), .slice p bids.length cap, .slice lp GL.length lc, .slice pp (zerosN m).length pc] 84)
      exact ⟨⟨w1.heap.size, rfl, ⟨p, cap, _, _, row_new 84 w1 #[.int .i64 (N : Nat), .slice p bids.length cap, .slice lp GL.length lc, .slice pp (zerosN m).length pc], (HL.out.below (HB0.out.trans (hbw.mono HB0.out.size))).below hbn, hS2.below hbn, hS7.below hbn⟩⟩, hbn⟩
    · cases hj
      clear hj'
      refine .inl ⟨rfl, ?_⟩
      generalize hG : relUpon _ _ _ = G
      have hS : MarketB N bids GL (zerosN m) (vs 9) w1 := hV 9 (by decide)
      clear hV
      subst hG
      simp only [putAll]
      generalize hR : Res _ _ vs w1 = R
      go_simp
      subst hR
      exact ⟨hS, Below.refl _ _⟩
  case hQ =>
    intro W hW vs w1 hb hV hD
    have hbw : Below W0.heap.size W0 w1 := by rw [hW] at hb; exact ((Below.refl W0.heap.size W0).drew).trans hb
    have v0 : vs 0 = _ := hV 0 (by decide)
    have v1 : vs 1 = _ := hV 1 (by decide)
    have v3 : vs 3 = _ := hV 3 (by decide)
    have v4 : vs 4 = _ := hV 4 (by decide)
    have v5 : vs 5 = _ := hV 5 (by decide)
    have v6 : vs 6 = _ := hV 6 (by decide)
    obtain ⟨g, hg, hM⟩ : MarketB N bids GL (zerosN m) (vs 10) w1 := hV 10 (by decide)
    simp only [putAll, hg, v0, v1, v3, v4, v5, v6]
    obtain ⟨z2, hz2⟩ : ∃ z, vs 2 = z := ⟨_, rfl⟩
    obtain ⟨z7, hz7⟩ : ∃ z, vs 7 = z := ⟨_, rfl⟩
    obtain ⟨z8, hz8⟩ : ∃ z, vs 8 = z := ⟨_, rfl⟩
    obtain ⟨z9, hz9⟩ : ∃ z, vs 9 = z := ⟨_, rfl⟩
    rw [hz2, hz7, hz8, hz9]
    have HM := Lib.hid hM
    have HRI := Lib.hid (HRISE.out w1 g hM)
    have HB1 := Lib.hid (HB0.out.trans (hbw.mono HB0.out.size))
    clear hV hD v0 v1 v3 v4 v5 v6 hb hbw hW hz2 hz7 hz8 hz9 hg hM
    go_wp2
    refine wp_loop_once ?_
    go_wp2_with (first | (go_at_call 75; refine HRI.out.mono ?_; rintro e w2 ⟨rfl, hb2⟩; obtain ⟨pb, cb, ll, pp, hrr, _, _, hpp⟩ := HM.out.cells; have hr2 := hrr.below hb2 hrr.lt; have k3 := hr2.cell 3; simp only [List.getElem?_cons_zero, List.getElem?_cons_succ] at k3; have HP := Lib.hid (hpp.below hb2); have HB2 := Lib.hid (HB1.out.trans (hb2.mono HB1.out.size)); clear hb2 hrr hpp hr2))
    go_ret
    exact ⟨_, rfl, HP.out, HB2.out⟩
set_option maxHeartbeats 1000000 in
theorem len3 (w : World) : Calls Tryd.prog 74 #[.int .u64 3] w fun e w' => e = .returned (.int .i64 2) ∧ w = w' := by
  have HL := Lib.hid (len3_go w)
  go_enter Tryd.func74, Tryd.ntmps74
  go_wp2_with (first | (go_at_call 84; refine HL.out.mono ?_; rintro e w1 ⟨rfl, rfl⟩))
  go_ret
  exact ⟨rfl, rfl⟩
abbrev awBids : List (List Int) := [[0, 3, 1, 3], [0, 2, 2, 2]]
theorem aw_offers : Offers 2 awBids := by
  intro b hb
  rcases List.mem_cons.1 hb with rfl | hb
  · decide
  · rcases List.mem_cons.1 hb with rfl | hb
    · decide
    · cases hb
theorem aw_content : Content 3 awBids (bestP 2 awBids) (zerosN 2) := by
  have hb : bestP 2 awBids = [1, 2] := by decide +kernel
  rw [hb]
  intro i hi
  rcases i with _ | _ | i
  · decide +kernel
  · decide +kernel
  · exact absurd hi (by show ¬ (i + 2 < 2); omega)
theorem aw_single2 : isSingleP 2 awBids = true := by decide +kernel
theorem aw_ok : checkP 2 awBids = 0 := by decide +kernel
theorem aw_few : Few awBids := by
  refine ⟨by simp, fun i => ?_⟩
  rcases i with _ | _ | i
  all_goals
    refine ⟨by simp, fun j => ?_⟩
    rcases j with _ | _ | _ | _ | j <;> simp
set_option maxRecDepth 100000 in
set_option maxHeartbeats 2000000 in
theorem pricesAt_spec : SpecPricesAt := by
  intro v w hl
  have hn : awBids.length = 2 := rfl
  have HNW := Lib.hid (new_go v 2 awBids w hl (by unfold I64; omega) aw_few)
  have e1 : newR 2 awBids v = .agg #[.int .i64 3, v] := by unfold newR; rw [if_pos aw_ok]; rfl
  rw [e1, aw_ok] at HNW
  have HIS : Hid (∀ W, Below w.heap.size w W → Calls Tryd.prog 52 #[.agg #[.int .i64 3, v]] W fun e w' => e = .returned (.bool true) ∧ Below W.heap.size W w') := fun W hb => by
    rw [← aw_single2]
    exact isSingle_go 3 v 2 awBids W (hl.below hb) (by omega) (by rw [hn]; omega) (fun i hi => offerB_len (aw_offers.at_ hi))
  have HLP : Hid (∀ W, Below w.heap.size w W → Calls Tryd.prog 53 #[.agg #[.int .i64 3, v]] W fun e w' => ∃ v', e = .returned v' ∧ Sl w' v' (ints [0, 0]) ∧ Below W.heap.size W w') := fun W hb =>
    least_content v 2 awBids W (hl.below hb) (by omega) (by rw [hn]; omega) (by rw [hn]; omega) aw_offers (fun W => len3 W) aw_content
  obtain ⟨p, cap, rfl, _, _⟩ := hl.form_
  clear hl e1
  go_enter Tryd.func21, Tryd.ntmps21
  go_wp2_with (first
    | (go_at_call 46; refine HNW.out.mono ?_; rintro e w1 ⟨rfl, hb1⟩; have HB1 := Lib.hid (hb1.alloc hb1.size (.cells #[.int .i64 3, .slice p 2 cap] 73)); have HR1 := Lib.hid (row_new 73 w1 #[.int .i64 3, .slice p 2 cap]); clear hb1)
    | (go_at_call 52; refine (HIS.out _ HB1.out).mono ?_; rintro e w2 ⟨rfl, hb2⟩; have hr2 := HR1.out.below hb2 HR1.out.lt; have d0 := hr2.cell 0; have d1 := hr2.cell 1; simp only [List.getElem?_cons_zero, List.getElem?_cons_succ, List.getElem?_toArray] at d0 d1; have HB2 := Lib.hid (HB1.out.trans (hb2.mono HB1.out.size)); clear hb2 hr2)
    | (go_at_call 53; refine (HLP.out _ HB2.out).mono ?_; rintro e w3 ⟨v3, rfl, hs3, hb3⟩; have HS3 := Lib.hid hs3; have HB3 := Lib.hid (HB2.out.trans (hb3.mono HB2.out.size)); clear hs3 hb3))
  go_ret2
  exact ⟨_, rfl, HS3.out, HB3.out⟩
theorem awake_spec : Awake := ⟨check_spec, best_spec, pay_spec, single_spec, second_spec, pricesAt_spec⟩
end Go.Proofs.YthbfgmgpploneaaDoor
