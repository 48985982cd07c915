/- A copy of the bids with one changed; Gain. -/
/- Gain. -/
/- Gain. -/
import Derived.Test.YthbfgmgpploneaaDoorR15
import Derived.Test.YthbfgmgpploneaaDoorL8
import Derived.WalkLawsBesides
set_option linter.unusedVariables false
set_option linter.unusedSimpArgs false
set_option linter.unnecessarySimpa false
namespace Go.Proofs.YthbfgmgpploneaaDoor
open Go.RowKit

set_option maxRecDepth 100000 in
set_option maxHeartbeats 2000000 in
theorem clone_go (v : Value) (row : List Value) (w : World) (hl : Sl w v row) (hn1 : 1 ≤ row.length) (hn : row.length ≤ 7) (hone : ∀ u ∈ row, u.oneCell' = true) :
    Calls Tryd.prog 51 #[v] w fun e w' => ∃ v', e = .returned v' ∧ Own 31 w.heap.size w' v' row ∧ Below w.heap.size w w' := by
  obtain ⟨p, cap, rfl, hlc, hcm, hne, hp⟩ := hl
  unfold maxLen at hcm
  obtain ⟨b, off, rfl, hb, hc⟩ := hp hn1
  go_enter Tryd.func51, Tryd.ntmps51
  have HEQ := Lib.hid (Lib.run_eql_slice_nil (P := Tryd.prog) w 22 31 (some ⟨b, off, none⟩) row.length cap 0 0 Tryd.underlying22)
  have HS : Hid (SlA w (.slice (some ⟨b, off, none⟩) row.length cap) row) := Sl.toA ⟨some ⟨b, off, none⟩, cap, rfl, hlc, by unfold maxLen; exact hcm, hne, hp⟩
  clear hp hc hne
  have HROW := Lib.hid (row_new 31 w #[])
  have HB0 := Lib.hid ((Below.refl w.heap.size w).alloc (Nat.le_refl _) (.cells #[] 31))
  have HOWN : Hid (Own 31 w.heap.size (w.alloc (.cells #[] 31)) (.slice (some ⟨w.heap.size, 0, none⟩) 0 0) []) := Own.of_row (xs := []) (more := []) HROW.out (Nat.le_refl _) (Nat.zero_le _) rfl
  have HS1 := Lib.hid (HS.out.below HB0.out)
  go_wp2
  rw [HEQ.out]
  go_wp2_with (first | (at_builtin; refine wpList_append_sl _ rfl (.tmp 5) (.tmp 6) 22 rfl 31 (.slice none 0 0) 24 Tryd.underlying22 Tryd.info31 rfl w.heap.size (.slice (some ⟨w.heap.size, 0, none⟩) 0 0) [] rfl HOWN.out _ row rfl HS1.out hone ?a1 ?a2 ?a3 ?_))
  case a1 => unfold maxLen; simp; omega
  case a2 => simp; omega
  case a3 => exact HB0.out.size
  intro v' w' hown hg
  have HOWN2 := Lib.hid hown
  have HB2 := Lib.hid (HB0.out.grown hg HB0.out.size HOWN.out.row_ge)
  clear hown hg
  go_wp2
  go_ret
  exact ⟨_, rfl, HOWN2.out, HB2.out⟩
theorem mat_put {w w2 : World} {g c k : Nat} {cs more : List Value} {bids : List (List Int)} {y : List Int} {yv : Value} (hcl : cs.length = bids.length) (hk : k < bids.length) (hb2 : Below w.heap.size w w2) (hg : w.heap.size ≤ g)
    (hrows : ∀ i u, cs[i]? = some u → Sl w u (ints (bids.getD i []))) (hy : Sl w yv (ints y)) (hrow : Row 31 w2 g (cs ++ more)) (hlc : cs.length ≤ c) (hcm : c ≤ maxLen) :
    Mat (w2.setCell ⟨g, k, none⟩ yv) (.slice (some ⟨g, 0, none⟩) bids.length c) (bids.set k y) := by
  have hkv : k < cs.length := by omega
  have hb := hb2.setCell (p := ⟨g, k, none⟩) hg yv
  have hst := hrow.store k yv
  rw [List.set_append_left _ _ hkv] at hst
  refine ⟨cs.set k yv, by simpa using hcl, ?_, fun i u hu => ?_⟩
  · have := Sl.of_row (cap := c) hst (by simpa using hlc) hcm
    rw [List.length_set, hcl] at this; exact this
  · by_cases hi : k = i
    · subst hi
      rw [List.getElem?_set_self hkv] at hu
      cases hu
      rw [getD_set_same _ _ _ _ hk]
      exact hy.below hb
    · rw [List.getElem?_set_ne hi] at hu
      rw [getD_set_other _ _ _ _ _ hi]
      exact (hrows i u hu).below hb
theorem few_set {bids : List (List Int)} {y : List Int} (h : Few bids) (hy : In64 y) (hl : y.length ≤ 65) (k : Nat) : Few (bids.set k y) := by
  refine ⟨by simpa using h.1, fun i => ?_⟩
  by_cases hi : k = i
  · subst hi
    by_cases hk : k < bids.length
    · rw [getD_set_same _ _ _ _ hk]; exact ⟨hl, hy⟩
    · rw [List.getD_eq_getElem?_getD, List.getElem?_eq_none (by simp; omega)]; exact ⟨by simp, In64.nil⟩
  · rw [getD_set_other _ _ _ _ _ hi]; exact h.2 i
theorem checkP_set_no {K k : Nat} {bids : List (List Int)} {y : List Int} (h1 : 1 ≤ K) (h6 : K ≤ 6) (hk : k < bids.length) (ho : offerB K y = false) : checkP (K : Int) (bids.set k y) = 80 := by
  refine checkP_bid (by omega) (Or.inr (Or.inr ?_))
  rw [Int.toNat_natCast, List.all_eq_false]
  exact ⟨y, List.mem_set hk _, by simp [ho]⟩
theorem checkP_off {K : Nat} {bids : List (List Int)} (h1 : 1 ≤ K) (h6 : K ≤ 6) (hn1 : 1 ≤ bids.length) (hn6 : bids.length ≤ 6) (ho : Offers K bids) : checkP (K : Int) bids = 0 := by
  have h : bids.all (offerB K) = true := List.all_eq_true.2 ho
  refine checkP_ok (by omega) ?_
  rw [Int.toNat_natCast, h]
  rintro (h | h | h)
  · omega
  · omega
  · cases h
theorem few_off {K : Nat} {bids : List (List Int)} (h6 : K ≤ 6) (hn6 : bids.length ≤ 6) (ho : Offers K bids) : Few bids := by
  have hM := pow_le64 h6
  refine ⟨by omega, fun i => ?_⟩
  by_cases hi : i < bids.length
  · refine ⟨by rw [offerB_len (ho.at_ hi)]; omega, fun j => ?_⟩
    have := offers_bd ho i j
    omega
  · rw [List.getD_eq_getElem?_getD, List.getElem?_eq_none (by omega)]; exact ⟨by simp, In64.nil⟩
set_option maxRecDepth 100000 in
set_option maxHeartbeats 2000000 in
theorem gain_out (v yv : Value) (K : Nat) (bids : List (List Int)) (who : Int) (w : World) (hl : Mat w v bids) (h1 : 1 ≤ K) (h6 : K ≤ 6) (hn1 : 1 ≤ bids.length) (hn6 : bids.length ≤ 6) (ho : Offers K bids) (hwho : I64 who) (hout : who < 0 ∨ (bids.length : Int) ≤ who) :
    Calls Tryd.prog 19 #[.int .i64 K, v, .int .i64 who, yv] w fun e w' => e = .returned (.tuple #[.int .i64 0, .int .i64 1]) ∧ Below w.heap.size w w' := by
  have hck := checkP_off h1 h6 hn1 hn6 ho
  have HNW := Lib.hid (new_go v K bids w hl (by unfold I64; omega) (few_off h6 hn6 ho))
  have e1 : newR (K : Int) bids v = .agg #[.int .i64 ((2 ^ K - 1 : Nat) : Int), v] := by unfold newR; rw [if_pos hck, Int.toNat_natCast]
  rw [e1, hck] at HNW
  obtain ⟨p, cap, rfl, hlc, hcm⟩ := hl.form_
  obtain ⟨N, hN⟩ : ∃ N : Nat, 2 ^ K - 1 = N := ⟨_, rfl⟩
  rw [hN] at HNW
  clear hl ho hck e1 hN
  rcases hout with hw | hw
  · have hd : decide (who < 0) = true := decide_eq_true hw
    go_enter Tryd.func19, Tryd.ntmps19
    go_wp2_with (first | (go_at_call 46; refine HNW.out.mono ?_; rintro e w1 ⟨rfl, hb1⟩; have HB1 := Lib.hid (hb1.alloc hb1.size (.cells #[.int .i64 (N : Int), .slice p bids.length cap] 73)); clear hb1))
    go_ret2
    exact ⟨rfl, HB1.out⟩
  · have hd : decide (who < 0) = false := decide_eq_false (by omega)
    have hd0 : ¬ who < 0 := by omega
    have hd2 : decide ((bids.length : Int) ≤ who) = true := decide_eq_true hw
    go_enter Tryd.func19, Tryd.ntmps19
    go_wp2_with (first | (go_at_call 46; refine HNW.out.mono ?_; rintro e w1 ⟨rfl, hb1⟩; have HB1 := Lib.hid (hb1.alloc hb1.size (.cells #[.int .i64 (N : Int), .slice p bids.length cap] 73)); clear hb1))
    go_ret2
    exact ⟨rfl, HB1.out⟩

set_option maxRecDepth 100000 in
set_option maxHeartbeats 4000000 in
theorem gain_bad (v yv : Value) (K k : Nat) (bids : List (List Int)) (y : List Int) (w : World) (hl : Mat w v bids) (hy : Sl w yv (ints y)) (h1 : 1 ≤ K) (h6 : K ≤ 6) (hn1 : 1 ≤ bids.length) (hn6 : bids.length ≤ 6) (ho : Offers K bids) (hk : k < bids.length) (hyi : In64 y) (hyl : y.length ≤ 65) (hof : offerB K y = false) :
    Calls Tryd.prog 19 #[.int .i64 K, v, .int .i64 k, yv] w fun e w' => e = .returned (.tuple #[.int .i64 0, .int .i64 80]) ∧ Below w.heap.size w w' := by
  have hck := checkP_off h1 h6 hn1 hn6 ho
  have hfw := few_off h6 hn6 ho
  have HNW := Lib.hid (new_go v K bids w hl (by unfold I64; omega) hfw)
  have e1 : newR (K : Int) bids v = .agg #[.int .i64 ((2 ^ K - 1 : Nat) : Int), v] := by unfold newR; rw [if_pos hck, Int.toNat_natCast]
  rw [e1, hck] at HNW
  have HNW2 : Hid (∀ W vc, Mat W vc (bids.set k y) → Calls Tryd.prog 46 #[.int .i64 K, vc] W fun e w' => e = .returned (.tuple #[newR K (bids.set k y) vc, .int .i64 (checkP K (bids.set k y))]) ∧ Below W.heap.size W w') := fun W vc h => new_go vc K _ W h (by unfold I64; omega) (few_set hfw hyi hyl k)
  have hck2 := checkP_set_no h1 h6 hk hof
  have e2 : ∀ vc, newR (K : Int) (bids.set k y) vc = .agg #[.int .i64 0, .slice none 0 0] := fun vc => by unfold newR; rw [if_neg (by rw [hck2]; decide)]
  simp only [e2, hck2] at HNW2
  obtain ⟨cs, hcl, hsl, hrows, hone⟩ := hl.cells
  have HCL : Hid (∀ W, Below w.heap.size w W → Calls Tryd.prog 51 #[v] W fun e w' => ∃ g c more, e = .returned (.slice (some ⟨g, 0, none⟩) bids.length c) ∧ W.heap.size ≤ g ∧ cs.length ≤ c ∧ c ≤ maxLen ∧ Row 31 w' g (cs ++ more) ∧ Below W.heap.size W w') := fun W hb => (clone_go v cs W (hsl.below hb) (by omega) (by omega) hone).mono fun e w' ⟨v2, he, hown, hb2⟩ => by
    rcases hown.form_ with ⟨_, h0⟩ | ⟨g, c, more, rfl, hgb, hlc2, hcm2, hcc, hrow⟩
    · rw [h0] at hcl; simp at hcl; omega
    · rw [hcl] at he; exact ⟨g, c, more, he, hgb, hlc2, hcm2, hrow, hb2⟩
  obtain ⟨yp, yc, rfl, hylc, hycm⟩ := hy.form
  have HY := Lib.hid hy
  obtain ⟨p, cap, rfl, hlc, hcm⟩ := hl.form_
  unfold maxLen at hcm
  have HL := Lib.hid hl
  have HROWS := Lib.hid hrows
  have HCS := Lib.hid hcl
  have hkv : k < cs.length := by omega
  have hd : decide ((k : Int) < 0) = false := decide_eq_false (by omega)
  have hd0 : ¬ (k : Int) < 0 := by omega
  have hd2 : decide ((bids.length : Int) ≤ (k : Int)) = false := decide_eq_false (by omega)
  have hd3 : ¬ (bids.length : Int) ≤ (k : Int) := by omega
  have hk0 : (0 : Int) ≤ (k : Int) := by omega
  obtain ⟨N, hN⟩ : ∃ N : Nat, 2 ^ K - 1 = N := ⟨_, rfl⟩
  rw [hN] at HNW
  clear hl ho hck hck2 hfw e1 e2 hN hsl hrows hone hy hyi hyl hof hcl h1 h6
  go_enter Tryd.func19, Tryd.ntmps19
  go_wp2_with (first
    | (go_at_call 46; refine (HNW2.out _ _ HMAT.out).mono ?_; rintro e w4 ⟨rfl, hb4⟩; have HB4 := Lib.hid ((HB2.out.trans (hb4.mono HB2.out.size)).alloc (HB2.out.trans (hb4.mono HB2.out.size)).size (.cells #[.int .i64 0, .slice none 0 0] 73)))
    | (go_at_call 46; refine HNW.out.mono ?_; rintro e w1 ⟨rfl, hb1⟩; have HB1 := Lib.hid (hb1.alloc hb1.size (.cells #[.int .i64 (N : Int), .slice p bids.length cap] 73)); have HR1 := Lib.hid (row_new 73 w1 #[.int .i64 (N : Int), .slice p bids.length cap]); clear hb1)
    | (go_at_call 51; refine (HCL.out _ HB1.out).mono ?_; rintro e w2 ⟨g, c, more, rfl, hgb, hlc2, hcm2, hrow, hb2⟩; have hb2' := HB1.out.trans (hb2.mono HB1.out.size); have hgw := Nat.le_trans HB1.out.size hgb; have hcell := hrow.cell k; rw [List.getElem?_append_left hkv, List.getElem?_eq_getElem hkv] at hcell; have hfr := hrow.free k; have HMAT := Lib.hid (mat_put HCS.out hk hb2' hgw HROWS.out HY.out hrow hlc2 hcm2); have HB2 := Lib.hid (hb2'.setCell (p := ⟨g, k, none⟩) hgw (.slice yp y.length yc)); clear hrow hb2 hb2'))
  go_ret2
  exact ⟨rfl, HB4.out⟩

/-- a pointer to a number -/
def PtI (x : Int) (u : Value) (W : World) : Prop := ∃ b o, u = .pointer (some ⟨b, o, none⟩) ∧ W.cell? ⟨b, o, none⟩ = some (.int .i64 x)
theorem PtI.below {x : Int} {u : Value} {w w' : World} (h : PtI x u w) (hb : Below w.heap.size w w') : PtI x u w' := by
  obtain ⟨b, o, h1, h2⟩ := h
  exact ⟨b, o, h1, (hb.cell (World.block_lt_of_cell? _ _ h2)).trans h2⟩
set_option maxRecDepth 100000 in
set_option maxHeartbeats 8000000 in
theorem gain_good (v yv : Value) (K k : Nat) (bids : List (List Int)) (y : List Int) (w : World) (hl : Mat w v bids) (hy : Sl w yv (ints y)) (h1 : 1 ≤ K) (h6 : K ≤ 6) (hn1 : 1 ≤ bids.length) (hn6 : bids.length ≤ 6) (ho : Offers K bids) (hk : k < bids.length) (hyi : In64 y) (hyl : y.length ≤ 65) (hof : offerB K y = true) :
    Calls Tryd.prog 19 #[.int .i64 K, v, .int .i64 k, yv] w fun e w' => e = .returned (.tuple #[.int .i64 (gainP K bids k y), .int .i64 0]) ∧ Below w.heap.size w w' := by
  have hck := checkP_off h1 h6 hn1 hn6 ho
  have hfw := few_off h6 hn6 ho
  have HNW := Lib.hid (new_go v K bids w hl (by unfold I64; omega) hfw)
  have e1 : newR (K : Int) bids v = .agg #[.int .i64 ((2 ^ K - 1 : Nat) : Int), v] := by unfold newR; rw [if_pos hck, Int.toNat_natCast]
  rw [e1, hck] at HNW
  have HNW2 : Hid (∀ W vc, Mat W vc (bids.set k y) → Calls Tryd.prog 46 #[.int .i64 K, vc] W fun e w' => e = .returned (.tuple #[newR K (bids.set k y) vc, .int .i64 (checkP K (bids.set k y))]) ∧ Below W.heap.size W w') := fun W vc h => new_go vc K _ W h (by unfold I64; omega) (few_set hfw hyi hyl k)
  have ho2 := ho.set_ hof k
  have hlen2 : (bids.set k y).length = bids.length := by simp
  have hck2 := checkP_off h1 h6 (by rw [hlen2]; exact hn1) (by rw [hlen2]; exact hn6) ho2
  have e2 : ∀ vc, newR (K : Int) (bids.set k y) vc = .agg #[.int .i64 ((2 ^ K - 1 : Nat) : Int), vc] := fun vc => by unfold newR; rw [if_pos hck2, Int.toNat_natCast]
  simp only [e2, hck2] at HNW2
  have hd2' : Deals bids (bestP K (bids.set k y)) := by
    have h := best_deals ho2
    refine ⟨by have := h.1; rw [hlen2] at this; exact this, fun i hi => ?_⟩
    obtain ⟨g1, g2⟩ := h.2 i hi
    have hi2 : i < bids.length := by have := h.1; rw [hlen2] at this; omega
    rw [offerB_len (ho2.at_ (by rw [hlen2]; exact hi2))] at g2
    rw [offerB_len (ho.at_ hi2)]
    exact ⟨g1, g2⟩
  have HFIRST : Hid (∀ W vc, Mat W vc (bids.set k y) → Calls Tryd.prog 47 #[.agg #[.int .i64 ((2 ^ K - 1 : Nat) : Int), vc]] W fun e w' => ∃ v', e = .returned v' ∧ Sl w' v' (ints (bestP K (bids.set k y))) ∧ Below W.heap.size W w') := fun W vc h => (first_go _ K _ W h h6 (by rw [hlen2]; omega) (by rw [hlen2]; exact hn1) ho2).mono fun e w' ⟨v', h1, h2, h3⟩ => ⟨v', h1, h2.sl, h3⟩
  have HOFF : Hid (∀ W lv, Below w.heap.size w W → Sl W lv (ints (bestP K (bids.set k y))) → Calls Tryd.prog 49 #[.agg #[.int .i64 ((2 ^ K - 1 : Nat) : Int), v], lv] W fun e w' => ∃ v', e = .returned v' ∧ Sl w' v' (ints (offP bids (bestP K (bids.set k y)))) ∧ Below W.heap.size W w') := fun W lv hb hs => (offered_go _ _ lv bids _ W (hl.below hb) hs (by omega) hd2').mono fun e w' ⟨v', h1, h2, h3⟩ => ⟨v', h1, h2.sl, h3⟩
  have HPAY : Hid (∀ W vc, Mat W vc (bids.set k y) → Calls Tryd.prog 50 #[.agg #[.int .i64 ((2 ^ K - 1 : Nat) : Int), vc]] W fun e w' => ∃ v', e = .returned v' ∧ Sl w' v' (ints (payP K (bids.set k y))) ∧ Below W.heap.size W w') := fun W vc h => (payments_go _ K _ W h h6 (by rw [hlen2]; omega) (by rw [hlen2]; exact hn1) ho2).mono fun e w' ⟨v', h1, h2, h3⟩ => ⟨v', h1, h2.sl, h3⟩
  have hbl : (bestP K (bids.set k y)).length = bids.length := by rw [bestP_len, hlen2]
  have HFL : Hid ((offP bids (bestP K (bids.set k y))).length = bids.length) := by show _ = _; rw [offP_len, hbl]
  have HPL : Hid ((payP K (bids.set k y)).length = bids.length) := by show _ = _; rw [payP_len, hlen2]
  have HGP : Hid (gainP K bids k y = (offP bids (bestP K (bids.set k y))).getD k 0 - (payP K (bids.set k y)).getD k 0) := by
    show _ = _
    unfold gainP
    rw [offP_get _ _ _ (by rw [hbl]; exact hk)]
    rfl
  have hxb := offP_bd ho (bestP K (bids.set k y)) k
  have hyb : -8000000 ≤ (payP K (bids.set k y)).getD k 0 ∧ (payP K (bids.set k y)).getD k 0 ≤ 8000000 := by
    rw [payP_get _ _ _ (by rw [hlen2]; exact hk)]
    exact gain_bd ho2 (by rw [hlen2]; omega) k
  obtain ⟨cs, hcl, hsl, hrows, hone⟩ := hl.cells
  have HCL : Hid (∀ W, Below w.heap.size w W → Calls Tryd.prog 51 #[v] W fun e w' => ∃ g c more, e = .returned (.slice (some ⟨g, 0, none⟩) bids.length c) ∧ W.heap.size ≤ g ∧ cs.length ≤ c ∧ c ≤ maxLen ∧ Row 31 w' g (cs ++ more) ∧ Below W.heap.size W w') := fun W hb => (clone_go v cs W (hsl.below hb) (by omega) (by omega) hone).mono fun e w' ⟨v2, he, hown, hb2⟩ => by
    rcases hown.form_ with ⟨_, h0⟩ | ⟨g, c, more, rfl, hgb, hlc2, hcm2, hcc, hrow⟩
    · rw [h0] at hcl; simp at hcl; omega
    · rw [hcl] at he; exact ⟨g, c, more, he, hgb, hlc2, hcm2, hrow, hb2⟩
  obtain ⟨yp, yc, rfl, hylc, hycm⟩ := hy.form
  have HY := Lib.hid hy
  obtain ⟨p, cap, rfl, hlc, hcm⟩ := hl.form_
  unfold maxLen at hcm
  have HL := Lib.hid hl
  have HROWS := Lib.hid hrows
  have HCS := Lib.hid hcl
  have hkv : k < cs.length := by omega
  have hd : decide ((k : Int) < 0) = false := decide_eq_false (by omega)
  have hd0 : ¬ (k : Int) < 0 := by omega
  have hd2 : decide ((bids.length : Int) ≤ (k : Int)) = false := decide_eq_false (by omega)
  have hd3 : ¬ (bids.length : Int) ≤ (k : Int) := by omega
  have hk0 : (0 : Int) ≤ (k : Int) := by omega
  obtain ⟨N, hN⟩ : ∃ N : Nat, 2 ^ K - 1 = N := ⟨_, rfl⟩
  obtain ⟨F, hF⟩ : ∃ F, offP bids (bestP K (bids.set k y)) = F := ⟨_, rfl⟩
  obtain ⟨P2, hP2⟩ : ∃ P2, payP K (bids.set k y) = P2 := ⟨_, rfl⟩
  rw [hF] at HOFF HFL HGP hxb
  rw [hP2] at HPAY HPL HGP hyb
  obtain ⟨GL, hG⟩ : ∃ GL, bestP K (bids.set k y) = GL := ⟨_, rfl⟩
  rw [hG] at HFIRST HOFF
  obtain ⟨x, hx⟩ : ∃ x, F.getD k 0 = x := ⟨_, rfl⟩
  obtain ⟨z, hz⟩ : ∃ z, P2.getD k 0 = z := ⟨_, rfl⟩
  rw [hx] at HGP hxb
  rw [hz] at HGP hyb
  have HX := Lib.hid hx
  have HZ := Lib.hid hz
  have hsub : IntKind.i64.wrap (x - z) = x - z := IntWalk.i64_in _ (by omega)
  rw [hN] at HNW HOFF
  simp only [hN] at HNW2 HFIRST HPAY
  clear hl ho hck hck2 hfw e1 e2 hN hsl hrows hone hy hyi hyl hof hcl h1 h6 ho2 hlen2 hd2' hbl hF hP2 hG hx hz
  go_enter Tryd.func19, Tryd.ntmps19
  go_wp2_with (first
    | (go_at_call 46; refine (HNW2.out _ _ HMAT.out).mono ?_; rintro e w4 ⟨rfl, hb4⟩; have HB4 := Lib.hid ((HB2.out.trans (hb4.mono HB2.out.size)).alloc (HB2.out.trans (hb4.mono HB2.out.size)).size (.cells #[.int .i64 (N : Int), .slice (some ⟨g, 0, none⟩) bids.length c] 73)); have HR10 := Lib.hid (HR2.out.below (hb4.alloc hb4.size (.cells #[.int .i64 (N : Int), .slice (some ⟨g, 0, none⟩) bids.length c] 73)) HR2.out.lt); have HR13 := Lib.hid (row_new 73 w4 #[.int .i64 (N : Int), .slice (some ⟨g, 0, none⟩) bids.length c]); have HM4 := Lib.hid (HMAT.out.below (hb4.alloc hb4.size (.cells #[.int .i64 (N : Int), .slice (some ⟨g, 0, none⟩) bids.length c] 73))))
    | (go_at_call 46; refine HNW.out.mono ?_; rintro e w1 ⟨rfl, hb1⟩; have HB1 := Lib.hid (hb1.alloc hb1.size (.cells #[.int .i64 (N : Int), .slice p bids.length cap] 73)); have HR1 := Lib.hid (row_new 73 w1 #[.int .i64 (N : Int), .slice p bids.length cap]); clear hb1)
    | (go_at_call 51; refine (HCL.out _ HB1.out).mono ?_; rintro e w2 ⟨g, c, more, rfl, hgb, hlc2, hcm2, hrow, hb2⟩; have hb2' := HB1.out.trans (hb2.mono HB1.out.size); have hgw := Nat.le_trans HB1.out.size hgb; have hcell := hrow.cell k; rw [List.getElem?_append_left hkv, List.getElem?_eq_getElem hkv] at hcell; have hfr := hrow.free k; have HMAT := Lib.hid (mat_put HCS.out hk hb2' hgw HROWS.out HY.out hrow hlc2 hcm2); have HB2 := Lib.hid (hb2'.setCell (p := ⟨g, k, none⟩) hgw (.slice yp y.length yc)); have HR2 := Lib.hid (HR1.out.below (hb2.setCell (p := ⟨g, k, none⟩) hgb (.slice yp y.length yc)) HR1.out.lt); clear hrow hb2 hb2'))
  generalize hW0 : w4.alloc (.cells #[.int .i64 (N : Int), .slice (some ⟨g, 0, none⟩) bids.length c] 73) = W0 at HB4 HR10 HR13 HM4 ⊢
  refine wp_region_rel (by kernel_rfl) 59 rfl (by kernel_rfl) [.fix (.agg #[.int .i64 (N : Nat), .slice p bids.length cap]), .fix (.agg #[.int .i64 (N : Nat), .slice (some ⟨g, 0, none⟩) bids.length c]), .mem (fun u W => Sl W u (ints GL)), .mem (fun u W => Sl W u (ints F)), .fix (.int .i64 (k : Nat)), .mem (PtI x), .fix (.int .i64 x), .fix (.agg #[.int .i64 (N : Nat), .slice (some ⟨g, 0, none⟩) bids.length c]), .mem (fun u W => Sl W u (ints P2)), .fix (.int .i64 (k : Nat)), .mem (PtI z), .fix (.int .i64 z), .fix (.int .i64 (x - z)), .fix (.int .i64 (x - z)), .fix (.int .i64 0)] rfl (stays_of (fun i M hk v w w' h hb => by rcases i with _ | _ | _ | _ | _ | _ | _ | _ | _ | _ | _ | _ | _ | _ | _ | i <;> simp at hk <;> subst hk <;> first | exact Sl.below h hb | exact PtI.below h hb) (fun j b k T n => by rcases j with _ | _ | _ | _ | _ | _ | _ | _ | _ | _ | _ | _ | _ | _ | _ | j <;> simp)) ?hop ?hQ
  case hop =>
    intro W hW j o hj vs w1 hb hV
    have hbw : Below W0.heap.size W0 w1 := by rw [hW] at hb; exact ((Below.refl W0.heap.size W0).drew).trans hb
    have r10 := HR10.out.below hbw HR10.out.lt
    have r13 := HR13.out.below hbw HR13.out.lt
    have d0 := r10.cell 0
    have d1 := r10.cell 1
    have d2 := r13.cell 0
    have d3 := r13.cell 1
    simp only [List.getElem?_cons_zero, List.getElem?_cons_succ, List.getElem?_toArray] at d0 d1 d2 d3
    clear hW hb r10 r13
    have hj' : j < 15 := (List.getElem?_eq_some_iff.1 hj).1
    rcases (by omega : j = 0 ∨ j = 1 ∨ j = 2 ∨ j = 3 ∨ j = 4 ∨ j = 5 ∨ j = 6 ∨ j = 7 ∨ j = 8 ∨ j = 9 ∨ j = 10 ∨ j = 11 ∨ j = 12 ∨ j = 13 ∨ j = 14) with rfl | rfl | rfl | rfl | rfl | rfl | rfl | rfl | rfl | rfl | rfl | rfl | rfl | rfl | rfl
    · cases hj
      clear hj'
      refine .inl ⟨rfl, ?_⟩
      (try simp [predsR, Region.binds, Vk] at hV)
      simp only [putAll]
      generalize hR : Res _ _ vs w1 = R
      go_simp
      subst hR
      exact ⟨rfl, Below.refl _ _⟩
    · cases hj
      clear hj'
      refine .inl ⟨rfl, ?_⟩
      (try simp [predsR, Region.binds, Vk] at hV)
      simp only [putAll]
      generalize hR : Res _ _ vs w1 = R
      go_simp
      subst hR
      exact ⟨rfl, Below.refl _ _⟩
    · cases hj
      clear hj'
      refine .inl ⟨rfl, ?_⟩
      (try simp [predsR, Region.binds, Vk] at hV)
      simp only [putAll]
      generalize hR : Res _ _ vs w1 = R
      go_simp
      subst hR
      refine (HFIRST.out w1 _ (HM4.out.below hbw)).mono ?_
      rintro e w2 ⟨v2, rfl, hs2, hb2⟩
      exact ⟨_, rfl, hs2, hb2⟩
    · cases hj
      clear hj'
      refine .inl ⟨rfl, ?_⟩
      generalize hG : relUpon _ _ _ = G
      have q0 : vs 0 = _ := hV 0 (by decide)
      have hS : Sl w1 (vs 2) (ints GL) := hV 2 (by decide)
      clear hV
      subst hG
      simp only [putAll]
      generalize hR : Res _ _ vs w1 = R
      go_simp
      subst hR
      refine (HOFF.out w1 _ (HB4.out.trans (hbw.mono HB4.out.size)) hS).mono ?_
      rintro e w2 ⟨v2, rfl, hs2, hb2⟩
      exact ⟨_, rfl, hs2, hb2⟩
    · cases hj
      clear hj'
      refine .inl ⟨rfl, ?_⟩
      (try simp [predsR, Region.binds, Vk] at hV)
      simp only [putAll]
      generalize hR : Res _ _ vs w1 = R
      go_simp
      subst hR
      exact ⟨rfl, Below.refl _ _⟩
    · cases hj
      clear hj'
      refine .inl ⟨rfl, ?_⟩
      generalize hG : relUpon _ _ _ = G
      have hS : Sl w1 (vs 3) (ints F) := hV 3 (by decide)
      have q : vs 4 = _ := hV 4 (by decide)
      clear hV
      obtain ⟨b5, o5, c5, hv5, _, _, _, hcc⟩ := hS.int_at k (by rw [HFL.out]; exact hk)
      rw [HFL.out] at hv5
      rw [HX.out] at hcc
      clear hS
      subst hG
      simp only [putAll]
      generalize hR : Res _ _ vs w1 = R
      go_simp
      subst hR
      exact ⟨⟨_, _, rfl, hcc⟩, Below.refl _ _⟩
    · cases hj
      clear hj'
      refine .inl ⟨rfl, ?_⟩
      generalize hG : relUpon _ _ _ = G
      obtain ⟨b5, o5, hv5, hcc⟩ : PtI x (vs 5) w1 := hV 5 (by decide)
      clear hV
      subst hG
      simp only [putAll]
      generalize hR : Res _ _ vs w1 = R
      go_simp
      subst hR
      exact ⟨rfl, Below.refl _ _⟩
    · cases hj
      clear hj'
      refine .inl ⟨rfl, ?_⟩
      (try simp [predsR, Region.binds, Vk] at hV)
      simp only [putAll]
      generalize hR : Res _ _ vs w1 = R
      go_simp
      subst hR
      exact ⟨rfl, Below.refl _ _⟩
    · cases hj
      clear hj'
      refine .inl ⟨rfl, ?_⟩
      (try simp [predsR, Region.binds, Vk] at hV)
      simp only [putAll]
      generalize hR : Res _ _ vs w1 = R
      go_simp
      subst hR
      refine (HPAY.out w1 _ (HM4.out.below hbw)).mono ?_
      rintro e w2 ⟨v2, rfl, hs2, hb2⟩
      exact ⟨_, rfl, hs2, hb2⟩
    · cases hj
      clear hj'
      refine .inl ⟨rfl, ?_⟩
      (try simp [predsR, Region.binds, Vk] at hV)
      simp only [putAll]
      generalize hR : Res _ _ vs w1 = R
      go_simp
      subst hR
      exact ⟨rfl, Below.refl _ _⟩
    · cases hj
      clear hj'
      refine .inl ⟨rfl, ?_⟩
      generalize hG : relUpon _ _ _ = G
      have hS : Sl w1 (vs 8) (ints P2) := hV 8 (by decide)
      have q : vs 9 = _ := hV 9 (by decide)
      clear hV
      obtain ⟨b5, o5, c5, hv5, _, _, _, hcc⟩ := hS.int_at k (by rw [HPL.out]; exact hk)
      rw [HPL.out] at hv5
      rw [HZ.out] at hcc
      clear hS
      subst hG
      simp only [putAll]
      generalize hR : Res _ _ vs w1 = R
      go_simp
      subst hR
      exact ⟨⟨_, _, rfl, hcc⟩, Below.refl _ _⟩
    · cases hj
      clear hj'
      refine .inl ⟨rfl, ?_⟩
      generalize hG : relUpon _ _ _ = G
      obtain ⟨b5, o5, hv5, hcc⟩ : PtI z (vs 10) w1 := hV 10 (by decide)
      clear hV
      subst hG
      simp only [putAll]
      generalize hR : Res _ _ vs w1 = R
      go_simp
      subst hR
      exact ⟨rfl, Below.refl _ _⟩
    · cases hj
      clear hj'
      refine .inl ⟨rfl, ?_⟩
      (try simp [predsR, Region.binds, Vk] at hV)
      simp only [putAll]
      generalize hR : Res _ _ vs w1 = R
      go_simp
      subst hR
      exact ⟨rfl, Below.refl _ _⟩
    · cases hj
      clear hj'
      refine .inl ⟨rfl, ?_⟩
      (try simp [predsR, Region.binds, Vk] at hV)
      simp only [putAll]
      generalize hR : Res _ _ vs w1 = R
      go_simp
      subst hR
      exact ⟨rfl, Below.refl _ _⟩
    · cases hj
      clear hj'
      refine .inl ⟨rfl, ?_⟩
      (try simp [predsR, Region.binds, Vk] at hV)
      simp only [putAll]
      generalize hR : Res _ _ vs w1 = R
      go_simp
      subst hR
      exact ⟨rfl, Below.refl _ _⟩
  case hQ =>
    intro W hW vs w1 hb hV hD
    have hbw : Below W0.heap.size W0 w1 := by rw [hW] at hb; exact ((Below.refl W0.heap.size W0).drew).trans hb
    have v13 : vs 13 = _ := hV 13 (by decide)
    have v14 : vs 14 = _ := hV 14 (by decide)
    have HB5 := Lib.hid (HB4.out.trans (hbw.mono HB4.out.size))
    simp only [putAll, v13, v14]
    clear hV hD v13 v14 hb hbw hW
    obtain ⟨y0, hy0⟩ : ∃ y0, vs 0 = y0 := ⟨_, rfl⟩
    obtain ⟨y1, hy1⟩ : ∃ y1, vs 1 = y1 := ⟨_, rfl⟩
    obtain ⟨y2, hy2⟩ : ∃ y2, vs 2 = y2 := ⟨_, rfl⟩
    obtain ⟨y3, hy3⟩ : ∃ y3, vs 3 = y3 := ⟨_, rfl⟩
    obtain ⟨y4, hy4⟩ : ∃ y4, vs 4 = y4 := ⟨_, rfl⟩
    obtain ⟨y5, hy5⟩ : ∃ y5, vs 5 = y5 := ⟨_, rfl⟩
    obtain ⟨y6, hy6⟩ : ∃ y6, vs 6 = y6 := ⟨_, rfl⟩
    obtain ⟨y7, hy7⟩ : ∃ y7, vs 7 = y7 := ⟨_, rfl⟩
    obtain ⟨y8, hy8⟩ : ∃ y8, vs 8 = y8 := ⟨_, rfl⟩
    obtain ⟨y9, hy9⟩ : ∃ y9, vs 9 = y9 := ⟨_, rfl⟩
    obtain ⟨y10, hy10⟩ : ∃ y10, vs 10 = y10 := ⟨_, rfl⟩
    obtain ⟨y11, hy11⟩ : ∃ y11, vs 11 = y11 := ⟨_, rfl⟩
    obtain ⟨y12, hy12⟩ : ∃ y12, vs 12 = y12 := ⟨_, rfl⟩
    rw [hy0, hy1, hy2, hy3, hy4, hy5, hy6, hy7, hy8, hy9, hy10, hy11, hy12]
    clear hy0 hy1 hy2 hy3 hy4 hy5 hy6 hy7 hy8 hy9 hy10 hy11 hy12
    go_wp2
    go_ret2
    refine ⟨?_, HB5.out⟩
    rw [HGP.out]
    go_simp
theorem gain_spec : SpecGain := by
  intro v yv K bids who y w hl hy h1 h6 hn1 hn6 ho hwho hyi hyl
  by_cases hout : who < 0 ∨ (bids.length : Int) ≤ who
  · obtain ⟨g1, g2⟩ := gain_arg (K := K) (y := y) hout
    rw [g1, g2]
    exact gain_out v yv K bids who w hl h1 h6 hn1 hn6 ho hwho hout
  · obtain ⟨k, rfl⟩ : ∃ k : Nat, who = (k : Int) := ⟨who.toNat, by omega⟩
    have hk : k < bids.length := by omega
    cases hof : offerB K y with
    | false =>
      obtain ⟨g1, g2⟩ := gain_bid (K := K) hk hof
      rw [g1, g2]
      exact gain_bad v yv K k bids y w hl hy h1 h6 hn1 hn6 ho hk hyi hyl hof
    | true =>
      obtain ⟨g1, g2⟩ := gain_ok (K := K) hk hof
      rw [g1, g2]
      exact gain_good v yv K k bids y w hl hy h1 h6 hn1 hn6 ho hk hyi hyl hof
end Go.Proofs.YthbfgmgpploneaaDoor
