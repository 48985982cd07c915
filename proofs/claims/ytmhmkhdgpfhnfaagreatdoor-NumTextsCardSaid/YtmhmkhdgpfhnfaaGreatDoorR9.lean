/- The reference's naturals and integers: GcdN, Int, Of. -/
import Derived.Test.YtmhmkhdgpfhnfaaGreatDoorR7
set_option linter.unusedVariables false
set_option linter.unusedSimpArgs false
set_option linter.unnecessarySimpa false
/- The reference's naturals and integers: GcdN, Int, Of. -/
namespace Go.Proofs.YtmhmkhdgpfhnfaaGreatDoor.Ref
open Go.RowKit

set_option maxRecDepth 100000 in
set_option maxHeartbeats 1000000 in
theorem gcdN_go (va vb : Value) (a b : Nat) (w : World) (ha : LbA w va (limbs a)) (hb : LbA w vb (limbs b)) (hl : (limbs a).length ≤ 800000) (hl' : (limbs b).length ≤ 800000) :
    Calls Tryz.prog 132 #[va, vb] w (OutN w (limbs (Nat.gcd a b))) := by
  have HA := Lib.hid ha
  have HB := Lib.hid hb
  have HL := Lib.hid (And.intro hl hl')
  clear ha hb hl hl'
  go_enter Tryz.func132, Tryz.ntmps132
  go_wp2
  go_loopg [0, 1] b (fun k av bv wr => ∃ x, Nat.gcd x k = Nat.gcd a b ∧ LbA wr av (limbs x) ∧ LbA wr bv (limbs k) ∧ (limbs x).length ≤ 800000 ∧ (limbs k).length ≤ 800000 ∧ Below w.heap.size w wr)
  case atStart => exact ⟨a, rfl, HA.out, HB.out, HL.out.1, HL.out.2, Below.refl _ _⟩
  case round =>
    obtain ⟨x, hg, hx, hk, hlx, hlk, hbel⟩ := hrel
    obtain ⟨px, cx, rfl, hcx1, hcx2⟩ := hx.form_
    obtain ⟨pk, ck, rfl, hck1, hck2⟩ := hk.form_
    have HX := Lib.hid hx
    have HK := Lib.hid hk
    have HG := Lib.hid hg
    have HLX := Lib.hid (And.intro hlx hlk)
    have HBEL := Lib.hid hbel
    by_cases h0 : gk = 0
    · subst h0
      have hgx : Nat.gcd a b = x := by rw [← hg, Nat.gcd_zero_right]
      have HGX := Lib.hid hgx
      have e0 : (limbs 0).length = 0 := by rw [limbs_zero]; rfl
      rw [e0]
      obtain ⟨nx, hnx⟩ : ∃ n, (limbs x).length = n := ⟨_, rfl⟩
      have HNX := Lib.hid hnx
      rw [hnx]
      clear hx hk hg hlx hlk hbel hgx hnx hcx1 hck1 e0
      go_wp2
      go_ret
      exact ⟨_, rfl, by rw [HGX.out, ← HNX.out]; exact HX.out, HBEL.out⟩
    · have hne : 0 < (limbs gk).length := List.length_pos_iff.2 (fun h => h0 ((limbs_nil_iff gk).1 h))
      have HD := Lib.hid (div_go _ _ x gk wr hx hk h0 hlx hlk)
      have HNX : Hid (Nat.gcd gk (x % gk) = Nat.gcd a b) := by
        show _ = _
        rw [← hg, Nat.gcd_comm gk (x % gk), ← Nat.gcd_rec gk x]; exact Nat.gcd_comm gk x
      have hmod := Nat.mod_lt x (Nat.pos_of_ne_zero h0)
      have HML := Lib.hid (Nat.le_trans (limbs_mono (Nat.le_of_lt hmod)) hlk)
      obtain ⟨nx, hnx⟩ : ∃ n, (limbs x).length = n := ⟨_, rfl⟩
      obtain ⟨nk, hnk⟩ : ∃ n, (limbs gk).length = n := ⟨_, rfl⟩
      have HNK := Lib.hid hnk
      rw [hnk] at hne
      rw [hnx, hnk] at HD ⊢
      have gne : (0 : Int) < (nk : Int) := by omega
      clear hx hk hg hlx hlk hbel hcx1 hck1 hnx hnk h0
      go_wp2_with fail
      refine HD.out.mono ?_
      rintro e w2 ⟨v1, v2, rfl, h1, h2, hb2⟩
      have H2 := Lib.hid h2
      have HB2 := Lib.hid hb2
      obtain ⟨p1, c1, rfl, _, _⟩ := h1.form_
      obtain ⟨p2, c2, rfl, _, _⟩ := h2.form_
      have HK2 := Lib.hid (SlA.below HK.out hb2)
      clear h1 h2 hb2 HD
      go_wp2
      go_roundg (x % gk)
      case measure => exact hmod
      case rel => exact ⟨gk, HNX.out, by rw [← HNK.out]; exact HK2.out, H2.out, HLX.out.2, HML.out, HBEL.out.trans (HB2.out.mono HBEL.out.size)⟩
/-- the sign that 'Int' gives -/
def sgR (neg : Bool) (n : Nat) : Bool := neg && decide (n ≠ 0)
theorem sgR_zero (neg : Bool) : sgR neg 0 = false := by cases neg <;> rfl
theorem sgR_pos {n : Nat} (h : n ≠ 0) (neg : Bool) : sgR neg n = neg := by unfold sgR; simp [h]
set_option maxHeartbeats 400000 in
theorem int_go (neg : Bool) (s : Value) (n : Nat) (w : World) (hs : LbA w s (limbs n)) :
    Calls Tryz.prog 79 #[.bool neg, s] w fun e w' => e = .returned (.agg #[.bool (sgR neg n), s]) ∧ Below w.heap.size w w' := by
  obtain ⟨p, cap, rfl, hc1, hc2⟩ := hs.form_
  cases neg with
  | false =>
    clear hs
    go_enter Tryz.func79, Tryz.ntmps79
    go_wp2
    refine bodyPost_ret (v := .agg #[.bool false, .slice p (limbs n).length cap]) (by simp [results, Tryz.results79, go_sem]) rfl ⟨rfl, (Below.refl _ _).alloc (Nat.le_refl _) _⟩
  | true =>
    by_cases h0 : n = 0
    · subst h0
      rw [limbs_zero]
      clear hs hc1
      go_enter Tryz.func79, Tryz.ntmps79
      go_wp2
      refine bodyPost_ret (v := .agg #[.bool false, .slice p 0 cap]) (by simp [results, Tryz.results79, go_sem]) rfl ⟨by rw [sgR_zero], (Below.refl _ _).alloc (Nat.le_refl _) _⟩
    · have hne : 0 < (limbs n).length := List.length_pos_iff.2 (fun h => h0 ((limbs_nil_iff n).1 h))
      have hl0 : (0 : Int) < ((limbs n).length : Int) := by omega
      have H0 := Lib.hid h0
      clear hs h0
      go_enter Tryz.func79, Tryz.ntmps79
      go_wp2
      refine bodyPost_ret (v := .agg #[.bool true, .slice p (limbs n).length cap]) (by simp [results, Tryz.results79, go_sem]) rfl ⟨by rw [sgR_pos H0.out], (Below.refl _ _).alloc (Nat.le_refl _) _⟩
end Go.Proofs.YtmhmkhdgpfhnfaaGreatDoor.Ref
/- The reference's integers: Of. -/
namespace Go.Proofs.YtmhmkhdgpfhnfaaGreatDoor.Ref
open Go.RowKit

/-- an integer of the reference -/
def Zv (w : World) (v : Value) (z : Int) : Prop := ∃ p c, v = .agg #[.bool (decide (z < 0)), .slice p (limbs z.natAbs).length c] ∧ LbA w (.slice p (limbs z.natAbs).length c) (limbs z.natAbs)
theorem Zv.below {w w' : World} {v : Value} {z : Int} (h : Zv w v z) (hb : Below w.heap.size w w') : Zv w' v z := by
  obtain ⟨p, c, h1, h2⟩ := h
  exact ⟨p, c, h1, SlA.below h2 hb⟩
/-- what a call leaves that makes an integer -/
def OutZ (w : World) (z : Int) (e : Ending) (w' : World) : Prop := ∃ v, e = .returned v ∧ Zv w' v z ∧ Below w.heap.size w w'
theorem row2 {T : TypeId} {w : World} {h : Nat} {x0 x1 : Value} (r : Row T w h [x0, x1]) (y0 y1 : Value) :
    (w.cell? ⟨h, 0, none⟩ = some x0 ∧ w.frozen? ⟨h, 0, none⟩ = false) ∧ ((w.setCell ⟨h, 0, none⟩ y0).cell? ⟨h, 1, none⟩ = some x1 ∧ (w.setCell ⟨h, 0, none⟩ y0).frozen? ⟨h, 1, none⟩ = false) ∧
    Row T ((w.setCell ⟨h, 0, none⟩ y0).setCell ⟨h, 1, none⟩ y1) h [y0, y1] := by
  have r1 := r.store 0 y0
  exact ⟨⟨r.cell 0, r.free 0⟩, ⟨r1.cell 1, r1.free 1⟩, r1.store 1 y1⟩
/-- what lies elsewhere stays where two cells are written -/
theorem LbA.two {w : World} {h : Nat} {p : Option Addr} {n c : Nat} {l : List Nat} (hf : Fr (h + 1) (.slice p n c)) (hl : LbA w (.slice p n c) l) (y0 y1 : Value) : LbA ((w.setCell ⟨h, 0, none⟩ y0).setCell ⟨h, 1, none⟩ y1) (.slice p n c) l :=
  (hl.store hf y0).store hf y1
/-- the blocks of what was there before are not the box -/
def Old (B : Nat) (v : Value) : Prop := ∀ ad n c, v = .slice (some ad) n c → 0 < n → ad.block < B
theorem LbA.old {w : World} {v : Value} {l : List Nat} (h : LbA w v l) : Old w.heap.size v := fun ad n c e hn => by
  obtain ⟨p, cap, hv, _, _, _, hp⟩ := h
  subst hv
  injection e with e1 e2 e3
  rw [ints_length, nl_length] at *
  obtain ⟨ad', h1, h2, _⟩ := hp (by omega)
  rw [e1] at h1
  injection h1 with h1
  rw [h1]; exact h2
/-- a cell of another block is written -/
theorem LbA.far {w : World} {v : Value} {l : List Nat} {g i : Nat} (h : LbA w v l) (hg : ∀ ad n c, v = .slice (some ad) n c → 0 < n → ad.block ≠ g) (u : Value) : LbA (w.setCell ⟨g, i, none⟩ u) v l := by
  obtain ⟨p, cap, hv, hl, hm, hn, hp⟩ := h
  refine ⟨p, cap, hv, hl, hm, hn, fun h0 => ?_⟩
  obtain ⟨ad, hp, hbs, hc⟩ := hp h0
  subst hp
  have hb := hg ad _ _ hv h0
  have hbw : Below 0 w (w.setCell ⟨g, i, none⟩ u) := (Below.refl 0 w).setCell (Nat.zero_le _) u
  refine ⟨ad, rfl, Nat.lt_of_lt_of_le hbs hbw.size, fun i' hi => ?_⟩
  rw [World.cell?_of_block (w := w) (Below.heap_setCell _ _ _ _ (by rw [block_add]; exact hb))]
  exact hc i' hi
theorem limbs_len3 {a : Nat} (h : a ≤ 9223372036854775808) : (limbs a).length ≤ 3 := by
  by_cases h0 : a = 0
  · subst h0; rw [limbs_zero]; simp
  · rw [limbs_pos a h0]
    by_cases h1 : a / 1000000000 = 0
    · rw [h1, limbs_zero]; simp
    · rw [limbs_pos _ h1]
      by_cases h2 : a / 1000000000 / 1000000000 = 0
      · rw [h2, limbs_zero]; simp
      · rw [limbs_pos _ h2, show a / 1000000000 / 1000000000 / 1000000000 = 0 by omega, limbs_zero]; simp
theorem sgR_dec (z : Int) : sgR (decide (z < 0)) z.natAbs = decide (z < 0) := by
  by_cases h : z < 0
  · rw [decide_eq_true h, sgR_pos (by omega)]
  · rw [decide_eq_false h]; rfl
theorem u64_negR {n : Int} (h0 : n < 0) (h1 : -18446744073709551616 ≤ n) : IntKind.u64.wrap n = n + 18446744073709551616 := by rw [IntKind.wrap_u64]; omega
theorem limbs_step (O : List Nat) (k : Nat) (h : k ≠ 0) (L : List Nat) (e : O ++ limbs k = L) : (O ++ [k % 1000000000]) ++ limbs (k / 1000000000) = L := by
  rw [← e, limbs_pos k h, List.append_assoc]; rfl
set_option maxRecDepth 100000 in
set_option maxHeartbeats 1000000 in
theorem of_pos (z : Int) (a : Nat) (w : World) (hz : 0 ≤ z) (ha : z.natAbs = a) (ha9 : a ≤ 9223372036854775808) :
    Calls Tryz.prog 22 #[.int .i64 z] w (OutZ w z) := by
  have HA := Lib.hid ha
  have gz : ¬ (z < 0) := by omega
  have ge : z = (a : Int) := by omega
  have gc : IntKind.u64.wrap z = (a : Int) := by rw [ge]; exact IntWalk.u64_in _ (by omega)
  clear ge
  obtain ⟨h, hh⟩ : ∃ h, w.heap.size = h := ⟨_, rfl⟩
  have HH := Lib.hid hh
  have hrow := row_new 34 w #[.bool false, .slice none 0 0]
  have hbel := (Below.refl w.heap.size w).alloc (Nat.le_refl _) (.cells #[.bool false, .slice none 0 0] 34)
  have hsz : (w.alloc (.cells #[.bool false, .slice none 0 0] 34)).heap.size = h + 1 := by simp [hh]
  clear ha
  go_enter Tryz.func22, Tryz.ntmps22
  go_wp2
  rw [hh] at hrow hbel
  generalize w.alloc (.cells #[.bool false, .slice none 0 0] 34) = W0 at *
  have HROW := Lib.hid hrow
  have HBEL := Lib.hid hbel
  have HSZ := Lib.hid hsz
  clear hrow hbel hsz hh
  go_loopg [3, 4] a (fun k uv mv wr => uv = .int .u64 (k : Nat) ∧ k ≤ a ∧ ∃ O, O ++ limbs k = limbs a ∧ Lo O ∧ O.length ≤ 900000 ∧ Own 3 (h + 1) wr mv (ints (nl O)) ∧ Below (h + 1) W0 wr)
  case atStart => exact ⟨rfl, Nat.le_refl _, [], rfl, (fun d hd => by cases hd), Nat.zero_le _, World.ownsRow_nil _ _ _ _, Below.refl _ _⟩
  case round =>
    obtain ⟨rfl, hk, O, hO, hlo, hol, hown, hb⟩ := hrel
    have HO := Lib.hid hO
    have HLO := Lib.hid hlo
    have HOW := Lib.hid hown
    have HB := Lib.hid hb
    have HBS := Lib.hid (show h + 1 ≤ wr.heap.size by have := hb.size; rw [HSZ.out] at this; exact this)
    have HOL := Lib.hid hol
    by_cases h0 : gk = 0
    · subst h0
      have hO2 : O = limbs a := by rw [← hO, limbs_zero, List.append_nil]
      subst hO2
      have hsl : LbA wr _ (limbs a) := hown.sl.toA
      have hfr := Fr.own hown
      obtain ⟨p, c, rfl, hc1, hc2⟩ := hsl.form_
      have hrow := HROW.out.below hb (Nat.lt_succ_self h)
      have HI := Lib.hid (int_go (decide (z < 0)) _ a wr hsl)
      have HSL := Lib.hid hsl
      have HFR := Lib.hid hfr
      have HRW := Lib.hid hrow
      clear hO hlo hol hown hb hsl hfr hrow
      go_wp2_with fail
      refine HI.out.mono ?_
      rintro e w2 ⟨rfl, hb2⟩
      have HLT : Hid (h < wr.heap.size) := HRW.out.lt
      obtain ⟨⟨f1, f2⟩, ⟨f3, f4⟩, f5⟩ := row2 (HRW.out.below hb2 HLT.out) (.bool (sgR (decide (z < 0)) a)) (.slice p (limbs a).length c)
      have HL2 := Lib.hid (LbA.two HFR.out (SlA.below HSL.out hb2) (.bool (sgR (decide (z < 0)) a)) (.slice p (limbs a).length c))
      have F5 := Lib.hid f5
      have HB2 := Lib.hid hb2
      clear hb2 f5 HI
      have c1 := F5.out.cell 0
      have c2 := F5.out.cell 1
      simp only [List.getElem?_cons_zero, List.getElem?_cons_succ] at c1 c2
      go_wp2
      refine bodyPost_ret (v := .agg #[.bool (sgR (decide (z < 0)) a), .slice p (limbs a).length c]) (by simp [results, Tryz.results22, go_sem, c1, c2]) rfl ⟨_, rfl, ⟨p, c, ?_, ?_⟩, ?_⟩
      · have hs := sgR_dec z; rw [HA.out] at hs ⊢; rw [hs]
      · rw [HA.out]; exact HL2.out
      · rw [HH.out]
        exact ((HBEL.out.trans ((HB.out.mono (Nat.le_succ h)).trans (HB2.out.mono (Nat.le_of_lt HLT.out)))).setCell (p := ⟨h, 0, none⟩) (Nat.le_refl _) _).setCell (p := ⟨h, 1, none⟩) (Nat.le_refl _) _
    · have gk0 : (0 : Int) < (gk : Int) := by omega
      have HNX := Lib.hid (limbs_step O gk h0 _ hO)
      obtain ⟨r, hr⟩ : ∃ r, gk % 1000000000 = r := ⟨_, rfl⟩
      obtain ⟨q, hq⟩ : ∃ q, gk / 1000000000 = q := ⟨_, rfl⟩
      have grem : (gk : Int) % 1000000000 = (r : Int) := by omega
      have gquo : (gk : Int) / 1000000000 = (q : Int) := by omega
      have hr9 : r < 1000000000 := by omega
      have HLN := Lib.hid (show O.length ≤ 20 by
        have h1 := congrArg List.length hO
        rw [List.length_append] at h1
        have h2 := limbs_len3 ha9
        omega)
      rw [hr, hq] at HNX
      have hq9 : q ≤ 9223372036854775808 := by omega
      have HQ := Lib.hid (show q < gk ∧ q ≤ a by omega)
      have HOL2 := Lib.hid (show (ints (nl O)).length ≤ 1000000 by rw [ints_length, nl_length]; have := HOL.out; omega)
      clear hO hlo hol hown hb hr hq h0
      go_wp2_with (first | (at_builtin; refine wpList_append_box wr rfl (.tmp 15) (.tmp 19) 32 rfl 3 (.int .i64 0) 8 undN infoI rfl (by omega) (h + 1) u4 (ints (nl O)) rfl HOW.out (.int .i64 (r : Int)) rfl rfl HOL2.out HBS.out ?_; intro v2 w2 hown2 hb2 hrest; have HO2 := Lib.hid hown2; have HB2 := Lib.hid hb2; clear hown2 hb2 hrest))
      go_roundg q
      case measure => exact HQ.out.1
      case rel => exact ⟨rfl, HQ.out.2, O ++ [r], HNX.out, LoS HLO.out hr9, by have := HLN.out; simp; omega, by rw [nl_append, ints_append]; exact HO2.out, HB.out.trans HB2.out⟩
set_option maxRecDepth 100000 in
set_option maxHeartbeats 1000000 in
theorem of_neg (z : Int) (a : Nat) (w : World) (hz : z < 0) (ha : z.natAbs = a) (ha9 : a ≤ 9223372036854775808) :
    Calls Tryz.prog 22 #[.int .i64 z] w (OutZ w z) := by
  have HA := Lib.hid ha
  have HA0 := Lib.hid (show a ≠ 0 by omega)
  obtain ⟨U, hU⟩ : ∃ U : Nat, (U : Int) = 18446744073709551616 - (a : Int) := ⟨18446744073709551616 - a, by omega⟩
  have gc : IntKind.u64.wrap z = (U : Int) := by rw [u64_negR hz (by omega)]; omega
  have gc2 : IntKind.u64.wrap (-(U : Int)) = (a : Int) := by rw [u64_negR (by omega) (by omega)]; omega
  have gc3 : IntKind.u64.wrap (0 - (U : Int)) = (a : Int) := by rw [u64_negR (by omega) (by omega)]; omega
  clear hU
  obtain ⟨h, hh⟩ : ∃ h, w.heap.size = h := ⟨_, rfl⟩
  have HH := Lib.hid hh
  have hrow := row_new 34 w #[.bool false, .slice none 0 0]
  have hbel := (Below.refl w.heap.size w).alloc (Nat.le_refl _) (.cells #[.bool false, .slice none 0 0] 34)
  have hsz : (w.alloc (.cells #[.bool false, .slice none 0 0] 34)).heap.size = h + 1 := by simp [hh]
  clear ha
  go_enter Tryz.func22, Tryz.ntmps22
  go_wp2
  rw [hh] at hrow hbel
  generalize w.alloc (.cells #[.bool false, .slice none 0 0] 34) = W0 at *
  have HROW := Lib.hid hrow
  have HBEL := Lib.hid hbel
  have HSZ := Lib.hid hsz
  clear hrow hbel hsz hh
  go_loopg [3, 4] a (fun k uv mv wr => uv = .int .u64 (k : Nat) ∧ k ≤ a ∧ ∃ O, O ++ limbs k = limbs a ∧ Lo O ∧ O.length ≤ 900000 ∧ Own 3 (h + 1) wr mv (ints (nl O)) ∧ Below (h + 1) W0 wr)
  case atStart => exact ⟨rfl, Nat.le_refl _, [], rfl, (fun d hd => by cases hd), Nat.zero_le _, World.ownsRow_nil _ _ _ _, Below.refl _ _⟩
  case round =>
    obtain ⟨rfl, hk, O, hO, hlo, hol, hown, hb⟩ := hrel
    have HO := Lib.hid hO
    have HLO := Lib.hid hlo
    have HOW := Lib.hid hown
    have HB := Lib.hid hb
    have HBS := Lib.hid (show h + 1 ≤ wr.heap.size by have := hb.size; rw [HSZ.out] at this; exact this)
    have HOL := Lib.hid hol
    by_cases h0 : gk = 0
    · subst h0
      have hO2 : O = limbs a := by rw [← hO, limbs_zero, List.append_nil]
      subst hO2
      have hsl : LbA wr _ (limbs a) := hown.sl.toA
      have hfr := Fr.own hown
      obtain ⟨p, c, rfl, hc1, hc2⟩ := hsl.form_
      have hrow := HROW.out.below hb (Nat.lt_succ_self h)
      have HI := Lib.hid (int_go true _ a wr hsl)
      have HSL := Lib.hid hsl
      have HFR := Lib.hid hfr
      have HRW := Lib.hid hrow
      clear hO hlo hol hown hb hsl hfr hrow
      go_wp2_with fail
      refine HI.out.mono ?_
      rintro e w2 ⟨rfl, hb2⟩
      have HLT : Hid (h < wr.heap.size) := HRW.out.lt
      obtain ⟨⟨f1, f2⟩, ⟨f3, f4⟩, f5⟩ := row2 (HRW.out.below hb2 HLT.out) (.bool (sgR true a)) (.slice p (limbs a).length c)
      have HL2 := Lib.hid (LbA.two HFR.out (SlA.below HSL.out hb2) (.bool (sgR true a)) (.slice p (limbs a).length c))
      have F5 := Lib.hid f5
      have HB2 := Lib.hid hb2
      clear hb2 f5 HI
      have c1 := F5.out.cell 0
      have c2 := F5.out.cell 1
      simp only [List.getElem?_cons_zero, List.getElem?_cons_succ] at c1 c2
      go_wp2
      refine bodyPost_ret (v := .agg #[.bool (sgR true a), .slice p (limbs a).length c]) (by simp [results, Tryz.results22, go_sem, c1, c2]) rfl ⟨_, rfl, ⟨p, c, ?_, ?_⟩, ?_⟩
      · rw [HA.out, sgR_pos HA0.out, decide_eq_true hz]
      · rw [HA.out]; exact HL2.out
      · rw [HH.out]
        exact ((HBEL.out.trans ((HB.out.mono (Nat.le_succ h)).trans (HB2.out.mono (Nat.le_of_lt HLT.out)))).setCell (p := ⟨h, 0, none⟩) (Nat.le_refl _) _).setCell (p := ⟨h, 1, none⟩) (Nat.le_refl _) _
    · have gk0 : (0 : Int) < (gk : Int) := by omega
      have HNX := Lib.hid (limbs_step O gk h0 _ hO)
      obtain ⟨r, hr⟩ : ∃ r, gk % 1000000000 = r := ⟨_, rfl⟩
      obtain ⟨q, hq⟩ : ∃ q, gk / 1000000000 = q := ⟨_, rfl⟩
      have grem : (gk : Int) % 1000000000 = (r : Int) := by omega
      have gquo : (gk : Int) / 1000000000 = (q : Int) := by omega
      have hr9 : r < 1000000000 := by omega
      have HLN := Lib.hid (show O.length ≤ 20 by
        have h1 := congrArg List.length hO
        rw [List.length_append] at h1
        have h2 := limbs_len3 ha9
        omega)
      rw [hr, hq] at HNX
      have hq9 : q ≤ 9223372036854775808 := by omega
      have HQ := Lib.hid (show q < gk ∧ q ≤ a by omega)
      have HOL2 := Lib.hid (show (ints (nl O)).length ≤ 1000000 by rw [ints_length, nl_length]; have := HOL.out; omega)
      clear hO hlo hol hown hb hr hq h0
      go_wp2_with (first | (at_builtin; refine wpList_append_box wr rfl (.tmp 15) (.tmp 19) 32 rfl 3 (.int .i64 0) 8 undN infoI rfl (by omega) (h + 1) u4 (ints (nl O)) rfl HOW.out (.int .i64 (r : Int)) rfl rfl HOL2.out HBS.out ?_; intro v2 w2 hown2 hb2 hrest; have HO2 := Lib.hid hown2; have HB2 := Lib.hid hb2; clear hown2 hb2 hrest))
      go_roundg q
      case measure => exact HQ.out.1
      case rel => exact ⟨rfl, HQ.out.2, O ++ [r], HNX.out, LoS HLO.out hr9, by have := HLN.out; simp; omega, by rw [nl_append, ints_append]; exact HO2.out, HB.out.trans HB2.out⟩
theorem of_go (z : Int) (w : World) (h1 : -9223372036854775808 ≤ z) (h2 : z ≤ 9223372036854775807) :
    Calls Tryz.prog 22 #[.int .i64 z] w (OutZ w z) := by
  by_cases h : z < 0
  · exact of_neg z _ w h rfl (by omega)
  · exact of_pos z _ w (by omega) rfl (by omega)
end Go.Proofs.YtmhmkhdgpfhnfaaGreatDoor.Ref
