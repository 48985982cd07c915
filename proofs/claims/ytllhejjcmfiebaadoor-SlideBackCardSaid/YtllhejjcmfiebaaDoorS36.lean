/- The reference's Hole, Near, Moved. -/
import Derived.Test.YtllhejjcmfiebaaDoorS29
import Derived.Test.YtllhejjcmfiebaaDoorS31
import Derived.Test.YtllhejjcmfiebaaDoorQR
import Derived.RegionTactic
import Derived.BigRegion
set_option linter.unusedVariables false
set_option linter.unusedSimpArgs false
set_option linter.unnecessarySimpa false
namespace Go.Proofs.YtllhejjcmfiebaaDoor
open Go.RowKit Go.Shelf
attribute [local go_sem] eqP
set_option maxRecDepth 100000 in
set_option maxHeartbeats 2000000 in
theorem rhole_go (v : Value) (n : Nat) (p : List Int) (w : World) (hp : SlA w v (ints p)) (hw : PosW n p) (hn9 : n ≤ 9) :
  Calls Tryd.prog 40 #[v] w fun e w' => e = .returned (.int .i64 (holeL p : Nat)) ∧ Below w.heap.size w w' := by
 have hlen := hw.len
 obtain ⟨hh1, hh2, hh3⟩ := hw.hole
 have HLT := Lib.hid hh3
 have HZ := Lib.hid hh2
 obtain ⟨h, hh⟩ : ∃ h, holeL p = h := ⟨_, rfl⟩
 rw [hh] at hh1 HLT HZ ⊢
 have HL := Lib.hid hp
 obtain ⟨q, c, rfl, hc1, hc2⟩ := hp.form
 have hhl : h < p.length := by omega
 clear hp hw hlen hh hh2 hh3
 go_enter Tryd.func40, Tryd.ntmps40
 go_wp2
 go_loopw [3] (fun i wr => ∃ k : Nat, k ≤ h ∧ i = .int .i64 k ∧ Below w.heap.size w wr) (fun i _ => h - (intOf i).toNat)
 case atStart => exact ⟨0, Nat.zero_le _, rfl, Below.refl _ _⟩
 case round =>
  obtain ⟨k, hk, rfl, hbel⟩ := hrel
  have hkl : k < p.length := by omega
  obtain ⟨ad, cap', hv, _, _, hg, hc⟩ := (HL.out.below hbel).int_at k hkl
  cases hv
  have HB := Lib.hid hbel
  have gk : (k : Int) < (p.length : Int) := by omega
  clear hbel
  by_cases hkh : k < h
  ·have hne := HLT.out k hkh
   obtain ⟨y, hy⟩ : ∃ y, p.getD k 0 = y := ⟨_, rfl⟩
   rw [hy] at hne hc
   have hd : (y != 0) = true := by rw [bne_iff_ne]; exact hne
   clear hy hne
   go_wp2
   go_roundw
   case rel => exact ⟨k + 1, by omega, by go_num, HB.out⟩
   case measure => simp [intOf]; omega
  ·obtain rfl : k = h := by omega
   have hz := HZ.out
   rw [hz] at hc
   clear hz
   go_wp2
   go_ret
   exact ⟨rfl, HB.out⟩
set_option maxRecDepth 100000 in
set_option maxHeartbeats 2000000 in
theorem rnear_go (v : Value) (N a : Nat) (t : Int) (l : Ps) (w : World) (hl : SlP w v l) (hn9 : N ≤ 9) (hok : ∀ j, j < l.length → okAt N l j = true) :
  Calls Tryd.prog 39 #[v, .int .i64 (a : Nat), .int .i64 t] w fun e w' => e = .returned (.bool (nearB (toE l) a t)) ∧ Below w.heap.size w w' := by
 have HIFF := Lib.hid (near_iff hn9 hok a t)
 obtain ⟨R, hR⟩ : ∃ R, nearB (toE l) a t = R := ⟨_, rfl⟩
 obtain ⟨lo, hlo⟩ : ∃ lo, min (a : Int) t = lo := ⟨_, rfl⟩
 obtain ⟨hi, hhi⟩ : ∃ hi, max (a : Int) t = hi := ⟨_, rfl⟩
 rw [hR, hlo, hhi] at HIFF
 rw [hR]
 have HL := Lib.hid hl
 obtain ⟨q, c, rfl, hc1, hc2⟩ := hl.len
 clear hl hok hR
 go_enter Tryd.func39, Tryd.ntmps39
 go_wp2
 go_loopw [7] (fun i wr => ∃ k : Nat, k ≤ l.length ∧ i = .int .i64 k ∧ (∀ j, j < k → l[j]? ≠ some (lo, hi)) ∧ Below w.heap.size w wr) (fun i _ => l.length - (intOf i).toNat)
 case atStart => exact ⟨0, Nat.zero_le _, rfl, fun j hj => by omega, Below.refl _ _⟩
 case round =>
  obtain ⟨k, hk, rfl, hall, hbel⟩ := hrel
  by_cases hlt : k < l.length
  ·obtain ⟨ad, cap', e, hv, hg, hek, d1, d2⟩ := (HL.out.below hbel).at_ k hlt
   cases hv
   obtain ⟨x, y⟩ := e
   dsimp only at d1 d2
   have HB := Lib.hid hbel
   have HALL := Lib.hid hall
   have HEK := Lib.hid hek
   clear hbel hall hek
   cases hxy : (x == lo && y == hi) with
   | true =>
    have HR : Hid (R = true) := by
     show _ = _
     rw [Bool.and_eq_true, beq_iff_eq, beq_iff_eq] at hxy
     refine HIFF.out.1 ?_
     have := HEK.out
     rw [hxy.1, hxy.2] at this
     exact List.mem_of_getElem? this
    go_wp2
    go_ret
    exact ⟨by rw [HR.out]; rfl, HB.out⟩
   | false =>
    have HNX : Hid (∀ j, j < k + 1 → l[j]? ≠ some (lo, hi)) := fun j hj => by
     rcases Nat.lt_or_ge j k with h | h
     ·exact HALL.out j h
     ·have : j = k := by omega
      subst this
      rw [HEK.out]
      intro he
      cases he
      simp at hxy
    go_wp2
    go_roundw
    case rel => exact ⟨k + 1, by omega, by go_num, HNX.out, HB.out⟩
    case measure => simp [intOf]; omega
  ·obtain rfl : k = l.length := by omega
   have HR : Hid (R = false) := by
    show _ = _
    cases R with
    | false => rfl
    | true =>
     obtain ⟨j, hj⟩ := List.getElem?_of_mem (HIFF.out.2 rfl)
     exact absurd hj (hall j (List.getElem?_eq_some_iff.1 hj).1)
   have HB := Lib.hid hbel
   clear hall hbel
   go_wp2
   go_ret
   exact ⟨by rw [HR.out]; rfl, HB.out⟩
set_option maxRecDepth 100000 in
set_option maxHeartbeats 2000000 in
theorem rmoved_go (v : Value) (n t : Nat) (p : List Int) (w : World) (hp : SlA w v (ints p)) (hw : PosW n p) (hn9 : n ≤ 9) (ht : t < n) :
  Calls Tryd.prog 41 #[v, .int .i64 (t : Nat)] w fun e w' => ∃ v', e = .returned v' ∧ Own 3 w.heap.size w' v' (ints (movedL p t)) ∧ Below w.heap.size w w' := by
 have HHOLE := Lib.hid (fun W (hb : Below w.heap.size w W) => rhole_go v n p W (hp.below hb) hw hn9)
 have hlen := hw.len
 have hh1 := hw.hole.1
 have HMV : Hid (movedL p t = (p.set (holeL p) (p.getD t 0)).set t 0) := rfl
 obtain ⟨h, hh⟩ : ∃ h, holeL p = h := ⟨_, rfl⟩
 rw [hh] at hh1 HMV HHOLE
 have HL := Lib.hid hp
 obtain ⟨q, c, rfl, hc1, hc2⟩ := hp.form
 have hhl : h < p.length := by omega
 have htl : t < p.length := by omega
 have hp9 : p.length ≤ 9 := by omega
 clear hp hw hlen hh
 go_enter Tryd.func41, Tryd.ntmps41
 go_wp2_with (first | (at_builtin; refine wpList_append_sl _ rfl (.tmp 7) (.tmp 8) 23 rfl 3 (.int .i64 0) 8 Tryd.underlying23 Tryd.infoI rfl w.heap.size (.slice none 0 0) [] rfl (World.ownsRow_nil _ _ _ _) (.slice q p.length c) (ints p) rfl HL.out (ints_one _) ?c1 ?c2 (Nat.le_refl _) ?_))
 case c1 => rw [ints_length]; simp [maxLen]; omega
 case c2 => rw [ints_length]; simp; omega
 intro v1 w1 hown hg
 skip
 have hb1 : Below w.heap.size w w1 := (Below.refl _ _).grown hg (Nat.le_refl _) (fun k hk => by cases hk)
 rcases hown.form_ with ⟨rfl, hx0⟩ | ⟨g, co, more, rfl, hg0, hco1, hco2, hce, hr⟩
 ·exfalso
  have h0 : p.length = 0 := by rw [← ints_length, hx0]; rfl
  omega
 ·rw [ints_length] at hco1 hce ⊢
  have HR := Lib.hid hr
  have HB1 := Lib.hid hb1
  have HCE := Lib.hid hce
  have HCO := Lib.hid hco2
  have hco3 : co ≤ 9223372036854775807 := by unfold maxLen at hco2; omega
  clear hown hg hr hb1 hce hco2
  go_wp2_with (first | (go_at_call 40; refine (HHOLE.out _ HB1.out).mono ?_; rintro e w2 ⟨rfl, hb2⟩; have HB2 := Lib.hid (HB1.out.trans (hb2.mono HB1.out.size)); have HR2 := Lib.hid (HR.out.below hb2 HR.out.lt); clear hb2))
  obtain ⟨ad, cap', hv, _, _, hg1, hcm⟩ := (HL.out.below HB2.out).int_at t htl
  cases hv
  obtain ⟨z, hz⟩ : ∃ z, p.getD t 0 = z := ⟨_, rfl⟩
  rw [hz] at hcm HMV
  have hr2 := HR2.out
  have k2 := hr2.cell h
  rw [List.getElem?_append_left (by rw [ints_length]; exact hhl), ints_get _ _ hhl] at k2
  have f2 := hr2.free h
  have hr3 := hr2.store h (.int .i64 z)
  rw [List.set_append_left _ _ (by rw [ints_length]; exact hhl), ints_set] at hr3
  have k3 := hr3.cell t
  rw [List.getElem?_append_left (by rw [ints_length, List.length_set]; exact htl), ints_get _ _ (by rw [List.length_set]; exact htl)] at k3
  have f3 := hr3.free t
  have hr4 := hr3.store t (.int .i64 0)
  rw [List.set_append_left _ _ (by rw [ints_length, List.length_set]; exact htl), ints_set, ← HMV.out] at hr4
  have HR4 := Lib.hid hr4
  have HB4 := Lib.hid ((HB2.out.setCell (p := ⟨g, h, none⟩) hg0 (.int .i64 z)).setCell (p := ⟨g, t, none⟩) hg0 (.int .i64 0))
  obtain ⟨y, hy⟩ : ∃ y, p.getD h 0 = y := ⟨_, rfl⟩
  rw [hy] at k2
  obtain ⟨y3, hy3⟩ : ∃ y3, (p.set h z).getD t 0 = y3 := ⟨_, rfl⟩
  rw [hy3] at k3
  have HLEN : Hid ((movedL p t).length = p.length) := movedL_len p t
  have gh : (h : Int) < (p.length : Int) := by omega
  have gt : (t : Int) < (p.length : Int) := by omega
  clear hz hy hy3 hr2 hr3 hr4
  go_wp2
  rw [show (Instr.indexAt 23 (Value.slice (some ad) p.length c) (Value.int .i64 t)).run Tryd.prog w2 = .ok (.pointer (some (ad.add t))) w2 by go_simp]
  go_wp2
  go_ret
  refine ⟨_, rfl, ?_, HB4.out⟩
  have := Own.of_row (cap := co) HR4.out hg0 HCO.out (by rw [ints_length, HLEN.out]; exact HCE.out)
  rw [ints_length, HLEN.out] at this
  exact this
end Go.Proofs.YtllhejjcmfiebaaDoor
namespace Go.Proofs.YtllhejjcmfiebaaDoor
open Go.RowKit Go.Shelf
theorem rmoved_int (v : Value) (n tn : Nat) (t : Int) (p : List Int) (w : World) (hp : SlA w v (ints p)) (hw : PosW n p) (hn9 : n ≤ 9) (ht : tn < n) (e : t = (tn : Int)) :
  Calls Tryd.prog 41 #[v, .int .i64 t] w fun e w' => ∃ v', e = .returned v' ∧ Own 3 w.heap.size w' v' (ints (movedL p tn)) ∧ Below w.heap.size w w' := by
 subst e
 exact rmoved_go v n tn p w hp hw hn9 ht
end Go.Proofs.YtllhejjcmfiebaaDoor
namespace Go.Proofs.YtllhejjcmfiebaaDoor
open Go.RowKit Go.Shelf
def st9 (w : World) (g : Nat) (F : Nat → Int) : World := ((((((((w.setCell ⟨g, 0, none⟩ (.int .i8 (F 0))).setCell ⟨g, 1, none⟩ (.int .i8 (F 1))).setCell ⟨g, 2, none⟩ (.int .i8 (F 2))).setCell ⟨g, 3, none⟩ (.int .i8 (F 3))).setCell ⟨g, 4, none⟩ (.int .i8 (F 4))).setCell ⟨g, 5, none⟩ (.int .i8 (F 5))).setCell ⟨g, 6, none⟩ (.int .i8 (F 6))).setCell ⟨g, 7, none⟩ (.int .i8 (F 7))).setCell ⟨g, 8, none⟩ (.int .i8 (F 8))
theorem row_st9 {w : World} {g : Nat} {f : Nat → Int} (F : Nat → Int) (h : Row 82 w g (nineL f)) : Row 82 (st9 w g F) g (nineL F) :=
 (((((((((h.store 0 (.int .i8 (F 0))).store 1 (.int .i8 (F 1))).store 2 (.int .i8 (F 2))).store 3 (.int .i8 (F 3))).store 4 (.int .i8 (F 4))).store 5 (.int .i8 (F 5))).store 6 (.int .i8 (F 6))).store 7 (.int .i8 (F 7))).store 8 (.int .i8 (F 8)))
theorem other_st9 {T g' : Nat} {xs : List Value} {w : World} {g : Nat} (F : Nat → Int) (h : Row T w g' xs) (hne : g ≠ g') : Row T (st9 w g F) g' xs :=
 ((((((((h.other ⟨g, 0, none⟩ hne (.int .i8 (F 0))).other ⟨g, 1, none⟩ hne (.int .i8 (F 1))).other ⟨g, 2, none⟩ hne (.int .i8 (F 2))).other ⟨g, 3, none⟩ hne (.int .i8 (F 3))).other ⟨g, 4, none⟩ hne (.int .i8 (F 4))).other ⟨g, 5, none⟩ hne (.int .i8 (F 5))).other ⟨g, 6, none⟩ hne (.int .i8 (F 6))).other ⟨g, 7, none⟩ hne (.int .i8 (F 7))).other ⟨g, 8, none⟩ hne (.int .i8 (F 8))
theorem below_st9 {B : Nat} {w w' : World} {g : Nat} (F : Nat → Int) (h : Below B w w') (hg : B ≤ g) : Below B w (st9 w' g F) :=
 (((((((((h.setCell (p := ⟨g, 0, none⟩) hg (.int .i8 (F 0))).setCell (p := ⟨g, 1, none⟩) hg (.int .i8 (F 1))).setCell (p := ⟨g, 2, none⟩) hg (.int .i8 (F 2))).setCell (p := ⟨g, 3, none⟩) hg (.int .i8 (F 3))).setCell (p := ⟨g, 4, none⟩) hg (.int .i8 (F 4))).setCell (p := ⟨g, 5, none⟩) hg (.int .i8 (F 5))).setCell (p := ⟨g, 6, none⟩) hg (.int .i8 (F 6))).setCell (p := ⟨g, 7, none⟩) hg (.int .i8 (F 7))).setCell (p := ⟨g, 8, none⟩) hg (.int .i8 (F 8)))
set_option maxRecDepth 100000 in
set_option maxHeartbeats 2000000 in
theorem idx_go (f : Nat → Int) (h g : Nat) (w : World) (hr : Row 82 w g (nineL f)) (hh : h < 9) (h0 : f h = 0) (hall : ∀ j, j < h → f j ≠ 0) :
  Calls Tryd.prog 89 #[.slice (some ⟨g, 0, none⟩) 9 9, .int .i8 0] w fun e w' => e = .returned (.int .i64 (h : Nat)) ∧ Below w.heap.size w w' := by
 have HR := Lib.hid hr
 have HALL := Lib.hid hall
 have H0 := Lib.hid h0
 clear hr hall h0
 go_enter Tryd.func89, Tryd.ntmps89
 go_wp2
 go_loopw [8] (fun i wr => ∃ k : Nat, k ≤ h ∧ i = .int .i64 k ∧ Below w.heap.size w wr) (fun i _ => h - (intOf i).toNat)
 case atStart => exact ⟨0, Nat.zero_le _, rfl, Below.refl _ _⟩
 case round =>
  obtain ⟨k, hk, rfl, hbel⟩ := hrel
  have hk9 : k < 9 := by omega
  have gk9 : (k : Int) < 9 := by omega
  have hc := (HR.out.below hbel HR.out.lt).cell k
  rw [nine_get _ hk9] at hc
  have HB := Lib.hid hbel
  clear hbel
  by_cases hkh : k < h
  ·have hne := HALL.out k hkh
   obtain ⟨y, hy⟩ : ∃ y, f k = y := ⟨_, rfl⟩
   rw [hy] at hne hc
   have hd : ((0 : Int) == y) = false := by rw [beq_eq_false_iff_ne]; exact fun e => hne e.symm
   clear hy hne
   go_wp2
   go_roundw
   case rel => exact ⟨k + 1, by omega, by go_num, HB.out⟩
   case measure => simp [intOf]; omega
  ·obtain rfl : k = h := by omega
   rw [H0.out] at hc
   go_wp2
   go_ret
   exact ⟨rfl, HB.out⟩
set_option maxRecDepth 100000 in
set_option maxHeartbeats 2000000 in
theorem hole_go (f : Nat → Int) (h : Nat) (w : World) (hh : h < 9) (h0 : f h = 0) (hall : ∀ j, j < h → f j ≠ 0) :
  Calls Tryd.prog 75 #[nineV f] w fun e w' => e = .returned (.int .i64 (h : Nat)) ∧ Below w.heap.size w w' := by
 have hr := row_new 82 w (nineL f).toArray
 have hb0 := (Below.refl w.heap.size w).alloc (Nat.le_refl _) (.cells (nineL f).toArray 82)
 obtain ⟨W0, hW0⟩ : ∃ W0, w.alloc (.cells (nineL f).toArray 82) = W0 := ⟨_, rfl⟩
 rw [hW0] at hr hb0
 have HI := Lib.hid (idx_go f h w.heap.size W0 hr hh h0 hall)
 have HB0 := Lib.hid hb0
 have hW : w.alloc (.cells #[.int .i8 (f 0), .int .i8 (f 1), .int .i8 (f 2), .int .i8 (f 3), .int .i8 (f 4), .int .i8 (f 5), .int .i8 (f 6), .int .i8 (f 7), .int .i8 (f 8)] 82) = W0 := hW0
 clear hr hb0 h0 hall hW0
 unfold nineV
 go_enter Tryd.func75, Tryd.ntmps75
 go_wp2_with (first | (go_at_call 89; refine (HI.out).mono ?_; rintro e w1 ⟨rfl, hb1⟩; have HB1 := Lib.hid (HB0.out.trans (hb1.mono HB0.out.size)); clear hb1))
 go_ret
 exact ⟨rfl, HB1.out⟩
theorem and_one {q : Nat} (h : q < 512) : bits .and .u16 (q : Int) 1 = ((q % 2 : Nat) : Int) := by
 have := and_u16 (a := q) (b := 1) h (by omega)
 rw [Nat.and_one_is_mod] at this
 exact this
set_option maxRecDepth 100000 in
set_option maxHeartbeats 2000000 in
theorem has_go (s : Nat) (t : Int) (w : World) (hs : s < 512) :
  Calls Tryd.prog 76 #[.int .u16 (s : Nat), .int .i64 t] w fun e w' => e = .returned (.bool (decide (0 ≤ t) && s.testBit t.toNat)) ∧ Below w.heap.size w w' := by
 obtain ⟨B, hB⟩ : ∃ B, (decide (0 ≤ t) && s.testBit t.toNat) = B := ⟨_, rfl⟩
 rw [hB]
 by_cases h0 : 0 ≤ t
 ·obtain ⟨X, rfl⟩ : ∃ X : Nat, t = X := ⟨t.toNat, by omega⟩
  have hB2 : B = decide (s / 2 ^ X % 2 = 1) := by
   rw [← hB, Int.toNat_natCast, bit_fact, decide_eq_true h0]
   rfl
  have hmin : s / 2 ^ (min X 16) = s / 2 ^ X := by
   by_cases h : X ≤ 16
   ·rw [Nat.min_eq_left h]
   ·rw [Nat.min_eq_right (by omega)]
    have h1 : s < 2 ^ 16 := by omega
    have h2 : (2 : Nat) ^ 16 ≤ 2 ^ X := Nat.pow_le_pow_right (by omega) (by omega)
    rw [Nat.div_eq_of_lt h1, Nat.div_eq_of_lt (by omega)]
  obtain ⟨Q, hQ⟩ : ∃ Q, s / 2 ^ X = Q := ⟨_, rfl⟩
  have hq : Q < 512 := by rw [← hQ]; exact Nat.lt_of_le_of_lt (Nat.div_le_self _ _) hs
  have g1 := shr_fact s (min X 16)
  rw [hmin, hQ] at g1
  rw [hQ] at hB2
  have g2 : IntKind.u16.wrap (Q : Int) = (Q : Int) := u16_small hq
  have g3 := and_one hq
  obtain ⟨R, hR⟩ : ∃ R, Q % 2 = R := ⟨_, rfl⟩
  rw [hR] at g3 hB2
  have hd : (((R : Nat) : Int) == 1) = decide (R = 1) := by
   by_cases h : R = 1
   ·subst h; simp
   ·have : ((R : Int) == 1) = false := by rw [beq_eq_false_iff_ne]; omega
    rw [this]; simp [h]
  have HB := Lib.hid hB2
  have HD := Lib.hid hd
  have hX : ¬ ((X : Int) < 0) := by omega
  obtain ⟨V, hV⟩ : ∃ V : Bool, (((R : Nat) : Int) == 1) = V := ⟨_, rfl⟩
  rw [hV] at HD
  clear hQ hR hB hB2 hmin hd
  go_enter Tryd.func76, Tryd.ntmps76
  go_wp2
  go_ret
  exact ⟨by rw [HB.out, ← HD.out]; rfl, Below.refl _ _⟩
 ·have HB : Hid (B = false) := by show _ = _; rw [← hB, decide_eq_false h0]; rfl
  have hX : t < 0 := by omega
  clear hB
  go_enter Tryd.func76, Tryd.ntmps76
  go_wp2
  go_ret
  exact ⟨by rw [HB.out]; rfl, Below.refl _ _⟩
set_option maxRecDepth 100000 in
set_option maxHeartbeats 4000000 in
theorem moved_go (f : Nat → Int) (a b : Nat) (w : World) (ha : a < 9) (hb : b < 9) (hne : a ≠ b) :
  Calls Tryd.prog 77 #[nineV f, .int .i64 (a : Nat), .int .i64 (b : Nat)] w fun e w' => e = .returned (nineV (upd (upd f a (f b)) b (f a))) ∧ Below w.heap.size w w' := by
 have hr0 := (row_new 82 w (nineL f).toArray).alloc (.cells #[.int .i8 0, .int .i8 0, .int .i8 0, .int .i8 0, .int .i8 0, .int .i8 0, .int .i8 0, .int .i8 0, .int .i8 0] 82)
 have hr1 := row_new 82 (w.alloc (.cells (nineL f).toArray 82)) #[.int .i8 0, .int .i8 0, .int .i8 0, .int .i8 0, .int .i8 0, .int .i8 0, .int .i8 0, .int .i8 0, .int .i8 0]
 have hb0 := ((Below.refl w.heap.size w).alloc (Nat.le_refl _) (.cells (nineL f).toArray 82)).alloc (by simp) (.cells #[.int .i8 0, .int .i8 0, .int .i8 0, .int .i8 0, .int .i8 0, .int .i8 0, .int .i8 0, .int .i8 0, .int .i8 0] 82)
 rw [World.size_alloc] at hr1
 obtain ⟨W0, hW0⟩ : ∃ W0, (w.alloc (.cells (nineL f).toArray 82)).alloc (.cells #[.int .i8 0, .int .i8 0, .int .i8 0, .int .i8 0, .int .i8 0, .int .i8 0, .int .i8 0, .int .i8 0, .int .i8 0] 82) = W0 := ⟨_, rfl⟩
 rw [hW0] at hr0 hr1 hb0
 have HR0 : Hid (Row 82 W0 w.heap.size (nineL f)) := hr0
 have HR1 : Hid (Row 82 W0 (w.heap.size + 1) (nineL (ownF 0))) := hr1
 have HB0 := Lib.hid hb0
 have hW : (w.alloc (.cells #[.int .i8 (f 0), .int .i8 (f 1), .int .i8 (f 2), .int .i8 (f 3), .int .i8 (f 4), .int .i8 (f 5), .int .i8 (f 6), .int .i8 (f 7), .int .i8 (f 8)] 82)).alloc (.cells #[.int .i8 0, .int .i8 0, .int .i8 0, .int .i8 0, .int .i8 0, .int .i8 0, .int .i8 0, .int .i8 0, .int .i8 0] 82) = W0 := hW0
 have hba : ((b : Nat) : Int) ≠ (a : Int) := by omega
 clear hr0 hr1 hb0 hW0
 obtain ⟨F, hF⟩ : ∃ F, upd (upd f a (f b)) b (f a) = F := ⟨_, rfl⟩
 rw [hF]
 have ka := HR0.out.cell a
 rw [nine_get _ ha] at ka
 have kb := HR0.out.cell b
 rw [nine_get _ hb] at kb
 have fa := HR0.out.free a
 have fb := HR0.out.free b
 have hs1 := HR0.out.store a (.int .i8 (f b))
 rw [nine_set _ ha] at hs1
 have hs2 := hs1.store b (.int .i8 (f a))
 rw [nine_set _ hb, hF] at hs2
 have hq2 := (HR1.out.other ⟨w.heap.size, a, none⟩ (by dsimp only; omega) (.int .i8 (f b))).other ⟨w.heap.size, b, none⟩ (by dsimp only; omega) (.int .i8 (f a))
 have hb2 := (HB0.out.setCell (p := ⟨w.heap.size, a, none⟩) (Nat.le_refl _) (.int .i8 (f b))).setCell (p := ⟨w.heap.size, b, none⟩) (Nat.le_refl _) (.int .i8 (f a))
 obtain ⟨x, hx⟩ : ∃ x, f a = x := ⟨_, rfl⟩
 obtain ⟨y, hy⟩ : ∃ y, f b = y := ⟨_, rfl⟩
 rw [hx] at ka hs2 hq2 hb2
 rw [hy] at kb hs2 hq2 hb2
 have HS2 := Lib.hid hs2
 have HQ2 := Lib.hid hq2
 have HB2 := Lib.hid hb2
 have ga9 : (a : Int) < 9 := by omega
 have gb9 : (b : Int) < 9 := by omega
 have hx2 : Hid (f a = x) := hx
 clear hs1 hs2 hq2 hb2 hF hx hy HR0 HR1 HB0
 unfold nineV
 go_enter Tryd.func77, Tryd.ntmps77
 go_wp2
 clear hW
 go_region
 generalize hW2 : World.drew _ = W2
 have hs : Row 82 W2 w.heap.size (nineL F) := by rw [← hW2]; exact HS2.out.drew
 have hq : Row 82 W2 (w.heap.size + 1) (nineL (ownF 0)) := by rw [← hW2]; exact HQ2.out.drew
 have hbb : Below w.heap.size w W2 := by rw [← hW2]; exact HB2.out.drew
 clear hW2 HS2 HQ2 HB2 ka kb fa fb
 obtain ⟨c0, c1, c2, c3, c4, c5, c6, c7, c8⟩ := nine_cells hs
 obtain ⟨d0, d1, d2, d3, d4, d5, d6, d7, d8⟩ := nine_cells hq
 have f0 := hq.free 0
 have f1 := hq.free 1
 have f2 := hq.free 2
 have f3 := hq.free 3
 have f4 := hq.free 4
 have f5 := hq.free 5
 have f6 := hq.free 6
 have f7 := hq.free 7
 have f8 := hq.free 8
 have hR2 := row_st9 F hq
 unfold st9 at hR2
 have HR2 := Lib.hid hR2
 have HBB := Lib.hid (below_st9 F hbb (by omega : w.heap.size ≤ w.heap.size + 1))
 clear hs hq hbb hR2
 go_wp2
 obtain ⟨e0, e1, e2, e3, e4, e5, e6, e7, e8⟩ := nine_cells HR2.out
 refine bodyPost_ret (v := nineV F) (by simp [results, Tryd.results77, go_sem, e0, e1, e2, e3, e4, e5, e6, e7, e8, nineV]) rfl ⟨rfl, HBB.out⟩
end Go.Proofs.YtllhejjcmfiebaaDoor
namespace Go.Proofs.YtllhejjcmfiebaaDoor
open Go.RowKit Go.Shelf
theorem posF_hole {N : Nat} {q : List Int} (h : PosW N q) (hN9 : N ≤ 9) : posF q q.length (holeL q) = 0 ∧ (∀ j, j < holeL q → posF q q.length j ≠ 0) ∧ holeL q < 9 := by
 have hl := h.len
 obtain ⟨h1, h2, h3⟩ := h.hole
 refine ⟨?_, fun j hj => ?_, by omega⟩
 ·unfold posF; rw [if_pos (by omega)]; exact h2
 ·unfold posF; rw [if_pos (by omega)]; exact h3 j hj
theorem moved_int (N tn : Nat) (t : Int) (q : List Int) (w : World) (hw : PosW N q) (hN9 : N ≤ 9) (ht : tn < N) (hne : tn ≠ holeL q) (e : t = (tn : Int)) :
  Calls Tryd.prog 77 #[nineV (posF q q.length), .int .i64 (holeL q : Nat), .int .i64 t] w fun e w' => e = .returned (nineV (posF (movedL q tn) (movedL q tn).length)) ∧ Below w.heap.size w w' := by
 subst e
 rw [posF_moved hw ht]
 exact moved_go _ _ _ w (by have := hw.hole.1; omega) (by omega) (fun e => hne e.symm)
def Uq (n : Nat) (q : List Int) : Prop := ∀ j, j < n → q.getD j 0 = 0 → j = holeL q
theorem uq_moved {n t : Nat} {q : List Int} (hw : PosW n q) (hu : Uq n q) (ht : t < n) (hne : t ≠ holeL q) : holeL (movedL q t) = t ∧ Uq n (movedL q t) := by
 have hl := hw.len
 have hh := hw.hole.1
 have hget : ∀ j, (movedL q t).getD j 0 = if t = j then 0 else if holeL q = j then q.getD t 0 else q.getD j 0 := fun j => by
  unfold movedL
  rw [getD_set _ _ _ _ (by simp; omega), getD_set _ _ _ _ (by omega)]
 have key : ∀ j, j < n → (movedL q t).getD j 0 = 0 → j = t := fun j hj h0 => by
  rw [hget] at h0
  by_cases h1 : t = j
  ·exact h1.symm
  ·rw [if_neg h1] at h0
   by_cases h2 : holeL q = j
   ·rw [if_pos h2] at h0
    exact absurd (hu t ht h0) hne
   ·rw [if_neg h2] at h0
    exact absurd (hu j hj h0).symm h2
 have h1 : holeL (movedL q t) = t := by
  refine holeL_eq (by rw [movedL_len]; omega) (by rw [hget, if_pos rfl]) fun j hj h0 => ?_
  have := key j (by omega) h0
  omega
 refine ⟨h1, fun j hj h0 => ?_⟩
 rw [h1]; exact key j hj h0
set_option maxRecDepth 100000 in
set_option maxHeartbeats 4000000 in
theorem apply_go (g N : Nat) (E : Es) (vm : Value) (p m : List Int) (w : World) (hb : BoardR w g N E) (hE : Lt E N) (hne : ∀ e ∈ E, e.1 ≠ e.2) (hN9 : N ≤ 9) (hp : PosW N p) (hu : Uq N p) (hm : SlA w vm (ints m)) (hm40 : m.length ≤ 1000) :
  Calls Tryd.prog 57 #[.pointer (some ⟨g, 0, none⟩), nineV (posF p p.length), vm] w fun e w' => e = .returned (.tuple #[nineV (posF (applyL E p m).1 (applyL E p m).1.length), .int .i64 ((applyL E p m).2 : Nat)]) ∧ Below w.heap.size w w' := by
 have HM := Lib.hid hm
 have HBR := Lib.hid hb
 have HE := Lib.hid hE
 have HNE := Lib.hid hne
 have HP := Lib.hid hp
 have HU := Lib.hid hu
 obtain ⟨pm, cm, rfl, hcm1, hcm2⟩ := hm.form
 have hr0 := (row_new 82 w (nineL (posF p p.length)).toArray).alloc (.cells #[.int .i8 0, .int .i8 0, .int .i8 0, .int .i8 0, .int .i8 0, .int .i8 0, .int .i8 0, .int .i8 0, .int .i8 0] 82)
 have hr1 := row_new 82 (w.alloc (.cells (nineL (posF p p.length)).toArray 82)) #[.int .i8 0, .int .i8 0, .int .i8 0, .int .i8 0, .int .i8 0, .int .i8 0, .int .i8 0, .int .i8 0, .int .i8 0]
 have hb0 := ((Below.refl w.heap.size w).alloc (Nat.le_refl _) (.cells (nineL (posF p p.length)).toArray 82)).alloc (by simp) (.cells #[.int .i8 0, .int .i8 0, .int .i8 0, .int .i8 0, .int .i8 0, .int .i8 0, .int .i8 0, .int .i8 0, .int .i8 0] 82)
 rw [World.size_alloc] at hr1
 obtain ⟨W0, hW0⟩ : ∃ W0, (w.alloc (.cells (nineL (posF p p.length)).toArray 82)).alloc (.cells #[.int .i8 0, .int .i8 0, .int .i8 0, .int .i8 0, .int .i8 0, .int .i8 0, .int .i8 0, .int .i8 0, .int .i8 0] 82) = W0 := ⟨_, rfl⟩
 rw [hW0] at hr0 hr1 hb0
 have HR0 : Hid (Row 82 W0 w.heap.size (nineL (posF p p.length))) := hr0
 have HR1 : Hid (Row 82 W0 (w.heap.size + 1) (nineL (ownF 0))) := hr1
 have HB0 := Lib.hid hb0
 have hph := posF_hole hp hN9
 have HHO := hole_go (posF p p.length) (holeL p) W0 hph.2.2 hph.1 hph.2.1
 obtain ⟨P0, hP0⟩ : ∃ P0, posF p p.length = P0 := ⟨_, rfl⟩
 have HP0 := Lib.hid hP0
 rw [hP0] at hW0 HR0 HHO ⊢
 unfold nineV at HHO
 have HHOLE := Lib.hid HHO
 obtain ⟨c0, c1, c2, c3, c4, c5, c6, c7, c8⟩ := nine_cells HR0.out
 have hW : (w.alloc (.cells #[.int .i8 (P0 0), .int .i8 (P0 1), .int .i8 (P0 2), .int .i8 (P0 3), .int .i8 (P0 4), .int .i8 (P0 5), .int .i8 (P0 6), .int .i8 (P0 7), .int .i8 (P0 8)] 82)).alloc (.cells #[.int .i8 0, .int .i8 0, .int .i8 0, .int .i8 0, .int .i8 0, .int .i8 0, .int .i8 0, .int .i8 0, .int .i8 0] 82) = W0 := hW0
 clear hr0 hr1 hb0 hW0 hm hb hE hne hp hu hph HHO hP0
 have HNV : Hid (nineV P0 = .agg #[.int .i8 (P0 0), .int .i8 (P0 1), .int .i8 (P0 2), .int .i8 (P0 3), .int .i8 (P0 4), .int .i8 (P0 5), .int .i8 (P0 6), .int .i8 (P0 7), .int .i8 (P0 8)]) := rfl
 rw [HNV.out]
 clear HNV
 go_enter Tryd.func57, Tryd.ntmps57
 go_wp2_with (first | (go_at_call 75; refine (HHOLE.out).mono ?_; rintro e w1 ⟨rfl, hb1⟩; have HB1 := Lib.hid (HB0.out.trans (hb1.mono HB0.out.size)); have HQ0 := Lib.hid (HR0.out.below hb1 HR0.out.lt); have HQ1 := Lib.hid (HR1.out.below hb1 HR1.out.lt); clear hb1))
 clear hW c0 c1 c2 c3 c4 c5 c6 c7 c8 HHOLE HR0 HR1 HB0
 have HQ2 : Hid (Row 82 w1 w.heap.size (nineL (posF p p.length))) := by show Row _ _ _ _; rw [HP0.out]; exact HQ0.out
 clear HQ0 HP0
 obtain ⟨wq, hwq0⟩ : ∃ wq : World, wq = w1 := ⟨_, rfl⟩
 subst hwq0
 go_loopw [8, 15] (fun hv i wr => ∃ (k : Nat) (q : List Int), k ≤ m.length ∧ i = .int .i64 k ∧ hv = .int .i64 (holeL q : Nat) ∧ Row 82 wr w.heap.size (nineL (posF q q.length)) ∧ Row 82 wr (w.heap.size + 1) (nineL (ownF 0)) ∧ PosW N q ∧ Uq N q ∧ AtMove E p m k q ∧ Below w.heap.size w wr) (fun _ i _ => m.length - (intOf i).toNat)
 case atStart => exact ⟨0, p, Nat.zero_le _, rfl, rfl, HQ2.out, HQ1.out, HP.out, HU.out, AtMove.start _ _ _, HB1.out⟩
 case round =>
  obtain ⟨k, q, hk, rfl, rfl, hq0, hq1, hwq, huq, hat, hbel⟩ := hrel
  clear HQ2 HQ1 HP HU HB1
  by_cases hlt : k < m.length
  ·obtain ⟨adm, cm', hv, _, _, hadm, hcm⟩ := (HM.out.below hbel).int_at k hlt
   cases hv
   obtain ⟨t, ht⟩ : ∃ t, m.getD k 0 = t := ⟨_, rfl⟩
   rw [ht] at hcm
   have hh := hwq.hole.1
   have hnb := BoardR.next (HBR.out.below hbel HBR.out.lt) (holeL q) (by omega)
   have h512 : nb E (holeL q) < 512 := Nat.lt_of_lt_of_le (nb_lt HE.out (holeL q)) (Nat.pow_le_pow_right (n := 2) (by omega) hN9)
   have HHAS := Lib.hid (fun W => has_go (nb E (holeL q)) t W h512)
   have gk : (k : Int) < (m.length : Int) := by omega
   have hdef : (decide (0 ≤ t) && (nb E (holeL q)).testBit t.toNat) = nearB E (holeL q) t := rfl
   rw [hdef] at HHAS
   cases hB : nearB E (holeL q) t with
   | true =>
    obtain ⟨tn, htn0, htn⟩ := nearB_lt HE.out hB
    have hnt : tn ≠ holeL q := by
     rintro rfl
     have hb2 : (nb E (holeL q)).testBit t.toNat = true := by
      unfold nearB at hB
      rw [Bool.and_eq_true] at hB
      exact hB.2
     rw [htn0, Int.toNat_natCast] at hb2
     rcases (nb_bit E _ _).1 hb2 with hm2 | hm2
     ·exact HNE.out _ hm2 rfl
     ·exact HNE.out _ hm2 rfl
    have HNX := Lib.hid (hat.next hlt (by rw [ht]; exact hB))
    have HWN := Lib.hid (hwq.moved htn)
    rw [ht, show t.toNat = tn by omega] at HNX
    have HMVD := fun W => moved_int N tn t q W hwq hN9 htn hnt htn0
    obtain ⟨hh2, huq2⟩ := uq_moved hwq huq htn hnt
    have HH2 : Hid (Value.int .i64 t = .int .i64 (holeL (movedL q tn) : Nat)) := by show _ = _; rw [hh2, htn0]
    have HU2 := Lib.hid huq2
    rw [hB] at HHAS
    obtain ⟨h, hhe⟩ : ∃ h, holeL q = h := ⟨_, rfl⟩
    obtain ⟨F, hF⟩ : ∃ F, posF q q.length = F := ⟨_, rfl⟩
    obtain ⟨F2, hF2⟩ : ∃ F2, posF (movedL q tn) (movedL q tn).length = F2 := ⟨_, rfl⟩
    have HF2 := Lib.hid hF2
    rw [hhe, hF, hF2] at HMVD
    rw [hhe] at hnb h512 HHAS hh ⊢
    rw [hF] at hq0
    obtain ⟨S, hS⟩ : ∃ S, nb E h = S := ⟨_, rfl⟩
    rw [hS] at hnb HHAS
    unfold nineV at HMVD
    have HMV := Lib.hid HMVD
    have HQ0 := Lib.hid hq0
    have HQ1 := Lib.hid hq1
    have HB := Lib.hid hbel
    have gh9 : (h : Int) < 9 := by omega
    clear hq0 hq1 hbel hwq huq hat ht hB htn hnt htn0 hh2 huq2 hhe hF hF2 HMVD hS h512 hdef
    go_wp2_with (first
     | (go_at_call 77; refine (HMV.out _).mono ?_; rintro e w3 ⟨rfl, hb3⟩; have hz0 := HZ0.out.below hb3 HZ0.out.lt; have hz1 := HZ1.out.below hb3 HZ1.out.lt; have hr2 := row_st9 F2 hz0; unfold st9 at hr2; have HR2 := Lib.hid hr2; have ho2 := other_st9 F2 hz1 (show w.heap.size ≠ w.heap.size + 1 by omega); unfold st9 at ho2; have HO2 := Lib.hid ho2; have hbb := below_st9 F2 (HB2.out.trans (hb3.mono HB2.out.size)) (Nat.le_refl w.heap.size); unfold st9 at hbb; have HBB := Lib.hid hbb; obtain ⟨d0, d1, d2, d3, d4, d5, d6, d7, d8⟩ := nine_cells hz0; have f0 := hz0.free 0; have f1 := hz0.free 1; have f2 := hz0.free 2; have f3 := hz0.free 3; have f4 := hz0.free 4; have f5 := hz0.free 5; have f6 := hz0.free 6; have f7 := hz0.free 7; have f8 := hz0.free 8; clear hb3 hz0 hz1 hr2 ho2 hbb)
     | (go_at_call 76; refine (HHAS.out _).mono ?_; rintro e w2 ⟨rfl, hb2⟩; have HZ0 := Lib.hid (HQ0.out.below hb2 HQ0.out.lt); have HZ1 := Lib.hid (HQ1.out.below hb2 HQ1.out.lt); have HB2 := Lib.hid (HB.out.trans (hb2.mono HB.out.size)); obtain ⟨c0, c1, c2, c3, c4, c5, c6, c7, c8⟩ := nine_cells HZ0.out; clear hb2))
    go_roundw
    case rel => exact ⟨k + 1, movedL q tn, by omega, by go_num, HH2.out, by rw [HF2.out]; exact HR2.out, HO2.out, HWN.out, HU2.out, HNX.out, HBB.out⟩
    case measure => simp [intOf]; omega
   | false =>
    have HST := Lib.hid (hat.stop hlt (by rw [ht]; exact hB))
    rw [hB] at HHAS
    obtain ⟨h, hhe⟩ : ∃ h, holeL q = h := ⟨_, rfl⟩
    obtain ⟨F, hF⟩ : ∃ F, posF q q.length = F := ⟨_, rfl⟩
    have HF := Lib.hid hF
    rw [hhe] at hnb h512 HHAS hh ⊢
    rw [hF] at hq0
    obtain ⟨S, hS⟩ : ∃ S, nb E h = S := ⟨_, rfl⟩
    rw [hS] at hnb HHAS
    have HQ0 := Lib.hid hq0
    have HQ1 := Lib.hid hq1
    have HB := Lib.hid hbel
    have gh9 : (h : Int) < 9 := by omega
    clear hq0 hq1 hbel hwq huq hat ht hB hhe hF hS h512 hdef
    go_wp2_with (first
     | (go_at_call 76; refine (HHAS.out _).mono ?_; rintro e w2 ⟨rfl, hb2⟩; have hz0 := HQ0.out.below hb2 HQ0.out.lt; have hz1 := HQ1.out.below hb2 HQ1.out.lt; have hr2 := row_st9 F hz1; unfold st9 at hr2; have HR2 := Lib.hid hr2; have hbb := below_st9 F (HB.out.trans (hb2.mono HB.out.size)) (by omega : w.heap.size ≤ w.heap.size + 1); unfold st9 at hbb; have HBB := Lib.hid hbb; obtain ⟨c0, c1, c2, c3, c4, c5, c6, c7, c8⟩ := nine_cells hz0; obtain ⟨d0, d1, d2, d3, d4, d5, d6, d7, d8⟩ := nine_cells hz1; have f0 := hz1.free 0; have f1 := hz1.free 1; have f2 := hz1.free 2; have f3 := hz1.free 3; have f4 := hz1.free 4; have f5 := hz1.free 5; have f6 := hz1.free 6; have f7 := hz1.free 7; have f8 := hz1.free 8; clear hb2 hz0 hz1 hr2 hbb))
    obtain ⟨e0, e1, e2, e3, e4, e5, e6, e7, e8⟩ := nine_cells HR2.out
    have hst := HST.out
    rw [hst]
    rw [HF.out]
    refine bodyPost_ret (v := .tuple #[nineV F, .int .i64 (k : Nat)]) (by simp [results, Tryd.results57, go_sem, e0, e1, e2, e3, e4, e5, e6, e7, e8, nineV]) rfl ⟨rfl, HBB.out⟩
  ·obtain rfl : k = m.length := by omega
   have HDN := Lib.hid hat.done
   clear hat
   obtain ⟨F, hF⟩ : ∃ F, posF q q.length = F := ⟨_, rfl⟩
   rw [hF] at hq0
   obtain ⟨c0, c1, c2, c3, c4, c5, c6, c7, c8⟩ := nine_cells hq0
   obtain ⟨d0, d1, d2, d3, d4, d5, d6, d7, d8⟩ := nine_cells hq1
   have f0 := hq1.free 0
   have f1 := hq1.free 1
   have f2 := hq1.free 2
   have f3 := hq1.free 3
   have f4 := hq1.free 4
   have f5 := hq1.free 5
   have f6 := hq1.free 6
   have f7 := hq1.free 7
   have f8 := hq1.free 8
   have hR2 := row_st9 F hq1
   unfold st9 at hR2
   have HR2 := Lib.hid hR2
   have HBB := Lib.hid (below_st9 F hbel (by omega : w.heap.size ≤ w.heap.size + 1))
   have HF := Lib.hid hF
   clear hq0 hq1 hbel hR2 hF
   go_wp2
   obtain ⟨e0, e1, e2, e3, e4, e5, e6, e7, e8⟩ := nine_cells HR2.out
   have hst := HDN.out
   rw [hst]
   rw [HF.out]
   refine bodyPost_ret (v := .tuple #[nineV F, .int .i64 (m.length : Nat)]) (by simp [results, Tryd.results57, go_sem, e0, e1, e2, e3, e4, e5, e6, e7, e8, nineV]) rfl ⟨rfl, HBB.out⟩
end Go.Proofs.YtllhejjcmfiebaaDoor
