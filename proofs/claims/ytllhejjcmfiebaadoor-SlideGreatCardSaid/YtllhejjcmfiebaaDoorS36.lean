/- The reference's Hole, Near, Moved. -/
import Derived.Test.YtllhejjcmfiebaaDoorS29
import Derived.Test.YtllhejjcmfiebaaDoorS31
import Derived.Test.YtllhejjcmfiebaaDoorQR
import Derived.RegionTactic
import Derived.BigRegion
set_option linter.unusedVariables false
set_option linter.unusedSimpArgs false
set_option linter.unnecessarySimpa false
namespace Go.Proofs.YtllhejjcmfiebaaDoor
open Go.RowKit Go.Shelf
attribute [local go_sem] eqP
set_option maxRecDepth 100000 in
set_option maxHeartbeats 2000000 in
theorem rhole_go (v : Value) (n : Nat) (p : List Int) (w : World) (hp : SlA w v (ints p)) (hw : PosW n p) (hn9 : n ≤ 9) :
  Calls Tryd.prog 40 #[v] w fun e w' => e = .returned (.int .i64 (holeL p : Nat)) ∧ Below w.heap.size w w' := by
 have hlen := hw.len
 obtain ⟨hh1, hh2, hh3⟩ := hw.hole
 have HLT := Lib.hid hh3
 have HZ := Lib.hid hh2
 obtain ⟨h, hh⟩ : ∃ h, holeL p = h := ⟨_, rfl⟩
 rw [hh] at hh1 HLT HZ ⊢
 have HL := Lib.hid hp
 obtain ⟨q, c, rfl, hc1, hc2⟩ := hp.form
 have hhl : h < p.length := by omega
 clear hp hw hlen hh hh2 hh3
 go_enter Tryd.func40, Tryd.ntmps40
 go_wp2
 go_loopw [3] (fun i wr => ∃ k : Nat, k ≤ h ∧ i = .int .i64 k ∧ Below w.heap.size w wr) (fun i _ => h - (intOf i).toNat)
 case atStart => exact ⟨0, Nat.zero_le _, rfl, Below.refl _ _⟩
 case round =>
  obtain ⟨k, hk, rfl, hbel⟩ := hrel
  have hkl : k < p.length := by omega
  obtain ⟨ad, cap', hv, _, _, hg, hc⟩ := (HL.out.below hbel).int_at k hkl
  cases hv
  have HB := Lib.hid hbel
  have gk : (k : Int) < (p.length : Int) := by omega
  clear hbel
  by_cases hkh : k < h
  ·have hne := HLT.out k hkh
   obtain ⟨y, hy⟩ : ∃ y, p.getD k 0 = y := ⟨_, rfl⟩
   rw [hy] at hne hc
   have hd : (y != 0) = true := by rw [bne_iff_ne]; exact hne
   clear hy hne
   go_wp2
   go_roundw
   case rel => exact ⟨k + 1, by omega, by go_num, HB.out⟩
   case measure => simp [intOf]; omega
  ·obtain rfl : k = h := by omega
   have hz := HZ.out
   rw [hz] at hc
   clear hz
   go_wp2
   go_ret
   exact ⟨rfl, HB.out⟩
set_option maxRecDepth 100000 in
set_option maxHeartbeats 2000000 in
theorem rnear_go (v : Value) (N a : Nat) (t : Int) (l : Ps) (w : World) (hl : SlP w v l) (hn9 : N ≤ 9) (hok : ∀ j, j < l.length → okAt N l j = true) :
  Calls Tryd.prog 39 #[v, .int .i64 (a : Nat), .int .i64 t] w fun e w' => e = .returned (.bool (nearB (toE l) a t)) ∧ Below w.heap.size w w' := by
 have HIFF := Lib.hid (near_iff hn9 hok a t)
 obtain ⟨R, hR⟩ : ∃ R, nearB (toE l) a t = R := ⟨_, rfl⟩
 obtain ⟨lo, hlo⟩ : ∃ lo, min (a : Int) t = lo := ⟨_, rfl⟩
 obtain ⟨hi, hhi⟩ : ∃ hi, max (a : Int) t = hi := ⟨_, rfl⟩
 rw [hR, hlo, hhi] at HIFF
 rw [hR]
 have HL := Lib.hid hl
 obtain ⟨q, c, rfl, hc1, hc2⟩ := hl.len
 clear hl hok hR
 go_enter Tryd.func39, Tryd.ntmps39
 go_wp2
 go_loopw [7] (fun i wr => ∃ k : Nat, k ≤ l.length ∧ i = .int .i64 k ∧ (∀ j, j < k → l[j]? ≠ some (lo, hi)) ∧ Below w.heap.size w wr) (fun i _ => l.length - (intOf i).toNat)
 case atStart => exact ⟨0, Nat.zero_le _, rfl, fun j hj => by omega, Below.refl _ _⟩
 case round =>
  obtain ⟨k, hk, rfl, hall, hbel⟩ := hrel
  by_cases hlt : k < l.length
  ·obtain ⟨ad, cap', e, hv, hg, hek, d1, d2⟩ := (HL.out.below hbel).at_ k hlt
   cases hv
   obtain ⟨x, y⟩ := e
   dsimp only at d1 d2
   have HB := Lib.hid hbel
   have HALL := Lib.hid hall
   have HEK := Lib.hid hek
   clear hbel hall hek
   cases hxy : (x == lo && y == hi) with
   | true =>
    have HR : Hid (R = true) := by
     show _ = _
     rw [Bool.and_eq_true, beq_iff_eq, beq_iff_eq] at hxy
     refine HIFF.out.1 ?_
     have := HEK.out
     rw [hxy.1, hxy.2] at this
     exact List.mem_of_getElem? this
    go_wp2
    go_ret
    exact ⟨by rw [HR.out]; rfl, HB.out⟩
   | false =>
    have HNX : Hid (∀ j, j < k + 1 → l[j]? ≠ some (lo, hi)) := fun j hj => by
     rcases Nat.lt_or_ge j k with h | h
     ·exact HALL.out j h
     ·have : j = k := by omega
      subst this
      rw [HEK.out]
      intro he
      cases he
      simp at hxy
    go_wp2
    go_roundw
    case rel => exact ⟨k + 1, by omega, by go_num, HNX.out, HB.out⟩
    case measure => simp [intOf]; omega
  ·obtain rfl : k = l.length := by omega
   have HR : Hid (R = false) := by
    show _ = _
    cases R with
    | false => rfl
    | true =>
     obtain ⟨j, hj⟩ := List.getElem?_of_mem (HIFF.out.2 rfl)
     exact absurd hj (hall j (List.getElem?_eq_some_iff.1 hj).1)
   have HB := Lib.hid hbel
   clear hall hbel
   go_wp2
   go_ret
   exact ⟨by rw [HR.out]; rfl, HB.out⟩
set_option maxRecDepth 100000 in
set_option maxHeartbeats 2000000 in
theorem rmoved_go (v : Value) (n t : Nat) (p : List Int) (w : World) (hp : SlA w v (ints p)) (hw : PosW n p) (hn9 : n ≤ 9) (ht : t < n) :
  Calls Tryd.prog 41 #[v, .int .i64 (t : Nat)] w fun e w' => ∃ v', e = .returned v' ∧ Own 3 w.heap.size w' v' (ints (movedL p t)) ∧ Below w.heap.size w w' := by
 have HHOLE := Lib.hid (fun W (hb : Below w.heap.size w W) => rhole_go v n p W (hp.below hb) hw hn9)
 have hlen := hw.len
 have hh1 := hw.hole.1
 have HMV : Hid (movedL p t = (p.set (holeL p) (p.getD t 0)).set t 0) := rfl
 obtain ⟨h, hh⟩ : ∃ h, holeL p = h := ⟨_, rfl⟩
 rw [hh] at hh1 HMV HHOLE
 have HL := Lib.hid hp
 obtain ⟨q, c, rfl, hc1, hc2⟩ := hp.form
 have hhl : h < p.length := by omega
 have htl : t < p.length := by omega
 have hp9 : p.length ≤ 9 := by omega
 clear hp hw hlen hh
 go_enter Tryd.func41, Tryd.ntmps41
 go_wp2_with (first | (at_builtin; refine wpList_append_sl _ rfl (.tmp 7) (.tmp 8) 23 rfl 3 (.int .i64 0) 8 Tryd.underlying23 Tryd.infoI rfl w.heap.size (.slice none 0 0) [] rfl (World.ownsRow_nil _ _ _ _) (.slice q p.length c) (ints p) rfl HL.out (ints_one _) ?c1 ?c2 (Nat.le_refl _) ?_))
 case c1 => rw [ints_length]; simp [maxLen]; omega
 case c2 => rw [ints_length]; simp; omega
 intro v1 w1 hown hg
 skip
 have hb1 : Below w.heap.size w w1 := (Below.refl _ _).grown hg (Nat.le_refl _) (fun k hk => by cases hk)
 rcases hown.form_ with ⟨rfl, hx0⟩ | ⟨g, co, more, rfl, hg0, hco1, hco2, hce, hr⟩
 ·exfalso
  have h0 : p.length = 0 := by rw [← ints_length, hx0]; rfl
  omega
 ·rw [ints_length] at hco1 hce ⊢
  have HR := Lib.hid hr
  have HB1 := Lib.hid hb1
  have HCE := Lib.hid hce
  have HCO := Lib.hid hco2
  have hco3 : co ≤ 9223372036854775807 := by unfold maxLen at hco2; omega
  clear hown hg hr hb1 hce hco2
  go_wp2_with (first | (go_at_call 40; refine (HHOLE.out _ HB1.out).mono ?_; rintro e w2 ⟨rfl, hb2⟩; have HB2 := Lib.hid (HB1.out.trans (hb2.mono HB1.out.size)); have HR2 := Lib.hid (HR.out.below hb2 HR.out.lt); clear hb2))
  obtain ⟨ad, cap', hv, _, _, hg1, hcm⟩ := (HL.out.below HB2.out).int_at t htl
  cases hv
  obtain ⟨z, hz⟩ : ∃ z, p.getD t 0 = z := ⟨_, rfl⟩
  rw [hz] at hcm HMV
  have hr2 := HR2.out
  have k2 := hr2.cell h
  rw [List.getElem?_append_left (by rw [ints_length]; exact hhl), ints_get _ _ hhl] at k2
  have f2 := hr2.free h
  have hr3 := hr2.store h (.int .i64 z)
  rw [List.set_append_left _ _ (by rw [ints_length]; exact hhl), ints_set] at hr3
  have k3 := hr3.cell t
  rw [List.getElem?_append_left (by rw [ints_length, List.length_set]; exact htl), ints_get _ _ (by rw [List.length_set]; exact htl)] at k3
  have f3 := hr3.free t
  have hr4 := hr3.store t (.int .i64 0)
  rw [List.set_append_left _ _ (by rw [ints_length, List.length_set]; exact htl), ints_set, ← HMV.out] at hr4
  have HR4 := Lib.hid hr4
  have HB4 := Lib.hid ((HB2.out.setCell (p := ⟨g, h, none⟩) hg0 (.int .i64 z)).setCell (p := ⟨g, t, none⟩) hg0 (.int .i64 0))
  obtain ⟨y, hy⟩ : ∃ y, p.getD h 0 = y := ⟨_, rfl⟩
  rw [hy] at k2
  obtain ⟨y3, hy3⟩ : ∃ y3, (p.set h z).getD t 0 = y3 := ⟨_, rfl⟩
  rw [hy3] at k3
  have HLEN : Hid ((movedL p t).length = p.length) := movedL_len p t
  have gh : (h : Int) < (p.length : Int) := by omega
  have gt : (t : Int) < (p.length : Int) := by omega
  clear hz hy hy3 hr2 hr3 hr4
  go_wp2
  rw [show (Instr.indexAt 23 (Value.slice (some ad) p.length c) (Value.int .i64 t)).run Tryd.prog w2 = .ok (.pointer (some (ad.add t))) w2 by go_simp]
  go_wp2
  go_ret
  refine ⟨_, rfl, ?_, HB4.out⟩
  have := Own.of_row (cap := co) HR4.out hg0 HCO.out (by rw [ints_length, HLEN.out]; exact HCE.out)
  rw [ints_length, HLEN.out] at this
  exact this
end Go.Proofs.YtllhejjcmfiebaaDoor
namespace Go.Proofs.YtllhejjcmfiebaaDoor
open Go.RowKit Go.Shelf
theorem rmoved_int (v : Value) (n tn : Nat) (t : Int) (p : List Int) (w : World) (hp : SlA w v (ints p)) (hw : PosW n p) (hn9 : n ≤ 9) (ht : tn < n) (e : t = (tn : Int)) :
  Calls Tryd.prog 41 #[v, .int .i64 t] w fun e w' => ∃ v', e = .returned v' ∧ Own 3 w.heap.size w' v' (ints (movedL p tn)) ∧ Below w.heap.size w w' := by
 subst e
 exact rmoved_go v n tn p w hp hw hn9 ht
end Go.Proofs.YtllhejjcmfiebaaDoor
namespace Go.Proofs.YtllhejjcmfiebaaDoor
open Go.RowKit Go.Shelf
def st9 (w : World) (g : Nat) (F : Nat → Int) : World := ((((((((w.setCell ⟨g, 0, none⟩ (.int .i8 (F 0))).setCell ⟨g, 1, none⟩ (.int .i8 (F 1))).setCell ⟨g, 2, none⟩ (.int .i8 (F 2))).setCell ⟨g, 3, none⟩ (.int .i8 (F 3))).setCell ⟨g, 4, none⟩ (.int .i8 (F 4))).setCell ⟨g, 5, none⟩ (.int .i8 (F 5))).setCell ⟨g, 6, none⟩ (.int .i8 (F 6))).setCell ⟨g, 7, none⟩ (.int .i8 (F 7))).setCell ⟨g, 8, none⟩ (.int .i8 (F 8))
theorem row_st9 {w : World} {g : Nat} {f : Nat → Int} (F : Nat → Int) (h : Row 82 w g (nineL f)) : Row 82 (st9 w g F) g (nineL F) :=
 (((((((((h.store 0 (.int .i8 (F 0))).store 1 (.int .i8 (F 1))).store 2 (.int .i8 (F 2))).store 3 (.int .i8 (F 3))).store 4 (.int .i8 (F 4))).store 5 (.int .i8 (F 5))).store 6 (.int .i8 (F 6))).store 7 (.int .i8 (F 7))).store 8 (.int .i8 (F 8)))
theorem below_st9 {B : Nat} {w w' : World} {g : Nat} (F : Nat → Int) (h : Below B w w') (hg : B ≤ g) : Below B w (st9 w' g F) :=
 (((((((((h.setCell (p := ⟨g, 0, none⟩) hg (.int .i8 (F 0))).setCell (p := ⟨g, 1, none⟩) hg (.int .i8 (F 1))).setCell (p := ⟨g, 2, none⟩) hg (.int .i8 (F 2))).setCell (p := ⟨g, 3, none⟩) hg (.int .i8 (F 3))).setCell (p := ⟨g, 4, none⟩) hg (.int .i8 (F 4))).setCell (p := ⟨g, 5, none⟩) hg (.int .i8 (F 5))).setCell (p := ⟨g, 6, none⟩) hg (.int .i8 (F 6))).setCell (p := ⟨g, 7, none⟩) hg (.int .i8 (F 7))).setCell (p := ⟨g, 8, none⟩) hg (.int .i8 (F 8)))
set_option maxRecDepth 100000 in
set_option maxHeartbeats 2000000 in
theorem idx_go (f : Nat → Int) (h g : Nat) (w : World) (hr : Row 82 w g (nineL f)) (hh : h < 9) (h0 : f h = 0) (hall : ∀ j, j < h → f j ≠ 0) :
  Calls Tryd.prog 89 #[.slice (some ⟨g, 0, none⟩) 9 9, .int .i8 0] w fun e w' => e = .returned (.int .i64 (h : Nat)) ∧ Below w.heap.size w w' := by
 have HR := Lib.hid hr
 have HALL := Lib.hid hall
 have H0 := Lib.hid h0
 clear hr hall h0
 go_enter Tryd.func89, Tryd.ntmps89
 go_wp2
 go_loopw [8] (fun i wr => ∃ k : Nat, k ≤ h ∧ i = .int .i64 k ∧ Below w.heap.size w wr) (fun i _ => h - (intOf i).toNat)
 case atStart => exact ⟨0, Nat.zero_le _, rfl, Below.refl _ _⟩
 case round =>
  obtain ⟨k, hk, rfl, hbel⟩ := hrel
  have hk9 : k < 9 := by omega
  have gk9 : (k : Int) < 9 := by omega
  have hc := (HR.out.below hbel HR.out.lt).cell k
  rw [nine_get _ hk9] at hc
  have HB := Lib.hid hbel
  clear hbel
  by_cases hkh : k < h
  ·have hne := HALL.out k hkh
   obtain ⟨y, hy⟩ : ∃ y, f k = y := ⟨_, rfl⟩
   rw [hy] at hne hc
   have hd : ((0 : Int) == y) = false := by rw [beq_eq_false_iff_ne]; exact fun e => hne e.symm
   clear hy hne
   go_wp2
   go_roundw
   case rel => exact ⟨k + 1, by omega, by go_num, HB.out⟩
   case measure => simp [intOf]; omega
  ·obtain rfl : k = h := by omega
   rw [H0.out] at hc
   go_wp2
   go_ret
   exact ⟨rfl, HB.out⟩
set_option maxRecDepth 100000 in
set_option maxHeartbeats 2000000 in
theorem hole_go (f : Nat → Int) (h : Nat) (w : World) (hh : h < 9) (h0 : f h = 0) (hall : ∀ j, j < h → f j ≠ 0) :
  Calls Tryd.prog 75 #[nineV f] w fun e w' => e = .returned (.int .i64 (h : Nat)) ∧ Below w.heap.size w w' := by
 have hr := row_new 82 w (nineL f).toArray
 have hb0 := (Below.refl w.heap.size w).alloc (Nat.le_refl _) (.cells (nineL f).toArray 82)
 obtain ⟨W0, hW0⟩ : ∃ W0, w.alloc (.cells (nineL f).toArray 82) = W0 := ⟨_, rfl⟩
 rw [hW0] at hr hb0
 have HI := Lib.hid (idx_go f h w.heap.size W0 hr hh h0 hall)
 have HB0 := Lib.hid hb0
 have hW : w.alloc (.cells #[.int .i8 (f 0), .int .i8 (f 1), .int .i8 (f 2), .int .i8 (f 3), .int .i8 (f 4), .int .i8 (f 5), .int .i8 (f 6), .int .i8 (f 7), .int .i8 (f 8)] 82) = W0 := hW0
 clear hr hb0 h0 hall hW0
 unfold nineV
 go_enter Tryd.func75, Tryd.ntmps75
 go_wp2_with (first | (go_at_call 89; refine (HI.out).mono ?_; rintro e w1 ⟨rfl, hb1⟩; have HB1 := Lib.hid (HB0.out.trans (hb1.mono HB0.out.size)); clear hb1))
 go_ret
 exact ⟨rfl, HB1.out⟩
set_option maxRecDepth 100000 in
set_option maxHeartbeats 4000000 in
theorem moved_go (f : Nat → Int) (a b : Nat) (w : World) (ha : a < 9) (hb : b < 9) (hne : a ≠ b) :
  Calls Tryd.prog 77 #[nineV f, .int .i64 (a : Nat), .int .i64 (b : Nat)] w fun e w' => e = .returned (nineV (upd (upd f a (f b)) b (f a))) ∧ Below w.heap.size w w' := by
 have hr0 := (row_new 82 w (nineL f).toArray).alloc (.cells #[.int .i8 0, .int .i8 0, .int .i8 0, .int .i8 0, .int .i8 0, .int .i8 0, .int .i8 0, .int .i8 0, .int .i8 0] 82)
 have hr1 := row_new 82 (w.alloc (.cells (nineL f).toArray 82)) #[.int .i8 0, .int .i8 0, .int .i8 0, .int .i8 0, .int .i8 0, .int .i8 0, .int .i8 0, .int .i8 0, .int .i8 0]
 have hb0 := ((Below.refl w.heap.size w).alloc (Nat.le_refl _) (.cells (nineL f).toArray 82)).alloc (by simp) (.cells #[.int .i8 0, .int .i8 0, .int .i8 0, .int .i8 0, .int .i8 0, .int .i8 0, .int .i8 0, .int .i8 0, .int .i8 0] 82)
 rw [World.size_alloc] at hr1
 obtain ⟨W0, hW0⟩ : ∃ W0, (w.alloc (.cells (nineL f).toArray 82)).alloc (.cells #[.int .i8 0, .int .i8 0, .int .i8 0, .int .i8 0, .int .i8 0, .int .i8 0, .int .i8 0, .int .i8 0, .int .i8 0] 82) = W0 := ⟨_, rfl⟩
 rw [hW0] at hr0 hr1 hb0
 have HR0 : Hid (Row 82 W0 w.heap.size (nineL f)) := hr0
 have HR1 : Hid (Row 82 W0 (w.heap.size + 1) (nineL (ownF 0))) := hr1
 have HB0 := Lib.hid hb0
 have hW : (w.alloc (.cells #[.int .i8 (f 0), .int .i8 (f 1), .int .i8 (f 2), .int .i8 (f 3), .int .i8 (f 4), .int .i8 (f 5), .int .i8 (f 6), .int .i8 (f 7), .int .i8 (f 8)] 82)).alloc (.cells #[.int .i8 0, .int .i8 0, .int .i8 0, .int .i8 0, .int .i8 0, .int .i8 0, .int .i8 0, .int .i8 0, .int .i8 0] 82) = W0 := hW0
 have hba : ((b : Nat) : Int) ≠ (a : Int) := by omega
 clear hr0 hr1 hb0 hW0
 obtain ⟨F, hF⟩ : ∃ F, upd (upd f a (f b)) b (f a) = F := ⟨_, rfl⟩
 rw [hF]
 have ka := HR0.out.cell a
 rw [nine_get _ ha] at ka
 have kb := HR0.out.cell b
 rw [nine_get _ hb] at kb
 have fa := HR0.out.free a
 have fb := HR0.out.free b
 have hs1 := HR0.out.store a (.int .i8 (f b))
 rw [nine_set _ ha] at hs1
 have hs2 := hs1.store b (.int .i8 (f a))
 rw [nine_set _ hb, hF] at hs2
 have hq2 := (HR1.out.other ⟨w.heap.size, a, none⟩ (by dsimp only; omega) (.int .i8 (f b))).other ⟨w.heap.size, b, none⟩ (by dsimp only; omega) (.int .i8 (f a))
 have hb2 := (HB0.out.setCell (p := ⟨w.heap.size, a, none⟩) (Nat.le_refl _) (.int .i8 (f b))).setCell (p := ⟨w.heap.size, b, none⟩) (Nat.le_refl _) (.int .i8 (f a))
 obtain ⟨x, hx⟩ : ∃ x, f a = x := ⟨_, rfl⟩
 obtain ⟨y, hy⟩ : ∃ y, f b = y := ⟨_, rfl⟩
 rw [hx] at ka hs2 hq2 hb2
 rw [hy] at kb hs2 hq2 hb2
 have HS2 := Lib.hid hs2
 have HQ2 := Lib.hid hq2
 have HB2 := Lib.hid hb2
 have ga9 : (a : Int) < 9 := by omega
 have gb9 : (b : Int) < 9 := by omega
 have hx2 : Hid (f a = x) := hx
 clear hs1 hs2 hq2 hb2 hF hx hy HR0 HR1 HB0
 unfold nineV
 go_enter Tryd.func77, Tryd.ntmps77
 go_wp2
 clear hW
 go_region
 generalize hW2 : World.drew _ = W2
 have hs : Row 82 W2 w.heap.size (nineL F) := by rw [← hW2]; exact HS2.out.drew
 have hq : Row 82 W2 (w.heap.size + 1) (nineL (ownF 0)) := by rw [← hW2]; exact HQ2.out.drew
 have hbb : Below w.heap.size w W2 := by rw [← hW2]; exact HB2.out.drew
 clear hW2 HS2 HQ2 HB2 ka kb fa fb
 obtain ⟨c0, c1, c2, c3, c4, c5, c6, c7, c8⟩ := nine_cells hs
 obtain ⟨d0, d1, d2, d3, d4, d5, d6, d7, d8⟩ := nine_cells hq
 have f0 := hq.free 0
 have f1 := hq.free 1
 have f2 := hq.free 2
 have f3 := hq.free 3
 have f4 := hq.free 4
 have f5 := hq.free 5
 have f6 := hq.free 6
 have f7 := hq.free 7
 have f8 := hq.free 8
 have hR2 := row_st9 F hq
 unfold st9 at hR2
 have HR2 := Lib.hid hR2
 have HBB := Lib.hid (below_st9 F hbb (by omega : w.heap.size ≤ w.heap.size + 1))
 clear hs hq hbb hR2
 go_wp2
 obtain ⟨e0, e1, e2, e3, e4, e5, e6, e7, e8⟩ := nine_cells HR2.out
 refine bodyPost_ret (v := nineV F) (by simp [results, Tryd.results77, go_sem, e0, e1, e2, e3, e4, e5, e6, e7, e8, nineV]) rfl ⟨rfl, HBB.out⟩
end Go.Proofs.YtllhejjcmfiebaaDoor
namespace Go.Proofs.YtllhejjcmfiebaaDoor
open Go.RowKit Go.Shelf
theorem posF_hole {N : Nat} {q : List Int} (h : PosW N q) (hN9 : N ≤ 9) : posF q q.length (holeL q) = 0 ∧ (∀ j, j < holeL q → posF q q.length j ≠ 0) ∧ holeL q < 9 := by
 have hl := h.len
 obtain ⟨h1, h2, h3⟩ := h.hole
 refine ⟨?_, fun j hj => ?_, by omega⟩
 ·unfold posF; rw [if_pos (by omega)]; exact h2
 ·unfold posF; rw [if_pos (by omega)]; exact h3 j hj
theorem moved_int (N tn : Nat) (t : Int) (q : List Int) (w : World) (hw : PosW N q) (hN9 : N ≤ 9) (ht : tn < N) (hne : tn ≠ holeL q) (e : t = (tn : Int)) :
  Calls Tryd.prog 77 #[nineV (posF q q.length), .int .i64 (holeL q : Nat), .int .i64 t] w fun e w' => e = .returned (nineV (posF (movedL q tn) (movedL q tn).length)) ∧ Below w.heap.size w w' := by
 subst e
 rw [posF_moved hw ht]
 exact moved_go _ _ _ w (by have := hw.hole.1; omega) (by omega) (fun e => hne e.symm)
end Go.Proofs.YtllhejjcmfiebaaDoor
