/- The search: count, farthest. -/
import Derived.Test.YtllhejjcmfiebaaDoorNC
import Derived.Test.YtllhejjcmfiebaaDoorS37
set_option linter.unusedVariables false
set_option linter.unusedSimpArgs false
set_option linter.unnecessarySimpa false
namespace Go.Proofs.YtllhejjcmfiebaaDoor
open Go.RowKit Go.Shelf
def ck (E : Es) (N : Nat) (p : List Int) : Nat → Nat
 | 0 => 0
 | i + 1 => (lv E N p i).1.length
theorem ck_next (E : Es) (N : Nat) (p : List Int) : ∀ i, ck E N p (i + 1) = ck E N p i + (lv E N p i).2.length
 | 0 => by show [p].length = 0 + [p].length; omega
 | i + 1 => by
  show (lv E N p (i + 1)).1.length = (lv E N p i).1.length + (lv E N p (i + 1)).2.length
  have ht : (lv E N p (i + 1)).1 = (lv E N p i).1 ++ (lv E N p (i + 1)).2 := lvl_tail _ p i
  rw [ht, List.length_append]
set_option maxRecDepth 100000 in
set_option maxHeartbeats 4000000 in
theorem bcount_go (N g : Nat) (E : Es) (p : List Int) (w : World) (hp : PosP N p) (hN2 : 2 ≤ N) (hN9 : N ≤ 9) (hE : Lt E N) (hne : Ne2 E) (hb : BoardR w g N E) (hT : Tab w) :
  Calls Tryd.prog 60 #[.pointer (some ⟨g, 0, none⟩), nineV (posF p p.length)] w fun e w' => ∃ k, LastAt E N p k ∧ e = .returned (.int .i64 ((lv E N p k).1.length : Nat)) ∧ Below w.heap.size w w' := by
 obtain ⟨P0, hP0⟩ : ∃ P0, posF p p.length = P0 := ⟨_, rfl⟩
 have hb1 := row_new 82 w (nineL P0).toArray
 have hbw1 := below_alloc_refl w (.cells (nineL P0).toArray 82)
 obtain ⟨B, hB⟩ : ∃ B, w.heap.size = B := ⟨_, rfl⟩
 obtain ⟨W1, hW1⟩ : ∃ W1, w.alloc (.cells (nineL P0).toArray 82) = W1 := ⟨_, rfl⟩
 rw [hW1] at hb1 hbw1
 rw [hB] at hb1
 have hW : w.alloc (.cells #[.int .i8 (P0 0), .int .i8 (P0 1), .int .i8 (P0 2), .int .i8 (P0 3), .int .i8 (P0 4), .int .i8 (P0 5), .int .i8 (P0 6), .int .i8 (P0 7), .int .i8 (P0 8)] 82) = W1 := hW1
 obtain ⟨c0, c1, c2, c3, c4, c5, c6, c7, c8⟩ := nine_cells hb1
 have HLV := Lib.hid (levels_go N g E p W1 hp hN2 hN9 hE hne (Row.below hb hbw1 (Row.lt hb)) (hT.below hbw1 hT.lt))
 have HB1 := Lib.hid hbw1
 have hfl := fact_mono hN9
 rw [fact9] at hfl
 have HF1 := Lib.hid (fun k => Nat.le_trans (lv_few (E := E) hp k) hfl)
 rw [hP0] at HLV ⊢
 unfold nineV at HLV
 clear hb1 hbw1 hp hE hne hb hT hP0 hfl hW1
 unfold nineV
 rw [hB]
 go_enter Tryd.func60, Tryd.ntmps60
 go_wp2_with fail
 refine (HLV.out).mono ?_
 rintro e w2 ⟨v, vs, kk, rfl, hla, hown, hvl, hel, hb2⟩
 obtain ⟨po, co, ho, hco1, hco2⟩ := OwnK.len hown
 subst ho
 obtain ⟨_, _, hv', _, _, _, hcx⟩ := hown.sl.toA
 obtain ⟨ado, hado, hgo, hcells⟩ := hcx (by omega)
 injection hv' with e1 _ _
 subst e1
 subst hado
 have HLA := Lib.hid hla
 have HEL := Lib.hid hel
 have HCE := Lib.hid hcells
 have HGO := Lib.hid hgo
 have HB2 := Lib.hid (HB1.out.trans (hb2.mono HB1.out.size))
 have HVL := Lib.hid hvl
 have hkk : kk < 362881 := by
  have h1 := HF1.out kk
  have h2 := lv_deep kk hla.1
  omega
 clear hla hown hcells hgo hb2 hcx hel HLV HB1 c0 c1 c2 c3 c4 c5 c6 c7 c8 hW
 go_wp2
 go_loopw [5, 12] (fun ov iv wr => ∃ i : Nat, i ≤ vs.length ∧ iv = .int .i64 (i : Nat) ∧ ov = .int .i64 (ck E N p i : Nat) ∧ Below w2.heap.size w2 wr) (fun _ iv _ => vs.length - (intOf iv).toNat)
 case atStart => exact ⟨0, Nat.zero_le _, rfl, rfl, Below.refl _ _⟩
 case round =>
  obtain ⟨i, hi, rfl, rfl, hbel⟩ := hrel
  by_cases hlt : i < vs.length
  ·obtain ⟨u, hu⟩ : ∃ u, vs[i]? = some u := ⟨_, List.getElem?_eq_getElem hlt⟩
   have hcu : wr.cell? (ado.add i) = some u := by
    rw [hbel.cell (p := ado.add i) (by rw [block_add]; exact HGO.out), HCE.out i hlt, hu]
   obtain ⟨pu, cu, rfl, hcu1, hcu2⟩ := (HEL.out i u hu).len
   have gi1 : (i : Int) < (vs.length : Int) := by omega
   have gwi : IntKind.i64.wrap ((i : Int) + 1) = (i : Int) + 1 := by rw [show (i : Int) + 1 = ((i + 1 : Nat) : Int) by omega]; exact IntWalk.i64_in _ (by have := HVL.out; omega)
   have HB := Lib.hid hbel
   have hz3 : ck E N p (i + 1) ≤ 362880 := HF1.out i
   have hzn := ck_next E N p i
   obtain ⟨y, hy⟩ : ∃ y, (lv E N p i).2.length = y := ⟨_, rfl⟩
   obtain ⟨z, hz⟩ : ∃ z, ck E N p i = z := ⟨_, rfl⟩
   obtain ⟨zz, hzz⟩ : ∃ zz, ck E N p (i + 1) = zz := ⟨_, rfl⟩
   rw [hy] at hcu hcu1 hzn
   rw [hz] at hzn ⊢
   rw [hzz] at hzn hz3
   have HZZ := Lib.hid hzz
   have gwz : IntKind.i64.wrap ((z : Int) + (y : Int)) = (zz : Int) := by rw [show (z : Int) + (y : Int) = ((zz : Nat) : Int) by omega]; exact IntWalk.i64_in _ (by omega)
   clear hbel hu hy hz hzz hzn
   go_wp2
   go_roundw
   case rel => exact ⟨i + 1, by omega, by go_num, by rw [HZZ.out], HB.out⟩
   case measure => simp [intOf]; omega
  ·obtain rfl : vs.length = i := by omega
   have HBE := Lib.hid (HB2.out.trans (hbel.mono HB2.out.size))
   clear hbel
   have hzk : ck E N p vs.length = (lv E N p kk).1.length := by rw [HVL.out]; rfl
   rw [hzk]
   clear hzk
   go_wp2
   go_ret
   exact ⟨kk, HLA.out, rfl, by rw [← hB]; exact HBE.out⟩
set_option maxRecDepth 100000 in
set_option maxHeartbeats 4000000 in
theorem scount_go (v vp : Value) (N : Nat) (l : Ps) (p : List Int) (w : World) (hl : SlP w v l) (ht : Tab w) (hp : SlA w vp (ints p)) (hch : checkB (N : Int) l = 0) (hpe : posE (N : Int) p = 0) (hP : PosP N p) :
  Calls Tryd.prog 26 #[.int .i64 (N : Nat), v, vp] w fun e w' => ∃ k, LastAt (toE l) N p k ∧ e = .returned (.tuple #[.int .i64 ((lv (toE l) N p k).1.length : Nat), .int .i64 0]) ∧ Below w.heap.size w w' := by
 obtain ⟨N', hN', h2, h9, hlen, hr⟩ := posE_zero hpe
 obtain rfl : N = N' := by omega
 obtain ⟨N', hN'', _, _, hE⟩ := check_lt hch
 obtain rfl : N = N' := by omega
 have hne := ne2_of h9 hch
 obtain ⟨pp, cp, rfl, hcp1, hcp2⟩ := hp.form
 have hb0 := (Below.refl w.heap.size w).alloc (Nat.le_refl _) (.cells #[.slice pp p.length cp] 23)
 have HG := Lib.hid (given_one v (.slice pp p.length cp) w.heap.size N l p _ (hl.below hb0) (ht.below hb0 ht.lt) (hp.below hb0) (row_new 23 w #[.slice pp p.length cp]) hch hpe)
 have HB0 := Lib.hid hb0
 have HAP := Lib.hid (fun (b : Nat) W (hb : Below w.heap.size w W) (hbr : BoardR W b N (toE l)) => bcount_go N b (toE l) p W hP h2 h9 hE hne hbr (ht.below hb ht.lt))
 obtain ⟨P, hPP⟩ : ∃ P, posF p p.length = P := ⟨_, rfl⟩
 rw [hPP] at HG HAP
 unfold nineV at HAP
 obtain ⟨pl, cl, rfl, hl1, hl2⟩ := hl.len
 clear hl ht hp hch hpe hb0 hPP hP hne hE hr hlen hN' hN''
 go_enter Tryd.func26, Tryd.ntmps26
 go_wp2_with (first
  | (go_at_call 49; refine (HG.out).mono ?_; rintro e w1 ⟨b, ps, rfl, hbr, hown, hb1⟩; have HB1 := Lib.hid (HB0.out.trans (hb1.mono HB0.out.size)); have HBR := Lib.hid hbr; obtain ⟨g2, c2, rfl, hg21, hg22, hg23, hg24, hcells⟩ := hown.at_ (by omega); have d0 := hcells 0 (by omega); have d1 := hcells 1 (by omega); have d2 := hcells 2 (by omega); have d3 := hcells 3 (by omega); have d4 := hcells 4 (by omega); have d5 := hcells 5 (by omega); have d6 := hcells 6 (by omega); have d7 := hcells 7 (by omega); have d8 := hcells 8 (by omega); rw [nine_get _ (by omega)] at d0 d1 d2 d3 d4 d5 d6 d7 d8; clear hb1 hbr hown hcells)
  | (go_at_call 60; refine (HAP.out b _ HB1.out HBR.out).mono ?_; rintro e w2 ⟨k, hk, rfl, hb2⟩; have HK := Lib.hid hk; have HB2 := Lib.hid (HB1.out.trans (hb2.mono HB1.out.size)); obtain ⟨Z, hZ⟩ : ∃ Z, (lv (toE l) N p k).1.length = Z := ⟨_, rfl⟩; have HZ := Lib.hid hZ; rw [hZ]; clear hb2 hk hZ))
 go_ret2
 exact ⟨k, HK.out, by rw [HZ.out]; rfl, HB2.out⟩
end Go.Proofs.YtllhejjcmfiebaaDoor
