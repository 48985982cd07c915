/- The program's Apply. -/
import Derived.Test.YtllhejjcmfiebaaDoorS36
set_option linter.unusedVariables false
set_option linter.unusedSimpArgs false
set_option linter.unnecessarySimpa false
namespace Go.Proofs.YtllhejjcmfiebaaDoor
open Go.RowKit Go.Shelf
theorem Tryd.infoPos : (Tryd.prog.info? 82).map (fun i => (i.zero, i.size, i.bytes)) = some (some (.agg #[.int .i8 0, .int .i8 0, .int .i8 0, .int .i8 0, .int .i8 0, .int .i8 0, .int .i8 0, .int .i8 0, .int .i8 0]), 9, 9) := by kernel_rfl
theorem posB_of {n : Int} {q : List Int} (h : posE n q = 0) : posB n.toNat q = true := by
 unfold posE posR at h
 split at h
 ·rename_i hh
  rw [Bool.and_eq_true] at hh
  exact hh.2
 ·cases h
set_option maxRecDepth 100000 in
set_option maxHeartbeats 4000000 in
theorem given_one (v vp : Value) (g N : Nat) (l : Ps) (q : List Int) (w : World) (hl : SlP w v l) (ht : Tab w) (hq : SlA w vp (ints q))
  (hrow : Row 23 w g [vp]) (h : checkB (N : Int) l = 0) (hp : posE (N : Int) q = 0) :
  Calls Tryd.prog 49 #[.int .i64 (N : Nat), v, .slice (some ⟨g, 0, none⟩) 1 1] w fun e w' => ∃ (b : Nat) (ps : Value), e = .returned (.tuple #[.pointer (some ⟨b, 0, none⟩), ps, .int .i64 0]) ∧ BoardR w' b N (toE l) ∧
   OwnK 82 9 w.heap.size w' ps 1 (nineL (posF q q.length)) ∧ Below w.heap.size w w' := by
 have HN := Lib.hid (new_go v N l w hl ht)
 obtain ⟨N', hN', h2, h9, hlen, hr⟩ := posE_zero hp
 obtain rfl : N = N' := by omega
 have hpb := posB_of hp
 rw [Int.toNat_natCast] at hpb
 have HP := Lib.hid (fun W (hb : Below w.heap.size w W) => isPos_go vp N q W (hq.below hb) (by omega) (by omega))
 rw [hpb] at HP
 have HNP := fun W (hb : Below w.heap.size w W) => newPos_go vp N q W (hq.below hb) h9 hlen hr
 obtain ⟨F, hF⟩ : ∃ F, posF q q.length = F := ⟨_, rfl⟩
 rw [hF] at HNP ⊢
 unfold nineV at HNP
 have HNEW := Lib.hid HNP
 have HR := Lib.hid (fun W (hb : Below w.heap.size w W) => hrow.below hb hrow.lt)
 rw [h, Int.toNat_natCast] at HN
 obtain ⟨p, cap, rfl, hl1, hl2⟩ := hl.len
 obtain ⟨pq, cq, rfl, hq1, hq2⟩ := hq.form
 clear hl ht h hp hpb hq hrow HNP hN' hlen hr hF
 go_enter Tryd.func49, Tryd.ntmps49
 go_wp2_with (first | (go_at_call 67; refine (HN.out).mono ?_; rintro e w1 ⟨-, he, hb1⟩; obtain ⟨b, rfl, hbb, hbr⟩ := he rfl; have HB1 := Lib.hid hb1; have HBR := Lib.hid hbr; clear he hb1 hbr))
 go_loopw [11, 25] (fun ps i wr => ((i = .int .i64 0 ∧ ps = .slice none 0 0) ∨ (i = .int .i64 1 ∧ OwnK 82 9 w.heap.size wr ps 1 (nineL F))) ∧ BoardR wr b N (toE l) ∧ Below w.heap.size w wr) (fun _ i _ => 1 - (intOf i).toNat)
 case atStart => exact ⟨.inl ⟨rfl, rfl⟩, HBR.out, HB1.out⟩
 case round =>
  obtain ⟨hi, hbr, hbel⟩ := hrel
  have HBD := Lib.hid hbr
  have HB := Lib.hid hbel
  clear HBR HB1
  rcases hi with ⟨rfl, rfl⟩ | ⟨rfl, hown⟩
  ·have hrw := HR.out _ hbel
   have k0 := hrw.cell 0
   simp only [List.getElem?_cons_zero] at k0
   clear hbel hrw hbr
   go_wp2_with (first
    | (go_at_call 51; refine (HP.out _ HB.out).mono ?_; rintro e w2 ⟨rfl, hb2⟩; have HB2 := Lib.hid (HB.out.trans (hb2.mono HB.out.size)); have HBD2 := Lib.hid (Row.below HBD.out hb2 (Row.lt HBD.out)); clear hb2)
    | (go_at_call 52; refine (HNEW.out _ HB2.out).mono ?_; rintro e w3 ⟨rfl, hb3⟩; have HB3 := Lib.hid (HB2.out.trans (hb3.mono HB2.out.size)); have HBD3 := Lib.hid (Row.below HBD2.out hb3 (Row.lt HBD2.out)); clear hb3)
    | (at_builtin; refine wpList_append_boxK w3 rfl (.tmp 33) (.tmp 36) 76 rfl 82 _ 9 9 Tryd.underlying76 Tryd.infoPos rfl (by omega) (by omega) w.heap.size (.slice none 0 0) 0 [] rfl (World.ownsRow_nil _ _ _ _) _ ?c9 _ rfl ?c0 ?c1 ?c2 ?c3 ?_))
   try (case c9 => rfl)
   case c0 => rfl
   case c1 => simp [Value.oneCell']
   case c2 => omega
   case c3 => exact HB3.out.size
   intro v1 w4 ho hb hkp hrp
   have HO := Lib.hid ho
   have HBD4 := Lib.hid (hrp _ _ _ (by decide) HBD3.out)
   have HB4 := Lib.hid (HB3.out.trans hb)
   clear ho hb hkp hrp
   go_wp2
   go_roundw
   case rel => exact ⟨.inr ⟨by go_num, HO.out⟩, HBD4.out, HB4.out⟩
   case measure => simp [intOf]
  ·have HO := Lib.hid hown
   clear hown hbel hbr
   go_wp2
   go_ret3
   exact ⟨b, _, rfl, HBD.out, HO.out, HB.out⟩
set_option maxRecDepth 100000 in
set_option maxHeartbeats 4000000 in
theorem list_go (f : Nat → Int) (n : Nat) (w : World) (hn9 : n ≤ 9) (hs : Sm f) :
  Calls Tryd.prog 58 #[nineV f, .int .i64 (n : Nat)] w fun e w' => ∃ v, e = .returned v ∧ Own 3 w.heap.size w' v (ints ((List.range n).map f)) ∧ Below w.heap.size w w' := by
 have hr := row_new 82 w (nineL f).toArray
 have hb0 := (Below.refl w.heap.size w).alloc (Nat.le_refl _) (.cells (nineL f).toArray 82)
 obtain ⟨W0, hW0⟩ : ∃ W0, w.alloc (.cells (nineL f).toArray 82) = W0 := ⟨_, rfl⟩
 rw [hW0] at hr hb0
 have HR0 : Hid (Row 82 W0 w.heap.size (nineL f)) := hr
 have HB0 := Lib.hid hb0
 have HS := Lib.hid hs
 have hW : w.alloc (.cells #[.int .i8 (f 0), .int .i8 (f 1), .int .i8 (f 2), .int .i8 (f 3), .int .i8 (f 4), .int .i8 (f 5), .int .i8 (f 6), .int .i8 (f 7), .int .i8 (f 8)] 82) = W0 := hW0
 clear hr hb0 hW0 hs
 have gn9 : (n : Int) ≤ 9 := by omega
 have gn0 : (0 : Int) ≤ (n : Int) := by omega
 unfold nineV
 go_enter Tryd.func58, Tryd.ntmps58
 go_wp2
 clear hW
 go_loopw [5, 11] (fun ov i wr => ∃ k : Nat, k ≤ n ∧ i = .int .i64 k ∧ Own 3 (w.heap.size + 1) wr ov (ints ((List.range k).map f)) ∧ Row 82 wr w.heap.size (nineL f) ∧ Below w.heap.size w wr) (fun _ i _ => n - (intOf i).toNat)
 case atStart => exact ⟨0, Nat.zero_le _, rfl, World.ownsRow_nil _ _ _ _, HR0.out, HB0.out⟩
 case round =>
  obtain ⟨k, hk, rfl, hown, hrow, hbel⟩ := hrel
  clear HR0 HB0
  by_cases hlt : k < n
  ·have hk9 : k < 9 := by omega
   have gkn : (k : Int) < (n : Int) := by omega
   have hc := hrow.cell k
   rw [nine_get _ hk9] at hc
   have hsm := HS.out k hk9
   have gw : IntKind.i64.wrap (f k) = f k := IntWalk.i64_in _ (by omega)
   have HSN : Hid (ints ((List.range (k + 1)).map f) = ints ((List.range k).map f) ++ [.int .i64 (f k)]) := by show _ = _; rw [List.range_succ, List.map_append, ints_append]; rfl
   obtain ⟨y, hy⟩ : ∃ y, f k = y := ⟨_, rfl⟩
   rw [hy] at hc gw HSN
   have hlen : (ints ((List.range k).map f)).length = k := by rw [ints_length]; simp
   have HLEN := Lib.hid (show (ints ((List.range k).map f)).length ≤ 1000000 by rw [hlen]; omega)
   have HOWN := Lib.hid hown
   have HROW := Lib.hid hrow
   have HB := Lib.hid hbel
   have HLT := Lib.hid (show w.heap.size + 1 ≤ wr.heap.size by have := hrow.lt; omega)
   clear hown hrow hbel hsm hy hlen
   go_wp2_with (first | (at_builtin; refine wpList_append_box wr rfl (.tmp 15) (.tmp 18) 23 rfl 3 (.int .i64 0) 8 Tryd.underlying23 Tryd.infoI rfl (by omega) (w.heap.size + 1) u5 (ints ((List.range k).map f)) rfl HOWN.out (.int .i64 y) rfl rfl HLEN.out HLT.out ?_; intro v2 w2 hown2 hb2 hrest; have HO2 := Lib.hid hown2; have HB2 := Lib.hid (HB.out.trans (hb2.mono (by omega : w.heap.size ≤ w.heap.size + 1))); have HR2 := Lib.hid (HROW.out.below hb2 (by omega : w.heap.size < w.heap.size + 1)); clear hown2 hb2 hrest))
   go_roundw
   case rel => exact ⟨k + 1, by omega, by go_num, by rw [HSN.out]; exact HO2.out, HR2.out, HB2.out⟩
   case measure => simp [intOf]; omega
  ·obtain rfl : k = n := by omega
   have HOWN := Lib.hid hown
   have HB := Lib.hid hbel
   clear hown hrow hbel
   go_wp2
   go_ret
   exact ⟨_, rfl, HOWN.out.base (by omega : w.heap.size ≤ w.heap.size + 1), HB.out⟩
theorem applyL_pos {E : Es} {N : Nat} (hE : Lt E N) : ∀ (m p : List Int), PosW N p → PosW N (applyL E p m).1
 | [], p, h => h
 | t :: m, p, h => by
  cases hn : nearB E (holeL p) t with
  | false => rw [applyL_no hn]; exact h
  | true =>
   rw [applyL_yes hn]
   obtain ⟨t', rfl, ht⟩ := nearB_lt hE hn
   rw [Int.toNat_natCast]
   exact applyL_pos hE m _ (h.moved ht)
theorem posF_list {N : Nat} {q : List Int} (h : q.length = N) : (List.range N).map (posF q q.length) = q := by
 refine List.ext_getElem (by simp [h]) fun i h1 h2 => ?_
 rw [List.getElem_map, List.getElem_range]
 unfold posF
 rw [if_pos h2, List.getD_eq_getElem?_getD, List.getElem?_eq_getElem h2]
 rfl
set_option maxRecDepth 100000 in
set_option maxHeartbeats 4000000 in
theorem sapply_go (v vp vm : Value) (N : Nat) (l : Ps) (p m : List Int) (w : World) (hl : SlP w v l) (ht : Tab w) (hp : SlA w vp (ints p)) (hm : SlA w vm (ints m)) (hm40 : m.length ≤ 1000)
  (hch : checkB (N : Int) l = 0) (hpe : posE (N : Int) p = 0) (hu : Uq N p) :
  Calls Tryd.prog 23 #[.int .i64 (N : Nat), v, vp, vm] w fun e w' => ∃ v', e = .returned (.tuple #[v', .int .i64 ((applyL (toE l) p m).2 : Nat), .int .i64 0]) ∧ Own 3 w.heap.size w' v' (ints (applyL (toE l) p m).1) ∧ Below w.heap.size w w' := by
 obtain ⟨N', hN', h2, h9, hlen, hr⟩ := posE_zero hpe
 obtain rfl : N = N' := by omega
 obtain ⟨N', hN'', _, _, hE⟩ := check_lt hch
 obtain rfl : N = N' := by omega
 have hW := posW_of h2 h9 hpe
 have hNe : ∀ e ∈ toE l, e.1 ≠ e.2 := by
  have hb : boardOk (N : Int) l = true := by
   unfold checkB at hch
   split at hch
   ·split at hch
    ·rename_i hb
     rw [Bool.and_eq_true] at hb
     exact hb.1
    ·cases hch
   ·cases hch
  intro e he
  unfold toE at he
  obtain ⟨x, hx, rfl⟩ := List.mem_map.1 he
  obtain ⟨k, hk⟩ := List.getElem?_of_mem hx
  have hkl := (List.getElem?_eq_some_iff.1 hk).1
  have h1 := List.all_eq_true.1 hb k (List.mem_range.2 hkl)
  unfold okAt at h1
  rw [List.getD_eq_getElem?_getD, hk] at h1
  obtain ⟨i, j, rfl, hij, _⟩ := edgeOk_lt h1 h9
  dsimp only
  omega
 obtain ⟨pp, cp, rfl, hcp1, hcp2⟩ := hp.form
 obtain ⟨pm, cm, rfl, hcm1, hcm2⟩ := hm.form
 have hb0 := (Below.refl w.heap.size w).alloc (Nat.le_refl _) (.cells #[.slice pp p.length cp] 23)
 have HG := Lib.hid (given_one v (.slice pp p.length cp) w.heap.size N l p _ (hl.below hb0) (ht.below hb0 ht.lt) (hp.below hb0) (row_new 23 w #[.slice pp p.length cp]) hch hpe)
 have HB0 := Lib.hid hb0
 obtain ⟨P, hP⟩ : ∃ P, posF p p.length = P := ⟨_, rfl⟩
 have HAP := fun (b : Nat) W (hb : Below w.heap.size w W) (hbr : BoardR W b N (toE l)) => apply_go b N (toE l) _ p m W hbr hE hNe h9 hW hu (hm.below hb) hm40
 have hQW := applyL_pos hE m p hW
 obtain ⟨q, hq⟩ : ∃ q, (applyL (toE l) p m).1 = q := ⟨_, rfl⟩
 obtain ⟨k, hk⟩ : ∃ k, (applyL (toE l) p m).2 = k := ⟨_, rfl⟩
 rw [hq] at hQW
 have hQL := posF_list hQW.len
 have hQS : Sm (posF q q.length) := fun j hj => by
  have hl := hQW.len
  unfold posF
  split
  ·have := hQW.rng j (by omega); omega
  ·omega
 rw [hq, hk]
 rw [hP, hq, hk] at HAP
 rw [hP] at HG
 obtain ⟨Q, hQ⟩ : ∃ Q, posF q q.length = Q := ⟨_, rfl⟩
 rw [hQ] at HAP hQL hQS
 have HLS := fun W => list_go Q N W h9 hQS
 rw [hQL] at HLS
 unfold nineV at HAP HLS
 have HAPP := Lib.hid HAP
 have HLIST := Lib.hid HLS
 obtain ⟨pl, cl, rfl, hl1, hl2⟩ := hl.len
 clear hl ht hp hm hch hpe hu hb0 hP HAP hQW hq hk hQL hQS hQ HLS hW hNe hE hr hlen hN' hN''
 go_enter Tryd.func23, Tryd.ntmps23
 go_wp2_with (first
  | (go_at_call 49; refine (HG.out).mono ?_; rintro e w1 ⟨b, ps, rfl, hbr, hown, hb1⟩; have HB1 := Lib.hid (HB0.out.trans (hb1.mono HB0.out.size)); have HBR := Lib.hid hbr; obtain ⟨g2, c2, rfl, hg21, hg22, hg23, hg24, hcells⟩ := hown.at_ (by omega); have d0 := hcells 0 (by omega); have d1 := hcells 1 (by omega); have d2 := hcells 2 (by omega); have d3 := hcells 3 (by omega); have d4 := hcells 4 (by omega); have d5 := hcells 5 (by omega); have d6 := hcells 6 (by omega); have d7 := hcells 7 (by omega); have d8 := hcells 8 (by omega); rw [nine_get _ (by omega)] at d0 d1 d2 d3 d4 d5 d6 d7 d8; clear hb1 hbr hown hcells)
  | (go_at_call 57; refine (HAPP.out b _ HB1.out HBR.out).mono ?_; rintro e w2 ⟨rfl, hb2⟩; have HB2 := Lib.hid (HB1.out.trans (hb2.mono HB1.out.size)); clear hb2)
  | (go_at_call 58; refine (HLIST.out _).mono ?_; rintro e w3 ⟨v3, rfl, ho3, hb3⟩; have hWW := HB2.out.alloc HB2.out.size (.cells #[.int .i8 (Q 0), .int .i8 (Q 1), .int .i8 (Q 2), .int .i8 (Q 3), .int .i8 (Q 4), .int .i8 (Q 5), .int .i8 (Q 6), .int .i8 (Q 7), .int .i8 (Q 8)] 82); have HB3 := Lib.hid (hWW.trans (hb3.mono hWW.size)); have HO3 := Lib.hid (ho3.base hWW.size); clear hWW hb3 ho3))
 go_ret3
 exact ⟨v3, rfl, HO3.out, HB3.out⟩
end Go.Proofs.YtllhejjcmfiebaaDoor
