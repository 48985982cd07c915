/- The reference's Farther. -/
import Derived.Test.YtllhejjcmfiebaaDoorF4
import Derived.Test.YtllhejjcmfiebaaDoorS36
set_option linter.unusedVariables false
set_option linter.unusedSimpArgs false
set_option linter.unnecessarySimpa false
namespace Go.Proofs.YtllhejjcmfiebaaDoor
open Go.RowKit Go.Shelf
theorem nbr_at {E : Es} {N : Nat} {q : List Int} {t : Nat} (ht : t < (nrT E (holeL q) N).length) : ∃ tn, tn < N ∧ (nrT E (holeL q) N).getD t 0 = ((tn : Nat) : Int) ∧ (nbrL E N q)[t]? = some (movedL q tn) := by
 unfold nrT nbrL at *
 rw [List.length_map] at ht
 have hm := List.getElem_mem ht
 rw [List.mem_filter, List.mem_range] at hm
 refine ⟨_, hm.1, ?_, ?_⟩
 ·rw [List.getD_eq_getElem?_getD, List.getElem?_map, List.getElem?_eq_getElem ht]; rfl
 ·rw [List.getElem?_map, List.getElem?_eq_getElem ht]; rfl
theorem nbr_len {E : Es} {N : Nat} {q : List Int} : (nbrL E N q).length = (nrT E (holeL q) N).length := by
 unfold nrT nbrL; rw [List.length_map, List.length_map]
theorem lv_deep {E : Es} {N : Nat} {p : List Int} : ∀ k, (lv E N p k).2 ≠ [] → k < (lv E N p k).1.length
 | 0, _ => by show 0 < [p].length; simp
 | k + 1, h => by
  have h0 : (lv E N p k).2 ≠ [] := fun h0 => h (by
   show (growS (nbrL E N) ((lv E N p k).1, []) (lv E N p k).2).2 = []
   rw [h0]; rfl)
  have ih := lv_deep k h0
  have ht : (lv E N p (k + 1)).1 = (lv E N p k).1 ++ (lv E N p (k + 1)).2 := lvl_tail _ p k
  have := List.length_pos_iff.2 h
  rw [ht, List.length_append]; omega
theorem QAt.few {E : Es} {N k j i M La : Nat} {p F : List Int} {Q : List (List Int)} (h : QAt E N p k j i Q F M La) (hp : PosP N p) : Q.length ≤ fact N := by
 rw [h.que]; exact pos_few (pt_pos hp k j) (pt_nodup E N p k j)
theorem lv_le {E : Es} {N : Nat} {p : List Int} : ∀ k, (lv E N p k).2.length ≤ (lv E N p k).1.length
 | 0 => Nat.le_refl _
 | k + 1 => by
  have ht : (lv E N p (k + 1)).1 = (lv E N p k).1 ++ (lv E N p (k + 1)).2 := lvl_tail _ p k
  rw [ht, List.length_append]; omega
theorem FW.cellQ {Bq s g7 K : Nat} {w Wq wr : World} {vp : Value} {p : List Int} {ad : Addr} {n c : Nat} {vs : List Value} {Q : List (List Int)} {F : List Int} {M La : Nat} (h : FW Bq s g7 K w Wq wr vp p (.slice (some ad) n c) vs Q F M La) (i : Nat) (hi : i < vs.length) : wr.cell? (ad.add i) = vs[i]? := by
 obtain ⟨qp, qc, hqv, _, _, _, hc⟩ := h.own.sl.toA
 obtain ⟨ad', rfl, _, hcells⟩ := hc (by omega)
 cases hqv
 exact hcells i hi
theorem stays_far {ks : List Kd} (hM : ∀ (i : Nat) M, ks[i]? = some (.mem M) → ∀ v w w', M v w → Below w.heap.size w w' → M v w') (hF : ∀ (j b k T n : Nat), ks[j]? ≠ some (.fill b k T n)) : Stays ks :=
 ⟨fun i M v w w' hk h hb => hM i M hk v w w' h hb, fun i M v w w' j g b k T n xs hk hf => absurd hf (hF j b k T n)⟩
theorem undFar : ∃ d, Tryd.prog.underlying 70 = some d ∧ (match d with | .struct _ | .array _ _ => true | _ => false) = true := by
 have h : (Tryd.prog.underlying 70).map (fun d => match d with | .struct _ | .array _ _ => true | _ => false) = some true := by kernel_rfl
 cases hd : Tryd.prog.underlying 70 with
 | none => rw [hd] at h; cases h
 | some d => rw [hd] at h; exact ⟨d, rfl, Option.some.inj h⟩
theorem infoFar : (Tryd.prog.info? 70).map (·.size) = some 4 := by kernel_rfl
theorem lv_bound {E : Es} {N : Nat} {p : List Int} (hp : PosP N p) {k : Nat} (h : (lv E N p k).2 ≠ []) : k < fact N := by
 have h1 := lv_deep k h
 have hnd := pt_nodup E N p k 0
 rw [pt_zero] at hnd
 have h2 := pos_few (n := N) (Q := (lv E N p k).1) (fun q hq => lv_pos hp k q hq) hnd
 omega
set_option maxRecDepth 100000 in
set_option maxHeartbeats 8000000 in
theorem far_go (N : Nat) (vx vp : Value) (x : Ps) (p : List Int) (w : World) (hx : SlP w vx x) (hN2 : 2 ≤ N) (hN9 : N ≤ 9) (hok : ∀ j, j < x.length → okAt N x j = true) (hp : SlA w vp (ints p)) (hpp : PosP N p) :
  Calls Tryd.prog 42 #[.int .i64 (N : Nat), vx, vp] w fun e w' => ∃ (fv : Value) (F : List Int) (c M La : Nat), e = .returned fv ∧ FarV w' fv F c M La ∧ FarOK (toE x) N p F c M La ∧ Below w.heap.size w w' := by
 have HX := Lib.hid hx
 have HP := Lib.hid hp
 have HPP := Lib.hid hpp
 have HOK := Lib.hid hok
 have hfl := fact_mono hN9
 rw [fact9] at hfl
 have HFC := Lib.hid (fun W => fact_go N W (by omega) hN9)
 have hfp := fact_pos N
 obtain ⟨K, hK⟩ : ∃ K, fact N = K := ⟨_, rfl⟩
 have HK := Lib.hid hK
 rw [hK] at hfl HFC hfp
 obtain ⟨px, cx, rfl, hcx1, hcx2⟩ := hx.len
 obtain ⟨pp, cp, rfl, hcp1, hcp2⟩ := hp.form
 have hr6 := row_new 70 w #[.slice none 0 0, .int .i64 0, .int .i64 0, .int .i64 0]
 have hb6 := (Below.refl w.heap.size w).alloc (Nat.le_refl _) (.cells #[.slice none 0 0, .int .i64 0, .int .i64 0, .int .i64 0] 70)
 obtain ⟨W6, hW6⟩ : ∃ W6, w.alloc (.cells #[.slice none 0 0, .int .i64 0, .int .i64 0, .int .i64 0] 70) = W6 := ⟨_, rfl⟩
 rw [hW6] at hr6 hb6
 have HR6 : Hid (Row 70 W6 w.heap.size [.slice none 0 0, .int .i64 0, .int .i64 0, .int .i64 0]) := hr6
 have HB6 := Lib.hid hb6
 have HS6 := Lib.hid (show W6.heap.size = w.heap.size + 1 by rw [← hW6, World.size_alloc])
 clear hx hp hpp hok hK hr6 hb6
 go_enter Tryd.func42, Tryd.ntmps42
 go_wp2_with (first
  | (go_at_call 47; refine (HFC.out _).mono ?_; rintro e w2 ⟨rfl, hb2⟩; have HR62 := Lib.hid (HR6.out.below hb2 HR6.out.lt); have HB2 := Lib.hid (HB6.out.trans (hb2.mono HB6.out.size)); have HS2 := Lib.hid hb2.size; clear hb2)
  | (at_make; refine wpList_make_row _ rfl _ _ 23 rfl 3 (.int .i64 0) 8 Tryd.underlying23 Tryd.infoI rfl .i64 .i64 _ _ K rfl rfl ?c1 ?c2 ?c3 ?c4 ?_))
 case c1 => rfl
 case c2 => rfl
 case c3 => omega
 case c4 => unfold maxLen; omega
 intro w3 hr3 hb3
 go_wp2
 have hfl7 := row_new 70 w3 #[.slice (some ⟨w2.heap.size, 0, none⟩) K K, .int .i64 0, .int .i64 0, .int .i64 0]
 have HB7 := Lib.hid (((HB2.out.trans (hb3.mono HB2.out.size))).alloc (show w.heap.size ≤ w3.heap.size from Nat.le_trans HB2.out.size hb3.size) (.cells #[.slice (some ⟨w2.heap.size, 0, none⟩) K K, .int .i64 0, .int .i64 0, .int .i64 0] 70))
 have hs0 := hr3.alloc (.cells #[.slice (some ⟨w2.heap.size, 0, none⟩) K K, .int .i64 0, .int .i64 0, .int .i64 0] 70)
 have hg6 := (HR62.out.below hb3 HR62.out.lt).alloc (.cells #[.slice (some ⟨w2.heap.size, 0, none⟩) K K, .int .i64 0, .int .i64 0, .int .i64 0] 70)
 have h67 : w.heap.size < w2.heap.size := by have := HS2.out; have := HS6.out; omega
 have h37 : w2.heap.size < w3.heap.size := hr3.lt
 obtain ⟨g6, hg6e⟩ : ∃ g6, w.heap.size = g6 := ⟨_, rfl⟩
 obtain ⟨s, hse⟩ : ∃ s, w2.heap.size = s := ⟨_, rfl⟩
 obtain ⟨g7, hg7e⟩ : ∃ g7, w3.heap.size = g7 := ⟨_, rfl⟩
 obtain ⟨W7, hW7⟩ : ∃ W7, w3.alloc (.cells #[.slice (some ⟨w2.heap.size, 0, none⟩) K K, .int .i64 0, .int .i64 0, .int .i64 0] 70) = W7 := ⟨_, rfl⟩
 have HR7 : Hid (Row 70 W7 g7 [.slice (some ⟨s, 0, none⟩) K K, .int .i64 0, .int .i64 0, .int .i64 0]) := by show Row _ _ _ _; rw [← hW7, ← hg7e, ← hse]; exact hfl7
 have HRS : Hid (Row 3 W7 s (List.replicate K (.int .i64 0))) := by show Row _ _ _ _; rw [← hW7, ← hse]; exact hs0
 have HRG : Hid (Row 70 W7 g6 [.slice none 0 0, .int .i64 0, .int .i64 0, .int .i64 0]) := by show Row _ _ _ _; rw [← hW7, ← hg6e]; exact hg6
 rw [hW7] at HB7
 rw [hW7, hse, hg7e]
 clear hfl7 hs0 hg6 hr3 hb3 HR62 HB2 HS2 HS6 HR6 HB6
 go_loopw [8] (fun i wr => ∃ k : Nat, k ≤ K ∧ i = .int .i64 k ∧ Row 3 wr s (List.replicate k (.int .i64 (-1)) ++ List.replicate (K - k) (.int .i64 0)) ∧ Row 70 wr g7 [.slice (some ⟨s, 0, none⟩) K K, .int .i64 0, .int .i64 0, .int .i64 0] ∧ Row 70 wr g6 [.slice none 0 0, .int .i64 0, .int .i64 0, .int .i64 0] ∧ Below w.heap.size w wr) (fun i _ => K - (intOf i).toNat)
 case atStart => exact ⟨0, Nat.zero_le _, rfl, HRS.out, HR7.out, HRG.out, HB7.out⟩
 case round =>
  obtain ⟨k, hk, rfl, hrs, hr7, hr6, hbel⟩ := hrel
  clear HR7 HRS HRG HB7
  have c0 := hr7.cell 0
  simp only [List.getElem?_cons_zero, List.getElem?_cons_succ] at c0
  by_cases hlt : k < K
  ·have gk : (k : Int) < (K : Int) := by omega
   have ck : wr.cell? ⟨s, k, none⟩ = some (.int .i64 0) := by
    rw [hrs.cell, List.getElem?_append_right (by simp), List.length_replicate, Nat.sub_self, List.getElem?_replicate, if_pos (by omega)]
   have fk := hrs.free k
   have hrs2 := hrs.store k (.int .i64 (-1))
   rw [List.set_append_right _ _ (by simp), List.length_replicate, Nat.sub_self, show K - k = (K - (k + 1)) + 1 by omega, List.replicate_succ, List.set_cons_zero, show ∀ (a : Value) l, (List.replicate k (.int .i64 (-1) : Value) ++ a :: l) = (List.replicate k (.int .i64 (-1)) ++ [a]) ++ l by intro a l; simp, ← List.replicate_succ'] at hrs2
   have hr72 := hr7.other ⟨s, k, none⟩ (fun e => by dsimp only at e; omega) (.int .i64 (-1))
   have hr62 := hr6.other ⟨s, k, none⟩ (fun e => by dsimp only at e; omega) (.int .i64 (-1))
   have hb2 := hbel.setCell (p := ⟨s, k, none⟩) (by dsimp only; omega) (.int .i64 (-1))
   have H1 := Lib.hid hrs2
   have H2 := Lib.hid hr72
   have H3 := Lib.hid hr62
   have H4 := Lib.hid hb2
   clear hrs hrs2 hr7 hr72 hr6 hr62 hbel hb2
   go_wp2
   go_roundw
   case rel => exact ⟨k + 1, by omega, by go_num, H1.out, H2.out, H3.out, H4.out⟩
   case measure => simp [intOf]; omega
  ·obtain rfl : K = k := by omega
   rw [Nat.sub_self, List.replicate_zero, List.append_nil] at hrs
   have HRS := Lib.hid hrs
   have HR7 := Lib.hid hr7
   have HR6 := Lib.hid hr6
   have HB := Lib.hid hbel
   clear hrs hr7 hr6 hbel
   go_wp2
   have HKL := Lib.hid hfl
   clear hW7 hW6 hfl
   have hs6 : g6 < s := by omega
   have hs7 : s < g7 := by omega
   have HO1 := Lib.hid hs6
   have HO2 := Lib.hid hs7
   have HG6 := Lib.hid hg6e
   have HNR := Lib.hid (fun (W : World) (hb : Below w.heap.size w W) (a : Nat) (t : Int) => rnear_go _ N a t x W (HX.out.below (w' := W) hb) hN9 HOK.out)
   have HSELF := Lib.hid (fun a => nearB_self (l := x) hN9 HOK.out a)
   clear c0 hs6 hs7 h67 h37 hg6e hse hg7e hlt hk
   obtain ⟨wn, hwn⟩ : ∃ wn : World, wn = wr := ⟨_, rfl⟩
   subst hwn
   go_loopw [9, 10] (fun nv i wr => ∃ n : Nat, n ≤ N ∧ i = .int .i64 n ∧ NearA (toE x) N n wn.heap.size wr nv ∧ Below wn.heap.size wn wr) (fun _ i _ => N - (intOf i).toNat)
   case atStart => exact ⟨0, Nat.zero_le _, rfl, ⟨[], rfl, World.ownsRow_nil _ _ _ _, fun z u h => by cases h⟩, Below.refl _ _⟩
   case round =>
    obtain ⟨n, hn, rfl, hna, hbel⟩ := hrel
    have HNA := Lib.hid hna
    have HBN := Lib.hid hbel
    clear hna hbel
    by_cases hlt : n < N
    ·have gn : (n : Int) < (N : Int) := by omega
     obtain ⟨wo, hwo⟩ : ∃ wo : World, wo = wr := ⟨_, rfl⟩
     subst hwo
     go_wp2
     go_loopw [11, 12] (fun rv t wr => ∃ m : Nat, m ≤ N ∧ t = .int .i64 m ∧ Own 3 wo.heap.size wr rv (ints (nrT (toE x) n m)) ∧ Below wo.heap.size wo wr) (fun _ t _ => N - (intOf t).toNat)
     case atStart => exact ⟨0, Nat.zero_le _, rfl, World.ownsRow_nil _ _ _ _, Below.refl _ _⟩
     case round =>
      obtain ⟨m, hm, rfl, hown, hbel⟩ := hrel
      have HOW := Lib.hid hown
      have HBO := Lib.hid hbel
      have hl9 : (nrT (toE x) n m).length ≤ 9 := Nat.le_trans (nrT_len _ _ _) (by omega)
      have HL9 := Lib.hid hl9
      clear hown hbel hl9
      by_cases hmN : m < N
      ·have gm : (m : Int) < (N : Int) := by omega
       by_cases hnm : n = m
       ·subst hnm
        have hno := nrT_no (HSELF.out n)
        have HNO := Lib.hid hno
        have hne : ((n : Int) != (n : Int)) = false := by simp
        clear hno
        go_wp2
        go_roundw
        case rel => exact ⟨n + 1, by omega, by go_num, by rw [HNO.out]; exact HOW.out, HBO.out⟩
        case measure => simp [intOf]; omega
       ·have hne : ((n : Int) != (m : Int)) = true := by rw [bne_iff_ne]; omega
        have hnr := fun W (hb : Below wo.heap.size wo W) => HNR.out W (HB.out.trans ((HBN.out.trans (hb.mono HBN.out.size)).mono HB.out.size)) n (m : Int)
        cases hB : nearB (toE x) n m with
        | true =>
         rw [hB] at hnr
         have HNRR := Lib.hid hnr
         have HNO := Lib.hid (nrT_yes hB)
         clear hnr hB
         go_wp2_with (first
          | (go_at_call 39; refine (HNRR.out _ HBO.out).mono ?_; rintro e wf ⟨rfl, hbf⟩; have HBF := Lib.hid (HBO.out.trans (hbf.mono HBO.out.size)); have HOF := Lib.hid (HOW.out.below hbf (Nat.le_refl _)); clear hbf)
          | (at_builtin; refine wpList_append_box wf rfl (.tmp 54) (.tmp 56) 23 rfl 3 (.int .i64 0) 8 Tryd.underlying23 Tryd.infoI rfl (by omega) wo.heap.size u11 (ints (nrT (toE x) n m)) rfl HOF.out (.int .i64 (m : Int)) rfl rfl (by rw [ints_length]; have := HL9.out; omega) HBF.out.size ?_; intro v2 w2 hown2 hb2 _; have HN4 := Lib.hid hown2; have HB4 := Lib.hid (HBF.out.trans hb2); clear hown2 hb2))
         go_roundw
         case rel => exact ⟨m + 1, by omega, by go_num, by rw [HNO.out, ints_append]; exact HN4.out, HB4.out⟩
         case measure => simp [intOf]; omega
        | false =>
         rw [hB] at hnr
         have HNRR := Lib.hid hnr
         have HNO := Lib.hid (nrT_no hB)
         clear hnr hB
         go_wp2_with (first
          | (go_at_call 39; refine (HNRR.out _ HBO.out).mono ?_; rintro e wf ⟨rfl, hbf⟩; have HBF := Lib.hid (HBO.out.trans (hbf.mono HBO.out.size)); have HOF := Lib.hid (HOW.out.below hbf (Nat.le_refl _)); clear hbf))
         go_roundw
         case rel => exact ⟨m + 1, by omega, by go_num, by rw [HNO.out]; exact HOF.out, HBF.out⟩
         case measure => simp [intOf]; omega
      ·obtain rfl : m = N := by omega
       obtain ⟨rp, rc, hre, hrc1, hrc2⟩ := HOW.out.sl.toA.form
       obtain ⟨vs, hvl, hvo, hvr⟩ := HNA.out.below HBO.out (Nat.le_refl _)
       have HVL := Lib.hid hvl
       have HVO := Lib.hid hvo
       have HVR := Lib.hid hvr
       have hvs : vs.length ≤ 9 := by omega
       clear hvl hvo hvr
       subst hre
       go_wp2_with (first
        | (at_builtin; refine wpList_append_box wr rfl (.tmp 58) (.tmp 60) 79 rfl 23 (.slice none 0 0) 24 undSS infoSl rfl (by omega) wn.heap.size u9 vs rfl HVO.out (.slice rp (nrT (toE x) n m).length rc) rfl rfl (by omega) (HBN.out.trans (HBO.out.mono HBN.out.size)).size ?_; intro v2 w2 hown2 hb2 hkp; have HN4 := Lib.hid hown2; have HKP := Lib.hid hkp; have HB4 := Lib.hid ((HBN.out.trans (HBO.out.mono HBN.out.size)).trans hb2); clear hown2 hb2 hkp))
       go_roundw
       case rel =>
        refine ⟨n + 1, by omega, by go_num, ⟨_, by rw [List.length_append, HVL.out]; rfl, HN4.out, fun z u hz => HKP.out _ _ _ _ (by decide) ?_⟩, HB4.out⟩
        by_cases hzl : z < vs.length
        ·rw [List.getElem?_append_left hzl] at hz; exact HVR.out z u hz
        ·rw [List.getElem?_append_right (by omega)] at hz
         have hz0 := (List.getElem?_eq_some_iff.1 hz).1
         simp at hz0
         have hzn : z = n := by have := HVL.out; omega
         subst hzn
         rw [HVL.out, Nat.sub_self] at hz
         cases hz
         exact (HOW.out).base HBN.out.size
       case measure => simp [intOf]; omega
    ·obtain rfl : N = n := by omega
     obtain ⟨W9, hW9⟩ : ∃ W9 : World, W9 = wr := ⟨_, rfl⟩
     subst hW9
     have HHO := Lib.hid (fun (u : Value) (Q : List Int) (W : World) (hq : SlA W u (ints Q)) (hw : PosW N Q) => rhole_go u N Q W hq hw hN9)
     have HMV := Lib.hid (fun (u : Value) (Q : List Int) (t : Int) (tn : Nat) (W : World) (hq : SlA W u (ints Q)) (hw : PosW N Q) (ht : tn < N) (e : t = tn) => rmoved_int u N tn t Q W hq hw hN9 ht e)
     have HRK := Lib.hid (fun (u : Value) (q : List Int) (W : World) (hq : SlA W u (ints q)) (hl : PosP N q) => rank_go u q W hq (by rw [hl.len]; omega))
     have HOLD := Lib.hid (HB.out.trans (HBN.out.mono HB.out.size))
     have HS9 : Hid (Row 3 W9 s (ints (List.replicate K (-1)))) := by show Row _ _ _ _; have h9 := HRS.out.below HBN.out HRS.out.lt; rw [show ints (List.replicate K (-1)) = List.replicate K (.int .i64 (-1)) by simp [ints]]; exact h9
     have HR9 := Lib.hid (HR7.out.below HBN.out HR7.out.lt)
     have HG9 := Lib.hid (HR6.out.below HBN.out HR6.out.lt)
     have HSB := Lib.hid (show s < wn.heap.size from HRS.out.lt)
     have HGB := Lib.hid (show g7 < wn.heap.size from HR7.out.lt)
     obtain ⟨r, hr⟩ : ∃ r, rankL p = r := ⟨_, rfl⟩
     have hrK : r < K := by have := HPP.out.lt; rw [HK.out, hr] at this; exact this
     have HRE := Lib.hid hr
     have hrk := fun W (hb : Below W9.heap.size W9 W) => HRK.out _ p W (HP.out.below (HOLD.out.trans (hb.mono HOLD.out.size))) HPP.out
     rw [hr] at hrk
     have HRKP := Lib.hid hrk
     have grK : (r : Int) < (K : Int) := by omega
     clear hr hrk hlt hn
     go_wp2
     refine wp_region_rel_tail (by kernel_rfl) 5 140 rfl (by kernel_rfl) (by kernel_rfl) [.fix (.pointer (some ⟨g7, 0, none⟩)), .fix (.slice (some ⟨s, 0, none⟩) K K), .fix (.slice pp p.length cp), .fix (.int .i64 (r : Nat)), .fix (.pointer (some ⟨s, r, none⟩))] rfl (stays_fix rfl) ?hop ?hQ
     case hop =>
      intro W hW j0 o hj vs0 wz hb hV
      have hbw : Below W9.heap.size W9 wz := by rw [hW] at hb; exact ((Below.refl W9.heap.size W9).drew).trans hb
      have d0 : wz.cell? ⟨g7, 0, none⟩ = some (.slice (some ⟨s, 0, none⟩) K K) := (HR9.out.below hbw HR9.out.lt).cell 0
      clear hW hb
      have hj' : j0 < 5 := (List.getElem?_eq_some_iff.1 hj).1
      rcases (by omega : j0 = 0 ∨ j0 = 1 ∨ j0 = 2 ∨ j0 = 3 ∨ j0 = 4) with rfl | rfl | rfl | rfl | rfl
      ·cases hj
       clear hj'
       refine .inl ⟨rfl, ?_⟩
       (try simp [predsR, Region.binds, Vk] at hV)
       simp only [List.take_succ_cons, List.take_zero, putAll]
       generalize hR : Res _ _ vs0 wz = R
       go_simp
       subst hR
       exact ⟨rfl, Below.refl _ _⟩
      ·cases hj
       clear hj'
       refine .inl ⟨rfl, ?_⟩
       generalize hG : relUpon _ _ _ = G
       have q0_ : vs0 0 = _ := hV 0 (by decide)
       clear hV
       subst hG
       simp only [List.take_succ_cons, List.take_zero, putAll]
       generalize hR : Res _ _ vs0 wz = R
       go_simp
       subst hR
       exact ⟨rfl, Below.refl _ _⟩
      ·cases hj
       clear hj'
       refine .inl ⟨rfl, ?_⟩
       (try simp [predsR, Region.binds, Vk] at hV)
       simp only [List.take_succ_cons, List.take_zero, putAll]
       generalize hR : Res _ _ vs0 wz = R
       go_simp
       subst hR
       exact ⟨rfl, Below.refl _ _⟩
      ·cases hj
       clear hj'
       refine .inl ⟨rfl, ?_⟩
       generalize hG : relUpon _ _ _ = G
       have q2_ : vs0 2 = _ := hV 2 (by decide)
       clear hV
       subst hG
       simp only [List.take_succ_cons, List.take_zero, putAll]
       generalize hR : Res _ _ vs0 wz = R
       go_simp
       subst hR
       refine (HRKP.out wz hbw).mono ?_
       rintro e w2 ⟨rfl, hb2⟩
       exact ⟨_, rfl, rfl, hb2⟩
      ·cases hj
       clear hj'
       refine .inl ⟨rfl, ?_⟩
       generalize hG : relUpon _ _ _ = G
       have q1_ : vs0 1 = _ := hV 1 (by decide)
       have q3_ : vs0 3 = _ := hV 3 (by decide)
       clear hV
       subst hG
       simp only [List.take_succ_cons, List.take_zero, putAll]
       generalize hR : Res _ _ vs0 wz = R
       go_simp
       subst hR
       exact ⟨rfl, Below.refl _ _⟩
     case hQ =>
      intro W hW vs0 wz hb hV hD
      have hbw : Below W9.heap.size W9 wz := by rw [hW] at hb; exact ((Below.refl W9.heap.size W9).drew).trans hb
      have e0_ : vs0 0 = _ := hV 0 (by decide)
      have e1_ : vs0 1 = _ := hV 1 (by decide)
      have e2_ : vs0 2 = _ := hV 2 (by decide)
      have e3_ : vs0 3 = _ := hV 3 (by decide)
      have e4_ : vs0 4 = _ := hV 4 (by decide)
      have hsz := HS9.out.below hbw HS9.out.lt
      have frz := hsz.free r
      have crz := hsz.cell r
      rw [ints_get _ _ (by rw [List.length_replicate]; exact hrK)] at crz
      have H7Z := Lib.hid (HR9.out.below hbw HR9.out.lt)
      have HSZ := Lib.hid hsz
      have HBZ := Lib.hid hbw
      simp only [List.take_succ_cons, List.take_zero, List.drop_succ_cons, List.drop_zero, putAll, e0_, e1_, e2_, e3_, e4_]
      clear hV hD hb hW hbw hsz e0_ e1_ e2_ e3_ e4_
      have hq0 := row_new 23 (wz.setCell ⟨s, r, none⟩ (.int .i64 0)) #[.slice pp p.length cp]
      rw [World.size_setCell] at hq0
      have hown0 := Own.of_row (T := 23) (base := wz.heap.size) (cap := 1) (xs := [.slice pp p.length cp]) (more := []) hq0 (Nat.le_refl _) (by decide) rfl
      have hsw : s < wz.heap.size := HSZ.out.lt
      have hgw : g7 < wz.heap.size := H7Z.out.lt
      have hws : w.heap.size ≤ s := by have := HG6.out; have := HO1.out; omega
      have hs7 : s < g7 := HO2.out
      have hOZ : Below w.heap.size w wz := HOLD.out.trans (HBZ.out.mono HOLD.out.size)
      have hRS0 := HSZ.out.store r (.int .i64 0)
      rw [ints_set] at hRS0
      have hfr0 : FrQ wz.heap.size s g7 wz (wz.setCell ⟨s, r, none⟩ (.int .i64 0)) := FrQ.put ⟨Nat.le_refl _, fun _ _ _ _ => rfl⟩ (.inl rfl) _
      have hNA0 := (HNA.out.below HBZ.out (Nat.le_refl _)).stay hfr0 HSB.out HGB.out (Nat.le_refl _)
      have hG60 := (HG9.out.below HBZ.out HG9.out.lt).other ⟨s, r, none⟩ (fun e => by dsimp only at e; have := HO1.out; omega) (.int .i64 0)
      have hOQ : Below w.heap.size w (wz.setCell ⟨s, r, none⟩ (.int .i64 0)) := hOZ.setCell (p := ⟨s, r, none⟩) hws _
      have HFW : Hid (FW wz.heap.size s g7 K w (wz.setCell ⟨s, r, none⟩ (.int .i64 0)) ((wz.setCell ⟨s, r, none⟩ (.int .i64 0)).alloc (.cells #[.slice pp p.length cp] 23)) (.slice pp p.length cp) p (.slice (some ⟨wz.heap.size, 0, none⟩) 1 1) [.slice pp p.length cp] [p] ((List.replicate K (-1)).set r 0) 0 0) := by
       refine ⟨hown0, rfl, fun z u q h1 h2 => ?_, hRS0.alloc _, (H7Z.out.other ⟨s, r, none⟩ (fun e => by dsimp only at e; omega) _).alloc _, FrQ.later (B := wz.heap.size) ⟨by rw [World.size_setCell]; exact Nat.le_refl _, fun _ _ _ _ => rfl⟩ ((Below.refl _ _).alloc (by rw [World.size_setCell]; exact Nat.le_refl _) _) (Nat.le_refl _), hOQ.alloc hOQ.size _, hws, hs7, hgw⟩
       have hz := (List.getElem?_eq_some_iff.1 h1).1
       rw [List.length_singleton] at hz
       obtain rfl : z = 0 := by omega
       cases h1; cases h2; exact .inr ⟨rfl, rfl⟩
      have HQ0 : Hid (QAt (toE x) N p 0 0 0 [p] ((List.replicate K (-1)).set r 0) 0 0) := by show QAt _ _ _ _ _ _ _ _ _ _; have := QAt.start (E := toE x) HPP.out; rw [HK.out, HRE.out] at this; exact this
      have HNA0 := Lib.hid hNA0
      have HG60 := Lib.hid hG60
      have hq0s : s < g7 := hs7
      clear hq0 hown0 hsw hgw hws hs7 hOZ hRS0 hfr0 hNA0 hG60 hOQ hq0s HNA HS9 HR9 HG9 HRKP HBZ H7Z HSZ HRS HR7 HR6 HB HBN hrK grK
      go_wp2
      clear frz crz
      obtain ⟨Bq, hBq⟩ : ∃ Bq, wz.heap.size = Bq := ⟨_, rfl⟩
      obtain ⟨Wq, hWq⟩ : ∃ Wq, wz.setCell ⟨s, r, none⟩ (.int .i64 0) = Wq := ⟨_, rfl⟩
      rw [hBq, hWq] at HFW
      rw [hWq] at HNA0 HG60
      have HWB : Hid (Wq.heap.size = Bq) := by show _ = _; rw [← hWq, World.size_setCell, hBq]
      rw [hBq, hWq]
      clear hBq hWq
      go_loopw [13, 14] (fun qv iv wr => ∃ (vs : List Value) (Q : List (List Int)) (F : List Int) (k j ii M La : Nat), iv = .int .i64 (ii : Nat) ∧ QAt (toE x) N p k j ii Q F M La ∧ FW Bq s g7 K w Wq wr (.slice pp p.length cp) p qv vs Q F M La) (fun _ iv _ => K - (intOf iv).toNat)
      case atStart => exact ⟨_, _, _, 0, 0, 0, 0, 0, rfl, HQ0.out, HFW.out⟩
      case round =>
       obtain ⟨vs, Q, F, k, j, ii, M, La, rfl, hqa, hfw⟩ := hrel
       have hQK := hqa.few HPP.out
       rw [HK.out] at hQK
       by_cases hlt : ii < Q.length
       ·obtain ⟨k, j, hqa, hjl⟩ := hqa.norm hlt
        obtain ⟨vsn, hnl, hno, hnr⟩ := HNA0.out
        obtain ⟨np, nc, hnv, hnc1, hnc2, _, hncell⟩ := hno.sl.toA
        obtain ⟨adn, rfl, hgn, hcn⟩ := hncell (by omega)
        have hadn : wn.heap.size ≤ adn.block := (World.ownsRow.lt hno adn.block (by rw [hnv]; rfl)).1
        rw [hnl] at hnv hnc1
        subst hnv
        unfold maxLen at hnc2
        obtain ⟨q, hQq, hlq, hqp, hFk⟩ := hqa.elem HPP.out hjl
        have hvl := hfw.len
        obtain ⟨qp, qc, hqv, hqc1, hqc2, _, hqc⟩ := hfw.own.sl.toA
        obtain ⟨adq, rfl, hgq, hcells⟩ := hqc (by omega)
        subst hqv
        obtain ⟨u, hu⟩ : ∃ u, vs[ii]? = some u := ⟨_, List.getElem?_eq_getElem (by omega)⟩
        have hcu := hcells ii (by omega)
        rw [hu] at hcu
        have huA := hfw.elA HP.out hu hQq
        obtain ⟨up, uc, rfl, huc1, huc2⟩ := huA.form
        have hrqK := hqp.lt
        rw [HK.out] at hrqK
        obtain ⟨rq, hrq⟩ : ∃ rq, rankL q = rq := ⟨_, rfl⟩
        rw [hrq] at hrqK hFk
        have HRQ := Lib.hid hrq
        have hFl := hqa.fok.1
        rw [HK.out] at hFl
        have HFL := Lib.hid hFl
        have hhN : holeL q < N := (hqp.w (by omega)).hole.1
        obtain ⟨rv, hrv⟩ : ∃ rv, vsn[holeL q]? = some rv := ⟨_, List.getElem?_eq_getElem (by omega)⟩
        have hrvo := hnr _ _ hrv
        have hcn2 := hcn (holeL q) (by omega)
        rw [hrv] at hcn2
        obtain ⟨rp, rc, rfl, hrc1, hrc2⟩ := hrvo.sl.toA.form
        have HNROW : Hid (∀ W, FrQ Bq s g7 Wq W → W.cell? (adn.add (holeL q)) = some (.slice rp (nrT (toE x) (holeL q) N).length rc) ∧ SlA W (.slice rp (nrT (toE x) (holeL q) N).length rc) (ints (nrT (toE x) (holeL q) N))) := fun W hf => by
         have hs1 := HSB.out
         have hs2 := HGB.out
         have hwb := HWB.out
         refine ⟨(World.cell?_of_block (by rw [block_add]; exact hf.2 _ (by omega) (by omega) (by omega))).trans hcn2, (hrvo.same (w' := W) fun g hg _ hc => ?_).sl.toA⟩
         obtain ⟨cur, hc⟩ := hc
         have := lt_of_block hc
         exact hf.2 g (by omega) (by omega) (by omega)
        clear hno hnr hcn hncell hgn hadn hrv hrvo hcn2 hnl
        obtain ⟨hh, hhe⟩ : ∃ hh, holeL q = hh := ⟨_, rfl⟩
        rw [hhe] at HNROW hhN
        have HHE := Lib.hid hhe
        clear hhe
        have ghN : (hh : Int) < (N : Int) := by omega
        obtain ⟨wo, hwo⟩ : ∃ wo : World, wo = wr := ⟨_, rfl⟩
        subst hwo
        have hrk := fun W (hb : Below wo.heap.size wo W) => HRK.out _ q W (huA.below hb) hqp
        rw [hrq] at hrk
        have HRKQ := Lib.hid hrk
        have HQA := Lib.hid hqa
        have HJL := Lib.hid hjl
        have HFWO := Lib.hid hfw
        have HUU := Lib.hid hu
        have HQQ := Lib.hid hQq
        have HLQ := Lib.hid hlq
        have HQP := Lib.hid hqp
        have HUA := Lib.hid huA
        have HCU := Lib.hid hcu
        have HGQ := Lib.hid hgq
        have HFK := Lib.hid hFk
        have HVL := Lib.hid hvl
        have giq : (ii : Int) < (vs.length : Int) := by omega
        have grq : (rq : Int) < (K : Int) := by omega
        unfold maxLen at hqc2
        clear hqa hfw hu hQq hlq hqp huA hcu hgq hcells hqc hFk hrq hrk hFl hvl hjl
        go_wp2
        refine wp_region_rel (by kernel_rfl) 140 rfl (by kernel_rfl) [.fix (.pointer (some ⟨g7, 0, none⟩)), .fix (.slice (some ⟨s, 0, none⟩) K K), .fix (.slice (some adq) vs.length qc), .fix (.int .i64 (ii : Nat)), .fix (.pointer (some (adq.add ii))), .fix (.slice up q.length uc), .fix (.int .i64 (rq : Nat)), .fix (.pointer (some ⟨s, rq, none⟩)), .fix (.int .i64 (k : Nat)), .fix (.int .i64 (k : Nat))] rfl (stays_fix rfl) ?hop ?hQ
        case hop =>
         intro W hW j0 o hj vs1 wz1 hb hV
         have hbw : Below wo.heap.size wo wz1 := by rw [hW] at hb; exact ((Below.refl wo.heap.size wo).drew).trans hb
         have d0 : wz1.cell? ⟨g7, 0, none⟩ = some (.slice (some ⟨s, 0, none⟩) K K) := (HFWO.out.r7.below hbw HFWO.out.r7.lt).cell 0
         have d1 : wz1.cell? (adq.add ii) = some (.slice up q.length uc) := (hbw.cell (p := adq.add ii) (by rw [block_add]; exact HGQ.out)).trans HCU.out
         have d2 : wz1.cell? ⟨s, rq, none⟩ = some (.int .i64 (k : Nat)) := by rw [(HFWO.out.rs.below hbw HFWO.out.rs.lt).cell, ints_get _ _ (by rw [HFL.out]; exact hrqK), HFK.out]
         clear hW hb
         have hj' : j0 < 10 := (List.getElem?_eq_some_iff.1 hj).1
         rcases (by omega : j0 = 0 ∨ j0 = 1 ∨ j0 = 2 ∨ j0 = 3 ∨ j0 = 4 ∨ j0 = 5 ∨ j0 = 6 ∨ j0 = 7 ∨ j0 = 8 ∨ j0 = 9) with rfl | rfl | rfl | rfl | rfl | rfl | rfl | rfl | rfl | rfl
         ·cases hj
          clear hj'
          refine .inl ⟨rfl, ?_⟩
          (try simp [predsR, Region.binds, Vk] at hV)
          simp only [putAll]
          generalize hR : Res _ _ vs1 wz1 = R
          go_simp
          subst hR
          exact ⟨rfl, Below.refl _ _⟩
         ·cases hj
          clear hj'
          refine .inl ⟨rfl, ?_⟩
          generalize hG : relUpon _ _ _ = G
          have q0_ : vs1 0 = _ := hV 0 (by decide)
          clear hV
          subst hG
          simp only [putAll]
          generalize hR : Res _ _ vs1 wz1 = R
          go_simp
          subst hR
          exact ⟨rfl, Below.refl _ _⟩
         ·cases hj
          clear hj'
          refine .inl ⟨rfl, ?_⟩
          (try simp [predsR, Region.binds, Vk] at hV)
          simp only [putAll]
          generalize hR : Res _ _ vs1 wz1 = R
          go_simp
          subst hR
          exact ⟨rfl, Below.refl _ _⟩
         ·cases hj
          clear hj'
          refine .inl ⟨rfl, ?_⟩
          (try simp [predsR, Region.binds, Vk] at hV)
          simp only [putAll]
          generalize hR : Res _ _ vs1 wz1 = R
          go_simp
          subst hR
          exact ⟨rfl, Below.refl _ _⟩
         ·cases hj
          clear hj'
          refine .inl ⟨rfl, ?_⟩
          generalize hG : relUpon _ _ _ = G
          have q2_ : vs1 2 = _ := hV 2 (by decide)
          have q3_ : vs1 3 = _ := hV 3 (by decide)
          clear hV
          subst hG
          simp only [putAll]
          generalize hR : Res _ _ vs1 wz1 = R
          go_simp
          subst hR
          exact ⟨rfl, Below.refl _ _⟩
         ·cases hj
          clear hj'
          refine .inl ⟨rfl, ?_⟩
          generalize hG : relUpon _ _ _ = G
          have q4_ : vs1 4 = _ := hV 4 (by decide)
          clear hV
          subst hG
          simp only [putAll]
          generalize hR : Res _ _ vs1 wz1 = R
          go_simp
          subst hR
          exact ⟨rfl, Below.refl _ _⟩
         ·cases hj
          clear hj'
          refine .inl ⟨rfl, ?_⟩
          generalize hG : relUpon _ _ _ = G
          have q5_ : vs1 5 = _ := hV 5 (by decide)
          clear hV
          subst hG
          simp only [putAll]
          generalize hR : Res _ _ vs1 wz1 = R
          go_simp
          subst hR
          refine (HRKQ.out wz1 hbw).mono ?_
          rintro e w2 ⟨rfl, hb2⟩
          exact ⟨_, rfl, rfl, hb2⟩
         ·cases hj
          clear hj'
          refine .inl ⟨rfl, ?_⟩
          generalize hG : relUpon _ _ _ = G
          have q1_ : vs1 1 = _ := hV 1 (by decide)
          have q6_ : vs1 6 = _ := hV 6 (by decide)
          clear hV
          subst hG
          simp only [putAll]
          generalize hR : Res _ _ vs1 wz1 = R
          go_simp
          subst hR
          exact ⟨rfl, Below.refl _ _⟩
         ·cases hj
          clear hj'
          refine .inl ⟨rfl, ?_⟩
          generalize hG : relUpon _ _ _ = G
          have q7_ : vs1 7 = _ := hV 7 (by decide)
          clear hV
          subst hG
          simp only [putAll]
          generalize hR : Res _ _ vs1 wz1 = R
          go_simp
          subst hR
          exact ⟨rfl, Below.refl _ _⟩
         ·cases hj
          clear hj'
          refine .inl ⟨rfl, ?_⟩
          generalize hG : relUpon _ _ _ = G
          have q8_ : vs1 8 = _ := hV 8 (by decide)
          clear hV
          subst hG
          simp only [putAll]
          generalize hR : Res _ _ vs1 wz1 = R
          go_simp
          subst hR
          exact ⟨rfl, Below.refl _ _⟩
        case hQ =>
         intro W hW vs1 wz1 hb hV hD
         have hbw : Below wo.heap.size wo wz1 := by rw [hW] at hb; exact ((Below.refl wo.heap.size wo).drew).trans hb
         have e0_ : vs1 0 = _ := hV 0 (by decide)
         have e1_ : vs1 1 = _ := hV 1 (by decide)
         have e2_ : vs1 2 = _ := hV 2 (by decide)
         have e3_ : vs1 3 = _ := hV 3 (by decide)
         have e4_ : vs1 4 = _ := hV 4 (by decide)
         have e5_ : vs1 5 = _ := hV 5 (by decide)
         have e6_ : vs1 6 = _ := hV 6 (by decide)
         have e7_ : vs1 7 = _ := hV 7 (by decide)
         have e8_ : vs1 8 = _ := hV 8 (by decide)
         have e9_ : vs1 9 = _ := hV 9 (by decide)
         have HFZ := Lib.hid (HFWO.out.later hbw)
         have HBZ2 := Lib.hid hbw
         generalize hKK : Exit.then _ _ = KK
         simp only [putAll, e0_, e1_, e2_, e3_, e4_, e5_, e6_, e7_, e8_, e9_]
         go_simp
         subst hKK
         clear hV hD hb hW hbw e0_ e1_ e2_ e3_ e4_ e5_ e6_ e7_ e8_ e9_
         have hml := HQA.out.ml.next
         have HNX := Lib.hid hml
         have hjK : j + 1 ≤ K := by have h1 := HQA.out.place; have h2 := lv_le (E := toE x) (N := N) (p := p) k; have h3 := HJL.out; omega
         have hLaK : La ≤ 362880 ∨ M < k := by by_cases h : M < k; exact .inr h; have := (hml.2 h).2; have := HKL.out; left; omega
         have c2 := HFZ.out.r7.cell 2
         have c3 := HFZ.out.r7.cell 3
         have f2 := HFZ.out.r7.free 2
         have f3 := HFZ.out.r7.free 3
         simp only [List.getElem?_cons_zero, List.getElem?_cons_succ] at c2 c3
         have hhoq := fun W (h : SlA W (.slice up q.length uc) (ints q)) => HHO.out _ q W h (HQP.out.w (by omega))
         rw [HHE.out] at hhoq
         have HHOQ := Lib.hid hhoq
         clear hhoq
         clear hml
         by_cases hmk : M < k
         ·have gmk : (M : Int) < (k : Int) := by omega
          have hj0 := HNX.out.1 hmk
          have HF1 := Lib.hid (HFZ.out.put7 2 (k : Nat) k La rfl)
          have HF2 := Lib.hid (HF1.out.put7 3 0 k 0 rfl)
          have HF3 := Lib.hid (HF2.out.put7 3 1 k (j + 1) (by rw [← hj0]; rfl))
          have c13 := HF1.out.r7.cell 3
          have f13 := HF1.out.r7.free 3
          have c23 := HF2.out.r7.cell 3
          have f23 := HF2.out.r7.free 3
          simp only [List.getElem?_cons_zero, List.getElem?_cons_succ] at c13 c23
          have cq3 := HF3.out.cellQ ii (by omega)
          rw [HUU.out] at cq3
          clear hLaK hj0
          go_wp2_with (first | (go_at_call 40; refine (HHOQ.out _ (HF3.out.elA HP.out HUU.out HQQ.out)).mono ?_; rintro e wy ⟨rfl, hby⟩; have HFY := Lib.hid (HF3.out.later hby); have cny := (HNROW.out _ HFY.out.fr).1; clear hby))
          clear HF3 cq3
          obtain ⟨R, hR⟩ : ∃ R, nrT (toE x) hh N = R := ⟨_, rfl⟩
          have hRN : R.length ≤ 9 := by rw [← hR]; exact Nat.le_trans (nrT_len _ _ _) (by omega)
          have HNB : Hid (∀ t, t < R.length → ∃ tn, tn < N ∧ R.getD t 0 = ((tn : Nat) : Int) ∧ (nbrL (toE x) N q)[t]? = some (movedL q tn)) := by intro t ht; have hh1 := HHE.out; subst hh1; subst hR; exact nbr_at ht
          have HNL : Hid ((nbrL (toE x) N q).length = R.length) := by show _ = _; rw [nbr_len, HHE.out, hR]
          rw [hR] at HNROW cny ⊢
          have HRN := Lib.hid hRN
          clear hR hRN
          clear HFZ
          obtain ⟨wv, hwv⟩ : ∃ wv : World, wv = wy := ⟨_, rfl⟩
          subst hwv
          go_loopw [13, 17] (fun qv tv wr => ∃ (vs' : List Value) (Q' : List (List Int)) (F' : List Int) (t : Nat), tv = .int .i64 (t : Nat) ∧ t ≤ R.length ∧ QIn (toE x) N p q k j t Q' F' ∧ FW Bq s g7 K w Wq wr (.slice pp p.length cp) p qv vs' Q' F' k (j + 1) ∧ vs'[ii]? = some (.slice up q.length uc) ∧ Q'[ii]? = some q) (fun _ tv _ => R.length - (intOf tv).toNat)
          case atStart => exact ⟨vs, Q, F, 0, rfl, Nat.zero_le _, HQA.out.into q, HFY.out, HUU.out, HQQ.out⟩
          case round =>
           obtain ⟨vs', Q', F', t, rfl, htl, hqi, hfw, hu', hq'⟩ := hrel
           clear HFY HNX HVL HFL HGQ HCU HUA HFWO HRKQ HFK
           have hQ5 := hqi.few HPP.out HQP.out
           rw [HK.out] at hQ5
           have hvl5 := hfw.len
           have hii5 : ii < vs'.length := (List.getElem?_eq_some_iff.1 hu').1
           obtain ⟨qp5, qc5, hqv5, hqc51, hqc52, _, hqc5⟩ := hfw.own.sl.toA
           obtain ⟨adq5, rfl, hgq5, hcells5⟩ := hqc5 (by omega)
           subst hqv5
           by_cases hlt5 : t < R.length
           ·obtain ⟨tn, htn, hrt, hnb⟩ := HNB.out t hlt5
            obtain ⟨w5, hw5⟩ : ∃ w5 : World, w5 = wr := ⟨_, rfl⟩
            subst hw5
            have cu5 := hcells5 ii hii5
            rw [hu'] at cu5
            obtain ⟨adr, capr, hvr, _, _, hgr, hcr⟩ := ((HNROW.out _ hfw.fr).2).int_at t hlt5
            cases hvr
            rw [hrt] at hcr
            have gt5 : (t : Int) < (R.length : Int) := by omega
            have gii5 : (ii : Int) < (vs'.length : Int) := by omega
            have huA := hfw.elA HP.out hu' hq'
            have HFW5 := Lib.hid hfw
            have HU5 := Lib.hid hu'
            have HQ5 := Lib.hid hq'
            have HQI5 := Lib.hid hqi
            have HMV5 := Lib.hid (fun W (hb : Below w5.heap.size w5 W) => HMV.out _ q ((tn : Nat) : Int) tn W (huA.below hb) (HQP.out.w (by omega)) htn rfl)
            have HCU5 := Lib.hid cu5
            have HCR5 := Lib.hid hcr
            have HGR5 := Lib.hid hgr
            have HGQ5 := Lib.hid hgq5
            have HHRT := Lib.hid hrt
            have HNB5 := Lib.hid hnb
            have HVL5 := Lib.hid hvl5
            have HQP5 : Hid (PosP N (movedL q tn)) := HQP.out.moved htn
            unfold maxLen at hqc52
            clear hfw hu' hq' hqi huA cu5 hcr hgr hgq5 hcells5 hqc5 hrt hnb hvl5
            go_wp2
            refine wp_region_rel (by kernel_rfl) 140 rfl (by kernel_rfl) [.fix (.slice (some adq5) vs'.length qc5), .fix (.int .i64 (ii : Nat)), .fix (.pointer (some (adq5.add ii))), .fix (.slice up q.length uc), .fix (.slice (some adr) R.length rc), .fix (.int .i64 (t : Nat)), .fix (.pointer (some (adr.add t))), .fix (.int .i64 (tn : Nat)), .mem (fun u W => Own 3 Bq W u (ints (movedL q tn))), .mem (fun u W => Own 3 Bq W u (ints (movedL q tn)))] rfl (stays_far (fun i M hk v w' w'' h hb => by rcases i with _ | _ | _ | _ | _ | _ | _ | _ | _ | _ | i <;> simp at hk <;> subst hk <;> exact Own.below h hb (Nat.le_refl _)) (fun j b k T n => by rcases j with _ | _ | _ | _ | _ | _ | _ | _ | _ | _ | j <;> simp)) ?hop ?hQ
            case hop =>
             intro W hW j0 o hj vs2 wz2 hb hV
             have hbw : Below w5.heap.size w5 wz2 := by rw [hW] at hb; exact ((Below.refl w5.heap.size w5).drew).trans hb
             have d1 : wz2.cell? (adq5.add ii) = some (.slice up q.length uc) := (hbw.cell (p := adq5.add ii) (by rw [block_add]; exact HGQ5.out)).trans HCU5.out
             have d2 : wz2.cell? (adr.add t) = some (.int .i64 (tn : Nat)) := (hbw.cell (p := adr.add t) (by rw [block_add]; exact HGR5.out)).trans HCR5.out
             clear hW hb
             have hj' : j0 < 10 := (List.getElem?_eq_some_iff.1 hj).1
             rcases (by omega : j0 = 0 ∨ j0 = 1 ∨ j0 = 2 ∨ j0 = 3 ∨ j0 = 4 ∨ j0 = 5 ∨ j0 = 6 ∨ j0 = 7 ∨ j0 = 8 ∨ j0 = 9) with rfl | rfl | rfl | rfl | rfl | rfl | rfl | rfl | rfl | rfl
             ·cases hj
              clear hj'
              refine .inl ⟨rfl, ?_⟩
              (try simp [predsR, Region.binds, Vk] at hV)
              simp only [putAll]
              generalize hR : Res _ _ vs2 wz2 = R
              go_simp
              subst hR
              exact ⟨rfl, Below.refl _ _⟩
             ·cases hj
              clear hj'
              refine .inl ⟨rfl, ?_⟩
              (try simp [predsR, Region.binds, Vk] at hV)
              simp only [putAll]
              generalize hR : Res _ _ vs2 wz2 = R
              go_simp
              subst hR
              exact ⟨rfl, Below.refl _ _⟩
             ·cases hj
              clear hj'
              refine .inl ⟨rfl, ?_⟩
              generalize hG : relUpon _ _ _ = G
              have q0_ : vs2 0 = _ := hV 0 (by decide)
              have q1_ : vs2 1 = _ := hV 1 (by decide)
              clear hV
              subst hG
              simp only [putAll]
              generalize hR : Res _ _ vs2 wz2 = R
              go_simp
              subst hR
              exact ⟨rfl, Below.refl _ _⟩
             ·cases hj
              clear hj'
              refine .inl ⟨rfl, ?_⟩
              generalize hG : relUpon _ _ _ = G
              have q2_ : vs2 2 = _ := hV 2 (by decide)
              clear hV
              subst hG
              simp only [putAll]
              generalize hR : Res _ _ vs2 wz2 = R
              go_simp
              subst hR
              exact ⟨rfl, Below.refl _ _⟩
             ·cases hj
              clear hj'
              refine .inl ⟨rfl, ?_⟩
              (try simp [predsR, Region.binds, Vk] at hV)
              simp only [putAll]
              generalize hR : Res _ _ vs2 wz2 = R
              go_simp
              subst hR
              exact ⟨rfl, Below.refl _ _⟩
             ·cases hj
              clear hj'
              refine .inl ⟨rfl, ?_⟩
              (try simp [predsR, Region.binds, Vk] at hV)
              simp only [putAll]
              generalize hR : Res _ _ vs2 wz2 = R
              go_simp
              subst hR
              exact ⟨rfl, Below.refl _ _⟩
             ·cases hj
              clear hj'
              refine .inl ⟨rfl, ?_⟩
              generalize hG : relUpon _ _ _ = G
              have q4_ : vs2 4 = _ := hV 4 (by decide)
              have q5_ : vs2 5 = _ := hV 5 (by decide)
              clear hV
              subst hG
              simp only [putAll]
              generalize hR : Res _ _ vs2 wz2 = R
              go_simp
              subst hR
              exact ⟨rfl, Below.refl _ _⟩
             ·cases hj
              clear hj'
              refine .inl ⟨rfl, ?_⟩
              generalize hG : relUpon _ _ _ = G
              have q6_ : vs2 6 = _ := hV 6 (by decide)
              clear hV
              subst hG
              simp only [putAll]
              generalize hR : Res _ _ vs2 wz2 = R
              go_simp
              subst hR
              exact ⟨rfl, Below.refl _ _⟩
             ·cases hj
              clear hj'
              refine .inl ⟨rfl, ?_⟩
              generalize hG : relUpon _ _ _ = G
              have q3_ : vs2 3 = _ := hV 3 (by decide)
              have q7_ : vs2 7 = _ := hV 7 (by decide)
              clear hV
              subst hG
              simp only [putAll]
              generalize hR : Res _ _ vs2 wz2 = R
              go_simp
              subst hR
              refine (HMV5.out wz2 hbw).mono ?_
              rintro e w2 ⟨v2, rfl, ho2, hb2⟩
              exact ⟨_, rfl, ho2.base (Nat.le_trans HFW5.out.fr.1 hbw.size), hb2⟩
             ·cases hj
              clear hj'
              refine .inl ⟨rfl, ?_⟩
              generalize hG : relUpon _ _ _ = G
              have q8_ : Own 3 Bq wz2 (vs2 8) (ints (movedL q tn)) := hV 8 (by decide)
              clear hV
              subst hG
              simp only [putAll]
              generalize hR : Res _ _ vs2 wz2 = R
              go_simp
              subst hR
              exact ⟨q8_, Below.refl _ _⟩
            case hQ =>
             intro W hW vs2 wz2 hb hV hD
             have hbw : Below w5.heap.size w5 wz2 := by rw [hW] at hb; exact ((Below.refl w5.heap.size w5).drew).trans hb
             have e0_ : vs2 0 = _ := hV 0 (by decide)
             have e1_ : vs2 1 = _ := hV 1 (by decide)
             have e2_ : vs2 2 = _ := hV 2 (by decide)
             have e3_ : vs2 3 = _ := hV 3 (by decide)
             have e4_ : vs2 4 = _ := hV 4 (by decide)
             have e5_ : vs2 5 = _ := hV 5 (by decide)
             have e6_ : vs2 6 = _ := hV 6 (by decide)
             have e7_ : vs2 7 = _ := hV 7 (by decide)
             have hO : Own 3 Bq wz2 (vs2 9) (ints (movedL q tn)) := hV 9 (by decide)
             have HFZ5 := Lib.hid (HFW5.out.later hbw)
             generalize hKK : Exit.then _ _ = KK
             simp only [putAll, e0_, e1_, e2_, e3_, e4_, e5_, e6_, e7_]
             go_simp
             subst hKK
             obtain ⟨y8, hy8⟩ : ∃ y8, vs2 8 = y8 := ⟨_, rfl⟩
             obtain ⟨y9, hy9⟩ : ∃ y9, vs2 9 = y9 := ⟨_, rfl⟩
             rw [hy9] at hO
             rw [hy8, hy9]
             clear hV hD hb hW hbw e0_ e1_ e2_ e3_ e4_ e5_ e6_ e7_ hy8 hy9
             have hOA := hO.sl.toA
             obtain ⟨pz, cz, rfl, hcz1, hcz2⟩ := hOA.form
             obtain ⟨z, hz⟩ : ∃ z, movedL q tn = z := ⟨_, rfl⟩
             rw [hz] at hO hOA HQP5 HNB5 hcz1 ⊢
             obtain ⟨rz, hrz⟩ : ∃ rz, rankL z = rz := ⟨_, rfl⟩
             have hrzK := HQP5.out.lt
             rw [HK.out, hrz] at hrzK
             have HRK5 := Lib.hid (HRK.out _ z wz2 hOA HQP5.out)
             rw [hrz] at HRK5
             have HRZ := Lib.hid hrz
             have HO5 := Lib.hid hO
             have grz : (rz : Int) < (K : Int) := by omega
             clear hz hO hOA hrz
             have hdec := HQI5.out.fok.neg HQP5.out
             rw [HRZ.out] at hdec
             have hFl5 := HQI5.out.fok.1
             rw [HK.out] at hFl5
             have HFL5 := Lib.hid hFl5
             obtain ⟨dz, hdz⟩ : ∃ dz, F'.getD rz 0 = dz := ⟨_, rfl⟩
             rw [hdz] at hdec
             have HDZ := Lib.hid hdz
             clear hdz hFl5
             by_cases hold : z ∈ Q'
             ·have gd : ¬ dz < 0 := fun h => (hdec.1 h) hold
              have HNX5 := Lib.hid (HQI5.out.old HNB5.out hold)
              clear hdec hold
              go_wp2_with (first | (go_at_call 64; refine HRK5.out.mono ?_; rintro e w6 ⟨rfl, hb6⟩; have HFW6 := Lib.hid (HFZ5.out.later hb6); have c70 := HFW6.out.r7.cell 0; have cs0 : w6.cell? ⟨s, rz, none⟩ = some (.int .i64 dz) := (by rw [HFW6.out.rs.cell, ints_get _ _ (by rw [HFL5.out]; exact hrzK), HDZ.out]); (simp only [List.getElem?_cons_zero] at c70); clear hb6))
              go_roundw
              case rel => exact ⟨vs', Q', F', t + 1, by go_num, by omega, HNX5.out, HFW6.out, HU5.out, HQ5.out⟩
              case measure => simp [intOf]; omega
             ·have gd : dz < 0 := hdec.2 hold
              have HNX5 := Lib.hid (HQI5.out.new HPP.out HQP.out HLQ.out HNB5.out hold)
              rw [HRZ.out, show ((k + 1 : Nat) : Int) = (k : Int) + 1 from rfl] at HNX5
              have hkK := lv_bound HPP.out HQA.out.ne
              rw [HK.out] at hkK
              have gk1 : IntKind.i64.wrap ((k : Int) + 1) = (k : Int) + 1 := by rw [show (k : Int) + 1 = ((k + 1 : Nat) : Int) by omega]; exact IntWalk.i64_in _ (by have := HKL.out; omega)
              have hvK : vs'.length ≤ 1000000 := by have := HKL.out; have := HVL5.out; omega
              clear hdec hold
              go_wp2_with (first
               | (go_at_call 64; refine HRK5.out.mono ?_; rintro e w6 ⟨rfl, hb6⟩; have HFW6 := Lib.hid (HFZ5.out.later hb6); have HO6 := Lib.hid (HO5.out.below hb6 (Nat.le_refl _)); have c70 := HFW6.out.r7.cell 0; have cs0 : w6.cell? ⟨s, rz, none⟩ = some (.int .i64 dz) := (by rw [HFW6.out.rs.cell, ints_get _ _ (by rw [HFL5.out]; exact hrzK), HDZ.out]); (simp only [List.getElem?_cons_zero] at c70); have fs0 := HFW6.out.rs.free rz; have HF7 := Lib.hid (HFW6.out.putS rz ((k : Int) + 1)); have HO7 : Hid (Own 3 Bq (w6.setCell ⟨s, rz, none⟩ (.int .i64 ((k : Int) + 1))) (.slice pz z.length cz) (ints z)) := HO6.out.same fun g hg _ _ => Below.heap_setCell _ _ _ _ (fun e => by dsimp only at e; have := HFW6.out.sg; have := HFW6.out.gB; omega); clear hb6)
               | (at_builtin; refine wpList_append_box _ rfl (.tmp 132) (.tmp 134) 79 rfl 23 (.slice none 0 0) 24 undSS infoSl rfl (by omega) Bq _ vs' rfl HF7.out.own (.slice pz z.length cz) (by rw [World.size_setCell]; rfl) rfl hvK HF7.out.fr.1 ?_; intro v8 w8 hown8 hb8 hkp8; have HF8 := Lib.hid (HF7.out.push HO7.out hown8 hb8 hkp8); clear hown8 hb8 hkp8))
              go_roundw
              case rel => exact ⟨_, _, _, t + 1, by go_num, by omega, HNX5.out, HF8.out, by rw [List.getElem?_append_left hii5]; exact HU5.out, by rw [List.getElem?_append_left (by have := HVL5.out; omega)]; exact HQ5.out⟩
              case measure => simp [intOf]; omega
           ·obtain rfl : t = R.length := by omega
            have hqi2 := hqi
            rw [← HNL.out] at hqi2
            have HEND := Lib.hid (QIn.out HQA.out HJL.out HLQ.out hqi2)
            have HFWE := Lib.hid hfw
            clear hfw hqi hqi2 hu' hq'
            go_wp2
            go_roundw
            case rel => exact ⟨_, _, _, k, j + 1, ii + 1, k, j + 1, by go_num, HEND.out, HFWE.out⟩
            case measure => simp [intOf]; omega
         ·have gmk : ¬ (M : Int) < (k : Int) := by omega
          obtain ⟨hMk, hLj⟩ := HNX.out.2 hmk
          obtain rfl : k = M := by omega
          have gwr : IntKind.i64.wrap ((La : Int) + 1) = (j : Int) + 1 := by rw [show (La : Int) + 1 = ((j + 1 : Nat) : Int) by omega]; exact IntWalk.i64_in _ (by omega)
          have HF3 := Lib.hid (HFZ.out.put7 3 ((j : Int) + 1) k (j + 1) rfl)
          have cq3 := HF3.out.cellQ ii (by omega)
          rw [HUU.out] at cq3
          clear hLaK hLj hMk
          go_wp2_with (first | (go_at_call 40; refine (HHOQ.out _ (HF3.out.elA HP.out HUU.out HQQ.out)).mono ?_; rintro e wy ⟨rfl, hby⟩; have HFY := Lib.hid (HF3.out.later hby); have cny := (HNROW.out _ HFY.out.fr).1; clear hby))
          clear HF3 cq3
          obtain ⟨R, hR⟩ : ∃ R, nrT (toE x) hh N = R := ⟨_, rfl⟩
          have hRN : R.length ≤ 9 := by rw [← hR]; exact Nat.le_trans (nrT_len _ _ _) (by omega)
          have HNB : Hid (∀ t, t < R.length → ∃ tn, tn < N ∧ R.getD t 0 = ((tn : Nat) : Int) ∧ (nbrL (toE x) N q)[t]? = some (movedL q tn)) := by intro t ht; have hh1 := HHE.out; subst hh1; subst hR; exact nbr_at ht
          have HNL : Hid ((nbrL (toE x) N q).length = R.length) := by show _ = _; rw [nbr_len, HHE.out, hR]
          rw [hR] at HNROW cny ⊢
          have HRN := Lib.hid hRN
          clear hR hRN
          clear HFZ
          obtain ⟨wv, hwv⟩ : ∃ wv : World, wv = wy := ⟨_, rfl⟩
          subst hwv
          go_loopw [13, 17] (fun qv tv wr => ∃ (vs' : List Value) (Q' : List (List Int)) (F' : List Int) (t : Nat), tv = .int .i64 (t : Nat) ∧ t ≤ R.length ∧ QIn (toE x) N p q k j t Q' F' ∧ FW Bq s g7 K w Wq wr (.slice pp p.length cp) p qv vs' Q' F' k (j + 1) ∧ vs'[ii]? = some (.slice up q.length uc) ∧ Q'[ii]? = some q) (fun _ tv _ => R.length - (intOf tv).toNat)
          case atStart => exact ⟨vs, Q, F, 0, rfl, Nat.zero_le _, HQA.out.into q, HFY.out, HUU.out, HQQ.out⟩
          case round =>
           obtain ⟨vs', Q', F', t, rfl, htl, hqi, hfw, hu', hq'⟩ := hrel
           clear HFY HNX HVL HFL HGQ HCU HUA HFWO HRKQ HFK
           have hQ5 := hqi.few HPP.out HQP.out
           rw [HK.out] at hQ5
           have hvl5 := hfw.len
           have hii5 : ii < vs'.length := (List.getElem?_eq_some_iff.1 hu').1
           obtain ⟨qp5, qc5, hqv5, hqc51, hqc52, _, hqc5⟩ := hfw.own.sl.toA
           obtain ⟨adq5, rfl, hgq5, hcells5⟩ := hqc5 (by omega)
           subst hqv5
           by_cases hlt5 : t < R.length
           ·obtain ⟨tn, htn, hrt, hnb⟩ := HNB.out t hlt5
            obtain ⟨w5, hw5⟩ : ∃ w5 : World, w5 = wr := ⟨_, rfl⟩
            subst hw5
            have cu5 := hcells5 ii hii5
            rw [hu'] at cu5
            obtain ⟨adr, capr, hvr, _, _, hgr, hcr⟩ := ((HNROW.out _ hfw.fr).2).int_at t hlt5
            cases hvr
            rw [hrt] at hcr
            have gt5 : (t : Int) < (R.length : Int) := by omega
            have gii5 : (ii : Int) < (vs'.length : Int) := by omega
            have huA := hfw.elA HP.out hu' hq'
            have HFW5 := Lib.hid hfw
            have HU5 := Lib.hid hu'
            have HQ5 := Lib.hid hq'
            have HQI5 := Lib.hid hqi
            have HMV5 := Lib.hid (fun W (hb : Below w5.heap.size w5 W) => HMV.out _ q ((tn : Nat) : Int) tn W (huA.below hb) (HQP.out.w (by omega)) htn rfl)
            have HCU5 := Lib.hid cu5
            have HCR5 := Lib.hid hcr
            have HGR5 := Lib.hid hgr
            have HGQ5 := Lib.hid hgq5
            have HHRT := Lib.hid hrt
            have HNB5 := Lib.hid hnb
            have HVL5 := Lib.hid hvl5
            have HQP5 : Hid (PosP N (movedL q tn)) := HQP.out.moved htn
            unfold maxLen at hqc52
            clear hfw hu' hq' hqi huA cu5 hcr hgr hgq5 hcells5 hqc5 hrt hnb hvl5
            go_wp2
            refine wp_region_rel (by kernel_rfl) 140 rfl (by kernel_rfl) [.fix (.slice (some adq5) vs'.length qc5), .fix (.int .i64 (ii : Nat)), .fix (.pointer (some (adq5.add ii))), .fix (.slice up q.length uc), .fix (.slice (some adr) R.length rc), .fix (.int .i64 (t : Nat)), .fix (.pointer (some (adr.add t))), .fix (.int .i64 (tn : Nat)), .mem (fun u W => Own 3 Bq W u (ints (movedL q tn))), .mem (fun u W => Own 3 Bq W u (ints (movedL q tn)))] rfl (stays_far (fun i M hk v w' w'' h hb => by rcases i with _ | _ | _ | _ | _ | _ | _ | _ | _ | _ | i <;> simp at hk <;> subst hk <;> exact Own.below h hb (Nat.le_refl _)) (fun j b k T n => by rcases j with _ | _ | _ | _ | _ | _ | _ | _ | _ | _ | j <;> simp)) ?hop ?hQ
            case hop =>
             intro W hW j0 o hj vs2 wz2 hb hV
             have hbw : Below w5.heap.size w5 wz2 := by rw [hW] at hb; exact ((Below.refl w5.heap.size w5).drew).trans hb
             have d1 : wz2.cell? (adq5.add ii) = some (.slice up q.length uc) := (hbw.cell (p := adq5.add ii) (by rw [block_add]; exact HGQ5.out)).trans HCU5.out
             have d2 : wz2.cell? (adr.add t) = some (.int .i64 (tn : Nat)) := (hbw.cell (p := adr.add t) (by rw [block_add]; exact HGR5.out)).trans HCR5.out
             clear hW hb
             have hj' : j0 < 10 := (List.getElem?_eq_some_iff.1 hj).1
             rcases (by omega : j0 = 0 ∨ j0 = 1 ∨ j0 = 2 ∨ j0 = 3 ∨ j0 = 4 ∨ j0 = 5 ∨ j0 = 6 ∨ j0 = 7 ∨ j0 = 8 ∨ j0 = 9) with rfl | rfl | rfl | rfl | rfl | rfl | rfl | rfl | rfl | rfl
             ·cases hj
              clear hj'
              refine .inl ⟨rfl, ?_⟩
              (try simp [predsR, Region.binds, Vk] at hV)
              simp only [putAll]
              generalize hR : Res _ _ vs2 wz2 = R
              go_simp
              subst hR
              exact ⟨rfl, Below.refl _ _⟩
             ·cases hj
              clear hj'
              refine .inl ⟨rfl, ?_⟩
              (try simp [predsR, Region.binds, Vk] at hV)
              simp only [putAll]
              generalize hR : Res _ _ vs2 wz2 = R
              go_simp
              subst hR
              exact ⟨rfl, Below.refl _ _⟩
             ·cases hj
              clear hj'
              refine .inl ⟨rfl, ?_⟩
              generalize hG : relUpon _ _ _ = G
              have q0_ : vs2 0 = _ := hV 0 (by decide)
              have q1_ : vs2 1 = _ := hV 1 (by decide)
              clear hV
              subst hG
              simp only [putAll]
              generalize hR : Res _ _ vs2 wz2 = R
              go_simp
              subst hR
              exact ⟨rfl, Below.refl _ _⟩
             ·cases hj
              clear hj'
              refine .inl ⟨rfl, ?_⟩
              generalize hG : relUpon _ _ _ = G
              have q2_ : vs2 2 = _ := hV 2 (by decide)
              clear hV
              subst hG
              simp only [putAll]
              generalize hR : Res _ _ vs2 wz2 = R
              go_simp
              subst hR
              exact ⟨rfl, Below.refl _ _⟩
             ·cases hj
              clear hj'
              refine .inl ⟨rfl, ?_⟩
              (try simp [predsR, Region.binds, Vk] at hV)
              simp only [putAll]
              generalize hR : Res _ _ vs2 wz2 = R
              go_simp
              subst hR
              exact ⟨rfl, Below.refl _ _⟩
             ·cases hj
              clear hj'
              refine .inl ⟨rfl, ?_⟩
              (try simp [predsR, Region.binds, Vk] at hV)
              simp only [putAll]
              generalize hR : Res _ _ vs2 wz2 = R
              go_simp
              subst hR
              exact ⟨rfl, Below.refl _ _⟩
             ·cases hj
              clear hj'
              refine .inl ⟨rfl, ?_⟩
              generalize hG : relUpon _ _ _ = G
              have q4_ : vs2 4 = _ := hV 4 (by decide)
              have q5_ : vs2 5 = _ := hV 5 (by decide)
              clear hV
              subst hG
              simp only [putAll]
              generalize hR : Res _ _ vs2 wz2 = R
              go_simp
              subst hR
              exact ⟨rfl, Below.refl _ _⟩
             ·cases hj
              clear hj'
              refine .inl ⟨rfl, ?_⟩
              generalize hG : relUpon _ _ _ = G
              have q6_ : vs2 6 = _ := hV 6 (by decide)
              clear hV
              subst hG
              simp only [putAll]
              generalize hR : Res _ _ vs2 wz2 = R
              go_simp
              subst hR
              exact ⟨rfl, Below.refl _ _⟩
             ·cases hj
              clear hj'
              refine .inl ⟨rfl, ?_⟩
              generalize hG : relUpon _ _ _ = G
              have q3_ : vs2 3 = _ := hV 3 (by decide)
              have q7_ : vs2 7 = _ := hV 7 (by decide)
              clear hV
              subst hG
              simp only [putAll]
              generalize hR : Res _ _ vs2 wz2 = R
              go_simp
              subst hR
              refine (HMV5.out wz2 hbw).mono ?_
              rintro e w2 ⟨v2, rfl, ho2, hb2⟩
              exact ⟨_, rfl, ho2.base (Nat.le_trans HFW5.out.fr.1 hbw.size), hb2⟩
             ·cases hj
              clear hj'
              refine .inl ⟨rfl, ?_⟩
              generalize hG : relUpon _ _ _ = G
              have q8_ : Own 3 Bq wz2 (vs2 8) (ints (movedL q tn)) := hV 8 (by decide)
              clear hV
              subst hG
              simp only [putAll]
              generalize hR : Res _ _ vs2 wz2 = R
              go_simp
              subst hR
              exact ⟨q8_, Below.refl _ _⟩
            case hQ =>
             intro W hW vs2 wz2 hb hV hD
             have hbw : Below w5.heap.size w5 wz2 := by rw [hW] at hb; exact ((Below.refl w5.heap.size w5).drew).trans hb
             have e0_ : vs2 0 = _ := hV 0 (by decide)
             have e1_ : vs2 1 = _ := hV 1 (by decide)
             have e2_ : vs2 2 = _ := hV 2 (by decide)
             have e3_ : vs2 3 = _ := hV 3 (by decide)
             have e4_ : vs2 4 = _ := hV 4 (by decide)
             have e5_ : vs2 5 = _ := hV 5 (by decide)
             have e6_ : vs2 6 = _ := hV 6 (by decide)
             have e7_ : vs2 7 = _ := hV 7 (by decide)
             have hO : Own 3 Bq wz2 (vs2 9) (ints (movedL q tn)) := hV 9 (by decide)
             have HFZ5 := Lib.hid (HFW5.out.later hbw)
             generalize hKK : Exit.then _ _ = KK
             simp only [putAll, e0_, e1_, e2_, e3_, e4_, e5_, e6_, e7_]
             go_simp
             subst hKK
             obtain ⟨y8, hy8⟩ : ∃ y8, vs2 8 = y8 := ⟨_, rfl⟩
             obtain ⟨y9, hy9⟩ : ∃ y9, vs2 9 = y9 := ⟨_, rfl⟩
             rw [hy9] at hO
             rw [hy8, hy9]
             clear hV hD hb hW hbw e0_ e1_ e2_ e3_ e4_ e5_ e6_ e7_ hy8 hy9
             have hOA := hO.sl.toA
             obtain ⟨pz, cz, rfl, hcz1, hcz2⟩ := hOA.form
             obtain ⟨z, hz⟩ : ∃ z, movedL q tn = z := ⟨_, rfl⟩
             rw [hz] at hO hOA HQP5 HNB5 hcz1 ⊢
             obtain ⟨rz, hrz⟩ : ∃ rz, rankL z = rz := ⟨_, rfl⟩
             have hrzK := HQP5.out.lt
             rw [HK.out, hrz] at hrzK
             have HRK5 := Lib.hid (HRK.out _ z wz2 hOA HQP5.out)
             rw [hrz] at HRK5
             have HRZ := Lib.hid hrz
             have HO5 := Lib.hid hO
             have grz : (rz : Int) < (K : Int) := by omega
             clear hz hO hOA hrz
             have hdec := HQI5.out.fok.neg HQP5.out
             rw [HRZ.out] at hdec
             have hFl5 := HQI5.out.fok.1
             rw [HK.out] at hFl5
             have HFL5 := Lib.hid hFl5
             obtain ⟨dz, hdz⟩ : ∃ dz, F'.getD rz 0 = dz := ⟨_, rfl⟩
             rw [hdz] at hdec
             have HDZ := Lib.hid hdz
             clear hdz hFl5
             by_cases hold : z ∈ Q'
             ·have gd : ¬ dz < 0 := fun h => (hdec.1 h) hold
              have HNX5 := Lib.hid (HQI5.out.old HNB5.out hold)
              clear hdec hold
              go_wp2_with (first | (go_at_call 64; refine HRK5.out.mono ?_; rintro e w6 ⟨rfl, hb6⟩; have HFW6 := Lib.hid (HFZ5.out.later hb6); have c70 := HFW6.out.r7.cell 0; have cs0 : w6.cell? ⟨s, rz, none⟩ = some (.int .i64 dz) := (by rw [HFW6.out.rs.cell, ints_get _ _ (by rw [HFL5.out]; exact hrzK), HDZ.out]); (simp only [List.getElem?_cons_zero] at c70); clear hb6))
              go_roundw
              case rel => exact ⟨vs', Q', F', t + 1, by go_num, by omega, HNX5.out, HFW6.out, HU5.out, HQ5.out⟩
              case measure => simp [intOf]; omega
             ·have gd : dz < 0 := hdec.2 hold
              have HNX5 := Lib.hid (HQI5.out.new HPP.out HQP.out HLQ.out HNB5.out hold)
              rw [HRZ.out, show ((k + 1 : Nat) : Int) = (k : Int) + 1 from rfl] at HNX5
              have hkK := lv_bound HPP.out HQA.out.ne
              rw [HK.out] at hkK
              have gk1 : IntKind.i64.wrap ((k : Int) + 1) = (k : Int) + 1 := by rw [show (k : Int) + 1 = ((k + 1 : Nat) : Int) by omega]; exact IntWalk.i64_in _ (by have := HKL.out; omega)
              have hvK : vs'.length ≤ 1000000 := by have := HKL.out; have := HVL5.out; omega
              clear hdec hold
              go_wp2_with (first
               | (go_at_call 64; refine HRK5.out.mono ?_; rintro e w6 ⟨rfl, hb6⟩; have HFW6 := Lib.hid (HFZ5.out.later hb6); have HO6 := Lib.hid (HO5.out.below hb6 (Nat.le_refl _)); have c70 := HFW6.out.r7.cell 0; have cs0 : w6.cell? ⟨s, rz, none⟩ = some (.int .i64 dz) := (by rw [HFW6.out.rs.cell, ints_get _ _ (by rw [HFL5.out]; exact hrzK), HDZ.out]); (simp only [List.getElem?_cons_zero] at c70); have fs0 := HFW6.out.rs.free rz; have HF7 := Lib.hid (HFW6.out.putS rz ((k : Int) + 1)); have HO7 : Hid (Own 3 Bq (w6.setCell ⟨s, rz, none⟩ (.int .i64 ((k : Int) + 1))) (.slice pz z.length cz) (ints z)) := HO6.out.same fun g hg _ _ => Below.heap_setCell _ _ _ _ (fun e => by dsimp only at e; have := HFW6.out.sg; have := HFW6.out.gB; omega); clear hb6)
               | (at_builtin; refine wpList_append_box _ rfl (.tmp 132) (.tmp 134) 79 rfl 23 (.slice none 0 0) 24 undSS infoSl rfl (by omega) Bq _ vs' rfl HF7.out.own (.slice pz z.length cz) (by rw [World.size_setCell]; rfl) rfl hvK HF7.out.fr.1 ?_; intro v8 w8 hown8 hb8 hkp8; have HF8 := Lib.hid (HF7.out.push HO7.out hown8 hb8 hkp8); clear hown8 hb8 hkp8))
              go_roundw
              case rel => exact ⟨_, _, _, t + 1, by go_num, by omega, HNX5.out, HF8.out, by rw [List.getElem?_append_left hii5]; exact HU5.out, by rw [List.getElem?_append_left (by have := HVL5.out; omega)]; exact HQ5.out⟩
              case measure => simp [intOf]; omega
           ·obtain rfl : t = R.length := by omega
            have hqi2 := hqi
            rw [← HNL.out] at hqi2
            have HEND := Lib.hid (QIn.out HQA.out HJL.out HLQ.out hqi2)
            have HFWE := Lib.hid hfw
            clear hfw hqi hqi2 hu' hq'
            go_wp2
            go_roundw
            case rel => exact ⟨_, _, _, k, j + 1, ii + 1, k, j + 1, by go_num, HEND.out, HFWE.out⟩
            case measure => simp [intOf]; omega
       ·obtain ⟨hnil, hQe, hMk, hLe⟩ := hqa.done HPP.out (by omega)
        have HNE := Lib.hid hqa.ne
        have HFO := Lib.hid hqa.fok
        have HNIL := Lib.hid hnil
        have HQE := Lib.hid hQe
        have HMK := Lib.hid hMk
        have HLE := Lib.hid hLe
        obtain ⟨qp, qc, hqv, hqc1, hqc2, _, _⟩ := hfw.own.sl.toA
        rw [hfw.len] at hqv hqc1
        subst hqv
        have gii : ¬ ((ii : Int) < (Q.length : Int)) := by omega
        have hg6 := HG6.out
        have hg6B : g6 < Bq := by have := hfw.ws; have := hfw.sg; have := hfw.gB; omega
        have hr6 : Row 70 wr w.heap.size [.slice none 0 0, .int .i64 0, .int .i64 0, .int .i64 0] := by
         rw [hg6]; show wr.heap[g6]? = _; rw [hfw.fr.2 g6 hg6B (by have := HO1.out; omega) (by have := HO1.out; have := HO2.out; omega)]; exact HG60.out
        have a0 := hfw.r7.free 1
        have a1 := hfw.r7.cell 1
        have hr7 := hfw.r7.store 1 (.int .i64 (Q.length : Nat))
        have b0 := hr7.cell 0
        have b1 := hr7.cell 1
        have b2 := hr7.cell 2
        have b3 := hr7.cell 3
        simp only [List.set_cons_succ, List.set_cons_zero, List.getElem?_cons_zero, List.getElem?_cons_succ] at a1 b0 b1 b2 b3
        have hr6b := hr6.other ⟨g7, 1, none⟩ (fun e => by dsimp only at e; have := hfw.ws; have := hfw.sg; have := HO1.out; omega) (.int .i64 (Q.length : Nat))
        have k0 := hr6b.cell 0
        have k1 := hr6b.cell 1
        have k2 := hr6b.cell 2
        have k3 := hr6b.cell 3
        simp only [List.getElem?_cons_zero, List.getElem?_cons_succ] at k0 k1 k2 k3
        have f0 := hr6b.free 0
        have f1 := hr6b.free 1
        have f2 := hr6b.free 2
        have f3 := hr6b.free 3
        have HR6B := Lib.hid hr6b
        have HFWX := Lib.hid hfw
        clear hqa hfw hnil hQe hMk hLe hr6 hr6b hr7 hg6 hg6B
        have hrow := (((HR6B.out.store 0 (.slice (some ⟨s, 0, none⟩) K K)).store 1 (.int .i64 (Q.length : Nat))).store 2 (.int .i64 (M : Nat))).store 3 (.int .i64 (La : Nat))
        simp only [List.set_cons_succ, List.set_cons_zero] at hrow
        have HROW := Lib.hid hrow
        clear hrow
        go_wp2
        have hws := HFWX.out.ws
        have hsg := HFWX.out.sg
        have hne : ∀ i, (⟨w.heap.size, i, none⟩ : Addr).block ≠ s := fun i e => by dsimp only at e; have := HG6.out; have := HO1.out; omega
        have hRS := (((((HFWX.out.rs.other ⟨g7, 1, none⟩ (fun e => by dsimp only at e; omega) (.int .i64 (Q.length : Nat))).other _ (hne 0) (.slice (some ⟨s, 0, none⟩) K K)).other _ (hne 1) (.int .i64 (Q.length : Nat))).other _ (hne 2) (.int .i64 (M : Nat))).other _ (hne 3) (.int .i64 (La : Nat)))
        have hBL := ((((HFWX.out.old.setCell (p := ⟨g7, 1, none⟩) (by dsimp only; omega) (.int .i64 (Q.length : Nat))).setCell (p := ⟨w.heap.size, 0, none⟩) (Nat.le_refl _) (.slice (some ⟨s, 0, none⟩) K K)).setCell (p := ⟨w.heap.size, 1, none⟩) (Nat.le_refl _) (.int .i64 (Q.length : Nat))).setCell (p := ⟨w.heap.size, 2, none⟩) (Nat.le_refl _) (.int .i64 (M : Nat))).setCell (p := ⟨w.heap.size, 3, none⟩) (Nat.le_refl _) (.int .i64 (La : Nat))
        have hFK : (ints F).length = K := by rw [ints_length, HFO.out.1, HK.out]
        have hSL := (Sl.of_row (cap := K) (xs := ints F) (more := []) (by rw [List.append_nil]; exact hRS) (by rw [hFK]; exact Nat.le_refl _) (by have := HKL.out; unfold maxLen; omega)).toA
        rw [hFK] at hSL
        obtain ⟨d, hd1, hd2⟩ := undFar
        refine bodyPost_ret (results_cell_row (p := 6) rfl _ _ w.heap.size 70 #[.slice (some ⟨s, 0, none⟩) K K, .int .i64 (Q.length : Nat), .int .i64 (M : Nat), .int .i64 (La : Nat)] (0, 0) d rfl HROW.out hd1 (by cases d <;> first | rfl | exact hd2) infoFar) rfl ?_
        exact ⟨_, rfl, F, Q.length, M, La, ⟨_, rfl, hSL⟩, ⟨k, HNE.out, HNIL.out, by rw [HQE.out], HMK.out, HLE.out, by rw [← HQE.out]; exact HFO.out⟩, hBL⟩
end Go.Proofs.YtllhejjcmfiebaaDoor
namespace Go.Proofs.YtllhejjcmfiebaaDoor
open Go.RowKit Go.Shelf
def LastAt (E : Es) (N : Nat) (p : List Int) (k : Nat) : Prop := (lv E N p k).2 ≠ [] ∧ (lv E N p (k + 1)).2 = []
end Go.Proofs.YtllhejjcmfiebaaDoor
