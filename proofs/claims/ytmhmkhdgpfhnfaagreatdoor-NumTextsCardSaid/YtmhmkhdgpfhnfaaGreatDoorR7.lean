/- The reference's naturals: DivN. -/
import Derived.Test.YtmhmkhdgpfhnfaaGreatDoorR6
set_option linter.unusedVariables false
set_option linter.unusedSimpArgs false
set_option linter.unnecessarySimpa false
namespace Go.Proofs.YtmhmkhdgpfhnfaaGreatDoor.Ref
open Go.RowKit

set_option maxRecDepth 100000 in
set_option maxHeartbeats 4000000 in
theorem div_go (va vb : Value) (a b : Nat) (w : World) (ha : LbA w va (limbs a)) (hb : LbA w vb (limbs b)) (hb0 : b ≠ 0) (hl : (limbs a).length ≤ 800000) (hl' : (limbs b).length ≤ 800000) :
    Calls Tryz.prog 163 #[va, vb] w fun e w' => ∃ v1 v2, e = .returned (.tuple #[v1, v2]) ∧ LbA w' v1 (limbs (a / b)) ∧ LbA w' v2 (limbs (a % b)) ∧ Below w.heap.size w w' := by
  obtain ⟨pa, ca, rfl, hca1, hca2⟩ := ha.form_
  obtain ⟨pb, cb, rfl, hcb1, hcb2⟩ := hb.form_
  obtain ⟨m, hm⟩ : ∃ m, (limbs b).length = m + 1 := by
    have : (limbs b).length ≠ 0 := fun h => hb0 ((limbs_nil_iff b).1 (List.length_eq_zero_iff.1 h))
    exact ⟨(limbs b).length - 1, by omega⟩
  obtain ⟨ad, cap', hvb, _, _, had, hcell⟩ := hb.at_ m (by omega)
  injection hvb with e1 _ e3
  subst e1 e3
  have ht9 := getD_lo (Lo_limbs b) m
  have HT0 := Lib.hid (show 1000000000 ^ m ≤ b by have := limbs_lower b hb0; rw [hm] at this; exact this)
  have HA := Lib.hid ha
  have HB := Lib.hid hb
  have HM := Lib.hid hm
  rw [hm] at hl' hcb1 ⊢
  clear ha hb hm
  obtain ⟨na, hna⟩ : ∃ n, (limbs a).length = n := ⟨_, rfl⟩
  have HNA := Lib.hid hna
  rw [hna] at hl hca1 ⊢
  obtain ⟨t, ht⟩ : ∃ t, (limbs b).getD m 0 = t := ⟨_, rfl⟩
  rw [ht] at hcell ht9
  have HT := Lib.hid ht
  obtain ⟨d, hd⟩ : ∃ d, 1000000000 / (t + 1) = d := ⟨_, rfl⟩
  have hd9 : d ≤ 1000000000 := by rw [← hd]; exact Nat.div_le_self _ _
  have hd0 : 0 < d := by rw [← hd]; exact Nat.div_pos (by omega) (by omega)
  have gdiv : (1000000000 : Int).tdiv ((t : Int) + 1) = (d : Int) := by rw [← hd]; exact tdivN 1000000000 (t + 1)
  have gwt : IntKind.i64.wrap ((t : Int) + 1) = (t : Int) + 1 := IntWalk.i64_in _ (by omega)
  have gt0 : ¬ ((t : Int) + 1 = 0) := by omega
  have HTD : Hid ((t + 1) * d ≤ 1000000000) := by rw [← hd]; exact Nat.mul_div_le _ _
  have ge : ((m + 1 : Nat) : Int) - 1 = (m : Int) := by omega
  have gwm : IntKind.i64.wrap (m : Int) = (m : Int) := IntWalk.i64_in _ (by omega)
  have gm0 : (0 : Int) ≤ (m : Int) := by omega
  have gm1 : (m : Int) < ((m + 1 : Nat) : Int) := by omega
  clear hd ht hna
  go_enter Tryz.func163, Tryz.ntmps163
  go_wp2_with fail
  have hA := HA.out
  rw [HNA.out] at hA
  refine (times_go _ _ d w hA (Lo_limbs a) hd9 (by rw [HNA.out]; omega)).mono ?_
  rw [val_limbs]
  rintro e w1 ⟨vx, rfl, hx, hbx⟩
  have hB : LbA w1 (.slice (some ad) (m + 1) cb) (limbs b) := by
    have := HB.out
    rw [HM.out] at this
    exact SlA.below this hbx
  have HBX := Lib.hid hbx
  obtain ⟨px, cx, rfl, hcx1, hcx2⟩ := hx.form_
  obtain ⟨nx, hnx⟩ : ∃ n, (limbs (a * d)).length = n := ⟨_, rfl⟩
  have HX := Lib.hid hx
  have HNX := Lib.hid hnx
  have hnx9 : nx ≤ na + 1 := by
    rw [← hnx]
    refine limbs_length_le _ _ ?_
    have h1 := val_lt (limbs a) (Lo_limbs a)
    rw [val_limbs, HNA.out] at h1
    rw [Nat.pow_succ]
    exact Nat.lt_of_le_of_lt (Nat.mul_le_mul_left a hd9) (Nat.mul_lt_mul_of_pos_right h1 (by omega))
  rw [hnx] at hcx1 ⊢
  clear hx hbx hA hnx
  go_wp2_with fail
  refine (times_go _ _ d w1 hB (Lo_limbs b) hd9 (by rw [HM.out]; omega)).mono ?_
  rw [val_limbs]
  rintro e w2 ⟨vy, rfl, hy, hby⟩
  have HBY := Lib.hid hby
  obtain ⟨py, cy, rfl, hcy1, hcy2⟩ := hy.form_
  obtain ⟨Y, hY⟩ : ∃ Y, b * d = Y := ⟨_, rfl⟩
  have hY0 : 0 < Y := by rw [← hY]; exact Nat.mul_pos (by omega) hd0
  have hmy : (limbs Y).length = m + 1 := by
    refine Nat.le_antisymm ?_ ?_
    · refine limbs_length_le _ _ ?_
      have e1 := val_split (limbs b) m (by rw [HM.out]; omega)
      have e3 : (limbs b).drop (m + 1) = [] := List.drop_of_length_le (by rw [HM.out]; omega)
      have e4 := val_lt ((limbs b).take m) ((Lo_limbs b).take m)
      rw [List.length_take, Nat.min_eq_left (by rw [HM.out]; omega)] at e4
      rw [e3, val_limbs, HT.out] at e1
      rw [← hY, Nat.pow_succ]
      have e5 : b < 1000000000 ^ m * (t + 1) := by
        rw [e1, Nat.mul_add, Nat.mul_add]
        simp only [val, Nat.mul_zero, Nat.mul_one]
        omega
      calc b * d < 1000000000 ^ m * (t + 1) * d := Nat.mul_lt_mul_of_pos_right e5 hd0
        _ = 1000000000 ^ m * ((t + 1) * d) := Nat.mul_assoc _ _ _
        _ ≤ 1000000000 ^ m * 1000000000 := Nat.mul_le_mul_left _ HTD.out
    · have := limbs_mono (show b ≤ Y by rw [← hY]; exact Nat.le_mul_of_pos_right b hd0)
      rw [HM.out] at this
      exact this
  have HYY := Lib.hid hY
  rw [hY] at hy hcy1 ⊢
  obtain ⟨ady, cy', hvy, _, _, hady, hcelly⟩ := hy.at_ m (by rw [hmy]; omega)
  injection hvy with e1 _ e3
  subst e1 e3
  have HYA := Lib.hid hy
  have HMY := Lib.hid hmy
  obtain ⟨T, hT⟩ : ∃ t, (limbs Y).getD m 0 = t := ⟨_, rfl⟩
  have hT9 := getD_lo (Lo_limbs Y) m
  rw [hT] at hcelly hT9
  have HTY := Lib.hid hT
  rw [hmy] at hcy1 ⊢
  have gwT : IntKind.i64.wrap ((T : Int) + 1) = (T : Int) + 1 := IntWalk.i64_in _ (by omega)
  have gwx : IntKind.i64.wrap ((nx : Int) - 1) = (nx : Int) - 1 := IntWalk.i64_in _ (by omega)
  clear hB hy hby hY hmy hT gdiv gwt gt0 hcell had
  go_wp2_with (first | (at_make; refine wpList_make_row _ rfl _ _ 32 rfl 3 (.int .i64 0) 8 undN infoI rfl .i64 .i64 _ _ nx rfl rfl ?d1 ?d2 ?d3 ?d4 ?_))
  case d1 => rfl
  case d2 => rfl
  case d3 => omega
  case d4 => unfold maxLen; omega
  intro w3 hrow hbel
  obtain ⟨B, hB⟩ : ∃ B, w2.heap.size = B := ⟨_, rfl⟩
  obtain ⟨X0, hX0⟩ : ∃ X, a * d = X := ⟨_, rfl⟩
  rw [hX0] at HX HNX
  rw [hB] at hrow hbel hady ⊢
  have HI0 : Hid (DvI (limbs X0) Y B w2 nx 0 [] w3) := by
    have := DvI.init (limbs X0) Y B w2 w3 hY0 (by
      have : ints (nl (List.replicate (limbs X0).length 0)) = List.replicate nx (.int .i64 0) := by unfold ints nl; simp [HNX.out]
      rw [this]; exact hrow) hbel
    rw [HNX.out] at this
    exact this
  have HBB := Lib.hid hB
  have HXX := Lib.hid hX0
  have HY0 := Lib.hid hY0
  have gT0 : ¬ ((T : Int) + 1 = 0) := by omega
  clear hrow hbel hB hX0 hady hY0 gwT
  go_wp2
  go_loopg [11, 12] nx (fun k rv iv wr => ∃ (r : Nat) (Q : List Nat), iv = .int .i64 ((k : Int) - 1) ∧ k ≤ nx ∧ DvI (limbs X0) Y B w2 k r Q wr ∧ LbA wr rv (limbs r) ∧ Fr (B + 1) rv)
  case atStart => exact ⟨0, [], rfl, Nat.le_refl _, HI0.out, by rw [limbs_zero]; exact SlA.nil _, fun ad n c e => by cases e⟩
  case round =>
    clear HI0
    obtain ⟨r, Q, rfl, hk, hI, hr, hf⟩ := hrel
    have HI := Lib.hid hI
    obtain ⟨pr, cr, rfl, hcr1, hcr2⟩ := hr.form_
    have HR := Lib.hid hr
    have HF := Lib.hid hf
    clear hI hr hf
    by_cases h0 : gk = 0
    · subst h0
      have hd := HI.out.done
      rw [val_limbs, ← HXX.out, ← HYY.out, Nat.mul_div_mul_right _ _ hd0, Nat.mul_mod_mul_right] at hd
      have HQ := Lib.hid hd.1
      have HRE := Lib.hid hd.2
      have hrow := HI.out.row
      rw [List.replicate_zero, List.nil_append] at hrow
      have hQl : Q.length = nx := by have := HI.out.len; rw [HNX.out] at this; omega
      have HROW := Lib.hid hrow
      have HQL := Lib.hid hQl
      have HLQ := Lib.hid HI.out.lo
      have HBI := Lib.hid HI.out.bel
      have hr2 := limbs_mono (Nat.le_of_lt HI.out.rm)
      rw [HMY.out] at hr2
      obtain ⟨nr, hnr⟩ : ∃ n, (limbs r).length = n := ⟨_, rfl⟩
      have hr := HR.out
      rw [hnr] at hr hr2 hcr1 ⊢
      have HS := Lib.hid (small_go _ (limbs r) d wr hr (Lo_limbs r) hd9 hd0 (by omega))
      clear hd hrow hQl hnr hr hk
      go_wp2_with fail
      refine HS.out.mono ?_
      rw [val_limbs]
      rintro e w9 ⟨v9, rfl, h9, hb9⟩
      have hrow9 := HROW.out.below hb9 HROW.out.lt
      have hsl : LbA w9 (.slice (some ⟨B, 0, none⟩) nx nx) Q := by
        have := (Sl.of_row (T := 3) (w := w9) (g := B) (cap := nx) (xs := ints (nl Q)) (more := []) (by rw [List.append_nil]; exact hrow9) (by rw [ints_length, nl_length, HQL.out]; exact Nat.le_refl _) (by unfold maxLen; omega)).toA
        rw [ints_length, nl_length, HQL.out] at this
        exact this
      have hT := trim_go _ Q w9 hsl (by rw [HQL.out]; omega)
      rw [trimL_eq Q HLQ.out, HQ.out] at hT
      rw [HRE.out, Nat.mul_div_cancel _ hd0] at h9
      have hbb : Below w.heap.size w w9 := by
        have e0 : w.heap.size ≤ w1.heap.size := HBX.out.size
        have e1 : w1.heap.size ≤ w2.heap.size := HBY.out.size
        have e2 : w2.heap.size ≤ wr.heap.size := by rw [HBB.out]; exact Nat.le_of_lt HROW.out.lt
        exact ((HBX.out.trans (HBY.out.mono e0)).trans ((HBI.out).mono (by rw [← HBB.out]; omega))).trans (hb9.mono (by omega))
      obtain ⟨p9, c9, rfl, _, _⟩ := h9.form_
      have HT2 := Lib.hid hT
      have H9 := Lib.hid h9
      have HB9 := Lib.hid hbb
      obtain ⟨n9, hn9⟩ : ∃ n, (limbs (a % b)).length = n := ⟨_, rfl⟩
      have HN9 := Lib.hid hn9
      rw [hn9]
      clear hrow9 hsl hT h9 hb9 hbb hn9
      go_wp2_with fail
      refine HT2.out.mono ?_
      rintro e w10 ⟨v10, rfl, hw10, hv10⟩
      subst hw10
      have HV := Lib.hid hv10
      clear hv10
      go_wp2
      go_ret2
      exact ⟨_, _, rfl, HV.out, by rw [← HN9.out]; exact H9.out, HB9.out⟩
    · obtain ⟨k, rfl⟩ : ∃ k, gk = k + 1 := ⟨gk - 1, by omega⟩
      have hX := HX.out
      rw [HNX.out] at hX
      obtain ⟨adx, cx', hvx, _, _, hadx, hcx⟩ := LbA.at_ hX k (by rw [HNX.out]; omega)
      rw [HNX.out] at hvx
      injection hvx with e1 _ e3
      subst e1 e3
      have kcx : wr.cell? (adx.add k) = some (.int .i64 ((limbs X0).getD k 0 : Nat)) := by
        refine (HI.out.bel.cell (p := adx.add k) ?_).trans ((HBY.out.cell (p := adx.add k) ?_).trans hcx)
        · rw [block_add, ← HBB.out]; exact Nat.lt_of_lt_of_le hadx HBY.out.size
        · rw [block_add]; exact hadx
      have hd9x := getD_lo (Lo_limbs X0) k
      have HLX := Lib.hid (HI.out.limb (Lo_limbs X0))
      have HST := Lib.hid (fun (w' : World) (hb : Below (B + 1) wr w') => HI.out.start hb)
      have HDN := Lib.hid (fun (r1 q1 : Nat) (w' : World) (hm : DmI ((limbs X0).getD k 0 + 1000000000 * r) Y B k Q w2 r1 q1 w') (h1 : r1 < Y) => DmI.done HI.out hm (Lo_limbs X0) h1)
      obtain ⟨x, hx⟩ : ∃ x, (limbs X0).getD k 0 = x := ⟨_, rfl⟩
      rw [hx] at kcx hd9x HLX HST HDN
      have HTR := Lib.hid (trim_cons x r hd9x)
      obtain ⟨X, hXe⟩ : ∃ X, x + 1000000000 * r = X := ⟨_, rfl⟩
      rw [hXe] at HLX HST HDN HTR
      have HBS := Lib.hid (show B + 1 ≤ wr.heap.size by have := HI.out.row.lt; omega)
      have hrl : (limbs r).length ≤ m + 1 := by have := limbs_mono (Nat.le_of_lt HI.out.rm); rw [HMY.out] at this; exact this
      have HOWN : Hid (Own 3 wr.heap.size (wr.alloc (.cells #[.int .i64 (x : Int)] 3)) (.slice (some ⟨wr.heap.size, 0, none⟩) 1 1) [.int .i64 (x : Int)]) := by
        have := Own.of_row (T := 3) (base := wr.heap.size) (cap := 1) (xs := [.int .i64 (x : Int)]) (more := []) (by rw [List.append_nil]; exact row_new 3 wr #[.int .i64 (x : Int)]) (Nat.le_refl _) (by unfold maxLen; omega) rfl
        exact this
      have HR2 : Hid (LbA (wr.alloc (.cells #[.int .i64 (x : Int)] 3)) (.slice pr (limbs r).length cr) (limbs r)) := SlA.below HR.out ((Below.refl _ _).alloc (Nat.le_refl _) _)
      have HLEN := Lib.hid (show (ints (nl (limbs r))).length ≤ 900000 by rw [ints_length, nl_length]; omega)
      have ge1 : ((k + 1 : Nat) : Int) - 1 = (k : Int) := by omega
      rw [ge1]
      have gk0 : (0 : Int) ≤ (k : Int) := by omega
      have gkn : (k : Int) < (nx : Int) := by omega
      have gwk : IntKind.i64.wrap ((k : Int) - 1) = (k : Int) - 1 := IntWalk.i64_in _ (by omega)
      clear hX hcx hadx hx hXe h0 ge1
      go_wp2_with (first | (at_builtin; refine wpList_append_sl _ rfl (.tmp 54) (.tmp 55) 32 rfl 3 (.int .i64 0) 8 undN infoI rfl wr.heap.size _ [.int .i64 (x : Int)] rfl HOWN.out _ (ints (nl (limbs r))) rfl HR2.out (ints_one _) ?e1 ?e2 ?e3 ?_))
      case e1 => have := HLEN.out; unfold maxLen; omega
      case e2 => have := HLEN.out; omega
      intro vu w4 hown4 hg4
      have hb4 : Below wr.heap.size wr w4 := ((Below.refl _ _).alloc (Nat.le_refl _) _).grown hg4 (((Below.refl wr.heap.size wr).alloc (Nat.le_refl _) _).size) (fun k hk => by simp [Value.ownBlock] at hk; omega)
      have hs4 : LbA w4 vu (x :: limbs r) := hown4.sl.toA
      have hf4 : Fr wr.heap.size vu := Fr.own hown4
      obtain ⟨pu, cu, rfl, hcu1, hcu2⟩ := hs4.form_
      have HB4 := Lib.hid hb4
      have HS4 := Lib.hid hs4
      have HF4 := Lib.hid hf4
      clear hown4 hg4 hb4 hs4 hf4 HOWN HR2
      go_wp2_with fail
      refine (trim_fr _ _ w4 HS4.out (by simp only [List.length_cons]; omega)).mono ?_
      rw [HTR.out]
      rintro e w5 ⟨v5, rfl, hw5, hv5, hf5⟩
      subst hw5
      obtain ⟨p5, c5, rfl, hc51, hc52⟩ := hv5.form_
      have HV5 := Lib.hid hv5
      have HF5 := Lib.hid ((hf5 _ HF4.out).base HBS.out)
      have HM0 := Lib.hid (HST.out _ (HB4.out.mono HBS.out))
      clear hv5 hf5
      go_wp2
      have HXL : Hid ((limbs X).length ≤ m + 2) := by
        show _ ≤ _
        refine limbs_length_le _ _ ?_
        have h1 := val_lt (limbs Y) (Lo_limbs Y)
        rw [val_limbs, HMY.out] at h1
        rw [Nat.pow_succ]
        exact Nat.lt_trans HLX.out (Nat.mul_lt_mul_of_pos_right h1 (by omega))
      clear HST HI HR HF HTR hcr1 hcr2 HS4 HF4 HB4 hcu1 hcu2 hrl HLEN kcx
      go_loopg [11] X (fun r1 rv wi => ∃ (q : Nat), DmI X Y B k Q w2 r1 q wi ∧ LbA wi rv (limbs r1) ∧ Fr (B + 1) rv)
      case atStart => exact ⟨0, HM0.out, HV5.out, HF5.out⟩
      case round =>
        clear HM0 HV5 HF5 hc51 hc52
        obtain ⟨gr, hgr⟩ : ∃ g, g = gk := ⟨_, rfl⟩
        subst hgr
        obtain ⟨q, hm, hr, hf⟩ := hrel
        have HM1 := Lib.hid hm
        obtain ⟨pr, cr, rfl, hcr1, hcr2⟩ := hr.form_
        have HR := Lib.hid hr
        have HF := Lib.hid hf
        have HL1 : Hid ((limbs gr).length ≤ m + 2) := Nat.le_trans (limbs_mono (by have := hm.vl; omega)) HXL.out
        have HYB : Hid (LbA wr (.slice (some ady) (m + 1) cy) (limbs Y)) := by
          have := HYA.out
          rw [HMY.out] at this
          exact SlA.below this (by rw [HBB.out]; exact hm.bel)
        obtain ⟨nr, hnr⟩ : ∃ n, (limbs gr).length = n := ⟨_, rfl⟩
        rw [hnr] at HL1 HR HF hcr1
        have HNR := Lib.hid hnr
        have hl1 := HL1.out
        rw [hnr]
        clear hm hr hf hnr
        obtain ⟨c, hc⟩ : ∃ c, cmpI gr Y = c := ⟨_, rfl⟩
        have HC := Lib.hid (cmp_go _ _ gr Y wr HR.out HYB.out (by rw [HNR.out]; omega))
        rw [hc] at HC
        by_cases hlt : gr < Y
        · have gc : ¬ (0 ≤ c) := by rw [← hc]; unfold cmpI; rw [if_pos hlt]; omega
          have HD2 := Lib.hid (HDN.out gr q wr HM1.out hlt)
          clear hc
          go_wp2_with fail
          refine HC.out.mono ?_
          rintro e w6 ⟨rfl, hb6⟩
          have HB6 := Lib.hid hb6
          clear hb6 HC
          go_wp2
          go_roundg k
          case measure => omega
          case rel =>
            have hw : LbA w6 (.slice pr nr cr) (limbs gr) := SlA.below HR.out HB6.out
            have hbB : B < wr.heap.size := HD2.out.row.lt
            exact ⟨gr, q :: Q, rfl, by omega, ⟨HD2.out.len, HD2.out.lo, HD2.out.rm, HD2.out.vl, HD2.out.row.below HB6.out hbB, HD2.out.bel.trans (HB6.out.mono (by omega))⟩, hw, HF.out⟩
        · have gc : 0 ≤ c := by rw [← hc]; unfold cmpI; rw [if_neg hlt]; split <;> omega
          clear hc
          have HGE := Lib.hid (Nat.le_of_not_lt hlt)
          obtain ⟨g0, hg0⟩ : ∃ g, nr = g + m := ⟨nr - m, by have h1 := limbs_mono (Nat.le_of_not_lt hlt); rw [HMY.out, HNR.out] at h1; omega⟩
          have gwr : IntKind.i64.wrap ((nr : Int) - 1) = (nr : Int) - 1 := IntWalk.i64_in _ (by omega)
          have HG0 := Lib.hid hg0
          clear hlt hg0
          go_wp2_with fail
          refine HC.out.mono ?_
          rintro e w6 ⟨rfl, hb6⟩
          have hr6 : LbA w6 (.slice pr nr cr) (limbs gr) := SlA.below HR.out hb6
          have HM6 : Hid (DmI X Y B k Q w2 gr q w6) := by
            have hbB : B < wr.heap.size := HM1.out.row.lt
            exact ⟨HM1.out.vl, HM1.out.row.below hb6 hbB, HM1.out.bel.trans (hb6.mono (by omega))⟩
          have HY6 : Hid (LbA w6 (.slice (some ady) (m + 1) cy) (limbs Y)) := SlA.below HYB.out hb6
          have HR6 := Lib.hid hr6
          clear hr6 hb6 HC HM1 HYB HR
          go_wp2
          go_loopg [14, 15] g0 (fun g nv kv wi => wi = w6 ∧ g ≤ g0 ∧ nv = .int .i64 (val ((limbs gr).drop (g + m)) : Nat) ∧ kv = .int .i64 ((g : Int) + (m : Int) - 1))
          case atStart => exact ⟨rfl, Nat.le_refl _, by rw [List.drop_of_length_le (by rw [HNR.out, HG0.out]; exact Nat.le_refl _)]; rfl, by rw [HG0.out]; exact congrArg (Value.int .i64) (by omega)⟩
          case round =>
            obtain ⟨hwi, hg, rfl, rfl⟩ := hrel
            subst hwi
            obtain ⟨L, hL⟩ : ∃ L, limbs gr = L := ⟨_, rfl⟩
            have HLL := Lib.hid hL
            have hLo : Lo L := by rw [← hL]; exact Lo_limbs gr
            have HLo := Lib.hid hLo
            rw [hL] at HR6 HNR ⊢
            clear hL hLo
            by_cases h0 : gk = 0
            · subst h0
              rw [Nat.zero_add]
              obtain ⟨top, htop⟩ : ∃ t, val (L.drop m) = t := ⟨_, rfl⟩
              rw [htop]
              obtain ⟨e, he⟩ : ∃ e, top / (T + 1) = e := ⟨_, rfl⟩
              obtain ⟨e2, he2⟩ : ∃ e2, (if e < 999999999 then e else 999999999) = e2 := ⟨_, rfl⟩
              obtain ⟨n, hn⟩ : ∃ n, (if 1 < e2 then e2 else 1) = n := ⟨_, rfl⟩
              have hfit := est_fits2 HMY.out HGE.out HLL.out htop HTY.out he he2 hn
              have gquo : Int.tdiv (top : Int) ((T : Int) + 1) = (e : Int) := by rw [← he]; exact tdivN top (T + 1)
              have gmin : (if (e : Int) < 999999999 then (e : Int) else 999999999) = (e2 : Int) := by rw [← he2]; exact ifI _ _
              have gmax : (if (1 : Int) < (e2 : Int) then (e2 : Int) else 1) = (n : Int) := by rw [← hn]; exact ifJ _
              have gcc : ¬ ((m : Int) ≤ (m : Int) - 1) := by omega
              have htop9 : top < 1000000000000000000 := by
                rw [← htop]
                exact val_lt2 (HLo.out.drop _) (by rw [List.length_drop, HNR.out]; omega)
              have he18 : e < 1000000000000000000 := by rw [← he]; exact Nat.lt_of_le_of_lt (Nat.div_le_self _ _) htop9
              have HFIT := Lib.hid hfit
              clear htop hn hfit he he2 htop9
              have HNB := Lib.hid (show n ≤ 1000000000 by have := HFIT.out.2.2; omega)
              have gqn : ∀ qn : Nat, q + n = qn → (q : Int) + (n : Int) = (qn : Int) := fun qn h => by omega
              go_wp2_with fail
              refine (times_go _ (limbs Y) n wr HY6.out (Lo_limbs Y) HNB.out (by rw [HMY.out]; omega)).mono ?_
              rw [val_limbs]
              rintro e w7 ⟨vz, rfl, hz, hb7⟩
              have hr7 : LbA w7 (.slice pr nr cr) (limbs gr) := by rw [HLL.out]; exact SlA.below HR6.out hb7
              have hyn : Y * n ≤ gr := by rw [Nat.mul_comm]; exact HFIT.out.1
              obtain ⟨pz, cz, rfl, hcz1, hcz2⟩ := hz.form_
              have HZ := Lib.hid hz
              have HB7 := Lib.hid hb7
              have HYN := Lib.hid hyn
              clear hz hb7 hyn
              go_wp2_with fail
              refine (sub_fr _ _ (limbs gr) (limbs (Y * n)) w7 hr7 HZ.out (Lo_limbs _) (Lo_limbs _) (limbs_mono HYN.out) (by rw [val_limbs, val_limbs]; exact HYN.out) (by rw [HLL.out, HNR.out]; omega)).mono ?_
              rw [val_limbs, val_limbs]
              rintro e w8 ⟨v8, rfl, h8, hb8, hf8⟩
              obtain ⟨p8, c8, rfl, hc81, hc82⟩ := h8.form_
              have hbb : B + 1 ≤ wr.heap.size := HM6.out.row.lt
              have hb87 : Below (B + 1) wr w8 := (HB7.out.mono hbb).trans (hb8.mono (by have := HB7.out.size; omega))
              have HMN := Lib.hid (HM6.out.next HFIT.out.1 hb87)
              have hrow8 := HM6.out.row.below hb87 (Nat.lt_succ_self B)
              have kq : w8.cell? ⟨B, k, none⟩ = some (.int .i64 (q : Nat)) := by
                rw [hrow8.cell, ints_get _ _ (by rw [nl_length, List.length_append, List.length_replicate]; simp), nl_getD, get_midN]
              have fq := hrow8.free k
              have hq9 : q + n < 1000000000 := by
                rcases Nat.lt_or_ge (q + n) 1000000000 with h | h
                · exact h
                · have h1 := HMN.out.small HLX.out
                  omega
              obtain ⟨qn, hqn⟩ : ∃ x, q + n = x := ⟨_, rfl⟩
              rw [hqn] at HMN hq9
              have gqn2 := gqn qn hqn
              have gwq : IntKind.i64.wrap (qn : Int) = (qn : Int) := IntWalk.i64_in _ (by omega)
              have h8r := LbA.store (g := B) (i := k) h8 (Fr.base hf8 (by have := HB7.out.size; omega)) (.int .i64 (qn : Int))
              have HF8 := Lib.hid (Fr.base hf8 (show B + 1 ≤ w7.heap.size by have := HB7.out.size; omega))
              have H8R := Lib.hid h8r
              have HMS := Lib.hid (show gr - Y * n < gr by
                have h1 := HFIT.out.2.1
                have h2 := HY0.out
                have h3 : 0 < Y * n := Nat.mul_pos h2 h1
                have h4 := HYN.out
                omega)
              clear h8 hb8 hf8 hb87 hrow8 hqn h8r gqn hbb
              go_wp2
              go_roundg (gr - Y * n)
              case measure => exact HMS.out
              case rel => exact ⟨qn, HMN.out, H8R.out, HF8.out⟩
            · obtain ⟨g, rfl⟩ : ∃ g, gk = g + 1 := ⟨gk - 1, by omega⟩
              obtain ⟨adr, cr', hvr, _, _, hadr, hcr⟩ := HR6.out.at_ (g + m) (by rw [HNR.out, HG0.out]; omega)
              rw [HNR.out] at hvr
              injection hvr with e1 _ e3
              subst e1 e3
              have hx9 := getD_lo HLo.out (g + m)
              have hdc := drop_cons L (g + m) (by rw [HNR.out, HG0.out]; omega)
              have hv1 : val (L.drop (g + m)) = val (L.drop (g + 1 + m)) * 1000000000 + L.getD (g + m) 0 := by
                rw [hdc, show g + m + 1 = g + 1 + m by omega]
                show _ + 1000000000 * _ = _
                omega
              have hv9 : val (L.drop (g + 1 + m)) < 1000000000 := by
                exact val_lt1 (HLo.out.drop _) (by rw [List.length_drop, HNR.out]; omega)
              obtain ⟨v0, hv0⟩ : ∃ v, val (L.drop (g + 1 + m)) = v := ⟨_, rfl⟩
              obtain ⟨v2, hv2⟩ : ∃ v, val (L.drop (g + m)) = v := ⟨_, rfl⟩
              obtain ⟨y, hy⟩ : ∃ y, L.getD (g + m) 0 = y := ⟨_, rfl⟩
              rw [hy] at hcr hx9 hv1
              rw [hv0] at hv1 hv9 ⊢
              rw [hv2] at hv1
              have HV2 := Lib.hid hv2
              have gp : (v0 : Int) * 1000000000 + (y : Int) = (v2 : Int) := by omega
              have gwp : IntKind.i64.wrap ((v0 : Int) * 1000000000) = (v0 : Int) * 1000000000 := IntWalk.i64_in _ (by omega)
              have gwv : IntKind.i64.wrap (v2 : Int) = (v2 : Int) := IntWalk.i64_in _ (by omega)
              have geg : ((g + 1 : Nat) : Int) + (m : Int) - 1 = ((g + m : Nat) : Int) := by omega
              rw [geg]
              obtain ⟨j, hj⟩ : ∃ j, g + m = j := ⟨_, rfl⟩
              have HJ := Lib.hid hj
              rw [hj] at hcr ⊢
              have gj0 : (0 : Int) ≤ (j : Int) := by omega
              have gjn : (j : Int) < (nr : Int) := by have := HG0.out; omega
              have gjm : (m : Int) ≤ (j : Int) := by omega
              have gwj : IntKind.i64.wrap ((j : Int) - 1) = (j : Int) - 1 := IntWalk.i64_in _ (by have := HL1.out; omega)
              clear hv0 hv2 hy hj hdc h0 geg hadr hv1
              go_wp2
              go_roundg g
              case measure => omega
              case rel => exact ⟨rfl, by omega, (by show Value.int .i64 ((v2 : Nat) : Int) = .int .i64 ((val ((limbs gr).drop (g + m)) : Nat) : Int); rw [HLL.out, HV2.out]), by have := HJ.out; exact congrArg (Value.int .i64) (by omega)⟩
end Go.Proofs.YtmhmkhdgpfhnfaaGreatDoor.Ref
