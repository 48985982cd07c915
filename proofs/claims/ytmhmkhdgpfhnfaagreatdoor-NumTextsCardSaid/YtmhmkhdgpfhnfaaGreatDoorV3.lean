/- The program's readNatural. -/
import Derived.Test.YtmhmkhdgpfhnfaaGreatDoorV2
set_option linter.unusedVariables false
set_option linter.unusedSimpArgs false
set_option linter.unnecessarySimpa false
namespace Go.Proofs.YtmhmkhdgpfhnfaaGreatDoor.Ref
open Go.RowKit Go.Lib

theorem nums_append (K : IntKind) (a b : List Nat) : nums K (a ++ b) = nums K a ++ nums K b := by simp [nums]
theorem nums_one (K : IntKind) (l : List Nat) : ∀ u ∈ nums K l, u.oneCell' = true := by
  intro u hu
  unfold nums at hu
  obtain ⟨d, _, rfl⟩ := List.mem_map.1 hu
  rfl
theorem ba_mid (s : ByteArray) (a b : Nat) (h : b ≤ s.size) : (s.extract a b).data.toList = (s.data.toList.take b).drop a := by
  rw [ByteArray.data_extract, Array.toList_extract, List.extract_eq_take_drop, List.drop_take]
theorem all_take {l : List UInt8} (h : l.all digB = true) (k : Nat) : (l.take k).all digB = true := by
  rw [List.all_eq_true] at h ⊢
  exact fun x hx => h x (List.mem_of_mem_take hx)
theorem all_drop {l : List UInt8} (h : l.all digB = true) (k : Nat) : (l.drop k).all digB = true := by
  rw [List.all_eq_true] at h ⊢
  exact fun x hx => h x (List.mem_of_mem_drop hx)
/-- where readNatural's loop stands -/
structure RnI (l : List UInt8) (B : Nat) (w : World) (O : List Nat) (ov : Value) (wr : World) : Prop where
  own : Own 153 B wr ov (nums .u32 O)
  lo : Lo O
  val : Go.Proofs.YtmhmkhdgpfhnfaaGreatDoor.val O + 1000000000 ^ O.length * numOf (l.take (l.length - 9 * O.length)) = numOf l
  len : 9 * O.length ≤ l.length + 8
  bel : Below B w wr
theorem rn_arith (V P t c N M T : Nat) (h : V + P * M = N) (hM : M = t * T + c) (hT : t = 0 ∨ T = 1000000000) : (V + P * c) + P * 1000000000 * t = N := by
  subst hM
  rcases hT with h0 | h0
  · subst h0; grind
  · subst h0; grind
theorem RnI.next {l : List UInt8} {B : Nat} {w wr w' : World} {O : List Nat} {ov ov' : Value} (h : RnI l B w O ov wr) (hall : l.all digB = true) (k st : Nat) (hk : l.length - 9 * O.length = k) (hk0 : 0 < k) (hst : st = k - 9) (c : List UInt8) (hc : (l.take k).drop st = c)
    (ho : Own 153 B w' ov' (nums .u32 O ++ [.int .u32 (numOf c : Nat)])) (hb : Below B w w') : RnI l B w (O ++ [numOf c]) ov' w' := by
  have hcl : c.length = k - st := by rw [← hc, List.length_drop, List.length_take]; omega
  have hca : c.all digB = true := by rw [← hc]; exact all_drop (all_take hall k) st
  have hc9 : numOf c < 1000000000 := by
    have h1 := numOf_lt hca
    have h2 : 10 ^ c.length ≤ 10 ^ 9 := Nat.pow_le_pow_right (by decide) (by omega)
    have h3 : (10 : Nat) ^ 9 = 1000000000 := by decide
    omega
  refine ⟨by rw [nums_append]; exact ho, LoS h.lo hc9, ?_, by rw [List.length_append, List.length_singleton]; omega, hb⟩
  have hsp : l.take k = l.take st ++ c := by
    rw [← hc]
    conv => lhs; rw [← List.take_append_drop st (l.take k)]
    rw [List.take_take, Nat.min_eq_left (by omega)]
  have hv := h.val
  rw [hk] at hv
  rw [List.length_append, List.length_singleton, val_snocN, Nat.pow_succ, show l.length - 9 * (O.length + 1) = st by omega]
  refine rn_arith _ _ _ _ _ _ _ hv (by rw [hsp, numOf_append]) ?_
  by_cases h9 : 9 ≤ k
  · right
    rw [hcl, show k - st = 9 by omega]
  · left
    rw [show st = 0 by omega, List.take_zero, numOf_nil]
set_option maxRecDepth 100000 in
set_option maxHeartbeats 4000000 in
theorem readNatural_go (s : ByteArray) (w : World) (hs : s.size ≤ 50000) (h0 : s.data.toList ≠ []) (hall : s.data.toList.all digB = true) :
    Calls Tryz.prog 63 #[.string s] w (Out 153 .u32 w (limbs (numOf s.data.toList))) := by
  obtain ⟨l, hl⟩ : ∃ l, s.data.toList = l := ⟨_, rfl⟩
  rw [hl] at h0 hall ⊢
  have hn : s.size = l.length := by rw [sz_eq, hl]
  have HL := Lib.hid hl
  have HN := Lib.hid hn
  have H0 := Lib.hid h0
  have HALL := Lib.hid hall
  obtain ⟨n, hnn⟩ : ∃ n, s.size = n := ⟨_, rfl⟩
  have HNN := Lib.hid hnn
  have hn5 : n ≤ 50000 := by omega
  have hnl : l.length = n := by omega
  have HNL := Lib.hid hnl
  obtain ⟨i0, hi, hz0, hz1, hz2⟩ := info_parts Tryz.info153
  have gsz : (s.size : Int) = (n : Int) := by omega
  have gquo : (n : Int).tdiv 9 = ((n / 9 : Nat) : Int) := tdivN n 9
  obtain ⟨q, hq⟩ : ∃ q, n / 9 = q := ⟨_, rfl⟩
  rw [hq] at gquo
  have hq9 : q ≤ 50000 := by omega
  have gwq : IntKind.i64.wrap ((q : Int) + 1) = (q : Int) + 1 := by rw [show (q : Int) + 1 = ((q + 1 : Nat) : Int) by omega]; exact IntWalk.i64_in _ (by omega)
  obtain ⟨B, hB⟩ : ∃ B, w.heap.size = B := ⟨_, rfl⟩
  have HB := Lib.hid hB
  clear hl h0 hall hn hnn hq hnl hB hs
  go_enter Tryz.func63, Tryz.ntmps63
  go_wp2_with (first | (at_make; refine wpList_make_own w rfl _ _ 23 rfl B 153 i0 (.int .u32 0) 1 undNat hi hz0 hz1 .i64 .i64 _ (q + 1) rfl rfl ?d1 ?d2 ?d3 ?d4 ?_))
  case d1 => omega
  case d2 => rw [hz2]; omega
  case d3 => unfold maxLen; omega
  case d4 => rw [HB.out]; exact Nat.le_refl _
  intro w1 hown1 hg1
  have hb1 : Below B w w1 := (Below.refl B w).grown hg1 (by rw [HB.out]; exact Nat.le_refl _) (fun k hk => by cases hk)
  have HI0 : Hid (RnI l B w [] (.slice (some ⟨w.heap.size, 0, none⟩) 0 (q + 1)) w1) := ⟨hown1, (fun d hd => by cases hd), by simp [val], by simp, hb1⟩
  clear hown1 hg1 hb1
  go_wp2_with fail
  go_loopg [3, 4] n (fun k ov iv wr => ∃ O : List Nat, iv = .int .i64 ((n : Int) - 9 * (O.length : Int)) ∧ k = n - 9 * O.length ∧ RnI l B w O ov wr)
  case atStart => exact ⟨[], congrArg (Value.int .i64) (by simp [gsz]), rfl, HI0.out⟩
  case round =>
    clear HI0
    obtain ⟨kk, hkk⟩ : ∃ g, g = gk := ⟨_, rfl⟩
    subst hkk
    obtain ⟨O, rfl, hk, hI⟩ := hrel
    have HI := Lib.hid hI
    have HK := Lib.hid hk
    have hlen := hI.len
    rw [HNL.out] at hlen
    obtain ⟨o, ho⟩ : ∃ o, O.length = o := ⟨_, rfl⟩
    have HO := Lib.hid ho
    rw [ho] at hk hlen ⊢
    clear hI ho
    by_cases hk0 : kk = 0
    · have gneg : ¬ ((0 : Int) < (n : Int) - 9 * (o : Int)) := by omega
      have hv : val O = numOf l := by
        have := HI.out.val
        rw [HNL.out, HO.out, show n - 9 * o = 0 by omega, List.take_zero] at this
        simpa [numOf_nil] using this
      have hne : O ≠ [] := by
        intro e
        have h1 := H0.out
        have h2 : l.length ≠ 0 := fun h => h1 (List.length_eq_zero_iff.1 h)
        have h3 := HNL.out
        have h4 := HO.out
        rw [e] at h4
        simp at h4
        omega
      obtain ⟨g, cap, more, hv3, hgb, hlc, hcm, hce, hrow⟩ : ∃ g cap more, u3 = .slice (some ⟨g, 0, none⟩) O.length cap ∧ B ≤ g ∧ O.length ≤ cap ∧ cap ≤ maxLen ∧ cap = O.length + more.length ∧ Row 153 wr g (nums .u32 O ++ more) := by
        rcases HI.out.own.form_ with ⟨h1, h2⟩ | ⟨g, cap, more, h1, h2, h3, h4, h5, h6⟩
        · have := congrArg List.length h2
          rw [nums_length] at this
          exact absurd (List.length_eq_zero_iff.1 this) hne
        · rw [nums_length] at h1 h3 h5
          exact ⟨g, cap, more, h1, h2, h3, h4, h5, h6⟩
      subst hv3
      have hcut := cut_any g 0 cap O wr hlc (by rw [HO.out]; omega) hrow.lt (fun i hi => by
        rw [Nat.zero_add, hrow.cell, List.getElem?_append_left (by rw [nums_length]; exact hi), nums_get _ _ _ hi])
      have hown : Go.Proofs.YtmhmkhdgpfhnfaaGreatDoor.Own 153 .u32 B wr (natV g 0 (trimL O)) (trimL O) := Go.Proofs.YtmhmkhdgpfhnfaaGreatDoor.Own.cut hrow hgb (by rw [HO.out]; omega)
      rw [trimL_eq O HI.out.lo, hv] at hown hcut
      have HCUT := Lib.hid hcut
      have HOWN := Lib.hid hown
      have HBE := Lib.hid HI.out.bel
      rw [HO.out] at HCUT ⊢
      clear hv hne hlc hcm hce hrow hcut hown hk hk0
      go_wp2_with fail
      refine HCUT.out.mono ?_
      rintro e w9 ⟨rfl, rfl⟩
      obtain ⟨V, hV⟩ : ∃ V, natV g 0 (limbs (numOf l)) = V := ⟨_, rfl⟩
      have HV := Lib.hid hV
      rw [hV]
      clear hV HCUT
      go_wp2_with fail
      go_ret
      exact ⟨V, rfl, by rw [HB.out, ← HV.out]; exact HOWN.out, by rw [HB.out]; exact HBE.out⟩
    · obtain ⟨st, hst⟩ : ∃ st, st = kk - 9 := ⟨_, rfl⟩
      have ge : (n : Int) - 9 * (o : Int) = (kk : Int) := by omega
      rw [ge]
      have gpos : (0 : Int) < (kk : Int) := by omega
      have gmax : max (0 : Int) ((kk : Int) - 9) = (st : Int) := by omega
      have gw9 : IntKind.i64.wrap ((kk : Int) - 9) = (kk : Int) - 9 := IntWalk.i64_in _ (by omega)
      have gst0 : (0 : Int) ≤ (st : Int) := by omega
      have gst1 : (st : Int) ≤ (kk : Int) := by omega
      have gkn : (kk : Int) ≤ (n : Int) := by omega
      have gkn2 : kk ≤ s.size := by omega
      obtain ⟨t, ht⟩ : ∃ t, s.extract st kk = t := ⟨_, rfl⟩
      obtain ⟨c, hc⟩ : ∃ c, (l.take kk).drop st = c := ⟨_, rfl⟩
      have htc : t.data.toList = c := by rw [← ht, ba_mid s st kk gkn2, HL.out, hc]
      have hca : c.all digB = true := by rw [← hc]; exact all_drop (all_take HALL.out kk) st
      have htl : t.size = c.length := by rw [sz_eq, htc]
      have hcl : c.length ≤ 9 := by rw [← hc, List.length_drop, List.length_take]; omega
      obtain ⟨w2, cap2, hconv, hcap2, hb2, hsz2, hcell⟩ := bytes_of t wr
      rw [htc] at hcell
      have HC := Lib.hid hcell
      have HB2 := Lib.hid hb2
      have HCA := Lib.hid hca
      have HTL := Lib.hid htl
      have HCC := Lib.hid hc
      have HST := Lib.hid hst
      have HK0 := Lib.hid (show 0 < kk by omega)
      obtain ⟨g2, hg2⟩ : ∃ g, wr.heap.size = g := ⟨_, rfl⟩
      have HG2 := Lib.hid hg2
      have HSZ2 := Lib.hid hsz2
      rw [hg2] at hconv HC
      clear hsz2 hcell hb2 hca hc hst hk hk0 htc hg2
      go_wp2_with fail
      obtain ⟨wo, hwo⟩ : ∃ wo : World, wo = wr := ⟨_, rfl⟩
      subst hwo
      clear hconv
      go_loopg [5, 27] c.length (fun k lv jv wi => ∃ j : Nat, jv = .int .i64 (j : Nat) ∧ lv = .int .u32 (numOf (c.take j) : Nat) ∧ k = c.length - j ∧ j ≤ c.length ∧ wi = w2)
      case atStart => exact ⟨0, rfl, rfl, rfl, Nat.zero_le _, rfl⟩
      case round =>
        obtain ⟨j, rfl, rfl, hkj, hjc, hwi⟩ := hrel
        subst hwi
        have HKJ := Lib.hid hkj
        clear hkj
        by_cases hlt : j < c.length
        · have gjl : (j : Int) < (t.size : Int) := by omega
          have gwj : IntKind.i64.wrap ((j : Int) + 1) = (j : Int) + 1 := by rw [show (j : Int) + 1 = ((j + 1 : Nat) : Int) by omega]; exact IntWalk.i64_in _ (by omega)
          have hcj := HC.out j (by omega)
          obtain ⟨x, hx⟩ : ∃ x, (c.getD j 0).toNat = x := ⟨_, rfl⟩
          rw [hx] at hcj
          have hdg : digB (c.getD j 0) = true := by
            have := HCA.out
            rw [List.all_eq_true] at this
            exact this _ (by rw [List.getD_eq_getElem?_getD, List.getElem?_eq_getElem hlt]; exact List.getElem_mem hlt)
          rw [digB_iff, hx] at hdg
          obtain ⟨d, hd⟩ : ∃ d, x = 48 + d := ⟨x - 48, by omega⟩
          have HSN : Hid (numOf (c.take (j + 1)) = numOf (c.take j) * 10 + d) := by
            show _ = _
            have e : c.take (j + 1) = c.take j ++ [c.getD j 0] := by
              rw [List.take_succ_eq_append_getElem hlt, List.getD_eq_getElem?_getD, List.getElem?_eq_getElem hlt]; rfl
            rw [e, numOf_snoc, hx, hd, Nat.add_sub_cancel_left]
          have hL9 : numOf (c.take j) < 100000000 := by
            have h1 := numOf_lt (all_take HCA.out j)
            rw [List.length_take, Nat.min_eq_left (by omega)] at h1
            have h2 : 10 ^ j ≤ 10 ^ 8 := Nat.pow_le_pow_right (by decide) (by omega)
            have h3 : (10 : Nat) ^ 8 = 100000000 := by decide
            omega
          obtain ⟨L, hL⟩ : ∃ L, numOf (c.take j) = L := ⟨_, rfl⟩
          rw [hL] at HSN hL9 ⊢
          obtain ⟨P, hP⟩ : ∃ P, L * 10 = P := ⟨_, rfl⟩
          have gmul : (L : Int) * 10 = (P : Int) := by omega
          have gwp : IntKind.u32.wrap (P : Int) = (P : Int) := by rw [IntKind.wrap_u32]; omega
          have gsub : (x : Int) - 48 = (d : Int) := by omega
          have gwd : IntKind.u8.wrap (d : Int) = (d : Int) := by rw [IntKind.wrap_u8]; omega
          have gwd2 : IntKind.u32.wrap (d : Int) = (d : Int) := by rw [IntKind.wrap_u32]; omega
          obtain ⟨M, hM⟩ : ∃ M, P + d = M := ⟨_, rfl⟩
          have gadd : (P : Int) + (d : Int) = (M : Int) := by omega
          have gwm : IntKind.u32.wrap (M : Int) = (M : Int) := by rw [IntKind.wrap_u32]; omega
          have HM : Hid (numOf (c.take (j + 1)) = M) := by show _ = _; rw [HSN.out, hP, hM]
          clear hx hdg hd hL9 hL hP hM HSN
          go_wp2_with fail
          go_roundg (c.length - (j + 1))
          case measure => rw [HKJ.out]; omega
          case rel => exact ⟨j + 1, by go_num, by rw [HM.out], rfl, by omega, rfl⟩
        · obtain rfl : j = c.length := by omega
          have gjl : ¬ ((c.length : Int) < (t.size : Int)) := by omega
          rw [List.take_length]
          have hsz3 : wo.heap.size ≤ wr.heap.size := HB2.out.size
          have HOW : Hid (Own 153 B wr u3 (nums .u32 O)) := HI.out.own.below HB2.out (Nat.le_refl _)
          have HBW : Hid (Below B wo wr) := HB2.out.mono (by have := HI.out.bel.size; have := HB.out; omega)
          have HBT := Lib.hid (show B ≤ wr.heap.size by have := HI.out.bel.size; have := HB.out; omega)
          have HLQ := Lib.hid (show (nums .u32 O).length ≤ 1000000 by rw [nums_length, HO.out]; omega)
          have gwo : IntKind.i64.wrap ((kk : Int) - 9) = (kk : Int) - 9 := gw9
          clear hlt hcl htl hjc
          go_wp2_with (first | (at_builtin; refine wpList_append_box wr rfl (.tmp 38) (.tmp 40) 23 rfl 153 (.int .u32 0) 4 undNat Tryz.info153 rfl (by omega) B u3 (nums .u32 O) rfl HOW.out (.int .u32 (numOf c : Nat)) rfl rfl HLQ.out HBT.out ?_; intro v3 w4 hown3 hb3 hrest; have HO3 := Lib.hid hown3; have HB3 := Lib.hid (HBW.out.trans hb3); clear hown3 hb3 hrest))
          have HN3 := Lib.hid (HI.out.next HALL.out kk st (by rw [HNL.out]; exact HK.out.symm) HK0.out HST.out c HCC.out HO3.out (HI.out.bel.trans HB3.out))
          go_roundg (n - 9 * (O ++ [numOf c]).length)
          case measure => rw [List.length_append, List.length_singleton]; have := HK.out; have := HK0.out; omega
          case rel => exact ⟨O ++ [numOf c], by have := HO.out; rw [List.length_append, List.length_singleton, this]; exact congrArg (Value.int .i64) (by omega), rfl, HN3.out⟩
end Go.Proofs.YtmhmkhdgpfhnfaaGreatDoor.Ref
