/- Parts, signs: what NumTexts asks of a fraction. -/
import Derived.Test.YtmhmkhdgpfhnfaaGreatDoorV6
import Derived.Test.YtmhmkhdgpfhnfaaGreatDoorT7
set_option linter.unusedVariables false
set_option linter.unusedSimpArgs false
set_option linter.unnecessarySimpa false
namespace Go.Proofs.YtmhmkhdgpfhnfaaGreatDoor.Ref
open Go.RowKit Go.Lib

def noFillB (ks : List Kd) : Bool := ks.all fun k => match k with | .fill .. => false | _ => true
theorem stays_more {ks : List Kd} (hf : noFillB ks = true) (h : ∀ (i : Nat) M v w w', ks[i]? = some (.mem M) → M v w → Below w.heap.size w w' → M v w') : Stays ks :=
  ⟨h, fun i M v w w' j g b k T n xs _ hj => by
    unfold noFillB at hf
    rw [List.all_eq_true] at hf
    have := hf _ (List.mem_of_getElem? hj)
    simp at this⟩
set_option maxRecDepth 100000 in
set_option maxHeartbeats 2000000 in
theorem denominator_any (v : Value) (n : Int) (d : Nat) (w : World) (h : Rt w v n d) :
    Calls Tryz.prog 74 #[v] w fun e w' => ∃ s, e = .returned s ∧ Rd .u32 w' s (limbs d) ∧ Below w.heap.size w w' := by
  obtain ⟨b1, p, k, c, q, m, x, rfl, hb, hr, hw⟩ := h.form
  have hbe := (Below.refl w.heap.size w).alloc (Nat.le_refl _) (.cells #[.bool b1, .slice p k c, .slice q m x] 27)
  have HBE := Lib.hid hbe
  have hsz : w.heap.size ≤ (w.alloc (.cells #[.bool b1, .slice p k c, .slice q m x] 27)).heap.size := by simp
  have HSZ := Lib.hid hsz
  clear hsz
  have heq := Lib.run_eql_slice_nil (P := Tryz.prog) (w.alloc (.cells #[.bool b1, .slice p k c, .slice q m x] 27)) 23 153 q m x 0 0 undNat
  rcases hw with ⟨rfl, hq⟩ | ⟨hd2, hw⟩
  · cases hq
    clear hr hb h hbe
    go_enter Tryz.func74, Tryz.ntmps74
    go_wp2_with fail
    refine (naturalOf_any 1 _ (by decide)).mono ?_
    rintro e w2 ⟨v, rfl, ho, hb2⟩
    have HR := Lib.hid ho.rd
    have HB := Lib.hid (HBE.out.trans (hb2.mono HSZ.out))
    clear ho hb2
    go_wp2_with fail
    go_ret
    exact ⟨_, rfl, HR.out, HB.out⟩
  · have hdl : 0 < (limbs d).length := by
      have : (limbs d).length ≠ 0 := fun e => by have := (limbs_nil_iff d).1 (List.length_eq_zero_iff.1 e); omega
      omega
    have HRD := Lib.hid (hw.below hbe)
    obtain ⟨q', cq, hq1, _, _, _, hq⟩ := hw
    cases hq1
    obtain ⟨bq, oq, rfl, _, _⟩ := hq hdl
    generalize (limbs d).length = m at *
    clear hr hb h hbe hq hdl hd2
    go_enter Tryz.func74, Tryz.ntmps74
    go_wp2_with fail
    go_ret
    exact ⟨_, rfl, HRD.out, HBE.out⟩
set_option maxRecDepth 100000 in
set_option maxHeartbeats 1000000 in
theorem wholeSign_any (v : Value) (x : Int) (w : World) (h : Wh w v x) :
    Calls Tryz.prog 75 #[v] w fun e w' => e = .returned (.int .i64 (Int.sign x)) ∧ Below w.heap.size w w' := by
  obtain ⟨p, n, c, rfl, h1⟩ := Wh.form h
  obtain ⟨b1, hb1⟩ : ∃ b, decide (x < 0) = b := ⟨_, rfl⟩
  have hn : (limbs x.natAbs).length = n := by obtain ⟨p', c', e, _⟩ := h1; cases e; rfl
  have h0 : n = 0 ↔ x = 0 := by
    rw [← hn, List.length_eq_zero_iff, limbs_nil_iff]; omega
  have hb := (Below.refl w.heap.size w).alloc (Nat.le_refl _) (.cells #[.bool b1, .slice p n c] 25)
  have HB := Lib.hid hb
  rw [hb1]
  by_cases hx : x = 0
  · subst hx
    obtain rfl : n = 0 := h0.2 rfl
    clear hb1 hn h0 h1 hb h
    go_enter Tryz.func75, Tryz.ntmps75
    go_wp2
    go_ret
    exact ⟨rfl, HB.out⟩
  · have hn0 : (0 : Int) < (n : Int) := by have : n ≠ 0 := fun e => hx (h0.1 e); omega
    have gne : ¬ ((n : Int) = 0) := by omega
    by_cases hs : x < 0
    · obtain rfl : b1 = true := by rw [← hb1]; exact decide_eq_true hs
      have HE : Hid (Int.sign x = -1) := Int.sign_eq_neg_one_of_neg hs
      clear hb1 hn h0 h1 hb hx hs h
      go_enter Tryz.func75, Tryz.ntmps75
      go_wp2
      go_ret
      exact ⟨by rw [HE.out]; rfl, HB.out⟩
    · obtain rfl : b1 = false := by rw [← hb1]; exact decide_eq_false hs
      have HE : Hid (Int.sign x = 1) := Int.sign_eq_one_of_pos (by omega)
      clear hb1 hn h0 h1 hb hx hs h
      go_enter Tryz.func75, Tryz.ntmps75
      go_wp2
      go_ret
      exact ⟨by rw [HE.out]; rfl, HB.out⟩
set_option maxRecDepth 100000 in
set_option maxHeartbeats 1000000 in
theorem ratSign_any (v : Value) (n : Int) (d : Nat) (w : World) (h : Rt w v n d) :
    Calls Tryz.prog 17 #[v] w fun e w' => e = .returned (.int .i64 (Int.sign n)) ∧ Below w.heap.size w w' := by
  obtain ⟨b1, p, k, c, q, m, x, rfl, hb, hr, hw⟩ := h.form
  have hbe := (Below.refl w.heap.size w).alloc (Nat.le_refl _) (.cells #[.bool b1, .slice p k c, .slice q m x] 27)
  have HBE := Lib.hid hbe
  have HSZ := Lib.hid (show w.heap.size ≤ (w.alloc (.cells #[.bool b1, .slice p k c, .slice q m x] 27)).heap.size by simp)
  have HW := Lib.hid (wholeSign_any (.agg #[.bool b1, .slice p k c]) n _ ⟨_, by rw [hb], hr.below hbe⟩)
  generalize Int.sign n = S at *
  clear hb hr hw h hbe
  go_enter Tryz.func17, Tryz.ntmps17
  go_wp2_with fail
  refine HW.out.mono ?_
  rintro e w2 ⟨rfl, hb2⟩
  have HB := Lib.hid (HBE.out.trans (hb2.mono HSZ.out))
  clear hb2 HW
  go_wp2_with fail
  go_ret
  exact ⟨rfl, HB.out⟩
set_option maxRecDepth 100000 in
set_option maxHeartbeats 1000000 in
theorem sgn_go (v : Value) (n d : Int) (w : World) (h : Qv w v n d) :
    Calls Tryz.prog 18 #[v] w fun e w' => e = .returned (.int .i64 (Int.sign n)) ∧ Below w.heap.size w w' := by
  obtain ⟨b1, p1, n1, c1, b2, p2, n2, c2, rfl, hz1, hz2⟩ := h.form
  have hbe := (Below.refl w.heap.size w).alloc (Nat.le_refl _) (.cells #[.bool b1, .slice p1 n1 c1, .bool b2, .slice p2 n2 c2] 36)
  have HBE := Lib.hid hbe
  have HSZ := Lib.hid (show w.heap.size ≤ (w.alloc (.cells #[.bool b1, .slice p1 n1 c1, .bool b2, .slice p2 n2 c2] 36)).heap.size by simp)
  have HW := Lib.hid (sign_go n (.agg #[.bool b1, .slice p1 n1 c1]) _ (hz1.below hbe))
  generalize Int.sign n = S at *
  clear hz1 hz2 h hbe
  go_enter Tryz.func18, Tryz.ntmps18
  go_wp2_with fail
  refine HW.out.mono ?_
  rintro e w2 ⟨rfl, hb2⟩
  have HB := Lib.hid (HBE.out.trans (hb2.mono HSZ.out))
  clear hb2 HW
  go_wp2_with fail
  go_ret
  exact ⟨rfl, HB.out⟩
-- Parts
set_option maxRecDepth 100000 in
set_option maxHeartbeats 2000000 in
theorem parts_any (v : Value) (n : Int) (d : Nat) (w : World) (h : Rt w v n d) (hl1 : (limbs n.natAbs).length ≤ 100000) (hl2 : (limbs d).length ≤ 100000) (hT : TabW w) :
    Calls Tryz.prog 15 #[v] w fun e w' => e = .returned (.tuple #[.string ⟨(itoa n).toArray⟩, .string ⟨(decDigits d).toArray⟩]) ∧ Below w.heap.size w w' := by
  obtain ⟨b1, p, k, c, q, m, x, rfl, hb, hr, hw⟩ := h.form
  obtain ⟨S1, hS1⟩ : ∃ S : ByteArray, ⟨(itoa n).toArray⟩ = S := ⟨_, rfl⟩
  obtain ⟨S2, hS2⟩ : ∃ S : ByteArray, ⟨(decDigits d).toArray⟩ = S := ⟨_, rfl⟩
  have HWS := Lib.hid (fun W v h hT => wholeString_any v n W h hl1 hT)
  have HNS := Lib.hid (fun W v h hT => natString_any v d W h hl2 hT)
  have HDN := Lib.hid (fun W v h => denominator_any v n d W h)
  rw [hS1] at HWS
  rw [hS2] at HNS
  rw [hS1, hS2]
  have hrow := row_new 27 w #[.bool b1, .slice p k c, .slice q m x]
  have hbe := (Below.refl w.heap.size w).alloc (Nat.le_refl _) (.cells #[.bool b1, .slice p k c, .slice q m x] 27)
  have HSZ := Lib.hid (show w.heap.size ≤ (w.alloc (.cells #[.bool b1, .slice p k c, .slice q m x] 27)).heap.size by simp)
  have K1 := Lib.hid (h.below hbe)
  have KW : Hid (Wh (w.alloc (.cells #[.bool b1, .slice p k c, .slice q m x] 27)) (.agg #[.bool b1, .slice p k c]) n) := ⟨_, by rw [hb], hr.below hbe⟩
  have KT := Lib.hid (TabW.below hT hbe)
  have HROW := Lib.hid hrow
  have HBE := Lib.hid hbe
  clear hb hr hw h hT hrow hbe hS1 hS2 hl1 hl2
  go_enter Tryz.func15, Tryz.ntmps15
  go_upto_region 1 with (fail)
  generalize w.alloc (.cells #[.bool b1, .slice p k c, .slice q m x] 27) = wX at *
  obtain ⟨h, hh⟩ : ∃ h, w.heap.size = h := ⟨_, rfl⟩
  have HH := Lib.hid hh
  rw [hh] at HROW HBE HSZ ⊢
  clear hh
  refine wp_region_rel (by kernel_rfl) 10 rfl (by kernel_rfl) [.fix (.pointer (some ⟨h, 0, none⟩)), .fix (.agg #[.bool b1, .slice p k c]), .fix (.string S1), .fix (.agg #[.bool b1, .slice p k c, .slice q m x]), .mem (fun u W => Rd .u32 W u (limbs d)), .fix (.string S2), .fix (.string S1), .fix (.string S2)] rfl (stays_more rfl (fun i M v w w' hk hv hb => by rcases i with _ | _ | _ | _ | _ | _ | _ | _ | i <;> simp at hk <;> subst hk <;> first | exact Rd.below hv hb | exact Qv.below hv hb)) ?hop ?hQ
  case hop =>
    intro W hW j o hj vs w1' hb hV
    have hj' : j < 8 := (List.getElem?_eq_some_iff.1 hj).1
    rcases (by omega : j = 0 ∨ j = 1 ∨ j = 2 ∨ j = 3 ∨ j = 4 ∨ j = 5 ∨ j = 6 ∨ j = 7) with rfl | rfl | rfl | rfl | rfl | rfl | rfl | rfl
    · cases hj
      clear hj'
      refine .inl ⟨rfl, ?_⟩
      generalize hG : relUpon _ _ _ = G
      clear hV hb hW
      subst hG
      simp only [putAll]
      generalize hR : Res _ _ vs w1' = R
      go_simp
      subst hR
      exact ⟨rfl, Below.refl _ _⟩
    · cases hj
      clear hj'
      refine .inl ⟨rfl, ?_⟩
      generalize hG : relUpon _ _ _ = G
      have hbw : Below wX.heap.size wX w1' := by rw [hW] at hb; exact ((Below.refl wX.heap.size wX).drew).trans hb
      have q0_ : vs 0 = _ := hV 0 (by decide)
      have d0 := (HROW.out.below hbw HROW.out.lt).cell 0
      have d1 := (HROW.out.below hbw HROW.out.lt).cell 1
      simp only [List.getElem?_cons_zero, List.getElem?_cons_succ] at d0 d1
      clear hbw hW hb hV
      subst hG
      simp only [putAll]
      generalize hR : Res _ _ vs w1' = R
      go_simp
      subst hR
      exact ⟨rfl, Below.refl _ _⟩
    · cases hj
      clear hj'
      refine .inl ⟨rfl, ?_⟩
      generalize hG : relUpon _ _ _ = G
      have hbw : Below wX.heap.size wX w1' := by rw [hW] at hb; exact ((Below.refl wX.heap.size wX).drew).trans hb
      have q1_ : vs 1 = _ := hV 1 (by decide)
      have HKK := Lib.hid (Wh.below KW.out hbw)
      have HTT := Lib.hid (TabW.below KT.out hbw)
      clear hbw hW hb hV
      subst hG
      simp only [putAll]
      generalize hR : Res _ _ vs w1' = R
      go_simp
      subst hR
      refine (HWS.out w1' _ HKK.out HTT.out).mono ?_
      rintro e w2 ⟨rfl, hb2⟩
      exact ⟨_, rfl, rfl, hb2⟩
    · cases hj
      clear hj'
      refine .inl ⟨rfl, ?_⟩
      generalize hG : relUpon _ _ _ = G
      have hbw : Below wX.heap.size wX w1' := by rw [hW] at hb; exact ((Below.refl wX.heap.size wX).drew).trans hb
      have d0 := (HROW.out.below hbw HROW.out.lt).cell 0
      have d1 := (HROW.out.below hbw HROW.out.lt).cell 1
      have d2 := (HROW.out.below hbw HROW.out.lt).cell 2
      simp only [List.getElem?_cons_zero, List.getElem?_cons_succ] at d0 d1 d2
      clear hbw hW hb hV
      subst hG
      simp only [putAll]
      generalize hR : Res _ _ vs w1' = R
      go_simp
      subst hR
      exact ⟨rfl, Below.refl _ _⟩
    · cases hj
      clear hj'
      refine .inl ⟨rfl, ?_⟩
      generalize hG : relUpon _ _ _ = G
      have hbw : Below wX.heap.size wX w1' := by rw [hW] at hb; exact ((Below.refl wX.heap.size wX).drew).trans hb
      have q3_ : vs 3 = _ := hV 3 (by decide)
      have HKK := Lib.hid (K1.out.below hbw)
      clear hbw hW hb hV
      subst hG
      simp only [putAll]
      generalize hR : Res _ _ vs w1' = R
      go_simp
      subst hR
      refine (HDN.out w1' _ HKK.out).mono ?_
      rintro e w2 ⟨s, rfl, hs, hb2⟩
      exact ⟨_, rfl, hs, hb2⟩
    · cases hj
      clear hj'
      refine .inl ⟨rfl, ?_⟩
      generalize hG : relUpon _ _ _ = G
      have hbw : Below wX.heap.size wX w1' := by rw [hW] at hb; exact ((Below.refl wX.heap.size wX).drew).trans hb
      have hq : Rd .u32 w1' (vs 4) (limbs d) := hV 4 (by decide)
      have HQQ := Lib.hid hq
      have HTT := Lib.hid (TabW.below KT.out hbw)
      clear hbw hW hb hV hq
      subst hG
      simp only [putAll]
      generalize hR : Res _ _ vs w1' = R
      go_simp
      subst hR
      refine (HNS.out w1' _ HQQ.out HTT.out).mono ?_
      rintro e w2 ⟨rfl, hb2⟩
      exact ⟨_, rfl, rfl, hb2⟩
    · cases hj
      clear hj'
      refine .inl ⟨rfl, ?_⟩
      generalize hG : relUpon _ _ _ = G
      have q2_ : vs 2 = _ := hV 2 (by decide)
      clear hV hb hW
      subst hG
      simp only [putAll]
      generalize hR : Res _ _ vs w1' = R
      go_simp
      subst hR
      exact ⟨rfl, Below.refl _ _⟩
    · cases hj
      clear hj'
      refine .inl ⟨rfl, ?_⟩
      generalize hG : relUpon _ _ _ = G
      have q5_ : vs 5 = _ := hV 5 (by decide)
      clear hV hb hW
      subst hG
      simp only [putAll]
      generalize hR : Res _ _ vs w1' = R
      go_simp
      subst hR
      exact ⟨rfl, Below.refl _ _⟩
  case hQ =>
    intro W hW vs w2 hb hV hD
    have hbw : Below wX.heap.size wX w2 := by rw [hW] at hb; exact ((Below.refl wX.heap.size wX).drew).trans hb
    have e0_ : vs 0 = _ := hV 0 (by simp)
    have e1_ : vs 1 = _ := hV 1 (by simp)
    have e2_ : vs 2 = _ := hV 2 (by simp)
    have e3_ : vs 3 = _ := hV 3 (by simp)
    have e5_ : vs 5 = _ := hV 5 (by simp)
    have e6_ : vs 6 = _ := hV 6 (by simp)
    have e7_ : vs 7 = _ := hV 7 (by simp)
    have hr4 : Rd .u32 w2 (vs 4) (limbs d) := hV 4 (by simp)
    obtain ⟨_, _, e4_, _⟩ := hr4
    have HFIN := Lib.hid (HBE.out.trans (hbw.mono HSZ.out))
    clear hV hD hb hW hbw HWS HNS HDN
    generalize hKK : Exit.then _ _ = KK
    simp only [putAll, e0_, e1_, e2_, e3_, e4_, e5_, e6_, e7_]
    go_simp
    subst hKK
    clear e0_ e1_ e2_ e3_ e4_ e5_ e6_ e7_
    go_wp2_with fail
    refine bodyPost_ret (v := .tuple #[.string S1, .string S2]) (by simp [results, Tryz.results15, go_sem]) rfl ?_
    rw [HH.out]
    exact ⟨rfl, HFIN.out⟩
end Go.Proofs.YtmhmkhdgpfhnfaaGreatDoor.Ref
