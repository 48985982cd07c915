/- The program's whole numbers and fractions as strings. -/
import Derived.Test.YtmhmkhdgpfhnfaaGreatDoorT3
import Derived.Lib.SliceRun
set_option linter.unusedVariables false
set_option linter.unusedSimpArgs false
set_option linter.unnecessarySimpa false
namespace Go.Proofs.YtmhmkhdgpfhnfaaGreatDoor.Ref
open Go.RowKit Go.Lib

theorem ba_append (a b : List UInt8) : (⟨a.toArray⟩ ++ ⟨b.toArray⟩ : ByteArray) = ⟨(a ++ b).toArray⟩ := by
  apply ByteArray.ext
  rw [ByteArray.data_append]
  simp
theorem ba_size (a : List UInt8) : (⟨a.toArray⟩ : ByteArray).size = a.length := by
  show a.toArray.size = _
  simp
theorem undNat : Tryz.prog.underlying 23 = some (.slice 153) := by kernel_rfl
/-- the two cells of a whole number, the slice written out -/
theorem Wh.form {w : World} {v : Value} {z : Int} (h : Wh w v z) : ∃ p n c, v = .agg #[.bool (decide (z < 0)), .slice p n c] ∧ Rd .u32 w (.slice p n c) (limbs z.natAbs) := by
  obtain ⟨s, h1, h2⟩ := h
  obtain ⟨p, c, rfl, _⟩ := id h2
  exact ⟨p, _, c, h1, h2⟩
theorem Wh.below {w w' : World} {v : Value} {z : Int} (h : Wh w v z) (hb : Below w.heap.size w w') : Wh w' v z := by
  obtain ⟨s, h1, h2⟩ := h
  exact ⟨s, h1, h2.below hb⟩
/-- the denominator of a fraction: nil for 1 -/
def Lw (w : World) (l : Value) (d : Nat) : Prop := (d = 1 ∧ l = .slice none 0 0) ∨ (2 ≤ d ∧ Rd .u32 w l (limbs d))
theorem Lw.below {w w' : World} {l : Value} {d : Nat} (h : Lw w l d) (hb : Below w.heap.size w w') : Lw w' l d := by
  rcases h with h | ⟨h1, h2⟩
  · exact .inl h
  · exact .inr ⟨h1, h2.below hb⟩
/-- the three cells of a fraction in lowest terms -/
def Rt (w : World) (v : Value) (n : Int) (d : Nat) : Prop := ∃ p k c l, v = .agg #[.bool (decide (n < 0)), .slice p k c, l] ∧ Rd .u32 w (.slice p k c) (limbs n.natAbs) ∧ Lw w l d
theorem Rt.below {w w' : World} {v : Value} {n : Int} {d : Nat} (h : Rt w v n d) (hb : Below w.heap.size w w') : Rt w' v n d := by
  obtain ⟨p, k, c, l, h1, h2, h3⟩ := h
  exact ⟨p, k, c, l, h1, h2.below hb, h3.below hb⟩
theorem itoa_neg {z : Int} (h : z < 0) : (⟨#[45]⟩ : ByteArray) ++ ⟨(decDigits z.natAbs).toArray⟩ = ⟨(itoa z).toArray⟩ := by
  unfold itoa
  rw [if_pos h]
  exact ba_append [45] _
theorem itoa_pos {z : Int} (h : ¬ z < 0) : (⟨(decDigits z.natAbs).toArray⟩ : ByteArray) = ⟨(itoa z).toArray⟩ := by
  unfold itoa
  rw [if_neg h, show z.toNat = z.natAbs by omega]
theorem dec_len (n : Nat) (h : (limbs n).length ≤ 100000) : (decDigits n).length ≤ 900002 := by
  have := itoa_len (n : Int) (by rw [Int.natAbs_natCast]; exact h)
  unfold itoa at this
  rw [if_neg (by omega), Int.toNat_natCast] at this
  exact this
set_option maxRecDepth 100000 in
set_option maxHeartbeats 2000000 in
theorem wholeString_any (v : Value) (z : Int) (w : World) (h : Wh w v z) (hl : (limbs z.natAbs).length ≤ 100000) (hT : TabW w) :
    Calls Tryz.prog 72 #[v] w fun e w' => e = .returned (.string ⟨(itoa z).toArray⟩) ∧ Below w.heap.size w w' := by
  obtain ⟨p, n, c, rfl, hs⟩ := Wh.form h
  have hrow := row_new 25 w #[.bool (decide (z < 0)), .slice p n c]
  have hbe := (Below.refl w.heap.size w).alloc (Nat.le_refl _) (.cells #[.bool (decide (z < 0)), .slice p n c] 25)
  have HS := Lib.hid (natString_any (.slice p n c) z.natAbs _ (hs.below hbe) hl (TabW.below hT hbe))
  have HL := Lib.hid (dec_len _ hl)
  have HBE := Lib.hid hbe
  have hlt := Nat.le_of_lt hrow.lt
  clear hs h hrow hbe hT hl
  by_cases hz : z < 0
  · rw [decide_eq_true hz] at *
    have HE := Lib.hid (itoa_neg hz)
    obtain ⟨S, hS⟩ : ∃ S : ByteArray, ⟨(decDigits z.natAbs).toArray⟩ = S := ⟨_, rfl⟩
    have gz : ¬ (9223372036854775807 < 1 + S.size) := by rw [← hS, ba_size]; have := HL.out; omega
    rw [hS] at HS HE
    obtain ⟨F, hF⟩ : ∃ S : ByteArray, ⟨(itoa z).toArray⟩ = S := ⟨_, rfl⟩
    rw [hF] at HE ⊢
    clear hz hS hF
    go_enter Tryz.func72, Tryz.ntmps72
    go_wp2_with fail
    refine HS.out.mono ?_
    rintro e w2 ⟨rfl, hb2⟩
    have HB2 := Lib.hid (HBE.out.trans (hb2.mono hlt))
    clear hb2 HS
    go_wp2_with fail
    go_ret
    exact ⟨by rw [← HE.out]; rfl, HB2.out⟩
  · rw [decide_eq_false hz] at *
    have HE := Lib.hid (itoa_pos hz)
    obtain ⟨S, hS⟩ : ∃ S : ByteArray, ⟨(decDigits z.natAbs).toArray⟩ = S := ⟨_, rfl⟩
    rw [hS] at HS HE
    obtain ⟨F, hF⟩ : ∃ S : ByteArray, ⟨(itoa z).toArray⟩ = S := ⟨_, rfl⟩
    rw [hF] at HE ⊢
    clear hz hS hF
    go_enter Tryz.func72, Tryz.ntmps72
    go_wp2_with fail
    refine HS.out.mono ?_
    rintro e w2 ⟨rfl, hb2⟩
    have HB2 := Lib.hid (HBE.out.trans (hb2.mono hlt))
    clear hb2 HS
    go_wp2_with fail
    go_ret
    exact ⟨by rw [← HE.out]; rfl, HB2.out⟩
set_option maxRecDepth 100000 in
set_option maxHeartbeats 2000000 in
theorem ratString_any (v : Value) (n : Int) (d : Nat) (w : World) (h : Rt w v n d) (hl1 : (limbs n.natAbs).length ≤ 100000) (hl2 : (limbs d).length ≤ 100000) (hT : TabW w) :
    Calls Tryz.prog 13 #[v] w fun e w' => e = .returned (.string (formB n d)) ∧ Below w.heap.size w w' := by
  obtain ⟨p, k, c, l, rfl, hs, hw⟩ := h
  obtain ⟨b1, hb1⟩ : ∃ b, decide (n < 0) = b := ⟨_, rfl⟩
  have hrow := row_new 27 w #[.bool b1, .slice p k c, l]
  have hbe := (Below.refl w.heap.size w).alloc (Nat.le_refl _) (.cells #[.bool b1, .slice p k c, l] 27)
  have HW : Hid (∀ W, Below (w.alloc (.cells #[.bool b1, .slice p k c, l] 27)).heap.size (w.alloc (.cells #[.bool b1, .slice p k c, l] 27)) W → Calls Tryz.prog 72 #[.agg #[.bool b1, .slice p k c]] W fun e w' => e = .returned (.string ⟨(itoa n).toArray⟩) ∧ Below W.heap.size W w') := fun W hb =>
    wholeString_any _ n W ⟨_, by rw [hb1], (hs.below hbe).below hb⟩ hl1 (TabW.below (TabW.below hT hbe) hb)
  have hlt := Nat.le_of_lt hrow.lt
  have HL1 := Lib.hid (itoa_len n hl1)
  have HL2 := Lib.hid (dec_len d hl2)
  have HROW := Lib.hid hrow
  have HBE := Lib.hid hbe
  rw [hb1]
  rcases hw with ⟨rfl, rfl⟩ | ⟨hd2, hw⟩
  · have HE : Hid (formB n (1 : Nat) = ⟨(itoa n).toArray⟩) := by show _ = _; unfold formB; exact if_pos rfl
    obtain ⟨S, hS⟩ : ∃ S : ByteArray, ⟨(itoa n).toArray⟩ = S := ⟨_, rfl⟩
    rw [hS] at HW HE
    rw [HE.out]
    have heq := Lib.run_eql_slice_nil (P := Tryz.prog) (w.alloc (.cells #[.bool b1, .slice p k c, .slice none 0 0] 27)) 23 153 none 0 0 0 0 undNat
    clear hrow hbe hs hT hl1 hl2 hS hb1
    go_enter Tryz.func13, Tryz.ntmps13
    go_wp2_with fail
    refine (HW.out _ (Below.refl _ _)).mono ?_
    rintro e w2 ⟨rfl, hb2⟩
    have HB2 := Lib.hid (HBE.out.trans (hb2.mono hlt))
    clear hb2 HW
    go_wp2_with fail
    go_ret
    exact ⟨rfl, HB2.out⟩
  · have hdl : 0 < (limbs d).length := by
      have : (limbs d).length ≠ 0 := fun e => by have := (limbs_nil_iff d).1 (List.length_eq_zero_iff.1 e); omega
      omega
    have HRD := Lib.hid hw
    obtain ⟨q, cq, rfl, _, _, _, hq⟩ := hw
    obtain ⟨bq, oq, rfl, _, _⟩ := hq hdl
    obtain ⟨nl_, hnl⟩ : ∃ k, (limbs d).length = k := ⟨_, rfl⟩
    have HD : Hid (∀ W, Below (w.alloc (.cells #[.bool b1, .slice p k c, .slice (some ⟨bq, oq, none⟩) nl_ cq] 27)).heap.size (w.alloc (.cells #[.bool b1, .slice p k c, .slice (some ⟨bq, oq, none⟩) nl_ cq] 27)) W → Calls Tryz.prog 73 #[.slice (some ⟨bq, oq, none⟩) nl_ cq] W fun e w' => e = .returned (.string ⟨(decDigits d).toArray⟩) ∧ Below W.heap.size W w') := fun W hb => by
      rw [← hnl] at hb ⊢
      exact natString_any _ d W ((HRD.out.below hbe).below hb) hl2 (TabW.below (TabW.below hT hbe) hb)
    rw [hnl] at HW HROW HBE hlt ⊢
    have HE : Hid (formB n d = ⟨(itoa n).toArray⟩ ++ ⟨#[47]⟩ ++ ⟨(decDigits d).toArray⟩) := by
      show _ = _
      unfold formB
      rw [if_neg (by omega)]
      congr 1
    have gz1 : ¬ (9223372036854775807 < (⟨(itoa n).toArray⟩ : ByteArray).size + 1) := by rw [ba_size]; have := HL1.out; omega
    have gz2 : ¬ (9223372036854775807 < (⟨(itoa n).toArray⟩ : ByteArray).size + 1 + (⟨(decDigits d).toArray⟩ : ByteArray).size) := by rw [ba_size, ba_size]; have := HL1.out; have := HL2.out; omega
    obtain ⟨S1, hS1⟩ : ∃ S : ByteArray, ⟨(itoa n).toArray⟩ = S := ⟨_, rfl⟩
    obtain ⟨S2, hS2⟩ : ∃ S : ByteArray, ⟨(decDigits d).toArray⟩ = S := ⟨_, rfl⟩
    rw [hS1] at HW HE gz1 gz2
    rw [hS2] at HD HE gz2
    rw [HE.out]
    have heq := Lib.run_eql_slice_nil (P := Tryz.prog) (w.alloc (.cells #[.bool b1, .slice p k c, .slice (some ⟨bq, oq, none⟩) nl_ cq] 27)) 23 153 (some ⟨bq, oq, none⟩) nl_ cq 0 0 undNat
    have HEQ := Lib.hid heq
    clear hrow hbe hs hT hl1 hl2 hS1 hS2 hb1 hq hdl hnl hd2
    go_enter Tryz.func13, Tryz.ntmps13
    go_upto_region 3 with (fail)
    generalize w.alloc (.cells #[.bool b1, .slice p k c, .slice (some ⟨bq, oq, none⟩) nl_ cq] 27) = wX at *
    obtain ⟨h, hh⟩ : ∃ h, w.heap.size = h := ⟨_, rfl⟩
    have HH := Lib.hid hh
    rw [hh] at HROW HBE hlt ⊢
    clear hh heq HEQ
    refine wp_region_rel (by kernel_rfl) 17 rfl (by kernel_rfl) [.fix (.pointer (some ⟨h, 0, none⟩)), .fix (.agg #[.bool b1, .slice p k c]), .fix (.string S1), .fix (.string (S1 ++ ⟨#[47]⟩)), .fix (.pointer (some ⟨h, 2, none⟩)), .fix (.slice (some ⟨bq, oq, none⟩) nl_ cq), .fix (.string S2), .fix (.string ((S1 ++ ⟨#[47]⟩) ++ S2)), .fix (.string ((S1 ++ ⟨#[47]⟩) ++ S2))] rfl (stays_fix rfl) ?hop ?hQ
    case hop =>
      intro W hW j o hj vs w1' hb hV
      have hj' : j < 9 := (List.getElem?_eq_some_iff.1 hj).1
      rcases (by omega : j = 0 ∨ j = 1 ∨ j = 2 ∨ j = 3 ∨ j = 4 ∨ j = 5 ∨ j = 6 ∨ j = 7 ∨ j = 8) with rfl | rfl | rfl | rfl | rfl | rfl | rfl | rfl | rfl
      · cases hj
        clear hj'
        refine .inl ⟨rfl, ?_⟩
        generalize hG : relUpon _ _ _ = G
        clear hV hb hW
        subst hG
        simp only [putAll]
        generalize hR : Res _ _ vs w1' = R
        go_simp
        subst hR
        exact ⟨rfl, Below.refl _ _⟩
      · cases hj
        clear hj'
        refine .inl ⟨rfl, ?_⟩
        generalize hG : relUpon _ _ _ = G
        have hbw : Below wX.heap.size wX w1' := by rw [hW] at hb; exact ((Below.refl wX.heap.size wX).drew).trans hb
        have q0_ : vs 0 = _ := hV 0 (by decide)
        have d0 := (HROW.out.below hbw HROW.out.lt).cell 0
        have d1 := (HROW.out.below hbw HROW.out.lt).cell 1
        simp only [List.getElem?_cons_zero, List.getElem?_cons_succ] at d0 d1
        clear hbw hW hb hV
        subst hG
        simp only [putAll]
        generalize hR : Res _ _ vs w1' = R
        go_simp
        subst hR
        exact ⟨rfl, Below.refl _ _⟩
      · cases hj
        clear hj'
        refine .inl ⟨rfl, ?_⟩
        generalize hG : relUpon _ _ _ = G
        have hbw : Below wX.heap.size wX w1' := by rw [hW] at hb; exact ((Below.refl wX.heap.size wX).drew).trans hb
        have q1_ : vs 1 = _ := hV 1 (by decide)
        have HBW := Lib.hid hbw
        clear hbw hW hb hV
        subst hG
        simp only [putAll]
        generalize hR : Res _ _ vs w1' = R
        go_simp
        subst hR
        refine (HW.out w1' HBW.out).mono ?_
        rintro e w2 ⟨rfl, hb2⟩
        exact ⟨_, rfl, rfl, hb2⟩
      · cases hj
        clear hj'
        refine .inl ⟨rfl, ?_⟩
        generalize hG : relUpon _ _ _ = G
        have q2_ : vs 2 = _ := hV 2 (by decide)
        clear hV hb hW
        subst hG
        simp only [putAll]
        generalize hR : Res _ _ vs w1' = R
        go_simp
        subst hR
        exact ⟨rfl, Below.refl _ _⟩
      · cases hj
        clear hj'
        refine .inl ⟨rfl, ?_⟩
        generalize hG : relUpon _ _ _ = G
        clear hV hb hW
        subst hG
        simp only [putAll]
        generalize hR : Res _ _ vs w1' = R
        go_simp
        subst hR
        exact ⟨rfl, Below.refl _ _⟩
      · cases hj
        clear hj'
        refine .inl ⟨rfl, ?_⟩
        generalize hG : relUpon _ _ _ = G
        have hbw : Below wX.heap.size wX w1' := by rw [hW] at hb; exact ((Below.refl wX.heap.size wX).drew).trans hb
        have q4_ : vs 4 = _ := hV 4 (by decide)
        have d2 := (HROW.out.below hbw HROW.out.lt).cell 2
        simp only [List.getElem?_cons_zero, List.getElem?_cons_succ] at d2
        clear hbw hW hb hV
        subst hG
        simp only [putAll]
        generalize hR : Res _ _ vs w1' = R
        go_simp
        subst hR
        exact ⟨rfl, Below.refl _ _⟩
      · cases hj
        clear hj'
        refine .inl ⟨rfl, ?_⟩
        generalize hG : relUpon _ _ _ = G
        have hbw : Below wX.heap.size wX w1' := by rw [hW] at hb; exact ((Below.refl wX.heap.size wX).drew).trans hb
        have q5_ : vs 5 = _ := hV 5 (by decide)
        have HBW := Lib.hid hbw
        clear hbw hW hb hV
        subst hG
        simp only [putAll]
        generalize hR : Res _ _ vs w1' = R
        go_simp
        subst hR
        refine (HD.out w1' HBW.out).mono ?_
        rintro e w2 ⟨rfl, hb2⟩
        exact ⟨_, rfl, rfl, hb2⟩
      · cases hj
        clear hj'
        refine .inl ⟨rfl, ?_⟩
        generalize hG : relUpon _ _ _ = G
        have q3_ : vs 3 = _ := hV 3 (by decide)
        have q6_ : vs 6 = _ := hV 6 (by decide)
        clear hV hb hW
        subst hG
        simp only [putAll]
        generalize hR : Res _ _ vs w1' = R
        go_simp
        subst hR
        exact ⟨rfl, Below.refl _ _⟩
      · cases hj
        clear hj'
        refine .inl ⟨rfl, ?_⟩
        generalize hG : relUpon _ _ _ = G
        have q7_ : vs 7 = _ := hV 7 (by decide)
        clear hV hb hW
        subst hG
        simp only [putAll]
        generalize hR : Res _ _ vs w1' = R
        go_simp
        subst hR
        exact ⟨rfl, Below.refl _ _⟩
    case hQ =>
      intro W hW vs w2 hb hV hD
      have hbw : Below wX.heap.size wX w2 := by rw [hW] at hb; exact ((Below.refl wX.heap.size wX).drew).trans hb
      have e0_ : vs 0 = _ := hV 0 (by simp)
      have e1_ : vs 1 = _ := hV 1 (by simp)
      have e2_ : vs 2 = _ := hV 2 (by simp)
      have e3_ : vs 3 = _ := hV 3 (by simp)
      have e4_ : vs 4 = _ := hV 4 (by simp)
      have e5_ : vs 5 = _ := hV 5 (by simp)
      have e6_ : vs 6 = _ := hV 6 (by simp)
      have e7_ : vs 7 = _ := hV 7 (by simp)
      have e8_ : vs 8 = _ := hV 8 (by simp)
      have hfin := HBE.out.trans (hbw.mono hlt)
      have HFIN := Lib.hid hfin
      clear hV hD hb hW hbw hfin HW HD
      generalize hKK : Exit.then _ _ = KK
      simp only [putAll, e0_, e1_, e2_, e3_, e4_, e5_, e6_, e7_, e8_]
      go_simp
      subst hKK
      clear e0_ e1_ e2_ e3_ e4_ e5_ e6_ e7_ e8_
      go_wp2_with fail
      go_ret
      rw [HH.out]
      exact ⟨rfl, HFIN.out⟩
end Go.Proofs.YtmhmkhdgpfhnfaaGreatDoor.Ref
