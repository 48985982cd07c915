/- The reference's Form. -/
import Derived.Test.YtmhmkhdgpfhnfaaGreatDoorT1
set_option linter.unusedVariables false
set_option linter.unusedSimpArgs false
set_option linter.unnecessarySimpa false
namespace Go.Proofs.YtmhmkhdgpfhnfaaGreatDoor.Ref
open Go.RowKit Go.Lib

theorem itoa_len (z : Int) (h : (limbs z.natAbs).length ≤ 100000) : (itoa z).length ≤ 900002 := by
  have hn : (decDigits z.natAbs).length ≤ 900001 := by
    rw [decDigits_length]
    by_cases h0 : z.natAbs = 0
    · rw [h0, nDigits_small (by omega)]; omega
    · have hl : (limbs z.natAbs).length ≠ 0 := fun e => h0 ((limbs_nil_iff _).1 (List.length_eq_zero_iff.1 e))
      have := val_lt (limbs z.natAbs) (Lo_limbs _)
      rw [val_limbs] at this
      have h2 := nDigits_le (N := z.natAbs) (k := 9 * (limbs z.natAbs).length) (by rw [Nat.pow_mul]; exact this) (by omega)
      omega
  unfold itoa
  by_cases hz : z < 0
  · rw [if_pos hz, List.length_cons]; omega
  · rw [if_neg hz, show z.toNat = z.natAbs by omega]; omega
/-- the string of a fraction in lowest terms -/
def formB (n d : Int) : ByteArray := if d = 1 then ⟨(itoa n).toArray⟩ else (⟨(itoa n).toArray⟩ ++ ⟨#[47]⟩) ++ ⟨(itoa d).toArray⟩
set_option maxRecDepth 100000 in
set_option maxHeartbeats 4000000 in
theorem form_go (n d : Int) (v1 : Value) (w : World) (h1 : Qv w v1 n d) (hd : 0 < d) (hl1 : (limbs n.natAbs).length ≤ 100000) (hl2 : (limbs d.natAbs).length ≤ 100000) :
    Calls Tryz.prog 77 #[v1] w fun e w' => e = .returned (.string (formB n d)) ∧ Below w.heap.size w w' := by
  obtain ⟨b1, p1, n1, c1, b2, p2, n2, c2, rfl, hz1, hz2⟩ := h1.form
  have hrow := row_new 36 w #[.bool b1, .slice p1 n1 c1, .bool b2, .slice p2 n2 c2]
  have hbe := (Below.refl w.heap.size w).alloc (Nat.le_refl _) (.cells #[.bool b1, .slice p1 n1 c1, .bool b2, .slice p2 n2 c2] 36)
  have hk1 := hz1.below hbe
  have hk2 := hz2.below hbe
  have HC := Lib.hid (fun W v1 v2 h1 h2 => cmpZ_ne d 1 v1 v2 W h1 h2 (by rw [decide_eq_false (by omega), decide_eq_true (by omega)]; decide) (Nat.le_trans hl2 (by omega)) (Nat.le_trans (limbs_len3 (by decide)) (by omega)))
  have HS1 := Lib.hid (fun W v h => string_go n v W h hl1)
  have HS2 := Lib.hid (fun W v h => string_go d v W h hl2)
  obtain ⟨S1, hS1⟩ : ∃ S : ByteArray, ⟨(itoa n).toArray⟩ = S := ⟨_, rfl⟩
  obtain ⟨S2, hS2⟩ : ∃ S : ByteArray, ⟨(itoa d).toArray⟩ = S := ⟨_, rfl⟩
  have HF : Hid (formB n d = if d = 1 then S1 else (S1 ++ ⟨#[47]⟩) ++ S2) := by show _ = _; unfold formB; rw [hS1, hS2]
  have gz1 : ¬ (9223372036854775807 < S1.size + 1) := by
    rw [← hS1]; have := itoa_len n hl1; show ¬ (_ < (itoa n).toArray.size + 1); rw [List.size_toArray]; omega
  have gz2 : ¬ (9223372036854775807 < S1.size + 1 + S2.size) := by
    rw [← hS1, ← hS2]; have h1 := itoa_len n hl1; have h2 := itoa_len d hl2; show ¬ (_ < (itoa n).toArray.size + 1 + (itoa d).toArray.size); rw [List.size_toArray, List.size_toArray]; omega
  rw [hS1] at HS1
  rw [hS2] at HS2
  obtain ⟨F, hF⟩ : ∃ F, formB n d = F := ⟨_, rfl⟩
  rw [hF] at HF ⊢
  have HD := Lib.hid hd
  clear hz1 hz2 hl1 hl2 h1 hS1 hS2 hF
  go_enter Tryz.func77, Tryz.ntmps77
  go_upto_region 1 with (fail)
  generalize w.alloc (.cells #[.bool b1, .slice p1 n1 c1, .bool b2, .slice p2 n2 c2] 36) = wX at *
  obtain ⟨h, hh⟩ : ∃ h, w.heap.size = h := ⟨_, rfl⟩
  have HH := Lib.hid hh
  rw [hh] at hrow hbe ⊢
  have X1 := Lib.hid hrow
  have X4 := Lib.hid hbe
  have K1 := Lib.hid hk1
  have K2 := Lib.hid hk2
  have hsx : h ≤ wX.heap.size := Nat.le_of_lt hrow.lt
  have HSX := Lib.hid hsx
  clear hrow hbe hk1 hk2 hsx hh
  by_cases hone : d = 1
  · have hF1 : F = S1 := by rw [HF.out, if_pos hone]
    subst hF1
    refine wp_region_rel (by kernel_rfl) 19 rfl (by kernel_rfl) [.fix (.pointer (some ⟨h, 2, none⟩)), .fix (.agg #[.bool b2, .slice p2 n2 c2]), .mem (fun u W => Zv W u 1), .fix (.int .i64 0), .fix (.bool true)] rfl (stays_stb (fun i M hk => by rcases i with _ | _ | _ | _ | _ | i <;> simp at hk <;> subst hk <;> first | exact stb_zv _ | exact stb_qv _ _ | exact stb_lb _)) ?hop ?hQ
    case hop =>
      intro W hW j o hj vs w1' hb hV
      have hj' : j < 5 := (List.getElem?_eq_some_iff.1 hj).1
      rcases (by omega : j = 0 ∨ j = 1 ∨ j = 2 ∨ j = 3 ∨ j = 4) with rfl | rfl | rfl | rfl | rfl
      · cases hj
        clear hj'
        refine .inl ⟨rfl, ?_⟩
        generalize hG : relUpon _ _ _ = G
        clear hV hb hW
        subst hG
        simp only [putAll]
        generalize hR : Res _ _ vs w1' = R
        go_simp
        subst hR
        exact ⟨rfl, Below.refl _ _⟩
      · cases hj
        clear hj'
        refine .inl ⟨rfl, ?_⟩
        generalize hG : relUpon _ _ _ = G
        have hbw : Below wX.heap.size wX w1' := by rw [hW] at hb; exact ((Below.refl wX.heap.size wX).drew).trans hb
        have q0_ : vs 0 = _ := hV 0 (by decide)
        have d2 := (X1.out.below hbw X1.out.lt).cell 2
        have d3 := (X1.out.below hbw X1.out.lt).cell 3
        simp only [List.getElem?_cons_zero, List.getElem?_cons_succ] at d2 d3
        clear hbw hW hb hV
        subst hG
        simp only [putAll]
        generalize hR : Res _ _ vs w1' = R
        go_simp
        subst hR
        exact ⟨rfl, Below.refl _ _⟩
      · cases hj
        clear hj'
        refine .inl ⟨rfl, ?_⟩
        generalize hG : relUpon _ _ _ = G
        clear hV hb hW
        subst hG
        simp only [putAll]
        generalize hR : Res _ _ vs w1' = R
        go_simp
        subst hR
        refine (of_go 1 w1' (by omega) (by omega)).mono ?_
        rintro e w2 ⟨v, rfl, hz, hb2⟩
        exact ⟨_, rfl, hz, hb2⟩
      · cases hj
        clear hj'
        refine .inl ⟨rfl, ?_⟩
        generalize hG : relUpon _ _ _ = G
        have hbw : Below wX.heap.size wX w1' := by rw [hW] at hb; exact ((Below.refl wX.heap.size wX).drew).trans hb
        have q1_ : vs 1 = _ := hV 1 (by decide)
        have hz : Zv w1' (vs 2) 1 := hV 2 (by decide)
        have HZ := Lib.hid hz
        have HKK := Lib.hid (K2.out.below hbw)
        clear hbw hW hb hV hz
        subst hG
        simp only [putAll]
        generalize hR : Res _ _ vs w1' = R
        go_simp
        subst hR
        refine (HC.out w1' _ _ HKK.out HZ.out).mono ?_
        rintro e w2 ⟨rfl, hb2⟩
        exact ⟨_, rfl, by rw [hone]; rfl, hb2⟩
      · cases hj
        clear hj'
        refine .inl ⟨rfl, ?_⟩
        generalize hG : relUpon _ _ _ = G
        have q3_ : vs 3 = _ := hV 3 (by decide)
        clear hV hb hW
        subst hG
        simp only [putAll]
        generalize hR : Res _ _ vs w1' = R
        go_simp
        subst hR
        exact ⟨rfl, Below.refl _ _⟩
    case hQ =>
      intro W hW vs w2 hb hV hD
      have hbw : Below wX.heap.size wX w2 := by rw [hW] at hb; exact ((Below.refl wX.heap.size wX).drew).trans hb
      have e0_ : vs 0 = _ := hV 0 (by simp)
      have e1_ : vs 1 = _ := hV 1 (by simp)
      have e3_ : vs 3 = _ := hV 3 (by simp)
      have e4_ : vs 4 = _ := hV 4 (by simp)
      obtain ⟨_, _, _, _, e2_, _⟩ := Zv.form (show Zv w2 (vs 2) 1 from hV 2 (by simp))
      have Y1 := Lib.hid (X1.out.below hbw X1.out.lt)
      have L1 := Lib.hid (K1.out.below hbw)
      have L2 := Lib.hid (K2.out.below hbw)
      have hbe := X4.out.trans (hbw.mono HSX.out)
      have HBE := Lib.hid hbe
      have hsy : h ≤ w2.heap.size := Nat.le_of_lt Y1.out.lt
      have HSY := Lib.hid hsy
      have g0 := Y1.out.cell 0
      have g1 := Y1.out.cell 1
      have g2 := Y1.out.cell 2
      have g3 := Y1.out.cell 3
      simp only [List.getElem?_cons_zero, List.getElem?_cons_succ] at g0 g1 g2 g3
      clear hV hD hb hW hbw hbe hsy X1 K1 K2 X4 HSX
      generalize hKK : Exit.then _ _ = KK
      simp only [List.take_succ_cons, List.take_zero, List.drop_succ_cons, List.drop_zero, putAll, e0_, e1_, e2_, e3_, e4_]
      go_simp
      subst hKK
      clear e0_ e1_ e2_ e3_ e4_
      go_wp2_with fail
      refine (HS1.out w2 _ L1.out).mono ?_
      rintro e w3 ⟨rfl, hb3⟩
      have HB3 := Lib.hid hb3
      clear hb3
      go_wp2_with fail
      go_ret
      rw [HH.out]
      exact ⟨rfl, HBE.out.trans (HB3.out.mono HSY.out)⟩
  · have hF1 : F = (S1 ++ ⟨#[47]⟩) ++ S2 := by rw [HF.out, if_neg hone]
    subst hF1
    have HSG : Hid (Int.sign (d - 1) = 1) := Int.sign_eq_one_of_pos (by omega)
    refine wp_region_rel (by kernel_rfl) 19 rfl (by kernel_rfl) [.fix (.pointer (some ⟨h, 2, none⟩)), .fix (.agg #[.bool b2, .slice p2 n2 c2]), .mem (fun u W => Zv W u 1), .fix (.int .i64 1), .fix (.bool false)] rfl (stays_stb (fun i M hk => by rcases i with _ | _ | _ | _ | _ | i <;> simp at hk <;> subst hk <;> first | exact stb_zv _ | exact stb_qv _ _ | exact stb_lb _)) ?hop ?hQ
    case hop =>
      intro W hW j o hj vs w1' hb hV
      have hj' : j < 5 := (List.getElem?_eq_some_iff.1 hj).1
      rcases (by omega : j = 0 ∨ j = 1 ∨ j = 2 ∨ j = 3 ∨ j = 4) with rfl | rfl | rfl | rfl | rfl
      · cases hj
        clear hj'
        refine .inl ⟨rfl, ?_⟩
        generalize hG : relUpon _ _ _ = G
        clear hV hb hW
        subst hG
        simp only [putAll]
        generalize hR : Res _ _ vs w1' = R
        go_simp
        subst hR
        exact ⟨rfl, Below.refl _ _⟩
      · cases hj
        clear hj'
        refine .inl ⟨rfl, ?_⟩
        generalize hG : relUpon _ _ _ = G
        have hbw : Below wX.heap.size wX w1' := by rw [hW] at hb; exact ((Below.refl wX.heap.size wX).drew).trans hb
        have q0_ : vs 0 = _ := hV 0 (by decide)
        have d2 := (X1.out.below hbw X1.out.lt).cell 2
        have d3 := (X1.out.below hbw X1.out.lt).cell 3
        simp only [List.getElem?_cons_zero, List.getElem?_cons_succ] at d2 d3
        clear hbw hW hb hV
        subst hG
        simp only [putAll]
        generalize hR : Res _ _ vs w1' = R
        go_simp
        subst hR
        exact ⟨rfl, Below.refl _ _⟩
      · cases hj
        clear hj'
        refine .inl ⟨rfl, ?_⟩
        generalize hG : relUpon _ _ _ = G
        clear hV hb hW
        subst hG
        simp only [putAll]
        generalize hR : Res _ _ vs w1' = R
        go_simp
        subst hR
        refine (of_go 1 w1' (by omega) (by omega)).mono ?_
        rintro e w2 ⟨v, rfl, hz, hb2⟩
        exact ⟨_, rfl, hz, hb2⟩
      · cases hj
        clear hj'
        refine .inl ⟨rfl, ?_⟩
        generalize hG : relUpon _ _ _ = G
        have hbw : Below wX.heap.size wX w1' := by rw [hW] at hb; exact ((Below.refl wX.heap.size wX).drew).trans hb
        have q1_ : vs 1 = _ := hV 1 (by decide)
        have hz : Zv w1' (vs 2) 1 := hV 2 (by decide)
        have HZ := Lib.hid hz
        have HKK := Lib.hid (K2.out.below hbw)
        clear hbw hW hb hV hz
        subst hG
        simp only [putAll]
        generalize hR : Res _ _ vs w1' = R
        go_simp
        subst hR
        refine (HC.out w1' _ _ HKK.out HZ.out).mono ?_
        rintro e w2 ⟨rfl, hb2⟩
        exact ⟨_, rfl, by rw [HSG.out], hb2⟩
      · cases hj
        clear hj'
        refine .inl ⟨rfl, ?_⟩
        generalize hG : relUpon _ _ _ = G
        have q3_ : vs 3 = _ := hV 3 (by decide)
        clear hV hb hW
        subst hG
        simp only [putAll]
        generalize hR : Res _ _ vs w1' = R
        go_simp
        subst hR
        exact ⟨rfl, Below.refl _ _⟩
    case hQ =>
      intro W hW vs w2 hb hV hD
      have hbw : Below wX.heap.size wX w2 := by rw [hW] at hb; exact ((Below.refl wX.heap.size wX).drew).trans hb
      have e0_ : vs 0 = _ := hV 0 (by simp)
      have e1_ : vs 1 = _ := hV 1 (by simp)
      have e3_ : vs 3 = _ := hV 3 (by simp)
      have e4_ : vs 4 = _ := hV 4 (by simp)
      obtain ⟨_, _, _, _, e2_, _⟩ := Zv.form (show Zv w2 (vs 2) 1 from hV 2 (by simp))
      have Y1 := Lib.hid (X1.out.below hbw X1.out.lt)
      have L1 := Lib.hid (K1.out.below hbw)
      have L2 := Lib.hid (K2.out.below hbw)
      have hbe := X4.out.trans (hbw.mono HSX.out)
      have HBE := Lib.hid hbe
      have hsy : h ≤ w2.heap.size := Nat.le_of_lt Y1.out.lt
      have HSY := Lib.hid hsy
      have g0 := Y1.out.cell 0
      have g1 := Y1.out.cell 1
      have g2 := Y1.out.cell 2
      have g3 := Y1.out.cell 3
      simp only [List.getElem?_cons_zero, List.getElem?_cons_succ] at g0 g1 g2 g3
      clear hV hD hb hW hbw hbe hsy X1 K1 K2 X4 HSX
      generalize hKK : Exit.then _ _ = KK
      simp only [List.take_succ_cons, List.take_zero, List.drop_succ_cons, List.drop_zero, putAll, e0_, e1_, e2_, e3_, e4_]
      go_simp
      subst hKK
      clear e0_ e1_ e2_ e3_ e4_
      go_upto_region 3 with (fail)
      obtain ⟨wY, hwY⟩ : ∃ wY : World, wY = w2 := ⟨_, rfl⟩
      subst hwY
      refine wp_region_rel (by kernel_rfl) 19 rfl (by kernel_rfl) [.fix (.pointer (some ⟨h, 0, none⟩)), .fix (.agg #[.bool b1, .slice p1 n1 c1]), .fix (.string S1), .fix (.string (S1 ++ ⟨#[47]⟩)), .fix (.pointer (some ⟨h, 2, none⟩)), .fix (.agg #[.bool b2, .slice p2 n2 c2]), .fix (.string S2), .fix (.string ((S1 ++ ⟨#[47]⟩) ++ S2)), .fix (.string ((S1 ++ ⟨#[47]⟩) ++ S2))] rfl (stays_fix rfl) ?hop ?hQ
      case hop =>
        intro W hW j o hj vs w1' hb hV
        have hj' : j < 9 := (List.getElem?_eq_some_iff.1 hj).1
        rcases (by omega : j = 0 ∨ j = 1 ∨ j = 2 ∨ j = 3 ∨ j = 4 ∨ j = 5 ∨ j = 6 ∨ j = 7 ∨ j = 8) with rfl | rfl | rfl | rfl | rfl | rfl | rfl | rfl | rfl
        · cases hj
          clear hj'
          refine .inl ⟨rfl, ?_⟩
          generalize hG : relUpon _ _ _ = G
          clear hV hb hW
          subst hG
          simp only [putAll]
          generalize hR : Res _ _ vs w1' = R
          go_simp
          subst hR
          exact ⟨rfl, Below.refl _ _⟩
        · cases hj
          clear hj'
          refine .inl ⟨rfl, ?_⟩
          generalize hG : relUpon _ _ _ = G
          have hbw : Below wY.heap.size wY w1' := by rw [hW] at hb; exact ((Below.refl wY.heap.size wY).drew).trans hb
          have q0_ : vs 0 = _ := hV 0 (by decide)
          have d0 := (Y1.out.below hbw Y1.out.lt).cell 0
          have d1 := (Y1.out.below hbw Y1.out.lt).cell 1
          simp only [List.getElem?_cons_zero, List.getElem?_cons_succ] at d0 d1
          clear hbw hW hb hV
          subst hG
          simp only [putAll]
          generalize hR : Res _ _ vs w1' = R
          go_simp
          subst hR
          exact ⟨rfl, Below.refl _ _⟩
        · cases hj
          clear hj'
          refine .inl ⟨rfl, ?_⟩
          generalize hG : relUpon _ _ _ = G
          have hbw : Below wY.heap.size wY w1' := by rw [hW] at hb; exact ((Below.refl wY.heap.size wY).drew).trans hb
          have q1_ : vs 1 = _ := hV 1 (by decide)
          have HKK := Lib.hid (L1.out.below hbw)
          clear hbw hW hb hV
          subst hG
          simp only [putAll]
          generalize hR : Res _ _ vs w1' = R
          go_simp
          subst hR
          refine (HS1.out w1' _ HKK.out).mono ?_
          rintro e w2 ⟨rfl, hb2⟩
          exact ⟨_, rfl, rfl, hb2⟩
        · cases hj
          clear hj'
          refine .inl ⟨rfl, ?_⟩
          generalize hG : relUpon _ _ _ = G
          have q2_ : vs 2 = _ := hV 2 (by decide)
          clear hV hb hW
          subst hG
          simp only [putAll]
          generalize hR : Res _ _ vs w1' = R
          go_simp
          subst hR
          exact ⟨rfl, Below.refl _ _⟩
        · cases hj
          clear hj'
          refine .inl ⟨rfl, ?_⟩
          generalize hG : relUpon _ _ _ = G
          clear hV hb hW
          subst hG
          simp only [putAll]
          generalize hR : Res _ _ vs w1' = R
          go_simp
          subst hR
          exact ⟨rfl, Below.refl _ _⟩
        · cases hj
          clear hj'
          refine .inl ⟨rfl, ?_⟩
          generalize hG : relUpon _ _ _ = G
          have hbw : Below wY.heap.size wY w1' := by rw [hW] at hb; exact ((Below.refl wY.heap.size wY).drew).trans hb
          have q4_ : vs 4 = _ := hV 4 (by decide)
          have d2 := (Y1.out.below hbw Y1.out.lt).cell 2
          have d3 := (Y1.out.below hbw Y1.out.lt).cell 3
          simp only [List.getElem?_cons_zero, List.getElem?_cons_succ] at d2 d3
          clear hbw hW hb hV
          subst hG
          simp only [putAll]
          generalize hR : Res _ _ vs w1' = R
          go_simp
          subst hR
          exact ⟨rfl, Below.refl _ _⟩
        · cases hj
          clear hj'
          refine .inl ⟨rfl, ?_⟩
          generalize hG : relUpon _ _ _ = G
          have hbw : Below wY.heap.size wY w1' := by rw [hW] at hb; exact ((Below.refl wY.heap.size wY).drew).trans hb
          have q5_ : vs 5 = _ := hV 5 (by decide)
          have HKK := Lib.hid (L2.out.below hbw)
          clear hbw hW hb hV
          subst hG
          simp only [putAll]
          generalize hR : Res _ _ vs w1' = R
          go_simp
          subst hR
          refine (HS2.out w1' _ HKK.out).mono ?_
          rintro e w2 ⟨rfl, hb2⟩
          exact ⟨_, rfl, rfl, hb2⟩
        · cases hj
          clear hj'
          refine .inl ⟨rfl, ?_⟩
          generalize hG : relUpon _ _ _ = G
          have q3_ : vs 3 = _ := hV 3 (by decide)
          have q6_ : vs 6 = _ := hV 6 (by decide)
          clear hV hb hW
          subst hG
          simp only [putAll]
          generalize hR : Res _ _ vs w1' = R
          go_simp
          subst hR
          exact ⟨rfl, Below.refl _ _⟩
        · cases hj
          clear hj'
          refine .inl ⟨rfl, ?_⟩
          generalize hG : relUpon _ _ _ = G
          have q7_ : vs 7 = _ := hV 7 (by decide)
          clear hV hb hW
          subst hG
          simp only [putAll]
          generalize hR : Res _ _ vs w1' = R
          go_simp
          subst hR
          exact ⟨rfl, Below.refl _ _⟩
      case hQ =>
        intro W hW vs w2 hb hV hD
        have hbw : Below wY.heap.size wY w2 := by rw [hW] at hb; exact ((Below.refl wY.heap.size wY).drew).trans hb
        have e0_ : vs 0 = _ := hV 0 (by simp)
        have e1_ : vs 1 = _ := hV 1 (by simp)
        have e2_ : vs 2 = _ := hV 2 (by simp)
        have e3_ : vs 3 = _ := hV 3 (by simp)
        have e4_ : vs 4 = _ := hV 4 (by simp)
        have e5_ : vs 5 = _ := hV 5 (by simp)
        have e6_ : vs 6 = _ := hV 6 (by simp)
        have e7_ : vs 7 = _ := hV 7 (by simp)
        have e8_ : vs 8 = _ := hV 8 (by simp)
        have hfin := HBE.out.trans (hbw.mono HSY.out)
        have HFIN := Lib.hid hfin
        clear hV hD hb hW hbw hfin
        generalize hKK : Exit.then _ _ = KK
        simp only [putAll, e0_, e1_, e2_, e3_, e4_, e5_, e6_, e7_, e8_]
        go_simp
        subst hKK
        clear e0_ e1_ e2_ e3_ e4_ e5_ e6_ e7_ e8_
        go_wp2_with fail
        go_ret
        rw [HH.out]
        exact ⟨rfl, HFIN.out⟩
end Go.Proofs.YtmhmkhdgpfhnfaaGreatDoor.Ref
