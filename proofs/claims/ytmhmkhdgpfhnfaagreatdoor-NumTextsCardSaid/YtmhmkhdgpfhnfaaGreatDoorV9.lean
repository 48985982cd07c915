/- NumTexts. -/
import Derived.Test.YtmhmkhdgpfhnfaaGreatDoorV8
set_option linter.unusedVariables false
set_option linter.unusedSimpArgs false
set_option linter.unnecessarySimpa false
namespace Go.Proofs.YtmhmkhdgpfhnfaaGreatDoor.Ref
open Go.RowKit Go.Lib

theorem itoa_nat (d : Nat) : itoa ((d : Nat) : Int) = decDigits d := by
  unfold itoa
  rw [if_neg (by omega), Int.toNat_natCast]
theorem cut_len (s t : ByteArray) (h : s.extract 0 (min (s.size : Int) 41001).toNat = t) : t.size ≤ 41001 := by
  rw [← h, ByteArray.size_extract]
  have : (min (s.size : Int) 41001) ≤ 41001 := Int.min_le_right _ _
  have : 0 ≤ min (s.size : Int) 41001 := by omega
  omega
theorem ba_back (t : ByteArray) : (⟨t.data.toList.toArray⟩ : ByteArray) = t := by
  apply ByteArray.ext
  simp
set_option maxRecDepth 100000 in
set_option maxHeartbeats 4000000 in
theorem lawTexts (s : ByteArray) (w : World) (hT : TabW w) :
    Calls Tryz.prog 3 #[.string s] w fun e w' => e = .returned (.bool true) ∧ Below w.heap.size w w' := by
  have HT := Lib.hid hT
  clear hT
  go_enter Tryz.func3, Tryz.ntmps3
  go_upto_region 2 with (fail)
  obtain ⟨t, ht⟩ : ∃ t, s.extract 0 (min (s.size : Int) 41001).toNat = t := ⟨_, rfl⟩
  have hlen := cut_len s t ht
  rw [ht]
  generalize min (s.size : Int) 41001 = mi at *
  obtain ⟨r, hr⟩ : ∃ r, pq t.data.toList = r := ⟨_, rfl⟩
  have HPP := Lib.hid (fun W => progParse_go t W)
  have HPQ := Lib.hid (fun W => parseQ_go t W (by omega))
  rw [hr] at HPP HPQ
  have HR := Lib.hid hr
  clear hlen ht hr
  by_cases h0 : r.1 = 0
  · obtain ⟨d, hd1, hd2, hd3, hd4, hd5⟩ := read_back t.data.toList r HR.out h0
    rw [ba_back] at hd3
    obtain ⟨r1, n, r3⟩ := r
    simp only at h0 hd1 hd3 hd4
    subst h0
    subst hd1
    have HF := Lib.hid hd3
    have HD := Lib.hid hd2
    have HL1 := Lib.hid hd4
    have HL2 := Lib.hid hd5
    clear hd2 hd3 hd4 hd5 HR
    go_wp2_with fail
    refine (HPP.out w).mono ?_
    rintro e w1 ⟨v, hb, he⟩
    rw [if_pos rfl] at he
    obtain ⟨rfl, hv⟩ := he
    rw [Int.toNat_natCast] at hv
    simp only at hv
    obtain ⟨b, p, k, c, q, m, x, rfl, hx1, hx2, hx3⟩ := hv.form
    clear hx1 hx2 hx3
    have HB1 := Lib.hid hb
    have ha1 := (Below.refl w1.heap.size w1).alloc (Nat.le_refl _) (.cells #[.bool b, .slice p k c, .slice q m x] 27)
    have hrow := row_new 27 w1 #[.bool b, .slice p k c, .slice q m x]
    have HA1 := Lib.hid (HB1.out.trans (ha1.mono HB1.out.size))
    have HV := Lib.hid (hv.below ha1)
    have HROW := Lib.hid hrow
    have HLT := Lib.hid hrow.lt
    clear hb ha1 hrow HPP hv
    go_upto_region 3 with (fail)
    generalize w1.alloc (.cells #[.bool b, .slice p k c, .slice q m x] 27) = w2 at *
    generalize w1.heap.size = h1 at *
    go_wp2_with fail
    refine (HPQ.out w2).mono ?_
    rintro e w3 ⟨v, hb, he⟩
    rw [if_pos rfl] at he
    obtain ⟨rfl, hv⟩ := he
    simp only at hv
    obtain ⟨b1, p1, n1, c1, b2, p2, n2, c2, rfl, hz1, hz2⟩ := hv.form
    have hrow3 := HROW.out.below hb HLT.out
    have HB3 := Lib.hid (HA1.out.trans (hb.mono HA1.out.size))
    have ha3 := (Below.refl w3.heap.size w3).alloc (Nat.le_refl _) (.cells #[.bool b1, .slice p1 n1 c1, .bool b2, .slice p2 n2 c2] 36)
    have HB4 := Lib.hid (HB3.out.trans (ha3.mono HB3.out.size))
    have hrow4 := hrow3.below ha3 hrow3.lt
    have K1 := Lib.hid ((HV.out.below hb).below ha3)
    have K2 := Lib.hid (hv.below ha3)
    have KZ1 := Lib.hid (hz1.below ha3)
    have KZ2 := Lib.hid (hz2.below ha3)
    have HR4 := Lib.hid hrow4
    have HR5 := Lib.hid (row_new 36 w3 #[.bool b1, .slice p1 n1 c1, .bool b2, .slice p2 n2 c2])
    have c0 := hrow4.cell 0
    have c1_ := hrow4.cell 1
    have c2_ := hrow4.cell 2
    simp only [List.getElem?_cons_zero, List.getElem?_cons_succ] at c0 c1_ c2_
    clear hb ha3 hrow3 hrow4 HPQ HROW HLT hv hz1 hz2 HV
    go_upto_region 6 with (fail)
    generalize w3.alloc (.cells #[.bool b1, .slice p1 n1 c1, .bool b2, .slice p2 n2 c2] 36) = w4 at *
    generalize w3.heap.size = h3 at *
    have HT4 := Lib.hid (TabW.below HT.out HB4.out)
    obtain ⟨S1, hS1⟩ : ∃ S : ByteArray, ⟨(itoa n).toArray⟩ = S := ⟨_, rfl⟩
    obtain ⟨S2, hS2⟩ : ∃ S : ByteArray, ⟨(decDigits d).toArray⟩ = S := ⟨_, rfl⟩
    have HPA := Lib.hid (fun W v h hT => parts_any v n d W h HL1.out HL2.out hT)
    have HST := Lib.hid (fun W v h hT => ratString_any v n d W h HL1.out HL2.out hT)
    have HZ1 := Lib.hid (fun W v h => string_go n v W h HL1.out)
    have HZ2 := Lib.hid (fun W v h => string_go (d : Int) v W h (by rw [Int.natAbs_natCast]; exact HL2.out))
    rw [itoa_nat] at HZ2
    rw [hS1] at HPA HZ1
    rw [hS2] at HPA HZ2
    rw [HF.out] at HST
    clear hS1 hS2
    go_wp2_with fail
    refine (HPA.out w4 _ K1.out HT4.out).mono ?_
    rintro e wX ⟨rfl, hb⟩
    replace K1 := Lib.hid (K1.out.below hb)
    replace K2 := Lib.hid (K2.out.below hb)
    replace KZ1 := Lib.hid (KZ1.out.below hb)
    replace KZ2 := Lib.hid (KZ2.out.below hb)
    have HBX := Lib.hid (HB4.out.trans (hb.mono HB4.out.size))
    have KT := Lib.hid (TabW.below HT.out HBX.out)
    have X1 := Lib.hid (HR4.out.below hb HR4.out.lt)
    have X2 := Lib.hid (HR5.out.below hb HR5.out.lt)
    clear hb HPA HR4 HR5 HB4 HT4 c0 c1_ c2_ HB3 HA1 HB1
    go_upto_region 7 with (fail)
    refine wp_region_rel (by kernel_rfl) 74 rfl (by kernel_rfl) [.fix (.int .i64 0), .fix (.bool true), .fix (.bool true), .fix (.agg #[.bool b, .slice p k c, .slice q m x]), .fix (.string t), .fix (.string t), .fix (.bool true), .fix (.bool true), .fix (.bool true), .fix (.string S1), .fix (.pointer (some ⟨h3, 0, none⟩)), .fix (.agg #[.bool b1, .slice p1 n1 c1]), .fix (.string S1), .fix (.bool true), .fix (.bool true), .fix (.bool true), .fix (.string S2), .fix (.pointer (some ⟨h3, 2, none⟩)), .fix (.agg #[.bool b2, .slice p2 n2 c2]), .fix (.string S2), .fix (.bool true), .fix (.bool true), .fix (.bool true), .fix (.agg #[.bool b, .slice p k c, .slice q m x]), .fix (.int .i64 (Int.sign n)), .fix (.agg #[.bool b1, .slice p1 n1 c1, .bool b2, .slice p2 n2 c2]), .fix (.int .i64 (Int.sign n)), .fix (.bool true), .fix (.bool true), .fix (.bool true), .fix (.bool true), .fix (.bool true), .fix (.bool true)] rfl (stays_fix rfl) ?hop ?hQ
    case hop =>
      intro W hW j o hj vs w1' hb hV
      have hj' : j < 33 := (List.getElem?_eq_some_iff.1 hj).1
      rcases (by omega : j = 0 ∨ j = 1 ∨ j = 2 ∨ j = 3 ∨ j = 4 ∨ j = 5 ∨ j = 6 ∨ j = 7 ∨ j = 8 ∨ j = 9 ∨ j = 10 ∨ j = 11 ∨ j = 12 ∨ j = 13 ∨ j = 14 ∨ j = 15 ∨ j = 16 ∨ j = 17 ∨ j = 18 ∨ j = 19 ∨ j = 20 ∨ j = 21 ∨ j = 22 ∨ j = 23 ∨ j = 24 ∨ j = 25 ∨ j = 26 ∨ j = 27 ∨ j = 28 ∨ j = 29 ∨ j = 30 ∨ j = 31 ∨ j = 32) with rfl | rfl | rfl | rfl | rfl | rfl | rfl | rfl | rfl | rfl | rfl | rfl | rfl | rfl | rfl | rfl | rfl | rfl | rfl | rfl | rfl | rfl | rfl | rfl | rfl | rfl | rfl | rfl | rfl | rfl | rfl | rfl | rfl
      · cases hj
        clear hj'
        refine .inl ⟨rfl, ?_⟩
        generalize hG : relUpon _ _ _ = G
        clear hV hb hW
        subst hG
        simp only [putAll]
        generalize hR : Res _ _ vs w1' = R
        go_simp
        subst hR
        exact ⟨rfl, Below.refl _ _⟩
      · cases hj
        clear hj'
        refine .inl ⟨rfl, ?_⟩
        generalize hG : relUpon _ _ _ = G
        have q0_ : vs 0 = _ := hV 0 (by decide)
        clear hV hb hW
        subst hG
        simp only [putAll]
        generalize hR : Res _ _ vs w1' = R
        go_simp
        subst hR
        exact ⟨rfl, Below.refl _ _⟩
      · cases hj
        clear hj'
        refine .inl ⟨rfl, ?_⟩
        generalize hG : relUpon _ _ _ = G
        have q1_ : vs 1 = _ := hV 1 (by decide)
        clear hV hb hW
        subst hG
        simp only [putAll]
        generalize hR : Res _ _ vs w1' = R
        go_simp
        subst hR
        exact ⟨rfl, Below.refl _ _⟩
      · cases hj
        clear hj'
        refine .inl ⟨rfl, ?_⟩
        generalize hG : relUpon _ _ _ = G
        have hbw : Below wX.heap.size wX w1' := by rw [hW] at hb; exact ((Below.refl wX.heap.size wX).drew).trans hb
        have d0 := (X1.out.below hbw X1.out.lt).cell 0
        have d1 := (X1.out.below hbw X1.out.lt).cell 1
        have d2 := (X1.out.below hbw X1.out.lt).cell 2
        simp only [List.getElem?_cons_zero, List.getElem?_cons_succ] at d0 d1 d2
        clear hbw hW hb hV
        subst hG
        simp only [putAll]
        generalize hR : Res _ _ vs w1' = R
        go_simp
        subst hR
        exact ⟨rfl, Below.refl _ _⟩
      · cases hj
        clear hj'
        refine .inl ⟨rfl, ?_⟩
        generalize hG : relUpon _ _ _ = G
        have hbw : Below wX.heap.size wX w1' := by rw [hW] at hb; exact ((Below.refl wX.heap.size wX).drew).trans hb
        have q3_ : vs 3 = _ := hV 3 (by decide)
        have HKK := Lib.hid (K1.out.below hbw)
        have HTT := Lib.hid (TabW.below KT.out hbw)
        clear hbw hW hb hV
        subst hG
        simp only [putAll]
        generalize hR : Res _ _ vs w1' = R
        go_simp
        subst hR
        refine (HST.out w1' _ HKK.out HTT.out).mono ?_
        rintro e w2 ⟨rfl, hb2⟩
        exact ⟨_, rfl, rfl, hb2⟩
      · cases hj
        clear hj'
        refine .inl ⟨rfl, ?_⟩
        generalize hG : relUpon _ _ _ = G
        clear hV hb hW
        subst hG
        simp only [putAll]
        generalize hR : Res _ _ vs w1' = R
        go_simp
        subst hR
        exact ⟨rfl, Below.refl _ _⟩
      · cases hj
        clear hj'
        refine .inl ⟨rfl, ?_⟩
        generalize hG : relUpon _ _ _ = G
        have q4_ : vs 4 = _ := hV 4 (by decide)
        have q5_ : vs 5 = _ := hV 5 (by decide)
        clear hV hb hW
        subst hG
        simp only [putAll]
        generalize hR : Res _ _ vs w1' = R
        go_simp
        subst hR
        exact ⟨rfl, Below.refl _ _⟩
      · cases hj
        clear hj'
        refine .inl ⟨rfl, ?_⟩
        generalize hG : relUpon _ _ _ = G
        have q2_ : vs 2 = _ := hV 2 (by decide)
        have q6_ : vs 6 = _ := hV 6 (by decide)
        clear hV hb hW
        subst hG
        simp only [putAll]
        generalize hR : Res _ _ vs w1' = R
        go_simp
        subst hR
        exact ⟨rfl, Below.refl _ _⟩
      · cases hj
        clear hj'
        refine .inl ⟨rfl, ?_⟩
        generalize hG : relUpon _ _ _ = G
        have q7_ : vs 7 = _ := hV 7 (by decide)
        clear hV hb hW
        subst hG
        simp only [putAll]
        generalize hR : Res _ _ vs w1' = R
        go_simp
        subst hR
        exact ⟨rfl, Below.refl _ _⟩
      · cases hj
        clear hj'
        refine .inl ⟨rfl, ?_⟩
        generalize hG : relUpon _ _ _ = G
        clear hV hb hW
        subst hG
        simp only [putAll]
        generalize hR : Res _ _ vs w1' = R
        go_simp
        subst hR
        exact ⟨rfl, Below.refl _ _⟩
      · cases hj
        clear hj'
        refine .inl ⟨rfl, ?_⟩
        generalize hG : relUpon _ _ _ = G
        clear hV hb hW
        subst hG
        simp only [putAll]
        generalize hR : Res _ _ vs w1' = R
        go_simp
        subst hR
        exact ⟨rfl, Below.refl _ _⟩
      · cases hj
        clear hj'
        refine .inl ⟨rfl, ?_⟩
        generalize hG : relUpon _ _ _ = G
        have hbw : Below wX.heap.size wX w1' := by rw [hW] at hb; exact ((Below.refl wX.heap.size wX).drew).trans hb
        have q10_ : vs 10 = _ := hV 10 (by decide)
        have d0 := (X2.out.below hbw X2.out.lt).cell 0
        have d1 := (X2.out.below hbw X2.out.lt).cell 1
        simp only [List.getElem?_cons_zero, List.getElem?_cons_succ] at d0 d1
        clear hbw hW hb hV
        subst hG
        simp only [putAll]
        generalize hR : Res _ _ vs w1' = R
        go_simp
        subst hR
        exact ⟨rfl, Below.refl _ _⟩
      · cases hj
        clear hj'
        refine .inl ⟨rfl, ?_⟩
        generalize hG : relUpon _ _ _ = G
        have hbw : Below wX.heap.size wX w1' := by rw [hW] at hb; exact ((Below.refl wX.heap.size wX).drew).trans hb
        have q11_ : vs 11 = _ := hV 11 (by decide)
        have HKK := Lib.hid (KZ1.out.below hbw)
        clear hbw hW hb hV
        subst hG
        simp only [putAll]
        generalize hR : Res _ _ vs w1' = R
        go_simp
        subst hR
        refine (HZ1.out w1' _ HKK.out).mono ?_
        rintro e w2 ⟨rfl, hb2⟩
        exact ⟨_, rfl, rfl, hb2⟩
      · cases hj
        clear hj'
        refine .inl ⟨rfl, ?_⟩
        generalize hG : relUpon _ _ _ = G
        have q9_ : vs 9 = _ := hV 9 (by decide)
        have q12_ : vs 12 = _ := hV 12 (by decide)
        clear hV hb hW
        subst hG
        simp only [putAll]
        generalize hR : Res _ _ vs w1' = R
        go_simp
        subst hR
        exact ⟨rfl, Below.refl _ _⟩
      · cases hj
        clear hj'
        refine .inl ⟨rfl, ?_⟩
        generalize hG : relUpon _ _ _ = G
        have q8_ : vs 8 = _ := hV 8 (by decide)
        have q13_ : vs 13 = _ := hV 13 (by decide)
        clear hV hb hW
        subst hG
        simp only [putAll]
        generalize hR : Res _ _ vs w1' = R
        go_simp
        subst hR
        exact ⟨rfl, Below.refl _ _⟩
      · cases hj
        clear hj'
        refine .inl ⟨rfl, ?_⟩
        generalize hG : relUpon _ _ _ = G
        have q14_ : vs 14 = _ := hV 14 (by decide)
        clear hV hb hW
        subst hG
        simp only [putAll]
        generalize hR : Res _ _ vs w1' = R
        go_simp
        subst hR
        exact ⟨rfl, Below.refl _ _⟩
      · cases hj
        clear hj'
        refine .inl ⟨rfl, ?_⟩
        generalize hG : relUpon _ _ _ = G
        clear hV hb hW
        subst hG
        simp only [putAll]
        generalize hR : Res _ _ vs w1' = R
        go_simp
        subst hR
        exact ⟨rfl, Below.refl _ _⟩
      · cases hj
        clear hj'
        refine .inl ⟨rfl, ?_⟩
        generalize hG : relUpon _ _ _ = G
        clear hV hb hW
        subst hG
        simp only [putAll]
        generalize hR : Res _ _ vs w1' = R
        go_simp
        subst hR
        exact ⟨rfl, Below.refl _ _⟩
      · cases hj
        clear hj'
        refine .inl ⟨rfl, ?_⟩
        generalize hG : relUpon _ _ _ = G
        have hbw : Below wX.heap.size wX w1' := by rw [hW] at hb; exact ((Below.refl wX.heap.size wX).drew).trans hb
        have q17_ : vs 17 = _ := hV 17 (by decide)
        have d2 := (X2.out.below hbw X2.out.lt).cell 2
        have d3 := (X2.out.below hbw X2.out.lt).cell 3
        simp only [List.getElem?_cons_zero, List.getElem?_cons_succ] at d2 d3
        clear hbw hW hb hV
        subst hG
        simp only [putAll]
        generalize hR : Res _ _ vs w1' = R
        go_simp
        subst hR
        exact ⟨rfl, Below.refl _ _⟩
      · cases hj
        clear hj'
        refine .inl ⟨rfl, ?_⟩
        generalize hG : relUpon _ _ _ = G
        have hbw : Below wX.heap.size wX w1' := by rw [hW] at hb; exact ((Below.refl wX.heap.size wX).drew).trans hb
        have q18_ : vs 18 = _ := hV 18 (by decide)
        have HKK := Lib.hid (KZ2.out.below hbw)
        clear hbw hW hb hV
        subst hG
        simp only [putAll]
        generalize hR : Res _ _ vs w1' = R
        go_simp
        subst hR
        refine (HZ2.out w1' _ HKK.out).mono ?_
        rintro e w2 ⟨rfl, hb2⟩
        exact ⟨_, rfl, rfl, hb2⟩
      · cases hj
        clear hj'
        refine .inl ⟨rfl, ?_⟩
        generalize hG : relUpon _ _ _ = G
        have q16_ : vs 16 = _ := hV 16 (by decide)
        have q19_ : vs 19 = _ := hV 19 (by decide)
        clear hV hb hW
        subst hG
        simp only [putAll]
        generalize hR : Res _ _ vs w1' = R
        go_simp
        subst hR
        exact ⟨rfl, Below.refl _ _⟩
      · cases hj
        clear hj'
        refine .inl ⟨rfl, ?_⟩
        generalize hG : relUpon _ _ _ = G
        have q15_ : vs 15 = _ := hV 15 (by decide)
        have q20_ : vs 20 = _ := hV 20 (by decide)
        clear hV hb hW
        subst hG
        simp only [putAll]
        generalize hR : Res _ _ vs w1' = R
        go_simp
        subst hR
        exact ⟨rfl, Below.refl _ _⟩
      · cases hj
        clear hj'
        refine .inl ⟨rfl, ?_⟩
        generalize hG : relUpon _ _ _ = G
        have q21_ : vs 21 = _ := hV 21 (by decide)
        clear hV hb hW
        subst hG
        simp only [putAll]
        generalize hR : Res _ _ vs w1' = R
        go_simp
        subst hR
        exact ⟨rfl, Below.refl _ _⟩
      · cases hj
        clear hj'
        refine .inl ⟨rfl, ?_⟩
        generalize hG : relUpon _ _ _ = G
        have hbw : Below wX.heap.size wX w1' := by rw [hW] at hb; exact ((Below.refl wX.heap.size wX).drew).trans hb
        have d0 := (X1.out.below hbw X1.out.lt).cell 0
        have d1 := (X1.out.below hbw X1.out.lt).cell 1
        have d2 := (X1.out.below hbw X1.out.lt).cell 2
        simp only [List.getElem?_cons_zero, List.getElem?_cons_succ] at d0 d1 d2
        clear hbw hW hb hV
        subst hG
        simp only [putAll]
        generalize hR : Res _ _ vs w1' = R
        go_simp
        subst hR
        exact ⟨rfl, Below.refl _ _⟩
      · cases hj
        clear hj'
        refine .inl ⟨rfl, ?_⟩
        generalize hG : relUpon _ _ _ = G
        have hbw : Below wX.heap.size wX w1' := by rw [hW] at hb; exact ((Below.refl wX.heap.size wX).drew).trans hb
        have q23_ : vs 23 = _ := hV 23 (by decide)
        have HKK := Lib.hid (K1.out.below hbw)
        clear hbw hW hb hV
        subst hG
        simp only [putAll]
        generalize hR : Res _ _ vs w1' = R
        go_simp
        subst hR
        refine (ratSign_any _ n d w1' HKK.out).mono ?_
        rintro e w2 ⟨rfl, hb2⟩
        exact ⟨_, rfl, rfl, hb2⟩
      · cases hj
        clear hj'
        refine .inl ⟨rfl, ?_⟩
        generalize hG : relUpon _ _ _ = G
        have hbw : Below wX.heap.size wX w1' := by rw [hW] at hb; exact ((Below.refl wX.heap.size wX).drew).trans hb
        have d0 := (X2.out.below hbw X2.out.lt).cell 0
        have d1 := (X2.out.below hbw X2.out.lt).cell 1
        have d2 := (X2.out.below hbw X2.out.lt).cell 2
        have d3 := (X2.out.below hbw X2.out.lt).cell 3
        simp only [List.getElem?_cons_zero, List.getElem?_cons_succ] at d0 d1 d2 d3
        clear hbw hW hb hV
        subst hG
        simp only [putAll]
        generalize hR : Res _ _ vs w1' = R
        go_simp
        subst hR
        exact ⟨rfl, Below.refl _ _⟩
      · cases hj
        clear hj'
        refine .inl ⟨rfl, ?_⟩
        generalize hG : relUpon _ _ _ = G
        have hbw : Below wX.heap.size wX w1' := by rw [hW] at hb; exact ((Below.refl wX.heap.size wX).drew).trans hb
        have q25_ : vs 25 = _ := hV 25 (by decide)
        have HKK := Lib.hid (K2.out.below hbw)
        clear hbw hW hb hV
        subst hG
        simp only [putAll]
        generalize hR : Res _ _ vs w1' = R
        go_simp
        subst hR
        refine (sgn_go _ n d w1' HKK.out).mono ?_
        rintro e w2 ⟨rfl, hb2⟩
        exact ⟨_, rfl, rfl, hb2⟩
      · cases hj
        clear hj'
        refine .inl ⟨rfl, ?_⟩
        generalize hG : relUpon _ _ _ = G
        have q24_ : vs 24 = _ := hV 24 (by decide)
        have q26_ : vs 26 = _ := hV 26 (by decide)
        clear hV hb hW
        subst hG
        simp only [putAll]
        generalize hR : Res _ _ vs w1' = R
        go_simp
        subst hR
        exact ⟨rfl, Below.refl _ _⟩
      · cases hj
        clear hj'
        refine .inl ⟨rfl, ?_⟩
        generalize hG : relUpon _ _ _ = G
        have q22_ : vs 22 = _ := hV 22 (by decide)
        have q27_ : vs 27 = _ := hV 27 (by decide)
        clear hV hb hW
        subst hG
        simp only [putAll]
        generalize hR : Res _ _ vs w1' = R
        go_simp
        subst hR
        exact ⟨rfl, Below.refl _ _⟩
      · cases hj
        clear hj'
        refine .inl ⟨rfl, ?_⟩
        generalize hG : relUpon _ _ _ = G
        have q28_ : vs 28 = _ := hV 28 (by decide)
        clear hV hb hW
        subst hG
        simp only [putAll]
        generalize hR : Res _ _ vs w1' = R
        go_simp
        subst hR
        exact ⟨rfl, Below.refl _ _⟩
      · cases hj
        clear hj'
        refine .inl ⟨rfl, ?_⟩
        generalize hG : relUpon _ _ _ = G
        clear hW hb hV
        subst hG
        simp only [putAll]
        generalize hR : Res _ _ vs w1' = R
        go_simp
        subst hR
        refine (awake_spec w1').mono ?_
        rintro e w2 ⟨rfl, hb2⟩
        exact ⟨_, rfl, rfl, hb2⟩
      · cases hj
        clear hj'
        refine .inl ⟨rfl, ?_⟩
        generalize hG : relUpon _ _ _ = G
        have q29_ : vs 29 = _ := hV 29 (by decide)
        have q30_ : vs 30 = _ := hV 30 (by decide)
        clear hV hb hW
        subst hG
        simp only [putAll]
        generalize hR : Res _ _ vs w1' = R
        go_simp
        subst hR
        exact ⟨rfl, Below.refl _ _⟩
      · cases hj
        clear hj'
        refine .inl ⟨rfl, ?_⟩
        generalize hG : relUpon _ _ _ = G
        have q31_ : vs 31 = _ := hV 31 (by decide)
        clear hV hb hW
        subst hG
        simp only [putAll]
        generalize hR : Res _ _ vs w1' = R
        go_simp
        subst hR
        exact ⟨rfl, Below.refl _ _⟩
    case hQ =>
      intro W hW vs w2 hb hV hD
      have hbw : Below wX.heap.size wX w2 := by rw [hW] at hb; exact ((Below.refl wX.heap.size wX).drew).trans hb
      have e0_ : vs 0 = _ := hV 0 (by simp)
      have e1_ : vs 1 = _ := hV 1 (by simp)
      have e2_ : vs 2 = _ := hV 2 (by simp)
      have e3_ : vs 3 = _ := hV 3 (by simp)
      have e4_ : vs 4 = _ := hV 4 (by simp)
      have e5_ : vs 5 = _ := hV 5 (by simp)
      have e6_ : vs 6 = _ := hV 6 (by simp)
      have e7_ : vs 7 = _ := hV 7 (by simp)
      have e8_ : vs 8 = _ := hV 8 (by simp)
      have e9_ : vs 9 = _ := hV 9 (by simp)
      have e10_ : vs 10 = _ := hV 10 (by simp)
      have e11_ : vs 11 = _ := hV 11 (by simp)
      have e12_ : vs 12 = _ := hV 12 (by simp)
      have e13_ : vs 13 = _ := hV 13 (by simp)
      have e14_ : vs 14 = _ := hV 14 (by simp)
      have e15_ : vs 15 = _ := hV 15 (by simp)
      have e16_ : vs 16 = _ := hV 16 (by simp)
      have e17_ : vs 17 = _ := hV 17 (by simp)
      have e18_ : vs 18 = _ := hV 18 (by simp)
      have e19_ : vs 19 = _ := hV 19 (by simp)
      have e20_ : vs 20 = _ := hV 20 (by simp)
      have e21_ : vs 21 = _ := hV 21 (by simp)
      have e22_ : vs 22 = _ := hV 22 (by simp)
      have e23_ : vs 23 = _ := hV 23 (by simp)
      have e24_ : vs 24 = _ := hV 24 (by simp)
      have e25_ : vs 25 = _ := hV 25 (by simp)
      have e26_ : vs 26 = _ := hV 26 (by simp)
      have e27_ : vs 27 = _ := hV 27 (by simp)
      have e28_ : vs 28 = _ := hV 28 (by simp)
      have e29_ : vs 29 = _ := hV 29 (by simp)
      have e30_ : vs 30 = _ := hV 30 (by simp)
      have e31_ : vs 31 = _ := hV 31 (by simp)
      have e32_ : vs 32 = _ := hV 32 (by simp)
      have HFIN := Lib.hid (HBX.out.trans (hbw.mono HBX.out.size))
      clear hV hD hb hW hbw HST HZ1 HZ2
      generalize hKK : Exit.then _ _ = KK
      simp only [putAll, e0_, e1_, e2_, e3_, e4_, e5_, e6_, e7_, e8_, e9_, e10_, e11_, e12_, e13_, e14_, e15_, e16_, e17_, e18_, e19_, e20_, e21_, e22_, e23_, e24_, e25_, e26_, e27_, e28_, e29_, e30_, e31_, e32_]
      go_simp
      subst hKK
      clear e0_ e1_ e2_ e3_ e4_ e5_ e6_ e7_ e8_ e9_ e10_ e11_ e12_ e13_ e14_ e15_ e16_ e17_ e18_ e19_ e20_ e21_ e22_ e23_ e24_ e25_ e26_ e27_ e28_ e29_ e30_ e31_ e32_
      go_wp2_with fail
      go_ret
      exact ⟨rfl, HFIN.out⟩
  · have gk : ¬ (((r.1 : Nat) : Int) = 0) := by omega
    have HK := Lib.hid h0
    clear h0
    go_wp2_with fail
    refine (HPP.out w).mono ?_
    rintro e w1 ⟨v, hb, he⟩
    rw [if_neg HK.out] at he
    subst he
    have HB1 := Lib.hid hb
    have ha1 := (Below.refl w1.heap.size w1).alloc (Nat.le_refl _) (.cells #[.bool false, .slice none 0 0, .slice none 0 0] 27)
    have hrow := row_new 27 w1 #[.bool false, .slice none 0 0, .slice none 0 0]
    have HA1 := Lib.hid (HB1.out.trans (ha1.mono HB1.out.size))
    have HROW := Lib.hid hrow
    have HLT := Lib.hid hrow.lt
    clear hb ha1 hrow HPP HR
    go_upto_region 3 with (fail)
    generalize w1.alloc (.cells #[.bool false, .slice none 0 0, .slice none 0 0] 27) = w2 at *
    generalize w1.heap.size = h1 at *
    go_wp2_with fail
    refine (HPQ.out w2).mono ?_
    rintro e w3 ⟨v, hb, he⟩
    rw [if_neg HK.out] at he
    subst he
    have hrow3 := HROW.out.below hb HLT.out
    have HB3 := Lib.hid (HA1.out.trans (hb.mono HA1.out.size))
    have ha3 := (Below.refl w3.heap.size w3).alloc (Nat.le_refl _) (.cells #[.bool false, .slice none 0 0, .bool false, .slice none 0 0] 36)
    have HB4 := Lib.hid (HB3.out.trans (ha3.mono HB3.out.size))
    have hrow4 := hrow3.below ha3 hrow3.lt
    have HT4 := Lib.hid (TabW.below HT.out HB4.out)
    have c0 := hrow4.cell 0
    have c1 := hrow4.cell 1
    have c2 := hrow4.cell 2
    simp only [List.getElem?_cons_zero, List.getElem?_cons_succ] at c0 c1 c2
    clear hb ha3 hrow3 hrow4 HPQ HROW HLT
    go_upto_region 5 with (fail)
    generalize w3.alloc (.cells #[.bool false, .slice none 0 0, .bool false, .slice none 0 0] 36) = w4 at *
    generalize w3.heap.size = h3 at *
    go_wp2_with fail
    refine (ratString_any _ 0 1 _ (rt_zero _) (by rw [show (0 : Int).natAbs = 0 from rfl, limbs_zero]; exact Nat.zero_le _) (by rw [limbs_one]; decide) HT4.out).mono ?_
    rw [formB_zero]
    rintro e w5 ⟨rfl, hb⟩
    have HB5 := Lib.hid (HB4.out.trans (hb.mono HB4.out.size))
    clear hb c0 c1 c2
    go_wp2_with fail
    refine (awake_spec w5).mono ?_
    rintro e w6 ⟨rfl, hb⟩
    have HB6 := Lib.hid (HB5.out.trans (hb.mono HB5.out.size))
    clear hb
    go_wp2_with fail
    go_ret
    exact ⟨rfl, HB6.out⟩
end Go.Proofs.YtmhmkhdgpfhnfaaGreatDoor.Ref
