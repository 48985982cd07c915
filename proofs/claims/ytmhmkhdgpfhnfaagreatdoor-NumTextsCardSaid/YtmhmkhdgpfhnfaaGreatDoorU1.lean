/- The reference's AddN. -/
import Derived.Test.YtmhmkhdgpfhnfaaGreatDoorRD
set_option linter.unusedVariables false
set_option linter.unusedSimpArgs false
set_option linter.unnecessarySimpa false
namespace Go.Proofs.YtmhmkhdgpfhnfaaGreatDoor.Ref
open Go.RowKit

/-- limbs without a zero at the top are those of their value -/
theorem limbs_of {O : List Nat} (hlo : Lo O) (h : O = [] ∨ 1000000000 ^ (O.length - 1) ≤ val O) : O = limbs (val O) := by
  rw [← trimL_eq O hlo]
  rcases h with h | h
  · subst h; rfl
  · by_cases h0 : O = []
    · subst h0; rfl
    · obtain ⟨P, d, rfl⟩ : ∃ P d, O = P ++ [d] := ⟨O.dropLast, O.getLast h0, (List.dropLast_concat_getLast h0).symm⟩
      rw [trimL_snoc]
      by_cases hd : d = 0
      · exfalso
        subst hd
        have h1 := val_lt P hlo.left
        rw [val_append] at h
        simp only [val, Nat.mul_zero, Nat.add_zero, List.length_append, List.length_singleton, Nat.add_sub_cancel] at h
        omega
      · rw [if_neg hd]
/-- where the loop of AddN stands -/
structure AdI (la lb : List Nat) (B : Nat) (w : World) (i c : Nat) (O : List Nat) (ov : Value) (wr : World) : Prop where
  own : Own 3 B wr ov (ints (nl O))
  len : O.length = i
  lo : Lo O
  val : val O + 1000000000 ^ i * c = val (la.take i) + val (lb.take i)
  c1 : c ≤ 1
  far : (i ≤ la.length ∨ i ≤ lb.length) ∨ (la.length < i ∧ lb.length < i ∧ i ≤ la.length + lb.length + 1 ∧ c = 0 ∧ 1000000000 ^ (i - 1) ≤ Go.Proofs.YtmhmkhdgpfhnfaaGreatDoor.val O)
  bel : Below B w wr
theorem ad_arith (P o x y c d e s : Nat) (h : o + P * c = x + y) (hs : s = c + d + e) : (o + P * (s % 1000000000)) + P * 1000000000 * (s / 1000000000) = (x + P * d) + (y + P * e) := by
  have e1 : s % 1000000000 + 1000000000 * (s / 1000000000) = c + d + e := by rw [← hs]; exact Nat.mod_add_div _ _
  grind
theorem AdI.next {la lb : List Nat} {B i c : Nat} {w wr w' : World} {O : List Nat} {ov ov' : Value} (h : AdI la lb B w i c O ov wr) (hla : Lo la) (hlb : Lo lb) (s : Nat) (hs : s = c + la.getD i 0 + lb.getD i 0) (hgo : (i < la.length ∨ i < lb.length) ∨ 0 < c)
    (ho : Own 3 B w' ov' (ints (nl O) ++ [.int .i64 ((s % 1000000000 : Nat) : Int)])) (hb : Below B w w') : AdI la lb B w (i + 1) (s / 1000000000) (O ++ [s % 1000000000]) ov' w' := by
  have hd := hla.getD i
  have he := hlb.getD i
  have hc := h.c1
  refine ⟨?_, by simp [h.len], LoS h.lo (Nat.mod_lt _ (by omega)), ?_, by omega, ?_, hb⟩
  · rw [nl_append, ints_append]; exact ho
  · rw [val_snocN, h.len, Nat.pow_succ, take_any la i, take_any lb i]
    exact ad_arith _ _ _ _ _ _ _ _ h.val hs
  · rcases hgo with h1 | h1
    · left; omega
    · by_cases h2 : i < la.length ∨ i < lb.length
      · left; omega
      · right
        have h3 : la.getD i 0 = 0 := by rw [List.getD_eq_getElem?_getD, List.getElem?_eq_none (by omega)]; rfl
        have h4 : lb.getD i 0 = 0 := by rw [List.getD_eq_getElem?_getD, List.getElem?_eq_none (by omega)]; rfl
        rw [h3, h4] at hs
        have h5 : i ≤ la.length ∨ i ≤ lb.length := by
          rcases h.far with h | h
          · exact h
          · omega
        refine ⟨by omega, by omega, by omega, by omega, ?_⟩
        rw [val_snocN, h.len, Nat.add_sub_cancel, show s % 1000000000 = 1 by omega]
        omega
theorem AdI.done {a b B i : Nat} {w wr : World} {O : List Nat} {ov : Value} (h : AdI (limbs a) (limbs b) B w i 0 O ov wr) (h1 : (limbs a).length ≤ i) (h2 : (limbs b).length ≤ i) : O = limbs (a + b) := by
  have hv := h.val
  rw [Nat.mul_zero, Nat.add_zero, List.take_of_length_le h1, List.take_of_length_le h2, val_limbs, val_limbs] at hv
  rw [← hv]
  refine limbs_of h.lo ?_
  by_cases h0 : i = 0
  · left
    exact List.length_eq_zero_iff.1 (by rw [h.len, h0])
  · right
    rw [h.len]
    rcases h.far with hf | hf
    · rw [hv]
      rcases (by omega : (limbs a).length = i ∨ (limbs b).length = i) with e | e
      · have ha : a ≠ 0 := fun e0 => by rw [e0, limbs_zero] at e; simp at e; omega
        have := limbs_lower a ha
        rw [e] at this
        omega
      · have hb : b ≠ 0 := fun e0 => by rw [e0, limbs_zero] at e; simp at e; omega
        have := limbs_lower b hb
        rw [e] at this
        omega
    · exact hf.2.2.2.2
set_option maxRecDepth 100000 in
set_option maxHeartbeats 4000000 in
theorem addN_go (va vb : Value) (a b : Nat) (w : World) (ha : LbA w va (limbs a)) (hb : LbA w vb (limbs b)) (hl : (limbs a).length ≤ 400000) (hl' : (limbs b).length ≤ 400000) :
    Calls Tryz.prog 141 #[va, vb] w (OutN w (limbs (a + b))) := by
  obtain ⟨pa, ca, rfl, hca1, hca2⟩ := ha.form_
  obtain ⟨pb, cb, rfl, hcb1, hcb2⟩ := hb.form_
  have HA := Lib.hid ha
  have HB := Lib.hid hb
  obtain ⟨na, hna⟩ : ∃ n, (limbs a).length = n := ⟨_, rfl⟩
  obtain ⟨nb, hnb⟩ : ∃ n, (limbs b).length = n := ⟨_, rfl⟩
  have HNA := Lib.hid hna
  have HNB := Lib.hid hnb
  rw [hna] at hl hca1 ⊢
  rw [hnb] at hl' hcb1 ⊢
  obtain ⟨B, hB⟩ : ∃ B, w.heap.size = B := ⟨_, rfl⟩
  have HBB := Lib.hid hB
  clear ha hb hna hnb hB
  go_enter Tryz.func141, Tryz.ntmps141
  go_wp2_with fail
  go_loopg [5, 6, 7] ((na + nb) * 2) (fun k ov cv iv wr => ∃ (i c : Nat) (O : List Nat), iv = .int .i64 (i : Nat) ∧ cv = .int .i64 (c : Nat) ∧ k = (na + nb - i) * 2 + c ∧ i ≤ na + nb + 1 ∧ AdI (limbs a) (limbs b) B w i c O ov wr)
  case atStart => exact ⟨0, 0, [], rfl, rfl, by simp, by omega, ⟨World.ownsRow_nil _ _ _ _, rfl, (fun d hd => by cases hd), by simp [val], by omega, .inl (.inl (Nat.zero_le _)), by rw [← HBB.out]; exact Below.refl _ _⟩⟩
  case round =>
    obtain ⟨i, c, O, rfl, rfl, hk, hi2, hI⟩ := hrel
    have HI := Lib.hid hI
    have HBS := Lib.hid (show B ≤ wr.heap.size by have := hI.bel.size; have := HBB.out; omega)
    have hc1 := hI.c1
    have HOL := Lib.hid (show (ints (nl O)).length ≤ 1000000 by rw [ints_length, nl_length, hI.len]; omega)
    have gwi : IntKind.i64.wrap ((i : Int) + 1) = (i : Int) + 1 := by rw [show (i : Int) + 1 = ((i + 1 : Nat) : Int) by omega]; exact IntWalk.i64_in _ (by omega)
    have HK := Lib.hid hk
    clear hI hk
    by_cases hlta : i < na
    · by_cases hltb : i < nb
      ·
        obtain ⟨ada, capa, hva, hl1a, hl2a, hada, hcella⟩ := HA.out.at_ i (by rw [HNA.out]; exact hlta)
        injection hva with e1a e2a e3a
        subst e1a
        subst e3a
        have hcaw : wr.cell? (ada.add i) = some (.int .i64 ((limbs a).getD i 0 : Nat)) := (HI.out.bel.cell (p := ada.add i) (by rw [block_add, ← HBB.out]; exact hada)).trans hcella
        have ha9 := getD_lo (Lo_limbs a) i
        have gal : (i : Int) < (na : Int) := by omega
        obtain ⟨adb, capb, hvb, hl1b, hl2b, hadb, hcellb⟩ := HB.out.at_ i (by rw [HNB.out]; exact hltb)
        injection hvb with e1b e2b e3b
        subst e1b
        subst e3b
        have hcbw : wr.cell? (adb.add i) = some (.int .i64 ((limbs b).getD i 0 : Nat)) := (HI.out.bel.cell (p := adb.add i) (by rw [block_add, ← HBB.out]; exact hadb)).trans hcellb
        have hb9 := getD_lo (Lo_limbs b) i
        have gbl : (i : Int) < (nb : Int) := by omega
        obtain ⟨da, hda⟩ : ∃ d, (limbs a).getD i 0 = d := ⟨_, rfl⟩
        rw [hda] at hcaw ha9
        obtain ⟨db, hdb⟩ : ∃ d, (limbs b).getD i 0 = d := ⟨_, rfl⟩
        rw [hdb] at hcbw hb9
        obtain ⟨s, hs⟩ : ∃ s, c + da + db = s := ⟨_, rfl⟩
        obtain ⟨t, ht⟩ : ∃ t, c + da = t := ⟨_, rfl⟩
        have gt : (c : Int) + (da : Int) = (t : Int) := by omega
        have gwt : IntKind.i64.wrap (t : Int) = (t : Int) := IntWalk.i64_in _ (by omega)
        have gs : (t : Int) + (db : Int) = (s : Int) := by omega
        have gws : IntKind.i64.wrap (s : Int) = (s : Int) := IntWalk.i64_in _ (by omega)
        have HS : Hid (s = c + (limbs a).getD i 0 + (limbs b).getD i 0) := by show _ = _; rw [hda, hdb, hs]
        have HGO : Hid ((i < (limbs a).length ∨ i < (limbs b).length) ∨ 0 < c) := by show (_ ∨ _) ∨ _; rw [HNA.out, HNB.out]; omega
        have grem : (s : Int).tmod 1000000000 = ((s % 1000000000 : Nat) : Int) := by rw [show s = s by omega]; exact tmodN s 1000000000
        have gquo : (s : Int).tdiv 1000000000 = ((s / 1000000000 : Nat) : Int) := by rw [show s = s by omega]; exact tdivN s 1000000000
        obtain ⟨r, hr⟩ : ∃ r, s % 1000000000 = r := ⟨_, rfl⟩
        obtain ⟨q, hq⟩ : ∃ q, s / 1000000000 = q := ⟨_, rfl⟩
        rw [hr] at grem
        rw [hq] at gquo
        have hr9 : r < 1000000000 := by omega
        have hq9 : q ≤ 1 := by omega
        have HRQ := Lib.hid (And.intro hr hq)
        have HQM : Hid (c = 0 ∧ i < na + nb ∨ (q < c ∨ i < na + nb)) := by show _ ∨ (_ ∨ _); omega
        clear hr hq hda hdb hs hcella hl1a hl2a e2a hada hcellb hl1b hl2b e2b hadb ht hlta hltb
        go_wp2_with (first | (at_builtin; refine wpList_append_box wr rfl (.tmp 44) (.tmp 47) 32 rfl 3 (.int .i64 0) 8 undN infoI rfl (by omega) B u5 (ints (nl O)) rfl HI.out.own (.int .i64 (r : Int)) rfl rfl HOL.out HBS.out ?_; intro v2 w2 hown2 hb2 hrest; have HO2 := Lib.hid hown2; have HB2 := Lib.hid hb2; clear hown2 hb2 hrest))
        go_roundg ((na + nb - (i + 1)) * 2 + q)
        case measure => rw [HK.out]; have := HQM.out; omega
        case rel =>
          have hn := HI.out.next (Lo_limbs a) (Lo_limbs b) s HS.out HGO.out (ov' := v2) (w' := w2) (by rw [HRQ.out.1]; exact HO2.out) (HI.out.bel.trans HB2.out)
          rw [HRQ.out.1, HRQ.out.2] at hn
          refine ⟨i + 1, q, O ++ [r], by go_num, by go_num, rfl, ?_, hn⟩
          rcases hn.far with h | h
          · rw [HNA.out, HNB.out] at h; omega
          · have := h.2.2.1; rw [HNA.out, HNB.out] at this; exact this
      ·
        obtain ⟨ada, capa, hva, hl1a, hl2a, hada, hcella⟩ := HA.out.at_ i (by rw [HNA.out]; exact hlta)
        injection hva with e1a e2a e3a
        subst e1a
        subst e3a
        have hcaw : wr.cell? (ada.add i) = some (.int .i64 ((limbs a).getD i 0 : Nat)) := (HI.out.bel.cell (p := ada.add i) (by rw [block_add, ← HBB.out]; exact hada)).trans hcella
        have ha9 := getD_lo (Lo_limbs a) i
        have gal : (i : Int) < (na : Int) := by omega
        have gbl : ¬ ((i : Int) < (nb : Int)) := by omega
        have hb0 : (limbs b).getD i 0 = 0 := by rw [List.getD_eq_getElem?_getD, List.getElem?_eq_none (by rw [HNB.out]; omega)]; rfl
        obtain ⟨da, hda⟩ : ∃ d, (limbs a).getD i 0 = d := ⟨_, rfl⟩
        rw [hda] at hcaw ha9
        obtain ⟨db, hdb⟩ : ∃ d, (limbs b).getD i 0 = d := ⟨_, rfl⟩
        rw [hdb] at hb0
        obtain ⟨s, hs⟩ : ∃ s, c + da + db = s := ⟨_, rfl⟩
        have gs : (c : Int) + (da : Int) = (s : Int) := by omega
        have gws : IntKind.i64.wrap (s : Int) = (s : Int) := IntWalk.i64_in _ (by omega)
        have HS : Hid (s = c + (limbs a).getD i 0 + (limbs b).getD i 0) := by show _ = _; rw [hda, hdb, hs]
        have HGO : Hid ((i < (limbs a).length ∨ i < (limbs b).length) ∨ 0 < c) := by show (_ ∨ _) ∨ _; rw [HNA.out, HNB.out]; omega
        have grem : (s : Int).tmod 1000000000 = ((s % 1000000000 : Nat) : Int) := by rw [show s = s by omega]; exact tmodN s 1000000000
        have gquo : (s : Int).tdiv 1000000000 = ((s / 1000000000 : Nat) : Int) := by rw [show s = s by omega]; exact tdivN s 1000000000
        obtain ⟨r, hr⟩ : ∃ r, s % 1000000000 = r := ⟨_, rfl⟩
        obtain ⟨q, hq⟩ : ∃ q, s / 1000000000 = q := ⟨_, rfl⟩
        rw [hr] at grem
        rw [hq] at gquo
        have hr9 : r < 1000000000 := by omega
        have hq9 : q ≤ 1 := by omega
        have HRQ := Lib.hid (And.intro hr hq)
        have HQM : Hid (c = 0 ∧ i < na + nb ∨ (q < c ∨ i < na + nb)) := by show _ ∨ (_ ∨ _); omega
        clear hr hq hda hdb hs hcella hl1a hl2a e2a hada hb0 hlta hltb
        go_wp2_with (first | (at_builtin; refine wpList_append_box wr rfl (.tmp 44) (.tmp 47) 32 rfl 3 (.int .i64 0) 8 undN infoI rfl (by omega) B u5 (ints (nl O)) rfl HI.out.own (.int .i64 (r : Int)) rfl rfl HOL.out HBS.out ?_; intro v2 w2 hown2 hb2 hrest; have HO2 := Lib.hid hown2; have HB2 := Lib.hid hb2; clear hown2 hb2 hrest))
        go_roundg ((na + nb - (i + 1)) * 2 + q)
        case measure => rw [HK.out]; have := HQM.out; omega
        case rel =>
          have hn := HI.out.next (Lo_limbs a) (Lo_limbs b) s HS.out HGO.out (ov' := v2) (w' := w2) (by rw [HRQ.out.1]; exact HO2.out) (HI.out.bel.trans HB2.out)
          rw [HRQ.out.1, HRQ.out.2] at hn
          refine ⟨i + 1, q, O ++ [r], by go_num, by go_num, rfl, ?_, hn⟩
          rcases hn.far with h | h
          · rw [HNA.out, HNB.out] at h; omega
          · have := h.2.2.1; rw [HNA.out, HNB.out] at this; exact this
    · by_cases hltb : i < nb
      ·
        have gal : ¬ ((i : Int) < (na : Int)) := by omega
        have ha0 : (limbs a).getD i 0 = 0 := by rw [List.getD_eq_getElem?_getD, List.getElem?_eq_none (by rw [HNA.out]; omega)]; rfl
        obtain ⟨adb, capb, hvb, hl1b, hl2b, hadb, hcellb⟩ := HB.out.at_ i (by rw [HNB.out]; exact hltb)
        injection hvb with e1b e2b e3b
        subst e1b
        subst e3b
        have hcbw : wr.cell? (adb.add i) = some (.int .i64 ((limbs b).getD i 0 : Nat)) := (HI.out.bel.cell (p := adb.add i) (by rw [block_add, ← HBB.out]; exact hadb)).trans hcellb
        have hb9 := getD_lo (Lo_limbs b) i
        have gbl : (i : Int) < (nb : Int) := by omega
        obtain ⟨da, hda⟩ : ∃ d, (limbs a).getD i 0 = d := ⟨_, rfl⟩
        rw [hda] at ha0
        obtain ⟨db, hdb⟩ : ∃ d, (limbs b).getD i 0 = d := ⟨_, rfl⟩
        rw [hdb] at hcbw hb9
        obtain ⟨s, hs⟩ : ∃ s, c + da + db = s := ⟨_, rfl⟩
        have gs : (c : Int) + (db : Int) = (s : Int) := by omega
        have gws : IntKind.i64.wrap (s : Int) = (s : Int) := IntWalk.i64_in _ (by omega)
        have HS : Hid (s = c + (limbs a).getD i 0 + (limbs b).getD i 0) := by show _ = _; rw [hda, hdb, hs]
        have HGO : Hid ((i < (limbs a).length ∨ i < (limbs b).length) ∨ 0 < c) := by show (_ ∨ _) ∨ _; rw [HNA.out, HNB.out]; omega
        have grem : (s : Int).tmod 1000000000 = ((s % 1000000000 : Nat) : Int) := by rw [show s = s by omega]; exact tmodN s 1000000000
        have gquo : (s : Int).tdiv 1000000000 = ((s / 1000000000 : Nat) : Int) := by rw [show s = s by omega]; exact tdivN s 1000000000
        obtain ⟨r, hr⟩ : ∃ r, s % 1000000000 = r := ⟨_, rfl⟩
        obtain ⟨q, hq⟩ : ∃ q, s / 1000000000 = q := ⟨_, rfl⟩
        rw [hr] at grem
        rw [hq] at gquo
        have hr9 : r < 1000000000 := by omega
        have hq9 : q ≤ 1 := by omega
        have HRQ := Lib.hid (And.intro hr hq)
        have HQM : Hid (c = 0 ∧ i < na + nb ∨ (q < c ∨ i < na + nb)) := by show _ ∨ (_ ∨ _); omega
        clear hr hq hda hdb hs hcellb hl1b hl2b e2b hadb ha0 hlta hltb
        go_wp2_with (first | (at_builtin; refine wpList_append_box wr rfl (.tmp 44) (.tmp 47) 32 rfl 3 (.int .i64 0) 8 undN infoI rfl (by omega) B u5 (ints (nl O)) rfl HI.out.own (.int .i64 (r : Int)) rfl rfl HOL.out HBS.out ?_; intro v2 w2 hown2 hb2 hrest; have HO2 := Lib.hid hown2; have HB2 := Lib.hid hb2; clear hown2 hb2 hrest))
        go_roundg ((na + nb - (i + 1)) * 2 + q)
        case measure => rw [HK.out]; have := HQM.out; omega
        case rel =>
          have hn := HI.out.next (Lo_limbs a) (Lo_limbs b) s HS.out HGO.out (ov' := v2) (w' := w2) (by rw [HRQ.out.1]; exact HO2.out) (HI.out.bel.trans HB2.out)
          rw [HRQ.out.1, HRQ.out.2] at hn
          refine ⟨i + 1, q, O ++ [r], by go_num, by go_num, rfl, ?_, hn⟩
          rcases hn.far with h | h
          · rw [HNA.out, HNB.out] at h; omega
          · have := h.2.2.1; rw [HNA.out, HNB.out] at this; exact this
      · by_cases hc0 : 0 < c
        ·
          have gal : ¬ ((i : Int) < (na : Int)) := by omega
          have ha0 : (limbs a).getD i 0 = 0 := by rw [List.getD_eq_getElem?_getD, List.getElem?_eq_none (by rw [HNA.out]; omega)]; rfl
          have gbl : ¬ ((i : Int) < (nb : Int)) := by omega
          have hb0 : (limbs b).getD i 0 = 0 := by rw [List.getD_eq_getElem?_getD, List.getElem?_eq_none (by rw [HNB.out]; omega)]; rfl
          obtain ⟨da, hda⟩ : ∃ d, (limbs a).getD i 0 = d := ⟨_, rfl⟩
          rw [hda] at ha0
          obtain ⟨db, hdb⟩ : ∃ d, (limbs b).getD i 0 = d := ⟨_, rfl⟩
          rw [hdb] at hb0
          obtain ⟨s, hs⟩ : ∃ s, c + da + db = s := ⟨_, rfl⟩
          have gc0 : (0 : Int) < (c : Int) := by omega
          have hsc : s = c := by omega
          have HS : Hid (s = c + (limbs a).getD i 0 + (limbs b).getD i 0) := by show _ = _; rw [hda, hdb, hs]
          have HGO : Hid ((i < (limbs a).length ∨ i < (limbs b).length) ∨ 0 < c) := by show (_ ∨ _) ∨ _; rw [HNA.out, HNB.out]; omega
          have grem : (c : Int).tmod 1000000000 = ((s % 1000000000 : Nat) : Int) := by rw [show s = c by omega]; exact tmodN c 1000000000
          have gquo : (c : Int).tdiv 1000000000 = ((s / 1000000000 : Nat) : Int) := by rw [show s = c by omega]; exact tdivN c 1000000000
          obtain ⟨r, hr⟩ : ∃ r, s % 1000000000 = r := ⟨_, rfl⟩
          obtain ⟨q, hq⟩ : ∃ q, s / 1000000000 = q := ⟨_, rfl⟩
          rw [hr] at grem
          rw [hq] at gquo
          have hr9 : r < 1000000000 := by omega
          have hq9 : q ≤ 1 := by omega
          have HRQ := Lib.hid (And.intro hr hq)
          have HQM : Hid (c = 0 ∧ i < na + nb ∨ (q < c ∨ i < na + nb)) := by show _ ∨ (_ ∨ _); omega
          clear hr hq hda hdb hs hsc ha0 hb0 hlta hltb
          go_wp2_with (first | (at_builtin; refine wpList_append_box wr rfl (.tmp 44) (.tmp 47) 32 rfl 3 (.int .i64 0) 8 undN infoI rfl (by omega) B u5 (ints (nl O)) rfl HI.out.own (.int .i64 (r : Int)) rfl rfl HOL.out HBS.out ?_; intro v2 w2 hown2 hb2 hrest; have HO2 := Lib.hid hown2; have HB2 := Lib.hid hb2; clear hown2 hb2 hrest))
          go_roundg ((na + nb - (i + 1)) * 2 + q)
          case measure => rw [HK.out]; have := HQM.out; omega
          case rel =>
            have hn := HI.out.next (Lo_limbs a) (Lo_limbs b) s HS.out HGO.out (ov' := v2) (w' := w2) (by rw [HRQ.out.1]; exact HO2.out) (HI.out.bel.trans HB2.out)
            rw [HRQ.out.1, HRQ.out.2] at hn
            refine ⟨i + 1, q, O ++ [r], by go_num, by go_num, rfl, ?_, hn⟩
            rcases hn.far with h | h
            · rw [HNA.out, HNB.out] at h; omega
            · have := h.2.2.1; rw [HNA.out, HNB.out] at this; exact this
        · obtain rfl : c = 0 := by omega
          have gal : ¬ ((i : Int) < (na : Int)) := by omega
          have gbl : ¬ ((i : Int) < (nb : Int)) := by omega
          have hO := HI.out.done (by rw [HNA.out]; omega) (by rw [HNB.out]; omega)
          have HV : Hid (LbA wr u5 (limbs (a + b))) := by rw [← hO]; exact HI.out.own.sl.toA
          have HBE := Lib.hid HI.out.bel
          clear hO hlta hltb hc0
          go_wp2_with fail
          go_ret
          exact ⟨_, rfl, HV.out, by rw [HBB.out]; exact HBE.out⟩
end Go.Proofs.YtmhmkhdgpfhnfaaGreatDoor.Ref
