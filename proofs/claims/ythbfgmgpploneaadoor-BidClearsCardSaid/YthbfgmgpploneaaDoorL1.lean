import Derived.Test.YthbfgmgpploneaaDoorS1
set_option linter.unusedVariables false
set_option linter.unusedSimpArgs false
set_option linter.unnecessarySimpa false
namespace Go.Proofs.YthbfgmgpploneaaDoor
open Go.RowKit

theorem few_aw : Few [[0, 5], [0, 8], [0, 3]] ∧ Few [[3, 1], [2, 2]] := by
  refine ⟨⟨by simp, fun i => ?_⟩, ⟨by simp, fun i => ?_⟩⟩
  all_goals
    rcases i with _ | _ | _ | i
    all_goals
      refine ⟨by simp, fun j => ?_⟩
      rcases j with _ | _ | j <;> simp
theorem in64_aw : In64 [5, 8, 3] := fun j => by rcases j with _ | _ | _ | j <;> simp
theorem i64_lit : I64 0 ∧ I64 1 ∧ I64 2 := by refine ⟨⟨?_, ?_⟩, ⟨?_, ?_⟩, ⟨?_, ?_⟩⟩ <;> decide
theorem aw1 (S : Awake) (v : Value) (W : World) (h : Mat W v [[0, 5], [0, 8], [0, 3]]) : Calls Tryd.prog 17 #[.int .i64 1, v] W fun e w' =>
    ∃ b o c, e = .returned (.tuple #[.int .i64 8, .slice (some ⟨b, o, none⟩) 3 c, .int .i64 0]) ∧ w'.cell? ⟨b, o + 1, none⟩ = some (.int .i64 1) ∧ b < w'.heap.size ∧ Below W.heap.size W w' :=
  (S.best v 1 _ W h i64_lit.2.1 few_aw.1).mono fun e w' ⟨v', he, hs, hb⟩ => by
    rw [aw_best] at he hs
    rw [aw_check] at he
    obtain ⟨b, o, c, rfl, _, _, hbl, hc⟩ := hs.int_at 1 (by decide)
    exact ⟨b, o, c, he, hc, hbl, hb⟩
theorem aw2 (S : Awake) (v : Value) (W : World) (h : Mat W v [[0, 5], [0, 8], [0, 3]]) : Calls Tryd.prog 18 #[.int .i64 1, v] W fun e w' =>
    ∃ b o c, e = .returned (.tuple #[.slice (some ⟨b, o, none⟩) 3 c, .int .i64 0]) ∧ w'.cell? ⟨b, o + 1, none⟩ = some (.int .i64 5) ∧ b < w'.heap.size ∧ Below W.heap.size W w' :=
  (S.pay v 1 _ W h i64_lit.2.1 few_aw.1).mono fun e w' ⟨v', he, hs, hb⟩ => by
    rw [aw_pay] at hs
    rw [aw_check] at he
    obtain ⟨b, o, c, rfl, _, _, hbl, hc⟩ := hs.int_at 1 (by decide)
    exact ⟨b, o, c, he, hc, hbl, hb⟩
theorem aw3 (S : Awake) (v : Value) (W : World) (h : Sl W v (ints [5, 8, 3])) : Calls Tryd.prog 42 #[v] W fun e w' =>
    e = .returned (.tuple #[.int .i64 1, .int .i64 5, .int .i64 0]) ∧ Below W.heap.size W w' :=
  (S.second v _ W h in64_aw (by decide)).mono fun e w' ⟨he, hb⟩ => by
    rw [aw_second.1, aw_second.2] at he
    exact ⟨he, hb⟩
theorem aw4 (S : Awake) (v : Value) (W : World) (h : Mat W v [[3, 1], [2, 2]]) : Calls Tryd.prog 40 #[.int .i64 2, v] W fun e w' =>
    ∃ p c, e = .returned (.tuple #[.slice p 2 c, .int .i64 0]) ∧ Mat w' (.slice p 2 c) [[0, 3, 1, 3], [0, 2, 2, 2]] ∧ Below W.heap.size W w' :=
  (S.single v 2 _ W h i64_lit.2.2 few_aw.2).mono fun e w' ⟨v', he, hs, hb⟩ => by
    rw [aw_single.1] at hs
    rw [aw_single.2] at he
    obtain ⟨p, c, rfl, _, _⟩ := hs.form_
    exact ⟨p, c, he, hs, hb⟩
theorem aw5 (S : Awake) (v : Value) (W : World) (h : Mat W v [[0, 3, 1, 3], [0, 2, 2, 2]]) : Calls Tryd.prog 21 #[.int .i64 2, v] W fun e w' =>
    ∃ b o c, e = .returned (.tuple #[.slice (some ⟨b, o, none⟩) 2 c, .int .i64 0]) ∧ w'.cell? ⟨b, o, none⟩ = some (.int .i64 0) ∧ w'.cell? ⟨b, o + 1, none⟩ = some (.int .i64 0) ∧ b < w'.heap.size ∧ Below W.heap.size W w' :=
  (S.prices v W h).mono fun e w' ⟨v', he, hs, hb⟩ => by
    obtain ⟨b, o, c, rfl, _, _, hbl, hc⟩ := hs.int_at 1 (by decide)
    obtain ⟨b2, o2, c2, hv, _, _, _, hc2⟩ := hs.int_at 0 (by decide)
    cases hv
    exact ⟨b, o, c, he, hc2, hc, hbl, hb⟩
theorem aw6 (S : Awake) (v : Value) (W : World) (h : Mat W v [[0, 5], [0, 8], [0, 3]]) : Calls Tryd.prog 15 #[.int .i64 0, v] W fun e w' =>
    e = .returned (.int .i64 1) ∧ Below W.heap.size W w' :=
  (S.check v 0 _ W h i64_lit.1 few_aw.1).mono fun e w' ⟨he, hb⟩ => by
    rw [aw_check0] at he
    exact ⟨he, hb⟩
set_option maxRecDepth 100000 in
set_option maxHeartbeats 4000000 in
theorem awake_any (S : Awake) (w : World) : Calls Tryd.prog 16 #[] w fun e w' => e = .returned (.bool true) ∧ Below w.heap.size w w' := by
  go_enter Tryd.func16, Tryd.ntmps16
  go_wp2_with fail
  obtain ⟨hm, hb⟩ := built3 w 2 31 [0, 5] [0, 8] [0, 3] (by simp) (by simp) (by simp)
  refine (aw1 S _ _ hm).mono ?_
  have HB := Lib.hid hb
  have HM := Lib.hid hm
  clear hb hm
  rintro e w1 ⟨b1, o1, c1, rfl, hc1, hl1, hb1⟩
  have HM1 := Lib.hid (HM.out.below hb1)
  have HB1 := Lib.hid (HB.out.trans (hb1.mono HB.out.size))
  clear HB HM hb1
  go_wp2_with fail
  refine (aw2 S _ _ HM1.out).mono ?_
  rintro e w2 ⟨b2, o2, c2, rfl, hc2, hl2, hb2⟩
  have HM2 := Lib.hid (HM1.out.below hb2)
  have HB2 := Lib.hid (HB1.out.trans (hb2.mono HB1.out.size))
  have HC1 := Lib.hid ((hb2.cell (p := ⟨b1, o1 + 1, none⟩) hl1).trans hc1)
  have HL1 := Lib.hid (Nat.lt_of_lt_of_le hl1 hb2.size)
  have HC2 := Lib.hid hc2
  have HL2 := Lib.hid hl2
  clear HM1 HB1 hc1 hl1 hc2 hl2 hb2
  go_wp2_with fail
  refine (aw3 S _ _ (Sl.of_row (xs := ints [5, 8, 3]) (more := []) (cap := 3) (row_new 2 w2 #[.int .i64 5, .int .i64 8, .int .i64 3]) (by decide) (by unfold maxLen; omega))).mono ?_
  rintro e w3 ⟨rfl, hb3⟩
  have HB3 : Hid (Below w2.heap.size w2 w3) := ((Below.refl _ _).alloc (Nat.le_refl _) _).trans (hb3.mono (by simp))
  clear hb3
  go_wp2_with fail
  obtain ⟨hm4, hb4⟩ := built2 w3 2 31 [3, 1] [2, 2] (by simp) (by simp)
  refine (aw4 S _ _ hm4).mono ?_
  have HB4 := Lib.hid hb4
  clear hm4 hb4
  rintro e w4 ⟨p4, c4, rfl, hm4, hb5⟩
  have HM4 := Lib.hid hm4
  have HB5 : Hid (Below w2.heap.size w2 w4) := HB3.out.trans ((HB4.out.trans (hb5.mono HB4.out.size)).mono HB3.out.size)
  clear hm4 hb5 HB4 HB3
  go_wp2_with fail
  refine (aw5 S _ _ HM4.out).mono ?_
  rintro e w5 ⟨b5, o5, c5, rfl, hc5, hd5, hl5, hb6⟩
  have HB6 : Hid (Below w2.heap.size w2 w5) := HB5.out.trans (hb6.mono HB5.out.size)
  have hc1 := (HB6.out.cell (p := ⟨b1, o1 + 1, none⟩) HL1.out).trans HC1.out
  have hc2 := (HB6.out.cell (p := ⟨b2, o2 + 1, none⟩) HL2.out).trans HC2.out
  have HM6 := Lib.hid (HM2.out.below HB6.out)
  have HB7 := Lib.hid (HB2.out.trans (HB6.out.mono HB2.out.size))
  clear hb6 HB5 HB6 HM4 HM2 HC1 HC2 HL1 HL2
  go_wp2_with fail
  refine (aw6 S _ _ HM6.out).mono ?_
  rintro e w6 ⟨rfl, hb8⟩
  have HB8 := Lib.hid (HB7.out.trans (hb8.mono HB7.out.size))
  clear hb8
  go_wp2
  go_ret
  exact ⟨rfl, HB8.out⟩
end Go.Proofs.YthbfgmgpploneaaDoor
