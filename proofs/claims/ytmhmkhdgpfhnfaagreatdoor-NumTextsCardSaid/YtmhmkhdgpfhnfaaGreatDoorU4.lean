/- The reference's Parse: an integer of its canonical form. -/
import Derived.Test.YtmhmkhdgpfhnfaaGreatDoorU3
import Derived.Test.YtmhmkhdgpfhnfaaGreatDoorNums
set_option linter.unusedVariables false
set_option linter.unusedSimpArgs false
set_option linter.unnecessarySimpa false
namespace Go.Proofs.YtmhmkhdgpfhnfaaGreatDoor.Ref
open Go.RowKit Go.Lib

theorem sz_eq (s : ByteArray) : s.size = s.data.toList.length := (Array.length_toList).symm
theorem ba_at (s : ByteArray) (i : Nat) (h : i < s.size) : s[i] = s.data.toList.getD i 0 := by
  rw [List.getD_eq_getElem?_getD, List.getElem?_eq_getElem (by rw [← sz_eq]; exact h)]
  rfl
theorem ba_tail (s : ByteArray) : (s.extract 1 s.size).data.toList = s.data.toList.drop 1 := by
  rw [ByteArray.data_extract, Array.toList_extract, List.extract_eq_take_drop]
  rw [List.take_of_length_le]
  rw [List.length_drop]
  have := sz_eq s
  omega
/-- digits that are a number's canonical form -/
def okNum (neg : Bool) (m : List UInt8) : Bool := m.all digB && (!m.isEmpty && !(m.head? == some 48 && (decide (1 < m.length) || neg)))
/-- the integer whose canonical form this is -/
def parseZ (l : List UInt8) : Option Int := if l.head? = some 45 then (if okNum true (l.drop 1) = true then some (-(numOf (l.drop 1) : Int)) else none) else if okNum false l = true then some (numOf l : Int) else none
/-- what Parse leaves -/
def ParseOut (w : World) (r : Option Int) (e : Ending) (w' : World) : Prop := ∃ v, Below w.heap.size w w' ∧ match r with
  | some z => e = .returned (.tuple #[v, .bool true]) ∧ Zv w' v z
  | none => e = .returned (.tuple #[.agg #[.bool false, .slice none 0 0], .bool false])
theorem numOf_cons (x : UInt8) (r : List UInt8) : numOf (x :: r) = (x.toNat - 48) * 10 ^ r.length + numOf r := by
  have := numOf_append [x] r
  have e : numOf [x] = x.toNat - 48 := by unfold numOf; simp
  rw [e] at this
  exact this
theorem drop_get (m : List UInt8) (i : Nat) (h : i < m.length) : m.drop i = m.getD i 0 :: m.drop (i + 1) := by
  rw [List.drop_eq_getElem_cons h, List.getD_eq_getElem?_getD, List.getElem?_eq_getElem h]; rfl
/-- where Parse's loop stands: k letters are left -/
structure PaI (m : List UInt8) (B : Nat) (w : World) (k limb e : Nat) (O : List Nat) (ov : Value) (wr : World) : Prop where
  own : Own 3 B wr ov (ints (nl O))
  lo : Lo O
  len : m.length = k + (9 * O.length + e)
  e9 : e < 9
  lim : limb < 10 ^ e
  dig : (m.drop k).all digB = true
  val : Go.Proofs.YtmhmkhdgpfhnfaaGreatDoor.val O + 1000000000 ^ O.length * limb = numOf (m.drop k)
  bel : Below B w wr
theorem pa_arith (V P l t d N j : Nat) (h : V + P * l = N) (hj : j = P * t) : V + P * (l + t * d) = d * j + N := by subst hj; grind
theorem PaI.next {m : List UInt8} {B k limb e : Nat} {w wr : World} {O : List Nat} {ov : Value} (h : PaI m B w (k + 1) limb e O ov wr) (x : Nat) (hx : (m.getD k 0).toNat = 48 + x) (hx9 : x ≤ 9) (he : e < 8) : PaI m B w k (limb + 10 ^ e * x) (e + 1) O ov wr := by
  have hk : k < m.length := by have := h.len; omega
  have hd := drop_get m k hk
  refine ⟨h.own, h.lo, by have := h.len; omega, by omega, ?_, ?_, ?_, h.bel⟩
  · rw [Nat.pow_succ]
    have h1 := h.lim
    have h2 : 10 ^ e * x ≤ 10 ^ e * 9 := Nat.mul_le_mul_left _ hx9
    omega
  · rw [hd, List.all_cons, h.dig, Bool.and_true, digB_iff]; omega
  · rw [hd, numOf_cons, hx, Nat.add_sub_cancel_left]
    refine pa_arith _ _ _ _ _ _ _ h.val ?_
    rw [List.length_drop, show m.length - (k + 1) = 9 * O.length + e by have := h.len; omega, Nat.pow_add, Nat.pow_mul]
theorem PaI.full {m : List UInt8} {B k limb : Nat} {w wr w' : World} {O : List Nat} {ov ov' : Value} (h : PaI m B w (k + 1) limb 8 O ov wr) (x : Nat) (hx : (m.getD k 0).toNat = 48 + x) (hx9 : x ≤ 9) (c : Nat) (hc : limb + 10 ^ 8 * x = c)
    (ho : Own 3 B w' ov' (ints (nl O) ++ [.int .i64 (c : Int)])) (hb : Below B w w') : PaI m B w k 0 0 (O ++ [c]) ov' w' := by
  have hk : k < m.length := by have := h.len; omega
  have hd := drop_get m k hk
  have hl := h.lim
  refine ⟨by rw [nl_append, ints_append]; exact ho, LoS h.lo (by omega), by rw [List.length_append, List.length_singleton]; have := h.len; omega, by omega, by simp, ?_, ?_, hb⟩
  · rw [hd, List.all_cons, h.dig, Bool.and_true, digB_iff]; omega
  · rw [hd, numOf_cons, hx, Nat.add_sub_cancel_left, val_snocN, Nat.mul_zero, Nat.add_zero, ← hc]
    refine pa_arith _ _ _ _ _ _ _ h.val ?_
    rw [List.length_drop, show m.length - (k + 1) = 9 * O.length + 8 by have := h.len; omega, Nat.pow_add, Nat.pow_mul]
theorem all_false {m : List UInt8} {k : Nat} (hk : k < m.length) (h : digB (m.getD k 0) = false) : m.all digB = false := by
  rw [Bool.eq_false_iff]
  intro ha
  rw [List.all_eq_true] at ha
  have := ha (m.getD k 0) (by rw [List.getD_eq_getElem?_getD, List.getElem?_eq_getElem hk]; exact List.getElem_mem hk)
  rw [h] at this
  cases this
theorem digB_not {b : UInt8} (h : ¬ (48 ≤ b.toNat ∧ b.toNat ≤ 57)) : digB b = false := by
  rw [Bool.eq_false_iff]
  intro e
  exact h (digB_iff.1 e)
theorem sgR_num (neg : Bool) (N : Nat) : sgR neg N = decide ((if neg = true then -(N : Int) else (N : Int)) < 0) := by
  cases neg
  · rw [if_neg (by decide), decide_eq_false (by omega)]; rfl
  · rw [if_pos rfl]
    by_cases h : N = 0
    · subst h; rfl
    · rw [sgR_pos h, decide_eq_true (by omega)]
theorem abs_num (neg : Bool) (N : Nat) : (if neg = true then -(N : Int) else (N : Int)).natAbs = N := by
  cases neg
  · rw [if_neg (by decide)]; omega
  · rw [if_pos rfl]; omega
theorem pow8 : ∀ e : Nat, e ≤ 8 → 10 ^ e ≤ 100000000 ∧ 10 ^ e * 9 ≤ 900000000 := by
  intro e h
  have := Nat.pow_le_pow_right (show 0 < 10 by decide) h
  have e8 : 10 ^ 8 = 100000000 := by decide
  omega
set_option maxRecDepth 100000 in
set_option maxHeartbeats 4000000 in
theorem parse_neg (s : ByteArray) (w : World) (hs : s.size ≤ 50000) (h45 : s.data.toList.head? = some 45) :
    Calls Tryz.prog 69 #[.string s] w (ParseOut w (if okNum true (s.data.toList.drop 1) = true then some (if true = true then -(numOf (s.data.toList.drop 1) : Int) else (numOf (s.data.toList.drop 1) : Int)) else none)) := by
  have hs0 : 0 < s.size := by
    rw [sz_eq]
    cases hq : s.data.toList with
    | nil => rw [hq] at h45; cases h45
    | cons a b => simp
  have gs0 : (0 : Int) < (s.size : Int) := by omega
  have h45' : (s[0]'hs0).toNat = 45 := by
    rw [ba_at s 0 hs0]
    cases hq : s.data.toList with
    | nil => rw [hq] at h45; cases h45
    | cons a b => rw [hq] at h45; simp at h45; subst h45; rfl
  have hml := ba_tail s
  obtain ⟨t, ht⟩ : ∃ t, s.extract 1 s.size = t := ⟨_, rfl⟩
  rw [ht] at hml
  rw [← hml]
  have hts : t.size ≤ 50000 := by rw [sz_eq, hml, List.length_drop, ← sz_eq]; omega
  have gs1 : (1 : Int) ≤ (s.size : Int) := by omega
  clear h45 hml
  obtain ⟨m, hm⟩ : ∃ m, t.data.toList = m := ⟨_, rfl⟩
  rw [hm]
  have hn : t.size = m.length := by rw [sz_eq, hm]
  have HM := Lib.hid hm
  have HN := Lib.hid hn
  have hb := (Below.refl w.heap.size w).alloc (Nat.le_refl _) (.cells #[.bool false, .slice none 0 0] 34)
  have hrow := row_new 34 w #[.bool false, .slice none 0 0]
  by_cases hm0 : m = []
  · have hsz : t.size = 0 := by rw [hn, hm0]; rfl
    have gz : t.toList = [] := by rw [ByteArray.toList_eq, hm, hm0]
    have HB := Lib.hid hb
    rw [if_neg (by rw [hm0]; decide)]
    skip
    clear hm hn hb hrow hm0 hsz
    go_enter Tryz.func69, Tryz.ntmps69
    go_wp2_with fail
    refine bodyPost_ret (v := .tuple #[.agg #[.bool false, .slice none 0 0], .bool false]) (by simp [results, Tryz.results69, go_sem]) rfl ⟨.bool false, HB.out, rfl⟩
  · have hsz : 0 < t.size := by rw [hn]; exact List.length_pos_iff.2 hm0
    have gsz : (0 : Int) < (t.size : Int) := by omega
    have gz : ¬ (t.toList = []) := by rw [ByteArray.toList_eq, hm]; exact hm0
    have gze : t.toList.isEmpty = false := by rw [ByteArray.toList_eq, hm]; simpa using hm0
    obtain ⟨x0, hx0⟩ : ∃ x, (m.getD 0 0).toNat = x := ⟨_, rfl⟩
    have g0 : (t[0]'hsz).toNat = x0 := by rw [ba_at t 0 hsz, hm, hx0]
    have hhead : m.head? = some 48 ↔ x0 = 48 := by
      rw [← hx0]
      cases m with
      | nil => exact absurd rfl hm0
      | cons a b =>
        simp only [List.head?_cons, Option.some.injEq, List.getD_cons_zero]
        exact ⟨fun e => by rw [e]; rfl, fun e => UInt8.toNat_inj.1 e⟩
    by_cases hbad : x0 = 48 ∧ (1 < m.length ∨ true = true)
    · rw [if_neg (by
        unfold okNum
        rw [hhead.2 hbad.1]
        have h2 := hbad.2
        simp)]
      obtain ⟨hx48, hbad2⟩ := hbad
      subst hx48
      have HB := Lib.hid hb
      clear hbad2 hm hn hb hrow hhead hx0 hm0
      by_cases h1 : 1 < t.size
      · have g1 : (1 : Int) < (t.size : Int) := by omega
        clear h1
        go_enter Tryz.func69, Tryz.ntmps69
        go_wp2_with fail
        refine bodyPost_ret (v := .tuple #[.agg #[.bool false, .slice none 0 0], .bool false]) (by simp [results, Tryz.results69, go_sem]) rfl ⟨.bool false, HB.out, rfl⟩
      · have g1 : ¬ ((1 : Int) < (t.size : Int)) := by omega
        clear h1
        go_enter Tryz.func69, Tryz.ntmps69
        go_wp2_with fail
        refine bodyPost_ret (v := .tuple #[.agg #[.bool false, .slice none 0 0], .bool false]) (by simp [results, Tryz.results69, go_sem]) rfl ⟨.bool false, HB.out, rfl⟩
    · have HOK : Hid (okNum true m = m.all digB) := by
        show _ = _
        unfold okNum
        have h48 : ¬ x0 = 48 := fun e => hbad ⟨e, .inr rfl⟩
        have h49 : ¬ m.head? = some 48 := fun e => h48 (hhead.1 e)
        have h50 : m.isEmpty = false := by simpa using hm0
        rw [h50, show (m.head? == some 48) = false by simpa using h49]
        simp
      rw [HOK.out]
      have hb' := hb
      have hrow' := hrow
      have hszw : (w.alloc (.cells #[.bool false, .slice none 0 0] 34)).heap.size = w.heap.size + 1 := by simp
      have HM0 := Lib.hid (show 1 ≤ m.length from List.length_pos_iff.2 hm0)
      have HTS := Lib.hid (show m.length ≤ 50000 by rw [← hn]; exact hts)
      have HSZ := Lib.hid hsz
      have h48 : ¬ x0 = 48 := fun e => hbad ⟨e, .inr rfl⟩
      have g48 : ¬ ((x0 : Int) = 48) := by omega
      clear hbad hhead hx0 h48 hm0 hm hn hb hrow
      obtain ⟨Z, hZ⟩ : ∃ Z, (if true = true then -(numOf m : Int) else (numOf m : Int)) = Z := ⟨_, rfl⟩
      have HZZ := Lib.hid (And.intro (show Z.natAbs = numOf m by rw [← hZ]; exact abs_num true (numOf m)) (show sgR true (numOf m) = decide (Z < 0) by rw [← hZ]; exact sgR_num true (numOf m)))
      rw [hZ]
      clear hZ
      obtain ⟨r, hr⟩ : ∃ r, (if m.all digB = true then some Z else none) = r := ⟨_, rfl⟩
      have HR := Lib.hid hr
      rw [hr]
      clear hr
      go_enter Tryz.func69, Tryz.ntmps69
      go_upto_region 6 with (fail)
      generalize w.alloc (.cells #[.bool false, .slice none 0 0] 34) = w1 at *
      obtain ⟨h, hh⟩ : ∃ h, w.heap.size = h := ⟨_, rfl⟩
      have HH := Lib.hid hh
      rw [hh] at hb' hrow' hszw ⊢
      have HBX := Lib.hid hb'
      have HROW := Lib.hid hrow'
      have HS1 := Lib.hid hszw
      clear hb' hrow' hszw hh g0 gz gze
      go_wp2_with fail
      go_loopg [5, 6, 7, 8] m.length (fun k ov lv uv iv wr => ∃ (limb e : Nat) (O : List Nat), iv = .int .i64 ((k : Int) - 1) ∧ lv = .int .i64 (limb : Nat) ∧ uv = .int .i64 ((10 ^ e : Nat) : Int) ∧ k ≤ m.length ∧ PaI m (h + 1) w1 k limb e O ov wr)
      case atStart => exact ⟨0, 0, [], congrArg (Value.int .i64) (by rw [HN.out]), rfl, rfl, Nat.le_refl _, ⟨World.ownsRow_nil _ _ _ _, (fun d hd => by cases hd), by simp, by omega, by simp, by rw [List.drop_length]; rfl, by rw [List.drop_length]; rfl, Below.refl _ _⟩⟩
      case round =>
        obtain ⟨limb, e, O, rfl, rfl, rfl, hk, hI⟩ := hrel
        have HI := Lib.hid hI
        have he9 := hI.e9
        have hlim := hI.lim
        have hp8 := pow8 e (by omega)
        have HOL := Lib.hid (show (ints (nl O)).length ≤ 1000000 by rw [ints_length, nl_length]; have := hI.len; have := HTS.out; omega)
        have HBS := Lib.hid (show h + 1 ≤ wr.heap.size by have := hI.bel.size; rw [HS1.out] at this; exact this)
        obtain ⟨U, hU⟩ : ∃ U, 10 ^ e = U := ⟨_, rfl⟩
        have HU := Lib.hid hU
        rw [hU] at hp8 hlim ⊢
        clear hI hU
        by_cases hk0 : gk = 0
        · subst hk0
          rw [show ((0 : Nat) : Int) - 1 = -1 by omega]
          have hv := HI.out.val
          have hd := HI.out.dig
          rw [List.drop_zero] at hv hd
          have HRV : Hid (r = some Z) := by show _ = _; rw [← HR.out, if_pos hd]
          have HLO := Lib.hid HI.out.lo
          by_cases hl0 : 0 < limb
          · have gl0 : (0 : Int) < (limb : Int) := by omega
            have HV : Hid (val (O ++ [limb]) = numOf m) := by show _ = _; rw [val_snocN]; exact hv
            have HLO2 := Lib.hid (LoS HLO.out (show limb < 1000000000 by omega))
            have HOL2 := Lib.hid (show (O ++ [limb]).length ≤ 1000000 by rw [List.length_append, List.length_singleton]; have := HI.out.len; have := HTS.out; omega)
            clear hv hd hl0
            go_wp2_with (first | (at_builtin; refine wpList_append_box wr rfl (.tmp 73) (.tmp 75) 32 rfl 3 (.int .i64 0) 8 undN infoI rfl (by omega) (h + 1) u5 (ints (nl O)) rfl HI.out.own (.int .i64 (limb : Int)) rfl rfl HOL.out HBS.out ?_; intro v2 w2 hown2 hb2 hrest; have HO2 := Lib.hid hown2; have HB2 := Lib.hid (HI.out.bel.trans hb2); clear hown2 hb2 hrest))
            have hO3 : Own 3 (h + 1) w2 v2 (ints (nl (O ++ [limb]))) := by rw [nl_append, ints_append]; exact HO2.out
            obtain ⟨po, co, hov, _, _⟩ := LbA.form_ (hO3.sl.toA)
            subst hov
            have hT := trim_go _ (O ++ [limb]) w2 hO3.sl.toA HOL2.out
            rw [trimL_eq (O ++ [limb]) HLO2.out, HV.out] at hT
            have HT := Lib.hid hT
            clear hT hO3
            go_wp2_with fail
            refine HT.out.mono ?_
            rintro e w8 ⟨v8, rfl, hw8, hv8⟩
            subst hw8
            obtain ⟨p8, c8, rfl, _, _⟩ := hv8.form_
            have HV8 := Lib.hid hv8
            clear hv8
            go_wp2_with fail
            refine (int_go true _ (numOf m) _ HV8.out).mono ?_
            rintro e w9 ⟨rfl, hb9⟩
            have hb19 := HB2.out.trans (hb9.mono (by have := HB2.out.size; rw [HS1.out] at this; exact this))
            have hr9 := HROW.out.below hb19 (Nat.lt_succ_self h)
            have hl9 := SlA.below HV8.out hb9
            obtain ⟨n8, hn8⟩ : ∃ n, (limbs (numOf m)).length = n := ⟨_, rfl⟩
            rw [hn8] at hl9 ⊢
            obtain ⟨sb, hsb⟩ : ∃ b, sgR true (numOf m) = b := ⟨_, rfl⟩
            have hz : Zv w9 (.agg #[.bool sb, .slice p8 n8 c8]) Z := by
              rw [← hn8]
              exact Zv.mk' HZZ.out.1 (by rw [← hsb]; exact HZZ.out.2) (by rw [hn8]; exact hl9)
            rw [hsb]
            obtain ⟨⟨f1, f2⟩, ⟨f3, f4⟩, f5⟩ := row2 hr9 (.bool sb) (.slice p8 n8 c8)
            have hz2 := hz.put2 hr9 (noInt_bool _) (noInt_slice _ _ _) (.bool sb) (.slice p8 n8 c8)
            have hbe := ((HBX.out.trans (hb19.mono (Nat.le_succ h))).setCell (p := ⟨h, 0, none⟩) (Nat.le_refl h) (.bool sb)).setCell (p := ⟨h, 1, none⟩) (Nat.le_refl h) (.slice p8 n8 c8)
            have HZ := Lib.hid hz2
            have HBE := Lib.hid hbe
            have F5 := Lib.hid f5
            have y0 := F5.out.cell 0
            have y1 := F5.out.cell 1
            simp only [List.getElem?_cons_zero, List.getElem?_cons_succ] at y0 y1
            clear hb9 hb19 hr9 hl9 hn8 hsb hz hz2 hbe f5 HT HV8
            go_wp2_with fail
            refine bodyPost_ret (v := .tuple #[.agg #[.bool sb, .slice p8 n8 c8], .bool true]) (by simp [results, Tryz.results69, go_sem, y0, y1]) rfl ⟨.agg #[.bool sb, .slice p8 n8 c8], by rw [HH.out]; exact HBE.out, ?_⟩
            rw [HRV.out]
            exact ⟨rfl, HZ.out⟩
          · obtain rfl : limb = 0 := by omega
            have gl0 : ¬ ((0 : Int) < ((0 : Nat) : Int)) := by omega
            have HV : Hid (val O = numOf m) := by show _ = _; rw [← hv, Nat.mul_zero, Nat.add_zero]
            have HLO2 := HLO
            have HOL2 := Lib.hid (show O.length ≤ 1000000 by have := HI.out.len; have := HTS.out; omega)
            have HB2 := Lib.hid HI.out.bel
            have hO3 := HI.out.own
            clear hv hd hl0
            obtain ⟨po, co, hov, _, _⟩ := LbA.form_ (hO3.sl.toA)
            subst hov
            have hT := trim_go _ (O) wr hO3.sl.toA HOL2.out
            rw [trimL_eq (O) HLO2.out, HV.out] at hT
            have HT := Lib.hid hT
            clear hT hO3
            go_wp2_with fail
            refine HT.out.mono ?_
            rintro e w8 ⟨v8, rfl, hw8, hv8⟩
            subst hw8
            obtain ⟨p8, c8, rfl, _, _⟩ := hv8.form_
            have HV8 := Lib.hid hv8
            clear hv8
            go_wp2_with fail
            refine (int_go true _ (numOf m) _ HV8.out).mono ?_
            rintro e w9 ⟨rfl, hb9⟩
            have hb19 := HB2.out.trans (hb9.mono (by have := HB2.out.size; rw [HS1.out] at this; exact this))
            have hr9 := HROW.out.below hb19 (Nat.lt_succ_self h)
            have hl9 := SlA.below HV8.out hb9
            obtain ⟨n8, hn8⟩ : ∃ n, (limbs (numOf m)).length = n := ⟨_, rfl⟩
            rw [hn8] at hl9 ⊢
            obtain ⟨sb, hsb⟩ : ∃ b, sgR true (numOf m) = b := ⟨_, rfl⟩
            have hz : Zv w9 (.agg #[.bool sb, .slice p8 n8 c8]) Z := by
              rw [← hn8]
              exact Zv.mk' HZZ.out.1 (by rw [← hsb]; exact HZZ.out.2) (by rw [hn8]; exact hl9)
            rw [hsb]
            obtain ⟨⟨f1, f2⟩, ⟨f3, f4⟩, f5⟩ := row2 hr9 (.bool sb) (.slice p8 n8 c8)
            have hz2 := hz.put2 hr9 (noInt_bool _) (noInt_slice _ _ _) (.bool sb) (.slice p8 n8 c8)
            have hbe := ((HBX.out.trans (hb19.mono (Nat.le_succ h))).setCell (p := ⟨h, 0, none⟩) (Nat.le_refl h) (.bool sb)).setCell (p := ⟨h, 1, none⟩) (Nat.le_refl h) (.slice p8 n8 c8)
            have HZ := Lib.hid hz2
            have HBE := Lib.hid hbe
            have F5 := Lib.hid f5
            have y0 := F5.out.cell 0
            have y1 := F5.out.cell 1
            simp only [List.getElem?_cons_zero, List.getElem?_cons_succ] at y0 y1
            clear hb9 hb19 hr9 hl9 hn8 hsb hz hz2 hbe f5 HT HV8
            go_wp2_with fail
            refine bodyPost_ret (v := .tuple #[.agg #[.bool sb, .slice p8 n8 c8], .bool true]) (by simp [results, Tryz.results69, go_sem, y0, y1]) rfl ⟨.agg #[.bool sb, .slice p8 n8 c8], by rw [HH.out]; exact HBE.out, ?_⟩
            rw [HRV.out]
            exact ⟨rfl, HZ.out⟩
        · obtain ⟨k, rfl⟩ : ∃ k, gk = k + 1 := ⟨gk - 1, by omega⟩
          have ge1 : ((k + 1 : Nat) : Int) - 1 = (k : Int) := by omega
          rw [ge1]
          have hkn : k < t.size := by rw [HN.out]; omega
          have gkn : (k : Int) < (t.size : Int) := by omega
          have gpos : (0 : Int) ≤ (k : Int) := by omega
          have gwk : IntKind.i64.wrap ((k : Int) - 1) = (k : Int) - 1 := IntWalk.i64_in _ (by omega)
          obtain ⟨x, hx⟩ : ∃ x, (m.getD k 0).toNat = x := ⟨_, rfl⟩
          have gx : (t[k]'hkn).toNat = x := by rw [ba_at t k hkn, HM.out, hx]
          have HX := Lib.hid hx
          have hx256 : x < 256 := by rw [← hx]; exact UInt8.toNat_lt _
          have HKM := Lib.hid (show k < m.length by omega)
          clear hx hk0 ge1
          by_cases hdig : 48 ≤ x ∧ x ≤ 57
          · obtain ⟨d, hd⟩ : ∃ d, x = 48 + d := ⟨x - 48, by omega⟩
            have hd9 : d ≤ 9 := by omega
            have gd1 : ¬ ((x : Int) < 48) := by omega
            have gd2 : ¬ ((57 : Int) < (x : Int)) := by omega
            have gsub : (x : Int) - 48 = (d : Int) := by omega
            have gwd : IntKind.u8.wrap (d : Int) = (d : Int) := by rw [IntKind.wrap_u8]; omega
            obtain ⟨P, hP⟩ : ∃ P, U * d = P := ⟨_, rfl⟩
            have hP9 : P ≤ 900000000 := by rw [← hP]; exact Nat.le_trans (Nat.mul_le_mul_left U hd9) hp8.2
            have gmul : (U : Int) * (d : Int) = (P : Int) := by rw [← hP, Int.natCast_mul]
            have gwp : IntKind.i64.wrap (P : Int) = (P : Int) := IntWalk.i64_in _ (by omega)
            obtain ⟨c, hc⟩ : ∃ c, limb + P = c := ⟨_, rfl⟩
            have gadd : (limb : Int) + (P : Int) = (c : Int) := by omega
            have hc9 : c < 1000000000 := by omega
            have gwc : IntKind.i64.wrap (c : Int) = (c : Int) := IntWalk.i64_in _ (by omega)
            obtain ⟨U2, hU2⟩ : ∃ V, 10 * U = V := ⟨_, rfl⟩
            have gmul2 : (10 : Int) * (U : Int) = (U2 : Int) := by omega
            have gwu : IntKind.i64.wrap (U2 : Int) = (U2 : Int) := IntWalk.i64_in _ (by omega)
            have HC := Lib.hid (show limb + 10 ^ e * d = c by rw [HU.out, hP, hc])
            have HXD := Lib.hid (show (m.getD k 0).toNat = 48 + d by rw [HX.out, hd])
            by_cases he8 : e = 8
            · have hU8 : U2 = 1000000000 := by have := HU.out; rw [he8] at this; omega
              have gU8 : (U2 : Int) = 1000000000 := by omega
              have HE8 := Lib.hid he8
              clear hd hP hc hU2 hdig hU8 he8
              go_wp2_with (first | (at_builtin; refine wpList_append_box wr rfl (.tmp 67) (.tmp 69) 32 rfl 3 (.int .i64 0) 8 undN infoI rfl (by omega) (h + 1) u5 (ints (nl O)) rfl HI.out.own (.int .i64 (c : Int)) rfl rfl HOL.out HBS.out ?_; intro v2 w2 hown2 hb2 hrest; have HO2 := Lib.hid hown2; have HB2 := Lib.hid (HI.out.bel.trans hb2); clear hown2 hb2 hrest))
              go_roundg k
              case measure => omega
              case rel =>
                have hI := HI.out
                have hC := HC.out
                rw [HE8.out] at hI hC
                exact ⟨0, 0, O ++ [c], by go_num, rfl, rfl, by omega, hI.full d HXD.out hd9 c hC HO2.out HB2.out⟩
            · have hlt8 : e < 8 := by omega
              have hp7 := pow8 (e + 1) (by omega)
              have hUU : 10 ^ (e + 1) = U2 := by rw [Nat.pow_succ, HU.out]; omega
              rw [hUU] at hp7
              have gU8 : ¬ ((U2 : Int) = 1000000000) := by omega
              have HUU := Lib.hid hUU
              have HN2 := Lib.hid (HI.out.next d HXD.out hd9 hlt8)
              rw [HC.out] at HN2
              clear hd hP hc hU2 hdig he8 hlt8 hUU
              go_wp2_with fail
              go_roundg k
              case measure => omega
              case rel => exact ⟨c, e + 1, O, by go_num, rfl, by rw [HUU.out], by omega, HN2.out⟩
          · have HRV : Hid (r = none) := by
              show _ = _
              rw [← HR.out, if_neg]
              rw [all_false HKM.out (digB_not (by rw [HX.out]; exact hdig))]
              decide
            have HBF := Lib.hid (HBX.out.trans (HI.out.bel.mono (Nat.le_succ h)))
            have HRF := Lib.hid (HROW.out.below HI.out.bel (Nat.lt_succ_self h))
            obtain ⟨⟨f1, f2⟩, ⟨f3, f4⟩, f5⟩ := row2 HRF.out (.bool false) (.slice none 0 0)
            have hbe := (HBF.out.setCell (p := ⟨h, 0, none⟩) (Nat.le_refl h) (.bool false)).setCell (p := ⟨h, 1, none⟩) (Nat.le_refl h) (.slice none 0 0)
            have HBE := Lib.hid hbe
            have F5 := Lib.hid f5
            have y0 := F5.out.cell 0
            have y1 := F5.out.cell 1
            simp only [List.getElem?_cons_zero, List.getElem?_cons_succ] at y0 y1
            clear hbe f5
            by_cases hlo : x < 48
            · have gd1 : (x : Int) < 48 := by omega
              clear hdig hlo
              go_wp2_with fail
              refine bodyPost_ret (v := .tuple #[.agg #[.bool false, .slice none 0 0], .bool false]) (by simp [results, Tryz.results69, go_sem, y0, y1]) rfl ⟨.bool false, by rw [HH.out]; exact HBE.out, ?_⟩
              rw [HRV.out]
            · have gd1 : ¬ ((x : Int) < 48) := by omega
              have gd2 : (57 : Int) < (x : Int) := by omega
              clear hdig hlo
              go_wp2_with fail
              refine bodyPost_ret (v := .tuple #[.agg #[.bool false, .slice none 0 0], .bool false]) (by simp [results, Tryz.results69, go_sem, y0, y1]) rfl ⟨.bool false, by rw [HH.out]; exact HBE.out, ?_⟩
              rw [HRV.out]
set_option maxRecDepth 100000 in
set_option maxHeartbeats 4000000 in
theorem parse_pos (s : ByteArray) (w : World) (hs : s.size ≤ 50000) (h45 : ¬ s.data.toList.head? = some 45) :
    Calls Tryz.prog 69 #[.string s] w (ParseOut w (if okNum false (s.data.toList) = true then some (if false = true then -(numOf (s.data.toList) : Int) else (numOf (s.data.toList) : Int)) else none)) := by
  have hts := hs
  have HH45 := Lib.hid h45
  clear h45
  obtain ⟨m, hm⟩ : ∃ m, s.data.toList = m := ⟨_, rfl⟩
  rw [hm]
  have hn : s.size = m.length := by rw [sz_eq, hm]
  have HM := Lib.hid hm
  have HN := Lib.hid hn
  have hb := (Below.refl w.heap.size w).alloc (Nat.le_refl _) (.cells #[.bool false, .slice none 0 0] 34)
  have hrow := row_new 34 w #[.bool false, .slice none 0 0]
  by_cases hm0 : m = []
  · have hsz : s.size = 0 := by rw [hn, hm0]; rfl
    have gz : s.toList = [] := by rw [ByteArray.toList_eq, hm, hm0]
    have HB := Lib.hid hb
    rw [if_neg (by rw [hm0]; decide)]
    have gs0 : ¬ ((0 : Int) < (s.size : Int)) := by omega
    clear hm hn hb hrow hm0 hsz
    go_enter Tryz.func69, Tryz.ntmps69
    go_wp2_with fail
    refine bodyPost_ret (v := .tuple #[.agg #[.bool false, .slice none 0 0], .bool false]) (by simp [results, Tryz.results69, go_sem]) rfl ⟨.bool false, HB.out, rfl⟩
  · have hsz : 0 < s.size := by rw [hn]; exact List.length_pos_iff.2 hm0
    have gsz : (0 : Int) < (s.size : Int) := by omega
    have gz : ¬ (s.toList = []) := by rw [ByteArray.toList_eq, hm]; exact hm0
    have gze : s.toList.isEmpty = false := by rw [ByteArray.toList_eq, hm]; simpa using hm0
    obtain ⟨x0, hx0⟩ : ∃ x, (m.getD 0 0).toNat = x := ⟨_, rfl⟩
    have g0 : (s[0]'hsz).toNat = x0 := by rw [ba_at s 0 hsz, hm, hx0]
    have hhead : m.head? = some 48 ↔ x0 = 48 := by
      rw [← hx0]
      cases m with
      | nil => exact absurd rfl hm0
      | cons a b =>
        simp only [List.head?_cons, Option.some.injEq, List.getD_cons_zero]
        exact ⟨fun e => by rw [e]; rfl, fun e => UInt8.toNat_inj.1 e⟩
    have g45 : ¬ ((x0 : Int) = 45) := by
      intro e
      apply HH45.out
      rw [hm]
      cases m with
      | nil => exact absurd rfl hm0
      | cons a b =>
        simp only [List.getD_cons_zero] at hx0
        simp only [List.head?_cons, Option.some.injEq]
        exact UInt8.toNat_inj.1 (by rw [hx0]; show _ = 45; omega)
    by_cases hbad : x0 = 48 ∧ (1 < m.length ∨ false = true)
    · rw [if_neg (by
        unfold okNum
        rw [hhead.2 hbad.1]
        have h2 := hbad.2
        simp only [Bool.false_eq_true, or_false] at h2
        simp [h2])]
      obtain ⟨hx48, hbad2⟩ := hbad
      subst hx48
      have HB := Lib.hid hb
      have g1 : (1 : Int) < (s.size : Int) := by rcases hbad2 with h | h; omega; cases h
      clear hbad2 hm hn hb hrow hhead hx0 hm0
      go_enter Tryz.func69, Tryz.ntmps69
      go_wp2_with fail
      refine bodyPost_ret (v := .tuple #[.agg #[.bool false, .slice none 0 0], .bool false]) (by simp [results, Tryz.results69, go_sem]) rfl ⟨.bool false, HB.out, rfl⟩
    · have HOK : Hid (okNum false m = m.all digB) := by
        show _ = _
        unfold okNum
        have h50 : m.isEmpty = false := by simpa using hm0
        rw [h50]
        by_cases h48 : x0 = 48
        · have h51 : ¬ 1 < m.length := fun e => hbad ⟨h48, .inl e⟩
          rw [decide_eq_false h51]
          simp
        · have h49 : ¬ m.head? = some 48 := fun e => h48 (hhead.1 e)
          rw [show (m.head? == some 48) = false by simpa using h49]
          simp
      rw [HOK.out]
      have hb' := hb
      have hrow' := hrow
      have hszw : (w.alloc (.cells #[.bool false, .slice none 0 0] 34)).heap.size = w.heap.size + 1 := by simp
      have HM0 := Lib.hid (show 1 ≤ m.length from List.length_pos_iff.2 hm0)
      have HTS := Lib.hid (show m.length ≤ 50000 by rw [← hn]; exact hts)
      have HSZ := Lib.hid hsz
      by_cases h48 : x0 = 48
      · subst h48
        have g1 : ¬ ((1 : Int) < (s.size : Int)) := by
          have : ¬ 1 < m.length := fun e => hbad ⟨rfl, .inl e⟩
          omega
        clear hbad hhead hx0 hm0 hm hn hb hrow g45
        obtain ⟨Z, hZ⟩ : ∃ Z, (if false = true then -(numOf m : Int) else (numOf m : Int)) = Z := ⟨_, rfl⟩
        have HZZ := Lib.hid (And.intro (show Z.natAbs = numOf m by rw [← hZ]; exact abs_num false (numOf m)) (show sgR false (numOf m) = decide (Z < 0) by rw [← hZ]; exact sgR_num false (numOf m)))
        rw [hZ]
        clear hZ
        obtain ⟨r, hr⟩ : ∃ r, (if m.all digB = true then some Z else none) = r := ⟨_, rfl⟩
        have HR := Lib.hid hr
        rw [hr]
        clear hr
        go_enter Tryz.func69, Tryz.ntmps69
        go_upto_region 6 with (fail)
        generalize w.alloc (.cells #[.bool false, .slice none 0 0] 34) = w1 at *
        obtain ⟨h, hh⟩ : ∃ h, w.heap.size = h := ⟨_, rfl⟩
        have HH := Lib.hid hh
        rw [hh] at hb' hrow' hszw ⊢
        have HBX := Lib.hid hb'
        have HROW := Lib.hid hrow'
        have HS1 := Lib.hid hszw
        clear hb' hrow' hszw hh g0 gz gze
        go_wp2_with fail
        go_loopg [5, 6, 7, 8] m.length (fun k ov lv uv iv wr => ∃ (limb e : Nat) (O : List Nat), iv = .int .i64 ((k : Int) - 1) ∧ lv = .int .i64 (limb : Nat) ∧ uv = .int .i64 ((10 ^ e : Nat) : Int) ∧ k ≤ m.length ∧ PaI m (h + 1) w1 k limb e O ov wr)
        case atStart => exact ⟨0, 0, [], congrArg (Value.int .i64) (by rw [HN.out]), rfl, rfl, Nat.le_refl _, ⟨World.ownsRow_nil _ _ _ _, (fun d hd => by cases hd), by simp, by omega, by simp, by rw [List.drop_length]; rfl, by rw [List.drop_length]; rfl, Below.refl _ _⟩⟩
        case round =>
          obtain ⟨limb, e, O, rfl, rfl, rfl, hk, hI⟩ := hrel
          have HI := Lib.hid hI
          have he9 := hI.e9
          have hlim := hI.lim
          have hp8 := pow8 e (by omega)
          have HOL := Lib.hid (show (ints (nl O)).length ≤ 1000000 by rw [ints_length, nl_length]; have := hI.len; have := HTS.out; omega)
          have HBS := Lib.hid (show h + 1 ≤ wr.heap.size by have := hI.bel.size; rw [HS1.out] at this; exact this)
          obtain ⟨U, hU⟩ : ∃ U, 10 ^ e = U := ⟨_, rfl⟩
          have HU := Lib.hid hU
          rw [hU] at hp8 hlim ⊢
          clear hI hU
          by_cases hk0 : gk = 0
          · subst hk0
            rw [show ((0 : Nat) : Int) - 1 = -1 by omega]
            have hv := HI.out.val
            have hd := HI.out.dig
            rw [List.drop_zero] at hv hd
            have HRV : Hid (r = some Z) := by show _ = _; rw [← HR.out, if_pos hd]
            have HLO := Lib.hid HI.out.lo
            by_cases hl0 : 0 < limb
            · have gl0 : (0 : Int) < (limb : Int) := by omega
              have HV : Hid (val (O ++ [limb]) = numOf m) := by show _ = _; rw [val_snocN]; exact hv
              have HLO2 := Lib.hid (LoS HLO.out (show limb < 1000000000 by omega))
              have HOL2 := Lib.hid (show (O ++ [limb]).length ≤ 1000000 by rw [List.length_append, List.length_singleton]; have := HI.out.len; have := HTS.out; omega)
              clear hv hd hl0
              go_wp2_with (first | (at_builtin; refine wpList_append_box wr rfl (.tmp 73) (.tmp 75) 32 rfl 3 (.int .i64 0) 8 undN infoI rfl (by omega) (h + 1) u5 (ints (nl O)) rfl HI.out.own (.int .i64 (limb : Int)) rfl rfl HOL.out HBS.out ?_; intro v2 w2 hown2 hb2 hrest; have HO2 := Lib.hid hown2; have HB2 := Lib.hid (HI.out.bel.trans hb2); clear hown2 hb2 hrest))
              have hO3 : Own 3 (h + 1) w2 v2 (ints (nl (O ++ [limb]))) := by rw [nl_append, ints_append]; exact HO2.out
              obtain ⟨po, co, hov, _, _⟩ := LbA.form_ (hO3.sl.toA)
              subst hov
              have hT := trim_go _ (O ++ [limb]) w2 hO3.sl.toA HOL2.out
              rw [trimL_eq (O ++ [limb]) HLO2.out, HV.out] at hT
              have HT := Lib.hid hT
              clear hT hO3
              go_wp2_with fail
              refine HT.out.mono ?_
              rintro e w8 ⟨v8, rfl, hw8, hv8⟩
              subst hw8
              obtain ⟨p8, c8, rfl, _, _⟩ := hv8.form_
              have HV8 := Lib.hid hv8
              clear hv8
              go_wp2_with fail
              refine (int_go false _ (numOf m) _ HV8.out).mono ?_
              rintro e w9 ⟨rfl, hb9⟩
              have hb19 := HB2.out.trans (hb9.mono (by have := HB2.out.size; rw [HS1.out] at this; exact this))
              have hr9 := HROW.out.below hb19 (Nat.lt_succ_self h)
              have hl9 := SlA.below HV8.out hb9
              obtain ⟨n8, hn8⟩ : ∃ n, (limbs (numOf m)).length = n := ⟨_, rfl⟩
              rw [hn8] at hl9 ⊢
              obtain ⟨sb, hsb⟩ : ∃ b, sgR false (numOf m) = b := ⟨_, rfl⟩
              have hz : Zv w9 (.agg #[.bool sb, .slice p8 n8 c8]) Z := by
                rw [← hn8]
                exact Zv.mk' HZZ.out.1 (by rw [← hsb]; exact HZZ.out.2) (by rw [hn8]; exact hl9)
              rw [hsb]
              obtain ⟨⟨f1, f2⟩, ⟨f3, f4⟩, f5⟩ := row2 hr9 (.bool sb) (.slice p8 n8 c8)
              have hz2 := hz.put2 hr9 (noInt_bool _) (noInt_slice _ _ _) (.bool sb) (.slice p8 n8 c8)
              have hbe := ((HBX.out.trans (hb19.mono (Nat.le_succ h))).setCell (p := ⟨h, 0, none⟩) (Nat.le_refl h) (.bool sb)).setCell (p := ⟨h, 1, none⟩) (Nat.le_refl h) (.slice p8 n8 c8)
              have HZ := Lib.hid hz2
              have HBE := Lib.hid hbe
              have F5 := Lib.hid f5
              have y0 := F5.out.cell 0
              have y1 := F5.out.cell 1
              simp only [List.getElem?_cons_zero, List.getElem?_cons_succ] at y0 y1
              clear hb9 hb19 hr9 hl9 hn8 hsb hz hz2 hbe f5 HT HV8
              go_wp2_with fail
              refine bodyPost_ret (v := .tuple #[.agg #[.bool sb, .slice p8 n8 c8], .bool true]) (by simp [results, Tryz.results69, go_sem, y0, y1]) rfl ⟨.agg #[.bool sb, .slice p8 n8 c8], by rw [HH.out]; exact HBE.out, ?_⟩
              rw [HRV.out]
              exact ⟨rfl, HZ.out⟩
            · obtain rfl : limb = 0 := by omega
              have gl0 : ¬ ((0 : Int) < ((0 : Nat) : Int)) := by omega
              have HV : Hid (val O = numOf m) := by show _ = _; rw [← hv, Nat.mul_zero, Nat.add_zero]
              have HLO2 := HLO
              have HOL2 := Lib.hid (show O.length ≤ 1000000 by have := HI.out.len; have := HTS.out; omega)
              have HB2 := Lib.hid HI.out.bel
              have hO3 := HI.out.own
              clear hv hd hl0
              obtain ⟨po, co, hov, _, _⟩ := LbA.form_ (hO3.sl.toA)
              subst hov
              have hT := trim_go _ (O) wr hO3.sl.toA HOL2.out
              rw [trimL_eq (O) HLO2.out, HV.out] at hT
              have HT := Lib.hid hT
              clear hT hO3
              go_wp2_with fail
              refine HT.out.mono ?_
              rintro e w8 ⟨v8, rfl, hw8, hv8⟩
              subst hw8
              obtain ⟨p8, c8, rfl, _, _⟩ := hv8.form_
              have HV8 := Lib.hid hv8
              clear hv8
              go_wp2_with fail
              refine (int_go false _ (numOf m) _ HV8.out).mono ?_
              rintro e w9 ⟨rfl, hb9⟩
              have hb19 := HB2.out.trans (hb9.mono (by have := HB2.out.size; rw [HS1.out] at this; exact this))
              have hr9 := HROW.out.below hb19 (Nat.lt_succ_self h)
              have hl9 := SlA.below HV8.out hb9
              obtain ⟨n8, hn8⟩ : ∃ n, (limbs (numOf m)).length = n := ⟨_, rfl⟩
              rw [hn8] at hl9 ⊢
              obtain ⟨sb, hsb⟩ : ∃ b, sgR false (numOf m) = b := ⟨_, rfl⟩
              have hz : Zv w9 (.agg #[.bool sb, .slice p8 n8 c8]) Z := by
                rw [← hn8]
                exact Zv.mk' HZZ.out.1 (by rw [← hsb]; exact HZZ.out.2) (by rw [hn8]; exact hl9)
              rw [hsb]
              obtain ⟨⟨f1, f2⟩, ⟨f3, f4⟩, f5⟩ := row2 hr9 (.bool sb) (.slice p8 n8 c8)
              have hz2 := hz.put2 hr9 (noInt_bool _) (noInt_slice _ _ _) (.bool sb) (.slice p8 n8 c8)
              have hbe := ((HBX.out.trans (hb19.mono (Nat.le_succ h))).setCell (p := ⟨h, 0, none⟩) (Nat.le_refl h) (.bool sb)).setCell (p := ⟨h, 1, none⟩) (Nat.le_refl h) (.slice p8 n8 c8)
              have HZ := Lib.hid hz2
              have HBE := Lib.hid hbe
              have F5 := Lib.hid f5
              have y0 := F5.out.cell 0
              have y1 := F5.out.cell 1
              simp only [List.getElem?_cons_zero, List.getElem?_cons_succ] at y0 y1
              clear hb9 hb19 hr9 hl9 hn8 hsb hz hz2 hbe f5 HT HV8
              go_wp2_with fail
              refine bodyPost_ret (v := .tuple #[.agg #[.bool sb, .slice p8 n8 c8], .bool true]) (by simp [results, Tryz.results69, go_sem, y0, y1]) rfl ⟨.agg #[.bool sb, .slice p8 n8 c8], by rw [HH.out]; exact HBE.out, ?_⟩
              rw [HRV.out]
              exact ⟨rfl, HZ.out⟩
          · obtain ⟨k, rfl⟩ : ∃ k, gk = k + 1 := ⟨gk - 1, by omega⟩
            have ge1 : ((k + 1 : Nat) : Int) - 1 = (k : Int) := by omega
            rw [ge1]
            have hkn : k < s.size := by rw [HN.out]; omega
            have gkn : (k : Int) < (s.size : Int) := by omega
            have gpos : (0 : Int) ≤ (k : Int) := by omega
            have gwk : IntKind.i64.wrap ((k : Int) - 1) = (k : Int) - 1 := IntWalk.i64_in _ (by omega)
            obtain ⟨x, hx⟩ : ∃ x, (m.getD k 0).toNat = x := ⟨_, rfl⟩
            have gx : (s[k]'hkn).toNat = x := by rw [ba_at s k hkn, HM.out, hx]
            have HX := Lib.hid hx
            have hx256 : x < 256 := by rw [← hx]; exact UInt8.toNat_lt _
            have HKM := Lib.hid (show k < m.length by omega)
            clear hx hk0 ge1
            by_cases hdig : 48 ≤ x ∧ x ≤ 57
            · obtain ⟨d, hd⟩ : ∃ d, x = 48 + d := ⟨x - 48, by omega⟩
              have hd9 : d ≤ 9 := by omega
              have gd1 : ¬ ((x : Int) < 48) := by omega
              have gd2 : ¬ ((57 : Int) < (x : Int)) := by omega
              have gsub : (x : Int) - 48 = (d : Int) := by omega
              have gwd : IntKind.u8.wrap (d : Int) = (d : Int) := by rw [IntKind.wrap_u8]; omega
              obtain ⟨P, hP⟩ : ∃ P, U * d = P := ⟨_, rfl⟩
              have hP9 : P ≤ 900000000 := by rw [← hP]; exact Nat.le_trans (Nat.mul_le_mul_left U hd9) hp8.2
              have gmul : (U : Int) * (d : Int) = (P : Int) := by rw [← hP, Int.natCast_mul]
              have gwp : IntKind.i64.wrap (P : Int) = (P : Int) := IntWalk.i64_in _ (by omega)
              obtain ⟨c, hc⟩ : ∃ c, limb + P = c := ⟨_, rfl⟩
              have gadd : (limb : Int) + (P : Int) = (c : Int) := by omega
              have hc9 : c < 1000000000 := by omega
              have gwc : IntKind.i64.wrap (c : Int) = (c : Int) := IntWalk.i64_in _ (by omega)
              obtain ⟨U2, hU2⟩ : ∃ V, 10 * U = V := ⟨_, rfl⟩
              have gmul2 : (10 : Int) * (U : Int) = (U2 : Int) := by omega
              have gwu : IntKind.i64.wrap (U2 : Int) = (U2 : Int) := IntWalk.i64_in _ (by omega)
              have HC := Lib.hid (show limb + 10 ^ e * d = c by rw [HU.out, hP, hc])
              have HXD := Lib.hid (show (m.getD k 0).toNat = 48 + d by rw [HX.out, hd])
              by_cases he8 : e = 8
              · have hU8 : U2 = 1000000000 := by have := HU.out; rw [he8] at this; omega
                have gU8 : (U2 : Int) = 1000000000 := by omega
                have HE8 := Lib.hid he8
                clear hd hP hc hU2 hdig hU8 he8
                go_wp2_with (first | (at_builtin; refine wpList_append_box wr rfl (.tmp 67) (.tmp 69) 32 rfl 3 (.int .i64 0) 8 undN infoI rfl (by omega) (h + 1) u5 (ints (nl O)) rfl HI.out.own (.int .i64 (c : Int)) rfl rfl HOL.out HBS.out ?_; intro v2 w2 hown2 hb2 hrest; have HO2 := Lib.hid hown2; have HB2 := Lib.hid (HI.out.bel.trans hb2); clear hown2 hb2 hrest))
                go_roundg k
                case measure => omega
                case rel =>
                  have hI := HI.out
                  have hC := HC.out
                  rw [HE8.out] at hI hC
                  exact ⟨0, 0, O ++ [c], by go_num, rfl, rfl, by omega, hI.full d HXD.out hd9 c hC HO2.out HB2.out⟩
              · have hlt8 : e < 8 := by omega
                have hp7 := pow8 (e + 1) (by omega)
                have hUU : 10 ^ (e + 1) = U2 := by rw [Nat.pow_succ, HU.out]; omega
                rw [hUU] at hp7
                have gU8 : ¬ ((U2 : Int) = 1000000000) := by omega
                have HUU := Lib.hid hUU
                have HN2 := Lib.hid (HI.out.next d HXD.out hd9 hlt8)
                rw [HC.out] at HN2
                clear hd hP hc hU2 hdig he8 hlt8 hUU
                go_wp2_with fail
                go_roundg k
                case measure => omega
                case rel => exact ⟨c, e + 1, O, by go_num, rfl, by rw [HUU.out], by omega, HN2.out⟩
            · have HRV : Hid (r = none) := by
                show _ = _
                rw [← HR.out, if_neg]
                rw [all_false HKM.out (digB_not (by rw [HX.out]; exact hdig))]
                decide
              have HBF := Lib.hid (HBX.out.trans (HI.out.bel.mono (Nat.le_succ h)))
              have HRF := Lib.hid (HROW.out.below HI.out.bel (Nat.lt_succ_self h))
              obtain ⟨⟨f1, f2⟩, ⟨f3, f4⟩, f5⟩ := row2 HRF.out (.bool false) (.slice none 0 0)
              have hbe := (HBF.out.setCell (p := ⟨h, 0, none⟩) (Nat.le_refl h) (.bool false)).setCell (p := ⟨h, 1, none⟩) (Nat.le_refl h) (.slice none 0 0)
              have HBE := Lib.hid hbe
              have F5 := Lib.hid f5
              have y0 := F5.out.cell 0
              have y1 := F5.out.cell 1
              simp only [List.getElem?_cons_zero, List.getElem?_cons_succ] at y0 y1
              clear hbe f5
              by_cases hlo : x < 48
              · have gd1 : (x : Int) < 48 := by omega
                clear hdig hlo
                go_wp2_with fail
                refine bodyPost_ret (v := .tuple #[.agg #[.bool false, .slice none 0 0], .bool false]) (by simp [results, Tryz.results69, go_sem, y0, y1]) rfl ⟨.bool false, by rw [HH.out]; exact HBE.out, ?_⟩
                rw [HRV.out]
              · have gd1 : ¬ ((x : Int) < 48) := by omega
                have gd2 : (57 : Int) < (x : Int) := by omega
                clear hdig hlo
                go_wp2_with fail
                refine bodyPost_ret (v := .tuple #[.agg #[.bool false, .slice none 0 0], .bool false]) (by simp [results, Tryz.results69, go_sem, y0, y1]) rfl ⟨.bool false, by rw [HH.out]; exact HBE.out, ?_⟩
                rw [HRV.out]
      · have g48 : ¬ ((x0 : Int) = 48) := by omega
        clear hbad hhead hx0 h48 hm0 hm hn hb hrow
        obtain ⟨Z, hZ⟩ : ∃ Z, (if false = true then -(numOf m : Int) else (numOf m : Int)) = Z := ⟨_, rfl⟩
        have HZZ := Lib.hid (And.intro (show Z.natAbs = numOf m by rw [← hZ]; exact abs_num false (numOf m)) (show sgR false (numOf m) = decide (Z < 0) by rw [← hZ]; exact sgR_num false (numOf m)))
        rw [hZ]
        clear hZ
        obtain ⟨r, hr⟩ : ∃ r, (if m.all digB = true then some Z else none) = r := ⟨_, rfl⟩
        have HR := Lib.hid hr
        rw [hr]
        clear hr
        go_enter Tryz.func69, Tryz.ntmps69
        go_upto_region 6 with (fail)
        generalize w.alloc (.cells #[.bool false, .slice none 0 0] 34) = w1 at *
        obtain ⟨h, hh⟩ : ∃ h, w.heap.size = h := ⟨_, rfl⟩
        have HH := Lib.hid hh
        rw [hh] at hb' hrow' hszw ⊢
        have HBX := Lib.hid hb'
        have HROW := Lib.hid hrow'
        have HS1 := Lib.hid hszw
        clear hb' hrow' hszw hh g0 gz gze
        go_wp2_with fail
        go_loopg [5, 6, 7, 8] m.length (fun k ov lv uv iv wr => ∃ (limb e : Nat) (O : List Nat), iv = .int .i64 ((k : Int) - 1) ∧ lv = .int .i64 (limb : Nat) ∧ uv = .int .i64 ((10 ^ e : Nat) : Int) ∧ k ≤ m.length ∧ PaI m (h + 1) w1 k limb e O ov wr)
        case atStart => exact ⟨0, 0, [], congrArg (Value.int .i64) (by rw [HN.out]), rfl, rfl, Nat.le_refl _, ⟨World.ownsRow_nil _ _ _ _, (fun d hd => by cases hd), by simp, by omega, by simp, by rw [List.drop_length]; rfl, by rw [List.drop_length]; rfl, Below.refl _ _⟩⟩
        case round =>
          obtain ⟨limb, e, O, rfl, rfl, rfl, hk, hI⟩ := hrel
          have HI := Lib.hid hI
          have he9 := hI.e9
          have hlim := hI.lim
          have hp8 := pow8 e (by omega)
          have HOL := Lib.hid (show (ints (nl O)).length ≤ 1000000 by rw [ints_length, nl_length]; have := hI.len; have := HTS.out; omega)
          have HBS := Lib.hid (show h + 1 ≤ wr.heap.size by have := hI.bel.size; rw [HS1.out] at this; exact this)
          obtain ⟨U, hU⟩ : ∃ U, 10 ^ e = U := ⟨_, rfl⟩
          have HU := Lib.hid hU
          rw [hU] at hp8 hlim ⊢
          clear hI hU
          by_cases hk0 : gk = 0
          · subst hk0
            rw [show ((0 : Nat) : Int) - 1 = -1 by omega]
            have hv := HI.out.val
            have hd := HI.out.dig
            rw [List.drop_zero] at hv hd
            have HRV : Hid (r = some Z) := by show _ = _; rw [← HR.out, if_pos hd]
            have HLO := Lib.hid HI.out.lo
            by_cases hl0 : 0 < limb
            · have gl0 : (0 : Int) < (limb : Int) := by omega
              have HV : Hid (val (O ++ [limb]) = numOf m) := by show _ = _; rw [val_snocN]; exact hv
              have HLO2 := Lib.hid (LoS HLO.out (show limb < 1000000000 by omega))
              have HOL2 := Lib.hid (show (O ++ [limb]).length ≤ 1000000 by rw [List.length_append, List.length_singleton]; have := HI.out.len; have := HTS.out; omega)
              clear hv hd hl0
              go_wp2_with (first | (at_builtin; refine wpList_append_box wr rfl (.tmp 73) (.tmp 75) 32 rfl 3 (.int .i64 0) 8 undN infoI rfl (by omega) (h + 1) u5 (ints (nl O)) rfl HI.out.own (.int .i64 (limb : Int)) rfl rfl HOL.out HBS.out ?_; intro v2 w2 hown2 hb2 hrest; have HO2 := Lib.hid hown2; have HB2 := Lib.hid (HI.out.bel.trans hb2); clear hown2 hb2 hrest))
              have hO3 : Own 3 (h + 1) w2 v2 (ints (nl (O ++ [limb]))) := by rw [nl_append, ints_append]; exact HO2.out
              obtain ⟨po, co, hov, _, _⟩ := LbA.form_ (hO3.sl.toA)
              subst hov
              have hT := trim_go _ (O ++ [limb]) w2 hO3.sl.toA HOL2.out
              rw [trimL_eq (O ++ [limb]) HLO2.out, HV.out] at hT
              have HT := Lib.hid hT
              clear hT hO3
              go_wp2_with fail
              refine HT.out.mono ?_
              rintro e w8 ⟨v8, rfl, hw8, hv8⟩
              subst hw8
              obtain ⟨p8, c8, rfl, _, _⟩ := hv8.form_
              have HV8 := Lib.hid hv8
              clear hv8
              go_wp2_with fail
              refine (int_go false _ (numOf m) _ HV8.out).mono ?_
              rintro e w9 ⟨rfl, hb9⟩
              have hb19 := HB2.out.trans (hb9.mono (by have := HB2.out.size; rw [HS1.out] at this; exact this))
              have hr9 := HROW.out.below hb19 (Nat.lt_succ_self h)
              have hl9 := SlA.below HV8.out hb9
              obtain ⟨n8, hn8⟩ : ∃ n, (limbs (numOf m)).length = n := ⟨_, rfl⟩
              rw [hn8] at hl9 ⊢
              obtain ⟨sb, hsb⟩ : ∃ b, sgR false (numOf m) = b := ⟨_, rfl⟩
              have hz : Zv w9 (.agg #[.bool sb, .slice p8 n8 c8]) Z := by
                rw [← hn8]
                exact Zv.mk' HZZ.out.1 (by rw [← hsb]; exact HZZ.out.2) (by rw [hn8]; exact hl9)
              rw [hsb]
              obtain ⟨⟨f1, f2⟩, ⟨f3, f4⟩, f5⟩ := row2 hr9 (.bool sb) (.slice p8 n8 c8)
              have hz2 := hz.put2 hr9 (noInt_bool _) (noInt_slice _ _ _) (.bool sb) (.slice p8 n8 c8)
              have hbe := ((HBX.out.trans (hb19.mono (Nat.le_succ h))).setCell (p := ⟨h, 0, none⟩) (Nat.le_refl h) (.bool sb)).setCell (p := ⟨h, 1, none⟩) (Nat.le_refl h) (.slice p8 n8 c8)
              have HZ := Lib.hid hz2
              have HBE := Lib.hid hbe
              have F5 := Lib.hid f5
              have y0 := F5.out.cell 0
              have y1 := F5.out.cell 1
              simp only [List.getElem?_cons_zero, List.getElem?_cons_succ] at y0 y1
              clear hb9 hb19 hr9 hl9 hn8 hsb hz hz2 hbe f5 HT HV8
              go_wp2_with fail
              refine bodyPost_ret (v := .tuple #[.agg #[.bool sb, .slice p8 n8 c8], .bool true]) (by simp [results, Tryz.results69, go_sem, y0, y1]) rfl ⟨.agg #[.bool sb, .slice p8 n8 c8], by rw [HH.out]; exact HBE.out, ?_⟩
              rw [HRV.out]
              exact ⟨rfl, HZ.out⟩
            · obtain rfl : limb = 0 := by omega
              have gl0 : ¬ ((0 : Int) < ((0 : Nat) : Int)) := by omega
              have HV : Hid (val O = numOf m) := by show _ = _; rw [← hv, Nat.mul_zero, Nat.add_zero]
              have HLO2 := HLO
              have HOL2 := Lib.hid (show O.length ≤ 1000000 by have := HI.out.len; have := HTS.out; omega)
              have HB2 := Lib.hid HI.out.bel
              have hO3 := HI.out.own
              clear hv hd hl0
              obtain ⟨po, co, hov, _, _⟩ := LbA.form_ (hO3.sl.toA)
              subst hov
              have hT := trim_go _ (O) wr hO3.sl.toA HOL2.out
              rw [trimL_eq (O) HLO2.out, HV.out] at hT
              have HT := Lib.hid hT
              clear hT hO3
              go_wp2_with fail
              refine HT.out.mono ?_
              rintro e w8 ⟨v8, rfl, hw8, hv8⟩
              subst hw8
              obtain ⟨p8, c8, rfl, _, _⟩ := hv8.form_
              have HV8 := Lib.hid hv8
              clear hv8
              go_wp2_with fail
              refine (int_go false _ (numOf m) _ HV8.out).mono ?_
              rintro e w9 ⟨rfl, hb9⟩
              have hb19 := HB2.out.trans (hb9.mono (by have := HB2.out.size; rw [HS1.out] at this; exact this))
              have hr9 := HROW.out.below hb19 (Nat.lt_succ_self h)
              have hl9 := SlA.below HV8.out hb9
              obtain ⟨n8, hn8⟩ : ∃ n, (limbs (numOf m)).length = n := ⟨_, rfl⟩
              rw [hn8] at hl9 ⊢
              obtain ⟨sb, hsb⟩ : ∃ b, sgR false (numOf m) = b := ⟨_, rfl⟩
              have hz : Zv w9 (.agg #[.bool sb, .slice p8 n8 c8]) Z := by
                rw [← hn8]
                exact Zv.mk' HZZ.out.1 (by rw [← hsb]; exact HZZ.out.2) (by rw [hn8]; exact hl9)
              rw [hsb]
              obtain ⟨⟨f1, f2⟩, ⟨f3, f4⟩, f5⟩ := row2 hr9 (.bool sb) (.slice p8 n8 c8)
              have hz2 := hz.put2 hr9 (noInt_bool _) (noInt_slice _ _ _) (.bool sb) (.slice p8 n8 c8)
              have hbe := ((HBX.out.trans (hb19.mono (Nat.le_succ h))).setCell (p := ⟨h, 0, none⟩) (Nat.le_refl h) (.bool sb)).setCell (p := ⟨h, 1, none⟩) (Nat.le_refl h) (.slice p8 n8 c8)
              have HZ := Lib.hid hz2
              have HBE := Lib.hid hbe
              have F5 := Lib.hid f5
              have y0 := F5.out.cell 0
              have y1 := F5.out.cell 1
              simp only [List.getElem?_cons_zero, List.getElem?_cons_succ] at y0 y1
              clear hb9 hb19 hr9 hl9 hn8 hsb hz hz2 hbe f5 HT HV8
              go_wp2_with fail
              refine bodyPost_ret (v := .tuple #[.agg #[.bool sb, .slice p8 n8 c8], .bool true]) (by simp [results, Tryz.results69, go_sem, y0, y1]) rfl ⟨.agg #[.bool sb, .slice p8 n8 c8], by rw [HH.out]; exact HBE.out, ?_⟩
              rw [HRV.out]
              exact ⟨rfl, HZ.out⟩
          · obtain ⟨k, rfl⟩ : ∃ k, gk = k + 1 := ⟨gk - 1, by omega⟩
            have ge1 : ((k + 1 : Nat) : Int) - 1 = (k : Int) := by omega
            rw [ge1]
            have hkn : k < s.size := by rw [HN.out]; omega
            have gkn : (k : Int) < (s.size : Int) := by omega
            have gpos : (0 : Int) ≤ (k : Int) := by omega
            have gwk : IntKind.i64.wrap ((k : Int) - 1) = (k : Int) - 1 := IntWalk.i64_in _ (by omega)
            obtain ⟨x, hx⟩ : ∃ x, (m.getD k 0).toNat = x := ⟨_, rfl⟩
            have gx : (s[k]'hkn).toNat = x := by rw [ba_at s k hkn, HM.out, hx]
            have HX := Lib.hid hx
            have hx256 : x < 256 := by rw [← hx]; exact UInt8.toNat_lt _
            have HKM := Lib.hid (show k < m.length by omega)
            clear hx hk0 ge1
            by_cases hdig : 48 ≤ x ∧ x ≤ 57
            · obtain ⟨d, hd⟩ : ∃ d, x = 48 + d := ⟨x - 48, by omega⟩
              have hd9 : d ≤ 9 := by omega
              have gd1 : ¬ ((x : Int) < 48) := by omega
              have gd2 : ¬ ((57 : Int) < (x : Int)) := by omega
              have gsub : (x : Int) - 48 = (d : Int) := by omega
              have gwd : IntKind.u8.wrap (d : Int) = (d : Int) := by rw [IntKind.wrap_u8]; omega
              obtain ⟨P, hP⟩ : ∃ P, U * d = P := ⟨_, rfl⟩
              have hP9 : P ≤ 900000000 := by rw [← hP]; exact Nat.le_trans (Nat.mul_le_mul_left U hd9) hp8.2
              have gmul : (U : Int) * (d : Int) = (P : Int) := by rw [← hP, Int.natCast_mul]
              have gwp : IntKind.i64.wrap (P : Int) = (P : Int) := IntWalk.i64_in _ (by omega)
              obtain ⟨c, hc⟩ : ∃ c, limb + P = c := ⟨_, rfl⟩
              have gadd : (limb : Int) + (P : Int) = (c : Int) := by omega
              have hc9 : c < 1000000000 := by omega
              have gwc : IntKind.i64.wrap (c : Int) = (c : Int) := IntWalk.i64_in _ (by omega)
              obtain ⟨U2, hU2⟩ : ∃ V, 10 * U = V := ⟨_, rfl⟩
              have gmul2 : (10 : Int) * (U : Int) = (U2 : Int) := by omega
              have gwu : IntKind.i64.wrap (U2 : Int) = (U2 : Int) := IntWalk.i64_in _ (by omega)
              have HC := Lib.hid (show limb + 10 ^ e * d = c by rw [HU.out, hP, hc])
              have HXD := Lib.hid (show (m.getD k 0).toNat = 48 + d by rw [HX.out, hd])
              by_cases he8 : e = 8
              · have hU8 : U2 = 1000000000 := by have := HU.out; rw [he8] at this; omega
                have gU8 : (U2 : Int) = 1000000000 := by omega
                have HE8 := Lib.hid he8
                clear hd hP hc hU2 hdig hU8 he8
                go_wp2_with (first | (at_builtin; refine wpList_append_box wr rfl (.tmp 67) (.tmp 69) 32 rfl 3 (.int .i64 0) 8 undN infoI rfl (by omega) (h + 1) u5 (ints (nl O)) rfl HI.out.own (.int .i64 (c : Int)) rfl rfl HOL.out HBS.out ?_; intro v2 w2 hown2 hb2 hrest; have HO2 := Lib.hid hown2; have HB2 := Lib.hid (HI.out.bel.trans hb2); clear hown2 hb2 hrest))
                go_roundg k
                case measure => omega
                case rel =>
                  have hI := HI.out
                  have hC := HC.out
                  rw [HE8.out] at hI hC
                  exact ⟨0, 0, O ++ [c], by go_num, rfl, rfl, by omega, hI.full d HXD.out hd9 c hC HO2.out HB2.out⟩
              · have hlt8 : e < 8 := by omega
                have hp7 := pow8 (e + 1) (by omega)
                have hUU : 10 ^ (e + 1) = U2 := by rw [Nat.pow_succ, HU.out]; omega
                rw [hUU] at hp7
                have gU8 : ¬ ((U2 : Int) = 1000000000) := by omega
                have HUU := Lib.hid hUU
                have HN2 := Lib.hid (HI.out.next d HXD.out hd9 hlt8)
                rw [HC.out] at HN2
                clear hd hP hc hU2 hdig he8 hlt8 hUU
                go_wp2_with fail
                go_roundg k
                case measure => omega
                case rel => exact ⟨c, e + 1, O, by go_num, rfl, by rw [HUU.out], by omega, HN2.out⟩
            · have HRV : Hid (r = none) := by
                show _ = _
                rw [← HR.out, if_neg]
                rw [all_false HKM.out (digB_not (by rw [HX.out]; exact hdig))]
                decide
              have HBF := Lib.hid (HBX.out.trans (HI.out.bel.mono (Nat.le_succ h)))
              have HRF := Lib.hid (HROW.out.below HI.out.bel (Nat.lt_succ_self h))
              obtain ⟨⟨f1, f2⟩, ⟨f3, f4⟩, f5⟩ := row2 HRF.out (.bool false) (.slice none 0 0)
              have hbe := (HBF.out.setCell (p := ⟨h, 0, none⟩) (Nat.le_refl h) (.bool false)).setCell (p := ⟨h, 1, none⟩) (Nat.le_refl h) (.slice none 0 0)
              have HBE := Lib.hid hbe
              have F5 := Lib.hid f5
              have y0 := F5.out.cell 0
              have y1 := F5.out.cell 1
              simp only [List.getElem?_cons_zero, List.getElem?_cons_succ] at y0 y1
              clear hbe f5
              by_cases hlo : x < 48
              · have gd1 : (x : Int) < 48 := by omega
                clear hdig hlo
                go_wp2_with fail
                refine bodyPost_ret (v := .tuple #[.agg #[.bool false, .slice none 0 0], .bool false]) (by simp [results, Tryz.results69, go_sem, y0, y1]) rfl ⟨.bool false, by rw [HH.out]; exact HBE.out, ?_⟩
                rw [HRV.out]
              · have gd1 : ¬ ((x : Int) < 48) := by omega
                have gd2 : (57 : Int) < (x : Int) := by omega
                clear hdig hlo
                go_wp2_with fail
                refine bodyPost_ret (v := .tuple #[.agg #[.bool false, .slice none 0 0], .bool false]) (by simp [results, Tryz.results69, go_sem, y0, y1]) rfl ⟨.bool false, by rw [HH.out]; exact HBE.out, ?_⟩
                rw [HRV.out]
theorem parse_go (s : ByteArray) (w : World) (hs : s.size ≤ 50000) :
    Calls Tryz.prog 69 #[.string s] w (ParseOut w (parseZ s.data.toList)) := by
  unfold parseZ
  by_cases h : s.data.toList.head? = some 45
  · rw [if_pos h]
    exact parse_neg s w hs h
  · rw [if_neg h]
    exact parse_pos s w hs h
end Go.Proofs.YtmhmkhdgpfhnfaaGreatDoor.Ref
