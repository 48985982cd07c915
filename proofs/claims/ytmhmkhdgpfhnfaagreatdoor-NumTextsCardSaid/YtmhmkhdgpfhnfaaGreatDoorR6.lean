/- The reference's naturals: difference, division by a limb. -/
import Derived.Test.YtmhmkhdgpfhnfaaGreatDoorR3
set_option linter.unusedVariables false
set_option linter.unusedSimpArgs false
set_option linter.unnecessarySimpa false
/- The reference's naturals: difference, division by a limb. -/
namespace Go.Proofs.YtmhmkhdgpfhnfaaGreatDoor.Ref
open Go.RowKit

/-- where the loop of SubN stands -/
structure SbI (la lb : List Nat) (B : Nat) (w : World) (i br : Nat) (O : List Nat) (ov : Value) (wr : World) : Prop where
  own : Own 3 B wr ov (ints (nl O))
  len : O.length = i
  lo : Lo O
  vl : val O + val (lb.take i) = val (la.take i) + 1000000000 ^ i * br
  b1 : br ≤ 1
  bel : Below B w wr
theorem sb_arith (P o vb va br x y t b' : Nat) (h : o + vb = va + P * br) (ht : t + br + y = x + 1000000000 * b') : (o + P * t) + (vb + P * y) = (va + P * x) + P * 1000000000 * b' := by
  have : P * (t + br + y) = P * (x + 1000000000 * b') := by rw [ht]
  grind
theorem SbI.next {la lb : List Nat} {B i br : Nat} {w wr w' : World} {O : List Nat} {ov ov' : Value} (h : SbI la lb B w i br O ov wr) (t b' : Nat) (ht : t + br + lb.getD i 0 = la.getD i 0 + 1000000000 * b') (ht9 : t < 1000000000) (hb' : b' ≤ 1)
    (ho : Own 3 B w' ov' (ints (nl O) ++ [.int .i64 (t : Int)])) (hb : Below B w w') : SbI la lb B w (i + 1) b' (O ++ [t]) ov' w' := by
  refine ⟨?_, by simp [h.len], LoS h.lo ht9, ?_, hb', hb⟩
  · rw [nl_append, ints_append]; exact ho
  · rw [val_snocN, h.len, take_any, take_any, Nat.pow_succ]
    exact sb_arith _ _ _ _ _ _ _ _ _ h.vl ht
theorem SbI.done {la lb : List Nat} {B br : Nat} {w wr : World} {O : List Nat} {ov : Value} (h : SbI la lb B w la.length br O ov wr) (hl : lb.length ≤ la.length) (hv : val lb ≤ val la) : val O = val la - val lb := by
  have h1 := h.vl
  rw [List.take_length, List.take_of_length_le hl] at h1
  have h2 := val_lt O h.lo
  rw [h.len] at h2
  have h3 := h.b1
  have : br = 0 ∨ br = 1 := by omega
  rcases this with rfl | rfl
  · omega
  · rw [Nat.mul_one] at h1; omega
set_option maxRecDepth 100000 in
set_option maxHeartbeats 2000000 in
theorem sub_fr (va vb : Value) (la lb : List Nat) (w : World) (ha : LbA w va la) (hb : LbA w vb lb) (hloa : Lo la) (hlob : Lo lb) (hll : lb.length ≤ la.length) (hv : val lb ≤ val la) (hl : la.length ≤ 900000) :
    Calls Tryz.prog 143 #[va, vb] w fun e w' => ∃ v, e = .returned v ∧ LbA w' v (limbs (val la - val lb)) ∧ Below w.heap.size w w' ∧ Fr w.heap.size v := by
  obtain ⟨pa, ca, rfl, hca1, hca2⟩ := ha.form_
  obtain ⟨pb, cb, rfl, hcb1, hcb2⟩ := hb.form_
  have HA := Lib.hid ha
  have HB := Lib.hid hb
  have HLA := Lib.hid hloa
  have HLB := Lib.hid hlob
  have HV := Lib.hid (And.intro hll hv)
  obtain ⟨B, hB⟩ : ∃ B, w.heap.size = B := ⟨_, rfl⟩
  have HBB := Lib.hid hB
  clear ha hb hloa hlob hll hv
  go_enter Tryz.func143, Tryz.ntmps143
  go_wp2
  go_loopw [5, 6, 7] (fun ov bv iv wr => ∃ (i br : Nat) (O : List Nat), i ≤ la.length ∧ iv = .int .i64 (i : Nat) ∧ bv = .int .i64 (br : Nat) ∧ SbI la lb B w i br O ov wr) (fun _ _ iv _ => la.length - (intOf iv).toNat)
  case atStart => exact ⟨0, 0, [], Nat.zero_le _, rfl, rfl, ⟨World.ownsRow_nil _ _ _ _, rfl, (fun d hd => by cases hd), by simp [val], by omega, by rw [← HBB.out]; exact Below.refl _ _⟩⟩
  case round =>
    obtain ⟨i, br, O, hil, rfl, rfl, hI⟩ := hrel
    have HI := Lib.hid hI
    have HBS := Lib.hid (show B ≤ wr.heap.size by have := hI.bel.size; omega)
    have HOL := Lib.hid (show (ints (nl O)).length ≤ 1000000 by rw [ints_length, nl_length, hI.len]; omega)
    have hbr := hI.b1
    have gwi : IntKind.i64.wrap ((i : Int) + 1) = (i : Int) + 1 := by rw [show (i : Int) + 1 = ((i + 1 : Nat) : Int) by omega]; exact IntWalk.i64_in _ (by omega)
    clear hI
    by_cases hlt : i < la.length
    · obtain ⟨ada, ca', hva, _, _, hada, hca⟩ := HA.out.at_ i hlt
      injection hva with e1 _ e3
      subst e1 e3
      have kca : wr.cell? (ada.add i) = some (.int .i64 (la.getD i 0 : Nat)) := (HI.out.bel.cell (p := ada.add i) (by rw [block_add, ← HBB.out]; exact hada)).trans hca
      have hx9 := getD_lo HLA.out i
      have hy9 := getD_lo HLB.out i
      have HNX := Lib.hid (fun (t b' : Nat) (ov' : Value) (w' : World) (ht : t + br + lb.getD i 0 = la.getD i 0 + 1000000000 * b') (ht9 : t < 1000000000) (hb' : b' ≤ 1) (ho : Own 3 B w' ov' (ints (nl O) ++ [.int .i64 (t : Int)])) (hb : Below B wr w') => HI.out.next t b' ht ht9 hb' ho (HI.out.bel.trans hb))
      obtain ⟨x, hx⟩ : ∃ x, la.getD i 0 = x := ⟨_, rfl⟩
      have gil : (i : Int) < (la.length : Int) := by omega
      clear hca hada
      by_cases hlb : i < lb.length
      · obtain ⟨adb, cb', hvb, _, _, hadb, hcb⟩ := HB.out.at_ i hlb
        injection hvb with e4 _ e6
        subst e4 e6
        have kcb : wr.cell? (adb.add i) = some (.int .i64 (lb.getD i 0 : Nat)) := (HI.out.bel.cell (p := adb.add i) (by rw [block_add, ← HBB.out]; exact hadb)).trans hcb
        have gib : (i : Int) < (lb.length : Int) := by omega
        obtain ⟨y, hy⟩ : ∃ y, lb.getD i 0 = y := ⟨_, rfl⟩
        rw [hx] at kca hx9 HNX
        rw [hy] at kcb hy9 HNX
        clear hx hy hcb hadb hlb
        have gw1 : IntKind.i64.wrap ((x : Int) - (br : Int)) = (x : Int) - (br : Int) := IntWalk.i64_in _ (by omega)
        have gw2 : IntKind.i64.wrap ((x : Int) - (br : Int) - (y : Int)) = (x : Int) - (br : Int) - (y : Int) := IntWalk.i64_in _ (by omega)
        by_cases hn : ((x : Int) - (br : Int) - (y : Int)) < 0
        · obtain ⟨t, ht⟩ : ∃ t : Nat, (t : Int) = ((x : Int) - (br : Int) - (y : Int)) + 1000000000 := ⟨(((x : Int) - (br : Int) - (y : Int)) + 1000000000).toNat, by omega⟩
          have gt : ((x : Int) - (br : Int) - (y : Int)) + 1000000000 = (t : Int) := ht.symm
          have HT1 := Lib.hid ht
          have gwt : IntKind.i64.wrap (t : Int) = (t : Int) := IntWalk.i64_in _ (by omega)
          clear ht
          go_wp2_with (first | (at_builtin; refine wpList_append_box wr rfl (.tmp 35) (.tmp 37) 32 rfl 3 (.int .i64 0) 8 undN infoI rfl (by omega) B u5 (ints (nl O)) rfl HI.out.own (.int .i64 (t : Int)) rfl rfl HOL.out HBS.out ?_; intro v2 w2 hown2 hb2 hrest; have HO2 := Lib.hid hown2; have HB2 := Lib.hid hb2; clear hown2 hb2 hrest))
          go_roundw
          case rel => exact ⟨i + 1, 1, O ++ [t], by omega, by go_num, rfl, HNX.out t 1 _ _ (by have := HT1.out; omega) (by have := HT1.out; omega) (by omega) HO2.out HB2.out⟩
          case measure => simp [intOf]; omega
        · obtain ⟨t, ht⟩ : ∃ t : Nat, (t : Int) = ((x : Int) - (br : Int) - (y : Int)) := ⟨(((x : Int) - (br : Int) - (y : Int))).toNat, by omega⟩
          have gt : ((x : Int) - (br : Int) - (y : Int)) = (t : Int) := ht.symm
          have HT1 := Lib.hid ht
          have gtn : ¬ ((t : Int) < 0) := by omega
          clear ht hn
          go_wp2_with (first | (at_builtin; refine wpList_append_box wr rfl (.tmp 35) (.tmp 37) 32 rfl 3 (.int .i64 0) 8 undN infoI rfl (by omega) B u5 (ints (nl O)) rfl HI.out.own (.int .i64 (t : Int)) rfl rfl HOL.out HBS.out ?_; intro v2 w2 hown2 hb2 hrest; have HO2 := Lib.hid hown2; have HB2 := Lib.hid hb2; clear hown2 hb2 hrest))
          go_roundw
          case rel => exact ⟨i + 1, 0, O ++ [t], by omega, by go_num, rfl, HNX.out t 0 _ _ (by have := HT1.out; omega) (by have := HT1.out; omega) (by omega) HO2.out HB2.out⟩
          case measure => simp [intOf]; omega
      · have gib : ¬ ((i : Int) < (lb.length : Int)) := by omega
        have hy0 : lb.getD i 0 = 0 := by rw [List.getD_eq_getElem?_getD, List.getElem?_eq_none (by omega)]; rfl
        rw [hx] at kca hx9 HNX
        rw [hy0] at HNX
        clear hx hy0 hy9 hlb
        have gw1 : IntKind.i64.wrap ((x : Int) - (br : Int)) = (x : Int) - (br : Int) := IntWalk.i64_in _ (by omega)
        by_cases hn : ((x : Int) - (br : Int)) < 0
        · obtain ⟨t, ht⟩ : ∃ t : Nat, (t : Int) = ((x : Int) - (br : Int)) + 1000000000 := ⟨(((x : Int) - (br : Int)) + 1000000000).toNat, by omega⟩
          have gt : ((x : Int) - (br : Int)) + 1000000000 = (t : Int) := ht.symm
          have HT1 := Lib.hid ht
          have gwt : IntKind.i64.wrap (t : Int) = (t : Int) := IntWalk.i64_in _ (by omega)
          clear ht
          go_wp2_with (first | (at_builtin; refine wpList_append_box wr rfl (.tmp 35) (.tmp 37) 32 rfl 3 (.int .i64 0) 8 undN infoI rfl (by omega) B u5 (ints (nl O)) rfl HI.out.own (.int .i64 (t : Int)) rfl rfl HOL.out HBS.out ?_; intro v2 w2 hown2 hb2 hrest; have HO2 := Lib.hid hown2; have HB2 := Lib.hid hb2; clear hown2 hb2 hrest))
          go_roundw
          case rel => exact ⟨i + 1, 1, O ++ [t], by omega, by go_num, rfl, HNX.out t 1 _ _ (by have := HT1.out; omega) (by have := HT1.out; omega) (by omega) HO2.out HB2.out⟩
          case measure => simp [intOf]; omega
        · obtain ⟨t, ht⟩ : ∃ t : Nat, (t : Int) = ((x : Int) - (br : Int)) := ⟨(((x : Int) - (br : Int))).toNat, by omega⟩
          have gt : ((x : Int) - (br : Int)) = (t : Int) := ht.symm
          have HT1 := Lib.hid ht
          have gtn : ¬ ((t : Int) < 0) := by omega
          clear ht hn
          go_wp2_with (first | (at_builtin; refine wpList_append_box wr rfl (.tmp 35) (.tmp 37) 32 rfl 3 (.int .i64 0) 8 undN infoI rfl (by omega) B u5 (ints (nl O)) rfl HI.out.own (.int .i64 (t : Int)) rfl rfl HOL.out HBS.out ?_; intro v2 w2 hown2 hb2 hrest; have HO2 := Lib.hid hown2; have HB2 := Lib.hid hb2; clear hown2 hb2 hrest))
          go_roundw
          case rel => exact ⟨i + 1, 0, O ++ [t], by omega, by go_num, rfl, HNX.out t 0 _ _ (by have := HT1.out; omega) (by have := HT1.out; omega) (by omega) HO2.out HB2.out⟩
          case measure => simp [intOf]; omega
    · obtain rfl : i = la.length := by omega
      have hO := HI.out.done HV.out.1 HV.out.2
      have hT := trim_fr _ O wr HI.out.own.sl.toA (by rw [HI.out.len]; omega)
      have HFR := Lib.hid (Fr.own HI.out.own)
      rw [trimL_eq O HI.out.lo, hO] at hT
      have HT := Lib.hid hT
      obtain ⟨po, co, ho, _, _⟩ := LbA.form_ (HI.out.own.sl.toA)
      subst ho
      have HBEL := Lib.hid HI.out.bel
      clear hO hT hlt
      go_wp2_with fail
      refine HT.out.mono ?_
      rintro e w2 ⟨v2, rfl, hw2, hv2, hfr2⟩
      subst hw2
      have HVV := Lib.hid hv2
      have HF2 := Lib.hid (hfr2 B HFR.out)
      clear hv2 hfr2
      go_wp2
      go_ret
      exact ⟨_, rfl, HVV.out, by rw [HBB.out]; exact HBEL.out, by rw [HBB.out]; exact HF2.out⟩
theorem sub_go (va vb : Value) (la lb : List Nat) (w : World) (ha : LbA w va la) (hb : LbA w vb lb) (hloa : Lo la) (hlob : Lo lb) (hll : lb.length ≤ la.length) (hv : val lb ≤ val la) (hl : la.length ≤ 900000) :
    Calls Tryz.prog 143 #[va, vb] w (OutN w (limbs (val la - val lb))) :=
  (sub_fr va vb la lb w ha hb hloa hlob hll hv hl).mono fun e w' ⟨v, h1, h2, h3, _⟩ => ⟨v, h1, h2, h3⟩
end Go.Proofs.YtmhmkhdgpfhnfaaGreatDoor.Ref
/- The reference's naturals: division by a limb. -/
namespace Go.Proofs.YtmhmkhdgpfhnfaaGreatDoor.Ref
open Go.RowKit

theorem div_stepN (O d t m V r : Nat) (hm : 0 < m) (hv : V = m * O + r) (ht : t = r * 1000000000 + d) : d + 1000000000 * V = m * (t / m + 1000000000 * O) + t % m := by
  have e := Nat.div_add_mod t m
  grind
theorem div_ltN (t r d m : Nat) (hm : 0 < m) (hr : r < m) (hd : d < 1000000000) (ht : t = r * 1000000000 + d) : t / m < 1000000000 := by
  rw [Nat.div_lt_iff_lt_mul hm]
  have : (r + 1) * 1000000000 ≤ m * 1000000000 := Nat.mul_le_mul_right _ hr
  rw [Nat.mul_comm]; omega
theorem set_frontN (O : List Nat) (k v : Nat) : (List.replicate (k + 1) 0 ++ O).set k v = List.replicate k 0 ++ (v :: O) := by
  rw [List.replicate_succ', List.set_append_left (h := by simp), List.set_append_right (h := by simp)]
  simp
theorem nl_set (l : List Nat) (i v : Nat) : (ints (nl l)).set i (.int .i64 (v : Int)) = ints (nl (l.set i v)) := by
  rw [ints_set]; unfold nl; rw [List.map_set]
/-- where the loop of small stands -/
structure SmI (l : List Nat) (m B : Nat) (w : World) (k r : Nat) (O : List Nat) (wr : World) : Prop where
  len : O.length + k = l.length
  lo : Lo O
  rm : r < m
  vl : val (l.drop k) = m * val O + r
  row : Row 3 wr B (ints (nl (List.replicate k 0 ++ O)))
  bel : Below B w wr
theorem SmI.next {l : List Nat} {m B k r : Nat} {w wr : World} {O : List Nat} (h : SmI l m B w (k + 1) r O wr) (hlo : Lo l) (hm : 0 < m) : SmI l m B w k ((r * 1000000000 + l.getD k 0) % m) ((r * 1000000000 + l.getD k 0) / m :: O) (wr.setCell ⟨B, k, none⟩ (.int .i64 (((r * 1000000000 + l.getD k 0) / m : Nat) : Int))) := by
  refine ⟨by have := h.len; simp; omega, ?_, Nat.mod_lt _ hm, ?_, ?_, h.bel.setCell (Nat.le_refl _) _⟩
  · intro x hx
    rcases List.mem_cons.1 hx with rfl | hx
    · exact div_ltN _ r _ m hm h.rm (getD_lo hlo k) rfl
    · exact h.lo x hx
  · rw [drop_cons l k (by have := h.len; omega)]
    show l.getD k 0 + 1000000000 * val (l.drop (k + 1)) = m * ((r * 1000000000 + l.getD k 0) / m + 1000000000 * val O) + _
    rw [h.vl]
    exact div_stepN _ _ _ _ _ _ hm rfl rfl
  · have := h.row.store k (.int .i64 (((r * 1000000000 + l.getD k 0) / m : Nat) : Int))
    rw [nl_set, set_frontN] at this
    exact this
set_option maxRecDepth 100000 in
set_option maxHeartbeats 2000000 in
theorem small_go (v : Value) (l : List Nat) (m : Nat) (w : World) (h : LbA w v l) (hlo : Lo l) (hm : m ≤ 1000000000) (hm0 : 0 < m) (hl : l.length ≤ 900000) :
    Calls Tryz.prog 178 #[v, .int .i64 (m : Nat)] w fun e w' => ∃ v', e = .returned (.tuple #[v', .int .i64 (val l % m : Nat)]) ∧ LbA w' v' (limbs (val l / m)) ∧ Below w.heap.size w w' := by
  obtain ⟨p, cap, rfl, hc1, hc2⟩ := h.form_
  have H := Lib.hid h
  have HLO := Lib.hid hlo
  obtain ⟨n, hn⟩ : ∃ n, l.length = n := ⟨_, rfl⟩
  have HN := Lib.hid hn
  rw [hn] at hc1 hl ⊢
  clear h hlo hn
  go_enter Tryz.func178, Tryz.ntmps178
  go_wp2_with (first | (at_make; refine wpList_make_row _ rfl _ _ 32 rfl 3 (.int .i64 0) 8 undN infoI rfl .i64 .i64 _ _ n rfl rfl ?d1 ?d2 ?d3 ?d4 ?_))
  case d1 => rfl
  case d2 => rfl
  case d3 => omega
  case d4 => unfold maxLen; omega
  intro w1 hrow hbel
  obtain ⟨B, hB⟩ : ∃ B, w.heap.size = B := ⟨_, rfl⟩
  rw [hB] at hrow hbel ⊢
  have HI0 : Hid (SmI l m B w n 0 [] w1) := ⟨by simp [HN.out], (fun d hd => by cases hd), hm0, by rw [← HN.out]; simp [val], by
    rw [List.append_nil]
    have : ints (nl (List.replicate n 0)) = List.replicate n (.int .i64 0) := by unfold ints nl; simp
    rw [this]; exact hrow, hbel⟩
  have gw : IntKind.i64.wrap ((n : Int) - 1) = (n : Int) - 1 := IntWalk.i64_in _ (by omega)
  have HB := Lib.hid hB
  clear hrow hbel hB
  go_wp2
  go_loopg [7, 8] n (fun k rv iv wr => ∃ (r : Nat) (O : List Nat), rv = .int .i64 (r : Nat) ∧ iv = .int .i64 ((k : Int) - 1) ∧ k ≤ n ∧ SmI l m B w k r O wr)
  case atStart => exact ⟨0, [], rfl, rfl, Nat.le_refl _, HI0.out⟩
  case round =>
    clear HI0
    obtain ⟨r, O, rfl, rfl, hk, hI⟩ := hrel
    have HI := Lib.hid hI
    by_cases h0 : gk = 0
    · subst h0
      have hv := hI.vl
      rw [List.drop_zero] at hv
      have hr := hI.rm
      have hq : val l / m = val O := by
        rw [hv, Nat.mul_add_div hm0, Nat.div_eq_of_lt hr, Nat.add_zero]
      have hmo : val l % m = r := by
        rw [hv, Nat.mul_add_mod, Nat.mod_eq_of_lt hr]
      have hrow := hI.row
      rw [List.replicate_zero, List.nil_append] at hrow
      have hOl : O.length = n := by have := hI.len; rw [HN.out] at this; omega
      have hsl : LbA wr (.slice (some ⟨B, 0, none⟩) n n) O := by
        have := (Sl.of_row (T := 3) (w := wr) (g := B) (cap := n) (xs := ints (nl O)) (more := []) (by rw [List.append_nil]; exact hrow) (by rw [ints_length, nl_length, hOl]; exact Nat.le_refl _) (by unfold maxLen; omega)).toA
        rw [ints_length, nl_length, hOl] at this
        exact this
      have hT := trim_go _ O wr hsl (by omega)
      rw [trimL_eq O hI.lo, ← hq] at hT
      have HT := Lib.hid hT
      have HBEL := Lib.hid hI.bel
      have HMO := Lib.hid hmo
      clear hI hv hr hq hmo hrow hOl hsl hT
      go_wp2_with fail
      refine HT.out.mono ?_
      rintro e w2 ⟨v2, rfl, hw2, hv2⟩
      subst hw2
      have HVV := Lib.hid hv2
      clear hv2
      go_wp2
      go_ret2
      exact ⟨_, by rw [HMO.out]; rfl, HVV.out, by rw [HB.out]; exact HBEL.out⟩
    · obtain ⟨k, rfl⟩ : ∃ k, gk = k + 1 := ⟨gk - 1, by omega⟩
      obtain ⟨ad, cap', hva, _, _, had, hca⟩ := H.out.at_ k (by rw [HN.out]; omega)
      rw [HN.out] at hva
      injection hva with e1 _ e3
      subst e1 e3
      have kca : wr.cell? (ad.add k) = some (.int .i64 (l.getD k 0 : Nat)) := (hI.bel.cell (p := ad.add k) (by rw [block_add, ← HB.out]; exact had)).trans hca
      have hd9 := getD_lo HLO.out k
      have hr9 := hI.rm
      have kB : wr.cell? ⟨B, k, none⟩ = some (.int .i64 0) := by
        rw [hI.row.cell, ints_get _ _ (by rw [nl_length, List.length_append, List.length_replicate]; omega), nl_getD]
        have : (List.replicate (k + 1) 0 ++ O).getD k 0 = 0 := by
          rw [List.getD_eq_getElem?_getD, List.getElem?_append_left (by simp), List.getElem?_replicate, if_pos (by omega)]; rfl
        rw [this]; rfl
      have fB := hI.row.free k
      have HNX := Lib.hid (hI.next HLO.out hm0)
      obtain ⟨d, hd⟩ : ∃ d, l.getD k 0 = d := ⟨_, rfl⟩
      rw [hd] at kca hd9 HNX
      obtain ⟨s, hs⟩ : ∃ s, r * 1000000000 + d = s := ⟨_, rfl⟩
      rw [hs] at HNX
      have gs : (r : Int) * 1000000000 + (d : Int) = (s : Int) := by omega
      have gwm : IntKind.i64.wrap ((r : Int) * 1000000000) = (r : Int) * 1000000000 := IntWalk.i64_in _ (by omega)
      have gws : IntKind.i64.wrap (s : Int) = (s : Int) := IntWalk.i64_in _ (by omega)
      have grem : (s : Int).tmod (m : Int) = ((s % m : Nat) : Int) := tmodN s m
      have gquo : (s : Int).tdiv (m : Int) = ((s / m : Nat) : Int) := tdivN s m
      have hq9 : s / m < 1000000000 := div_ltN s r d m hm0 hr9 hd9 hs.symm
      have hr9' : s % m < m := Nat.mod_lt _ hm0
      obtain ⟨q, hq⟩ : ∃ q, s / m = q := ⟨_, rfl⟩
      obtain ⟨r', hr'⟩ : ∃ r', s % m = r' := ⟨_, rfl⟩
      rw [hq] at HNX gquo hq9
      rw [hr'] at HNX grem hr9'
      have ge : ((k + 1 : Nat) : Int) - 1 = (k : Int) := by omega
      rw [ge]
      have gk0 : (0 : Int) ≤ (k : Int) := by omega
      have gkn : (k : Int) < (n : Int) := by omega
      have gm0 : ¬ ((m : Int) = 0) := by omega
      have gw2 : IntKind.i64.wrap ((k : Int) - 1) = (k : Int) - 1 := IntWalk.i64_in _ (by omega)
      clear hI hca had hd hs hq hr' ge h0
      go_wp2
      go_roundg k
      case measure => omega
      case rel => exact ⟨r', q :: O, rfl, rfl, by omega, HNX.out⟩
end Go.Proofs.YtmhmkhdgpfhnfaaGreatDoor.Ref
/- The reference's naturals: the arithmetic of DivN. -/
namespace Go.Proofs.YtmhmkhdgpfhnfaaGreatDoor.Ref
open Go.RowKit

theorem limbs_mono {a b : Nat} (h : a ≤ b) : (limbs a).length ≤ (limbs b).length := by
  rcases Nat.lt_or_ge (limbs b).length (limbs a).length with h1 | h1
  · have := len_lt h1; omega
  · exact h1
theorem trim_cons (d r : Nat) (hd : d < 1000000000) : trimL (d :: limbs r) = limbs (d + 1000000000 * r) := by
  rw [trimL_eq _ (by intro x hx; rcases List.mem_cons.1 hx with rfl | hx; exact hd; exact Lo_limbs r x hx)]
  show limbs (d + 1000000000 * val (limbs r)) = _
  rw [val_limbs]
theorem val_cutN (l : List Nat) (i : Nat) (h : i ≤ l.length) : val l = val (l.take i) + 1000000000 ^ i * val (l.drop i) := by
  conv => lhs; rw [← List.take_append_drop i l]
  rw [val_append, List.length_take, Nat.min_eq_left h]
theorem val_lt1 {l : List Nat} (h : Lo l) (hl : l.length ≤ 1) : val l < 1000000000 := by
  rcases l with _ | ⟨x, _ | ⟨y, l⟩⟩
  · simp [val]
  · have := h x (by simp); simp [val]; omega
  · simp at hl
theorem val_lt2 {l : List Nat} (h : Lo l) (hl : l.length ≤ 2) : val l < 1000000000000000000 := by
  rcases l with _ | ⟨x, _ | ⟨y, _ | ⟨z, l⟩⟩⟩
  · simp [val]
  · have := h x (by simp); simp [val]; omega
  · have := h x (by simp); have := h y (by simp); simp [val]; omega
  · simp at hl
theorem est_num {P Y r top T n q lo lo' : Nat} (hY : Y ≤ r) (hYe : Y = lo + P * T) (hlo : lo < P) (hr : r = lo' + P * top) (hq : q = top / (T + 1)) (hn : n = 1 ∨ n ≤ q) : n * Y ≤ r := by
  rcases hn with rfl | hn
  · omega
  · have h1 : q * (T + 1) ≤ top := by rw [hq]; exact Nat.div_mul_le_self _ _
    have h2 : Y ≤ P * (T + 1) := by rw [Nat.mul_add, Nat.mul_one]; omega
    calc n * Y ≤ q * (P * (T + 1)) := Nat.mul_le_mul hn h2
      _ = P * (q * (T + 1)) := by grind
      _ ≤ P * top := Nat.mul_le_mul_left _ h1
      _ ≤ r := by omega
theorem est_fits (r Y m n : Nat) (hm : (limbs Y).length = m + 1) (hY : Y ≤ r)
    (hn : n = max 1 (min 999999999 (val ((limbs r).drop m) / ((limbs Y).getD m 0 + 1)))) : n * Y ≤ r ∧ 1 ≤ n ∧ n ≤ 999999999 := by
  refine ⟨?_, by omega, by omega⟩
  have hlr := limbs_mono hY
  have e1 := val_split (limbs Y) m (by omega)
  have e2 := val_cutN (limbs r) m (by omega)
  have e3 : (limbs Y).drop (m + 1) = [] := List.drop_of_length_le (by omega)
  have e4 := val_lt ((limbs Y).take m) ((Lo_limbs Y).take m)
  rw [List.length_take, Nat.min_eq_left (by omega)] at e4
  rw [e3, val_limbs] at e1
  rw [val_limbs] at e2
  have e5 : (limbs Y).getD m 0 + 1000000000 * val [] = (limbs Y).getD m 0 := by simp [val]
  rw [e5] at e1
  exact est_num hY e1 e4 e2 rfl (by omega)
theorem ifI (e k : Nat) : (if (e : Int) < (k : Int) then (e : Int) else (k : Int)) = (((if e < k then e else k) : Nat) : Int) := by
  by_cases h : e < k
  · rw [if_pos h, if_pos (by omega)]
  · rw [if_neg h, if_neg (by omega)]
theorem ifJ (e : Nat) : (if (1 : Int) < (e : Int) then (e : Int) else 1) = (((if 1 < e then e else 1) : Nat) : Int) := by
  by_cases h : 1 < e
  · rw [if_pos h, if_pos (by omega)]
  · rw [if_neg h, if_neg (by omega)]; rfl
theorem est_fits2 {r Y m n top T e e2 : Nat} {L : List Nat} (hm : (limbs Y).length = m + 1) (hY : Y ≤ r) (hL : limbs r = L) (htop : val (L.drop m) = top) (hT : (limbs Y).getD m 0 = T)
    (he : top / (T + 1) = e) (he2 : (if e < 999999999 then e else 999999999) = e2) (hn : (if 1 < e2 then e2 else 1) = n) : n * Y ≤ r ∧ 1 ≤ n ∧ n ≤ 999999999 := by
  refine est_fits r Y m n hm hY ?_
  rw [hL, htop, hT, he, ← hn, ← he2]
  split <;> split <;> omega
/-- where DivN's loop over the limbs stands -/
structure DvI (lx : List Nat) (Y B : Nat) (w : World) (k r : Nat) (Q : List Nat) (wr : World) : Prop where
  len : Q.length + k = lx.length
  lo : Lo Q
  rm : r < Y
  vl : val (lx.drop k) = Y * val Q + r
  row : Row 3 wr B (ints (nl (List.replicate k 0 ++ Q)))
  bel : Below B w wr
/-- where the loop for one limb of the quotient stands -/
structure DmI (X Y B k : Nat) (Q : List Nat) (w : World) (r q : Nat) (wr : World) : Prop where
  vl : X = Y * q + r
  row : Row 3 wr B (ints (nl (List.replicate k 0 ++ (q :: Q))))
  bel : Below B w wr
theorem set_midN (Q : List Nat) (k q v : Nat) : (List.replicate k 0 ++ (q :: Q)).set k v = List.replicate k 0 ++ (v :: Q) := by
  rw [List.set_append_right (h := by simp)]
  simp
theorem get_midN (Q : List Nat) (k q : Nat) : (List.replicate k 0 ++ (q :: Q)).getD k 0 = q := by
  rw [List.getD_eq_getElem?_getD, List.getElem?_append_right (by simp)]; simp
theorem DvI.limb {lx : List Nat} {Y B k r : Nat} {w wr : World} {Q : List Nat} (h : DvI lx Y B w (k + 1) r Q wr) (hlo : Lo lx) : lx.getD k 0 + 1000000000 * r < Y * 1000000000 := by
  have h1 := h.rm
  have h2 := getD_lo hlo k
  have h3 : (r + 1) * 1000000000 ≤ Y * 1000000000 := Nat.mul_le_mul_right _ h1
  omega
theorem DvI.start {lx : List Nat} {Y B k r : Nat} {w wr w' : World} {Q : List Nat} (h : DvI lx Y B w (k + 1) r Q wr) (hb : Below (B + 1) wr w') : DmI (lx.getD k 0 + 1000000000 * r) Y B k Q w (lx.getD k 0 + 1000000000 * r) 0 w' := by
  refine ⟨by omega, ?_, h.bel.trans (hb.mono (by omega))⟩
  have := h.row.below hb (by omega)
  rw [show List.replicate (k + 1) 0 ++ Q = List.replicate k 0 ++ (0 :: Q) by rw [List.replicate_succ', List.append_assoc]; rfl] at this
  exact this
theorem DmI.small {X Y B k r q : Nat} {Q : List Nat} {w wr : World} (h : DmI X Y B k Q w r q wr) (hX : X < Y * 1000000000) : q < 1000000000 := by
  have h1 := h.vl
  rcases Nat.lt_or_ge q 1000000000 with h2 | h2
  · exact h2
  · have : Y * 1000000000 ≤ Y * q := Nat.mul_le_mul_left _ h2
    omega
theorem DmI.next {X Y B k r q n : Nat} {Q : List Nat} {w wr w' : World} (h : DmI X Y B k Q w r q wr) (hn : n * Y ≤ r) (hb : Below (B + 1) wr w') : DmI X Y B k Q w (r - Y * n) (q + n) (w'.setCell ⟨B, k, none⟩ (.int .i64 ((q + n : Nat) : Int))) := by
  refine ⟨?_, ?_, (h.bel.trans (hb.mono (by omega))).setCell (Nat.le_refl _) _⟩
  · rw [Nat.mul_comm] at hn
    rw [h.vl, Nat.mul_add]; omega
  · have := (h.row.below hb (by omega)).store k (.int .i64 ((q + n : Nat) : Int))
    rw [nl_set, set_midN] at this
    exact this
theorem DmI.done {lx : List Nat} {Y B k r0 r q : Nat} {w wr w' : World} {Q : List Nat} (h : DvI lx Y B w (k + 1) r0 Q wr) (hm : DmI (lx.getD k 0 + 1000000000 * r0) Y B k Q w r q w') (hlo : Lo lx) (hr : r < Y) : DvI lx Y B w k r (q :: Q) w' := by
  refine ⟨by have := h.len; simp; omega, ?_, hr, ?_, hm.row, hm.bel⟩
  · intro x hx
    rcases List.mem_cons.1 hx with rfl | hx
    · exact hm.small (h.limb hlo)
    · exact h.lo x hx
  · rw [drop_cons lx k (by have := h.len; omega)]
    show lx.getD k 0 + 1000000000 * val (lx.drop (k + 1)) = Y * (q + 1000000000 * val Q) + r
    rw [h.vl]
    have := hm.vl
    generalize lx.getD k 0 = d at *
    generalize val Q = V at *
    grind
theorem DvI.init (lx : List Nat) (Y B : Nat) (w w' : World) (hY : 0 < Y) (hr : Row 3 w' B (ints (nl (List.replicate lx.length 0)))) (hb : Below B w w') : DvI lx Y B w lx.length 0 [] w' :=
  ⟨by simp, (fun d hd => by cases hd), hY, by rw [List.drop_length]; simp [val], by rw [List.append_nil]; exact hr, hb⟩
theorem DvI.done {lx : List Nat} {Y B r : Nat} {w wr : World} {Q : List Nat} (h : DvI lx Y B w 0 r Q wr) : val Q = val lx / Y ∧ r = val lx % Y := by
  have h1 := h.vl
  rw [List.drop_zero] at h1
  have h2 := h.rm
  refine ⟨?_, ?_⟩
  · rw [h1, Nat.mul_add_div (by omega), Nat.div_eq_of_lt h2, Nat.add_zero]
  · rw [h1, Nat.mul_add_mod, Nat.mod_eq_of_lt h2]
end Go.Proofs.YtmhmkhdgpfhnfaaGreatDoor.Ref
