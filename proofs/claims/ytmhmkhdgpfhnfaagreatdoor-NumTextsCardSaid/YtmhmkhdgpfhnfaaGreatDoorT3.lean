/- The program's naturals as strings. -/
import Derived.Test.YtmhmkhdgpfhnfaaGreatDoorD1
import Derived.Test.YtmhmkhdgpfhnfaaGreatDoorT2
import Derived.Test.YtmhmkhdgpfhnfaaGreatDoorShelf
set_option linter.unusedVariables false
set_option linter.unusedSimpArgs false
set_option linter.unnecessarySimpa false
namespace Go.Proofs.YtmhmkhdgpfhnfaaGreatDoor
open Go.RowKit Go.Lib

/-- the library's table of powers of ten is there -/
abbrev TabW (w : World) : Prop := Lib.TabIs Tryz.prog w "internal/strconv.uint64pow10" .u64 Lib.pow10Tab
theorem TabW.below {w w' : World} (h : TabW w) (hb : Below w.heap.size w w') : TabW w' := tabBelow_of_tabIs h w' hb
theorem appendUint_any (B u : Nat) (hu : u < 18446744073709551616) (sv : Value) (bs : List UInt8) (w : World) (hown : Ref.Own 5 B w sv (Ref.bys bs)) (hB : B ≤ w.heap.size) (hlim : bs.length ≤ 1000000000) (hT : TabW w) :
    Calls Tryz.prog 133 #[sv, .int .u64 (u : Nat), .int .i64 10] w fun e w' => ∃ v', e = .returned v' ∧ Ref.Own 5 B w' v' (Ref.bys (bs ++ decDigits u)) ∧ Below B w w' := by
  have hC := Tryz.internal_strconv_AppendUint_10 B (Ref.bys bs).length u hu sv (Ref.bys bs) w hown hB (by rw [Ref.bys_length]; omega) hT
  have HC := Lib.hid hC
  clear hC hown hT
  go_enter Tryz.func133, Tryz.ntmps133
  go_wp2_with fail
  refine HC.out.mono ?_
  rintro e w' ⟨v', rfl, ho, hb, _⟩
  have HO : Hid (Ref.Own 5 B w' v' (Ref.bys (bs ++ decDigits u))) := by
    show World.ownsRow _ _ _ _ _ _ _
    rw [Ref.bys_append, List.length_append, Ref.bys_length (decDigits u)]
    exact ho
  have HB := Lib.hid hb
  clear ho hb HC
  go_wp2
  go_ret
  exact ⟨_, rfl, HO.out, HB.out⟩
theorem digs_nDigits (n : Nat) : digs n = nDigits n := by
  induction n using Nat.strongRecOn with
  | _ n ih =>
    by_cases h : n < 10
    · rw [digs_lt n h, nDigits_small h]
    · rw [digs_ge n h, nDigits_big h, ih (n / 10) (by omega)]; omega
theorem drop_ne {n j : Nat} (h : j < (limbs n).length) : val ((limbs n).drop j) ≠ 0 := by
  intro h0
  have hn : n ≠ 0 := fun e => by rw [e, limbs_zero] at h; simp at h
  have h1 := val_drop_split (limbs n) j (by omega)
  rw [h0, Nat.mul_zero, Nat.add_zero, val_limbs] at h1
  have h2 := val_lt ((limbs n).take j) ((Lo_limbs n).take j)
  rw [← h1, List.length_take, Nat.min_eq_left (by omega)] at h2
  have h3 := limbs_lower n hn
  have h4 : 1000000000 ^ j ≤ 1000000000 ^ ((limbs n).length - 1) := Nat.pow_le_pow_right (by decide) (by omega)
  omega
theorem dec_drop_len {n j K : Nat} (h : (limbs n).length = K) (hj : j < K) : (decDigits (val ((limbs n).drop j))).length ≤ 9 * K := by
  rw [decDigits_length]
  refine Nat.le_trans (nDigits_le (k := 9 * (K - j)) ?_ (by omega)) (by omega)
  have := val_lt ((limbs n).drop j) ((Lo_limbs n).drop j)
  rw [List.length_drop, h] at this
  rw [Nat.pow_mul]
  exact this
/-- so much of the string stands in b -/
structure StS (n B : Nat) (w wr : World) (j : Nat) (bv : Value) : Prop where
  own : Ref.Own 5 B wr bv (Ref.bys (decDigits (val ((limbs n).drop j))))
  bel : Below B w wr
set_option maxRecDepth 100000 in
set_option maxHeartbeats 4000000 in
theorem natString_any (x : Value) (n : Nat) (w : World) (hx : Rd .u32 w x (limbs n)) (hl : (limbs n).length ≤ 100000) (hT : TabW w) :
    Calls Tryz.prog 73 #[x] w fun e w' => e = .returned (.string ⟨(decDigits n).toArray⟩) ∧ Below w.heap.size w w' := by
  by_cases h0 : n = 0
  · subst h0
    obtain ⟨p, cap, rfl, hlc, hcm, hn, hp⟩ := hx
    obtain ⟨rfl, rfl⟩ := hn limbs_zero
    rw [limbs_zero]
    have HE : Hid ((decDigits 0).toArray = #[48]) := by
      show _ = _
      rw [decDigits_one (by omega)]
      rfl
    clear hn hp hlc hcm hl hT
    go_enter Tryz.func73, Tryz.ntmps73
    go_wp2
    go_ret
    exact ⟨by rw [HE.out]; rfl, Below.refl _ _⟩
  · obtain ⟨K, hK⟩ : ∃ K, (limbs n).length = K + 1 := by
      have : (limbs n).length ≠ 0 := fun e => h0 ((limbs_nil_iff n).1 (List.length_eq_zero_iff.1 e))
      exact ⟨(limbs n).length - 1, by omega⟩
    have HX := Lib.hid hx
    obtain ⟨p, cap, rfl, hlc, hcm, hn, hp⟩ := hx
    obtain ⟨b, off, rfl, hb, hcells⟩ := hp (by omega)
    have HCELL := Lib.hid hcells
    have HBW := Lib.hid hb
    have HK := Lib.hid hK
    have HT := Lib.hid hT
    obtain ⟨i0, hi, hz0, hz1, hz2⟩ := info_parts Ref.infoB
    have c0 := hcells K (by omega)
    have hd9 := (Lo_limbs n).getD K
    have htop : val ((limbs n).drop K) = (limbs n).getD K 0 := by
      have e : (limbs n).drop K = [(limbs n).getD K 0] := by
        rw [List.drop_eq_getElem_cons (by omega), List.getD_eq_getElem?_getD, List.getElem?_eq_getElem (by omega), List.drop_of_length_le (by omega)]; rfl
      rw [e]; simp [val]
    have HTOP := Lib.hid htop
    obtain ⟨d, hd⟩ : ∃ d, (limbs n).getD K 0 = d := ⟨_, rfl⟩
    rw [hd] at c0 hd9 HTOP
    rw [hK] at hl hlc ⊢
    have gk0 : ¬ (((K + 1 : Nat) : Int) = 0) := by omega
    have gk1 : ((K + 1 : Nat) : Int) - 1 = (K : Int) := by omega
    have gk2 : ((K + 1 : Nat) : Int) - 2 = (K : Int) - 1 := by omega
    have gwk : IntKind.i64.wrap (K : Int) = (K : Int) := IntWalk.i64_in _ (by omega)
    have gwk2 : IntKind.i64.wrap ((K : Int) - 1) = (K : Int) - 1 := IntWalk.i64_in _ (by omega)
    have gwk9 : IntKind.i64.wrap (((K : Int) + 1) * 9) = ((K : Int) + 1) * 9 := IntWalk.i64_in _ (by omega)
    have gwu : IntKind.u64.wrap (d : Int) = (d : Int) := by rw [IntKind.wrap_u64]; omega
    clear hn hp hcells hb hT hd htop hcm hlc hK
    obtain ⟨S, hS⟩ : ∃ S : ByteArray, ⟨(decDigits n).toArray⟩ = S := ⟨_, rfl⟩
    rw [hS]
    have HS := Lib.hid hS
    clear hS
    obtain ⟨B, hB⟩ : ∃ B, w.heap.size = B := ⟨_, rfl⟩
    have HB := Lib.hid hB
    clear hB
    go_enter Tryz.func73, Tryz.ntmps73
    go_upto_region 3 with (fail)
    go_wp2_with (first | (at_make; refine wpList_make_own w rfl _ _ 111 rfl B 5 i0 (.int .u8 0) 1 Ref.undB hi hz0 hz1 .i64 .i64 _ ((K + 1) * 9) rfl rfl ?d1 ?d2 ?d3 ?d4 ?_))
    case d1 => omega
    case d2 => rw [hz2]; omega
    case d3 => unfold maxLen; omega
    case d4 => rw [HB.out]; exact Nat.le_refl _
    intro w1 hown1 hg1
    have hb1 : Below B w w1 := (Below.refl B w).grown hg1 (by rw [HB.out]; exact Nat.le_refl _) (fun k hk => by cases hk)
    have c1 : w1.cell? ⟨b, off + K, none⟩ = some (.int .u32 (d : Nat)) := (hb1.cell (p := ⟨b, off + K, none⟩) (by rw [← HB.out]; exact HBW.out)).trans c0
    have hs1 : B ≤ w1.heap.size := by rw [← HB.out]; exact hb1.size
    have hT1 : TabW w1 := HT.out.below (by rw [HB.out]; exact hb1)
    have hA := appendUint_any B d (by omega) _ [] w1 hown1 hs1 (by simp) hT1
    have HA := Lib.hid hA
    have HB1 := Lib.hid hb1
    have HTW := Lib.hid hT1
    clear hown1 hg1 hb1 c0 hT1 hA hs1
    go_wp2_with fail
    refine HA.out.mono ?_
    rintro e w2 ⟨v2, rfl, ho2, hb2⟩
    have HI0 : Hid (StS n B w w2 K v2) := ⟨by rw [HTOP.out]; exact ho2, HB1.out.trans hb2⟩
    clear ho2 hb2 HA HTW HB1 c1
    go_wp2_with fail
    go_loopg [3, 4] K (fun j bv iv wr => iv = .int .i64 ((j : Int) - 1) ∧ j ≤ K ∧ StS n B w wr j bv)
    case atStart => exact ⟨congrArg (Value.int .i64) (by omega), Nat.le_refl _, HI0.out⟩
    case round =>
      clear HI0
      obtain ⟨rfl, hjK, hI⟩ := hrel
      have HI := Lib.hid hI
      have HBR : Hid (Below w.heap.size w wr) := by show _; rw [HB.out]; exact hI.bel
      have hTr : TabW wr := HT.out.below HBR.out
      have hBs : B ≤ wr.heap.size := by have := HBR.out.size; rw [HB.out] at this; exact this
      have HBS := Lib.hid hBs
      have HTR := Lib.hid hTr
      clear hI hTr hBs
      by_cases hj0 : gk = 0
      · subst hj0
        have gneg : ¬ ((0 : Int) ≤ ((0 : Nat) : Int) - 1) := by omega
        have ho := HI.out.own
        rw [List.drop_zero, val_limbs] at ho
        have hconv := Ref.str_of ho
        rw [HS.out] at hconv
        rw [show ((0 : Nat) : Int) - 1 = -1 by omega]
        clear ho gneg
        go_wp2_with fail
        go_ret
        exact ⟨rfl, HBR.out⟩
      · obtain ⟨i, rfl⟩ : ∃ i, gk = i + 1 := ⟨gk - 1, by omega⟩
        have ge1 : ((i + 1 : Nat) : Int) - 1 = (i : Int) := by omega
        have gpos : (0 : Int) ≤ (i : Int) := by omega
        have gwi : IntKind.i64.wrap ((i : Int) - 1) = (i : Int) - 1 := IntWalk.i64_in _ (by omega)
        have ginb : (i : Int) < ((K + 1 : Nat) : Int) := by omega
        have hcw : w.cell? ⟨b, off + i, none⟩ = some (.int .u32 ((limbs n).getD i 0 : Nat)) := HCELL.out i (by rw [HK.out]; omega)
        have hci : wr.cell? ⟨b, off + i, none⟩ = some (.int .u32 ((limbs n).getD i 0 : Nat)) := (HBR.out.cell (p := ⟨b, off + i, none⟩) HBW.out).trans hcw
        have hd9i := (Lo_limbs n).getD i
        have HDL := Lib.hid (dec_limb (l := limbs n) (i := i) (by rw [HK.out]; omega) (Lo_limbs n) (drop_ne (by rw [HK.out]; omega)))
        have HLN := Lib.hid (dec_drop_len HK.out (show i + 1 < K + 1 by omega))
        have HLI := Lib.hid (dec_drop_len HK.out (show i < K + 1 by omega))
        obtain ⟨x, hx⟩ : ∃ x, (limbs n).getD i 0 = x := ⟨_, rfl⟩
        rw [hx] at hci hd9i HDL
        obtain ⟨V, hV⟩ : ∃ V, val ((limbs n).drop (i + 1)) = V := ⟨_, rfl⟩
        have ho := HI.out.own
        rw [hV] at HDL HLN ho
        have HO := Lib.hid ho
        have hdg := digs_le x 9 (by omega) (by omega)
        obtain ⟨Z, hZ⟩ : ∃ Z, Z + digs x = 9 := ⟨9 - digs x, by omega⟩
        have HZ : Hid (9 - nDigits x = Z) := by show _ = _; rw [← digs_nDigits]; omega
        obtain ⟨g, hg⟩ : ∃ g, digs x = g := ⟨_, rfl⟩
        rw [hg] at hZ hdg
        have HLM := Lib.hid (limbLength_any x wr hd9i)
        rw [hg] at HLM
        have gz9 : (9 : Int) - (g : Int) = (Z : Int) := by omega
        have gwz : IntKind.i64.wrap (Z : Int) = (Z : Int) := IntWalk.i64_in _ (by omega)
        have gwux : IntKind.u64.wrap (x : Int) = (x : Int) := by rw [IntKind.wrap_u64]; omega
        obtain ⟨wo, hwo⟩ : ∃ wo : World, wo = wr := ⟨_, rfl⟩
        subst hwo
        rw [ge1]
        clear hcw hx hV ho hg hj0 ge1
        go_wp2_with fail
        refine HLM.out.mono ?_
        rintro e w3 ⟨rfl, hw3⟩
        subst hw3
        clear HLM
        go_wp2_with fail
        have HRE := Lib.hid (fun (w' : World) (hb : Below B wo w') => (HI.out.bel.trans hb : Below B w w'))
        go_loopg [3, 34] Z (fun k bv cv wi => ∃ c : Nat, cv = .int .i64 (c : Nat) ∧ k = Z - c ∧ c ≤ Z ∧ Ref.Own 5 B wi bv (Ref.bys (decDigits V ++ List.replicate c 48)) ∧ Below B wo wi)
        case atStart => exact ⟨0, rfl, rfl, Nat.zero_le _, by rw [List.replicate_zero, List.append_nil]; exact HO.out, Below.refl _ _⟩
        case round =>
          clear HO HI
          obtain ⟨c, rfl, hk, hc, ho, hb⟩ := hrel
          have HO := Lib.hid ho
          have HBB := Lib.hid hb
          have HKC := Lib.hid hk
          clear ho hb hk
          have HBT := Lib.hid (show B ≤ wr.heap.size from Nat.le_trans HBS.out HBB.out.size)
          by_cases hcz : c < Z
          · have gc : (c : Int) < (Z : Int) := by omega
            have gwc : IntKind.i64.wrap ((c : Int) + 1) = (c : Int) + 1 := by rw [show (c : Int) + 1 = ((c + 1 : Nat) : Int) by omega]; exact IntWalk.i64_in _ (by omega)
            have HLQ := Lib.hid (show (Ref.bys (decDigits V ++ List.replicate c 48)).length ≤ 1000000 by rw [Ref.bys_length, List.length_append, List.length_replicate]; have := HLN.out; omega)
            clear hcz
            go_wp2_with (first | (at_builtin; refine Ref.wpList_append_box wr rfl (.tmp 36) (.tmp 37) 111 rfl 5 (.int .u8 0) 1 Ref.undB Ref.infoB rfl (by omega) B u3 (Ref.bys (decDigits V ++ List.replicate c 48)) rfl HO.out (.int .u8 48) rfl rfl HLQ.out HBT.out ?_; intro v3 w4 hown3 hb3 hrest; have HO3 := Lib.hid hown3; have HB3 := Lib.hid (HBB.out.trans hb3); clear hown3 hb3 hrest))
            go_roundg (Z - (c + 1))
            case measure => rw [HKC.out]; omega
            case rel =>
              refine ⟨c + 1, by go_num, rfl, by omega, ?_, HB3.out⟩
              have := HO3.out
              rw [List.replicate_succ', ← List.append_assoc, Ref.bys_append]
              exact this
          · obtain rfl : c = Z := by omega
            have gc : ¬ ((c : Int) < (c : Int)) := by omega
            have hBw : Below w.heap.size w wr := by rw [HB.out]; exact HRE.out wr HBB.out
            have hTr : TabW wr := HT.out.below hBw
            have hci2 : wr.cell? ⟨b, off + i, none⟩ = some (.int .u32 (x : Nat)) := by
              have h1 := HBB.out.cell (p := ⟨b, off + i, none⟩) (by rw [← HB.out]; exact HBW.out)
              exact h1.trans hci
            have HA := Lib.hid (appendUint_any B x (by omega) u3 (decDigits V ++ List.replicate c 48) wr HO.out HBT.out (by rw [List.length_append, List.length_replicate]; have := HLN.out; omega) hTr)
            clear hci hcz hTr hBw
            go_wp2_with fail
            refine HA.out.mono ?_
            rintro e w5 ⟨v5, rfl, ho5, hb5⟩
            have HI5 : Hid (StS n B w w5 i v5) := by
              refine ⟨?_, HRE.out w5 (HBB.out.trans hb5)⟩
              rw [HDL.out, HZ.out, ← List.append_assoc]
              exact ho5
            clear ho5 hb5 HA hci2
            go_wp2_with fail
            go_roundg i
            case measure => omega
            case rel => exact ⟨by go_num, by omega, HI5.out⟩
end Go.Proofs.YtmhmkhdgpfhnfaaGreatDoor
