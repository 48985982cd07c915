import Derived.Test.YthbfgmgpploneaaDoorB5
set_option linter.unusedVariables false
set_option linter.unusedSimpArgs false
set_option linter.unnecessarySimpa false
namespace Go.Proofs.YthbfgmgpploneaaDoor
open Go.RowKit

/-- what is known of an offer that is made of any numbers: the bundles below 'set' are right, and the items below k of 'set' -/
def OfInv (m : Nat) (L : List Int) (set k : Nat) : Prop :=
  L.length = 2 ^ m ∧ L.getD 0 0 = 0 ∧ (∀ s, 0 ≤ L.getD s 0 ∧ L.getD s 0 ≤ 39) ∧
  (∀ s, s < set → ∀ i, i < m → bt s i = true → L.getD (sans s (2 ^ i)) 0 ≤ L.getD s 0) ∧
  ∀ i, i < k → bt set i = true → L.getD (sans set (2 ^ i)) 0 ≤ L.getD set 0
theorem sans_lt {s i : Nat} (h : bt s i = true) : sans s (2 ^ i) < s := by
  rcases Nat.lt_or_ge (sans s (2 ^ i)) s with h1 | h1
  · exact h1
  · have e : sans s (2 ^ i) = s := Nat.le_antisymm (sans_le _ _) h1
    have := bt_sans s (2 ^ i) i
    rw [e, h, bt_pow] at this
    simp at this
theorem OfInv.start (m : Nat) : OfInv m (List.replicate (2 ^ m) 0) 1 0 := by
  have hg : ∀ s, (List.replicate (2 ^ m) (0 : Int)).getD s 0 = 0 := fun s => by
    by_cases h : s < 2 ^ m <;> simp [h]
  refine ⟨by simp, hg 0, fun s => by rw [hg]; omega, fun s hs i _ hb => by rw [hg, hg]; omega, fun i hi => by omega⟩
theorem OfInv.put {m : Nat} {L : List Int} {set k : Nat} (h : OfInv m L set k) (hs : set < 2 ^ m) (h0 : 0 < set) {v : Int} (hv0 : 0 ≤ v) (hv : v ≤ 39) (hge : k = 0 ∨ L.getD set 0 ≤ v) : OfInv m (L.set set v) set k := by
  obtain ⟨hl, hz, hb, hlow, hcur⟩ := h
  have hg : ∀ s, s ≠ set → (L.set set v).getD s 0 = L.getD s 0 := fun s hne => getD_set_other _ _ _ _ _ (fun e => hne e.symm)
  have hgs : (L.set set v).getD set 0 = v := getD_set_same _ _ _ _ (by omega)
  refine ⟨by simpa using hl, by rw [hg 0 (by omega)]; exact hz, fun s => ?_, fun s hlt i hi hbt => ?_, fun i hi hbt => ?_⟩
  · by_cases e : s = set
    · subst e; rw [hgs]; exact ⟨hv0, hv⟩
    · rw [hg s e]; exact hb s
  · have := sans_lt hbt
    rw [hg s (by omega), hg _ (by omega)]; exact hlow s hlt i hi hbt
  · have := sans_lt hbt
    rw [hgs, hg _ (by omega)]
    rcases hge with rfl | hge
    · omega
    · exact Int.le_trans (hcur i hi hbt) hge
theorem OfInv.step {m : Nat} {L : List Int} {set k : Nat} (h : OfInv m L set k) (hk : bt set k = true → L.getD (sans set (2 ^ k)) 0 ≤ L.getD set 0) : OfInv m L set (k + 1) :=
  ⟨h.1, h.2.1, h.2.2.1, h.2.2.2.1, fun i hi hb => by
    rcases Nat.lt_or_ge i k with h1 | h1
    · exact h.2.2.2.2 i h1 hb
    · have : i = k := by omega
      subst this; exact hk hb⟩
theorem OfInv.putStep {m : Nat} {L : List Int} {set k : Nat} (h : OfInv m L set k) (hs : set < 2 ^ m) (h0 : 0 < set) (hbt : bt set k = true) : OfInv m (L.set set (max (L.getD set 0) (L.getD (sans set (2 ^ k)) 0))) set (k + 1) := by
  have b1 := h.2.2.1 set
  have b2 := h.2.2.1 (sans set (2 ^ k))
  have hlt := sans_lt hbt
  refine (h.put hs h0 (v := max (L.getD set 0) (L.getD (sans set (2 ^ k)) 0)) (by omega) (by omega) (Or.inr (by omega))).step fun _ => ?_
  rw [getD_set_same _ _ _ _ (by rw [h.1]; exact hs), getD_set_other _ _ _ _ _ (by omega)]
  omega
theorem OfInv.next {m : Nat} {L : List Int} {set : Nat} (h : OfInv m L set m) : OfInv m L (set + 1) 0 :=
  ⟨h.1, h.2.1, h.2.2.1, fun s hs i hi hb => by
    rcases Nat.lt_or_ge s set with h1 | h1
    · exact h.2.2.2.1 s h1 i hi hb
    · have : s = set := by omega
      subst this; exact h.2.2.2.2 i hi hb, fun i hi => by omega⟩
theorem OfInv.done {m : Nat} {L : List Int} (h : OfInv m L (2 ^ m) 0) : offerB m L = true := by
  rw [offerB_iff]
  refine ⟨h.1, h.2.1, fun s hs => ?_⟩
  rw [h.1] at hs
  rw [offerAt_iff]
  have := h.2.2.1 s
  exact ⟨by omega, by omega, h.2.2.2.1 s hs⟩
theorem tmod40 (x : Int) : ∃ z : Nat, z ≤ 39 ∧ (IntKind.u64.wrap x).tmod 40 = (z : Int) := by
  have h : IntKind.u64.wrap x = x % 2 ^ 64 := by simp [IntKind.wrap, IntKind.bits, IntKind.signed]
  rw [h, Int.tmod_eq_emod_of_nonneg (by omega)]
  exact ⟨(x % 2 ^ 64 % 40).toNat, by omega, by omega⟩
def Offer39 (m : Nat) (L : List Int) : Prop := offerB m L = true ∧ ∀ s, 0 ≤ L.getD s 0 ∧ L.getD s 0 ≤ 39
set_option maxRecDepth 100000 in
set_option maxHeartbeats 4000000 in
theorem mkOffer_any (v : Value) (m : Nat) (l : List Int) (w : World) (hl : SlA w v (ints l)) (hm : m ≤ 6) (hm1 : 1 ≤ m) (hr : ∀ i, -9223372036854775808 ≤ l.getD i 0 ∧ l.getD i 0 ≤ 9223372036854775807) :
    Calls Tryd.prog 39 #[.int .i64 m, v] w fun e w' => ∃ v' L, e = .returned v' ∧ Own 2 w.heap.size w' v' (ints L) ∧ Offer39 m L ∧ Below w.heap.size w w' := by
  obtain ⟨p, cap, rfl, hlc, hcm⟩ := hl.form
  have hM := wrap_pow m (by omega)
  have hM64 := pow_le64 hm
  have hM2 : 2 ^ 1 ≤ 2 ^ m := Nat.pow_le_pow_right (by omega) hm1
  have HST := Lib.hid (OfInv.start m)
  have HPUT := Lib.hid (fun L set k h hs h0 v a b c => @OfInv.put m L set k h hs h0 v a b c)
  have HPS := Lib.hid (fun L set k h hs h0 hb => @OfInv.putStep m L set k h hs h0 hb)
  have HDONE := Lib.hid (fun L h => @OfInv.done m L h)
  have HLEN := Lib.hid (fun L set k (h : OfInv m L set k) => h.1)
  obtain ⟨M, hMM⟩ : ∃ M, 2 ^ m = M := ⟨_, rfl⟩
  rw [hMM] at hM hM64 hM2 HST HPUT HPS HDONE HLEN
  have HL := Lib.hid hl
  have HR := Lib.hid hr
  clear hl hMM hr
  go_enter Tryd.func39, Tryd.ntmps39
  go_wp2_with (first | (at_make; refine wpList_make_row _ rfl _ _ 31 rfl 2 (.int .i64 0) 8 Tryd.underlying31 Tryd.info2 rfl .i64 .i64 _ _ M rfl rfl ?e1 ?e2 ?e3 ?e4 ?_))
  case e1 => rfl
  case e2 => rfl
  case e3 => omega
  case e4 => unfold maxLen; omega
  intro w1 hrow hbel
  have HROW : Hid (Row 2 w1 w.heap.size (ints (List.replicate M 0))) := by rw [← ints_replicate]; exact hrow
  have HBEL := Lib.hid hbel
  clear hrow hbel
  go_wp2
  go_loopw [6, 7] (fun s _ wr => ∃ (set : Nat) (L : List Int), 0 < set ∧ set ≤ M ∧ s = .int .i64 set ∧ OfInv m L set 0 ∧ Row 2 wr w.heap.size (ints L) ∧ Below w.heap.size w wr) (fun s _ _ => M - (intOf s).toNat)
  case atStart => exact ⟨1, List.replicate M 0, by omega, by omega, rfl, HST.out, HROW.out, HBEL.out⟩
  case round =>
    obtain ⟨set, L, hs0, hsM, rfl, hinv, hrow, hbel⟩ := hrel
    clear HROW HBEL
    by_cases hlt : set < M
    · have hLl := HLEN.out _ _ _ hinv
      have hcr := hrow.cell set
      rw [ints_get _ _ (by omega)] at hcr
      have hfr := hrow.free set
      by_cases hsl : set < l.length
      · obtain ⟨ad, c1, hv, _, _, _, hcx⟩ := (HL.out.below hbel).int_at set hsl
        cases hv
        have hxr := HR.out set
        obtain ⟨x, hx⟩ : ∃ x, l.getD set 0 = x := ⟨_, rfl⟩
        rw [hx] at hcx hxr
        obtain ⟨y, hy⟩ : ∃ y, L.getD set 0 = y := ⟨_, rfl⟩
        rw [hy] at hcr
        obtain ⟨z, hz39, hz⟩ := tmod40 x
        have HI2 := Lib.hid (HPUT.out L set 0 hinv hlt hs0 (z : Int) (by omega) (by omega) (Or.inl rfl))
        have HR2 : Hid (Row 2 (wr.setCell ⟨w.heap.size, set, none⟩ (.int .i64 (z : Int))) w.heap.size (ints (L.set set (z : Int)))) := by rw [← ints_set]; exact hrow.store set _
        have HB2 := Lib.hid (hbel.setCell (p := ⟨w.heap.size, set, none⟩) (Nat.le_refl _) (.int .i64 (z : Int)))
        obtain ⟨wo, hwo⟩ : ∃ wo : World, wo = wr := ⟨_, rfl⟩
        subst hwo
        clear hx hy hinv hrow hbel
        go_wp2
        go_loopw [7] (fun i wx => ∃ (k : Nat) (L : List Int), k ≤ m ∧ i = .int .i64 k ∧ OfInv m L set k ∧ Row 2 wx w.heap.size (ints L) ∧ Below w.heap.size w wx) (fun i _ => m - (intOf i).toNat)
        case atStart => exact ⟨0, _, Nat.zero_le _, rfl, HI2.out, HR2.out, HB2.out⟩
        case round =>
          obtain ⟨k, L2, hk, rfl, hinv, hrow, hbel⟩ := hrel
          clear HI2 HR2 HB2
          by_cases hkm : k < m
          · have hL2 := HLEN.out _ _ _ hinv
            have hc1 := hrow.cell set
            have hf1 := hrow.free set
            rw [ints_get _ _ (by omega)] at hc1
            have hus : sans set (2 ^ k) < M := Nat.lt_of_le_of_lt (sans_le _ _) hlt
            have hc2 := hrow.cell (sans set (2 ^ k))
            rw [ints_get _ _ (by omega)] at hc2
            have hsh := btI set k
            have hwk := wrap_pow k (by omega)
            have hP : 2 ^ k ≤ 64 := pow_le64 (by omega)
            have han := i64_andNot set (2 ^ k) (by omega) (by omega)
            have HBT : Hid (bt set k = (set / 2 ^ k % 2 == 1)) := rfl
            have HY : Hid (bt set k = true → OfInv m (L2.set set (max (L2.getD set 0) (L2.getD (sans set (2 ^ k)) 0))) set (k + 1)) := fun hb => HPS.out L2 set k hinv hlt hs0 hb
            have HN : Hid (bt set k = false → OfInv m L2 set (k + 1)) := fun hb => hinv.step (fun h => by rw [hb] at h; cases h)
            obtain ⟨d, hd⟩ : ∃ d, set / 2 ^ k = d := ⟨_, rfl⟩
            obtain ⟨P, hPP⟩ : ∃ P, 2 ^ k = P := ⟨_, rfl⟩
            rw [hd] at hsh HBT
            rw [hPP] at hwk hP han hus hc2 HY
            obtain ⟨q, hq⟩ : ∃ q, sans set P = q := ⟨_, rfl⟩
            rw [hq] at han hus hc2 HY
            obtain ⟨r, hr⟩ : ∃ r, L2.getD set 0 = r := ⟨_, rfl⟩
            obtain ⟨t, ht⟩ : ∃ t, L2.getD q 0 = t := ⟨_, rfl⟩
            rw [hr] at hc1 HY
            rw [ht] at hc2 HY
            have HROW := Lib.hid hrow
            have HBEL := Lib.hid hbel
            have hus2 : (q : Int) < (M : Int) := by omega
            clear hinv hrow hbel hd hPP hq hr ht
            by_cases hodd : d % 2 = 1
            · have HI3 := Lib.hid (HY.out (by rw [HBT.out]; simpa using hodd))
              have hb3 : ((d : Int) % 2 == 1) = true := by rw [beq_iff_eq]; omega
              have HR3 : Hid (Row 2 (wr.drew.setCell ⟨w.heap.size, set, none⟩ (.int .i64 (if r < t then t else r))) w.heap.size (ints (L2.set set (max r t)))) := by
                rw [goMax, ← ints_set]; exact HROW.out.drew.store set _
              clear hodd HBT HY HN
              go_wp2
              go_still_tail 15, (by kernel_rfl)
              change wpList _ _ _ _ _ wr.drew
              go_wp2
              go_roundw
              case rel => exact ⟨k + 1, _, by omega, by go_num, HI3.out, HR3.out, HBEL.out.drew.setCell (Nat.le_refl _) _⟩
              case measure => simp [intOf]; omega
            · have HI3 := Lib.hid (HN.out (by rw [HBT.out]; simpa using hodd))
              have hb3 : ((d : Int) % 2 == 1) = false := by rw [beq_eq_false_iff_ne]; omega
              clear hodd HBT HY HN
              go_wp2
              go_roundw
              case rel => exact ⟨k + 1, _, by omega, by go_num, HI3.out, HROW.out, HBEL.out⟩
              case measure => simp [intOf]; omega
          · obtain rfl : k = m := by omega
            have HI3 := Lib.hid hinv.next
            have HROW := Lib.hid hrow
            have HBEL := Lib.hid hbel
            clear hinv hrow hbel
            go_wp2
            go_roundw
            case rel => exact ⟨set + 1, _, by omega, by omega, by go_num, HI3.out, HROW.out, HBEL.out⟩
            case measure => simp [intOf]; omega
      · have HI2 := Lib.hid hinv
        have HR2 := Lib.hid hrow
        have HB2 := Lib.hid hbel
        obtain ⟨wo, hwo⟩ : ∃ wo : World, wo = wr := ⟨_, rfl⟩
        subst hwo
        clear hinv hrow hbel hcr hfr
        go_wp2
        go_loopw [7] (fun i wx => ∃ (k : Nat) (L : List Int), k ≤ m ∧ i = .int .i64 k ∧ OfInv m L set k ∧ Row 2 wx w.heap.size (ints L) ∧ Below w.heap.size w wx) (fun i _ => m - (intOf i).toNat)
        case atStart => exact ⟨0, _, Nat.zero_le _, rfl, HI2.out, HR2.out, HB2.out⟩
        case round =>
          obtain ⟨k, L2, hk, rfl, hinv, hrow, hbel⟩ := hrel
          clear HI2 HR2 HB2
          by_cases hkm : k < m
          · have hL2 := HLEN.out _ _ _ hinv
            have hc1 := hrow.cell set
            have hf1 := hrow.free set
            rw [ints_get _ _ (by omega)] at hc1
            have hus : sans set (2 ^ k) < M := Nat.lt_of_le_of_lt (sans_le _ _) hlt
            have hc2 := hrow.cell (sans set (2 ^ k))
            rw [ints_get _ _ (by omega)] at hc2
            have hsh := btI set k
            have hwk := wrap_pow k (by omega)
            have hP : 2 ^ k ≤ 64 := pow_le64 (by omega)
            have han := i64_andNot set (2 ^ k) (by omega) (by omega)
            have HBT : Hid (bt set k = (set / 2 ^ k % 2 == 1)) := rfl
            have HY : Hid (bt set k = true → OfInv m (L2.set set (max (L2.getD set 0) (L2.getD (sans set (2 ^ k)) 0))) set (k + 1)) := fun hb => HPS.out L2 set k hinv hlt hs0 hb
            have HN : Hid (bt set k = false → OfInv m L2 set (k + 1)) := fun hb => hinv.step (fun h => by rw [hb] at h; cases h)
            obtain ⟨d, hd⟩ : ∃ d, set / 2 ^ k = d := ⟨_, rfl⟩
            obtain ⟨P, hPP⟩ : ∃ P, 2 ^ k = P := ⟨_, rfl⟩
            rw [hd] at hsh HBT
            rw [hPP] at hwk hP han hus hc2 HY
            obtain ⟨q, hq⟩ : ∃ q, sans set P = q := ⟨_, rfl⟩
            rw [hq] at han hus hc2 HY
            obtain ⟨r, hr⟩ : ∃ r, L2.getD set 0 = r := ⟨_, rfl⟩
            obtain ⟨t, ht⟩ : ∃ t, L2.getD q 0 = t := ⟨_, rfl⟩
            rw [hr] at hc1 HY
            rw [ht] at hc2 HY
            have HROW := Lib.hid hrow
            have HBEL := Lib.hid hbel
            have hus2 : (q : Int) < (M : Int) := by omega
            clear hinv hrow hbel hd hPP hq hr ht
            by_cases hodd : d % 2 = 1
            · have HI3 := Lib.hid (HY.out (by rw [HBT.out]; simpa using hodd))
              have hb3 : ((d : Int) % 2 == 1) = true := by rw [beq_iff_eq]; omega
              have HR3 : Hid (Row 2 (wr.drew.setCell ⟨w.heap.size, set, none⟩ (.int .i64 (if r < t then t else r))) w.heap.size (ints (L2.set set (max r t)))) := by
                rw [goMax, ← ints_set]; exact HROW.out.drew.store set _
              clear hodd HBT HY HN
              go_wp2
              go_still_tail 15, (by kernel_rfl)
              change wpList _ _ _ _ _ wr.drew
              go_wp2
              go_roundw
              case rel => exact ⟨k + 1, _, by omega, by go_num, HI3.out, HR3.out, HBEL.out.drew.setCell (Nat.le_refl _) _⟩
              case measure => simp [intOf]; omega
            · have HI3 := Lib.hid (HN.out (by rw [HBT.out]; simpa using hodd))
              have hb3 : ((d : Int) % 2 == 1) = false := by rw [beq_eq_false_iff_ne]; omega
              clear hodd HBT HY HN
              go_wp2
              go_roundw
              case rel => exact ⟨k + 1, _, by omega, by go_num, HI3.out, HROW.out, HBEL.out⟩
              case measure => simp [intOf]; omega
          · obtain rfl : k = m := by omega
            have HI3 := Lib.hid hinv.next
            have HROW := Lib.hid hrow
            have HBEL := Lib.hid hbel
            clear hinv hrow hbel
            go_wp2
            go_roundw
            case rel => exact ⟨set + 1, _, by omega, by omega, by go_num, HI3.out, HROW.out, HBEL.out⟩
            case measure => simp [intOf]; omega
    · obtain rfl : set = M := by omega
      have HINV := Lib.hid hinv
      have HROW := Lib.hid hrow
      have HB := Lib.hid hbel
      have hLl := HLEN.out _ _ _ hinv
      clear hinv hrow hbel
      go_wp2
      go_ret
      refine ⟨_, L, rfl, ?_, ⟨HDONE.out _ HINV.out, HINV.out.2.2.1⟩, HB.out⟩
      have h2 := Own.of_row (T := 2) (base := w.heap.size) (cap := set) (xs := ints L) (more := []) (by rw [List.append_nil]; exact HROW.out) (Nat.le_refl _) (by unfold maxLen; omega) (by rw [ints_length, hLl]; simp)
      have e : Value.slice (some ⟨w.heap.size, 0, none⟩) (ints L).length set = .slice (some ⟨w.heap.size, 0, none⟩) set set := by rw [ints_length, hLl]
      rw [e] at h2; exact h2
end Go.Proofs.YthbfgmgpploneaaDoor
