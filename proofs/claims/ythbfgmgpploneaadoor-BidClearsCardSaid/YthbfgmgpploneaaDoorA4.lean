import Derived.Test.YthbfgmgpploneaaDoorA3
set_option linter.unusedVariables false
set_option linter.unusedSimpArgs false
set_option linter.unnecessarySimpa false
namespace Go.Proofs.YthbfgmgpploneaaDoor
open Go.RowKit

set_option maxHeartbeats 1000000 in
theorem intsEq_any (v v' : Value) (a b : List Int) (w : World) (ha : Sl w v (ints a)) (hb : Sl w v' (ints b)) :
    Calls Tryd.prog 29 #[v, v'] w fun e w' => e = .returned (.bool (eqB a b)) ∧ Below w.heap.size w w' := by
  obtain ⟨p, cap, rfl, hlc, hcm⟩ := ha.form
  obtain ⟨p', cap', rfl, hlc', hcm'⟩ := hb.form
  have HA := Lib.hid ha
  have HB := Lib.hid hb
  clear ha hb
  by_cases hlen : a.length = b.length
  · have HLEN := Lib.hid hlen
    rw [← hlen] at hlc' HB ⊢
    clear hlen
    go_enter Tryd.func29, Tryd.ntmps29
    go_wp2
    go_loopw [5] (fun i wr => ∃ k : Nat, k ≤ a.length ∧ i = .int .i64 k ∧ EqRel (.slice p a.length cap) (.slice p' a.length cap') a b w wr k) (fun i _ => a.length - (intOf i).toNat)
    case atStart => exact ⟨0, Nat.zero_le _, rfl, HA.out, HB.out, Below.refl _ _, fun i hi => by omega⟩
    case round =>
      obtain ⟨k, hk, rfl, hrel⟩ := hrel
      by_cases hlt : k < a.length
      · obtain ⟨b1, off, cap1, hv, _, _, _, hc1⟩ := hrel.1.int_at k hlt
        obtain ⟨b2, off', cap2, hv', _, _, _, hc2⟩ := hrel.2.1.int_at k (by have := HLEN.out; omega)
        cases hv
        rw [← HLEN.out] at hv'
        cases hv'
        have HREL := Lib.hid hrel
        obtain ⟨x, hx⟩ : ∃ x, a.getD k 0 = x := ⟨_, rfl⟩
        obtain ⟨y, hy⟩ : ∃ y, b.getD k 0 = y := ⟨_, rfl⟩
        rw [hx] at hc1
        rw [hy] at hc2
        have HX := Lib.hid hx
        have HY := Lib.hid hy
        clear hrel hx hy
        by_cases hxy : x = y
        · subst hxy
          go_wp2
          go_quiet (fail)
          go_wp2
          go_roundw
          case rel => exact ⟨k + 1, by omega, by go_num, HREL.out.step _ (by rw [HX.out, HY.out])⟩
          case measure => simp [intOf]; omega
        · have hne : (x != y) = true := by simpa using hxy
          have HNE := Lib.hid hxy
          clear hxy
          go_wp2
          go_quiet (fail)
          go_wp2
          go_ret
          exact ⟨by rw [eqB_no (fun e => HNE.out (by rw [← HX.out, ← HY.out, e]))]; rfl, below_drewN HREL.out.2.2.1 _⟩
      · obtain rfl : k = a.length := by omega
        have HREL := Lib.hid hrel
        clear hrel
        go_wp2
        go_ret
        exact ⟨by rw [eqB_yes (getD_ext HLEN.out HREL.out.2.2.2)]; rfl, HREL.out.2.2.1⟩
  · have HLEN := Lib.hid hlen
    have hne : ((a.length : Int) != (b.length : Int)) = true := by rw [bne_iff_ne]; omega
    clear hlen
    go_enter Tryd.func29, Tryd.ntmps29
    go_wp2
    go_ret
    exact ⟨by rw [eqB_no (fun e => HLEN.out (by rw [e]))]; rfl, Below.refl _ _⟩


theorem offerAt_iff (m : Nat) (l : List Int) (s : Nat) : offerAt m l s = true ↔ 0 ≤ l.getD s 0 ∧ l.getD s 0 ≤ 1000000 ∧ ∀ i, i < m → bt s i = true → l.getD (sans s (2 ^ i)) 0 ≤ l.getD s 0 := by
  unfold offerAt
  simp only [Bool.and_eq_true, decide_eq_true_eq, List.all_eq_true, List.mem_range, and_assoc]
  constructor
  · rintro ⟨h1, h2, h3⟩
    refine ⟨h1, h2, fun i hi hb => ?_⟩
    have := h3 i hi
    rw [hb] at this; simp at this; exact this
  · rintro ⟨h1, h2, h3⟩
    refine ⟨h1, h2, fun i hi => ?_⟩
    cases hb : bt s i with
    | false => rfl
    | true => have := h3 i hi hb; simp; exact this
theorem offerB_iff (m : Nat) (l : List Int) : offerB m l = true ↔ l.length = 2 ^ m ∧ l.getD 0 0 = 0 ∧ ∀ s, s < l.length → offerAt m l s = true := by
  unfold offerB
  simp only [Bool.and_eq_true, beq_iff_eq, List.all_eq_true, List.mem_range, and_assoc]
theorem offerB_no {m : Nat} {l : List Int} (h : ¬ (l.length = 2 ^ m ∧ l.getD 0 0 = 0 ∧ ∀ s, s < l.length → offerAt m l s = true)) : offerB m l = false := by
  cases hb : offerB m l with
  | false => rfl
  | true => exact absurd ((offerB_iff m l).1 hb) h
theorem offerB_bad {m : Nat} {l : List Int} {s : Nat} (hs : s < l.length) (h : ¬ (0 ≤ l.getD s 0 ∧ l.getD s 0 ≤ 1000000 ∧ ∀ i, i < m → bt s i = true → l.getD (sans s (2 ^ i)) 0 ≤ l.getD s 0)) : offerB m l = false :=
  offerB_no fun hb => h ((offerAt_iff m l s).1 (hb.2.2 s hs))
/-- what is known at item j of bundle s -/
def OfRel (v : Value) (m : Nat) (l : List Int) (w wr : World) (s j : Nat) : Prop := RdRel v l w wr ∧ ∀ i, i < j → bt s i = true → l.getD (sans s (2 ^ i)) 0 ≤ l.getD s 0
theorem OfRel.step {v : Value} {m : Nat} {l : List Int} {w wr : World} {s j : Nat} (h : OfRel v m l w wr s j) (n : Nat) (hj : bt s j = true → l.getD (sans s (2 ^ j)) 0 ≤ l.getD s 0) : OfRel v m l w (wr.drewN n) s (j + 1) :=
  ⟨h.1.drewN n, fun i hi hb => by
    rcases Nat.lt_or_ge i j with h1 | h1
    · exact h.2 i h1 hb
    · have : i = j := by omega
      subst this; exact hj hb⟩
theorem pow_lt_of_bt {s i : Nat} (h : bt s i = true) : 2 ^ i ≤ s := by
  rw [bt_eq] at h
  exact Nat.ge_two_pow_of_testBit h
set_option maxHeartbeats 2000000 in
theorem offer_any (v : Value) (m : Nat) (l : List Int) (w : World) (hl : Sl w v (ints l)) (hm : m ≤ 6) :
    Calls Tryd.prog 37 #[.int .i64 m, v] w fun e w' => e = .returned (.bool (offerB m l)) ∧ Below w.heap.size w w' := by
  obtain ⟨p, cap, rfl, hlc, hcm⟩ := hl.form
  have hM := wrap_pow m (by omega)
  have hM64 := pow_le64 hm
  have hM0 := pow_pos2 m
  obtain ⟨M, hMM⟩ : ∃ M, 2 ^ m = M := ⟨_, rfl⟩
  rw [hMM] at hM hM64 hM0
  have HMM := Lib.hid hMM
  have HL := Lib.hid hl
  clear hl hMM
  by_cases hlen : l.length = M
  · have HLEN := Lib.hid hlen
    have hlb : ((l.length : Int) != (M : Int)) = false := by rw [bne_eq_false_iff_eq]; omega
    have hl64 : l.length ≤ 64 := by omega
    have hl0 : (0 : Int) < (l.length : Int) := by omega
    obtain ⟨b, off, cap', hv, _, _, _, hc0⟩ := HL.out.int_at 0 (by omega)
    cases hv
    rw [Nat.add_zero] at hc0
    obtain ⟨z, hz⟩ : ∃ z, l.getD 0 0 = z := ⟨_, rfl⟩
    rw [hz] at hc0
    have HZ := Lib.hid hz
    clear hz hlen
    by_cases hz0 : z = 0
    · subst hz0
      go_enter Tryd.func37, Tryd.ntmps37
      go_wp2
      go_loopw [5, 6] (fun s i wr => ∃ k : Nat, k ≤ l.length ∧ s = .int .i64 k ∧ RdRel (.slice (some ⟨b, off, none⟩) l.length cap) l w wr ∧ ∀ s, s < k → offerAt m l s = true) (fun s _ _ => l.length - (intOf s).toNat)
      case atStart => exact ⟨0, Nat.zero_le _, rfl, ⟨HL.out, Below.refl _ _⟩, fun s hs => by omega⟩
      case round =>
        obtain ⟨k, hk, rfl, hrel, hall⟩ := hrel
        have HALL := Lib.hid hall
        clear hall hc0
        by_cases hlt : k < l.length
        · obtain ⟨b1, off1, cap1, hv, _, _, _, hc1⟩ := hrel.1.int_at k hlt
          cases hv
          have HREL := Lib.hid hrel
          have HB := Lib.hid (@offerB_bad m l k hlt)
          obtain ⟨x, hx⟩ : ∃ x, l.getD k 0 = x := ⟨_, rfl⟩
          have HX := Lib.hid hx
          rw [hx] at hc1 HB
          clear hrel hx
          by_cases hx0 : x < 0
          · have HF : Hid (offerB m l = false) := HB.out (fun h => by omega)
            clear HB
            go_wp2
            go_ret
            exact ⟨by rw [HF.out]; rfl, HREL.out.2⟩
          · by_cases hx1 : 1000000 < x
            · have HF : Hid (offerB m l = false) := HB.out (fun h => by omega)
              clear HB
              go_wp2
              go_ret
              exact ⟨by rw [HF.out]; rfl, HREL.out.2⟩
            · obtain ⟨wo, hwo⟩ : ∃ wo : World, wo = wr := ⟨_, rfl⟩
              subst hwo
              go_wp2
              go_loopw [6] (fun i wr => ∃ j : Nat, j ≤ m ∧ i = .int .i64 j ∧ OfRel (.slice (some ⟨b, off, none⟩) l.length cap) m l w wr k j) (fun i _ => m - (intOf i).toNat)
              case atStart => exact ⟨0, Nat.zero_le _, rfl, HREL.out, fun i hi => by omega⟩
              case round =>
                obtain ⟨j, hj, rfl, hrel⟩ := hrel
                clear hc1 HREL
                by_cases hjm : j < m
                · obtain ⟨b1, off1, cap1, hv, _, _, _, hc1⟩ := hrel.1.1.int_at k hlt
                  cases hv
                  have hu : sans k (2 ^ j) < l.length := Nat.lt_of_le_of_lt (sans_le _ _) hlt
                  obtain ⟨b1, off1, cap1, hv, _, _, _, hc2⟩ := hrel.1.1.int_at (sans k (2 ^ j)) hu
                  cases hv
                  rw [HX.out] at hc1
                  have hsh := btI k j
                  have hw1 := wrap_pow j (by omega)
                  have hP : 2 ^ j ≤ 64 := pow_le64 (by omega)
                  have han := i64_andNot k (2 ^ j) (by omega) (by omega)
                  have HBT : Hid (bt k j = (k / 2 ^ j % 2 == 1)) := rfl
                  have HST := Lib.hid (fun n h => hrel.step n h)
                  have HBAD : Hid (¬ (bt k j = true → l.getD (sans k (2 ^ j)) 0 ≤ x) → offerB m l = false) := fun h => HB.out (fun g => h (g.2.2 j hjm))
                  obtain ⟨d, hd⟩ : ∃ d, k / 2 ^ j = d := ⟨_, rfl⟩
                  obtain ⟨P, hPP⟩ : ∃ P, 2 ^ j = P := ⟨_, rfl⟩
                  rw [hd] at hsh HBT
                  rw [hPP] at hw1 han hu hc2 hP HST HBAD
                  obtain ⟨u, huu⟩ : ∃ u, sans k P = u := ⟨_, rfl⟩
                  rw [huu] at han hu hc2 HST HBAD
                  obtain ⟨y, hy⟩ : ∃ y, l.getD u 0 = y := ⟨_, rfl⟩
                  rw [hy] at hc2 HST HBAD
                  rw [HX.out] at HST
                  have HREL := Lib.hid hrel
                  clear hrel hd hPP huu hy
                  have hui : (u : Int) < (l.length : Int) := by omega
                  by_cases hodd : d % 2 = 1
                  · have HT : Hid (bt k j = true) := by show _ = _; rw [HBT.out]; simpa using hodd
                    have hb1 : ((d : Int) % 2 == 1) = true := by rw [beq_iff_eq]; omega
                    clear hodd HBT
                    by_cases hxy : x < y
                    · have HF : Hid (offerB m l = false) := HBAD.out (fun h => by have := h HT.out; omega)
                      clear HBAD HST
                      go_wp2
                      go_quiet (fail)
                      go_wp2
                      go_ret
                      exact ⟨by rw [HF.out]; rfl, below_drewN HREL.out.1.2 _⟩
                    · have HST2 : Hid (∀ n, OfRel (.slice (some ⟨b, off, none⟩) l.length cap) m l w (wr.drewN n) k (j + 1)) := fun n => HST.out n (fun _ => by omega)
                      clear HBAD HST
                      go_wp2
                      go_quiet (fail)
                      go_wp2
                      go_roundw
                      case rel => exact ⟨j + 1, by omega, by go_num, HST2.out _⟩
                      case measure => simp [intOf]; omega
                  · have HT : Hid (bt k j = false) := by show _ = _; rw [HBT.out]; simpa using hodd
                    have hb1 : ((d : Int) % 2 == 1) = false := by rw [beq_eq_false_iff_ne]; omega
                    have HST2 : Hid (∀ n, OfRel (.slice (some ⟨b, off, none⟩) l.length cap) m l w (wr.drewN n) k (j + 1)) := fun n => HST.out n (fun h => by rw [HT.out] at h; cases h)
                    clear hodd HBT HBAD HST
                    go_wp2
                    go_quiet (fail)
                    go_wp2
                    go_roundw
                    case rel => exact ⟨j + 1, by omega, by go_num, HST2.out _⟩
                    case measure => simp [intOf]; omega
                · obtain rfl : j = m := by omega
                  have HNEW : Hid (∀ s, s < k + 1 → offerAt j l s = true) := by
                    intro s hs
                    rcases Nat.lt_or_ge s k with h1 | h1
                    · exact HALL.out s h1
                    · have : s = k := by omega
                      subst this
                      rw [offerAt_iff, HX.out]
                      exact ⟨by omega, by omega, fun i hi hb => by have := hrel.2 i hi hb; rw [HX.out] at this; exact this⟩
                  have HREL := Lib.hid hrel.1
                  clear hrel HALL
                  go_wp2
                  go_roundw
                  case rel => exact ⟨k + 1, by omega, by go_num, HREL.out, HNEW.out⟩
                  case measure => simp [intOf]; omega
        · obtain rfl : k = l.length := by omega
          have HT : Hid (offerB m l = true) := (offerB_iff m l).2 ⟨HLEN.out.trans HMM.out.symm, HZ.out, HALL.out⟩
          have HREL := Lib.hid hrel
          clear hrel HALL
          go_wp2
          go_ret
          exact ⟨by rw [HT.out]; rfl, HREL.out.2⟩
    · have hzb : (z != 0) = true := by simpa using hz0
      have HF : Hid (offerB m l = false) := offerB_no (fun h => hz0 (HZ.out.symm.trans h.2.1))
      clear hz0
      go_enter Tryd.func37, Tryd.ntmps37
      go_wp2
      go_ret
      exact ⟨by rw [HF.out]; rfl, Below.refl _ _⟩
  · have HF : Hid (offerB m l = false) := offerB_no (fun h => hlen (h.1.trans HMM.out))
    have hlb : ((l.length : Int) != (M : Int)) = true := by rw [bne_iff_ne]; omega
    clear hlen
    go_enter Tryd.func37, Tryd.ntmps37
    go_wp2
    go_ret
    exact ⟨by rw [HF.out]; rfl, Below.refl _ _⟩
end Go.Proofs.YthbfgmgpploneaaDoor
