/- The reference's Position; CheckPosition. -/
import Derived.Test.YtllhejjcmfiebaaDoorS10
set_option linter.unusedVariables false
set_option linter.unusedSimpArgs false
set_option linter.unnecessarySimpa false
namespace Go.Proofs.YtllhejjcmfiebaaDoor
open Go.RowKit Go.Shelf

theorem or_i64 {a b : Nat} (ha : a < 512) (hb : b < 512) : bits .or .i64 (a : Int) (b : Int) = ((a ||| b : Nat) : Int) := by
  have e : (BitVec.ofInt 64 (a : Int) ||| BitVec.ofInt 64 (b : Int)).toNat = a ||| b := by
    rw [BitVec.toNat_or, BitVec.ofInt_natCast, BitVec.ofInt_natCast, BitVec.toNat_ofNat, BitVec.toNat_ofNat, Nat.mod_eq_of_lt (by omega), Nat.mod_eq_of_lt (by omega)]
  have hl : a ||| b < 512 := Nat.or_lt_two_pow (n := 9) ha hb
  show IntKind.i64.wrap (((BitVec.ofInt 64 (a : Int) ||| BitVec.ofInt 64 (b : Int)).toNat : Nat) : Int) = _
  rw [e]
  exact IntWalk.i64_in _ (by omega)
/-- whether a list is a position, of whatever number of places -/
def posR (n : Int) (l : List Int) : Bool := sizeB n && posB n.toNat l
set_option maxRecDepth 100000 in
set_option maxHeartbeats 4000000 in
theorem rpos_go (v : Value) (n : Int) (l : List Int) (w : World) (hl : SlA w v (ints l)) :
    Calls Tryd.prog 17 #[.int .i64 n, v] w fun e w' => e = .returned (.bool (posR n l)) ∧ Below w.heap.size w w' := by
  obtain ⟨p, cap, rfl, hl1, hl2⟩ := hl.form
  have HR : Hid (posR n l = (sizeB n && posB n.toNat l)) := rfl
  have HN := Lib.hid (fun W => number_any n W)
  cases hs : sizeB n with
  | false =>
    rw [hs] at HR HN
    have HBAD : Hid (posR n l = false) := by show _ = _; rw [HR.out]; rfl
    clear hl hs
    go_enter Tryd.func17, Tryd.ntmps17
    go_wp2_with (first | (go_at_call 34; refine (HN.out _).mono ?_; rintro e w1 ⟨rfl, rfl⟩))
    go_ret
    exact ⟨by rw [HBAD.out]; rfl, Below.refl _ _⟩
  | true =>
    rw [hs] at HR HN
    simp only [sizeB, Bool.and_eq_true, decide_eq_true_eq] at hs
    obtain ⟨n, rfl⟩ : ∃ N : Nat, n = (N : Int) := ⟨n.toNat, by omega⟩
    rw [Int.toNat_natCast, Bool.true_and] at HR
    have hn2 : 2 ≤ n := by omega
    have hn9 : n ≤ 9 := by omega
    have HP : Hid (posB n l = (decide (l.length = n) && (List.range n).all (rngAt n l) && decide (mask l n = 2 ^ n - 1))) := rfl
    have HL := Lib.hid hl
    clear hl hs
    by_cases hlen : l.length = n
    · have hd : ((l.length : Int) != (n : Int)) = false := by simp [hlen]
      have HLEN := Lib.hid hlen
      clear hlen
      go_enter Tryd.func17, Tryd.ntmps17
      go_wp2_with (first | (go_at_call 34; refine (HN.out _).mono ?_; rintro e w1 ⟨rfl, rfl⟩))
      go_loopw [5, 6] (fun mv i wr => ∃ k : Nat, k ≤ n ∧ mv = .int .i64 (mask l k) ∧ i = .int .i64 k ∧ (∀ j, j < k → rngAt n l j = true) ∧ (∀ j, j < k → newAt l j = true) ∧ Below w.heap.size w wr) (fun _ i _ => n - (intOf i).toNat)
      case atStart => exact ⟨0, Nat.zero_le _, rfl, rfl, fun j hj => by omega, fun j hj => by omega, Below.refl _ _⟩
      case round =>
        obtain ⟨k, hk, rfl, rfl, hall, hnew, hbel⟩ := hrel
        by_cases hlt : k < n
        · obtain ⟨ad, cap', hv, _, _, hg, hc⟩ := (HL.out.below hbel).int_at k (by have := HLEN.out; omega)
          cases hv
          have gkl : (k : Int) < (l.length : Int) := by have := HLEN.out; omega
          have HM : Hid (mask l (k + 1) = mask l k ||| 2 ^ (l.getD k 0).toNat) := rfl
          have HRG : Hid (rngAt n l k = (decide (0 ≤ l.getD k 0) && decide (l.getD k 0 < n))) := rfl
          have HNW : Hid (newAt l k = !(mask l k).testBit (l.getD k 0).toNat) := rfl
          have hm5 := mask_512 hn9 hall
          have HPI : Hid ((∀ j, j < n → rngAt n l j = true) → decide (mask l n = 2 ^ n - 1) = (List.range n).all (newAt l)) := fun h => pos_iff hn9 h
          obtain ⟨x, hx⟩ : ∃ x, l.getD k 0 = x := ⟨_, rfl⟩
          rw [hx] at hc HM HRG HNW
          have HALL := Lib.hid hall
          have HNEW := Lib.hid hnew
          have HB := Lib.hid hbel
          clear hall hbel hx hnew
          have HNO : Hid (rngAt n l k = false → posB n l = false) := by
            intro h
            rw [HP.out]
            have : (List.range n).all (rngAt n l) = false := by
              cases ha : (List.range n).all (rngAt n l) with
              | false => rfl
              | true => have := List.all_eq_true.1 ha k (List.mem_range.2 (by have := HLEN.out; omega)); rw [h] at this; cases this
            rw [this]; simp
          have HNO2 : Hid (newAt l k = false → posB n l = false) := by
            intro h
            rw [HP.out]
            cases ha : (List.range n).all (rngAt n l) with
            | false => simp
            | true =>
              rw [HPI.out fun j hj => List.all_eq_true.1 ha j (List.mem_range.2 hj)]
              have : (List.range n).all (newAt l) = false := by
                cases hb : (List.range n).all (newAt l) with
                | false => rfl
                | true => have := List.all_eq_true.1 hb k (List.mem_range.2 hlt); rw [h] at this; cases this
              rw [this]; simp
          by_cases h1 : x < 0
          · have HBAD : Hid (posR n l = false) := by show _ = _; rw [HR.out]; exact HNO.out (by rw [HRG.out]; simp; omega)
            go_wp2
            go_ret
            exact ⟨by rw [HBAD.out]; rfl, HB.out⟩
          · by_cases h2 : (n : Int) ≤ x
            · have HBAD : Hid (posR n l = false) := by show _ = _; rw [HR.out]; exact HNO.out (by rw [HRG.out]; simp; omega)
              go_wp2
              go_ret
              exact ⟨by rw [HBAD.out]; rfl, HB.out⟩
            · obtain ⟨X, rfl⟩ : ∃ X : Nat, x = (X : Int) := ⟨x.toNat, by omega⟩
              rw [Int.toNat_natCast] at HM HNW
              have hX9 : X < 9 := by omega
              have hX : 2 ^ X < 512 := Nat.pow_lt_pow_right (by omega : 1 < 2) hX9
              have hor := or_i64 hm5 hX
              have gX : (X : Int) ≤ 64 := by omega
              have gX2 : (X : Int) < 64 := by omega
              obtain ⟨M, hM⟩ : ∃ M, mask l k = M := ⟨_, rfl⟩
              rw [hM] at HM HNW hor hm5 ⊢
              have hsh : (M : Int) / (2 : Int) ^ X = ((M / 2 ^ X : Nat) : Int) := by rw [show ((2 : Int) ^ X) = ((2 ^ X : Nat) : Int) by simp]; rfl
              have hbit : M.testBit X = decide (M / 2 ^ X % 2 = 1) := Nat.testBit_eq_decide_div_mod_eq
              obtain ⟨Q, hQ⟩ : ∃ Q, M / 2 ^ X = Q := ⟨_, rfl⟩
              rw [hQ] at hsh hbit
              obtain ⟨q, hq⟩ : ∃ q, 2 ^ X = q := ⟨_, rfl⟩
              rw [hq] at hor HM hX
              have hsx : IntKind.i64.wrap ((2 : Int) ^ X) = (q : Int) := by rw [show ((2 : Int) ^ X) = ((2 ^ X : Nat) : Int) by simp, hq]; exact IntWalk.i64_in _ (by omega)
              clear hM hQ hq hX
              by_cases hq1 : Q % 2 = 1
              · have hqd : ((Q : Int) % 2 == 1) = true := by rw [beq_iff_eq]; omega
                have HBAD : Hid (posR n l = false) := by show _ = _; rw [HR.out]; exact HNO2.out (by rw [HNW.out, hbit]; simp [hq1])
                clear hq1 hbit
                go_wp2
                go_ret
                exact ⟨by rw [HBAD.out]; rfl, HB.out⟩
              · have hqd : ((Q : Int) % 2 == 1) = false := by rw [beq_eq_false_iff_ne]; omega
                have HNX : Hid (∀ j, j < k + 1 → rngAt n l j = true) := by
                  intro j hj
                  rcases Nat.lt_or_ge j k with h | h
                  · exact HALL.out j h
                  · have : j = k := by omega
                    subst this; rw [HRG.out]; simp; omega
                have HNX2 : Hid (∀ j, j < k + 1 → newAt l j = true) := by
                  intro j hj
                  rcases Nat.lt_or_ge j k with h | h
                  · exact HNEW.out j h
                  · have : j = k := by omega
                    subst this; rw [HNW.out, hbit]; simp [hq1]
                obtain ⟨M2, hM2⟩ : ∃ M2, M ||| q = M2 := ⟨_, rfl⟩
                rw [hM2] at hor HM
                clear hq1 hbit hM2
                go_wp2
                go_roundw
                case rel => exact ⟨k + 1, by omega, by rw [HM.out], by go_num, HNX.out, HNX2.out, HB.out⟩
                case measure => simp [intOf]; omega
        · obtain rfl : k = n := by omega
          have HGOOD : Hid (posR k l = true) := by
            show _ = _
            rw [HR.out, HP.out, pos_iff hn9 hall, HLEN.out]
            have a1 : (List.range k).all (rngAt k l) = true := List.all_eq_true.2 fun j hj => hall j (List.mem_range.1 hj)
            have a2 : (List.range k).all (newAt l) = true := List.all_eq_true.2 fun j hj => hnew j (List.mem_range.1 hj)
            rw [a1, a2]; simp
          have HB := Lib.hid hbel
          clear hall hnew hbel
          go_wp2
          go_ret
          exact ⟨by rw [HGOOD.out]; rfl, HB.out⟩
    · have hd : ((l.length : Int) != (n : Int)) = true := by rw [bne_iff_ne]; omega
      have HBAD : Hid (posR n l = false) := by show _ = _; rw [HR.out, HP.out]; simp [hlen]
      clear hlen
      go_enter Tryd.func17, Tryd.ntmps17
      go_wp2_with (first | (go_at_call 34; refine (HN.out _).mono ?_; rintro e w1 ⟨rfl, rfl⟩))
      go_ret
      exact ⟨by rw [HBAD.out]; rfl, Below.refl _ _⟩
/-- what CheckPosition answers -/
def posE (n : Int) (l : List Int) : Int := if posR n l then 0 else 1
theorem checkPos_go (v : Value) (n : Int) (l : List Int) (w : World) (hl : SlA w v (ints l)) :
    Calls Tryd.prog 16 #[.int .i64 n, v] w fun e w' => e = .returned (.int .i64 (posE n l)) ∧ Below w.heap.size w w' := by
  have HR : Hid (posE n l = if (sizeB n && posB n.toNat l) then 0 else 1) := rfl
  have HN := Lib.hid (fun W => isSize_any n W)
  cases hs : sizeB n with
  | false =>
    rw [hs] at HR HN
    obtain ⟨p, cap, rfl, hl1, hl2⟩ := hl.form
    have HBAD : Hid (posE n l = 1) := by show _ = _; rw [HR.out]; rfl
    clear hl hs
    go_enter Tryd.func16, Tryd.ntmps16
    go_wp2_with (first | (go_at_call 50; refine (HN.out _).mono ?_; rintro e w1 ⟨rfl, rfl⟩))
    go_ret
    exact ⟨by rw [HBAD.out]; rfl, Below.refl _ _⟩
  | true =>
    rw [hs] at HR HN
    simp only [sizeB, Bool.and_eq_true, decide_eq_true_eq] at hs
    obtain ⟨n, rfl⟩ : ∃ N : Nat, n = (N : Int) := ⟨n.toNat, by omega⟩
    rw [Int.toNat_natCast, Bool.true_and] at HR
    have HI := Lib.hid (isPos_go v n l w hl (by omega) (by omega))
    obtain ⟨p, cap, rfl, hl1, hl2⟩ := hl.form
    clear hl hs
    obtain ⟨b, hb⟩ : ∃ b, posB n l = b := ⟨_, rfl⟩
    rw [hb] at HI HR
    clear hb
    cases b with
    | true =>
      have HBAD : Hid (posE n l = 0) := by show _ = _; rw [HR.out]; rfl
      go_enter Tryd.func16, Tryd.ntmps16
      go_wp2_with (first
        | (go_at_call 50; refine (HN.out _).mono ?_; rintro e w1 ⟨rfl, rfl⟩)
        | (go_at_call 51; refine HI.out.mono ?_; rintro e w1 ⟨rfl, hb1⟩; have HB1 := Lib.hid hb1; clear hb1))
      go_ret
      exact ⟨by rw [HBAD.out]; rfl, HB1.out⟩
    | false =>
      have HBAD : Hid (posE n l = 1) := by show _ = _; rw [HR.out]; rfl
      go_enter Tryd.func16, Tryd.ntmps16
      go_wp2_with (first
        | (go_at_call 50; refine (HN.out _).mono ?_; rintro e w1 ⟨rfl, rfl⟩)
        | (go_at_call 51; refine HI.out.mono ?_; rintro e w1 ⟨rfl, hb1⟩; have HB1 := Lib.hid hb1; clear hb1))
      go_ret
      exact ⟨by rw [HBAD.out]; rfl, HB1.out⟩
end Go.Proofs.YtllhejjcmfiebaaDoor
