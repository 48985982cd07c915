import Derived.Test.YthbfgmgpploneaaDoorB8
set_option linter.unusedVariables false
set_option linter.unusedSimpArgs false
set_option linter.unnecessarySimpa false
namespace Go.Proofs.YthbfgmgpploneaaDoor
open Go.RowKit

theorem quiet_gen {P : Program} {f : FuncId} {args : Array Value} {W : World} {v : Value} {X : Nat → World} (h : Calls P f args W fun e w' => e = .returned v ∧ W = w') (hw : ∃ m, W = X m) :
    Calls P f args W fun e w'' => e = .returned v ∧ ∃ m, w'' = X m :=
  h.mono fun _ _ ⟨he, hm⟩ => ⟨he, by subst hm; exact hw⟩
/-- what bidder i has of its bundle at these prices -/
def ownOf (bids : List (List Int)) (l p : List Int) (i : Nat) : Int := (bids.getD i []).getD (l.getD i 0).toNat 0 - sumP p (l.getD i 0).toNat
theorem clearsP_iff (m : Nat) (bids : List (List Int)) (l p : List Int) : clearsP m bids l p = true ↔
    (∀ i, i < bids.length → ∀ s, s < 2 ^ m → (bids.getD i []).getD s 0 - sumP p s ≤ ownOf bids l p i) ∧ ∀ k, k < m → bt (takenTo l bids.length) k = true ∨ p.getD k 0 = 0 := by
  unfold clearsP wants ownOf
  simp only [Bool.and_eq_true, List.all_eq_true, List.mem_range, decide_eq_true_eq, Bool.or_eq_true, beq_iff_eq]
theorem clearsP_no {m : Nat} {bids : List (List Int)} {l p : List Int} (h : ¬ ((∀ i, i < bids.length → ∀ s, s < 2 ^ m → (bids.getD i []).getD s 0 - sumP p s ≤ ownOf bids l p i) ∧ ∀ k, k < m → bt (takenTo l bids.length) k = true ∨ p.getD k 0 = 0)) : clearsP m bids l p = false := by
  cases hb : clearsP m bids l p with
  | false => rfl
  | true => exact absurd ((clearsP_iff m bids l p).1 hb) h
/-- numbers of bundles -/
def Bundles (M n : Nat) (l : List Int) : Prop := l.length = n ∧ ∀ i, 0 ≤ l.getD i 0 ∧ l.getD i 0 < M
theorem takenTo_lt {m : Nat} {n : Nat} {l : List Int} (h : Bundles (2 ^ m) n l) (k : Nat) : takenTo l k < 2 ^ m := by
  induction k with
  | zero => exact pow_pos2 m
  | succ k ih =>
    have := h.2 k
    exact pow_or ih (by omega)
def Small12 (p : List Int) : Prop := ∀ i, -1000000000000 ≤ p.getD i 0 ∧ p.getD i 0 ≤ 1000000000000
theorem sumP_bd {p : List Int} (h : Small12 p) (hl : p.length ≤ 60) (s : Nat) : -60000000000000 ≤ sumP p s ∧ sumP p s ≤ 60000000000000 := by
  have := sumTo_le (B := 1000000000000) (by omega) h s p.length
  unfold sumP
  omega
set_option maxRecDepth 100000 in
set_option maxHeartbeats 4000000 in
theorem clears_any (v lv pv : Value) (m : Nat) (bids : List (List Int)) (l p : List Int) (w : World) (hl : Mat w v bids) (hll : Sl w lv (ints l)) (hpp : Sl w pv (ints p)) (hm : m ≤ 6) (hn : bids.length ≤ 7) (ho : Offers m bids)
    (hb : Bundles (2 ^ m) bids.length l) (hp : Small12 p) (hpm : p.length = m) :
    Calls Tryd.prog 35 #[.int .i64 m, v, lv, pv] w fun e w' => e = .returned (.bool (clearsP m bids l p)) ∧ Below w.heap.size w w' := by
  obtain ⟨p0, cap, rfl, hlc, hcm⟩ := hl.form_
  obtain ⟨lp, lc, rfl, hllc, hlcm⟩ := hll.form
  obtain ⟨pp, pc, rfl, hppc, hpcm⟩ := hpp.form
  unfold maxLen at hcm
  have hM := wrap_pow m (by omega)
  have hM64 := pow_le64 hm
  have HNO := Lib.hid (fun h => @clearsP_no m bids l p h)
  have HYES := Lib.hid (clearsP_iff m bids l p).2
  have HTK := Lib.hid (takenTo_lt hb)
  have HOL : Hid (∀ i, i < bids.length → (bids.getD i []).length = 2 ^ m) := fun i hi => offerB_len (ho.at_ hi)
  have HBD := Lib.hid (offers_bd ho)
  have HSB := Lib.hid (sumP_bd hp (by omega))
  have HSUM : Hid (∀ W s, Below w.heap.size w W → Calls Tryd.prog 60 #[.slice pp p.length pc, .int .i64 (s : Nat)] W fun e w' => e = .returned (.int .i64 (sumP p s)) ∧ W = w') := fun W s hbW => sum_any _ p s W (hpp.below hbW) (by omega) hp
  obtain ⟨M, hMM⟩ : ∃ M, 2 ^ m = M := ⟨_, rfl⟩
  rw [hMM] at hM hM64 HNO HYES HTK HOL hb
  have HL := Lib.hid hl
  have HLL := Lib.hid hll
  have HPP := Lib.hid hpp
  have HBN := Lib.hid hb
  have HPM := Lib.hid hpm
  have hlen := hb.1
  rw [hlen] at HLL hllc ⊢
  have HLEN := Lib.hid hlen
  clear hl hll hpp ho hb hp hMM hpm hlen
  go_enter Tryd.func35, Tryd.ntmps35
  go_wp2
  go_loopw [9, 10, 11, 12] (fun t i _ _ wr => ∃ i' : Nat, i' ≤ bids.length ∧ i = .int .i64 i' ∧ t = .int .i64 (takenTo l i' : Nat) ∧ Below w.heap.size w wr ∧ ∀ j, j < i' → ∀ s, s < M → (bids.getD j []).getD s 0 - sumP p s ≤ ownOf bids l p j) (fun _ i _ _ _ => bids.length - (intOf i).toNat)
  case atStart => exact ⟨0, Nat.zero_le _, rfl, rfl, Below.refl _ _, fun j hj => by omega⟩
  case round =>
    obtain ⟨i, hi, rfl, rfl, hbel, hall⟩ := hrel
    have HALL := Lib.hid hall
    have htk := HTK.out i
    clear hall
    by_cases hlt : i < bids.length
    · have hq := HBN.out.2 i
      have HOWN : Hid (ownOf bids l p i = (bids.getD i []).getD (l.getD i 0).toNat 0 - sumP p (l.getD i 0).toNat) := rfl
      have HTS : Hid (takenTo l (i + 1) = takenTo l i ||| (l.getD i 0).toNat) := rfl
      obtain ⟨b3, o3, c3, hv, _, _, _, hcl⟩ := (HLL.out.below hbel).int_at i (by rw [HLEN.out]; exact hlt)
      rw [HLEN.out] at hv
      cases hv
      obtain ⟨b1, o1, c1, b2, o2, c2, hv, hcb, hcx, _, hlc2⟩ := (HL.out.below hbel).at2 rfl hlt (M := M) (s := (l.getD i 0).toNat) (HOL.out i hlt) (by omega) rfl
      cases hv
      have hxb := HBD.out i (l.getD i 0).toNat
      have hsb := HSB.out (l.getD i 0).toNat
      have HS1 := Lib.hid (fun W hbW => HSUM.out W (l.getD i 0).toNat hbW)
      obtain ⟨q, hqq⟩ : ∃ q, (l.getD i 0).toNat = q := ⟨_, rfl⟩
      have hqi : l.getD i 0 = (q : Int) := by omega
      have HQI := Lib.hid hqi
      rw [hqq] at HOWN HTS hcx hxb hsb HS1
      rw [hqi] at hq hcl
      have hor := i64_or (takenTo l i) q (by omega) (by omega)
      obtain ⟨x, hx⟩ : ∃ x, (bids.getD i []).getD q 0 = x := ⟨_, rfl⟩
      obtain ⟨y, hy⟩ : ∃ y, sumP p q = y := ⟨_, rfl⟩
      rw [hx] at hcx hxb HOWN
      rw [hy] at hsb HS1 HOWN
      have hsub : IntKind.i64.wrap (x - y) = x - y := IntWalk.i64_in _ (by omega)
      obtain ⟨wo, hwo⟩ : ∃ wo : World, wo = wr := ⟨_, rfl⟩
      subst hwo
      have HB := Lib.hid hbel
      obtain ⟨T, hT⟩ : ∃ T, takenTo l i = T := ⟨_, rfl⟩
      rw [hT] at htk hor HTS ⊢
      clear hbel hqq hqi hx hy hT
      go_wp2
      go_quiet ((go_at_call 60; exact quiet_gen (HS1.out _ (below_drewN HB.out _)) ⟨_, rfl⟩))
      go_wp2
      go_loopw [12] (fun s wx => ∃ set : Nat, set ≤ M ∧ s = .int .i64 set ∧ Below w.heap.size w wx ∧ ∀ s, s < set → (bids.getD i []).getD s 0 - sumP p s ≤ ownOf bids l p i) (fun s _ => M - (intOf s).toNat)
      case atStart => exact ⟨0, Nat.zero_le _, rfl, below_drewN HB.out _, fun s hs => by omega⟩
      case round =>
        obtain ⟨set, hset, rfl, hbel, hin⟩ := hrel
        have HIN := Lib.hid hin
        clear hin HS1
        by_cases hsM : set < M
        · obtain ⟨b5, o5, c5, b4, o4, c4, hv, hcb, hcx2, _, hlc4⟩ := (HL.out.below hbel).at2 rfl hlt (M := M) (s := set) (HOL.out i hlt) hsM rfl
          cases hv
          have hx2b := HBD.out i set
          have hs2b := HSB.out set
          have HS2 := Lib.hid (fun W hbW => HSUM.out W set hbW)
          obtain ⟨x2, hx2⟩ : ∃ x2, (bids.getD i []).getD set 0 = x2 := ⟨_, rfl⟩
          obtain ⟨y2, hy2⟩ : ∃ y2, sumP p set = y2 := ⟨_, rfl⟩
          rw [hx2] at hcx2 hx2b
          rw [hy2] at hs2b HS2
          have HX2 := Lib.hid hx2
          have HY2 := Lib.hid hy2
          have hsub2 : IntKind.i64.wrap (x2 - y2) = x2 - y2 := IntWalk.i64_in _ (by omega)
          have HB3 := Lib.hid hbel
          clear hbel hx2 hy2
          by_cases hgt : x - y < x2 - y2
          · have HF : Hid (clearsP m bids l p = false) := HNO.out (fun h => by have := h.1 i hlt set hsM; rw [HX2.out, HY2.out, HOWN.out] at this; omega)
            have hd : decide (x - y < x2 - y2) = true := by rw [decide_eq_true_eq]; exact hgt
            go_wp2
            go_quiet ((go_at_call 60; exact quiet_gen (HS2.out _ (below_drewN HB3.out _)) ⟨_, rfl⟩))
            go_wp2
            go_ret
            exact ⟨by rw [HF.out]; rfl, below_drewN HB3.out _⟩
          · have HIN2 : Hid (∀ s, s < set + 1 → (bids.getD i []).getD s 0 - sumP p s ≤ ownOf bids l p i) := by
              intro s hs
              rcases Nat.lt_or_ge s set with h | h
              · exact HIN.out s h
              · have : s = set := by omega
                subst this; rw [HX2.out, HY2.out, HOWN.out]; omega
            have hd : decide (x - y < x2 - y2) = false := by rw [decide_eq_false_iff_not]; exact hgt
            go_wp2
            go_quiet ((go_at_call 60; exact quiet_gen (HS2.out _ (below_drewN HB3.out _)) ⟨_, rfl⟩))
            go_wp2
            go_roundw
            case rel => exact ⟨set + 1, by omega, by go_num, below_drewN HB3.out _, HIN2.out⟩
            case measure => simp [intOf]; omega
        · obtain rfl : set = M := by omega
          have HALL2 : Hid (∀ j, j < i + 1 → ∀ s, s < set → (bids.getD j []).getD s 0 - sumP p s ≤ ownOf bids l p j) := by
            intro j hj
            rcases Nat.lt_or_ge j i with h | h
            · exact HALL.out j h
            · have : j = i := by omega
              subst this; exact HIN.out
          obtain ⟨b5, o5, c5, hv, _, _, _, hcl2⟩ := (HLL.out.below hbel).int_at i (by rw [HLEN.out]; exact hlt)
          rw [HLEN.out] at hv
          cases hv
          rw [HQI.out] at hcl2
          have HB3 := Lib.hid hbel
          clear hbel
          go_wp2
          go_roundw
          case rel => exact ⟨i + 1, by omega, by go_num, by rw [HTS.out], HB3.out, HALL2.out⟩
          case measure => simp [intOf]; omega
    · obtain rfl : i = bids.length := by omega
      obtain ⟨wo, hwo⟩ : ∃ wo : World, wo = wr := ⟨_, rfl⟩
      subst hwo
      have HB := Lib.hid hbel
      obtain ⟨T, hT⟩ : ∃ T, takenTo l bids.length = T := ⟨_, rfl⟩
      rw [hT] at htk HNO HYES ⊢
      clear hbel hT HTK
      go_wp2
      go_loop [13] (fun k => ∃ k' : Nat, k' ≤ m ∧ k = .int .i64 k' ∧ ∀ j, j < k' → bt T j = true ∨ p.getD j 0 = 0) (fun k => m - (intOf k).toNat)
      case atStart => exact ⟨0, Nat.zero_le _, rfl, fun j hj => by omega⟩
      case round =>
        obtain ⟨k, hk, rfl, hin⟩ := hrel
        have HIN := Lib.hid hin
        clear hin
        by_cases hkm : k < m
        · obtain ⟨b5, o5, c5, hv, _, _, _, hcp⟩ := (HPP.out.below HB.out).int_at k (by rw [HPM.out]; exact hkm)
          cases hv
          have hsh := btI T k
          have HBT : Hid (bt T k = (T / 2 ^ k % 2 == 1)) := rfl
          have hkp : (k : Int) < (p.length : Int) := by rw [HPM.out]; omega
          obtain ⟨d, hd⟩ : ∃ d, T / 2 ^ k = d := ⟨_, rfl⟩
          rw [hd] at hsh HBT
          obtain ⟨x, hx⟩ : ∃ x, p.getD k 0 = x := ⟨_, rfl⟩
          rw [hx] at hcp
          have HX := Lib.hid hx
          have HSTEP : Hid ((bt T k = true ∨ p.getD k 0 = 0) → ∀ j, j < k + 1 → bt T j = true ∨ p.getD j 0 = 0) := fun h j hj => by
            rcases Nat.lt_or_ge j k with h1 | h1
            · exact HIN.out j h1
            · have : j = k := by omega
              subst this; exact h
          clear hd hx
          by_cases hodd : d % 2 = 1
          · have hb1 : ((d : Int) % 2 == 0) = false := by rw [beq_eq_false_iff_ne]; omega
            have HS := Lib.hid (HSTEP.out (Or.inl (by rw [HBT.out]; simpa using hodd)))
            clear hodd HSTEP HBT
            go_wp2
            go_round
            case rel => exact ⟨k + 1, by omega, by go_num, HS.out⟩
            case measure => simp [intOf]; omega
          · have hb1 : ((d : Int) % 2 == 0) = true := by rw [beq_iff_eq]; omega
            by_cases hx0 : x = 0
            · have HS := Lib.hid (HSTEP.out (Or.inr (by rw [HX.out, hx0])))
              have hb2 : (x != 0) = false := by rw [bne_eq_false_iff_eq]; exact hx0
              clear hodd HSTEP HBT hx0
              go_wp2
              go_round
              case rel => exact ⟨k + 1, by omega, by go_num, HS.out⟩
              case measure => simp [intOf]; omega
            · have HF : Hid (clearsP m bids l p = false) := HNO.out (fun h => by
                rcases h.2 k hkm with g | g
                · rw [HBT.out] at g; simp at g; omega
                · rw [HX.out] at g; exact hx0 g)
              have hb2 : (x != 0) = true := by rw [bne_iff_ne]; exact hx0
              clear hodd HSTEP HBT hx0
              go_wp2
              go_ret
              exact ⟨by rw [HF.out]; rfl, HB.out⟩
        · obtain rfl : k = m := by omega
          have HT2 := Lib.hid (HYES.out ⟨HALL.out, HIN.out⟩)
          go_wp2
          go_ret
          exact ⟨by rw [HT2.out]; rfl, HB.out⟩
end Go.Proofs.YthbfgmgpploneaaDoor
