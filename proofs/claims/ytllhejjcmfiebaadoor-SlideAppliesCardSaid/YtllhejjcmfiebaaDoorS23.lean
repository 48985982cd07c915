/- The reference's Sides: its walk. -/
import Derived.Test.YtllhejjcmfiebaaDoorS22
import Derived.Test.YtllhejjcmfiebaaDoorS11
set_option linter.unusedVariables false
set_option linter.unusedSimpArgs false
set_option linter.unnecessarySimpa false
namespace Go.Proofs.YtllhejjcmfiebaaDoor
open Go.RowKit Go.Shelf

theorem ve_lt {l : Ps} {n : Nat} (h : VE l n) : Lt (toE l) n := by
  intro e he
  unfold toE at he
  obtain ⟨x, hx, rfl⟩ := List.mem_map.1 he
  obtain ⟨k, hk⟩ := List.getElem?_of_mem hx
  obtain ⟨i, j, h1, h2, h3⟩ := h k (List.getElem?_eq_some_iff.1 hk).1
  rw [hk] at h1
  obtain rfl := Option.some.inj h1
  exact ⟨by simpa using h2, by simpa using h3⟩
theorem ve_at {l : Ps} {n : Nat} (h : VE l n) (hn : n ≤ 9) {j : Nat} {e : Int × Int} (he : l[j]? = some e) : ∃ a b : Nat, e = ((a : Int), (b : Int)) ∧ a < 9 ∧ b < 9 := by
  obtain ⟨a, b, h1, h2, h3⟩ := h j (List.getElem?_eq_some_iff.1 he).1
  rw [he] at h1
  exact ⟨a, b, Option.some.inj h1, by omega, by omega⟩
theorem and_i64 {a b : Nat} (ha : a < 512) (hb : b < 512) : bits .and .i64 (a : Int) (b : Int) = ((a &&& b : Nat) : Int) := by
  have e : (BitVec.ofInt 64 (a : Int) &&& BitVec.ofInt 64 (b : Int)).toNat = a &&& b := by
    rw [BitVec.toNat_and, BitVec.ofInt_natCast, BitVec.ofInt_natCast, BitVec.toNat_ofNat, BitVec.toNat_ofNat, Nat.mod_eq_of_lt (by omega), Nat.mod_eq_of_lt (by omega)]
  have hl : a &&& b ≤ a := Nat.and_le_left
  show IntKind.i64.wrap (((BitVec.ofInt 64 (a : Int) &&& BitVec.ofInt 64 (b : Int)).toNat : Nat) : Int) = _
  rw [e]
  exact IntWalk.i64_in _ (by omega)
theorem sdE_snoc (E : Es) (e : Nat × Nat) (S : Nat × Nat) : sdE (E ++ [e]) S = sdS (sdE E S) e := by simp [sdE]
/-- what the reference answers -/
def sidesV (n : Nat) (E : Es) : Value := if (sdN E n).1 &&& (sdN E n).2 = 0 then .tuple #[.int .i64 ((sdN E n).1 : Nat), .bool true] else .tuple #[.int .i64 0, .bool false]
theorem sides_next {k n : Nat} {l : Ps} (hk : k < l.length) {e : Int × Int} (he : l[k]? = some e) {L R : Nat} (S0 : Nat × Nat) (h : sdE (toE (l.take k)) S0 = (L, R)) :
    sdE (toE (l.take (k + 1))) S0 = sdS (L, R) (e.1.toNat, e.2.toNat) := by
  have e1 : toE (l.take (k + 1)) = toE (l.take k) ++ [(e.1.toNat, e.2.toNat)] := by
    rw [List.take_succ_eq_append_getElem hk]
    have : l[k] = e := (List.getElem?_eq_some_iff.1 he).2
    simp [toE, this]
  rw [e1, sdE_snoc, h]
theorem pow_512 {a : Nat} (h : a < 9) : 2 ^ a < 512 := Nat.pow_lt_pow_right (by omega : 1 < 2) h
theorem shr_fact (M X : Nat) : (M : Int) / (2 : Int) ^ X = ((M / 2 ^ X : Nat) : Int) := by rw [show ((2 : Int) ^ X) = ((2 ^ X : Nat) : Int) by simp]; rfl
theorem shl_fact {X : Nat} (h : X < 9) : IntKind.i64.wrap ((2 : Int) ^ X) = ((2 ^ X : Nat) : Int) := by
  have h5 := pow_512 h
  rw [show ((2 : Int) ^ X) = ((2 ^ X : Nat) : Int) by simp]
  obtain ⟨q, hq⟩ : ∃ q, 2 ^ X = q := ⟨_, rfl⟩
  rw [hq] at h5 ⊢
  exact IntWalk.i64_in _ (by omega)
theorem bit_fact (M X : Nat) : M.testBit X = decide (M / 2 ^ X % 2 = 1) := Nat.testBit_eq_decide_div_mod_eq
theorem odd_yes {Q : Nat} (h : Q % 2 = 1) : ((Q : Int) % 2 == 1) = true := by rw [beq_iff_eq]; omega
theorem odd_no {Q : Nat} (h : ¬ Q % 2 = 1) : ((Q : Int) % 2 == 1) = false := by rw [beq_eq_false_iff_ne]; omega
theorem orIf_yes {c : Bool} {M p : Nat} (h : c = true) : orIf c M p = M ||| p := by subst h; rfl
theorem orIf_no {c : Bool} {M p : Nat} (h : c = false) : orIf c M p = M := by subst h; rfl
set_option maxRecDepth 100000 in
set_option maxHeartbeats 8000000 in
theorem rsides_go (v : Value) (n : Nat) (l : Ps) (w : World) (hl : SlP w v l) (hv : VE l n) (hn2 : 2 ≤ n) (hn9 : n ≤ 9) :
    Calls Tryd.prog 30 #[.int .i64 n, v] w fun e w' => e = .returned (sidesV n (toE l)) ∧ Below w.heap.size w w' := by
  have HL := Lib.hid hl
  obtain ⟨p, cap, rfl, hl1, hl2⟩ := hl.len
  have hE : Lt (toE l) n := ve_lt hv
  have HLT := Lib.hid (fun k => sdN_lt hE (by omega) k)
  have HVE := Lib.hid hv
  have HSV : Hid (sidesV n (toE l) = if (sdN (toE l) n).1 &&& (sdN (toE l) n).2 = 0 then .tuple #[.int .i64 ((sdN (toE l) n).1 : Nat), .bool true] else .tuple #[.int .i64 0, .bool false]) := rfl
  have H512 : Hid (∀ m : Nat, m < 2 ^ n → m < 512) := fun m hm => Nat.lt_of_lt_of_le hm (Nat.pow_le_pow_right (by omega : 0 < 2) hn9)
  clear hl hv hE
  obtain ⟨V, hV⟩ : ∃ V, sidesV n (toE l) = V := ⟨_, rfl⟩
  rw [hV] at HSV ⊢
  clear hV
  go_enter Tryd.func30, Tryd.ntmps30
  go_wp2
  go_loopw [6, 7, 8] (fun lv rv i wr => ∃ k : Nat, k ≤ n ∧ i = .int .i64 k ∧ lv = .int .i64 ((sdN (toE l) k).1 : Nat) ∧ rv = .int .i64 ((sdN (toE l) k).2 : Nat) ∧ Below w.heap.size w wr) (fun _ _ i _ => n - (intOf i).toNat)
  case atStart => exact ⟨0, Nat.zero_le _, rfl, rfl, rfl, Below.refl _ _⟩
  case round =>
    obtain ⟨k, hk, rfl, rfl, rfl, hbel⟩ := hrel
    have HB := Lib.hid hbel
    clear hbel
    by_cases hlt : k < n
    · have HSK : Hid (sdE (toE l) (sdN (toE l) k) = sdN (toE l) (k + 1)) := rfl
      have HLK := Lib.hid (HLT.out k)
      obtain ⟨S0, hS0⟩ : ∃ S0, sdN (toE l) k = S0 := ⟨_, rfl⟩
      rw [hS0] at HSK HLK ⊢
      clear hS0
      have HLE : Hid (∀ j, (sdE (toE (l.take j)) S0).1 < 512 ∧ (sdE (toE (l.take j)) S0).2 < 512) := by
        intro j
        have h1 : In2 (fun i => i < n) (fun i => i < n) (sdE (toE (l.take j)) S0) := sdE_in _ ⟨fun i hi => bit_lt HLK.out.1 hi, fun i hi => bit_lt HLK.out.2 hi⟩ fun e he => by
          have he2 : e ∈ toE l := by
            unfold toE at he ⊢
            rw [List.map_take] at he
            exact List.mem_of_mem_take he
          have := ve_lt HVE.out e he2
          exact ⟨fun _ => this.2, fun _ => this.1, fun _ => this.2, fun _ => this.1⟩
        exact ⟨H512.out _ (lt_of_bits h1.1), H512.out _ (lt_of_bits h1.2)⟩
      have HS0 : Hid (sdE (toE (l.take 0)) S0 = S0) := rfl
      go_wp2
      go_loopw [6, 7, 9] (fun lv rv i wr => ∃ j : Nat, j ≤ l.length ∧ i = .int .i64 j ∧ lv = .int .i64 ((sdE (toE (l.take j)) S0).1 : Nat) ∧ rv = .int .i64 ((sdE (toE (l.take j)) S0).2 : Nat) ∧ Below w.heap.size w wr) (fun _ _ i _ => l.length - (intOf i).toNat)
      case atStart => exact ⟨0, Nat.zero_le _, rfl, rfl, rfl, HB.out⟩
      case round =>
        obtain ⟨j, hj, rfl, rfl, rfl, hbel⟩ := hrel
        clear HB
        by_cases hjl : j < l.length
        · obtain ⟨ad, cap', e, hvv, _, he, c1, c2⟩ := (HL.out.below hbel).at_ j hjl
          cases hvv
          have HB := Lib.hid hbel
          obtain ⟨a, b, rfl, ha9, hb9⟩ := ve_at HVE.out hn9 he
          have h5 := HLE.out j
          have HNX := Lib.hid (@sides_next j n l hjl _ he (sdE (toE (l.take j)) S0).1 (sdE (toE (l.take j)) S0).2 S0 rfl)
          simp only [Int.toNat_natCast] at HNX
          obtain ⟨L, hL⟩ : ∃ L, (sdE (toE (l.take j)) S0).1 = L := ⟨_, rfl⟩
          obtain ⟨R, hR⟩ : ∃ R, (sdE (toE (l.take j)) S0).2 = R := ⟨_, rfl⟩
          rw [hL, hR] at h5 HNX
          rw [hL, hR]
          dsimp only at c1 c2
          have gjl : (j : Int) < (l.length : Int) := by omega
          have ga : (a : Int) < 64 := by omega
          have gb : (b : Int) < 64 := by omega
          have ga2 : (a : Int) ≤ 64 := by omega
          have gb2 : (b : Int) ≤ 64 := by omega
          have pa := pow_512 ha9
          have pb := pow_512 hb9
          have sa := shl_fact ha9
          have sb := shl_fact hb9
          obtain ⟨A, hA⟩ : ∃ A, 2 ^ a = A := ⟨_, rfl⟩
          obtain ⟨B, hB⟩ : ∃ B, 2 ^ b = B := ⟨_, rfl⟩
          rw [hA] at pa sa
          rw [hB] at pb sb
          have HA := Lib.hid hA
          have HBB := Lib.hid hB
          clear hbel hL hR he hA hB HLK
          have f0 := shr_fact L a
          have t0 := bit_fact L a
          obtain ⟨q0, hq0⟩ : ∃ q, L / 2 ^ a = q := ⟨_, rfl⟩
          rw [hq0] at f0 t0
          clear hq0
          by_cases o0 : q0 % 2 = 1
          · have d0 := odd_yes o0
            have u0 := or_i64 (a := R) (b := B) h5.2 pb
            have b0 : R ||| B < 512 := Nat.or_lt_two_pow (n := 9) h5.2 pb
            have HO0 := Lib.hid (@orIf_yes (L.testBit a) R B (by rw [t0]; simp [o0]))
            obtain ⟨R0, hR0⟩ : ∃ N, R ||| B = N := ⟨_, rfl⟩
            rw [hR0] at u0 b0 HO0
            clear hR0 o0 t0
            have f1 := shr_fact L b
            have t1 := bit_fact L b
            obtain ⟨q1, hq1⟩ : ∃ q, L / 2 ^ b = q := ⟨_, rfl⟩
            rw [hq1] at f1 t1
            clear hq1
            by_cases o1 : q1 % 2 = 1
            · have d1 := odd_yes o1
              have u1 := or_i64 (a := R0) (b := A) b0 pa
              have b1 : R0 ||| A < 512 := Nat.or_lt_two_pow (n := 9) b0 pa
              have HO1 := Lib.hid (@orIf_yes (L.testBit b) R0 A (by rw [t1]; simp [o1]))
              obtain ⟨R1, hR1⟩ : ∃ N, R0 ||| A = N := ⟨_, rfl⟩
              rw [hR1] at u1 b1 HO1
              clear hR1 o1 t1
              have f2 := shr_fact R1 a
              have t2 := bit_fact R1 a
              obtain ⟨q2, hq2⟩ : ∃ q, R1 / 2 ^ a = q := ⟨_, rfl⟩
              rw [hq2] at f2 t2
              clear hq2
              by_cases o2 : q2 % 2 = 1
              · have d2 := odd_yes o2
                have u2 := or_i64 (a := L) (b := B) h5.1 pb
                have b2 : L ||| B < 512 := Nat.or_lt_two_pow (n := 9) h5.1 pb
                have HO2 := Lib.hid (@orIf_yes (R1.testBit a) L B (by rw [t2]; simp [o2]))
                obtain ⟨L2, hL2⟩ : ∃ N, L ||| B = N := ⟨_, rfl⟩
                rw [hL2] at u2 b2 HO2
                clear hL2 o2 t2
                have f3 := shr_fact R1 b
                have t3 := bit_fact R1 b
                obtain ⟨q3, hq3⟩ : ∃ q, R1 / 2 ^ b = q := ⟨_, rfl⟩
                rw [hq3] at f3 t3
                clear hq3
                by_cases o3 : q3 % 2 = 1
                · have d3 := odd_yes o3
                  have u3 := or_i64 (a := L2) (b := A) b2 pa
                  have b3 : L2 ||| A < 512 := Nat.or_lt_two_pow (n := 9) b2 pa
                  have HO3 := Lib.hid (@orIf_yes (R1.testBit b) L2 A (by rw [t3]; simp [o3]))
                  obtain ⟨L3, hL3⟩ : ∃ N, L2 ||| A = N := ⟨_, rfl⟩
                  rw [hL3] at u3 b3 HO3
                  clear hL3 o3 t3
                  have HFIN : Hid (sdE (toE (l.take (j + 1))) S0 = (L3, R1)) := by
                    show _ = _
                    rw [HNX.out]
                    have eR : sdR (L, R) (a, b) = R1 := by unfold sdR; dsimp only; rw [HA.out, HBB.out, HO0.out, HO1.out]
                    exact Prod.ext (by show sdL (L, R) (a, b) = L3; unfold sdL; rw [eR]; dsimp only; rw [HA.out, HBB.out, HO2.out, HO3.out]) eR
                  clear HA HBB HNX HLE HVE HL pa pb h5 HO0 b0 HO1 b1 HO2 b2 HO3 b3
                  go_wp2
                  go_quiet (fail)
                  go_wp2
                  go_roundw
                  case rel => exact ⟨j + 1, by omega, by go_num, by rw [HFIN.out], by rw [HFIN.out], below_drewN HB.out _⟩
                  case measure => simp [intOf]; omega
                · have d3 := odd_no o3
                  have HO3 := Lib.hid (@orIf_no (R1.testBit b) L2 A (by rw [t3]; simp [o3]))
                  clear o3 t3
                  have HFIN : Hid (sdE (toE (l.take (j + 1))) S0 = (L2, R1)) := by
                    show _ = _
                    rw [HNX.out]
                    have eR : sdR (L, R) (a, b) = R1 := by unfold sdR; dsimp only; rw [HA.out, HBB.out, HO0.out, HO1.out]
                    exact Prod.ext (by show sdL (L, R) (a, b) = L2; unfold sdL; rw [eR]; dsimp only; rw [HA.out, HBB.out, HO2.out, HO3.out]) eR
                  clear HA HBB HNX HLE HVE HL pa pb h5 HO0 b0 HO1 b1 HO2 b2 HO3
                  go_wp2
                  go_quiet (fail)
                  go_wp2
                  go_roundw
                  case rel => exact ⟨j + 1, by omega, by go_num, by rw [HFIN.out], by rw [HFIN.out], below_drewN HB.out _⟩
                  case measure => simp [intOf]; omega
              · have d2 := odd_no o2
                have HO2 := Lib.hid (@orIf_no (R1.testBit a) L B (by rw [t2]; simp [o2]))
                clear o2 t2
                have f3 := shr_fact R1 b
                have t3 := bit_fact R1 b
                obtain ⟨q3, hq3⟩ : ∃ q, R1 / 2 ^ b = q := ⟨_, rfl⟩
                rw [hq3] at f3 t3
                clear hq3
                by_cases o3 : q3 % 2 = 1
                · have d3 := odd_yes o3
                  have u3 := or_i64 (a := L) (b := A) h5.1 pa
                  have b3 : L ||| A < 512 := Nat.or_lt_two_pow (n := 9) h5.1 pa
                  have HO3 := Lib.hid (@orIf_yes (R1.testBit b) L A (by rw [t3]; simp [o3]))
                  obtain ⟨L3, hL3⟩ : ∃ N, L ||| A = N := ⟨_, rfl⟩
                  rw [hL3] at u3 b3 HO3
                  clear hL3 o3 t3
                  have HFIN : Hid (sdE (toE (l.take (j + 1))) S0 = (L3, R1)) := by
                    show _ = _
                    rw [HNX.out]
                    have eR : sdR (L, R) (a, b) = R1 := by unfold sdR; dsimp only; rw [HA.out, HBB.out, HO0.out, HO1.out]
                    exact Prod.ext (by show sdL (L, R) (a, b) = L3; unfold sdL; rw [eR]; dsimp only; rw [HA.out, HBB.out, HO2.out, HO3.out]) eR
                  clear HA HBB HNX HLE HVE HL pa pb h5 HO0 b0 HO1 b1 HO2 HO3 b3
                  go_wp2
                  go_quiet (fail)
                  go_wp2
                  go_roundw
                  case rel => exact ⟨j + 1, by omega, by go_num, by rw [HFIN.out], by rw [HFIN.out], below_drewN HB.out _⟩
                  case measure => simp [intOf]; omega
                · have d3 := odd_no o3
                  have HO3 := Lib.hid (@orIf_no (R1.testBit b) L A (by rw [t3]; simp [o3]))
                  clear o3 t3
                  have HFIN : Hid (sdE (toE (l.take (j + 1))) S0 = (L, R1)) := by
                    show _ = _
                    rw [HNX.out]
                    have eR : sdR (L, R) (a, b) = R1 := by unfold sdR; dsimp only; rw [HA.out, HBB.out, HO0.out, HO1.out]
                    exact Prod.ext (by show sdL (L, R) (a, b) = L; unfold sdL; rw [eR]; dsimp only; rw [HA.out, HBB.out, HO2.out, HO3.out]) eR
                  clear HA HBB HNX HLE HVE HL pa pb h5 HO0 b0 HO1 b1 HO2 HO3
                  go_wp2
                  go_quiet (fail)
                  go_wp2
                  go_roundw
                  case rel => exact ⟨j + 1, by omega, by go_num, by rw [HFIN.out], by rw [HFIN.out], below_drewN HB.out _⟩
                  case measure => simp [intOf]; omega
            · have d1 := odd_no o1
              have HO1 := Lib.hid (@orIf_no (L.testBit b) R0 A (by rw [t1]; simp [o1]))
              clear o1 t1
              have f2 := shr_fact R0 a
              have t2 := bit_fact R0 a
              obtain ⟨q2, hq2⟩ : ∃ q, R0 / 2 ^ a = q := ⟨_, rfl⟩
              rw [hq2] at f2 t2
              clear hq2
              by_cases o2 : q2 % 2 = 1
              · have d2 := odd_yes o2
                have u2 := or_i64 (a := L) (b := B) h5.1 pb
                have b2 : L ||| B < 512 := Nat.or_lt_two_pow (n := 9) h5.1 pb
                have HO2 := Lib.hid (@orIf_yes (R0.testBit a) L B (by rw [t2]; simp [o2]))
                obtain ⟨L2, hL2⟩ : ∃ N, L ||| B = N := ⟨_, rfl⟩
                rw [hL2] at u2 b2 HO2
                clear hL2 o2 t2
                have f3 := shr_fact R0 b
                have t3 := bit_fact R0 b
                obtain ⟨q3, hq3⟩ : ∃ q, R0 / 2 ^ b = q := ⟨_, rfl⟩
                rw [hq3] at f3 t3
                clear hq3
                by_cases o3 : q3 % 2 = 1
                · have d3 := odd_yes o3
                  have u3 := or_i64 (a := L2) (b := A) b2 pa
                  have b3 : L2 ||| A < 512 := Nat.or_lt_two_pow (n := 9) b2 pa
                  have HO3 := Lib.hid (@orIf_yes (R0.testBit b) L2 A (by rw [t3]; simp [o3]))
                  obtain ⟨L3, hL3⟩ : ∃ N, L2 ||| A = N := ⟨_, rfl⟩
                  rw [hL3] at u3 b3 HO3
                  clear hL3 o3 t3
                  have HFIN : Hid (sdE (toE (l.take (j + 1))) S0 = (L3, R0)) := by
                    show _ = _
                    rw [HNX.out]
                    have eR : sdR (L, R) (a, b) = R0 := by unfold sdR; dsimp only; rw [HA.out, HBB.out, HO0.out, HO1.out]
                    exact Prod.ext (by show sdL (L, R) (a, b) = L3; unfold sdL; rw [eR]; dsimp only; rw [HA.out, HBB.out, HO2.out, HO3.out]) eR
                  clear HA HBB HNX HLE HVE HL pa pb h5 HO0 b0 HO1 HO2 b2 HO3 b3
                  go_wp2
                  go_quiet (fail)
                  go_wp2
                  go_roundw
                  case rel => exact ⟨j + 1, by omega, by go_num, by rw [HFIN.out], by rw [HFIN.out], below_drewN HB.out _⟩
                  case measure => simp [intOf]; omega
                · have d3 := odd_no o3
                  have HO3 := Lib.hid (@orIf_no (R0.testBit b) L2 A (by rw [t3]; simp [o3]))
                  clear o3 t3
                  have HFIN : Hid (sdE (toE (l.take (j + 1))) S0 = (L2, R0)) := by
                    show _ = _
                    rw [HNX.out]
                    have eR : sdR (L, R) (a, b) = R0 := by unfold sdR; dsimp only; rw [HA.out, HBB.out, HO0.out, HO1.out]
                    exact Prod.ext (by show sdL (L, R) (a, b) = L2; unfold sdL; rw [eR]; dsimp only; rw [HA.out, HBB.out, HO2.out, HO3.out]) eR
                  clear HA HBB HNX HLE HVE HL pa pb h5 HO0 b0 HO1 HO2 b2 HO3
                  go_wp2
                  go_quiet (fail)
                  go_wp2
                  go_roundw
                  case rel => exact ⟨j + 1, by omega, by go_num, by rw [HFIN.out], by rw [HFIN.out], below_drewN HB.out _⟩
                  case measure => simp [intOf]; omega
              · have d2 := odd_no o2
                have HO2 := Lib.hid (@orIf_no (R0.testBit a) L B (by rw [t2]; simp [o2]))
                clear o2 t2
                have f3 := shr_fact R0 b
                have t3 := bit_fact R0 b
                obtain ⟨q3, hq3⟩ : ∃ q, R0 / 2 ^ b = q := ⟨_, rfl⟩
                rw [hq3] at f3 t3
                clear hq3
                by_cases o3 : q3 % 2 = 1
                · have d3 := odd_yes o3
                  have u3 := or_i64 (a := L) (b := A) h5.1 pa
                  have b3 : L ||| A < 512 := Nat.or_lt_two_pow (n := 9) h5.1 pa
                  have HO3 := Lib.hid (@orIf_yes (R0.testBit b) L A (by rw [t3]; simp [o3]))
                  obtain ⟨L3, hL3⟩ : ∃ N, L ||| A = N := ⟨_, rfl⟩
                  rw [hL3] at u3 b3 HO3
                  clear hL3 o3 t3
                  have HFIN : Hid (sdE (toE (l.take (j + 1))) S0 = (L3, R0)) := by
                    show _ = _
                    rw [HNX.out]
                    have eR : sdR (L, R) (a, b) = R0 := by unfold sdR; dsimp only; rw [HA.out, HBB.out, HO0.out, HO1.out]
                    exact Prod.ext (by show sdL (L, R) (a, b) = L3; unfold sdL; rw [eR]; dsimp only; rw [HA.out, HBB.out, HO2.out, HO3.out]) eR
                  clear HA HBB HNX HLE HVE HL pa pb h5 HO0 b0 HO1 HO2 HO3 b3
                  go_wp2
                  go_quiet (fail)
                  go_wp2
                  go_roundw
                  case rel => exact ⟨j + 1, by omega, by go_num, by rw [HFIN.out], by rw [HFIN.out], below_drewN HB.out _⟩
                  case measure => simp [intOf]; omega
                · have d3 := odd_no o3
                  have HO3 := Lib.hid (@orIf_no (R0.testBit b) L A (by rw [t3]; simp [o3]))
                  clear o3 t3
                  have HFIN : Hid (sdE (toE (l.take (j + 1))) S0 = (L, R0)) := by
                    show _ = _
                    rw [HNX.out]
                    have eR : sdR (L, R) (a, b) = R0 := by unfold sdR; dsimp only; rw [HA.out, HBB.out, HO0.out, HO1.out]
                    exact Prod.ext (by show sdL (L, R) (a, b) = L; unfold sdL; rw [eR]; dsimp only; rw [HA.out, HBB.out, HO2.out, HO3.out]) eR
                  clear HA HBB HNX HLE HVE HL pa pb h5 HO0 b0 HO1 HO2 HO3
                  go_wp2
                  go_quiet (fail)
                  go_wp2
                  go_roundw
                  case rel => exact ⟨j + 1, by omega, by go_num, by rw [HFIN.out], by rw [HFIN.out], below_drewN HB.out _⟩
                  case measure => simp [intOf]; omega
          · have d0 := odd_no o0
            have HO0 := Lib.hid (@orIf_no (L.testBit a) R B (by rw [t0]; simp [o0]))
            clear o0 t0
            have f1 := shr_fact L b
            have t1 := bit_fact L b
            obtain ⟨q1, hq1⟩ : ∃ q, L / 2 ^ b = q := ⟨_, rfl⟩
            rw [hq1] at f1 t1
            clear hq1
            by_cases o1 : q1 % 2 = 1
            · have d1 := odd_yes o1
              have u1 := or_i64 (a := R) (b := A) h5.2 pa
              have b1 : R ||| A < 512 := Nat.or_lt_two_pow (n := 9) h5.2 pa
              have HO1 := Lib.hid (@orIf_yes (L.testBit b) R A (by rw [t1]; simp [o1]))
              obtain ⟨R1, hR1⟩ : ∃ N, R ||| A = N := ⟨_, rfl⟩
              rw [hR1] at u1 b1 HO1
              clear hR1 o1 t1
              have f2 := shr_fact R1 a
              have t2 := bit_fact R1 a
              obtain ⟨q2, hq2⟩ : ∃ q, R1 / 2 ^ a = q := ⟨_, rfl⟩
              rw [hq2] at f2 t2
              clear hq2
              by_cases o2 : q2 % 2 = 1
              · have d2 := odd_yes o2
                have u2 := or_i64 (a := L) (b := B) h5.1 pb
                have b2 : L ||| B < 512 := Nat.or_lt_two_pow (n := 9) h5.1 pb
                have HO2 := Lib.hid (@orIf_yes (R1.testBit a) L B (by rw [t2]; simp [o2]))
                obtain ⟨L2, hL2⟩ : ∃ N, L ||| B = N := ⟨_, rfl⟩
                rw [hL2] at u2 b2 HO2
                clear hL2 o2 t2
                have f3 := shr_fact R1 b
                have t3 := bit_fact R1 b
                obtain ⟨q3, hq3⟩ : ∃ q, R1 / 2 ^ b = q := ⟨_, rfl⟩
                rw [hq3] at f3 t3
                clear hq3
                by_cases o3 : q3 % 2 = 1
                · have d3 := odd_yes o3
                  have u3 := or_i64 (a := L2) (b := A) b2 pa
                  have b3 : L2 ||| A < 512 := Nat.or_lt_two_pow (n := 9) b2 pa
                  have HO3 := Lib.hid (@orIf_yes (R1.testBit b) L2 A (by rw [t3]; simp [o3]))
                  obtain ⟨L3, hL3⟩ : ∃ N, L2 ||| A = N := ⟨_, rfl⟩
                  rw [hL3] at u3 b3 HO3
                  clear hL3 o3 t3
                  have HFIN : Hid (sdE (toE (l.take (j + 1))) S0 = (L3, R1)) := by
                    show _ = _
                    rw [HNX.out]
                    have eR : sdR (L, R) (a, b) = R1 := by unfold sdR; dsimp only; rw [HA.out, HBB.out, HO0.out, HO1.out]
                    exact Prod.ext (by show sdL (L, R) (a, b) = L3; unfold sdL; rw [eR]; dsimp only; rw [HA.out, HBB.out, HO2.out, HO3.out]) eR
                  clear HA HBB HNX HLE HVE HL pa pb h5 HO0 HO1 b1 HO2 b2 HO3 b3
                  go_wp2
                  go_quiet (fail)
                  go_wp2
                  go_roundw
                  case rel => exact ⟨j + 1, by omega, by go_num, by rw [HFIN.out], by rw [HFIN.out], below_drewN HB.out _⟩
                  case measure => simp [intOf]; omega
                · have d3 := odd_no o3
                  have HO3 := Lib.hid (@orIf_no (R1.testBit b) L2 A (by rw [t3]; simp [o3]))
                  clear o3 t3
                  have HFIN : Hid (sdE (toE (l.take (j + 1))) S0 = (L2, R1)) := by
                    show _ = _
                    rw [HNX.out]
                    have eR : sdR (L, R) (a, b) = R1 := by unfold sdR; dsimp only; rw [HA.out, HBB.out, HO0.out, HO1.out]
                    exact Prod.ext (by show sdL (L, R) (a, b) = L2; unfold sdL; rw [eR]; dsimp only; rw [HA.out, HBB.out, HO2.out, HO3.out]) eR
                  clear HA HBB HNX HLE HVE HL pa pb h5 HO0 HO1 b1 HO2 b2 HO3
                  go_wp2
                  go_quiet (fail)
                  go_wp2
                  go_roundw
                  case rel => exact ⟨j + 1, by omega, by go_num, by rw [HFIN.out], by rw [HFIN.out], below_drewN HB.out _⟩
                  case measure => simp [intOf]; omega
              · have d2 := odd_no o2
                have HO2 := Lib.hid (@orIf_no (R1.testBit a) L B (by rw [t2]; simp [o2]))
                clear o2 t2
                have f3 := shr_fact R1 b
                have t3 := bit_fact R1 b
                obtain ⟨q3, hq3⟩ : ∃ q, R1 / 2 ^ b = q := ⟨_, rfl⟩
                rw [hq3] at f3 t3
                clear hq3
                by_cases o3 : q3 % 2 = 1
                · have d3 := odd_yes o3
                  have u3 := or_i64 (a := L) (b := A) h5.1 pa
                  have b3 : L ||| A < 512 := Nat.or_lt_two_pow (n := 9) h5.1 pa
                  have HO3 := Lib.hid (@orIf_yes (R1.testBit b) L A (by rw [t3]; simp [o3]))
                  obtain ⟨L3, hL3⟩ : ∃ N, L ||| A = N := ⟨_, rfl⟩
                  rw [hL3] at u3 b3 HO3
                  clear hL3 o3 t3
                  have HFIN : Hid (sdE (toE (l.take (j + 1))) S0 = (L3, R1)) := by
                    show _ = _
                    rw [HNX.out]
                    have eR : sdR (L, R) (a, b) = R1 := by unfold sdR; dsimp only; rw [HA.out, HBB.out, HO0.out, HO1.out]
                    exact Prod.ext (by show sdL (L, R) (a, b) = L3; unfold sdL; rw [eR]; dsimp only; rw [HA.out, HBB.out, HO2.out, HO3.out]) eR
                  clear HA HBB HNX HLE HVE HL pa pb h5 HO0 HO1 b1 HO2 HO3 b3
                  go_wp2
                  go_quiet (fail)
                  go_wp2
                  go_roundw
                  case rel => exact ⟨j + 1, by omega, by go_num, by rw [HFIN.out], by rw [HFIN.out], below_drewN HB.out _⟩
                  case measure => simp [intOf]; omega
                · have d3 := odd_no o3
                  have HO3 := Lib.hid (@orIf_no (R1.testBit b) L A (by rw [t3]; simp [o3]))
                  clear o3 t3
                  have HFIN : Hid (sdE (toE (l.take (j + 1))) S0 = (L, R1)) := by
                    show _ = _
                    rw [HNX.out]
                    have eR : sdR (L, R) (a, b) = R1 := by unfold sdR; dsimp only; rw [HA.out, HBB.out, HO0.out, HO1.out]
                    exact Prod.ext (by show sdL (L, R) (a, b) = L; unfold sdL; rw [eR]; dsimp only; rw [HA.out, HBB.out, HO2.out, HO3.out]) eR
                  clear HA HBB HNX HLE HVE HL pa pb h5 HO0 HO1 b1 HO2 HO3
                  go_wp2
                  go_quiet (fail)
                  go_wp2
                  go_roundw
                  case rel => exact ⟨j + 1, by omega, by go_num, by rw [HFIN.out], by rw [HFIN.out], below_drewN HB.out _⟩
                  case measure => simp [intOf]; omega
            · have d1 := odd_no o1
              have HO1 := Lib.hid (@orIf_no (L.testBit b) R A (by rw [t1]; simp [o1]))
              clear o1 t1
              have f2 := shr_fact R a
              have t2 := bit_fact R a
              obtain ⟨q2, hq2⟩ : ∃ q, R / 2 ^ a = q := ⟨_, rfl⟩
              rw [hq2] at f2 t2
              clear hq2
              by_cases o2 : q2 % 2 = 1
              · have d2 := odd_yes o2
                have u2 := or_i64 (a := L) (b := B) h5.1 pb
                have b2 : L ||| B < 512 := Nat.or_lt_two_pow (n := 9) h5.1 pb
                have HO2 := Lib.hid (@orIf_yes (R.testBit a) L B (by rw [t2]; simp [o2]))
                obtain ⟨L2, hL2⟩ : ∃ N, L ||| B = N := ⟨_, rfl⟩
                rw [hL2] at u2 b2 HO2
                clear hL2 o2 t2
                have f3 := shr_fact R b
                have t3 := bit_fact R b
                obtain ⟨q3, hq3⟩ : ∃ q, R / 2 ^ b = q := ⟨_, rfl⟩
                rw [hq3] at f3 t3
                clear hq3
                by_cases o3 : q3 % 2 = 1
                · have d3 := odd_yes o3
                  have u3 := or_i64 (a := L2) (b := A) b2 pa
                  have b3 : L2 ||| A < 512 := Nat.or_lt_two_pow (n := 9) b2 pa
                  have HO3 := Lib.hid (@orIf_yes (R.testBit b) L2 A (by rw [t3]; simp [o3]))
                  obtain ⟨L3, hL3⟩ : ∃ N, L2 ||| A = N := ⟨_, rfl⟩
                  rw [hL3] at u3 b3 HO3
                  clear hL3 o3 t3
                  have HFIN : Hid (sdE (toE (l.take (j + 1))) S0 = (L3, R)) := by
                    show _ = _
                    rw [HNX.out]
                    have eR : sdR (L, R) (a, b) = R := by unfold sdR; dsimp only; rw [HA.out, HBB.out, HO0.out, HO1.out]
                    exact Prod.ext (by show sdL (L, R) (a, b) = L3; unfold sdL; rw [eR]; dsimp only; rw [HA.out, HBB.out, HO2.out, HO3.out]) eR
                  clear HA HBB HNX HLE HVE HL pa pb h5 HO0 HO1 HO2 b2 HO3 b3
                  go_wp2
                  go_quiet (fail)
                  go_wp2
                  go_roundw
                  case rel => exact ⟨j + 1, by omega, by go_num, by rw [HFIN.out], by rw [HFIN.out], below_drewN HB.out _⟩
                  case measure => simp [intOf]; omega
                · have d3 := odd_no o3
                  have HO3 := Lib.hid (@orIf_no (R.testBit b) L2 A (by rw [t3]; simp [o3]))
                  clear o3 t3
                  have HFIN : Hid (sdE (toE (l.take (j + 1))) S0 = (L2, R)) := by
                    show _ = _
                    rw [HNX.out]
                    have eR : sdR (L, R) (a, b) = R := by unfold sdR; dsimp only; rw [HA.out, HBB.out, HO0.out, HO1.out]
                    exact Prod.ext (by show sdL (L, R) (a, b) = L2; unfold sdL; rw [eR]; dsimp only; rw [HA.out, HBB.out, HO2.out, HO3.out]) eR
                  clear HA HBB HNX HLE HVE HL pa pb h5 HO0 HO1 HO2 b2 HO3
                  go_wp2
                  go_quiet (fail)
                  go_wp2
                  go_roundw
                  case rel => exact ⟨j + 1, by omega, by go_num, by rw [HFIN.out], by rw [HFIN.out], below_drewN HB.out _⟩
                  case measure => simp [intOf]; omega
              · have d2 := odd_no o2
                have HO2 := Lib.hid (@orIf_no (R.testBit a) L B (by rw [t2]; simp [o2]))
                clear o2 t2
                have f3 := shr_fact R b
                have t3 := bit_fact R b
                obtain ⟨q3, hq3⟩ : ∃ q, R / 2 ^ b = q := ⟨_, rfl⟩
                rw [hq3] at f3 t3
                clear hq3
                by_cases o3 : q3 % 2 = 1
                · have d3 := odd_yes o3
                  have u3 := or_i64 (a := L) (b := A) h5.1 pa
                  have b3 : L ||| A < 512 := Nat.or_lt_two_pow (n := 9) h5.1 pa
                  have HO3 := Lib.hid (@orIf_yes (R.testBit b) L A (by rw [t3]; simp [o3]))
                  obtain ⟨L3, hL3⟩ : ∃ N, L ||| A = N := ⟨_, rfl⟩
                  rw [hL3] at u3 b3 HO3
                  clear hL3 o3 t3
                  have HFIN : Hid (sdE (toE (l.take (j + 1))) S0 = (L3, R)) := by
                    show _ = _
                    rw [HNX.out]
                    have eR : sdR (L, R) (a, b) = R := by unfold sdR; dsimp only; rw [HA.out, HBB.out, HO0.out, HO1.out]
                    exact Prod.ext (by show sdL (L, R) (a, b) = L3; unfold sdL; rw [eR]; dsimp only; rw [HA.out, HBB.out, HO2.out, HO3.out]) eR
                  clear HA HBB HNX HLE HVE HL pa pb h5 HO0 HO1 HO2 HO3 b3
                  go_wp2
                  go_quiet (fail)
                  go_wp2
                  go_roundw
                  case rel => exact ⟨j + 1, by omega, by go_num, by rw [HFIN.out], by rw [HFIN.out], below_drewN HB.out _⟩
                  case measure => simp [intOf]; omega
                · have d3 := odd_no o3
                  have HO3 := Lib.hid (@orIf_no (R.testBit b) L A (by rw [t3]; simp [o3]))
                  clear o3 t3
                  have HFIN : Hid (sdE (toE (l.take (j + 1))) S0 = (L, R)) := by
                    show _ = _
                    rw [HNX.out]
                    have eR : sdR (L, R) (a, b) = R := by unfold sdR; dsimp only; rw [HA.out, HBB.out, HO0.out, HO1.out]
                    exact Prod.ext (by show sdL (L, R) (a, b) = L; unfold sdL; rw [eR]; dsimp only; rw [HA.out, HBB.out, HO2.out, HO3.out]) eR
                  clear HA HBB HNX HLE HVE HL pa pb h5 HO0 HO1 HO2 HO3
                  go_wp2
                  go_quiet (fail)
                  go_wp2
                  go_roundw
                  case rel => exact ⟨j + 1, by omega, by go_num, by rw [HFIN.out], by rw [HFIN.out], below_drewN HB.out _⟩
                  case measure => simp [intOf]; omega
        · obtain rfl : j = l.length := by omega
          have HT : Hid (sdE (toE (l.take l.length)) S0 = sdN (toE l) (k + 1)) := by show _ = _; rw [List.take_length]; exact HSK.out
          rw [HT.out]
          have HB := Lib.hid hbel
          clear hbel
          go_wp2
          go_roundw
          case rel => exact ⟨k + 1, by omega, by go_num, rfl, rfl, HB.out⟩
          case measure => simp [intOf]; omega
    · obtain rfl : k = n := by omega
      obtain ⟨h1, h2⟩ := HLT.out k
      obtain ⟨L, hL⟩ : ∃ L, (sdN (toE l) k).1 = L := ⟨_, rfl⟩
      obtain ⟨R, hR⟩ : ∃ R, (sdN (toE l) k).2 = R := ⟨_, rfl⟩
      rw [hL] at h1
      rw [hR] at h2
      rw [hL, hR] at HSV ⊢
      have hand : bits .and .i64 (L : Int) (R : Int) = ((L &&& R : Nat) : Int) := and_i64 (H512.out _ h1) (H512.out _ h2)
      obtain ⟨N, hN⟩ : ∃ N, L &&& R = N := ⟨_, rfl⟩
      rw [hN] at hand HSV
      clear HL HLT HVE H512 h1 h2 hL hR hN
      by_cases h0 : N = 0
      · have HV : Hid (V = .tuple #[.int .i64 (L : Nat), .bool true]) := by show _ = _; rw [HSV.out, if_pos h0]
        clear HSV
        subst h0
        go_wp2
        go_ret2
        exact ⟨by rw [HV.out]; rfl, HB.out⟩
      · have HV : Hid (V = .tuple #[.int .i64 0, .bool false]) := by show _ = _; rw [HSV.out, if_neg h0]
        clear HSV
        have hne : ((N : Int) != 0) = true := by rw [bne_iff_ne]; omega
        go_wp2
        go_ret2
        exact ⟨by rw [HV.out]; rfl, HB.out⟩
end Go.Proofs.YtllhejjcmfiebaaDoor
