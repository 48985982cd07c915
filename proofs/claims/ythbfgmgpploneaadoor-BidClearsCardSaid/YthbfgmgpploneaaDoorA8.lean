import Derived.Test.YthbfgmgpploneaaDoorA7
set_option linter.unusedVariables false
set_option linter.unusedSimpArgs false
set_option linter.unnecessarySimpa false
namespace Go.Proofs.YthbfgmgpploneaaDoor
open Go.RowKit

theorem allocGo_step (M t k : Nat) (l : List Int) (hk : k < l.length) : allocGo M t (l.drop k) = (decide (0 ≤ l.getD k 0) && decide (l.getD k 0 < M) && ((l.getD k 0).toNat &&& t == 0) && allocGo M (t ||| (l.getD k 0).toNat) (l.drop (k + 1))) := by
  rw [List.drop_eq_getElem_cons hk, List.getD_eq_getElem?_getD, List.getElem?_eq_getElem hk]; rfl
theorem allocGo_end (M t : Nat) (l : List Int) : allocGo M t (l.drop l.length) = true := by rw [List.drop_length]; rfl
theorem allocB_of {m n M : Nat} {l : List Int} {b : Bool} (hM : 2 ^ m = M) (h : allocGo M 0 l = b) : allocB m n l = (b && l.length == n) := by unfold allocB; rw [hM, h]
theorem pow_or {m a b : Nat} (ha : a < 2 ^ m) (hb : b < 2 ^ m) : a ||| b < 2 ^ m := Nat.or_lt_two_pow ha hb
set_option maxHeartbeats 2000000 in
theorem isAlloc_any (p0 : Option Addr) (c0 n : Nat) (v : Value) (m : Nat) (l : List Int) (w : World) (hl : Sl w v (ints l)) (hm : m ≤ 6) (hn : n ≤ 1000) (hc0 : n ≤ c0) :
    Calls Tryd.prog 44 #[.int .i64 m, .slice p0 n c0, v] w fun e w' => e = .returned (.bool (allocB m n l)) ∧ Below w.heap.size w w' := by
  have hM := wrap_pow m (by omega)
  have hM64 := pow_le64 hm
  have hM0 := pow_pos2 m
  obtain ⟨p, cap, rfl, hlc, hcm⟩ := hl.form
  obtain ⟨M, hMM⟩ : ∃ M, 2 ^ m = M := ⟨_, rfl⟩
  rw [hMM] at hM hM64 hM0
  have HMM := Lib.hid hMM
  have HL := Lib.hid hl
  clear hl hMM
  go_enter Tryd.func44, Tryd.ntmps44
  go_wp2
  go_loopw [7, 8] (fun t i wr => ∃ k t0 : Nat, k ≤ l.length ∧ i = .int .i64 k ∧ t = .int .i64 t0 ∧ t0 < M ∧ allocGo M 0 l = allocGo M t0 (l.drop k) ∧ RdRel (.slice p l.length cap) l w wr) (fun _ i _ => l.length - (intOf i).toNat)
  case atStart => exact ⟨0, 0, Nat.zero_le _, rfl, rfl, hM0, rfl, HL.out, Below.refl _ _⟩
  case round =>
    obtain ⟨k, t, hk, rfl, rfl, ht, heq, hrel⟩ := hrel
    by_cases hlt : k < l.length
    · obtain ⟨b, off, cap', hv, _, _, _, hc1⟩ := hrel.1.int_at k hlt
      cases hv
      have HREL := Lib.hid hrel
      have HSTEP := Lib.hid (heq.trans (allocGo_step M t k l hlt))
      obtain ⟨x, hx⟩ : ∃ x, l.getD k 0 = x := ⟨_, rfl⟩
      rw [hx] at hc1 HSTEP
      clear hrel hx heq
      by_cases hx0 : x < 0
      · have hd1 : decide (x < 0) = true := by simpa using hx0
        have HF : Hid (allocB m n l = false) := by
          show _ = _
          have : decide (0 ≤ x) = false := by simpa using hx0
          rw [allocB_of HMM.out HSTEP.out, this]; rfl
        clear HSTEP
        go_wp2
        go_quiet (fail)
        go_wp2
        go_ret
        exact ⟨by rw [HF.out]; rfl, below_drewN HREL.out.2 _⟩
      · have hd1 : decide (x < 0) = false := by simpa using hx0
        obtain ⟨X, rfl⟩ : ∃ X : Nat, x = (X : Int) := ⟨x.toNat, by omega⟩
        rw [Int.toNat_natCast] at HSTEP
        by_cases hx1 : M ≤ X
        · have hd2 : decide ((M : Int) ≤ (X : Int)) = true := by rw [decide_eq_true_eq]; omega
          have hd3 : (M : Int) ≤ (X : Int) := by omega
          have HF : Hid (allocB m n l = false) := by
            show _ = _
            have : decide ((X : Int) < (M : Int)) = false := by rw [decide_eq_false_iff_not]; omega
            rw [allocB_of HMM.out HSTEP.out, this, Bool.and_false]; rfl
          clear HSTEP hx0
          go_wp2
          go_quiet (fail)
          go_wp2
          go_ret
          exact ⟨by rw [HF.out]; rfl, below_drewN HREL.out.2 _⟩
        · have hd2 : decide ((M : Int) ≤ (X : Int)) = false := by rw [decide_eq_false_iff_not]; omega
          have hd3 : ¬ (M : Int) ≤ (X : Int) := by omega
          have hand := i64_and X t (by omega) (by omega)
          have hor := i64_or t X (by omega) (by omega)
          have hlt2 := HMM.out ▸ pow_or (m := m) (a := t) (b := X) (by rw [HMM.out]; exact ht) (by rw [HMM.out]; omega)
          obtain ⟨u, hu⟩ : ∃ u, X &&& t = u := ⟨_, rfl⟩
          obtain ⟨o, ho⟩ : ∃ o, t ||| X = o := ⟨_, rfl⟩
          rw [hu] at hand HSTEP
          rw [ho] at hor HSTEP hlt2
          clear hu ho hx0
          by_cases hu0 : u = 0
          · have hb : ((u : Int) != 0) = false := by rw [bne_eq_false_iff_eq]; omega
            have HS : Hid (allocGo M 0 l = allocGo M o (l.drop (k + 1))) := by
              show _ = _
              rw [HSTEP.out]
              have h1 : decide ((0 : Int) ≤ (X : Int)) = true := by rw [decide_eq_true_eq]; omega
              have h2 : decide ((X : Int) < (M : Int)) = true := by rw [decide_eq_true_eq]; omega
              rw [h1, h2, hu0]; rfl
            clear HSTEP hu0
            go_wp2
            go_quiet (fail)
            go_wp2
            go_roundw
            case rel => exact ⟨k + 1, o, by omega, by go_num, rfl, hlt2, HS.out, HREL.out.drewN _⟩
            case measure => simp [intOf]; omega
          · have hb : ((u : Int) != 0) = true := by rw [bne_iff_ne]; omega
            have HF : Hid (allocB m n l = false) := by
              show _ = _
              have : (u == 0) = false := by simpa using hu0
              rw [allocB_of HMM.out HSTEP.out, this, Bool.and_false]; rfl
            clear HSTEP hu0
            go_wp2
            go_quiet (fail)
            go_wp2
            go_ret
            exact ⟨by rw [HF.out]; rfl, below_drewN HREL.out.2 _⟩
    · obtain rfl : k = l.length := by omega
      have HREL := Lib.hid hrel
      have HT : Hid (allocB m n l = (l.length == n)) := by
        show _ = _
        rw [allocB_of HMM.out (heq.trans (allocGo_end M t l))]; rfl
      clear hrel heq
      by_cases hln : l.length = n
      · have hb : ((l.length : Int) == (n : Int)) = true := by rw [beq_iff_eq]; omega
        have HT2 : Hid (allocB m n l = true) := by show _ = _; rw [HT.out, hln]; simp
        clear hln
        go_wp2
        go_ret
        exact ⟨by rw [HT2.out]; rfl, HREL.out.2⟩
      · have hb : ((l.length : Int) == (n : Int)) = false := by rw [beq_eq_false_iff_ne]; omega
        have HT2 : Hid (allocB m n l = false) := by show _ = _; rw [HT.out]; simpa using hln
        clear hln
        go_wp2
        go_ret
        exact ⟨by rw [HT2.out]; rfl, HREL.out.2⟩
end Go.Proofs.YthbfgmgpploneaaDoor
