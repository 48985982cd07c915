import Derived.Test.YthbfgmgpploneaaDoorA2
set_option linter.unusedVariables false
set_option linter.unusedSimpArgs false
set_option linter.unnecessarySimpa false
namespace Go.Proofs.YthbfgmgpploneaaDoor
open Go.RowKit

/-- are the lists the same? -/
def eqB (a b : List Int) : Bool := decide (a = b)
theorem eqB_yes {a b : List Int} (h : a = b) : eqB a b = true := by unfold eqB; simpa using h
theorem eqB_no {a b : List Int} (h : a ≠ b) : eqB a b = false := by unfold eqB; simpa using h
theorem getD_ext {a b : List Int} (hl : a.length = b.length) (h : ∀ i, i < a.length → a.getD i 0 = b.getD i 0) : a = b := by
  apply List.ext_getElem hl
  intro i h1 h2
  have := h i h1
  rw [List.getD_eq_getElem?_getD, List.getD_eq_getElem?_getD, List.getElem?_eq_getElem h1, List.getElem?_eq_getElem h2] at this
  exact this
def EqRel (v v' : Value) (a b : List Int) (w wr : World) (k : Nat) : Prop := Sl wr v (ints a) ∧ Sl wr v' (ints b) ∧ Below w.heap.size w wr ∧ ∀ i, i < k → a.getD i 0 = b.getD i 0
theorem EqRel.step {v v' : Value} {a b : List Int} {w wr : World} {k : Nat} (h : EqRel v v' a b w wr k) (n : Nat) (e : a.getD k 0 = b.getD k 0) : EqRel v v' a b w (wr.drewN n) (k + 1) :=
  ⟨h.1.drewN n, h.2.1.drewN n, below_drewN h.2.2.1 n, fun i hi => by
    rcases Nat.lt_or_ge i k with h1 | h1
    · exact h.2.2.2 i h1
    · have : i = k := by omega
      subst this; exact e⟩
set_option maxHeartbeats 1000000 in
theorem longs_any (v v' : Value) (a b : List Int) (w : World) (ha : Sl w v (ints a)) (hb : Sl w v' (ints b)) :
    Calls Tryd.prog 31 #[v, v'] w fun e w' => e = .returned (.bool (eqB a b)) ∧ Below w.heap.size w w' := by
  obtain ⟨p, cap, rfl, hlc, hcm⟩ := ha.form
  obtain ⟨p', cap', rfl, hlc', hcm'⟩ := hb.form
  have HA := Lib.hid ha
  have HB := Lib.hid hb
  clear ha hb
  by_cases hlen : a.length = b.length
  · have HLEN := Lib.hid hlen
    rw [← hlen] at hlc' HB ⊢
    clear hlen
    go_enter Tryd.func31, Tryd.ntmps31
    go_wp2
    go_loopw [5] (fun i wr => ∃ k : Nat, k ≤ a.length ∧ i = .int .i64 k ∧ EqRel (.slice p a.length cap) (.slice p' a.length cap') a b w wr k) (fun i _ => a.length - (intOf i).toNat)
    case atStart => exact ⟨0, Nat.zero_le _, rfl, HA.out, HB.out, Below.refl _ _, fun i hi => by omega⟩
    case round =>
      obtain ⟨k, hk, rfl, hrel⟩ := hrel
      by_cases hlt : k < a.length
      · obtain ⟨b1, off, cap1, hv, _, _, _, hc1⟩ := hrel.1.int_at k hlt
        obtain ⟨b2, off', cap2, hv', _, _, _, hc2⟩ := hrel.2.1.int_at k (by have := HLEN.out; omega)
        cases hv
        rw [← HLEN.out] at hv'
        cases hv'
        have HREL := Lib.hid hrel
        obtain ⟨x, hx⟩ : ∃ x, a.getD k 0 = x := ⟨_, rfl⟩
        obtain ⟨y, hy⟩ : ∃ y, b.getD k 0 = y := ⟨_, rfl⟩
        rw [hx] at hc1
        rw [hy] at hc2
        have HX := Lib.hid hx
        have HY := Lib.hid hy
        clear hrel hx hy
        by_cases hxy : x = y
        · subst hxy
          go_wp2
          go_quiet (fail)
          go_wp2
          go_roundw
          case rel => exact ⟨k + 1, by omega, by go_num, HREL.out.step _ (by rw [HX.out, HY.out])⟩
          case measure => simp [intOf]; omega
        · have hne : (x != y) = true := by simpa using hxy
          have HNE := Lib.hid hxy
          clear hxy
          go_wp2
          go_quiet (fail)
          go_wp2
          go_ret
          exact ⟨by rw [eqB_no (fun e => HNE.out (by rw [← HX.out, ← HY.out, e]))]; rfl, below_drewN HREL.out.2.2.1 _⟩
      · obtain rfl : k = a.length := by omega
        have HREL := Lib.hid hrel
        clear hrel
        go_wp2
        go_ret
        exact ⟨by rw [eqB_yes (getD_ext HLEN.out HREL.out.2.2.2)]; rfl, HREL.out.2.2.1⟩
  · have HLEN := Lib.hid hlen
    have hne : ((a.length : Int) != (b.length : Int)) = true := by rw [bne_iff_ne]; omega
    clear hlen
    go_enter Tryd.func31, Tryd.ntmps31
    go_wp2
    go_ret
    exact ⟨by rw [eqB_no (fun e => HLEN.out (by rw [e]))]; rfl, Below.refl _ _⟩

def SumRel (v : Value) (l : List Int) (w wr : World) : Prop := RdRel v l w wr
theorem sumTo_le {p : List Int} {B : Int} (h0 : 0 ≤ B) (hp : ∀ i, -B ≤ p.getD i 0 ∧ p.getD i 0 ≤ B) (s k : Nat) : -(B * k) ≤ sumTo p s k ∧ sumTo p s k ≤ B * k := by
  induction k with
  | zero => simp [sumTo]
  | succ k ih =>
    have := hp k
    have e : B * ((k + 1 : Nat) : Int) = B * k + B := by grind
    rw [e]; simp only [sumTo]; split <;> omega
theorem btI (s k : Nat) : ((s : Int) / 2 ^ k) = ((s / 2 ^ k : Nat) : Int) := cast_shr s k
set_option maxHeartbeats 1000000 in
theorem sum_any (v : Value) (p : List Int) (s : Nat) (w : World) (hl : Sl w v (ints p)) (hm : p.length ≤ 60) (hp : ∀ i, -1000000000000 ≤ p.getD i 0 ∧ p.getD i 0 ≤ 1000000000000) :
    Calls Tryd.prog 60 #[v, .int .i64 s] w fun e w' => e = .returned (.int .i64 (sumP p s)) ∧ w = w' := by
  obtain ⟨q, cap, rfl, hlc, hcm⟩ := hl.form
  have HL := Lib.hid hl
  have HP := Lib.hid hp
  clear hl hp
  go_enter Tryd.func60, Tryd.ntmps60
  go_wp2
  go_loop [5, 6] (fun n i => ∃ k : Nat, k ≤ p.length ∧ n = .int .i64 (sumTo p s k) ∧ i = .int .i64 k) (fun _ i => p.length - (intOf i).toNat)
  case atStart => exact ⟨0, Nat.zero_le _, rfl, rfl⟩
  case round =>
    obtain ⟨k, hk, rfl, rfl⟩ := hrel
    by_cases hlt : k < p.length
    · obtain ⟨b, off, cap', hv, _, _, _, hc1⟩ := HL.out.int_at k hlt
      cases hv
      have hbd := sumTo_le (B := 1000000000000) (by omega) HP.out s k
      have hx1 := HP.out k
      have HE : Hid (sumTo p s (k + 1) = if bt s k then sumTo p s k + p.getD k 0 else sumTo p s k) := rfl
      have hsh := btI s k
      have HBT : Hid (bt s k = (s / 2 ^ k % 2 == 1)) := rfl
      obtain ⟨d, hd⟩ : ∃ d, s / 2 ^ k = d := ⟨_, rfl⟩
      obtain ⟨x, hx⟩ : ∃ x, p.getD k 0 = x := ⟨_, rfl⟩
      obtain ⟨y, hy⟩ : ∃ y, sumTo p s k = y := ⟨_, rfl⟩
      rw [hd] at hsh HBT
      rw [hx] at hc1 HE hx1
      rw [hy] at HE hbd ⊢
      clear hx hy hd
      by_cases hodd : d % 2 = 1
      · have HT : Hid (bt s k = true) := by show _ = _; rw [HBT.out]; simpa using hodd
        have hb1 : ((d : Int) % 2 == 1) = true := by rw [beq_iff_eq]; omega
        clear hodd
        go_wp2
        go_round
        case rel => exact ⟨k + 1, by omega, by rw [HE.out, HT.out]; rfl, by go_num⟩
        case measure => simp [intOf]; omega
      · have HT : Hid (bt s k = false) := by show _ = _; rw [HBT.out]; simpa using hodd
        have hb1 : ((d : Int) % 2 == 1) = false := by rw [beq_eq_false_iff_ne]; omega
        clear hodd
        go_wp2
        go_round
        case rel => exact ⟨k + 1, by omega, by rw [HE.out, HT.out]; rfl, by go_num⟩
        case measure => simp [intOf]; omega
    · obtain rfl : k = p.length := by omega
      go_wp2
      go_ret
      exact ⟨rfl, rfl⟩
end Go.Proofs.YthbfgmgpploneaaDoor
