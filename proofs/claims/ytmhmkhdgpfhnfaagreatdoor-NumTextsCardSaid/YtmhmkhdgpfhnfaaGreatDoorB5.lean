/- Joined texts. -/
import Derived.Test.YtmhmkhdgpfhnfaaGreatDoorB1
import Derived.Deep.DeepCutAuto
import Derived.Deep.RegionWith
set_option linter.unusedVariables false
set_option linter.unusedSimpArgs false
set_option linter.unnecessarySimpa false
namespace Go.Proofs.YtmhmkhdgpfhnfaaGreatDoor
open Go.RowKit
def EstR (top next high third q : Nat) (a b : Value) : Prop := ∃ g r : Nat, a = .int .u64 g ∧ b = .int .u64 r ∧ EstInv top next high third q g r
theorem natlt {r t z : Nat} (h : (r : Int) * 1000000000 + t < ((z : Nat) : Int)) : r * 1000000000 + t < z := by
  have : ((r * 1000000000 + t : Nat) : Int) < (z : Int) := by rw [Int.natCast_add, Int.natCast_mul]; exact h
  exact Int.ofNat_lt.1 this
theorem natle {r t z : Nat} (h : ¬ (r : Int) * 1000000000 + t < ((z : Nat) : Int)) : z ≤ r * 1000000000 + t := by
  have : ¬ ((r * 1000000000 + t : Nat) : Int) < (z : Int) := by rw [Int.natCast_add, Int.natCast_mul]; exact h
  exact Int.ofNat_le.1 (Int.not_lt.1 this)
set_option maxRecDepth 100000 in
set_option maxHeartbeats 2000000 in
theorem estimate_core (b1 o1 c1 b2 o2 c2 m top next p0 p1 third q : Nat) (w : World) (hm : 2 ≤ m) (hmm : m ≤ 1073741824) (hc1 : m + 1 ≤ c1) (hc2 : m ≤ c2)
    (ht : w.cell? ⟨b2, o2 + (m - 1), none⟩ = some (.int .u32 (top : Nat))) (hn : w.cell? ⟨b2, o2 + (m - 2), none⟩ = some (.int .u32 (next : Nat)))
    (h0 : w.cell? ⟨b1, o1 + m, none⟩ = some (.int .u32 (p0 : Nat))) (h1 : w.cell? ⟨b1, o1 + (m - 1), none⟩ = some (.int .u32 (p1 : Nat))) (h2 : w.cell? ⟨b1, o1 + (m - 2), none⟩ = some (.int .u32 (third : Nat)))
    (hp0 : p0 < 1000000000) (hp1 : p1 < 1000000000) (hE : EstHyp top next (p0 * 1000000000 + p1) third q) :
    Calls Tryz.prog 159 #[.slice (some ⟨b1, o1, none⟩) (m + 1) c1, .slice (some ⟨b2, o2, none⟩) m c2] w fun e w' => (∃ g : Nat, e = .returned (.int .u64 g) ∧ g < 1000000000 ∧ q ≤ g ∧ g ≤ q + 1) ∧ ∃ n, w' = w.drewN n := by
  have ht1 := hE.top1
  have ht2 := hE.top2
  have hn2 := hE.next2
  have h32 := hE.third2
  have HE := Lib.hid hE
  have hi1 : ((m : Int) - 1).toNat = m - 1 := by omega
  have hi2 : ((m : Int) - 2).toNat = m - 2 := by omega
  have hi3 : (0 : Int) ≤ (m : Int) - 1 := by omega
  have hi4 : (0 : Int) ≤ (m : Int) - 2 := by omega
  have hi5 : (m : Int) - 1 < m := by omega
  have hi6 : (m : Int) - 2 < m := by omega
  have htb : ((top : Int) == 0) = false := by rw [beq_eq_false_iff_ne]; omega
  clear hE
  go_enter Tryz.func159, Tryz.ntmps159
  go_wp2
  go_quiet (fail)
  go_wp2
  go_quiet (fail)
  go_wp2
  go_quiet (fail)
  go_wp2
  go_loop [9, 10] (fun a b => EstR top next (p0 * 1000000000 + p1) third q a b) (fun a _ => (intOf a).toNat)
  case atStart => exact ⟨(p0 * 1000000000 + p1) / top, (p0 * 1000000000 + p1) % top, congrArg (Value.int .u64) (by rw [Int.natCast_ediv, Int.natCast_add, Int.natCast_mul]; rfl), congrArg (Value.int .u64) (by rw [Int.natCast_emod, Int.natCast_add, Int.natCast_mul]; rfl), HE.out.start⟩
  case round =>
    obtain ⟨g, r, rfl, rfl, hinv⟩ := hrel
    have HI := Lib.hid hinv
    obtain ⟨_, _, hr9, hg9⟩ := hinv
    have hgn0 : 0 ≤ (g : Int) * next := Int.mul_nonneg (by omega) (by omega)
    have hgn : (g : Int) * next < 2000000000000000000 := by
      have : g * next ≤ 1000000001 * 999999999 := Nat.mul_le_mul hg9 (by omega)
      rw [← Int.natCast_mul]; omega
    by_cases hA : (1000000000 : Int) ≤ g
    · have hpos := (HE.out.next HI.out (Or.inl (by omega))).2
      by_cases hbr : (1000000000 : Int) ≤ (r : Int) + top
      · have HF := Lib.hid (HE.out.break_ HI.out (Or.inl (by omega)) (by omega))
        go_wp2
        go_ret
        exact ⟨⟨g - 1, congrArg (fun z => Ending.returned (Value.int .u64 z)) (by omega), HF.out.1, HF.out.2.1, HF.out.2.2⟩, _, rfl⟩
      · have HF := Lib.hid (HE.out.down HI.out (Or.inl (by omega)) (by omega))
        go_wp2
        go_round
        case rel => exact ⟨g - 1, r + top, congrArg (Value.int .u64) (by omega), by go_num, HF.out⟩
        case measure => simp [intOf]; omega
    · by_cases hB : (r : Int) * 1000000000 + third < (g : Int) * next
      · have hB' : r * 1000000000 + third < g * next := by
          rw [← Int.natCast_mul] at hB; exact natlt hB
        have hpos := (HE.out.next HI.out (Or.inr hB')).2
        by_cases hbr : (1000000000 : Int) ≤ (r : Int) + top
        · have HF := Lib.hid (HE.out.break_ HI.out (Or.inr hB') (by omega))
          clear hB'
          go_wp2
          go_ret
          exact ⟨⟨g - 1, congrArg (fun z => Ending.returned (Value.int .u64 z)) (by omega), HF.out.1, HF.out.2.1, HF.out.2.2⟩, _, rfl⟩
        · have HF := Lib.hid (HE.out.down HI.out (Or.inr hB') (by omega))
          clear hB'
          go_wp2
          go_round
          case rel => exact ⟨g - 1, r + top, congrArg (Value.int .u64) (by omega), by go_num, HF.out⟩
          case measure => simp [intOf]; omega
      · have hB' : g * next ≤ r * 1000000000 + third := by
          rw [← Int.natCast_mul] at hB; exact natle hB
        have HF := Lib.hid (HE.out.stop HI.out (by omega) hB')
        clear hB'
        go_wp2
        go_ret
        exact ⟨⟨g, rfl, by omega, HF.out.1, HF.out.2⟩, _, rfl⟩
end Go.Proofs.YtmhmkhdgpfhnfaaGreatDoor
namespace Go.Proofs.YtmhmkhdgpfhnfaaGreatDoor
open Go.RowKit
/-- nothing but block g has turned -/
structure Only (g : Nat) (w w' : World) : Prop where
  os : w'.os = w.os
  tape : w'.tape = w.tape
  output : w'.output = w.output
  size : w'.heap.size = w.heap.size
  block : ∀ k, k ≠ g → w'.heap[k]? = w.heap[k]?
theorem Only.refl (g : Nat) (w : World) : Only g w w := ⟨rfl, rfl, rfl, rfl, fun _ _ => rfl⟩
theorem Only.trans {g : Nat} {a b c : World} (h : Only g a b) (k : Only g b c) : Only g a c := ⟨k.os.trans h.os, k.tape.trans h.tape, k.output.trans h.output, k.size.trans h.size, fun i hi => (k.block i hi).trans (h.block i hi)⟩
theorem Only.drewN {g : Nat} {a b : World} (h : Only g a b) (n : Nat) : Only g a (b.drewN n) := ⟨h.os, h.tape, h.output, h.size, h.block⟩
theorem Only.setCell {g : Nat} {a b : World} (h : Only g a b) {p : Addr} (hp : p.block = g) (u : Value) : Only g a (b.setCell p u) :=
  h.trans ⟨rfl, rfl, rfl, by simp [World.setCell], fun k hk => Below.heap_setCell _ _ _ _ (by omega)⟩
theorem Only.below {g B : Nat} {a b : World} (h : Only g a b) (hB : B ≤ g) : Below B a b := ⟨h.os, h.tape, h.output, by rw [h.size]; exact Nat.le_refl _, fun k hk => h.block k (by omega)⟩
theorem Only.cell {g : Nat} {a b : World} (h : Only g a b) {p : Addr} (hp : p.block ≠ g) : b.cell? p = a.cell? p := World.cell?_of_block (w := a) (h.block p.block hp)
theorem Row.only {T : TypeId} {w w' : World} {g k : Nat} {xs : List Value} (h : Row T w k xs) (ho : Only g w w') (hk : k ≠ g) : Row T w' k xs := by
  unfold Row at h ⊢; rw [ho.block k hk]; exact h

def SbRel (R D : List Nat) (g i t : Nat) (w wr : World) (k y : Nat) : Prop :=
  ∃ M, M.length = R.length ∧ Lo M ∧ y < 1000000000 ∧ val M + 1000000000 ^ i * (t * val (D.take k)) = val R + 1000000000 ^ (i + k) * y ∧ (∀ j, j < i ∨ i + k ≤ j → M.getD j 0 = R.getD j 0) ∧ Row 153 wr g (nums .u32 M) ∧ Only g w wr
theorem sb_num {e t d y : Nat} (he : e < 1000000000) (ht : t < 1000000000) (hd : d < 1000000000) (hy : y < 1000000000) :
    t * d + y ≤ e + 1000000000000000000 ∧ (e + 1000000000000000000 - (t * d + y)) / 1000000000 ≤ 1000000000 ∧ 1 ≤ (e + 1000000000000000000 - (t * d + y)) / 1000000000 ∧
    e + 1000000000 * (1000000000 - (e + 1000000000000000000 - (t * d + y)) / 1000000000) = (e + 1000000000000000000 - (t * d + y)) % 1000000000 + t * d + y := by
  have h1 : t * d ≤ 999999999 * 999999999 := Nat.mul_le_mul (by omega) (by omega)
  generalize t * d = T at *
  omega
theorem SbRel.step {R D M : List Nat} {g i t k y d e : Nat} {w wr : World} (hk : k < D.length) (hi : i + D.length < R.length) (hd : D.getD k 0 = d) (he : M.getD (i + k) 0 = e) (hM : M.length = R.length) (hlo : Lo M)
    (hv : val M + 1000000000 ^ i * (t * val (D.take k)) = val R + 1000000000 ^ (i + k) * y) (hs : ∀ j, j < i ∨ i + k ≤ j → M.getD j 0 = R.getD j 0) (hrow : Row 153 wr g (nums .u32 M)) (ho : Only g w wr)
    {V : Int} {v y' : Nat} (hV : V = (v : Int)) (hv' : v < 1000000000) (hy' : y' < 1000000000) (hn : e + 1000000000 * y' = v + t * d + y) :
    SbRel R D g i t w (wr.setCell ⟨g, i + k, none⟩ (.int .u32 V)) (k + 1) y' := by
  subst hV
  refine ⟨M.set (i + k) v, by simp [hM], hlo.set _ hv', hy', ?_, ?_, ?_, ho.setCell rfl _⟩
  · have h1 := val_set M (i + k) v (by omega)
    rw [he] at h1
    rw [val_take_succ D k hk, hd, ← Nat.add_assoc, Nat.pow_succ, Nat.pow_add] at *
    generalize 1000000000 ^ k = P at *
    generalize 1000000000 ^ i = Q at *
    generalize val (M.set (i + k) v) = vm at *
    grind
  · intro j hj
    rw [getD_set_ne _ _ _ _ (by omega)]; exact hs j (by omega)
  · have := hrow.store (i + k) (.int .u32 (v : Nat))
    rw [nums_set] at this
    exact this
/-- what the two functions leave in the row -/
structure SbOut (R D : List Nat) (g i t : Nat) (neg : Bool) (w w' : World) : Prop where
  out : ∃ M, M.length = R.length ∧ Lo M ∧ val M + 1000000000 ^ i * (t * val D) = val R + 1000000000 ^ i * (if neg then 1000000000 ^ (D.length + 1) else 0) ∧ (∀ j, j < i ∨ i + D.length < j → M.getD j 0 = R.getD j 0) ∧ Row 153 w' g (nums .u32 M) ∧ Only g w w'
theorem SbRel.last {R D M : List Nat} {g i t y e : Nat} {w wr : World} (hi : i + D.length < R.length) (he : M.getD (i + D.length) 0 = e) (hM : M.length = R.length) (hlo : Lo M)
    (hv : val M + 1000000000 ^ i * (t * val (D.take D.length)) = val R + 1000000000 ^ (i + D.length) * y) (hs : ∀ j, j < i ∨ i + D.length ≤ j → M.getD j 0 = R.getD j 0) (hrow : Row 153 wr g (nums .u32 M)) (ho : Only g w wr)
    {V : Int} {v : Nat} (neg : Bool) (hV : V = (v : Int)) (hv' : v < 1000000000) (hn : e + 1000000000 * (if neg then 1 else 0) = v + y) :
    SbOut R D g i t neg w (wr.setCell ⟨g, i + D.length, none⟩ (.int .u32 V)) := by
  subst hV
  refine ⟨M.set (i + D.length) v, by simp [hM], hlo.set _ hv', ?_, ?_, ?_, ho.setCell rfl _⟩
  · have h1 := val_set M (i + D.length) v (by omega)
    rw [he] at h1
    rw [List.take_length] at hv
    have hif : (if neg = true then 1000000000 ^ (D.length + 1) else 0) = 1000000000 ^ D.length * (1000000000 * (if neg = true then 1 else 0)) := by
      cases neg
      · simp
      · rw [if_pos rfl, if_pos rfl, Nat.mul_one, Nat.pow_succ]
    rw [hif, Nat.pow_add] at *
    generalize (if neg = true then 1 else 0) = z at *
    generalize 1000000000 ^ D.length = P at *
    generalize 1000000000 ^ i = Q at *
    generalize val (M.set (i + D.length) v) = vm at *
    grind
  · intro j hj
    rw [getD_set_ne _ _ _ _ (by omega)]; exact hs j (by omega)
  · have := hrow.store (i + D.length) (.int .u32 (v : Nat))
    rw [nums_set] at this
    exact this
set_option maxRecDepth 100000 in
set_option maxHeartbeats 2000000 in
theorem subtractTimes_any (g i c1 b2 o2 c2 t : Nat) (R D : List Nat) (w : World) (hi : i + D.length < R.length) (hl : R.length ≤ 1073741824) (hc1 : D.length + 1 ≤ c1) (hc2 : D.length ≤ c2) (hg : b2 ≠ g)
    (hrow : Row 153 w g (nums .u32 R)) (hR : Lo R) (hD : Lo D) (hc : ∀ j, j < D.length → w.cell? ⟨b2, o2 + j, none⟩ = some (.int .u32 (D.getD j 0 : Nat))) (ht : t < 1000000000) :
    Calls Tryz.prog 160 #[.slice (some ⟨g, i, none⟩) (D.length + 1) c1, .slice (some ⟨b2, o2, none⟩) D.length c2, .int .u64 t] w fun e w' => ∃ neg : Bool, e = .returned (.bool neg) ∧ SbOut R D g i t neg w w' := by
  have HR := Lib.hid hrow
  have HC := Lib.hid hc
  clear hrow hc
  go_enter Tryz.func160, Tryz.ntmps160
  go_wp2
  go_loopw [7, 14] (fun c i_ wr => ∃ k y : Nat, k ≤ D.length ∧ c = .int .u64 y ∧ i_ = .int .i64 k ∧ SbRel R D g i t w wr k y) (fun _ i _ => D.length - (intOf i).toNat)
  case atStart => exact ⟨0, 0, Nat.zero_le _, rfl, rfl, R, rfl, hR, by omega, by simp [val], fun _ _ => rfl, HR.out, Only.refl _ _⟩
  case round =>
    obtain ⟨k, y, hk, rfl, rfl, hrel⟩ := hrel
    obtain ⟨M, hM, hlo, hy, hv, hs, hrow, ho⟩ := hrel
    have hfr := hrow.free (i + k)
    have hcm : wr.cell? ⟨g, i + k, none⟩ = some (.int .u32 (M.getD (i + k) 0 : Nat)) := by rw [hrow.cell, nums_get _ _ _ (by omega)]
    have he := hlo.getD (i + k)
    obtain ⟨e, hee⟩ : ∃ e, M.getD (i + k) 0 = e := ⟨_, rfl⟩
    rw [hee] at hcm he
    have HV := Lib.hid hv
    have HS := Lib.hid hs
    have HRow := Lib.hid hrow
    have HO := Lib.hid ho
    have HM := Lib.hid hM
    have HE := Lib.hid hee
    clear hv hs hrow hM hee
    by_cases hlt : k < D.length
    · have hcell : wr.cell? ⟨b2, o2 + k, none⟩ = some (.int .u32 (D.getD k 0 : Nat)) := by rw [ho.cell (p := ⟨b2, o2 + k, none⟩) hg]; exact HC.out k hlt
      have hd := hD.getD k
      obtain ⟨d, hdd⟩ : ∃ d, D.getD k 0 = d := ⟨_, rfl⟩
      rw [hdd] at hcell hd
      have HD := Lib.hid hdd
      obtain ⟨hz1, hz2, hz3, hz4⟩ := sb_num he ht hd hy
      obtain ⟨Z, hZ⟩ : ∃ Z, e + 1000000000000000000 - (t * d + y) = Z := ⟨_, rfl⟩
      rw [hZ] at hz2 hz3 hz4
      have hp0 : 0 ≤ (t : Int) * d := Int.mul_nonneg (by omega) (by omega)
      have hp1 : (t : Int) * d ≤ 999999998000000001 := by
        have : t * d ≤ 999999999 * 999999999 := Nat.mul_le_mul (by omega) (by omega)
        rw [← Int.natCast_mul]; omega
      have hZe : (e : Int) + 1000000000000000000 - (t : Int) * d - y = (Z : Int) := by rw [← Int.natCast_mul, ← hZ]; omega
      have hZb : Z < 2000000000000000000 := by omega
      have HZ4 := Lib.hid hz4
      clear hdd ho HR HC hz1 hz4 hZ
      go_wp2
      go_roundw
      case rel => exact ⟨k + 1, 1000000000 - Z / 1000000000, by omega, congrArg (Value.int .u64) (by omega), by go_num, SbRel.step (v := Z % 1000000000) hlt hi HD.out HE.out HM.out hlo HV.out HS.out HRow.out HO.out (by omega) (by omega) (by omega) HZ4.out⟩
      case measure => simp [intOf]; omega
    · obtain rfl : k = D.length := by omega
      clear ho HR HC
      by_cases hb : e < y
      · go_wp2
        go_ret
        exact ⟨true, rfl, SbRel.last (v := e + 1000000000 - y) hi HE.out HM.out hlo HV.out HS.out HRow.out HO.out true (by omega) (by omega) (by rw [if_pos rfl]; omega)⟩
      · go_wp2
        go_ret
        exact ⟨false, rfl, SbRel.last (v := e - y) hi HE.out HM.out hlo HV.out HS.out HRow.out HO.out false (by omega) (by omega) (by rw [if_neg (by simp)]; omega)⟩
end Go.Proofs.YtmhmkhdgpfhnfaaGreatDoor
namespace Go.Proofs.YtmhmkhdgpfhnfaaGreatDoor
open Go.RowKit
def AbRel (R D : List Nat) (g i : Nat) (w wr : World) (k y : Nat) : Prop :=
  ∃ M, M.length = R.length ∧ Lo M ∧ y < 2 ∧ val M + 1000000000 ^ (i + k) * y = val R + 1000000000 ^ i * val (D.take k) ∧ (∀ j, j < i ∨ i + k ≤ j → M.getD j 0 = R.getD j 0) ∧ Row 153 wr g (nums .u32 M) ∧ Only g w wr
theorem AbRel.step {R D M : List Nat} {g i k y d e : Nat} {w wr : World} (hk : k < D.length) (hi : i + D.length < R.length) (hd : D.getD k 0 = d) (he : M.getD (i + k) 0 = e) (hM : M.length = R.length) (hlo : Lo M)
    (hv : val M + 1000000000 ^ (i + k) * y = val R + 1000000000 ^ i * val (D.take k)) (hs : ∀ j, j < i ∨ i + k ≤ j → M.getD j 0 = R.getD j 0) (hrow : Row 153 wr g (nums .u32 M)) (ho : Only g w wr)
    (v : Nat) {y' : Nat} {V : Int} (hV : V = (v : Int)) (hv' : v < 1000000000) (hy' : y' < 2) (hn : v + 1000000000 * y' = e + d + y) :
    AbRel R D g i w (wr.setCell ⟨g, i + k, none⟩ (.int .u32 V)) (k + 1) y' := by
  subst hV
  refine ⟨M.set (i + k) v, by simp [hM], hlo.set _ hv', hy', ?_, ?_, ?_, ho.setCell rfl _⟩
  · have h1 := val_set M (i + k) v (by omega)
    rw [he] at h1
    rw [val_take_succ D k hk, hd, ← Nat.add_assoc, Nat.pow_succ, Nat.pow_add] at *
    generalize 1000000000 ^ k = P at *
    generalize 1000000000 ^ i = Q at *
    generalize val (M.set (i + k) v) = vm at *
    grind
  · intro j hj
    rw [getD_set_ne _ _ _ _ (by omega)]; exact hs j (by omega)
  · have := hrow.store (i + k) (.int .u32 (v : Nat))
    rw [nums_set] at this
    exact this
structure AbOut (R D : List Nat) (g i : Nat) (w w' : World) : Prop where
  out : ∃ M c, M.length = R.length ∧ Lo M ∧ val M + 1000000000 ^ i * (1000000000 ^ (D.length + 1) * c) = val R + 1000000000 ^ i * val D ∧ (∀ j, j < i ∨ i + D.length < j → M.getD j 0 = R.getD j 0) ∧ Row 153 w' g (nums .u32 M) ∧ Only g w w'
theorem AbRel.last {R D M : List Nat} {g i y e : Nat} {w wr : World} (hi : i + D.length < R.length) (he : M.getD (i + D.length) 0 = e) (hM : M.length = R.length) (hlo : Lo M)
    (hv : val M + 1000000000 ^ (i + D.length) * y = val R + 1000000000 ^ i * val (D.take D.length)) (hs : ∀ j, j < i ∨ i + D.length ≤ j → M.getD j 0 = R.getD j 0) (hrow : Row 153 wr g (nums .u32 M)) (ho : Only g w wr)
    {V : Int} (hV : V = (((e + y) % 1000000000 : Nat) : Int)) :
    AbOut R D g i w (wr.setCell ⟨g, i + D.length, none⟩ (.int .u32 V)) := by
  subst hV
  refine ⟨M.set (i + D.length) ((e + y) % 1000000000), (e + y) / 1000000000, by simp [hM], hlo.set _ (by omega), ?_, ?_, ?_, ho.setCell rfl _⟩
  · have h1 := val_set M (i + D.length) ((e + y) % 1000000000) (by omega)
    have h2 := Nat.mod_add_div (e + y) 1000000000
    rw [he] at h1
    rw [List.take_length] at hv
    rw [Nat.pow_succ]
    rw [Nat.pow_add] at *
    generalize (e + y) % 1000000000 = z at *
    generalize (e + y) / 1000000000 = c at *
    generalize 1000000000 ^ D.length = P at *
    generalize 1000000000 ^ i = Q at *
    generalize val (M.set (i + D.length) z) = vm at *
    grind
  · intro j hj
    rw [getD_set_ne _ _ _ _ (by omega)]; exact hs j (by omega)
  · have := hrow.store (i + D.length) (.int .u32 ((e + y) % 1000000000 : Nat))
    rw [nums_set] at this
    exact this
set_option maxRecDepth 100000 in
set_option maxHeartbeats 2000000 in
theorem addBack_any (g i c1 b2 o2 c2 : Nat) (R D : List Nat) (w : World) (hi : i + D.length < R.length) (hl : R.length ≤ 1073741824) (hc1 : D.length + 1 ≤ c1) (hc2 : D.length ≤ c2) (hg : b2 ≠ g)
    (hrow : Row 153 w g (nums .u32 R)) (hR : Lo R) (hD : Lo D) (hc : ∀ j, j < D.length → w.cell? ⟨b2, o2 + j, none⟩ = some (.int .u32 (D.getD j 0 : Nat))) :
    Calls Tryz.prog 161 #[.slice (some ⟨g, i, none⟩) (D.length + 1) c1, .slice (some ⟨b2, o2, none⟩) D.length c2] w fun e w' => e = .returned (.tuple #[]) ∧ AbOut R D g i w w' := by
  have HR := Lib.hid hrow
  have HC := Lib.hid hc
  clear hrow hc
  go_enter Tryz.func161, Tryz.ntmps161
  go_wp2
  go_loopw [4, 10] (fun c i_ wr => ∃ k y : Nat, k ≤ D.length ∧ c = .int .u32 y ∧ i_ = .int .i64 k ∧ AbRel R D g i w wr k y) (fun _ i _ => D.length - (intOf i).toNat)
  case atStart => exact ⟨0, 0, Nat.zero_le _, rfl, rfl, R, rfl, hR, by omega, by simp [val], fun _ _ => rfl, HR.out, Only.refl _ _⟩
  case round =>
    obtain ⟨k, y, hk, rfl, rfl, hrel⟩ := hrel
    obtain ⟨M, hM, hlo, hy, hv, hs, hrow, ho⟩ := hrel
    have hfr := hrow.free (i + k)
    have hcm : wr.cell? ⟨g, i + k, none⟩ = some (.int .u32 (M.getD (i + k) 0 : Nat)) := by rw [hrow.cell, nums_get _ _ _ (by omega)]
    have he := hlo.getD (i + k)
    obtain ⟨e, hee⟩ : ∃ e, M.getD (i + k) 0 = e := ⟨_, rfl⟩
    rw [hee] at hcm he
    have HV := Lib.hid hv
    have HS := Lib.hid hs
    have HRow := Lib.hid hrow
    have HO := Lib.hid ho
    have HM := Lib.hid hM
    have HE := Lib.hid hee
    clear hv hs hrow hM hee
    by_cases hlt : k < D.length
    · have hcell : wr.cell? ⟨b2, o2 + k, none⟩ = some (.int .u32 (D.getD k 0 : Nat)) := by rw [ho.cell (p := ⟨b2, o2 + k, none⟩) hg]; exact HC.out k hlt
      have hd := hD.getD k
      obtain ⟨d, hdd⟩ : ∃ d, D.getD k 0 = d := ⟨_, rfl⟩
      rw [hdd] at hcell hd
      have HD := Lib.hid hdd
      clear hdd ho HR HC
      by_cases hb : (1000000000 : Int) ≤ (e : Int) + d + y
      · go_wp2
        go_roundw
        case rel => exact ⟨k + 1, 1, by omega, rfl, by go_num, AbRel.step hlt hi HD.out HE.out HM.out hlo HV.out HS.out HRow.out HO.out (e + d + y - 1000000000) (by omega) (by omega) (by omega) (by omega)⟩
        case measure => simp [intOf]; omega
      · go_wp2
        go_roundw
        case rel => exact ⟨k + 1, 0, by omega, rfl, by go_num, AbRel.step hlt hi HD.out HE.out HM.out hlo HV.out HS.out HRow.out HO.out (e + d + y) (by omega) (by omega) (by omega) (by omega)⟩
        case measure => simp [intOf]; omega
    · obtain rfl : k = D.length := by omega
      clear ho HR HC
      go_wp2
      go_end0
      exact ⟨rfl, AbRel.last hi HE.out HM.out hlo HV.out HS.out HRow.out HO.out (by simp only [Int.natCast_emod, Int.natCast_add]; rfl)⟩
end Go.Proofs.YtmhmkhdgpfhnfaaGreatDoor
namespace Go.Proofs.YtmhmkhdgpfhnfaaGreatDoor
open Go.RowKit

def DvOut (a b : Nat) (w : World) (e : Ending) (w' : World) : Prop :=
  ∃ v r, e = .returned (.tuple #[v, r]) ∧ Own 153 .u32 w.heap.size w' v (limbs (a / b)) ∧ Own 153 .u32 w.heap.size w' r (limbs (a % b)) ∧ Below w.heap.size w w'
theorem Below.of_drewN (B : Nat) (w : World) (n : Nat) : Below B w (w.drewN n) := below_drewN (Below.refl B w) n

set_option maxRecDepth 100000 in
set_option maxHeartbeats 1000000 in
theorem divide_lt (x y : Value) (a b : Nat) (w : World) (hx : Rd .u32 w x (limbs a)) (hy : Rd .u32 w y (limbs b)) (hl : (limbs a).length ≤ 1073741824) (hl' : (limbs b).length ≤ 1073741824) (hab : a < b) :
    Calls Tryz.prog 124 #[x, y] w (DvOut a b w) := by
  go_enter Tryz.func124, Tryz.ntmps124
  go_wp2_with fail
  refine (compare_any x y a b w hx hy hl hl').mono ?_
  rw [cmpN_lt hab]
  rintro e w1 ⟨rfl, n, rfl⟩
  have hb1 := Below.of_drewN w.heap.size w n
  have HB := Lib.hid hb1
  have HX := Lib.hid (hx.below hb1)
  have hs : (w.drewN n).heap.size = w.heap.size := rfl
  clear hx hy hb1
  go_wp2_with fail
  refine (clone_any x a _ HX.out hl).mono ?_
  rintro e w2 ⟨v, rfl, ho, hb2⟩
  have HO := Lib.hid ho
  have HB2 := Lib.hid hb2
  clear ho hb2 hs
  go_wp2
  go_ret2
  exact ⟨_, _, rfl, by rw [Nat.div_eq_of_lt hab]; exact Own.zero _ _ _ _, by rw [Nat.mod_eq_of_lt hab]; exact HO.out, HB.out.trans HB2.out⟩

set_option maxRecDepth 100000 in
set_option maxHeartbeats 1000000 in
theorem divide_one (x : Value) (a m : Nat) (p : Option Addr) (cap : Nat) (w : World) (hx : Rd .u32 w x (limbs a)) (hy : Rd .u32 w (.slice p 1 cap) (limbs m)) (hl : (limbs a).length ≤ 1073741824) (hm : m < 1000000000) (hm0 : 0 < m) (hab : m ≤ a) :
    Calls Tryz.prog 124 #[x, .slice p 1 cap] w (DvOut a m w) := by
  have hlm : limbs m = [m] := by rw [limbs_pos m (by omega), Nat.mod_eq_of_lt hm, Nat.div_eq_of_lt hm, limbs_zero]
  obtain ⟨c, hc1, hc2⟩ : ∃ c, cmpN a m = c ∧ 0 ≤ c := ⟨_, rfl, by rcases Nat.lt_or_ge m a with h | h
                                                                  · rw [cmpN_gt h]; omega
                                                                  · rw [cmpN_eq (by omega)]; omega⟩
  have HY := Lib.hid hy
  obtain ⟨p', cap', hv, hlc, hcm, hn, hp⟩ := hy
  rw [hlm] at hv hp
  cases hv
  obtain ⟨b, off, rfl, hbs, hcc⟩ := hp (by simp)
  have hcell : w.cell? ⟨b, off, none⟩ = some (.int .u32 (m : Nat)) := hcc 0 (by simp)
  clear hcc hp hn hlc hcm
  have HX := Lib.hid hx
  clear hx
  go_enter Tryz.func124, Tryz.ntmps124
  go_wp2_with fail
  refine (compare_any x _ a m w HX.out HY.out hl (by rw [hlm]; simp)).mono ?_
  rw [hc1]
  rintro e w1 ⟨rfl, n, rfl⟩
  have hb1 := Below.of_drewN w.heap.size w n
  have HB := Lib.hid hb1
  have HX1 := Lib.hid (HX.out.below hb1)
  have HC := Lib.hid hc1
  clear hb1 HX HY hlm hc1
  go_wp2_with fail
  refine (divideByLimb_any x (limbs a) m _ HX1.out (Lo_limbs a) hm hm0 hl).mono ?_
  rw [val_limbs]
  rintro e w2 ⟨v, rfl, ho, hb2⟩
  have hmod : a % m < 1000000000 := by have := Nat.mod_lt a hm0; omega
  obtain ⟨r, hr⟩ : ∃ r, a % m = r := ⟨_, rfl⟩
  rw [hr] at hmod ⊢
  have HR := Lib.hid hr
  have HO := Lib.hid ho
  have HB2 := Lib.hid hb2
  have hsz := hb2.size
  clear ho hb2 hr
  go_wp2_with fail
  refine (naturalOf_any r _ (by unfold big64; omega)).mono ?_
  rintro e w3 ⟨v3, rfl, ho3, hb3⟩
  have HO3 := Lib.hid ho3
  have HB3 := Lib.hid hb3
  clear ho3 hb3
  go_wp2
  go_ret2
  exact ⟨_, _, rfl, HO.out.below HB3.out (Nat.le_refl _), by rw [HR.out]; exact HO3.out.base hsz, HB.out.trans (HB2.out.trans (HB3.out.mono hsz))⟩
end Go.Proofs.YtmhmkhdgpfhnfaaGreatDoor
