/- Joined texts. -/
import Derived.Test.YtmhmkhdgpfhnfaaGreatDoorB5
set_option linter.unusedVariables false
set_option linter.unusedSimpArgs false
set_option linter.unnecessarySimpa false
namespace Go.Proofs.YtmhmkhdgpfhnfaaGreatDoor
open Go.RowKit
theorem val_tail {l : List Nat} {N : Nat} (hlo : Lo l) (h : ∀ j, N ≤ j → l.getD j 0 = 0) : val l < 1000000000 ^ N := by
  have hz : ∀ m : List Nat, (∀ j, m.getD j 0 = 0) → val m = 0 := by
    intro m
    induction m with
    | nil => intro _; rfl
    | cons d m ih =>
      intro h
      have h0 := h 0
      simp at h0
      simp only [val]
      rw [h0, ih (fun j => by have := h (j + 1); simpa using this)]
  rcases Nat.lt_or_ge N l.length with hN | hN
  · have e : val l = val (l.take N) + 1000000000 ^ N * val (l.drop N) := by
      conv => lhs; rw [← List.take_append_drop N l]
      rw [val_append, List.length_take, Nat.min_eq_left (by omega)]
    rw [e, hz (l.drop N) (fun j => by rw [List.getD_eq_getElem?_getD, List.getElem?_drop, ← List.getD_eq_getElem?_getD]; exact h _ (by omega)), Nat.mul_zero, Nat.add_zero]
    have := val_lt (l.take N) (hlo.take N)
    rwa [List.length_take, Nat.min_eq_left (by omega)] at this
  · exact Nat.lt_of_lt_of_le (val_lt l hlo) (Nat.pow_le_pow_right (by omega) hN)
theorem getD_le_val (l : List Nat) (j : Nat) : 1000000000 ^ j * l.getD j 0 ≤ val l := by
  by_cases h : j < l.length
  · rw [val_split l j h, Nat.mul_add]
    exact Nat.le_trans (Nat.le_add_right _ _) (Nat.le_add_left _ _)
  · rw [List.getD_eq_getElem?_getD, List.getElem?_eq_none (by omega)]; simp
theorem tail_val {l : List Nat} {N : Nat} (h : val l < 1000000000 ^ N) : ∀ j, N ≤ j → l.getD j 0 = 0 := by
  intro j hj
  rcases Nat.eq_zero_or_pos (l.getD j 0) with h0 | h0
  · exact h0
  · exfalso
    have h1 := getD_le_val l j
    have h2 : 1000000000 ^ N ≤ 1000000000 ^ j := Nat.pow_le_pow_right (by omega) hj
    have h3 : 1000000000 ^ j * 1 ≤ 1000000000 ^ j * l.getD j 0 := Nat.mul_le_mul_left _ h0
    rw [Nat.mul_one] at h3
    omega
theorem getD_drop (l : List Nat) (i j : Nat) : (l.drop i).getD j 0 = l.getD (i + j) 0 := by
  rw [List.getD_eq_getElem?_getD, List.getElem?_drop, ← List.getD_eq_getElem?_getD]
theorem take_eq {R M : List Nat} (i : Nat) (hlen : M.length = R.length) (h : ∀ j, j < i → M.getD j 0 = R.getD j 0) : M.take i = R.take i := by
  apply List.ext_getElem
  · simp [hlen]
  · intro j h1 h2
    rw [List.length_take] at h1 h2
    have hj1 : j < M.length := by omega
    have hj2 : j < R.length := by omega
    have := h j (by omega)
    rw [List.getD_eq_getElem?_getD, List.getD_eq_getElem?_getD, List.getElem?_eq_getElem hj1, List.getElem?_eq_getElem hj2] at this
    simpa using this
theorem val_drop_split (l : List Nat) (i : Nat) (h : i ≤ l.length) : val l = val (l.take i) + 1000000000 ^ i * val (l.drop i) := by
  conv => lhs; rw [← List.take_append_drop i l]
  rw [val_append, List.length_take, Nat.min_eq_left h]
/-- what a change behind place i does to the number behind place i -/
theorem drop_change {R M : List Nat} {i u v : Nat} (hlen : M.length = R.length) (hi : i ≤ R.length) (hs : ∀ j, j < i → M.getD j 0 = R.getD j 0) (hv : val M + 1000000000 ^ i * u = val R + 1000000000 ^ i * v) : val (M.drop i) + u = val (R.drop i) + v := by
  rw [val_drop_split M i (by omega), val_drop_split R i hi, take_eq i hlen hs] at hv
  have : 1000000000 ^ i * (val (M.drop i) + u) = 1000000000 ^ i * (val (R.drop i) + v) := by
    rw [Nat.mul_add, Nat.mul_add]; omega
  exact Nat.eq_of_mul_eq_mul_left (Nat.pow_pos (by omega)) this
/-- the subtraction went through: the guess was the quotient -/
theorem dv_yes {R M D : List Nat} {i t : Nat} (hD : 0 < val D) (hlen : M.length = R.length) (hi : i + D.length < R.length) (hs : ∀ j, j < i ∨ i + D.length < j → M.getD j 0 = R.getD j 0)
    (hv : val M + 1000000000 ^ i * (t * val D) = val R + 1000000000 ^ i * (if false = true then 1000000000 ^ (D.length + 1) else 0)) (ht : val (R.drop i) / val D ≤ t) :
    t = val (R.drop i) / val D ∧ val (M.drop i) < val D ∧ val M + 1000000000 ^ i * (t * val D) = val R := by
  rw [if_neg (by simp)] at hv
  have h1 := drop_change hlen (by omega) (fun j hj => hs j (Or.inl hj)) hv
  have h2 : t ≤ val (R.drop i) / val D := by rw [Nat.le_div_iff_mul_le hD]; omega
  have h3 : t = val (R.drop i) / val D := Nat.le_antisymm h2 ht
  refine ⟨h3, ?_, by rw [hv, Nat.mul_zero, Nat.add_zero]⟩
  have h4 := Nat.div_add_mod (val (R.drop i)) (val D)
  have h5 := Nat.mod_lt (val (R.drop i)) hD
  rw [← h3, Nat.mul_comm] at h4
  omega
/-- it did not: the guess was one too many; what is added back makes it right -/
theorem dv_no {R M N D : List Nat} {i t c : Nat} (hD : 0 < val D) (hDlo : Lo D) (hRd : val (R.drop i) < 1000000000 * val D) (hlen : M.length = R.length) (hi : i + D.length < R.length) (hMlo : Lo M) (hs : ∀ j, j < i ∨ i + D.length < j → M.getD j 0 = R.getD j 0)
    (hv : val M + 1000000000 ^ i * (t * val D) = val R + 1000000000 ^ i * (if true = true then 1000000000 ^ (D.length + 1) else 0)) (ht : val (R.drop i) / val D ≤ t) (ht' : t ≤ val (R.drop i) / val D + 1)
    (hlen' : N.length = M.length) (hNlo : Lo N) (hs' : ∀ j, j < i ∨ i + D.length < j → N.getD j 0 = M.getD j 0) (hv' : val N + 1000000000 ^ i * (1000000000 ^ (D.length + 1) * c) = val M + 1000000000 ^ i * val D) :
    t = val (R.drop i) / val D + 1 ∧ val (N.drop i) < val D ∧ val N + 1000000000 ^ i * (val (R.drop i) / val D * val D) = val R := by
  rw [if_pos rfl] at hv
  have h1 := drop_change hlen (by omega) (fun j hj => hs j (Or.inl hj)) hv
  have h2 := drop_change hlen' (by omega) (fun j hj => hs' j (Or.inl hj)) hv'
  have hDB := val_lt D hDlo
  have hRB : val (R.drop i) < 1000000000 ^ (D.length + 1) := by rw [Nat.pow_succ]; omega
  have hRt := tail_val hRB
  have hMt : val (M.drop i) < 1000000000 ^ (D.length + 1) := val_tail (hMlo.drop i) (fun j hj => by
    rw [getD_drop, hs (i + j) (by omega), ← getD_drop]; exact hRt j hj)
  have hNt : val (N.drop i) < 1000000000 ^ (D.length + 1) := val_tail (hNlo.drop i) (fun j hj => by
    rw [getD_drop, hs' (i + j) (by omega), hs (i + j) (by omega), ← getD_drop]; exact hRt j hj)
  have h4 := Nat.div_add_mod (val (R.drop i)) (val D)
  have h5 := Nat.mod_lt (val (R.drop i)) hD
  rw [Nat.mul_comm] at h4
  have hP : val D ≤ 1000000000 ^ (D.length + 1) := by rw [Nat.pow_succ]; omega
  generalize 1000000000 ^ (D.length + 1) = P at *
  generalize hq : val (R.drop i) / val D = q at *
  generalize val (R.drop i) % val D = r at *
  have htq : t = q + 1 := by
    rcases Nat.lt_or_ge q t with h | h
    · omega
    · exfalso
      obtain rfl : t = q := by omega
      omega
  subst htq
  rw [Nat.add_mul, Nat.one_mul] at h1
  have hc : c = 1 ∧ val (N.drop i) = r := by
    rcases Nat.lt_or_ge c 1 with h | h
    · obtain rfl : c = 0 := by omega
      omega
    · rcases Nat.lt_or_ge c 2 with h' | h'
      · obtain rfl : c = 1 := by omega
        omega
      · exfalso
        have : P * 2 ≤ P * c := Nat.mul_le_mul_left _ h'
        omega
  refine ⟨rfl, by omega, ?_⟩
  have hsNR : ∀ j, j < i → N.getD j 0 = R.getD j 0 := fun j hj => by rw [hs' j (Or.inl hj), hs j (Or.inl hj)]
  rw [val_drop_split N i (by omega), val_drop_split R i (by omega), take_eq i (by omega) hsNR, ← h4, hc.2, Nat.mul_add (1000000000 ^ i)]
  omega
theorem norm_top {t : Nat} (h1 : 1 ≤ t) (h2 : t < 1000000000) : 500000000 ≤ t * (1000000000 / (t + 1)) ∧ 1 ≤ 1000000000 / (t + 1) ∧ (t + 1) * (1000000000 / (t + 1)) ≤ 1000000000 := by
  have e := Nat.div_add_mod 1000000000 (t + 1)
  have hr := Nat.mod_lt 1000000000 (show 0 < t + 1 by omega)
  have hs : 1 ≤ 1000000000 / (t + 1) := by rw [Nat.le_div_iff_mul_le (by omega)]; omega
  refine ⟨?_, hs, by omega⟩
  generalize 1000000000 / (t + 1) = s at *
  generalize 1000000000 % (t + 1) = r at *
  rw [Nat.add_mul, Nat.one_mul] at e
  rcases Nat.lt_or_ge t 500000000 with h | h
  · rcases Nat.lt_or_ge t 2 with h3 | h3
    · obtain rfl : t = 1 := by omega
      omega
    · have hs2 : 2 ≤ s := by
        rcases Nat.lt_or_ge s 2 with h4 | h4
        · obtain rfl : s = 1 := by omega
          omega
        · exact h4
      have h5 : (t - 1) * 2 ≤ (t - 1) * s := Nat.mul_le_mul_left _ hs2
      have h6 : t * s = (t - 1) * s + s := by
        obtain ⟨j, rfl⟩ : ∃ j, t = j + 1 := ⟨t - 1, by omega⟩
        rw [Nat.add_sub_cancel, Nat.add_mul, Nat.one_mul]
      omega
  · have : t * 1 ≤ t * s := Nat.mul_le_mul_left _ hs
    omega
end Go.Proofs.YtmhmkhdgpfhnfaaGreatDoor
namespace Go.Proofs.YtmhmkhdgpfhnfaaGreatDoor
open Go.RowKit
theorem val_zero_of {l : List Nat} (hlo : Lo l) (h : ∀ j, l.getD j 0 = 0) : val l = 0 := by
  have := val_tail (N := 0) hlo (fun j _ => h j)
  rw [Nat.pow_zero] at this; omega
theorem two_top {P : List Nat} {m : Nat} (hlo : Lo P) (hm : 2 ≤ m) (hP : m ≤ P.length) (hz : ∀ j, m ≤ j → P.getD j 0 = 0) :
    val P = (P.getD (m - 1) 0 * 1000000000 + P.getD (m - 2) 0) * 1000000000 ^ (m - 2) + val (P.take (m - 2)) := by
  have e1 := val_split P (m - 2) (by omega)
  rw [show m - 2 + 1 = m - 1 from by omega] at e1
  have e2 := val_drop P (m - 1) (by omega)
  rw [show m - 1 + 1 = m from by omega, val_zero_of (hlo.drop m) (fun j => by rw [getD_drop]; exact hz _ (by omega)), Nat.mul_zero, Nat.add_zero] at e2
  rw [e2] at e1
  rw [e1, Nat.add_comm, Nat.mul_comm (1000000000 ^ (m - 2))]
  rw [Nat.mul_comm 1000000000 (P.getD (m - 1) 0), Nat.add_comm (P.getD (m - 2) 0)]
theorem three_top {P : List Nat} {m : Nat} (hlo : Lo P) (hm : 2 ≤ m) (hP : m < P.length) (hz : ∀ j, m < j → P.getD j 0 = 0) :
    val P = ((P.getD m 0 * 1000000000 + P.getD (m - 1) 0) * 1000000000 + P.getD (m - 2) 0) * 1000000000 ^ (m - 2) + val (P.take (m - 2)) := by
  have e1 := val_split P (m - 2) (by omega)
  rw [show m - 2 + 1 = m - 1 from by omega] at e1
  have e2 := val_drop P (m - 1) (by omega)
  rw [show m - 1 + 1 = m from by omega] at e2
  have e3 := val_drop P m hP
  rw [val_zero_of (hlo.drop (m + 1)) (fun j => by rw [getD_drop]; exact hz _ (by omega)), Nat.mul_zero, Nat.add_zero] at e3
  rw [e3] at e2
  rw [e2] at e1
  rw [e1, Nat.add_comm, Nat.mul_comm (1000000000 ^ (m - 2))]
  rw [Nat.mul_comm 1000000000 (P.getD m 0), Nat.add_comm (P.getD (m - 1) 0), Nat.mul_comm 1000000000 (P.getD m 0 * 1000000000 + P.getD (m - 1) 0), Nat.add_comm (P.getD (m - 2) 0)]
theorem est_lists {R D : List Nat} {i : Nat} (hR : Lo R) (hD : Lo D) (hm : 2 ≤ D.length) (hi : i + D.length < R.length) (htop : 500000000 ≤ D.getD (D.length - 1) 0) (hRd : val (R.drop i) < 1000000000 * val D) :
    EstHyp (D.getD (D.length - 1) 0) (D.getD (D.length - 2) 0) (R.getD (i + D.length) 0 * 1000000000 + R.getD (i + (D.length - 1)) 0) (R.getD (i + (D.length - 2)) 0) (val (R.drop i) / val D) := by
  have hz : ∀ j, D.length < j → (R.drop i).getD j 0 = 0 := by
    intro j hj
    refine tail_val (N := D.length + 1) ?_ j hj
    have := val_lt D hD
    rw [Nat.pow_succ]; omega
  have e1 := two_top hD hm (Nat.le_refl _) (fun j hj => by rw [List.getD_eq_getElem?_getD, List.getElem?_eq_none hj]; rfl)
  have e2 := three_top (m := D.length) (hR.drop i) hm (by rw [List.length_drop]; omega) hz
  simp only [getD_drop] at e2
  refine est_hyp e1 ?_ e2 ?_ hRd htop (hD.getD _) (hD.getD _) (hR.getD _)
  · have := val_lt (D.take (D.length - 2)) (hD.take _)
    rwa [List.length_take, Nat.min_eq_left (by omega)] at this
  · have := val_lt ((R.drop i).take (D.length - 2)) ((hR.drop i).take _)
    rwa [List.length_take, Nat.min_eq_left (by rw [List.length_drop]; omega)] at this
/-- the main loop's: the number is the rest and what has been taken off -/
def DvRel (X : Nat) (D : List Nat) (nx B0 g1 g2 g3 : Nat) (w wr : World) (k : Nat) : Prop :=
  ∃ R Q more, R.length = nx + 1 ∧ Lo R ∧ Lo Q ∧ Q.length + k = nx + 1 - D.length ∧ val (R.drop k) < val D ∧ X = val R + 1000000000 ^ k * (val D * val Q) ∧
    Row 153 wr g1 (nums .u32 R) ∧ Row 153 wr g2 (nums .u32 D ++ more) ∧ Row 153 wr g3 (nums .u32 (List.replicate k 0 ++ Q)) ∧ Below B0 w wr
theorem dv_next_val {X P v d Q q vm vr : Nat} (hX : X = vr + P * 1000000000 * (d * Q)) (hm : vm + P * (q * d) = vr) : X = vm + P * (d * (q + 1000000000 * Q)) := by
  subst hm; subst hX; grind
theorem dv_init {a b s t n m : Nat} {R0 D0 : List Nat} (hn : (limbs a).length = n) (hm : (limbs b).length = m) (hm2 : 2 ≤ m) (hmn : m ≤ n) (ht : (limbs b).getD (m - 1) 0 = t) (h1 : 500000000 ≤ t * s) (h2 : 1 ≤ s) (h3 : (t + 1) * s ≤ 1000000000)
    (hR1 : R0.length = n + 1) (hR2 : Lo R0) (hR3 : val R0 = a * s) (hD1 : D0.length = m + 1) (hD2 : Lo D0) (hD3 : val D0 = b * s) :
    (D0.take m).length = m ∧ Lo (D0.take m) ∧ val (D0.take m) = b * s ∧ 500000000 ≤ (D0.take m).getD (m - 1) 0 ∧ val (R0.drop (n - m + 1)) < b * s ∧ 0 < b * s := by
  have hlb := Lo_limbs b
  have hvb := val_limbs b
  have e1 := val_split (limbs b) (m - 1) (by omega)
  rw [show m - 1 + 1 = m from by omega, ← hm, List.drop_length, hm, ht, hvb] at e1
  simp only [val, Nat.mul_zero, Nat.add_zero] at e1
  have e2 := val_lt ((limbs b).take (m - 1)) (hlb.take _)
  rw [List.length_take, Nat.min_eq_left (by omega)] at e2
  have hP : 1000000000 ^ m = 1000000000 ^ (m - 1) * 1000000000 := by
    conv => lhs; rw [show m = m - 1 + 1 from by omega]
    rw [Nat.pow_succ]
  have hPpos : 0 < 1000000000 ^ (m - 1) := Nat.pow_pos (by omega)
  have hlen : (D0.take m).length = m := by rw [List.length_take]; omega
  have hbs : b * s < 1000000000 ^ m := by
    rw [hP]
    have h4 : b < 1000000000 ^ (m - 1) * (t + 1) := by rw [Nat.mul_add, Nat.mul_one]; omega
    have h5 : b * s < 1000000000 ^ (m - 1) * (t + 1) * s := Nat.mul_lt_mul_of_pos_right h4 h2
    rw [Nat.mul_assoc] at h5
    have h6 : 1000000000 ^ (m - 1) * ((t + 1) * s) ≤ 1000000000 ^ (m - 1) * 1000000000 := Nat.mul_le_mul_left _ h3
    omega
  have hlo : Lo (D0.take m) := hD2.take m
  have hv : val (D0.take m) = b * s := by
    have e3 := val_drop_split D0 m (by omega)
    rw [hD3] at e3
    rcases Nat.eq_zero_or_pos (val (D0.drop m)) with h | h
    · rw [h, Nat.mul_zero, Nat.add_zero] at e3; exact e3.symm
    · exfalso
      have : 1000000000 ^ m * 1 ≤ 1000000000 ^ m * val (D0.drop m) := Nat.mul_le_mul_left _ h
      omega
  have htop : 500000000 ≤ (D0.take m).getD (m - 1) 0 := by
    have e4 := val_split (D0.take m) (m - 1) (by omega)
    rw [show m - 1 + 1 = m from by omega] at e4
    have e5 : (D0.take m).drop m = [] := by rw [List.drop_eq_nil_iff, hlen]; exact Nat.le_refl _
    rw [e5, hv] at e4
    simp only [val, Nat.mul_zero, Nat.add_zero] at e4
    have e6 := val_lt ((D0.take m).take (m - 1)) (hlo.take _)
    rw [List.length_take, Nat.min_eq_left (by omega)] at e6
    generalize (D0.take m).getD (m - 1) 0 = d at *
    generalize 1000000000 ^ (m - 1) = P at *
    have h4 : P * t * s ≤ b * s := Nat.mul_le_mul_right _ (by omega)
    rw [Nat.mul_assoc] at h4
    have h5 : P * 500000000 ≤ P * (t * s) := Nat.mul_le_mul_left _ h1
    have h6 : P * 500000000 < P * (d + 1) := by rw [Nat.mul_add P d 1, Nat.mul_one]; omega
    have := Nat.lt_of_mul_lt_mul_left h6
    omega
  have hbpos : 0 < b := by
    rcases Nat.eq_zero_or_pos b with h | h
    · rw [h, limbs_zero] at hm; simp at hm; omega
    · exact h
  refine ⟨hlen, hlo, hv, htop, ?_, Nat.mul_pos hbpos h2⟩
  have e7 := val_drop_split R0 (n - m + 1) (by omega)
  rw [hR3] at e7
  rcases Nat.lt_or_ge (val (R0.drop (n - m + 1))) (b * s) with h | h
  · exact h
  · exfalso
    have e8 : 1000000000 ^ (n - m + 1) * (b * s) ≤ 1000000000 ^ (n - m + 1) * val (R0.drop (n - m + 1)) := Nat.mul_le_mul_left _ h
    have e9 : (1000000000 ^ (n - m + 1) * b) * s ≤ a * s := by rw [Nat.mul_assoc]; omega
    have e10 : 1000000000 ^ (n - m + 1) * b ≤ a := Nat.le_of_mul_le_mul_right e9 h2
    have e11 := limbs_lower b (by omega)
    rw [hm] at e11
    have e12 : 1000000000 ^ (n - m + 1) * 1000000000 ^ (m - 1) ≤ 1000000000 ^ (n - m + 1) * b := Nat.mul_le_mul_left _ e11
    rw [← Nat.pow_add, show n - m + 1 + (m - 1) = n from by omega] at e12
    have e13 := val_lt (limbs a) (Lo_limbs a)
    rw [val_limbs, hn] at e13
    omega
/-- the number and the rest at the end -/
theorem dv_end {a b s Q r : Nat} (hs : 1 ≤ s) (hX : a * s = r + 1 * (b * s * Q)) (hr : r < b * s) : Q = a / b ∧ r = (a % b) * s := by
  have hb : 0 < b := by
    rcases Nat.eq_zero_or_pos b with h | h
    · rw [h, Nat.zero_mul] at hr; omega
    · exact h
  have e : a * s = s * b * Q + r := by rw [hX, Nat.one_mul, Nat.mul_comm b s, Nat.add_comm]
  have e1 : r = (a % b) * s := by
    have : (a * s) % (s * b) = r := by rw [e, Nat.mul_add_mod, Nat.mod_eq_of_lt (by rw [Nat.mul_comm]; exact hr)]
    rw [← this, Nat.mul_comm a s, Nat.mul_mod_mul_left, Nat.mul_comm]
  refine ⟨?_, e1⟩
  have e2 : s * a = s * (b * Q + a % b) := by rw [Nat.mul_add, ← Nat.mul_assoc, Nat.mul_comm s a, e, e1, Nat.mul_comm (a % b) s]
  have e3 := Nat.eq_of_mul_eq_mul_left hs e2
  conv => rhs; rw [e3]
  rw [Nat.mul_add_div hb, Nat.div_eq_of_lt (Nat.mod_lt _ hb), Nat.add_zero]
end Go.Proofs.YtmhmkhdgpfhnfaaGreatDoor
namespace Go.Proofs.YtmhmkhdgpfhnfaaGreatDoor
open Go.RowKit
theorem Rd.drew {K : IntKind} {w : World} {v : Value} {l : List Nat} (h : Rd K w v l) : Rd K w.drew v l := h.below ((Below.refl _ _).drew)
theorem scaled_n (x : Value) (l : List Nat) (m n : Nat) (w : World) (hn : l.length = n) (hx : Rd .u32 w x l) (hlo : Lo l) (hm : m < 1000000000) (hl : l.length ≤ 1073741824) :
    Calls Tryz.prog 158 #[x, .int .u32 m] w fun e w' => ∃ out, out.length = n + 1 ∧ Lo out ∧ val out = val l * m ∧
      e = .returned (.slice (some ⟨w.heap.size, 0, none⟩) (n + 1) (n + 1)) ∧ Row 153 w' w.heap.size (nums .u32 out) ∧ Below w.heap.size w w' := by
  subst hn; exact scaled_any x l m w hx hlo hm hl
/-- what the scaling leaves -/
def DvStart (lx ly : List Nat) (n m s B0 : Nat) (w : World) (va vb : Value) (wr : World) : Prop :=
  ∃ g1 g2 R0 D0, R0.length = n + 1 ∧ Lo R0 ∧ val R0 = val lx * s ∧ D0.length = m + 1 ∧ Lo D0 ∧ val D0 = val ly * s ∧ g1 ≠ g2 ∧ B0 ≤ g1 ∧ B0 ≤ g2 ∧
    va = .slice (some ⟨g1, 0, none⟩) (n + 1) (n + 1) ∧ vb = .slice (some ⟨g2, 0, none⟩) m (m + 1) ∧
    Row 153 wr g1 (nums .u32 R0) ∧ Row 153 wr g2 (nums .u32 D0) ∧ Below B0 w wr
theorem dv_start_rel {X n m B0 g1 g2 g3 : Nat} {R0 D : List Nat} {bs : Nat} {M2 : List Value} {w w4 : World} (hmn : m ≤ n) (hR1 : R0.length = n + 1) (hR2 : Lo R0) (hD : D.length = m) (hv : val D = bs) (hlt : val (R0.drop (n - m + 1)) < bs) (hX : X = val R0)
    (h1 : Row 153 w4 g1 (nums .u32 R0)) (h2 : Row 153 w4 g2 (nums .u32 D ++ M2)) (h3 : Row 153 w4 g3 (List.replicate (n - m + 1) (Value.int .u32 0))) (hb : Below B0 w w4) : DvRel X D n B0 g1 g2 g3 w w4 (n - m + 1) := by
  refine ⟨R0, [], M2, hR1, hR2, (fun d hd => by cases hd), ?_, by rw [hv]; exact hlt, ?_, h1, h2, ?_, hb⟩
  · rw [hD, List.length_nil]; omega
  · rw [show val [] = 0 from rfl, Nat.mul_zero, Nat.mul_zero, Nat.add_zero]; exact hX
  · rw [List.append_nil, ← nums_replicate]; exact h3
theorem cells_of_row {T : TypeId} {w : World} {g : Nat} {D : List Nat} {more : List Value} (h : Row T w g (nums .u32 D ++ more)) : ∀ j, j < D.length → w.cell? ⟨g, 0 + j, none⟩ = some (.int .u32 (D.getD j 0 : Nat)) := fun j hj => by
  rw [h.cell, Nat.zero_add, List.getElem?_append_left (by rw [nums_length]; exact hj), nums_get _ _ _ hj]
theorem dv_step {X nx B0 g1 g2 g3 i v : Nat} {R D M Q : List Nat} {more : List Value} {w wr : World} {V : Int} (hV : V = (v : Int)) (hv : v < 1000000000) (hM : M.length = R.length) (hR : R.length = nx + 1) (hMlo : Lo M) (hQ : Lo Q) (hQl : Q.length + (i + 1) = nx + 1 - D.length)
    (hlt : val (M.drop i) < val D) (hX : X = val R + 1000000000 ^ (i + 1) * (val D * val Q)) (hMv : val M + 1000000000 ^ i * (v * val D) = val R) (h1 : Row 153 wr g1 (nums .u32 M)) (h2 : Row 153 wr g2 (nums .u32 D ++ more)) (h3 : Row 153 wr g3 (nums .u32 (List.replicate (i + 1) 0 ++ Q)))
    (hb : Below B0 w wr) (hB : B0 ≤ g3) (hg1 : g1 < g3) (hg2 : g2 < g3) : DvRel X D nx B0 g1 g2 g3 w (wr.setCell ⟨g3, i, none⟩ (.int .u32 V)) i := by
  subst hV
  refine ⟨M, v :: Q, more, by rw [hM, hR], hMlo, ?_, by rw [List.length_cons]; omega, hlt, ?_, h1.other _ (show g3 ≠ g1 by omega) _, h2.other _ (show g3 ≠ g2 by omega) _, ?_, hb.setCell hB _⟩
  · intro x hx
    rcases List.mem_cons.1 hx with rfl | hx
    · exact hv
    · exact hQ x hx
  · rw [show val (v :: Q) = v + 1000000000 * val Q from rfl]
    rw [Nat.pow_succ] at hX
    exact dv_next_val (v := 0) hX hMv
  · have := h3.store i (.int .u32 (v : Nat))
    rw [nums_set] at this
    have e := set_front Q (i + 1) 0 v (by omega)
    rw [Nat.add_sub_cancel] at e
    rw [e] at this
    exact this
set_option maxRecDepth 100000 in
set_option maxHeartbeats 4000000 in
theorem divide_big (x y : Value) (a b : Nat) (w : World) (hx : Rd .u32 w x (limbs a)) (hy : Rd .u32 w y (limbs b)) (hl : (limbs a).length ≤ 1073741820) (hl' : (limbs b).length ≤ 1073741820) (hab : b ≤ a) (hm : 2 ≤ (limbs b).length) :
    Calls Tryz.prog 124 #[x, y] w (DvOut a b w) := by
  obtain ⟨c, hc1, hc2⟩ : ∃ c, cmpN a b = c ∧ 0 ≤ c := ⟨_, rfl, by rcases Nat.lt_or_ge b a with h | h
                                                                  · rw [cmpN_gt h]; omega
                                                                  · rw [cmpN_eq (by omega)]; omega⟩
  have HX := Lib.hid hx
  have HY := Lib.hid hy
  have hlb := Lo_limbs b
  have hla := Lo_limbs a
  have hvb := val_limbs b
  have hva := val_limbs a
  have hll : (limbs b).length ≤ (limbs a).length := by
    rcases Nat.lt_or_ge (limbs a).length (limbs b).length with h | h
    · have := len_lt_val h; omega
    · exact h
  have HC := Lib.hid hc1
  have hcmp := compare_any x y a b w hx hy (by omega) (by omega)
  rw [hc1] at hcmp
  have HCMP := Lib.hid hcmp
  clear hcmp
  obtain ⟨p, cap, rfl, hlc, hcm, hn, hp⟩ := hx
  obtain ⟨p', cap', rfl, hlc', hcm', hn', hp'⟩ := hy
  obtain ⟨b2, o2, rfl, hbs, hcc⟩ := hp' (by omega)
  have hb0 : b ≠ 0 := by intro h; subst h; rw [limbs_zero] at hm; simp at hm
  -- the highest limb
  obtain ⟨t, ht⟩ : ∃ t, (limbs b).getD ((limbs b).length - 1) 0 = t := ⟨_, rfl⟩
  have htlt := hlb.getD ((limbs b).length - 1)
  have htop := hcc ((limbs b).length - 1) (by omega)
  rw [ht] at htlt htop
  have htpos : 1 ≤ t := by
    have h1 := limbs_lower b hb0
    have h2 := val_split (limbs b) ((limbs b).length - 1) (by omega)
    rw [ht, show (limbs b).length - 1 + 1 = (limbs b).length from by omega, List.drop_length, hvb] at h2
    simp only [val, Nat.mul_zero, Nat.add_zero] at h2
    rcases Nat.eq_zero_or_pos t with h0 | h0
    · exfalso
      rw [h0, Nat.mul_zero, Nat.add_zero] at h2
      have h3 := val_lt ((limbs b).take ((limbs b).length - 1)) (hlb.take _)
      rw [List.length_take, Nat.min_eq_left (by omega)] at h3
      omega
    · exact h0
  obtain ⟨hn1, hn2, hn3⟩ := norm_top htpos htlt
  obtain ⟨s, hs⟩ : ∃ s, 1000000000 / (t + 1) = s := ⟨_, rfl⟩
  rw [hs] at hn1 hn2 hn3
  have hse : (1000000000 : Int) / ((t : Int) + 1) = (s : Int) := by rw [← hs]; simp
  have hsb : s < 1000000000 := by
    have : 2 * s ≤ (t + 1) * s := Nat.mul_le_mul_right _ (by omega)
    omega
  obtain ⟨m, hmm⟩ : ∃ m, (limbs b).length = m := ⟨_, rfl⟩
  obtain ⟨n, hnn⟩ : ∃ n, (limbs a).length = n := ⟨_, rfl⟩
  have HT := Lib.hid ht
  have HS := Lib.hid hs
  have HVB := Lib.hid hvb
  have HVA := Lib.hid hva
  have HM := Lib.hid hmm
  have HN := Lib.hid hnn
  have HN1 := Lib.hid hn1
  have HN3 := Lib.hid hn3
  rw [hmm] at hlc' hl' hm hll htop HCMP HY ⊢
  rw [hnn] at hlc hl hll HCMP HX ⊢
  have hmb : ((m : Int) == 1) = false := by rw [beq_eq_false_iff_ne]; omega
  have htb : ((t : Int) + 1 == 0) = false := by rw [beq_eq_false_iff_ne]; omega
  have hi1 : ((m : Int) - 1).toNat = m - 1 := by omega
  have hi3 : (0 : Int) ≤ (m : Int) - 1 := by omega
  have hi5 : (m : Int) - 1 < m := by omega
  clear hp hp' hn hn' hcc ht hs hvb hva hmm hnn hn1 hn3 hc1
  go_enter Tryz.func124, Tryz.ntmps124
  go_wp2_with fail
  refine HCMP.out.mono ?_
  rintro e w1 ⟨rfl, n1, rfl⟩
  have htop1 : (w.drewN n1).cell? ⟨b2, o2 + (m - 1), none⟩ = some (.int .u32 (t : Nat)) := htop
  clear HCMP htop
  go_upto_region 7 with (fail)
  rw [hse]
  have HX1 : Hid (Rd .u32 (w.drewN n1) (.slice p n cap) (limbs a)) := HX.out.below (Below.of_drewN _ _ _)
  have HY1 : Hid (Rd .u32 (w.drewN n1) (.slice (some ⟨b2, o2, none⟩) m cap') (limbs b)) := HY.out.below (Below.of_drewN _ _ _)
  obtain ⟨wd, hwd⟩ : ∃ wd, w.drewN n1 = wd := ⟨_, rfl⟩
  have HWD := Lib.hid hwd
  rw [hwd] at HX1 HY1 htop1 ⊢
  clear hwd HX HY
  go_cut [9, 10] (fun va vb wr => DvStart (limbs a) (limbs b) n m s wd.heap.size wd va vb wr)
  case first =>
    have hlx : (limbs a).length ≤ 1073741824 := by have := HN.out; omega
    have hly : (limbs b).length ≤ 1073741824 := by have := HM.out; omega
    go_region_with (first
      | (go_at_call_of 158 (Value.slice p n cap); refine (scaled_n _ (limbs a) s n _ HN.out HX1.out.drew hla hsb hlx).mono ?_; rintro e w2 ⟨R0, h1, h2, h3, rfl, hr, hb⟩; have H1 := Lib.hid (And.intro h1 (And.intro h2 (And.intro h3 (And.intro hr hb)))); clear h1 h2 h3 hr hb)
      | (go_at_call_of 158 (Value.slice (some ⟨b2, o2, none⟩) m cap'); refine (scaled_n _ (limbs b) s m _ HM.out (HY1.out.drew.below H1.out.2.2.2.2) hlb hsb hly).mono ?_; rintro e w3 ⟨D0, h1, h2, h3, rfl, hr, hb⟩; have H2 := Lib.hid (And.intro h1 (And.intro h2 (And.intro h3 (And.intro hr hb)))); clear h1 h2 h3 hr hb))
    go_wp2_with fail
    go_meet
    obtain ⟨a1, a2, a3, a4, a5⟩ := H1.out
    obtain ⟨d1, d2, d3, d4, d5⟩ := H2.out
    have hlt := a4.lt
    have hs0 : wd.drew.heap.size = wd.heap.size := rfl
    rw [hs0] at hlt
    have a6 : Below wd.heap.size wd w2 := ((Below.refl _ _).drew).trans a5
    have a7 : Row 153 w2 wd.heap.size (nums .u32 R0) := a4
    exact ⟨_, _, R0, D0, a1, a2, a3, d1, d2, d3, by omega, Nat.le_refl _, by omega, rfl, rfl, a7.below d5 hlt, d4, a6.trans (d5.mono (by omega))⟩
  case rest =>
    obtain ⟨g1, g2, R0, D0, hR1, hR2, hR3, hD1, hD2, hD3, hg, hg1, hg2, rfl, rfl, hrow1, hrow2, hbel⟩ := hcut
    obtain ⟨q1, q2, q3, q4, q5, q6⟩ := dv_init HN.out HM.out hm hll (by have := HT.out; rwa [HM.out] at this) HN1.out hn2 HN3.out hR1 hR2 (by rw [hR3, HVA.out]) hD1 hD2 (by rw [hD3, HVB.out])
    obtain ⟨D, hD⟩ : ∃ D, D0.take m = D := ⟨_, rfl⟩
    have hrow2' : Row 153 wc g2 (nums .u32 D ++ nums .u32 (D0.drop m)) := by
      have : nums .u32 D0 = nums .u32 D ++ nums .u32 (D0.drop m) := by rw [← hD]; unfold nums; rw [← List.map_append, List.take_append_drop]
      rw [← this]; exact hrow2
    rw [hD] at q1 q2 q3 q4
    have hsw : wd.heap.size = w.heap.size := by rw [← HWD.out]; rfl
    rw [hsw] at hg1 hg2 hbel
    have hbel0 : Below w.heap.size w wc := by
      refine Below.trans ?_ hbel
      rw [← HWD.out]; exact Below.of_drewN _ _ _
    obtain ⟨M2, hM2⟩ : ∃ M2, nums .u32 (D0.drop m) = M2 := ⟨_, rfl⟩
    rw [hM2] at hrow2'
    have hX0 : a * s = val R0 := by rw [hR3, HVA.out]
    have HRow1 := Lib.hid hrow1
    have HRow2 := Lib.hid hrow2'
    have HBel := Lib.hid hbel0
    have Q1 := Lib.hid q1
    have Q3 := Lib.hid q3
    have Q4 := Lib.hid q4
    have Q5 := Lib.hid q5
    have HR1 := Lib.hid hR1
    have HX0 := Lib.hid hX0
    clear hrow1 hrow2 hrow2' hbel hbel0 q1 q3 q4 q5 hD hM2 hD1 hD2 hD3 hR3 hR1 hX0 hsw HX1 HY1 htop1 hi1 hi3 hi5 hse hmb htb
    go_wp2_with (first | (at_make; refine wpList_make_row _ rfl _ _ 23 rfl 153 (.int .u32 0) 4 Tryz.underlying23 Tryz.info153 rfl .i64 .i64 _ _ (n - m + 1) rfl rfl ?c1 ?c2 ?c3 ?c4 ?_))
    case c1 => omega
    case c2 => omega
    case c3 => omega
    case c4 => unfold maxLen; omega
    intro w4 hrow3 hbel4
    have hw1 := HRow1.out.lt
    have hw2 := HRow2.out.lt
    have hinit : DvRel (a * s) D n w.heap.size g1 g2 wc.heap.size w w4 (n - m + 1) :=
      dv_start_rel hll HR1.out hR2 Q1.out Q3.out Q5.out HX0.out (HRow1.out.below hbel4 hw1) (HRow2.out.below hbel4 hw2) hrow3 (HBel.out.trans (hbel4.mono HBel.out.size))
    have HI := Lib.hid hinit
    obtain ⟨g3, hg3⟩ : ∃ g3, wc.heap.size = g3 := ⟨_, rfl⟩
    rw [hg3] at HI hw1 hw2 ⊢
    clear hrow3 hbel4 hinit hg3 HRow1 HRow2 HBel Q5 HR1 HX0 HWD
    go_wp2
    go_loopw [12] (fun i wr => ∃ k : Nat, k ≤ n - m + 1 ∧ i = .int .i64 ((k : Int) - 1) ∧ DvRel (a * s) D n w.heap.size g1 g2 g3 w wr k) (fun i _ => (intOf i + 1).toNat)
    case atStart => exact ⟨n - m + 1, Nat.le_refl _, congrArg (Value.int .i64) (by omega), HI.out⟩
    case round =>
      obtain ⟨k, hk, rfl, hrel⟩ := hrel
      by_cases hk0 : 0 < k
      · obtain ⟨i, rfl⟩ : ∃ i, k = i + 1 := ⟨k - 1, by omega⟩
        have hki : (((i + 1 : Nat) : Int) - 1) = (i : Int) := by omega
        rw [hki]
        clear hki HI hk0
        obtain ⟨R, Q, more, r1, r2, r3, r4, r5, r6, r7, r8, r9, r10⟩ := hrel
        have hiD : i + D.length < R.length := by rw [Q1.out, r1]; omega
        have hRd : val (R.drop i) < 1000000000 * val D := by
          rw [val_drop R i (by omega)]
          have := r2.getD i
          omega
        have hest := est_lists r2 q2 (by rw [Q1.out]; exact hm) hiD (by rw [Q1.out]; exact Q4.out) hRd
        rw [Q1.out] at hest
        have ce1 : wr.cell? ⟨g1, i + m, none⟩ = some (.int .u32 (R.getD (i + m) 0 : Nat)) := by rw [r7.cell, nums_get _ _ _ (by omega)]
        have ce2 : wr.cell? ⟨g1, i + (m - 1), none⟩ = some (.int .u32 (R.getD (i + (m - 1)) 0 : Nat)) := by rw [r7.cell, nums_get _ _ _ (by omega)]
        have ce3 : wr.cell? ⟨g1, i + (m - 2), none⟩ = some (.int .u32 (R.getD (i + (m - 2)) 0 : Nat)) := by rw [r7.cell, nums_get _ _ _ (by omega)]
        have cdd : ∀ j, j < D.length → wr.cell? ⟨g2, 0 + j, none⟩ = some (.int .u32 (D.getD j 0 : Nat)) := fun j hj => by
          rw [r8.cell, Nat.zero_add, List.getElem?_append_left (by rw [nums_length]; exact hj), nums_get _ _ _ hj]
        have ce4 := cdd (m - 1) (by rw [Q1.out]; omega)
        have ce5 := cdd (m - 2) (by rw [Q1.out]; omega)
        have hp0 := r2.getD (i + m)
        have hp1 := r2.getD (i + (m - 1))
        have HEST := Lib.hid (estimate_core g1 i (n + 1 - i) g2 0 (m + 1) m _ _ _ _ _ _ wr hm (by omega) (by omega) (by omega) ce4 ce5 ce1 ce2 ce3 hp0 hp1 hest)
        have hL : i + m + 1 - i = m + 1 := by omega
        have HR1 := Lib.hid r1
        have HR4 := Lib.hid r4
        have HR5 := Lib.hid r5
        have HR6 := Lib.hid r6
        have HR7 := Lib.hid r7
        have HR8 := Lib.hid r8
        have HR9 := Lib.hid r9
        have HR10 := Lib.hid r10
        have HRD := Lib.hid hRd
        have HID := Lib.hid hiD
        clear ce1 ce2 ce3 ce4 ce5 cdd hp0 hp1 hest hRd hiD r1 r4 r5 r6 r7 r8 r9 r10
        go_wp2_with fail
        refine HEST.out.mono ?_
        rintro e w5 ⟨⟨g, rfl, hgb, hgq, hgq'⟩, nq, rfl⟩
        have hsub := subtractTimes_any g1 i (n + 1 - i) g2 0 (m + 1) g R D (wr.drewN nq) HID.out (by have := HR1.out; omega) (by have := Q1.out; omega) (by have := Q1.out; omega) (fun e => hg e.symm) HR7.out r2 q2 (cells_of_row HR8.out) hgb
        rw [Q1.out] at hsub
        have HSUB := Lib.hid hsub
        have HQ := Lib.hid hgq
        have HQ' := Lib.hid hgq'
        clear hsub hgq hgq' HEST
        go_wp2_with fail
        refine HSUB.out.mono ?_
        rintro e w6 ⟨neg, rfl, hout⟩
        obtain ⟨M, m1, m2, m3, m4, m5, m6⟩ := hout.out
        have h63 : Row 153 w6 g3 (nums .u32 (List.replicate (i + 1) 0 ++ Q)) := (show Row 153 (wr.drewN nq) g3 _ from HR9.out).only m6 (by omega)
        have h62 : Row 153 w6 g2 (nums .u32 D ++ more) := (show Row 153 (wr.drewN nq) g2 _ from HR8.out).only m6 (fun e => hg e.symm)
        have h6b : Below w.heap.size w w6 := (HR10.out.trans (Below.of_drewN _ _ _)).trans (m6.below hg1)
        cases neg
        · obtain ⟨e1, e2, e3⟩ := dv_yes (by rw [Q3.out]; exact q6) m1 HID.out m4 m3 HQ.out
          have hcs : w6.cell? ⟨g3, i, none⟩ = some (.int .u32 (0 : Nat)) := by
            rw [h63.cell, nums_get _ _ _ (by simp; omega)]
            have := get_front Q (i + 1) 0 (by omega)
            rw [Nat.add_sub_cancel] at this
            rw [this]
          have hfr := h63.free i
          have HREL := Lib.hid (dv_step (V := g) (g3 := g3) rfl hgb m1 HR1.out m2 r3 HR4.out e2 HR6.out e3 m5 h62 h63 h6b (by omega) hw1 hw2)
          clear HSUB m1 m2 m3 m4 m5 m6 h62 h63 h6b e1 e2 e3 hout
          go_wp2
          go_roundw
          case rel => exact ⟨i, by omega, rfl, HREL.out⟩
          case measure => simp [intOf] <;> omega
        · have hadd := addBack_any g1 i (n + 1 - i) g2 0 (m + 1) M D w6 (by rw [m1]; exact HID.out) (by have := HR1.out; omega) (by have := Q1.out; omega) (by have := Q1.out; omega) (fun e => hg e.symm) m5 m2 q2 (cells_of_row h62)
          rw [Q1.out] at hadd
          have HADD := Lib.hid hadd
          have M1 := Lib.hid m1
          have M3 := Lib.hid m3
          have M4 := Lib.hid m4
          have H63 := Lib.hid h63
          have H62 := Lib.hid h62
          have H6B := Lib.hid h6b
          clear HSUB hadd m1 m3 m4 m5 m6 h62 h63 h6b hout
          go_wp2_with fail
          refine HADD.out.mono ?_
          rintro e w7 ⟨rfl, hout⟩
          obtain ⟨N, cc, t1, t2, t3, t4, t5, t6⟩ := hout.out
          have h73 : Row 153 w7 g3 (nums .u32 (List.replicate (i + 1) 0 ++ Q)) := H63.out.only t6 (by omega)
          have h72 : Row 153 w7 g2 (nums .u32 D ++ more) := H62.out.only t6 (fun e => hg e.symm)
          have h7b : Below w.heap.size w w7 := H6B.out.trans (t6.below hg1)
          obtain ⟨e1, e2, e3⟩ := dv_no (by rw [Q3.out]; exact q6) q2 HRD.out M1.out HID.out m2 M4.out M3.out HQ.out HQ'.out t1 t2 t4 t3
          obtain ⟨z, hz⟩ : ∃ z, val (R.drop i) / val D = z := ⟨_, rfl⟩
          rw [hz] at e1 e3
          have hcs : w7.cell? ⟨g3, i, none⟩ = some (.int .u32 (0 : Nat)) := by
            rw [h73.cell, nums_get _ _ _ (by simp; omega)]
            have := get_front Q (i + 1) 0 (by omega)
            rw [Nat.add_sub_cancel] at this
            rw [this]
          have hfr := h73.free i
          have hg1e : ((g : Int) - 1) = (z : Int) := by omega
          have hzb : z < 1000000000 := by omega
          have hgp : 1 ≤ g := by omega
          have HREL := Lib.hid (dv_step (V := z) (g3 := g3) rfl hzb (by rw [t1, M1.out]) HR1.out t2 r3 HR4.out e2 HR6.out e3 t5 h72 h73 h7b (by omega) hw1 hw2)
          clear HADD t1 t2 t3 t4 t5 t6 h72 h73 h7b e1 e2 e3 hout hz
          go_wp2
          go_roundw
          case rel => first | exact ⟨i, by omega, rfl, HREL.out⟩ | exact ⟨i, by omega, rfl, by rw [hg1e]; exact HREL.out⟩
          case measure => simp [intOf] <;> omega
      · obtain rfl : k = 0 := by omega
        obtain ⟨R, Q, more, r1, r2, r3, r4, r5, r6, r7, r8, r9, r10⟩ := hrel
        rw [List.drop_zero] at r5
        rw [Nat.pow_zero, Q3.out] at r6
        obtain ⟨f1, f2⟩ := dv_end hn2 r6 (by rw [← Q3.out]; exact r5)
        have hRd : Rd .u32 wr (.slice (some ⟨g1, 0, none⟩) (n + 1) (n + 1)) R := by
          rw [← r1]
          exact ⟨_, _, rfl, Nat.le_refl _, by unfold maxLen; omega, fun h => by rw [h] at r1; simp at r1, fun _ => ⟨g1, 0, rfl, r7.lt, fun j hj => by rw [r7.cell, Nat.zero_add, nums_get _ _ _ hj]⟩⟩
        have HDL := Lib.hid (divideByLimb_any _ R s wr hRd r2 hsb hn2 (by omega))
        have HR9 := Lib.hid r9
        have HR10 := Lib.hid r10
        have HR4 := Lib.hid r4
        have F1 := Lib.hid f1
        have F2 := Lib.hid f2
        have hsz := r10.size
        clear hRd r1 r4 r5 r6 r7 r8 r9 r10 f1 f2 HI
        go_wp2_with fail
        refine HDL.out.mono ?_
        rintro e w8 ⟨v8, rfl, ho8, hb8⟩
        have h93 : Row 153 w8 g3 (nums .u32 Q ++ []) := by
          have := HR9.out.below hb8 HR9.out.lt
          rw [List.append_nil]; simpa using this
        have H93 := Lib.hid h93
        have HO8 := Lib.hid ho8
        have HB8 := Lib.hid hb8
        have hrb : val R % s < 1000000000 := by have := Nat.mod_lt (val R) hn2; omega
        clear HDL h93 ho8 hb8 HR9
        go_wp2_with fail
        refine (cut_row g3 (n - m + 1) (n - m + 1) Q [] w8 (by have := HR4.out; have := Q1.out; omega) (Nat.le_refl _) (by omega) H93.out).mono ?_
        rintro e w9 ⟨rfl, rfl⟩
        go_wp2
        go_ret2
        have e9 : a / b = val Q := F1.out.symm
        have e10 : val R / s = a % b := by rw [F2.out, Nat.mul_div_cancel _ hn2]
        refine ⟨_, _, rfl, ?_, ?_, HR10.out.trans (HB8.out.mono hsz)⟩
        · rw [e9, ← trimL_eq Q r3]
          exact Own.cut H93.out (by omega) (by have := HR4.out; have := Q1.out; omega)
        · rw [← e10]
          exact HO8.out.base hsz
end Go.Proofs.YtmhmkhdgpfhnfaaGreatDoor
