/- The reference's Sign. -/
import Derived.Test.YtllhejjcmfiebaaDoorS17
set_option linter.unusedVariables false
set_option linter.unusedSimpArgs false
set_option linter.unnecessarySimpa false
namespace Go.Proofs.YtllhejjcmfiebaaDoor
open Go.RowKit Go.Shelf

/-- the first n values of a function, as numbers -/
def valsN (n : Nat) (T : Nat → Int) : List Int := (List.range n).map T
theorem valsN_len (n : Nat) (T : Nat → Int) : (valsN n T).length = n := by simp [valsN]
theorem valsN_getD {n j : Nat} (T : Nat → Int) (h : j < n) : (valsN n T).getD j 0 = T j := by
  simp [valsN, List.getD, List.getElem?_range h]
theorem valsN_get {n j : Nat} (T : Nat → Int) (h : j < n) : (ints (valsN n T))[j]? = some (.int .i64 (T j)) := by
  rw [ints_get _ _ (by rw [valsN_len]; exact h), valsN_getD T h]
theorem valsN_set {n j : Nat} (T : Nat → Int) (v : Int) : (ints (valsN n T)).set j (.int .i64 v) = ints (valsN n (upd T j v)) := by
  rw [ints_set]
  congr 1
  apply List.ext_getElem?
  intro i
  rw [List.getElem?_set]
  unfold valsN upd
  by_cases hi : i < n
  · by_cases hj : j = i
    · subst hj; simp [List.getElem?_range, hi]
    · simp [List.getElem?_range, hi, hj, Ne.symm hj]
  · by_cases hj : j = i
    · subst hj; simp [List.getElem?_range, hi]
    · simp [List.getElem?_range, hi, hj]
def sg (b : Prop) [Decidable b] : Int := if b then -1 else 1
/-- the sign of row i against the m places behind it -/
def rrow (T : Nat → Int) (i : Nat) : Nat → Int
  | 0 => 1
  | m + 1 => rrow T i m * sg (T (i + 1 + m) < T i)
def rall (T : Nat → Int) (n : Nat) : Nat → Int
  | 0 => 1
  | i + 1 => rall T n i * rrow T i (n - 1 - i)
def colp (T : Nat → Int) (n : Nat) : Nat → Int
  | 0 => 1
  | i + 1 => colp T n i * sg (T n < T i)
theorem sg_one (b : Prop) [Decidable b] : One (sg b) := by unfold sg; split; exact .inr rfl; exact .inl rfl
theorem One.mul {a b : Int} (ha : One a) (hb : One b) : One (a * b) := by
  rcases ha with rfl | rfl <;> rcases hb with rfl | rfl
  · exact .inl rfl
  · exact .inr rfl
  · exact .inr rfl
  · exact .inl rfl
theorem rrow_one (T : Nat → Int) (i : Nat) : ∀ m, One (rrow T i m)
  | 0 => .inl rfl
  | m + 1 => (rrow_one T i m).mul (sg_one _)
theorem rall_one (T : Nat → Int) (n : Nat) : ∀ i, One (rall T n i)
  | 0 => .inl rfl
  | i + 1 => (rall_one T n i).mul (rrow_one T i _)
theorem sgRow_mul (T : Nat → Int) (n : Nat) : ∀ j s, sgRow T n j s = s * colp T n j
  | 0, s => by simp [sgRow, colp]
  | j + 1, s => by
    unfold sgRow colp
    rw [sgRow_mul T n j s]
    unfold sg
    split <;> simp [Int.mul_comm, Int.mul_left_comm, Int.neg_mul, Int.mul_neg]
theorem rall_step (T : Nat → Int) (n : Nat) : ∀ i, i ≤ n → rall T (n + 1) i = rall T n i * colp T n i
  | 0, _ => by simp [rall, colp]
  | i + 1, h => by
    unfold rall colp
    rw [rall_step T n i (by omega)]
    have e : n + 1 - 1 - i = (n - 1 - i) + 1 := by omega
    rw [e]
    have e2 : rrow T i (n - 1 - i + 1) = rrow T i (n - 1 - i) * sg (T n < T i) := by
      show rrow T i (n - 1 - i) * sg (T (i + 1 + (n - 1 - i)) < T i) = _
      rw [show i + 1 + (n - 1 - i) = n by omega]
    rw [e2]
    simp [Int.mul_comm, Int.mul_left_comm, Int.mul_assoc]
theorem rall_sgAll (T : Nat → Int) : ∀ n, rall T n n = sgAll T n
  | 0 => rfl
  | n + 1 => by
    have e : rall T (n + 1) (n + 1) = rall T (n + 1) n * rrow T n 0 := by
      show rall T (n + 1) n * rrow T n (n + 1 - 1 - n) = _
      rw [show n + 1 - 1 - n = 0 by omega]
    rw [e, rall_step T n n (Nat.le_refl _), rall_sgAll T n]
    show _ = sgRow T n n (sgAll T n)
    rw [sgRow_mul]
    simp [rrow]
theorem sgRow_still (T : Nat → Int) (i : Nat) : ∀ j s, (∀ m, m < j → ¬ T i < T m) → sgRow T i j s = s
  | 0, s, _ => rfl
  | j + 1, s, h => by
    unfold sgRow
    rw [if_neg (h j (by omega))]
    exact sgRow_still T i j s fun m hm => h m (by omega)
/-- behind the n places of a board each place has its own number: they turn nothing -/
theorem sgAll_tail (T : Nat → Int) (n : Nat) (h1 : ∀ j, j < n → T j < n) (h2 : ∀ j, n ≤ j → T j = j) : ∀ m, sgAll T (n + m) = sgAll T n
  | 0 => rfl
  | m + 1 => by
    show sgRow T (n + m) (n + m) (sgAll T (n + m)) = _
    rw [sgRow_still T (n + m) (n + m) _ ?_, sgAll_tail T n h1 h2 m]
    intro j hj
    rw [h2 (n + m) (by omega)]
    by_cases hjn : j < n
    · have := h1 j hjn; omega
    · rw [h2 j (by omega)]; omega
theorem sgRow_congr {T T' : Nat → Int} {i : Nat} (hi : T i = T' i) : ∀ j s, (∀ m, m < j → T m = T' m) → sgRow T i j s = sgRow T' i j s
  | 0, s, _ => rfl
  | j + 1, s, h => by
    unfold sgRow
    rw [hi, h j (by omega), sgRow_congr hi j s fun m hm => h m (by omega)]
theorem sgAll_congr {T T' : Nat → Int} : ∀ n, (∀ m, m < n → T m = T' m) → sgAll T n = sgAll T' n
  | 0, _ => rfl
  | n + 1, h => by
    show sgRow T n n (sgAll T n) = sgRow T' n n (sgAll T' n)
    rw [sgAll_congr n fun m hm => h m (by omega), sgRow_congr (h n (by omega)) n _ fun m hm => h m (by omega)]
theorem takF_lt {f q : Nat → Int} {n : Nat} (hq : ∀ j, j < n → q j < n) (hn : 0 < n) : ∀ k, k ≤ n → ∀ j, takF f q k j < n
  | 0, _, j => by show (0 : Int) < n; omega
  | k + 1, h, j => by
    show upd (takF f q k) (f k).toNat (q k) j < n
    unfold upd
    split
    · exact hq k (by omega)
    · exact takF_lt hq hn k (by omega) j
theorem takF_beyond {f q : Nat → Int} {n : Nat} (hf : ∀ j, n ≤ j → f j = j) (hq : ∀ j, n ≤ j → q j = j) : ∀ m j, takF f q (n + m) j = if n ≤ j ∧ j < n + m then (j : Int) else takF f q n j
  | 0, j => by rw [if_neg (by omega)]; rfl
  | m + 1, j => by
    show upd (takF f q (n + m)) (f (n + m)).toNat (q (n + m)) j = _
    rw [hf (n + m) (by omega), hq (n + m) (by omega), Int.toNat_natCast]
    unfold upd
    rw [takF_beyond hf hq m j]
    by_cases h : j = n + m
    · rw [if_pos h, if_pos (by omega), h]
    · rw [if_neg h]
      by_cases h2 : n ≤ j ∧ j < n + m
      · rw [if_pos h2, if_pos (by omega)]
      · rw [if_neg h2, if_neg (by omega)]
theorem signL_rall {p q : List Int} {n : Nat} (hn0 : 0 < n) (hn : n ≤ 9) (hp : p.length = n) (hq : q.length = n) (hr : ∀ j, j < n → q.getD j 0 < n) :
    rall (takF (posF p n) (posF q n) n) n n = signL p q := by
  rw [rall_sgAll]
  unfold signL
  rw [hp, hq]
  have hf : ∀ (l : List Int) j, n ≤ j → posF l n j = j := fun l j h => by unfold posF; rw [if_neg (by omega)]
  have hb := takF_beyond (f := posF p n) (q := posF q n) (n := n) (hf p) (hf q) (9 - n)
  rw [show n + (9 - n) = 9 by omega] at hb
  have hlt : ∀ j, takF (posF p n) (posF q n) n j < n := takF_lt (fun j hj => by unfold posF; rw [if_pos hj]; exact hr j hj) hn0 n (Nat.le_refl _)
  have e1 : sgAll (takF (posF p n) (posF q n) 9) n = sgAll (takF (posF p n) (posF q n) n) n := sgAll_congr n fun m hm => by rw [hb, if_neg (by omega)]
  rw [← e1]
  let T : Nat → Int := fun j => if j < 9 then takF (posF p n) (posF q n) 9 j else j
  have e2 : ∀ k, k ≤ 9 → sgAll (takF (posF p n) (posF q n) 9) k = sgAll T k := fun k hk => sgAll_congr k fun m hm => by show _ = if m < 9 then _ else _; rw [if_pos (by omega)]
  rw [e2 n hn, e2 9 (Nat.le_refl _)]
  have := sgAll_tail T n (fun j hj => by show (if j < 9 then _ else _) < _; rw [if_pos (by omega), hb, if_neg (by omega)]; exact hlt j)
    (fun j hj => by
      show (if j < 9 then _ else _) = _
      by_cases h9 : j < 9
      · rw [if_pos h9, hb, if_pos (by omega)]
      · rw [if_neg h9]) (9 - n)
  rw [show n + (9 - n) = 9 by omega] at this
  exact this.symm
end Go.Proofs.YtllhejjcmfiebaaDoor
