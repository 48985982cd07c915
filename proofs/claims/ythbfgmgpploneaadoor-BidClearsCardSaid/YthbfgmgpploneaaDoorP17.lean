/- Whether a list is an allocation: the program's question. -/
/- BidClears: whether a list is an allocation, and whether prices clear it, as the law's own reckoning answers. -/
import Derived.Test.YthbfgmgpploneaaDoorP15
set_option linter.unusedVariables false
set_option linter.unusedSimpArgs false
set_option linter.unnecessarySimpa false
namespace Go.Proofs.YthbfgmgpploneaaDoor
open Go.RowKit

theorem andNot_neg (x : Int) (b : Nat) (hx : x < 0) (hx2 : -9223372036854775808 ≤ x) (hb : b < 9223372036854775808) : bits .andNot .i64 x (b : Int) ≠ 0 := by
  show IntKind.i64.wrap ((BitVec.ofInt 64 x &&& ~~~BitVec.ofInt 64 (b : Int)).toNat : Int) ≠ 0
  have h1 : (BitVec.ofInt 64 x).toNat = (x + 18446744073709551616).toNat := by
    rw [BitVec.toNat_ofInt]
    congr 1
    show x % 18446744073709551616 = _
    omega
  obtain ⟨n, hn⟩ : ∃ n, (BitVec.ofInt 64 x &&& ~~~BitVec.ofInt 64 (b : Int)).toNat = n := ⟨_, rfl⟩
  have hlt : n < 18446744073709551616 := by rw [← hn]; exact BitVec.isLt _
  have hbit : n.testBit 63 = true := by
    rw [← hn, BitVec.toNat_and, BitVec.toNat_not, h1, ofInt_u64 b (by omega), Nat.testBit_and]
    have e1 : ((x + 18446744073709551616).toNat).testBit 63 = true := by
      rw [Nat.testBit_eq_decide_div_mod_eq, decide_eq_true_eq]
      show _ / 9223372036854775808 % 2 = 1
      omega
    have e2 : (2 ^ 64 - 1 - b).testBit 63 = true := by
      rw [Nat.testBit_eq_decide_div_mod_eq, decide_eq_true_eq]
      show (18446744073709551616 - 1 - b) / 9223372036854775808 % 2 = 1
      omega
    rw [e1, e2]; rfl
  have hn0 : n ≠ 0 := by rintro rfl; simp at hbit
  rw [hn]
  intro h
  have hm : ((n : Int) % 18446744073709551616) = n := Int.emod_eq_of_lt (by omega) (by omega)
  have hm' : ((n : Int) % 2 ^ 64) = n := hm
  simp only [IntKind.wrap, IntKind.bits, IntKind.signed, hm'] at h
  split at h <;> omega
theorem bt_and (a b i : Nat) : bt (a &&& b) i = (bt a i && bt b i) := by rw [bt_eq, bt_eq, bt_eq, Nat.testBit_and]
theorem bt_or (a b i : Nat) : bt (a ||| b) i = (bt a i || bt b i) := by rw [bt_eq, bt_eq, bt_eq, Nat.testBit_or]
theorem in_left {m t q : Nat} : sans q (sans (2 ^ m - 1) t) = 0 ↔ q < 2 ^ m ∧ q &&& t = 0 := by
  have hM := pow_pos2 m
  constructor
  · intro h
    refine ⟨by have := le_of_sans h; have := sans_le (2 ^ m - 1) t; omega, bt_ext fun i => ?_⟩
    rw [bt_and, bt_zero]
    cases hq : bt q i with
    | false => rfl
    | true =>
      have := sans_zero_iff.1 h i hq
      rw [bt_sans] at this
      simp at this
      rw [this.2]; rfl
  · rintro ⟨hq, h⟩
    refine sans_zero_iff.2 fun i hi => ?_
    have hm : i < m := by
      refine Nat.lt_of_not_le fun hle => ?_
      rw [bt_lt hq hle] at hi; cases hi
    have h2 : bt (q &&& t) i = false := by rw [h, bt_zero]
    rw [bt_and, hi] at h2
    rw [bt_sans, bt_ones _ _ hm]
    simpa using h2
theorem left_or (N t q : Nat) : sans (sans N t) q = sans N (t ||| q) := bt_ext fun i => by
  rw [bt_sans, bt_sans, bt_sans, bt_or]
  cases bt N i <;> cases bt t i <;> cases bt q i <;> rfl
theorem allocGo_in {M : Nat} : ∀ (l : List Int) (t : Nat), allocGo M t l = true → ∀ i, i < l.length → 0 ≤ l.getD i 0 ∧ l.getD i 0 < M := by
  intro l
  induction l with
  | nil => intro t _ i hi; simp at hi
  | cons x xs ih =>
    intro t h i hi
    unfold allocGo at h
    simp only [Bool.and_eq_true, decide_eq_true_eq] at h
    cases i with
    | zero => exact ⟨h.1.1.1, h.1.1.2⟩
    | succ i => exact ih _ h.2 i (by simpa using hi)
theorem allocB_in {m n : Nat} {l : List Int} (h : allocB m n l = true) : l.length = n ∧ IsBundles m l := by
  unfold allocB at h
  simp only [Bool.and_eq_true, beq_iff_eq] at h
  refine ⟨h.2, fun i => ?_⟩
  have e : ((2 : Int) ^ m) = ((2 ^ m : Nat) : Int) := by simp
  by_cases hi : i < l.length
  · rw [e]; exact allocGo_in l 0 h.1 i hi
  · rw [List.getD_eq_getElem?_getD, List.getElem?_eq_none (by omega), e]
    have := pow_pos2 m
    exact ⟨Int.le_refl _, by show (0 : Int) < _; exact_mod_cast this⟩
set_option maxRecDepth 100000 in
set_option maxHeartbeats 2000000 in
theorem isAlloc_go (v lv : Value) (m : Nat) (bids : List (List Int)) (l : List Int) (w : World) (hl : Mat w v bids) (hll : Sl w lv (ints l)) (hm : m ≤ 6) (hi64 : In64 l) :
    Calls Tryd.prog 54 #[.agg #[.int .i64 ((2 ^ m - 1 : Nat) : Int), v], lv] w fun e w' => e = .returned (.bool (allocB m bids.length l)) ∧ Below w.heap.size w w' := by
  obtain ⟨p, cap, rfl, hlc, hcm⟩ := hl.form_
  obtain ⟨lp, lc, rfl, hllc, hlcm⟩ := hll.form
  unfold maxLen at hcm
  have HLL := Lib.hid hll
  have hr0 := row_new 73 w #[.int .i64 ((2 ^ m - 1 : Nat) : Int), .slice p bids.length cap]
  have hb0 := (Below.refl w.heap.size w).alloc (Nat.le_refl _) (.cells #[.int .i64 ((2 ^ m - 1 : Nat) : Int), .slice p bids.length cap] 73)
  have HB0 := Lib.hid hb0
  have HI := Lib.hid hi64
  have hM64 := pow_le64 hm
  have hM0 := pow_pos2 m
  have d0 := hr0.cell 0
  have d1 := hr0.cell 1
  simp only [List.getElem?_cons_zero, List.getElem?_cons_succ, List.getElem?_toArray] at d0 d1
  have HIN : Hid (∀ t q, sans q (sans (2 ^ m - 1) t) = 0 ↔ q < 2 ^ m ∧ q &&& t = 0) := fun t q => in_left
  have HSL : Hid (∀ t, sans (2 ^ m - 1) t < 2 ^ m) := fun t => by have := sans_le (2 ^ m - 1) t; omega
  have HS0 : Hid (sans (2 ^ m - 1) 0 = 2 ^ m - 1) := by
    show _ = _
    exact bt_ext fun i => by rw [bt_sans, bt_zero]; simp
  have HAB : Hid (∀ M b, 2 ^ m = M → allocGo M 0 l = b → allocB m bids.length l = (b && l.length == bids.length)) := fun M b h1 h2 => allocB_of h1 h2
  have HOR : Hid (∀ a b, a < 2 ^ m → b < 2 ^ m → a ||| b < 2 ^ m) := fun a b h1 h2 => pow_or h1 h2
  obtain ⟨A, hA⟩ : ∃ A, allocB m bids.length l = A := ⟨_, rfl⟩
  rw [hA] at HAB ⊢
  obtain ⟨M, hM⟩ : ∃ M : Nat, 2 ^ m = M := ⟨_, rfl⟩
  rw [hM] at hM64 hM0 HIN HSL HOR
  have HAB2 : Hid (∀ b, allocGo M 0 l = b → A = (b && l.length == bids.length)) := fun b h => HAB.out M b hM h
  obtain ⟨N, hN⟩ : ∃ N : Nat, 2 ^ m - 1 = N := ⟨_, rfl⟩
  rw [hM] at hN
  rw [hM, hN] at HS0 HB0 d0 d1 ⊢
  rw [hN] at HIN HSL
  clear hl hll hr0 hb0 hN hM hi64 HAB hA hm
  have hl0 : (0 : Int) ≤ (bids.length : Int) := by omega
  have hl1 : (0 : Int) ≤ (l.length : Int) := by omega
  go_enter Tryd.func54, Tryd.ntmps54
  by_cases hlen : l.length = bids.length
  · have HL := Lib.hid hlen
    have e1 : ((l.length : Int) != (bids.length : Int)) = false := by rw [bne_eq_false_iff_eq]; omega
    have e2 : ((l.length : Int) == (bids.length : Int)) = true := by rw [beq_iff_eq]; omega
    have HAB3 : Hid (∀ b, allocGo M 0 l = b → A = b) := fun b h => by
      have := HAB2.out b h
      rw [hlen] at this
      simpa using this
    clear hlen HAB2
    go_wp2
    go_loop [5, 18] (fun s i => ∃ k t : Nat, k ≤ l.length ∧ i = .int .i64 k ∧ s = .int .i64 (sans N t : Nat) ∧ t < M ∧ allocGo M 0 l = allocGo M t (l.drop k)) (fun _ i => l.length - (intOf i).toNat)
    case atStart => exact ⟨0, 0, Nat.zero_le _, rfl, by rw [HS0.out], hM0, rfl⟩
    case round =>
      obtain ⟨k, t, hk, rfl, rfl, ht, heq⟩ := hrel
      by_cases hlt : k < l.length
      · obtain ⟨b3, o3, c3, hv, _, _, hb3, hcl⟩ := HLL.out.int_at k hlt
        cases hv
        have hc1 := (HB0.out.cell (p := ⟨b3, o3 + k, none⟩) hb3).trans hcl
        have hx := HI.out k
        have HST := Lib.hid (heq.trans (allocGo_step M t k l hlt))
        have hsl := HSL.out t
        have hin := HIN.out t (l.getD k 0).toNat
        have HL2 := Lib.hid (left_or N t (l.getD k 0).toNat)
        have hor := HOR.out t (l.getD k 0).toNat ht
        obtain ⟨x, hxx⟩ : ∃ x, l.getD k 0 = x := ⟨_, rfl⟩
        rw [hxx] at hc1 hx HST hin HL2 hor
        obtain ⟨L, hL⟩ : ∃ L, sans N t = L := ⟨_, rfl⟩
        rw [hL] at hsl hin HL2 ⊢
        clear hcl hxx hL heq
        by_cases hx0 : x < 0
        · have hy0 := andNot_neg x L hx0 hx.1 (by omega)
          obtain ⟨y, hy⟩ : ∃ y, bits .andNot .i64 x (L : Int) = y := ⟨_, rfl⟩
          rw [hy] at hy0
          have z1 : (y != 0) = true := by rw [bne_iff_ne]; exact hy0
          have z2 : (y == 0) = false := by rw [beq_eq_false_iff_ne]; exact hy0
          have HF : Hid (A = false) := HAB3.out _ (HST.out.trans (by
            have : decide (0 ≤ x) = false := by simpa using hx0
            rw [this]; rfl))
          clear hin HL2 hor
          go_wp2
          go_ret
          exact ⟨by rw [HF.out]; rfl, HB0.out⟩
        · obtain ⟨q, hq⟩ : ∃ q, x.toNat = q := ⟨_, rfl⟩
          have hxq : x = (q : Int) := by omega
          rw [hq] at hin HL2 HST hor
          subst hxq
          clear hq
          have h1 := i64_andNot q L (by omega) (by omega)
          have h2 := i64_andNot L q (by omega) (by omega)
          by_cases hz : sans q L = 0
          · obtain ⟨hqM, hqt⟩ := hin.1 hz
            have hor2 := hor hqM
            rw [hz] at h1
            rw [HL2.out] at h2
            have HEQ : Hid (allocGo M 0 l = allocGo M (t ||| q) (l.drop (k + 1))) := HST.out.trans (by
              have a1 : decide ((0 : Int) ≤ (q : Int)) = true := by simp
              have a2 : decide ((q : Int) < (M : Int)) = true := by rw [decide_eq_true_eq]; omega
              rw [a1, a2, hqt]; rfl)
            clear hin hor hz HL2 hqt
            go_wp2
            go_round
            case rel => exact ⟨k + 1, t ||| q, by omega, by go_num, rfl, hor2, HEQ.out⟩
            case measure => simp [intOf]; omega
          · obtain ⟨y, hy⟩ : ∃ y, sans q L = y := ⟨_, rfl⟩
            rw [hy] at h1 hz
            have z1 : ((y : Int) != 0) = true := by rw [bne_iff_ne]; omega
            have z2 : ((y : Int) == 0) = false := by rw [beq_eq_false_iff_ne]; omega
            have HF : Hid (A = false) := HAB3.out _ (HST.out.trans (by
              by_cases a1 : q < M
              · have a2 : (q &&& t == 0) = false := by
                  rw [beq_eq_false_iff_ne]
                  exact fun h => hz (by rw [← hy]; exact hin.2 ⟨a1, h⟩)
                rw [a2]; simp
              · have a2 : decide ((q : Int) < (M : Int)) = false := by rw [decide_eq_false_iff_not]; omega
                rw [a2]; simp))
            clear hin hor hy HL2 h2
            go_wp2
            go_ret
            exact ⟨by rw [HF.out]; rfl, HB0.out⟩
      · obtain rfl : k = l.length := by omega
        have HT : Hid (A = true) := HAB3.out _ (heq.trans (allocGo_end M t l))
        clear heq
        go_wp2
        go_ret
        exact ⟨by rw [HT.out]; rfl, HB0.out⟩
  · have HF : Hid (A = false) := by
      show _ = _
      rw [HAB2.out _ rfl]
      have : (l.length == bids.length) = false := by rw [beq_eq_false_iff_ne]; exact hlen
      rw [this]; simp
    have e1 : ((l.length : Int) != (bids.length : Int)) = true := by rw [bne_iff_ne]; omega
    have e2 : ((l.length : Int) == (bids.length : Int)) = false := by rw [beq_eq_false_iff_ne]; omega
    clear HAB2
    go_wp2
    go_ret
    exact ⟨by rw [HF.out]; rfl, HB0.out⟩
theorem isAllocation_go (v lv : Value) (K : Nat) (bids : List (List Int)) (l : List Int) (w : World) (hl : Mat w v bids) (hll : Sl w lv (ints l)) (h1 : 1 ≤ K) (h6 : K ≤ 6) (hn1 : 1 ≤ bids.length) (hn6 : bids.length ≤ 6) (ho : Offers K bids) (hi : In64 l) :
    Calls Tryd.prog 24 #[.int .i64 K, v, lv] w fun e w' => e = .returned (.bool (allocB K bids.length l)) ∧ Below w.heap.size w w' := by
  have hck := checkP_off h1 h6 hn1 hn6 ho
  have HNW := Lib.hid (new_go v K bids w hl (by unfold I64; omega) (few_off h6 hn6 ho))
  have e1 : newR (K : Int) bids v = .agg #[.int .i64 ((2 ^ K - 1 : Nat) : Int), v] := by unfold newR; rw [if_pos hck, Int.toNat_natCast]
  rw [e1, hck] at HNW
  have HC : Hid (∀ W, Below w.heap.size w W → Calls Tryd.prog 54 #[.agg #[.int .i64 ((2 ^ K - 1 : Nat) : Int), v], lv] W fun e w' => e = .returned (.bool (allocB K bids.length l)) ∧ Below W.heap.size W w') := fun W hb' => isAlloc_go v lv K bids l W (hl.below hb') (hll.below hb') h6 hi
  obtain ⟨p, cap, rfl, hlc, hcm⟩ := hl.form_
  obtain ⟨N, hN⟩ : ∃ N : Nat, 2 ^ K - 1 = N := ⟨_, rfl⟩
  obtain ⟨A, hA⟩ : ∃ A, allocB K bids.length l = A := ⟨_, rfl⟩
  rw [hN, hA] at HC
  rw [hN] at HNW
  rw [hA]
  clear hl ho hck e1 hN hll hA
  go_enter Tryd.func24, Tryd.ntmps24
  go_wp2_with (first
    | (go_at_call 54; refine (HC.out _ HB1.out).mono ?_; rintro e w2 ⟨rfl, hb2⟩; have HB2 := Lib.hid (HB1.out.trans (hb2.mono HB1.out.size)); clear hb2)
    | (go_at_call 46; refine HNW.out.mono ?_; rintro e w1 ⟨rfl, hb1⟩; have HB1 := Lib.hid (hb1.alloc hb1.size (.cells #[.int .i64 (N : Int), .slice p bids.length cap] 73)); have hr1 := row_new 73 w1 #[.int .i64 (N : Int), .slice p bids.length cap]; have d0 := hr1.cell 0; have d1 := hr1.cell 1; simp only [List.getElem?_cons_zero, List.getElem?_cons_succ, List.getElem?_toArray] at d0 d1; clear hb1 hr1))
  go_ret
  exact ⟨rfl, HB2.out⟩

/-- is one of the first k prices none that may be? -/
def badTo (p : List Int) : Nat → Bool
  | 0 => false
  | k + 1 => badTo p k || (decide (p.getD k 0 < 0) || decide (1000000000 < p.getD k 0))
theorem badTo_iff (p : List Int) : ∀ k, badTo p k = true ↔ ∃ i, i < k ∧ (p.getD i 0 < 0 ∨ 1000000000 < p.getD i 0) := by
  intro k
  induction k with
  | zero => exact ⟨(fun h => by cases h), (fun ⟨i, hi, _⟩ => by omega)⟩
  | succ k ih =>
    simp only [badTo, Bool.or_eq_true, decide_eq_true_eq, ih]
    constructor
    · rintro (⟨i, hi, h⟩ | h)
      · exact ⟨i, by omega, h⟩
      · exact ⟨k, by omega, h⟩
    · rintro ⟨i, hi, h⟩
      by_cases e : i = k
      · subst e; exact .inr h
      · exact .inl ⟨i, by omega, h⟩
theorem badTo_all {p : List Int} {F : Bool} (h : from0 1000000000 p = F) : badTo p p.length = !F := by
  cases F with
  | true =>
    cases hb : badTo p p.length with
    | false => rfl
    | true =>
      obtain ⟨i, hi, hx⟩ := (badTo_iff p _).1 hb
      have := from0_iff.1 h i hi
      omega
  | false =>
    cases hb : badTo p p.length with
    | true => rfl
    | false =>
      have : from0 1000000000 p = true := from0_iff.2 fun i hi => by
        have hn : ¬ ∃ i, i < p.length ∧ (p.getD i 0 < 0 ∨ 1000000000 < p.getD i 0) := fun hx => by rw [(badTo_iff p _).2 hx] at hb; cases hb
        have : ¬ (p.getD i 0 < 0 ∨ 1000000000 < p.getD i 0) := fun hx => hn ⟨i, hi, hx⟩
        omega
      rw [this] at h; cases h
/-- prices near the least ones -/
def Near (K : Nat) (L : List Int) (k : Nat) : Prop := L.length = K ∧ (∀ j, -1 ≤ L.getD j 0 ∧ L.getD j 0 ≤ 1000002) ∧ ∀ j, k ≤ j → 0 ≤ L.getD j 0 ∧ L.getD j 0 ≤ 1000000
theorem Near.put {K k : Nat} {L : List Int} (h : Near K L k) (hk : k < K) {x : Int} (h1 : -1 ≤ x) (h2 : x ≤ 1000002) : Near K (L.set k x) (k + 1) := by
  have hl : k < L.length := by rw [h.1]; exact hk
  refine ⟨by simpa using h.1, fun j => ?_, fun j hj => ?_⟩
  · by_cases e : k = j
    · subst e; rw [getD_set_same _ _ _ _ hl]; exact ⟨h1, h2⟩
    · rw [getD_set_other _ _ _ _ _ e]; exact h.2.1 j
  · rw [getD_set_other _ _ _ _ _ (by omega)]; exact h.2.2 j (by omega)
set_option maxRecDepth 100000 in
set_option maxHeartbeats 16000000 in
theorem lawClears (S : Awake) (v bv pv : Value) (m : Int) (rows : List (List Int)) (lb lp : List Int) (w : World) (hl : MatA w v rows) (hbs : SlA w bv (ints lb)) (hps : SlA w pv (ints lp)) (hm : I64 m) (hr : ∀ i, In64 (rows.getD i [])) (hib : In64 lb) (hip : In64 lp) :
    Calls Tryd.prog 8 #[.int .i64 m, v, .agg #[bv, pv]] w fun e w' => e = .returned (.bool true) ∧ Below w.heap.size w w' := by
  have HTD : Hid (∀ W, Below w.heap.size w W → Calls Tryd.prog 26 #[.int .i64 m, v] W fun e w' => ∃ (k : Nat) (B : List (List Int)) (v' : Value), e = .returned (.tuple #[.int .i64 (k : Int), v']) ∧ 1 ≤ k ∧ k ≤ 5 ∧ 1 ≤ B.length ∧ B.length ≤ 5 ∧ AllItems20 k B ∧ OwnM 31 2 W.heap.size w' v' (singleP k B) ∧ Below W.heap.size W w') := fun W hb => tamed_any v m rows W (hl.below hb) hr
  obtain ⟨p0, cap0, rfl, _, _⟩ := hl.form_
  obtain ⟨bp, bc, rfl, hbc, hbm⟩ := hbs.form
  obtain ⟨pp, pc, rfl, hpc, hpm⟩ := hps.form
  have hbn := (Below.refl w.heap.size w).alloc (Nat.le_refl _) (.cells #[.slice bp lb.length bc, .slice pp lp.length pc] 67)
  have hr5 := row_new 67 w #[.slice bp lb.length bc, .slice pp lp.length pc]
  have HBN := Lib.hid hbn
  have HR5 := Lib.hid hr5
  have HBS := Lib.hid hbs
  have HPS := Lib.hid hps
  have HIB := Lib.hid (hib.take 8)
  have HIP := Lib.hid (hip.take 8)
  clear hl hm hr hbs hps hbn hr5 hib hip
  go_enter Tryd.func8, Tryd.ntmps8
  go_wp2_with fail
  refine (HTD.out _ HBN.out).mono ?_
  rintro e w1 ⟨K, B, xv, rfl, hK1, hK5, hn1, hn5, hall, hown, hb1⟩
  obtain ⟨bids, hbids⟩ : ∃ bids, singleP K B = bids := ⟨_, rfl⟩
  have hln := singleP_len K B
  have ho := single_offers hall
  have hsg := isSingle_singleP K B
  rw [hbids] at hown hln ho hsg
  rw [← hln] at hn1 hn5
  have HX := Lib.hid hown.mat
  have HO := Lib.hid ho
  have HSG := Lib.hid hsg
  have HB1 := Lib.hid (HBN.out.trans (hb1.mono HBN.out.size))
  have hr1 := HR5.out.below hb1 HR5.out.lt
  have HR1 := Lib.hid hr1
  have d0 := hr1.cell 0
  have d1 := hr1.cell 1
  simp only [List.getElem?_cons_zero, List.getElem?_cons_succ, List.getElem?_toArray] at d0 d1
  obtain ⟨xp, xc, hxv, hxl, _⟩ := hown.mat.form_
  subst hxv
  clear hown hall hb1 HTD hln ho hbids hsg hr1 HR5 HBN
  obtain ⟨T, hT1, hT2, hT3, hT4⟩ : ∃ T : Nat, min (lb.length : Int) 8 = (T : Int) ∧ T ≤ lb.length ∧ T ≤ 8 ∧ lb.take T = lb.take 8 := by
    by_cases h : 8 < lb.length
    · exact ⟨8, by omega, by omega, by omega, rfl⟩
    · exact ⟨lb.length, by omega, Nat.le_refl _, by omega, by rw [List.take_of_length_le (Nat.le_refl _), List.take_of_length_le (by omega)]⟩
  have hTc : T ≤ bc := by omega
  have HTK : Hid (SlA w1 (.slice bp T bc) (ints (lb.take T))) := by rw [← ints_take]; exact (HBS.out.below HB1.out).take T hT2
  have HQ : Hid ((ints (lb.take T)).length = T) := by show _ = _; rw [ints_length, List.length_take]; omega
  have HT4 := Lib.hid hT4
  clear hT4
  go_wp2_with (first | (at_builtin; refine wpList_append_sl _ rfl (.tmp 23) (.tmp 30) 28 rfl 3 (.int .i64 0) 8 Tryd.underlying28 Tryd.info3 rfl w1.heap.size (.slice none 0 0) [] rfl (World.ownsRow_nil _ _ _ _) (.slice bp T bc) (ints (lb.take T)) rfl HTK.out (ints_one _) ?c1 ?c2 (Nat.le_refl _) ?_))
  case c1 => rw [HQ.out]; simp [maxLen]; omega
  case c2 => rw [HQ.out]; simp; omega
  intro av w2 hao hg
  have hb2 : Below w1.heap.size w1 w2 := (Below.refl _ _).grown hg (Nat.le_refl _) (fun k hk => by cases hk)
  rw [HT4.out] at hao
  have hsa := hao.sl
  obtain ⟨LB, hLB⟩ : ∃ LB, lb.take 8 = LB := ⟨_, rfl⟩
  have hl8 : LB.length ≤ 8 := by rw [← hLB, List.length_take]; omega
  replace hsa : Sl w2 av (ints LB) := by rw [← hLB]; exact hsa
  rw [hLB] at HIB
  have HSA0 := Lib.hid hsa
  obtain ⟨ap, ac, hav, hal, _⟩ := hsa.form
  subst hav
  have HX2 := Lib.hid (HX.out.below hb2)
  have HB2 := Lib.hid (HB1.out.trans (hb2.mono HB1.out.size))
  have hr2 := HR1.out.below hb2 HR1.out.lt
  have c1 := hr2.cell 1
  simp only [List.getElem?_cons_zero, List.getElem?_cons_succ, List.getElem?_toArray] at c1
  clear hao hsa hLB hg hb2 hr2 d0 d1 HX HB1 HTK HQ HT4 HR1 hT1 HBS
  go_wp2_with fail
  refine (list_any _ lp 8 w2 (HPS.out.below HB2.out) (by omega)).mono ?_
  rintro e w3 ⟨pv, rfl, hpo, hb3⟩
  have hsp := hpo.sl
  obtain ⟨LP, hLP⟩ : ∃ LP, lp.take 8 = LP := ⟨_, rfl⟩
  have hp8 : LP.length ≤ 8 := by rw [← hLP, List.length_take]; omega
  rw [hLP] at hsp HIP
  have HSP0 := Lib.hid hsp
  obtain ⟨qp, qc, hqv, hql, _⟩ := hsp.form
  subst hqv
  have HX3 := Lib.hid (HX2.out.below hb3)
  have HA3 := Lib.hid (HSA0.out.below hb3)
  have HB3 := Lib.hid (HB2.out.trans (hb3.mono HB2.out.size))
  clear hpo hsp hLP hb3 HX2 HB2 HSA0 HPS c1
  have hn0 : (0 : Int) ≤ (bids.length : Int) := by omega
  have hK0 : (0 : Int) ≤ (K : Int) := by omega
  go_wp2
  go_loopw [8, 9, 10, 11, 12, 13, 14, 15, 16] (fun av pv r _ _ _ _ _ _ wr => ∃ (r' : Nat) (a p : List Int), r' ≤ 3 ∧ r = .int .i64 r' ∧ Sl wr av (ints a) ∧ Sl wr pv (ints p) ∧ In64 a ∧ In64 p ∧ a.length ≤ 8 ∧ p.length ≤ 8 ∧ Below w3.heap.size w3 wr) (fun _ _ r _ _ _ _ _ _ _ => 3 - (intOf r).toNat)
  case atStart => exact ⟨0, _, _, Nat.zero_le _, rfl, HA3.out, HSP0.out, HIB.out, HIP.out, hl8, hp8, Below.refl _ _⟩
  case round =>
    obtain ⟨r, a, p, hr3, rfl, hsa, hsp, hia, hipp, ha8, hp8, hb⟩ := hrel
    obtain ⟨yp, yc, hyv, hyl, _⟩ := hsa.form
    subst hyv
    obtain ⟨zp, zc, hzv, hzl, _⟩ := hsp.form
    subst hzv
    have HSA := Lib.hid hsa
    have HSP := Lib.hid hsp
    have HBR := Lib.hid hb
    have HXR := Lib.hid (HX3.out.below hb)
    have HIPP := Lib.hid hipp
    have hp0 : (0 : Int) ≤ (p.length : Int) := by omega
    have HISP0 := Lib.hid (fun W (h1 : Mat W (.slice xp bids.length xc) bids) (h2 : Sl W (.slice yp a.length yc) (ints a)) => isAllocation_go _ _ K bids a W h1 h2 hK1 (by omega) hn1 (by omega) HO.out hia)
    have HISR0 := Lib.hid (fun W (h2 : Sl W (.slice yp a.length yc) (ints a)) => isAlloc_any xp xc bids.length _ K a W h2 (by omega) (by omega) hxl)
    have HCLP0 := Lib.hid (fun W (h1 : Mat W (.slice xp bids.length xc) bids) (h2 : Sl W (.slice yp a.length yc) (ints a)) (h3 : Sl W (.slice zp p.length zc) (ints p)) => bidClears_go _ _ _ K bids a p W (allocB K bids.length a) h1 h2 h3 hK1 (by omega) hn1 (by omega) HO.out (by omega) (fun h => allocB_in h) (fun W' hW' => isAlloc_go _ _ K bids a W' (h1.below hW') (h2.below hW') (by omega) hia))
    have HCLR0 := Lib.hid (fun W (h1 : Mat W (.slice xp bids.length xc) bids) (h2 : Sl W (.slice yp a.length yc) (ints a)) (h3 : Sl W (.slice zp p.length zc) (ints p)) (hbd : Bundles (2 ^ K) bids.length a) (hsm : Small12 p) (hpl : p.length = K) => clears_any _ _ _ K bids a p W h1 h2 h3 (by omega) (by omega) HO.out hbd hsm hpl)
    have HBUN : Hid (allocB K bids.length a = true → Bundles (2 ^ K) bids.length a) := fun h => by
      have h2 := allocB_in h
      refine ⟨h2.1, fun i => ?_⟩
      have := h2.2 i
      exact ⟨this.1, by exact_mod_cast this.2⟩
    clear hsa hsp hb hia hipp HA3 HSP0 HIB HIP
    by_cases hlt : r < 3
    · obtain ⟨A, hA⟩ : ∃ A, allocB K bids.length a = A := ⟨_, rfl⟩
      rw [hA] at HISP0 HISR0 HCLP0 HBUN
      obtain ⟨F, hF⟩ : ∃ F, from0 1000000000 p = F := ⟨_, rfl⟩
      have HBT := Lib.hid (badTo_all hF)
      have HSM : Hid (F = true → Small12 p) := fun h => small_from0 (hF.trans h)
      have hask : askB K A p = (A && (p.length == K && F)) := by unfold askB; rw [hF]
      obtain ⟨R1, hR1⟩ : ∃ R1 : Bool, (if askB K A p = true then clearsP K bids a p else false) = R1 := ⟨_, rfl⟩
      obtain ⟨R2, hR2⟩ : ∃ R2 : Int, (if askB K A p = true then 0 else 1) = R2 := ⟨_, rfl⟩
      rw [hR1, hR2] at HCLP0
      obtain ⟨C, hC⟩ : ∃ C, clearsP K bids a p = C := ⟨_, rfl⟩
      rw [hC] at HCLR0 hR1
      rw [hask] at hR1 hR2
      clear hA hF hask hC
      cases A with
      | false =>
        obtain rfl : R1 = false := by rw [← hR1]; rfl
        obtain rfl : R2 = 1 := by rw [← hR2]; rfl
        clear hR1 hR2 HBUN HCLR0 HSM
        have HXa := HXR
        have HAa := HSA
        have HPa := HSP
        have HBa := HBR
        go_wp2_with fail
        refine (HISP0.out _ HXa.out HAa.out).mono ?_
        rintro e wb ⟨rfl, hbb⟩
        have HXb := Lib.hid (HXa.out.below hbb)
        have HAb := Lib.hid (HAa.out.below hbb)
        have HPb := Lib.hid (HPa.out.below hbb)
        have HBb := Lib.hid (HBa.out.trans (hbb.mono HBa.out.size))
        clear hbb HISP0
        go_wp2_with fail
        refine (HISR0.out _ HAb.out).mono ?_
        rintro e wc ⟨rfl, hbc⟩
        have HXc := Lib.hid (HXb.out.below hbc)
        have HAc := Lib.hid (HAb.out.below hbc)
        have HPc := Lib.hid (HPb.out.below hbc)
        have HBc := Lib.hid (HBb.out.trans (hbc.mono HBb.out.size))
        clear hbc
        go_wp2_with fail
        refine (HCLP0.out _ HXc.out HAc.out HPc.out).mono ?_
        rintro e wd ⟨rfl, hbd⟩
        have HXd := Lib.hid (HXc.out.below hbd)
        have HAd := Lib.hid (HAc.out.below hbd)
        have HPd := Lib.hid (HPc.out.below hbd)
        have HBd := Lib.hid (HBc.out.trans (hbd.mono HBc.out.size))
        clear hbd HCLP0
        go_wp2_with fail
        refine (HISR0.out _ HAd.out).mono ?_
        rintro e we ⟨rfl, hbe⟩
        have HXe := Lib.hid (HXd.out.below hbe)
        have HAe := Lib.hid (HAd.out.below hbe)
        have HPe := Lib.hid (HPd.out.below hbe)
        have HBe := Lib.hid (HBd.out.trans (hbe.mono HBd.out.size))
        clear hbe HISR0
        go_wp2
        go_loop [13, 14] (fun b i => ∃ i' : Nat, i' ≤ p.length ∧ i = .int .i64 i' ∧ b = .bool true) (fun _ i => p.length - (intOf i).toNat)
        case atStart => exact ⟨0, Nat.zero_le _, rfl, rfl⟩
        case round =>
          obtain ⟨i, hi, rfl, rfl⟩ := hrel
          by_cases hip : i < p.length
          · go_wp2
            go_round
            case rel => exact ⟨i + 1, by omega, by go_num, rfl⟩
            case measure => simp [intOf]; omega
          · obtain rfl : i = p.length := by omega
            go_wp2_with fail
            refine (best_any _ K bids _ HXe.out (by omega) (by omega) HO.out).mono ?_
            rintro e wg ⟨av2, rfl, hao, hbg⟩
            have HA2 := Lib.hid hao.sl
            obtain ⟨ap2, ac2, hav2, hal2, _⟩ := hao.sl.form
            rw [bestP_len] at hav2 hal2
            subst hav2
            have HXg := Lib.hid (HXe.out.below hbg)
            have HPg := Lib.hid (HPe.out.below hbg)
            have HBg := Lib.hid (HBe.out.trans (hbg.mono HBe.out.size))
            clear hao hbg
            go_wp2_with fail
            refine (prices_any _ K bids wg HXg.out hK1 (by omega) hn1 (by omega) HO.out HSG.out).mono ?_
            rintro e wh ⟨qv, q, rfl, hq, hle, hbh⟩
            have hmil := hle.million HO.out HSG.out
            have hqK : q.length = K := hle.1.1
            have HNR : Hid (Near K q 0) := ⟨hqK, fun j => by have := hmil j; omega, fun j _ => hmil j⟩
            have hqlen : (ints q).length = K := by rw [ints_length, hqK]
            rcases hq.form_ with ⟨_, h0⟩ | ⟨g, gc, more, hqv, hgb, hgl, hgm, hgc, hrow⟩
            · rw [h0] at hqlen; simp at hqlen; omega
            rw [hqlen] at hqv hgl hgc
            subst hqv
            have HROW := Lib.hid hrow
            have HBh := Lib.hid hbh
            have HGB := Lib.hid hgb
            have HGM := Lib.hid hgm
            have HA2h := Lib.hid (HA2.out.below hbh)
            have HIA2 : Hid (In64 (bestP K bids)) := fun i => by
              have := best_bundles HO.out i
              have e : ((2 : Int) ^ K) = ((2 ^ K : Nat) : Int) := by simp
              rw [e] at this
              have h64 := pow_le64 (show K ≤ 6 by omega)
              omega
            have hA28 : (bestP K bids).length ≤ 8 := by rw [bestP_len]; omega
            have HSLQ : Hid (∀ wx L, Near K L 0 ∨ (∃ k, Near K L k) → Row 2 wx g (ints L ++ more) → Sl wx (.slice (some ⟨g, 0, none⟩) K gc) (ints L) ∧ In64 L ∧ L.length ≤ 8) := fun wx L hn hrw => by
              obtain ⟨k, hn⟩ : ∃ k, Near K L k := hn.elim (fun h => ⟨0, h⟩) id
              have h2 := Sl.of_row (xs := ints L) (more := more) (cap := gc) hrw (by rw [ints_length, hn.1]; exact hgl) HGM.out
              rw [ints_length, hn.1] at h2
              exact ⟨h2, fun j => by have := hn.2.1 j; omega, by rw [hn.1]; omega⟩
            clear hq hle hqlen hrow hbh hgb hgm hgc hmil hqK
            by_cases hr0 : r = 0
            · have hr0' : ((r : Int) == 0) = true := by rw [beq_iff_eq]; omega
              have HR0 := Lib.hid hr0
              clear hr0
              go_wp2
              go_loopw [16] (fun i wx => ∃ (k : Nat) (L : List Int), k ≤ K ∧ i = .int .i64 k ∧ Near K L k ∧ Row 2 wx g (ints L ++ more) ∧ Below wg.heap.size wg wx) (fun i _ => K - (intOf i).toNat)
              case atStart => exact ⟨0, _, Nat.zero_le _, rfl, HNR.out, HROW.out, HBh.out⟩
              case round =>
                obtain ⟨k, L, hk, rfl, hL, hrow, hb⟩ := hrel
                have HLB := Lib.hid hL
                have HRW := Lib.hid hrow
                have HBX := Lib.hid hb
                clear HROW HNR HBh hL hrow
                by_cases hgo : k < K ∧ k < p.length
                · obtain ⟨hkK, hkp⟩ := hgo
                  obtain ⟨b2, o2, c2, hv, _, _, hb2, hcy⟩ := (HPg.out.below hb).int_at k hkp
                  cases hv
                  have HCY := Lib.hid hcy
                  have HCB := Lib.hid hb2
                  have hcr := HRW.out.cell k
                  rw [List.getElem?_append_left (by rw [ints_length, HLB.out.1]; exact hkK), ints_get _ _ (by rw [HLB.out.1]; exact hkK)] at hcr
                  have hx1 := HLB.out.2.2 k (Nat.le_refl _)
                  have hkL : k < (ints L).length := by rw [ints_length, HLB.out.1]; exact hkK
                  have HST : Hid (∀ W x, Row 2 W g (ints L ++ more) → Row 2 (W.setCell ⟨g, k, none⟩ (.int .i64 x)) g (ints (L.set k x) ++ more)) := fun W x h => by
                    have := h.store k (.int .i64 x)
                    rw [List.set_append_left _ _ hkL, ints_set] at this
                    exact this
                  have HPUT := Lib.hid (fun x h1 h2 => HLB.out.put hkK (x := x) h1 h2)
                  obtain ⟨x, hx⟩ : ∃ x, L.getD k 0 = x := ⟨_, rfl⟩
                  rw [hx] at hcr hx1
                  have HCR := Lib.hid hcr
                  have hy1 := HIPP.out k
                  obtain ⟨y, hy⟩ : ∃ y, p.getD k 0 = y := ⟨_, rfl⟩
                  rw [hy] at hy1 HCY
                  obtain ⟨mn, hmn, hmn2⟩ : ∃ mn : Int, min y 2 = mn ∧ mn ≤ 2 := ⟨_, rfl, by omega⟩
                  obtain ⟨mx, hmx, hmx2, hmx3⟩ : ∃ mx : Int, max (-1 : Int) mn = mx ∧ -1 ≤ mx ∧ mx ≤ 2 := ⟨_, rfl, by omega, by omega⟩
                  have hadd : IntKind.i64.wrap (x + mx) = x + mx := IntWalk.i64_in _ (by omega)
                  obtain ⟨wo, hwo⟩ : ∃ wo : World, wo = wr := ⟨_, rfl⟩
                  clear hb hcy hcr hx hy hkL
                  go_wp2_with fail
                  refine wp_region_rel_tail (by kernel_rfl) 14 141 rfl (by kernel_rfl) (by kernel_rfl) [.fix (.slice (some ⟨g, 0, none⟩) K gc), .fix (.int .i64 k), .fix (.slice (some ⟨g, 0, none⟩) K gc), .fix (.int .i64 k), .fix (.pointer (some ⟨g, k, none⟩)), .fix (.int .i64 x), .fix (.slice (some ⟨b2, o2, none⟩) p.length zc), .fix (.int .i64 k), .fix (.pointer (some ⟨b2, o2 + k, none⟩)), .fix (.int .i64 y), .fix (.int .i64 mn), .fix (.int .i64 mx), .fix (.int .i64 (x + mx)), .fix (.pointer (some ⟨g, k, none⟩))] rfl (stays_fix (by rfl)) ?hop ?hQ
                  case hop =>
                    intro W hW j o hj vs wz hb hV
                    have hbz : Below wr.heap.size wr wz := by rw [hW] at hb; exact ((Below.refl wr.heap.size wr).drew).trans hb
                    have cg := (hbz.cell (p := ⟨g, k, none⟩) HRW.out.lt).trans HCR.out
                    have cy := (hbz.cell (p := ⟨b2, o2 + k, none⟩) HCB.out).trans HCY.out
                    clear hW hb
                    simp only [List.take_succ_cons, List.take_zero] at hj
                    have hj' : j < 14 := (List.getElem?_eq_some_iff.1 hj).1
                    rcases (by omega : j = 0 ∨ j = 1 ∨ j = 2 ∨ j = 3 ∨ j = 4 ∨ j = 5 ∨ j = 6 ∨ j = 7 ∨ j = 8 ∨ j = 9 ∨ j = 10 ∨ j = 11 ∨ j = 12 ∨ j = 13) with rfl | rfl | rfl | rfl | rfl | rfl | rfl | rfl | rfl | rfl | rfl | rfl | rfl | rfl
                    all_goals cases hj
                    all_goals clear hj'
                    all_goals refine .inl ⟨rfl, ?_⟩
                    all_goals simp only [List.take_succ_cons, List.take_zero]
                    all_goals (try simp [predsR, Region.binds, Vk] at hV)
                    all_goals simp only [putAll]
                    all_goals generalize hR : Res _ _ vs wz = R
                    all_goals go_simp
                    all_goals subst hR
                    all_goals exact ⟨rfl, Below.refl _ _⟩
                  case hQ =>
                    intro W hW vs wz hb hV hD
                    have hbz : Below wr.heap.size wr wz := by rw [hW] at hb; exact ((Below.refl wr.heap.size wr).drew).trans hb
                    have hrz := HRW.out.below hbz HRW.out.lt
                    have hfz := hrz.free k
                    have cgz := (hbz.cell (p := ⟨g, k, none⟩) HRW.out.lt).trans HCR.out
                    have HSTZ := Lib.hid (HST.out wz (x + mx) hrz)
                    have HBZ := Lib.hid ((HBX.out.trans (hbz.mono HBX.out.size)).setCell (p := ⟨g, k, none⟩) HGB.out (.int .i64 (x + mx)))
                    have HNZ := Lib.hid (HPUT.out (x + mx) (by omega) (by omega))
                    have v0 : vs 0 = _ := hV 0 (by decide)
                    have v1 : vs 1 = _ := hV 1 (by decide)
                    have v2 : vs 2 = _ := hV 2 (by decide)
                    have v3 : vs 3 = _ := hV 3 (by decide)
                    have v4 : vs 4 = _ := hV 4 (by decide)
                    have v5 : vs 5 = _ := hV 5 (by decide)
                    have v6 : vs 6 = _ := hV 6 (by decide)
                    have v7 : vs 7 = _ := hV 7 (by decide)
                    have v8 : vs 8 = _ := hV 8 (by decide)
                    have v9 : vs 9 = _ := hV 9 (by decide)
                    have v10 : vs 10 = _ := hV 10 (by decide)
                    have v11 : vs 11 = _ := hV 11 (by decide)
                    have v12 : vs 12 = _ := hV 12 (by decide)
                    have v13 : vs 13 = _ := hV 13 (by decide)
                    simp only [List.take_succ_cons, List.take_zero, List.drop_succ_cons, List.drop_zero, putAll, v0, v1, v2, v3, v4, v5, v6, v7, v8, v9, v10, v11, v12, v13]
                    clear hV hD hb hW hbz hrz v0 v1 v2 v3 v4 v5 v6 v7 v8 v9 v10 v11 v12 v13
                    go_wp2
                    go_roundw
                    case rel => exact ⟨k + 1, _, by omega, by go_num, HNZ.out, HSTZ.out, HBZ.out⟩
                    case measure => simp [intOf]; omega
                · have HSQ := Lib.hid (HSLQ.out wr L (.inr ⟨k, HLB.out⟩) HRW.out)
                  have HAr := Lib.hid (HA2.out.below hb)
                  have HBr := Lib.hid (HBg.out.trans (hb.mono HBg.out.size))
                  clear hb HLB HRW HBX
                  by_cases hkK : k < K
                  · have hkp : ¬ (k : Int) < (p.length : Int) := by omega
                    go_wp2
                    go_roundw
                    case rel => exact ⟨r + 1, _, _, by omega, by go_num, HAr.out, HSQ.out.1, HIA2.out, HSQ.out.2.1, hA28, HSQ.out.2.2, HBr.out⟩
                    case measure => simp [intOf]; omega
                  · have hkK2 : ¬ (k : Int) < (K : Int) := by omega
                    go_wp2
                    go_roundw
                    case rel => exact ⟨r + 1, _, _, by omega, by go_num, HAr.out, HSQ.out.1, HIA2.out, HSQ.out.2.1, hA28, HSQ.out.2.2, HBr.out⟩
                    case measure => simp [intOf]; omega
            · have hr0' : ((r : Int) == 0) = false := by rw [beq_eq_false_iff_ne]; omega
              have HSQ := Lib.hid (HSLQ.out wh q (.inl HNR.out) HROW.out)
              have HBr := Lib.hid (HBg.out.trans (HBh.out.mono HBg.out.size))
              clear hr0
              go_wp2
              go_roundw
              case rel => exact ⟨r + 1, _, _, by omega, by go_num, HA2h.out, HSQ.out.1, HIA2.out, HSQ.out.2.1, hA28, HSQ.out.2.2, HBr.out⟩
              case measure => simp [intOf]; omega
      | true =>
        by_cases hpl : p.length = K
        · have e1 : ((p.length : Int) != (K : Int)) = false := by rw [bne_eq_false_iff_eq]; omega
          have e2 : ((p.length : Int) == (K : Int)) = true := by rw [beq_iff_eq]; omega
          have hpk : (p.length == K) = true := by rw [beq_iff_eq]; exact hpl
          rw [hpk] at hR1 hR2
          cases F with
          | false =>
            obtain rfl : R1 = false := by rw [← hR1]; rfl
            obtain rfl : R2 = 1 := by rw [← hR2]; rfl
            clear hR1 hR2 hpk hpl HBUN HCLR0 HSM
            have HXa := HXR
            have HAa := HSA
            have HPa := HSP
            have HBa := HBR
            go_wp2_with fail
            refine (HISP0.out _ HXa.out HAa.out).mono ?_
            rintro e wb ⟨rfl, hbb⟩
            have HXb := Lib.hid (HXa.out.below hbb)
            have HAb := Lib.hid (HAa.out.below hbb)
            have HPb := Lib.hid (HPa.out.below hbb)
            have HBb := Lib.hid (HBa.out.trans (hbb.mono HBa.out.size))
            clear hbb HISP0
            go_wp2_with fail
            refine (HISR0.out _ HAb.out).mono ?_
            rintro e wc ⟨rfl, hbc⟩
            have HXc := Lib.hid (HXb.out.below hbc)
            have HAc := Lib.hid (HAb.out.below hbc)
            have HPc := Lib.hid (HPb.out.below hbc)
            have HBc := Lib.hid (HBb.out.trans (hbc.mono HBb.out.size))
            clear hbc
            go_wp2_with fail
            refine (HCLP0.out _ HXc.out HAc.out HPc.out).mono ?_
            rintro e wd ⟨rfl, hbd⟩
            have HXd := Lib.hid (HXc.out.below hbd)
            have HAd := Lib.hid (HAc.out.below hbd)
            have HPd := Lib.hid (HPc.out.below hbd)
            have HBd := Lib.hid (HBc.out.trans (hbd.mono HBc.out.size))
            clear hbd HCLP0
            go_wp2_with fail
            refine (HISR0.out _ HAd.out).mono ?_
            rintro e we ⟨rfl, hbe⟩
            have HXe := Lib.hid (HXd.out.below hbe)
            have HAe := Lib.hid (HAd.out.below hbe)
            have HPe := Lib.hid (HPd.out.below hbe)
            have HBe := Lib.hid (HBd.out.trans (hbe.mono HBd.out.size))
            clear hbe HISR0
            go_wp2
            go_loop [13, 14] (fun b i => ∃ i' : Nat, i' ≤ p.length ∧ i = .int .i64 i' ∧ b = .bool (badTo p i')) (fun _ i => p.length - (intOf i).toNat)
            case atStart => exact ⟨0, Nat.zero_le _, rfl, rfl⟩
            case round =>
              obtain ⟨i, hi, rfl, rfl⟩ := hrel
              by_cases hip : i < p.length
              · obtain ⟨b1, o1, c1, hv, _, _, _, hcp⟩ := HPe.out.int_at i hip
                cases hv
                have HNX : Hid (badTo p (i + 1) = (badTo p i || (decide (p.getD i 0 < 0) || decide (1000000000 < p.getD i 0)))) := rfl
                have hx1 := HIPP.out i
                obtain ⟨x, hx⟩ : ∃ x, p.getD i 0 = x := ⟨_, rfl⟩
                rw [hx] at hcp HNX hx1
                obtain ⟨t, ht⟩ : ∃ t, badTo p i = t := ⟨_, rfl⟩
                rw [ht] at HNX ⊢
                clear hx ht
                cases t with
                | true =>
                  have HV : Hid (badTo p (i + 1) = true) := HNX.out
                  clear HNX
                  go_wp2
                  go_round
                  case rel => exact ⟨i + 1, by omega, by go_num, by rw [HV.out]⟩
                  case measure => simp [intOf]; omega
                | false =>
                  by_cases hx0 : x < 0
                  · have hd0 : decide (x < 0) = true := by simpa using hx0
                    have HV : Hid (badTo p (i + 1) = true) := by show _ = _; rw [HNX.out, hd0]; rfl
                    clear HNX
                    go_wp2
                    go_round
                    case rel => exact ⟨i + 1, by omega, by go_num, by rw [HV.out]⟩
                    case measure => simp [intOf]; omega
                  · have hd0 : decide (x < 0) = false := by simpa using hx0
                    by_cases hxm : 1000000000 < x
                    · have hd1 : decide (1000000000 < x) = true := by simpa using hxm
                      have HV : Hid (badTo p (i + 1) = true) := by show _ = _; rw [HNX.out, hd0, hd1]; rfl
                      clear HNX
                      go_wp2
                      go_round
                      case rel => exact ⟨i + 1, by omega, by go_num, by rw [HV.out]⟩
                      case measure => simp [intOf]; omega
                    · have hd1 : decide (1000000000 < x) = false := by simpa using hxm
                      have HV : Hid (badTo p (i + 1) = false) := by show _ = _; rw [HNX.out, hd0, hd1]; rfl
                      clear HNX
                      go_wp2
                      go_round
                      case rel => exact ⟨i + 1, by omega, by go_num, by rw [HV.out]⟩
                      case measure => simp [intOf]; omega
              · obtain rfl : i = p.length := by omega
                rw [HBT.out]
                go_wp2_with fail
                refine (best_any _ K bids _ HXe.out (by omega) (by omega) HO.out).mono ?_
                rintro e wg ⟨av2, rfl, hao, hbg⟩
                have HA2 := Lib.hid hao.sl
                obtain ⟨ap2, ac2, hav2, hal2, _⟩ := hao.sl.form
                rw [bestP_len] at hav2 hal2
                subst hav2
                have HXg := Lib.hid (HXe.out.below hbg)
                have HPg := Lib.hid (HPe.out.below hbg)
                have HBg := Lib.hid (HBe.out.trans (hbg.mono HBe.out.size))
                clear hao hbg
                go_wp2_with fail
                refine (prices_any _ K bids wg HXg.out hK1 (by omega) hn1 (by omega) HO.out HSG.out).mono ?_
                rintro e wh ⟨qv, q, rfl, hq, hle, hbh⟩
                have hmil := hle.million HO.out HSG.out
                have hqK : q.length = K := hle.1.1
                have HNR : Hid (Near K q 0) := ⟨hqK, fun j => by have := hmil j; omega, fun j _ => hmil j⟩
                have hqlen : (ints q).length = K := by rw [ints_length, hqK]
                rcases hq.form_ with ⟨_, h0⟩ | ⟨g, gc, more, hqv, hgb, hgl, hgm, hgc, hrow⟩
                · rw [h0] at hqlen; simp at hqlen; omega
                rw [hqlen] at hqv hgl hgc
                subst hqv
                have HROW := Lib.hid hrow
                have HBh := Lib.hid hbh
                have HGB := Lib.hid hgb
                have HGM := Lib.hid hgm
                have HA2h := Lib.hid (HA2.out.below hbh)
                have HIA2 : Hid (In64 (bestP K bids)) := fun i => by
                  have := best_bundles HO.out i
                  have e : ((2 : Int) ^ K) = ((2 ^ K : Nat) : Int) := by simp
                  rw [e] at this
                  have h64 := pow_le64 (show K ≤ 6 by omega)
                  omega
                have hA28 : (bestP K bids).length ≤ 8 := by rw [bestP_len]; omega
                have HSLQ : Hid (∀ wx L, Near K L 0 ∨ (∃ k, Near K L k) → Row 2 wx g (ints L ++ more) → Sl wx (.slice (some ⟨g, 0, none⟩) K gc) (ints L) ∧ In64 L ∧ L.length ≤ 8) := fun wx L hn hrw => by
                  obtain ⟨k, hn⟩ : ∃ k, Near K L k := hn.elim (fun h => ⟨0, h⟩) id
                  have h2 := Sl.of_row (xs := ints L) (more := more) (cap := gc) hrw (by rw [ints_length, hn.1]; exact hgl) HGM.out
                  rw [ints_length, hn.1] at h2
                  exact ⟨h2, fun j => by have := hn.2.1 j; omega, by rw [hn.1]; omega⟩
                clear hq hle hqlen hrow hbh hgb hgm hgc hmil hqK
                by_cases hr0 : r = 0
                · have hr0' : ((r : Int) == 0) = true := by rw [beq_iff_eq]; omega
                  have HR0 := Lib.hid hr0
                  clear hr0
                  go_wp2
                  go_loopw [16] (fun i wx => ∃ (k : Nat) (L : List Int), k ≤ K ∧ i = .int .i64 k ∧ Near K L k ∧ Row 2 wx g (ints L ++ more) ∧ Below wg.heap.size wg wx) (fun i _ => K - (intOf i).toNat)
                  case atStart => exact ⟨0, _, Nat.zero_le _, rfl, HNR.out, HROW.out, HBh.out⟩
                  case round =>
                    obtain ⟨k, L, hk, rfl, hL, hrow, hb⟩ := hrel
                    have HLB := Lib.hid hL
                    have HRW := Lib.hid hrow
                    have HBX := Lib.hid hb
                    clear HROW HNR HBh hL hrow
                    by_cases hgo : k < K ∧ k < p.length
                    · obtain ⟨hkK, hkp⟩ := hgo
                      obtain ⟨b2, o2, c2, hv, _, _, hb2, hcy⟩ := (HPg.out.below hb).int_at k hkp
                      cases hv
                      have HCY := Lib.hid hcy
                      have HCB := Lib.hid hb2
                      have hcr := HRW.out.cell k
                      rw [List.getElem?_append_left (by rw [ints_length, HLB.out.1]; exact hkK), ints_get _ _ (by rw [HLB.out.1]; exact hkK)] at hcr
                      have hx1 := HLB.out.2.2 k (Nat.le_refl _)
                      have hkL : k < (ints L).length := by rw [ints_length, HLB.out.1]; exact hkK
                      have HST : Hid (∀ W x, Row 2 W g (ints L ++ more) → Row 2 (W.setCell ⟨g, k, none⟩ (.int .i64 x)) g (ints (L.set k x) ++ more)) := fun W x h => by
                        have := h.store k (.int .i64 x)
                        rw [List.set_append_left _ _ hkL, ints_set] at this
                        exact this
                      have HPUT := Lib.hid (fun x h1 h2 => HLB.out.put hkK (x := x) h1 h2)
                      obtain ⟨x, hx⟩ : ∃ x, L.getD k 0 = x := ⟨_, rfl⟩
                      rw [hx] at hcr hx1
                      have HCR := Lib.hid hcr
                      have hy1 := HIPP.out k
                      obtain ⟨y, hy⟩ : ∃ y, p.getD k 0 = y := ⟨_, rfl⟩
                      rw [hy] at hy1 HCY
                      obtain ⟨mn, hmn, hmn2⟩ : ∃ mn : Int, min y 2 = mn ∧ mn ≤ 2 := ⟨_, rfl, by omega⟩
                      obtain ⟨mx, hmx, hmx2, hmx3⟩ : ∃ mx : Int, max (-1 : Int) mn = mx ∧ -1 ≤ mx ∧ mx ≤ 2 := ⟨_, rfl, by omega, by omega⟩
                      have hadd : IntKind.i64.wrap (x + mx) = x + mx := IntWalk.i64_in _ (by omega)
                      obtain ⟨wo, hwo⟩ : ∃ wo : World, wo = wr := ⟨_, rfl⟩
                      clear hb hcy hcr hx hy hkL
                      go_wp2_with fail
                      refine wp_region_rel_tail (by kernel_rfl) 14 141 rfl (by kernel_rfl) (by kernel_rfl) [.fix (.slice (some ⟨g, 0, none⟩) K gc), .fix (.int .i64 k), .fix (.slice (some ⟨g, 0, none⟩) K gc), .fix (.int .i64 k), .fix (.pointer (some ⟨g, k, none⟩)), .fix (.int .i64 x), .fix (.slice (some ⟨b2, o2, none⟩) p.length zc), .fix (.int .i64 k), .fix (.pointer (some ⟨b2, o2 + k, none⟩)), .fix (.int .i64 y), .fix (.int .i64 mn), .fix (.int .i64 mx), .fix (.int .i64 (x + mx)), .fix (.pointer (some ⟨g, k, none⟩))] rfl (stays_fix (by rfl)) ?hop ?hQ
                      case hop =>
                        intro W hW j o hj vs wz hb hV
                        have hbz : Below wr.heap.size wr wz := by rw [hW] at hb; exact ((Below.refl wr.heap.size wr).drew).trans hb
                        have cg := (hbz.cell (p := ⟨g, k, none⟩) HRW.out.lt).trans HCR.out
                        have cy := (hbz.cell (p := ⟨b2, o2 + k, none⟩) HCB.out).trans HCY.out
                        clear hW hb
                        simp only [List.take_succ_cons, List.take_zero] at hj
                        have hj' : j < 14 := (List.getElem?_eq_some_iff.1 hj).1
                        rcases (by omega : j = 0 ∨ j = 1 ∨ j = 2 ∨ j = 3 ∨ j = 4 ∨ j = 5 ∨ j = 6 ∨ j = 7 ∨ j = 8 ∨ j = 9 ∨ j = 10 ∨ j = 11 ∨ j = 12 ∨ j = 13) with rfl | rfl | rfl | rfl | rfl | rfl | rfl | rfl | rfl | rfl | rfl | rfl | rfl | rfl
                        all_goals cases hj
                        all_goals clear hj'
                        all_goals refine .inl ⟨rfl, ?_⟩
                        all_goals simp only [List.take_succ_cons, List.take_zero]
                        all_goals (try simp [predsR, Region.binds, Vk] at hV)
                        all_goals simp only [putAll]
                        all_goals generalize hR : Res _ _ vs wz = R
                        all_goals go_simp
                        all_goals subst hR
                        all_goals exact ⟨rfl, Below.refl _ _⟩
                      case hQ =>
                        intro W hW vs wz hb hV hD
                        have hbz : Below wr.heap.size wr wz := by rw [hW] at hb; exact ((Below.refl wr.heap.size wr).drew).trans hb
                        have hrz := HRW.out.below hbz HRW.out.lt
                        have hfz := hrz.free k
                        have cgz := (hbz.cell (p := ⟨g, k, none⟩) HRW.out.lt).trans HCR.out
                        have HSTZ := Lib.hid (HST.out wz (x + mx) hrz)
                        have HBZ := Lib.hid ((HBX.out.trans (hbz.mono HBX.out.size)).setCell (p := ⟨g, k, none⟩) HGB.out (.int .i64 (x + mx)))
                        have HNZ := Lib.hid (HPUT.out (x + mx) (by omega) (by omega))
                        have v0 : vs 0 = _ := hV 0 (by decide)
                        have v1 : vs 1 = _ := hV 1 (by decide)
                        have v2 : vs 2 = _ := hV 2 (by decide)
                        have v3 : vs 3 = _ := hV 3 (by decide)
                        have v4 : vs 4 = _ := hV 4 (by decide)
                        have v5 : vs 5 = _ := hV 5 (by decide)
                        have v6 : vs 6 = _ := hV 6 (by decide)
                        have v7 : vs 7 = _ := hV 7 (by decide)
                        have v8 : vs 8 = _ := hV 8 (by decide)
                        have v9 : vs 9 = _ := hV 9 (by decide)
                        have v10 : vs 10 = _ := hV 10 (by decide)
                        have v11 : vs 11 = _ := hV 11 (by decide)
                        have v12 : vs 12 = _ := hV 12 (by decide)
                        have v13 : vs 13 = _ := hV 13 (by decide)
                        simp only [List.take_succ_cons, List.take_zero, List.drop_succ_cons, List.drop_zero, putAll, v0, v1, v2, v3, v4, v5, v6, v7, v8, v9, v10, v11, v12, v13]
                        clear hV hD hb hW hbz hrz v0 v1 v2 v3 v4 v5 v6 v7 v8 v9 v10 v11 v12 v13
                        go_wp2
                        go_roundw
                        case rel => exact ⟨k + 1, _, by omega, by go_num, HNZ.out, HSTZ.out, HBZ.out⟩
                        case measure => simp [intOf]; omega
                    · have HSQ := Lib.hid (HSLQ.out wr L (.inr ⟨k, HLB.out⟩) HRW.out)
                      have HAr := Lib.hid (HA2.out.below hb)
                      have HBr := Lib.hid (HBg.out.trans (hb.mono HBg.out.size))
                      clear hb HLB HRW HBX
                      by_cases hkK : k < K
                      · have hkp : ¬ (k : Int) < (p.length : Int) := by omega
                        go_wp2
                        go_roundw
                        case rel => exact ⟨r + 1, _, _, by omega, by go_num, HAr.out, HSQ.out.1, HIA2.out, HSQ.out.2.1, hA28, HSQ.out.2.2, HBr.out⟩
                        case measure => simp [intOf]; omega
                      · have hkK2 : ¬ (k : Int) < (K : Int) := by omega
                        go_wp2
                        go_roundw
                        case rel => exact ⟨r + 1, _, _, by omega, by go_num, HAr.out, HSQ.out.1, HIA2.out, HSQ.out.2.1, hA28, HSQ.out.2.2, HBr.out⟩
                        case measure => simp [intOf]; omega
                · have hr0' : ((r : Int) == 0) = false := by rw [beq_eq_false_iff_ne]; omega
                  have HSQ := Lib.hid (HSLQ.out wh q (.inl HNR.out) HROW.out)
                  have HBr := Lib.hid (HBg.out.trans (HBh.out.mono HBg.out.size))
                  clear hr0
                  go_wp2
                  go_roundw
                  case rel => exact ⟨r + 1, _, _, by omega, by go_num, HA2h.out, HSQ.out.1, HIA2.out, HSQ.out.2.1, hA28, HSQ.out.2.2, HBr.out⟩
                  case measure => simp [intOf]; omega
          | true =>
            obtain rfl : C = R1 := by rw [← hR1]; rfl
            obtain rfl : R2 = 0 := by rw [← hR2]; rfl
            have HCLR := Lib.hid (fun W h1 h2 h3 => HCLR0.out W h1 h2 h3 (HBUN.out rfl) (HSM.out rfl) hpl)
            have hcc : (C != C) = false := by simp
            clear hR1 hR2 hpk hpl HBUN HCLR0 HSM
            have HXa := HXR
            have HAa := HSA
            have HPa := HSP
            have HBa := HBR
            go_wp2_with fail
            refine (HISP0.out _ HXa.out HAa.out).mono ?_
            rintro e wb ⟨rfl, hbb⟩
            have HXb := Lib.hid (HXa.out.below hbb)
            have HAb := Lib.hid (HAa.out.below hbb)
            have HPb := Lib.hid (HPa.out.below hbb)
            have HBb := Lib.hid (HBa.out.trans (hbb.mono HBa.out.size))
            clear hbb HISP0
            go_wp2_with fail
            refine (HISR0.out _ HAb.out).mono ?_
            rintro e wc ⟨rfl, hbc⟩
            have HXc := Lib.hid (HXb.out.below hbc)
            have HAc := Lib.hid (HAb.out.below hbc)
            have HPc := Lib.hid (HPb.out.below hbc)
            have HBc := Lib.hid (HBb.out.trans (hbc.mono HBb.out.size))
            clear hbc
            go_wp2_with fail
            refine (HCLP0.out _ HXc.out HAc.out HPc.out).mono ?_
            rintro e wd ⟨rfl, hbd⟩
            have HXd := Lib.hid (HXc.out.below hbd)
            have HAd := Lib.hid (HAc.out.below hbd)
            have HPd := Lib.hid (HPc.out.below hbd)
            have HBd := Lib.hid (HBc.out.trans (hbd.mono HBc.out.size))
            clear hbd HCLP0
            go_wp2_with fail
            refine (HISR0.out _ HAd.out).mono ?_
            rintro e we ⟨rfl, hbe⟩
            have HXe := Lib.hid (HXd.out.below hbe)
            have HAe := Lib.hid (HAd.out.below hbe)
            have HPe := Lib.hid (HPd.out.below hbe)
            have HBe := Lib.hid (HBd.out.trans (hbe.mono HBd.out.size))
            clear hbe HISR0
            go_wp2
            go_loop [13, 14] (fun b i => ∃ i' : Nat, i' ≤ p.length ∧ i = .int .i64 i' ∧ b = .bool (badTo p i')) (fun _ i => p.length - (intOf i).toNat)
            case atStart => exact ⟨0, Nat.zero_le _, rfl, rfl⟩
            case round =>
              obtain ⟨i, hi, rfl, rfl⟩ := hrel
              by_cases hip : i < p.length
              · obtain ⟨b1, o1, c1, hv, _, _, _, hcp⟩ := HPe.out.int_at i hip
                cases hv
                have HNX : Hid (badTo p (i + 1) = (badTo p i || (decide (p.getD i 0 < 0) || decide (1000000000 < p.getD i 0)))) := rfl
                have hx1 := HIPP.out i
                obtain ⟨x, hx⟩ : ∃ x, p.getD i 0 = x := ⟨_, rfl⟩
                rw [hx] at hcp HNX hx1
                obtain ⟨t, ht⟩ : ∃ t, badTo p i = t := ⟨_, rfl⟩
                rw [ht] at HNX ⊢
                clear hx ht
                cases t with
                | true =>
                  have HV : Hid (badTo p (i + 1) = true) := HNX.out
                  clear HNX
                  go_wp2
                  go_round
                  case rel => exact ⟨i + 1, by omega, by go_num, by rw [HV.out]⟩
                  case measure => simp [intOf]; omega
                | false =>
                  by_cases hx0 : x < 0
                  · have hd0 : decide (x < 0) = true := by simpa using hx0
                    have HV : Hid (badTo p (i + 1) = true) := by show _ = _; rw [HNX.out, hd0]; rfl
                    clear HNX
                    go_wp2
                    go_round
                    case rel => exact ⟨i + 1, by omega, by go_num, by rw [HV.out]⟩
                    case measure => simp [intOf]; omega
                  · have hd0 : decide (x < 0) = false := by simpa using hx0
                    by_cases hxm : 1000000000 < x
                    · have hd1 : decide (1000000000 < x) = true := by simpa using hxm
                      have HV : Hid (badTo p (i + 1) = true) := by show _ = _; rw [HNX.out, hd0, hd1]; rfl
                      clear HNX
                      go_wp2
                      go_round
                      case rel => exact ⟨i + 1, by omega, by go_num, by rw [HV.out]⟩
                      case measure => simp [intOf]; omega
                    · have hd1 : decide (1000000000 < x) = false := by simpa using hxm
                      have HV : Hid (badTo p (i + 1) = false) := by show _ = _; rw [HNX.out, hd0, hd1]; rfl
                      clear HNX
                      go_wp2
                      go_round
                      case rel => exact ⟨i + 1, by omega, by go_num, by rw [HV.out]⟩
                      case measure => simp [intOf]; omega
              · obtain rfl : i = p.length := by omega
                rw [HBT.out]
                go_wp2_with fail
                refine (HCLR.out _ HXe.out HAe.out HPe.out).mono ?_
                rintro e wf ⟨rfl, hbf⟩
                have HXf := Lib.hid (HXe.out.below hbf)
                have HAf := Lib.hid (HAe.out.below hbf)
                have HPf := Lib.hid (HPe.out.below hbf)
                have HBf := Lib.hid (HBe.out.trans (hbf.mono HBe.out.size))
                clear hbf HCLR
                go_wp2_with fail
                refine (best_any _ K bids _ HXf.out (by omega) (by omega) HO.out).mono ?_
                rintro e wg ⟨av2, rfl, hao, hbg⟩
                have HA2 := Lib.hid hao.sl
                obtain ⟨ap2, ac2, hav2, hal2, _⟩ := hao.sl.form
                rw [bestP_len] at hav2 hal2
                subst hav2
                have HXg := Lib.hid (HXf.out.below hbg)
                have HPg := Lib.hid (HPf.out.below hbg)
                have HBg := Lib.hid (HBf.out.trans (hbg.mono HBf.out.size))
                clear hao hbg
                go_wp2_with fail
                refine (prices_any _ K bids wg HXg.out hK1 (by omega) hn1 (by omega) HO.out HSG.out).mono ?_
                rintro e wh ⟨qv, q, rfl, hq, hle, hbh⟩
                have hmil := hle.million HO.out HSG.out
                have hqK : q.length = K := hle.1.1
                have HNR : Hid (Near K q 0) := ⟨hqK, fun j => by have := hmil j; omega, fun j _ => hmil j⟩
                have hqlen : (ints q).length = K := by rw [ints_length, hqK]
                rcases hq.form_ with ⟨_, h0⟩ | ⟨g, gc, more, hqv, hgb, hgl, hgm, hgc, hrow⟩
                · rw [h0] at hqlen; simp at hqlen; omega
                rw [hqlen] at hqv hgl hgc
                subst hqv
                have HROW := Lib.hid hrow
                have HBh := Lib.hid hbh
                have HGB := Lib.hid hgb
                have HGM := Lib.hid hgm
                have HA2h := Lib.hid (HA2.out.below hbh)
                have HIA2 : Hid (In64 (bestP K bids)) := fun i => by
                  have := best_bundles HO.out i
                  have e : ((2 : Int) ^ K) = ((2 ^ K : Nat) : Int) := by simp
                  rw [e] at this
                  have h64 := pow_le64 (show K ≤ 6 by omega)
                  omega
                have hA28 : (bestP K bids).length ≤ 8 := by rw [bestP_len]; omega
                have HSLQ : Hid (∀ wx L, Near K L 0 ∨ (∃ k, Near K L k) → Row 2 wx g (ints L ++ more) → Sl wx (.slice (some ⟨g, 0, none⟩) K gc) (ints L) ∧ In64 L ∧ L.length ≤ 8) := fun wx L hn hrw => by
                  obtain ⟨k, hn⟩ : ∃ k, Near K L k := hn.elim (fun h => ⟨0, h⟩) id
                  have h2 := Sl.of_row (xs := ints L) (more := more) (cap := gc) hrw (by rw [ints_length, hn.1]; exact hgl) HGM.out
                  rw [ints_length, hn.1] at h2
                  exact ⟨h2, fun j => by have := hn.2.1 j; omega, by rw [hn.1]; omega⟩
                clear hq hle hqlen hrow hbh hgb hgm hgc hmil hqK
                by_cases hr0 : r = 0
                · have hr0' : ((r : Int) == 0) = true := by rw [beq_iff_eq]; omega
                  have HR0 := Lib.hid hr0
                  clear hr0
                  go_wp2
                  go_loopw [16] (fun i wx => ∃ (k : Nat) (L : List Int), k ≤ K ∧ i = .int .i64 k ∧ Near K L k ∧ Row 2 wx g (ints L ++ more) ∧ Below wg.heap.size wg wx) (fun i _ => K - (intOf i).toNat)
                  case atStart => exact ⟨0, _, Nat.zero_le _, rfl, HNR.out, HROW.out, HBh.out⟩
                  case round =>
                    obtain ⟨k, L, hk, rfl, hL, hrow, hb⟩ := hrel
                    have HLB := Lib.hid hL
                    have HRW := Lib.hid hrow
                    have HBX := Lib.hid hb
                    clear HROW HNR HBh hL hrow
                    by_cases hgo : k < K ∧ k < p.length
                    · obtain ⟨hkK, hkp⟩ := hgo
                      obtain ⟨b2, o2, c2, hv, _, _, hb2, hcy⟩ := (HPg.out.below hb).int_at k hkp
                      cases hv
                      have HCY := Lib.hid hcy
                      have HCB := Lib.hid hb2
                      have hcr := HRW.out.cell k
                      rw [List.getElem?_append_left (by rw [ints_length, HLB.out.1]; exact hkK), ints_get _ _ (by rw [HLB.out.1]; exact hkK)] at hcr
                      have hx1 := HLB.out.2.2 k (Nat.le_refl _)
                      have hkL : k < (ints L).length := by rw [ints_length, HLB.out.1]; exact hkK
                      have HST : Hid (∀ W x, Row 2 W g (ints L ++ more) → Row 2 (W.setCell ⟨g, k, none⟩ (.int .i64 x)) g (ints (L.set k x) ++ more)) := fun W x h => by
                        have := h.store k (.int .i64 x)
                        rw [List.set_append_left _ _ hkL, ints_set] at this
                        exact this
                      have HPUT := Lib.hid (fun x h1 h2 => HLB.out.put hkK (x := x) h1 h2)
                      obtain ⟨x, hx⟩ : ∃ x, L.getD k 0 = x := ⟨_, rfl⟩
                      rw [hx] at hcr hx1
                      have HCR := Lib.hid hcr
                      have hy1 := HIPP.out k
                      obtain ⟨y, hy⟩ : ∃ y, p.getD k 0 = y := ⟨_, rfl⟩
                      rw [hy] at hy1 HCY
                      obtain ⟨mn, hmn, hmn2⟩ : ∃ mn : Int, min y 2 = mn ∧ mn ≤ 2 := ⟨_, rfl, by omega⟩
                      obtain ⟨mx, hmx, hmx2, hmx3⟩ : ∃ mx : Int, max (-1 : Int) mn = mx ∧ -1 ≤ mx ∧ mx ≤ 2 := ⟨_, rfl, by omega, by omega⟩
                      have hadd : IntKind.i64.wrap (x + mx) = x + mx := IntWalk.i64_in _ (by omega)
                      obtain ⟨wo, hwo⟩ : ∃ wo : World, wo = wr := ⟨_, rfl⟩
                      clear hb hcy hcr hx hy hkL
                      go_wp2_with fail
                      refine wp_region_rel_tail (by kernel_rfl) 14 141 rfl (by kernel_rfl) (by kernel_rfl) [.fix (.slice (some ⟨g, 0, none⟩) K gc), .fix (.int .i64 k), .fix (.slice (some ⟨g, 0, none⟩) K gc), .fix (.int .i64 k), .fix (.pointer (some ⟨g, k, none⟩)), .fix (.int .i64 x), .fix (.slice (some ⟨b2, o2, none⟩) p.length zc), .fix (.int .i64 k), .fix (.pointer (some ⟨b2, o2 + k, none⟩)), .fix (.int .i64 y), .fix (.int .i64 mn), .fix (.int .i64 mx), .fix (.int .i64 (x + mx)), .fix (.pointer (some ⟨g, k, none⟩))] rfl (stays_fix (by rfl)) ?hop ?hQ
                      case hop =>
                        intro W hW j o hj vs wz hb hV
                        have hbz : Below wr.heap.size wr wz := by rw [hW] at hb; exact ((Below.refl wr.heap.size wr).drew).trans hb
                        have cg := (hbz.cell (p := ⟨g, k, none⟩) HRW.out.lt).trans HCR.out
                        have cy := (hbz.cell (p := ⟨b2, o2 + k, none⟩) HCB.out).trans HCY.out
                        clear hW hb
                        simp only [List.take_succ_cons, List.take_zero] at hj
                        have hj' : j < 14 := (List.getElem?_eq_some_iff.1 hj).1
                        rcases (by omega : j = 0 ∨ j = 1 ∨ j = 2 ∨ j = 3 ∨ j = 4 ∨ j = 5 ∨ j = 6 ∨ j = 7 ∨ j = 8 ∨ j = 9 ∨ j = 10 ∨ j = 11 ∨ j = 12 ∨ j = 13) with rfl | rfl | rfl | rfl | rfl | rfl | rfl | rfl | rfl | rfl | rfl | rfl | rfl | rfl
                        all_goals cases hj
                        all_goals clear hj'
                        all_goals refine .inl ⟨rfl, ?_⟩
                        all_goals simp only [List.take_succ_cons, List.take_zero]
                        all_goals (try simp [predsR, Region.binds, Vk] at hV)
                        all_goals simp only [putAll]
                        all_goals generalize hR : Res _ _ vs wz = R
                        all_goals go_simp
                        all_goals subst hR
                        all_goals exact ⟨rfl, Below.refl _ _⟩
                      case hQ =>
                        intro W hW vs wz hb hV hD
                        have hbz : Below wr.heap.size wr wz := by rw [hW] at hb; exact ((Below.refl wr.heap.size wr).drew).trans hb
                        have hrz := HRW.out.below hbz HRW.out.lt
                        have hfz := hrz.free k
                        have cgz := (hbz.cell (p := ⟨g, k, none⟩) HRW.out.lt).trans HCR.out
                        have HSTZ := Lib.hid (HST.out wz (x + mx) hrz)
                        have HBZ := Lib.hid ((HBX.out.trans (hbz.mono HBX.out.size)).setCell (p := ⟨g, k, none⟩) HGB.out (.int .i64 (x + mx)))
                        have HNZ := Lib.hid (HPUT.out (x + mx) (by omega) (by omega))
                        have v0 : vs 0 = _ := hV 0 (by decide)
                        have v1 : vs 1 = _ := hV 1 (by decide)
                        have v2 : vs 2 = _ := hV 2 (by decide)
                        have v3 : vs 3 = _ := hV 3 (by decide)
                        have v4 : vs 4 = _ := hV 4 (by decide)
                        have v5 : vs 5 = _ := hV 5 (by decide)
                        have v6 : vs 6 = _ := hV 6 (by decide)
                        have v7 : vs 7 = _ := hV 7 (by decide)
                        have v8 : vs 8 = _ := hV 8 (by decide)
                        have v9 : vs 9 = _ := hV 9 (by decide)
                        have v10 : vs 10 = _ := hV 10 (by decide)
                        have v11 : vs 11 = _ := hV 11 (by decide)
                        have v12 : vs 12 = _ := hV 12 (by decide)
                        have v13 : vs 13 = _ := hV 13 (by decide)
                        simp only [List.take_succ_cons, List.take_zero, List.drop_succ_cons, List.drop_zero, putAll, v0, v1, v2, v3, v4, v5, v6, v7, v8, v9, v10, v11, v12, v13]
                        clear hV hD hb hW hbz hrz v0 v1 v2 v3 v4 v5 v6 v7 v8 v9 v10 v11 v12 v13
                        go_wp2
                        go_roundw
                        case rel => exact ⟨k + 1, _, by omega, by go_num, HNZ.out, HSTZ.out, HBZ.out⟩
                        case measure => simp [intOf]; omega
                    · have HSQ := Lib.hid (HSLQ.out wr L (.inr ⟨k, HLB.out⟩) HRW.out)
                      have HAr := Lib.hid (HA2.out.below hb)
                      have HBr := Lib.hid (HBg.out.trans (hb.mono HBg.out.size))
                      clear hb HLB HRW HBX
                      by_cases hkK : k < K
                      · have hkp : ¬ (k : Int) < (p.length : Int) := by omega
                        go_wp2
                        go_roundw
                        case rel => exact ⟨r + 1, _, _, by omega, by go_num, HAr.out, HSQ.out.1, HIA2.out, HSQ.out.2.1, hA28, HSQ.out.2.2, HBr.out⟩
                        case measure => simp [intOf]; omega
                      · have hkK2 : ¬ (k : Int) < (K : Int) := by omega
                        go_wp2
                        go_roundw
                        case rel => exact ⟨r + 1, _, _, by omega, by go_num, HAr.out, HSQ.out.1, HIA2.out, HSQ.out.2.1, hA28, HSQ.out.2.2, HBr.out⟩
                        case measure => simp [intOf]; omega
                · have hr0' : ((r : Int) == 0) = false := by rw [beq_eq_false_iff_ne]; omega
                  have HSQ := Lib.hid (HSLQ.out wh q (.inl HNR.out) HROW.out)
                  have HBr := Lib.hid (HBg.out.trans (HBh.out.mono HBg.out.size))
                  clear hr0
                  go_wp2
                  go_roundw
                  case rel => exact ⟨r + 1, _, _, by omega, by go_num, HA2h.out, HSQ.out.1, HIA2.out, HSQ.out.2.1, hA28, HSQ.out.2.2, HBr.out⟩
                  case measure => simp [intOf]; omega
        · have e1 : ((p.length : Int) != (K : Int)) = true := by rw [bne_iff_ne]; omega
          have e2 : ((p.length : Int) == (K : Int)) = false := by rw [beq_eq_false_iff_ne]; omega
          have hpk : (p.length == K) = false := by rw [beq_eq_false_iff_ne]; exact hpl
          rw [hpk] at hR1 hR2
          obtain rfl : R1 = false := by rw [← hR1]; rfl
          obtain rfl : R2 = 1 := by rw [← hR2]; rfl
          clear hR1 hR2 hpk HBUN HCLR0 HSM
          have HXa := HXR
          have HAa := HSA
          have HPa := HSP
          have HBa := HBR
          go_wp2_with fail
          refine (HISP0.out _ HXa.out HAa.out).mono ?_
          rintro e wb ⟨rfl, hbb⟩
          have HXb := Lib.hid (HXa.out.below hbb)
          have HAb := Lib.hid (HAa.out.below hbb)
          have HPb := Lib.hid (HPa.out.below hbb)
          have HBb := Lib.hid (HBa.out.trans (hbb.mono HBa.out.size))
          clear hbb HISP0
          go_wp2_with fail
          refine (HISR0.out _ HAb.out).mono ?_
          rintro e wc ⟨rfl, hbc⟩
          have HXc := Lib.hid (HXb.out.below hbc)
          have HAc := Lib.hid (HAb.out.below hbc)
          have HPc := Lib.hid (HPb.out.below hbc)
          have HBc := Lib.hid (HBb.out.trans (hbc.mono HBb.out.size))
          clear hbc
          go_wp2_with fail
          refine (HCLP0.out _ HXc.out HAc.out HPc.out).mono ?_
          rintro e wd ⟨rfl, hbd⟩
          have HXd := Lib.hid (HXc.out.below hbd)
          have HAd := Lib.hid (HAc.out.below hbd)
          have HPd := Lib.hid (HPc.out.below hbd)
          have HBd := Lib.hid (HBc.out.trans (hbd.mono HBc.out.size))
          clear hbd HCLP0
          go_wp2_with fail
          refine (HISR0.out _ HAd.out).mono ?_
          rintro e we ⟨rfl, hbe⟩
          have HXe := Lib.hid (HXd.out.below hbe)
          have HAe := Lib.hid (HAd.out.below hbe)
          have HPe := Lib.hid (HPd.out.below hbe)
          have HBe := Lib.hid (HBd.out.trans (hbe.mono HBd.out.size))
          clear hbe HISR0
          go_wp2
          go_loop [13, 14] (fun b i => ∃ i' : Nat, i' ≤ p.length ∧ i = .int .i64 i' ∧ b = .bool true) (fun _ i => p.length - (intOf i).toNat)
          case atStart => exact ⟨0, Nat.zero_le _, rfl, rfl⟩
          case round =>
            obtain ⟨i, hi, rfl, rfl⟩ := hrel
            by_cases hip : i < p.length
            · go_wp2
              go_round
              case rel => exact ⟨i + 1, by omega, by go_num, rfl⟩
              case measure => simp [intOf]; omega
            · obtain rfl : i = p.length := by omega
              go_wp2_with fail
              refine (best_any _ K bids _ HXe.out (by omega) (by omega) HO.out).mono ?_
              rintro e wg ⟨av2, rfl, hao, hbg⟩
              have HA2 := Lib.hid hao.sl
              obtain ⟨ap2, ac2, hav2, hal2, _⟩ := hao.sl.form
              rw [bestP_len] at hav2 hal2
              subst hav2
              have HXg := Lib.hid (HXe.out.below hbg)
              have HPg := Lib.hid (HPe.out.below hbg)
              have HBg := Lib.hid (HBe.out.trans (hbg.mono HBe.out.size))
              clear hao hbg
              go_wp2_with fail
              refine (prices_any _ K bids wg HXg.out hK1 (by omega) hn1 (by omega) HO.out HSG.out).mono ?_
              rintro e wh ⟨qv, q, rfl, hq, hle, hbh⟩
              have hmil := hle.million HO.out HSG.out
              have hqK : q.length = K := hle.1.1
              have HNR : Hid (Near K q 0) := ⟨hqK, fun j => by have := hmil j; omega, fun j _ => hmil j⟩
              have hqlen : (ints q).length = K := by rw [ints_length, hqK]
              rcases hq.form_ with ⟨_, h0⟩ | ⟨g, gc, more, hqv, hgb, hgl, hgm, hgc, hrow⟩
              · rw [h0] at hqlen; simp at hqlen; omega
              rw [hqlen] at hqv hgl hgc
              subst hqv
              have HROW := Lib.hid hrow
              have HBh := Lib.hid hbh
              have HGB := Lib.hid hgb
              have HGM := Lib.hid hgm
              have HA2h := Lib.hid (HA2.out.below hbh)
              have HIA2 : Hid (In64 (bestP K bids)) := fun i => by
                have := best_bundles HO.out i
                have e : ((2 : Int) ^ K) = ((2 ^ K : Nat) : Int) := by simp
                rw [e] at this
                have h64 := pow_le64 (show K ≤ 6 by omega)
                omega
              have hA28 : (bestP K bids).length ≤ 8 := by rw [bestP_len]; omega
              have HSLQ : Hid (∀ wx L, Near K L 0 ∨ (∃ k, Near K L k) → Row 2 wx g (ints L ++ more) → Sl wx (.slice (some ⟨g, 0, none⟩) K gc) (ints L) ∧ In64 L ∧ L.length ≤ 8) := fun wx L hn hrw => by
                obtain ⟨k, hn⟩ : ∃ k, Near K L k := hn.elim (fun h => ⟨0, h⟩) id
                have h2 := Sl.of_row (xs := ints L) (more := more) (cap := gc) hrw (by rw [ints_length, hn.1]; exact hgl) HGM.out
                rw [ints_length, hn.1] at h2
                exact ⟨h2, fun j => by have := hn.2.1 j; omega, by rw [hn.1]; omega⟩
              clear hq hle hqlen hrow hbh hgb hgm hgc hmil hqK
              by_cases hr0 : r = 0
              · have hr0' : ((r : Int) == 0) = true := by rw [beq_iff_eq]; omega
                have HR0 := Lib.hid hr0
                clear hr0
                go_wp2
                go_loopw [16] (fun i wx => ∃ (k : Nat) (L : List Int), k ≤ K ∧ i = .int .i64 k ∧ Near K L k ∧ Row 2 wx g (ints L ++ more) ∧ Below wg.heap.size wg wx) (fun i _ => K - (intOf i).toNat)
                case atStart => exact ⟨0, _, Nat.zero_le _, rfl, HNR.out, HROW.out, HBh.out⟩
                case round =>
                  obtain ⟨k, L, hk, rfl, hL, hrow, hb⟩ := hrel
                  have HLB := Lib.hid hL
                  have HRW := Lib.hid hrow
                  have HBX := Lib.hid hb
                  clear HROW HNR HBh hL hrow
                  by_cases hgo : k < K ∧ k < p.length
                  · obtain ⟨hkK, hkp⟩ := hgo
                    obtain ⟨b2, o2, c2, hv, _, _, hb2, hcy⟩ := (HPg.out.below hb).int_at k hkp
                    cases hv
                    have HCY := Lib.hid hcy
                    have HCB := Lib.hid hb2
                    have hcr := HRW.out.cell k
                    rw [List.getElem?_append_left (by rw [ints_length, HLB.out.1]; exact hkK), ints_get _ _ (by rw [HLB.out.1]; exact hkK)] at hcr
                    have hx1 := HLB.out.2.2 k (Nat.le_refl _)
                    have hkL : k < (ints L).length := by rw [ints_length, HLB.out.1]; exact hkK
                    have HST : Hid (∀ W x, Row 2 W g (ints L ++ more) → Row 2 (W.setCell ⟨g, k, none⟩ (.int .i64 x)) g (ints (L.set k x) ++ more)) := fun W x h => by
                      have := h.store k (.int .i64 x)
                      rw [List.set_append_left _ _ hkL, ints_set] at this
                      exact this
                    have HPUT := Lib.hid (fun x h1 h2 => HLB.out.put hkK (x := x) h1 h2)
                    obtain ⟨x, hx⟩ : ∃ x, L.getD k 0 = x := ⟨_, rfl⟩
                    rw [hx] at hcr hx1
                    have HCR := Lib.hid hcr
                    have hy1 := HIPP.out k
                    obtain ⟨y, hy⟩ : ∃ y, p.getD k 0 = y := ⟨_, rfl⟩
                    rw [hy] at hy1 HCY
                    obtain ⟨mn, hmn, hmn2⟩ : ∃ mn : Int, min y 2 = mn ∧ mn ≤ 2 := ⟨_, rfl, by omega⟩
                    obtain ⟨mx, hmx, hmx2, hmx3⟩ : ∃ mx : Int, max (-1 : Int) mn = mx ∧ -1 ≤ mx ∧ mx ≤ 2 := ⟨_, rfl, by omega, by omega⟩
                    have hadd : IntKind.i64.wrap (x + mx) = x + mx := IntWalk.i64_in _ (by omega)
                    obtain ⟨wo, hwo⟩ : ∃ wo : World, wo = wr := ⟨_, rfl⟩
                    clear hb hcy hcr hx hy hkL
                    go_wp2_with fail
                    refine wp_region_rel_tail (by kernel_rfl) 14 141 rfl (by kernel_rfl) (by kernel_rfl) [.fix (.slice (some ⟨g, 0, none⟩) K gc), .fix (.int .i64 k), .fix (.slice (some ⟨g, 0, none⟩) K gc), .fix (.int .i64 k), .fix (.pointer (some ⟨g, k, none⟩)), .fix (.int .i64 x), .fix (.slice (some ⟨b2, o2, none⟩) p.length zc), .fix (.int .i64 k), .fix (.pointer (some ⟨b2, o2 + k, none⟩)), .fix (.int .i64 y), .fix (.int .i64 mn), .fix (.int .i64 mx), .fix (.int .i64 (x + mx)), .fix (.pointer (some ⟨g, k, none⟩))] rfl (stays_fix (by rfl)) ?hop ?hQ
                    case hop =>
                      intro W hW j o hj vs wz hb hV
                      have hbz : Below wr.heap.size wr wz := by rw [hW] at hb; exact ((Below.refl wr.heap.size wr).drew).trans hb
                      have cg := (hbz.cell (p := ⟨g, k, none⟩) HRW.out.lt).trans HCR.out
                      have cy := (hbz.cell (p := ⟨b2, o2 + k, none⟩) HCB.out).trans HCY.out
                      clear hW hb
                      simp only [List.take_succ_cons, List.take_zero] at hj
                      have hj' : j < 14 := (List.getElem?_eq_some_iff.1 hj).1
                      rcases (by omega : j = 0 ∨ j = 1 ∨ j = 2 ∨ j = 3 ∨ j = 4 ∨ j = 5 ∨ j = 6 ∨ j = 7 ∨ j = 8 ∨ j = 9 ∨ j = 10 ∨ j = 11 ∨ j = 12 ∨ j = 13) with rfl | rfl | rfl | rfl | rfl | rfl | rfl | rfl | rfl | rfl | rfl | rfl | rfl | rfl
                      all_goals cases hj
                      all_goals clear hj'
                      all_goals refine .inl ⟨rfl, ?_⟩
                      all_goals simp only [List.take_succ_cons, List.take_zero]
                      all_goals (try simp [predsR, Region.binds, Vk] at hV)
                      all_goals simp only [putAll]
                      all_goals generalize hR : Res _ _ vs wz = R
                      all_goals go_simp
                      all_goals subst hR
                      all_goals exact ⟨rfl, Below.refl _ _⟩
                    case hQ =>
                      intro W hW vs wz hb hV hD
                      have hbz : Below wr.heap.size wr wz := by rw [hW] at hb; exact ((Below.refl wr.heap.size wr).drew).trans hb
                      have hrz := HRW.out.below hbz HRW.out.lt
                      have hfz := hrz.free k
                      have cgz := (hbz.cell (p := ⟨g, k, none⟩) HRW.out.lt).trans HCR.out
                      have HSTZ := Lib.hid (HST.out wz (x + mx) hrz)
                      have HBZ := Lib.hid ((HBX.out.trans (hbz.mono HBX.out.size)).setCell (p := ⟨g, k, none⟩) HGB.out (.int .i64 (x + mx)))
                      have HNZ := Lib.hid (HPUT.out (x + mx) (by omega) (by omega))
                      have v0 : vs 0 = _ := hV 0 (by decide)
                      have v1 : vs 1 = _ := hV 1 (by decide)
                      have v2 : vs 2 = _ := hV 2 (by decide)
                      have v3 : vs 3 = _ := hV 3 (by decide)
                      have v4 : vs 4 = _ := hV 4 (by decide)
                      have v5 : vs 5 = _ := hV 5 (by decide)
                      have v6 : vs 6 = _ := hV 6 (by decide)
                      have v7 : vs 7 = _ := hV 7 (by decide)
                      have v8 : vs 8 = _ := hV 8 (by decide)
                      have v9 : vs 9 = _ := hV 9 (by decide)
                      have v10 : vs 10 = _ := hV 10 (by decide)
                      have v11 : vs 11 = _ := hV 11 (by decide)
                      have v12 : vs 12 = _ := hV 12 (by decide)
                      have v13 : vs 13 = _ := hV 13 (by decide)
                      simp only [List.take_succ_cons, List.take_zero, List.drop_succ_cons, List.drop_zero, putAll, v0, v1, v2, v3, v4, v5, v6, v7, v8, v9, v10, v11, v12, v13]
                      clear hV hD hb hW hbz hrz v0 v1 v2 v3 v4 v5 v6 v7 v8 v9 v10 v11 v12 v13
                      go_wp2
                      go_roundw
                      case rel => exact ⟨k + 1, _, by omega, by go_num, HNZ.out, HSTZ.out, HBZ.out⟩
                      case measure => simp [intOf]; omega
                  · have HSQ := Lib.hid (HSLQ.out wr L (.inr ⟨k, HLB.out⟩) HRW.out)
                    have HAr := Lib.hid (HA2.out.below hb)
                    have HBr := Lib.hid (HBg.out.trans (hb.mono HBg.out.size))
                    clear hb HLB HRW HBX
                    by_cases hkK : k < K
                    · have hkp : ¬ (k : Int) < (p.length : Int) := by omega
                      go_wp2
                      go_roundw
                      case rel => exact ⟨r + 1, _, _, by omega, by go_num, HAr.out, HSQ.out.1, HIA2.out, HSQ.out.2.1, hA28, HSQ.out.2.2, HBr.out⟩
                      case measure => simp [intOf]; omega
                    · have hkK2 : ¬ (k : Int) < (K : Int) := by omega
                      go_wp2
                      go_roundw
                      case rel => exact ⟨r + 1, _, _, by omega, by go_num, HAr.out, HSQ.out.1, HIA2.out, HSQ.out.2.1, hA28, HSQ.out.2.2, HBr.out⟩
                      case measure => simp [intOf]; omega
              · have hr0' : ((r : Int) == 0) = false := by rw [beq_eq_false_iff_ne]; omega
                have HSQ := Lib.hid (HSLQ.out wh q (.inl HNR.out) HROW.out)
                have HBr := Lib.hid (HBg.out.trans (HBh.out.mono HBg.out.size))
                clear hr0
                go_wp2
                go_roundw
                case rel => exact ⟨r + 1, _, _, by omega, by go_num, HA2h.out, HSQ.out.1, HIA2.out, HSQ.out.2.1, hA28, HSQ.out.2.2, HBr.out⟩
                case measure => simp [intOf]; omega
    · obtain rfl : r = 3 := by omega
      have HBB := Lib.hid (HB3.out.trans (HBR.out.mono HB3.out.size))
      clear HISP0 HISR0 HCLP0 HCLR0 HBUN
      go_wp2_with (go_at_call 16; refine (awake_any S _).mono ?_; rintro e w5 ⟨rfl, hb5⟩; have HB5 := Lib.hid (HBB.out.trans (hb5.mono HBB.out.size)); clear hb5)
      go_ret
      exact ⟨rfl, HB5.out⟩
end Go.Proofs.YthbfgmgpploneaaDoor
