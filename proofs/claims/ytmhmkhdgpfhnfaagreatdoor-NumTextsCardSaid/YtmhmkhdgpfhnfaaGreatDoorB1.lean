/- Joined texts. -/
import Derived.Test.YtmhmkhdgpfhnfaaGreatDoorA7
set_option linter.unusedVariables false
set_option linter.unusedSimpArgs false
set_option linter.unnecessarySimpa false
namespace Go.Proofs.YtmhmkhdgpfhnfaaGreatDoor
open Go.RowKit

theorem val_set (l : List Nat) (i d : Nat) (h : i < l.length) : val (l.set i d) + 1000000000 ^ i * l.getD i 0 = val l + 1000000000 ^ i * d := by
  induction l generalizing i with
  | nil => simp at h
  | cons x l ih =>
    cases i with
    | zero => simp [val]; omega
    | succ i =>
      have := ih i (by simpa using h)
      simp only [List.set_cons_succ, val, List.getD_cons_succ, Nat.pow_succ]
      generalize 1000000000 ^ i = P at *
      grind
theorem Lo.set {l : List Nat} (h : Lo l) (i : Nat) {d : Nat} (hd : d < 1000000000) : Lo (l.set i d) := fun x hx => by
  rcases List.mem_or_eq_of_mem_set hx with hx | rfl
  · exact h x hx
  · exact hd
theorem getD_set_ne (l : List Nat) (i j d : Nat) (h : i ≠ j) : (l.set i d).getD j 0 = l.getD j 0 := by
  rw [List.getD_eq_getElem?_getD, List.getD_eq_getElem?_getD, List.getElem?_set_ne h]
/-- the outer loop's -/
def PrRel (lx ly : List Nat) (w wr : World) (k : Nat) : Prop :=
  ∃ L, L.length = lx.length + ly.length ∧ Lo L ∧ val L = val (lx.take k) * val ly ∧ (∀ i, k + ly.length ≤ i → L.getD i 0 = 0) ∧ Row 153 wr w.heap.size (nums .u32 L) ∧ Below w.heap.size w wr
/-- the inner loop's -/
def PiRel (L ly : List Nat) (w : World) (k u : Nat) (wr : World) (j c : Nat) : Prop :=
  ∃ M, M.length = L.length ∧ Lo M ∧ c < 1000000000 ∧ val M + 1000000000 ^ (k + j) * c = val L + 1000000000 ^ k * (u * val (ly.take j)) ∧ (∀ i, k + j ≤ i → M.getD i 0 = L.getD i 0) ∧ Row 153 wr w.heap.size (nums .u32 M) ∧ Below w.heap.size w wr
theorem PiRel.step {L ly M : List Nat} {w wr : World} {k u j c d e : Nat} (hj : j < ly.length) (hk : k + ly.length < L.length) (hd : ly.getD j 0 = d) (he : M.getD (k + j) 0 = e) (hM : M.length = L.length) (hlo : Lo M)
    (hv : val M + 1000000000 ^ (k + j) * c = val L + 1000000000 ^ k * (u * val (ly.take j))) (hsame : ∀ i, k + j ≤ i → M.getD i 0 = L.getD i 0) (hrow : Row 153 wr w.heap.size (nums .u32 M)) (hb : Below w.heap.size w wr)
    {V : Int} (hV : V = ((u * d + e + c) % 1000000000 : Nat)) (ht : u * d + e + c < 1000000000000000000) :
    PiRel L ly w k u (wr.setCell ⟨w.heap.size, k + j, none⟩ (.int .u32 V)) (j + 1) ((u * d + e + c) / 1000000000) := by
  subst hV
  refine ⟨M.set (k + j) ((u * d + e + c) % 1000000000), by simp [hM], hlo.set _ (by omega), by omega, ?_, ?_, ?_, hb.setCell (Nat.le_refl _) _⟩
  · have h1 := val_set M (k + j) ((u * d + e + c) % 1000000000) (by omega)
    rw [he] at h1
    rw [val_take_succ ly j hj, hd, ← Nat.add_assoc, Nat.pow_succ, Nat.pow_add] at *
    have h3 := Nat.mod_add_div (u * d + e + c) 1000000000
    generalize 1000000000 ^ k = P at *
    generalize 1000000000 ^ j = R at *
    generalize (u * d + e + c) % 1000000000 = q at *
    generalize (u * d + e + c) / 1000000000 = s at *
    generalize val (M.set (k + j) q) = vm at *
    grind
  · intro i hi
    rw [getD_set_ne _ _ _ _ (by omega)]; exact hsame i (by omega)
  · have := hrow.store (k + j) (.int .u32 ((u * d + e + c) % 1000000000 : Nat))
    rw [nums_set] at this
    exact this
theorem PrRel.skip {lx ly : List Nat} {w wr : World} {k : Nat} (hk : k < lx.length) (hd : lx.getD k 0 = 0) (h : PrRel lx ly w wr k) : PrRel lx ly w wr (k + 1) := by
  obtain ⟨L, h1, h2, h3, h4, h5, h6⟩ := h
  refine ⟨L, h1, h2, ?_, fun i hi => h4 i (by omega), h5, h6⟩
  rw [val_take_succ lx k hk, hd, Nat.mul_zero, Nat.add_zero]; exact h3
theorem PrRel.next {lx ly L : List Nat} {w wr : World} {k u c : Nat} (hk : k < lx.length) (hd : lx.getD k 0 = u) (hL : L.length = lx.length + ly.length) (hv : val L = val (lx.take k) * val ly) (hz : ∀ i, k + ly.length ≤ i → L.getD i 0 = 0)
    (h : PiRel L ly w k u wr ly.length c) {V : Int} (hV : V = (c : Int)) : PrRel lx ly w (wr.setCell ⟨w.heap.size, k + ly.length, none⟩ (.int .u32 V)) (k + 1) := by
  subst hV
  obtain ⟨M, h1, h2, h3, h4, h5, h6, h7⟩ := h
  refine ⟨M.set (k + ly.length) c, by simp [h1, hL], h2.set _ h3, ?_, ?_, ?_, h7.setCell (Nat.le_refl _) _⟩
  · have e := val_set M (k + ly.length) c (by omega)
    rw [h5 _ (Nat.le_refl _), hz _ (Nat.le_refl _), Nat.mul_zero, Nat.add_zero, h4, List.take_length, hv] at e
    rw [e, val_take_succ lx k hk, hd, Nat.add_mul, Nat.mul_assoc]
  · intro i hi
    rw [getD_set_ne _ _ _ _ (by omega), h5 i (by omega)]; exact hz i (by omega)
  · have := h6.store (k + ly.length) (.int .u32 (c : Nat))
    rw [nums_set] at this
    exact this

theorem Own.zero (T : TypeId) (K : IntKind) (base : Nat) (w : World) : Own T K base w (.slice none 0 0) (limbs 0) := Or.inl ⟨limbs_zero, rfl⟩
end Go.Proofs.YtmhmkhdgpfhnfaaGreatDoor
namespace Go.Proofs.YtmhmkhdgpfhnfaaGreatDoor
open Go.RowKit
theorem trimL_limbs (n : Nat) : trimL (limbs n) = limbs n := by rw [trimL_eq _ (Lo_limbs n), val_limbs]
theorem Own.of_owns {T : TypeId} {K : IntKind} {w : World} {base : Nat} {v : Value} {l : List Nat} (h : w.ownsRow base T 1 v l.length (nums K l)) (hnil : l = [] → v = .slice none 0 0) : Own T K base w v l := by
  obtain ⟨h1, h2⟩ := h
  by_cases hl : l = []
  · exact Or.inl ⟨hl, hnil hl⟩
  · rcases h2 with ⟨_, h0⟩ | ⟨g, cap, cur, rfl, hg, hh, hn, hm, hs, ht⟩
    · exact absurd (List.length_eq_zero_iff.1 h0) hl
    · refine Or.inr ⟨hl, g, cap, cur.toList.drop l.length, rfl, hg, hm, hn, by simp; omega, ?_⟩
      unfold Row; rw [hh, ← ht, Nat.mul_one, List.take_append_drop]
set_option maxHeartbeats 400000 in
theorem cut_nil (w : World) : Calls Tryz.prog 121 #[.slice none 0 0] w fun e w' => e = .returned (.slice none 0 0) ∧ w = w' := by
  go_enter Tryz.func121, Tryz.ntmps121
  go_wp2
  refine wp_loop_rounds 1 ?_
  rw [rounds_succ]
  go_wp2
  go_ret
  exact ⟨rfl, rfl⟩
theorem nums_one (K : IntKind) (l : List Nat) : ∀ u ∈ nums K l, u.oneCell' = true := by
  intro u hu; obtain ⟨d, _, rfl⟩ := List.mem_map.1 hu; rfl
theorem nums_at {K : IntKind} {w : World} {b off : Nat} {l : List Nat} (hc : ∀ i, i < l.length → w.cell? ⟨b, off + i, none⟩ = some (.int K (l.getD i 0 : Nat))) : ∀ j u, (nums K l)[j]? = some u → w.cell? ((⟨b, off, none⟩ : Addr).add j) = some u := by
  intro j u hu
  have hj : j < l.length := by
    rcases Nat.lt_or_ge j l.length with h | h
    · exact h
    · rw [List.getElem?_eq_none (by rw [nums_length]; exact h)] at hu; cases hu
  rw [nums_get _ _ _ hj] at hu
  have e : (⟨b, off, none⟩ : Addr).add j = ⟨b, off + j, none⟩ := by unfold Addr.add; split <;> simp_all
  rw [← hu, ← hc j hj, e]
set_option maxHeartbeats 400000 in
theorem clone_any (x : Value) (n : Nat) (w : World) (hx : Rd .u32 w x (limbs n)) (hl : (limbs n).length ≤ 1073741824) :
    Calls Tryz.prog 94 #[x] w (Out 153 .u32 w (limbs n)) := by
  obtain ⟨i0, hi, hz0, hz1, hz2⟩ := info_parts Tryz.info153
  by_cases h0 : limbs n = []
  · obtain ⟨p, cap, rfl, hlc, hcm, hn, hp⟩ := hx
    obtain ⟨rfl, rfl⟩ := hn h0
    have H0 := Lib.hid h0
    rw [h0]
    clear hp hn h0 hi hz0 hz1 hz2 hlc
    go_enter Tryz.func94, Tryz.ntmps94
    go_wp2_with fail
    refine (cut_nil w).mono ?_
    rintro e w' ⟨rfl, rfl⟩
    go_wp2
    go_ret
    exact ⟨_, rfl, Or.inl ⟨rfl, rfl⟩, Below.refl _ _⟩
  · have hlp : 0 < (limbs n).length := List.length_pos_iff.2 h0
    obtain ⟨p, cap, rfl, hlc, hcm, hn, hp⟩ := hx
    obtain ⟨b, off, rfl, hbs, hc⟩ := hp hlp
    have HC := Lib.hid hc
    have H0 := Lib.hid h0
    clear hp hn hc h0
    go_enter Tryz.func94, Tryz.ntmps94
    go_wp2_with (first | (at_builtin; refine wpList_append_own _ rfl _ _ 23 rfl w.heap.size 153 i0 (.int .u32 0) 1 4 Tryz.underlying23 hi hz0 hz1 hz2 rfl (by decide) _ _ _ rfl (World.ownsRow_nil _ _ _ _) ⟨b, off, none⟩ (limbs n).length cap (nums .u32 (limbs n)) rfl (by rw [nums_length, Nat.mul_one]) (nums_at HC.out) (nums_one _ _) ?c3 ?c4 (Nat.le_refl _) ?_))
    case c3 => unfold maxLen; omega
    case c4 => omega
    intro v w1 hown hgr hnil
    have hO : Own 153 .u32 w.heap.size w1 v (limbs n) := Own.of_owns (by simpa using hown) (fun h => absurd h H0.out)
    have hbel := (Below.refl w.heap.size w).grown hgr (Nat.le_refl _) (fun k hk => by cases hk)
    have HB := Lib.hid hbel
    rcases hO with ⟨h, _⟩ | ⟨_, g, cap', more, rfl, hg, hcm', hlc', hlm, hrow⟩
    · exact absurd h H0.out
    have HR := Lib.hid hrow
    clear hown hgr hnil hbel hrow hi hz0 hz1 hz2
    go_wp2_with fail
    refine (cut_row g (limbs n).length cap' (limbs n) more w1 rfl hlc' (by omega) HR.out).mono ?_
    rintro e w' ⟨rfl, rfl⟩
    go_wp2
    go_ret
    have ht := trimL_limbs n
    have hc := Own.cut (l := limbs n) HR.out hg (by omega)
    rw [ht] at hc
    exact ⟨natV g 0 (limbs n), by rw [ht]; rfl, hc, HB.out⟩

theorem row_new (T : TypeId) (w : World) (c : Array Value) : Row T (w.alloc (.cells c T)) w.heap.size c.toList := by
  unfold Row; show (w.heap.push _)[w.heap.size]? = _; simp
def big64 : Nat := 18446744073709551616
set_option maxHeartbeats 400000 in
theorem naturalOf_any (u : Nat) (w : World) (hu : u < big64) :
    Calls Tryz.prog 127 #[.int .u64 u] w (Out 153 .u32 w (limbs u)) := by
  have HU := Lib.hid hu
  obtain ⟨a, ha⟩ : ∃ a, u % 1000000000 = a := ⟨_, rfl⟩
  obtain ⟨b, hb⟩ : ∃ a, u / 1000000000 = a := ⟨_, rfl⟩
  obtain ⟨b1, hb1⟩ : ∃ a, b % 1000000000 = a := ⟨_, rfl⟩
  obtain ⟨c, hc⟩ : ∃ a, b / 1000000000 = a := ⟨_, rfl⟩
  have hc1 : c < 20 := by unfold big64 at hu; omega
  have ea : (u : Int) % 1000000000 = (a : Int) := by omega
  have eb : (u : Int) / 1000000000 = (b : Int) := by omega
  have eb1 : (b : Int) % 1000000000 = (b1 : Int) := by omega
  have ec : (b : Int) / 1000000000 = (c : Int) := by omega
  have ha1 : a < 1000000000 := by omega
  have hb2 : b1 < 1000000000 := by omega
  have hv : val [a, b1, c] = u := by simp only [val]; omega
  have hlo : Lo [a, b1, c] := by intro d hd; simp at hd; omega
  have HV := Lib.hid hv
  have HLO := Lib.hid hlo
  clear hv hlo hu ha hb hb1 hc
  go_enter Tryz.func127, Tryz.ntmps127
  go_wp2_with fail
  have hrow : Row 153 (w.alloc (.cells #[.int .u32 a, .int .u32 b1, .int .u32 c] 153)) w.heap.size (nums .u32 [a, b1, c] ++ []) := by simpa [nums] using row_new 153 w #[.int .u32 a, .int .u32 b1, .int .u32 c]
  have HR := Lib.hid hrow
  have HB := Lib.hid ((Below.refl w.heap.size w).alloc (Nat.le_refl _) (.cells #[.int .u32 a, .int .u32 b1, .int .u32 c] 153))
  clear hrow
  refine (cut_row w.heap.size 3 3 [a, b1, c] [] _ rfl (by omega) (by omega) HR.out).mono ?_
  rintro e w' ⟨rfl, rfl⟩
  clear ea eb eb1 ec
  go_wp2
  go_ret
  rw [← HV.out, ← trimL_eq _ HLO.out]
  exact ⟨_, rfl, Own.cut HR.out (Nat.le_refl _) (by simp), HB.out⟩
end Go.Proofs.YtmhmkhdgpfhnfaaGreatDoor
namespace Go.Proofs.YtmhmkhdgpfhnfaaGreatDoor
open Go.RowKit
theorem lin3' {Z a b Y third : Nat} (hp : Z + a = b + Y) (hc : a + third < Y) : b + third < Z := by omega
theorem lin3 {Z high Y r third : Nat} (hp : Z + r * 1000000000 = high * 1000000000 + Y) (hc : r * 1000000000 + third < Y) : high * 1000000000 + third < Z := lin3' hp hc
theorem lin4' {Z a b Y third : Nat} (hp : Z + a = b + Y) (hc : Y ≤ a + third) : Z ≤ b + third := by omega
theorem lin4 {Z high Y r third : Nat} (hp : Z + r * 1000000000 = high * 1000000000 + Y) (hc : Y ≤ r * 1000000000 + third) : Z ≤ high * 1000000000 + third := lin4' hp hc
/-- the state of the estimate: g times the top limb and r are the two highest limbs; g is not below the quotient -/
def EstInv (top next high third q g r : Nat) : Prop := g * top + r = high ∧ q ≤ g ∧ r < 1000000000 ∧ g ≤ 1000000001
/-- what is known of the number p = t3 R + .. that is divided by b = (top B + next) R + .. -/
structure EstHyp (top next high third q : Nat) : Prop where
  top1 : 500000000 ≤ top
  top2 : top < 1000000000
  next2 : next < 1000000000
  third2 : third < 1000000000
  high2 : high < top * 1000000000 + 1000000000
  qlt : q < 1000000000
  -- the quotient does not pass a guess whose product is too large
  low : ∀ g, high * 1000000000 + third < g * (top * 1000000000 + next) → q < g
  up : ∀ g, g < 1000000000 → g * (top * 1000000000 + next) ≤ high * 1000000000 + third → g ≤ q + 1
theorem EstHyp.start {top next high third q : Nat} (h : EstHyp top next high third q) : EstInv top next high third q (high / top) (high % top) := by
  have h1 := h.top1; have h2 := h.top2; have h3 := h.high2
  have e := Nat.div_add_mod high top
  have hr : high % top < top := Nat.mod_lt _ (by omega)
  have hg : high / top ≤ 1000000001 := by
    have : high / top < 1000000002 := by
      rw [Nat.div_lt_iff_lt_mul (by omega)]
      omega
    omega
  refine ⟨by rw [Nat.mul_comm]; exact e, ?_, by omega, hg⟩
  rcases Nat.lt_or_ge (high / top) q with hlt | hge
  · exfalso
    have := h.low (high / top + 1) (by
      have h4 := h.next2; have h5 := h.third2
      have : (high / top + 1) * top ≥ high + 1 := by rw [Nat.add_mul, Nat.one_mul, Nat.mul_comm]; omega
      have h6 : (high / top + 1) * (top * 1000000000 + next) = (high / top + 1) * top * 1000000000 + (high / top + 1) * next := by rw [Nat.mul_add, Nat.mul_assoc]
      rw [h6]
      have h7 : (high + 1) * 1000000000 ≤ (high / top + 1) * top * 1000000000 := Nat.mul_le_mul_right _ this
      have h8 := Nat.zero_le ((high / top + 1) * next)
      omega)
    omega
  · exact hge
theorem EstInv.prod {top next high third q g r : Nat} (h : EstInv top next high third q g r) : g * (top * 1000000000 + next) + r * 1000000000 = high * 1000000000 + g * next := by
  obtain ⟨h1, _⟩ := h
  rw [Nat.mul_add, ← Nat.mul_assoc, ← h1, Nat.add_mul]; omega
theorem EstHyp.next {top next high third q g r : Nat} (h : EstHyp top next high third q) (hi : EstInv top next high third q g r) (hc : 1000000000 ≤ g ∨ r * 1000000000 + third < g * next) : q + 1 ≤ g ∧ 1 ≤ g := by
  have hp := hi.prod
  obtain ⟨h1, h2, h3, h4⟩ := hi
  rcases hc with hc | hc
  · have := h.qlt; omega
  · have hlow := h.low g
    generalize g * (top * 1000000000 + next) = Z at *
    generalize g * next = Y at *
    have hz : high * 1000000000 + third < Z := lin3 hp hc
    have := hlow hz; omega
theorem EstHyp.down {top next high third q g r : Nat} (h : EstHyp top next high third q) (hi : EstInv top next high third q g r) (hc : 1000000000 ≤ g ∨ r * 1000000000 + third < g * next) (hr : r + top < 1000000000) : EstInv top next high third q (g - 1) (r + top) := by
  have := h.next hi hc
  obtain ⟨h1, h2, h3, h4⟩ := hi
  obtain ⟨j, rfl⟩ : ∃ j, g = j + 1 := ⟨g - 1, by omega⟩
  rw [Nat.add_sub_cancel]
  rw [Nat.add_mul, Nat.one_mul] at h1
  unfold EstInv
  exact ⟨by omega, by omega, hr, by omega⟩
theorem EstHyp.stop {top next high third q g r : Nat} (h : EstHyp top next high third q) (hi : EstInv top next high third q g r) (hg : g < 1000000000) (hc : g * next ≤ r * 1000000000 + third) : q ≤ g ∧ g ≤ q + 1 := by
  have hp := hi.prod
  refine ⟨hi.2.1, h.up g hg ?_⟩
  exact lin4 hp hc
theorem EstHyp.break_ {top next high third q g r : Nat} (h : EstHyp top next high third q) (hi : EstInv top next high third q g r) (hc : 1000000000 ≤ g ∨ r * 1000000000 + third < g * next) (hr : 1000000000 ≤ r + top) : g - 1 < 1000000000 ∧ q ≤ g - 1 ∧ g - 1 ≤ q + 1 := by
  have hn := h.next hi hc
  have h3' := h.high2; have ht1 := h.top1; have hn2 := h.next2
  obtain ⟨h1, h2, h3, h4⟩ := hi
  obtain ⟨j, rfl⟩ : ∃ j, g = j + 1 := ⟨g - 1, by omega⟩
  rw [Nat.add_sub_cancel]
  rw [Nat.add_mul, Nat.one_mul] at h1
  have hj : j < 1000000000 := by
    rcases Nat.lt_or_ge j 1000000000 with hj | hj
    · exact hj
    · exfalso
      have : 1000000000 * top ≤ j * top := Nat.mul_le_mul_right _ hj
      omega
  refine ⟨hj, by omega, h.up j hj ?_⟩
  have e : j * (top * 1000000000 + next) + (r + top) * 1000000000 = high * 1000000000 + j * next := by
    rw [Nat.mul_add, ← Nat.mul_assoc, ← h1]; generalize j * top = z; omega
  have : j * next ≤ 999999999 * 999999999 := Nat.mul_le_mul (by omega) (by omega)
  omega
theorem mulB (x y : Nat) (h : x * 1000000000 < 1000000000 * y) : x < y := by
  rw [Nat.mul_comm] at h; exact Nat.lt_of_mul_lt_mul_left h
theorem est_a {p b R lo lo' T U C : Nat} (hb : b = T * R + lo) (hlo : lo < R) (hp : p = U * R + lo') (hC : 0 < C) (hpb : p < C * b) : U < C * (T + 1) := by
  have e1 : U * R < (C * (T + 1)) * R := by
    have e2 : b < (T + 1) * R := by rw [hb, Nat.add_mul, Nat.one_mul]; exact Nat.add_lt_add_left hlo _
    have e3 : C * b < C * ((T + 1) * R) := Nat.mul_lt_mul_of_pos_left e2 hC
    rw [← Nat.mul_assoc] at e3
    have e4 : U * R ≤ p := by rw [hp]; exact Nat.le_add_right _ _
    exact Nat.lt_of_le_of_lt e4 (Nat.lt_trans hpb e3)
  exact Nat.lt_of_mul_lt_mul_right e1
theorem est_b {p b R lo lo' T U g : Nat} (hb : b = T * R + lo) (hp : p = U * R + lo') (hlo' : lo' < R) (hbpos : 0 < b) (hg : U < g * T) : p / b < g := by
  rw [Nat.div_lt_iff_lt_mul hbpos, hb, hp]
  have e1 : (U + 1) * R ≤ (g * T) * R := Nat.mul_le_mul_right _ hg
  have e2 : g * (T * R + lo) = g * T * R + g * lo := by rw [Nat.mul_add, Nat.mul_assoc]
  rw [e2]
  rw [Nat.add_mul, Nat.one_mul] at e1
  exact Nat.lt_of_lt_of_le (Nat.add_lt_add_left hlo' _) (Nat.le_trans e1 (Nat.le_add_right _ _))
theorem est_c {p b R lo lo' T U g : Nat} (hb : b = T * R + lo) (hlo : lo < R) (hp : p = U * R + lo') (hbpos : 0 < b) (hg : g ≤ T + 1) (hle : g * T ≤ U) : g ≤ p / b + 1 := by
  rcases Nat.eq_zero_or_pos g with h0 | h0
  · rw [h0]; exact Nat.zero_le _
  · have e0 : g - 1 ≤ p / b := by
      rw [Nat.le_div_iff_mul_le hbpos, hb, hp]
      obtain ⟨j, rfl⟩ : ∃ j, g = j + 1 := ⟨g - 1, by omega⟩
      rw [Nat.add_sub_cancel]
      have hjT : j ≤ T := by omega
      have e1 : j * (T * R + lo) ≤ j * (T * R + R) := Nat.mul_le_mul_left _ (Nat.add_le_add_left (Nat.le_of_lt hlo) _)
      have e2 : j * (T * R + R) = (j * T + j) * R := by rw [Nat.mul_add, Nat.add_mul, Nat.mul_assoc]
      have e3 : j * T + j ≤ U := by
        have : (j + 1) * T = j * T + T := by rw [Nat.add_mul, Nat.one_mul]
        omega
      have e4 : (j * T + j) * R ≤ U * R := Nat.mul_le_mul_right _ e3
      exact Nat.le_trans e1 (by rw [e2]; exact Nat.le_trans e4 (Nat.le_add_right _ _))
    exact Nat.sub_le_iff_le_add.1 e0
theorem add_one_le {a b c : Nat} (h : b < c) : a + b + 1 ≤ a + c := by omega
theorem est_hyp {p b R lo lo' top next high third : Nat} (hb : b = (top * 1000000000 + next) * R + lo) (hlo : lo < R) (hp : p = (high * 1000000000 + third) * R + lo') (hlo' : lo' < R)
    (hpb : p < 1000000000 * b) (h1 : 500000000 ≤ top) (h2 : top < 1000000000) (h3 : next < 1000000000) (h4 : third < 1000000000) : EstHyp top next high third (p / b) := by
  have hR : 0 < R := Nat.lt_of_le_of_lt (Nat.zero_le _) hlo
  have hT : 1000000000 ≤ top * 1000000000 + next := by
    have : 1 * 1000000000 ≤ top * 1000000000 := Nat.mul_le_mul_right _ (Nat.le_trans (by decide) h1)
    exact Nat.le_trans (by rw [Nat.one_mul] at this; exact this) (Nat.le_add_right _ _)
  have hbpos : 0 < b := by
    rw [hb]
    have : 0 < (top * 1000000000 + next) * R := Nat.mul_pos (Nat.lt_of_lt_of_le (by decide) hT) hR
    exact Nat.lt_of_lt_of_le this (Nat.le_add_right _ _)
  have hU := est_a hb hlo hp (by decide) hpb
  refine ⟨h1, h2, h3, h4, ?_, ?_, fun g hg => est_b hb hp hlo' hbpos hg, fun g hg hle => est_c hb hlo hp hbpos (Nat.le_trans (Nat.le_of_lt hg) (Nat.le_trans hT (Nat.le_add_right _ _))) hle⟩
  · apply mulB
    have : 1000000000 * (top * 1000000000 + next + 1) ≤ 1000000000 * (top * 1000000000 + 1000000000) := Nat.mul_le_mul_left _ (add_one_le h3)
    exact Nat.lt_of_le_of_lt (Nat.le_add_right _ _) (Nat.lt_of_lt_of_le hU this)
  · rw [Nat.div_lt_iff_lt_mul hbpos]; exact hpb
end Go.Proofs.YtmhmkhdgpfhnfaaGreatDoor
