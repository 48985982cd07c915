/- Joined texts. -/
import Derived.Test.YtmhmkhdgpfhnfaaGreatDoorB8
set_option linter.unusedVariables false
set_option linter.unusedSimpArgs false
set_option linter.unnecessarySimpa false
namespace Go.Proofs.YtmhmkhdgpfhnfaaGreatDoor
open Go.RowKit
theorem divide_any (x y : Value) (a b : Nat) (w : World) (hx : Rd .u32 w x (limbs a)) (hy : Rd .u32 w y (limbs b)) (hl : (limbs a).length ≤ 1073741820) (hl' : (limbs b).length ≤ 1073741820) (hb : b ≠ 0) :
    Calls Tryz.prog 124 #[x, y] w (DvOut a b w) := by
  rcases Nat.lt_or_ge a b with h | h
  · exact divide_lt x y a b w hx hy (by omega) (by omega) h
  · rcases Nat.lt_or_ge (limbs b).length 2 with h2 | h2
    · have hne : limbs b ≠ [] := fun h => hb ((limbs_nil_iff b).1 h)
      have h1 : (limbs b).length = 1 := by have := List.length_pos_iff.2 hne; omega
      have hb9 : b < 1000000000 := by
        have := val_lt (limbs b) (Lo_limbs b)
        rw [val_limbs, h1] at this; omega
      have hy' := hy
      obtain ⟨p, cap, rfl, r⟩ := hy
      rw [h1] at hy' ⊢
      exact divide_one x a b p cap w hx hy' (by omega) hb9 (by omega) h
    · exact divide_big x y a b w hx hy hl hl' h h2
set_option maxRecDepth 100000 in
set_option maxHeartbeats 1000000 in
theorem small_any (x : Value) (a : Nat) (w : World) (hx : Rd .u32 w x (limbs a)) (hl : (limbs a).length ≤ 2) :
    Calls Tryz.prog 126 #[x] w fun e w' => e = .returned (.int .u64 a) ∧ w = w' := by
  obtain ⟨p, cap, rfl, hlc, hcm, hn, hp⟩ := hx
  have hlo := Lo_limbs a
  have hva := val_limbs a
  generalize hla : limbs a = l at *
  clear hla
  match l, hl, hva, hp, hlc, hn, hlo with
  | [], _, hva, hp, hlc, hn, hlo =>
    have HA := Lib.hid hva
    clear hp hn hlc hlo hva
    go_enter Tryz.func126, Tryz.ntmps126
    go_wp2
    refine wp_loop_rounds 1 ?_
    rw [rounds_succ]
    go_wp2
    go_ret
    exact ⟨by have := HA.out; simp [val] at this; subst this; rfl, rfl⟩
  | [d], _, hva, hp, hlc, hn, hlo =>
    obtain ⟨b, off, rfl, hbs, hc⟩ := hp (by simp)
    have h0 : w.cell? ⟨b, off, none⟩ = some (.int .u32 (d : Nat)) := hc 0 (by simp)
    have hd := hlo d (by simp)
    have HA := Lib.hid hva
    clear hp hn hlc hlo hva hc
    go_enter Tryz.func126, Tryz.ntmps126
    go_wp2
    refine wp_loop_rounds 2 ?_
    rw [rounds_succ]
    go_wp2
    rw [rounds_succ]
    go_wp2
    go_ret
    exact ⟨by have := HA.out; simp [val] at this; subst this; rfl, rfl⟩
  | [d, e], _, hva, hp, hlc, hn, hlo =>
    obtain ⟨b, off, rfl, hbs, hc⟩ := hp (by simp)
    have h0 : w.cell? ⟨b, off, none⟩ = some (.int .u32 (d : Nat)) := hc 0 (by simp)
    have h1 : w.cell? ⟨b, off + 1, none⟩ = some (.int .u32 (e : Nat)) := hc 1 (by simp)
    have hd := hlo d (by simp)
    have he := hlo e (by simp)
    have HA := Lib.hid hva
    clear hp hn hlc hlo hva hc
    go_enter Tryz.func126, Tryz.ntmps126
    go_wp2
    refine wp_loop_rounds 3 ?_
    rw [rounds_succ]
    go_wp2
    rw [rounds_succ]
    go_wp2
    rw [rounds_succ]
    go_wp2
    go_ret
    exact ⟨congrArg (fun z => Ending.returned (Value.int .u64 z)) (by have := HA.out; simp [val] at this; omega), rfl⟩
  | d :: e :: f :: l, hl, _, _, _, _, _ => simp at hl
end Go.Proofs.YtmhmkhdgpfhnfaaGreatDoor
namespace Go.Proofs.YtmhmkhdgpfhnfaaGreatDoor
open Go.RowKit
theorem splitLimb_any (t : Int) (w : World) (h1 : -2000000000000000000 ≤ t) (h2 : t < 7000000000000000000) :
    Calls Tryz.prog 162 #[.int .i64 t] w fun e w' => e = .returned (.tuple #[.int .u32 (t % 1000000000), .int .i64 (t / 1000000000)]) ∧ w = w' := by
  obtain ⟨z, hz⟩ : ∃ z : Nat, t + 2000000000000000000 = z := ⟨(t + 2000000000000000000).toNat, by omega⟩
  have hzb : z < 9000000000000000000 := by omega
  have H1 : Hid (t % 1000000000 = (z : Int) % 1000000000) := by show _ = _; omega
  have H2 : Hid (t / 1000000000 = (z : Int) / 1000000000 - 2000000000) := by show _ = _; omega
  go_enter Tryz.func162, Tryz.ntmps162
  go_wp2
  go_ret2
  exact ⟨by rw [H1.out, H2.out]; rfl, rfl⟩
/-- one limb of the two sums -/
theorem co_num {P A a u b v cx Z : Int} (h : Z + P * cx = A) (t : Int) (ht : t = a * u + b * v + cx) : Z + P * (t % 1000000000) + P * 1000000000 * (t / 1000000000) = A + P * (a * u + b * v) := by
  have e := Int.emod_add_mul_ediv t 1000000000
  subst ht; subst h
  generalize (a * u + b * v + cx) / 1000000000 = q at *
  generalize (a * u + b * v + cx) % 1000000000 = r at *
  grind
theorem co_bound {a u : Int} (ha : -1000000000 < a) (ha' : a < 1000000000) (hu : 0 ≤ u) (hu' : u < 1000000000) : -999999998000000001 ≤ a * u ∧ a * u ≤ 999999998000000001 := by
  constructor
  · have h1 : -999999999 * u ≤ a * u := Int.mul_le_mul_of_nonneg_right (by omega) hu
    omega
  · have h1 : a * u ≤ 999999999 * u := Int.mul_le_mul_of_nonneg_right (by omega) hu
    omega
def CoSum (X Y X' : List Nat) (a b : Int) (k : Nat) (cx : Int) : Prop :=
  Y.length ≤ X'.length ∧ Lo X' ∧ (val (X'.take k) : Int) + (1000000000 : Int) ^ k * cx = a * (val (X.take k) : Int) + b * (val (Y.take k) : Int) ∧ -2000000000 ≤ cx ∧ cx ≤ 2000000000
theorem getD_set_eq (l : List Nat) (i d : Nat) (h : i < l.length) : (l.set i d).getD i 0 = d := by
  rw [List.getD_eq_getElem?_getD, List.getElem?_set_self h]; rfl
theorem take_set_of_le (l : List Nat) (i d : Nat) : (l.set i d).take i = l.take i := by
  rw [List.take_set, List.set_eq_of_length_le (by simp; omega)]
theorem CoSum.step {X Y X' : List Nat} {a b : Int} {k : Nat} {cx : Int} {u v : Nat} (h : CoSum X Y X' a b k cx) (hX : k < X.length) (hY : k < Y.length) (hu : X.getD k 0 = u) (hv : Y.getD k 0 = v)
    {t : Int} (ht : t = a * u + b * v + cx) {z : Nat} (hz : t % 1000000000 = z) (hb1 : -2000000000000000000 ≤ t) (hb2 : t ≤ 2000000000000000000) : CoSum X Y (X'.set k z) a b (k + 1) (t / 1000000000) := by
  obtain ⟨h1, h2, h3, h4, h5⟩ := h
  refine ⟨by simpa using h1, h2.set _ (by omega), ?_, by omega, by omega⟩
  rw [val_take_succ (X'.set k z) k (by simp; omega), val_take_succ X k hX, val_take_succ Y k hY, hu, hv, take_set_of_le, getD_set_eq _ _ _ (by omega)]
  have e := co_num (a := a) (b := b) (u := u) (v := v) h3 t ht
  rw [hz] at e
  have hp : ((1000000000 ^ k : Nat) : Int) = (1000000000 : Int) ^ k := by rw [Int.natCast_pow]; rfl
  rw [Int.natCast_add, Int.natCast_add, Int.natCast_add, Int.natCast_mul, Int.natCast_mul, Int.natCast_mul, hp, Int.pow_succ]
  generalize (1000000000 : Int) ^ k = P at *
  generalize t / 1000000000 = q at *
  grind
theorem CoSum.last {X Y X' : List Nat} {a b cx : Int} {r : Nat} (h : CoSum X Y X' a b Y.length cx) (hXY : Y.length ≤ X.length) (hr : a * (val X : Int) + b * (val Y : Int) = r) (hr' : r < 1000000000 ^ Y.length) : val (X'.take Y.length) = r := by
  obtain ⟨h1, h2, h3, h4, h5⟩ := h
  rw [List.take_length] at h3
  have h6 := val_lt (X'.take Y.length) (h2.take _)
  rw [List.length_take, Nat.min_eq_left (by omega)] at h6
  have h7 := val_drop_split X Y.length hXY
  have hp : ((1000000000 ^ Y.length : Nat) : Int) = (1000000000 : Int) ^ Y.length := by rw [Int.natCast_pow]; rfl
  have h8 : (val X : Int) = val (X.take Y.length) + (1000000000 : Int) ^ Y.length * val (X.drop Y.length) := by
    rw [h7, Int.natCast_add, Int.natCast_mul, hp]
  rw [h8] at hr
  have h9 : (val (X'.take Y.length) : Int) = r - (1000000000 : Int) ^ Y.length * (cx + a * val (X.drop Y.length)) := by
    generalize (1000000000 : Int) ^ Y.length = P at *
    grind
  have hPpos : (0 : Int) < (1000000000 : Int) ^ Y.length := by rw [← hp]; exact_mod_cast Nat.pow_pos (by omega)
  rw [← Int.ofNat_lt, hp] at h6 hr'
  generalize (1000000000 : Int) ^ Y.length = P at *
  generalize cx + a * (val (X.drop Y.length) : Int) = q at *
  have e0 : q = 0 := by
    rcases Int.lt_trichotomy q 0 with hq | hq | hq
    · exfalso
      have : P * q ≤ P * (-1) := Int.mul_le_mul_of_nonneg_left (by omega) (by omega)
      omega
    · exact hq
    · exfalso
      have : P * 1 ≤ P * q := Int.mul_le_mul_of_nonneg_left (by omega) (by omega)
      omega
  rw [e0, Int.mul_zero] at h9
  omega
def CoRel (X Y : List Nat) (a b c d : Int) (g0 g1 g2 B0 : Nat) (mx my : List Value) (w wr : World) (k : Nat) (cx cy : Int) : Prop :=
  ∃ X' Y', CoSum X Y X' a b k cx ∧ CoSum X Y Y' c d k cy ∧ X'.length = X.length ∧ Y'.length = Y.length ∧ (∀ j, k ≤ j → X'.getD j 0 = X.getD j 0) ∧ (∀ j, k ≤ j → Y'.getD j 0 = Y.getD j 0) ∧
    Row 153 wr g1 (nums .u32 X' ++ mx) ∧ Row 153 wr g2 (nums .u32 Y' ++ my) ∧ Row 156 wr g0 [.int .i64 a, .int .i64 b, .int .i64 c, .int .i64 d] ∧ Below B0 w wr
theorem row_set {T : TypeId} {w : World} {g k z : Nat} {X : List Nat} {mx : List Value} (h : Row T w g (nums .u32 X ++ mx)) (hk : k < X.length) {V : Int} (hV : V = (z : Int)) : Row T (w.setCell ⟨g, k, none⟩ (.int .u32 V)) g (nums .u32 (X.set k z) ++ mx) := by
  subst hV
  have := h.store k (.int .u32 (z : Nat))
  rw [List.set_append_left (h := by rw [nums_length]; exact hk), nums_set] at this
  exact this
theorem natV_block {b off : Nat} {l : List Nat} : ∀ g, (natV b off l).ownBlock = some g → g = b := by
  intro g h
  unfold natV at h
  split at h
  · cases h
  · simp [Value.ownBlock] at h; exact h.symm
set_option maxRecDepth 100000 in
set_option maxHeartbeats 4000000 in
theorem carryOut_any (a b c d : Int) (X Y : List Nat) (mx my : List Value) (g1 g2 c1 c2 nx B0 r1 r2 : Nat) (w : World) (ha : -1000000000 < a) (ha' : a < 1000000000) (hb : -1000000000 < b) (hb' : b < 1000000000) (hc : -1000000000 < c) (hc' : c < 1000000000) (hd : -1000000000 < d) (hd' : d < 1000000000)
    (hX : Lo X) (hY : Lo Y) (hnx : X.length = nx) (hXY : Y.length ≤ nx) (hl : nx ≤ 1073741824) (hc1 : nx ≤ c1) (hc2 : Y.length ≤ c2) (hg : g1 ≠ g2) (hg1 : B0 ≤ g1) (hg2 : B0 ≤ g2) (hB : B0 ≤ w.heap.size)
    (hr1 : Row 153 w g1 (nums .u32 X ++ mx)) (hr2 : Row 153 w g2 (nums .u32 Y ++ my))
    (he1 : a * (val X : Int) + b * (val Y : Int) = r1) (he2 : c * (val X : Int) + d * (val Y : Int) = r2) (hq1 : r1 < 1000000000 ^ Y.length) (hq2 : r2 < 1000000000 ^ Y.length) :
    Calls Tryz.prog 125 #[.agg #[.int .i64 a, .int .i64 b, .int .i64 c, .int .i64 d], .slice (some ⟨g1, 0, none⟩) nx c1, .slice (some ⟨g2, 0, none⟩) Y.length c2] w fun e w' =>
      ∃ v1 v2, e = .returned (.tuple #[v1, v2]) ∧ Own 153 .u32 B0 w' v1 (limbs r1) ∧ Own 153 .u32 B0 w' v2 (limbs r2) ∧ Below B0 w w' ∧ (∀ g, v1.ownBlock = some g → g = g1) ∧ (∀ g, v2.ownBlock = some g → g = g2) := by
  have HE1 := Lib.hid he1
  have HE2 := Lib.hid he2
  have HQ1 := Lib.hid hq1
  have HQ2 := Lib.hid hq2
  have hlt1 := hr1.lt
  have hlt2 := hr2.lt
  obtain ⟨g0, hg0⟩ : ∃ g0, w.heap.size = g0 := ⟨_, rfl⟩
  have HR1 : Hid (Row 153 (w.alloc (.cells #[.int .i64 a, .int .i64 b, .int .i64 c, .int .i64 d] 156)) g1 (nums .u32 X ++ mx)) := hr1.alloc _
  have HR2 : Hid (Row 153 (w.alloc (.cells #[.int .i64 a, .int .i64 b, .int .i64 c, .int .i64 d] 156)) g2 (nums .u32 Y ++ my)) := hr2.alloc _
  have HB0 : Hid (Below B0 w (w.alloc (.cells #[.int .i64 a, .int .i64 b, .int .i64 c, .int .i64 d] 156))) := (Below.refl B0 w).alloc hB _
  have HBX : Hid (Row 156 (w.alloc (.cells #[.int .i64 a, .int .i64 b, .int .i64 c, .int .i64 d] 156)) w.heap.size [.int .i64 a, .int .i64 b, .int .i64 c, .int .i64 d]) := row_new 156 w #[.int .i64 a, .int .i64 b, .int .i64 c, .int .i64 d]
  rw [hg0] at hlt1 hlt2 HBX
  have HG0 := Lib.hid hg0
  clear he1 he2 hq1 hq2 hr1 hr2
  go_enter Tryz.func125, Tryz.ntmps125
  go_wp2
  go_loopw [8, 9, 15] (fun ca cb i wr => ∃ (k : Nat) (cx cy : Int), k ≤ Y.length ∧ ca = .int .i64 cx ∧ cb = .int .i64 cy ∧ i = .int .i64 k ∧ CoRel X Y a b c d g0 g1 g2 B0 mx my w wr k cx cy) (fun _ _ i _ => Y.length - (intOf i).toNat)
  case atStart => exact ⟨0, 0, 0, Nat.zero_le _, rfl, rfl, rfl, X, Y, ⟨by omega, hX, by simp [val], by omega, by omega⟩, ⟨Nat.le_refl _, hY, by simp [val], by omega, by omega⟩, rfl, rfl, fun _ _ => rfl, fun _ _ => rfl, HR1.out, HR2.out, HBX.out, HB0.out⟩
  case round =>
    obtain ⟨k, cx, cy, hk, rfl, rfl, rfl, hrel⟩ := hrel
    obtain ⟨X', Y', s1, s2, l1, l2, e1, e2, p1, p2, p3, p4⟩ := hrel
    clear HR1 HR2 HBX HB0
    by_cases hlt : k < Y.length
    · obtain ⟨u, hu⟩ : ∃ u, X.getD k 0 = u := ⟨_, rfl⟩
      obtain ⟨v, hv⟩ : ∃ v, Y.getD k 0 = v := ⟨_, rfl⟩
      have cx1 : wr.cell? ⟨g1, k, none⟩ = some (.int .u32 (u : Nat)) := by
        rw [p1.cell, List.getElem?_append_left (by rw [nums_length]; omega), nums_get _ _ _ (by omega), e1 k (Nat.le_refl _), hu]
      have cy1 : wr.cell? ⟨g2, k, none⟩ = some (.int .u32 (v : Nat)) := by
        rw [p2.cell, List.getElem?_append_left (by rw [nums_length]; omega), nums_get _ _ _ (by omega), e2 k (Nat.le_refl _), hv]
      have hub := hX.getD k
      have hvb := hY.getD k
      rw [hu] at hub
      rw [hv] at hvb
      have fx := p1.free k
      have b0 := p3.cell 0
      have b1 := p3.cell 1
      have b2 := p3.cell 2
      have b3 := p3.cell 3
      simp only [List.getElem?_cons_zero, List.getElem?_cons_succ] at b0 b1 b2 b3
      have q1 := co_bound (u := (u : Int)) ha ha' (by omega) (by omega)
      have q2 := co_bound (u := (v : Int)) hb hb' (by omega) (by omega)
      have q3 := co_bound (u := (u : Int)) hc hc' (by omega) (by omega)
      have q4 := co_bound (u := (v : Int)) hd hd' (by omega) (by omega)
      obtain ⟨q1a, q1b⟩ := q1
      obtain ⟨q2a, q2b⟩ := q2
      obtain ⟨q3a, q3b⟩ := q3
      obtain ⟨q4a, q4b⟩ := q4
      have hs1 := s1
      have hs2 := s2
      obtain ⟨_, _, _, hcx1, hcx2⟩ := hs1
      obtain ⟨_, _, _, hcy1, hcy2⟩ := hs2
      obtain ⟨t1, ht1⟩ : ∃ t1, a * (u : Int) + b * (v : Int) + cx = t1 := ⟨_, rfl⟩
      obtain ⟨t2, ht2⟩ : ∃ t2, c * (u : Int) + d * (v : Int) + cy = t2 := ⟨_, rfl⟩
      have ht1a : -2000000000000000000 ≤ t1 := by omega
      have ht1b : t1 ≤ 2000000000000000000 := by omega
      have ht2a : -2000000000000000000 ≤ t2 := by omega
      have ht2b : t2 ≤ 2000000000000000000 := by omega
      obtain ⟨z1, hz1⟩ : ∃ z : Nat, t1 % 1000000000 = z := ⟨(t1 % 1000000000).toNat, by omega⟩
      obtain ⟨z2, hz2⟩ : ∃ z : Nat, t2 % 1000000000 = z := ⟨(t2 % 1000000000).toNat, by omega⟩
      obtain ⟨y1, hy1⟩ : ∃ z : Int, t1 / 1000000000 = z := ⟨_, rfl⟩
      obtain ⟨y2, hy2⟩ : ∃ z : Int, t2 / 1000000000 = z := ⟨_, rfl⟩
      have hz1b : z1 < 1000000000 := by omega
      have hz2b : z2 < 1000000000 := by omega
      have hy1b : -2000000000 ≤ y1 ∧ y1 ≤ 2000000000 := by omega
      have hy2b : -2000000000 ≤ y2 ∧ y2 ≤ 2000000000 := by omega
      have S1 := Lib.hid (s1.step (by omega) hlt hu hv ht1.symm hz1 ht1a ht1b)
      have S2 := Lib.hid (s2.step (by omega) hlt hu hv ht2.symm hz2 ht2a ht2b)
      rw [hy1] at S1
      rw [hy2] at S2
      have L1 := Lib.hid l1
      have L2 := Lib.hid l2
      have E1 := Lib.hid e1
      have E2 := Lib.hid e2
      -- the world behind the first store
      have w1p1 : Row 153 (wr.setCell ⟨g1, k, none⟩ (.int .u32 z1)) g1 (nums .u32 (X'.set k z1) ++ mx) := row_set p1 (by omega) rfl
      have w1p2 : Row 153 (wr.setCell ⟨g1, k, none⟩ (.int .u32 z1)) g2 (nums .u32 Y' ++ my) := p2.other _ hg _
      have w1p3 : Row 156 (wr.setCell ⟨g1, k, none⟩ (.int .u32 z1)) g0 [.int .i64 a, .int .i64 b, .int .i64 c, .int .i64 d] := p3.other _ (by show g1 ≠ g0; omega) _
      have w1p4 : Below B0 w (wr.setCell ⟨g1, k, none⟩ (.int .u32 z1)) := p4.setCell hg1 _
      have v2 := w1p3.cell 2
      have v3 := w1p3.cell 3
      simp only [List.getElem?_cons_zero, List.getElem?_cons_succ] at v2 v3
      have vy : (wr.setCell ⟨g1, k, none⟩ (.int .u32 z1)).cell? ⟨g2, k, none⟩ = some (.int .u32 (v : Nat)) := by
        rw [w1p2.cell, List.getElem?_append_left (by rw [nums_length]; omega), nums_get _ _ _ (by omega), e2 k (Nat.le_refl _), hv]
      have fy := w1p2.free k
      have w2p1 := Lib.hid (w1p1.other ⟨g2, k, none⟩ (fun e => hg e.symm) (.int .u32 z2))
      have w2p2 := Lib.hid (row_set (k := k) (V := z2) w1p2 (by omega) rfl)
      have w2p3 := Lib.hid (w1p3.other ⟨g2, k, none⟩ (by show g2 ≠ g0; omega) (.int .u32 z2))
      have w2p4 := Lib.hid (w1p4.setCell (p := ⟨g2, k, none⟩) hg2 (.int .u32 z2))
      have HU := Lib.hid hu
      have HV := Lib.hid hv
      clear s1 s2 l1 l2 e1 e2 p1 p2 p3 p4 w1p1 w1p2 w1p3 w1p4 hu hv
      go_wp2_with fail
      refine (splitLimb_any t1 _ ht1a (by omega)).mono ?_
      rw [hz1, hy1]
      rintro e w' ⟨rfl, rfl⟩
      go_wp2_with fail
      refine (splitLimb_any t2 _ ht2a (by omega)).mono ?_
      rw [hz2, hy2]
      rintro e w' ⟨rfl, rfl⟩
      go_wp2
      go_roundw
      case rel => exact ⟨k + 1, y1, y2, by omega, rfl, rfl, by go_num, _, _, S1.out, S2.out, by rw [List.length_set, L1.out], by rw [List.length_set, L2.out], fun j hj => by rw [getD_set_ne _ _ _ _ (by omega)]; exact E1.out j (by omega), fun j hj => by rw [getD_set_ne _ _ _ _ (by omega)]; exact E2.out j (by omega), w2p1.out, w2p2.out, w2p3.out, w2p4.out⟩
      case measure => simp [intOf]; omega
    · obtain rfl : k = Y.length := by omega
      have f1 := s1.last (r := r1) (by omega) HE1.out HQ1.out
      have f2 := s2.last (X := X) (r := r2) (by omega) HE2.out HQ2.out
      rw [← l2, List.take_length] at f2
      have P1 : Hid (Row 153 wr g1 (nums .u32 (X'.take Y.length) ++ (nums .u32 (X'.drop Y.length) ++ mx))) := by
        have : nums .u32 X' = nums .u32 (X'.take Y.length) ++ nums .u32 (X'.drop Y.length) := by unfold nums; rw [← List.map_append, List.take_append_drop]
        rw [← List.append_assoc, ← this]; exact p1
      have P2 := Lib.hid p2
      have P4 := Lib.hid p4
      have F1 := Lib.hid f1
      have F2 := Lib.hid f2
      have L1 := Lib.hid l1
      have L2 := Lib.hid l2
      have S1 := Lib.hid s1.2.1
      have S2 := Lib.hid s2.2.1
      clear s1 s2 l1 l2 e1 e2 p1 p2 p3 p4 f1 f2
      go_wp2_with fail
      refine (cut_row g1 Y.length c1 (X'.take Y.length) _ wr (by rw [List.length_take, L1.out]; omega) (by omega) (by omega) P1.out).mono ?_
      rintro e w' ⟨rfl, rfl⟩
      go_wp2_with fail
      refine (cut_row g2 Y.length c2 Y' my wr L2.out hc2 (by omega) P2.out).mono ?_
      rintro e w' ⟨rfl, rfl⟩
      go_wp2
      go_ret2
      have o1 := Own.cut (base := B0) (T := 153) (K := .u32) P1.out hg1 (by rw [List.length_take]; omega)
      have o2 := Own.cut (base := B0) (T := 153) (K := .u32) P2.out hg2 (by have := L2.out; omega)
      have x1 : trimL (X'.take Y.length) = limbs r1 := by rw [trimL_eq _ (S1.out.take _), F1.out]
      have x2 : trimL Y' = limbs r2 := by rw [trimL_eq _ S2.out, F2.out]
      rw [x1] at o1
      rw [x2] at o2
      rw [x1, x2]
      exact ⟨_, _, rfl, o1, o2, P4.out, natV_block, natV_block⟩
end Go.Proofs.YtmhmkhdgpfhnfaaGreatDoor
namespace Go.Proofs.YtmhmkhdgpfhnfaaGreatDoor
open Go.RowKit
/-- the cosequence of the leading digits: x = U S + rx, y = V S + ry -/
structure LInv (x y : Nat) (S U V rx ry a b c d u v : Int) : Prop where
  hx : (x : Int) = U * S + rx
  hy : (y : Int) = V * S + ry
  rx0 : 0 ≤ rx
  rx1 : rx ≤ S
  ry0 : 0 ≤ ry
  ry1 : ry ≤ S
  hu : u = a * U + b * V
  hv : v = c * U + d * V
  sgn : (0 ≤ a ∧ b ≤ 0 ∧ c ≤ 0 ∧ 0 ≤ d) ∨ (a ≤ 0 ∧ 0 ≤ b ∧ 0 ≤ c ∧ d ≤ 0)
  n1 : 0 ≤ u + a ∧ u + a ≤ 1000000000000000000
  n2 : 0 ≤ u + b ∧ u + b ≤ 1000000000000000000
  n3 : 0 ≤ v + c ∧ v + c ≤ 1000000000000000000
  n4 : 0 ≤ v + d ∧ v + d ≤ 1000000000000000000
  ab : -1000000000 < a ∧ a < 1000000000 ∧ -1000000000 < b ∧ b < 1000000000
  cd : -1000000000 < c ∧ c < 1000000000 ∧ -1000000000 < d ∧ d < 1000000000
  pos : 0 ≤ c * (x : Int) + d * (y : Int)
  ord : (a = 1 ∧ b = 0 ∧ c = 0 ∧ d = 1) ∨ (c * (x : Int) + d * (y : Int) < a * (x : Int) + b * (y : Int) ∧ a * (x : Int) + b * (y : Int) ≤ y)
  gcd : Int.gcd (a * (x : Int) + b * (y : Int)) (c * (x : Int) + d * (y : Int)) = Nat.gcd x y

theorem lin_pos {S u a b rx ry X x y U V : Int} (hS : 0 ≤ S) (hX : X = a * x + b * y) (hx : x = U * S + rx) (hy : y = V * S + ry) (hu : u = a * U + b * V) (h0 : 0 ≤ rx) (h1 : rx ≤ S) (h2 : 0 ≤ ry) (h3 : ry ≤ S)
    (hs : (a ≤ 0 ∧ 0 ≤ b ∧ 0 ≤ u + a) ∨ (0 ≤ a ∧ b ≤ 0 ∧ 0 ≤ u + b)) : 0 ≤ X := by
  have e : X = S * u + a * rx + b * ry := by subst hX hx hy hu; grind
  rcases hs with ⟨ha, hb, hn⟩ | ⟨ha, hb, hn⟩
  · have p1 : a * S ≤ a * rx := Int.mul_le_mul_of_nonpos_left ha h1
    have p2 : 0 ≤ b * ry := Int.mul_nonneg hb h2
    have p3 : 0 ≤ S * (u + a) := Int.mul_nonneg hS hn
    rw [Int.mul_add, Int.mul_comm S a] at p3
    omega
  · have p1 : b * S ≤ b * ry := Int.mul_le_mul_of_nonpos_left hb h3
    have p2 : 0 ≤ a * rx := Int.mul_nonneg ha h0
    have p3 : 0 ≤ S * (u + b) := Int.mul_nonneg hS hn
    rw [Int.mul_add, Int.mul_comm S b] at p3
    omega
theorem lin_neg {S u a b rx ry X x y U V : Int} (hS : 0 < S) (hX : X = a * x + b * y) (hx : x = U * S + rx) (hy : y = V * S + ry) (hu : u = a * U + b * V) (h0 : 0 ≤ rx) (h1 : rx ≤ S) (h2 : 0 ≤ ry) (h3 : ry ≤ S)
    (hs : (0 ≤ a ∧ b ≤ 0 ∧ u + a < 0) ∨ (a ≤ 0 ∧ 0 ≤ b ∧ u + b < 0)) : X < 0 := by
  have e : X = S * u + a * rx + b * ry := by subst hX hx hy hu; grind
  rcases hs with ⟨ha, hb, hn⟩ | ⟨ha, hb, hn⟩
  · have p1 : a * rx ≤ a * S := Int.mul_le_mul_of_nonneg_left h1 ha
    have p2 : b * ry ≤ 0 := Int.mul_nonpos_of_nonpos_of_nonneg hb h2
    have p3 : S * (u + a) < 0 := Int.mul_neg_of_pos_of_neg hS hn
    rw [Int.mul_add, Int.mul_comm S a] at p3
    omega
  · have p1 : b * ry ≤ b * S := Int.mul_le_mul_of_nonneg_left h3 hb
    have p2 : a * rx ≤ 0 := Int.mul_nonpos_of_nonpos_of_nonneg ha h0
    have p3 : S * (u + b) < 0 := Int.mul_neg_of_pos_of_neg hS hn
    rw [Int.mul_add, Int.mul_comm S b] at p3
    omega
theorem LInv.step {x y : Nat} {S U V rx ry a b c d u v q : Int} (h : LInv x y S U V rx ry a b c d u v) (hS : 0 < S) (h1 : 0 < v + c) (h2 : 0 < v + d) (hq1 : (u + a) / (v + c) = q) (hq2 : (u + b) / (v + d) = q)
    (hl1 : -1000000000 < a - q * c) (hl2 : a - q * c < 1000000000) (hl3 : -1000000000 < b - q * d) (hl4 : b - q * d < 1000000000) :
    LInv x y S U V rx ry c d (a - q * c) (b - q * d) v (u - q * v) ∧ 0 ≤ q ∧ (u - q * v) + (a - q * c) < v + c := by
  obtain ⟨hx, hy, rx0, rx1, ry0, ry1, hu, hv, sgn, ⟨n1, n1'⟩, ⟨n2, n2'⟩, ⟨n3, n3'⟩, ⟨n4, n4'⟩, ab, cd, pos, ord, gcd⟩ := h
  have q0 : 0 ≤ q := by rw [← hq1]; exact Int.ediv_nonneg n1 (by omega)
  have e1 := Int.emod_add_mul_ediv (u + a) (v + c)
  have e2 := Int.emod_add_mul_ediv (u + b) (v + d)
  have f1 := Int.emod_nonneg (u + a) (show v + c ≠ 0 by omega)
  have f2 := Int.emod_nonneg (u + b) (show v + d ≠ 0 by omega)
  have f3 := Int.emod_lt_of_pos (u + a) h1
  have f4 := Int.emod_lt_of_pos (u + b) h2
  rw [hq1] at e1
  rw [hq2] at e2
  have g1 : (u - q * v) + (a - q * c) = (u + a) % (v + c) := by generalize (u + a) % (v + c) = r at *; grind
  have g2 : (u - q * v) + (b - q * d) = (u + b) % (v + d) := by generalize (u + b) % (v + d) = r at *; grind
  generalize (u + a) % (v + c) = r1 at *
  generalize (u + b) % (v + d) = r2 at *
  have sgn' : (0 ≤ c ∧ d ≤ 0 ∧ a - q * c ≤ 0 ∧ 0 ≤ b - q * d) ∨ (c ≤ 0 ∧ 0 ≤ d ∧ 0 ≤ a - q * c ∧ b - q * d ≤ 0) := by
    rcases sgn with ⟨s1, s2, s3, s4⟩ | ⟨s1, s2, s3, s4⟩
    · right
      have p1 : q * c ≤ 0 := Int.mul_nonpos_of_nonneg_of_nonpos q0 s3
      have p2 : 0 ≤ q * d := Int.mul_nonneg q0 s4
      exact ⟨s3, s4, by omega, by omega⟩
    · left
      have p1 : 0 ≤ q * c := Int.mul_nonneg q0 s3
      have p2 : q * d ≤ 0 := Int.mul_nonpos_of_nonneg_of_nonpos q0 s4
      exact ⟨s3, s4, by omega, by omega⟩
  have hu' : u - q * v = (a - q * c) * U + (b - q * d) * V := by rw [hu, hv]; grind
  have hY : (a - q * c) * (x : Int) + (b - q * d) * (y : Int) = (a * (x : Int) + b * (y : Int)) - q * (c * (x : Int) + d * (y : Int)) := by grind
  have pos' : 0 ≤ (a - q * c) * (x : Int) + (b - q * d) * (y : Int) :=
    lin_pos (Int.le_of_lt hS) rfl hx hy hu' rx0 rx1 ry0 ry1 (by
      rcases sgn' with ⟨s1, s2, s3, s4⟩ | ⟨s1, s2, s3, s4⟩
      · exact Or.inl ⟨s3, s4, by omega⟩
      · exact Or.inr ⟨s3, s4, by omega⟩)
  have lt' : (a - q * c) * (x : Int) + (b - q * d) * (y : Int) < c * (x : Int) + d * (y : Int) := by
    have : (a - q * c - c) * (x : Int) + (b - q * d - d) * (y : Int) < 0 :=
      lin_neg (u := u - q * v - v) hS rfl hx hy (by rw [hu', hv]; grind) rx0 rx1 ry0 ry1 (by
        rcases sgn' with ⟨s1, s2, s3, s4⟩ | ⟨s1, s2, s3, s4⟩
        · exact Or.inr ⟨by omega, by omega, by omega⟩
        · exact Or.inl ⟨by omega, by omega, by omega⟩)
    have e : (a - q * c - c) * (x : Int) + (b - q * d - d) * (y : Int) = ((a - q * c) * (x : Int) + (b - q * d) * (y : Int)) - (c * (x : Int) + d * (y : Int)) := by grind
    omega
  refine ⟨⟨hx, hy, rx0, rx1, ry0, ry1, hv, hu', sgn', ⟨by omega, by omega⟩, ⟨by omega, by omega⟩, ⟨by omega, by omega⟩, ⟨by omega, by omega⟩, cd, ⟨hl1, hl2, hl3, hl4⟩, pos', ?_, ?_⟩, q0, by omega⟩
  · right
    refine ⟨lt', ?_⟩
    rcases ord with ⟨rfl, rfl, rfl, rfl⟩ | ⟨o1, o2⟩
    · omega
    · omega
  · rw [hY, ← gcd]
    rw [Int.gcd_comm (a * (x : Int) + b * (y : Int))]
    rw [show (a * (x : Int) + b * (y : Int)) - q * (c * (x : Int) + d * (y : Int)) = (a * (x : Int) + b * (y : Int)) + (c * (x : Int) + d * (y : Int)) * (-q) from by grind]
    rw [Int.gcd_add_mul_left_right]
theorem LInv.start {x y S : Nat} (hS : 0 < S) (hxy : y ≤ x) (hU : x / S < 1000000000000000000) : LInv x y S (x / S : Nat) (y / S : Nat) (x % S : Nat) (y % S : Nat) 1 0 0 1 (x / S : Nat) (y / S : Nat) := by
  have hV : y / S ≤ x / S := Nat.div_le_div_right hxy
  have ex := Nat.div_add_mod x S
  have ey := Nat.div_add_mod y S
  have mx := Nat.mod_lt x hS
  have my := Nat.mod_lt y hS
  have ex' : (x : Int) = (x / S : Nat) * (S : Int) + (x % S : Nat) := by rw [← Int.natCast_mul, ← Int.natCast_add, Nat.mul_comm, ex]
  have ey' : (y : Int) = (y / S : Nat) * (S : Int) + (y % S : Nat) := by rw [← Int.natCast_mul, ← Int.natCast_add, Nat.mul_comm, ey]
  generalize x / S = U at *
  generalize y / S = V at *
  generalize x % S = rx at *
  generalize y % S = ry at *
  refine ⟨ex', ey', by omega, by omega, by omega, by omega, by omega, by omega, Or.inl ⟨by omega, by omega, by omega, by omega⟩, ⟨by omega, by omega⟩, ⟨by omega, by omega⟩, ⟨by omega, by omega⟩, ⟨by omega, by omega⟩, ⟨by omega, by omega, by omega, by omega⟩, ⟨by omega, by omega, by omega, by omega⟩, by omega, Or.inl ⟨rfl, rfl, rfl, rfl⟩, ?_⟩
  rw [show (1 : Int) * x + 0 * y = (x : Int) from by omega, show (0 : Int) * x + 1 * y = (y : Int) from by omega]
  rfl
end Go.Proofs.YtmhmkhdgpfhnfaaGreatDoor
namespace Go.Proofs.YtmhmkhdgpfhnfaaGreatDoor
open Go.RowKit
def arr3 (d0 d1 d2 k : Nat) : List Value := [.int .i64 ((if 0 < k then d0 else 0 : Nat) : Int), .int .i64 ((if 1 < k then d1 else 0 : Nat) : Int), .int .i64 ((if 2 < k then d2 else 0 : Nat) : Int)]
def LdRel (d0 d1 d2 g : Nat) (w wr : World) (k : Nat) : Prop := Row 194 wr g (arr3 d0 d1 d2 k) ∧ Below w.heap.size w wr
theorem LdRel.step {l : List Nat} {n k d d0 d1 d2 g : Nat} {w wr : World} (hk : k < 3) (h0 : l.getD (n - 1) 0 = d0) (h1 : l.getD (n - 2) 0 = d1) (h2 : l.getD (n - 3) 0 = d2) (hd : l.getD (n - 1 - k) 0 = d) (hrow : Row 194 wr g (arr3 d0 d1 d2 k)) (hb : Below w.heap.size w wr) (hg : w.heap.size ≤ g) :
    LdRel d0 d1 d2 g w (wr.setCell ⟨g, k, none⟩ (.int .i64 d)) (k + 1) := by
  refine ⟨?_, hb.setCell hg _⟩
  have := hrow.store k (.int .i64 d)
  obtain rfl | rfl | rfl : k = 0 ∨ k = 1 ∨ k = 2 := by omega
  · rw [Nat.sub_zero, h0] at hd; subst hd; simpa [arr3] using this
  · rw [show n - 1 - 1 = n - 2 from by omega, h1] at hd; subst hd; simpa [arr3] using this
  · rw [show n - 1 - 2 = n - 3 from by omega, h2] at hd; subst hd; simpa [arr3] using this
theorem LdRel.skip {l : List Nat} {n k d0 d1 d2 g : Nat} {w wr : World} (hk : k < 3) (h0 : l.getD (n - 1) 0 = d0) (h1 : l.getD (n - 2) 0 = d1) (h2 : l.getD (n - 3) 0 = d2) (hd : l.getD (n - 1 - k) 0 = 0) (hrow : Row 194 wr g (arr3 d0 d1 d2 k)) (hb : Below w.heap.size w wr) :
    LdRel d0 d1 d2 g w wr (k + 1) := by
  refine ⟨?_, hb⟩
  obtain rfl | rfl | rfl : k = 0 ∨ k = 1 ∨ k = 2 := by omega
  · rw [Nat.sub_zero, h0] at hd; subst hd; simpa [arr3] using hrow
  · rw [show n - 1 - 1 = n - 2 from by omega, h1] at hd; subst hd; simpa [arr3] using hrow
  · rw [show n - 1 - 2 = n - 3 from by omega, h2] at hd; subst hd; simpa [arr3] using hrow
set_option maxRecDepth 100000 in
set_option maxHeartbeats 4000000 in
theorem leading1_any (x : Value) (l : List Nat) (n gn gh gl high low d0 d1 d2 : Nat) (w : World) (hx : Rd .u32 w x l) (hlo : Lo l) (hl : l.length ≤ n) (hn : 3 ≤ n) (hnn : n ≤ 1073741824)
    (hcn : w.cell? ⟨gn, 0, none⟩ = some (.int .i64 (n : Nat))) (hch : w.cell? ⟨gh, 0, none⟩ = some (.int .i64 (high : Nat))) (hcl : w.cell? ⟨gl, 0, none⟩ = some (.int .i64 (low : Nat)))
    (hgn : gn < w.heap.size) (hgh : gh < w.heap.size) (hgl : gl < w.heap.size) (hd0 : l.getD (n - 1) 0 = d0) (hd1 : l.getD (n - 2) 0 = d1) (hd2 : l.getD (n - 3) 0 = d2)
    (hhi : high < 1000000000) (hlw : 0 < low) (hlw2 : low ≤ 1000000000) (hlow : d0 < low) (hhl : high * low = 1000000000) :
    Calls Tryz.prog 176 #[x, .pointer (some ⟨gn, 0, none⟩), .pointer (some ⟨gh, 0, none⟩), .pointer (some ⟨gl, 0, none⟩)] w fun e w' =>
      e = .returned (.int .i64 ((d0 * high * 1000000000 + d1 * high + d2 / low : Nat) : Int)) ∧ Below w.heap.size w w' := by
  obtain ⟨p, cap, rfl, hlc, hcm, hnl, hp⟩ := hx
  have HP := Lib.hid hp
  have hini : LdRel d0 d1 d2 w.heap.size w (w.alloc (.cells #[.int .i64 0, .int .i64 0, .int .i64 0] 194)) 0 := by
    refine ⟨?_, (Below.refl _ _).alloc (Nat.le_refl _) _⟩
    have := row_new 194 w #[.int .i64 0, .int .i64 0, .int .i64 0]
    simpa [arr3] using this
  have HI := Lib.hid hini
  obtain ⟨g, hg⟩ : ∃ g, w.heap.size = g := ⟨_, rfl⟩
  have HHL : Hid (d2 < 1000000000 ∧ d1 < 1000000000) := by show _ ∧ _; rw [← hd1, ← hd2]; exact ⟨hlo.getD _, hlo.getD _⟩
  have D0 := Lib.hid hd0
  have D1 := Lib.hid hd1
  have D2 := Lib.hid hd2
  have HG := Lib.hid hg
  have HMUL := Lib.hid hhl
  rw [hg] at HI hgn hgh hgl
  clear hp hnl hini hd0 hd1 hd2 hhl
  go_enter Tryz.func176, Tryz.ntmps176
  go_wp2
  go_loopw [8] (fun i wr => ∃ k : Nat, k ≤ 3 ∧ i = .int .i64 k ∧ LdRel d0 d1 d2 g w wr k) (fun i _ => 3 - (intOf i).toNat)
  case atStart => exact ⟨0, by omega, rfl, HI.out⟩
  case round =>
    obtain ⟨k, hk, rfl, hrow, hbel⟩ := hrel
    clear HI
    have cn : wr.cell? ⟨gn, 0, none⟩ = some (.int .i64 (n : Nat)) := by rw [hbel.cell (p := ⟨gn, 0, none⟩) (by rw [hg]; exact hgn)]; exact hcn
    have HROW := Lib.hid hrow
    have HBEL := Lib.hid hbel
    by_cases hk3 : k < 3
    · have hfr := hrow.free k
      have hck : wr.cell? ⟨g, k, none⟩ = some (.int .i64 0) := by
        rw [hrow.cell]
        obtain rfl | rfl | rfl : k = 0 ∨ k = 1 ∨ k = 2 := by omega
        all_goals simp [arr3]
      have hi0 : 0 ≤ (n : Int) - 1 - k := by omega
      have hi1 : ((n : Int) - 1 - k).toNat = n - 1 - k := by omega
      obtain ⟨d, hd⟩ : ∃ d, l.getD (n - 1 - k) 0 = d := ⟨_, rfl⟩
      have hdb := hlo.getD (n - 1 - k)
      rw [hd] at hdb
      have HD := Lib.hid hd
      clear hrow
      by_cases hin : n - 1 - k < l.length
      · obtain ⟨b, off, rfl, hbs, hc⟩ := HP.out (by omega)
        have hcell : wr.cell? ⟨b, off + (n - 1 - k), none⟩ = some (.int .u32 (d : Nat)) := by rw [hbel.cell (p := ⟨b, off + (n - 1 - k), none⟩) hbs, ← hd]; exact hc _ hin
        have hin2 : (n : Int) - 1 - k < l.length := by omega
        clear hc HP hd hbel
        go_wp2
        go_roundw
        case rel => exact ⟨k + 1, by omega, by go_num, LdRel.step hk3 D0.out D1.out D2.out HD.out HROW.out HBEL.out (by rw [hg]; exact Nat.le_refl _)⟩
        case measure => simp [intOf]; omega
      · have hin2 : ¬ (n : Int) - 1 - k < l.length := by omega
        have hd0 : d = 0 := by rw [← hd, List.getD_eq_getElem?_getD, List.getElem?_eq_none (by omega)]; rfl
        have HD0 := Lib.hid hd0
        clear HP hd hbel hd0
        go_wp2
        go_roundw
        case rel => exact ⟨k + 1, by omega, by go_num, LdRel.skip hk3 D0.out D1.out D2.out (HD.out.trans HD0.out) HROW.out HBEL.out⟩
        case measure => simp [intOf]; omega
    · obtain rfl : k = 3 := by omega
      have a0 := hrow.cell 0
      have a1 := hrow.cell 1
      have a2 := hrow.cell 2
      simp only [arr3, List.getElem?_cons_zero, List.getElem?_cons_succ, show (0 < 3) = True from by simp, show (1 < 3) = True from by simp, show (2 < 3) = True from by simp, if_true] at a0 a1 a2
      have ch : wr.cell? ⟨gh, 0, none⟩ = some (.int .i64 (high : Nat)) := by rw [hbel.cell (p := ⟨gh, 0, none⟩) (by rw [hg]; exact hgh)]; exact hch
      have cl : wr.cell? ⟨gl, 0, none⟩ = some (.int .i64 (low : Nat)) := by rw [hbel.cell (p := ⟨gl, 0, none⟩) (by rw [hg]; exact hgl)]; exact hcl
      obtain ⟨hh2, hh1⟩ := HHL.out
      clear hrow hbel HP
      have m1 : d0 * high < 1000000000 := by
        have : d0 * high < low * high := Nat.mul_lt_mul_of_pos_right hlow (by
          rcases Nat.eq_zero_or_pos high with h | h
          · have := HMUL.out; rw [h, Nat.zero_mul] at this; omega
          · exact h)
        rw [Nat.mul_comm low] at this
        have := HMUL.out; omega
      have m2 : d1 * high ≤ 999999999 * 999999999 := Nat.mul_le_mul (by omega) (by omega)
      obtain ⟨z1, hz1⟩ : ∃ z, d0 * high = z := ⟨_, rfl⟩
      obtain ⟨z2, hz2⟩ : ∃ z, d1 * high = z := ⟨_, rfl⟩
      have e1 : (d0 : Int) * high = (z1 : Int) := by rw [← Int.natCast_mul, hz1]
      have e2 : (d1 : Int) * high = (z2 : Int) := by rw [← Int.natCast_mul, hz2]
      have e3 : ((low : Int) == 0) = false := by rw [beq_eq_false_iff_ne]; omega
      have m3 : d2 / low < 1000000000 := Nat.lt_of_le_of_lt (Nat.div_le_self _ _) hh2
      obtain ⟨z3, hz3⟩ : ∃ z, d2 / low = z := ⟨_, rfl⟩
      have e4 : (d2 : Int) / low = (z3 : Int) := by rw [← Int.natCast_ediv, hz3]
      rw [hz1] at m1
      rw [hz2] at m2
      rw [hz3] at m3
      have HF : Hid (z1 * 1000000000 + z2 + z3 = d0 * high * 1000000000 + d1 * high + d2 / low) := by show _ = _; rw [hz1, hz2, hz3]
      clear hz1 hz2 hz3
      go_wp2
      go_quiet (fail)
      go_wp2
      go_ret
      rw [← HF.out]
      exact ⟨congrArg (fun z => Ending.returned (Value.int .i64 z)) (by omega), HBEL.out.trans (Below.of_drewN _ _ _)⟩
end Go.Proofs.YtmhmkhdgpfhnfaaGreatDoor
namespace Go.Proofs.YtmhmkhdgpfhnfaaGreatDoor
open Go.RowKit
theorem val3 (l : List Nat) (h : l.length ≤ 3) : val l = l.getD 0 0 + 1000000000 * (l.getD 1 0 + 1000000000 * l.getD 2 0) := by
  match l, h with
  | [], _ => rfl
  | [a], _ => simp [val]
  | [a, b], _ => simp [val]
  | [a, b, c], _ => simp [val]
  | a :: b :: c :: d :: l, h => simp at h
theorem lead_num {l : List Nat} {n low high : Nat} (hlo : Lo l) (hl : l.length ≤ n) (hn : 3 ≤ n) (hpos : 0 < low) (hm : high * low = 1000000000) :
    val l / (1000000000 ^ (n - 3) * low) = l.getD (n - 1) 0 * high * 1000000000 + l.getD (n - 2) 0 * high + l.getD (n - 3) 0 / low := by
  have e1 : val l / 1000000000 ^ (n - 3) = val (l.drop (n - 3)) := by
    rcases Nat.lt_or_ge l.length (n - 3) with h | h
    · rw [List.drop_of_length_le (by omega)]
      have := val_lt l hlo
      rw [Nat.div_eq_of_lt (Nat.lt_of_lt_of_le this (Nat.pow_le_pow_right (by omega) (by omega)))]; rfl
    · rw [val_drop_split l (n - 3) h]
      have := val_lt (l.take (n - 3)) (hlo.take _)
      rw [List.length_take, Nat.min_eq_left h] at this
      rw [Nat.add_mul_div_left _ _ (Nat.pow_pos (by omega)), Nat.div_eq_of_lt this, Nat.zero_add]
  rw [← Nat.div_div_eq_div_mul, e1, val3 _ (by rw [List.length_drop]; omega)]
  simp only [getD_drop]
  rw [show n - 3 + 0 = n - 3 from rfl, show n - 3 + 1 = n - 2 from by omega, show n - 3 + 2 = n - 1 from by omega]
  generalize l.getD (n - 1) 0 = d0
  generalize l.getD (n - 2) 0 = d1
  generalize l.getD (n - 3) 0 = d2
  have e2 : d2 + 1000000000 * (d1 + 1000000000 * d0) = d2 + low * (d1 * high + d0 * high * 1000000000) := by
    conv => lhs; rw [← hm]
    conv => rhs; rw [← hm]
    grind
  rw [e2, Nat.add_mul_div_left _ _ hpos]
  omega
theorem val_lt_top {l : List Nat} {n : Nat} (hlo : Lo l) (hl : l.length = n) (hn : 1 ≤ n) : val l < 1000000000 ^ (n - 1) * (l.getD (n - 1) 0 + 1) := by
  have e1 := val_split l (n - 1) (by omega)
  rw [show n - 1 + 1 = n from by omega, ← hl, List.drop_length, hl] at e1
  rw [show val [] = 0 from rfl, Nat.mul_zero, Nat.add_zero] at e1
  have e2 := val_lt (l.take (n - 1)) (hlo.take _)
  rw [List.length_take, Nat.min_eq_left (by omega)] at e2
  rw [Nat.mul_add, Nat.mul_one]
  omega
theorem top_le {lx ly : List Nat} {n : Nat} (hlo : Lo lx) (hl : lx.length = n) (hn : 1 ≤ n) (h : val ly ≤ val lx) : ly.getD (n - 1) 0 ≤ lx.getD (n - 1) 0 := by
  have h1 := val_lt_top hlo hl hn
  have h2 := getD_le_val ly (n - 1)
  have h3 : 1000000000 ^ (n - 1) * ly.getD (n - 1) 0 < 1000000000 ^ (n - 1) * (lx.getD (n - 1) 0 + 1) := Nat.lt_of_le_of_lt (Nat.le_trans h2 h) h1
  have := Nat.lt_of_mul_lt_mul_left h3
  omega
def LlRel (n h k : Nat) (w wr : World) : Prop := Row 3 wr h [.int .i64 (n : Nat)] ∧ Row 2 wr (h + 1) [.int .i64 ((10 ^ k : Nat) : Int)] ∧ Below h w wr
theorem lt_pow_digs (n : Nat) : n < 10 ^ digs n := by
  induction n using Nat.strongRecOn with
  | _ n ih =>
    by_cases h : n < 10
    · rw [digs_lt n h]; omega
    · rw [digs_ge n h, Nat.add_comm 1, Nat.pow_succ]
      have := ih (n / 10) (by omega)
      omega
set_option maxRecDepth 100000 in
set_option maxHeartbeats 4000000 in
theorem leading_any (x y : Value) (lx ly : List Nat) (n : Nat) (w : World) (hx : Rd .u32 w x lx) (hy : Rd .u32 w y ly) (hlox : Lo lx) (hloy : Lo ly) (hl : lx.length = n) (hl' : ly.length ≤ n) (hn : 3 ≤ n) (hnn : n ≤ 1073741824) (hyx : val ly ≤ val lx) :
    Calls Tryz.prog 155 #[x, y] w fun e w' => ∃ S, 0 < S ∧ val lx / S < 1000000000000000000 ∧ e = .returned (.tuple #[.int .i64 (val lx / S : Nat), .int .i64 (val ly / S : Nat)]) ∧ Below w.heap.size w w' := by
  have htops := top_le hlox hl (by omega) hyx
  have hvtop := val_lt_top hlox hl (by omega)
  have HX := Lib.hid hx
  have HY := Lib.hid hy
  obtain ⟨p, cap, rfl, hlc, hcm, hnl, hp⟩ := hx
  obtain ⟨b, off, rfl, hbs, hc⟩ := hp (by omega)
  obtain ⟨d, hd⟩ : ∃ d, lx.getD (n - 1) 0 = d := ⟨_, rfl⟩
  have htop := hc (n - 1) (by omega)
  have hdb := hlox.getD (n - 1)
  rw [hd] at htop hdb htops hvtop
  have HVT := Lib.hid hvtop
  clear hvtop hyx
  rw [hl] at HX ⊢
  rw [hl] at hlc
  have HL := Lib.hid hl
  have HD := Lib.hid hd
  have hi0 : 0 ≤ (n : Int) - 1 := by omega
  have hi1 : ((n : Int) - 1).toNat = n - 1 := by omega
  have hi2 : (n : Int) - 1 < n := by omega
  have hmf : ∀ (fn : Fn) (first cap : Array Value) (w : World), (Instr.makeFunc fn first cap).run Tryz.prog w = .ok (.func fn first cap) w := fun _ _ _ _ => rfl
  have HMF := Lib.hid hmf
  clear hp hnl hc hd hl hmf
  go_enter Tryz.func155, Tryz.ntmps155
  go_wp2_with fail
  refine (limbLength_any d _ hdb).mono ?_
  rintro e w1 ⟨rfl, hw1⟩
  have r1 : Row 3 w1 w.heap.size [.int .i64 (n : Nat)] := by
    rw [← hw1]
    have := (row_new 3 w #[.int .i64 (n : Nat)]).alloc (.cells #[.int .i64 1] 2)
    simpa using this
  have r2 : Row 2 w1 (w.heap.size + 1) [.int .i64 ((10 ^ 0 : Nat) : Int)] := by
    rw [← hw1]
    have := row_new 2 (w.alloc (.cells #[.int .i64 (n : Nat)] 3)) #[.int .i64 1]
    simpa using this
  have b1 : Below w.heap.size w w1 := by
    rw [← hw1]
    exact ((Below.refl _ _).alloc (Nat.le_refl _) _).alloc (by simp) _
  have R1 := Lib.hid r1
  have R2 := Lib.hid r2
  have B1 := Lib.hid b1
  have hdg := digs_le d 9 (by omega) (by omega)
  obtain ⟨ee, hee⟩ : ∃ e, digs d = e := ⟨_, rfl⟩
  rw [hee] at hdg ⊢
  have HEE := Lib.hid hee
  obtain ⟨h, hh⟩ : ∃ h, w.heap.size = h := ⟨_, rfl⟩
  have HH := Lib.hid hh
  rw [hh] at R1 R2 B1 hbs ⊢
  clear r1 r2 b1 hw1 hee hh
  go_wp2
  go_loopw [18] (fun i wr => ∃ k : Nat, k ≤ ee ∧ i = .int .i64 k ∧ LlRel n h k w wr) (fun i _ => ee - (intOf i).toNat)
  case atStart => exact ⟨0, by omega, rfl, R1.out, R2.out, B1.out⟩
  case round =>
    obtain ⟨k, hk, rfl, r1, r2, b1⟩ := hrel
    clear R1 R2 B1
    by_cases hlt : k < ee
    · have hcl : wr.cell? ⟨h + 1, 0, none⟩ = some (.int .i64 ((10 ^ k : Nat) : Int)) := r2.cell 0
      have hfr := r2.free 0
      have hpw : 10 ^ k < 1000000000 := by
        have : 10 ^ k ≤ 10 ^ 8 := Nat.pow_le_pow_right (by omega) (by omega)
        omega
      obtain ⟨z, hz⟩ : ∃ z, 10 ^ k = z := ⟨_, rfl⟩
      rw [hz] at hcl hpw
      have HR : Hid (LlRel n h (k + 1) w (wr.setCell ⟨h + 1, 0, none⟩ (.int .i64 ((z : Int) * 10)))) := by
        refine ⟨r1.other _ (by show h + 1 ≠ h; omega) _, ?_, b1.setCell (by show h ≤ h + 1; omega) _⟩
        have := r2.store 0 (.int .i64 ((z : Int) * 10))
        rw [Nat.pow_succ, hz]
        simpa using this
      clear r1 r2 b1 hz
      go_wp2
      go_roundw
      case rel => exact ⟨k + 1, by omega, by go_num, HR.out⟩
      case measure => simp [intOf]; omega
    · obtain rfl : k = ee := by omega
      have hcl : wr.cell? ⟨h + 1, 0, none⟩ = some (.int .i64 ((10 ^ k : Nat) : Int)) := r2.cell 0
      have hk1 : 1 ≤ k := by have := digs_pos d; have := HEE.out; omega
      have hlow : d < 10 ^ k := by have := lt_pow_digs d; rwa [HEE.out] at this
      obtain ⟨z, hz⟩ : ∃ z, 10 ^ k = z := ⟨_, rfl⟩
      have hmul : 10 ^ (9 - k) * 10 ^ k = 1000000000 := by rw [← Nat.pow_add, show 9 - k + k = 9 from by omega]
      obtain ⟨q, hq⟩ : ∃ q, 10 ^ (9 - k) = q := ⟨_, rfl⟩
      rw [hz] at hcl hlow hmul r2
      rw [hq] at hmul
      have hzp : 0 < z := by omega
      have hz9 : z ≤ 1000000000 := by
        rcases Nat.eq_zero_or_pos q with h0 | h0
        · rw [h0, Nat.zero_mul] at hmul; omega
        · have : 1 * z ≤ q * z := Nat.mul_le_mul_right _ h0
          omega
      have hq9 : q < 1000000000 := by
        rw [← hq]
        have : 10 ^ (9 - k) ≤ 10 ^ 8 := Nat.pow_le_pow_right (by omega) (by omega)
        omega
      have hqe : (1000000000 : Int) / (z : Int) = (q : Int) := by
        have : 1000000000 / z = q := by rw [← hmul, Nat.mul_div_cancel _ hzp]
        rw [← this]; rfl
      have hz0 : ((z : Int) == 0) = false := by rw [beq_eq_false_iff_ne]; omega
      have HM := Lib.hid hmul
      have hmf := HMF.out
      have b2 := b1
      rw [← HH.out] at b2
      have x2 := Lib.hid (HX.out.below b2)
      have y2 := Lib.hid (HY.out.below b2)
      have R1 := Lib.hid r1
      have R2 := Lib.hid r2
      have B1 := Lib.hid b1
      clear r1 r2 b1 b2 hz hq hmul HX HY htop hbs
      have hsz : h + 2 ≤ wr.heap.size := by have := R2.out.lt; omega
      have wq : Row 2 (wr.alloc (.cells #[.int .i64 (q : Nat)] 2)) wr.heap.size [.int .i64 (q : Nat)] := by simpa using row_new 2 wr #[.int .i64 (q : Nat)]
      have w3 : Below h w (wr.alloc (.cells #[.int .i64 (q : Nat)] 2)) := B1.out.alloc (by omega) _
      have c1 := (R1.out.alloc (.cells #[.int .i64 (q : Nat)] 2)).cell 0
      have c2 := (R2.out.alloc (.cells #[.int .i64 (q : Nat)] 2)).cell 0
      have c3 := wq.cell 0
      have l1 := (R1.out.alloc (.cells #[.int .i64 (q : Nat)] 2)).lt
      have l2 := (R2.out.alloc (.cells #[.int .i64 (q : Nat)] 2)).lt
      have l3 := wq.lt
      have xr : Rd .u32 (wr.alloc (.cells #[.int .i64 (q : Nat)] 2)) (.slice (some ⟨b, off, none⟩) n cap) lx := x2.out.below ((Below.refl _ _).alloc (Nat.le_refl _) _)
      have yr : Rd .u32 (wr.alloc (.cells #[.int .i64 (q : Nat)] 2)) y ly := y2.out.below ((Below.refl _ _).alloc (Nat.le_refl _) _)
      have k1 := leading1_any _ lx n h wr.heap.size (h + 1) q z d _ _ _ xr hlox (by have := HL.out; omega) hn hnn c1 c3 c2 l1 l3 l2 HD.out rfl rfl hq9 hzp hz9 hlow HM.out
      have k2 := fun (W : World) (hb : Below (wr.alloc (.cells #[.int .i64 (q : Nat)] 2)).heap.size (wr.alloc (.cells #[.int .i64 (q : Nat)] 2)) W) (hlw : ly.getD (n - 1) 0 < z) =>
        leading1_any y ly n h wr.heap.size (h + 1) q z _ _ _ W (yr.below hb) hloy hl' hn hnn (by rw [hb.cell (p := ⟨h, 0, none⟩) l1]; exact c1) (by rw [hb.cell (p := ⟨wr.heap.size, 0, none⟩) l3]; exact c3) (by rw [hb.cell (p := ⟨h + 1, 0, none⟩) l2]; exact c2) (Nat.lt_of_lt_of_le l1 hb.size) (Nat.lt_of_lt_of_le l3 hb.size) (Nat.lt_of_lt_of_le l2 hb.size) rfl rfl rfl hq9 hzp hz9 hlw HM.out
      rw [← HD.out, ← lead_num hlox (by have := HL.out; omega) hn hzp HM.out] at k1
      have K1 := Lib.hid k1
      have K2 : Hid (∀ (W : World), Below (wr.alloc (.cells #[.int .i64 (q : Nat)] 2)).heap.size (wr.alloc (.cells #[.int .i64 (q : Nat)] 2)) W → ly.getD (n - 1) 0 < z → _) := k2
      have W3 := Lib.hid w3
      have hw0 : wr.heap.size ≤ (wr.alloc (.cells #[.int .i64 (q : Nat)] 2)).heap.size := by simp
      clear wq w3 c1 c2 c3 l1 l2 l3 xr yr k1 k2 R1 R2 B1 x2 y2
      go_wp2_with fail
      refine K1.out.mono ?_
      rintro e w5 ⟨rfl, hb5⟩
      have HB5 := Lib.hid hb5
      clear hb5
      go_wp2_with fail
      refine (K2.out _ HB5.out ?_).mono ?_
      · exact Nat.lt_of_le_of_lt htops hlow
      rintro e w6 ⟨rfl, hb6⟩
      rw [← lead_num hloy hl' hn hzp HM.out]
      have HB6 := Lib.hid hb6
      have hU : val lx / (1000000000 ^ (n - 3) * z) < 1000000000000000000 := by
        rw [Nat.div_lt_iff_lt_mul (Nat.mul_pos (Nat.pow_pos (by omega)) hzp)]
        have h1 : 1000000000 ^ (n - 1) * (d + 1) ≤ 1000000000 ^ (n - 1) * z := Nat.mul_le_mul_left _ hlow
        have h2 : 1000000000 ^ (n - 1) = 1000000000 ^ (n - 3) * 1000000000000000000 := by
          conv => lhs; rw [show n - 1 = n - 3 + 2 from by omega]
          rw [Nat.pow_add]
        have h3 := Nat.lt_of_lt_of_le HVT.out h1
        rw [h2] at h3
        rw [Nat.mul_comm 1000000000000000000, Nat.mul_assoc, Nat.mul_comm z, ← Nat.mul_assoc]
        exact h3
      have HU := Lib.hid hU
      have hsz5 := HB5.out.size
      clear hb6 hU K1 K2
      go_wp2
      go_ret2
      refine ⟨_, Nat.mul_pos (Nat.pow_pos (by omega)) hzp, HU.out, rfl, ?_⟩
      rw [HH.out]
      exact W3.out.trans ((HB5.out.mono (by omega)).trans (HB6.out.mono (by omega)))
end Go.Proofs.YtmhmkhdgpfhnfaaGreatDoor
