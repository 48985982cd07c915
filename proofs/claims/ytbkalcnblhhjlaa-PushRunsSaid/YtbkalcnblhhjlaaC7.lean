/- Heads; steps. -/
import Derived.Test.YtbkalcnblhhjlaaC6
set_option linter.unnecessarySimpa false
set_option linter.unusedVariables false
set_option linter.unusedSimpArgs false
namespace Go.Proofs.Ytbkalcnblhhjlaa
open Go.RowKit

theorem row_new' (T : TypeId) (w : World) (g : Nat) (cs : Array Value) (hg : g = w.heap.size) : Row T (w.alloc (.cells cs T)) g cs.toList := by subst hg; exact row_new T w cs
set_option maxRecDepth 100000 in
set_option maxHeartbeats 1000000 in
theorem headC_any (q : Int) (s : ByteArray) (w : World) (h0 : 0 < s.size) :
    Calls Try.prog 16 #[.agg #[.int .i64 q, .string s]] w fun r w' => r = .returned (.agg #[.int .i64 q, .int .u8 (s[0]'h0).toNat]) ∧ Below w.heap.size w w' := by
  go_enter Try.func16, Try.ntmps16
  go_wp2
  refine wp_region_quiet_tail 6 (by kernel_rfl) (by kernel_rfl) ?_
  intro W hW
  simp only [List.take_succ_cons, List.take_zero, List.drop_succ_cons, List.drop_zero]
  have HBW : Hid (Below w.heap.size w W) := hW ▸ ((box_below _ _).alloc (by simp) _).drew
  have r1 : Row 39 W w.heap.size [.int .i64 q, .string s] := hW ▸ ((row_new _ _ _).alloc _).drew
  have r2 : Row 52 W (w.heap.size + 1) [.int .i64 0, .int .u8 0] := hW ▸ (row_new' _ _ _ _ (by simp)).drew
  have HR2 := Lib.hid r2
  have b0 : W.cell? ⟨w.heap.size, 0, none⟩ = some (.int .i64 q) := r1.cell 0
  have b1 : W.cell? ⟨w.heap.size, 1, none⟩ = some (.string s) := r1.cell 1
  clear hW r1 r2
  open BigFrame in repeat (go_big_quiet_step (fail))
  refine wpQuiet_nil ?_
  have b2 : W.cell? ⟨w.heap.size + 1, 0, none⟩ = some (.int .i64 0) := HR2.out.cell 0
  have b3 : W.cell? ⟨w.heap.size + 1, 1, none⟩ = some (.int .u8 0) := HR2.out.cell 1
  have f2 := HR2.out.free 0
  have f3 := HR2.out.free 1
  go_wp2
  have k0 := (HR2.out.store 0 (.int .i64 q)).cell 0
  have k1 := ((HR2.out.store 0 (.int .i64 q)).store 1 (.int .u8 (s[0]'h0).toNat)).cell 1
  simp only [List.set_cons_zero, List.set_cons_succ, List.getElem?_cons_zero, List.getElem?_cons_succ] at k0 k1
  exact bodyPost_ret (v := .agg #[.int .i64 q, .int .u8 (s[0]'h0).toNat]) (by simp [results, Try.results16, go_sem, k0, k1]) rfl ⟨rfl, (HBW.out.setCell (by simp) _).setCell (by simp) _⟩
set_option maxRecDepth 100000 in
set_option maxHeartbeats 1000000 in
theorem step_any (e : Ru) (q : Int) (s : ByteArray) (w : World) (h0 : 1 ≤ s.size) (h1 : s.size ≤ 2000000) (h2 : e.p.size ≤ 1000) :
    Calls Try.prog 18 #[e.val, .agg #[.int .i64 q, .string s]] w fun r w' => r = .returned (.agg #[.int .i64 e.t, .string (e.p ++ s.extract 1 s.size)]) ∧ Below w.heap.size w w' := by
  obtain ⟨f, l, t, p⟩ := e
  dsimp only at h2
  unfold Ru.val
  dsimp only
  go_enter Try.func18, Try.ntmps18
  go_wp2
  refine wp_region_quiet_tail 9 (by kernel_rfl) (by kernel_rfl) ?_
  intro W hW
  simp only [List.take_succ_cons, List.take_zero, List.drop_succ_cons, List.drop_zero]
  have HBW : Hid (Below w.heap.size w W) := hW ▸ (((box_below _ _).alloc (by simp) _).alloc (by simp; omega) _).drew
  have r1 : Row 54 W w.heap.size [.int .i64 f, .int .u8 l, .int .i64 t, .string p] := hW ▸ (((row_new _ _ _).alloc _).alloc _).drew
  have r3 : Row 39 W (w.heap.size + 1) [.int .i64 q, .string s] := hW ▸ ((row_new' _ _ _ _ (by simp)).alloc _).drew
  have r2 : Row 39 W (w.heap.size + 2) [.int .i64 0, .string ⟨#[]⟩] := hW ▸ (row_new' _ _ _ _ (by simp)).drew
  have HR2 := Lib.hid r2
  have b2 : W.cell? ⟨w.heap.size, 2, none⟩ = some (.int .i64 t) := r1.cell 2
  have b3 : W.cell? ⟨w.heap.size, 3, none⟩ = some (.string p) := r1.cell 3
  have b1 : W.cell? ⟨w.heap.size + 1, 1, none⟩ = some (.string s) := r3.cell 1
  clear hW r1 r2 r3
  open BigFrame in repeat (go_big_quiet_step (fail))
  refine wpQuiet_nil ?_
  have c0 : W.cell? ⟨w.heap.size + 1 + 1, 0, none⟩ = some (.int .i64 0) := HR2.out.cell 0
  have c1 : W.cell? ⟨w.heap.size + 1 + 1, 1, none⟩ = some (.string ⟨#[]⟩) := HR2.out.cell 1
  have f2 : W.frozen? ⟨w.heap.size + 1 + 1, 0, none⟩ = false := HR2.out.free 0
  have f3 : W.frozen? ⟨w.heap.size + 1 + 1, 1, none⟩ = false := HR2.out.free 1
  go_wp2
  have k0 := (HR2.out.store 0 (.int .i64 t)).cell 0
  have k1 := ((HR2.out.store 0 (.int .i64 t)).store 1 (.string (p ++ s.extract 1 s.size))).cell 1
  simp only [List.set_cons_zero, List.set_cons_succ, List.getElem?_cons_zero, List.getElem?_cons_succ] at k0 k1
  exact bodyPost_ret (v := .agg #[.int .i64 t, .string (p ++ s.extract 1 s.size)]) (by simp [results, Try.results18, go_sem, k0, k1]) rfl ⟨rfl, (HBW.out.setCell (by first | omega | (simp; done) | (simp; omega)) _).setCell (by first | omega | (simp; done) | (simp; omega)) _⟩
theorem headR_any (e : Ru) (w : World) :
    Calls Try.prog 17 #[e.val] w fun r w' => r = .returned (.agg #[.int .i64 e.f, .int .u8 e.l]) ∧ Below w.heap.size w w' := by
  obtain ⟨f, l, t, p⟩ := e
  unfold Ru.val
  dsimp only
  go_enter Try.func17, Try.ntmps17
  go_wp2
  exact bodyPost_ret (v := .agg #[.int .i64 f, .int .u8 l]) (by simp [results, Try.results17, go_sem]) rfl ⟨rfl, (box_below _ _).alloc (by simp) _⟩
theorem cell_alloc3 {w : World} {a : Addr} {v : Value} (h : w.cell? a = some v) (hb : a.block < w.heap.size) (o1 o2 o3 : Obj) : (((w.alloc o1).alloc o2).alloc o3).cell? a = some v :=
  ((((box_below w o1).alloc (by simp) o2).alloc (by simp; omega) o3).cell (p := a) hb).trans h
/-- the letter on top -/
def topP (s : ByteArray) : Nat := if h : 0 < s.size then (s[0]'h).toNat else 0
/-- a step is possible -/
def canP (e : Ru) (q : Int) (s : ByteArray) : Bool := (e.f == q) && (decide (0 < s.size) && (topP s == e.l))
def stepP (es : List Ru) (q : Int) (s : ByteArray) (i : Int) : Option (Int × ByteArray) :=
  if 0 ≤ i ∧ i < es.length then
    match es[i.toNat]? with
    | some e => if canP e q s then some (e.t, e.p ++ s.extract 1 s.size) else none
    | none => none
  else none
def stepV (q : Int) (s : ByteArray) : Option (Int × ByteArray) → Value
  | some x => .tuple #[.agg #[.int .i64 x.1, .string x.2], .bool true]
  | none => .tuple #[.agg #[.int .i64 q, .string s], .bool false]
theorem stepP_out {es : List Ru} {q : Int} {s : ByteArray} {i : Int} (h : i < 0 ∨ es.length ≤ i) : stepP es q s i = none := by
  unfold stepP; rw [if_neg (by omega)]
theorem stepP_at {es : List Ru} {q : Int} {s : ByteArray} {k : Nat} {e : Ru} (h : es[k]? = some e) : stepP es q s (k : Int) = if canP e q s then some (e.t, e.p ++ s.extract 1 s.size) else none := by
  have hk : k < es.length := (List.getElem?_eq_some_iff.1 h).1
  unfold stepP
  rw [if_pos (by omega)]
  simp [h]
set_option maxRecDepth 100000 in
set_option maxHeartbeats 2000000 in
theorem stepR_any (c : Int) (v : Value) (es : List Ru) (q i : Int) (s : ByteArray) (w : World) (hE : SlR w v es) (h1 : s.size ≤ 1000000) (hp : ∀ e ∈ es, e.p.size ≤ 1000) :
    Calls Try.prog 13 #[.agg #[.int .i64 c, v], .agg #[.int .i64 q, .string s], .int .i64 i] w fun r w' => r = .returned (stepV q s (stepP es q s i)) ∧ Below w.heap.size w w' := by
  obtain ⟨p, cap, rfl, hlc, hcm⟩ := hE.len
  by_cases h0 : i < 0
  · have HN : Hid (stepV q s (stepP es q s i) = .tuple #[.agg #[.int .i64 q, .string s], .bool false]) := by show _ = _; rw [stepP_out (.inl h0)]; rfl
    clear hE
    go_enter Try.func13, Try.ntmps13
    go_wp2
    refine bodyPost_ret (v := .tuple #[.agg #[.int .i64 q, .string s], .bool false]) (by simp [results, Try.results13, go_sem]) rfl ⟨by rw [HN.out], ?_⟩
    exact ((box_below _ _).alloc (by simp) _).alloc (by simp; omega) _
  by_cases h2 : es.length ≤ i
  · have HN : Hid (stepV q s (stepP es q s i) = .tuple #[.agg #[.int .i64 q, .string s], .bool false]) := by show _ = _; rw [stepP_out (.inr h2)]; rfl
    clear hE
    go_enter Try.func13, Try.ntmps13
    go_wp2
    refine bodyPost_ret (v := .tuple #[.agg #[.int .i64 q, .string s], .bool false]) (by simp [results, Try.results13, go_sem]) rfl ⟨by rw [HN.out], ?_⟩
    exact ((box_below _ _).alloc (by simp) _).alloc (by simp; omega) _
  obtain ⟨k, rfl⟩ : ∃ k : Nat, i = (k : Int) := ⟨i.toNat, by omega⟩
  have hlt : k < es.length := by omega
  obtain ⟨ad, cap', e, hv, hg, hek, d1, d2, d3, d4, d5⟩ := hE.at_ k hlt
  cases hv
  have hps := hp _ (List.mem_of_getElem? hek)
  have HST := Lib.hid (stepP_at (q := q) (s := s) hek)
  clear hE hp hek
  replace d2 : w.cell? ⟨(ad.add (k * 4)).block, (ad.add (k * 4)).off + 1, none⟩ = some (.int .u8 e.l) := d2
  replace d3 : w.cell? ⟨(ad.add (k * 4)).block, (ad.add (k * 4)).off + 2, none⟩ = some (.int .i64 e.t) := d3
  replace d4 : w.cell? ⟨(ad.add (k * 4)).block, (ad.add (k * 4)).off + 3, none⟩ = some (.string e.p) := d4
  obtain ⟨f, l, t, x⟩ := e
  dsimp only at d1 d2 d3 d4 d5 hps HST
  have hg2 : (ad.add (k * 4)).block < w.heap.size := by rw [block_add]; exact hg
  replace d1 := cell_alloc3 d1 hg2
  replace d2 := cell_alloc3 d2 hg2
  replace d3 := cell_alloc3 d3 hg2
  replace d4 := cell_alloc3 d4 hg2
  go_enter Try.func13, Try.ntmps13
  go_wp2
  refine wp_region_kin (by kernel_rfl) (by kernel_rfl) ?_
  intro W hW
  have HBW : Hid (Below w.heap.size w W) := hW ▸ ((((box_below _ _).alloc (by simp) _).alloc (by simp; omega) _).alloc (by simp; omega) _).drew
  have r1 : Row 24 W w.heap.size [.int .i64 c, .slice (some ad) es.length cap] := hW ▸ ((((row_new _ _ _).alloc _).alloc _).alloc _).drew
  have r2 : Row 26 W (w.heap.size + 1) [.int .i64 q, .string s] := hW ▸ (((row_new' _ _ _ _ (by simp)).alloc _).alloc _).drew
  have r3 : Row 26 W (w.heap.size + 2) [.int .i64 0, .string ⟨#[]⟩] := hW ▸ ((row_new' _ _ _ _ (by simp)).alloc _).drew
  have r4 : Row 47 W (w.heap.size + 3) [.int .i64 f, .int .u8 l, .int .i64 t, .string x] := hW ▸ (row_new' _ _ _ _ (by simp)).drew
  have HR2 := Lib.hid r2
  have HR3 := Lib.hid r3
  have HR4 := Lib.hid r4
  have b0 := kin_cell (show W.cell? ⟨w.heap.size + 1, 0, none⟩ = some (.int .i64 q) from r2.cell 0) r2.lt
  have b1 := kin_cell (show W.cell? ⟨w.heap.size + 1, 1, none⟩ = some (.string s) from r2.cell 1) r2.lt
  have b2 := kin_cell (show W.cell? ⟨w.heap.size + 1 + 1 + 1, 0, none⟩ = some (.int .i64 f) from r4.cell 0) r4.lt
  have b3 := kin_cell (show W.cell? ⟨w.heap.size + 1 + 1 + 1, 1, none⟩ = some (.int .u8 l) from r4.cell 1) r4.lt
  clear hW r1 r2 r3 r4 d1 d2 d3 d4
  cases hcan : canP ⟨f, l, t, x⟩ q s
  · have HN : Hid (stepV q s (stepP es q s k) = .tuple #[.agg #[.int .i64 q, .string s], .bool false]) := by show _ = _; rw [HST.out, hcan]; rfl
    by_cases hq : f = q
    · subst hq
      have k1 : (f != f) = false := by simp
      by_cases h3 : 0 < s.size
      · have h4 : topP s ≠ l := by
          intro h4
          simp [canP, h3, h4] at hcan
        have k2 : ((s.size : Int) == 0) = false := by rw [beq_eq_false_iff_ne]; omega
        have k3 : (((s[0]'h3).toNat : Int) != (l : Int)) = true := by
          rw [bne_iff_ne]
          have : topP s = (s[0]'h3).toNat := by unfold topP; rw [dif_pos h3]
          rw [this] at h4; omega
        clear h4 hcan
        open BigFrame in repeat (go_big_quiet_step (fail))
        refine wpQuiet_nil ?_
        intro z
        have HZ3 := Lib.hid (HR3.out.below z.2 HR3.out.lt)
        have HBZ := Lib.hid (HBW.out.trans (z.2.mono HBW.out.size))
        have c0 : z.1.cell? ⟨w.heap.size + 1 + 1, 0, none⟩ = some (.int .i64 0) := HZ3.out.cell 0
        have c1 : z.1.cell? ⟨w.heap.size + 1 + 1, 1, none⟩ = some (.string ⟨#[]⟩) := HZ3.out.cell 1
        have f2 : z.1.frozen? ⟨w.heap.size + 1 + 1, 0, none⟩ = false := HZ3.out.free 0
        have f3 : z.1.frozen? ⟨w.heap.size + 1 + 1, 1, none⟩ = false := HZ3.out.free 1
        go_wp2
        have k0 := (HZ3.out.store 0 (.int .i64 f)).cell 0
        have k9 := ((HZ3.out.store 0 (.int .i64 f)).store 1 (.string s)).cell 1
        simp only [List.set_cons_zero, List.set_cons_succ, List.getElem?_cons_zero, List.getElem?_cons_succ] at k0 k9
        exact bodyPost_ret (v := .tuple #[.agg #[.int .i64 f, .string s], .bool false]) (by simp [results, Try.results13, go_sem, k0, k9]) rfl ⟨by rw [HN.out], (HBZ.out.setCell (by simp; omega) _).setCell (by simp; omega) _⟩
      · have k2 : ((s.size : Int) == 0) = true := by rw [beq_iff_eq]; omega
        clear h3 hcan
        open BigFrame in repeat (go_big_quiet_step (fail))
        refine wpQuiet_nil ?_
        intro z
        have HZ3 := Lib.hid (HR3.out.below z.2 HR3.out.lt)
        have HBZ := Lib.hid (HBW.out.trans (z.2.mono HBW.out.size))
        have c0 : z.1.cell? ⟨w.heap.size + 1 + 1, 0, none⟩ = some (.int .i64 0) := HZ3.out.cell 0
        have c1 : z.1.cell? ⟨w.heap.size + 1 + 1, 1, none⟩ = some (.string ⟨#[]⟩) := HZ3.out.cell 1
        have f2 : z.1.frozen? ⟨w.heap.size + 1 + 1, 0, none⟩ = false := HZ3.out.free 0
        have f3 : z.1.frozen? ⟨w.heap.size + 1 + 1, 1, none⟩ = false := HZ3.out.free 1
        go_wp2
        have k0 := (HZ3.out.store 0 (.int .i64 f)).cell 0
        have k9 := ((HZ3.out.store 0 (.int .i64 f)).store 1 (.string s)).cell 1
        simp only [List.set_cons_zero, List.set_cons_succ, List.getElem?_cons_zero, List.getElem?_cons_succ] at k0 k9
        exact bodyPost_ret (v := .tuple #[.agg #[.int .i64 f, .string s], .bool false]) (by simp [results, Try.results13, go_sem, k0, k9]) rfl ⟨by rw [HN.out], (HBZ.out.setCell (by simp; omega) _).setCell (by simp; omega) _⟩
    · have k1 : (f != q) = true := by rw [bne_iff_ne]; exact hq
      clear hq hcan
      open BigFrame in repeat (go_big_quiet_step (fail))
      refine wpQuiet_nil ?_
      intro z
      have HZ3 := Lib.hid (HR3.out.below z.2 HR3.out.lt)
      have HBZ := Lib.hid (HBW.out.trans (z.2.mono HBW.out.size))
      have c0 : z.1.cell? ⟨w.heap.size + 1 + 1, 0, none⟩ = some (.int .i64 0) := HZ3.out.cell 0
      have c1 : z.1.cell? ⟨w.heap.size + 1 + 1, 1, none⟩ = some (.string ⟨#[]⟩) := HZ3.out.cell 1
      have f2 : z.1.frozen? ⟨w.heap.size + 1 + 1, 0, none⟩ = false := HZ3.out.free 0
      have f3 : z.1.frozen? ⟨w.heap.size + 1 + 1, 1, none⟩ = false := HZ3.out.free 1
      go_wp2
      have k0 := (HZ3.out.store 0 (.int .i64 q)).cell 0
      have k9 := ((HZ3.out.store 0 (.int .i64 q)).store 1 (.string s)).cell 1
      simp only [List.set_cons_zero, List.set_cons_succ, List.getElem?_cons_zero, List.getElem?_cons_succ] at k0 k9
      exact bodyPost_ret (v := .tuple #[.agg #[.int .i64 q, .string s], .bool false]) (by simp [results, Try.results13, go_sem, k0, k9]) rfl ⟨by rw [HN.out], (HBZ.out.setCell (by simp; omega) _).setCell (by simp; omega) _⟩
  · have HN : Hid (stepV q s (stepP es q s k) = .tuple #[.agg #[.int .i64 t, .string (x ++ s.extract 1 s.size)], .bool true]) := by show _ = _; rw [HST.out, hcan]; rfl
    simp only [canP, Bool.and_eq_true, decide_eq_true_eq, beq_iff_eq] at hcan
    obtain ⟨rfl, h3, h4⟩ := hcan
    have k1 : (f != f) = false := by simp
    have k2 : ((s.size : Int) == 0) = false := by rw [beq_eq_false_iff_ne]; omega
    have k3 : (((s[0]'h3).toNat : Int) != (l : Int)) = false := by
      rw [bne_eq_false_iff_eq]
      have : topP s = (s[0]'h3).toNat := by unfold topP; rw [dif_pos h3]
      rw [this] at h4; omega
    clear h4
    open BigFrame in repeat (go_big_quiet_step (fail))
    refine wpQuiet_nil ?_
    intro z
    obtain ⟨z, hz⟩ := z
    dsimp only
    have HZ2 := Lib.hid (HR2.out.below hz HR2.out.lt)
    have HZ3 := Lib.hid (HR3.out.below hz HR3.out.lt)
    have HZ4 := Lib.hid (HR4.out.below hz HR4.out.lt)
    have HBZ := Lib.hid (HBW.out.trans (hz.mono HBW.out.size))
    clear b0 b1 b2 b3 hz
    go_wp2
    refine wp_region_quiet_tail 9 (by kernel_rfl) (by kernel_rfl) ?_
    intro W2 hW2
    simp only [List.take_succ_cons, List.take_zero, List.drop_succ_cons, List.drop_zero]
    have HB2 : Hid (Below w.heap.size w W2) := hW2 ▸ HBZ.out.drew
    have r2 : Row 26 W2 (w.heap.size + 1) [.int .i64 f, .string s] := hW2 ▸ HZ2.out.drew
    have r3 : Row 26 W2 (w.heap.size + 2) [.int .i64 0, .string ⟨#[]⟩] := hW2 ▸ HZ3.out.drew
    have r4 : Row 47 W2 (w.heap.size + 3) [.int .i64 f, .int .u8 l, .int .i64 t, .string x] := hW2 ▸ HZ4.out.drew
    have HW3 := Lib.hid r3
    have b0 : W2.cell? ⟨w.heap.size + 1 + 1 + 1, 2, none⟩ = some (.int .i64 t) := r4.cell 2
    have b1 : W2.cell? ⟨w.heap.size + 1 + 1 + 1, 3, none⟩ = some (.string x) := r4.cell 3
    have b2 : W2.cell? ⟨w.heap.size + 1, 1, none⟩ = some (.string s) := r2.cell 1
    clear hW2 r2 r3 r4
    open BigFrame in repeat (go_big_quiet_step (fail))
    refine wpQuiet_nil ?_
    have c0 : W2.cell? ⟨w.heap.size + 1 + 1, 0, none⟩ = some (.int .i64 0) := HW3.out.cell 0
    have c1 : W2.cell? ⟨w.heap.size + 1 + 1, 1, none⟩ = some (.string ⟨#[]⟩) := HW3.out.cell 1
    have f2 : W2.frozen? ⟨w.heap.size + 1 + 1, 0, none⟩ = false := HW3.out.free 0
    have f3 : W2.frozen? ⟨w.heap.size + 1 + 1, 1, none⟩ = false := HW3.out.free 1
    go_wp2
    have k0 := (HW3.out.store 0 (.int .i64 t)).cell 0
    have k9 := ((HW3.out.store 0 (.int .i64 t)).store 1 (.string (x ++ s.extract 1 s.size))).cell 1
    simp only [List.set_cons_zero, List.set_cons_succ, List.getElem?_cons_zero, List.getElem?_cons_succ] at k0 k9
    exact bodyPost_ret (v := .tuple #[.agg #[.int .i64 t, .string (x ++ s.extract 1 s.size)], .bool true]) (by simp [results, Try.results13, go_sem, k0, k9]) rfl ⟨by rw [HN.out], (HB2.out.setCell (by simp; omega) _).setCell (by simp; omega) _⟩
end Go.Proofs.Ytbkalcnblhhjlaa
