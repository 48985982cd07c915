/- The program's with: the best worths of all sets of items for one more bidder. -/
import Derived.Test.YthbfgmgpploneaaDoorR7
import Derived.Deep.MidRow
import Derived.Deep.WholeRow
import Derived.Great.Walk
set_option linter.unusedVariables false
set_option linter.unusedSimpArgs false
set_option linter.unnecessarySimpa false
namespace Go.Proofs.YthbfgmgpploneaaDoor
open Go.RowKit Go.Shelf

/-- sixty-four numbers -/
def pad64 (l : List Int) : List Int := (List.range 64).map fun s => l.getD s 0
theorem pad64_len (l : List Int) : (pad64 l).length = 64 := by simp [pad64]
theorem pad64_get (l : List Int) (s : Nat) (h : s < 64) : (pad64 l).getD s 0 = l.getD s 0 := by simp [pad64, h]
theorem pad64_bd {l : List Int} {B : Int} (h0 : 0 ≤ B) (h : ∀ s, 0 ≤ l.getD s 0 ∧ l.getD s 0 ≤ B) : ∀ s, 0 ≤ (pad64 l).getD s 0 ∧ (pad64 l).getD s 0 ≤ B := by
  intro s
  by_cases hs : s < 64
  · rw [pad64_get l s hs]; exact h s
  · rw [List.getD_eq_getElem?_getD, List.getElem?_eq_none (by rw [pad64_len]; omega)]; simp; exact h0
theorem bestTo_congr {b t t' : List Int} {on : Bool} {set : Nat} (h : ∀ s, s < 64 → t.getD s 0 = t'.getD s 0) (hs : set < 64) (k : Nat) : bestTo b t on set k = bestTo b t' on set k := by
  induction k with
  | zero => rfl
  | succ k ih =>
    simp only [bestTo]
    have := sans_le set k
    rw [ih, h (sans set k) (by omega)]
/-- the table, its sets below k being done -/
def withAt (b t : List Int) (k : Nat) : List Int := (List.range 64).map fun s => if s < k then bestTo b t true s (s + 1) else 0
theorem withAt_len (b t : List Int) (k : Nat) : (withAt b t k).length = 64 := by simp [withAt]
theorem withAt_zero (b t : List Int) : withAt b t 0 = List.replicate 64 0 := by
  apply List.ext_getElem
  · simp [withAt]
  · intro i h1 h2
    simp only [withAt, List.getElem_map, List.getElem_replicate, Nat.not_lt_zero, if_false]
theorem withAt_set (b t : List Int) (k : Nat) (v : Int) (hv : bestTo b t true k (k + 1) = v) : (withAt b t k).set k v = withAt b t (k + 1) := by
  apply List.ext_getElem
  · simp [withAt]
  · intro i h1 h2
    rw [List.getElem_set]
    simp only [withAt, List.getElem_map, List.getElem_range]
    by_cases h : k = i
    · subst h; rw [if_pos rfl, if_pos (by omega), hv]
    · rw [if_neg h]
      by_cases h' : i < k
      · rw [if_pos h', if_pos (by omega)]
      · rw [if_neg h', if_neg (by omega)]
theorem withAt_end {m : Nat} {b t : List Int} (hm : 2 ^ m ≤ 64) : withAt b (pad64 t) (2 ^ m) = pad64 (rowT m b t true) := by
  unfold withAt pad64
  refine List.map_congr_left fun s hs => ?_
  have hs64 := List.mem_range.1 hs
  by_cases h : s < 2 ^ m
  · rw [if_pos h, rowT_get _ _ _ _ _ h]
    exact bestTo_congr (fun u hu => pad64_get t u hu) hs64 _
  · rw [if_neg h, rowT_out _ _ _ _ _ h]
def zeros64 : List Int := List.replicate 64 0
theorem zeros64_pad : zeros64 = pad64 [] := by decide +kernel
theorem zeros64_with (b t : List Int) : zeros64 = withAt b t 0 := (withAt_zero b t).symm
theorem Tryd.info95 : (Tryd.prog.info? 95).map (fun i => (i.zero, i.size, i.bytes)) = some (some (.agg (ints zeros64).toArray), 64, 512) := by kernel_rfl
theorem Tryd.under95 : Tryd.prog.underlying 95 = some (.array 64 2) := by kernel_rfl
theorem info_size {P : Program} {t : Nat} {z : Option Value} {n b : Nat} (h : (P.info? t).map (fun i => (i.zero, i.size, i.bytes)) = some (z, n, b)) : (P.info? t).map (·.size) = some n := by
  cases hq : P.info? t with
  | none => rw [hq] at h; cases h
  | some i => rw [hq] at h; simp at h ⊢; exact h.2.1
theorem wpList_alloc_arr {P : Program} {ops : Array Oper} {rest : List Oper} {o : Oper} {a : Act} {w : World} {Q : Exit → Act → World → Prop} (hgd : o.guard = none) (t : TypeId) (ho : o.op = .alloc t) (z : Array Value) (n b : Nat)
    (hi : (P.info? t).map (fun i => (i.zero, i.size, i.bytes)) = some (some (.agg z), n, b))
    (h : wpList P ops Q rest (a.put o.dst (.pointer (some ⟨w.heap.size, 0, none⟩))) (w.alloc (.cells z t))) : wpList P ops Q (o :: rest) a w := by
  refine Go.Great.wpList_runTo hgd o.dst rfl _ (w.alloc (.cells z t)) ?_ h
  cases hq : P.info? t with
  | none => rw [hq] at hi; cases hi
  | some i =>
    rw [hq] at hi
    simp at hi
    unfold execOp
    rw [ho]
    simp [Instr.alloc, zeroValue, typeInfo, hq, hi.1, newVar, newRow, go_sem, Value.cells, Result.andThen]
theorem wpList_field {P : Program} {ops : Array Oper} {rest : List Oper} {o : Oper} {a : Act} {w : World} {Q : Exit → Act → World → Prop} (hgd : o.guard = none) (t : TypeId) (x : Operand) (i : Nat) (ho : o.op = .field t x i)
    (vs : Array Value) (hx : a.eval x = .agg vs) (v : Value) (hf : (Instr.field t (.agg vs) i).run P w = .ok v w) (h : wpList P ops Q rest (a.put o.dst v) w) : wpList P ops Q (o :: rest) a w := by
  refine Go.Great.wpList_runTo hgd o.dst rfl v w ?_ h
  unfold execOp
  rw [ho]
  simp only [hx, Sem.run_bind, hf, Result.andThen]
  rfl
theorem field_worth (k l : IntKind) (x y : Int) (w : World) : (Instr.field 98 (.agg #[.int k x, .int l y]) 0).run Tryd.prog w = .ok (.int k x) w := by
  simp [Instr.field, part, asAgg, go_sem]
theorem below_setRow2 {B : Nat} {w w' : World} (h : Below B w w') {g : Nat} (hg : B ≤ g) (cs : Array Value) : Below B w (w'.setRow g cs) :=
  h.trans ⟨by simp, by simp, by simp, by simp, fun k hk => setRow_other w' g k cs (by omega)⟩
theorem takeP_fst (b t : List Int) (set : Nat) : (takeP b t set).1 = bestTo b t true set (set + 1) := rfl
theorem one_ints (l : List Int) : (ints l).toArray.all (·.oneCell') = true := by
  rw [Array.all_eq_true_iff_forall_mem]
  intro v hv
  exact ints_one l v (by simpa using hv)
set_option maxRecDepth 100000 in
set_option maxHeartbeats 4000000 in
theorem with_go (v : Value) (m : Nat) (b t : List Int) (g o : Nat) (w : World) (hl : Sl w v (ints b)) (ht : Tab w g o (pad64 t)) (hm : m ≤ 6) (hlen : b.length = 2 ^ m)
    (hbd : ∀ s, 0 ≤ b.getD s 0 ∧ b.getD s 0 ≤ 1000000) (htd : ∀ s, 0 ≤ t.getD s 0 ∧ t.getD s 0 ≤ 10000000) :
    Calls Tryd.prog 68 #[.pointer (some ⟨g, o, none⟩), v] w fun e w' => e = .returned (.agg (ints (pad64 (rowT m b t true))).toArray) ∧ Below w.heap.size w w' := by
  obtain ⟨p, cap, rfl, hlc, hcm⟩ := hl.form
  have hM64 := pow_le64 hm
  have HEND : Hid (withAt b (pad64 t) b.length = pad64 (rowT m b t true)) := by show _ = _; rw [hlen]; exact withAt_end hM64
  have hb64 : b.length ≤ 64 := by omega
  have hglt := ht.lt
  have HTAKE : Hid (∀ W, Below w.heap.size w W → ∀ set : Nat, set < b.length → Calls Tryd.prog 69 #[.pointer (some ⟨g, o, none⟩), .slice p b.length cap, .int .i64 set] W fun e w' =>
      ∃ x2, e = .returned (.agg #[.int .i64 (bestTo b (pad64 t) true set (set + 1)), .int .i64 x2]) ∧ Below W.heap.size W w') := fun W hbW set hset =>
    (take_go _ b (pad64 t) g o set W (hl.below hbW) (ht.below hbW hglt) hb64 hset hbd (pad64_bd (by omega) htd)).mono fun e w' ⟨he, hb⟩ => ⟨_, he, hb⟩
  clear hl ht hbd htd hlen hM64 hm
  have hl0 : (0 : Int) ≤ (b.length : Int) := by omega
  go_enter Tryd.func68, Tryd.ntmps68
  go_wp2_with (first | (refine wpList_alloc_arr rfl 95 rfl _ _ _ Tryd.info95 ?_))
  have hr4 := (row_new 95 w (ints zeros64).toArray).alloc (.cells (ints zeros64).toArray 95)
  have hr5 := row_new 95 (w.alloc (.cells (ints zeros64).toArray 95)) (ints zeros64).toArray
  rw [World.size_alloc] at hr5
  have hb0 := ((Below.refl w.heap.size w).alloc (Nat.le_refl _) (.cells (ints zeros64).toArray 95)).alloc (by simp) (.cells (ints zeros64).toArray 95)
  have HR4 := Lib.hid (show Row 95 _ w.heap.size (ints zeros64) from hr4)
  have HR5 : Hid (Row 95 ((w.alloc (.cells (ints zeros64).toArray 95)).alloc (.cells (ints zeros64).toArray 95)) (w.heap.size + 1) (ints (withAt b (pad64 t) 0))) := by
    show Row _ _ _ _
    rw [← zeros64_with]; exact hr5
  have HB0 := Lib.hid hb0
  clear hr4 hr5 hb0
  go_loopw [9] (fun i wr => ∃ k : Nat, k ≤ b.length ∧ i = .int .i64 k ∧ Row 95 wr w.heap.size (ints zeros64) ∧ Row 95 wr (w.heap.size + 1) (ints (withAt b (pad64 t) k)) ∧ Below w.heap.size w wr) (fun i _ => b.length - (intOf i).toNat)
  case atStart => exact ⟨0, Nat.zero_le _, rfl, HR4.out, HR5.out, HB0.out⟩
  case round =>
    clear HR4 HR5 HB0
    obtain ⟨k, hk, rfl, hr4, hr5, hb⟩ := hrel
    have HR4 := Lib.hid hr4
    have HR5 := Lib.hid hr5
    have HB := Lib.hid hb
    by_cases hlt : k < b.length
    · have HSET := Lib.hid (withAt_set b (pad64 t) k)
      have HT := Lib.hid (HTAKE.out wr hb k hlt)
      have hk64 : k < 64 := by omega
      have HLEN := Lib.hid (withAt_len b (pad64 t) k)
      obtain ⟨x, hx⟩ : ∃ x, bestTo b (pad64 t) true k (k + 1) = x := ⟨_, rfl⟩
      rw [hx] at HT HSET
      clear hr4 hr5 hb hx
      go_wp2_with (first
        | (go_at_call 69; refine HT.out.mono ?_; rintro e w1 ⟨x2, rfl, hb1⟩; have hr4 := HR4.out.below hb1 HR4.out.lt; have hr5 := HR5.out.below hb1 HR5.out.lt; have hcr := hr5.cell k; rw [ints_get _ _ (by rw [HLEN.out]; exact hk64)] at hcr; have hfr := hr5.free k; have HR4b := Lib.hid hr4; have HR5b := Lib.hid (hr5.store k (.int .i64 x)); have HBb := Lib.hid (HB.out.trans (hb1.mono HB.out.size)); clear hr4 hr5 hb1)
        | (refine wpList_field rfl 98 _ 0 rfl _ rfl _ (field_worth _ _ _ _ _) ?_))
      go_roundw
      case rel =>
        refine ⟨k + 1, by omega, by go_num, HR4b.out.other _ (by dsimp only; omega) _, ?_, HBb.out.setCell (p := ⟨w.heap.size + 1, k, none⟩) (by dsimp only; omega) _⟩
        rw [← HSET.out x rfl, ← ints_set]; exact HR5b.out
      case measure => simp [intOf]; omega
    · obtain rfl : k = b.length := by omega
      rw [HEND.out] at HR5
      obtain ⟨l, hl⟩ : ∃ l, pad64 (rowT m b t true) = l := ⟨_, rfl⟩
      have hll : (ints l).length = 64 := by rw [ints_length, ← hl, pad64_len]
      rw [hl] at HR5
      have HPL := Lib.hid hl
      have HONE := Lib.hid (one_ints l)
      have hi1 : (Tryd.prog.info? 95).map (·.size) = some (ints l).toArray.size := by rw [info_size Tryd.info95]; simp [hll]
      have HI1 := Lib.hid hi1
      have HLL := Lib.hid hll
      clear hr4 hr5 hb hl hi1 hll
      go_wp2_with (first
        | (refine wpList_load_row rfl 95 _ rfl (w.heap.size + 1) rfl 95 (ints l).toArray (0, 0) _ HR5.out Tryd.under95 rfl HI1.out ?_)
        | (refine wpList_store_row rfl 95 _ _ rfl w.heap.size (ints l).toArray rfl rfl 95 (ints zeros64).toArray HR4.out HI1.out (by simp [HLL.out]; decide) HONE.out ?_))
      have hrow := setRow_heap wr w.heap.size (ints zeros64).toArray (ints l).toArray 95 (0, 0) HR4.out
      refine bodyPost_ret (results_cell_row (p := 4) rfl _ _ w.heap.size 95 (ints l).toArray (0, 0) _ rfl hrow Tryd.under95 rfl HI1.out) rfl ⟨by rw [HPL.out], ?_⟩
      exact below_setRow2 HB.out (Nat.le_refl _) _
end Go.Proofs.YthbfgmgpploneaaDoor
