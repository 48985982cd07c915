/- The search's map of positions. -/
import Derived.Test.YtllhejjcmfiebaaDoorKG
import Derived.Test.YtllhejjcmfiebaaDoorS36
import Derived.Test.YtllhejjcmfiebaaDoorB5
import Derived.Maps.OwnSet
import Derived.DeepKeys4
set_option linter.unusedVariables false
set_option linter.unusedSimpArgs false
set_option linter.unnecessarySimpa false
namespace Go.Proofs.YtllhejjcmfiebaaDoor
open Go.RowKit Go.Shelf
abbrev mapRd : Value → Option (DataW Value × List MemPlace) := fun v => some (.held v, [])
theorem und82 : Tryd.prog.underlying 82 = some (.array 9 80) := by kernel_rfl
theorem und80 : Tryd.prog.underlying 80 = some (.int .i8) := by kernel_rfl
theorem cells82 : Tryd.prog.cellsOf 82 = 9 := by kernel_rfl
theorem cells80 : Tryd.prog.cellsOf 80 = 1 := by kernel_rfl
theorem keyType82 : Tryd.prog.keyType 82 = true := by kernel_rfl
theorem undMap : Tryd.prog.underlying 123 = some (.map 82 82) := by kernel_rfl
theorem posKey : Maps.Keyed Tryd.prog 82 := Maps.Keyed.of_law (deep_law_laid (by kernel_rfl) (m := 2) (by omega) (of_decide_eq_true (by kernel_rfl)) (by kernel_rfl) (by rw [und82]))
theorem zero82 (w : World) : (zeroValue 82).run Tryd.prog w = .ok (nineV fun _ => 0) w := by kernel_rfl
theorem wf_small {x : Int} (h0 : 0 ≤ x) (h : x < 9) : (Lit.int .i8 x).wf = true := by
 have h1 : x = 0 ∨ x = 1 ∨ x = 2 ∨ x = 3 ∨ x = 4 ∨ x = 5 ∨ x = 6 ∨ x = 7 ∨ x = 8 := by omega
 rcases h1 with rfl | rfl | rfl | rfl | rfl | rfl | rfl | rfl | rfl <;> decide
theorem key_ex {f : Nat → Int} (h : ∀ i, i < 9 → 0 ≤ f i ∧ f i < 9) : ∃ l, keyOf Tryd.prog 82 (nineV f) = some l := by
 have hf : (nineV f).formed Tryd.prog 82 = true := by simp [nineV, Value.formed, und82, cells82]
 obtain ⟨d, hd⟩ : ∃ d, Tryd.prog.types.size = d + 1 := ⟨Tryd.prog.types.size - 1, by have : 0 < Tryd.prog.types.size := of_decide_eq_true (by kernel_rfl); omega⟩
 have h1 : ∀ i, i < 9 → Tryd.prog.keyLits (d + 1) 80 [.int .i8 (f i)] = some [.int .i8 (f i)] := fun i hi => by
  unfold Program.keyLits
  rw [und80]
  simp [wf_small (h i hi).1 (h i hi).2]
 have h2 : Tryd.prog.keyLits (d + 1 + 1) 82 (nineV f).cells.toList = some [.int .i8 (f 0), .int .i8 (f 1), .int .i8 (f 2), .int .i8 (f 3), .int .i8 (f 4), .int .i8 (f 5), .int .i8 (f 6), .int .i8 (f 7), .int .i8 (f 8)] := by
  unfold Program.keyLits
  rw [und82]
  simp [nineV, Value.cells, cells82, cells80, List.range_succ, h1]
 refine ⟨.string (keyBytes [.int .i8 (f 0), .int .i8 (f 1), .int .i8 (f 2), .int .i8 (f 3), .int .i8 (f 4), .int .i8 (f 5), .int .i8 (f 6), .int .i8 (f 7), .int .i8 (f 8)]), ?_⟩
 unfold keyOf
 rw [und82]
 simp only [keyType82, hf, Bool.and_self, if_true]
 rw [hd, h2]
 rfl
def lookF (par : List (List Int × List Int)) (q : List Int) : Nat → Int := match par.find? (fun x => x.1 == q) with
 | some x => posF x.2 x.2.length
 | none => fun _ => 0
def keysP (par : List (List Int × List Int)) : List (List Int) := par.map (·.1)
theorem find_keys (par : List (List Int × List Int)) (q : List Int) : (par.find? (fun x => x.1 == q)).isSome = decide (q ∈ keysP par) := by
 rw [Bool.eq_iff_iff, List.find?_isSome, decide_eq_true_eq]
 unfold keysP
 rw [List.mem_map]
 simp only [beq_iff_eq]
theorem lookF_old {par : List (List Int × List Int)} {q : List Int} (h : q ∈ keysP par) (x : List Int × List Int) : lookF (par ++ [x]) q = lookF par q := by
 unfold lookF
 have := find_keys par q
 rw [decide_eq_true h] at this
 obtain ⟨y, hy⟩ := Option.isSome_iff_exists.1 this
 rw [List.find?_append, hy]; rfl
theorem lookF_new {par : List (List Int × List Int)} {q v : List Int} (h : q ∉ keysP par) : lookF (par ++ [(q, v)]) q = posF v v.length := by
 unfold lookF
 have := find_keys par q
 rw [decide_eq_false h] at this
 have hn : par.find? (fun x => x.1 == q) = none := by
  cases hf : par.find? (fun x => x.1 == q) with
  | none => rfl
  | some y => rw [hf] at this; cases this
 rw [List.find?_append, hn]; simp
theorem keysP_snoc (par : List (List Int × List Int)) (q v : List Int) : keysP (par ++ [(q, v)]) = keysP par ++ [q] := by unfold keysP; simp
def MapAt (N : Nat) (w : World) (m : Nat) (par : List (List Int × List Int)) : Prop :=
 ∃ D : DataW Value, w.ownsMap Tryd.prog 82 mapRd m par.length D ∧ ∀ q, PosP N q → ∀ l, keyOf Tryd.prog 82 (nineV (posF q q.length)) = some l → Maps.has D l = decide (q ∈ keysP par) ∧ (q ∈ keysP par → ∀ z, D.atKey l z = .held (nineV (lookF par q)))
theorem posF_small {N : Nat} {q : List Int} (hq : PosP N q) (hN9 : N ≤ 9) : ∀ i, i < 9 → 0 ≤ posF q q.length i ∧ posF q q.length i < 9 := fun i hi => by
 have := posF_at hq hN9 hi; exact ⟨this.1, this.2.1⟩
theorem nineV_inj {f g : Nat → Int} (h : nineV f = nineV g) : ∀ i, i < 9 → f i = g i := by
 unfold nineV at h
 injection h with h
 have h2 := congrArg Array.toList h
 simp at h2
 intro i hi
 rcases (by omega : i = 0 ∨ i = 1 ∨ i = 2 ∨ i = 3 ∨ i = 4 ∨ i = 5 ∨ i = 6 ∨ i = 7 ∨ i = 8) with rfl | rfl | rfl | rfl | rfl | rfl | rfl | rfl | rfl <;> simp [h2]
theorem pos_nine {N : Nat} {p q : List Int} (hp : PosP N p) (hq : PosP N q) (hN9 : N ≤ 9) (h : nineV (posF p p.length) = nineV (posF q q.length)) : p = q := by
 have h1 := nineV_inj h
 have hpl := hp.len
 have hql := hq.len
 refine ext_getD (by omega) fun j hj => ?_
 have := h1 j (by omega)
 unfold posF at this
 rwa [if_pos (by omega), if_pos (by omega)] at this
section
variable {N : Nat} {w : World} {m : Nat} {par : List (List Int × List Int)}
theorem MapAt.lt (h : MapAt N w m par) : m < w.heap.size := by obtain ⟨D, h, _⟩ := h; exact h.lt
theorem MapAt.block (h : MapAt N w m par) {w' : World} (hb : w'.heap[m]? = w.heap[m]?) : MapAt N w' m par := by
 obtain ⟨D, ⟨es, clock, h1, r⟩, h2⟩ := h
 exact ⟨D, ⟨es, clock, hb.trans h1, r⟩, h2⟩
theorem MapAt.same (h : MapAt N w m par) {K : Nat → Prop} {w' : World} (hs : Same K w w') (hK : K m) : MapAt N w' m par := h.block (hs.block m h.lt hK)
theorem MapAt.below (h : MapAt N w m par) {w' : World} (hb : Below w.heap.size w w') : MapAt N w' m par := h.block (hb.block m h.lt)
theorem MapAt.look (h : MapAt N w m par) (hN9 : N ≤ 9) {q : List Int} (hq : PosP N q) :
  (Instr.lookup 123 (.map (some m)) (nineV (posF q q.length)) true).run Tryd.prog w = .ok (.tuple #[nineV (lookF par q), .bool (decide (q ∈ keysP par))]) w := by
 obtain ⟨D, h1, h2⟩ := h
 obtain ⟨l, hl⟩ := key_ex (posF_small hq hN9)
 obtain ⟨h3, h4⟩ := h2 q hq l hl
 obtain ⟨v, ps, hrun, hv⟩ := h1.look_ok posKey undMap (zero82 w) (zd := .held (nineV fun _ => 0)) (zp := []) rfl hl
 rw [hrun, h3]
 have hv' : DataW.held v = D.atKey l (.held (nineV fun _ => 0)) := by
  have := congrArg (Option.map Prod.fst) hv
  simpa using this
 have : v = nineV (lookF par q) := by
  by_cases hk : q ∈ keysP par
  ·rw [h4 hk] at hv'
   injection hv'
  ·rw [Maps.atKey_of_not_has (by rw [h3, decide_eq_false hk])] at hv'
   have hf := find_keys par q
   rw [decide_eq_false hk] at hf
   unfold lookF
   cases hff : par.find? (fun x => x.1 == q) with
   | none => injection hv'
   | some y => rw [hff] at hf; cases hf
 rw [this]
theorem MapAt.get (h : MapAt N w m par) (hN9 : N ≤ 9) {q : List Int} (hq : PosP N q) :
  (Instr.lookup 123 (.map (some m)) (nineV (posF q q.length)) false).run Tryd.prog w = .ok (nineV (lookF par q)) w := by
 obtain ⟨D, h1, h2⟩ := h
 obtain ⟨l, hl⟩ := key_ex (posF_small hq hN9)
 obtain ⟨h3, h4⟩ := h2 q hq l hl
 obtain ⟨v, ps, hrun, hv⟩ := h1.lookup posKey undMap (zero82 w) (zd := .held (nineV fun _ => 0)) (zp := []) rfl hl
 rw [hrun]
 have hv' : DataW.held v = D.atKey l (.held (nineV fun _ => 0)) := by
  have := congrArg (Option.map Prod.fst) hv
  simpa using this
 have : v = nineV (lookF par q) := by
  by_cases hk : q ∈ keysP par
  ·rw [h4 hk] at hv'
   injection hv'
  ·rw [Maps.atKey_of_not_has (by rw [h3, decide_eq_false hk])] at hv'
   have hf := find_keys par q
   rw [decide_eq_false hk] at hf
   unfold lookF
   cases hff : par.find? (fun x => x.1 == q) with
   | none => injection hv'
   | some y => rw [hff] at hf; cases hf
 rw [this]
theorem MapAt.put (h : MapAt N w m par) (hN9 : N ≤ 9) {q v : List Int} (hq : PosP N q) (hn : q ∉ keysP par) (hlen : par.length < maxLen) :
  ∃ w', (Instr.mapUpdate 123 (.map (some m)) (nineV (posF q q.length)) (nineV (posF v v.length))).run Tryd.prog w = .ok () w' ∧ MapAt N w' m (par ++ [(q, v)]) ∧ w.grownBy w' (some m) := by
 obtain ⟨D, h1, h2⟩ := h
 obtain ⟨l, hl⟩ := key_ex (posF_small hq hN9)
 obtain ⟨w', hrun, ho, hg⟩ := h1.update posKey undMap hlen (d := .held (nineV (posF v v.length))) (ps := []) hl rfl
 refine ⟨w', hrun, ⟨_, by rw [List.length_append]; exact ho, fun q' hq' l' hl' => ?_⟩, hg⟩
 obtain ⟨h3, h4⟩ := h2 q' hq' l' hl'
 rw [keysP_snoc]
 by_cases hqq : q' = q
 ·subst hqq
  rw [hl] at hl'
  cases hl'
  refine ⟨?_, fun _ z => ?_⟩
  ·rw [Maps.has_put_same h1.isMap (posKey.key hl)]; simp
  ·rw [Maps.atKey_put_same h1.isMap (posKey.key hl), lookF_new hn]
 ·have hll : l' ≠ l := fun e => hqq (pos_nine hq' hq hN9 (posKey.inj (e ▸ hl') hl))
  refine ⟨?_, fun hm z => ?_⟩
  ·rw [Maps.has_put_other hll, h3]
   simp [hqq]
  ·have hm' : q' ∈ keysP par := by
    rcases List.mem_append.1 hm with hm | hm
    ·exact hm
    ·exact absurd (List.mem_singleton.1 hm) hqq
   rw [Maps.atKey_put_other hll, h4 hm', lookF_old hm']
end
end Go.Proofs.YtllhejjcmfiebaaDoor
namespace Go.Proofs.YtllhejjcmfiebaaDoor
open Go.RowKit Go.Shelf
theorem okSt_no {l : List Oper} {e : List Nat} {i s : Nat} (h : okSt l e i s = true) (h' : okSt l e i s = false) : False := by rw [h'] at h; cases h
set_option maxRecDepth 100000 in
set_option maxHeartbeats 1000000 in
theorem store9 (w : World) (g : Nat) (f G : Nat → Int) (h : Row 82 w g (nineL f)) : (Instr.storeAt 82 (.pointer (some ⟨g, 0, none⟩)) (nineV G)).run Tryd.prog w = .ok () (st9 w g G) := by
 obtain ⟨c0, c1, c2, c3, c4, c5, c6, c7, c8⟩ := nine_cells h
 have f0 := h.free 0
 have f1 := h.free 1
 have f2 := h.free 2
 have f3 := h.free 3
 have f4 := h.free 4
 have f5 := h.free 5
 have f6 := h.free 6
 have f7 := h.free 7
 have f8 := h.free 8
 clear h
 unfold nineV st9
 go_simp
theorem exec_store9 {f : Operand → Value} {o : Oper} {X : World} {g : Nat} {F G : Nat → Int} {s x : Operand} (hr : Row 82 X g (nineL F)) (ho : o.op = .store 82 s x) (hs : f s = .pointer (some ⟨g, 0, none⟩)) (hx : f x = nineV G) : (execOp f o).run Tryd.prog X = .ok .skip (st9 X g G) := by
 have := store9 X g F G hr
 unfold execOp
 simp only [ho, hs, hx, Sem.run_bind, this, Result.andThen_ok, Sem.run_pure]
def SrchR (w : World) (sg g m : Nat) (nv : Value) : Prop := Row 125 w sg [.pointer (some ⟨g, 0, none⟩), .map (some m), nv]
set_option maxRecDepth 100000 in
set_option maxHeartbeats 4000000 in
theorem knows_go (N sg g m : Nat) (nv : Value) (par : List (List Int × List Int)) (q : List Int) (w : World) (hs : SrchR w sg g m nv) (hm : MapAt N w m par) (hN9 : N ≤ 9) (hq : PosP N q) :
  Calls Tryd.prog 90 #[.pointer (some ⟨sg, 0, none⟩), nineV (posF q q.length)] w fun e w' => e = .returned (.bool (decide (q ∈ keysP par))) ∧ Below w.heap.size w w' := by
 obtain ⟨P0, hP0⟩ : ∃ P0, posF q q.length = P0 := ⟨_, rfl⟩
 have hb1 := row_new 82 w (nineL P0).toArray
 have hbw1 := (Below.refl w.heap.size w).alloc (Nat.le_refl _) (.cells (nineL P0).toArray 82)
 obtain ⟨B, hB⟩ : ∃ B, w.heap.size = B := ⟨_, rfl⟩
 obtain ⟨W1, hW1⟩ : ∃ W1, w.alloc (.cells (nineL P0).toArray 82) = W1 := ⟨_, rfl⟩
 rw [hW1] at hb1 hbw1
 have hW1s : W1.heap.size = B + 1 := by rw [← hW1, World.size_alloc, hB]
 have hsl := Row.lt hs
 have hml := hm.lt
 rw [hB] at hb1
 have HBW1 := Lib.hid hbw1
 have hW : w.alloc (.cells #[.int .i8 (P0 0), .int .i8 (P0 1), .int .i8 (P0 2), .int .i8 (P0 3), .int .i8 (P0 4), .int .i8 (P0 5), .int .i8 (P0 6), .int .i8 (P0 7), .int .i8 (P0 8)] 82) = W1 := hW1
 obtain ⟨G, hG⟩ : ∃ G, lookF par q = G := ⟨_, rfl⟩
 obtain ⟨b, hb⟩ : ∃ b, decide (q ∈ keysP par) = b := ⟨_, rfl⟩
 obtain ⟨X0, hX0⟩ : ∃ X0 : World, W1.drew = X0 := ⟨_, rfl⟩
 obtain ⟨X1, hX1⟩ : ∃ X1, X0.alloc (.cells #[.int .i8 0, .int .i8 0, .int .i8 0, .int .i8 0, .int .i8 0, .int .i8 0, .int .i8 0, .int .i8 0, .int .i8 0] 82) = X1 := ⟨_, rfl⟩
 have hX0s : X0.heap.size = B + 1 := by rw [← hX0]; exact hW1s
 have hr5 := row_new 82 X0 #[.int .i8 0, .int .i8 0, .int .i8 0, .int .i8 0, .int .i8 0, .int .i8 0, .int .i8 0, .int .i8 0, .int .i8 0]
 rw [hX1, hX0s] at hr5
 have hr5' : Row 82 X1 (B + 1) (nineL (ownF 0)) := hr5
 obtain ⟨X2, hX2⟩ : ∃ X2, st9 X1 (B + 1) G = X2 := ⟨_, rfl⟩
 have hb0 : Below (B + 1) W1 X0 := by rw [← hX0]; exact (Below.refl (B + 1) W1).drew
 have hb01 : Below (B + 1) W1 X1 := by rw [← hX1]; exact hb0.alloc (by rw [hX0s]; exact Nat.le_refl _) _
 have hb02 : Below (B + 1) W1 X2 := by rw [← hX2]; exact below_st9 G hb01 (Nat.le_refl _)
 have hsr : ∀ X, Below (B + 1) W1 X → SrchR X sg g m nv := fun X hx => (Row.below hs hbw1 hsl).below hx (by omega)
 have hmr : ∀ X, Below (B + 1) W1 X → (Instr.lookup 123 (.map (some m)) (nineV P0) true).run Tryd.prog X = .ok (.tuple #[nineV G, .bool b]) X := fun X hx => by
  have h1 : MapAt N X m par := (hm.below hbw1).block (hx.block m (by omega))
  have := h1.look hN9 hq
  rw [hP0, hG, hb] at this
  exact this
 have hbr : ∀ X, Below (B + 1) W1 X → Row 82 X B (nineL P0) := fun X hx => hb1.below hx (by omega)
 have HSR := Lib.hid hsr
 have HMR := Lib.hid hmr
 have HBR := Lib.hid hbr
 have HR5 := Lib.hid hr5'
 have HX0 : Hid (Below (B + 1) W1 X0) := hb0
 have HX1 : Hid (Below (B + 1) W1 X1) := hb01
 have HX2 : Hid (Below (B + 1) W1 X2) := hb02
 have HXD := Lib.hid hX0
 have HXA := Lib.hid hX1
 have HXS := Lib.hid hX2
 rw [hP0, hb]
 clear hb1 hbw1 hsr hmr hbr hr5 hr5' hP0 hG hb hW1 hs hm hq hb0 hb01 hX0 hX1 hX2
 have HB02 := Lib.hid hb02
 clear hb02
 unfold nineV
 go_enter Tryd.func90, Tryd.ntmps90
 go_wp2
 refine wp_region_det (by kernel_rfl) 17 rfl (by kernel_rfl) [9, 10] (by kernel_rfl) (by decide) (fun j => match j with | 0 => .pointer (some ⟨sg, 0, none⟩) | 1 => .pointer (some ⟨sg, 0, none⟩) | 2 => .pointer (some ⟨sg, 1, none⟩) | 3 => .map (some m) | 4 => .agg #[.int .i8 (P0 0), .int .i8 (P0 1), .int .i8 (P0 2), .int .i8 (P0 3), .int .i8 (P0 4), .int .i8 (P0 5), .int .i8 (P0 6), .int .i8 (P0 7), .int .i8 (P0 8)] | 5 => .tuple #[.agg #[.int .i8 (G 0), .int .i8 (G 1), .int .i8 (G 2), .int .i8 (G 3), .int .i8 (G 4), .int .i8 (G 5), .int .i8 (G 6), .int .i8 (G 7), .int .i8 (G 8)], .bool b] | 6 => .tuple #[.agg #[.int .i8 (G 0), .int .i8 (G 1), .int .i8 (G 2), .int .i8 (G 3), .int .i8 (G 4), .int .i8 (G 5), .int .i8 (G 6), .int .i8 (G 7), .int .i8 (G 8)], .bool b] | 7 => .agg #[.int .i8 (G 0), .int .i8 (G 1), .int .i8 (G 2), .int .i8 (G 3), .int .i8 (G 4), .int .i8 (G 5), .int .i8 (G 6), .int .i8 (G 7), .int .i8 (G 8)] | 8 => .bool b | 9 => .pointer (some ⟨B + 1, 0, none⟩) | 10 => undef | 11 => .bool b | _ => undef) (fun s => match s with | 0 => X0 | 1 => X1 | _ => X2) HXD.out.symm ?hop ?hQ
 case hop =>
  intro i o hi s hs hok vs0 hv
  have hi' : i < 12 := (List.getElem?_eq_some_iff.1 hi).1
  have hs' : s ≤ 2 := hs
  have hs3 : s = 0 ∨ s = 1 ∨ s = 2 := by clear hok hv hi hs; omega
  have hi3 : i = 0 ∨ i = 1 ∨ i = 2 ∨ i = 3 ∨ i = 4 ∨ i = 5 ∨ i = 6 ∨ i = 7 ∨ i = 8 ∨ i = 9 ∨ i = 10 ∨ i = 11 := by clear hok hv hi hs hs3; omega
  clear hs hs' hi'
  rcases hi3 with rfl | rfl | rfl | rfl | rfl | rfl | rfl | rfl | rfl | rfl | rfl | rfl
  ·cases hi
   generalize hG : relUpon _ _ _ = G9
   clear hv
   refine ⟨rfl, ?_⟩
   rcases hs3 with rfl | rfl | rfl
   ·first
     | (clear hok; subst hG; generalize hR : (fun (u : Value) (w2 : World) => u = _ ∧ w2 = _) = R; simp only [List.take_succ_cons, List.take_zero, putAll]; go_simp; subst hR; exact ⟨rfl, rfl⟩)
   ·first
     | (clear hok; subst hG; generalize hR : (fun (u : Value) (w2 : World) => u = _ ∧ w2 = _) = R; simp only [List.take_succ_cons, List.take_zero, putAll]; go_simp; subst hR; exact ⟨rfl, rfl⟩)
   ·exact (okSt_no hok (by kernel_rfl)).elim
  ·cases hi
   generalize hG : relUpon _ _ _ = G9
   have q0_ : vs0 0 = .pointer (some ⟨sg, 0, none⟩) := hv 0 (by decide +kernel)
   clear hv
   refine ⟨rfl, ?_⟩
   rcases hs3 with rfl | rfl | rfl
   ·first
     | (clear hok; subst hG; generalize hR : (fun (u : Value) (w2 : World) => u = _ ∧ w2 = _) = R; simp only [List.take_succ_cons, List.take_zero, putAll]; go_simp; subst hR; exact ⟨rfl, rfl⟩)
   ·first
     | (clear hok; subst hG; generalize hR : (fun (u : Value) (w2 : World) => u = _ ∧ w2 = _) = R; simp only [List.take_succ_cons, List.take_zero, putAll]; go_simp; subst hR; exact ⟨rfl, rfl⟩)
   ·exact (okSt_no hok (by kernel_rfl)).elim
  ·cases hi
   generalize hG : relUpon _ _ _ = G9
   have q1_ : vs0 1 = .pointer (some ⟨sg, 0, none⟩) := hv 1 (by decide +kernel)
   clear hv
   refine ⟨rfl, ?_⟩
   rcases hs3 with rfl | rfl | rfl
   ·first
     | (clear hok; subst hG; generalize hR : (fun (u : Value) (w2 : World) => u = _ ∧ w2 = _) = R; simp only [List.take_succ_cons, List.take_zero, putAll]; go_simp; subst hR; exact ⟨rfl, rfl⟩)
   ·first
     | (clear hok; subst hG; generalize hR : (fun (u : Value) (w2 : World) => u = _ ∧ w2 = _) = R; simp only [List.take_succ_cons, List.take_zero, putAll]; go_simp; subst hR; exact ⟨rfl, rfl⟩)
   ·exact (okSt_no hok (by kernel_rfl)).elim
  ·cases hi
   generalize hG : relUpon _ _ _ = G9
   have q2_ : vs0 2 = .pointer (some ⟨sg, 1, none⟩) := hv 2 (by decide +kernel)
   clear hv
   refine ⟨rfl, ?_⟩
   rcases hs3 with rfl | rfl | rfl
   ·first
     | (clear hok; subst hG; generalize hR : (fun (u : Value) (w2 : World) => u = _ ∧ w2 = _) = R; simp only [List.take_succ_cons, List.take_zero, putAll]; have t := (HSR.out X0 HX0.out).cell 1; simp only [List.getElem?_cons_succ, List.getElem?_cons_zero] at t; go_simp; subst hR; exact ⟨rfl, rfl⟩)
   ·first
     | (clear hok; subst hG; generalize hR : (fun (u : Value) (w2 : World) => u = _ ∧ w2 = _) = R; simp only [List.take_succ_cons, List.take_zero, putAll]; have t := (HSR.out X1 HX1.out).cell 1; simp only [List.getElem?_cons_succ, List.getElem?_cons_zero] at t; go_simp; subst hR; exact ⟨rfl, rfl⟩)
   ·exact (okSt_no hok (by kernel_rfl)).elim
  ·cases hi
   generalize hG : relUpon _ _ _ = G9
   clear hv
   refine ⟨rfl, ?_⟩
   rcases hs3 with rfl | rfl | rfl
   ·first
     | (clear hok; subst hG; generalize hR : (fun (u : Value) (w2 : World) => u = _ ∧ w2 = _) = R; simp only [List.take_succ_cons, List.take_zero, putAll]; obtain ⟨a0, a1, a2, a3, a4, a5, a6, a7, a8⟩ := nine_cells (HBR.out X0 HX0.out); go_simp; subst hR; exact ⟨rfl, rfl⟩)
   ·first
     | (clear hok; subst hG; generalize hR : (fun (u : Value) (w2 : World) => u = _ ∧ w2 = _) = R; simp only [List.take_succ_cons, List.take_zero, putAll]; obtain ⟨a0, a1, a2, a3, a4, a5, a6, a7, a8⟩ := nine_cells (HBR.out X1 HX1.out); go_simp; subst hR; exact ⟨rfl, rfl⟩)
   ·exact (okSt_no hok (by kernel_rfl)).elim
  ·cases hi
   generalize hG : relUpon _ _ _ = G9
   have q3_ : vs0 3 = .map (some m) := hv 3 (by decide +kernel)
   have q4_ : vs0 4 = .agg #[.int .i8 (P0 0), .int .i8 (P0 1), .int .i8 (P0 2), .int .i8 (P0 3), .int .i8 (P0 4), .int .i8 (P0 5), .int .i8 (P0 6), .int .i8 (P0 7), .int .i8 (P0 8)] := hv 4 (by decide +kernel)
   clear hv
   refine ⟨rfl, ?_⟩
   rcases hs3 with rfl | rfl | rfl
   ·first
     | (clear hok; subst hG; generalize hR : (fun (u : Value) (w2 : World) => u = _ ∧ w2 = _) = R; simp only [List.take_succ_cons, List.take_zero, putAll]; have l := HMR.out X0 HX0.out; unfold nineV at l; go_simp; subst hR; exact ⟨rfl, rfl⟩)
   ·first
     | (clear hok; subst hG; generalize hR : (fun (u : Value) (w2 : World) => u = _ ∧ w2 = _) = R; simp only [List.take_succ_cons, List.take_zero, putAll]; have l := HMR.out X1 HX1.out; unfold nineV at l; go_simp; subst hR; exact ⟨rfl, rfl⟩)
   ·exact (okSt_no hok (by kernel_rfl)).elim
  ·cases hi
   generalize hG : relUpon _ _ _ = G9
   have q5_ : vs0 5 = .tuple #[.agg #[.int .i8 (G 0), .int .i8 (G 1), .int .i8 (G 2), .int .i8 (G 3), .int .i8 (G 4), .int .i8 (G 5), .int .i8 (G 6), .int .i8 (G 7), .int .i8 (G 8)], .bool b] := hv 5 (by decide +kernel)
   clear hv
   refine ⟨rfl, ?_⟩
   rcases hs3 with rfl | rfl | rfl
   ·first
     | (clear hok; subst hG; generalize hR : (fun (u : Value) (w2 : World) => u = _ ∧ w2 = _) = R; simp only [List.take_succ_cons, List.take_zero, putAll]; go_simp; subst hR; exact ⟨rfl, rfl⟩)
   ·first
     | (clear hok; subst hG; generalize hR : (fun (u : Value) (w2 : World) => u = _ ∧ w2 = _) = R; simp only [List.take_succ_cons, List.take_zero, putAll]; go_simp; subst hR; exact ⟨rfl, rfl⟩)
   ·exact (okSt_no hok (by kernel_rfl)).elim
  ·cases hi
   generalize hG : relUpon _ _ _ = G9
   have q6_ : vs0 6 = .tuple #[.agg #[.int .i8 (G 0), .int .i8 (G 1), .int .i8 (G 2), .int .i8 (G 3), .int .i8 (G 4), .int .i8 (G 5), .int .i8 (G 6), .int .i8 (G 7), .int .i8 (G 8)], .bool b] := hv 6 (by decide +kernel)
   clear hv
   refine ⟨rfl, ?_⟩
   rcases hs3 with rfl | rfl | rfl
   ·first
     | (clear hok; subst hG; generalize hR : (fun (u : Value) (w2 : World) => u = _ ∧ w2 = _) = R; simp only [List.take_succ_cons, List.take_zero, putAll]; go_simp; subst hR; exact ⟨rfl, rfl⟩)
   ·first
     | (clear hok; subst hG; generalize hR : (fun (u : Value) (w2 : World) => u = _ ∧ w2 = _) = R; simp only [List.take_succ_cons, List.take_zero, putAll]; go_simp; subst hR; exact ⟨rfl, rfl⟩)
   ·exact (okSt_no hok (by kernel_rfl)).elim
  ·cases hi
   generalize hG : relUpon _ _ _ = G9
   have q6_ : vs0 6 = .tuple #[.agg #[.int .i8 (G 0), .int .i8 (G 1), .int .i8 (G 2), .int .i8 (G 3), .int .i8 (G 4), .int .i8 (G 5), .int .i8 (G 6), .int .i8 (G 7), .int .i8 (G 8)], .bool b] := hv 6 (by decide +kernel)
   clear hv
   refine ⟨rfl, ?_⟩
   rcases hs3 with rfl | rfl | rfl
   ·first
     | (clear hok; subst hG; generalize hR : (fun (u : Value) (w2 : World) => u = _ ∧ w2 = _) = R; simp only [List.take_succ_cons, List.take_zero, putAll]; go_simp; subst hR; exact ⟨rfl, rfl⟩)
   ·first
     | (clear hok; subst hG; generalize hR : (fun (u : Value) (w2 : World) => u = _ ∧ w2 = _) = R; simp only [List.take_succ_cons, List.take_zero, putAll]; go_simp; subst hR; exact ⟨rfl, rfl⟩)
   ·first
     | (clear hok; subst hG; generalize hR : (fun (u : Value) (w2 : World) => u = _ ∧ w2 = _) = R; simp only [List.take_succ_cons, List.take_zero, putAll]; go_simp; subst hR; exact ⟨rfl, rfl⟩)
  ·cases hi
   generalize hG : relUpon _ _ _ = G9
   clear hv
   refine ⟨rfl, ?_⟩
   rcases hs3 with rfl | rfl | rfl
   ·first
     | (clear hok; subst hG; generalize hR : (fun (u : Value) (w2 : World) => u = _ ∧ w2 = _) = R; simp only [List.take_succ_cons, List.take_zero, putAll]; have hxa := HXA.out; go_simp; subst hR; exact ⟨rfl, rfl⟩)
   ·exact (okSt_no hok (by kernel_rfl)).elim
   ·exact (okSt_no hok (by kernel_rfl)).elim
  ·cases hi
   generalize hG : relUpon _ _ _ = G9
   have q9_ : vs0 9 = .pointer (some ⟨B + 1, 0, none⟩) := hv 9 (by decide +kernel)
   have q7_ : vs0 7 = .agg #[.int .i8 (G 0), .int .i8 (G 1), .int .i8 (G 2), .int .i8 (G 3), .int .i8 (G 4), .int .i8 (G 5), .int .i8 (G 6), .int .i8 (G 7), .int .i8 (G 8)] := hv 7 (by decide +kernel)
   clear hv
   refine ⟨rfl, ?_⟩
   rcases hs3 with rfl | rfl | rfl
   ·exact (okSt_no hok (by kernel_rfl)).elim
   ·clear hok
    subst hG
    generalize hX : Sem.run _ (execOp _ _) _ = r9
    simp only [List.take_succ_cons, List.take_zero, putAll] at hX
    rw [exec_store9 (G := G) HR5.out rfl (by go_simp) (by go_simp; rfl)] at hX
    subst hX
    exact ⟨rfl, HXS.out⟩
   ·exact (okSt_no hok (by kernel_rfl)).elim
  ·cases hi
   generalize hG : relUpon _ _ _ = G9
   have q8_ : vs0 8 = .bool b := hv 8 (by decide +kernel)
   clear hv
   refine ⟨rfl, ?_⟩
   rcases hs3 with rfl | rfl | rfl
   ·exact (okSt_no hok (by kernel_rfl)).elim
   ·exact (okSt_no hok (by kernel_rfl)).elim
   ·first
     | (clear hok; subst hG; generalize hR : (fun (u : Value) (w2 : World) => u = _ ∧ w2 = _) = R; simp only [List.take_succ_cons, List.take_zero, putAll]; go_simp; subst hR; exact ⟨rfl, rfl⟩)
 case hQ =>
  intro vs0 hv
  have e0_ : vs0 0 = .pointer (some ⟨sg, 0, none⟩) := hv 0 (by decide)
  have e1_ : vs0 1 = .pointer (some ⟨sg, 0, none⟩) := hv 1 (by decide)
  have e2_ : vs0 2 = .pointer (some ⟨sg, 1, none⟩) := hv 2 (by decide)
  have e3_ : vs0 3 = .map (some m) := hv 3 (by decide)
  have e4_ : vs0 4 = .agg #[.int .i8 (P0 0), .int .i8 (P0 1), .int .i8 (P0 2), .int .i8 (P0 3), .int .i8 (P0 4), .int .i8 (P0 5), .int .i8 (P0 6), .int .i8 (P0 7), .int .i8 (P0 8)] := hv 4 (by decide)
  have e5_ : vs0 5 = .tuple #[.agg #[.int .i8 (G 0), .int .i8 (G 1), .int .i8 (G 2), .int .i8 (G 3), .int .i8 (G 4), .int .i8 (G 5), .int .i8 (G 6), .int .i8 (G 7), .int .i8 (G 8)], .bool b] := hv 5 (by decide)
  have e6_ : vs0 6 = .tuple #[.agg #[.int .i8 (G 0), .int .i8 (G 1), .int .i8 (G 2), .int .i8 (G 3), .int .i8 (G 4), .int .i8 (G 5), .int .i8 (G 6), .int .i8 (G 7), .int .i8 (G 8)], .bool b] := hv 6 (by decide)
  have e7_ : vs0 7 = .agg #[.int .i8 (G 0), .int .i8 (G 1), .int .i8 (G 2), .int .i8 (G 3), .int .i8 (G 4), .int .i8 (G 5), .int .i8 (G 6), .int .i8 (G 7), .int .i8 (G 8)] := hv 7 (by decide)
  have e8_ : vs0 8 = .bool b := hv 8 (by decide)
  have e9_ : vs0 9 = .pointer (some ⟨B + 1, 0, none⟩) := hv 9 (by decide)
  have e10_ : vs0 10 = undef := hv 10 (by decide)
  have e11_ : vs0 11 = .bool b := hv 11 (by decide)
  generalize hKK : Exit.then _ _ = KK
  simp only [putAll, e0_, e1_, e2_, e3_, e4_, e5_, e6_, e7_, e8_, e9_, e10_, e11_]
  clear hv e0_ e1_ e2_ e3_ e4_ e5_ e6_ e7_ e8_ e9_ e10_ e11_
  go_simp
  subst hKK
  go_wp2
  go_ret
  exact ⟨rfl, (HBW1.out.mono (by omega)).trans (HB02.out.mono (by omega))⟩
end Go.Proofs.YtllhejjcmfiebaaDoor
