/- The search: searchFrom. -/
import Derived.Test.YtllhejjcmfiebaaDoorN4
import Derived.Test.YtllhejjcmfiebaaDoorN2
import Derived.Test.YtllhejjcmfiebaaDoorG4
import Derived.Carry
import Derived.Maps.AppendAt
set_option linter.unusedVariables false
set_option linter.unusedSimpArgs false
set_option linter.unnecessarySimpa false
namespace Go.Proofs.YtllhejjcmfiebaaDoor
open Go.RowKit Go.Shelf
theorem MapAt.made (N : Nat) (w : World) : MapAt N (w.alloc (.map #[] 0)) w.heap.size [] :=
 ⟨.map [], World.ownsMap_made w _ _ _, fun q hq l hl => ⟨rfl, fun h => by cases h⟩⟩
def sfV (g : Nat) (P0 : Nat → Int) (m sb sg : Nat) : Nat → Value
 | 0 => .pointer (some ⟨g, 0, none⟩)
 | 1 => .map (some m)
 | 2 => nineV P0
 | 3 => nineV P0
 | 5 => .map (some m)
 | 6 => nineV P0
 | 7 => .slice (some ⟨sb, 0, none⟩) 1 1
 | 8 => .agg #[.pointer (some ⟨g, 0, none⟩), .map (some m), .slice (some ⟨sb, 0, none⟩) 1 1]
 | 9 => .pointer (some ⟨sg, 0, none⟩)
 | 10 => .pointer (some ⟨sg, 0, none⟩)
 | _ => undef
theorem sfV_m (g : Nat) (P0 : Nat → Int) (m m' sb sg j : Nat) (h1 : j ≠ 1) (h5 : j ≠ 5) (h8 : j ≠ 8) : sfV g P0 m sb sg j = sfV g P0 m' sb sg j := by
 unfold sfV; split <;> simp_all
theorem sfV_sb (g : Nat) (P0 : Nat → Int) (m sb sb' sg j : Nat) (h7 : j ≠ 7) (h8 : j ≠ 8) : sfV g P0 m sb sg j = sfV g P0 m sb' sg j := by
 unfold sfV; split <;> simp_all
theorem sfV_sg (g : Nat) (P0 : Nat → Int) (m sb sg sg' j : Nat) (h9 : j ≠ 9) (h10 : j ≠ 10) : sfV g P0 m sb sg j = sfV g P0 m sb sg' j := by
 unfold sfV; split <;> simp_all
structure SfI (N g B : Nat) (p : List Int) (P0 : Nat → Int) (W0 : World) (m sb sg : Nat) (A : Nat → Prop) (vs : Nat → Value) (W : World) : Prop where
 val : ∀ j, A j → vs j = sfV g P0 m sb sg j
 mp : A 1 → B ≤ m ∧ ((¬ A 4 ∧ MapAt N W m []) ∨ (A 4 ∧ MapAt N W m [(p, p)]))
 sl : A 7 → B ≤ sb ∧ Row 82 W sb (nineL P0)
 bx : A 9 → B ≤ sg ∧ Row 125 W sg [.pointer (some ⟨g, 0, none⟩), .map (some m), .slice (some ⟨sb, 0, none⟩) 1 1]
 bel : Below B W0 W
section
variable {N g B : Nat} {p : List Int} {P0 : Nat → Int} {W0 : World} {m sb sg : Nat} {A : Nat → Prop} {vs : Nat → Value} {W : World}
theorem upd_val {f : Nat → Value} {i : Nat} {u : Value} (h : ∀ j, A j → vs j = f j) (hu : u = f i) : ∀ j, (j = i ∨ A j) → updV vs i u j = f j := by
 intro j hj
 by_cases hji : j = i
 ·subst hji; rw [updV_here]; exact hu
 ·rw [updV_other hji]; exact h j (hj.resolve_left hji)
theorem SfI.read (h : SfI N g B p P0 W0 m sb sg A vs W) {i : Nat} {u : Value} (hu : u = sfV g P0 m sb sg i) (h1 : i ≠ 1) (h4 : i ≠ 4) (h7 : i ≠ 7) (h9 : i ≠ 9) : SfI N g B p P0 W0 m sb sg (fun j => j = i ∨ A j) (updV vs i u) W :=
 ⟨upd_val h.val hu, fun hm => by
  obtain ⟨a, b⟩ := h.mp (hm.resolve_left (Ne.symm h1))
  exact ⟨a, b.elim (fun b => .inl ⟨fun c => b.1 (c.resolve_left (Ne.symm h4)), b.2⟩) (fun b => .inr ⟨.inr b.1, b.2⟩)⟩, fun hm => h.sl (hm.resolve_left (Ne.symm h7)), fun hm => h.bx (hm.resolve_left (Ne.symm h9)), h.bel⟩
theorem SfI.make (h : SfI N g B p P0 W0 m sb sg A vs W) (hB : B ≤ W.heap.size) (h1 : ¬ A 1) (hc4 : A 4 → A 1) (hc5 : A 5 → A 1) (hc8 : A 8 → A 1) (hc9 : A 9 → A 1) : SfI N g B p P0 W0 W.heap.size sb sg (fun j => j = 1 ∨ A j) (updV vs 1 (.map (some W.heap.size))) (W.alloc (.map #[] 0)) := by
 refine ⟨upd_val (fun j hj => ?_) rfl, fun _ => ⟨hB, .inl ⟨fun c => ?_, MapAt.made N W⟩⟩, fun hm => ?_, fun hm => ?_, h.bel.alloc hB _⟩
 ·rw [h.val j hj]
  exact sfV_m _ _ _ _ _ _ _ (fun e => h1 (e ▸ hj)) (fun e => h1 (hc5 (e ▸ hj))) (fun e => h1 (hc8 (e ▸ hj)))
 ·exact c.elim (fun e => by omega) (fun c => h1 (hc4 c))
 ·obtain ⟨a, b⟩ := h.sl (hm.resolve_left (by omega))
  exact ⟨a, b.alloc _⟩
 ·exact absurd (hc9 (hm.resolve_left (by omega))) h1
theorem SfI.ins (h : SfI N g B p P0 W0 m sb sg A vs W) (h4 : ¬ A 4) (h1 : A 1) {W' : World} (hm' : MapAt N W' m [(p, p)]) (hg : W.grownBy W' (some m)) (hB : B ≤ W.heap.size) : SfI N g B p P0 W0 m sb sg (fun j => j = 4 ∨ A j) (updV vs 4 undef) W' := by
 obtain ⟨a, b⟩ := h.mp h1
 have hmap : MapAt N W m [] := b.elim (fun b => b.2) (fun b => absurd b.1 h4)
 have hrow : ∀ {T s : Nat} {xs : List Value}, Row T W s xs → Row T W' s xs := fun hr => hr.grown hg fun e => by
  obtain ⟨D, ⟨es, clock, hb, _⟩, _⟩ := hmap
  have e' := Option.some.inj e
  subst e'
  unfold Row at hr
  rw [hr] at hb
  cases hb
 refine ⟨upd_val h.val rfl, fun _ => ⟨a, .inr ⟨.inl rfl, hm'⟩⟩, fun hm => ?_, fun hm => ?_, h.bel.grown hg hB (fun k e => by cases e; exact a)⟩
 ·obtain ⟨a, b⟩ := h.sl (hm.resolve_left (by omega))
  exact ⟨a, hrow b⟩
 ·obtain ⟨a, b⟩ := h.bx (hm.resolve_left (by omega))
  exact ⟨a, hrow b⟩
theorem SfI.slice (h : SfI N g B p P0 W0 m sb sg A vs W) (hB : B ≤ W.heap.size) (h7 : ¬ A 7) (hc8 : A 8 → A 7) (hc9 : A 9 → A 8) : SfI N g B p P0 W0 m W.heap.size sg (fun j => j = 7 ∨ A j) (updV vs 7 (.slice (some ⟨W.heap.size, 0, none⟩) 1 1)) (W.alloc (.cells (nineL P0).toArray 82)) := by
 refine ⟨upd_val (fun j hj => ?_) rfl, fun hm => ?_, fun _ => ⟨hB, row_new 82 W (nineL P0).toArray⟩, fun hm => ?_, h.bel.alloc hB _⟩
 ·rw [h.val j hj]
  exact sfV_sb _ _ _ _ _ _ _ (fun e => h7 (e ▸ hj)) (fun e => h7 (hc8 (e ▸ hj)))
 ·obtain ⟨a, b⟩ := h.mp (hm.resolve_left (by omega))
  have hb := below_alloc_refl W (.cells (nineL P0).toArray 82)
  exact ⟨a, b.elim (fun b => .inl ⟨fun c => b.1 (c.resolve_left (by omega)), b.2.below hb⟩) (fun b => .inr ⟨.inr b.1, b.2.below hb⟩)⟩
 ·exact absurd (hc8 (hc9 (hm.resolve_left (by omega)))) h7
theorem SfI.boxed (h : SfI N g B p P0 W0 m sb sg A vs W) (hB : B ≤ W.heap.size) (h9 : ¬ A 9) (hc10 : A 10 → A 9) : SfI N g B p P0 W0 m sb W.heap.size (fun j => j = 9 ∨ A j) (updV vs 9 (.pointer (some ⟨W.heap.size, 0, none⟩))) (W.alloc (.cells #[.pointer (some ⟨g, 0, none⟩), .map (some m), .slice (some ⟨sb, 0, none⟩) 1 1] 125)) := by
 refine ⟨upd_val (fun j hj => ?_) rfl, fun hm => ?_, fun hm => ?_, fun _ => ⟨hB, row_new 125 W #[.pointer (some ⟨g, 0, none⟩), .map (some m), .slice (some ⟨sb, 0, none⟩) 1 1]⟩, h.bel.alloc hB _⟩
 ·rw [h.val j hj]
  exact sfV_sg _ _ _ _ _ _ _ (fun e => h9 (e ▸ hj)) (fun e => h9 (hc10 (e ▸ hj)))
 ·obtain ⟨a, b⟩ := h.mp (hm.resolve_left (by omega))
  have hb := below_alloc_refl W (.cells #[.pointer (some ⟨g, 0, none⟩), .map (some m), .slice (some ⟨sb, 0, none⟩) 1 1] 125)
  exact ⟨a, b.elim (fun b => .inl ⟨fun c => b.1 (c.resolve_left (by omega)), b.2.below hb⟩) (fun b => .inr ⟨.inr b.1, b.2.below hb⟩)⟩
 ·obtain ⟨a, b⟩ := h.sl (hm.resolve_left (by omega))
  exact ⟨a, b.alloc _⟩
end
set_option maxRecDepth 100000 in
set_option maxHeartbeats 2000000 in
theorem from_go (N g : Nat) (p : List Int) (w : World) (hN9 : N ≤ 9) (hq : PosP N p) :
  Calls Tryd.prog 78 #[.pointer (some ⟨g, 0, none⟩), nineV (posF p p.length)] w fun e w' => ∃ sg m sb, e = .returned (.pointer (some ⟨sg, 0, none⟩)) ∧ w.heap.size ≤ sg ∧ w.heap.size ≤ m ∧ w.heap.size ≤ sb ∧ SrchR w' sg g m (.slice (some ⟨sb, 0, none⟩) 1 1) ∧ MapAt N w' m [(p, p)] ∧ Row 82 w' sb (nineL (posF p p.length)) ∧ Below w.heap.size w w' := by
 obtain ⟨P0, hP0⟩ : ∃ P0, posF p p.length = P0 := ⟨_, rfl⟩
 have HP0 := Lib.hid hP0
 have HQ := Lib.hid hq
 have hb1 := row_new 82 w (nineL P0).toArray
 have hbw1 := below_alloc_refl w (.cells (nineL P0).toArray 82)
 obtain ⟨W1, hW1⟩ : ∃ W1, w.alloc (.cells (nineL P0).toArray 82) = W1 := ⟨_, rfl⟩
 rw [hW1] at hb1 hbw1
 have hW : w.alloc (.cells #[.int .i8 (P0 0), .int .i8 (P0 1), .int .i8 (P0 2), .int .i8 (P0 3), .int .i8 (P0 4), .int .i8 (P0 5), .int .i8 (P0 6), .int .i8 (P0 7), .int .i8 (P0 8)] 82) = W1 := hW1
 have HBX := Lib.hid hb1
 have HBXL := Lib.hid hb1.lt
 have HBW := Lib.hid hbw1
 rw [hP0]
 clear hb1 hbw1 hP0 hq hW1
 unfold nineV
 go_enter Tryd.func78, Tryd.ntmps78
 go_wp2
 clear hW
 refine wp_region_gen (by kernel_rfl) 14 rfl (by kernel_rfl) (fun A vs W => ∃ m sb sg, SfI N g W1.heap.size p P0 W1 m sb sg A vs W) ?h0 ?hop ?hQ
 case h0 => exact ⟨0, 0, 0, (fun j h => h.elim), (fun h => h.elim), (fun h => h.elim), (fun h => h.elim), (Below.refl _ _).drew⟩
 case hop =>
  rintro i o hi A vs W hna hcl hp ⟨m, sb, sg, h⟩
  have hi' : i < 11 := (List.getElem?_eq_some_iff.1 hi).1
  have hi3 : i = 0 ∨ i = 1 ∨ i = 2 ∨ i = 3 ∨ i = 4 ∨ i = 5 ∨ i = 6 ∨ i = 7 ∨ i = 8 ∨ i = 9 ∨ i = 10 := by clear hi hcl hp hna h; omega
  have hB : W1.heap.size ≤ W.heap.size := h.bel.size
  clear hi'
  rcases hi3 with rfl | rfl | rfl | rfl | rfl | rfl | rfl | rfl | rfl | rfl | rfl
  ·cases hi
   generalize hG : relUpon _ _ _ = G9
   refine .inl ⟨rfl, ?_⟩
   subst hG
   generalize hR : (fun (u : Value) (w2 : World) => ∃ (m sb sg : Nat), SfI _ _ _ _ _ _ m sb sg _ _ w2) = R
   simp only [List.take_succ_cons, List.take_zero, putAll]
   go_simp
   subst hR
   exact ⟨m, sb, sg, h.read (i := 0) rfl (by omega) (by omega) (by omega) (by omega)⟩
  ·cases hi
   generalize hG : relUpon _ _ _ = G9
   refine .inl ⟨rfl, ?_⟩
   subst hG
   generalize hR : (fun (u : Value) (w2 : World) => ∃ (m sb sg : Nat), SfI _ _ _ _ _ _ m sb sg _ _ w2) = R
   simp only [List.take_succ_cons, List.take_zero, putAll]
   go_simp
   subst hR
   exact ⟨_, sb, sg, h.make hB hna (fun c => hcl 4 _ rfl c 1 (by decide +kernel)) (fun c => hcl 5 _ rfl c 1 (by decide +kernel)) (fun c => hcl 5 _ rfl (hcl 8 _ rfl c 5 (by decide +kernel)) 1 (by decide +kernel)) (fun c => hcl 5 _ rfl (hcl 8 _ rfl (hcl 9 _ rfl c 8 (by decide +kernel)) 5 (by decide +kernel)) 1 (by decide +kernel))⟩
  ·cases hi
   generalize hG : relUpon _ _ _ = G9
   refine .inl ⟨rfl, ?_⟩
   subst hG
   generalize hR : (fun (u : Value) (w2 : World) => ∃ (m sb sg : Nat), SfI _ _ _ _ _ _ m sb sg _ _ w2) = R
   have hbx := HBX.out.below h.bel HBXL.out
   obtain ⟨a0, a1, a2, a3, a4, a5, a6, a7, a8⟩ := nine_cells hbx
   simp only [List.take_succ_cons, List.take_zero, putAll]
   go_simp
   subst hR
   exact ⟨m, sb, sg, h.read (i := 2) rfl (by omega) (by omega) (by omega) (by omega)⟩
  ·cases hi
   generalize hG : relUpon _ _ _ = G9
   refine .inl ⟨rfl, ?_⟩
   subst hG
   generalize hR : (fun (u : Value) (w2 : World) => ∃ (m sb sg : Nat), SfI _ _ _ _ _ _ m sb sg _ _ w2) = R
   have hbx := HBX.out.below h.bel HBXL.out
   obtain ⟨a0, a1, a2, a3, a4, a5, a6, a7, a8⟩ := nine_cells hbx
   simp only [List.take_succ_cons, List.take_zero, putAll]
   go_simp
   subst hR
   exact ⟨m, sb, sg, h.read (i := 3) rfl (by omega) (by omega) (by omega) (by omega)⟩
  ·cases hi
   generalize hG : relUpon _ _ _ = G9
   have q1_ : vs 1 = _ := h.val 1 (hp 1 (by decide +kernel))
   have q2_ : vs 2 = _ := h.val 2 (hp 2 (by decide +kernel))
   have q3_ : vs 3 = _ := h.val 3 (hp 3 (by decide +kernel))
   refine .inl ⟨rfl, ?_⟩
   subst hG
   generalize hR : (fun (u : Value) (w2 : World) => ∃ (m sb sg : Nat), SfI _ _ _ _ _ _ m sb sg _ _ w2) = R
   obtain ⟨W', hrun, hm', hg⟩ := (((h.mp (hp 1 (by decide +kernel))).2.elim (fun b => b.2) (fun b => absurd b.1 hna))).put hN9 HQ.out (q := p) (v := p) (by intro c; cases c) (by decide)
   rw [HP0.out] at hrun
   unfold nineV at hrun
   simp only [List.take_succ_cons, List.take_zero, putAll]
   simp only [sfV, nineV] at q1_ q2_ q3_
   go_simp
   subst hR
   exact ⟨m, sb, sg, h.ins hna (hp 1 (by decide +kernel)) hm' hg hB⟩
  ·cases hi
   generalize hG : relUpon _ _ _ = G9
   have q1_ : vs 1 = _ := h.val 1 (hp 1 (by decide +kernel))
   refine .inl ⟨rfl, ?_⟩
   subst hG
   generalize hR : (fun (u : Value) (w2 : World) => ∃ (m sb sg : Nat), SfI _ _ _ _ _ _ m sb sg _ _ w2) = R
   simp only [List.take_succ_cons, List.take_zero, putAll]
   simp only [sfV, nineV] at q1_
   go_simp
   subst hR
   exact ⟨m, sb, sg, h.read (i := 5) rfl (by omega) (by omega) (by omega) (by omega)⟩
  ·cases hi
   generalize hG : relUpon _ _ _ = G9
   refine .inl ⟨rfl, ?_⟩
   subst hG
   generalize hR : (fun (u : Value) (w2 : World) => ∃ (m sb sg : Nat), SfI _ _ _ _ _ _ m sb sg _ _ w2) = R
   have hbx := HBX.out.below h.bel HBXL.out
   obtain ⟨a0, a1, a2, a3, a4, a5, a6, a7, a8⟩ := nine_cells hbx
   simp only [List.take_succ_cons, List.take_zero, putAll]
   go_simp
   subst hR
   exact ⟨m, sb, sg, h.read (i := 6) rfl (by omega) (by omega) (by omega) (by omega)⟩
  ·cases hi
   generalize hG : relUpon _ _ _ = G9
   have q6_ : vs 6 = _ := h.val 6 (hp 6 (by decide +kernel))
   refine .inl ⟨rfl, ?_⟩
   subst hG
   generalize hR : (fun (u : Value) (w2 : World) => ∃ (m sb sg : Nat), SfI _ _ _ _ _ _ m sb sg _ _ w2) = R
   simp only [List.take_succ_cons, List.take_zero, putAll]
   simp only [sfV, nineV] at q6_
   go_simp
   subst hR
   exact ⟨m, _, sg, h.slice hB hna (fun c => hcl 8 _ rfl c 7 (by decide +kernel)) (fun c => hcl 9 _ rfl c 8 (by decide +kernel))⟩
  ·cases hi
   generalize hG : relUpon _ _ _ = G9
   have q0_ : vs 0 = _ := h.val 0 (hp 0 (by decide +kernel))
   have q5_ : vs 5 = _ := h.val 5 (hp 5 (by decide +kernel))
   have q7_ : vs 7 = _ := h.val 7 (hp 7 (by decide +kernel))
   refine .inl ⟨rfl, ?_⟩
   subst hG
   generalize hR : (fun (u : Value) (w2 : World) => ∃ (m sb sg : Nat), SfI _ _ _ _ _ _ m sb sg _ _ w2) = R
   simp only [List.take_succ_cons, List.take_zero, putAll]
   simp only [sfV, nineV] at q0_ q5_ q7_
   go_simp
   subst hR
   exact ⟨m, sb, sg, h.read (i := 8) rfl (by omega) (by omega) (by omega) (by omega)⟩
  ·cases hi
   generalize hG : relUpon _ _ _ = G9
   have q8_ : vs 8 = _ := h.val 8 (hp 8 (by decide +kernel))
   refine .inl ⟨rfl, ?_⟩
   subst hG
   generalize hR : (fun (u : Value) (w2 : World) => ∃ (m sb sg : Nat), SfI _ _ _ _ _ _ m sb sg _ _ w2) = R
   simp only [List.take_succ_cons, List.take_zero, putAll]
   simp only [sfV, nineV] at q8_
   go_simp
   subst hR
   exact ⟨m, sb, _, h.boxed hB hna (fun c => hcl 10 _ rfl c 9 (by decide +kernel))⟩
  ·cases hi
   generalize hG : relUpon _ _ _ = G9
   have q9_ : vs 9 = _ := h.val 9 (hp 9 (by decide +kernel))
   refine .inl ⟨rfl, ?_⟩
   subst hG
   generalize hR : (fun (u : Value) (w2 : World) => ∃ (m sb sg : Nat), SfI _ _ _ _ _ _ m sb sg _ _ w2) = R
   simp only [List.take_succ_cons, List.take_zero, putAll]
   simp only [sfV, nineV] at q9_
   go_simp
   subst hR
   exact ⟨m, sb, sg, h.read (i := 10) rfl (by omega) (by omega) (by omega) (by omega)⟩
 case hQ =>
  rintro A vs W hA ⟨m, sb, sg, h⟩
  have e10 : vs 10 = .pointer (some ⟨sg, 0, none⟩) := h.val 10 (hA 10 (by decide))
  have hm := h.mp (hA 1 (by decide))
  have hs := h.sl (hA 7 (by decide))
  have hb := h.bx (hA 9 (by decide))
  have hmm : MapAt N W m [(p, p)] := hm.2.elim (fun b => absurd (hA 4 (by decide)) b.1) (fun b => b.2)
  have HFIN : Hid (∃ sg' m sb, Value.pointer (some ⟨sg, 0, none⟩) = .pointer (some ⟨sg', 0, none⟩) ∧ w.heap.size ≤ sg' ∧ w.heap.size ≤ m ∧ w.heap.size ≤ sb ∧ SrchR W sg' g m (.slice (some ⟨sb, 0, none⟩) 1 1) ∧ MapAt N W m [(p, p)] ∧ Row 82 W sb (nineL P0) ∧ Below w.heap.size w W) :=
   ⟨sg, m, sb, rfl, Nat.le_trans HBW.out.size hb.1, Nat.le_trans HBW.out.size hm.1, Nat.le_trans HBW.out.size hs.1, hb.2, hmm, hs.2, HBW.out.trans (h.bel.mono HBW.out.size)⟩
  obtain ⟨y0, hy0⟩ : ∃ y, vs 0 = y := ⟨_, rfl⟩
  obtain ⟨y1, hy1⟩ : ∃ y, vs 1 = y := ⟨_, rfl⟩
  obtain ⟨y2, hy2⟩ : ∃ y, vs 2 = y := ⟨_, rfl⟩
  obtain ⟨y3, hy3⟩ : ∃ y, vs 3 = y := ⟨_, rfl⟩
  obtain ⟨y4, hy4⟩ : ∃ y, vs 4 = y := ⟨_, rfl⟩
  obtain ⟨y5, hy5⟩ : ∃ y, vs 5 = y := ⟨_, rfl⟩
  obtain ⟨y6, hy6⟩ : ∃ y, vs 6 = y := ⟨_, rfl⟩
  obtain ⟨y7, hy7⟩ : ∃ y, vs 7 = y := ⟨_, rfl⟩
  obtain ⟨y8, hy8⟩ : ∃ y, vs 8 = y := ⟨_, rfl⟩
  obtain ⟨y9, hy9⟩ : ∃ y, vs 9 = y := ⟨_, rfl⟩
  generalize hKK : Exit.then _ _ = KK
  simp only [putAll, e10, hy0, hy1, hy2, hy3, hy4, hy5, hy6, hy7, hy8, hy9]
  go_simp
  subst hKK
  clear hA h hm hs hb hmm e10 hy0 hy1 hy2 hy3 hy4 hy5 hy6 hy7 hy8 hy9
  go_wp2
  go_ret
  obtain ⟨sg', m', sb', h1, h2⟩ := HFIN.out
  exact ⟨sg', m', sb', congrArg _ h1, h2⟩
end Go.Proofs.YtllhejjcmfiebaaDoor
namespace Go.Proofs.YtllhejjcmfiebaaDoor
open Go.RowKit Go.Shelf
set_option maxRecDepth 100000 in
theorem after_go (g : Nat) (f : Nat → Int) (w : World) :
  Calls Tryd.prog 94 #[.pointer (some ⟨g, 0, none⟩), nineV f] w fun e w' => e = .returned (.func (.func 96) #[] #[.pointer (some ⟨w.heap.size + 1, 0, none⟩), .pointer (some ⟨w.heap.size, 0, none⟩)]) ∧
   w' = (w.alloc (.cells #[.pointer (some ⟨g, 0, none⟩)] 75)).alloc (.cells (nineL f).toArray 82) := by
 unfold nineV
 go_enter Tryd.func94, Tryd.ntmps94
 go_wp2
 go_ret
 exact ⟨rfl, rfl⟩
def posC (Q : List (List Int)) : List Value := Q.flatMap fun q => nineL (posF q q.length)
theorem posC_snoc (Q : List (List Int)) (q : List Int) : posC (Q ++ [q]) = posC Q ++ nineL (posF q q.length) := by unfold posC; simp
theorem posC_len : ∀ Q : List (List Int), (posC Q).length = Q.length * 9
 | [] => rfl
 | q :: Q => by
  show (nineL (posF q q.length) ++ posC Q).length = (Q.length + 1) * 9
  rw [List.length_append, posC_len Q, Nat.add_mul]
  show 9 + _ = _
  omega
theorem posC_get : ∀ (Q : List (List Int)) (i : Nat) (q : List Int) (r : Nat), Q[i]? = some q → r < 9 → (posC Q)[i * 9 + r]? = some (.int .i8 (posF q q.length r))
 | [], i, q, r, h, _ => by cases h
 | x :: Q, 0, q, r, h, hr => by
  have hx : x = q := by simpa using h
  subst hx
  show (nineL (posF x x.length) ++ posC Q)[0 * 9 + r]? = _
  rw [Nat.zero_mul, Nat.zero_add, List.getElem?_append_left (by show r < 9; exact hr), nine_get _ hr]
 | x :: Q, i + 1, q, r, h, hr => by
  show (nineL (posF x x.length) ++ posC Q)[(i + 1) * 9 + r]? = _
  rw [List.getElem?_append_right (by show 9 ≤ _; omega)]
  have := posC_get Q i q r h hr
  rw [← this]
  congr 1
  show (i + 1) * 9 + r - 9 = _
  omega
def PosA (w : World) (v : Value) (Q : List (List Int)) : Prop :=
 ∃ p cap, v = .slice p Q.length cap ∧ Q.length ≤ cap ∧ cap ≤ 9223372036854775807 ∧ (∀ a, p = some a → a.block < w.heap.size) ∧ (0 < Q.length → ∃ b, p = some ⟨b, 0, none⟩ ∧ b < w.heap.size ∧ ∀ j, j < Q.length * 9 → w.cell? ⟨b, j, none⟩ = (posC Q)[j]?)
theorem PosA.of_own {base : Nat} {w : World} {v : Value} {Q : List (List Int)} (h : OwnK 82 9 base w v Q.length (posC Q)) : PosA w v Q := by
 obtain ⟨p, cap, rfl, h1, h2⟩ := h.len
 refine ⟨p, cap, rfl, h1, h2, fun a ha => ?_, fun h0 => ?_⟩
 ·rcases h.form_ with ⟨hv, _⟩ | ⟨g, cap', more, hv, _, _, _, _, _, hr⟩
  ·injection hv with e1 _ _
   rw [ha] at e1; cases e1
  ·injection hv with e1 _ _
   rw [ha] at e1; cases e1
   exact hr.lt
 obtain ⟨b, cap', hv, _, _, hb, _, hc⟩ := h.at_ h0
 injection hv with e1 _ _
 exact ⟨b, e1, hb, hc⟩
def blk : Value → Option Nat
 | .slice (some a) _ _ => some a.block
 | _ => none
theorem PosA.same {K : Nat → Prop} {w w' : World} {v : Value} {Q : List (List Int)} (h : PosA w v Q) (hs : Same K w w') (hK : ∀ b, blk v = some b → K b) : PosA w' v Q := by
 obtain ⟨p, cap, rfl, h1, h2, h4, h3⟩ := h
 refine ⟨p, cap, rfl, h1, h2, fun a ha => Nat.lt_of_lt_of_le (h4 a ha) hs.size, fun h0 => ?_⟩
 obtain ⟨b, rfl, hb, hc⟩ := h3 h0
 exact ⟨b, rfl, Nat.lt_of_lt_of_le hb hs.size, fun j hj => (World.cell?_of_block (a := ⟨b, j, none⟩) (hs.block b hb (hK b rfl))).trans (hc j hj)⟩
theorem PosA.below {w w' : World} {v : Value} {Q : List (List Int)} (h : PosA w v Q) (hb : Below w.heap.size w w') : PosA w' v Q := by
 obtain ⟨p, cap, rfl, h1, h2, h4, h3⟩ := h
 refine ⟨p, cap, rfl, h1, h2, fun a ha => Nat.lt_of_lt_of_le (h4 a ha) hb.size, fun h0 => ?_⟩
 obtain ⟨b, rfl, hlt, hc⟩ := h3 h0
 exact ⟨b, rfl, Nat.lt_of_lt_of_le hlt hb.size, fun j hj => (hb.cell (p := ⟨b, j, none⟩) hlt).trans (hc j hj)⟩
theorem addL_pre {α : Type} [DecidableEq α] : ∀ (l : List α) (S : List α × List α), S.2 <+: (addL S l).2
 | [], S => List.prefix_refl _
 | q :: l, S => by
  show S.2 <+: (addL (addN S q) l).2
  refine List.IsPrefix.trans ?_ (addL_pre l (addN S q))
  unfold addN; split
  ·exact List.prefix_refl _
  ·exact List.prefix_append _ _
theorem growS_pre {α : Type} [DecidableEq α] (nbr : α → List α) : ∀ (l : List α) (S : List α × List α), S.2 <+: (growS nbr S l).2
 | [], S => List.prefix_refl _
 | q :: l, S => (addL_pre (nbr q) S).trans (growS_pre nbr l (addL S (nbr q)))
def midS (E : Es) (N : Nat) (p : List Int) (k j : Nat) (pre : List (List Int)) : List (List Int) × List (List Int) := addL (pt E N p k j) pre
theorem mid_pre {E : Es} {N : Nat} {p q : List Int} {k j : Nat} {pre post : List (List Int)} (hq : (lv E N p k).2[j]? = some q) (hp : nbrL E N q = pre ++ post) : (midS E N p k j pre).2 <+: (lv E N p (k + 1)).2 := by
 have hj := (List.getElem?_eq_some_iff.1 hq).1
 have h1 : (midS E N p k j pre).2 <+: (pt E N p k (j + 1)).2 := by
  rw [pt_next hq, hp]
  unfold midS addL
  rw [List.foldl_append]
  exact addL_pre post _
 refine h1.trans ?_
 show (growS (nbrL E N) ((lv E N p k).1, []) ((lv E N p k).2.take (j + 1))).2 <+: (growS (nbrL E N) ((lv E N p k).1, []) (lv E N p k).2).2
 conv => rhs; rw [← List.take_append_drop (j + 1) (lv E N p k).2]
 unfold growS
 rw [List.foldl_append]
 exact growS_pre _ _ _
theorem mid_snoc_old {E : Es} {N : Nat} {p x : List Int} {k j : Nat} {pre : List (List Int)} (h : x ∈ (midS E N p k j pre).1) : midS E N p k j (pre ++ [x]) = midS E N p k j pre := by
 unfold midS at *; rw [addL_snoc]; unfold addN; rw [if_pos h]
theorem mid_snoc_new {E : Es} {N : Nat} {p x : List Int} {k j : Nat} {pre : List (List Int)} (h : x ∉ (midS E N p k j pre).1) : midS E N p k j (pre ++ [x]) = ((midS E N p k j pre).1 ++ [x], (midS E N p k j pre).2 ++ [x]) := by
 unfold midS at *; rw [addL_snoc]; unfold addN; rw [if_neg h]
def ParOK (E : Es) (N : Nat) (p : List Int) (par : List (List Int × List Int)) : Prop := ∀ x ∈ par, (x.1 = p ∧ x.2 = p) ∨ (∃ d, DistIs E N p d x.2 ∧ DistIs E N p (d + 1) x.1 ∧ x.1 ∈ nbrL E N x.2 ∧ x.2 ∈ keysP par)
theorem ParOK.start {E : Es} {N : Nat} {p : List Int} : ParOK E N p [(p, p)] := fun x hx => by
 obtain rfl := List.mem_singleton.1 hx
 exact .inl ⟨rfl, rfl⟩
theorem ParOK.add {E : Es} {N d : Nat} {p q x : List Int} {par : List (List Int × List Int)} (h : ParOK E N p par) (hq : DistIs E N p d q) (hx : DistIs E N p (d + 1) x) (hn : x ∈ nbrL E N q) (hk : q ∈ keysP par) : ParOK E N p (par ++ [(x, q)]) := by
 intro y hy
 rw [keysP_snoc]
 rcases List.mem_append.1 hy with hy | hy
 ·rcases h y hy with h1 | ⟨d, h1, h2, h3, h4⟩
  ·exact .inl h1
  ·exact .inr ⟨d, h1, h2, h3, List.mem_append_left _ h4⟩
 ·obtain rfl := List.mem_singleton.1 hy
  exact .inr ⟨d, hq, hx, hn, List.mem_append_left _ hk⟩
end Go.Proofs.YtllhejjcmfiebaaDoor
namespace Go.Proofs.YtllhejjcmfiebaaDoor
open Go.RowKit Go.Shelf
theorem info82 : (Tryd.prog.info? 82).map (fun i => (i.zero, i.size, i.bytes)) = some (some (.agg #[.int .i8 0, .int .i8 0, .int .i8 0, .int .i8 0, .int .i8 0, .int .i8 0, .int .i8 0, .int .i8 0, .int .i8 0]), 9, 9) := by kernel_rfl
theorem und76 : Tryd.prog.underlying 76 = some (.slice 82) := by kernel_rfl
theorem exec_append9 (base : Nat) (X : World) (nv : Value) (Q : List (List Int)) (q : List Int) (gb : Nat) (hown : OwnK 82 9 base X nv Q.length (posC Q)) (hrow : Row 82 X gb (nineL (posF q q.length))) (hlen : Q.length ≤ 1000000) (hbase : base ≤ X.heap.size) :
  ∃ nv' X', OwnK 82 9 base X' nv' (Q ++ [q]).length (posC (Q ++ [q])) ∧ X.grownBy X' nv.ownBlock ∧ (nv'.ownBlock = nv.ownBlock ∨ nv'.ownBlock = some X.heap.size) ∧
   ∀ (f : Operand → Value) (o : Oper) (s x : Operand), o.op = .call { callee := .builtin .append, args := #[s, x], argTypes := #[76, 76] } → o.type = 76 → f s = nv → f x = .slice (some ⟨gb, 0, none⟩) 1 1 → (execOp f o).run Tryd.prog X = .ok (.value nv') X' := by
 obtain ⟨i, hi, hz0, hz1, hz2⟩ := info_parts info82
 obtain ⟨v', w', hr, h2, h3, h4, h5⟩ := run_append_own_at (P := Tryd.prog) (w := X) base 76 76 82 i _ 9 9 und76 hi hz0 hz1 hz2 rfl (by decide) nv Q.length (posC Q) hown ⟨gb, 0, none⟩ 1 1 (nineL (posF q q.length)) rfl (by
  intro j y hj
  rw [add_none, Nat.zero_add, hrow.cell j, hj]) (by intro y hy; unfold nineL at hy; simp at hy; rcases hy with rfl | rfl | rfl | rfl | rfl | rfl | rfl | rfl | rfl <;> rfl) (by simp [maxLen]; omega) (by omega) hbase
 refine ⟨v', w', ?_, h3, h5, fun f o s x ho ht hs hx => ?_⟩
 ·rw [posC_snoc, List.length_append]; exact h2
 ·unfold execOp
  simp only [ho, resolve, invoke, builtin, Sem.run_bind, Sem.run_pure, Result.andThen_ok, List.map_toArray, List.map_cons, List.map_nil, hs, hx, ht, hr]
theorem OwnK.same {T k base n : Nat} {w w' : World} {v : Value} {xs : List Value} {K : Nat → Prop} (h : OwnK T k base w v n xs) (hs : Same K w w') (hK : ∀ b, v.ownBlock = some b → K b) : OwnK T k base w' v n xs := by
 rcases h.form_ with ⟨rfl, rfl, rfl⟩ | ⟨g, cap, more, rfl, hg, hl, hm, hx, hc, hr⟩
 ·exact World.ownsRow_nil _ _ _ _
 ·exact OwnK.of_row (hs.row hr (hK g rfl)) hg hl hm hx hc
theorem OwnK.ob_lt {T k base n : Nat} {w : World} {v : Value} {xs : List Value} (h : OwnK T k base w v n xs) : ∀ b, v.ownBlock = some b → b < w.heap.size ∧ base ≤ b ∧ ∃ ys, Row T w b ys := by
 rcases h.form_ with ⟨rfl, rfl, rfl⟩ | ⟨g, cap, more, rfl, hg, hl, hm, hx, hc, hr⟩
 ·intro b hb; cases hb
 ·intro b hb
  have : g = b := by simpa [Value.ownBlock] using hb
  subst this
  exact ⟨hr.lt, hg, _, hr⟩
structure GS (J : List (List Int) → (Nat → Prop) → World → Prop) (E : Es) (N : Nat) (p : List Int) (B0 sg g m : Nat) (S : List (List Int) × List (List Int)) (M : Nat → Prop) (Mo : Nat → Prop) (par : List (List Int × List Int)) (nv : Value) (W : World) : Prop where
 J : J S.2 Mo W
 M : ∀ b, M b ↔ Mo b ∨ b = sg ∨ b = m ∨ nv.ownBlock = some b
 sr : SrchR W sg g m nv
 map : MapAt N W m par
 keys : keysP par = S.1
 par : ParOK E N p par
 own : OwnK 82 9 B0 W nv S.2.length (posC S.2)
 ap : ∀ b, Mo b → b ≠ sg ∧ b ≠ m ∧ nv.ownBlock ≠ some b
section
variable {J : List (List Int) → (Nat → Prop) → World → Prop} {E : Es} {N : Nat} {p : List Int} {B0 sg g m : Nat} {S : List (List Int) × List (List Int)} {M Mo : Nat → Prop} {par : List (List Int × List Int)} {nv : Value} {W : World}
theorem GS.stay (h : GS J E N p B0 sg g m S M Mo par nv W) {G : Nat → Prop} {Bj : Nat} (hJ : Stab G Bj J) {W' : World} {K : Nat → Prop} (hs : Same K W W') (hM : ∀ b, M b → K b) (hb : ∀ b, b < Bj → ¬ G b → K b) : GS J E N p B0 sg g m S M Mo par nv W' := by
 refine ⟨hJ.stay _ _ _ _ h.J (hs.mono fun x _ hx => ?_), h.M, hs.row h.sr (hM _ ((h.M _).2 (.inr (.inl rfl)))), h.map.same hs (hM _ ((h.M _).2 (.inr (.inr (.inl rfl))))), h.keys, h.par, h.own.same hs fun b hb => hM _ ((h.M _).2 (.inr (.inr (.inr hb)))), h.ap⟩
 rcases hx with ⟨h1, h2⟩ | h1
 ·exact hb x h1 h2
 ·exact hM x ((h.M x).2 (.inl h1))
theorem GS.below (h : GS J E N p B0 sg g m S M Mo par nv W) {G : Nat → Prop} {Bj : Nat} (hJ : Stab G Bj J) {W' : World} (hb : Below W.heap.size W W') : GS J E N p B0 sg g m S M Mo par nv W' :=
 h.stay hJ (K := fun _ => True) (Same.of_below hb fun x hx _ => hx) (fun _ _ => trivial) (fun _ _ _ => trivial)
theorem GS.lt (h : GS J E N p B0 sg g m S M Mo par nv W) {G : Nat → Prop} {Bj : Nat} (hJ : Stab G Bj J) : ∀ b, M b → b < W.heap.size := by
 intro b hb
 rcases (h.M b).1 hb with h1 | rfl | rfl | h1
 ·exact hJ.lt _ _ _ h.J b h1
 ·exact Row.lt h.sr
 ·exact h.map.lt
 ·exact (h.own.ob_lt b h1).1
end
end Go.Proofs.YtllhejjcmfiebaaDoor
