/- A loop over the places of a set. -/
import Derived.Test.YtllhejjcmfiebaaDoorS1
set_option linter.unusedVariables false
set_option linter.unusedSimpArgs false
set_option linter.unnecessarySimpa false
namespace Go.Proofs.YtllhejjcmfiebaaDoor
open Go.RowKit Go.Shelf
attribute [local go_sem] Oper.semAt_some
def mark (D : Nat) : Deferred := { target := .collected D, args := #[] }
def Marks (B : Nat) (w : World) (ds : List Deferred) : Prop := ∃ Ds : List Nat, ds = Ds.map mark ∧ Ds.Nodup ∧ ∀ D, D ∈ Ds → B ≤ D ∧ w.heap[D]? = some (.deferred (some []))
theorem Marks.nil (B : Nat) (w : World) : Marks B w [] := ⟨[], rfl, List.nodup_nil, fun D hD => by cases hD⟩
theorem Marks.lt {B : Nat} {w : World} {ds : List Deferred} (h : Marks B w ds) : ∀ D, mark D ∈ ds → D < w.heap.size := by
 obtain ⟨Ds, rfl, _, hd⟩ := h
 intro D hD
 obtain ⟨D', hD', he⟩ := List.mem_map.1 hD
 have : D' = D := by unfold mark at he; simpa using he
 subst this
 exact (Array.getElem?_eq_some_iff.1 (hd _ hD').2).1
theorem Marks.cons {B D : Nat} {w w' : World} {ds : List Deferred} (h : Marks B w ds) (hw : Marks B w' ds) (hD : w.heap.size ≤ D) (hB : B ≤ w.heap.size) (hd : w'.heap[D]? = some (.deferred (some []))) : Marks B w' ({ target := .collected D, args := #[] } :: ds) := by
 have hlt := h.lt
 obtain ⟨Ds, rfl, hn, hall⟩ := hw
 refine ⟨D :: Ds, rfl, List.nodup_cons.2 ⟨fun hm => ?_, hn⟩, fun D' hD' => ?_⟩
 ·have := hlt D (List.mem_map.2 ⟨D, hm, rfl⟩)
  omega
 ·rcases List.mem_cons.1 hD' with rfl | h'
  ·exact ⟨by omega, hd⟩
  ·exact hall _ h'
theorem Marks.keeps {B : Nat} {w w' : World} {ds : List Deferred} (h : Marks B w ds) (hk : KeepsOthers w w') : Marks B w' ds := by
 obtain ⟨Ds, rfl, hn, hall⟩ := h
 exact ⟨Ds, rfl, hn, fun D hD => ⟨(hall D hD).1, hk.same _ _ (hall D hD).2 rfl⟩⟩
theorem Marks.grown {B C : Nat} {w w' : World} {ds : List Deferred} {row : Option Nat} (h : Marks B w ds) (hC : ∀ D, mark D ∈ ds → D < C) (hg : w.grownBy w' row) (hr : ∀ r, row = some r → C ≤ r) : Marks B w' ds := by
 obtain ⟨Ds, rfl, hn, hall⟩ := h
 refine ⟨Ds, rfl, hn, fun D hD => ⟨(hall D hD).1, ?_⟩⟩
 have h1 := hall D hD
 refine (hg.block D (Array.getElem?_eq_some_iff.1 h1.2).1 (fun e => ?_)).trans h1.2
 have := hr D e.symm
 have := hC D (List.mem_map.2 ⟨D, hD, rfl⟩)
 omega
theorem Row.put {T : TypeId} {w : World} {g : Nat} {xs : List Value} (h : Row T w g xs) (D : Nat) (o o' : Obj) (hD : w.heap[D]? = some o) (ho : o.isCells = false) : Row T (w.putObj D o') g xs := by
 unfold Row at h ⊢
 have hne : g ≠ D := by rintro rfl; rw [h] at hD; cases hD; cases ho
 exact (World.putObj_heap_other hne).trans h
theorem marks_leave {P : Program} {fn : Func} {tmps : Array Value} {R : Ending → World → Prop} {B : Nat} {w : World} {ds : List Deferred} (h : Marks B w ds)
  (hR : ∀ w', Below B w w' → (∀ g T xs, Row T w g xs → Row T w' g xs) → ∃ v, (results fn tmps).run P w' = .ok v w' ∧ R (.returned v) w') : LeavesInM Fence.wide 6 P fn tmps R ds .returning w := by
 obtain ⟨Ds, rfl, hn, hall⟩ := h
 induction Ds generalizing w with
 | nil => exact hR w (Below.refl _ _) (fun _ _ _ h => h)
 | cons D Ds ih =>
  obtain ⟨hd, hn2⟩ := List.nodup_cons.1 hn
  have hD := hall D (by simp)
  refine ⟨by simp, .inl ⟨D, _, rfl, run_takeDeferred hD.2, ?_⟩⟩
  refine ih (fun w' hb hrow => ?_) hn2 (fun D' hD' => ?_)
  ·refine hR w' (Below.trans ((Below.refl B w).grown (grownBy_putObj' w D _) ?_ (fun k e => by cases e; exact hD.1)) hb) (fun g T xs h => hrow g T xs (h.put D _ _ hD.2 rfl))
   have := (Array.getElem?_eq_some_iff.1 hD.2).1
   have := hD.1
   omega
  ·have h1 := hall D' (by simp [hD'])
   refine ⟨h1.1, (World.putObj_heap_other (fun e => ?_)).trans h1.2⟩
   subst e; exact hd hD'
theorem calls_marks {P : Program} {f : FuncId} {fn : Func} {c : Code} {args : Array Value} {w : World} {R : Ending → World → Prop} (hf : P.funcs[f]? = some fn) (hb : fn.body = some c)
  (h : ∀ Q : Exit → Act → World → Prop, (∀ a w, LeavesInM Fence.wide 6 P fn a.tmps R a.defers .returning w → Q .ret a w ∧ Q .normal a w) → c.wp P Q { tmps := args ++ Array.replicate (fn.ntmps - args.size) undef, defers := [] } w) : Calls P f args w R :=
 (callsIn_wide (n := 6)).1 (callsIn_of_wp_marks hf hb trivial (wpIn_wide.2 (h _ (fun a w h => ⟨h, h⟩))) rfl)
theorem setCell_heap_ne {W : World} {B k : Nat} {v : Value} (h : k ≠ B) : (W.setCell ⟨B, 0, none⟩ v).heap[k]? = W.heap[k]? := Below.heap_setCell _ _ _ _ h
set_option maxHeartbeats 1000000 in
theorem wp_range_places {p : Tmp} {assign body : Code} {Q : Exit → Act → World → Prop} {a : Act} {w : World} {Bn s : Nat} {g : Operand}
  (hg : a.eval g = .func (.func 84) #[] #[.pointer (some ⟨Bn, 0, none⟩)]) (hs : s < 512) (hrow : Row 86 w Bn [.int .u16 s])
  (I : List Nat → World → Prop) (Ix : Code → List Nat → World → Prop) (hI : OwnFrom w.heap.size I) (hIx : ∀ c, OwnFrom w.heap.size (Ix c))
  (hIT : ∀ pre W, I pre W → Tab W) (hIw : ∀ pre W (t : Nat), I pre W → I pre (W.setCell ⟨Bn, 0, none⟩ (.int .u16 t))) (h0 : I [] w) (a₁ : Nat → Act)
  (hassign : ∀ (l : Nat) (x : Nat) (W : World) (K : Act → World → Prop), K (a₁ x) W →
   assign.wpIn (Fence.wide.inRound l) 4 Tryd.prog (Exit.then K (fun _ _ _ => False)) { tmps := (#[p].zip #[Value.int .i64 (x : Nat)]).foldl (fun t (p, v) => t.setIfInBounds p v) a.tmps, defers := [] } W)
  (hbody : ∀ (l : Nat) (pre : List Nat) (x : Nat) (W : World), I pre W → (∃ post, pls s = pre ++ x :: post) → body.wpIn (Fence.wide.inRound l) 4 Tryd.prog (ownPostK (KeepB Bn) I Ix (pre ++ [x]) W) (a₁ x) W)
  (hdone : ∀ (D : Nat) (W : World), w.heap.size ≤ D → I (pls s) W → W.heap[D]? = some (.deferred (some [])) → Q .normal { a with defers := { target := .collected D, args := #[] } :: a.defers } W)
  (hstop : ∀ (D : Nat) (c : Code) (pre : List Nat) (W : World), w.heap.size ≤ D → pre <+: pls s → Ix c pre W → W.heap[D]? = some (.deferred (some [])) → c.wp Tryd.prog Q { a with defers := { target := .collected D, args := #[] } :: a.defers } W) :
  (Code.rangeFunc g #[p] assign body).wp Tryd.prog Q a w := by
 have hBlt := hrow.lt
 refine (wpIn_wide (n := 6)).1 (wpIn_rangeFunc ?_)
 intro fn hfn
 obtain ⟨D, hD⟩ : ∃ D, w.heap.size = D := ⟨_, rfl⟩
 obtain ⟨rc, hrc⟩ : ∃ rc : LoopState → Option Code → Loop, rc = fun st pe => { state := st, pending := pe, fn, tmps := a.tmps, params := #[p], assign, body, defers := D } := ⟨_, rfl⟩
 obtain ⟨V, hV⟩ : ∃ V, (w.alloc (.deferred (some []))).alloc (.loop (rc .ready none)) = V := ⟨_, rfl⟩
 have hVL : V.heap[D + 1]? = some (.loop (rc .ready none)) := by
  have := World.alloc_heap_new (w.alloc (.deferred (some []))) (.loop (rc .ready none))
  rw [World.size_alloc, hD, hV] at this; exact this
 have hVD : V.heap[D]? = some (.deferred (some [])) := by
  rw [← hV, ← hD]; exact (Below.heap_alloc _ _ _ (by simp)).trans (World.alloc_heap_new w _)
 have hVrow : Row 86 V Bn [.int .u16 s] := by rw [← hV]; exact (hrow.alloc _).alloc _
 have hVI : I [] V := by rw [← hV]; exact hI.alloc _ (hI.alloc _ h0)
 have hBD : Bn < D := by rw [← hD]; exact hBlt
 have hwD : w.heap.size ≤ D := by omega
 refine ⟨D + 1, [{ target := .collected D, args := #[] }], V, { target := .fn (.func 84) #[.pointer (some ⟨Bn, 0, none⟩)], args := #[.func (.yield (D + 1)) #[] #[]] }, V, 84,
  #[.func (.yield (D + 1)) #[] #[]] ++ #[.pointer (some ⟨Bn, 0, none⟩)], V, ?_, ?_, ?_, ?_, fun _ => by omega, ?_⟩
 ·have := run_enterLoop_outer (P := Tryd.prog) (w := w) fn a.tmps #[p] assign body
  rw [hD] at this
  rw [← hV, hrc]; exact this
 ·simp only [resolve, hg]
  simp [go_sem]
 ·intro f' hf'; simp [Target.leads] at hf'; subst hf'; trivial
 ·have := enters_of Tryd.func84 (by kernel_rfl) rfl
  simp [invoke, go_sem, this]
 ·have one : ∀ (jump : Option Code) (W3 : World), W3.heap[D + 1]? = some (.loop { rc .ready none with state := .busy }) → W3.heap[D]? = some (.deferred (some [])) →
    (Instr.endRound (D + 1) jump).run Tryd.prog W3 = .ok (.bool jump.isNone) (W3.putObj (D + 1) (.loop (rc (if jump.isNone then .ready else .done) jump))) ∧
    (W3.putObj (D + 1) (.loop (rc (if jump.isNone then .ready else .done) jump))).heap[D + 1]? = some (.loop (rc (if jump.isNone then .ready else .done) jump)) ∧
    (W3.putObj (D + 1) (.loop (rc (if jump.isNone then .ready else .done) jump))).heap[D]? = some (.deferred (some [])) := fun jump W3 hl3 hd3 => by
   have h1 := run_endRound (P := Tryd.prog) jump hl3
   rw [hrc] at h1 ⊢
   exact ⟨h1, World.putObj_heap_same (Array.getElem?_eq_some_iff.1 hl3).1, (World.putObj_heap_other (by omega)).trans hd3⟩
  refine (places1_in 5 (by omega) (D + 1) Bn s hs
   (fun pre W => I pre W ∧ W.heap[D + 1]? = some (.loop (rc .ready none)) ∧ W.heap[D]? = some (.deferred (some [])))
   (fun pre W => ∃ c, Ix c pre W ∧ W.heap[D + 1]? = some (.loop (rc .done (some c))) ∧ W.heap[D]? = some (.deferred (some [])))
   (fun pre W h => hIT pre W h.1)
   (fun pre W t h => ⟨hIw pre W t h.1, (setCell_heap_ne (by omega)).trans h.2.1, (setCell_heap_ne (by omega)).trans h.2.2⟩)
   ?_ V hVrow ⟨hVI, hVL, hVD⟩).mono ?_
  ·rintro pre x W ⟨hi, hl, hd⟩ hpost
   have hlt : D + 1 < W.heap.size := (Array.getElem?_eq_some_iff.1 hl).1
   have hy := run_yield (P := Tryd.prog) (args := #[Value.int .i64 (x : Nat)]) hl (by rw [hrc]; rfl)
   rw [hrc] at hy
   refine ⟨fn, _, assign, body, hy, roundIn_of_wpIn hfn (hassign _ x W _ ⟨_, run_beginRound hl (by rw [hrc]), ?_⟩)⟩
   have hl2 : (W.putObj (D + 1) (.loop { rc .ready none with state := .busy })).heap[D + 1]? = some (.loop { rc .ready none with state := .busy }) := World.putObj_heap_same hlt
   have hd2 : (W.putObj (D + 1) (.loop { rc .ready none with state := .busy })).heap[D]? = some (.deferred (some [])) := (World.putObj_heap_other (by omega)).trans hd
   have hb2 : (W.putObj (D + 1) (.loop { rc .ready none with state := .busy })).heap[Bn]? = W.heap[Bn]? := World.putObj_heap_other (by omega)
   refine wpIn_mono (hbody _ pre x _ (hI.putObj _ hi (by omega) hl rfl) hpost) ?_
   rintro e a3 W3 hp
   cases e with
   | normal =>
    obtain ⟨hk3, hkp3, hi3⟩ := hp
    have hl3 := hk3.same _ _ hl2 rfl
    have hd3 := hk3.same _ _ hd2 rfl
    obtain ⟨e1, e2, e3⟩ := one none W3 hl3 hd3
    exact ⟨_, _, e1, .inl ⟨rfl, ⟨hI.putObj _ hi3 (by omega) hl3 rfl, e2, e3⟩, (World.putObj_heap_other (by omega)).trans (hkp3.trans hb2)⟩⟩
   | ret =>
    obtain ⟨hk3, hi3⟩ := hp
    have hl3 := hk3.same _ _ hl2 rfl
    obtain ⟨e1, e2, e3⟩ := one (some .ret) W3 hl3 (hk3.same _ _ hd2 rfl)
    exact ⟨_, _, e1, .inr ⟨rfl, .ret, (hIx _).putObj _ hi3 (by omega) hl3 rfl, e2, e3⟩⟩
   | exit id =>
    obtain ⟨hk3, hi3⟩ := hp
    have hl3 := hk3.same _ _ hl2 rfl
    obtain ⟨e1, e2, e3⟩ := one (some (.exit id)) W3 hl3 (hk3.same _ _ hd2 rfl)
    exact ⟨_, _, e1, .inr ⟨rfl, .exit id, (hIx _).putObj _ hi3 (by omega) hl3 rfl, e2, e3⟩⟩
   | goto t =>
    obtain ⟨hk3, hi3⟩ := hp
    have hl3 := hk3.same _ _ hl2 rfl
    obtain ⟨e1, e2, e3⟩ := one (some (.goto t)) W3 hl3 (hk3.same _ _ hd2 rfl)
    exact ⟨_, _, e1, .inr ⟨rfl, .goto t, (hIx _).putObj _ hi3 (by omega) hl3 rfl, e2, e3⟩⟩
   | panic ch => exact hp.elim
   | outgrown => exact hp.elim
  ·rintro e W2 ⟨⟨v, rfl⟩, (⟨hi, hl, hd⟩ | ⟨pre, hSp, c, hi, hl, hd⟩)⟩
   ·have h1 := run_endLoop (P := Tryd.prog) hl (by rw [hrc]; simp)
    rw [hrc] at h1
    exact ⟨none, _, h1, hdone D _ hwD (hI.putObj _ hi (by omega) hl rfl) ((World.putObj_heap_other (by omega)).trans hd)⟩
   ·have h1 := run_endLoop (P := Tryd.prog) hl (by rw [hrc]; simp)
    rw [hrc] at h1
    exact ⟨some c, _, h1, wpIn_wide.2 (hstop D c pre _ hwD hSp ((hIx c).putObj _ hi (by omega) hl rfl) ((World.putObj_heap_other (by omega)).trans hd))⟩
end Go.Proofs.YtllhejjcmfiebaaDoor
