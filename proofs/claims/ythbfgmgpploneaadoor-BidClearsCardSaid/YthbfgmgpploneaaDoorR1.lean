/- The program's iterator over the bundles within a bundle. -/
import Derived.Test.YthbfgmgpploneaaDoorC2
import Derived.RangeFuncNested
import Derived.RangeFuncBound
import Derived.RangeFuncCalls
import Derived.RangeFuncLeaves
import Derived.RangeFuncFrom
import Derived.Shelf.Abstract
import Derived.Shelf.RegionOpen
import Derived.OwnWalkIn
import Derived.TacticsInMore
import Derived.LoopNIn
import Derived.LoopIn
set_option linter.unusedVariables false
set_option linter.unusedSimpArgs false
set_option linter.unnecessarySimpa false
namespace Go.Proofs.YthbfgmgpploneaaDoor
open Go.RowKit Go.Shelf
attribute [local go_sem] Oper.semAt_some

/-- the bundles within b, rising -/
def subs (b : Nat) : List Nat := (List.range (b + 1)).filter fun s => sans s b == 0
/-- how the iterator goes on -/
def nextSub (b p : Nat) : Int := bits .and .i64 ((p : Int) - b) b
def subsOk (b : Nat) : Bool := (List.range 64).all fun k => !(decide (k + 1 < (subs b).length)) || (nextSub b ((subs b).getD k 0) == ((subs b).getD (k + 1) 0 : Nat) && decide ((subs b).getD k 0 < b) && decide ((subs b).getD k 0 < (subs b).getD (k + 1) 0))
def subsOk2 (b : Nat) : Bool := decide (0 < (subs b).length) && decide ((subs b).length ≤ 64) && (subs b).getD 0 0 == 0 && (subs b).getD ((subs b).length - 1) 0 == b
theorem subs_all : ((List.range 64).all fun b => subsOk b && subsOk2 b) = true := by decide +kernel
theorem subs_ends {b : Nat} (hb : b < 64) : 0 < (subs b).length ∧ (subs b).length ≤ 64 ∧ (subs b).getD 0 0 = 0 ∧ (subs b).getD ((subs b).length - 1) 0 = b := by
  have h := List.all_eq_true.1 subs_all b (List.mem_range.2 hb)
  simp only [Bool.and_eq_true, subsOk2, decide_eq_true_eq, beq_iff_eq] at h
  exact ⟨h.2.1.1.1, h.2.1.1.2, h.2.1.2, h.2.2⟩
theorem subs_next {b : Nat} (hb : b < 64) {k : Nat} (hk : k + 1 < (subs b).length) : nextSub b ((subs b).getD k 0) = ((subs b).getD (k + 1) 0 : Nat) ∧ (subs b).getD k 0 < b ∧ (subs b).getD k 0 < (subs b).getD (k + 1) 0 := by
  have h := List.all_eq_true.1 subs_all b (List.mem_range.2 hb)
  have h2 := (subs_ends hb).2.1
  simp only [Bool.and_eq_true] at h
  have h1 := List.all_eq_true.1 h.1 k (List.mem_range.2 (by omega))
  simp only [hk, decide_true, Bool.not_true, Bool.false_or, Bool.and_eq_true, beq_iff_eq, decide_eq_true_eq] at h1
  exact ⟨h1.1.1, h1.1.2, h1.2⟩
theorem mem_subs {b s : Nat} : s ∈ subs b ↔ sans s b = 0 := by
  unfold subs
  simp only [List.mem_filter, List.mem_range, beq_iff_eq]
  exact ⟨fun h => h.2, fun h => ⟨by have := le_of_sans h; omega, h⟩⟩
/-- a bundle within b -/
abbrev Sub (b : Nat) := { s : Nat // sans s b = 0 }
def subsA (b : Nat) : List (Sub b) := (subs b).attach.map fun s => ⟨s.1, mem_subs.1 s.2⟩
theorem subsA_len (b : Nat) : (subsA b).length = (subs b).length := by simp [subsA]
theorem subsA_val (b : Nat) : (subsA b).map (·.1) = subs b := by simp [subsA]
theorem subsA_get {b k : Nat} (hk : k < (subs b).length) : ((subsA b)[k]'(by rw [subsA_len]; exact hk)).1 = (subs b).getD k 0 := by
  rw [List.getD_eq_getElem?_getD, List.getElem?_eq_getElem hk]
  simp [subsA]
theorem mem_subsA {b : Nat} (s : Sub b) : s ∈ subsA b := by
  have : s.1 ∈ (subsA b).map (·.1) := by rw [subsA_val]; exact mem_subs.2 s.2
  obtain ⟨t, ht, he⟩ := List.mem_map.1 this
  rw [← Subtype.ext he]; exact ht
set_option maxHeartbeats 1000000 in
theorem within_any (b : Nat) (w : World) :
    Calls Tryd.prog 81 #[.int .i64 b] w fun e w' => e = .returned (.func (.func 86) #[] #[.pointer (some ⟨w.heap.size, 0, none⟩)]) ∧ w' = w.alloc (.cells #[.int .i64 b] 71) := by
  go_enter Tryd.func81, Tryd.ntmps81
  go_wp2
  go_ret
  exact ⟨rfl, rfl⟩
/-- what a round keeps: the iterator's own cell -/
def KeepC (B : Nat) (W W' : World) : Prop := ∀ v, W.cell? ⟨B, 0, none⟩ = some v → W'.cell? ⟨B, 0, none⟩ = some v
theorem KeepC.below {B n : Nat} {W W' : World} (h : Below n W W') (hB : B < n) : KeepC B W W' := fun v hv => (h.cell (p := ⟨B, 0, none⟩) hB).trans hv
theorem KeepC.refl (B : Nat) (W : World) : KeepC B W W := fun _ h => h
theorem KeepC.put {B : Nat} (W : World) (l : Nat) (o o' : Obj) (hl : B < l) (h : W.heap[l]? = some o) : KeepC B W (W.putObj l o') := fun v hv =>
  (((Below.refl (B + 1) W).grown (grownBy_putObj' W l o') (by have := (Array.getElem?_eq_some_iff.1 h).1; omega) (fun k e => by cases e; omega)).cell (p := ⟨B, 0, none⟩) (by show B < B + 1; omega)).trans hv
set_option maxRecDepth 100000 in
set_option maxHeartbeats 1000000 in
theorem within1_in (n : Nat) (hn : 1 ≤ n) (l Bn : Nat) (b : Nat) (hb : b < 64) (J Jx : List (Sub b) → World → Prop)
    (hY : ∀ pre x W, J pre W → pre.length < (subs b).length → YieldAt Fence.wide (n - 1) Tryd.prog l #[.int .i64 (x.1 : Nat)] W fun e W' =>
      (e = .returned (.bool true) ∧ J (pre ++ [x]) W' ∧ KeepC Bn W W') ∨ (e = .returned (.bool false) ∧ Jx (pre ++ [x]) W'))
    (W : World) (hBn : W.cell? ⟨Bn, 0, none⟩ = some (.int .i64 b)) (h0 : J [] W) :
    CallsIn Fence.wide n Tryd.prog 86 #[.func (.yield l) #[] #[], .pointer (some ⟨Bn, 0, none⟩)] W fun e W' => (∃ v, e = .returned v) ∧
      ((∃ ys, ys = subsA b ∧ J ys W') ∨ (∃ pre, pre <+: subsA b ∧ Jx pre W')) := by
  have HE := Lib.hid (subs_ends hb)
  have HNX := Lib.hid (fun k hk => @subs_next b hb k hk)
  refine callsIn_of_wp Tryd.func86 rfl trivial ?_ rfl
  simp only [Tryd.ntmps86, List.size_toArray, List.length_cons, List.length_nil, Nat.reduceAdd, Nat.reduceSub, Array.replicate_succ, Array.replicate_zero, List.push_toArray, List.append_toArray, List.nil_append, List.cons_append]
  gi_wp2
  gi_loopw [3] (fun p wr => ∃ k : Nat, k < (subs b).length ∧ p = .int .i64 ((subs b).getD k 0 : Nat) ∧ J ((subsA b).take k) wr ∧ wr.cell? ⟨Bn, 0, none⟩ = some (.int .i64 b))
    (fun p wr => b - (intOf p).toNat)
  case atStart =>
    exact ⟨0, HE.out.1, by rw [HE.out.2.2.1]; rfl, h0, hBn⟩
  case round =>
    obtain ⟨k, hk, rfl, hJ, hc⟩ := hrel
    have hkA : k < (subsA b).length := by rw [subsA_len]; exact hk
    obtain ⟨fn, tmps, assign, body, hy, hR⟩ := hY ((subsA b).take k) ((subsA b)[k]'hkA) wr hJ (by rw [List.length_take]; omega)
    rw [List.take_append_getElem hkA] at hR
    rw [subsA_get hk] at hy
    have HR := Lib.hid hR
    have HNXk := Lib.hid (HNX.out k)
    obtain ⟨x, hx⟩ : ∃ x, (subs b).getD k 0 = x := ⟨_, rfl⟩
    rw [hx] at hy HNXk ⊢
    have HX := Lib.hid hx
    clear hR hx hJ
    gi_wp2
    refine HR.out.mono ?_
    rintro e W3 (⟨rfl, hJ3, hk3⟩ | ⟨rfl, hJx3⟩)
    · have hc3 : W3.cell? ⟨Bn, 0, none⟩ = some (.int .i64 b) := hk3 _ hc
      by_cases hlast : k + 1 < (subs b).length
      · obtain ⟨hn1, hlt, hxy⟩ := HNXk.out hlast
        have hne : ((x : Int) != (b : Int)) = true := by rw [bne_iff_ne]; omega
        have hw1 : IntKind.i64.wrap ((x : Int) - b) = (x : Int) - b := IntWalk.i64_in _ (by omega)
        have hbx : bits .and .i64 ((x : Int) - b) b = ((subs b).getD (k + 1) 0 : Nat) := hn1
        have HL2 : Hid ((subs b).getD (k + 1) 0 ≤ b) := le_of_sans (mem_subs.1 (by rw [List.getD_eq_getElem?_getD, List.getElem?_eq_getElem hlast]; exact List.getElem_mem hlast))
        have HJ3 := Lib.hid hJ3
        have HXL : Hid (x < b) := hlt
        clear hn1 hJ3 hlt
        obtain ⟨y, hy2⟩ : ∃ y, (subs b).getD (k + 1) 0 = y := ⟨_, rfl⟩
        rw [hy2] at hbx HL2 hxy
        have HXY : Hid (x < y) := hxy
        clear hxy
        gi_wp2
        go_roundw
        case rel => exact ⟨k + 1, hlast, by rw [hy2], HJ3.out, hc3⟩
        case measure => have h1 := HXY.out; have h2 := HL2.out; simp [intOf]; omega
      · have hkk : k = (subs b).length - 1 := by omega
        have hgk : (subs b).getD k 0 = b := by rw [hkk]; exact HE.out.2.2.2
        obtain rfl : x = b := by rw [← HX.out]; exact hgk
        clear hkk hgk
        have heq : ((x : Int) != (x : Int)) = false := by simp
        gi_wp2
        go_end0
        have e0 : (subsA x).take (k + 1) = subsA x := List.take_of_length_le (by rw [subsA_len]; omega)
        rw [e0] at hJ3
        exact ⟨⟨_, rfl⟩, .inl ⟨subsA x, rfl, hJ3⟩⟩
    · gi_wp2
      go_end0
      exact ⟨⟨_, rfl⟩, .inr ⟨(subsA b).take (k + 1), List.take_prefix _ _, hJx3⟩⟩
theorem within_stops (n : Nat) (hn : 1 ≤ n) (Bn b : Nat) (hb : b < 64) (w : World) (hB : Bn < w.heap.size) (hc : w.cell? ⟨Bn, 0, none⟩ = some (.int .i64 b)) :
    SeqStopsK Fence.wide n Tryd.prog 86 #[.pointer (some ⟨Bn, 0, none⟩)] (fun x : Sub b => #[Value.int .i64 (x.1 : Nat)]) (KeepC Bn) (fun ys => ys = subsA b) (fun pre => pre <+: subsA b) (subs b).length w := fun l J Jx W hW _ _ hY h0 =>
  within1_in n hn l Bn b hb J Jx hY W ((hW.cell (p := ⟨Bn, 0, none⟩) hB).trans hc) h0

/-! ## functions that range over an iterator -/
def mark (D : Nat) : Deferred := { target := .collected D, args := #[] }
/-- the marks that such loops leave -/
def Marks (B : Nat) (w : World) (ds : List Deferred) : Prop := ∃ Ds : List Nat, ds = Ds.map mark ∧ Ds.Nodup ∧ ∀ D, D ∈ Ds → B ≤ D ∧ w.heap[D]? = some (.deferred (some []))
theorem Marks.nil (B : Nat) (w : World) : Marks B w [] := ⟨[], rfl, List.nodup_nil, fun D hD => by cases hD⟩
theorem Marks.lt {B : Nat} {w : World} {ds : List Deferred} (h : Marks B w ds) : ∀ D, mark D ∈ ds → D < w.heap.size := by
  obtain ⟨Ds, rfl, _, hd⟩ := h
  intro D hD
  obtain ⟨D', hD', he⟩ := List.mem_map.1 hD
  have : D' = D := by unfold mark at he; simpa using he
  subst this
  exact (Array.getElem?_eq_some_iff.1 (hd _ hD').2).1
theorem Marks.cons {B D : Nat} {w w' : World} {ds : List Deferred} (h : Marks B w ds) (hw : Marks B w' ds) (hD : w.heap.size ≤ D) (hB : B ≤ w.heap.size) (hd : w'.heap[D]? = some (.deferred (some []))) : Marks B w' ({ target := .collected D, args := #[] } :: ds) := by
  have hlt := h.lt
  obtain ⟨Ds, rfl, hn, hall⟩ := hw
  refine ⟨D :: Ds, rfl, List.nodup_cons.2 ⟨fun hm => ?_, hn⟩, fun D' hD' => ?_⟩
  · have := hlt D (List.mem_map.2 ⟨D, hm, rfl⟩)
    omega
  · rcases List.mem_cons.1 hD' with rfl | h'
    · exact ⟨by omega, hd⟩
    · exact hall _ h'
theorem Marks.keeps {B : Nat} {w w' : World} {ds : List Deferred} (h : Marks B w ds) (hk : KeepsOthers w w') : Marks B w' ds := by
  obtain ⟨Ds, rfl, hn, hall⟩ := h
  exact ⟨Ds, rfl, hn, fun D hD => ⟨(hall D hD).1, hk.same _ _ (hall D hD).2 rfl⟩⟩
theorem Marks.grown {B C : Nat} {w w' : World} {ds : List Deferred} {row : Option Nat} (h : Marks B w ds) (hC : ∀ D, mark D ∈ ds → D < C) (hg : w.grownBy w' row) (hr : ∀ r, row = some r → C ≤ r) : Marks B w' ds := by
  obtain ⟨Ds, rfl, hn, hall⟩ := h
  refine ⟨Ds, rfl, hn, fun D hD => ⟨(hall D hD).1, ?_⟩⟩
  have h1 := hall D hD
  refine (hg.block D (Array.getElem?_eq_some_iff.1 h1.2).1 (fun e => ?_)).trans h1.2
  have := hr D e.symm
  have := hC D (List.mem_map.2 ⟨D, hD, rfl⟩)
  omega
theorem Row.put {T : TypeId} {w : World} {g : Nat} {xs : List Value} (h : Row T w g xs) (D : Nat) (o o' : Obj) (hD : w.heap[D]? = some o) (ho : o.isCells = false) : Row T (w.putObj D o') g xs := by
  unfold Row at h ⊢
  have hne : g ≠ D := by rintro rfl; rw [h] at hD; cases hD; cases ho
  exact (World.putObj_heap_other hne).trans h
theorem marks_leave {P : Program} {fn : Func} {tmps : Array Value} {R : Ending → World → Prop} {B : Nat} {w : World} {ds : List Deferred} (h : Marks B w ds)
    (hR : ∀ w', Below B w w' → (∀ g T xs, Row T w g xs → Row T w' g xs) → ∃ v, (results fn tmps).run P w' = .ok v w' ∧ R (.returned v) w') : LeavesInM Fence.wide 6 P fn tmps R ds .returning w := by
  obtain ⟨Ds, rfl, hn, hall⟩ := h
  induction Ds generalizing w with
  | nil => exact hR w (Below.refl _ _) (fun _ _ _ h => h)
  | cons D Ds ih =>
    obtain ⟨hd, hn2⟩ := List.nodup_cons.1 hn
    have hD := hall D (by simp)
    refine ⟨by simp, .inl ⟨D, _, rfl, run_takeDeferred hD.2, ?_⟩⟩
    refine ih (fun w' hb hrow => ?_) hn2 (fun D' hD' => ?_)
    · refine hR w' (Below.trans ((Below.refl B w).grown (grownBy_putObj' w D _) ?_ (fun k e => by cases e; exact hD.1)) hb) (fun g T xs h => hrow g T xs (h.put D _ _ hD.2 rfl))
      have := (Array.getElem?_eq_some_iff.1 hD.2).1
      have := hD.1
      omega
    · have h1 := hall D' (by simp [hD'])
      refine ⟨h1.1, (World.putObj_heap_other (fun e => ?_)).trans h1.2⟩
      subst e; exact hd hD'
/-- a function's contract from its body, where the body ranges over an iterator -/
theorem calls_marks {P : Program} {f : FuncId} {fn : Func} {c : Code} {args : Array Value} {w : World} {R : Ending → World → Prop} (hf : P.funcs[f]? = some fn) (hb : fn.body = some c)
    (h : ∀ Q : Exit → Act → World → Prop, (∀ a w, LeavesInM Fence.wide 6 P fn a.tmps R a.defers .returning w → Q .ret a w ∧ Q .normal a w) → c.wp P Q { tmps := args ++ Array.replicate (fn.ntmps - args.size) undef, defers := [] } w) : Calls P f args w R :=
  (callsIn_wide (n := 6)).1 (callsIn_of_wp_marks hf hb trivial (wpIn_wide.2 (h _ (fun a w h => ⟨h, h⟩))) rfl)
theorem wp_range_subs {p : Tmp} {assign body : Code} {Q : Exit → Act → World → Prop} {a : Act} {w : World} {Bn b : Nat} {g : Operand}
    (hg : a.eval g = .func (.func 86) #[] #[.pointer (some ⟨Bn, 0, none⟩)]) (hb : b < 64) (hB : Bn < w.heap.size) (hc : w.cell? ⟨Bn, 0, none⟩ = some (.int .i64 b))
    (I : List (Sub b) → World → Prop) (Ix : Code → List (Sub b) → World → Prop) (hI : OwnFrom w.heap.size I) (hIx : ∀ c, OwnFrom w.heap.size (Ix c)) (h0 : I [] w) (a₁ : Sub b → Act)
    (hassign : ∀ (l : Nat) (x : Sub b) (W : World) (K : Act → World → Prop), K (a₁ x) W →
      assign.wpIn (Fence.wide.inRound l) 4 Tryd.prog (Exit.then K (fun _ _ _ => False)) { tmps := (#[p].zip #[Value.int .i64 (x.1 : Nat)]).foldl (fun t (p, v) => t.setIfInBounds p v) a.tmps, defers := [] } W)
    (hbody : ∀ (l : Nat) (pre : List (Sub b)) (x : Sub b) (W : World), I pre W → pre.length < (subs b).length → body.wpIn (Fence.wide.inRound l) 4 Tryd.prog (ownPostK (KeepC Bn) I Ix (pre ++ [x]) W) (a₁ x) W)
    (hdone : ∀ (D : Nat) (W : World), w.heap.size ≤ D → I (subsA b) W → W.heap[D]? = some (.deferred (some [])) → Q .normal { a with defers := { target := .collected D, args := #[] } :: a.defers } W)
    (hstop : ∀ (D : Nat) (c : Code) (pre : List (Sub b)) (W : World), w.heap.size ≤ D → pre <+: subsA b → Ix c pre W → W.heap[D]? = some (.deferred (some [])) → c.wp Tryd.prog Q { a with defers := { target := .collected D, args := #[] } :: a.defers } W) :
    (Code.rangeFunc g #[p] assign body).wp Tryd.prog Q a w :=
  (wpIn_wide (n := 6)).1 (wpIn_rangeFunc_ownF rfl (by omega) hg trivial (enters_of Tryd.func86 (by kernel_rfl) rfl) (within_stops (6 - 1) (by omega) Bn b hb w hB hc) (fun h k v hv => k v (h v hv)) (fun W l o o' hl ho _ _ => KeepC.put W l o o' (by omega) ho) (Below.refl _ _) (fun _ => rfl)
    I Ix hI hIx h0 a₁ hassign hbody (fun D xs W hD hS hi hk => by subst hS; exact hdone D W hD hi hk) (fun D c pre W hD hS hi hk => wpIn_wide.2 (hstop D c pre W hD hS hi hk)))
end Go.Proofs.YthbfgmgpploneaaDoor
