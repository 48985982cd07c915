/- Range over a function, where loop and iterator both write: who writes what is said by sets of blocks. -/
import Derived.Test.YtllhejjcmfiebaaDoorS2
set_option linter.unusedVariables false
set_option linter.unusedSimpArgs false
set_option linter.unnecessarySimpa false
namespace Go.Proofs.YtllhejjcmfiebaaDoor
open Go.RowKit Go.Shelf
structure Same (K : Nat → Prop) (w w' : World) : Prop where
 os : w'.os = w.os
 tape : w'.tape = w.tape
 output : w'.output = w.output
 size : w.heap.size ≤ w'.heap.size
 block : ∀ b, b < w.heap.size → K b → w'.heap[b]? = w.heap[b]?
theorem Same.refl (K : Nat → Prop) (w : World) : Same K w w := ⟨rfl, rfl, rfl, Nat.le_refl _, fun _ _ _ => rfl⟩
theorem Same.trans {K K' : Nat → Prop} {a b c : World} (h : Same K a b) (k : Same K' b c) (hk : ∀ x, x < a.heap.size → K x → K' x) : Same K a c :=
 ⟨k.os.trans h.os, k.tape.trans h.tape, k.output.trans h.output, Nat.le_trans h.size k.size, fun x hx hK => (k.block x (Nat.lt_of_lt_of_le hx h.size) (hk x hx hK)).trans (h.block x hx hK)⟩
theorem Same.mono {K K' : Nat → Prop} {a b : World} (h : Same K a b) (hk : ∀ x, x < a.heap.size → K' x → K x) : Same K' a b := ⟨h.os, h.tape, h.output, h.size, fun x hx hK => h.block x hx (hk x hx hK)⟩
theorem Same.of_below {B : Nat} {K : Nat → Prop} {a b : World} (h : Below B a b) (hK : ∀ x, x < a.heap.size → K x → x < B) : Same K a b := ⟨h.os, h.tape, h.output, h.size, fun x hx hk => h.block x (hK x hx hk)⟩
theorem Same.of_grownBy {K : Nat → Prop} {a b : World} {row : Option Nat} (h : a.grownBy b row) (hK : ∀ x, K x → row ≠ some x) : Same K a b := ⟨h.os, h.tape, h.output, h.size, fun x hx hk => h.block x hx fun e => hK x hk e.symm⟩
theorem Same.alloc (K : Nat → Prop) (w : World) (o : Obj) : Same K w (w.alloc o) := Same.of_below (Below.alloc (Below.refl w.heap.size w) (Nat.le_refl _) o) fun x hx _ => hx
theorem Same.put {K : Nat → Prop} {w : World} {l : Nat} {o : Obj} (o' : Obj) (hl : w.heap[l]? = some o) (hK : ¬ K l) : Same K w (w.putObj l o') :=
 Same.of_grownBy (grownBy_putObj' w l o') fun x hx e => by cases e; exact hK hx
theorem Same.setCell {K : Nat → Prop} (w : World) (a : Addr) (v : Value) (hK : ¬ K a.block) : Same K w (w.setCell a v) :=
 ⟨rfl, rfl, rfl, by rw [World.size_setCell]; exact Nat.le_refl _, fun b hb hk => Below.heap_setCell _ _ _ _ fun e => hK (e ▸ hk)⟩
theorem Same.drew (K : Nat → Prop) (w : World) : Same K w w.drew := ⟨rfl, rfl, rfl, Nat.le_refl _, fun _ _ _ => rfl⟩
theorem Same.row {K : Nat → Prop} {T g : Nat} {w w' : World} {xs : List Value} (h : Same K w w') (hr : Row T w g xs) (hg : K g) : Row T w' g xs := by
 unfold Row at hr ⊢; rw [h.block g (lt_of_block hr) hg]; exact hr
theorem Same.at_ {K : Nat → Prop} {g : Nat} {w w' : World} {o : Obj} (h : Same K w w') (hr : w.heap[g]? = some o) (hg : K g) : w'.heap[g]? = some o := by
 rw [h.block g (lt_of_block hr) hg]; exact hr
def ItK (G : Nat → Prop) (B0 : Nat) (M : Nat → Prop) (b : Nat) : Prop := (b < B0 ∧ ¬ G b) ∨ M b
abbrev Bd (M M' : Nat → Prop) (w w' : World) : Prop := Same (fun b => ¬ M b) w w' ∧ ∀ b, M' b → M b ∨ w.heap.size ≤ b
theorem Bd.refl (M : Nat → Prop) (w : World) : Bd M M w w := ⟨Same.refl _ _, fun b h => .inl h⟩
theorem Bd.trans {M M' M'' : Nat → Prop} {a b c : World} (h : Bd M M' a b) (k : Bd M' M'' b c) : Bd M M'' a c :=
 ⟨h.1.trans k.1 fun x hx hn hm => (h.2 x hm).elim hn (fun hle => by omega), fun x hx => (k.2 x hx).elim (fun hm => h.2 x hm) (fun hle => .inr (Nat.le_trans h.1.size hle))⟩
structure Stab {α : Type} (G : Nat → Prop) (B0 : Nat) (J : List α → (Nat → Prop) → World → Prop) : Prop where
 lt : ∀ pre M W, J pre M W → ∀ b, M b → b < W.heap.size
 stay : ∀ pre M W W', J pre M W → Same (ItK G B0 M) W W' → J pre M W'
def Turn {α : Type} (J Jx : List α → (Nat → Prop) → World → Prop) (pre : List α) (x : α) (M : Nat → Prop) (W : World) (e : Ending) (W' : World) : Prop :=
 ∃ M', Bd M M' W W' ∧ ((e = .returned (.bool true) ∧ J (pre ++ [x]) M' W') ∨ (e = .returned (.bool false) ∧ Jx (pre ++ [x]) M' W'))
def SeqC (P : Program) {α : Type} (gf : FuncId) (bs lb : Array Value) (enc : α → Array Value) (R G : Nat → Prop) (Pre : List α → α → Prop) (S Sp : List α → World → Prop) (w0 : World) : Prop :=
 ∀ (l : Nat) (J Jx : List α → (Nat → Prop) → World → Prop) (M : Nat → Prop) (W : World), Same (fun _ => True) w0 W → Stab G W.heap.size J → Stab G W.heap.size Jx → (∀ b, M b → ¬ R b) →
  (∀ pre x M W, J pre M W → Pre pre x → YieldAt Fence.wide 4 P l (enc x) W (Turn J Jx pre x M W)) → J [] M W →
  Calls P gf ((bs ++ #[.func (.yield l) #[] #[]]) ++ lb) W fun e W' => (∃ v, e = .returned v) ∧ ((∃ xs M', S xs W' ∧ J xs M' W') ∨ (∃ xs M', Sp xs W' ∧ Jx xs M' W'))
theorem roundIn_wide {P : Program} {m k l : Nat} {f : FuncId} {tmps : Array Value} {assign body : Code} {w : World} {R : Ending → World → Prop} (h : RoundIn Fence.wide m P l f tmps assign body w R) : RoundIn Fence.wide k P l f tmps assign body w R :=
 ⟨trivial, fun c cs _ => h.2 c cs (room_wide _)⟩
theorem roundIn_in {P : Program} {m k l l' : Nat} {f : FuncId} {tmps : Array Value} {assign body : Code} {w : World} {R : Ending → World → Prop} (h : RoundIn Fence.wide m P l f tmps assign body w R) : RoundIn (Fence.wide.inRound l') k P l f tmps assign body w R :=
 ⟨trivial, fun c cs _ => h.2 c cs (room_wide _)⟩
def TurnB {α : Type} (M : Nat → Prop) (I : List α → (Nat → Prop) → World → Prop) (Ix : Code → List α → (Nat → Prop) → World → Prop) (xs : List α) (W : World) : Exit → Act → World → Prop
 | .normal, _, W' => ∃ M', Bd M M' W W' ∧ I xs M' W'
 | .ret, _, W' => ∃ M', Bd M M' W W' ∧ Ix .ret xs M' W'
 | .exit id, _, W' => ∃ M', Bd M M' W W' ∧ Ix (.exit id) xs M' W'
 | .goto t, _, W' => ∃ M', Bd M M' W W' ∧ Ix (.goto t) xs M' W'
 | .panic _, _, _ => False
 | .outgrown, _, _ => False
set_option maxHeartbeats 2000000 in
theorem wp_range_gen {P : Program} {α : Type} {g : Operand} {ps : Array Tmp} {assign body : Code} {Q : Exit → Act → World → Prop} {a : Act} {w : World} {gf : FuncId} {bs lb : Array Value}
  (hg : a.eval g = .func (.func gf) bs lb) (eg : ∀ args w, (callFunc gf args).run P w = .ok (.enter gf args) w) {enc : α → Array Value} (hps : ∀ x, (enc x).size = ps.size)
  {R G : Nat → Prop} {Pre : List α → α → Prop} {S Sp : List α → World → Prop} (hseq : SeqC P gf bs lb enc R G Pre S Sp w) (hGw : ∀ b, R b → b < w.heap.size) (hGR : ∀ b, G b → R b)
  (hS : ∀ xs (W : World) r o o', W.heap[r]? = some (.loop o) → w.heap.size ≤ r → S xs W → S xs (W.putObj r o')) (hSp : ∀ xs (W : World) r o o', W.heap[r]? = some (.loop o) → w.heap.size ≤ r → Sp xs W → Sp xs (W.putObj r o'))
  (I : List α → (Nat → Prop) → World → Prop) (Ix : Code → List α → (Nat → Prop) → World → Prop) (hI : Stab G w.heap.size I) (hIx : ∀ c, Stab G w.heap.size (Ix c)) (M0 : Nat → Prop) (hM0 : ∀ b, M0 b → ¬ R b ∧ b < w.heap.size) (h0 : I [] M0 w)
  (Ax : α → Act → (Nat → Prop) → World → Prop) (hAx : ∀ x a' (M : Nat → Prop) (W : World) r o o', W.heap[r]? = some (.loop o) → Ax x a' M W → Ax x a' M (W.putObj r o'))
  (hassign : ∀ (l : Nat) (pre : List α) (x : α) (M : Nat → Prop) (W : World) (K : Act → World → Prop), I pre M W → (∀ a' M' W', Bd M M' W W' → I pre M' W' → Ax x a' M' W' → K a' W') →
   assign.wpIn (Fence.wide.inRound l) 4 P (Exit.then K (fun _ _ _ => False)) { tmps := (ps.zip (enc x)).foldl (fun t (p, v) => t.setIfInBounds p v) a.tmps, defers := [] } W)
  (hbody : ∀ (l : Nat) (pre : List α) (x : α) (M : Nat → Prop) (a' : Act) (W : World), I pre M W → Ax x a' M W → Pre pre x → body.wpIn (Fence.wide.inRound l) 4 P (TurnB M I Ix (pre ++ [x]) W) a' W)
  (hdone : ∀ (D : Nat) (xs : List α) (M : Nat → Prop) (W : World), w.heap.size ≤ D → ¬ M D → S xs W → I xs M W → W.heap[D]? = some (.deferred (some [])) → Q .normal { a with defers := { target := .collected D, args := #[] } :: a.defers } W)
  (hstop : ∀ (D : Nat) (c : Code) (xs : List α) (M : Nat → Prop) (W : World), w.heap.size ≤ D → ¬ M D → Sp xs W → Ix c xs M W → W.heap[D]? = some (.deferred (some [])) → c.wp P Q { a with defers := { target := .collected D, args := #[] } :: a.defers } W) :
  (Code.rangeFunc g ps assign body).wp P Q a w := by
 refine (wpIn_wide (n := 6)).1 (wpIn_rangeFunc ?_)
 intro fn hfn
 obtain ⟨D, hD⟩ : ∃ D, w.heap.size = D := ⟨_, rfl⟩
 obtain ⟨rc, hrc⟩ : ∃ rc : LoopState → Option Code → Loop, rc = fun st pe => { state := st, pending := pe, fn, tmps := a.tmps, params := ps, assign, body, defers := D } := ⟨_, rfl⟩
 obtain ⟨V, hV⟩ : ∃ V, (w.alloc (.deferred (some []))).alloc (.loop (rc .ready none)) = V := ⟨_, rfl⟩
 have hVL : V.heap[D + 1]? = some (.loop (rc .ready none)) := by
  have := World.alloc_heap_new (w.alloc (.deferred (some []))) (.loop (rc .ready none))
  rw [World.size_alloc, hD, hV] at this; exact this
 have hVD : V.heap[D]? = some (.deferred (some [])) := by
  rw [← hV, ← hD]; exact (Below.heap_alloc _ _ _ (by simp)).trans (World.alloc_heap_new w _)
 have hVw : Same (fun _ => True) w V := by rw [← hV]; exact (Same.alloc _ _ _).trans (Same.alloc _ _ _) fun _ _ h => h
 have hVs : V.heap.size = D + 2 := by rw [← hV, World.size_alloc, World.size_alloc, hD]
 have hlt0 := hI.lt _ _ _ h0
 have hVI : I [] M0 V := hI.stay _ _ _ _ h0 (hVw.mono fun _ _ _ => trivial)
 have hwD : w.heap.size ≤ D := by omega
 obtain ⟨J, hJ⟩ : ∃ J : List α → (Nat → Prop) → World → Prop, J = fun pre M W => ∃ M1, I pre M1 W ∧ (∀ b, M b ↔ M1 b ∨ b = D + 1) ∧ ¬ M1 D ∧ ¬ M1 (D + 1) ∧ W.heap[D + 1]? = some (.loop (rc .ready none)) ∧ W.heap[D]? = some (.deferred (some [])) := ⟨_, rfl⟩
 obtain ⟨Jx, hJx⟩ : ∃ Jx : List α → (Nat → Prop) → World → Prop, Jx = fun pre M W => ∃ c M1, Ix c pre M1 W ∧ (∀ b, M b ↔ M1 b ∨ b = D + 1) ∧ ¬ M1 D ∧ ¬ M1 (D + 1) ∧ W.heap[D + 1]? = some (.loop (rc .done (some c))) ∧ W.heap[D]? = some (.deferred (some [])) := ⟨_, rfl⟩
 have hGD : ∀ b, R b → b < D := fun b h => by have := hGw b h; omega
 have hGn : ∀ b, D ≤ b → ¬ G b := fun b hb h => by have := hGD b (hGR b h); omega
 refine ⟨D + 1, [{ target := .collected D, args := #[] }], V, { target := .fn (.func gf) lb, args := bs ++ #[.func (.yield (D + 1)) #[] #[]] }, V, gf,
  (bs ++ #[.func (.yield (D + 1)) #[] #[]]) ++ lb, V, ?_, ?_, ?_, ?_, fun _ => by omega, ?_⟩
 ·have := run_enterLoop_outer (P := P) (w := w) fn a.tmps ps assign body
  rw [hD] at this
  rw [← hV, hrc]; exact this
 ·simp only [resolve, hg]
  simp [go_sem]
 ·intro f' hf'; trivial
 ·simp [invoke, go_sem, eg]
 ·have sub : ∀ {M M1 : Nat → Prop} {W W' : World}, (∀ b, M b ↔ M1 b ∨ b = D + 1) → Same (ItK G V.heap.size M) W W' → Same (ItK G w.heap.size M1) W W' := fun hM h => h.mono fun x _ hx => by
   rcases hx with ⟨h1, h2⟩ | h1
   ·exact .inl ⟨by omega, h2⟩
   ·exact .inr ((hM x).2 (.inl h1))
  have hst : ∀ {I1 : List α → (Nat → Prop) → World → Prop} {rec : Loop}, Stab G w.heap.size I1 →
    Stab G V.heap.size (fun pre M W => ∃ M1, I1 pre M1 W ∧ (∀ b, M b ↔ M1 b ∨ b = D + 1) ∧ ¬ M1 D ∧ ¬ M1 (D + 1) ∧ W.heap[D + 1]? = some (.loop rec) ∧ W.heap[D]? = some (.deferred (some []))) := fun {I1 rec} h1 => by
   refine ⟨fun pre M W hj b hb => ?_, fun pre M W W' hj hs => ?_⟩
   ·obtain ⟨M1, hi, hM, _, _, hl, _⟩ := hj
    rcases (hM b).1 hb with h | rfl
    ·exact h1.lt _ _ _ hi b h
    ·exact lt_of_block hl
   ·obtain ⟨M1, hi, hM, n1, n2, hl, hd⟩ := hj
    exact ⟨M1, h1.stay _ _ _ _ hi (sub hM hs), hM, n1, n2, hs.at_ hl (.inl ⟨by omega, hGn _ (by omega)⟩), hs.at_ hd (.inl ⟨by omega, hGn _ (by omega)⟩)⟩
  have hbook : ∀ (r : Loop) {I1 : List α → (Nat → Prop) → World → Prop} {pre : List α} {M1 : Nat → Prop} {W : World}, Stab G w.heap.size I1 → ¬ M1 (D + 1) → W.heap[D + 1]? = some (.loop r) → I1 pre M1 W → ∀ o', I1 pre M1 (W.putObj (D + 1) o') := fun r {I1 pre M1 W} h1 hn hl hi o' =>
   h1.stay _ _ _ _ hi (Same.put _ hl (fun hk => by rcases hk with ⟨h, _⟩ | h; omega; exact hn h))
  refine callsIn_wide.2 ((hseq (D + 1) J Jx (fun b => M0 b ∨ b = D + 1) V hVw (by rw [hJ]; exact hst hI) ?_ ?_ ?_ ?_).mono ?_)
  ·rw [hJx]
   refine ⟨fun pre M W ⟨c, hj⟩ b hb => (hst (hIx c)).lt pre M W hj b hb, fun pre M W W' ⟨c, hj⟩ hs => ⟨c, (hst (hIx c)).stay pre M W W' hj hs⟩⟩
  ·rintro b (hb | rfl)
   ·exact (hM0 b hb).1
   ·intro h; have := hGD _ h; omega
  ·-- one turn
   intro pre x M W hj hpre
   rw [hJ] at hj
   obtain ⟨M1, hi, hM, n1, n2, hl, hd⟩ := hj
   have hlt : D + 1 < W.heap.size := lt_of_block hl
   have hy := run_yield (P := P) (args := enc x) hl (by rw [hrc]; exact hps x)
   rw [hrc] at hy
   refine ⟨fn, _, assign, body, hy, roundIn_wide (m := 4) (roundIn_of_wpIn trivial (hassign _ pre x M1 W _ hi ?_))⟩
   intro a' M2 Wa hb2 hi2 hax
   have hn2 : ∀ b, b < W.heap.size → ¬ M1 b → ¬ M2 b := fun b hb hn hm => (hb2.2 b hm).elim hn fun h => by omega
   have hla := hb2.1.at_ hl n2
   have hda := hb2.1.at_ hd n1
   refine ⟨_, run_beginRound hla (by rw [hrc]), ?_⟩
   have hlt2 : D + 1 < Wa.heap.size := lt_of_block hla
   have hl3 : (Wa.putObj (D + 1) (.loop { rc .ready none with state := .busy })).heap[D + 1]? = some (.loop { rc .ready none with state := .busy }) := World.putObj_heap_same hlt2
   have hd3 : (Wa.putObj (D + 1) (.loop { rc .ready none with state := .busy })).heap[D]? = some (.deferred (some [])) := (World.putObj_heap_other (by omega)).trans hda
   have n12 := hn2 _ (by omega) n1
   have n22 := hn2 _ hlt n2
   have hi3 := hbook _ hI n22 hla hi2 (.loop { rc .ready none with state := .busy })
   refine wpIn_mono (hbody _ pre x M2 a' _ hi3 (hAx x a' _ _ _ _ _ hla hax) hpre) ?_
   have fin : ∀ (jump : Option Code) (I1 : List α → (Nat → Prop) → World → Prop) (M3 : Nat → Prop) (W3 : World), Stab G w.heap.size I1 → Bd M2 M3 (Wa.putObj (D + 1) (.loop { rc .ready none with state := .busy })) W3 → I1 (pre ++ [x]) M3 W3 →
     (Instr.endRound (D + 1) jump).run P W3 = .ok (.bool jump.isNone) (W3.putObj (D + 1) (.loop (rc (if jump.isNone then .ready else .done) jump))) ∧
     (∃ M1, I1 (pre ++ [x]) M1 (W3.putObj (D + 1) (.loop (rc (if jump.isNone then .ready else .done) jump))) ∧ (∀ b, (M3 b ∨ b = D + 1) ↔ M1 b ∨ b = D + 1) ∧ ¬ M1 D ∧ ¬ M1 (D + 1) ∧
      (W3.putObj (D + 1) (.loop (rc (if jump.isNone then .ready else .done) jump))).heap[D + 1]? = some (.loop (rc (if jump.isNone then .ready else .done) jump)) ∧
      (W3.putObj (D + 1) (.loop (rc (if jump.isNone then .ready else .done) jump))).heap[D]? = some (.deferred (some []))) ∧
     Bd M (fun b => M3 b ∨ b = D + 1) W (W3.putObj (D + 1) (.loop (rc (if jump.isNone then .ready else .done) jump))) := fun jump I1 M3 W3 hst1 hb3 hi4 => by
    have hp : (Wa.putObj (D + 1) (.loop { rc .ready none with state := .busy })).heap.size = Wa.heap.size := by simp
    have hl4 := hb3.1.at_ hl3 n22
    have hd4 := hb3.1.at_ hd3 n12
    have hlt4 : D + 1 < W3.heap.size := lt_of_block hl4
    have n13 : ¬ M3 D := fun h => (hb3.2 _ h).elim n12 fun h => by rw [hp] at h; omega
    have n23 : ¬ M3 (D + 1) := fun h => (hb3.2 _ h).elim n22 fun h => by rw [hp] at h; omega
    have hb3' := hb3.1
    have h1 := run_endRound (P := P) jump hl4
    rw [hrc] at h1 hl4 ⊢
    refine ⟨h1, ⟨M3, hbook _ hst1 n23 hl4 hi4 _, fun b => Iff.rfl, n13, n23, World.putObj_heap_same hlt4, (World.putObj_heap_other (by omega)).trans hd4⟩, ?_, ?_⟩
    ·have e1 : Same (fun b => ¬ M b) W Wa := hb2.1.mono fun b _ hb hm => hb ((hM b).2 (.inl hm))
     have e2 : Same (fun b => ¬ M b) Wa (Wa.putObj (D + 1) (.loop { rc .ready none with state := .busy })) := Same.put _ hla fun h => h ((hM _).2 (.inr rfl))
     have e3 : Same (fun b => ¬ M b) W (Wa.putObj (D + 1) (.loop { rc .ready none with state := .busy })) := e1.trans e2 fun _ _ h => h
     have e4 := e3.trans hb3' (fun b hb hn => hn2 b hb fun hm => hn ((hM b).2 (.inl hm)))
     refine e4.trans (Same.put _ hl4 fun h => ?_) fun _ _ h => h
     exact h ((hM _).2 (.inr rfl))
    ·rintro b (hb | rfl)
     ·rcases hb3.2 b hb with h | h
      ·rcases hb2.2 b h with h | h
       ·exact .inl ((hM b).2 (.inl h))
       ·exact .inr h
      ·rw [hp] at h; exact .inr (Nat.le_trans hb2.1.size h)
     ·exact .inl ((hM _).2 (.inr rfl))
   rintro e a3 W3 hp
   cases e with
   | normal =>
    obtain ⟨M3, hb3, hi4⟩ := hp
    obtain ⟨e1, e2, e3⟩ := fin none I M3 W3 hI hb3 hi4
    exact ⟨_, _, e1, _, e3, .inl ⟨rfl, by rw [hJ]; exact e2⟩⟩
   | ret =>
    obtain ⟨M3, hb3, hi4⟩ := hp
    obtain ⟨e1, e2, e3⟩ := fin (some .ret) (Ix .ret) M3 W3 (hIx _) hb3 hi4
    exact ⟨_, _, e1, _, e3, .inr ⟨rfl, by rw [hJx]; exact ⟨_, e2⟩⟩⟩
   | exit id =>
    obtain ⟨M3, hb3, hi4⟩ := hp
    obtain ⟨e1, e2, e3⟩ := fin (some (.exit id)) (Ix (.exit id)) M3 W3 (hIx _) hb3 hi4
    exact ⟨_, _, e1, _, e3, .inr ⟨rfl, by rw [hJx]; exact ⟨_, e2⟩⟩⟩
   | goto t =>
    obtain ⟨M3, hb3, hi4⟩ := hp
    obtain ⟨e1, e2, e3⟩ := fin (some (.goto t)) (Ix (.goto t)) M3 W3 (hIx _) hb3 hi4
    exact ⟨_, _, e1, _, e3, .inr ⟨rfl, by rw [hJx]; exact ⟨_, e2⟩⟩⟩
   | panic ch => exact hp.elim
   | outgrown => exact hp.elim
  ·rw [hJ]
   exact ⟨M0, hVI, fun b => Iff.rfl, fun h => by have := (hM0 _ h).2; omega, fun h => by have := (hM0 _ h).2; omega, hVL, hVD⟩
  ·rintro e W2 ⟨⟨v, rfl⟩, (⟨xs, M', hs, hj⟩ | ⟨xs, M', hs, hj⟩)⟩
   ·rw [hJ] at hj
    obtain ⟨M1, hi, hM, n1, n2, hl, hd⟩ := hj
    have h1 := run_endLoop (P := P) hl (by rw [hrc]; simp)
    rw [hrc] at h1
    exact ⟨none, _, h1, hdone D xs M1 _ hwD n1 (hS _ _ _ _ _ hl (by omega) hs) (hbook _ hI n2 hl hi _) ((World.putObj_heap_other (by omega)).trans hd)⟩
   ·rw [hJx] at hj
    obtain ⟨c, M1, hi, hM, n1, n2, hl, hd⟩ := hj
    have h1 := run_endLoop (P := P) hl (by rw [hrc]; simp)
    rw [hrc] at h1
    exact ⟨some c, _, h1, wpIn_wide.2 (hstop D c xs M1 _ hwD n1 (hSp _ _ _ _ _ hl (by omega) hs) (hbook _ (hIx c) n2 hl hi _) ((World.putObj_heap_other (by omega)).trans hd))⟩
theorem mark_leave {P : Program} {fn : Func} {tmps : Array Value} {R : Ending → World → Prop} {D : Nat} {w : World} (hD : w.heap[D]? = some (.deferred (some [])))
  (hR : ∀ o', ∃ v, (results fn tmps).run P (w.putObj D o') = .ok v (w.putObj D o') ∧ R (.returned v) (w.putObj D o')) : LeavesInM Fence.wide 6 P fn tmps R [{ target := .collected D, args := #[] }] .returning w :=
 ⟨by simp, .inl ⟨D, _, rfl, run_takeDeferred hD, hR _⟩⟩
end Go.Proofs.YtllhejjcmfiebaaDoor
namespace Go.Proofs.YtllhejjcmfiebaaDoor
open Go.RowKit Go.Shelf
theorem Tab.same {K : Nat → Prop} {W W' : World} (h : Tab W) (hs : Same K W W') (hK : K 0) : Tab W' :=
 ⟨fun r hr => (World.cell?_of_block (a := ⟨0, r, none⟩) (hs.block _ h.lt hK)).trans (h.c r hr), Nat.lt_of_lt_of_le h.lt hs.size⟩
theorem yieldAt_mono {F : Fence} {m : Nat} {P : Program} {l : Nat} {args : Array Value} {W : World} {R R' : Ending → World → Prop} (h : YieldAt F m P l args W R) (hr : ∀ e w, R e w → R' e w) : YieldAt F m P l args W R' := by
 obtain ⟨fn, tmps, assign, body, hy, hR⟩ := h
 exact ⟨fn, tmps, assign, body, hy, hR.mono hr⟩
theorem yieldAt_in {m k l l' : Nat} {P : Program} {args : Array Value} {W : World} {R : Ending → World → Prop} (h : YieldAt Fence.wide m P l args W R) : YieldAt (Fence.wide.inRound l') k P l args W R := by
 obtain ⟨fn, tmps, assign, body, hy, hR⟩ := h
 exact ⟨fn, tmps, assign, body, hy, roundIn_in hR⟩
abbrev encN (x : Nat) : Array Value := #[.int .i64 (x : Nat)]
theorem places_seq (Bn s0 : Nat) (hs0 : s0 < 512) (w0 : World) (hrow : Row 86 w0 Bn [.int .u16 s0]) (hT : Tab w0) (hne : 0 < Bn) :
  SeqC Tryd.prog 84 #[] #[.pointer (some ⟨Bn, 0, none⟩)] encN (fun b => b = Bn ∨ b = 0) (fun b => b = Bn) (fun pre x => ∃ post, pls s0 = pre ++ x :: post) (fun xs W => xs = pls s0) (fun xs W => xs <+: pls s0) w0 := by
 intro l J Jx M W hW hJ hJx hM hY h0
 have hr0 := hW.row hrow trivial
 have hT0 := hT.same hW trivial
 have hB0 : Bn < W.heap.size := hr0.lt
 refine (callsIn_wide (n := 5)).1 ((places1_in 5 (by omega) l Bn s0 hs0
  (fun pre W' => ∃ M, J pre M W' ∧ (∀ b, M b → ¬ (b = Bn ∨ b = 0)) ∧ Tab W' ∧ W.heap.size ≤ W'.heap.size)
  (fun pre W' => ∃ M, Jx pre M W') (fun pre W' h => h.choose_spec.2.2.1) ?_ ?_ W hr0 ⟨M, h0, hM, hT0, Nat.le_refl _⟩).mono ?_)
 ·rintro pre W' t ⟨M, hj, hn, ht, hsz⟩
  refine ⟨M, hJ.stay _ _ _ _ hj (Same.setCell _ _ _ fun hk => ?_), hn, ht.same (K := fun b => b ≠ Bn) (Same.setCell _ _ _ fun hk => hk rfl) (by omega), by rw [World.size_setCell]; exact hsz⟩
  rcases hk with ⟨_, hk⟩ | hk
  ·exact hk rfl
  ·exact hn _ hk (.inl rfl)
 ·rintro pre x W' ⟨M, hj, hn, ht, hsz⟩ hpre
  refine yieldAt_mono (hY pre x M W' hj hpre) ?_
  rintro e W2 ⟨M', hb, (⟨rfl, h⟩ | ⟨rfl, h⟩)⟩
  ·refine .inl ⟨rfl, ⟨M', h, fun b hm hb' => ?_, ht.same hb.1 fun h => hn _ h (.inr rfl), Nat.le_trans hsz hb.1.size⟩, hb.1.block _ (by omega) fun h => hn _ h (.inl rfl)⟩
   rcases hb.2 b hm with h1 | h1
   ·exact hn b h1 hb'
   ·have := ht.lt
    rcases hb' with rfl | rfl <;> omega
  ·exact .inr ⟨rfl, M', h⟩
 ·rintro e W2 ⟨⟨v, rfl⟩, (⟨M', hj, _⟩ | ⟨pre, hp, M', hj⟩)⟩
  ·exact ⟨⟨v, rfl⟩, .inl ⟨_, M', rfl, hj⟩⟩
  ·exact ⟨⟨v, rfl⟩, .inr ⟨pre, M', hp, hj⟩⟩
end Go.Proofs.YtllhejjcmfiebaaDoor
