/- Runs in pieces. -/
import Derived.Test.YtmhmkhdgpfhnfaaGreatDoorEvB
set_option linter.unusedVariables false
set_option linter.unusedSimpArgs false
set_option linter.unnecessarySimpa false
namespace Go.Ev

/-! ## Runs in pieces: from an explicit state to the next one -/
section
variable {P : Program}

/-- From this state on the run comes to an end with this value. -/
def SoundAt (P : Program) (m : M) (v : AV) : Prop :=
  ∀ (ρ : Ren) (fr : Frame) (cs : List Frame) (w : World), FrRel ρ m.fr fr → All2 (FrRel ρ) m.cs cs → St ρ m.h w → ∀ CS,
    ∃ ρ' x w' h', VRel ρ' v x ∧ St ρ' h' w' ∧ Trans ρ m.h w ρ' h' w' ∧ Out P (lone fr (cs ++ CS) w) CS (bot m.fr m.cs) x w'

def iterA (P : Program) (N : Nat) : Nat → M → Option M
  | 0, m => some m
  | k + 1, m =>
    match astep P (arun P N) m with
    | some (.go m) => iterA P N k m
    | _ => none

theorem sound_iter [OrcSound P] (hm : P.follows .mixedOrders = true) {N : Nat} {m' : M} {v : AV} (hv : SoundAt P m' v) : ∀ (k : Nat) (m : M), iterA P N k m = some m' → SoundAt P m v
  | 0, m, h => by simp only [iterA, Option.some.injEq] at h; subst h; exact hv
  | k + 1, m, h => by
    intro ρ fr cs w hF hcs hst CS
    simp only [iterA] at h
    split at h
    · rename_i m₁ hs
      obtain ⟨hb, ρ₁, fr₁, cs₁, w₁, h1, h2, h3, h4, h5⟩ := astep_ok (drawn_ok (arun_ok hm N) hm) hF hcs hst hs CS
      obtain ⟨ρ', x, w', h', c1, c2, c3, c4⟩ := sound_iter hm hv k m₁ h ρ₁ fr₁ cs₁ w₁ h2 h3 h4 CS
      rw [hb] at c4
      exact ⟨ρ', x, w', h', c1, c2, h5.trans c3, c4.before h1⟩
    · cases h

theorem sound_end [OrcSound P] (hm : P.follows .mixedOrders = true) {N : Nat} {m : M} {v : AV} (h : (arun P N m).map (·.1) = some v) : SoundAt P m v := by
  intro ρ fr cs w hF hcs hst CS
  rw [Option.map_eq_some_iff] at h
  obtain ⟨q, hq, rfl⟩ := h
  obtain ⟨ρ', x, w', c1, c2, c3, c4⟩ := arun_ok hm N m q hq ρ fr cs w hF hcs hst CS
  exact ⟨ρ', x, w', _, c1, c2, c3, c4⟩

/-! ### Forgetting -/
def SubT {α : Type} (t' t : Tr α) : Prop := ∀ i x, t'.get i = some x → t.get i = some x

structure SubF (f' f : AFrame) : Prop where
  fn : f'.fn = f.fn
  nt : f'.nt = f.nt
  tmps : SubT f'.tmps f.tmps
  todo : f'.todo = f.todo
  defers : f'.defers = f.defers
  mode : f'.mode = f.mode
  kind : f'.kind = f.kind
  round : f'.roundOf = f.roundOf

theorem SubF.rel {ρ : Ren} {f' f : AFrame} {fr : Frame} (s : SubF f' f) (h : FrRel ρ f fr) : FrRel ρ f' fr :=
  ⟨by rw [s.fn]; exact h.fn, by rw [s.nt]; exact ⟨h.tmps.1, fun i x hx => h.tmps.2 i x (s.tmps i x hx)⟩, by rw [s.todo]; exact h.todo, by rw [s.defers]; exact h.defers,
    by rw [s.mode]; exact h.mode, by rw [s.kind]; exact h.kind, by rw [s.round]; exact h.round⟩

theorem All2.sub {ρ : Ren} : ∀ {l' l : List AFrame} {m : List Frame}, All2 SubF l' l → All2 (FrRel ρ) l m → All2 (FrRel ρ) l' m
  | _, _, _, .nil, .nil => .nil
  | _, _, _, .cons s t, .cons h k => .cons (s.rel h) (All2.sub t k)

structure SubM (m' m : M) : Prop where
  fr : SubF m'.fr m.fr
  cs : All2 SubF m'.cs m.cs
  next : m'.h.next = m.h.next
  heap : SubT m'.h.heap m.h.heap

theorem bot_sub {f' f : AFrame} {c' c : List AFrame} (s : SubF f' f) (t : All2 SubF c' c) : bot f' c' = bot f c := by
  induction t generalizing f' f with
  | nil => simp [bot, s.fn, s.round]
  | cons h _ ih => exact ih h

theorem sound_sub {m' m : M} {v : AV} (s : SubM m' m) (h : SoundAt P m' v) : SoundAt P m v := by
  intro ρ fr cs w hF hcs hst CS
  have hget : ∀ b o, m'.h.get b = some o → m.h.get b = some o := fun b o hb => s.heap b o hb
  have hsome : ∀ b, (m'.h.get b).isSome = true → (m.h.get b).isSome = true := fun b hb => by
    obtain ⟨o, ho⟩ := Option.isSome_iff_exists.1 hb
    rw [hget b o ho]; rfl
  have hst' : St ρ m'.h w := ⟨⟨fun b ab e hb he => hst.good.sat b ab e (hget _ _ hb) he, fun b b' e e' hb hb' => hst.good.inj b b' e e' (hsome _ hb) (hsome _ hb'), hst.good.lt⟩,
    fun b hb => hst.free b (by rw [← s.next]; exact hb), hst.okw, fun k ⟨b, e, h1, h2, h3⟩ => hst.far k ⟨b, e, hsome _ h1, h2, h3⟩⟩
  obtain ⟨ρ', x, w', h', c1, c2, c3, c4⟩ := h ρ fr cs w (s.fr.rel hF) (s.cs.sub hcs) hst' CS
  have hfoot : ∀ k, Foot ρ m'.h k → Foot ρ m.h k := fun k ⟨b, e, h1, h2, h3⟩ => ⟨b, e, hsome _ h1, h2, h3⟩
  refine ⟨ρ', x, w', h', c1, c2, ⟨c3.le, ?_, by rw [← s.next]; exact c3.next, c3.size, fun k hk hf => c3.keep k hk fun hf' => hf (hfoot k hf'), fun k hk => (c3.foot k hk).imp (hfoot k) id, c3.os, c3.tape, c3.output⟩, ?_⟩
  · rw [← s.next]; exact c3.ids
  · rw [← bot_sub s.fr s.cs]; exact c4

/-- What is kept of a tree. -/
def keepT {α : Type} (t : Tr α) : List Nat → Tr α
  | [] => .nil
  | b :: l =>
    match t.get b with
    | some x => (keepT t l).put (b + 1) b (some x)
    | none => keepT t l

theorem keep_sub {α : Type} (t : Tr α) : ∀ l, SubT (keepT t l) t
  | [] => fun i x h => by simp [keepT, Tr.get] at h
  | b :: l => fun i x h => by
    simp only [keepT] at h
    split at h
    · rename_i y hy
      rw [Tr.get_put _ _ _ (by omega)] at h
      split at h
      · rename_i hi; cases h; rw [hi]; exact hy
      · exact keep_sub t l i x h
    · exact keep_sub t l i x h

def pruneF (ks : List Nat) (f : AFrame) : AFrame := { f with tmps := keepT f.tmps ks }
def pruneC : List (List Nat) → List AFrame → List AFrame
  | k :: ks, f :: fs => pruneF k f :: pruneC ks fs
  | [], fs => fs
  | _, [] => []
def pruneM (k : List Nat) (ks : List (List Nat)) (hs : List Nat) (m : M) : M := ⟨pruneF k m.fr, pruneC ks m.cs, ⟨keepT m.h.heap hs, m.h.next⟩⟩

theorem pruneF_sub (k : List Nat) (f : AFrame) : SubF (pruneF k f) f := ⟨rfl, rfl, keep_sub _ _, rfl, rfl, rfl, rfl, rfl⟩
theorem SubF.refl (f : AFrame) : SubF f f := ⟨rfl, rfl, fun _ _ h => h, rfl, rfl, rfl, rfl, rfl⟩
theorem All2.subRefl : ∀ l : List AFrame, All2 SubF l l
  | [] => .nil
  | f :: l => .cons (SubF.refl f) (All2.subRefl l)
theorem pruneC_sub : ∀ (ks : List (List Nat)) (fs : List AFrame), All2 SubF (pruneC ks fs) fs
  | [], fs => All2.subRefl fs
  | _ :: _, [] => .nil
  | k :: ks, f :: fs => .cons (pruneF_sub k f) (pruneC_sub ks fs)
theorem pruneM_sub (k : List Nat) (ks : List (List Nat)) (hs : List Nat) (m : M) : SubM (pruneM k ks hs m) m := ⟨pruneF_sub _ _, pruneC_sub _ _, rfl, keep_sub _ _⟩

/-- One piece. -/
theorem sound_piece [OrcSound P] (hm : P.follows .mixedOrders = true) {N k : Nat} {ks : List Nat} {kss : List (List Nat)} {hs : List Nat} {m m' : M} {v : AV}
    (h : (iterA P N k m).map (pruneM ks kss hs) = some m') (hv : SoundAt P m' v) : SoundAt P m v := by
  rw [Option.map_eq_some_iff] at h
  obtain ⟨m₁, h1, rfl⟩ := h
  exact sound_iter hm (sound_sub (pruneM_sub _ _ _ _) hv) k m h1

/-- The first piece. -/
def startA (P : Program) (f : FuncId) : Option M := (enterA P f [] .normal).map fun fr => ⟨fr, [], ⟨.nil, 0⟩⟩

theorem sound_calls {f : FuncId} {m : M} {x : Value} (hs : startA P f = some m) (hv : SoundAt P m (.val x)) (w : World) (hw : OKW w) :
    Calls P f #[] w fun e w' => e = .returned x ∧ Kept w w' := by
  simp only [startA, Option.map_eq_some_iff] at hs
  obtain ⟨g, hg, rfl⟩ := hs
  obtain ⟨hfr, hgf, hgr⟩ := enter_rel (ρ := fun _ => none) (args' := #[]) hg .nil
  have hst : St (fun _ => none) ⟨.nil, 0⟩ w := ⟨⟨fun b ab e _ he => (by cases he), fun b b' e e' _ _ he => (by cases he), fun b e he => (by cases he)⟩, fun _ _ => rfl, hw, fun k hk => by obtain ⟨b, e, _, he, _⟩ := hk; cases he⟩
  intro cs
  obtain ⟨ρ', y, w', h', h1, h2, h3, h4⟩ := hv (fun _ => none) _ [] w hfr .nil hst cs
  unfold Out at h4
  simp only [bot, hgr, List.nil_append] at h4
  obtain ⟨fr', h5, h6, h7⟩ := h4
  have hyx : y = x := by cases h1; rfl
  subst hyx
  refine ⟨.returned y, w', fr', ⟨rfl, fun k hk => h3.keep k hk ?_, h3.size, h3.os, h3.tape, h3.output⟩, h5, by rw [h7, hgf], h6⟩
  rintro ⟨b, e, _, he, _⟩
  cases he

/-- A function's body, and a part of it. -/
def bodyOf (P : Program) (f : FuncId) : Code :=
  match P.funcs[f]? with
  | some fn => match fn.body with
    | some c => c
    | none => .skip
  | none => .skip
def partOf : Code → List Nat → Code
  | c, [] => c
  | .seq a b, i :: l => match i with | 0 => partOf a l | _ => partOf b l
  | .cond _ a b, i :: l => match i with | 0 => partOf a l | _ => partOf b l
  | .block _ a, _ :: l => partOf a l
  | .loop a, _ :: l => partOf a l
  | .scope a, _ :: l => partOf a l
  | .rangeFunc _ _ a b, i :: l => match i with | 0 => partOf a l | _ => partOf b l
  | c, _ => c
def opsOf : Code → Array Oper
  | .region _ ops _ => ops
  | _ => #[]
def restOf (c : Code) (i : Nat) : List Oper := dropN i (opsOf c).toList
def paramsOf : Code → Array Tmp
  | .rangeFunc _ ps _ _ => ps
  | _ => #[]
end
end Go.Ev
