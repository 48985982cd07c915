/- TransChecks: its first region: both machines are cut and copied, in whatever order. -/
import Derived.Test.YthglgagkhnfnpaaGreatF2
import Derived.Test.YthglgagkhnfnpaaGreatQI
set_option linter.unusedVariables false
set_option linter.unusedSimpArgs false
set_option linter.unnecessarySimpa false
namespace Go.Proofs.YthglgagkhnfnpaaGreat
open Go.RowKit

/-- the frame of TransChecks at its first region -/
def frame1 (v0 v1 : Value) (B : Nat) (s5 s6 s26 s27 s28 s29 : Value) : Act := ⟨#[v0, v1, .pointer (some ⟨B, 0, none⟩), .pointer (some ⟨B + 1, 0, none⟩), .bool false, s5, s6, undef, undef, undef, undef, undef, undef, undef, undef, undef, undef, undef, undef, undef, undef, undef, undef, undef, undef, undef, s26, s27, s28, s29, undef, undef, undef, undef, undef, undef, undef, undef, undef, undef, undef, undef, undef, undef, undef, undef, undef, undef, undef, undef, undef, undef, undef, undef, undef, undef, undef, undef, undef, undef, undef, undef, undef, undef, undef, undef, undef, undef, undef, undef, undef, undef, undef, undef, undef, undef, undef, undef, undef, undef, undef, undef, undef, undef, undef, undef, undef, undef, undef, undef, undef, undef, undef, undef, undef, undef, undef, undef, undef, undef, undef, undef, undef, undef, undef, undef, undef, undef, undef, undef, undef, undef, undef, undef, undef, undef, undef, undef, undef, undef, undef, undef, undef, undef, undef, undef, undef, undef, undef, undef, undef, undef, undef, undef, undef, undef, undef, undef, undef, undef, undef, undef, undef, undef, undef, undef, undef, undef, undef, undef, undef, undef, undef, undef, undef, undef], []⟩
def At (l : Array Bool) (i : Nat) : Prop := l[i]?.getD false = true
/-- a box of the call's own that will hold a machine -/
def BoxOf (B : Nat) (w : World) (s v : Value) (done : Prop) : Prop := ∃ b c0 c1 c2, s = .pointer (some ⟨b, 0, none⟩) ∧ B + 2 ≤ b ∧ Row 25 w b [c0, c1, c2] ∧ (done → v = .agg #[c0, c1, c2])
structure Inv1 (w0 : World) (a b : Int) (vE vN uE uN : Value) (es : List Ed) (ns : List En) (fs : List Ed) (gs : List En) (s5 s6 s26 s27 s28 s29 : Value) (l : Array Bool) (w : World) : Prop where
  bel : Below w0.heap.size w0 w
  size : w0.heap.size + 2 ≤ w.heap.size
  r0 : Row 25 w w0.heap.size [.int .i64 a, vE, vN]
  r1 : Row 25 w (w0.heap.size + 1) [.int .i64 b, uE, uN]
  l0 : At l 0 → s26 = .agg #[.int .i64 a, vE, vN]
  l2 : At l 2 → s28 = .agg #[.int .i64 b, uE, uN]
  l1 : At l 1 → Mac 52 54 w0.heap.size w s27 a (ownE es) (ownN ns)
  l3 : At l 3 → Mac 52 54 w0.heap.size w s29 b (ownE fs) (ownN gs)
  l4 : At l 4 → BoxOf w0.heap.size w s5 s27 (At l 6)
  l5 : At l 5 → BoxOf w0.heap.size w s6 s29 (At l 7)
  l45 : At l 4 → At l 5 → s5 ≠ s6
  o6 : At l 6 → At l 1 ∧ At l 4
  o7 : At l 7 → At l 3 ∧ At l 5
theorem at_set {l : Array Bool} {i j : Nat} (h : At (l.setIfInBounds i true) j) : j = i ∨ At l j := by
  unfold At at *
  rw [Array.getElem?_setIfInBounds] at h
  by_cases hij : i = j
  · exact .inl hij.symm
  · right; rw [if_neg hij] at h; exact h
theorem at_mono {l : Array Bool} {i j : Nat} (h : At l j) : At (l.setIfInBounds i true) j := by
  unfold At at *
  rw [Array.getElem?_setIfInBounds]
  by_cases hij : i = j
  · subst hij
    rw [if_pos rfl]
    by_cases hb : i < l.size
    · simp [hb]
    · rw [Array.getElem?_eq_none (by omega)] at h; simp at h
  · rw [if_neg hij]; exact h
theorem Mac.below {TE TN base : Nat} {w w' : World} {v : Value} {s : Int} {es : List Ed} {ns : List En} (h : Mac TE TN base w v s es ns) (hb : Below w.heap.size w w') : Mac TE TN base w' v s es ns := by
  obtain ⟨vE, vN, hv, h1, h2⟩ := h
  exact ⟨vE, vN, hv, h1.below hb (Nat.le_refl _), h2.below hb (Nat.le_refl _)⟩
theorem Mac.base {TE TN base base' : Nat} {w : World} {v : Value} {s : Int} {es : List Ed} {ns : List En} (h : Mac TE TN base w v s es ns) (hb : base' ≤ base) : Mac TE TN base' w v s es ns := by
  obtain ⟨vE, vN, hv, h1, h2⟩ := h
  exact ⟨vE, vN, hv, OwnK.base h1 hb, OwnK.base h2 hb⟩
theorem BoxOf.below {B : Nat} {w w' : World} {s v : Value} {d : Prop} (h : BoxOf B w s v d) (hb : Below w.heap.size w w') : BoxOf B w' s v d := by
  obtain ⟨b, c0, c1, c2, h1, h2, h3, h4⟩ := h
  exact ⟨b, c0, c1, c2, h1, h2, h3.below hb h3.lt, h4⟩
/-- what only adds to memory -/
theorem Inv1.more {w0 : World} {a b : Int} {vE vN uE uN : Value} {es : List Ed} {ns : List En} {fs : List Ed} {gs : List En} {s5 s6 s26 s27 s28 s29 : Value} {l : Array Bool} {w w' : World}
    (h : Inv1 w0 a b vE vN uE uN es ns fs gs s5 s6 s26 s27 s28 s29 l w) (hb : Below w.heap.size w w') : Inv1 w0 a b vE vN uE uN es ns fs gs s5 s6 s26 s27 s28 s29 l w' :=
  ⟨h.bel.trans (hb.mono (by have := h.size; omega)), Nat.le_trans h.size hb.size, h.r0.below hb h.r0.lt, h.r1.below hb h.r1.lt, h.l0, h.l2, fun q => (h.l1 q).below hb, fun q => (h.l3 q).below hb, fun q => (h.l4 q).below hb, fun q => (h.l5 q).below hb, h.l45, h.o6, h.o7⟩
theorem at_ne {l : Array Bool} {i j : Nat} (h : At (l.setIfInBounds i true) j) (hne : j ≠ i) : At l j := (at_set h).resolve_left hne
theorem not_at {l : Array Bool} {i : Nat} (h : l.getD i true = false) : ¬ At l i := by
  intro q
  unfold At at q
  rw [Array.getD_eq_getD_getElem?] at h
  rcases hq : l[i]? with _ | x
  · rw [hq] at h; simp at h
  · rw [hq] at h q; simp at h q; rw [h] at q; cases q
theorem BoxOf.mono {B : Nat} {w : World} {s v : Value} {d d' : Prop} (h : BoxOf B w s v d) (hd : d' → d) : BoxOf B w s v d' := by
  obtain ⟨b, c0, c1, c2, h1, h2, h3, h4⟩ := h
  exact ⟨b, c0, c1, c2, h1, h2, h3, fun q => h4 (hd q)⟩
theorem BoxOf.none_ {B : Nat} {w : World} {s v v' : Value} {d d' : Prop} (h : BoxOf B w s v d) (hd : ¬ d') : BoxOf B w s v' d' := by
  obtain ⟨b, c0, c1, c2, h1, h2, h3, h4⟩ := h
  exact ⟨b, c0, c1, c2, h1, h2, h3, fun q => (hd q).elim⟩
section
variable {w0 : World} {a b : Int} {vE vN uE uN : Value} {es : List Ed} {ns : List En} {fs : List Ed} {gs : List En} {s5 s6 s26 s27 s28 s29 : Value} {l : Array Bool} {w : World}
theorem Inv1.at0 (h : Inv1 w0 a b vE vN uE uN es ns fs gs s5 s6 s26 s27 s28 s29 l w) : Inv1 w0 a b vE vN uE uN es ns fs gs s5 s6 (.agg #[.int .i64 a, vE, vN]) s27 s28 s29 (l.setIfInBounds 0 true) w :=
  ⟨h.bel, h.size, h.r0, h.r1, fun _ => rfl, fun q => h.l2 (at_ne q (by decide)), fun q => h.l1 (at_ne q (by decide)), fun q => h.l3 (at_ne q (by decide)), fun q => (h.l4 (at_ne q (by decide))).mono fun q => at_ne q (by decide),
    fun q => (h.l5 (at_ne q (by decide))).mono fun q => at_ne q (by decide), fun q r => h.l45 (at_ne q (by decide)) (at_ne r (by decide)), fun q => let r := h.o6 (at_ne q (by decide)); ⟨at_mono r.1, at_mono r.2⟩, fun q => let r := h.o7 (at_ne q (by decide)); ⟨at_mono r.1, at_mono r.2⟩⟩
theorem Inv1.at2 (h : Inv1 w0 a b vE vN uE uN es ns fs gs s5 s6 s26 s27 s28 s29 l w) : Inv1 w0 a b vE vN uE uN es ns fs gs s5 s6 s26 s27 (.agg #[.int .i64 b, uE, uN]) s29 (l.setIfInBounds 2 true) w :=
  ⟨h.bel, h.size, h.r0, h.r1, fun q => h.l0 (at_ne q (by decide)), fun _ => rfl, fun q => h.l1 (at_ne q (by decide)), fun q => h.l3 (at_ne q (by decide)), fun q => (h.l4 (at_ne q (by decide))).mono fun q => at_ne q (by decide),
    fun q => (h.l5 (at_ne q (by decide))).mono fun q => at_ne q (by decide), fun q r => h.l45 (at_ne q (by decide)) (at_ne r (by decide)), fun q => let r := h.o6 (at_ne q (by decide)); ⟨at_mono r.1, at_mono r.2⟩, fun q => let r := h.o7 (at_ne q (by decide)); ⟨at_mono r.1, at_mono r.2⟩⟩
theorem Inv1.at1 (h : Inv1 w0 a b vE vN uE uN es ns fs gs s5 s6 s26 s27 s28 s29 l w) (hn : ¬ At l 1) {v : Value} (hm : Mac 52 54 w0.heap.size w v a (ownE es) (ownN ns)) :
    Inv1 w0 a b vE vN uE uN es ns fs gs s5 s6 s26 v s28 s29 (l.setIfInBounds 1 true) w :=
  ⟨h.bel, h.size, h.r0, h.r1, fun q => h.l0 (at_ne q (by decide)), fun q => h.l2 (at_ne q (by decide)), fun _ => hm, fun q => h.l3 (at_ne q (by decide)), fun q => (h.l4 (at_ne q (by decide))).none_ fun q => hn (h.o6 (at_ne q (by decide))).1,
    fun q => (h.l5 (at_ne q (by decide))).mono fun q => at_ne q (by decide), fun q r => h.l45 (at_ne q (by decide)) (at_ne r (by decide)), fun q => let r := h.o6 (at_ne q (by decide)); ⟨at_mono r.1, at_mono r.2⟩, fun q => let r := h.o7 (at_ne q (by decide)); ⟨at_mono r.1, at_mono r.2⟩⟩
theorem Inv1.at3 (h : Inv1 w0 a b vE vN uE uN es ns fs gs s5 s6 s26 s27 s28 s29 l w) (hn : ¬ At l 3) {v : Value} (hm : Mac 52 54 w0.heap.size w v b (ownE fs) (ownN gs)) :
    Inv1 w0 a b vE vN uE uN es ns fs gs s5 s6 s26 s27 s28 v (l.setIfInBounds 3 true) w :=
  ⟨h.bel, h.size, h.r0, h.r1, fun q => h.l0 (at_ne q (by decide)), fun q => h.l2 (at_ne q (by decide)), fun q => h.l1 (at_ne q (by decide)), fun _ => hm, fun q => (h.l4 (at_ne q (by decide))).mono fun q => at_ne q (by decide),
    fun q => (h.l5 (at_ne q (by decide))).none_ fun q => hn (h.o7 (at_ne q (by decide))).1, fun q r => h.l45 (at_ne q (by decide)) (at_ne r (by decide)), fun q => let r := h.o6 (at_ne q (by decide)); ⟨at_mono r.1, at_mono r.2⟩, fun q => let r := h.o7 (at_ne q (by decide)); ⟨at_mono r.1, at_mono r.2⟩⟩
theorem Inv1.at4 (h : Inv1 w0 a b vE vN uE uN es ns fs gs s5 s6 s26 s27 s28 s29 l w) (hn : ¬ At l 4) :
    Inv1 w0 a b vE vN uE uN es ns fs gs (.pointer (some ⟨w.heap.size, 0, none⟩)) s6 s26 s27 s28 s29 (l.setIfInBounds 4 true) (w.alloc (.cells #[.int .i64 0, .slice none 0 0, .slice none 0 0] 25)) := by
  have h' := h.more (box_below w (.cells #[.int .i64 0, .slice none 0 0, .slice none 0 0] 25))
  refine ⟨h'.bel, h'.size, h'.r0, h'.r1, fun q => h'.l0 (at_ne q (by decide)), fun q => h'.l2 (at_ne q (by decide)), fun q => h'.l1 (at_ne q (by decide)), fun q => h'.l3 (at_ne q (by decide)), fun _ => ?_,
    fun q => (h'.l5 (at_ne q (by decide))).mono fun q => at_ne q (by decide), ?_, fun q => (hn (h.o6 (at_ne q (by decide))).2).elim, fun q => let r := h.o7 (at_ne q (by decide)); ⟨at_mono r.1, at_mono r.2⟩⟩
  · exact ⟨w.heap.size, _, _, _, rfl, h.size, row_new _ w _, fun q => (hn (h.o6 (at_ne q (by decide))).2).elim⟩
  · intro _ q e
    obtain ⟨b', _, _, _, h1, _, h3, _⟩ := h.l5 (at_ne q (by decide))
    rw [h1] at e
    have := h3.lt
    simp only [Value.pointer.injEq, Option.some.injEq, Addr.mk.injEq] at e
    omega
theorem Inv1.at5 (h : Inv1 w0 a b vE vN uE uN es ns fs gs s5 s6 s26 s27 s28 s29 l w) (hn : ¬ At l 5) :
    Inv1 w0 a b vE vN uE uN es ns fs gs s5 (.pointer (some ⟨w.heap.size, 0, none⟩)) s26 s27 s28 s29 (l.setIfInBounds 5 true) (w.alloc (.cells #[.int .i64 0, .slice none 0 0, .slice none 0 0] 25)) := by
  have h' := h.more (box_below w (.cells #[.int .i64 0, .slice none 0 0, .slice none 0 0] 25))
  refine ⟨h'.bel, h'.size, h'.r0, h'.r1, fun q => h'.l0 (at_ne q (by decide)), fun q => h'.l2 (at_ne q (by decide)), fun q => h'.l1 (at_ne q (by decide)), fun q => h'.l3 (at_ne q (by decide)), fun q => (h'.l4 (at_ne q (by decide))).mono fun q => at_ne q (by decide),
    fun _ => ?_, ?_, fun q => let r := h.o6 (at_ne q (by decide)); ⟨at_mono r.1, at_mono r.2⟩, fun q => (hn (h.o7 (at_ne q (by decide))).2).elim⟩
  · exact ⟨w.heap.size, _, _, _, rfl, h.size, row_new _ w _, fun q => (hn (h.o7 (at_ne q (by decide))).2).elim⟩
  · intro q _ e
    obtain ⟨b', _, _, _, h1, _, h3, _⟩ := h.l4 (at_ne q (by decide))
    rw [h1] at e
    have := h3.lt
    simp only [Value.pointer.injEq, Option.some.injEq, Addr.mk.injEq] at e
    omega
/-- three stores -/
def put3 (w : World) (g : Nat) (x y z : Value) : World := ((w.setCell ⟨g, 0, none⟩ x).setCell ⟨g, 1, none⟩ y).setCell ⟨g, 2, none⟩ z
theorem put3_row {T : TypeId} {g : Nat} {c0 c1 c2 x y z : Value} (h : Row T w g [c0, c1, c2]) : Row T (put3 w g x y z) g [x, y, z] := ((h.store 0 x).store 1 y).store 2 z
theorem put3_other {T : TypeId} {g g' : Nat} {xs : List Value} {x y z : Value} (h : Row T w g xs) (hne : g' ≠ g) : Row T (put3 w g' x y z) g xs := ((h.other _ hne x).other _ hne y).other _ hne z
theorem put3_own {T T' k base n g : Nat} {v x y z : Value} {xs ys : List Value} (h : OwnK T k base w v n xs) (hr : Row T' w g ys) (hne : T ≠ T') : OwnK T k base (put3 w g x y z) v n xs :=
  ((h.other hr hne 0 x).other (hr.store 0 x) hne 1 y).other ((hr.store 0 x).store 1 y) hne 2 z
theorem put3_mac {TE TN T base g : Nat} {v x y z : Value} {s : Int} {es : List Ed} {ns : List En} {ys : List Value} (h : Mac TE TN base w v s es ns) (hr : Row T w g ys) (h1 : TE ≠ T) (h2 : TN ≠ T) : Mac TE TN base (put3 w g x y z) v s es ns := by
  obtain ⟨vE, vN, hv, h3, h4⟩ := h
  exact ⟨vE, vN, hv, put3_own h3 hr h1, put3_own h4 hr h2⟩
theorem put3_below {B g : Nat} {x y z : Value} {u : World} (h : Below B u w) (hg : B ≤ g) : Below B u (put3 w g x y z) := ((h.setCell hg x).setCell hg y).setCell hg z
theorem put3_size {g : Nat} {x y z : Value} : (put3 w g x y z).heap.size = w.heap.size := by simp [put3]
theorem Inv1.at6 {g : Nat} {c0 c1 c2 x y z : Value} (h : Inv1 w0 a b vE vN uE uN es ns fs gs (.pointer (some ⟨g, 0, none⟩)) s6 s26 (.agg #[x, y, z]) s28 s29 l w) (h1 : At l 1) (h4 : At l 4) (hr : Row 25 w g [c0, c1, c2]) (hg : w0.heap.size + 2 ≤ g) :
    Inv1 w0 a b vE vN uE uN es ns fs gs (.pointer (some ⟨g, 0, none⟩)) s6 s26 (.agg #[x, y, z]) s28 s29 (l.setIfInBounds 6 true) (put3 w g x y z) := by
  refine ⟨put3_below h.bel (by omega), by rw [put3_size]; exact h.size, put3_other h.r0 (by omega), put3_other h.r1 (by omega), fun q => h.l0 (at_ne q (by decide)), fun q => h.l2 (at_ne q (by decide)), fun q => put3_mac (h.l1 (at_ne q (by decide))) hr (by decide) (by decide),
    fun q => put3_mac (h.l3 (at_ne q (by decide))) hr (by decide) (by decide), fun _ => ⟨g, x, y, z, rfl, hg, put3_row hr, fun _ => rfl⟩, fun q => ?_, fun q r => h.l45 (at_ne q (by decide)) (at_ne r (by decide)), fun _ => ⟨at_mono h1, at_mono h4⟩, fun q => let r := h.o7 (at_ne q (by decide)); ⟨at_mono r.1, at_mono r.2⟩⟩
  obtain ⟨b', d0, d1, d2, e1, e2, e3, e4⟩ := h.l5 (at_ne q (by decide))
  have hne : g ≠ b' := fun e => h.l45 h4 (at_ne q (by decide)) (by rw [e1, e])
  exact ⟨b', d0, d1, d2, e1, e2, put3_other e3 hne, fun q => e4 (at_ne q (by decide))⟩
theorem Inv1.at7 {g : Nat} {c0 c1 c2 x y z : Value} (h : Inv1 w0 a b vE vN uE uN es ns fs gs s5 (.pointer (some ⟨g, 0, none⟩)) s26 s27 s28 (.agg #[x, y, z]) l w) (h1 : At l 3) (h4 : At l 5) (hr : Row 25 w g [c0, c1, c2]) (hg : w0.heap.size + 2 ≤ g) :
    Inv1 w0 a b vE vN uE uN es ns fs gs s5 (.pointer (some ⟨g, 0, none⟩)) s26 s27 s28 (.agg #[x, y, z]) (l.setIfInBounds 7 true) (put3 w g x y z) := by
  refine ⟨put3_below h.bel (by omega), by rw [put3_size]; exact h.size, put3_other h.r0 (by omega), put3_other h.r1 (by omega), fun q => h.l0 (at_ne q (by decide)), fun q => h.l2 (at_ne q (by decide)), fun q => put3_mac (h.l1 (at_ne q (by decide))) hr (by decide) (by decide),
    fun q => put3_mac (h.l3 (at_ne q (by decide))) hr (by decide) (by decide), fun q => ?_, fun _ => ⟨g, x, y, z, rfl, hg, put3_row hr, fun _ => rfl⟩, fun q r => h.l45 (at_ne q (by decide)) (at_ne r (by decide)), fun q => let r := h.o6 (at_ne q (by decide)); ⟨at_mono r.1, at_mono r.2⟩, fun _ => ⟨at_mono h1, at_mono h4⟩⟩
  obtain ⟨b', d0, d1, d2, e1, e2, e3, e4⟩ := h.l4 (at_ne q (by decide))
  have hne : g ≠ b' := fun e => h.l45 (at_ne q (by decide)) h4 (by rw [e1, e])
  exact ⟨b', d0, d1, d2, e1, e2, put3_other e3 hne, fun q => e4 (at_ne q (by decide))⟩
end
/-- the state of the first region -/
def St1 (w0 : World) (a b : Int) (vE vN uE uN : Value) (es : List Ed) (ns : List En) (fs : List Ed) (gs : List En) (l : Array Bool) (x : Act) (w : World) : Prop :=
  ∃ s5 s6 s26 s27 s28 s29, x = frame1 (.agg #[.int .i64 a, vE, vN]) (.agg #[.int .i64 b, uE, uN]) w0.heap.size s5 s6 s26 s27 s28 s29 ∧ Inv1 w0 a b vE vN uE uN es ns fs gs s5 s6 s26 s27 s28 s29 l w
theorem wpOp_of {P : Program} {ops : Array Oper} {Q : Exit → Act → World → Prop} {i : Nat} {K : Act → World → Prop} {a : Act} {w : World} {o : Oper} (ho : ops[i]? = some o) (hw : Region.wanted o (yielded ops a.tmps) = true) (h : o.wp P a w K Q) : wpOp P ops Q i K a w := by
  unfold wpOp
  rw [ho]
  simp only [hw, if_true]
  exact Or.inl h
end Go.Proofs.YthglgagkhnfnpaaGreat
