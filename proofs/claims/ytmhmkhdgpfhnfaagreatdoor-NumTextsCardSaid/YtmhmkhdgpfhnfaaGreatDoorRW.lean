/- Words for memory: slices that read as lists of cells, rows of the call's own, slices of slices. -/
import Derived.WalkKit
import Derived.WalkSpells
import Derived.WalkLawsBesides
import Derived.BigQuiet
import Derived.Deep.QuietTactic
import Derived.Lib.Hide
import Derived.Laws.OwnMore
import Derived.OwnWalk
import Derived.Laws.AppendOwnNone
import Derived.Deep.RegionLaw
set_option linter.unusedVariables false
set_option linter.unusedSimpArgs false
set_option linter.unnecessarySimpa false
namespace Go.Proofs.YtmhmkhdgpfhnfaaGreatDoor.Ref
open Go.RowKit

/-- block g holds just these cells -/
def Row (T : TypeId) (w : World) (g : Nat) (xs : List Value) : Prop := w.heap[g]? = some (.cells xs.toArray T (0, 0))
section
variable {T : TypeId} {w w' : World} {g : Nat} {xs : List Value}
theorem Row.lt (h : Row T w g xs) : g < w.heap.size := lt_of_block h
theorem Row.cell (h : Row T w g xs) (i : Nat) : w.cell? ⟨g, i, none⟩ = xs[i]? := by
  unfold Row at h; simp [World.cell?, h]
theorem Row.free (h : Row T w g xs) (i : Nat) : w.frozen? ⟨g, i, none⟩ = false := by
  unfold Row at h; simp [World.frozen?, h]
theorem Row.below {B : Nat} (h : Row T w g xs) (hb : Below B w w') (hg : g < B) : Row T w' g xs := by
  unfold Row at h ⊢; rw [hb.block g hg]; exact h
theorem Row.store (h : Row T w g xs) (i : Nat) (u : Value) : Row T (w.setCell ⟨g, i, none⟩ u) g (xs.set i u) := by
  unfold Row at h ⊢
  have := heap_setCell_same w g i xs.toArray T u h
  rw [this]; simp
theorem Row.other (h : Row T w g xs) (a : Addr) (ha : a.block ≠ g) (u : Value) : Row T (w.setCell a u) g xs := by
  unfold Row at h ⊢; rw [Below.heap_setCell _ _ _ _ (fun e => ha e.symm)]; exact h
theorem Row.alloc (h : Row T w g xs) (o : Obj) : Row T (w.alloc o) g xs := by
  have := h.lt; unfold Row at h ⊢; rw [Below.heap_alloc _ _ _ this]; exact h
theorem Row.drew (h : Row T w g xs) : Row T w.drew g xs := h
theorem Row.ne_ {T' : TypeId} {g' : Nat} {ys : List Value} (h : Row T w g xs) (h' : Row T' w g' ys) (hne : T ≠ T') : g ≠ g' := by
  rintro rfl
  unfold Row at h h'
  rw [h] at h'
  injection h' with h'
  injection h' with _ ht
  exact hne ht
theorem Row.grown {row : Option Nat} (h : Row T w g xs) (hb : w.grownBy w' row) (hg : some g ≠ row) : Row T w' g xs := (hb.block g h.lt hg).trans h
theorem row_new (T : TypeId) (w : World) (cs : Array Value) : Row T (w.alloc (.cells cs T)) w.heap.size cs.toList := by
  unfold Row; rw [heap_alloc_new]
end

/-- a slice reads as these cells -/
def Sl (w : World) (v : Value) (xs : List Value) : Prop :=
  ∃ p cap, v = .slice p xs.length cap ∧ xs.length ≤ cap ∧ cap ≤ maxLen ∧ (p = none → cap = 0) ∧
    (0 < xs.length → ∃ b off, p = some ⟨b, off, none⟩ ∧ b < w.heap.size ∧ ∀ i, i < xs.length → w.cell? ⟨b, off + i, none⟩ = xs[i]?)
theorem Sl.below {w w' : World} {v : Value} {xs : List Value} (h : Sl w v xs) (hb : Below w.heap.size w w') : Sl w' v xs := by
  obtain ⟨p, cap, hv, hl, hm, hn, hp⟩ := h
  refine ⟨p, cap, hv, hl, hm, hn, fun h0 => ?_⟩
  obtain ⟨b, off, hp, hbs, hc⟩ := hp h0
  exact ⟨b, off, hp, Nat.lt_of_lt_of_le hbs hb.size, fun i hi => by rw [hb.cell (p := ⟨b, off + i, none⟩) hbs]; exact hc i hi⟩
theorem Sl.nil (w : World) : Sl w (.slice none 0 0) [] := ⟨none, 0, rfl, Nat.le_refl _, Nat.zero_le _, fun _ => rfl, fun h => absurd h (by simp)⟩
theorem Sl.of_row {T : TypeId} {w : World} {g cap : Nat} {xs more : List Value} (h : Row T w g (xs ++ more)) (hl : xs.length ≤ cap) (hm : cap ≤ maxLen) : Sl w (.slice (some ⟨g, 0, none⟩) xs.length cap) xs :=
  ⟨_, _, rfl, hl, hm, (fun h => by cases h), fun _ => ⟨g, 0, rfl, h.lt, fun i hi => by rw [h.cell, Nat.zero_add, List.getElem?_append_left hi]⟩⟩
theorem Sl.len {w : World} {v : Value} {xs : List Value} (h : Sl w v xs) : xs.length ≤ maxLen := by
  obtain ⟨p, cap, _, hl, hm, _, _⟩ := h; omega
/-- the first n of it -/
theorem Sl.take {w : World} {p : Option Addr} {n cap : Nat} {xs : List Value} (h : Sl w (.slice p n cap) xs) (k : Nat) (hk : k ≤ n) : Sl w (.slice p k cap) (xs.take k) := by
  obtain ⟨p', cap', hv, hl, hm, hn, hp⟩ := h
  cases hv
  have e : (xs.take k).length = k := by simp; omega
  refine ⟨p, cap, by rw [e], by omega, hm, hn, fun h0 => ?_⟩
  rw [e] at h0
  obtain ⟨b, off, h1, h2, h3⟩ := hp (by omega)
  refine ⟨b, off, h1, h2, fun i hi => ?_⟩
  rw [e] at hi
  rw [h3 i (by omega), List.getElem?_take_of_lt hi]

/-- the same, wherever it lies: what comes in from outside -/
def SlA (w : World) (v : Value) (xs : List Value) : Prop :=
  ∃ p cap, v = .slice p xs.length cap ∧ xs.length ≤ cap ∧ cap ≤ maxLen ∧ (p = none → cap = 0) ∧
    (0 < xs.length → ∃ ad : Addr, p = some ad ∧ ad.block < w.heap.size ∧ ∀ i, i < xs.length → w.cell? (ad.add i) = xs[i]?)
theorem block_add (ad : Addr) (i : Nat) : (ad.add i).block = ad.block := by unfold Addr.add; split <;> rfl
theorem SlA.below {w w' : World} {v : Value} {xs : List Value} (h : SlA w v xs) (hb : Below w.heap.size w w') : SlA w' v xs := by
  obtain ⟨p, cap, hv, hl, hm, hn, hp⟩ := h
  refine ⟨p, cap, hv, hl, hm, hn, fun h0 => ?_⟩
  obtain ⟨ad, hp, hbs, hc⟩ := hp h0
  exact ⟨ad, hp, Nat.lt_of_lt_of_le hbs hb.size, fun i hi => by rw [hb.cell (p := ad.add i) (by rw [block_add]; exact hbs)]; exact hc i hi⟩
theorem SlA.take {w : World} {p : Option Addr} {n cap : Nat} {xs : List Value} (h : SlA w (.slice p n cap) xs) (k : Nat) (hk : k ≤ n) : SlA w (.slice p k cap) (xs.take k) := by
  obtain ⟨p', cap', hv, hl, hm, hn, hp⟩ := h
  cases hv
  have e : (xs.take k).length = k := by simp; omega
  refine ⟨p, cap, by rw [e], by omega, hm, hn, fun h0 => ?_⟩
  rw [e] at h0
  obtain ⟨ad, h1, h2, h3⟩ := hp (by omega)
  refine ⟨ad, h1, h2, fun i hi => ?_⟩
  rw [e] at hi
  rw [h3 i (by omega), List.getElem?_take_of_lt hi]
theorem add_none (b off j : Nat) : (⟨b, off, none⟩ : Addr).add j = ⟨b, off + j, none⟩ := by unfold Addr.add; split <;> simp_all
theorem Sl.toA {w : World} {v : Value} {xs : List Value} (h : Sl w v xs) : SlA w v xs := by
  obtain ⟨p, cap, hv, hl, hm, hn, hp⟩ := h
  refine ⟨p, cap, hv, hl, hm, hn, fun h0 => ?_⟩
  obtain ⟨b, off, hp, hbs, hc⟩ := hp h0
  exact ⟨⟨b, off, none⟩, hp, hbs, fun i hi => by rw [add_none]; exact hc i hi⟩
theorem SlA.nil (w : World) : SlA w (.slice none 0 0) [] := (Sl.nil w).toA

/-- a slice of the call's own (its block is 'base' or later) with these cells; nil if there are none -/
abbrev Own (T base : Nat) (w : World) (v : Value) (xs : List Value) : Prop := w.ownsRow base T 1 v xs.length xs
theorem Own.form_ {T base : Nat} {w : World} {v : Value} {xs : List Value} (h : Own T base w v xs) :
    (v = .slice none 0 0 ∧ xs = []) ∨ ∃ g cap more, v = .slice (some ⟨g, 0, none⟩) xs.length cap ∧ base ≤ g ∧ xs.length ≤ cap ∧ cap ≤ maxLen ∧ cap = xs.length + more.length ∧ Row T w g (xs ++ more) := by
  obtain ⟨h1, h2⟩ := h
  rcases h2 with ⟨h, h0⟩ | ⟨g, cap, cur, hv, hb, hh, hn, hm, hs, ht⟩
  · exact Or.inl ⟨h, List.length_eq_zero_iff.1 h0⟩
  · refine Or.inr ⟨g, cap, cur.toList.drop xs.length, hv, hb, hn, hm, by simp; omega, ?_⟩
    unfold Row; rw [hh]
    have : cur.toList = xs ++ cur.toList.drop xs.length := by
      conv => lhs; rw [← List.take_append_drop xs.length cur.toList]
      rw [Nat.mul_one] at ht; rw [ht]
    rw [← this]
theorem Own.of_row {T base : Nat} {w : World} {g cap : Nat} {xs more : List Value} (h : Row T w g (xs ++ more)) (hb : base ≤ g) (hm : cap ≤ maxLen) (hc : cap = xs.length + more.length) : Own T base w (.slice (some ⟨g, 0, none⟩) xs.length cap) xs :=
  ⟨by simp, Or.inr ⟨g, cap, (xs ++ more).toArray, rfl, hb, h, by omega, hm, by simp; omega, by simp⟩⟩
theorem Own.sl {T base : Nat} {w : World} {v : Value} {xs : List Value} (h : Own T base w v xs) : Sl w v xs := by
  rcases h.form_ with ⟨rfl, rfl⟩ | ⟨g, cap, more, rfl, _, hl, hm, _, hr⟩
  · exact Sl.nil w
  · exact Sl.of_row hr hl hm
theorem Own.below {T base B : Nat} {w w' : World} {v : Value} {xs : List Value} (h : Own T base w v xs) (hb : Below B w w') (hB : w.heap.size ≤ B) : Own T base w' v xs := by
  rcases h.form_ with ⟨rfl, rfl⟩ | ⟨g, cap, more, rfl, hg, hl, hm, hc, hr⟩
  · exact World.ownsRow_nil _ _ _ _
  · exact Own.of_row (hr.below hb (Nat.lt_of_lt_of_le hr.lt hB)) hg hm hc
theorem Own.base {T base base' : Nat} {w : World} {v : Value} {xs : List Value} (h : Own T base w v xs) (hb : base' ≤ base) : Own T base' w v xs := by
  rcases h.form_ with ⟨rfl, rfl⟩ | ⟨g, cap, more, rfl, hg, hl, hm, hc, hr⟩
  · exact World.ownsRow_nil _ _ _ _
  · exact Own.of_row hr (by omega) hm hc
theorem Own.drew {T base : Nat} {w : World} {v : Value} {xs : List Value} (h : Own T base w v xs) : Own T base w.drew v xs := h.below ((Below.refl w.heap.size w).drew) (Nat.le_refl _)
/-- what grows is of another type, or not this one -/
theorem Own.grown {T T' base base' : Nat} {w w' : World} {v v' : Value} {xs ys : List Value} (h : Own T base w v xs) (h' : Own T' base' w v' ys) (hne : T ≠ T') (hg : w.grownBy w' v'.ownBlock) : Own T base w' v xs := by
  rcases h.form_ with ⟨rfl, rfl⟩ | ⟨g, cap, more, rfl, hg0, hl, hm, hc, hr⟩
  · exact World.ownsRow_nil _ _ _ _
  · refine Own.of_row (hr.grown hg ?_) hg0 hm hc
    rcases h'.form_ with ⟨rfl, rfl⟩ | ⟨g', cap', more', rfl, _, _, _, _, hr'⟩
    · intro h; cases h
    · intro h
      have : g = g' := by simpa [Value.ownBlock] using h
      exact (hr.ne_ hr' hne) this
theorem madeCells_one (z : Value) (hz : z.cells = #[z]) (n : Nat) : (madeCells z.cells n).toList = List.replicate n z := by
  rw [hz]; unfold madeCells
  apply List.ext_getElem
  · simp
  · intro i h1 h2; simp [Nat.mod_one]
theorem Row.of_owns {T : TypeId} {w : World} {base g n : Nat} {xs : List Value} (h : w.ownsRow base T 1 (.slice (some ⟨g, 0, none⟩) n n) n xs) : Row T w g xs := by
  obtain ⟨h1, h2⟩ := h
  rcases h2 with ⟨h, _⟩ | ⟨g', cap, cur, hv, _, hh, _, _, hs, ht⟩
  · cases h
  · cases hv
    unfold Row; rw [hh]
    have : cur.toList = xs := by rw [← ht, List.take_of_length_le (by simp; omega)]
    rw [← this]
/-- 'make([]T, n)' of elements of one cell: a new row of zero values -/
theorem wpList_make_row {P : Program} (w : World) {ops : Array Oper} {rest : List Oper} {o : Oper} {a : Act} {Q : Exit → Act → World → Prop}
    (hg : o.guard = none) (l c : Operand) (t : TypeId) (hop : o.op = Op.makeSlice t l c)
    (e : TypeId) (z : Value) (by_ : Nat) (h1 : P.underlying t = some (.slice e)) (hinfo : (P.info? e).map (fun i => (i.zero, i.size, i.bytes)) = some (some z, 1, by_)) (hz : z.cells = #[z])
    (kl kc : IntKind) (L C : Int) (n : Nat) (hl : a.eval l = .int kl L) (hc : a.eval c = .int kc C) (hL : L = (n : Int)) (hC : C = (n : Int)) (b2 : by_ * n ≤ 281474976710656) (b3 : n ≤ maxLen)
    (hK : ∀ w', Row e w' w.heap.size (List.replicate n z) → Below w.heap.size w w' → wpList P ops Q rest (a.put o.dst (.slice (some ⟨w.heap.size, 0, none⟩) n n)) w') :
    wpList P ops Q (o :: rest) a w := by
  obtain ⟨i, hi, hz0, hz1, hz2⟩ := info_parts hinfo
  refine wpList_make_full w hg l c t hop w.heap.size e i z 1 h1 hi hz0 hz1 kl kc L C n hl hc hL hC (by rw [hz2]; exact b2) b3 (Nat.le_refl _) ?_
  intro w' hown hgr
  rw [Nat.mul_one, madeCells_one z hz] at hown
  exact hK w' (Row.of_owns hown) ((Below.refl w.heap.size w).grown hgr (Nat.le_refl _) (fun k hk => by cases hk))
/-- 'append(out, x...)' onto a row of the call's own, of elements of one cell -/
theorem wpList_append_sl {P : Program} (w : World) {ops : Array Oper} {rest : List Oper} {o : Oper} {a : Act} {Q : Exit → Act → World → Prop} (hgd : o.guard = none) (s x : Operand) (t : TypeId)
    (ho : o.op = .call { callee := .builtin .append, args := #[s, x], argTypes := #[t, t] })
    (e : TypeId) (z : Value) (bytes : Nat) (ht : P.underlying t = some (.slice e)) (hinfo : (P.info? e).map (fun i => (i.zero, i.size, i.bytes)) = some (some z, 1, bytes)) (hz : z.cells.size = 1)
    (base : Nat) (v : Value) (xs : List Value) (hs : a.eval s = v) (hown : Own e base w v xs)
    (u : Value) (news : List Value) (hx : a.eval x = u) (hsl : SlA w u news) (h1 : ∀ u ∈ news, u.oneCell' = true)
    (h63 : xs.length + news.length ≤ maxLen) (hbytes : (xs.length + news.length) * bytes ≤ 140737488355328) (hbase : base ≤ w.heap.size)
    (h : ∀ v' w', Own e base w' v' (xs ++ news) → w.grownBy w' v.ownBlock → wpList P ops Q rest (a.put o.dst v') w') : wpList P ops Q (o :: rest) a w := by
  obtain ⟨i, hi, hz0, hz1, hz2⟩ := info_parts hinfo
  obtain ⟨p, cap, hu, hl, hm, hn, hp⟩ := hsl
  rw [hu] at hx
  rcases p with _ | ad
  · have h0 : news = [] := by
      rcases Nat.eq_zero_or_pos news.length with h0 | h0
      · exact List.length_eq_zero_iff.1 h0
      · obtain ⟨ad, hc, _⟩ := hp h0; cases hc
    subst h0
    have hc := hn rfl
    subst hc
    refine wpList_append_own_none hgd s x t ho base e i 1 ht hi v xs.length xs hs hown hx ?_
    exact h v w (by rw [List.append_nil]; exact hown) (World.grownBy.refl w _)
  · refine wpList_append_own w hgd s x t ho base e i z 1 bytes ht hi hz0 hz1 hz2 hz (by decide) v xs.length xs hs hown ad news.length cap news hx (by omega) ?_ h1 h63 hbytes hbase ?_
    · intro j u hj
      have hjm : j < news.length := (List.getElem?_eq_some_iff.1 hj).1
      obtain ⟨ad', hb, _, hc⟩ := hp (by omega)
      cases hb
      rw [hc j hjm, hj]
    · intro v' w' h2 h3 _
      refine h v' w' ?_ h3
      show w'.ownsRow base e 1 v' (xs ++ news).length (xs ++ news)
      rw [List.length_append]; exact h2
/-- one element in a box of its own, as a slice -/
theorem Sl.box {w : World} {b T : Nat} {u : Value} (h : Row T w b [u]) : Sl w (.slice (some ⟨b, 0, none⟩) 1 1) [u] := Sl.of_row (xs := [u]) (more := []) (cap := 1) h (by simp) (by unfold maxLen; omega)

/-- 'append(out, u)' of one element of one cell: the element lies in a box of its own, made last -/
theorem wpList_append_box {P : Program} (W : World) {ops : Array Oper} {rest : List Oper} {o : Oper} {a : Act} {Q : Exit → Act → World → Prop} (hgd : o.guard = none) (s x : Operand) (t : TypeId)
    (ho : o.op = .call { callee := .builtin .append, args := #[s, x], argTypes := #[t, t] })
    (e : TypeId) (z : Value) (bytes : Nat) (ht : P.underlying t = some (.slice e)) (hinfo : (P.info? e).map (fun i => (i.zero, i.size, i.bytes)) = some (some z, 1, bytes)) (hz : z.cells.size = 1) (hby : bytes ≤ 100)
    (base : Nat) (v : Value) (xs : List Value) (hs : a.eval s = v) (hown : Own e base W v xs)
    (u : Value) (hx : a.eval x = .slice (some ⟨W.heap.size, 0, none⟩) 1 1) (h1 : u.oneCell' = true) (hlen : xs.length ≤ 1000000) (hbase : base ≤ W.heap.size)
    (h : ∀ v' w', Own e base w' v' (xs ++ [u]) → Below base W w' → (∀ T b2 v2 ys, T ≠ e → Own T b2 W v2 ys → Own T b2 w' v2 ys) → wpList P ops Q rest (a.put o.dst v') w') : wpList P ops Q (o :: rest) a (W.alloc (.cells #[u] e)) := by
  refine wpList_append_sl _ hgd s x t ho e z bytes ht hinfo hz base v xs hs (World.ownsRow.alloc hown _) _ [u] hx (Sl.box (row_new e W #[u])).toA ?_ ?_ ?_ ?_ ?_
  · intro y hy; simp at hy; subst hy; exact h1
  · simp [maxLen]; omega
  · have : (xs.length + [u].length) * bytes ≤ 1000001 * 100 := Nat.mul_le_mul (by simp; omega) hby
    omega
  · simp; omega
  · intro v' w' hown' hg
    refine h v' w' hown' ?_ ?_
    · exact ((Below.refl base W).alloc hbase _).grown hg (by simp; omega) (fun k hk => (World.ownsRow.lt hown k hk).1)
    · intro T b2 v2 ys hT hown2
      exact Own.grown (World.ownsRow.alloc hown2 _) (World.ownsRow.alloc hown _) hT hg

/-- integers as cells -/
def ints (l : List Int) : List Value := l.map (.int .i64)
theorem ints_length (l : List Int) : (ints l).length = l.length := by simp [ints]
theorem ints_get (l : List Int) (i : Nat) (h : i < l.length) : (ints l)[i]? = some (.int .i64 (l.getD i 0)) := by
  simp [ints, h]
theorem ints_set (l : List Int) (i : Nat) (d : Int) : (ints l).set i (.int .i64 d) = ints (l.set i d) := by
  simp [ints, List.map_set]
theorem ints_append (l m : List Int) : ints (l ++ m) = ints l ++ ints m := by simp [ints]
theorem ints_take (l : List Int) (n : Nat) : (ints l).take n = ints (l.take n) := by simp [ints]
theorem ints_one (l : List Int) : ∀ u ∈ ints l, u.oneCell' = true := by
  intro u hu; obtain ⟨x, _, rfl⟩ := List.mem_map.1 hu; rfl
theorem Sl.form {w : World} {v : Value} {l : List Int} (h : Sl w v (ints l)) : ∃ p cap, v = .slice p l.length cap ∧ l.length ≤ cap ∧ cap ≤ 9223372036854775807 := by
  obtain ⟨p, cap, hv, hl, hm, _⟩ := h
  rw [ints_length] at hv hl
  unfold maxLen at hm
  exact ⟨p, cap, hv, hl, hm⟩
/-- what a cell of a slice of integers is -/
theorem Sl.int_at {w : World} {v : Value} {l : List Int} (h : Sl w v (ints l)) (i : Nat) (hi : i < l.length) :
    ∃ b off cap, v = .slice (some ⟨b, off, none⟩) l.length cap ∧ l.length ≤ cap ∧ cap ≤ maxLen ∧ b < w.heap.size ∧ w.cell? ⟨b, off + i, none⟩ = some (.int .i64 (l.getD i 0)) := by
  obtain ⟨p, cap, hv, hl, hm, _, hp⟩ := h
  rw [ints_length] at *
  obtain ⟨b, off, rfl, hb, hc⟩ := hp (by omega)
  exact ⟨b, off, cap, hv, hl, hm, hb, by rw [hc i hi, ints_get l i hi]⟩
theorem SlA.form {w : World} {v : Value} {l : List Int} (h : SlA w v (ints l)) : ∃ p cap, v = .slice p l.length cap ∧ l.length ≤ cap ∧ cap ≤ 9223372036854775807 := by
  obtain ⟨p, cap, hv, hl, hm, _⟩ := h
  rw [ints_length] at hv hl
  unfold maxLen at hm
  exact ⟨p, cap, hv, hl, hm⟩
theorem SlA.int_at {w : World} {v : Value} {l : List Int} (h : SlA w v (ints l)) (i : Nat) (hi : i < l.length) :
    ∃ ad cap, v = .slice (some ad) l.length cap ∧ l.length ≤ cap ∧ cap ≤ maxLen ∧ ad.block < w.heap.size ∧ w.cell? (ad.add i) = some (.int .i64 (l.getD i 0)) := by
  obtain ⟨p, cap, hv, hl, hm, _, hp⟩ := h
  rw [ints_length] at *
  obtain ⟨ad, rfl, hb, hc⟩ := hp (by omega)
  exact ⟨ad, cap, hv, hl, hm, hb, by rw [hc i hi, ints_get l i hi]⟩
/-- a slice of slices of integers, wherever it lies -/
def MatA (w : World) (v : Value) (rows : List (List Int)) : Prop :=
  ∃ vs, vs.length = rows.length ∧ SlA w v vs ∧ ∀ i u, vs[i]? = some u → SlA w u (ints (rows.getD i []))
theorem MatA.below {w w' : World} {v : Value} {rows : List (List Int)} (h : MatA w v rows) (hb : Below w.heap.size w w') : MatA w' v rows := by
  obtain ⟨vs, hl, hs, hr⟩ := h
  exact ⟨vs, hl, hs.below hb, fun i u hu => (hr i u hu).below hb⟩
theorem MatA.form_ {w : World} {v : Value} {rows : List (List Int)} (h : MatA w v rows) : ∃ p cap, v = .slice p rows.length cap ∧ rows.length ≤ cap ∧ cap ≤ maxLen := by
  obtain ⟨vs, hl, ⟨p, cap, hv, h1, h2, _, _⟩, _⟩ := h
  exact ⟨p, cap, by rw [hv, hl], by omega, h2⟩
/-- a slice of slices of integers -/
def Mat (w : World) (v : Value) (rows : List (List Int)) : Prop :=
  ∃ vs, vs.length = rows.length ∧ Sl w v vs ∧ ∀ i u, vs[i]? = some u → Sl w u (ints (rows.getD i []))
theorem Mat.below {w w' : World} {v : Value} {rows : List (List Int)} (h : Mat w v rows) (hb : Below w.heap.size w w') : Mat w' v rows := by
  obtain ⟨vs, hl, hs, hr⟩ := h
  exact ⟨vs, hl, hs.below hb, fun i u hu => (hr i u hu).below hb⟩
theorem Mat.nil (w : World) : Mat w (.slice none 0 0) [] := ⟨[], rfl, Sl.nil w, fun i u hu => by simp at hu⟩
/-- its length, as a value -/
theorem Mat.form_ {w : World} {v : Value} {rows : List (List Int)} (h : Mat w v rows) : ∃ p cap, v = .slice p rows.length cap ∧ rows.length ≤ cap ∧ cap ≤ maxLen := by
  obtain ⟨vs, hl, ⟨p, cap, hv, h1, h2, _, _⟩, _⟩ := h
  exact ⟨p, cap, by rw [hv, hl], by omega, h2⟩
theorem Mat.toA {w : World} {v : Value} {rows : List (List Int)} (h : Mat w v rows) : MatA w v rows := by
  obtain ⟨vs, hl, hs, hr⟩ := h
  exact ⟨vs, hl, hs.toA, fun i u hu => (hr i u hu).toA⟩
/-- a slice of slices of the call's own -/
def OwnM (TR T base : Nat) (w : World) (v : Value) (rows : List (List Int)) : Prop :=
  ∃ vs, vs.length = rows.length ∧ Own TR base w v vs ∧ ∀ i u, vs[i]? = some u → Own T base w u (ints (rows.getD i []))
theorem OwnM.below {TR T base B : Nat} {w w' : World} {v : Value} {rows : List (List Int)} (h : OwnM TR T base w v rows) (hb : Below B w w') (hB : w.heap.size ≤ B) : OwnM TR T base w' v rows := by
  obtain ⟨vs, hl, hs, hr⟩ := h
  exact ⟨vs, hl, hs.below hb hB, fun i u hu => (hr i u hu).below hb hB⟩
theorem OwnM.base {TR T base base' : Nat} {w : World} {v : Value} {rows : List (List Int)} (h : OwnM TR T base w v rows) (hb : base' ≤ base) : OwnM TR T base' w v rows := by
  obtain ⟨vs, hl, hs, hr⟩ := h
  exact ⟨vs, hl, hs.base hb, fun i u hu => (hr i u hu).base hb⟩
theorem OwnM.nil (TR T base : Nat) (w : World) : OwnM TR T base w (.slice none 0 0) [] := ⟨[], rfl, World.ownsRow_nil _ _ _ _, fun i u hu => by simp at hu⟩
end Go.Proofs.YtmhmkhdgpfhnfaaGreatDoor.Ref
