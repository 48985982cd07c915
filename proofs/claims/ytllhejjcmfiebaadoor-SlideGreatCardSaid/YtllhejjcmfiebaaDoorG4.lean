/- Slices of structs: words. -/
import Derived.Test.YtllhejjcmfiebaaDoorWords
import Derived.Test.YtllhejjcmfiebaaDoorProg
import Derived.Test.YtllhejjcmfiebaaDoorTz
import Derived.Laws.StructEq
import Derived.Laws.Cover2
set_option linter.unusedVariables false
set_option linter.unusedSimpArgs false
set_option linter.unnecessarySimpa false
namespace Go.Proofs.YtllhejjcmfiebaaDoor
open Go.RowKit
abbrev OwnK (T k base : Nat) (w : World) (v : Value) (n : Nat) (xs : List Value) : Prop := w.ownsRow base T k v n xs
theorem OwnK.form_ {T k base : Nat} {w : World} {v : Value} {n : Nat} {xs : List Value} (h : OwnK T k base w v n xs) :
  (v = .slice none 0 0 ∧ n = 0 ∧ xs = []) ∨ ∃ g cap more, v = .slice (some ⟨g, 0, none⟩) n cap ∧ base ≤ g ∧ n ≤ cap ∧ cap ≤ maxLen ∧ xs.length = n * k ∧ cap * k = xs.length + more.length ∧ Row T w g (xs ++ more) := by
 obtain ⟨h1, h2⟩ := h
 rcases h2 with ⟨h, h0⟩ | ⟨g, cap, cur, hv, hb, hh, hn, hm, hs, ht⟩
 ·refine Or.inl ⟨h, h0, ?_⟩
  subst h0; simpa using h1
 ·refine Or.inr ⟨g, cap, cur.toList.drop (n * k), hv, hb, hn, hm, h1, ?_, ?_⟩
  ·have : n * k ≤ cap * k := Nat.mul_le_mul_right _ hn
   simp; omega
  ·unfold Row; rw [hh]
   have : cur.toList = xs ++ cur.toList.drop (n * k) := by
    conv => lhs; rw [← List.take_append_drop (n * k) cur.toList]
    rw [ht]
   rw [← this]
theorem OwnK.of_row {T k base : Nat} {w : World} {g n cap : Nat} {xs more : List Value} (h : Row T w g (xs ++ more)) (hb : base ≤ g) (hn : n ≤ cap) (hm : cap ≤ maxLen) (hx : xs.length = n * k) (hc : cap * k = xs.length + more.length) : OwnK T k base w (.slice (some ⟨g, 0, none⟩) n cap) n xs :=
 ⟨hx, Or.inr ⟨g, cap, (xs ++ more).toArray, rfl, hb, h, hn, hm, by simp; omega, by rw [← hx]; simp⟩⟩
theorem OwnK.below {T k base B : Nat} {w w' : World} {v : Value} {n : Nat} {xs : List Value} (h : OwnK T k base w v n xs) (hb : Below B w w') (hB : w.heap.size ≤ B) : OwnK T k base w' v n xs := by
 rcases h.form_ with ⟨rfl, rfl, rfl⟩ | ⟨g, cap, more, rfl, hg, hl, hm, hx, hc, hr⟩
 ·exact World.ownsRow_nil _ _ _ _
 ·exact OwnK.of_row (hr.below hb (Nat.lt_of_lt_of_le hr.lt hB)) hg hl hm hx hc
theorem OwnK.base {T k base base' : Nat} {w : World} {v : Value} {n : Nat} {xs : List Value} (h : OwnK T k base w v n xs) (hb : base' ≤ base) : OwnK T k base' w v n xs := by
 rcases h.form_ with ⟨rfl, rfl, rfl⟩ | ⟨g, cap, more, rfl, hg, hl, hm, hx, hc, hr⟩
 ·exact World.ownsRow_nil _ _ _ _
 ·exact OwnK.of_row hr (by omega) hl hm hx hc
theorem OwnK.drew {T k base : Nat} {w : World} {v : Value} {n : Nat} {xs : List Value} (h : OwnK T k base w v n xs) : OwnK T k base w.drew v n xs := h.below ((Below.refl w.heap.size w).drew) (Nat.le_refl _)
theorem OwnK.other {T T' k base g : Nat} {w : World} {v : Value} {n : Nat} {xs ys : List Value} (h : OwnK T k base w v n xs) (hr : Row T' w g ys) (hne : T ≠ T') (i : Nat) (u : Value) : OwnK T k base (w.setCell ⟨g, i, none⟩ u) v n xs := by
 rcases h.form_ with ⟨rfl, rfl, rfl⟩ | ⟨g', cap, more, rfl, hg, hl, hm, hx, hc, hr'⟩
 ·exact World.ownsRow_nil _ _ _ _
 ·exact OwnK.of_row (hr'.other ⟨g, i, none⟩ (fun e => hr'.ne_ hr hne (by simpa using e.symm)) u) hg hl hm hx hc
theorem OwnK.grown {T T' k k' base base' : Nat} {w w' : World} {v v' : Value} {n n' : Nat} {xs ys : List Value} (h : OwnK T k base w v n xs) (h' : OwnK T' k' base' w v' n' ys) (hne : T ≠ T') (hg : w.grownBy w' v'.ownBlock) : OwnK T k base w' v n xs := by
 rcases h.form_ with ⟨rfl, rfl, rfl⟩ | ⟨g, cap, more, rfl, hg0, hl, hm, hx, hc, hr⟩
 ·exact World.ownsRow_nil _ _ _ _
 ·refine OwnK.of_row (hr.grown hg ?_) hg0 hl hm hx hc
  rcases h'.form_ with ⟨rfl, rfl, rfl⟩ | ⟨g', cap', more', rfl, _, _, _, _, _, hr'⟩
  ·intro h; cases h
  ·intro h
   have : g = g' := by simpa [Value.ownBlock] using h
   exact (hr.ne_ hr' hne) this
theorem Row.grownK {T T' k' base' g : Nat} {w w' : World} {v' : Value} {n' : Nat} {xs ys : List Value} (h : Row T w g xs) (h' : OwnK T' k' base' w v' n' ys) (hne : T ≠ T') (hg : w.grownBy w' v'.ownBlock) : Row T w' g xs := by
 refine h.grown hg ?_
 rcases h'.form_ with ⟨rfl, rfl, rfl⟩ | ⟨g', cap', more', rfl, _, _, _, _, _, hr'⟩
 ·intro hq; cases hq
 ·intro hq
  have : g = g' := by simpa [Value.ownBlock] using hq
  exact (h.ne_ hr' hne) this
theorem OwnK.at_ {T k base : Nat} {w : World} {v : Value} {n : Nat} {xs : List Value} (h : OwnK T k base w v n xs) (hn : 0 < n) :
  ∃ g cap, v = .slice (some ⟨g, 0, none⟩) n cap ∧ n ≤ cap ∧ cap ≤ 9223372036854775807 ∧ g < w.heap.size ∧ base ≤ g ∧ ∀ j, j < n * k → w.cell? ⟨g, j, none⟩ = xs[j]? := by
 rcases h.form_ with ⟨_, rfl, _⟩ | ⟨g, cap, more, rfl, hg0, hl, hm, hx, hc, hr⟩
 ·omega
 ·unfold maxLen at hm
  exact ⟨g, cap, rfl, hl, hm, hr.lt, hg0, fun j hj => by rw [hr.cell, List.getElem?_append_left (by omega)]⟩
theorem OwnK.len {T k base : Nat} {w : World} {v : Value} {n : Nat} {xs : List Value} (h : OwnK T k base w v n xs) : ∃ p cap, v = .slice p n cap ∧ n ≤ cap ∧ cap ≤ 9223372036854775807 := by
 rcases h.form_ with ⟨rfl, rfl, _⟩ | ⟨g, cap, more, rfl, hg0, hl, hm, hx, hc, hr⟩
 ·exact ⟨_, _, rfl, Nat.le_refl _, by omega⟩
 ·unfold maxLen at hm
  exact ⟨_, _, rfl, hl, hm⟩
theorem wpList_append_boxK {P : Program} (W : World) {ops : Array Oper} {rest : List Oper} {o : Oper} {a : Act} {Q : Exit → Act → World → Prop} (hgd : o.guard = none) (s x : Operand) (t : TypeId)
  (ho : o.op = .call { callee := .builtin .append, args := #[s, x], argTypes := #[t, t] })
  (e : TypeId) (z : Value) (k bytes : Nat) (ht : P.underlying t = some (.slice e)) (hinfo : (P.info? e).map (fun i => (i.zero, i.size, i.bytes)) = some (some z, k, bytes)) (hz : z.cells.size = k) (hk : 0 < k) (hby : bytes ≤ 1000)
  (base : Nat) (v : Value) (n : Nat) (xs : List Value) (hs : a.eval s = v) (hown : OwnK e k base W v n xs)
  (us : Array Value) (hus : us.size = k) (B : Nat) (hx : a.eval x = .slice (some ⟨B, 0, none⟩) 1 1) (hB : B = W.heap.size) (h1 : ∀ u ∈ us.toList, u.oneCell' = true) (hlen : n ≤ 1000000) (hbase : base ≤ W.heap.size)
  (h : ∀ v' w', OwnK e k base w' v' (n + 1) (xs ++ us.toList) → Below base W w' → (∀ T k2 b2 v2 n2 ys, T ≠ e → OwnK T k2 b2 W v2 n2 ys → OwnK T k2 b2 w' v2 n2 ys) → (∀ T g ys, T ≠ e → Row T W g ys → Row T w' g ys) →
   wpList P ops Q rest (a.put o.dst v') w') : wpList P ops Q (o :: rest) a (W.alloc (.cells us e)) := by
 subst hB
 obtain ⟨i, hi, hz0, hz1, hz2⟩ := info_parts hinfo
 refine wpList_append_own _ hgd s x t ho base e i z k bytes ht hi hz0 hz1 hz2 hz hk v n xs hs (World.ownsRow.alloc hown _) ⟨W.heap.size, 0, none⟩ 1 1 us.toList hx (by simp [hus]) ?_ h1 ?_ ?_ ?_ ?_
 ·intro j y hj
  rw [add_none, Nat.zero_add, (row_new e W us).cell j, hj]
 ·simp [maxLen]; omega
 ·have : (n + 1) * bytes ≤ 1000001 * 1000 := Nat.mul_le_mul (by omega) hby
  omega
 ·simp; omega
 ·intro v' w' hown' hg _
  have hal : OwnK e k base (W.alloc (.cells us e)) v n xs := World.ownsRow.alloc hown _
  refine h v' w' hown' ?_ ?_ ?_
  ·exact ((Below.refl base W).alloc hbase _).grown hg (by simp; omega) (fun q hq => (World.ownsRow.lt hown q hq).1)
  ·intro T k2 b2 v2 n2 ys hT hown2
   exact OwnK.grown (World.ownsRow.alloc hown2 _) hal hT hg
  ·intro T g ys hT hr
   exact (hr.alloc _).grownK hal hT hg
theorem flat_get {α : Type} (f : α → List Value) (k : Nat) (hf : ∀ e, (f e).length = k) : ∀ (l : List α) (i j : Nat) (e : α), l[i]? = some e → j < k → (l.flatMap f)[i * k + j]? = (f e)[j]?
 | [], i, j, e, h, _ => by simp at h
 | x :: l, 0, j, e, h, hj => by
  simp at h; subst h
  simp only [List.flatMap_cons, Nat.zero_mul, Nat.zero_add]
  rw [List.getElem?_append_left (by rw [hf]; exact hj)]
 | x :: l, i + 1, j, e, h, hj => by
  simp only [List.flatMap_cons]
  have hi : k ≤ (i + 1) * k + j := by rw [Nat.add_mul]; omega
  rw [List.getElem?_append_right (by rw [hf]; exact hi), hf]
  have e1 : (i + 1) * k + j - k = i * k + j := by rw [Nat.add_mul]; omega
  rw [e1]
  exact flat_get f k hf l i j e (by simpa using h) hj
theorem flat_len {α : Type} (f : α → List Value) (k : Nat) (hf : ∀ e, (f e).length = k) (l : List α) : (l.flatMap f).length = l.length * k := by
 induction l with
 | nil => simp
 | cons x l ih => simp [List.flatMap_cons, hf, ih, Nat.add_mul]; omega
end Go.Proofs.YtllhejjcmfiebaaDoor
namespace Go.Proofs.YtllhejjcmfiebaaDoor
open Go.RowKit
theorem Tryd.infoP : (Tryd.prog.info? 90).map (fun i => (i.zero, i.size, i.bytes)) = some (some (.agg #[.int .i64 0, .int .i64 0]), 2, 16) := by kernel_rfl
def prC (p : Int × Int) : List Value := [.int .i64 p.1, .int .i64 p.2]
def prs (l : List (Int × Int)) : List Value := l.flatMap prC
theorem prs_append (l m : List (Int × Int)) : prs (l ++ m) = prs l ++ prs m := by simp [prs]
theorem prs_len (l : List (Int × Int)) : (prs l).length = l.length * 2 := flat_len prC 2 (fun _ => rfl) l
theorem prs_get (l : List (Int × Int)) (i : Nat) (p : Int × Int) (h : l[i]? = some p) : (prs l)[i * 2]? = some (.int .i64 p.1) ∧ (prs l)[i * 2 + 1]? = some (.int .i64 p.2) :=
 ⟨flat_get prC 2 (fun _ => rfl) l i 0 p h (by omega), flat_get prC 2 (fun _ => rfl) l i 1 p h (by omega)⟩
abbrev OwnP (base : Nat) (w : World) (v : Value) (l : List (Int × Int)) : Prop := OwnK 90 2 base w v l.length (prs l)
theorem OwnP.nil (base : Nat) (w : World) : OwnP base w (.slice none 0 0) [] := World.ownsRow_nil _ _ _ _
def gridS (r c p : Nat) : List (Int × Int) := (if p % c < c - 1 then [((p : Int), (p : Int) + 1)] else []) ++ (if p / c < r - 1 then [((p : Int), (p : Int) + c)] else [])
def gridE (r c : Nat) : Nat → List (Int × Int)
 | 0 => []
 | k + 1 => gridE r c k ++ gridS r c k
theorem gridS_len (r c p : Nat) : (gridS r c p).length ≤ 2 := by unfold gridS; split <;> split <;> simp
theorem gridE_len (r c : Nat) : ∀ k, (gridE r c k).length ≤ 2 * k
 | 0 => by simp [gridE]
 | k + 1 => by have h1 := gridE_len r c k; have h2 := gridS_len r c k; simp only [gridE, List.length_append]; omega
end Go.Proofs.YtllhejjcmfiebaaDoor
namespace Go.Proofs.YtllhejjcmfiebaaDoor
open Go.RowKit
set_option maxRecDepth 100000 in
set_option maxHeartbeats 2000000 in
theorem rgrid_go (r c : Nat) (hr : 1 ≤ r) (hc : 1 ≤ c) (hr9 : r ≤ 9) (hc9 : c ≤ 9) (hn : r * c ≤ 9) (w : World) :
  Calls Tryd.prog 35 #[.int .i64 r, .int .i64 c] w fun e w' => ∃ v, e = .returned (.tuple #[.int .i64 ((r * c : Nat) : Int), v]) ∧ OwnP w.heap.size w' v (gridE r c (r * c)) ∧ Below w.heap.size w w' := by
 have hmul : (r : Int) * (c : Int) = ((r * c : Nat) : Int) := by rw [Int.natCast_mul]
 obtain ⟨n, hnn⟩ : ∃ n, r * c = n := ⟨_, rfl⟩
 rw [hnn] at hmul hn ⊢
 have HM := Lib.hid hnn
 have HLEN := Lib.hid (gridE_len r c)
 clear hnn
 go_enter Tryd.func35, Tryd.ntmps35
 go_wp2
 go_loopw [7, 8] (fun v i wr => ∃ k : Nat, k ≤ n ∧ i = .int .i64 k ∧ OwnP w.heap.size wr v (gridE r c k) ∧ Below w.heap.size w wr) (fun _ i _ => n - (intOf i).toNat)
 case atStart => exact ⟨0, Nat.zero_le _, rfl, OwnP.nil _ _, Below.refl _ _⟩
 case round =>
  obtain ⟨k, hk, rfl, hown, hbel⟩ := hrel
  obtain ⟨p, cap, rfl, _, _⟩ := hown.len
  have HOWN := Lib.hid hown
  have HB := Lib.hid hbel
  have hlen := HLEN.out k
  clear hown hbel
  by_cases hlt : k < n
  ·have HS : Hid (gridE r c (k + 1) = gridE r c k ++ gridS r c k) := rfl
   have hgs : gridS r c k = (if k % c < c - 1 then [((k : Int), (k : Int) + 1)] else []) ++ (if k / c < r - 1 then [((k : Int), (k : Int) + c)] else []) := rfl
   obtain ⟨q, hq⟩ : ∃ q, k % c = q := ⟨_, rfl⟩
   obtain ⟨d, hd⟩ : ∃ d, k / c = d := ⟨_, rfl⟩
   have hq9 : q < 9 := by rw [← hq]; have := Nat.mod_lt k (show c > 0 by omega); omega
   have hd9 : d ≤ 9 := by rw [← hd]; have := Nat.div_le_self k c; omega
   rw [hq, hd] at hgs
   have hmod : (k : Int) % (c : Int) = (q : Int) := by rw [← hq]; rfl
   have hdiv : (k : Int) / (c : Int) = (d : Int) := by rw [← hd]; rfl
   have hc1 : IntKind.i64.wrap ((c : Int) - 1) = (c : Int) - 1 := IntWalk.i64_in _ (by omega)
   have hr1 : IntKind.i64.wrap ((r : Int) - 1) = (r : Int) - 1 := IntWalk.i64_in _ (by omega)
   have HDN : Hid (d < r - 1 ↔ k + c < n) := by
    show _ ↔ _
    rw [← hd, ← HM.out]
    have e1 : (k + c) / c = k / c + 1 := Nat.add_div_right k (by omega)
    have e2 : (k + c) / c < r ↔ k + c < r * c := Nat.div_lt_iff_lt_mul (by omega)
    rw [e1] at e2
    rw [← e2]
    omega
   clear hq hd hdiv hc1 hr1
   by_cases h1 : q < c - 1
   ·have h1' : (q : Int) + 1 < (c : Int) := by omega
    rw [if_pos h1] at hgs
    go_wp2_with (at_builtin; refine wpList_append_boxK wr rfl (.tmp 23) (.tmp 28) 22 rfl 90 _ 2 16 Tryd.underlying22 Tryd.infoP rfl (by omega) (by omega) w.heap.size (.slice p (gridE r c k).length cap) (gridE r c k).length (prs (gridE r c k)) rfl HOWN.out _ ?c9 _ rfl ?c0 ?c1 ?c2 ?c3 ?_)
    try (case c9 => rfl)
    case c0 => rfl
    case c1 => simp [Value.oneCell']
    case c2 => omega
    case c3 => exact HB.out.size
    intro v1 w1 ho hb hkp hrp
    have HO1 : Hid (OwnK 90 2 w.heap.size w1 v1 ((gridE r c k).length + 1) (prs (gridE r c k ++ [((k : Int), (k : Int) + 1)]))) := by
     show OwnK _ _ _ _ _ _ _
     rw [prs_append]; exact ho
    obtain ⟨p1, cap1, rfl, _, _⟩ := ho.len
    have HB1 := Lib.hid (HB.out.trans hb)
    clear ho hb hkp hrp
    by_cases h2 : d < r - 1
    ·have h2' : (k : Int) + (c : Int) < (n : Int) := by have := (HDN.out).1 h2; omega
     rw [if_pos h2] at hgs
     go_wp2_with (at_builtin; refine wpList_append_boxK w1 rfl (.tmp 35) (.tmp 41) 22 rfl 90 _ 2 16 Tryd.underlying22 Tryd.infoP rfl (by omega) (by omega) w.heap.size (.slice p1 ((gridE r c k).length + 1) cap1) ((gridE r c k).length + 1) (prs (gridE r c k ++ [((k : Int), (k : Int) + 1)])) rfl HO1.out _ ?c9 _ rfl ?c0 ?c1 ?c2 ?c3 ?_)
     try (case c9 => rfl)
     case c0 => rfl
     case c1 => simp [Value.oneCell']
     case c2 => omega
     case c3 => exact HB1.out.size
     intro v2 w2 ho hb hkp hrp
     have HO2 : Hid (OwnP w.heap.size w2 v2 (gridE r c k ++ ([((k : Int), (k : Int) + 1)] ++ [((k : Int), (k : Int) + c)]))) := by
      show OwnK _ _ _ _ _ _ _
      rw [← List.append_assoc, prs_append, List.length_append, List.length_append]; exact ho
     obtain ⟨p2, cap2, rfl, _, _⟩ := ho.len
     have HB2 := Lib.hid (HB1.out.trans hb)
     clear ho hb hkp hrp
     go_wp2
     go_roundw
     case rel => exact ⟨k + 1, by omega, by go_num, by rw [HS.out, hgs]; exact HO2.out, HB2.out⟩
     case measure => simp [intOf]; omega
    ·have h2' : ¬ ((k : Int) + (c : Int) < (n : Int)) := by have := mt (HDN.out).2 h2; omega
     rw [if_neg h2, List.append_nil] at hgs
     go_wp2
     go_roundw
     case rel => exact ⟨k + 1, by omega, by go_num, by rw [HS.out, hgs]; show OwnK _ _ _ _ _ _ _; rw [List.length_append]; exact HO1.out, HB1.out⟩
     case measure => simp [intOf]; omega
   ·have h1' : ¬ ((q : Int) + 1 < (c : Int)) := by omega
    rw [if_neg h1, List.nil_append] at hgs
    by_cases h2 : d < r - 1
    ·have h2' : (k : Int) + (c : Int) < (n : Int) := by have := (HDN.out).1 h2; omega
     rw [if_pos h2] at hgs
     go_wp2_with (at_builtin; refine wpList_append_boxK wr rfl (.tmp 35) (.tmp 41) 22 rfl 90 _ 2 16 Tryd.underlying22 Tryd.infoP rfl (by omega) (by omega) w.heap.size (.slice p (gridE r c k).length cap) (gridE r c k).length (prs (gridE r c k)) rfl HOWN.out _ ?c9 _ rfl ?c0 ?c1 ?c2 ?c3 ?_)
     try (case c9 => rfl)
     case c0 => rfl
     case c1 => simp [Value.oneCell']
     case c2 => omega
     case c3 => exact HB.out.size
     intro v2 w2 ho hb hkp hrp
     have HO2 : Hid (OwnP w.heap.size w2 v2 (gridE r c k ++ [((k : Int), (k : Int) + c)])) := by
      show OwnK _ _ _ _ _ _ _
      rw [prs_append, List.length_append]; exact ho
     obtain ⟨p2, cap2, rfl, _, _⟩ := ho.len
     have HB2 := Lib.hid (HB.out.trans hb)
     clear ho hb hkp hrp
     go_wp2
     go_roundw
     case rel => exact ⟨k + 1, by omega, by go_num, by rw [HS.out, hgs]; exact HO2.out, HB2.out⟩
     case measure => simp [intOf]; omega
    ·have h2' : ¬ ((k : Int) + (c : Int) < (n : Int)) := by have := mt (HDN.out).2 h2; omega
     rw [if_neg h2] at hgs
     go_wp2
     go_roundw
     case rel => exact ⟨k + 1, by omega, by go_num, by rw [HS.out, hgs]; rw [List.append_nil]; exact HOWN.out, HB.out⟩
     case measure => simp [intOf]; omega
  ·obtain rfl : k = n := by omega
   go_wp2
   go_ret2
   exact ⟨_, rfl, HOWN.out, HB.out⟩
def sizeB (n : Int) : Bool := decide (2 ≤ n) && decide (n ≤ 9)
theorem isSize_any (n : Int) (w : World) : Calls Tryd.prog 50 #[.int .i64 n] w fun e w' => e = .returned (.bool (sizeB n)) ∧ w = w' := by
 have HS : Hid (sizeB n = (decide (2 ≤ n) && decide (n ≤ 9))) := rfl
 by_cases h1 : 2 ≤ n
 ·by_cases h2 : n ≤ 9
  ·go_enter Tryd.func50, Tryd.ntmps50
   go_wp2
   go_ret
   exact ⟨by rw [HS.out]; simp [h1, h2], rfl⟩
  ·go_enter Tryd.func50, Tryd.ntmps50
   go_wp2
   go_ret
   exact ⟨by rw [HS.out]; simp [h1, h2], rfl⟩
 ·go_enter Tryd.func50, Tryd.ntmps50
  go_wp2
  go_ret
  exact ⟨by rw [HS.out]; simp; omega, rfl⟩
end Go.Proofs.YtllhejjcmfiebaaDoor
namespace Go.Proofs.YtllhejjcmfiebaaDoor
open Go.RowKit
theorem eqP (a b c d : Int) (w : World) : (Op.equalIn 10000 90 (.agg #[.int .i64 a, .int .i64 b]) (.agg #[.int .i64 c, .int .i64 d])).run Tryd.prog w = .ok (a == c && b == d) w := by
 have u3 := Tryd.underlying3
 have a3 := Tryd.isAgg3
 have z3 := Tryd.sizeOf3
 rw [show (10000 : Nat) = 9999 + 1 from rfl, Op.equalIn]
 simp only [Sem.run_bind, run_underlying Tryd.underlying90, Result.andThen_ok]
 simp only [Std.Legacy.Range.forIn_eq_forIn_range', Std.Legacy.Range.size, Nat.sub_zero, Nat.add_sub_cancel, Nat.div_one, List.range'_succ, List.range'_zero, List.forIn_cons, List.forIn_nil]
 go_simp
 by_cases h1 : a = c <;> by_cases h2 : b = d <;> simp [h1, h2]
attribute [local go_sem] eqP
def SlP (w : World) (v : Value) (l : List (Int × Int)) : Prop :=
 ∃ p cap, v = .slice p l.length cap ∧ l.length ≤ cap ∧ cap ≤ maxLen ∧ (0 < l.length → ∃ ad : Addr, p = some ad ∧ ad.block < w.heap.size ∧ ∀ i e, l[i]? = some e →
  w.cell? (ad.add (i * 2)) = some (.int .i64 e.1) ∧ w.cell? ((ad.add (i * 2)).add 1) = some (.int .i64 e.2))
theorem SlP.below {w w' : World} {v : Value} {l : List (Int × Int)} (h : SlP w v l) (hb : Below w.heap.size w w') : SlP w' v l := by
 obtain ⟨p, cap, hv, h1, h2, h3⟩ := h
 refine ⟨p, cap, hv, h1, h2, fun h0 => ?_⟩
 obtain ⟨ad, hp, hlt, hc⟩ := h3 h0
 refine ⟨ad, hp, Nat.lt_of_lt_of_le hlt hb.size, fun i e he => ?_⟩
 obtain ⟨a, b⟩ := hc i e he
 exact ⟨(hb.cell (p := ad.add (i * 2)) (by rw [block_add]; exact hlt)).trans a, (hb.cell (p := (ad.add (i * 2)).add 1) (by rw [block_add, block_add]; exact hlt)).trans b⟩
theorem SlP.len {w : World} {v : Value} {l : List (Int × Int)} (h : SlP w v l) : ∃ p cap, v = .slice p l.length cap ∧ l.length ≤ cap ∧ cap ≤ 9223372036854775807 := by
 obtain ⟨p, cap, hv, h1, h2, _⟩ := h; exact ⟨p, cap, hv, h1, h2⟩
theorem SlP.at_ {w : World} {v : Value} {l : List (Int × Int)} (h : SlP w v l) (i : Nat) (hi : i < l.length) :
  ∃ (ad : Addr) (cap : Nat) (e : Int × Int), v = .slice (some ad) l.length cap ∧ ad.block < w.heap.size ∧ l[i]? = some e ∧
   w.cell? (ad.add (i * 2)) = some (.int .i64 e.1) ∧ w.cell? ⟨(ad.add (i * 2)).block, (ad.add (i * 2)).off + 1, none⟩ = some (.int .i64 e.2) := by
 obtain ⟨p, cap, hv, h1, h2, h3⟩ := h
 obtain ⟨ad, rfl, hlt, hc⟩ := h3 (by omega)
 have := hc i _ (List.getElem?_eq_getElem hi)
 exact ⟨ad, cap, l[i], hv, hlt, List.getElem?_eq_getElem hi, this.1, this.2⟩
theorem OwnP.sl {base : Nat} {w : World} {v : Value} {l : List (Int × Int)} (h : OwnP base w v l) : SlP w v l := by
 rcases h.form_ with ⟨rfl, h0, _⟩ | ⟨g, cap, more, rfl, _, hl, hm, hx, hc, hr⟩
 ·have : l = [] := List.length_eq_zero_iff.1 h0
  subst this
  exact ⟨none, 0, rfl, Nat.le_refl _, Nat.zero_le _, fun h => absurd h (by simp)⟩
 ·refine ⟨_, cap, rfl, hl, hm, fun h0 => ⟨⟨g, 0, none⟩, rfl, hr.lt, fun i e he => ?_⟩⟩
  have hi : i < l.length := (List.getElem?_eq_some_iff.1 he).1
  obtain ⟨g1, g2⟩ := prs_get l i e he
  have hlen := prs_len l
  rw [add_none, add_none, hr.cell, hr.cell, Nat.zero_add, List.getElem?_append_left (by omega), List.getElem?_append_left (by omega)]
  exact ⟨g1, g2⟩
end Go.Proofs.YtllhejjcmfiebaaDoor
namespace Go.Proofs.YtllhejjcmfiebaaDoor
open Go.RowKit
def I64 (x : Int) : Prop := -9223372036854775808 ≤ x ∧ x ≤ 9223372036854775807
end Go.Proofs.YtllhejjcmfiebaaDoor
