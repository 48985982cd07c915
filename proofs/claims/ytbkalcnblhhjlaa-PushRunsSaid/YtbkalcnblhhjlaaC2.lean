/- Rules: words; slices.Index, slices.Contains. -/
import Derived.Test.YtbkalcnblhhjlaaQI
set_option linter.unnecessarySimpa false
set_option linter.unusedVariables false
set_option linter.unusedSimpArgs false
namespace Go.Proofs.Ytbkalcnblhhjlaa
open Go.RowKit

/-- a rule -/
structure Ru where
  f : Int
  l : Nat
  t : Int
  p : ByteArray
structure Ru.inr (e : Ru) : Prop where
  f0 : -9223372036854775808 ≤ e.f
  f1 : e.f ≤ 9223372036854775807
  t0 : -9223372036854775808 ≤ e.t
  t1 : e.t ≤ 9223372036854775807
  l : e.l < 256
def Ru.cells (e : Ru) : List Value := [.int .i64 e.f, .int .u8 e.l, .int .i64 e.t, .string e.p]
def Ru.val (e : Ru) : Value := .agg #[.int .i64 e.f, .int .u8 e.l, .int .i64 e.t, .string e.p]
theorem Ru.cells_len (e : Ru) : e.cells.length = 4 := rfl
abbrev ruC (es : List Ru) : List Value := es.flatMap Ru.cells
/-- rules, wherever they lie -/
def SlR (w : World) (v : Value) (es : List Ru) : Prop :=
  ∃ p cap, v = .slice p es.length cap ∧ es.length ≤ cap ∧ cap ≤ maxLen ∧ (0 < es.length → ∃ ad : Addr, p = some ad ∧ ad.block < w.heap.size ∧ ∀ i e, es[i]? = some e →
    w.cell? (ad.add (i * 4)) = some (.int .i64 e.f) ∧ w.cell? ((ad.add (i * 4)).add 1) = some (.int .u8 e.l) ∧ w.cell? ((ad.add (i * 4)).add 2) = some (.int .i64 e.t) ∧ w.cell? ((ad.add (i * 4)).add 3) = some (.string e.p) ∧ e.p.size ≤ maxLen)
theorem SlR.below {w w' : World} {v : Value} {es : List Ru} (h : SlR w v es) (hb : Below w.heap.size w w') : SlR w' v es := by
  obtain ⟨p, cap, hv, h1, h2, h3⟩ := h
  refine ⟨p, cap, hv, h1, h2, fun h0 => ?_⟩
  obtain ⟨ad, hp, hlt, hc⟩ := h3 h0
  refine ⟨ad, hp, Nat.lt_of_lt_of_le hlt hb.size, fun i e he => ?_⟩
  obtain ⟨a, b, c, d, f⟩ := hc i e he
  exact ⟨(hb.cell (p := ad.add (i * 4)) (by rw [block_add]; exact hlt)).trans a, (hb.cell (p := (ad.add (i * 4)).add 1) (by rw [block_add, block_add]; exact hlt)).trans b,
    (hb.cell (p := (ad.add (i * 4)).add 2) (by rw [block_add, block_add]; exact hlt)).trans c, (hb.cell (p := (ad.add (i * 4)).add 3) (by rw [block_add, block_add]; exact hlt)).trans d, f⟩
theorem SlR.len {w : World} {v : Value} {es : List Ru} (h : SlR w v es) : ∃ p cap, v = .slice p es.length cap ∧ es.length ≤ cap ∧ cap ≤ 9223372036854775807 := by
  obtain ⟨p, cap, hv, h1, h2, _⟩ := h; exact ⟨p, cap, hv, h1, h2⟩
theorem SlR.at_ {w : World} {v : Value} {es : List Ru} (h : SlR w v es) (i : Nat) (hi : i < es.length) :
    ∃ (ad : Addr) (cap : Nat) (e : Ru), v = .slice (some ad) es.length cap ∧ ad.block < w.heap.size ∧ es[i]? = some e ∧
      w.cell? (ad.add (i * 4)) = some (.int .i64 e.f) ∧ w.cell? ((ad.add (i * 4)).add 1) = some (.int .u8 e.l) ∧ w.cell? ((ad.add (i * 4)).add 2) = some (.int .i64 e.t) ∧ w.cell? ((ad.add (i * 4)).add 3) = some (.string e.p) ∧ e.p.size ≤ 9223372036854775807 := by
  obtain ⟨p, cap, hv, h1, h2, h3⟩ := h
  obtain ⟨ad, rfl, hlt, hc⟩ := h3 (by omega)
  exact ⟨ad, cap, es[i], hv, hlt, List.getElem?_eq_getElem hi, hc i _ (List.getElem?_eq_getElem hi)⟩
theorem SlR.take {w : World} {p : Option Addr} {n cap : Nat} {es : List Ru} (h : SlR w (.slice p n cap) es) (k : Nat) (hk : k ≤ n) : SlR w (.slice p k cap) (es.take k) := by
  obtain ⟨p', cap', hv, h1, h2, h3⟩ := h
  cases hv
  have e1 : (es.take k).length = k := by simp; omega
  refine ⟨p, cap, by rw [e1], by omega, h2, fun h0 => ?_⟩
  rw [e1] at h0
  obtain ⟨ad, hp, hlt, hc⟩ := h3 (by omega)
  refine ⟨ad, hp, hlt, fun i e he => hc i e ?_⟩
  have : i < k := by have := (List.getElem?_eq_some_iff.1 he).1; omega
  rwa [List.getElem?_take_of_lt this] at he
theorem OwnK.slR {T base : Nat} {w : World} {v : Value} {es : List Ru} (h : OwnK T 4 base w v es.length (ruC es)) (hp : ∀ e ∈ es, e.p.size ≤ maxLen) : SlR w v es := by
  rcases h.form_ with ⟨rfl, h0, _⟩ | ⟨g, cap, more, rfl, hg, hl, hm, hx, hc, hr⟩
  · exact ⟨none, 0, by rw [h0], by omega, by unfold maxLen; omega, fun h => by omega⟩
  · refine ⟨_, cap, rfl, hl, hm, fun h0 => ⟨_, rfl, hr.lt, fun i e he => ?_⟩⟩
    have hi : i < es.length := (List.getElem?_eq_some_iff.1 he).1
    have hcell : ∀ j, j < 4 → w.cell? ⟨g, i * 4 + j, none⟩ = e.cells[j]? := fun j hj => by
      rw [hr.cell, List.getElem?_append_left (by rw [hx]; omega)]
      exact flat_get Ru.cells 4 Ru.cells_len es i j e he hj
    simp only [add_none, Nat.zero_add]
    refine ⟨?_, ?_, ?_, ?_, hp e (List.mem_of_getElem? he)⟩
    · exact hcell 0 (by omega)
    · exact hcell 1 (by omega)
    · exact hcell 2 (by omega)
    · exact hcell 3 (by omega)
/-- two rules are the same -/
def sameR (e g : Ru) : Bool := (e.f == g.f) && (((e.l : Int) == g.l) && ((e.t == g.t) && (e.p.toList == g.p.toList)))
def anyR (es : List Ru) (r : Ru) : Bool := es.any fun e => sameR r e
theorem anyR_snoc (es : List Ru) (k : Nat) (e r : Ru) (h : es[k]? = some e) : anyR (es.take (k + 1)) r = (anyR (es.take k) r || sameR r e) := by
  have hi : k < es.length := (List.getElem?_eq_some_iff.1 h).1
  have he : es[k] = e := (List.getElem?_eq_some_iff.1 h).2
  unfold anyR
  rw [List.take_succ_eq_append_getElem hi, List.any_append, he]; simp
theorem anyR_hit (es : List Ru) (k : Nat) (e r : Ru) (h : es[k]? = some e) (hs : sameR r e = true) : anyR es r = true := by
  unfold anyR; rw [List.any_eq_true]; exact ⟨e, List.mem_of_getElem? h, hs⟩
section
variable (f f' t t' : Int) (l l' : Nat) (s s' : ByteArray) (w : World)
theorem eql_rule : (binOp .eql 54 (.agg #[.int .i64 f, .int .u8 l, .int .i64 t, .string s]) (.agg #[.int .i64 f', .int .u8 l', .int .i64 t', .string s'])).run Try.prog w = .ok (.bool (sameR ⟨f, l, t, s⟩ ⟨f', l', t', s'⟩)) w := by
  unfold sameR
  cases h1 : f == f' <;> cases h2 : ((l : Int) == l') <;> cases h3 : t == t' <;> cases h4 : (s.toList == s'.toList) <;> simp [go_sem, h1, h2, h3, h4]
theorem eql_ruleR : (binOp .eql 47 (.agg #[.int .i64 f, .int .u8 l, .int .i64 t, .string s]) (.agg #[.int .i64 f', .int .u8 l', .int .i64 t', .string s'])).run Try.prog w = .ok (.bool (sameR ⟨f, l, t, s⟩ ⟨f', l', t', s'⟩)) w := by
  unfold sameR
  cases h1 : f == f' <;> cases h2 : ((l : Int) == l') <;> cases h3 : t == t' <;> cases h4 : (s.toList == s'.toList) <;> simp [go_sem, h1, h2, h3, h4]
end
theorem guard_rule (op : BinOp) (x y : Operand) (xs ys : Array Value) (w : World) : (eqGuard op 54 x y (.agg xs) (.agg ys)).run Try.prog w = .ok () w :=
  run_eqGuard_agg w op 54 x y xs ys (by kernel_rfl)
theorem guard_ruleR (op : BinOp) (x y : Operand) (xs ys : Array Value) (w : World) : (eqGuard op 47 x y (.agg xs) (.agg ys)).run Try.prog w = .ok () w :=
  run_eqGuard_agg w op 47 x y xs ys (by kernel_rfl)
theorem below_drewN (w : World) : ∀ n : Nat, Below w.heap.size w (w.drewN n)
  | 0 => Below.refl _ _
  | n + 1 => (below_drewN w n).drew
def IdxPost (es : List Ru) (r : Ru) (w : World) (e : Ending) (w' : World) : Prop := ∃ z : Int, e = .returned (.int .i64 z) ∧ decide (0 ≤ z) = anyR es r ∧ Below w.heap.size w w'
/-- the state of the loop -/
structure IRel (w wr : World) (r : Ru) (es : List Ru) (k : Nat) : Prop where
  b : Below w.heap.size w wr
  row : Row 54 wr w.heap.size r.cells
  no : anyR (es.take k) r = false
set_option maxRecDepth 100000 in
set_option maxHeartbeats 1000000 in
theorem index_any (v : Value) (es : List Ru) (r : Ru) (w : World) (hE : SlR w v es) :
    Calls Try.prog 50 #[v, r.val] w (IdxPost es r w) := by
  obtain ⟨p, cap, rfl, hlc, hcm⟩ := hE.len
  have HE := Lib.hid hE
  clear hE
  obtain ⟨f, l, t, s⟩ := r
  unfold Ru.val
  go_enter Try.func50, Try.ntmps50
  go_wp2
  go_loopw [5, 8] (fun _ i wr => ∃ k : Nat, k ≤ es.length ∧ i = .int .i64 k ∧ IRel w wr ⟨f, l, t, s⟩ es k) (fun _ i _ => es.length - (intOf i).toNat)
  case atStart => exact ⟨0, Nat.zero_le _, rfl, (Below.refl _ _).alloc (Nat.le_refl _) _, row_new _ _ _, by simp [anyR]⟩
  case round =>
    obtain ⟨k, hk, rfl, hrel⟩ := hrel
    by_cases hlt : k < es.length
    · obtain ⟨ad, cap', e, hv, hg, hek, d1, d2, d3, d4, d5⟩ := (HE.out.below hrel.b).at_ k hlt
      cases hv
      have c0 : wr.cell? ⟨w.heap.size, 0, none⟩ = some (.int .i64 f) := hrel.row.cell 0
      have c1 : wr.cell? ⟨w.heap.size, 1, none⟩ = some (.int .u8 l) := hrel.row.cell 1
      have c2 : wr.cell? ⟨w.heap.size, 2, none⟩ = some (.int .i64 t) := hrel.row.cell 2
      have c3 : wr.cell? ⟨w.heap.size, 3, none⟩ = some (.string s) := hrel.row.cell 3
      replace d2 : wr.cell? ⟨(ad.add (k * 4)).block, (ad.add (k * 4)).off + 1, none⟩ = some (.int .u8 e.l) := d2
      replace d3 : wr.cell? ⟨(ad.add (k * 4)).block, (ad.add (k * 4)).off + 2, none⟩ = some (.int .i64 e.t) := d3
      replace d4 : wr.cell? ⟨(ad.add (k * 4)).block, (ad.add (k * 4)).off + 3, none⟩ = some (.string e.p) := d4
      have HEK := Lib.hid hek
      obtain ⟨f', l', t', s'⟩ := e
      dsimp only at d1 d2 d3 d4 d5
      have q := eql_rule f f' t t' l l' s s'
      have q2 := guard_rule
      have hs := anyR_snoc es k _ ⟨f, l, t, s⟩ hek
      obtain ⟨b, hb⟩ : ∃ b, sameR ⟨f, l, t, s⟩ ⟨f', l', t', s'⟩ = b := ⟨_, rfl⟩
      simp only [hb] at q
      rw [hb, hrel.no] at hs
      have HS := Lib.hid hs
      have HBB := Lib.hid hb
      have HREL := Lib.hid hrel
      clear hek hs hb hrel
      cases b with
      | true =>
        go_wp2
        go_quiet (fail)
        go_wp2
        go_ret
        exact ⟨_, rfl, by rw [anyR_hit es k _ _ HEK.out HBB.out]; simp, HREL.out.b.trans ((below_drewN _ _).mono HREL.out.b.size)⟩
      | false =>
        go_wp2
        go_quiet (fail)
        obtain ⟨w2, hw2⟩ : ∃ w2, wr.drewN nq = w2 := ⟨_, rfl⟩
        have HR2 : Hid (IRel w w2 ⟨f, l, t, s⟩ es (k + 1)) := by
          show IRel _ _ _ _ _
          have hd := hw2 ▸ below_drewN wr nq
          exact ⟨HREL.out.b.trans (hd.mono HREL.out.b.size), HREL.out.row.below hd HREL.out.row.lt, HS.out⟩
        rw [hw2]
        clear hw2 c0 c1 c2 c3 d1 d2 d3 d4 q
        go_wp2
        go_roundw
        case rel => exact ⟨k + 1, by omega, by go_num, HR2.out⟩
        case measure => simp [intOf]; omega
    · have HN : Hid (anyR es ⟨f, l, t, s⟩ = false) := by
        have := hrel.no
        rw [List.take_of_length_le (by omega)] at this
        exact this
      have HB := Lib.hid hrel.b
      clear hrel
      go_wp2
      go_ret
      exact ⟨-1, rfl, by rw [HN.out]; rfl, HB.out⟩
set_option maxHeartbeats 400000 in
theorem contains_any (v : Value) (es : List Ru) (r : Ru) (w : World) (hE : SlR w v es) :
    Calls Try.prog 45 #[v, r.val] w fun e w' => e = .returned (.bool (anyR es r)) ∧ Below w.heap.size w w' := by
  have HE := Lib.hid hE
  clear hE
  obtain ⟨f, l, t, s⟩ := r
  have HI : Hid (∀ w1, Below w.heap.size w w1 → Calls Try.prog 50 #[v, .agg #[.int .i64 f, .int .u8 l, .int .i64 t, .string s]] w1 (IdxPost es ⟨f, l, t, s⟩ w1)) := fun w1 h => index_any v es ⟨f, l, t, s⟩ w1 (HE.out.below h)
  unfold Ru.val
  go_enter Try.func45, Try.ntmps45
  go_wp2_with (go_at_call 50; refine (HI.out _ ((Below.refl _ _).alloc (Nat.le_refl _) _)).mono ?_; rintro e w' ⟨z, rfl, hz, hb⟩; have HZ := Lib.hid hz; have HB := Lib.hid hb; clear hz hb)
  go_ret
  exact ⟨by rw [← HZ.out]; rfl, ((Below.refl w.heap.size w).alloc (Nat.le_refl _) _).trans (HB.out.mono (by simp))⟩
end Go.Proofs.Ytbkalcnblhhjlaa
