/- pairs: two lists of pairs that are the same. -/
import Derived.Test.YtllhejjcmfiebaaDoorG2
import Derived.Laws.StructEq
import Derived.Laws.Cover2
set_option linter.unusedVariables false
set_option linter.unusedSimpArgs false
set_option linter.unnecessarySimpa false
namespace Go.Proofs.YtllhejjcmfiebaaDoor
open Go.RowKit

/-- what '==' says of two pairs -/
theorem eqP (a b c d : Int) (w : World) : (Op.equalIn 10000 90 (.agg #[.int .i64 a, .int .i64 b]) (.agg #[.int .i64 c, .int .i64 d])).run Tryd.prog w = .ok (a == c && b == d) w := by
  have u3 := Tryd.underlying3
  have a3 := Tryd.isAgg3
  have z3 := Tryd.sizeOf3
  rw [show (10000 : Nat) = 9999 + 1 from rfl, Op.equalIn]
  simp only [Sem.run_bind, run_underlying Tryd.underlying90, Result.andThen_ok]
  simp only [Std.Legacy.Range.forIn_eq_forIn_range', Std.Legacy.Range.size, Nat.sub_zero, Nat.add_sub_cancel, Nat.div_one, List.range'_succ, List.range'_zero, List.forIn_cons, List.forIn_nil]
  go_simp
  by_cases h1 : a = c <;> by_cases h2 : b = d <;> simp [h1, h2]
attribute [local go_sem] eqP
/-- a slice of pairs, wherever it lies -/
def SlP (w : World) (v : Value) (l : List (Int × Int)) : Prop :=
  ∃ p cap, v = .slice p l.length cap ∧ l.length ≤ cap ∧ cap ≤ maxLen ∧ (0 < l.length → ∃ ad : Addr, p = some ad ∧ ad.block < w.heap.size ∧ ∀ i e, l[i]? = some e →
    w.cell? (ad.add (i * 2)) = some (.int .i64 e.1) ∧ w.cell? ((ad.add (i * 2)).add 1) = some (.int .i64 e.2))
theorem SlP.below {w w' : World} {v : Value} {l : List (Int × Int)} (h : SlP w v l) (hb : Below w.heap.size w w') : SlP w' v l := by
  obtain ⟨p, cap, hv, h1, h2, h3⟩ := h
  refine ⟨p, cap, hv, h1, h2, fun h0 => ?_⟩
  obtain ⟨ad, hp, hlt, hc⟩ := h3 h0
  refine ⟨ad, hp, Nat.lt_of_lt_of_le hlt hb.size, fun i e he => ?_⟩
  obtain ⟨a, b⟩ := hc i e he
  exact ⟨(hb.cell (p := ad.add (i * 2)) (by rw [block_add]; exact hlt)).trans a, (hb.cell (p := (ad.add (i * 2)).add 1) (by rw [block_add, block_add]; exact hlt)).trans b⟩
theorem SlP.len {w : World} {v : Value} {l : List (Int × Int)} (h : SlP w v l) : ∃ p cap, v = .slice p l.length cap ∧ l.length ≤ cap ∧ cap ≤ 9223372036854775807 := by
  obtain ⟨p, cap, hv, h1, h2, _⟩ := h; exact ⟨p, cap, hv, h1, h2⟩
theorem SlP.at_ {w : World} {v : Value} {l : List (Int × Int)} (h : SlP w v l) (i : Nat) (hi : i < l.length) :
    ∃ (ad : Addr) (cap : Nat) (e : Int × Int), v = .slice (some ad) l.length cap ∧ ad.block < w.heap.size ∧ l[i]? = some e ∧
      w.cell? (ad.add (i * 2)) = some (.int .i64 e.1) ∧ w.cell? ⟨(ad.add (i * 2)).block, (ad.add (i * 2)).off + 1, none⟩ = some (.int .i64 e.2) := by
  obtain ⟨p, cap, hv, h1, h2, h3⟩ := h
  obtain ⟨ad, rfl, hlt, hc⟩ := h3 (by omega)
  have := hc i _ (List.getElem?_eq_getElem hi)
  exact ⟨ad, cap, l[i], hv, hlt, List.getElem?_eq_getElem hi, this.1, this.2⟩
theorem OwnP.sl {base : Nat} {w : World} {v : Value} {l : List (Int × Int)} (h : OwnP base w v l) : SlP w v l := by
  rcases h.form_ with ⟨rfl, h0, _⟩ | ⟨g, cap, more, rfl, _, hl, hm, hx, hc, hr⟩
  · have : l = [] := List.length_eq_zero_iff.1 h0
    subst this
    exact ⟨none, 0, rfl, Nat.le_refl _, Nat.zero_le _, fun h => absurd h (by simp)⟩
  · refine ⟨_, cap, rfl, hl, hm, fun h0 => ⟨⟨g, 0, none⟩, rfl, hr.lt, fun i e he => ?_⟩⟩
    have hi : i < l.length := (List.getElem?_eq_some_iff.1 he).1
    obtain ⟨g1, g2⟩ := prs_get l i e he
    have hlen := prs_len l
    rw [add_none, add_none, hr.cell, hr.cell, Nat.zero_add, List.getElem?_append_left (by omega), List.getElem?_append_left (by omega)]
    exact ⟨g1, g2⟩
set_option maxRecDepth 100000 in
set_option maxHeartbeats 2000000 in
theorem pairs_same (va vb : Value) (l : List (Int × Int)) (w : World) (ha : SlP w va l) (hb : SlP w vb l) :
    Calls Tryd.prog 36 #[va, vb] w fun e w' => e = .returned (.bool true) ∧ Below w.heap.size w w' := by
  obtain ⟨pa, ca, rfl, ha1, ha2⟩ := ha.len
  obtain ⟨pb, cb, rfl, hb1, hb2⟩ := hb.len
  have HA := Lib.hid ha
  have HB := Lib.hid hb
  have hne : ((l.length : Int) != (l.length : Int)) = false := by simp
  clear ha hb
  go_enter Tryd.func36, Tryd.ntmps36
  go_wp2
  go_loopw [5] (fun i wr => ∃ k : Nat, k ≤ l.length ∧ i = .int .i64 k ∧ Below w.heap.size w wr) (fun i _ => l.length - (intOf i).toNat)
  case atStart => exact ⟨0, Nat.zero_le _, rfl, Below.refl _ _⟩
  case round =>
    obtain ⟨k, hk, rfl, hbel⟩ := hrel
    by_cases hlt : k < l.length
    · obtain ⟨ad, cap, e, hv, hg, hek, d1, d2⟩ := (HA.out.below hbel).at_ k hlt
      cases hv
      obtain ⟨ad', cap', e', hv, hg', hek', d1', d2'⟩ := (HB.out.below hbel).at_ k hlt
      cases hv
      rw [hek] at hek'
      cases hek'
      obtain ⟨x, y⟩ := e
      dsimp only at d1 d2 d1' d2'
      have HBEL := Lib.hid hbel
      clear hbel hek
      go_wp2
      go_quiet (fail)
      go_wp2
      go_roundw
      case rel => exact ⟨k + 1, by omega, by go_num, below_drewN HBEL.out _⟩
      case measure => simp [intOf]; omega
    · obtain rfl : k = l.length := by omega
      go_wp2
      go_ret
      exact ⟨rfl, hbel⟩
end Go.Proofs.YtllhejjcmfiebaaDoor
