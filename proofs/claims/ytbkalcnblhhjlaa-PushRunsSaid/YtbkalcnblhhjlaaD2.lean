/- system, config, stack. -/
import Derived.Test.YtbkalcnblhhjlaaD1
set_option linter.unnecessarySimpa false
set_option linter.unusedVariables false
set_option linter.unusedSimpArgs false
namespace Go.Proofs.Ytbkalcnblhhjlaa
open Go.RowKit

set_option maxRecDepth 100000 in
set_option maxHeartbeats 2000000 in
theorem system_any (s : Int) (vE : Value) (es : List Ru) (w : World) (hE : SlR w vE es) (hlen : es.length ≤ 1000) :
    Calls Try.prog 9 #[.agg #[.int .i64 s, vE]] w fun e w' => ∃ v', e = .returned v' ∧ SysOf 54 w.heap.size s es v' w' ∧ Below w.heap.size w w' := by
  obtain ⟨pE, capE, rfl, hE1, hE2⟩ := hE.len
  have HE := Lib.hid hE
  clear hE
  go_enter Try.func9, Try.ntmps9
  go_wp2
  have HG := Lib.hid (GS.start 24 37 54 w s (.slice pE es.length capE) es)
  go_loopw [4, 5, 6] (fun i _ _ wr => ∃ (k : Nat) (xE : Value), k ≤ es.length ∧ i = .int .i64 k ∧ GS 24 37 54 w wr s (.slice pE es.length capE) es k xE) (fun i _ _ _ => es.length - (intOf i).toNat)
  case atStart => exact ⟨0, _, Nat.zero_le _, rfl, HG.out⟩
  case round =>
    obtain ⟨k, xE, hk, rfl, hrel⟩ := hrel
    clear HG
    obtain ⟨c1, c2, c3, c4, c5⟩ := hrel.facts
    by_cases hlt : k < es.length
    · obtain ⟨ad, cap, e, hv, hg, hek, d1, d2, d3, d4, d5⟩ := (HE.out.below hrel.b).at_ k hlt
      cases hv
      have HREL := Lib.hid hrel
      have HEK := Lib.hid hek
      have hk3 : k + 1 ≤ es.length := by omega
      have hk64 : decide ((k : Int) < (es.length : Int)) = true := by simp; omega
      replace d2 : wr.cell? ⟨(ad.add (k * 4)).block, (ad.add (k * 4)).off + 1, none⟩ = some (.int .u8 e.l) := d2
      replace d3 : wr.cell? ⟨(ad.add (k * 4)).block, (ad.add (k * 4)).off + 2, none⟩ = some (.int .i64 e.t) := d3
      replace d4 : wr.cell? ⟨(ad.add (k * 4)).block, (ad.add (k * 4)).off + 3, none⟩ = some (.string e.p) := d4
      obtain ⟨f, l, t, p⟩ := e
      dsimp only at d1 d2 d3 d4 d5
      clear hrel hek hlt
      go_wp2_with (at_builtin; refine wpList_append_boxK _ rfl (.tmp 24) (.tmp 34) 35 rfl 54 _ 4 40 Try.underlying35 Try.infoPR rfl (by omega) (by omega) w.heap.size xE k (ruC (es.take k)) rfl (World.ownsRow.alloc HREL.out.e _) _ ?c9 _ rfl ?c0 ?c1 ?c2 ?c3 ?_)
      case c9 => rfl
      case c0 => simp
      case c1 => simp [Value.oneCell']
      case c2 => omega
      case c3 => simp; omega
      intro v' w' ho hb hkp hrp
      obtain ⟨pv, cv, rfl, _, _⟩ := ho.len
      have hro := hrp _ _ _ (by decide) (HREL.out.o.alloc _)
      have e1 : w'.cell? ⟨w.heap.size + 1 + 1, 1, none⟩ = some xE := hro.cell 1
      have f1 : w'.frozen? ⟨w.heap.size + 1 + 1, 1, none⟩ = false := hro.free 1
      have HN2 := Lib.hid (HREL.out.next (by decide) (by decide) HEK.out ho hb hrp)
      clear ho hb hkp hrp hro c1 c2 c3 c4 d1 d2 d3 d4
      go_wp2
      go_roundw
      case rel => exact ⟨k + 1, _, hk3, by go_num, HN2.out⟩
      case measure => simp [intOf]; omega
    · obtain rfl : k = es.length := by omega
      have r0 : wr.cell? ⟨w.heap.size + 1, 0, none⟩ = some (.int .i64 0) := hrel.r.cell 0
      have r1 : wr.cell? ⟨w.heap.size + 1, 1, none⟩ = some (.slice none 0 0) := hrel.r.cell 1
      have q0 := hrel.r.free 0
      have q1 := hrel.r.free 1
      obtain ⟨px, cx, rfl, _, _⟩ := hrel.e.len
      have HREL := Lib.hid hrel
      clear hrel
      have k0 := (HREL.out.r.store 0 (.int .i64 s)).cell 0
      have k1 := ((HREL.out.r.store 0 (.int .i64 s)).store 1 (.slice px es.length cx)).cell 1
      simp only [List.set_cons_zero, List.set_cons_succ, List.getElem?_cons_zero, List.getElem?_cons_succ] at k0 k1
      have K0 := Lib.hid k0
      have K1 := Lib.hid k1
      clear k0 k1
      go_wp2
      have k0 := K0.out
      have k1 := K1.out
      refine bodyPost_ret (v := .agg #[.int .i64 s, .slice px es.length cx]) (by simp [results, Try.results9, go_sem, k0, k1]) rfl ⟨_, rfl, ⟨_, rfl, (HREL.out.done (by decide)).1⟩, (HREL.out.done (by decide)).2⟩
def cutC (s : ByteArray) : ByteArray := if 21 < s.size then s.extract 0 21 else s
theorem cutC_size (s : ByteArray) : (cutC s).size ≤ 21 := by
  unfold cutC; split
  · simp only [ByteArray.size_extract]; omega
  · omega
theorem config_any (q : Int) (s : ByteArray) (w : World) (hs : s.size ≤ 9223372036854775807) :
    Calls Try.prog 5 #[.agg #[.int .i64 q, .string s]] w fun e w' => e = .returned (.agg #[.int .i64 q, .string (cutC s)]) ∧ Below w.heap.size w w' := by
  by_cases h : 21 < s.size
  · have h4 : 21 < (s.size : Int) := by omega
    have HN : Hid (cutC s = s.extract 0 21) := by show _ = _; unfold cutC; rw [if_pos h]
    go_enter Try.func5, Try.ntmps5
    go_wp2
    exact bodyPost_ret (v := .agg #[.int .i64 q, .string (s.extract 0 21)]) (by simp [results, Try.results5, go_sem]) rfl ⟨by rw [HN.out], (box_below _ _).alloc (by simp) _⟩
  · have h4 : (s.size : Int) ≤ 21 := by omega
    have HN : Hid (cutC s = s) := by show _ = _; unfold cutC; rw [if_neg h]
    go_enter Try.func5, Try.ntmps5
    go_wp2
    exact bodyPost_ret (v := .agg #[.int .i64 q, .string s]) (by simp [results, Try.results5, go_sem]) rfl ⟨by rw [HN.out], (box_below _ _).alloc (by simp) _⟩
theorem stack_any (q : Int) (s : ByteArray) (w : World) :
    Calls Try.prog 10 #[.agg #[.int .i64 q, .string s]] w fun e w' => e = .returned (.agg #[.int .i64 q, .string s]) ∧ Below w.heap.size w w' := by
  go_enter Try.func10, Try.ntmps10
  go_wp2
  exact bodyPost_ret (v := .agg #[.int .i64 q, .string s]) (by simp [results, Try.results10, go_sem]) rfl ⟨rfl, (box_below _ _).alloc (by simp) _⟩
end Go.Proofs.Ytbkalcnblhhjlaa
