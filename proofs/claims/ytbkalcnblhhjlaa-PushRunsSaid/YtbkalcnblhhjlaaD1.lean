/- own, system: systems are copied. config, stack: configurations are. -/
import Derived.Test.YtbkalcnblhhjlaaC9
set_option linter.unnecessarySimpa false
set_option linter.unusedVariables false
set_option linter.unusedSimpArgs false
namespace Go.Proofs.Ytbkalcnblhhjlaa
open Go.RowKit

/-- the state of loops that copy a system -/
structure GS (TM TR TE : Nat) (w wr : World) (s : Int) (vE : Value) (es : List Ru) (k : Nat) (xE : Value) : Prop where
  m : Row TM wr w.heap.size [.int .i64 s, vE]
  r : Row TR wr (w.heap.size + 1) [.int .i64 0, .slice none 0 0]
  o : Row TR wr (w.heap.size + 2) [.int .i64 s, xE]
  e : OwnK TE 4 w.heap.size wr xE k (ruC (es.take k))
  b : Below w.heap.size w wr
theorem GS.next {TM TR TE : Nat} (h1 : TM ≠ TE) (h2 : TR ≠ TE) {w wr w' : World} {s : Int} {vE : Value} {es : List Ru} {k : Nat} {xE v' : Value} {ob : Obj} {e : Ru} (h : GS TM TR TE w wr s vE es k xE) (he : es[k]? = some e)
    (ho : OwnK TE 4 w.heap.size w' v' (k + 1) (ruC (es.take k) ++ e.cells)) (hb : Below w.heap.size (wr.alloc ob) w') (hr : ∀ T g ys, T ≠ TE → Row T (wr.alloc ob) g ys → Row T w' g ys) :
    GS TM TR TE w (w'.setCell ⟨w.heap.size + 2, 1, none⟩ v') s vE es (k + 1) v' := by
  have hrow := hr _ _ _ h2 (h.o.alloc ob)
  refine ⟨(hr _ _ _ h1 (h.m.alloc ob)).other _ (by simp) _, (hr _ _ _ h2 (h.r.alloc ob)).other _ (by simp) _, hrow.store 1 v', ?_, ((h.b.alloc h.b.size ob).trans hb).setCell (by simp) _⟩
  rw [← flat_take Ru.cells es k e he] at ho
  exact ho.other hrow h2.symm 1 v'
theorem GS.facts {TM TR TE : Nat} {w wr : World} {s : Int} {vE : Value} {es : List Ru} {k : Nat} {xE : Value} (h : GS TM TR TE w wr s vE es k xE) :
    wr.cell? ⟨w.heap.size, 0, none⟩ = some (.int .i64 s) ∧ wr.cell? ⟨w.heap.size, 1, none⟩ = some vE ∧
    wr.cell? ⟨w.heap.size + 1 + 1, 0, none⟩ = some (.int .i64 s) ∧ wr.cell? ⟨w.heap.size + 1 + 1, 1, none⟩ = some xE ∧ w.heap.size + 1 + 1 < wr.heap.size :=
  ⟨h.m.cell 0, h.m.cell 1, h.o.cell 0, h.o.cell 1, h.o.lt⟩
theorem GS.start (TM TR TE : Nat) (w : World) (s : Int) (vE : Value) (es : List Ru) :
    GS TM TR TE w (((w.alloc (.cells #[.int .i64 s, vE] TM)).alloc (.cells #[.int .i64 0, .slice none 0 0] TR)).alloc (.cells #[.int .i64 s, .slice none 0 0] TR)) s vE es 0 (.slice none 0 0) where
  m := ((row_new _ w _).alloc _).alloc _
  r := (row_new' _ _ _ _ (by simp)).alloc _
  o := row_new' _ _ _ _ (by simp)
  e := World.ownsRow_nil _ _ _ _
  b := (((Below.refl _ _).alloc (Nat.le_refl _) _).alloc (by simp) _).alloc (by simp; omega) _
/-- the system that is handed back -/
theorem GS.done {TM TR TE : Nat} (h2 : TE ≠ TR) {w wr : World} {s : Int} {vE : Value} {es : List Ru} {xE : Value} (h : GS TM TR TE w wr s vE es es.length xE) :
    OwnK TE 4 w.heap.size ((wr.setCell ⟨w.heap.size + 1, 0, none⟩ (.int .i64 s)).setCell ⟨w.heap.size + 1, 1, none⟩ xE) xE es.length (ruC es) ∧
    Below w.heap.size w ((wr.setCell ⟨w.heap.size + 1, 0, none⟩ (.int .i64 s)).setCell ⟨w.heap.size + 1, 1, none⟩ xE) := by
  have h1 := h.e
  rw [List.take_of_length_le (Nat.le_refl _)] at h1
  exact ⟨(h1.other h.r h2 0 _).other (h.r.store 0 _) h2 1 _, (h.b.setCell (by simp) _).setCell (by simp) _⟩
/-- a system of the call's own -/
def SysOf (TE : Nat) (B : Nat) (s : Int) (es : List Ru) (v : Value) (w : World) : Prop := ∃ vE, v = .agg #[.int .i64 s, vE] ∧ OwnK TE 4 B w vE es.length (ruC es)
theorem Try.infoRR : (Try.prog.info? 47).map (fun i => (i.zero, i.size, i.bytes)) = some (some (.agg #[.int .i64 0, .int .u8 0, .int .i64 0, .string ⟨#[]⟩]), 4, 40) := by kernel_rfl
theorem Try.infoPR : (Try.prog.info? 54).map (fun i => (i.zero, i.size, i.bytes)) = some (some (.agg #[.int .i64 0, .int .u8 0, .int .i64 0, .string ⟨#[]⟩]), 4, 40) := by kernel_rfl
def trimR (e : Ru) : Ru := { e with p := e.p.extract 0 (min (e.p.size : Int) 4).toNat }
def ownR (es : List Ru) : List Ru := (es.take 31).map trimR
theorem trimR_size (e : Ru) : (trimR e).p.size ≤ 4 := by
  simp only [trimR, ByteArray.size_extract]; omega
theorem ownR_len (es : List Ru) : (ownR es).length = min 31 es.length := by simp [ownR]
theorem ownR_get (es : List Ru) (i : Nat) (e : Ru) (h : es[i]? = some e) (hi : i < 31) : (ownR es)[i]? = some (trimR e) := by
  simp [ownR, List.getElem?_take_of_lt hi, h]
theorem ownR_small (es : List Ru) : ∀ e ∈ ownR es, e.p.size ≤ 4 := by
  intro e he
  obtain ⟨x, _, rfl⟩ := List.mem_map.1 he
  exact trimR_size x
set_option maxRecDepth 100000 in
set_option maxHeartbeats 2000000 in
theorem own_any (s : Int) (vE : Value) (es : List Ru) (w : World) (hE : SlR w vE es) :
    Calls Try.prog 4 #[.agg #[.int .i64 s, vE]] w fun e w' => ∃ v', e = .returned v' ∧ SysOf 47 w.heap.size s (ownR es) v' w' ∧ Below w.heap.size w w' := by
  obtain ⟨pE, capE, rfl, hE1, hE2⟩ := hE.len
  have HE := Lib.hid hE
  clear hE
  go_enter Try.func4, Try.ntmps4
  go_wp2
  have HG := Lib.hid (GS.start 24 24 47 w s (.slice pE es.length capE) (ownR es))
  have HlE := Lib.hid (ownR_len es)
  go_loopw [4, 5, 6] (fun i _ _ wr => ∃ (k : Nat) (xE : Value), k ≤ (ownR es).length ∧ i = .int .i64 k ∧ GS 24 24 47 w wr s (.slice pE es.length capE) (ownR es) k xE) (fun i _ _ _ => (ownR es).length - (intOf i).toNat)
  case atStart => exact ⟨0, _, Nat.zero_le _, rfl, HG.out⟩
  case round =>
    obtain ⟨k, xE, hk, rfl, hrel⟩ := hrel
    clear HG
    obtain ⟨c1, c2, c3, c4, c5⟩ := hrel.facts
    by_cases hlt : k < (ownR es).length
    · have hl := HlE.out
      have hk1 : k < es.length := by omega
      have hk2 : k ≤ 30 := by omega
      obtain ⟨ad, cap, e, hv, hg, hek, d1, d2, d3, d4, d5⟩ := (HE.out.below hrel.b).at_ k hk1
      cases hv
      have HREL := Lib.hid hrel
      have HEK := Lib.hid (ownR_get es k e hek (by omega))
      have HL := Lib.hid hl
      have hb20 : decide ((k : Int) ≤ 30) = true := by simp; omega
      have hk64 : decide ((k : Int) < (es.length : Int)) = true := by simp; omega
      replace d2 : wr.cell? ⟨(ad.add (k * 4)).block, (ad.add (k * 4)).off + 1, none⟩ = some (.int .u8 e.l) := d2
      replace d3 : wr.cell? ⟨(ad.add (k * 4)).block, (ad.add (k * 4)).off + 2, none⟩ = some (.int .i64 e.t) := d3
      replace d4 : wr.cell? ⟨(ad.add (k * 4)).block, (ad.add (k * 4)).off + 3, none⟩ = some (.string e.p) := d4
      obtain ⟨f, l, t, p⟩ := e
      dsimp only at d1 d2 d3 d4 d5
      clear hrel hek hl hlt
      have hcut : ∃ y, trimR ⟨f, l, t, p⟩ = ⟨f, l, t, y⟩ ∧ ((4 < (p.size : Int) ∧ y = p.extract 0 4) ∨ ((p.size : Int) ≤ 4 ∧ y = p)) := by
        by_cases h4 : 4 < (p.size : Int)
        · refine ⟨_, rfl, .inl ⟨h4, ?_⟩⟩
          have : min (p.size : Int) 4 = 4 := by omega
          rw [this]; rfl
        · refine ⟨_, rfl, .inr ⟨by omega, ?_⟩⟩
          have : min (p.size : Int) 4 = p.size := by omega
          rw [this]
          show p.extract 0 p.size = p
          simp
      obtain ⟨y, hy, hcut⟩ := hcut
      rw [hy] at HEK
      clear hy
      rcases hcut with ⟨h4, rfl⟩ | ⟨h4, rfl⟩
      all_goals
        go_wp2_with (at_builtin; refine wpList_append_boxK _ rfl (.tmp 36) (.tmp 38) 22 rfl 47 _ 4 40 Try.underlying22 Try.infoRR rfl (by omega) (by omega) w.heap.size xE k (ruC ((ownR es).take k)) rfl (World.ownsRow.alloc HREL.out.e _) _ ?c9 _ rfl ?c0 ?c1 ?c2 ?c3 ?_)
        case c9 => rfl
        case c0 => simp
        case c1 => simp [Value.oneCell']
        case c2 => omega
        case c3 => simp; omega
        intro v' w' ho hb hkp hrp
        obtain ⟨pv, cv, rfl, _, _⟩ := ho.len
        have hro := hrp _ _ _ (by decide) (HREL.out.o.alloc _)
        have e1 : w'.cell? ⟨w.heap.size + 1 + 1, 1, none⟩ = some xE := hro.cell 1
        have f1 : w'.frozen? ⟨w.heap.size + 1 + 1, 1, none⟩ = false := hro.free 1
        have HN2 := Lib.hid (HREL.out.next (by decide) (by decide) HEK.out ho hb hrp)
        have hl := HL.out
        have hk3 : k + 1 ≤ (ownR es).length := by omega
        clear ho hb hkp hrp hro c1 c2 c3 c4 d1 d2 d3 d4 hl
        go_wp2
        go_roundw
        case rel => exact ⟨k + 1, _, hk3, by go_num, HN2.out⟩
        case measure => simp [intOf]; omega
    · have hkl : k = (ownR es).length := by omega
      have r0 : wr.cell? ⟨w.heap.size + 1, 0, none⟩ = some (.int .i64 0) := hrel.r.cell 0
      have r1 : wr.cell? ⟨w.heap.size + 1, 1, none⟩ = some (.slice none 0 0) := hrel.r.cell 1
      have q0 := hrel.r.free 0
      have q1 := hrel.r.free 1
      obtain ⟨px, cx, rfl, _, _⟩ := hrel.e.len
      have hl := HlE.out
      have hstop : (k < es.length ∧ 31 ≤ k) ∨ es.length ≤ k := by omega
      have HREL : Hid (GS 24 24 47 w wr s (.slice pE es.length capE) (ownR es) (ownR es).length (.slice px k cx)) := by show GS _ _ _ _ _ _ _ _ _ _; rw [← hkl]; exact hrel
      clear hrel hkl hl
      have k0 := (HREL.out.r.store 0 (.int .i64 s)).cell 0
      have k1 := ((HREL.out.r.store 0 (.int .i64 s)).store 1 (.slice px k cx)).cell 1
      simp only [List.set_cons_zero, List.set_cons_succ, List.getElem?_cons_zero, List.getElem?_cons_succ] at k0 k1
      have K0 := Lib.hid k0
      have K1 := Lib.hid k1
      clear k0 k1
      rcases hstop with ⟨hs0, hs1⟩ | hs1
      all_goals
        clear hlt hk
        go_wp2
        have k0 := K0.out
        have k1 := K1.out
        refine bodyPost_ret (v := .agg #[.int .i64 s, .slice px k cx]) (by simp [results, Try.results4, go_sem, k0, k1]) rfl ⟨_, rfl, ⟨_, rfl, (HREL.out.done (by decide)).1⟩, (HREL.out.done (by decide)).2⟩
end Go.Proofs.Ytbkalcnblhhjlaa
