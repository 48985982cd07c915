/- given. -/
import Derived.Test.YthglgagkhnfnpaaGreatD1
set_option linter.unusedVariables false
set_option linter.unusedSimpArgs false
set_option linter.unnecessarySimpa false
namespace Go.Proofs.YthglgagkhnfnpaaGreat
open Go.RowKit

structure En where
  b : Bool
  a : ByteArray
def En.cells (e : En) : List Value := [.bool e.b, .string e.a]
def En.val (e : En) : Value := .agg #[.bool e.b, .string e.a]
theorem Ed.cells_len (e : Ed) : e.cells.length = 4 := rfl
theorem En.cells_len (e : En) : e.cells.length = 2 := rfl
abbrev edC (es : List Ed) : List Value := es.flatMap Ed.cells
abbrev enC (ns : List En) : List Value := ns.flatMap En.cells
theorem Tryz.infoTE : (Tryz.prog.info? 57).map (fun i => (i.zero, i.size, i.bytes)) = some (some (.agg #[.int .i64 0, .int .u8 0, .string ⟨#[]⟩, .int .i64 0]), 4, 40) := by kernel_rfl
theorem Tryz.infoTN : (Tryz.prog.info? 58).map (fun i => (i.zero, i.size, i.bytes)) = some (some (.agg #[.bool false, .string ⟨#[]⟩]), 2, 24) := by kernel_rfl
/-- cells of element i of a slice of edges, and of ends -/
theorem ed_at {T base : Nat} {w : World} {v : Value} {es : List Ed} (h : OwnK T 4 base w v es.length (edC es)) (i : Nat) (hi : i < es.length) :
    ∃ (g cap : Nat) (e : Ed), v = .slice (some ⟨g, 0, none⟩) es.length cap ∧ es.length ≤ cap ∧ cap ≤ 9223372036854775807 ∧ g < w.heap.size ∧ base ≤ g ∧ es[i]? = some e ∧
      w.cell? ⟨g, i * 4, none⟩ = some (.int .i64 e.f) ∧ w.cell? ⟨g, i * 4 + 1, none⟩ = some (.int .u8 e.l) ∧ w.cell? ⟨g, i * 4 + 2, none⟩ = some (.string e.o) ∧ w.cell? ⟨g, i * 4 + 3, none⟩ = some (.int .i64 e.t) := by
  obtain ⟨g, cap, hv, h1, h2, h3, h4, hc⟩ := h.at_ (by omega)
  have he : es[i]? = some es[i] := List.getElem?_eq_getElem hi
  refine ⟨g, cap, es[i], hv, h1, h2, h3, h4, he, ?_, ?_, ?_, ?_⟩
  · exact (hc (i * 4) (by omega)).trans (flat_get Ed.cells 4 Ed.cells_len es i 0 _ he (by omega))
  · exact (hc (i * 4 + 1) (by omega)).trans (flat_get Ed.cells 4 Ed.cells_len es i 1 _ he (by omega))
  · exact (hc (i * 4 + 2) (by omega)).trans (flat_get Ed.cells 4 Ed.cells_len es i 2 _ he (by omega))
  · exact (hc (i * 4 + 3) (by omega)).trans (flat_get Ed.cells 4 Ed.cells_len es i 3 _ he (by omega))
theorem en_at {T base : Nat} {w : World} {v : Value} {ns : List En} (h : OwnK T 2 base w v ns.length (enC ns)) (i : Nat) (hi : i < ns.length) :
    ∃ (g cap : Nat) (e : En), v = .slice (some ⟨g, 0, none⟩) ns.length cap ∧ ns.length ≤ cap ∧ cap ≤ 9223372036854775807 ∧ g < w.heap.size ∧ base ≤ g ∧ ns[i]? = some e ∧
      w.cell? ⟨g, i * 2, none⟩ = some (.bool e.b) ∧ w.cell? ⟨g, i * 2 + 1, none⟩ = some (.string e.a) := by
  obtain ⟨g, cap, hv, h1, h2, h3, h4, hc⟩ := h.at_ (by omega)
  have he : ns[i]? = some ns[i] := List.getElem?_eq_getElem hi
  refine ⟨g, cap, ns[i], hv, h1, h2, h3, h4, he, ?_, ?_⟩
  · exact (hc (i * 2) (by omega)).trans (flat_get En.cells 2 En.cells_len ns i 0 _ he (by omega))
  · exact (hc (i * 2 + 1) (by omega)).trans (flat_get En.cells 2 En.cells_len ns i 1 _ he (by omega))
/-- a machine in memory -/
def Mac (TE TN base : Nat) (w : World) (v : Value) (s : Int) (es : List Ed) (ns : List En) : Prop :=
  ∃ vE vN, v = .agg #[.int .i64 s, vE, vN] ∧ OwnK TE 4 base w vE es.length (edC es) ∧ OwnK TN 2 base w vN ns.length (enC ns)
/-- the state of loops that copy a machine -/
structure GRel (TM TR TE TN : Nat) (w wr : World) (s : Int) (vE vN : Value) (es : List Ed) (ns : List En) (k j : Nat) (xE xN : Value) : Prop where
  m : Row TM wr w.heap.size [.int .i64 s, vE, vN]
  r : Row TR wr (w.heap.size + 1) [.int .i64 0, .slice none 0 0, .slice none 0 0]
  o : Row TR wr (w.heap.size + 2) [.int .i64 s, xE, xN]
  e : OwnK TE 4 w.heap.size wr xE k (edC (es.take k))
  n : OwnK TN 2 w.heap.size wr xN j (enC (ns.take j))
  b : Below w.heap.size w wr
theorem GRel.edge {TM TR TE TN : Nat} (h1 : TM ≠ TE) (h2 : TR ≠ TE) (h3 : TN ≠ TE) (h4 : TN ≠ TR) {w wr w' : World} {s : Int} {vE vN : Value} {es : List Ed} {ns : List En} {k j : Nat} {xE xN v' : Value} {ob : Obj} {e : Ed} (h : GRel TM TR TE TN w wr s vE vN es ns k j xE xN) (he : es[k]? = some e)
    (ho : OwnK TE 4 w.heap.size w' v' (k + 1) (edC (es.take k) ++ e.cells)) (hb : Below w.heap.size (wr.alloc ob) w')
    (hk : ∀ T k2 b2 v2 n2 ys, T ≠ TE → OwnK T k2 b2 (wr.alloc ob) v2 n2 ys → OwnK T k2 b2 w' v2 n2 ys) (hr : ∀ T g ys, T ≠ TE → Row T (wr.alloc ob) g ys → Row T w' g ys) :
    GRel TM TR TE TN w (w'.setCell ⟨w.heap.size + 2, 1, none⟩ v') s vE vN es ns (k + 1) j v' xN := by
  have hrow := hr _ _ _ h2 (h.o.alloc ob)
  refine ⟨(hr _ _ _ h1 (h.m.alloc ob)).other _ (by simp) _, (hr _ _ _ h2 (h.r.alloc ob)).other _ (by simp) _, ?_, ?_, ?_, ?_⟩
  · exact hrow.store 1 v'
  · rw [← flat_take Ed.cells es k e he] at ho
    exact ho.other hrow h2.symm 1 v'
  · exact (hk _ _ _ _ _ _ h3 (World.ownsRow.alloc h.n ob)).other hrow h4 1 v'
  · exact ((h.b.alloc h.b.size ob).trans hb).setCell (by simp) _
theorem GRel.end_ {TM TR TE TN : Nat} (h1 : TM ≠ TN) (h2 : TR ≠ TN) (h3 : TE ≠ TN) (h4 : TE ≠ TR) {w wr w' : World} {s : Int} {vE vN : Value} {es : List Ed} {ns : List En} {k j : Nat} {xE xN v' : Value} {ob : Obj} {e : En} (h : GRel TM TR TE TN w wr s vE vN es ns k j xE xN) (he : ns[j]? = some e)
    (ho : OwnK TN 2 w.heap.size w' v' (j + 1) (enC (ns.take j) ++ e.cells)) (hb : Below w.heap.size (wr.alloc ob) w')
    (hk : ∀ T k2 b2 v2 n2 ys, T ≠ TN → OwnK T k2 b2 (wr.alloc ob) v2 n2 ys → OwnK T k2 b2 w' v2 n2 ys) (hr : ∀ T g ys, T ≠ TN → Row T (wr.alloc ob) g ys → Row T w' g ys) :
    GRel TM TR TE TN w (w'.setCell ⟨w.heap.size + 2, 2, none⟩ v') s vE vN es ns k (j + 1) xE v' := by
  have hrow := hr _ _ _ h2 (h.o.alloc ob)
  refine ⟨(hr _ _ _ h1 (h.m.alloc ob)).other _ (by simp) _, (hr _ _ _ h2 (h.r.alloc ob)).other _ (by simp) _, ?_, ?_, ?_, ?_⟩
  · exact hrow.store 2 v'
  · exact (hk _ _ _ _ _ _ h3 (World.ownsRow.alloc h.e ob)).other hrow h4 2 v'
  · rw [← flat_take En.cells ns j e he] at ho
    exact ho.other hrow h2.symm 2 v'
  · exact ((h.b.alloc h.b.size ob).trans hb).setCell (by simp) _
theorem GRel.facts {TM TR TE TN : Nat} {w wr : World} {s : Int} {vE vN : Value} {es : List Ed} {ns : List En} {k j : Nat} {xE xN : Value} (h : GRel TM TR TE TN w wr s vE vN es ns k j xE xN) :
    wr.cell? ⟨w.heap.size, 0, none⟩ = some (.int .i64 s) ∧ wr.cell? ⟨w.heap.size, 1, none⟩ = some vE ∧ wr.cell? ⟨w.heap.size, 2, none⟩ = some vN ∧
    wr.cell? ⟨w.heap.size + 1 + 1, 0, none⟩ = some (.int .i64 s) ∧ wr.cell? ⟨w.heap.size + 1 + 1, 1, none⟩ = some xE ∧ wr.cell? ⟨w.heap.size + 1 + 1, 2, none⟩ = some xN ∧ w.heap.size + 1 + 1 < wr.heap.size :=
  ⟨h.m.cell 0, h.m.cell 1, h.m.cell 2, h.o.cell 0, h.o.cell 1, h.o.cell 2, h.o.lt⟩
theorem GRel.start (TM TR TE TN : Nat) (w : World) (s : Int) (vE vN : Value) (es : List Ed) (ns : List En) :
    GRel TM TR TE TN w (((w.alloc (.cells #[.int .i64 s, vE, vN] TM)).alloc (.cells #[.int .i64 0, .slice none 0 0, .slice none 0 0] TR)).alloc (.cells #[.int .i64 s, .slice none 0 0, .slice none 0 0] TR)) s vE vN es ns 0 0 (.slice none 0 0) (.slice none 0 0) where
  m := ((row_new _ w _).alloc _).alloc _
  r := by
    have := row_new TR (w.alloc (.cells #[.int .i64 s, vE, vN] TM)) #[.int .i64 0, .slice none 0 0, .slice none 0 0]
    have h2 : (w.alloc (.cells #[.int .i64 s, vE, vN] TM)).heap.size = w.heap.size + 1 := by simp
    rw [h2] at this
    exact this.alloc _
  o := by
    have := row_new TR ((w.alloc (.cells #[.int .i64 s, vE, vN] TM)).alloc (.cells #[.int .i64 0, .slice none 0 0, .slice none 0 0] TR)) #[.int .i64 s, .slice none 0 0, .slice none 0 0]
    have h2 : ((w.alloc (.cells #[.int .i64 s, vE, vN] TM)).alloc (.cells #[.int .i64 0, .slice none 0 0, .slice none 0 0] TR)).heap.size = w.heap.size + 2 := by simp
    rw [h2] at this
    exact this
  e := World.ownsRow_nil _ _ _ _
  n := World.ownsRow_nil _ _ _ _
  b := (((Below.refl _ _).alloc (Nat.le_refl _) _).alloc (by simp) _).alloc (by simp; omega) _
/-- the machine that is handed back -/
theorem GRel.mac {TM TR TE TN : Nat} (h2 : TE ≠ TR) (h3 : TN ≠ TR) {w wr : World} {s : Int} {vE vN : Value} {es : List Ed} {ns : List En} {xE xN : Value} (h : GRel TM TR TE TN w wr s vE vN es ns es.length ns.length xE xN) :
    Mac TE TN w.heap.size (((wr.setCell ⟨w.heap.size + 1, 0, none⟩ (.int .i64 s)).setCell ⟨w.heap.size + 1, 1, none⟩ xE).setCell ⟨w.heap.size + 1, 2, none⟩ xN) (.agg #[.int .i64 s, xE, xN]) s es ns ∧
    Below w.heap.size w (((wr.setCell ⟨w.heap.size + 1, 0, none⟩ (.int .i64 s)).setCell ⟨w.heap.size + 1, 1, none⟩ xE).setCell ⟨w.heap.size + 1, 2, none⟩ xN) := by
  refine ⟨⟨_, _, rfl, ?_, ?_⟩, ?_⟩
  · have h1 := h.e
    rw [List.take_of_length_le (Nat.le_refl _)] at h1
    exact ((h1.other h.r h2 0 _).other (h.r.store 0 _) h2 1 _).other ((h.r.store 0 _).store 1 _) h2 2 _
  · have h1 := h.n
    rw [List.take_of_length_le (Nat.le_refl _)] at h1
    exact ((h1.other h.r h3 0 _).other (h.r.store 0 _) h3 1 _).other ((h.r.store 0 _).store 1 _) h3 2 _
  · exact ((h.b.setCell (by simp) _).setCell (by simp) _).setCell (by simp) _
set_option maxRecDepth 100000 in
set_option maxHeartbeats 2000000 in
theorem given_any (v : Value) (s : Int) (es : List Ed) (ns : List En) (b0 : Nat) (w : World) (hm : Mac 52 54 b0 w v s es ns) (he : es.length ≤ 30) (hn : ns.length ≤ 30) :
    Calls Tryz.prog 7 #[v] w fun e w' => ∃ v', e = .returned v' ∧ Mac 57 58 w.heap.size w' v' s es ns ∧ Below w.heap.size w w' := by
  obtain ⟨vE, vN, rfl, hE, hN⟩ := hm
  obtain ⟨pE, capE, rfl, hE1, hE2⟩ := hE.len
  obtain ⟨pN, capN, rfl, hN1, hN2⟩ := hN.len
  have HE := Lib.hid hE
  have HN := Lib.hid hN
  clear hE hN
  go_enter Tryz.func7, Tryz.ntmps7
  go_wp2
  have HG := Lib.hid (GRel.start 25 33 57 58 w s (.slice pE es.length capE) (.slice pN ns.length capN) es ns)
  go_loopw [4, 5, 6] (fun i _ _ wr => ∃ (k : Nat) (xE : Value), k ≤ es.length ∧ i = .int .i64 k ∧ GRel 25 33 57 58 w wr s (.slice pE es.length capE) (.slice pN ns.length capN) es ns k 0 xE (.slice none 0 0)) (fun i _ _ _ => es.length - (intOf i).toNat)
  case atStart => exact ⟨0, _, Nat.zero_le _, rfl, HG.out⟩
  case round =>
    obtain ⟨k, xE, hk, rfl, hrel⟩ := hrel
    clear HG
    obtain ⟨c1, c2, c3, c4, c5, c6, c7⟩ := hrel.facts
    by_cases hlt : k < es.length
    · obtain ⟨g, cap, e, hv, _, _, hg, _, hek, d1, d2, d3, d4⟩ := ed_at (HE.out.below hrel.b (Nat.le_refl _)) k hlt
      cases hv
      have HREL := Lib.hid hrel
      have HEK := Lib.hid hek
      clear hrel hek
      go_wp2_with (at_builtin; refine wpList_append_boxK _ rfl (.tmp 27) (.tmp 37) 30 rfl 57 _ 4 40 Tryz.underlying30 Tryz.infoTE rfl (by omega) (by omega) w.heap.size xE k (edC (es.take k)) rfl (World.ownsRow.alloc HREL.out.e _) #[.int .i64 e.f, .int .u8 e.l, .string e.o, .int .i64 e.t] rfl _ rfl ?c0 ?c1 ?c2 ?c3 ?_)
      case c0 => simp
      case c1 => simp [Value.oneCell']
      case c2 => omega
      case c3 => simp; omega
      intro v' w' ho hb hkp hrp
      obtain ⟨pv, cv, rfl, _, _⟩ := ho.len
      have hro := hrp _ _ _ (by decide) (HREL.out.o.alloc _)
      have e1 : w'.cell? ⟨w.heap.size + 1 + 1, 1, none⟩ = some xE := hro.cell 1
      have f1 : w'.frozen? ⟨w.heap.size + 1 + 1, 1, none⟩ = false := hro.free 1
      have HN2 := Lib.hid (HREL.out.edge (by decide) (by decide) (by decide) (by decide) HEK.out ho hb hkp hrp)
      clear ho hb hkp hrp hro c1 c2 c3 c4 c5 c6 d1 d2 d3 d4
      go_wp2
      go_roundw
      case rel => exact ⟨k + 1, _, by omega, by go_num, HN2.out⟩
      case measure => simp [intOf]; omega
    · obtain rfl : k = es.length := by omega
      have HREL := Lib.hid hrel
      clear hrel
      obtain ⟨wo, hwo⟩ : ∃ wo : World, wo = wr := ⟨_, rfl⟩
      subst hwo
      go_wp2
      clear c1 c2 c3 c4 c5 c6 c7
      go_loopw [7, 8, 9] (fun i _ _ wr => ∃ (j : Nat) (xN : Value), j ≤ ns.length ∧ i = .int .i64 j ∧ GRel 25 33 57 58 w wr s (.slice pE es.length capE) (.slice pN ns.length capN) es ns es.length j xE xN) (fun i _ _ _ => ns.length - (intOf i).toNat)
      case atStart => exact ⟨0, _, Nat.zero_le _, rfl, HREL.out⟩
      case round =>
        obtain ⟨j, xN, hj, rfl, hrel⟩ := hrel
        clear HREL
        obtain ⟨c1, c2, c3, c4, c5, c6, c7⟩ := hrel.facts
        by_cases hlt : j < ns.length
        · obtain ⟨g, cap, e, hv, _, _, hg, _, hek, d1, d2⟩ := en_at (HN.out.below hrel.b (Nat.le_refl _)) j hlt
          cases hv
          have HREL := Lib.hid hrel
          have HEK := Lib.hid hek
          clear hrel hek
          go_wp2_with (at_builtin; refine wpList_append_boxK _ rfl (.tmp 54) (.tmp 60) 31 rfl 58 _ 2 24 Tryz.underlying31 Tryz.infoTN rfl (by omega) (by omega) w.heap.size xN j (enC (ns.take j)) rfl (World.ownsRow.alloc HREL.out.n _) #[.bool e.b, .string e.a] rfl _ rfl ?c0 ?c1 ?c2 ?c3 ?_)
          case c0 => simp
          case c1 => simp [Value.oneCell']
          case c2 => omega
          case c3 => simp; omega
          intro v' w' ho hb hkp hrp
          obtain ⟨pv, cv, rfl, _, _⟩ := ho.len
          have hro := hrp _ _ _ (by decide) (HREL.out.o.alloc _)
          have e1 : w'.cell? ⟨w.heap.size + 1 + 1, 2, none⟩ = some xN := hro.cell 2
          have f1 : w'.frozen? ⟨w.heap.size + 1 + 1, 2, none⟩ = false := hro.free 2
          have HN2 := Lib.hid (HREL.out.end_ (by decide) (by decide) (by decide) (by decide) HEK.out ho hb hkp hrp)
          clear ho hb hkp hrp hro c1 c2 c3 c4 c5 c6 d1 d2
          go_wp2
          go_roundw
          case rel => exact ⟨j + 1, _, by omega, by go_num, HN2.out⟩
          case measure => simp [intOf]; omega
        · obtain rfl : j = ns.length := by omega
          have r0 : wr.cell? ⟨w.heap.size + 1, 0, none⟩ = some (.int .i64 0) := hrel.r.cell 0
          have r1 : wr.cell? ⟨w.heap.size + 1, 1, none⟩ = some (.slice none 0 0) := hrel.r.cell 1
          have r2 : wr.cell? ⟨w.heap.size + 1, 2, none⟩ = some (.slice none 0 0) := hrel.r.cell 2
          have q0 := hrel.r.free 0
          have q1 := hrel.r.free 1
          have q2 := hrel.r.free 2
          obtain ⟨px, cx, rfl, _, _⟩ := hrel.e.len
          obtain ⟨py, cy, rfl, _, _⟩ := hrel.n.len
          have HREL := Lib.hid hrel
          clear hrel
          go_wp2
          have k0 := (HREL.out.r.store 0 (.int .i64 s)).cell 0
          have k1 := ((HREL.out.r.store 0 (.int .i64 s)).store 1 (.slice px es.length cx)).cell 1
          have k2 := (((HREL.out.r.store 0 (.int .i64 s)).store 1 (.slice px es.length cx)).store 2 (.slice py ns.length cy)).cell 2
          simp only [List.set_cons_zero, List.set_cons_succ, List.getElem?_cons_zero, List.getElem?_cons_succ] at k0 k1 k2
          refine bodyPost_ret (v := .agg #[.int .i64 s, .slice px es.length cx, .slice py ns.length cy]) (by simp [results, Tryz.results7, go_sem, k0, k1, k2]) rfl ⟨_, rfl, HREL.out.mac (by decide) (by decide)⟩
end Go.Proofs.YthglgagkhnfnpaaGreat
