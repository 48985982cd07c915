/- own: what comes in is cut and copied. -/
import Derived.Test.YthglgagkhnfnpaaGreatD2
set_option linter.unusedVariables false
set_option linter.unusedSimpArgs false
set_option linter.unnecessarySimpa false
namespace Go.Proofs.YthglgagkhnfnpaaGreat
open Go.RowKit

theorem Tryz.infoRE : (Tryz.prog.info? 52).map (fun i => (i.zero, i.size, i.bytes)) = some (some (.agg #[.int .i64 0, .int .u8 0, .string ⟨#[]⟩, .int .i64 0]), 4, 40) := by kernel_rfl
theorem Tryz.infoRN : (Tryz.prog.info? 54).map (fun i => (i.zero, i.size, i.bytes)) = some (some (.agg #[.bool false, .string ⟨#[]⟩]), 2, 24) := by kernel_rfl
/-- edges, and ends, wherever they lie -/
def SlE (w : World) (v : Value) (es : List Ed) : Prop :=
  ∃ p cap, v = .slice p es.length cap ∧ es.length ≤ cap ∧ cap ≤ maxLen ∧ (0 < es.length → ∃ ad : Addr, p = some ad ∧ ad.block < w.heap.size ∧ ∀ i e, es[i]? = some e →
    w.cell? (ad.add (i * 4)) = some (.int .i64 e.f) ∧ w.cell? ((ad.add (i * 4)).add 1) = some (.int .u8 e.l) ∧ w.cell? ((ad.add (i * 4)).add 2) = some (.string e.o) ∧ w.cell? ((ad.add (i * 4)).add 3) = some (.int .i64 e.t) ∧ e.o.size ≤ maxLen)
def SlN (w : World) (v : Value) (ns : List En) : Prop :=
  ∃ p cap, v = .slice p ns.length cap ∧ ns.length ≤ cap ∧ cap ≤ maxLen ∧ (0 < ns.length → ∃ ad : Addr, p = some ad ∧ ad.block < w.heap.size ∧ ∀ i e, ns[i]? = some e →
    w.cell? (ad.add (i * 2)) = some (.bool e.b) ∧ w.cell? ((ad.add (i * 2)).add 1) = some (.string e.a) ∧ e.a.size ≤ maxLen)
theorem SlE.below {w w' : World} {v : Value} {es : List Ed} (h : SlE w v es) (hb : Below w.heap.size w w') : SlE w' v es := by
  obtain ⟨p, cap, hv, h1, h2, h3⟩ := h
  refine ⟨p, cap, hv, h1, h2, fun h0 => ?_⟩
  obtain ⟨ad, hp, hlt, hc⟩ := h3 h0
  refine ⟨ad, hp, Nat.lt_of_lt_of_le hlt hb.size, fun i e he => ?_⟩
  obtain ⟨a, b, c, d, f⟩ := hc i e he
  exact ⟨(hb.cell (p := ad.add (i * 4)) (by rw [block_add]; exact hlt)).trans a, (hb.cell (p := (ad.add (i * 4)).add 1) (by rw [block_add, block_add]; exact hlt)).trans b,
    (hb.cell (p := (ad.add (i * 4)).add 2) (by rw [block_add, block_add]; exact hlt)).trans c, (hb.cell (p := (ad.add (i * 4)).add 3) (by rw [block_add, block_add]; exact hlt)).trans d, f⟩
theorem SlN.below {w w' : World} {v : Value} {ns : List En} (h : SlN w v ns) (hb : Below w.heap.size w w') : SlN w' v ns := by
  obtain ⟨p, cap, hv, h1, h2, h3⟩ := h
  refine ⟨p, cap, hv, h1, h2, fun h0 => ?_⟩
  obtain ⟨ad, hp, hlt, hc⟩ := h3 h0
  refine ⟨ad, hp, Nat.lt_of_lt_of_le hlt hb.size, fun i e he => ?_⟩
  obtain ⟨a, b, c⟩ := hc i e he
  exact ⟨(hb.cell (p := ad.add (i * 2)) (by rw [block_add]; exact hlt)).trans a, (hb.cell (p := (ad.add (i * 2)).add 1) (by rw [block_add, block_add]; exact hlt)).trans b, c⟩
theorem SlE.len {w : World} {v : Value} {es : List Ed} (h : SlE w v es) : ∃ p cap, v = .slice p es.length cap ∧ es.length ≤ cap ∧ cap ≤ 9223372036854775807 := by
  obtain ⟨p, cap, hv, h1, h2, _⟩ := h; exact ⟨p, cap, hv, h1, h2⟩
theorem SlN.len {w : World} {v : Value} {ns : List En} (h : SlN w v ns) : ∃ p cap, v = .slice p ns.length cap ∧ ns.length ≤ cap ∧ cap ≤ 9223372036854775807 := by
  obtain ⟨p, cap, hv, h1, h2, _⟩ := h; exact ⟨p, cap, hv, h1, h2⟩
theorem SlE.at_ {w : World} {v : Value} {es : List Ed} (h : SlE w v es) (i : Nat) (hi : i < es.length) :
    ∃ (ad : Addr) (cap : Nat) (e : Ed), v = .slice (some ad) es.length cap ∧ ad.block < w.heap.size ∧ es[i]? = some e ∧
      w.cell? (ad.add (i * 4)) = some (.int .i64 e.f) ∧ w.cell? ((ad.add (i * 4)).add 1) = some (.int .u8 e.l) ∧ w.cell? ((ad.add (i * 4)).add 2) = some (.string e.o) ∧ w.cell? ((ad.add (i * 4)).add 3) = some (.int .i64 e.t) ∧ e.o.size ≤ 9223372036854775807 := by
  obtain ⟨p, cap, hv, h1, h2, h3⟩ := h
  obtain ⟨ad, rfl, hlt, hc⟩ := h3 (by omega)
  exact ⟨ad, cap, es[i], hv, hlt, List.getElem?_eq_getElem hi, hc i _ (List.getElem?_eq_getElem hi)⟩
theorem SlN.at_ {w : World} {v : Value} {ns : List En} (h : SlN w v ns) (i : Nat) (hi : i < ns.length) :
    ∃ (ad : Addr) (cap : Nat) (e : En), v = .slice (some ad) ns.length cap ∧ ad.block < w.heap.size ∧ ns[i]? = some e ∧
      w.cell? (ad.add (i * 2)) = some (.bool e.b) ∧ w.cell? ((ad.add (i * 2)).add 1) = some (.string e.a) ∧ e.a.size ≤ 9223372036854775807 := by
  obtain ⟨p, cap, hv, h1, h2, h3⟩ := h
  obtain ⟨ad, rfl, hlt, hc⟩ := h3 (by omega)
  exact ⟨ad, cap, ns[i], hv, hlt, List.getElem?_eq_getElem hi, hc i _ (List.getElem?_eq_getElem hi)⟩
def trimS (s : ByteArray) : ByteArray := s.extract 0 (min (s.size : Int) 5).toNat
theorem trimS_len (s : ByteArray) : (trimS s).size ≤ 5 := by
  unfold trimS; rw [ByteArray.size_extract]; omega
def trimE (e : Ed) : Ed := { e with o := trimS e.o }
def trimN (e : En) : En := { e with a := trimS e.a }
def ownE (es : List Ed) : List Ed := (es.take 21).map trimE
def ownN (ns : List En) : List En := (ns.take 6).map trimN
theorem ownE_len (es : List Ed) : (ownE es).length = min 21 es.length := by simp [ownE]
theorem ownN_len (ns : List En) : (ownN ns).length = min 6 ns.length := by simp [ownN]
theorem ownE_get (es : List Ed) (i : Nat) (e : Ed) (h : es[i]? = some e) (hi : i < 21) : (ownE es)[i]? = some (trimE e) := by
  simp [ownE, List.getElem?_take_of_lt hi, h]
theorem ownN_get (ns : List En) (i : Nat) (e : En) (h : ns[i]? = some e) (hi : i < 6) : (ownN ns)[i]? = some (trimN e) := by
  simp [ownN, List.getElem?_take_of_lt hi, h]
set_option maxRecDepth 100000 in
set_option maxHeartbeats 2000000 in
theorem own_any (s : Int) (vE vN : Value) (es : List Ed) (ns : List En) (w : World) (hE : SlE w vE es) (hN : SlN w vN ns) :
    Calls Tryz.prog 4 #[.agg #[.int .i64 s, vE, vN]] w fun e w' => ∃ v', e = .returned v' ∧ Mac 52 54 w.heap.size w' v' s (ownE es) (ownN ns) ∧ Below w.heap.size w w' := by
  obtain ⟨pE, capE, rfl, hE1, hE2⟩ := hE.len
  obtain ⟨pN, capN, rfl, hN1, hN2⟩ := hN.len
  have HE := Lib.hid hE
  have HN := Lib.hid hN
  clear hE hN
  go_enter Tryz.func4, Tryz.ntmps4
  go_wp2
  have HG := Lib.hid (GRel.start 25 25 52 54 w s (.slice pE es.length capE) (.slice pN ns.length capN) (ownE es) (ownN ns))
  have hlE := ownE_len es
  have hlN := ownN_len ns
  have HlE := Lib.hid hlE
  have HlN := Lib.hid hlN
  clear hlE hlN
  go_loopw [4, 5, 6] (fun i _ _ wr => ∃ (k : Nat) (xE : Value), k ≤ (ownE es).length ∧ i = .int .i64 k ∧ GRel 25 25 52 54 w wr s (.slice pE es.length capE) (.slice pN ns.length capN) (ownE es) (ownN ns) k 0 xE (.slice none 0 0)) (fun i _ _ _ => (ownE es).length - (intOf i).toNat)
  case atStart => exact ⟨0, _, Nat.zero_le _, rfl, HG.out⟩
  case round =>
    obtain ⟨k, xE, hk, rfl, hrel⟩ := hrel
    clear HG
    obtain ⟨c1, c2, c3, c4, c5, c6, c7⟩ := hrel.facts
    by_cases hlt : k < (ownE es).length
    · have hl := HlE.out
      have hk1 : k < es.length := by omega
      have hk2 : k ≤ 20 := by omega
      obtain ⟨ad, cap, e, hv, hg, hek, d1, d2, d3, d4, d5⟩ := (HE.out.below hrel.b).at_ k hk1
      cases hv
      have HREL := Lib.hid hrel
      have HEK := Lib.hid (ownE_get es k e hek (by omega))
      have HL := Lib.hid hl
      have hb20 : decide ((k : Int) ≤ 20) = true := by simp; omega
      have hk64 : decide ((k : Int) < (es.length : Int)) = true := by simp; omega
      replace d2 : wr.cell? ⟨(ad.add (k * 4)).block, (ad.add (k * 4)).off + 1, none⟩ = some (.int .u8 e.l) := d2
      replace d3 : wr.cell? ⟨(ad.add (k * 4)).block, (ad.add (k * 4)).off + 2, none⟩ = some (.string e.o) := d3
      replace d4 : wr.cell? ⟨(ad.add (k * 4)).block, (ad.add (k * 4)).off + 3, none⟩ = some (.int .i64 e.t) := d4
      obtain ⟨f, l, o, t⟩ := e
      dsimp only at d1 d2 d3 d4 d5
      clear hrel hek hl hlt
      go_wp2_with (at_builtin; refine wpList_append_boxK _ rfl (.tmp 39) (.tmp 41) 22 rfl 52 _ 4 40 Tryz.underlying22 Tryz.infoRE rfl (by omega) (by omega) w.heap.size xE k (edC ((ownE es).take k)) rfl (World.ownsRow.alloc HREL.out.e _) _ ?c9 _ rfl ?c0 ?c1 ?c2 ?c3 ?_)
      case c9 => rfl
      case c0 => simp
      case c1 => simp [Value.oneCell']
      case c2 => omega
      case c3 => simp; omega
      intro v' w' ho hb hkp hrp
      obtain ⟨pv, cv, rfl, _, _⟩ := ho.len
      have hro := hrp _ _ _ (by decide) (HREL.out.o.alloc _)
      have e1 : w'.cell? ⟨w.heap.size + 1 + 1, 1, none⟩ = some xE := hro.cell 1
      have f1 : w'.frozen? ⟨w.heap.size + 1 + 1, 1, none⟩ = false := hro.free 1
      have HN2 := Lib.hid (HREL.out.edge (by decide) (by decide) (by decide) (by decide) HEK.out ho hb hkp hrp)
      have hl := HL.out
      have hk3 : k + 1 ≤ (ownE es).length := by omega
      clear ho hb hkp hrp hro c1 c2 c3 c4 c5 c6 d1 d2 d3 d4 hl
      go_wp2
      go_roundw
      case rel => exact ⟨k + 1, _, hk3, by go_num, HN2.out⟩
      case measure => simp [intOf]; omega
    · have hkl : k = (ownE es).length := by omega
      have HREL : Hid (GRel 25 25 52 54 w wr s (.slice pE es.length capE) (.slice pN ns.length capN) (ownE es) (ownN ns) (ownE es).length 0 xE (.slice none 0 0)) := by show GRel _ _ _ _ _ _ _ _ _ _ _ _ _ _ _; rw [← hkl]; exact hrel
      have hl := HlE.out
      have hstop : (k < es.length ∧ 21 ≤ k) ∨ es.length ≤ k := by omega
      clear hrel hkl hl
      obtain ⟨wo, hwo⟩ : ∃ wo : World, wo = wr := ⟨_, rfl⟩
      subst hwo
      rcases hstop with ⟨hs0, hs1⟩ | hs1
      all_goals
        clear hlt hk
        go_wp2
        clear c1 c2 c3 c4 c5 c6 c7
        go_loopw [7, 8, 9] (fun i _ _ wr => ∃ (j : Nat) (xN : Value), j ≤ (ownN ns).length ∧ i = .int .i64 j ∧ GRel 25 25 52 54 w wr s (.slice pE es.length capE) (.slice pN ns.length capN) (ownE es) (ownN ns) (ownE es).length j xE xN) (fun i _ _ _ => (ownN ns).length - (intOf i).toNat)
        case atStart => exact ⟨0, _, Nat.zero_le _, rfl, HREL.out⟩
        case round =>
          obtain ⟨j, xN, hj, rfl, hrel⟩ := hrel
          clear HREL
          obtain ⟨c1, c2, c3, c4, c5, c6, c7⟩ := hrel.facts
          by_cases hlt : j < (ownN ns).length
          · have hl := HlN.out
            have hj1 : j < ns.length := by omega
            have hj2 : j ≤ 5 := by omega
            obtain ⟨ad, cap, e, hv, hg, hek, d1, d2, d3⟩ := (HN.out.below hrel.b).at_ j hj1
            cases hv
            have HREL := Lib.hid hrel
            have HEK := Lib.hid (ownN_get ns j e hek (by omega))
            have HL := Lib.hid hl
            have hb20 : decide ((j : Int) ≤ 5) = true := by simp; omega
            have hk64 : decide ((j : Int) < (ns.length : Int)) = true := by simp; omega
            replace d2 : wr.cell? ⟨(ad.add (j * 2)).block, (ad.add (j * 2)).off + 1, none⟩ = some (.string e.a) := d2
            obtain ⟨eb, ea⟩ := e
            dsimp only at d1 d2 d3
            clear hrel hek hl hlt
            go_wp2_with (at_builtin; refine wpList_append_boxK _ rfl (.tmp 70) (.tmp 72) 23 rfl 54 _ 2 24 Tryz.underlying23 Tryz.infoRN rfl (by omega) (by omega) w.heap.size xN j (enC ((ownN ns).take j)) rfl (World.ownsRow.alloc HREL.out.n _) _ ?c9 _ rfl ?c0 ?c1 ?c2 ?c3 ?_)
            case c9 => rfl
            case c0 => simp
            case c1 => simp [Value.oneCell']
            case c2 => omega
            case c3 => simp; omega
            intro v' w' ho hb hkp hrp
            obtain ⟨pv, cv, rfl, _, _⟩ := ho.len
            have hro := hrp _ _ _ (by decide) (HREL.out.o.alloc _)
            have e1 : w'.cell? ⟨w.heap.size + 1 + 1, 2, none⟩ = some xN := hro.cell 2
            have f1 : w'.frozen? ⟨w.heap.size + 1 + 1, 2, none⟩ = false := hro.free 2
            have HN2 := Lib.hid (HREL.out.end_ (by decide) (by decide) (by decide) (by decide) HEK.out ho hb hkp hrp)
            have hl := HL.out
            have hk3 : j + 1 ≤ (ownN ns).length := by omega
            clear ho hb hkp hrp hro c1 c2 c3 c4 c5 c6 d1 d2 hl
            go_wp2
            go_roundw
            case rel => exact ⟨j + 1, _, hk3, by go_num, HN2.out⟩
            case measure => simp [intOf]; omega
          · have hjl : j = (ownN ns).length := by omega
            have r0 : wr.cell? ⟨w.heap.size + 1, 0, none⟩ = some (.int .i64 0) := hrel.r.cell 0
            have r1 : wr.cell? ⟨w.heap.size + 1, 1, none⟩ = some (.slice none 0 0) := hrel.r.cell 1
            have r2 : wr.cell? ⟨w.heap.size + 1, 2, none⟩ = some (.slice none 0 0) := hrel.r.cell 2
            have q0 := hrel.r.free 0
            have q1 := hrel.r.free 1
            have q2 := hrel.r.free 2
            obtain ⟨px, cx, rfl, _, _⟩ := hrel.e.len
            obtain ⟨py, cy, rfl, _, _⟩ := hrel.n.len
            have HREL : Hid (GRel 25 25 52 54 w wr s (.slice pE es.length capE) (.slice pN ns.length capN) (ownE es) (ownN ns) (ownE es).length (ownN ns).length (.slice px (ownE es).length cx) (.slice py j cy)) := by
              show GRel _ _ _ _ _ _ _ _ _ _ _ _ _ _ _; rw [← hjl]; exact hrel
            have hl := HlN.out
            have hstop : (j < ns.length ∧ 6 ≤ j) ∨ ns.length ≤ j := by omega
            clear hrel hjl hl
            have k0 := (HREL.out.r.store 0 (.int .i64 s)).cell 0
            have k1 := ((HREL.out.r.store 0 (.int .i64 s)).store 1 (.slice px (ownE es).length cx)).cell 1
            have k2 := (((HREL.out.r.store 0 (.int .i64 s)).store 1 (.slice px (ownE es).length cx)).store 2 (.slice py j cy)).cell 2
            simp only [List.set_cons_zero, List.set_cons_succ, List.getElem?_cons_zero, List.getElem?_cons_succ] at k0 k1 k2
            have K0 := Lib.hid k0
            have K1 := Lib.hid k1
            have K2 := Lib.hid k2
            clear k0 k1 k2
            rcases hstop with ⟨ht0, ht1⟩ | ht1
            all_goals
              clear hlt hj
              go_wp2
              have k0 := K0.out
              have k1 := K1.out
              have k2 := K2.out
              refine bodyPost_ret (v := .agg #[.int .i64 s, .slice px (ownE es).length cx, .slice py j cy]) (by simp [results, Tryz.results4, go_sem, k0, k1, k2]) rfl ⟨_, rfl, HREL.out.mac (by decide) (by decide)⟩
end Go.Proofs.YthglgagkhnfnpaaGreat
