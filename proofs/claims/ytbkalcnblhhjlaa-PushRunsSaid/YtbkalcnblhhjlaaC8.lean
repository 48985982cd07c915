/- Runs: the reference's. -/
import Derived.Test.YtbkalcnblhhjlaaC7
import Derived.Test.YtbkalcnblhhjlaaQR
set_option linter.unnecessarySimpa false
set_option linter.unusedVariables false
set_option linter.unusedSimpArgs false
namespace Go.Proofs.Ytbkalcnblhhjlaa
open Go.RowKit

def runP (es : List Ru) (x : Int × ByteArray) (l : List Int) : Option (Int × ByteArray) := l.foldl (fun o i => o.bind fun y => stepP es y.1 y.2 i) (some x)
theorem runP_nil (es : List Ru) (x : Int × ByteArray) : runP es x [] = some x := rfl
theorem runP_succ (es : List Ru) (x : Int × ByteArray) (l : List Int) (k : Nat) (h : k < l.length) : runP es x (l.take (k + 1)) = (runP es x (l.take k)).bind fun y => stepP es y.1 y.2 (l.getD k 0) := by
  unfold runP
  rw [List.take_succ_eq_append_getElem h, List.foldl_append]
  simp [h]
theorem foldl_none (es : List Ru) : ∀ l : List Int, l.foldl (fun (o : Option (Int × ByteArray)) i => o.bind fun y => stepP es y.1 y.2 i) none = none
  | [] => rfl
  | _ :: l => by simpa using foldl_none es l
theorem runP_stop {es : List Ru} {x : Int × ByteArray} {l : List Int} {k : Nat} (h : runP es x (l.take k) = none) : runP es x l = none := by
  unfold runP at *
  rw [← List.take_append_drop k l, List.foldl_append, h, foldl_none]
def sameC (x : Int × ByteArray) (q : Int) (s : ByteArray) : Bool := (x.1 == q) && (x.2.toList == s.toList)
def isRunP (es : List Ru) (x : Int × ByteArray) (q : Int) (s : ByteArray) (l : List Int) : Bool :=
  decide (l.length ≤ 1000) && (match runP es x l with | some y => sameC y q s | none => false)
theorem stepP_size {es : List Ru} {q i : Int} {s : ByteArray} {y : Int × ByteArray} (h : stepP es q s i = some y) (hp : ∀ e ∈ es, e.p.size ≤ 4) : y.2.size ≤ s.size + 4 := by
  unfold stepP at h
  split at h
  · split at h
    · rename_i e he
      split at h
      · cases h
        have := hp e (List.mem_of_getElem? he)
        simp only [ByteArray.size_append, ByteArray.size_extract]; omega
      · cases h
    · cases h
  · cases h
section
variable (q q' : Int) (s s' : ByteArray) (w : World)
theorem eql_confR : (binOp .eql 26 (.agg #[.int .i64 q, .string s]) (.agg #[.int .i64 q', .string s'])).run Try.prog w = .ok (.bool (sameC (q, s) q' s')) w := by
  unfold sameC
  cases h1 : q == q' <;> cases h2 : (s.toList == s'.toList) <;> simp [go_sem, h1, h2]
theorem eql_conf : (binOp .eql 39 (.agg #[.int .i64 q, .string s]) (.agg #[.int .i64 q', .string s'])).run Try.prog w = .ok (.bool (sameC (q, s) q' s')) w := by
  unfold sameC
  cases h1 : q == q' <;> cases h2 : (s.toList == s'.toList) <;> simp [go_sem, h1, h2]
end
theorem guard_confR (op : BinOp) (x y : Operand) (xs ys : Array Value) (w : World) : (eqGuard op 26 x y (.agg xs) (.agg ys)).run Try.prog w = .ok () w :=
  run_eqGuard_agg w op 26 x y xs ys (by kernel_rfl)
theorem guard_conf (op : BinOp) (x y : Operand) (xs ys : Array Value) (w : World) : (eqGuard op 39 x y (.agg xs) (.agg ys)).run Try.prog w = .ok () w :=
  run_eqGuard_agg w op 39 x y xs ys (by kernel_rfl)
theorem fill2 {T : TypeId} {g : Nat} {w : World} {x : List Value} (hx : Row T w g x) (hl : x.length = 2) : ∃ x0 x1, w.cell? ⟨g, 0, none⟩ = some x0 ∧ w.cell? ⟨g, 1, none⟩ = some x1 ∧ w.frozen? ⟨g, 0, none⟩ = false ∧ w.frozen? ⟨g, 1, none⟩ = false ∧
    ∀ a b, Touch g w ((w.setCell ⟨g, 0, none⟩ a).setCell ⟨g, 1, none⟩ b) ∧ Row T ((w.setCell ⟨g, 0, none⟩ a).setCell ⟨g, 1, none⟩ b) g [a, b] := by
  match x, hl, hx with
  | [x0, x1], _, hx =>
    exact ⟨x0, x1, hx.cell 0, hx.cell 1, hx.free 0, hx.free 1, fun a b => ⟨(Touch.cell w g 0 a).trans (Touch.cell _ g 1 b), (hx.store 0 a).store 1 b⟩⟩
theorem stepV_is (q : Int) (s : ByteArray) (o : Option (Int × ByteArray)) : ∃ q3 s3 b, stepV q s o = .tuple #[.agg #[.int .i64 q3, .string s3], .bool b] ∧ (b = true → o = some (q3, s3)) ∧ (b = false → o = none) := by
  cases o with
  | none => exact ⟨q, s, false, rfl, (fun h => by cases h), fun _ => rfl⟩
  | some y => exact ⟨y.1, y.2, true, rfl, fun _ => rfl, (fun h => by cases h)⟩
/-- what holds at each round -/
structure RunRel (w wr : World) (c q : Int) (s : ByteArray) (v : Value) (es : List Ru) (q2 : Int) (s2 : ByteArray) (l : List Int) (k : Nat) (q' : Int) (s' : ByteArray) : Prop where
  bel : Below w.heap.size w wr
  r0 : Row 24 wr w.heap.size [.int .i64 c, v]
  r1 : Row 26 wr (w.heap.size + 1) [.int .i64 q', .string s']
  r2 : Row 26 wr (w.heap.size + 2) [.int .i64 q2, .string s2]
  run : runP es (q, s) (l.take k) = some (q', s')
  size : s'.size ≤ s.size + 4 * k
set_option maxRecDepth 100000 in
set_option maxHeartbeats 2000000 in
theorem isRunR_any (c q q2 : Int) (v vl : Value) (es : List Ru) (s s2 : ByteArray) (l : List Int) (w : World) (hE : SlR w v es) (hl : SlA w vl (ints l)) (h1 : s.size ≤ 100) (hp : ∀ e ∈ es, e.p.size ≤ 4) :
    Calls Try.prog 11 #[.agg #[.int .i64 c, v], .agg #[.int .i64 q, .string s], .agg #[.int .i64 q2, .string s2], vl] w fun r w' => r = .returned (.bool (isRunP es (q, s) q2 s2 l)) ∧ Below w.heap.size w w' := by
  obtain ⟨p, cap, rfl, hlc, hcm⟩ := hE.len
  obtain ⟨pl, capl, rfl, hll, hlm⟩ := hl.form
  have HE := Lib.hid hE
  have HL := Lib.hid hl
  have HPS := Lib.hid hp
  clear hE hl hp
  by_cases h0 : 1000 < l.length
  · have HN : Hid (isRunP es (q, s) q2 s2 l = false) := by
      have h : decide (l.length ≤ 1000) = false := by simp; omega
      show _ = _; unfold isRunP; rw [h]; rfl
    go_enter Try.func11, Try.ntmps11
    go_wp2
    go_ret
    exact ⟨by rw [HN.out]; rfl, ((box_below _ _).alloc (by simp) _).alloc (by simp; omega) _⟩
  have hb0 : decide ((1000 : Int) < l.length) = false := by simp; omega
  have hb9 : decide (1000 < l.length) = false := by simp; omega
  have HN : Hid (isRunP es (q, s) q2 s2 l = (match runP es (q, s) l with | some y => sameC y q2 s2 | none => false)) := by
    have h : decide (l.length ≤ 1000) = true := by simp; omega
    show _ = _; unfold isRunP; rw [h]; rfl
  go_enter Try.func11, Try.ntmps11
  go_wp2
  go_loopw [9, 10, 11] (fun i _ _ wr => ∃ (k : Nat) (q' : Int) (s' : ByteArray), k ≤ l.length ∧ i = .int .i64 k ∧ RunRel w wr c q s (.slice p es.length cap) es q2 s2 l k q' s') (fun i _ _ _ => l.length - (intOf i).toNat)
  case atStart => exact ⟨0, q, s, Nat.zero_le _, rfl, ⟨((box_below _ _).alloc (by simp) _).alloc (by simp; omega) _, ((row_new _ _ _).alloc _).alloc _, (row_new' _ _ _ _ (by simp)).alloc _, row_new' _ _ _ _ (by simp), rfl, by omega⟩⟩
  case round =>
    obtain ⟨k, q', s', hk, rfl, hrel⟩ := hrel
    by_cases hlt : k < l.length
    · obtain ⟨ad, cap', hv, _, _, hg, hc⟩ := (HL.out.below hrel.bel).int_at k hlt
      cases hv
      obtain ⟨i, hi⟩ : ∃ i, l.getD k 0 = i := ⟨_, rfl⟩
      have hrs := runP_succ es (q, s) l k hlt
      rw [hrel.run, hi] at hrs
      rw [hi] at hc
      have HRS : Hid (runP es (q, s) (l.take (k + 1)) = stepP es q' s' i) := hrs
      have HST : Hid (∀ w1, Below w.heap.size w w1 → Calls Try.prog 13 #[.agg #[.int .i64 c, .slice p es.length cap], .agg #[.int .i64 q', .string s'], .int .i64 i] w1 fun r w' => r = .returned (stepV q' s' (stepP es q' s' i)) ∧ Below w1.heap.size w1 w') :=
        fun w1 hb => stepR_any c _ es q' i s' w1 (HE.out.below hb) (by have := hrel.size; omega) (fun e he => by have := HPS.out e he; omega)
      have HREL := Lib.hid hrel
      clear hi hrs hrel
      go_wp2
      obtain ⟨q3, s3, b, hv, hsome, hnone⟩ := stepV_is q' s' (stepP es q' s' i)
      rw [hv] at HST
      have HSOME := Lib.hid hsome
      have HNONE := Lib.hid hnone
      have HC : Hid (∀ w1, Below wr.heap.size wr w1 → Row 24 w1 w.heap.size [.int .i64 c, .slice p es.length cap] ∧ Row 26 w1 (w.heap.size + 1) [.int .i64 q', .string s'] ∧ Row 26 w1 (w.heap.size + 2) [.int .i64 q2, .string s2] ∧ w1.cell? (ad.add k) = some (.int .i64 i) ∧ Below w.heap.size w w1) := fun w1 hb =>
        ⟨HREL.out.r0.below hb HREL.out.r0.lt, HREL.out.r1.below hb HREL.out.r1.lt, HREL.out.r2.below hb HREL.out.r2.lt, (hb.cell (p := ad.add k) (by rw [block_add]; exact hg)).trans hc, HREL.out.bel.trans (hb.mono HREL.out.bel.size)⟩
      clear hv hsome hnone hc
      refine wp_region_rel (by kernel_rfl) 37 rfl (by kernel_rfl) [.fix (.agg #[.int .i64 c, .slice p es.length cap]), .fix (.agg #[.int .i64 q', .string s']), .fix (.slice (some ad) l.length capl), .fix (.int .i64 k), .fix (.pointer (some (ad.add k))), .fix (.int .i64 i), .fix (.tuple #[.agg #[.int .i64 q3, .string s3], .bool b]), .fix (.tuple #[.agg #[.int .i64 q3, .string s3], .bool b]), .fix (.agg #[.int .i64 q3, .string s3]), .fix (.bool b), .box 26 2, .fill 10 8 26 2, .fix (.bool b)] rfl (stays_fix rfl) ?hop ?hQ
      case hop =>
        intro W hW j o hj vs w1 hb hV
        have hbw : Below wr.heap.size wr w1 := by rw [hW] at hb; exact ((Below.refl wr.heap.size wr).drew).trans hb
        obtain ⟨r0, r1, _, c5, hbb⟩ := HC.out w1 hbw
        have d0 : w1.cell? ⟨w.heap.size, 0, none⟩ = some (.int .i64 c) := r0.cell 0
        have d1 : w1.cell? ⟨w.heap.size, 1, none⟩ = some (.slice p es.length cap) := r0.cell 1
        have d2 : w1.cell? ⟨w.heap.size + 1, 0, none⟩ = some (.int .i64 q') := r1.cell 0
        have d3 : w1.cell? ⟨w.heap.size + 1, 1, none⟩ = some (.string s') := r1.cell 1
        have HBB := Lib.hid hbb
        clear hW hb hbw r0 r1 hbb
        have hj' : j < 13 := (List.getElem?_eq_some_iff.1 hj).1
        rcases (by omega : j = 0 ∨ j = 1 ∨ j = 2 ∨ j = 3 ∨ j = 4 ∨ j = 5 ∨ j = 6 ∨ j = 7 ∨ j = 8 ∨ j = 9 ∨ j = 10 ∨ j = 12 ∨ j = 11) with rfl | rfl | rfl | rfl | rfl | rfl | rfl | rfl | rfl | rfl | rfl | rfl | rfl
        all_goals
          cases hj
          clear hj'
          refine .inl ⟨rfl, ?_⟩
        iterate 6
          ((try simp [predsR, Region.binds, Vk] at hV)
           simp only [putAll]
           generalize hR : Res _ _ vs w1 = R
           go_simp
           subst hR
           exact ⟨rfl, Below.refl _ _⟩)
        iterate 1
          ((try simp [predsR, Region.binds, Vk] at hV)
           simp only [putAll]
           generalize hR : Res _ _ vs w1 = R
           go_simp
           subst hR
           refine (HST.out _ HBB.out).mono ?_
           rintro e w2 ⟨rfl, hb⟩
           exact ⟨_, rfl, rfl, hb⟩)
        iterate 3
          ((try simp [predsR, Region.binds, Vk] at hV)
           simp only [putAll]
           generalize hR : Res _ _ vs w1 = R
           go_simp
           subst hR
           exact ⟨rfl, Below.refl _ _⟩)
        iterate 1
          ((try simp [predsR, Region.binds, Vk] at hV)
           simp only [putAll]
           generalize hR : Res _ _ vs w1 = R
           go_simp
           subst hR
           exact ⟨_, rfl, rfl, rfl⟩)
        iterate 1
          ((try simp [predsR, Region.binds, Vk] at hV)
           simp only [putAll]
           generalize hR : Res _ _ vs w1 = R
           go_simp
           subst hR
           exact ⟨rfl, Below.refl _ _⟩)
        · generalize hG : relUpon _ _ _ = G
          have e8 : vs 8 = _ := hV 8 (by decide)
          obtain ⟨g, x, e10, _, hx, hxl⟩ := hV 10 (by decide)
          clear hV
          obtain ⟨x0, x1, f0, f1, f2, f3, ft⟩ := fill2 hx hxl
          subst hG
          simp only [putAll]
          generalize hR : Res _ _ vs w1 = R
          go_simp
          subst hR
          exact ⟨g, _, e10, (ft _ _).1, (ft _ _).2, by rw [e8]; rfl, rfl⟩
      case hQ =>
        intro W hW vs w1 hb hV hD
        have hbw : Below wr.heap.size wr w1 := by rw [hW] at hb; exact ((Below.refl wr.heap.size wr).drew).trans hb
        generalize hG : Exit.then _ _ _ _ _ = G
        have v0 : vs 0 = _ := hV 0 (by decide)
        have v1 : vs 1 = _ := hV 1 (by decide)
        have v2 : vs 2 = _ := hV 2 (by decide)
        have v3 : vs 3 = _ := hV 3 (by decide)
        have v4 : vs 4 = _ := hV 4 (by decide)
        have v5 : vs 5 = _ := hV 5 (by decide)
        have v6 : vs 6 = _ := hV 6 (by decide)
        have v7 : vs 7 = _ := hV 7 (by decide)
        have v8 : vs 8 = _ := hV 8 (by decide)
        have v9 : vs 9 = _ := hV 9 (by decide)
        have v12 : vs 12 = _ := hV 12 (by decide)
        obtain ⟨g, xs, v10, hbx, hxs, hxl⟩ := hV 11 (by decide)
        rw [v8] at hxs
        have hxs : [.int .i64 q3, .string s3] = xs := hxs
        subst hxs
        obtain ⟨r0, r1, r2, _, hbb⟩ := HC.out w1 hbw
        have HR0 := Lib.hid r0
        have HR1 := Lib.hid r1
        have HR2 := Lib.hid r2
        have HBB := Lib.hid hbb
        have e0 : w1.cell? ⟨g, 0, none⟩ = some (.int .i64 q3) := hbx.cell 0
        have e1 : w1.cell? ⟨g, 1, none⟩ = some (.string s3) := hbx.cell 1
        have d2 : w1.cell? ⟨w.heap.size + 1, 0, none⟩ = some (.int .i64 q') := r1.cell 0
        have d3 : w1.cell? ⟨w.heap.size + 1, 1, none⟩ = some (.string s') := r1.cell 1
        have f2 := r1.free 0
        have f3 := r1.free 1
        subst hG
        simp only [putAll, v0, v1, v2, v3, v4, v5, v6, v7, v8, v9, v10, v12]
        clear hV hD v0 v1 v2 v3 v4 v5 v6 v7 v8 v9 v10 v12 hb hbw hbb r0 r1 r2 hbx hW HC HST
        cases b with
        | false =>
          have HN2 : Hid (isRunP es (q, s) q2 s2 l = false) := by
            show _ = _; rw [HN.out, runP_stop (k := k + 1) (by rw [HRS.out, HNONE.out rfl])]
          go_wp2
          go_ret
          exact ⟨by rw [HN2.out]; rfl, HBB.out⟩
        | true =>
          have hst := HSOME.out rfl
          have hrun : runP es (q, s) (l.take (k + 1)) = some (q3, s3) := by rw [HRS.out, hst]
          have hsz : s3.size ≤ s.size + 4 * (k + 1) := by have := stepP_size hst HPS.out; have := HREL.out.size; dsimp only at *; omega
          have HNEW : Hid (RunRel w ((w1.setCell ⟨w.heap.size + 1, 0, none⟩ (.int .i64 q3)).setCell ⟨w.heap.size + 1, 1, none⟩ (.string s3)) c q s (.slice p es.length cap) es q2 s2 l (k + 1) q3 s3) :=
            ⟨(HBB.out.setCell (by simp) _).setCell (by simp) _, (HR0.out.other _ (by simp) _).other _ (by simp) _, (HR1.out.store 0 _).store 1 _, (HR2.out.other _ (by simp) _).other _ (by simp) _, hrun, hsz⟩
          clear hst hrun hsz
          go_wp2
          go_roundw
          case rel => exact ⟨k + 1, q3, s3, by omega, by go_num, HNEW.out⟩
          case measure => simp [intOf]; omega
    · obtain rfl : k = l.length := by omega
      have hrun := hrel.run
      rw [List.take_length] at hrun
      have HN2 : Hid (isRunP es (q, s) q2 s2 l = sameC (q', s') q2 s2) := by show _ = _; rw [HN.out, hrun]
      have d2 : wr.cell? ⟨w.heap.size + 1, 0, none⟩ = some (.int .i64 q') := hrel.r1.cell 0
      have d3 : wr.cell? ⟨w.heap.size + 1, 1, none⟩ = some (.string s') := hrel.r1.cell 1
      have d4 : wr.cell? ⟨w.heap.size + 2, 0, none⟩ = some (.int .i64 q2) := hrel.r2.cell 0
      have d5 : wr.cell? ⟨w.heap.size + 2, 1, none⟩ = some (.string s2) := hrel.r2.cell 1
      have qe := eql_confR q' q2 s' s2
      have qg := guard_confR
      have HBB := Lib.hid hrel.bel
      obtain ⟨b, hb⟩ : ∃ b, sameC (q', s') q2 s2 = b := ⟨_, rfl⟩
      rw [hb] at HN2
      simp only [hb] at qe
      clear hrel hrun hb
      go_wp2
      go_ret
      exact ⟨by rw [HN2.out]; rfl, HBB.out⟩
end Go.Proofs.Ytbkalcnblhhjlaa
