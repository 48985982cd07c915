/- PushRuns. -/
import Derived.Test.YtbkalcnblhhjlaaD2
set_option linter.unnecessarySimpa false
set_option linter.unusedVariables false
set_option linter.unusedSimpArgs false
namespace Go.Proofs.Ytbkalcnblhhjlaa
open Go.RowKit

theorem OwnK.touch {T T' k base g : Nat} {w w' : World} {v : Value} {n : Nat} {xs ys : List Value} (h : OwnK T k base w v n xs) (hr : Row T' w g ys) (hne : T ≠ T') (t : Touch g w w') : OwnK T k base w' v n xs := by
  rcases h.form_ with ⟨rfl, rfl, rfl⟩ | ⟨g', cap, more, rfl, hg, hl, hm, hx, hc, hr'⟩
  · exact World.ownsRow_nil _ _ _ _
  · exact OwnK.of_row (hr'.touch t (hr'.ne_ hr hne)) hg hl hm hx hc
theorem SysOf.below {TE B : Nat} {s : Int} {es : List Ru} {v : Value} {w w' : World} (h : SysOf TE B s es v w) (hb : Below w.heap.size w w') : SysOf TE B s es v w' := by
  obtain ⟨vE, hv, ho⟩ := h
  exact ⟨vE, hv, OwnK.below ho hb (Nat.le_refl _)⟩
theorem SysOf.base {TE B B' : Nat} {s : Int} {es : List Ru} {v : Value} {w : World} (h : SysOf TE B s es v w) (hb : B' ≤ B) : SysOf TE B' s es v w := by
  obtain ⟨vE, hv, ho⟩ := h
  exact ⟨vE, hv, OwnK.base ho hb⟩
/-- memory words of systems stay, boxes being of other types -/
def sysKd (TE B : Nat) (s : Int) (es : List Ru) : Kd → Prop
  | .mem M => M = SysOf TE B s es
  | .fill _ _ T _ => TE ≠ T
  | _ => True
def sysAll (TE B : Nat) (s : Int) (es : List Ru) : List Kd → Prop
  | [] => True
  | k :: l => sysKd TE B s es k ∧ sysAll TE B s es l
theorem sysAll_get {TE B : Nat} {s : Int} {es : List Ru} : ∀ {ks : List Kd}, sysAll TE B s es ks → ∀ (i : Nat) k, ks[i]? = some k → sysKd TE B s es k
  | [], _, i, k, h => by simp at h
  | x :: l, h, 0, k, hk => by simp at hk; subst hk; exact h.1
  | x :: l, h, i + 1, k, hk => sysAll_get h.2 i k (by simpa using hk)
theorem stays_sys {TE B : Nat} {s : Int} {es : List Ru} {ks : List Kd} (h : sysAll TE B s es ks) : Stays ks := by
  refine ⟨fun i M v w w' hk hM hb => ?_, fun i M v w w' j g b k T n xs hk hf hr _ ht hM => ?_⟩
  · have e : M = SysOf TE B s es := sysAll_get h i _ hk
    rw [e] at hM ⊢; exact hM.below hb
  · have e : M = SysOf TE B s es := sysAll_get h i _ hk
    have hne : TE ≠ T := sysAll_get h j _ hf
    rw [e] at hM ⊢
    obtain ⟨vE, hv, ho⟩ := hM
    exact ⟨vE, hv, ho.touch hr hne ht⟩
/-- what is carried through the law -/
structure LawSt (w w1 : World) (c q1 q2 : Int) (s1 s2 : ByteArray) (es : List Ru) (g0 g1 g2 : Nat) (vE : Value) : Prop where
  bel : Below w.heap.size w w1
  b0 : Row 24 w1 g0 [.int .i64 c, vE]
  b1 : Row 26 w1 g1 [.int .i64 q1, .string s1]
  b2 : Row 26 w1 g2 [.int .i64 q2, .string s2]
  e : OwnK 47 4 w.heap.size w1 vE es.length (ruC es)
theorem Try.info3 : (Try.prog.info? 3).map (fun i => (i.zero, i.size, i.bytes)) = some (some (.int .i64 0), 1, 8) := by kernel_rfl
theorem LawSt.below {w w1 w2 : World} {c q1 q2 : Int} {s1 s2 : ByteArray} {es : List Ru} {g0 g1 g2 : Nat} {vE : Value} (h : LawSt w w1 c q1 q2 s1 s2 es g0 g1 g2 vE) (hb : Below w1.heap.size w1 w2) : LawSt w w2 c q1 q2 s1 s2 es g0 g1 g2 vE :=
  ⟨h.bel.trans (hb.mono h.bel.size), h.b0.below hb h.b0.lt, h.b1.below hb h.b1.lt, h.b2.below hb h.b2.lt, OwnK.below h.e hb (Nat.le_refl _)⟩
/-- what holds at each round of the law's own loop -/
structure LoopSt (wa wr : World) (q1 : Int) (s1 : ByteArray) (es : List Ru) (l : List Int) (k : Nat) (q' : Int) (s' : ByteArray) : Prop where
  b : Below wa.heap.size wa wr
  at_ : Row 26 wr wa.heap.size [.int .i64 q', .string s']
  run : runP es (q1, s1) (l.take k) = some (q', s')
  size : s'.size ≤ 21 + 4 * k
theorem LoopSt.below {wa w1 w2 : World} {q1 : Int} {s1 : ByteArray} {es : List Ru} {l : List Int} {k : Nat} {q' : Int} {s' : ByteArray} (h : LoopSt wa w1 q1 s1 es l k q' s') (hb : Below w1.heap.size w1 w2) : LoopSt wa w2 q1 s1 es l k q' s' :=
  ⟨h.b.trans (hb.mono h.b.size), h.at_.below hb h.at_.lt, h.run, h.size⟩
theorem LawSt.slR {w w1 : World} {c q1 q2 : Int} {s1 s2 : ByteArray} {es : List Ru} {g0 g1 g2 : Nat} {vE : Value} (h : LawSt w w1 c q1 q2 s1 s2 es g0 g1 g2 vE) (hs : ∀ e ∈ es, e.p.size ≤ 4) : SlR w1 vE es :=
  OwnK.slR h.e (fun e he => by have := hs e he; unfold maxLen; omega)
set_option maxRecDepth 100000 in
set_option maxHeartbeats 4000000 in
theorem law_any (c q1 q2 : Int) (vE vl : Value) (s1 s2 : ByteArray) (es : List Ru) (l : List Int) (w : World) (hE : SlR w vE es) (hl : SlA w vl (ints l)) (h1 : s1.size ≤ 9223372036854775807) (h2 : s2.size ≤ 9223372036854775807)
    (haw : ∀ w, Calls Try.prog 12 #[] w fun e w' => e = .returned (.bool true) ∧ Below w.heap.size w w') :
    Calls Try.prog 3 #[.agg #[.int .i64 c, vE], .agg #[.int .i64 q1, .string s1, .int .i64 q2, .string s2], vl] w fun e w' => e = .returned (.bool true) ∧ Below w.heap.size w w' := by
  obtain ⟨pE, capE, rfl, _, _⟩ := hE.len
  obtain ⟨pl, capl, rfl, hll, hlm⟩ := hl.form
  have HE := Lib.hid hE
  have HL := Lib.hid hl
  have HAW := Lib.hid haw
  have HSM := Lib.hid (ownR_small es)
  have HLEN := Lib.hid (ownR_len es)
  clear hE hl haw
  go_enter Try.func3, Try.ntmps3
  go_wp2_with (fail)
  have HB0 : Hid (Below w.heap.size w ((w.alloc (.cells #[.int .i64 c, .slice pE es.length capE] 24)).alloc (.cells #[.int .i64 q1, .string s1, .int .i64 q2, .string s2] 28))) := (box_below _ _).alloc (by simp) _
  have HR0 : Hid (Row 24 ((w.alloc (.cells #[.int .i64 c, .slice pE es.length capE] 24)).alloc (.cells #[.int .i64 q1, .string s1, .int .i64 q2, .string s2] 28)) w.heap.size [.int .i64 c, .slice pE es.length capE]) := (row_new _ _ _).alloc _
  have HR1 : Hid (Row 28 ((w.alloc (.cells #[.int .i64 c, .slice pE es.length capE] 24)).alloc (.cells #[.int .i64 q1, .string s1, .int .i64 q2, .string s2] 28)) (w.heap.size + 1) [.int .i64 q1, .string s1, .int .i64 q2, .string s2]) := row_new' _ _ _ _ (by simp)
  obtain ⟨W0, hW0⟩ : ∃ W0, ((w.alloc (.cells #[.int .i64 c, .slice pE es.length capE] 24)).alloc (.cells #[.int .i64 q1, .string s1, .int .i64 q2, .string s2] 28)) = W0 := ⟨_, rfl⟩
  rw [hW0] at HB0 HR0 HR1
  rw [hW0]
  clear hW0
  refine wp_region_rel (by kernel_rfl) 104 rfl (by kernel_rfl) [.fix (.agg #[.int .i64 c, .slice pE es.length capE]), .mem (SysOf 47 w.heap.size c (ownR es)), .fix (.pointer (some ⟨w.heap.size + 1, 0, none⟩)), .fix (.agg #[.int .i64 q1, .string s1]), .fix (.agg #[.int .i64 q1, .string (cutC s1)]), .fix (.pointer (some ⟨w.heap.size + 1, 2, none⟩)), .fix (.agg #[.int .i64 q2, .string s2]), .fix (.agg #[.int .i64 q2, .string (cutC s2)]), .box 24 2, .box 26 2, .box 26 2, .fill 8 1 24 2, .fill 9 4 26 2, .fill 10 7 26 2] rfl (stays_sys (TE := 47) (B := w.heap.size) (s := c) (es := ownR es) ⟨trivial, rfl, trivial, trivial, trivial, trivial, trivial, trivial, trivial, trivial, trivial, (show (47 : Nat) ≠ 24 by decide), (show (47 : Nat) ≠ 26 by decide), (show (47 : Nat) ≠ 26 by decide), trivial⟩) ?hop ?hQ
  case hop =>
    intro W hW j o hj vs w1 hb hV
    have hbw : Below W0.heap.size W0 w1 := by rw [hW] at hb; exact ((Below.refl W0.heap.size W0).drew).trans hb
    have r0 := HR0.out.below hbw HR0.out.lt
    have r1 := HR1.out.below hbw HR1.out.lt
    have HBB := Lib.hid (HB0.out.trans (hbw.mono HB0.out.size))
    have d0 : w1.cell? ⟨w.heap.size, 0, none⟩ = some (.int .i64 c) := r0.cell 0
    have d1 : w1.cell? ⟨w.heap.size, 1, none⟩ = some (.slice pE es.length capE) := r0.cell 1
    have d2 : w1.cell? ⟨w.heap.size + 1, 0, none⟩ = some (.int .i64 q1) := r1.cell 0
    have d3 : w1.cell? ⟨w.heap.size + 1, 1, none⟩ = some (.string s1) := r1.cell 1
    have d4 : w1.cell? ⟨w.heap.size + 1, 2, none⟩ = some (.int .i64 q2) := r1.cell 2
    have d5 : w1.cell? ⟨w.heap.size + 1, 3, none⟩ = some (.string s2) := r1.cell 3
    clear hW hb hbw r0 r1
    have hj' : j < 14 := (List.getElem?_eq_some_iff.1 hj).1
    rcases (by omega : j = 0 ∨ j = 1 ∨ j = 2 ∨ j = 3 ∨ j = 4 ∨ j = 5 ∨ j = 6 ∨ j = 7 ∨ j = 8 ∨ j = 9 ∨ j = 10 ∨ j = 11 ∨ j = 12 ∨ j = 13) with rfl | rfl | rfl | rfl | rfl | rfl | rfl | rfl | rfl | rfl | rfl | rfl | rfl | rfl
    · cases hj
      clear hj'
      refine .inl ⟨rfl, ?_⟩
      (try simp [predsR, Region.binds, Vk] at hV)
      simp only [putAll]
      generalize hR : Res _ _ vs w1 = R
      go_simp
      subst hR
      exact ⟨rfl, Below.refl _ _⟩
    · cases hj
      clear hj'
      refine .inl ⟨rfl, ?_⟩
      (try simp [predsR, Region.binds, Vk] at hV)
      simp only [putAll]
      generalize hR : Res _ _ vs w1 = R
      go_simp
      subst hR
      refine (own_any c _ es w1 (HE.out.below HBB.out)).mono ?_
      rintro e w2 ⟨v', rfl, hm, hb⟩
      exact ⟨_, rfl, hm.base HBB.out.size, hb⟩
    · cases hj
      clear hj'
      refine .inl ⟨rfl, ?_⟩
      (try simp [predsR, Region.binds, Vk] at hV)
      simp only [putAll]
      generalize hR : Res _ _ vs w1 = R
      go_simp
      subst hR
      exact ⟨rfl, Below.refl _ _⟩
    · cases hj
      clear hj'
      refine .inl ⟨rfl, ?_⟩
      (try simp [predsR, Region.binds, Vk] at hV)
      simp only [putAll]
      generalize hR : Res _ _ vs w1 = R
      go_simp
      subst hR
      exact ⟨rfl, Below.refl _ _⟩
    · cases hj
      clear hj'
      refine .inl ⟨rfl, ?_⟩
      (try simp [predsR, Region.binds, Vk] at hV)
      simp only [putAll]
      generalize hR : Res _ _ vs w1 = R
      go_simp
      subst hR
      refine (config_any q1 s1 w1 h1).mono ?_
      rintro e w2 ⟨rfl, hb⟩
      exact ⟨_, rfl, rfl, hb⟩
    · cases hj
      clear hj'
      refine .inl ⟨rfl, ?_⟩
      (try simp [predsR, Region.binds, Vk] at hV)
      simp only [putAll]
      generalize hR : Res _ _ vs w1 = R
      go_simp
      subst hR
      exact ⟨rfl, Below.refl _ _⟩
    · cases hj
      clear hj'
      refine .inl ⟨rfl, ?_⟩
      (try simp [predsR, Region.binds, Vk] at hV)
      simp only [putAll]
      generalize hR : Res _ _ vs w1 = R
      go_simp
      subst hR
      exact ⟨rfl, Below.refl _ _⟩
    · cases hj
      clear hj'
      refine .inl ⟨rfl, ?_⟩
      (try simp [predsR, Region.binds, Vk] at hV)
      simp only [putAll]
      generalize hR : Res _ _ vs w1 = R
      go_simp
      subst hR
      refine (config_any q2 s2 w1 h2).mono ?_
      rintro e w2 ⟨rfl, hb⟩
      exact ⟨_, rfl, rfl, hb⟩
    · cases hj
      clear hj'
      refine .inl ⟨rfl, ?_⟩
      (try simp [predsR, Region.binds, Vk] at hV)
      simp only [putAll]
      generalize hR : Res _ _ vs w1 = R
      go_simp
      subst hR
      exact ⟨_, rfl, rfl, rfl⟩
    · cases hj
      clear hj'
      refine .inl ⟨rfl, ?_⟩
      (try simp [predsR, Region.binds, Vk] at hV)
      simp only [putAll]
      generalize hR : Res _ _ vs w1 = R
      go_simp
      subst hR
      exact ⟨_, rfl, rfl, rfl⟩
    · cases hj
      clear hj'
      refine .inl ⟨rfl, ?_⟩
      (try simp [predsR, Region.binds, Vk] at hV)
      simp only [putAll]
      generalize hR : Res _ _ vs w1 = R
      go_simp
      subst hR
      exact ⟨_, rfl, rfl, rfl⟩
    · cases hj
      clear hj'
      refine .inl ⟨rfl, ?_⟩
      generalize hG : relUpon _ _ _ = G
      obtain ⟨g, x, e10, _, hx, hxl⟩ := hV 8 (by decide)
      obtain ⟨vS, e8, hOS⟩ : SysOf 47 w.heap.size c (ownR es) (vs 1) w1 := hV 1 (by decide)
      obtain ⟨pv, cv, rfl, _, _⟩ := OwnK.len hOS
      clear hV
      obtain ⟨x0, x1, f0, f1, f2, f3, ft⟩ := fill2 hx hxl
      subst hG
      simp only [putAll]
      generalize hR : Res _ _ vs w1 = R
      go_simp
      subst hR
      exact ⟨g, _, e10, (ft _ _).1, (ft _ _).2, by rw [e8]; rfl, rfl⟩
    · cases hj
      clear hj'
      refine .inl ⟨rfl, ?_⟩
      generalize hG : relUpon _ _ _ = G
      obtain ⟨g, x, e10, _, hx, hxl⟩ := hV 9 (by decide)
      have e8 : vs 4 = _ := hV 4 (by decide)
      clear hV
      obtain ⟨x0, x1, f0, f1, f2, f3, ft⟩ := fill2 hx hxl
      subst hG
      simp only [putAll]
      generalize hR : Res _ _ vs w1 = R
      go_simp
      subst hR
      exact ⟨g, _, e10, (ft _ _).1, (ft _ _).2, by rw [e8]; rfl, rfl⟩
    · cases hj
      clear hj'
      refine .inl ⟨rfl, ?_⟩
      generalize hG : relUpon _ _ _ = G
      obtain ⟨g, x, e10, _, hx, hxl⟩ := hV 10 (by decide)
      have e8 : vs 7 = _ := hV 7 (by decide)
      clear hV
      obtain ⟨x0, x1, f0, f1, f2, f3, ft⟩ := fill2 hx hxl
      subst hG
      simp only [putAll]
      generalize hR : Res _ _ vs w1 = R
      go_simp
      subst hR
      exact ⟨g, _, e10, (ft _ _).1, (ft _ _).2, by rw [e8]; rfl, rfl⟩
  case hQ =>
    intro W hW vs w1 hb hV hD
    have hbw : Below W0.heap.size W0 w1 := by rw [hW] at hb; exact ((Below.refl W0.heap.size W0).drew).trans hb
    generalize hG : Exit.then _ _ _ _ _ = G
    have v0 : vs 0 = _ := hV 0 (by decide)
    obtain ⟨vX, v1, hOX⟩ : SysOf 47 w.heap.size c (ownR es) (vs 1) w1 := hV 1 (by decide)
    have v2 : vs 2 = _ := hV 2 (by decide)
    have v3 : vs 3 = _ := hV 3 (by decide)
    have v4 : vs 4 = _ := hV 4 (by decide)
    have v5 : vs 5 = _ := hV 5 (by decide)
    have v6 : vs 6 = _ := hV 6 (by decide)
    have v7 : vs 7 = _ := hV 7 (by decide)
    obtain ⟨g0, x0, v8, hx0, hc0, -⟩ := hV 11 (by decide)
    obtain ⟨g1, x1, v9, hx1, hc1, -⟩ := hV 12 (by decide)
    obtain ⟨g2, x2, v10, hx2, hc2, -⟩ := hV 13 (by decide)
    rw [v1] at hc0
    rw [v4] at hc1
    rw [v7] at hc2
    replace hc0 : [.int .i64 c, vX] = x0 := hc0
    replace hc1 : [.int .i64 q1, .string (cutC s1)] = x1 := hc1
    replace hc2 : [.int .i64 q2, .string (cutC s2)] = x2 := hc2
    subst hc0
    subst hc1
    subst hc2
    obtain ⟨pv, cv, rfl, hcv1, hcv2⟩ := OwnK.len hOX
    have HST := Lib.hid (LawSt.mk (HB0.out.trans (hbw.mono HB0.out.size)) hx0 hx1 hx2 hOX)
    subst hG
    simp only [putAll, v0, v1, v2, v3, v4, v5, v6, v7, v8, v9, v10]
    clear hV hD hb hbw hW hOX hx0 hx1 hx2 v0 v1 v2 v3 v4 v5 v6 v7 v8 v9 v10
    by_cases h4 : 1001 < (l.length : Int)
    · have HLN := (HL.out.below HST.out.bel).take 1001 (by omega)
      rw [ints_take] at HLN
      replace HLN := Lib.hid HLN
      go_wp2_with (at_builtin; refine wpList_append_sl _ rfl (.tmp 24) (.tmp 29) 29 rfl 3 (.int .i64 0) 8 Try.underlying29 Try.info3 rfl w1.heap.size (.slice none 0 0) [] rfl (World.ownsRow_nil _ _ _ _) (.slice pl 1001 capl) (ints (l.take 1001)) rfl HLN.out (ints_one _) ?c1 ?c2 (Nat.le_refl _) ?_)
      case c1 => simp [ints_length, maxLen]; omega
      case c2 => simp [ints_length]; omega
      intro v' w' hown hgr
      obtain ⟨l', hl', hl1⟩ : ∃ l', l' = l.take 1001 ∧ l'.length ≤ 1001 := ⟨_, rfl, by simp; omega⟩
      rw [← hl'] at hown
      have hb' := (Below.refl w1.heap.size w1).grown hgr (Nat.le_refl _) (fun k hk => by cases hk)
      have HS2 := Lib.hid (HST.out.below hb')
      have HL2 := Lib.hid (Own.sl hown).toA
      obtain ⟨p', c', rfl, hc1', hc2'⟩ := HL2.out.form
      clear hown hgr hb' hl' HLN HST HL
      have e0 : w'.cell? ⟨g0, 0, none⟩ = some (.int .i64 c) := HS2.out.b0.cell 0
      have e1 : w'.cell? ⟨g0, 1, none⟩ = some (.slice pv (ownR es).length cv) := HS2.out.b0.cell 1
      have hk1 : (cutC s1).size ≤ 21 := cutC_size s1
      have hk2 : (cutC s2).size ≤ 21 := cutC_size s2
      obtain ⟨t1, ht1⟩ : ∃ t, cutC s1 = t := ⟨_, rfl⟩
      obtain ⟨t2, ht2⟩ : ∃ t, cutC s2 = t := ⟨_, rfl⟩
      obtain ⟨rs, hrs⟩ : ∃ rs, ownR es = rs := ⟨_, rfl⟩
      rw [ht1] at hk1 HS2
      rw [ht2] at hk2 HS2
      rw [hrs] at HS2 HSM HLEN hcv1 e1
      have hrl : rs.length ≤ 31 := by have := HLEN.out; omega
      rw [ht1, ht2, hrs]
      clear ht1 ht2 hrs HLEN HE HR0 HR1 HB0
      have hds1 : t1.size ≤ maxLen := by unfold maxLen; omega
      have hds2 : t2.size ≤ maxLen := by unfold maxLen; omega
      go_wp2_with (fail)
      go_at_call 6
      refine (checkR_any c _ rs _ (HS2.out.slR HSM.out)).mono ?_
      rintro e w2 ⟨rfl, hb⟩
      have HS3 := Lib.hid (HS2.out.below hb)
      have HL3 := Lib.hid (HL2.out.below hb)
      clear hb e0 e1 HS2 HL2
      have e0 : w2.cell? ⟨g0, 0, none⟩ = some (.int .i64 c) := HS3.out.b0.cell 0
      have e1 : w2.cell? ⟨g0, 1, none⟩ = some (.slice pv rs.length cv) := HS3.out.b0.cell 1
      have e2 : w2.cell? ⟨g1, 0, none⟩ = some (.int .i64 q1) := HS3.out.b1.cell 0
      have e3 : w2.cell? ⟨g1, 1, none⟩ = some (.string t1) := HS3.out.b1.cell 1
      cases hv : validP c rs
      · go_wp2_with (fail)
        clear e0 e1 e2 e3
        have HG : Hid (isRunG c rs q1 t1 q2 t2 l' = false) := by
          show _ = _
          have hz : (chkP c rs q1 t1 q2 t2 == 0) = false := by unfold chkP; simp [hv]
          unfold isRunG; rw [hz]; rfl
        refine wp_region_rel (by kernel_rfl) 104 rfl (by kernel_rfl) [.fix (.agg #[.int .i64 c, .slice pv rs.length cv]), .mem (SysOf 54 w.heap.size c rs), .fix (.agg #[.int .i64 q1, .string t1]), .fix (.agg #[.int .i64 q1, .string t1]), .fix (.agg #[.int .i64 q2, .string t2]), .fix (.agg #[.int .i64 q2, .string t2]), .fix (.slice p' l'.length c'), .fix (.bool false), .fix (.bool false), .fix (.bool false), .fix undef, .fix undef, .fix undef, .fix undef, .fix undef, .fix (.bool false), .fix (.bool false)] rfl (stays_sys (TE := 54) (B := w.heap.size) (s := c) (es := rs) ⟨trivial, rfl, trivial, trivial, trivial, trivial, trivial, trivial, trivial, trivial, trivial, trivial, trivial, trivial, trivial, trivial, trivial, trivial⟩) ?hop ?hQ
        case hop =>
          intro W hW j o hj vs w1 hb hV
          have hbw : Below w2.heap.size w2 w1 := by rw [hW] at hb; exact ((Below.refl w2.heap.size w2).drew).trans hb
          have HSW := Lib.hid (HS3.out.below hbw)
          have HLW := Lib.hid (HL3.out.below hbw)
          have d0 : w1.cell? ⟨g0, 0, none⟩ = some (.int .i64 c) := HSW.out.b0.cell 0
          have d1 : w1.cell? ⟨g0, 1, none⟩ = some (.slice pv rs.length cv) := HSW.out.b0.cell 1
          have d2 : w1.cell? ⟨g1, 0, none⟩ = some (.int .i64 q1) := HSW.out.b1.cell 0
          have d3 : w1.cell? ⟨g1, 1, none⟩ = some (.string t1) := HSW.out.b1.cell 1
          have d4 : w1.cell? ⟨g2, 0, none⟩ = some (.int .i64 q2) := HSW.out.b2.cell 0
          have d5 : w1.cell? ⟨g2, 1, none⟩ = some (.string t2) := HSW.out.b2.cell 1
          clear hW hb hbw
          have hj' : j < 17 := (List.getElem?_eq_some_iff.1 hj).1
          rcases (by omega : j = 0 ∨ j = 1 ∨ j = 2 ∨ j = 3 ∨ j = 4 ∨ j = 5 ∨ j = 6 ∨ j = 7 ∨ j = 8 ∨ j = 9 ∨ j = 10 ∨ j = 11 ∨ j = 12 ∨ j = 13 ∨ j = 14 ∨ j = 15 ∨ j = 16) with rfl | rfl | rfl | rfl | rfl | rfl | rfl | rfl | rfl | rfl | rfl | rfl | rfl | rfl | rfl | rfl | rfl
          · cases hj
            clear hj'
            refine .inl ⟨rfl, ?_⟩
            (try simp [predsR, Region.binds, Vk] at hV)
            simp only [putAll]
            generalize hR : Res _ _ vs w1 = R
            go_simp
            subst hR
            exact ⟨rfl, Below.refl _ _⟩
          · cases hj
            clear hj'
            refine .inl ⟨rfl, ?_⟩
            (try simp [predsR, Region.binds, Vk] at hV)
            simp only [putAll]
            generalize hR : Res _ _ vs w1 = R
            go_simp
            subst hR
            refine (system_any c _ rs w1 (HSW.out.slR HSM.out) (by omega)).mono ?_
            rintro e w2 ⟨v', rfl, hm, hb⟩
            exact ⟨_, rfl, hm.base HSW.out.bel.size, hb⟩
          · cases hj
            clear hj'
            refine .inl ⟨rfl, ?_⟩
            (try simp [predsR, Region.binds, Vk] at hV)
            simp only [putAll]
            generalize hR : Res _ _ vs w1 = R
            go_simp
            subst hR
            exact ⟨rfl, Below.refl _ _⟩
          · cases hj
            clear hj'
            refine .inl ⟨rfl, ?_⟩
            (try simp [predsR, Region.binds, Vk] at hV)
            simp only [putAll]
            generalize hR : Res _ _ vs w1 = R
            go_simp
            subst hR
            refine (stack_any q1 t1 w1).mono ?_
            rintro e w2 ⟨rfl, hb⟩
            exact ⟨_, rfl, rfl, hb⟩
          · cases hj
            clear hj'
            refine .inl ⟨rfl, ?_⟩
            (try simp [predsR, Region.binds, Vk] at hV)
            simp only [putAll]
            generalize hR : Res _ _ vs w1 = R
            go_simp
            subst hR
            exact ⟨rfl, Below.refl _ _⟩
          · cases hj
            clear hj'
            refine .inl ⟨rfl, ?_⟩
            (try simp [predsR, Region.binds, Vk] at hV)
            simp only [putAll]
            generalize hR : Res _ _ vs w1 = R
            go_simp
            subst hR
            refine (stack_any q2 t2 w1).mono ?_
            rintro e w2 ⟨rfl, hb⟩
            exact ⟨_, rfl, rfl, hb⟩
          · cases hj
            clear hj'
            refine .inl ⟨rfl, ?_⟩
            (try simp [predsR, Region.binds, Vk] at hV)
            simp only [putAll]
            generalize hR : Res _ _ vs w1 = R
            go_simp
            subst hR
            exact ⟨rfl, Below.refl _ _⟩
          · cases hj
            clear hj'
            refine .inl ⟨rfl, ?_⟩
            generalize hG : relUpon _ _ _ = G
            obtain ⟨vS, v1, hOS⟩ : SysOf 54 w.heap.size c rs (vs 1) w1 := hV 1 (by decide)
            have v3 : vs 3 = _ := hV 3 (by decide)
            have v5 : vs 5 = _ := hV 5 (by decide)
            have v6 : vs 6 = _ := hV 6 (by decide)
            clear hV
            subst hG
            simp only [putAll]
            generalize hR : Res _ _ vs w1 = R
            go_simp
            subst hR
            refine (isRun_any c q1 q2 vS _ rs t1 t2 l' w1 (OwnK.slR hOS (fun e he => by have := HSM.out e he; unfold maxLen; omega)) (HLW.out) (by omega) (by omega) HSM.out).mono ?_
            rintro e w2 ⟨rfl, hb⟩
            exact ⟨_, rfl, by rw [HG.out], hb⟩
          · cases hj
            clear hj'
            refine .inl ⟨rfl, ?_⟩
            (try simp [predsR, Region.binds, Vk] at hV)
            simp only [putAll]
            generalize hR : Res _ _ vs w1 = R
            go_simp
            subst hR
            exact ⟨rfl, Below.refl _ _⟩
          · cases hj
            clear hj'
            refine .inl ⟨rfl, ?_⟩
            (try simp [predsR, Region.binds, Vk] at hV)
            simp only [putAll]
            generalize hR : Res _ _ vs w1 = R
            go_simp
            subst hR
            exact ⟨rfl, Below.refl _ _⟩
          · cases hj
            clear hj'
            exact .inr ⟨rfl, rfl⟩
          · cases hj
            clear hj'
            exact .inr ⟨rfl, rfl⟩
          · cases hj
            clear hj'
            exact .inr ⟨rfl, rfl⟩
          · cases hj
            clear hj'
            exact .inr ⟨rfl, rfl⟩
          · cases hj
            clear hj'
            exact .inr ⟨rfl, rfl⟩
          · cases hj
            clear hj'
            refine .inl ⟨rfl, ?_⟩
            (try simp [predsR, Region.binds, Vk] at hV)
            simp only [putAll]
            generalize hR : Res _ _ vs w1 = R
            go_simp
            subst hR
            exact ⟨rfl, Below.refl _ _⟩
          · cases hj
            clear hj'
            refine .inl ⟨rfl, ?_⟩
            (try simp [predsR, Region.binds, Vk] at hV)
            simp only [putAll]
            generalize hR : Res _ _ vs w1 = R
            go_simp
            subst hR
            exact ⟨rfl, Below.refl _ _⟩
        case hQ =>
          intro W hW vs w1 hb hV hD
          have hbw : Below w2.heap.size w2 w1 := by rw [hW] at hb; exact ((Below.refl w2.heap.size w2).drew).trans hb
          generalize hG : Exit.then _ _ _ _ _ = G
          have v0 : vs 0 = _ := hV 0 (by decide)
          have v2 : vs 2 = _ := hV 2 (by decide)
          have v3 : vs 3 = _ := hV 3 (by decide)
          have v4 : vs 4 = _ := hV 4 (by decide)
          have v5 : vs 5 = _ := hV 5 (by decide)
          have v6 : vs 6 = _ := hV 6 (by decide)
          have v7 : vs 7 = _ := hV 7 (by decide)
          have v8 : vs 8 = _ := hV 8 (by decide)
          have v9 : vs 9 = _ := hV 9 (by decide)
          have v10 : vs 10 = _ := hV 10 (by decide)
          have v11 : vs 11 = _ := hV 11 (by decide)
          have v12 : vs 12 = _ := hV 12 (by decide)
          have v13 : vs 13 = _ := hV 13 (by decide)
          have v14 : vs 14 = _ := hV 14 (by decide)
          have v15 : vs 15 = _ := hV 15 (by decide)
          have v16 : vs 16 = _ := hV 16 (by decide)
          obtain ⟨x1, hx1, hox⟩ : SysOf 54 w.heap.size c rs (vs 1) w1 := hV 1 (by decide)
          obtain ⟨px, cx, rfl, _, _⟩ := OwnK.len hox
          have HS5 := Lib.hid (HS3.out.below hbw)
          have HL5 := Lib.hid (HL3.out.below hbw)
          subst hG
          generalize hKK : Exit.then _ _ = KK
          simp only [putAll, hx1, v0, v2, v3, v4, v5, v6, v7, v8, v9, v10, v11, v12, v13, v14, v15, v16]
          go_simp
          subst hKK
          clear hV hD hb hbw hW hx1 hox v0 v2 v3 v4 v5 v6 v7 v8 v9 v10 v11 v12 v13 v14 v15 v16
          go_wp2_with (go_at_call 12; refine (HAW.out _).mono ?_; rintro e w9 ⟨rfl, hb⟩; have HB9 := Lib.hid hb; clear hb)
          go_ret
          exact ⟨rfl, HS5.out.bel.trans (HB9.out.mono HS5.out.bel.size)⟩

      go_wp2_with (fail)
      go_at_call 7
      refine (proper_any c q1 _ t1 _ hds1).mono ?_
      rintro e w3 ⟨rfl, hb⟩
      replace HS3 := Lib.hid (HS3.out.below hb)
      replace HL3 := Lib.hid (HL3.out.below hb)
      clear hb e0 e1 e2 e3
      obtain ⟨w2, hw2⟩ : ∃ w2, w3 = w2 := ⟨_, rfl⟩
      subst hw2
      have e0 : w3.cell? ⟨g0, 0, none⟩ = some (.int .i64 c) := HS3.out.b0.cell 0
      have e1 : w3.cell? ⟨g0, 1, none⟩ = some (.slice pv rs.length cv) := HS3.out.b0.cell 1
      have e2 : w3.cell? ⟨g2, 0, none⟩ = some (.int .i64 q2) := HS3.out.b2.cell 0
      have e3 : w3.cell? ⟨g2, 1, none⟩ = some (.string t2) := HS3.out.b2.cell 1
      cases hc1 : confP c q1 t1
      · go_wp2_with (fail)
        clear e0 e1 e2 e3
        obtain ⟨w2, hw2⟩ : ∃ w2 : World, w2 = w3 := ⟨_, rfl⟩
        subst hw2
        have HG : Hid (isRunG c rs q1 t1 q2 t2 l' = false) := by
          show _ = _
          have hz : (chkP c rs q1 t1 q2 t2 == 0) = false := by unfold chkP; simp [hv, hc1]
          unfold isRunG; rw [hz]; rfl
        refine wp_region_rel (by kernel_rfl) 104 rfl (by kernel_rfl) [.fix (.agg #[.int .i64 c, .slice pv rs.length cv]), .mem (SysOf 54 w.heap.size c rs), .fix (.agg #[.int .i64 q1, .string t1]), .fix (.agg #[.int .i64 q1, .string t1]), .fix (.agg #[.int .i64 q2, .string t2]), .fix (.agg #[.int .i64 q2, .string t2]), .fix (.slice p' l'.length c'), .fix (.bool false), .fix (.bool false), .fix (.bool false), .fix undef, .fix undef, .fix undef, .fix undef, .fix undef, .fix (.bool false), .fix (.bool false)] rfl (stays_sys (TE := 54) (B := w.heap.size) (s := c) (es := rs) ⟨trivial, rfl, trivial, trivial, trivial, trivial, trivial, trivial, trivial, trivial, trivial, trivial, trivial, trivial, trivial, trivial, trivial, trivial⟩) ?hop ?hQ
        case hop =>
          intro W hW j o hj vs w1 hb hV
          have hbw : Below w2.heap.size w2 w1 := by rw [hW] at hb; exact ((Below.refl w2.heap.size w2).drew).trans hb
          have HSW := Lib.hid (HS3.out.below hbw)
          have HLW := Lib.hid (HL3.out.below hbw)
          have d0 : w1.cell? ⟨g0, 0, none⟩ = some (.int .i64 c) := HSW.out.b0.cell 0
          have d1 : w1.cell? ⟨g0, 1, none⟩ = some (.slice pv rs.length cv) := HSW.out.b0.cell 1
          have d2 : w1.cell? ⟨g1, 0, none⟩ = some (.int .i64 q1) := HSW.out.b1.cell 0
          have d3 : w1.cell? ⟨g1, 1, none⟩ = some (.string t1) := HSW.out.b1.cell 1
          have d4 : w1.cell? ⟨g2, 0, none⟩ = some (.int .i64 q2) := HSW.out.b2.cell 0
          have d5 : w1.cell? ⟨g2, 1, none⟩ = some (.string t2) := HSW.out.b2.cell 1
          clear hW hb hbw
          have hj' : j < 17 := (List.getElem?_eq_some_iff.1 hj).1
          rcases (by omega : j = 0 ∨ j = 1 ∨ j = 2 ∨ j = 3 ∨ j = 4 ∨ j = 5 ∨ j = 6 ∨ j = 7 ∨ j = 8 ∨ j = 9 ∨ j = 10 ∨ j = 11 ∨ j = 12 ∨ j = 13 ∨ j = 14 ∨ j = 15 ∨ j = 16) with rfl | rfl | rfl | rfl | rfl | rfl | rfl | rfl | rfl | rfl | rfl | rfl | rfl | rfl | rfl | rfl | rfl
          · cases hj
            clear hj'
            refine .inl ⟨rfl, ?_⟩
            (try simp [predsR, Region.binds, Vk] at hV)
            simp only [putAll]
            generalize hR : Res _ _ vs w1 = R
            go_simp
            subst hR
            exact ⟨rfl, Below.refl _ _⟩
          · cases hj
            clear hj'
            refine .inl ⟨rfl, ?_⟩
            (try simp [predsR, Region.binds, Vk] at hV)
            simp only [putAll]
            generalize hR : Res _ _ vs w1 = R
            go_simp
            subst hR
            refine (system_any c _ rs w1 (HSW.out.slR HSM.out) (by omega)).mono ?_
            rintro e w2 ⟨v', rfl, hm, hb⟩
            exact ⟨_, rfl, hm.base HSW.out.bel.size, hb⟩
          · cases hj
            clear hj'
            refine .inl ⟨rfl, ?_⟩
            (try simp [predsR, Region.binds, Vk] at hV)
            simp only [putAll]
            generalize hR : Res _ _ vs w1 = R
            go_simp
            subst hR
            exact ⟨rfl, Below.refl _ _⟩
          · cases hj
            clear hj'
            refine .inl ⟨rfl, ?_⟩
            (try simp [predsR, Region.binds, Vk] at hV)
            simp only [putAll]
            generalize hR : Res _ _ vs w1 = R
            go_simp
            subst hR
            refine (stack_any q1 t1 w1).mono ?_
            rintro e w2 ⟨rfl, hb⟩
            exact ⟨_, rfl, rfl, hb⟩
          · cases hj
            clear hj'
            refine .inl ⟨rfl, ?_⟩
            (try simp [predsR, Region.binds, Vk] at hV)
            simp only [putAll]
            generalize hR : Res _ _ vs w1 = R
            go_simp
            subst hR
            exact ⟨rfl, Below.refl _ _⟩
          · cases hj
            clear hj'
            refine .inl ⟨rfl, ?_⟩
            (try simp [predsR, Region.binds, Vk] at hV)
            simp only [putAll]
            generalize hR : Res _ _ vs w1 = R
            go_simp
            subst hR
            refine (stack_any q2 t2 w1).mono ?_
            rintro e w2 ⟨rfl, hb⟩
            exact ⟨_, rfl, rfl, hb⟩
          · cases hj
            clear hj'
            refine .inl ⟨rfl, ?_⟩
            (try simp [predsR, Region.binds, Vk] at hV)
            simp only [putAll]
            generalize hR : Res _ _ vs w1 = R
            go_simp
            subst hR
            exact ⟨rfl, Below.refl _ _⟩
          · cases hj
            clear hj'
            refine .inl ⟨rfl, ?_⟩
            generalize hG : relUpon _ _ _ = G
            obtain ⟨vS, v1, hOS⟩ : SysOf 54 w.heap.size c rs (vs 1) w1 := hV 1 (by decide)
            have v3 : vs 3 = _ := hV 3 (by decide)
            have v5 : vs 5 = _ := hV 5 (by decide)
            have v6 : vs 6 = _ := hV 6 (by decide)
            clear hV
            subst hG
            simp only [putAll]
            generalize hR : Res _ _ vs w1 = R
            go_simp
            subst hR
            refine (isRun_any c q1 q2 vS _ rs t1 t2 l' w1 (OwnK.slR hOS (fun e he => by have := HSM.out e he; unfold maxLen; omega)) (HLW.out) (by omega) (by omega) HSM.out).mono ?_
            rintro e w2 ⟨rfl, hb⟩
            exact ⟨_, rfl, by rw [HG.out], hb⟩
          · cases hj
            clear hj'
            refine .inl ⟨rfl, ?_⟩
            (try simp [predsR, Region.binds, Vk] at hV)
            simp only [putAll]
            generalize hR : Res _ _ vs w1 = R
            go_simp
            subst hR
            exact ⟨rfl, Below.refl _ _⟩
          · cases hj
            clear hj'
            refine .inl ⟨rfl, ?_⟩
            (try simp [predsR, Region.binds, Vk] at hV)
            simp only [putAll]
            generalize hR : Res _ _ vs w1 = R
            go_simp
            subst hR
            exact ⟨rfl, Below.refl _ _⟩
          · cases hj
            clear hj'
            exact .inr ⟨rfl, rfl⟩
          · cases hj
            clear hj'
            exact .inr ⟨rfl, rfl⟩
          · cases hj
            clear hj'
            exact .inr ⟨rfl, rfl⟩
          · cases hj
            clear hj'
            exact .inr ⟨rfl, rfl⟩
          · cases hj
            clear hj'
            exact .inr ⟨rfl, rfl⟩
          · cases hj
            clear hj'
            refine .inl ⟨rfl, ?_⟩
            (try simp [predsR, Region.binds, Vk] at hV)
            simp only [putAll]
            generalize hR : Res _ _ vs w1 = R
            go_simp
            subst hR
            exact ⟨rfl, Below.refl _ _⟩
          · cases hj
            clear hj'
            refine .inl ⟨rfl, ?_⟩
            (try simp [predsR, Region.binds, Vk] at hV)
            simp only [putAll]
            generalize hR : Res _ _ vs w1 = R
            go_simp
            subst hR
            exact ⟨rfl, Below.refl _ _⟩
        case hQ =>
          intro W hW vs w1 hb hV hD
          have hbw : Below w2.heap.size w2 w1 := by rw [hW] at hb; exact ((Below.refl w2.heap.size w2).drew).trans hb
          generalize hG : Exit.then _ _ _ _ _ = G
          have v0 : vs 0 = _ := hV 0 (by decide)
          have v2 : vs 2 = _ := hV 2 (by decide)
          have v3 : vs 3 = _ := hV 3 (by decide)
          have v4 : vs 4 = _ := hV 4 (by decide)
          have v5 : vs 5 = _ := hV 5 (by decide)
          have v6 : vs 6 = _ := hV 6 (by decide)
          have v7 : vs 7 = _ := hV 7 (by decide)
          have v8 : vs 8 = _ := hV 8 (by decide)
          have v9 : vs 9 = _ := hV 9 (by decide)
          have v10 : vs 10 = _ := hV 10 (by decide)
          have v11 : vs 11 = _ := hV 11 (by decide)
          have v12 : vs 12 = _ := hV 12 (by decide)
          have v13 : vs 13 = _ := hV 13 (by decide)
          have v14 : vs 14 = _ := hV 14 (by decide)
          have v15 : vs 15 = _ := hV 15 (by decide)
          have v16 : vs 16 = _ := hV 16 (by decide)
          obtain ⟨x1, hx1, hox⟩ : SysOf 54 w.heap.size c rs (vs 1) w1 := hV 1 (by decide)
          obtain ⟨px, cx, rfl, _, _⟩ := OwnK.len hox
          have HS5 := Lib.hid (HS3.out.below hbw)
          have HL5 := Lib.hid (HL3.out.below hbw)
          subst hG
          generalize hKK : Exit.then _ _ = KK
          simp only [putAll, hx1, v0, v2, v3, v4, v5, v6, v7, v8, v9, v10, v11, v12, v13, v14, v15, v16]
          go_simp
          subst hKK
          clear hV hD hb hbw hW hx1 hox v0 v2 v3 v4 v5 v6 v7 v8 v9 v10 v11 v12 v13 v14 v15 v16
          go_wp2_with (go_at_call 12; refine (HAW.out _).mono ?_; rintro e w9 ⟨rfl, hb⟩; have HB9 := Lib.hid hb; clear hb)
          go_ret
          exact ⟨rfl, HS5.out.bel.trans (HB9.out.mono HS5.out.bel.size)⟩

      go_wp2_with (fail)
      go_at_call 7
      refine (proper_any c q2 _ t2 _ hds2).mono ?_
      rintro e w4 ⟨rfl, hb⟩
      replace HS3 := Lib.hid (HS3.out.below hb)
      replace HL3 := Lib.hid (HL3.out.below hb)
      clear hb e0 e1 e2 e3
      cases hc2 : confP c q2 t2
      · go_wp2_with (fail)
        obtain ⟨w2, hw2⟩ : ∃ w2 : World, w2 = w4 := ⟨_, rfl⟩
        subst hw2
        have HG : Hid (isRunG c rs q1 t1 q2 t2 l' = false) := by
          show _ = _
          have hz : (chkP c rs q1 t1 q2 t2 == 0) = false := by unfold chkP; simp [hv, hc1, hc2]
          unfold isRunG; rw [hz]; rfl
        refine wp_region_rel (by kernel_rfl) 104 rfl (by kernel_rfl) [.fix (.agg #[.int .i64 c, .slice pv rs.length cv]), .mem (SysOf 54 w.heap.size c rs), .fix (.agg #[.int .i64 q1, .string t1]), .fix (.agg #[.int .i64 q1, .string t1]), .fix (.agg #[.int .i64 q2, .string t2]), .fix (.agg #[.int .i64 q2, .string t2]), .fix (.slice p' l'.length c'), .fix (.bool false), .fix (.bool false), .fix (.bool false), .fix undef, .fix undef, .fix undef, .fix undef, .fix undef, .fix (.bool false), .fix (.bool false)] rfl (stays_sys (TE := 54) (B := w.heap.size) (s := c) (es := rs) ⟨trivial, rfl, trivial, trivial, trivial, trivial, trivial, trivial, trivial, trivial, trivial, trivial, trivial, trivial, trivial, trivial, trivial, trivial⟩) ?hop ?hQ
        case hop =>
          intro W hW j o hj vs w1 hb hV
          have hbw : Below w2.heap.size w2 w1 := by rw [hW] at hb; exact ((Below.refl w2.heap.size w2).drew).trans hb
          have HSW := Lib.hid (HS3.out.below hbw)
          have HLW := Lib.hid (HL3.out.below hbw)
          have d0 : w1.cell? ⟨g0, 0, none⟩ = some (.int .i64 c) := HSW.out.b0.cell 0
          have d1 : w1.cell? ⟨g0, 1, none⟩ = some (.slice pv rs.length cv) := HSW.out.b0.cell 1
          have d2 : w1.cell? ⟨g1, 0, none⟩ = some (.int .i64 q1) := HSW.out.b1.cell 0
          have d3 : w1.cell? ⟨g1, 1, none⟩ = some (.string t1) := HSW.out.b1.cell 1
          have d4 : w1.cell? ⟨g2, 0, none⟩ = some (.int .i64 q2) := HSW.out.b2.cell 0
          have d5 : w1.cell? ⟨g2, 1, none⟩ = some (.string t2) := HSW.out.b2.cell 1
          clear hW hb hbw
          have hj' : j < 17 := (List.getElem?_eq_some_iff.1 hj).1
          rcases (by omega : j = 0 ∨ j = 1 ∨ j = 2 ∨ j = 3 ∨ j = 4 ∨ j = 5 ∨ j = 6 ∨ j = 7 ∨ j = 8 ∨ j = 9 ∨ j = 10 ∨ j = 11 ∨ j = 12 ∨ j = 13 ∨ j = 14 ∨ j = 15 ∨ j = 16) with rfl | rfl | rfl | rfl | rfl | rfl | rfl | rfl | rfl | rfl | rfl | rfl | rfl | rfl | rfl | rfl | rfl
          · cases hj
            clear hj'
            refine .inl ⟨rfl, ?_⟩
            (try simp [predsR, Region.binds, Vk] at hV)
            simp only [putAll]
            generalize hR : Res _ _ vs w1 = R
            go_simp
            subst hR
            exact ⟨rfl, Below.refl _ _⟩
          · cases hj
            clear hj'
            refine .inl ⟨rfl, ?_⟩
            (try simp [predsR, Region.binds, Vk] at hV)
            simp only [putAll]
            generalize hR : Res _ _ vs w1 = R
            go_simp
            subst hR
            refine (system_any c _ rs w1 (HSW.out.slR HSM.out) (by omega)).mono ?_
            rintro e w2 ⟨v', rfl, hm, hb⟩
            exact ⟨_, rfl, hm.base HSW.out.bel.size, hb⟩
          · cases hj
            clear hj'
            refine .inl ⟨rfl, ?_⟩
            (try simp [predsR, Region.binds, Vk] at hV)
            simp only [putAll]
            generalize hR : Res _ _ vs w1 = R
            go_simp
            subst hR
            exact ⟨rfl, Below.refl _ _⟩
          · cases hj
            clear hj'
            refine .inl ⟨rfl, ?_⟩
            (try simp [predsR, Region.binds, Vk] at hV)
            simp only [putAll]
            generalize hR : Res _ _ vs w1 = R
            go_simp
            subst hR
            refine (stack_any q1 t1 w1).mono ?_
            rintro e w2 ⟨rfl, hb⟩
            exact ⟨_, rfl, rfl, hb⟩
          · cases hj
            clear hj'
            refine .inl ⟨rfl, ?_⟩
            (try simp [predsR, Region.binds, Vk] at hV)
            simp only [putAll]
            generalize hR : Res _ _ vs w1 = R
            go_simp
            subst hR
            exact ⟨rfl, Below.refl _ _⟩
          · cases hj
            clear hj'
            refine .inl ⟨rfl, ?_⟩
            (try simp [predsR, Region.binds, Vk] at hV)
            simp only [putAll]
            generalize hR : Res _ _ vs w1 = R
            go_simp
            subst hR
            refine (stack_any q2 t2 w1).mono ?_
            rintro e w2 ⟨rfl, hb⟩
            exact ⟨_, rfl, rfl, hb⟩
          · cases hj
            clear hj'
            refine .inl ⟨rfl, ?_⟩
            (try simp [predsR, Region.binds, Vk] at hV)
            simp only [putAll]
            generalize hR : Res _ _ vs w1 = R
            go_simp
            subst hR
            exact ⟨rfl, Below.refl _ _⟩
          · cases hj
            clear hj'
            refine .inl ⟨rfl, ?_⟩
            generalize hG : relUpon _ _ _ = G
            obtain ⟨vS, v1, hOS⟩ : SysOf 54 w.heap.size c rs (vs 1) w1 := hV 1 (by decide)
            have v3 : vs 3 = _ := hV 3 (by decide)
            have v5 : vs 5 = _ := hV 5 (by decide)
            have v6 : vs 6 = _ := hV 6 (by decide)
            clear hV
            subst hG
            simp only [putAll]
            generalize hR : Res _ _ vs w1 = R
            go_simp
            subst hR
            refine (isRun_any c q1 q2 vS _ rs t1 t2 l' w1 (OwnK.slR hOS (fun e he => by have := HSM.out e he; unfold maxLen; omega)) (HLW.out) (by omega) (by omega) HSM.out).mono ?_
            rintro e w2 ⟨rfl, hb⟩
            exact ⟨_, rfl, by rw [HG.out], hb⟩
          · cases hj
            clear hj'
            refine .inl ⟨rfl, ?_⟩
            (try simp [predsR, Region.binds, Vk] at hV)
            simp only [putAll]
            generalize hR : Res _ _ vs w1 = R
            go_simp
            subst hR
            exact ⟨rfl, Below.refl _ _⟩
          · cases hj
            clear hj'
            refine .inl ⟨rfl, ?_⟩
            (try simp [predsR, Region.binds, Vk] at hV)
            simp only [putAll]
            generalize hR : Res _ _ vs w1 = R
            go_simp
            subst hR
            exact ⟨rfl, Below.refl _ _⟩
          · cases hj
            clear hj'
            exact .inr ⟨rfl, rfl⟩
          · cases hj
            clear hj'
            exact .inr ⟨rfl, rfl⟩
          · cases hj
            clear hj'
            exact .inr ⟨rfl, rfl⟩
          · cases hj
            clear hj'
            exact .inr ⟨rfl, rfl⟩
          · cases hj
            clear hj'
            exact .inr ⟨rfl, rfl⟩
          · cases hj
            clear hj'
            refine .inl ⟨rfl, ?_⟩
            (try simp [predsR, Region.binds, Vk] at hV)
            simp only [putAll]
            generalize hR : Res _ _ vs w1 = R
            go_simp
            subst hR
            exact ⟨rfl, Below.refl _ _⟩
          · cases hj
            clear hj'
            refine .inl ⟨rfl, ?_⟩
            (try simp [predsR, Region.binds, Vk] at hV)
            simp only [putAll]
            generalize hR : Res _ _ vs w1 = R
            go_simp
            subst hR
            exact ⟨rfl, Below.refl _ _⟩
        case hQ =>
          intro W hW vs w1 hb hV hD
          have hbw : Below w2.heap.size w2 w1 := by rw [hW] at hb; exact ((Below.refl w2.heap.size w2).drew).trans hb
          generalize hG : Exit.then _ _ _ _ _ = G
          have v0 : vs 0 = _ := hV 0 (by decide)
          have v2 : vs 2 = _ := hV 2 (by decide)
          have v3 : vs 3 = _ := hV 3 (by decide)
          have v4 : vs 4 = _ := hV 4 (by decide)
          have v5 : vs 5 = _ := hV 5 (by decide)
          have v6 : vs 6 = _ := hV 6 (by decide)
          have v7 : vs 7 = _ := hV 7 (by decide)
          have v8 : vs 8 = _ := hV 8 (by decide)
          have v9 : vs 9 = _ := hV 9 (by decide)
          have v10 : vs 10 = _ := hV 10 (by decide)
          have v11 : vs 11 = _ := hV 11 (by decide)
          have v12 : vs 12 = _ := hV 12 (by decide)
          have v13 : vs 13 = _ := hV 13 (by decide)
          have v14 : vs 14 = _ := hV 14 (by decide)
          have v15 : vs 15 = _ := hV 15 (by decide)
          have v16 : vs 16 = _ := hV 16 (by decide)
          obtain ⟨x1, hx1, hox⟩ : SysOf 54 w.heap.size c rs (vs 1) w1 := hV 1 (by decide)
          obtain ⟨px, cx, rfl, _, _⟩ := OwnK.len hox
          have HS5 := Lib.hid (HS3.out.below hbw)
          have HL5 := Lib.hid (HL3.out.below hbw)
          subst hG
          generalize hKK : Exit.then _ _ = KK
          simp only [putAll, hx1, v0, v2, v3, v4, v5, v6, v7, v8, v9, v10, v11, v12, v13, v14, v15, v16]
          go_simp
          subst hKK
          clear hV hD hb hbw hW hx1 hox v0 v2 v3 v4 v5 v6 v7 v8 v9 v10 v11 v12 v13 v14 v15 v16
          go_wp2_with (go_at_call 12; refine (HAW.out _).mono ?_; rintro e w9 ⟨rfl, hb⟩; have HB9 := Lib.hid hb; clear hb)
          go_ret
          exact ⟨rfl, HS5.out.bel.trans (HB9.out.mono HS5.out.bel.size)⟩

      · go_wp2_with (fail)
        obtain ⟨w2, hw2⟩ : ∃ w2 : World, w2 = w4 := ⟨_, rfl⟩
        subst hw2
        have hzz : (chkP c rs q1 t1 q2 t2 == 0) = true := by unfold chkP; simp [hv, hc1, hc2]
        obtain ⟨b5, hb5⟩ : ∃ b, isRunP rs (q1, t1) q2 t2 l' = b := ⟨_, rfl⟩
        have HH := Lib.hid hb5
        have HG : Hid (isRunG c rs q1 t1 q2 t2 l' = b5) := by show _ = _; unfold isRunG; rw [hzz, hb5]; rfl
        have HV := Lib.hid hv
        have HC1 := Lib.hid hc1
        clear hb5 hzz hv hc1 hc2 hds1 hds2
        refine wp_region_rel (by kernel_rfl) 104 rfl (by kernel_rfl) [.fix (.agg #[.int .i64 c, .slice pv rs.length cv]), .mem (SysOf 54 w.heap.size c rs), .fix (.agg #[.int .i64 q1, .string t1]), .fix (.agg #[.int .i64 q1, .string t1]), .fix (.agg #[.int .i64 q2, .string t2]), .fix (.agg #[.int .i64 q2, .string t2]), .fix (.slice p' l'.length c'), .fix (.bool b5), .fix (.bool true), .fix (.bool true), .fix (.agg #[.int .i64 c, .slice pv rs.length cv]), .fix (.agg #[.int .i64 q1, .string t1]), .fix (.agg #[.int .i64 q2, .string t2]), .fix (.slice p' l'.length c'), .fix (.bool b5), .fix (.bool b5), .fix (.bool false)] rfl (stays_sys (TE := 54) (B := w.heap.size) (s := c) (es := rs) ⟨trivial, rfl, trivial, trivial, trivial, trivial, trivial, trivial, trivial, trivial, trivial, trivial, trivial, trivial, trivial, trivial, trivial, trivial⟩) ?hop ?hQ
        case hop =>
          intro W hW j o hj vs w1 hb hV
          have hbw : Below w2.heap.size w2 w1 := by rw [hW] at hb; exact ((Below.refl w2.heap.size w2).drew).trans hb
          have HSW := Lib.hid (HS3.out.below hbw)
          have HLW := Lib.hid (HL3.out.below hbw)
          have d0 : w1.cell? ⟨g0, 0, none⟩ = some (.int .i64 c) := HSW.out.b0.cell 0
          have d1 : w1.cell? ⟨g0, 1, none⟩ = some (.slice pv rs.length cv) := HSW.out.b0.cell 1
          have d2 : w1.cell? ⟨g1, 0, none⟩ = some (.int .i64 q1) := HSW.out.b1.cell 0
          have d3 : w1.cell? ⟨g1, 1, none⟩ = some (.string t1) := HSW.out.b1.cell 1
          have d4 : w1.cell? ⟨g2, 0, none⟩ = some (.int .i64 q2) := HSW.out.b2.cell 0
          have d5 : w1.cell? ⟨g2, 1, none⟩ = some (.string t2) := HSW.out.b2.cell 1
          clear hW hb hbw
          have hj' : j < 17 := (List.getElem?_eq_some_iff.1 hj).1
          rcases (by omega : j = 0 ∨ j = 1 ∨ j = 2 ∨ j = 3 ∨ j = 4 ∨ j = 5 ∨ j = 6 ∨ j = 7 ∨ j = 8 ∨ j = 9 ∨ j = 10 ∨ j = 11 ∨ j = 12 ∨ j = 13 ∨ j = 14 ∨ j = 15 ∨ j = 16) with rfl | rfl | rfl | rfl | rfl | rfl | rfl | rfl | rfl | rfl | rfl | rfl | rfl | rfl | rfl | rfl | rfl
          · cases hj
            clear hj'
            refine .inl ⟨rfl, ?_⟩
            (try simp [predsR, Region.binds, Vk] at hV)
            simp only [putAll]
            generalize hR : Res _ _ vs w1 = R
            go_simp
            subst hR
            exact ⟨rfl, Below.refl _ _⟩
          · cases hj
            clear hj'
            refine .inl ⟨rfl, ?_⟩
            (try simp [predsR, Region.binds, Vk] at hV)
            simp only [putAll]
            generalize hR : Res _ _ vs w1 = R
            go_simp
            subst hR
            refine (system_any c _ rs w1 (HSW.out.slR HSM.out) (by omega)).mono ?_
            rintro e w2 ⟨v', rfl, hm, hb⟩
            exact ⟨_, rfl, hm.base HSW.out.bel.size, hb⟩
          · cases hj
            clear hj'
            refine .inl ⟨rfl, ?_⟩
            (try simp [predsR, Region.binds, Vk] at hV)
            simp only [putAll]
            generalize hR : Res _ _ vs w1 = R
            go_simp
            subst hR
            exact ⟨rfl, Below.refl _ _⟩
          · cases hj
            clear hj'
            refine .inl ⟨rfl, ?_⟩
            (try simp [predsR, Region.binds, Vk] at hV)
            simp only [putAll]
            generalize hR : Res _ _ vs w1 = R
            go_simp
            subst hR
            refine (stack_any q1 t1 w1).mono ?_
            rintro e w2 ⟨rfl, hb⟩
            exact ⟨_, rfl, rfl, hb⟩
          · cases hj
            clear hj'
            refine .inl ⟨rfl, ?_⟩
            (try simp [predsR, Region.binds, Vk] at hV)
            simp only [putAll]
            generalize hR : Res _ _ vs w1 = R
            go_simp
            subst hR
            exact ⟨rfl, Below.refl _ _⟩
          · cases hj
            clear hj'
            refine .inl ⟨rfl, ?_⟩
            (try simp [predsR, Region.binds, Vk] at hV)
            simp only [putAll]
            generalize hR : Res _ _ vs w1 = R
            go_simp
            subst hR
            refine (stack_any q2 t2 w1).mono ?_
            rintro e w2 ⟨rfl, hb⟩
            exact ⟨_, rfl, rfl, hb⟩
          · cases hj
            clear hj'
            refine .inl ⟨rfl, ?_⟩
            (try simp [predsR, Region.binds, Vk] at hV)
            simp only [putAll]
            generalize hR : Res _ _ vs w1 = R
            go_simp
            subst hR
            exact ⟨rfl, Below.refl _ _⟩
          · cases hj
            clear hj'
            refine .inl ⟨rfl, ?_⟩
            generalize hG : relUpon _ _ _ = G
            obtain ⟨vS, v1, hOS⟩ : SysOf 54 w.heap.size c rs (vs 1) w1 := hV 1 (by decide)
            have v3 : vs 3 = _ := hV 3 (by decide)
            have v5 : vs 5 = _ := hV 5 (by decide)
            have v6 : vs 6 = _ := hV 6 (by decide)
            clear hV
            subst hG
            simp only [putAll]
            generalize hR : Res _ _ vs w1 = R
            go_simp
            subst hR
            refine (isRun_any c q1 q2 vS _ rs t1 t2 l' w1 (OwnK.slR hOS (fun e he => by have := HSM.out e he; unfold maxLen; omega)) (HLW.out) (by omega) (by omega) HSM.out).mono ?_
            rintro e w2 ⟨rfl, hb⟩
            exact ⟨_, rfl, by rw [HG.out], hb⟩
          · cases hj
            clear hj'
            refine .inl ⟨rfl, ?_⟩
            (try simp [predsR, Region.binds, Vk] at hV)
            simp only [putAll]
            generalize hR : Res _ _ vs w1 = R
            go_simp
            subst hR
            exact ⟨rfl, Below.refl _ _⟩
          · cases hj
            clear hj'
            refine .inl ⟨rfl, ?_⟩
            (try simp [predsR, Region.binds, Vk] at hV)
            simp only [putAll]
            generalize hR : Res _ _ vs w1 = R
            go_simp
            subst hR
            exact ⟨rfl, Below.refl _ _⟩
          · cases hj
            clear hj'
            refine .inl ⟨rfl, ?_⟩
            (try simp [predsR, Region.binds, Vk] at hV)
            simp only [putAll]
            generalize hR : Res _ _ vs w1 = R
            go_simp
            subst hR
            exact ⟨rfl, Below.refl _ _⟩
          · cases hj
            clear hj'
            refine .inl ⟨rfl, ?_⟩
            (try simp [predsR, Region.binds, Vk] at hV)
            simp only [putAll]
            generalize hR : Res _ _ vs w1 = R
            go_simp
            subst hR
            exact ⟨rfl, Below.refl _ _⟩
          · cases hj
            clear hj'
            refine .inl ⟨rfl, ?_⟩
            (try simp [predsR, Region.binds, Vk] at hV)
            simp only [putAll]
            generalize hR : Res _ _ vs w1 = R
            go_simp
            subst hR
            exact ⟨rfl, Below.refl _ _⟩
          · cases hj
            clear hj'
            refine .inl ⟨rfl, ?_⟩
            (try simp [predsR, Region.binds, Vk] at hV)
            simp only [putAll]
            generalize hR : Res _ _ vs w1 = R
            go_simp
            subst hR
            exact ⟨rfl, Below.refl _ _⟩
          · cases hj
            clear hj'
            refine .inl ⟨rfl, ?_⟩
            (try simp [predsR, Region.binds, Vk] at hV)
            simp only [putAll]
            generalize hR : Res _ _ vs w1 = R
            go_simp
            subst hR
            refine (isRunR_any c q1 q2 _ _ rs t1 t2 l' w1 (HSW.out.slR HSM.out) HLW.out (by omega) HSM.out).mono ?_
            rintro e w2 ⟨rfl, hb⟩
            exact ⟨_, rfl, by rw [HH.out], hb⟩
          · cases hj
            clear hj'
            refine .inl ⟨rfl, ?_⟩
            (try simp [predsR, Region.binds, Vk] at hV)
            simp only [putAll]
            generalize hR : Res _ _ vs w1 = R
            go_simp
            subst hR
            exact ⟨rfl, Below.refl _ _⟩
          · cases hj
            clear hj'
            refine .inl ⟨rfl, ?_⟩
            (try simp [predsR, Region.binds, Vk] at hV)
            simp only [putAll]
            generalize hR : Res _ _ vs w1 = R
            go_simp
            subst hR
            exact ⟨rfl, Below.refl _ _⟩
        case hQ =>
          intro W hW vs w1 hb hV hD
          have hbw : Below w2.heap.size w2 w1 := by rw [hW] at hb; exact ((Below.refl w2.heap.size w2).drew).trans hb
          generalize hG : Exit.then _ _ _ _ _ = G
          have v0 : vs 0 = _ := hV 0 (by decide)
          have v2 : vs 2 = _ := hV 2 (by decide)
          have v3 : vs 3 = _ := hV 3 (by decide)
          have v4 : vs 4 = _ := hV 4 (by decide)
          have v5 : vs 5 = _ := hV 5 (by decide)
          have v6 : vs 6 = _ := hV 6 (by decide)
          have v7 : vs 7 = _ := hV 7 (by decide)
          have v8 : vs 8 = _ := hV 8 (by decide)
          have v9 : vs 9 = _ := hV 9 (by decide)
          have v10 : vs 10 = _ := hV 10 (by decide)
          have v11 : vs 11 = _ := hV 11 (by decide)
          have v12 : vs 12 = _ := hV 12 (by decide)
          have v13 : vs 13 = _ := hV 13 (by decide)
          have v14 : vs 14 = _ := hV 14 (by decide)
          have v15 : vs 15 = _ := hV 15 (by decide)
          have v16 : vs 16 = _ := hV 16 (by decide)
          obtain ⟨x1, hx1, hox⟩ : SysOf 54 w.heap.size c rs (vs 1) w1 := hV 1 (by decide)
          obtain ⟨px, cx, rfl, _, _⟩ := OwnK.len hox
          have HS5 := Lib.hid (HS3.out.below hbw)
          have HL5 := Lib.hid (HL3.out.below hbw)
          subst hG
          generalize hKK : Exit.then _ _ = KK
          simp only [putAll, hx1, v0, v2, v3, v4, v5, v6, v7, v8, v9, v10, v11, v12, v13, v14, v15, v16]
          go_simp
          subst hKK
          clear hV hD hb hbw hW hx1 hox v0 v2 v3 v4 v5 v6 v7 v8 v9 v10 v11 v12 v13 v14 v15 v16
          obtain ⟨wa, hwa⟩ : ∃ wa : World, wa = w1 := ⟨_, rfl⟩
          subst hwa
          have e2 : wa.cell? ⟨g1, 0, none⟩ = some (.int .i64 q1) := HS5.out.b1.cell 0
          have e3 : wa.cell? ⟨g1, 1, none⟩ = some (.string t1) := HS5.out.b1.cell 1
          go_wp2_with (fail)
          clear e2 e3
          go_loopw [13, 14, 15] (fun i _ _ wr => ∃ (k : Nat) (q' : Int) (s' : ByteArray), k ≤ l'.length ∧ i = .int .i64 k ∧ LoopSt wa wr q1 t1 rs l' k q' s') (fun i _ _ _ => l'.length - (intOf i).toNat)
          case atStart => exact ⟨0, q1, t1, Nat.zero_le _, rfl, ⟨box_below _ _, row_new _ _ _, rfl, by omega⟩⟩
          case round =>
            obtain ⟨k, q', s', hk, rfl, hrel⟩ := hrel
            by_cases hlt : k < l'.length
            · obtain ⟨ad, cap', hv2, _, _, hg, hc⟩ := (HL5.out.below hrel.b).int_at k hlt
              cases hv2
              obtain ⟨i, hi⟩ : ∃ i, l'.getD k 0 = i := ⟨_, rfl⟩
              have hrs := runP_succ rs (q1, t1) l' k hlt
              rw [hrel.run, hi] at hrs
              rw [hi] at hc
              have HRS : Hid (runP rs (q1, t1) (l'.take (k + 1)) = stepP rs q' s' i) := hrs
              have HSTEP : Hid (∀ w1, Below wa.heap.size wa w1 → Calls Try.prog 13 #[.agg #[.int .i64 c, .slice pv rs.length cv], .agg #[.int .i64 q', .string s'], .int .i64 i] w1 fun r w' => r = .returned (stepV q' s' (stepP rs q' s' i)) ∧ Below w1.heap.size w1 w') :=
                fun w1 hb => stepR_any c _ rs q' i s' w1 ((HS5.out.slR HSM.out).below hb) (by have := hrel.size; omega) (fun e he => by have := HSM.out e he; omega)
              obtain ⟨q3, s3, b, hv3, hsome, hnone⟩ := stepV_is q' s' (stepP rs q' s' i)
              rw [hv3] at HSTEP
              have HSOME := Lib.hid hsome
              have HREL := Lib.hid hrel
              have HCI : Hid (∀ w1, Below wr.heap.size wr w1 → w1.cell? (ad.add k) = some (.int .i64 i)) := fun w1 hb => (hb.cell (p := ad.add k) (by rw [block_add]; exact hg)).trans hc
              clear hi hrs hrel hv3 hsome hnone hc
              go_wp2_with (fail)
              refine wp_region_rel (by kernel_rfl) 104 rfl (by kernel_rfl) [.fix (.agg #[.int .i64 c, .slice pv rs.length cv]), .fix (.agg #[.int .i64 q', .string s']), .fix (.slice (some ad) l'.length c'), .fix (.int .i64 k), .fix (.pointer (some (ad.add k))), .fix (.int .i64 i), .fix (.tuple #[.agg #[.int .i64 q3, .string s3], .bool b]), .fix (.tuple #[.agg #[.int .i64 q3, .string s3], .bool b]), .fix (.agg #[.int .i64 q3, .string s3]), .fix (.bool b), .box 26 2, .fill 10 8 26 2, .fix (.bool b)] rfl (stays_fix rfl) ?hop ?hQ
              case hop =>
                intro W hW j o hj vs w1 hb hV
                have hbw : Below wr.heap.size wr w1 := by rw [hW] at hb; exact ((Below.refl wr.heap.size wr).drew).trans hb
                have HPW := Lib.hid (HREL.out.below hbw)
                have HSW := Lib.hid (HS5.out.below HPW.out.b)
                have HLW := Lib.hid (HL5.out.below HPW.out.b)
                have d0 : w1.cell? ⟨g0, 0, none⟩ = some (.int .i64 c) := HSW.out.b0.cell 0
                have d1 : w1.cell? ⟨g0, 1, none⟩ = some (.slice pv rs.length cv) := HSW.out.b0.cell 1
                have d2 : w1.cell? ⟨g1, 0, none⟩ = some (.int .i64 q1) := HSW.out.b1.cell 0
                have d3 : w1.cell? ⟨g1, 1, none⟩ = some (.string t1) := HSW.out.b1.cell 1
                have d4 : w1.cell? ⟨wa.heap.size, 0, none⟩ = some (.int .i64 q') := HPW.out.at_.cell 0
                have d5 : w1.cell? ⟨wa.heap.size, 1, none⟩ = some (.string s') := HPW.out.at_.cell 1
                have d6 := HCI.out w1 hbw
                clear hW hb hbw
                have hj' : j < 13 := (List.getElem?_eq_some_iff.1 hj).1
                rcases (by omega : j = 0 ∨ j = 1 ∨ j = 2 ∨ j = 3 ∨ j = 4 ∨ j = 5 ∨ j = 6 ∨ j = 7 ∨ j = 8 ∨ j = 9 ∨ j = 10 ∨ j = 11 ∨ j = 12) with rfl | rfl | rfl | rfl | rfl | rfl | rfl | rfl | rfl | rfl | rfl | rfl | rfl
                · cases hj
                  clear hj'
                  refine .inl ⟨rfl, ?_⟩
                  (try simp [predsR, Region.binds, Vk] at hV)
                  simp only [putAll]
                  generalize hR : Res _ _ vs w1 = R
                  go_simp
                  subst hR
                  exact ⟨rfl, Below.refl _ _⟩
                · cases hj
                  clear hj'
                  refine .inl ⟨rfl, ?_⟩
                  (try simp [predsR, Region.binds, Vk] at hV)
                  simp only [putAll]
                  generalize hR : Res _ _ vs w1 = R
                  go_simp
                  subst hR
                  exact ⟨rfl, Below.refl _ _⟩
                · cases hj
                  clear hj'
                  refine .inl ⟨rfl, ?_⟩
                  (try simp [predsR, Region.binds, Vk] at hV)
                  simp only [putAll]
                  generalize hR : Res _ _ vs w1 = R
                  go_simp
                  subst hR
                  exact ⟨rfl, Below.refl _ _⟩
                · cases hj
                  clear hj'
                  refine .inl ⟨rfl, ?_⟩
                  (try simp [predsR, Region.binds, Vk] at hV)
                  simp only [putAll]
                  generalize hR : Res _ _ vs w1 = R
                  go_simp
                  subst hR
                  exact ⟨rfl, Below.refl _ _⟩
                · cases hj
                  clear hj'
                  refine .inl ⟨rfl, ?_⟩
                  (try simp [predsR, Region.binds, Vk] at hV)
                  simp only [putAll]
                  generalize hR : Res _ _ vs w1 = R
                  go_simp
                  subst hR
                  exact ⟨rfl, Below.refl _ _⟩
                · cases hj
                  clear hj'
                  refine .inl ⟨rfl, ?_⟩
                  (try simp [predsR, Region.binds, Vk] at hV)
                  simp only [putAll]
                  generalize hR : Res _ _ vs w1 = R
                  go_simp
                  subst hR
                  exact ⟨rfl, Below.refl _ _⟩
                · cases hj
                  clear hj'
                  refine .inl ⟨rfl, ?_⟩
                  (try simp [predsR, Region.binds, Vk] at hV)
                  simp only [putAll]
                  generalize hR : Res _ _ vs w1 = R
                  go_simp
                  subst hR
                  refine (HSTEP.out w1 HPW.out.b).mono ?_
                  rintro e w2 ⟨rfl, hb⟩
                  exact ⟨_, rfl, rfl, hb⟩
                · cases hj
                  clear hj'
                  refine .inl ⟨rfl, ?_⟩
                  (try simp [predsR, Region.binds, Vk] at hV)
                  simp only [putAll]
                  generalize hR : Res _ _ vs w1 = R
                  go_simp
                  subst hR
                  exact ⟨rfl, Below.refl _ _⟩
                · cases hj
                  clear hj'
                  refine .inl ⟨rfl, ?_⟩
                  (try simp [predsR, Region.binds, Vk] at hV)
                  simp only [putAll]
                  generalize hR : Res _ _ vs w1 = R
                  go_simp
                  subst hR
                  exact ⟨rfl, Below.refl _ _⟩
                · cases hj
                  clear hj'
                  refine .inl ⟨rfl, ?_⟩
                  (try simp [predsR, Region.binds, Vk] at hV)
                  simp only [putAll]
                  generalize hR : Res _ _ vs w1 = R
                  go_simp
                  subst hR
                  exact ⟨rfl, Below.refl _ _⟩
                · cases hj
                  clear hj'
                  refine .inl ⟨rfl, ?_⟩
                  (try simp [predsR, Region.binds, Vk] at hV)
                  simp only [putAll]
                  generalize hR : Res _ _ vs w1 = R
                  go_simp
                  subst hR
                  exact ⟨_, rfl, rfl, rfl⟩
                · cases hj
                  clear hj'
                  refine .inl ⟨rfl, ?_⟩
                  generalize hG : relUpon _ _ _ = G
                  obtain ⟨g, x, e10, _, hx, hxl⟩ := hV 10 (by decide)
                  have e8 : vs 8 = _ := hV 8 (by decide)
                  clear hV
                  obtain ⟨x0, x1, f0, f1, f2, f3, ft⟩ := fill2 hx hxl
                  subst hG
                  simp only [putAll]
                  generalize hR : Res _ _ vs w1 = R
                  go_simp
                  subst hR
                  exact ⟨g, _, e10, (ft _ _).1, (ft _ _).2, by rw [e8]; rfl, rfl⟩
                · cases hj
                  clear hj'
                  refine .inl ⟨rfl, ?_⟩
                  (try simp [predsR, Region.binds, Vk] at hV)
                  simp only [putAll]
                  generalize hR : Res _ _ vs w1 = R
                  go_simp
                  subst hR
                  exact ⟨rfl, Below.refl _ _⟩
              case hQ =>
                intro W hW vs w1 hb hV hD
                have hbw : Below wr.heap.size wr w1 := by rw [hW] at hb; exact ((Below.refl wr.heap.size wr).drew).trans hb
                generalize hG : Exit.then _ _ _ _ _ = G
                have v0 : vs 0 = _ := hV 0 (by decide)
                have v1 : vs 1 = _ := hV 1 (by decide)
                have v2 : vs 2 = _ := hV 2 (by decide)
                have v3 : vs 3 = _ := hV 3 (by decide)
                have v4 : vs 4 = _ := hV 4 (by decide)
                have v5 : vs 5 = _ := hV 5 (by decide)
                have v6 : vs 6 = _ := hV 6 (by decide)
                have v7 : vs 7 = _ := hV 7 (by decide)
                have v8 : vs 8 = _ := hV 8 (by decide)
                have v9 : vs 9 = _ := hV 9 (by decide)
                have v12 : vs 12 = _ := hV 12 (by decide)
                obtain ⟨gn, xs, v10, hbx, hxs, hxl⟩ := hV 11 (by decide)
                rw [v8] at hxs
                replace hxs : [.int .i64 q3, .string s3] = xs := hxs
                subst hxs
                have HP1 := Lib.hid (HREL.out.below hbw)
                have e0 : w1.cell? ⟨gn, 0, none⟩ = some (.int .i64 q3) := hbx.cell 0
                have e1 : w1.cell? ⟨gn, 1, none⟩ = some (.string s3) := hbx.cell 1
                have e2 : w1.cell? ⟨wa.heap.size, 0, none⟩ = some (.int .i64 q') := HP1.out.at_.cell 0
                have e3 : w1.cell? ⟨wa.heap.size, 1, none⟩ = some (.string s') := HP1.out.at_.cell 1
                have f2 : w1.frozen? ⟨wa.heap.size, 0, none⟩ = false := HP1.out.at_.free 0
                have f3 : w1.frozen? ⟨wa.heap.size, 1, none⟩ = false := HP1.out.at_.free 1
                subst hG
                generalize hKK : Exit.then _ _ = KK
                simp only [putAll, v0, v1, v2, v3, v4, v5, v6, v7, v8, v9, v10, v12]
                go_simp
                subst hKK
                clear hV hD hb hbw hW hbx v0 v1 v2 v3 v4 v5 v6 v7 v8 v9 v10 v12
                cases b with
                | false =>
                  clear e0 e1 e2 e3 f2 f3 HREL
                  have HS6 := Lib.hid (HS5.out.below HP1.out.b)
                  have e0 : w1.cell? ⟨g0, 0, none⟩ = some (.int .i64 c) := HS6.out.b0.cell 0
                  have e1 : w1.cell? ⟨g0, 1, none⟩ = some (.slice pv rs.length cv) := HS6.out.b0.cell 1
                  have e2 : w1.cell? ⟨wa.heap.size, 0, none⟩ = some (.int .i64 q') := HP1.out.at_.cell 0
                  have e3 : w1.cell? ⟨wa.heap.size, 1, none⟩ = some (.string s') := HP1.out.at_.cell 1
                  have hsz6 : s'.size ≤ 1000000 := by have := HP1.out.size; omega
                  have hsz7 : s'.size ≤ maxLen := by unfold maxLen; omega
                  go_wp2_with (fail)
                  go_at_call 7
                  refine (proper_any c q' _ s' _ hsz7).mono ?_
                  rintro e w6 ⟨rfl, hb⟩
                  have HP6 := Lib.hid (HP1.out.below hb)
                  clear hb e0 e1 e2 e3 HS6 hsz7
                  cases hpc : confP c q' s'
                  · have HS8 := Lib.hid (HS5.out.below HP6.out.b)
                    clear hpc
                    go_wp2_with (go_at_call 12; refine (HAW.out _).mono ?_; rintro e w9 ⟨rfl, hb⟩; have HB9 := Lib.hid hb; clear hb)
                    go_ret
                    exact ⟨rfl, HS8.out.bel.trans (HB9.out.mono HS8.out.bel.size)⟩
                  · obtain ⟨b18, hb18⟩ : ∃ b, decide (k ≤ 1000) = b := ⟨_, rfl⟩
                    have hb19 : decide ((k : Int) ≤ 1000) = b18 := by rw [← hb18]; simp; omega
                    have HTK : Hid (∀ w1, SlA w1 (.slice (some ad) l'.length c') (ints l') → SlA w1 (.slice (some ad) k c') (ints (l'.take k))) := fun w1 h => by
                      have := h.take k hk
                      rwa [ints_take] at this
                    have HG2 : Hid (isRunG c rs q1 t1 q' s' (l'.take k) = b18) := by
                      show _ = _
                      have hz : (chkP c rs q1 t1 q' s' == 0) = true := by unfold chkP; simp [HV.out, HC1.out, hpc]
                      have hln : (l'.take k).length = k := by simp; omega
                      unfold isRunG isRunP
                      rw [hz, HP6.out.run, hln, hb18]
                      simp [sameC]
                    clear hpc hb18
                    go_wp2_with (fail)
                    refine wp_region_rel (by kernel_rfl) 104 rfl (by kernel_rfl) [.fix (.agg #[.int .i64 c, .slice pv rs.length cv]), .mem (SysOf 54 w.heap.size c rs), .fix (.agg #[.int .i64 q1, .string t1]), .fix (.agg #[.int .i64 q1, .string t1]), .fix (.agg #[.int .i64 q', .string s']), .fix (.agg #[.int .i64 q', .string s']), .fix (.slice (some ad) l'.length c'), .fix (.int .i64 k), .fix (.slice (some ad) k c'), .fix (.bool b18), .fix (.int .i64 k), .fix (.bool b18), .fix (.bool true), .fix (.bool true), .fix (.bool true), .fix (.bool true), .fix (.bool true)] rfl (stays_sys (TE := 54) (B := w.heap.size) (s := c) (es := rs) ⟨trivial, rfl, trivial, trivial, trivial, trivial, trivial, trivial, trivial, trivial, trivial, trivial, trivial, trivial, trivial, trivial, trivial, trivial⟩) ?hop ?hQ
                    case hop =>
                      intro W hW j o hj vs w1 hb hV
                      have hbw : Below w6.heap.size w6 w1 := by rw [hW] at hb; exact ((Below.refl w6.heap.size w6).drew).trans hb
                      have HPW := Lib.hid (HP6.out.below hbw)
                      have HSW := Lib.hid (HS5.out.below HPW.out.b)
                      have HLW := Lib.hid (HL5.out.below HPW.out.b)
                      have d0 : w1.cell? ⟨g0, 0, none⟩ = some (.int .i64 c) := HSW.out.b0.cell 0
                      have d1 : w1.cell? ⟨g0, 1, none⟩ = some (.slice pv rs.length cv) := HSW.out.b0.cell 1
                      have d2 : w1.cell? ⟨g1, 0, none⟩ = some (.int .i64 q1) := HSW.out.b1.cell 0
                      have d3 : w1.cell? ⟨g1, 1, none⟩ = some (.string t1) := HSW.out.b1.cell 1
                      have d4 : w1.cell? ⟨wa.heap.size, 0, none⟩ = some (.int .i64 q') := HPW.out.at_.cell 0
                      have d5 : w1.cell? ⟨wa.heap.size, 1, none⟩ = some (.string s') := HPW.out.at_.cell 1
                      have hkc : k ≤ c' := by omega
                      clear hW hb hbw
                      have hj' : j < 17 := (List.getElem?_eq_some_iff.1 hj).1
                      rcases (by omega : j = 0 ∨ j = 1 ∨ j = 2 ∨ j = 3 ∨ j = 4 ∨ j = 5 ∨ j = 6 ∨ j = 7 ∨ j = 8 ∨ j = 9 ∨ j = 10 ∨ j = 11 ∨ j = 12 ∨ j = 13 ∨ j = 14 ∨ j = 15 ∨ j = 16) with rfl | rfl | rfl | rfl | rfl | rfl | rfl | rfl | rfl | rfl | rfl | rfl | rfl | rfl | rfl | rfl | rfl
                      · cases hj
                        clear hj'
                        refine .inl ⟨rfl, ?_⟩
                        (try simp [predsR, Region.binds, Vk] at hV)
                        simp only [putAll]
                        generalize hR : Res _ _ vs w1 = R
                        go_simp
                        subst hR
                        exact ⟨rfl, Below.refl _ _⟩
                      · cases hj
                        clear hj'
                        refine .inl ⟨rfl, ?_⟩
                        (try simp [predsR, Region.binds, Vk] at hV)
                        simp only [putAll]
                        generalize hR : Res _ _ vs w1 = R
                        go_simp
                        subst hR
                        refine (system_any c _ rs w1 (HSW.out.slR HSM.out) (by omega)).mono ?_
                        rintro e w2 ⟨v', rfl, hm, hb⟩
                        exact ⟨_, rfl, hm.base HSW.out.bel.size, hb⟩
                      · cases hj
                        clear hj'
                        refine .inl ⟨rfl, ?_⟩
                        (try simp [predsR, Region.binds, Vk] at hV)
                        simp only [putAll]
                        generalize hR : Res _ _ vs w1 = R
                        go_simp
                        subst hR
                        exact ⟨rfl, Below.refl _ _⟩
                      · cases hj
                        clear hj'
                        refine .inl ⟨rfl, ?_⟩
                        (try simp [predsR, Region.binds, Vk] at hV)
                        simp only [putAll]
                        generalize hR : Res _ _ vs w1 = R
                        go_simp
                        subst hR
                        refine (stack_any q1 t1 w1).mono ?_
                        rintro e w2 ⟨rfl, hb⟩
                        exact ⟨_, rfl, rfl, hb⟩
                      · cases hj
                        clear hj'
                        refine .inl ⟨rfl, ?_⟩
                        (try simp [predsR, Region.binds, Vk] at hV)
                        simp only [putAll]
                        generalize hR : Res _ _ vs w1 = R
                        go_simp
                        subst hR
                        exact ⟨rfl, Below.refl _ _⟩
                      · cases hj
                        clear hj'
                        refine .inl ⟨rfl, ?_⟩
                        (try simp [predsR, Region.binds, Vk] at hV)
                        simp only [putAll]
                        generalize hR : Res _ _ vs w1 = R
                        go_simp
                        subst hR
                        refine (stack_any q' s' w1).mono ?_
                        rintro e w2 ⟨rfl, hb⟩
                        exact ⟨_, rfl, rfl, hb⟩
                      · cases hj
                        clear hj'
                        refine .inl ⟨rfl, ?_⟩
                        (try simp [predsR, Region.binds, Vk] at hV)
                        simp only [putAll]
                        generalize hR : Res _ _ vs w1 = R
                        go_simp
                        subst hR
                        exact ⟨rfl, Below.refl _ _⟩
                      · cases hj
                        clear hj'
                        refine .inl ⟨rfl, ?_⟩
                        (try simp [predsR, Region.binds, Vk] at hV)
                        simp only [putAll]
                        generalize hR : Res _ _ vs w1 = R
                        go_simp
                        subst hR
                        exact ⟨rfl, Below.refl _ _⟩
                      · cases hj
                        clear hj'
                        refine .inl ⟨rfl, ?_⟩
                        (try simp [predsR, Region.binds, Vk] at hV)
                        simp only [putAll]
                        generalize hR : Res _ _ vs w1 = R
                        go_simp
                        subst hR
                        exact ⟨rfl, Below.refl _ _⟩
                      · cases hj
                        clear hj'
                        refine .inl ⟨rfl, ?_⟩
                        generalize hG : relUpon _ _ _ = G
                        obtain ⟨vS, v1, hOS⟩ : SysOf 54 w.heap.size c rs (vs 1) w1 := hV 1 (by decide)
                        have v3 : vs 3 = _ := hV 3 (by decide)
                        have v5 : vs 5 = _ := hV 5 (by decide)
                        have v8 : vs 8 = _ := hV 8 (by decide)
                        clear hV
                        subst hG
                        simp only [putAll]
                        generalize hR : Res _ _ vs w1 = R
                        go_simp
                        subst hR
                        refine (isRun_any c q1 q' vS _ rs t1 s' (l'.take k) w1 (OwnK.slR hOS (fun e he => by have := HSM.out e he; unfold maxLen; omega)) (HTK.out w1 HLW.out) (by omega) hsz6 HSM.out).mono ?_
                        rintro e w2 ⟨rfl, hb⟩
                        exact ⟨_, rfl, by rw [HG2.out], hb⟩
                      · cases hj
                        clear hj'
                        refine .inl ⟨rfl, ?_⟩
                        (try simp [predsR, Region.binds, Vk] at hV)
                        simp only [putAll]
                        generalize hR : Res _ _ vs w1 = R
                        go_simp
                        subst hR
                        exact ⟨rfl, Below.refl _ _⟩
                      · cases hj
                        clear hj'
                        refine .inl ⟨rfl, ?_⟩
                        (try simp [predsR, Region.binds, Vk] at hV)
                        simp only [putAll]
                        generalize hR : Res _ _ vs w1 = R
                        go_simp
                        subst hR
                        exact ⟨rfl, Below.refl _ _⟩
                      · cases hj
                        clear hj'
                        refine .inl ⟨rfl, ?_⟩
                        (try simp [predsR, Region.binds, Vk] at hV)
                        simp only [putAll]
                        generalize hR : Res _ _ vs w1 = R
                        go_simp
                        subst hR
                        exact ⟨rfl, Below.refl _ _⟩
                      · cases hj
                        clear hj'
                        refine .inl ⟨rfl, ?_⟩
                        (try simp [predsR, Region.binds, Vk] at hV)
                        simp only [putAll]
                        generalize hR : Res _ _ vs w1 = R
                        go_simp
                        subst hR
                        exact ⟨rfl, Below.refl _ _⟩
                      · cases hj
                        clear hj'
                        refine .inl ⟨rfl, ?_⟩
                        (try simp [predsR, Region.binds, Vk] at hV)
                        simp only [putAll]
                        generalize hR : Res _ _ vs w1 = R
                        go_simp
                        subst hR
                        refine (HAW.out w1).mono ?_
                        rintro e w2 ⟨rfl, hb⟩
                        exact ⟨_, rfl, rfl, hb⟩
                      · cases hj
                        clear hj'
                        refine .inl ⟨rfl, ?_⟩
                        (try simp [predsR, Region.binds, Vk] at hV)
                        simp only [putAll]
                        generalize hR : Res _ _ vs w1 = R
                        go_simp
                        subst hR
                        exact ⟨rfl, Below.refl _ _⟩
                      · cases hj
                        clear hj'
                        refine .inl ⟨rfl, ?_⟩
                        (try simp [predsR, Region.binds, Vk] at hV)
                        simp only [putAll]
                        generalize hR : Res _ _ vs w1 = R
                        go_simp
                        subst hR
                        exact ⟨rfl, Below.refl _ _⟩
                    case hQ =>
                      intro W hW vs w1 hb hV hD
                      have hbw : Below w6.heap.size w6 w1 := by rw [hW] at hb; exact ((Below.refl w6.heap.size w6).drew).trans hb
                      generalize hG : Exit.then _ _ _ _ _ = G
                      have v0 : vs 0 = _ := hV 0 (by decide)
                      have v2 : vs 2 = _ := hV 2 (by decide)
                      have v3 : vs 3 = _ := hV 3 (by decide)
                      have v4 : vs 4 = _ := hV 4 (by decide)
                      have v5 : vs 5 = _ := hV 5 (by decide)
                      have v6 : vs 6 = _ := hV 6 (by decide)
                      have v7 : vs 7 = _ := hV 7 (by decide)
                      have v8 : vs 8 = _ := hV 8 (by decide)
                      have v9 : vs 9 = _ := hV 9 (by decide)
                      have v10 : vs 10 = _ := hV 10 (by decide)
                      have v11 : vs 11 = _ := hV 11 (by decide)
                      have v12 : vs 12 = _ := hV 12 (by decide)
                      have v13 : vs 13 = _ := hV 13 (by decide)
                      have v14 : vs 14 = _ := hV 14 (by decide)
                      have v15 : vs 15 = _ := hV 15 (by decide)
                      have v16 : vs 16 = _ := hV 16 (by decide)
                      obtain ⟨x1, hx1, hox⟩ : SysOf 54 w.heap.size c rs (vs 1) w1 := hV 1 (by decide)
                      obtain ⟨px, cx, rfl, _, _⟩ := OwnK.len hox
                      have HB7 := Lib.hid (HS5.out.below (HP6.out.below hbw).b).bel
                      subst hG
                      generalize hKK : Exit.then _ _ = KK
                      simp only [putAll, hx1, v0, v2, v3, v4, v5, v6, v7, v8, v9, v10, v11, v12, v13, v14, v15, v16]
                      go_simp
                      subst hKK
                      clear hV hD hb hbw hW hx1 hox v0 v2 v3 v4 v5 v6 v7 v8 v9 v10 v11 v12 v13 v14 v15 v16
                      go_wp2_with (fail)
                      go_ret
                      exact ⟨rfl, HB7.out⟩
                | true =>
                  have hst := HSOME.out rfl
                  have hrun : runP rs (q1, t1) (l'.take (k + 1)) = some (q3, s3) := by rw [HRS.out, hst]
                  have hsz : s3.size ≤ 21 + 4 * (k + 1) := by have := stepP_size hst HSM.out; have := HP1.out.size; dsimp only at *; omega
                  have HNEW : Hid (LoopSt wa ((w1.setCell ⟨wa.heap.size, 0, none⟩ (.int .i64 q3)).setCell ⟨wa.heap.size, 1, none⟩ (.string s3)) q1 t1 rs l' (k + 1) q3 s3) :=
                    ⟨(HP1.out.b.setCell (by simp) _).setCell (by simp) _, (HP1.out.at_.store 0 _).store 1 _, hrun, hsz⟩
                  clear hst hrun hsz
                  go_wp2_with (fail)
                  go_roundw
                  case rel => exact ⟨k + 1, q3, s3, by omega, by go_num, HNEW.out⟩
                  case measure => simp [intOf]; omega
            · have HP1 := Lib.hid hrel
              clear hrel
              obtain ⟨wz, hwz⟩ : ∃ wz : World, wz = wr := ⟨_, rfl⟩
              subst hwz
              have HS6 := Lib.hid (HS5.out.below HP1.out.b)
              have e0 : wz.cell? ⟨g0, 0, none⟩ = some (.int .i64 c) := HS6.out.b0.cell 0
              have e1 : wz.cell? ⟨g0, 1, none⟩ = some (.slice pv rs.length cv) := HS6.out.b0.cell 1
              have e2 : wz.cell? ⟨wa.heap.size, 0, none⟩ = some (.int .i64 q') := HP1.out.at_.cell 0
              have e3 : wz.cell? ⟨wa.heap.size, 1, none⟩ = some (.string s') := HP1.out.at_.cell 1
              have hsz6 : s'.size ≤ 1000000 := by have := HP1.out.size; omega
              have hsz7 : s'.size ≤ maxLen := by unfold maxLen; omega
              go_wp2_with (fail)
              go_at_call 7
              refine (proper_any c q' _ s' _ hsz7).mono ?_
              rintro e w6 ⟨rfl, hb⟩
              have HP6 := Lib.hid (HP1.out.below hb)
              clear hb e0 e1 e2 e3 HS6 hsz7
              cases hpc : confP c q' s'
              · have HS8 := Lib.hid (HS5.out.below HP6.out.b)
                clear hpc
                go_wp2_with (go_at_call 12; refine (HAW.out _).mono ?_; rintro e w9 ⟨rfl, hb⟩; have HB9 := Lib.hid hb; clear hb)
                go_ret
                exact ⟨rfl, HS8.out.bel.trans (HB9.out.mono HS8.out.bel.size)⟩
              · obtain ⟨b18, hb18⟩ : ∃ b, decide (k ≤ 1000) = b := ⟨_, rfl⟩
                have hb19 : decide ((k : Int) ≤ 1000) = b18 := by rw [← hb18]; simp; omega
                have HTK : Hid (∀ w1, SlA w1 (.slice p' l'.length c') (ints l') → SlA w1 (.slice p' k c') (ints (l'.take k))) := fun w1 h => by
                  have := h.take k hk
                  rwa [ints_take] at this
                have HG2 : Hid (isRunG c rs q1 t1 q' s' (l'.take k) = b18) := by
                  show _ = _
                  have hz : (chkP c rs q1 t1 q' s' == 0) = true := by unfold chkP; simp [HV.out, HC1.out, hpc]
                  have hln : (l'.take k).length = k := by simp; omega
                  unfold isRunG isRunP
                  rw [hz, HP6.out.run, hln, hb18]
                  simp [sameC]
                clear hpc hb18
                go_wp2_with (fail)
                refine wp_region_rel (by kernel_rfl) 104 rfl (by kernel_rfl) [.fix (.agg #[.int .i64 c, .slice pv rs.length cv]), .mem (SysOf 54 w.heap.size c rs), .fix (.agg #[.int .i64 q1, .string t1]), .fix (.agg #[.int .i64 q1, .string t1]), .fix (.agg #[.int .i64 q', .string s']), .fix (.agg #[.int .i64 q', .string s']), .fix (.slice p' l'.length c'), .fix (.int .i64 k), .fix (.slice p' k c'), .fix (.bool b18), .fix (.int .i64 k), .fix (.bool b18), .fix (.bool true), .fix (.bool true), .fix (.bool true), .fix (.bool true), .fix (.bool true)] rfl (stays_sys (TE := 54) (B := w.heap.size) (s := c) (es := rs) ⟨trivial, rfl, trivial, trivial, trivial, trivial, trivial, trivial, trivial, trivial, trivial, trivial, trivial, trivial, trivial, trivial, trivial, trivial⟩) ?hop ?hQ
                case hop =>
                  intro W hW j o hj vs w1 hb hV
                  have hbw : Below w6.heap.size w6 w1 := by rw [hW] at hb; exact ((Below.refl w6.heap.size w6).drew).trans hb
                  have HPW := Lib.hid (HP6.out.below hbw)
                  have HSW := Lib.hid (HS5.out.below HPW.out.b)
                  have HLW := Lib.hid (HL5.out.below HPW.out.b)
                  have d0 : w1.cell? ⟨g0, 0, none⟩ = some (.int .i64 c) := HSW.out.b0.cell 0
                  have d1 : w1.cell? ⟨g0, 1, none⟩ = some (.slice pv rs.length cv) := HSW.out.b0.cell 1
                  have d2 : w1.cell? ⟨g1, 0, none⟩ = some (.int .i64 q1) := HSW.out.b1.cell 0
                  have d3 : w1.cell? ⟨g1, 1, none⟩ = some (.string t1) := HSW.out.b1.cell 1
                  have d4 : w1.cell? ⟨wa.heap.size, 0, none⟩ = some (.int .i64 q') := HPW.out.at_.cell 0
                  have d5 : w1.cell? ⟨wa.heap.size, 1, none⟩ = some (.string s') := HPW.out.at_.cell 1
                  have hkc : k ≤ c' := by omega
                  clear hW hb hbw
                  have hj' : j < 17 := (List.getElem?_eq_some_iff.1 hj).1
                  rcases (by omega : j = 0 ∨ j = 1 ∨ j = 2 ∨ j = 3 ∨ j = 4 ∨ j = 5 ∨ j = 6 ∨ j = 7 ∨ j = 8 ∨ j = 9 ∨ j = 10 ∨ j = 11 ∨ j = 12 ∨ j = 13 ∨ j = 14 ∨ j = 15 ∨ j = 16) with rfl | rfl | rfl | rfl | rfl | rfl | rfl | rfl | rfl | rfl | rfl | rfl | rfl | rfl | rfl | rfl | rfl
                  · cases hj
                    clear hj'
                    refine .inl ⟨rfl, ?_⟩
                    (try simp [predsR, Region.binds, Vk] at hV)
                    simp only [putAll]
                    generalize hR : Res _ _ vs w1 = R
                    go_simp
                    subst hR
                    exact ⟨rfl, Below.refl _ _⟩
                  · cases hj
                    clear hj'
                    refine .inl ⟨rfl, ?_⟩
                    (try simp [predsR, Region.binds, Vk] at hV)
                    simp only [putAll]
                    generalize hR : Res _ _ vs w1 = R
                    go_simp
                    subst hR
                    refine (system_any c _ rs w1 (HSW.out.slR HSM.out) (by omega)).mono ?_
                    rintro e w2 ⟨v', rfl, hm, hb⟩
                    exact ⟨_, rfl, hm.base HSW.out.bel.size, hb⟩
                  · cases hj
                    clear hj'
                    refine .inl ⟨rfl, ?_⟩
                    (try simp [predsR, Region.binds, Vk] at hV)
                    simp only [putAll]
                    generalize hR : Res _ _ vs w1 = R
                    go_simp
                    subst hR
                    exact ⟨rfl, Below.refl _ _⟩
                  · cases hj
                    clear hj'
                    refine .inl ⟨rfl, ?_⟩
                    (try simp [predsR, Region.binds, Vk] at hV)
                    simp only [putAll]
                    generalize hR : Res _ _ vs w1 = R
                    go_simp
                    subst hR
                    refine (stack_any q1 t1 w1).mono ?_
                    rintro e w2 ⟨rfl, hb⟩
                    exact ⟨_, rfl, rfl, hb⟩
                  · cases hj
                    clear hj'
                    refine .inl ⟨rfl, ?_⟩
                    (try simp [predsR, Region.binds, Vk] at hV)
                    simp only [putAll]
                    generalize hR : Res _ _ vs w1 = R
                    go_simp
                    subst hR
                    exact ⟨rfl, Below.refl _ _⟩
                  · cases hj
                    clear hj'
                    refine .inl ⟨rfl, ?_⟩
                    (try simp [predsR, Region.binds, Vk] at hV)
                    simp only [putAll]
                    generalize hR : Res _ _ vs w1 = R
                    go_simp
                    subst hR
                    refine (stack_any q' s' w1).mono ?_
                    rintro e w2 ⟨rfl, hb⟩
                    exact ⟨_, rfl, rfl, hb⟩
                  · cases hj
                    clear hj'
                    refine .inl ⟨rfl, ?_⟩
                    (try simp [predsR, Region.binds, Vk] at hV)
                    simp only [putAll]
                    generalize hR : Res _ _ vs w1 = R
                    go_simp
                    subst hR
                    exact ⟨rfl, Below.refl _ _⟩
                  · cases hj
                    clear hj'
                    refine .inl ⟨rfl, ?_⟩
                    (try simp [predsR, Region.binds, Vk] at hV)
                    simp only [putAll]
                    generalize hR : Res _ _ vs w1 = R
                    go_simp
                    subst hR
                    exact ⟨rfl, Below.refl _ _⟩
                  · cases hj
                    clear hj'
                    refine .inl ⟨rfl, ?_⟩
                    (try simp [predsR, Region.binds, Vk] at hV)
                    simp only [putAll]
                    generalize hR : Res _ _ vs w1 = R
                    go_simp
                    subst hR
                    exact ⟨rfl, Below.refl _ _⟩
                  · cases hj
                    clear hj'
                    refine .inl ⟨rfl, ?_⟩
                    generalize hG : relUpon _ _ _ = G
                    obtain ⟨vS, v1, hOS⟩ : SysOf 54 w.heap.size c rs (vs 1) w1 := hV 1 (by decide)
                    have v3 : vs 3 = _ := hV 3 (by decide)
                    have v5 : vs 5 = _ := hV 5 (by decide)
                    have v8 : vs 8 = _ := hV 8 (by decide)
                    clear hV
                    subst hG
                    simp only [putAll]
                    generalize hR : Res _ _ vs w1 = R
                    go_simp
                    subst hR
                    refine (isRun_any c q1 q' vS _ rs t1 s' (l'.take k) w1 (OwnK.slR hOS (fun e he => by have := HSM.out e he; unfold maxLen; omega)) (HTK.out w1 HLW.out) (by omega) hsz6 HSM.out).mono ?_
                    rintro e w2 ⟨rfl, hb⟩
                    exact ⟨_, rfl, by rw [HG2.out], hb⟩
                  · cases hj
                    clear hj'
                    refine .inl ⟨rfl, ?_⟩
                    (try simp [predsR, Region.binds, Vk] at hV)
                    simp only [putAll]
                    generalize hR : Res _ _ vs w1 = R
                    go_simp
                    subst hR
                    exact ⟨rfl, Below.refl _ _⟩
                  · cases hj
                    clear hj'
                    refine .inl ⟨rfl, ?_⟩
                    (try simp [predsR, Region.binds, Vk] at hV)
                    simp only [putAll]
                    generalize hR : Res _ _ vs w1 = R
                    go_simp
                    subst hR
                    exact ⟨rfl, Below.refl _ _⟩
                  · cases hj
                    clear hj'
                    refine .inl ⟨rfl, ?_⟩
                    (try simp [predsR, Region.binds, Vk] at hV)
                    simp only [putAll]
                    generalize hR : Res _ _ vs w1 = R
                    go_simp
                    subst hR
                    exact ⟨rfl, Below.refl _ _⟩
                  · cases hj
                    clear hj'
                    refine .inl ⟨rfl, ?_⟩
                    (try simp [predsR, Region.binds, Vk] at hV)
                    simp only [putAll]
                    generalize hR : Res _ _ vs w1 = R
                    go_simp
                    subst hR
                    exact ⟨rfl, Below.refl _ _⟩
                  · cases hj
                    clear hj'
                    refine .inl ⟨rfl, ?_⟩
                    (try simp [predsR, Region.binds, Vk] at hV)
                    simp only [putAll]
                    generalize hR : Res _ _ vs w1 = R
                    go_simp
                    subst hR
                    refine (HAW.out w1).mono ?_
                    rintro e w2 ⟨rfl, hb⟩
                    exact ⟨_, rfl, rfl, hb⟩
                  · cases hj
                    clear hj'
                    refine .inl ⟨rfl, ?_⟩
                    (try simp [predsR, Region.binds, Vk] at hV)
                    simp only [putAll]
                    generalize hR : Res _ _ vs w1 = R
                    go_simp
                    subst hR
                    exact ⟨rfl, Below.refl _ _⟩
                  · cases hj
                    clear hj'
                    refine .inl ⟨rfl, ?_⟩
                    (try simp [predsR, Region.binds, Vk] at hV)
                    simp only [putAll]
                    generalize hR : Res _ _ vs w1 = R
                    go_simp
                    subst hR
                    exact ⟨rfl, Below.refl _ _⟩
                case hQ =>
                  intro W hW vs w1 hb hV hD
                  have hbw : Below w6.heap.size w6 w1 := by rw [hW] at hb; exact ((Below.refl w6.heap.size w6).drew).trans hb
                  generalize hG : Exit.then _ _ _ _ _ = G
                  have v0 : vs 0 = _ := hV 0 (by decide)
                  have v2 : vs 2 = _ := hV 2 (by decide)
                  have v3 : vs 3 = _ := hV 3 (by decide)
                  have v4 : vs 4 = _ := hV 4 (by decide)
                  have v5 : vs 5 = _ := hV 5 (by decide)
                  have v6 : vs 6 = _ := hV 6 (by decide)
                  have v7 : vs 7 = _ := hV 7 (by decide)
                  have v8 : vs 8 = _ := hV 8 (by decide)
                  have v9 : vs 9 = _ := hV 9 (by decide)
                  have v10 : vs 10 = _ := hV 10 (by decide)
                  have v11 : vs 11 = _ := hV 11 (by decide)
                  have v12 : vs 12 = _ := hV 12 (by decide)
                  have v13 : vs 13 = _ := hV 13 (by decide)
                  have v14 : vs 14 = _ := hV 14 (by decide)
                  have v15 : vs 15 = _ := hV 15 (by decide)
                  have v16 : vs 16 = _ := hV 16 (by decide)
                  obtain ⟨x1, hx1, hox⟩ : SysOf 54 w.heap.size c rs (vs 1) w1 := hV 1 (by decide)
                  obtain ⟨px, cx, rfl, _, _⟩ := OwnK.len hox
                  have HB7 := Lib.hid (HS5.out.below (HP6.out.below hbw).b).bel
                  subst hG
                  generalize hKK : Exit.then _ _ = KK
                  simp only [putAll, hx1, v0, v2, v3, v4, v5, v6, v7, v8, v9, v10, v11, v12, v13, v14, v15, v16]
                  go_simp
                  subst hKK
                  clear hV hD hb hbw hW hx1 hox v0 v2 v3 v4 v5 v6 v7 v8 v9 v10 v11 v12 v13 v14 v15 v16
                  go_wp2_with (fail)
                  go_ret
                  exact ⟨rfl, HB7.out⟩



    · have h4' : (l.length : Int) ≤ 1001 := by omega
      have HLN := Lib.hid (HL.out.below HST.out.bel)
      go_wp2_with (at_builtin; refine wpList_append_sl _ rfl (.tmp 24) (.tmp 29) 29 rfl 3 (.int .i64 0) 8 Try.underlying29 Try.info3 rfl w1.heap.size (.slice none 0 0) [] rfl (World.ownsRow_nil _ _ _ _) (.slice pl l.length capl) (ints l) rfl HLN.out (ints_one _) ?c1 ?c2 (Nat.le_refl _) ?_)
      case c1 => simp [ints_length, maxLen]; omega
      case c2 => simp [ints_length]; omega
      intro v' w' hown hgr
      obtain ⟨l', hl', hl1⟩ : ∃ l', l' = l ∧ l'.length ≤ 1001 := ⟨l, rfl, by omega⟩
      rw [← hl'] at hown
      have hb' := (Below.refl w1.heap.size w1).grown hgr (Nat.le_refl _) (fun k hk => by cases hk)
      have HS2 := Lib.hid (HST.out.below hb')
      have HL2 := Lib.hid (Own.sl hown).toA
      obtain ⟨p', c', rfl, hc1', hc2'⟩ := HL2.out.form
      clear hown hgr hb' hl' HLN HST HL
      have e0 : w'.cell? ⟨g0, 0, none⟩ = some (.int .i64 c) := HS2.out.b0.cell 0
      have e1 : w'.cell? ⟨g0, 1, none⟩ = some (.slice pv (ownR es).length cv) := HS2.out.b0.cell 1
      have hk1 : (cutC s1).size ≤ 21 := cutC_size s1
      have hk2 : (cutC s2).size ≤ 21 := cutC_size s2
      obtain ⟨t1, ht1⟩ : ∃ t, cutC s1 = t := ⟨_, rfl⟩
      obtain ⟨t2, ht2⟩ : ∃ t, cutC s2 = t := ⟨_, rfl⟩
      obtain ⟨rs, hrs⟩ : ∃ rs, ownR es = rs := ⟨_, rfl⟩
      rw [ht1] at hk1 HS2
      rw [ht2] at hk2 HS2
      rw [hrs] at HS2 HSM HLEN hcv1 e1
      have hrl : rs.length ≤ 31 := by have := HLEN.out; omega
      rw [ht1, ht2, hrs]
      clear ht1 ht2 hrs HLEN HE HR0 HR1 HB0
      have hds1 : t1.size ≤ maxLen := by unfold maxLen; omega
      have hds2 : t2.size ≤ maxLen := by unfold maxLen; omega
      go_wp2_with (fail)
      go_at_call 6
      refine (checkR_any c _ rs _ (HS2.out.slR HSM.out)).mono ?_
      rintro e w2 ⟨rfl, hb⟩
      have HS3 := Lib.hid (HS2.out.below hb)
      have HL3 := Lib.hid (HL2.out.below hb)
      clear hb e0 e1 HS2 HL2
      have e0 : w2.cell? ⟨g0, 0, none⟩ = some (.int .i64 c) := HS3.out.b0.cell 0
      have e1 : w2.cell? ⟨g0, 1, none⟩ = some (.slice pv rs.length cv) := HS3.out.b0.cell 1
      have e2 : w2.cell? ⟨g1, 0, none⟩ = some (.int .i64 q1) := HS3.out.b1.cell 0
      have e3 : w2.cell? ⟨g1, 1, none⟩ = some (.string t1) := HS3.out.b1.cell 1
      cases hv : validP c rs
      · go_wp2_with (fail)
        clear e0 e1 e2 e3
        have HG : Hid (isRunG c rs q1 t1 q2 t2 l' = false) := by
          show _ = _
          have hz : (chkP c rs q1 t1 q2 t2 == 0) = false := by unfold chkP; simp [hv]
          unfold isRunG; rw [hz]; rfl
        refine wp_region_rel (by kernel_rfl) 104 rfl (by kernel_rfl) [.fix (.agg #[.int .i64 c, .slice pv rs.length cv]), .mem (SysOf 54 w.heap.size c rs), .fix (.agg #[.int .i64 q1, .string t1]), .fix (.agg #[.int .i64 q1, .string t1]), .fix (.agg #[.int .i64 q2, .string t2]), .fix (.agg #[.int .i64 q2, .string t2]), .fix (.slice p' l'.length c'), .fix (.bool false), .fix (.bool false), .fix (.bool false), .fix undef, .fix undef, .fix undef, .fix undef, .fix undef, .fix (.bool false), .fix (.bool false)] rfl (stays_sys (TE := 54) (B := w.heap.size) (s := c) (es := rs) ⟨trivial, rfl, trivial, trivial, trivial, trivial, trivial, trivial, trivial, trivial, trivial, trivial, trivial, trivial, trivial, trivial, trivial, trivial⟩) ?hop ?hQ
        case hop =>
          intro W hW j o hj vs w1 hb hV
          have hbw : Below w2.heap.size w2 w1 := by rw [hW] at hb; exact ((Below.refl w2.heap.size w2).drew).trans hb
          have HSW := Lib.hid (HS3.out.below hbw)
          have HLW := Lib.hid (HL3.out.below hbw)
          have d0 : w1.cell? ⟨g0, 0, none⟩ = some (.int .i64 c) := HSW.out.b0.cell 0
          have d1 : w1.cell? ⟨g0, 1, none⟩ = some (.slice pv rs.length cv) := HSW.out.b0.cell 1
          have d2 : w1.cell? ⟨g1, 0, none⟩ = some (.int .i64 q1) := HSW.out.b1.cell 0
          have d3 : w1.cell? ⟨g1, 1, none⟩ = some (.string t1) := HSW.out.b1.cell 1
          have d4 : w1.cell? ⟨g2, 0, none⟩ = some (.int .i64 q2) := HSW.out.b2.cell 0
          have d5 : w1.cell? ⟨g2, 1, none⟩ = some (.string t2) := HSW.out.b2.cell 1
          clear hW hb hbw
          have hj' : j < 17 := (List.getElem?_eq_some_iff.1 hj).1
          rcases (by omega : j = 0 ∨ j = 1 ∨ j = 2 ∨ j = 3 ∨ j = 4 ∨ j = 5 ∨ j = 6 ∨ j = 7 ∨ j = 8 ∨ j = 9 ∨ j = 10 ∨ j = 11 ∨ j = 12 ∨ j = 13 ∨ j = 14 ∨ j = 15 ∨ j = 16) with rfl | rfl | rfl | rfl | rfl | rfl | rfl | rfl | rfl | rfl | rfl | rfl | rfl | rfl | rfl | rfl | rfl
          · cases hj
            clear hj'
            refine .inl ⟨rfl, ?_⟩
            (try simp [predsR, Region.binds, Vk] at hV)
            simp only [putAll]
            generalize hR : Res _ _ vs w1 = R
            go_simp
            subst hR
            exact ⟨rfl, Below.refl _ _⟩
          · cases hj
            clear hj'
            refine .inl ⟨rfl, ?_⟩
            (try simp [predsR, Region.binds, Vk] at hV)
            simp only [putAll]
            generalize hR : Res _ _ vs w1 = R
            go_simp
            subst hR
            refine (system_any c _ rs w1 (HSW.out.slR HSM.out) (by omega)).mono ?_
            rintro e w2 ⟨v', rfl, hm, hb⟩
            exact ⟨_, rfl, hm.base HSW.out.bel.size, hb⟩
          · cases hj
            clear hj'
            refine .inl ⟨rfl, ?_⟩
            (try simp [predsR, Region.binds, Vk] at hV)
            simp only [putAll]
            generalize hR : Res _ _ vs w1 = R
            go_simp
            subst hR
            exact ⟨rfl, Below.refl _ _⟩
          · cases hj
            clear hj'
            refine .inl ⟨rfl, ?_⟩
            (try simp [predsR, Region.binds, Vk] at hV)
            simp only [putAll]
            generalize hR : Res _ _ vs w1 = R
            go_simp
            subst hR
            refine (stack_any q1 t1 w1).mono ?_
            rintro e w2 ⟨rfl, hb⟩
            exact ⟨_, rfl, rfl, hb⟩
          · cases hj
            clear hj'
            refine .inl ⟨rfl, ?_⟩
            (try simp [predsR, Region.binds, Vk] at hV)
            simp only [putAll]
            generalize hR : Res _ _ vs w1 = R
            go_simp
            subst hR
            exact ⟨rfl, Below.refl _ _⟩
          · cases hj
            clear hj'
            refine .inl ⟨rfl, ?_⟩
            (try simp [predsR, Region.binds, Vk] at hV)
            simp only [putAll]
            generalize hR : Res _ _ vs w1 = R
            go_simp
            subst hR
            refine (stack_any q2 t2 w1).mono ?_
            rintro e w2 ⟨rfl, hb⟩
            exact ⟨_, rfl, rfl, hb⟩
          · cases hj
            clear hj'
            refine .inl ⟨rfl, ?_⟩
            (try simp [predsR, Region.binds, Vk] at hV)
            simp only [putAll]
            generalize hR : Res _ _ vs w1 = R
            go_simp
            subst hR
            exact ⟨rfl, Below.refl _ _⟩
          · cases hj
            clear hj'
            refine .inl ⟨rfl, ?_⟩
            generalize hG : relUpon _ _ _ = G
            obtain ⟨vS, v1, hOS⟩ : SysOf 54 w.heap.size c rs (vs 1) w1 := hV 1 (by decide)
            have v3 : vs 3 = _ := hV 3 (by decide)
            have v5 : vs 5 = _ := hV 5 (by decide)
            have v6 : vs 6 = _ := hV 6 (by decide)
            clear hV
            subst hG
            simp only [putAll]
            generalize hR : Res _ _ vs w1 = R
            go_simp
            subst hR
            refine (isRun_any c q1 q2 vS _ rs t1 t2 l' w1 (OwnK.slR hOS (fun e he => by have := HSM.out e he; unfold maxLen; omega)) (HLW.out) (by omega) (by omega) HSM.out).mono ?_
            rintro e w2 ⟨rfl, hb⟩
            exact ⟨_, rfl, by rw [HG.out], hb⟩
          · cases hj
            clear hj'
            refine .inl ⟨rfl, ?_⟩
            (try simp [predsR, Region.binds, Vk] at hV)
            simp only [putAll]
            generalize hR : Res _ _ vs w1 = R
            go_simp
            subst hR
            exact ⟨rfl, Below.refl _ _⟩
          · cases hj
            clear hj'
            refine .inl ⟨rfl, ?_⟩
            (try simp [predsR, Region.binds, Vk] at hV)
            simp only [putAll]
            generalize hR : Res _ _ vs w1 = R
            go_simp
            subst hR
            exact ⟨rfl, Below.refl _ _⟩
          · cases hj
            clear hj'
            exact .inr ⟨rfl, rfl⟩
          · cases hj
            clear hj'
            exact .inr ⟨rfl, rfl⟩
          · cases hj
            clear hj'
            exact .inr ⟨rfl, rfl⟩
          · cases hj
            clear hj'
            exact .inr ⟨rfl, rfl⟩
          · cases hj
            clear hj'
            exact .inr ⟨rfl, rfl⟩
          · cases hj
            clear hj'
            refine .inl ⟨rfl, ?_⟩
            (try simp [predsR, Region.binds, Vk] at hV)
            simp only [putAll]
            generalize hR : Res _ _ vs w1 = R
            go_simp
            subst hR
            exact ⟨rfl, Below.refl _ _⟩
          · cases hj
            clear hj'
            refine .inl ⟨rfl, ?_⟩
            (try simp [predsR, Region.binds, Vk] at hV)
            simp only [putAll]
            generalize hR : Res _ _ vs w1 = R
            go_simp
            subst hR
            exact ⟨rfl, Below.refl _ _⟩
        case hQ =>
          intro W hW vs w1 hb hV hD
          have hbw : Below w2.heap.size w2 w1 := by rw [hW] at hb; exact ((Below.refl w2.heap.size w2).drew).trans hb
          generalize hG : Exit.then _ _ _ _ _ = G
          have v0 : vs 0 = _ := hV 0 (by decide)
          have v2 : vs 2 = _ := hV 2 (by decide)
          have v3 : vs 3 = _ := hV 3 (by decide)
          have v4 : vs 4 = _ := hV 4 (by decide)
          have v5 : vs 5 = _ := hV 5 (by decide)
          have v6 : vs 6 = _ := hV 6 (by decide)
          have v7 : vs 7 = _ := hV 7 (by decide)
          have v8 : vs 8 = _ := hV 8 (by decide)
          have v9 : vs 9 = _ := hV 9 (by decide)
          have v10 : vs 10 = _ := hV 10 (by decide)
          have v11 : vs 11 = _ := hV 11 (by decide)
          have v12 : vs 12 = _ := hV 12 (by decide)
          have v13 : vs 13 = _ := hV 13 (by decide)
          have v14 : vs 14 = _ := hV 14 (by decide)
          have v15 : vs 15 = _ := hV 15 (by decide)
          have v16 : vs 16 = _ := hV 16 (by decide)
          obtain ⟨x1, hx1, hox⟩ : SysOf 54 w.heap.size c rs (vs 1) w1 := hV 1 (by decide)
          obtain ⟨px, cx, rfl, _, _⟩ := OwnK.len hox
          have HS5 := Lib.hid (HS3.out.below hbw)
          have HL5 := Lib.hid (HL3.out.below hbw)
          subst hG
          generalize hKK : Exit.then _ _ = KK
          simp only [putAll, hx1, v0, v2, v3, v4, v5, v6, v7, v8, v9, v10, v11, v12, v13, v14, v15, v16]
          go_simp
          subst hKK
          clear hV hD hb hbw hW hx1 hox v0 v2 v3 v4 v5 v6 v7 v8 v9 v10 v11 v12 v13 v14 v15 v16
          go_wp2_with (go_at_call 12; refine (HAW.out _).mono ?_; rintro e w9 ⟨rfl, hb⟩; have HB9 := Lib.hid hb; clear hb)
          go_ret
          exact ⟨rfl, HS5.out.bel.trans (HB9.out.mono HS5.out.bel.size)⟩

      go_wp2_with (fail)
      go_at_call 7
      refine (proper_any c q1 _ t1 _ hds1).mono ?_
      rintro e w3 ⟨rfl, hb⟩
      replace HS3 := Lib.hid (HS3.out.below hb)
      replace HL3 := Lib.hid (HL3.out.below hb)
      clear hb e0 e1 e2 e3
      obtain ⟨w2, hw2⟩ : ∃ w2, w3 = w2 := ⟨_, rfl⟩
      subst hw2
      have e0 : w3.cell? ⟨g0, 0, none⟩ = some (.int .i64 c) := HS3.out.b0.cell 0
      have e1 : w3.cell? ⟨g0, 1, none⟩ = some (.slice pv rs.length cv) := HS3.out.b0.cell 1
      have e2 : w3.cell? ⟨g2, 0, none⟩ = some (.int .i64 q2) := HS3.out.b2.cell 0
      have e3 : w3.cell? ⟨g2, 1, none⟩ = some (.string t2) := HS3.out.b2.cell 1
      cases hc1 : confP c q1 t1
      · go_wp2_with (fail)
        clear e0 e1 e2 e3
        obtain ⟨w2, hw2⟩ : ∃ w2 : World, w2 = w3 := ⟨_, rfl⟩
        subst hw2
        have HG : Hid (isRunG c rs q1 t1 q2 t2 l' = false) := by
          show _ = _
          have hz : (chkP c rs q1 t1 q2 t2 == 0) = false := by unfold chkP; simp [hv, hc1]
          unfold isRunG; rw [hz]; rfl
        refine wp_region_rel (by kernel_rfl) 104 rfl (by kernel_rfl) [.fix (.agg #[.int .i64 c, .slice pv rs.length cv]), .mem (SysOf 54 w.heap.size c rs), .fix (.agg #[.int .i64 q1, .string t1]), .fix (.agg #[.int .i64 q1, .string t1]), .fix (.agg #[.int .i64 q2, .string t2]), .fix (.agg #[.int .i64 q2, .string t2]), .fix (.slice p' l'.length c'), .fix (.bool false), .fix (.bool false), .fix (.bool false), .fix undef, .fix undef, .fix undef, .fix undef, .fix undef, .fix (.bool false), .fix (.bool false)] rfl (stays_sys (TE := 54) (B := w.heap.size) (s := c) (es := rs) ⟨trivial, rfl, trivial, trivial, trivial, trivial, trivial, trivial, trivial, trivial, trivial, trivial, trivial, trivial, trivial, trivial, trivial, trivial⟩) ?hop ?hQ
        case hop =>
          intro W hW j o hj vs w1 hb hV
          have hbw : Below w2.heap.size w2 w1 := by rw [hW] at hb; exact ((Below.refl w2.heap.size w2).drew).trans hb
          have HSW := Lib.hid (HS3.out.below hbw)
          have HLW := Lib.hid (HL3.out.below hbw)
          have d0 : w1.cell? ⟨g0, 0, none⟩ = some (.int .i64 c) := HSW.out.b0.cell 0
          have d1 : w1.cell? ⟨g0, 1, none⟩ = some (.slice pv rs.length cv) := HSW.out.b0.cell 1
          have d2 : w1.cell? ⟨g1, 0, none⟩ = some (.int .i64 q1) := HSW.out.b1.cell 0
          have d3 : w1.cell? ⟨g1, 1, none⟩ = some (.string t1) := HSW.out.b1.cell 1
          have d4 : w1.cell? ⟨g2, 0, none⟩ = some (.int .i64 q2) := HSW.out.b2.cell 0
          have d5 : w1.cell? ⟨g2, 1, none⟩ = some (.string t2) := HSW.out.b2.cell 1
          clear hW hb hbw
          have hj' : j < 17 := (List.getElem?_eq_some_iff.1 hj).1
          rcases (by omega : j = 0 ∨ j = 1 ∨ j = 2 ∨ j = 3 ∨ j = 4 ∨ j = 5 ∨ j = 6 ∨ j = 7 ∨ j = 8 ∨ j = 9 ∨ j = 10 ∨ j = 11 ∨ j = 12 ∨ j = 13 ∨ j = 14 ∨ j = 15 ∨ j = 16) with rfl | rfl | rfl | rfl | rfl | rfl | rfl | rfl | rfl | rfl | rfl | rfl | rfl | rfl | rfl | rfl | rfl
          · cases hj
            clear hj'
            refine .inl ⟨rfl, ?_⟩
            (try simp [predsR, Region.binds, Vk] at hV)
            simp only [putAll]
            generalize hR : Res _ _ vs w1 = R
            go_simp
            subst hR
            exact ⟨rfl, Below.refl _ _⟩
          · cases hj
            clear hj'
            refine .inl ⟨rfl, ?_⟩
            (try simp [predsR, Region.binds, Vk] at hV)
            simp only [putAll]
            generalize hR : Res _ _ vs w1 = R
            go_simp
            subst hR
            refine (system_any c _ rs w1 (HSW.out.slR HSM.out) (by omega)).mono ?_
            rintro e w2 ⟨v', rfl, hm, hb⟩
            exact ⟨_, rfl, hm.base HSW.out.bel.size, hb⟩
          · cases hj
            clear hj'
            refine .inl ⟨rfl, ?_⟩
            (try simp [predsR, Region.binds, Vk] at hV)
            simp only [putAll]
            generalize hR : Res _ _ vs w1 = R
            go_simp
            subst hR
            exact ⟨rfl, Below.refl _ _⟩
          · cases hj
            clear hj'
            refine .inl ⟨rfl, ?_⟩
            (try simp [predsR, Region.binds, Vk] at hV)
            simp only [putAll]
            generalize hR : Res _ _ vs w1 = R
            go_simp
            subst hR
            refine (stack_any q1 t1 w1).mono ?_
            rintro e w2 ⟨rfl, hb⟩
            exact ⟨_, rfl, rfl, hb⟩
          · cases hj
            clear hj'
            refine .inl ⟨rfl, ?_⟩
            (try simp [predsR, Region.binds, Vk] at hV)
            simp only [putAll]
            generalize hR : Res _ _ vs w1 = R
            go_simp
            subst hR
            exact ⟨rfl, Below.refl _ _⟩
          · cases hj
            clear hj'
            refine .inl ⟨rfl, ?_⟩
            (try simp [predsR, Region.binds, Vk] at hV)
            simp only [putAll]
            generalize hR : Res _ _ vs w1 = R
            go_simp
            subst hR
            refine (stack_any q2 t2 w1).mono ?_
            rintro e w2 ⟨rfl, hb⟩
            exact ⟨_, rfl, rfl, hb⟩
          · cases hj
            clear hj'
            refine .inl ⟨rfl, ?_⟩
            (try simp [predsR, Region.binds, Vk] at hV)
            simp only [putAll]
            generalize hR : Res _ _ vs w1 = R
            go_simp
            subst hR
            exact ⟨rfl, Below.refl _ _⟩
          · cases hj
            clear hj'
            refine .inl ⟨rfl, ?_⟩
            generalize hG : relUpon _ _ _ = G
            obtain ⟨vS, v1, hOS⟩ : SysOf 54 w.heap.size c rs (vs 1) w1 := hV 1 (by decide)
            have v3 : vs 3 = _ := hV 3 (by decide)
            have v5 : vs 5 = _ := hV 5 (by decide)
            have v6 : vs 6 = _ := hV 6 (by decide)
            clear hV
            subst hG
            simp only [putAll]
            generalize hR : Res _ _ vs w1 = R
            go_simp
            subst hR
            refine (isRun_any c q1 q2 vS _ rs t1 t2 l' w1 (OwnK.slR hOS (fun e he => by have := HSM.out e he; unfold maxLen; omega)) (HLW.out) (by omega) (by omega) HSM.out).mono ?_
            rintro e w2 ⟨rfl, hb⟩
            exact ⟨_, rfl, by rw [HG.out], hb⟩
          · cases hj
            clear hj'
            refine .inl ⟨rfl, ?_⟩
            (try simp [predsR, Region.binds, Vk] at hV)
            simp only [putAll]
            generalize hR : Res _ _ vs w1 = R
            go_simp
            subst hR
            exact ⟨rfl, Below.refl _ _⟩
          · cases hj
            clear hj'
            refine .inl ⟨rfl, ?_⟩
            (try simp [predsR, Region.binds, Vk] at hV)
            simp only [putAll]
            generalize hR : Res _ _ vs w1 = R
            go_simp
            subst hR
            exact ⟨rfl, Below.refl _ _⟩
          · cases hj
            clear hj'
            exact .inr ⟨rfl, rfl⟩
          · cases hj
            clear hj'
            exact .inr ⟨rfl, rfl⟩
          · cases hj
            clear hj'
            exact .inr ⟨rfl, rfl⟩
          · cases hj
            clear hj'
            exact .inr ⟨rfl, rfl⟩
          · cases hj
            clear hj'
            exact .inr ⟨rfl, rfl⟩
          · cases hj
            clear hj'
            refine .inl ⟨rfl, ?_⟩
            (try simp [predsR, Region.binds, Vk] at hV)
            simp only [putAll]
            generalize hR : Res _ _ vs w1 = R
            go_simp
            subst hR
            exact ⟨rfl, Below.refl _ _⟩
          · cases hj
            clear hj'
            refine .inl ⟨rfl, ?_⟩
            (try simp [predsR, Region.binds, Vk] at hV)
            simp only [putAll]
            generalize hR : Res _ _ vs w1 = R
            go_simp
            subst hR
            exact ⟨rfl, Below.refl _ _⟩
        case hQ =>
          intro W hW vs w1 hb hV hD
          have hbw : Below w2.heap.size w2 w1 := by rw [hW] at hb; exact ((Below.refl w2.heap.size w2).drew).trans hb
          generalize hG : Exit.then _ _ _ _ _ = G
          have v0 : vs 0 = _ := hV 0 (by decide)
          have v2 : vs 2 = _ := hV 2 (by decide)
          have v3 : vs 3 = _ := hV 3 (by decide)
          have v4 : vs 4 = _ := hV 4 (by decide)
          have v5 : vs 5 = _ := hV 5 (by decide)
          have v6 : vs 6 = _ := hV 6 (by decide)
          have v7 : vs 7 = _ := hV 7 (by decide)
          have v8 : vs 8 = _ := hV 8 (by decide)
          have v9 : vs 9 = _ := hV 9 (by decide)
          have v10 : vs 10 = _ := hV 10 (by decide)
          have v11 : vs 11 = _ := hV 11 (by decide)
          have v12 : vs 12 = _ := hV 12 (by decide)
          have v13 : vs 13 = _ := hV 13 (by decide)
          have v14 : vs 14 = _ := hV 14 (by decide)
          have v15 : vs 15 = _ := hV 15 (by decide)
          have v16 : vs 16 = _ := hV 16 (by decide)
          obtain ⟨x1, hx1, hox⟩ : SysOf 54 w.heap.size c rs (vs 1) w1 := hV 1 (by decide)
          obtain ⟨px, cx, rfl, _, _⟩ := OwnK.len hox
          have HS5 := Lib.hid (HS3.out.below hbw)
          have HL5 := Lib.hid (HL3.out.below hbw)
          subst hG
          generalize hKK : Exit.then _ _ = KK
          simp only [putAll, hx1, v0, v2, v3, v4, v5, v6, v7, v8, v9, v10, v11, v12, v13, v14, v15, v16]
          go_simp
          subst hKK
          clear hV hD hb hbw hW hx1 hox v0 v2 v3 v4 v5 v6 v7 v8 v9 v10 v11 v12 v13 v14 v15 v16
          go_wp2_with (go_at_call 12; refine (HAW.out _).mono ?_; rintro e w9 ⟨rfl, hb⟩; have HB9 := Lib.hid hb; clear hb)
          go_ret
          exact ⟨rfl, HS5.out.bel.trans (HB9.out.mono HS5.out.bel.size)⟩

      go_wp2_with (fail)
      go_at_call 7
      refine (proper_any c q2 _ t2 _ hds2).mono ?_
      rintro e w4 ⟨rfl, hb⟩
      replace HS3 := Lib.hid (HS3.out.below hb)
      replace HL3 := Lib.hid (HL3.out.below hb)
      clear hb e0 e1 e2 e3
      cases hc2 : confP c q2 t2
      · go_wp2_with (fail)
        obtain ⟨w2, hw2⟩ : ∃ w2 : World, w2 = w4 := ⟨_, rfl⟩
        subst hw2
        have HG : Hid (isRunG c rs q1 t1 q2 t2 l' = false) := by
          show _ = _
          have hz : (chkP c rs q1 t1 q2 t2 == 0) = false := by unfold chkP; simp [hv, hc1, hc2]
          unfold isRunG; rw [hz]; rfl
        refine wp_region_rel (by kernel_rfl) 104 rfl (by kernel_rfl) [.fix (.agg #[.int .i64 c, .slice pv rs.length cv]), .mem (SysOf 54 w.heap.size c rs), .fix (.agg #[.int .i64 q1, .string t1]), .fix (.agg #[.int .i64 q1, .string t1]), .fix (.agg #[.int .i64 q2, .string t2]), .fix (.agg #[.int .i64 q2, .string t2]), .fix (.slice p' l'.length c'), .fix (.bool false), .fix (.bool false), .fix (.bool false), .fix undef, .fix undef, .fix undef, .fix undef, .fix undef, .fix (.bool false), .fix (.bool false)] rfl (stays_sys (TE := 54) (B := w.heap.size) (s := c) (es := rs) ⟨trivial, rfl, trivial, trivial, trivial, trivial, trivial, trivial, trivial, trivial, trivial, trivial, trivial, trivial, trivial, trivial, trivial, trivial⟩) ?hop ?hQ
        case hop =>
          intro W hW j o hj vs w1 hb hV
          have hbw : Below w2.heap.size w2 w1 := by rw [hW] at hb; exact ((Below.refl w2.heap.size w2).drew).trans hb
          have HSW := Lib.hid (HS3.out.below hbw)
          have HLW := Lib.hid (HL3.out.below hbw)
          have d0 : w1.cell? ⟨g0, 0, none⟩ = some (.int .i64 c) := HSW.out.b0.cell 0
          have d1 : w1.cell? ⟨g0, 1, none⟩ = some (.slice pv rs.length cv) := HSW.out.b0.cell 1
          have d2 : w1.cell? ⟨g1, 0, none⟩ = some (.int .i64 q1) := HSW.out.b1.cell 0
          have d3 : w1.cell? ⟨g1, 1, none⟩ = some (.string t1) := HSW.out.b1.cell 1
          have d4 : w1.cell? ⟨g2, 0, none⟩ = some (.int .i64 q2) := HSW.out.b2.cell 0
          have d5 : w1.cell? ⟨g2, 1, none⟩ = some (.string t2) := HSW.out.b2.cell 1
          clear hW hb hbw
          have hj' : j < 17 := (List.getElem?_eq_some_iff.1 hj).1
          rcases (by omega : j = 0 ∨ j = 1 ∨ j = 2 ∨ j = 3 ∨ j = 4 ∨ j = 5 ∨ j = 6 ∨ j = 7 ∨ j = 8 ∨ j = 9 ∨ j = 10 ∨ j = 11 ∨ j = 12 ∨ j = 13 ∨ j = 14 ∨ j = 15 ∨ j = 16) with rfl | rfl | rfl | rfl | rfl | rfl | rfl | rfl | rfl | rfl | rfl | rfl | rfl | rfl | rfl | rfl | rfl
          · cases hj
            clear hj'
            refine .inl ⟨rfl, ?_⟩
            (try simp [predsR, Region.binds, Vk] at hV)
            simp only [putAll]
            generalize hR : Res _ _ vs w1 = R
            go_simp
            subst hR
            exact ⟨rfl, Below.refl _ _⟩
          · cases hj
            clear hj'
            refine .inl ⟨rfl, ?_⟩
            (try simp [predsR, Region.binds, Vk] at hV)
            simp only [putAll]
            generalize hR : Res _ _ vs w1 = R
            go_simp
            subst hR
            refine (system_any c _ rs w1 (HSW.out.slR HSM.out) (by omega)).mono ?_
            rintro e w2 ⟨v', rfl, hm, hb⟩
            exact ⟨_, rfl, hm.base HSW.out.bel.size, hb⟩
          · cases hj
            clear hj'
            refine .inl ⟨rfl, ?_⟩
            (try simp [predsR, Region.binds, Vk] at hV)
            simp only [putAll]
            generalize hR : Res _ _ vs w1 = R
            go_simp
            subst hR
            exact ⟨rfl, Below.refl _ _⟩
          · cases hj
            clear hj'
            refine .inl ⟨rfl, ?_⟩
            (try simp [predsR, Region.binds, Vk] at hV)
            simp only [putAll]
            generalize hR : Res _ _ vs w1 = R
            go_simp
            subst hR
            refine (stack_any q1 t1 w1).mono ?_
            rintro e w2 ⟨rfl, hb⟩
            exact ⟨_, rfl, rfl, hb⟩
          · cases hj
            clear hj'
            refine .inl ⟨rfl, ?_⟩
            (try simp [predsR, Region.binds, Vk] at hV)
            simp only [putAll]
            generalize hR : Res _ _ vs w1 = R
            go_simp
            subst hR
            exact ⟨rfl, Below.refl _ _⟩
          · cases hj
            clear hj'
            refine .inl ⟨rfl, ?_⟩
            (try simp [predsR, Region.binds, Vk] at hV)
            simp only [putAll]
            generalize hR : Res _ _ vs w1 = R
            go_simp
            subst hR
            refine (stack_any q2 t2 w1).mono ?_
            rintro e w2 ⟨rfl, hb⟩
            exact ⟨_, rfl, rfl, hb⟩
          · cases hj
            clear hj'
            refine .inl ⟨rfl, ?_⟩
            (try simp [predsR, Region.binds, Vk] at hV)
            simp only [putAll]
            generalize hR : Res _ _ vs w1 = R
            go_simp
            subst hR
            exact ⟨rfl, Below.refl _ _⟩
          · cases hj
            clear hj'
            refine .inl ⟨rfl, ?_⟩
            generalize hG : relUpon _ _ _ = G
            obtain ⟨vS, v1, hOS⟩ : SysOf 54 w.heap.size c rs (vs 1) w1 := hV 1 (by decide)
            have v3 : vs 3 = _ := hV 3 (by decide)
            have v5 : vs 5 = _ := hV 5 (by decide)
            have v6 : vs 6 = _ := hV 6 (by decide)
            clear hV
            subst hG
            simp only [putAll]
            generalize hR : Res _ _ vs w1 = R
            go_simp
            subst hR
            refine (isRun_any c q1 q2 vS _ rs t1 t2 l' w1 (OwnK.slR hOS (fun e he => by have := HSM.out e he; unfold maxLen; omega)) (HLW.out) (by omega) (by omega) HSM.out).mono ?_
            rintro e w2 ⟨rfl, hb⟩
            exact ⟨_, rfl, by rw [HG.out], hb⟩
          · cases hj
            clear hj'
            refine .inl ⟨rfl, ?_⟩
            (try simp [predsR, Region.binds, Vk] at hV)
            simp only [putAll]
            generalize hR : Res _ _ vs w1 = R
            go_simp
            subst hR
            exact ⟨rfl, Below.refl _ _⟩
          · cases hj
            clear hj'
            refine .inl ⟨rfl, ?_⟩
            (try simp [predsR, Region.binds, Vk] at hV)
            simp only [putAll]
            generalize hR : Res _ _ vs w1 = R
            go_simp
            subst hR
            exact ⟨rfl, Below.refl _ _⟩
          · cases hj
            clear hj'
            exact .inr ⟨rfl, rfl⟩
          · cases hj
            clear hj'
            exact .inr ⟨rfl, rfl⟩
          · cases hj
            clear hj'
            exact .inr ⟨rfl, rfl⟩
          · cases hj
            clear hj'
            exact .inr ⟨rfl, rfl⟩
          · cases hj
            clear hj'
            exact .inr ⟨rfl, rfl⟩
          · cases hj
            clear hj'
            refine .inl ⟨rfl, ?_⟩
            (try simp [predsR, Region.binds, Vk] at hV)
            simp only [putAll]
            generalize hR : Res _ _ vs w1 = R
            go_simp
            subst hR
            exact ⟨rfl, Below.refl _ _⟩
          · cases hj
            clear hj'
            refine .inl ⟨rfl, ?_⟩
            (try simp [predsR, Region.binds, Vk] at hV)
            simp only [putAll]
            generalize hR : Res _ _ vs w1 = R
            go_simp
            subst hR
            exact ⟨rfl, Below.refl _ _⟩
        case hQ =>
          intro W hW vs w1 hb hV hD
          have hbw : Below w2.heap.size w2 w1 := by rw [hW] at hb; exact ((Below.refl w2.heap.size w2).drew).trans hb
          generalize hG : Exit.then _ _ _ _ _ = G
          have v0 : vs 0 = _ := hV 0 (by decide)
          have v2 : vs 2 = _ := hV 2 (by decide)
          have v3 : vs 3 = _ := hV 3 (by decide)
          have v4 : vs 4 = _ := hV 4 (by decide)
          have v5 : vs 5 = _ := hV 5 (by decide)
          have v6 : vs 6 = _ := hV 6 (by decide)
          have v7 : vs 7 = _ := hV 7 (by decide)
          have v8 : vs 8 = _ := hV 8 (by decide)
          have v9 : vs 9 = _ := hV 9 (by decide)
          have v10 : vs 10 = _ := hV 10 (by decide)
          have v11 : vs 11 = _ := hV 11 (by decide)
          have v12 : vs 12 = _ := hV 12 (by decide)
          have v13 : vs 13 = _ := hV 13 (by decide)
          have v14 : vs 14 = _ := hV 14 (by decide)
          have v15 : vs 15 = _ := hV 15 (by decide)
          have v16 : vs 16 = _ := hV 16 (by decide)
          obtain ⟨x1, hx1, hox⟩ : SysOf 54 w.heap.size c rs (vs 1) w1 := hV 1 (by decide)
          obtain ⟨px, cx, rfl, _, _⟩ := OwnK.len hox
          have HS5 := Lib.hid (HS3.out.below hbw)
          have HL5 := Lib.hid (HL3.out.below hbw)
          subst hG
          generalize hKK : Exit.then _ _ = KK
          simp only [putAll, hx1, v0, v2, v3, v4, v5, v6, v7, v8, v9, v10, v11, v12, v13, v14, v15, v16]
          go_simp
          subst hKK
          clear hV hD hb hbw hW hx1 hox v0 v2 v3 v4 v5 v6 v7 v8 v9 v10 v11 v12 v13 v14 v15 v16
          go_wp2_with (go_at_call 12; refine (HAW.out _).mono ?_; rintro e w9 ⟨rfl, hb⟩; have HB9 := Lib.hid hb; clear hb)
          go_ret
          exact ⟨rfl, HS5.out.bel.trans (HB9.out.mono HS5.out.bel.size)⟩

      · go_wp2_with (fail)
        obtain ⟨w2, hw2⟩ : ∃ w2 : World, w2 = w4 := ⟨_, rfl⟩
        subst hw2
        have hzz : (chkP c rs q1 t1 q2 t2 == 0) = true := by unfold chkP; simp [hv, hc1, hc2]
        obtain ⟨b5, hb5⟩ : ∃ b, isRunP rs (q1, t1) q2 t2 l' = b := ⟨_, rfl⟩
        have HH := Lib.hid hb5
        have HG : Hid (isRunG c rs q1 t1 q2 t2 l' = b5) := by show _ = _; unfold isRunG; rw [hzz, hb5]; rfl
        have HV := Lib.hid hv
        have HC1 := Lib.hid hc1
        clear hb5 hzz hv hc1 hc2 hds1 hds2
        refine wp_region_rel (by kernel_rfl) 104 rfl (by kernel_rfl) [.fix (.agg #[.int .i64 c, .slice pv rs.length cv]), .mem (SysOf 54 w.heap.size c rs), .fix (.agg #[.int .i64 q1, .string t1]), .fix (.agg #[.int .i64 q1, .string t1]), .fix (.agg #[.int .i64 q2, .string t2]), .fix (.agg #[.int .i64 q2, .string t2]), .fix (.slice p' l'.length c'), .fix (.bool b5), .fix (.bool true), .fix (.bool true), .fix (.agg #[.int .i64 c, .slice pv rs.length cv]), .fix (.agg #[.int .i64 q1, .string t1]), .fix (.agg #[.int .i64 q2, .string t2]), .fix (.slice p' l'.length c'), .fix (.bool b5), .fix (.bool b5), .fix (.bool false)] rfl (stays_sys (TE := 54) (B := w.heap.size) (s := c) (es := rs) ⟨trivial, rfl, trivial, trivial, trivial, trivial, trivial, trivial, trivial, trivial, trivial, trivial, trivial, trivial, trivial, trivial, trivial, trivial⟩) ?hop ?hQ
        case hop =>
          intro W hW j o hj vs w1 hb hV
          have hbw : Below w2.heap.size w2 w1 := by rw [hW] at hb; exact ((Below.refl w2.heap.size w2).drew).trans hb
          have HSW := Lib.hid (HS3.out.below hbw)
          have HLW := Lib.hid (HL3.out.below hbw)
          have d0 : w1.cell? ⟨g0, 0, none⟩ = some (.int .i64 c) := HSW.out.b0.cell 0
          have d1 : w1.cell? ⟨g0, 1, none⟩ = some (.slice pv rs.length cv) := HSW.out.b0.cell 1
          have d2 : w1.cell? ⟨g1, 0, none⟩ = some (.int .i64 q1) := HSW.out.b1.cell 0
          have d3 : w1.cell? ⟨g1, 1, none⟩ = some (.string t1) := HSW.out.b1.cell 1
          have d4 : w1.cell? ⟨g2, 0, none⟩ = some (.int .i64 q2) := HSW.out.b2.cell 0
          have d5 : w1.cell? ⟨g2, 1, none⟩ = some (.string t2) := HSW.out.b2.cell 1
          clear hW hb hbw
          have hj' : j < 17 := (List.getElem?_eq_some_iff.1 hj).1
          rcases (by omega : j = 0 ∨ j = 1 ∨ j = 2 ∨ j = 3 ∨ j = 4 ∨ j = 5 ∨ j = 6 ∨ j = 7 ∨ j = 8 ∨ j = 9 ∨ j = 10 ∨ j = 11 ∨ j = 12 ∨ j = 13 ∨ j = 14 ∨ j = 15 ∨ j = 16) with rfl | rfl | rfl | rfl | rfl | rfl | rfl | rfl | rfl | rfl | rfl | rfl | rfl | rfl | rfl | rfl | rfl
          · cases hj
            clear hj'
            refine .inl ⟨rfl, ?_⟩
            (try simp [predsR, Region.binds, Vk] at hV)
            simp only [putAll]
            generalize hR : Res _ _ vs w1 = R
            go_simp
            subst hR
            exact ⟨rfl, Below.refl _ _⟩
          · cases hj
            clear hj'
            refine .inl ⟨rfl, ?_⟩
            (try simp [predsR, Region.binds, Vk] at hV)
            simp only [putAll]
            generalize hR : Res _ _ vs w1 = R
            go_simp
            subst hR
            refine (system_any c _ rs w1 (HSW.out.slR HSM.out) (by omega)).mono ?_
            rintro e w2 ⟨v', rfl, hm, hb⟩
            exact ⟨_, rfl, hm.base HSW.out.bel.size, hb⟩
          · cases hj
            clear hj'
            refine .inl ⟨rfl, ?_⟩
            (try simp [predsR, Region.binds, Vk] at hV)
            simp only [putAll]
            generalize hR : Res _ _ vs w1 = R
            go_simp
            subst hR
            exact ⟨rfl, Below.refl _ _⟩
          · cases hj
            clear hj'
            refine .inl ⟨rfl, ?_⟩
            (try simp [predsR, Region.binds, Vk] at hV)
            simp only [putAll]
            generalize hR : Res _ _ vs w1 = R
            go_simp
            subst hR
            refine (stack_any q1 t1 w1).mono ?_
            rintro e w2 ⟨rfl, hb⟩
            exact ⟨_, rfl, rfl, hb⟩
          · cases hj
            clear hj'
            refine .inl ⟨rfl, ?_⟩
            (try simp [predsR, Region.binds, Vk] at hV)
            simp only [putAll]
            generalize hR : Res _ _ vs w1 = R
            go_simp
            subst hR
            exact ⟨rfl, Below.refl _ _⟩
          · cases hj
            clear hj'
            refine .inl ⟨rfl, ?_⟩
            (try simp [predsR, Region.binds, Vk] at hV)
            simp only [putAll]
            generalize hR : Res _ _ vs w1 = R
            go_simp
            subst hR
            refine (stack_any q2 t2 w1).mono ?_
            rintro e w2 ⟨rfl, hb⟩
            exact ⟨_, rfl, rfl, hb⟩
          · cases hj
            clear hj'
            refine .inl ⟨rfl, ?_⟩
            (try simp [predsR, Region.binds, Vk] at hV)
            simp only [putAll]
            generalize hR : Res _ _ vs w1 = R
            go_simp
            subst hR
            exact ⟨rfl, Below.refl _ _⟩
          · cases hj
            clear hj'
            refine .inl ⟨rfl, ?_⟩
            generalize hG : relUpon _ _ _ = G
            obtain ⟨vS, v1, hOS⟩ : SysOf 54 w.heap.size c rs (vs 1) w1 := hV 1 (by decide)
            have v3 : vs 3 = _ := hV 3 (by decide)
            have v5 : vs 5 = _ := hV 5 (by decide)
            have v6 : vs 6 = _ := hV 6 (by decide)
            clear hV
            subst hG
            simp only [putAll]
            generalize hR : Res _ _ vs w1 = R
            go_simp
            subst hR
            refine (isRun_any c q1 q2 vS _ rs t1 t2 l' w1 (OwnK.slR hOS (fun e he => by have := HSM.out e he; unfold maxLen; omega)) (HLW.out) (by omega) (by omega) HSM.out).mono ?_
            rintro e w2 ⟨rfl, hb⟩
            exact ⟨_, rfl, by rw [HG.out], hb⟩
          · cases hj
            clear hj'
            refine .inl ⟨rfl, ?_⟩
            (try simp [predsR, Region.binds, Vk] at hV)
            simp only [putAll]
            generalize hR : Res _ _ vs w1 = R
            go_simp
            subst hR
            exact ⟨rfl, Below.refl _ _⟩
          · cases hj
            clear hj'
            refine .inl ⟨rfl, ?_⟩
            (try simp [predsR, Region.binds, Vk] at hV)
            simp only [putAll]
            generalize hR : Res _ _ vs w1 = R
            go_simp
            subst hR
            exact ⟨rfl, Below.refl _ _⟩
          · cases hj
            clear hj'
            refine .inl ⟨rfl, ?_⟩
            (try simp [predsR, Region.binds, Vk] at hV)
            simp only [putAll]
            generalize hR : Res _ _ vs w1 = R
            go_simp
            subst hR
            exact ⟨rfl, Below.refl _ _⟩
          · cases hj
            clear hj'
            refine .inl ⟨rfl, ?_⟩
            (try simp [predsR, Region.binds, Vk] at hV)
            simp only [putAll]
            generalize hR : Res _ _ vs w1 = R
            go_simp
            subst hR
            exact ⟨rfl, Below.refl _ _⟩
          · cases hj
            clear hj'
            refine .inl ⟨rfl, ?_⟩
            (try simp [predsR, Region.binds, Vk] at hV)
            simp only [putAll]
            generalize hR : Res _ _ vs w1 = R
            go_simp
            subst hR
            exact ⟨rfl, Below.refl _ _⟩
          · cases hj
            clear hj'
            refine .inl ⟨rfl, ?_⟩
            (try simp [predsR, Region.binds, Vk] at hV)
            simp only [putAll]
            generalize hR : Res _ _ vs w1 = R
            go_simp
            subst hR
            exact ⟨rfl, Below.refl _ _⟩
          · cases hj
            clear hj'
            refine .inl ⟨rfl, ?_⟩
            (try simp [predsR, Region.binds, Vk] at hV)
            simp only [putAll]
            generalize hR : Res _ _ vs w1 = R
            go_simp
            subst hR
            refine (isRunR_any c q1 q2 _ _ rs t1 t2 l' w1 (HSW.out.slR HSM.out) HLW.out (by omega) HSM.out).mono ?_
            rintro e w2 ⟨rfl, hb⟩
            exact ⟨_, rfl, by rw [HH.out], hb⟩
          · cases hj
            clear hj'
            refine .inl ⟨rfl, ?_⟩
            (try simp [predsR, Region.binds, Vk] at hV)
            simp only [putAll]
            generalize hR : Res _ _ vs w1 = R
            go_simp
            subst hR
            exact ⟨rfl, Below.refl _ _⟩
          · cases hj
            clear hj'
            refine .inl ⟨rfl, ?_⟩
            (try simp [predsR, Region.binds, Vk] at hV)
            simp only [putAll]
            generalize hR : Res _ _ vs w1 = R
            go_simp
            subst hR
            exact ⟨rfl, Below.refl _ _⟩
        case hQ =>
          intro W hW vs w1 hb hV hD
          have hbw : Below w2.heap.size w2 w1 := by rw [hW] at hb; exact ((Below.refl w2.heap.size w2).drew).trans hb
          generalize hG : Exit.then _ _ _ _ _ = G
          have v0 : vs 0 = _ := hV 0 (by decide)
          have v2 : vs 2 = _ := hV 2 (by decide)
          have v3 : vs 3 = _ := hV 3 (by decide)
          have v4 : vs 4 = _ := hV 4 (by decide)
          have v5 : vs 5 = _ := hV 5 (by decide)
          have v6 : vs 6 = _ := hV 6 (by decide)
          have v7 : vs 7 = _ := hV 7 (by decide)
          have v8 : vs 8 = _ := hV 8 (by decide)
          have v9 : vs 9 = _ := hV 9 (by decide)
          have v10 : vs 10 = _ := hV 10 (by decide)
          have v11 : vs 11 = _ := hV 11 (by decide)
          have v12 : vs 12 = _ := hV 12 (by decide)
          have v13 : vs 13 = _ := hV 13 (by decide)
          have v14 : vs 14 = _ := hV 14 (by decide)
          have v15 : vs 15 = _ := hV 15 (by decide)
          have v16 : vs 16 = _ := hV 16 (by decide)
          obtain ⟨x1, hx1, hox⟩ : SysOf 54 w.heap.size c rs (vs 1) w1 := hV 1 (by decide)
          obtain ⟨px, cx, rfl, _, _⟩ := OwnK.len hox
          have HS5 := Lib.hid (HS3.out.below hbw)
          have HL5 := Lib.hid (HL3.out.below hbw)
          subst hG
          generalize hKK : Exit.then _ _ = KK
          simp only [putAll, hx1, v0, v2, v3, v4, v5, v6, v7, v8, v9, v10, v11, v12, v13, v14, v15, v16]
          go_simp
          subst hKK
          clear hV hD hb hbw hW hx1 hox v0 v2 v3 v4 v5 v6 v7 v8 v9 v10 v11 v12 v13 v14 v15 v16
          obtain ⟨wa, hwa⟩ : ∃ wa : World, wa = w1 := ⟨_, rfl⟩
          subst hwa
          have e2 : wa.cell? ⟨g1, 0, none⟩ = some (.int .i64 q1) := HS5.out.b1.cell 0
          have e3 : wa.cell? ⟨g1, 1, none⟩ = some (.string t1) := HS5.out.b1.cell 1
          go_wp2_with (fail)
          clear e2 e3
          go_loopw [13, 14, 15] (fun i _ _ wr => ∃ (k : Nat) (q' : Int) (s' : ByteArray), k ≤ l'.length ∧ i = .int .i64 k ∧ LoopSt wa wr q1 t1 rs l' k q' s') (fun i _ _ _ => l'.length - (intOf i).toNat)
          case atStart => exact ⟨0, q1, t1, Nat.zero_le _, rfl, ⟨box_below _ _, row_new _ _ _, rfl, by omega⟩⟩
          case round =>
            obtain ⟨k, q', s', hk, rfl, hrel⟩ := hrel
            by_cases hlt : k < l'.length
            · obtain ⟨ad, cap', hv2, _, _, hg, hc⟩ := (HL5.out.below hrel.b).int_at k hlt
              cases hv2
              obtain ⟨i, hi⟩ : ∃ i, l'.getD k 0 = i := ⟨_, rfl⟩
              have hrs := runP_succ rs (q1, t1) l' k hlt
              rw [hrel.run, hi] at hrs
              rw [hi] at hc
              have HRS : Hid (runP rs (q1, t1) (l'.take (k + 1)) = stepP rs q' s' i) := hrs
              have HSTEP : Hid (∀ w1, Below wa.heap.size wa w1 → Calls Try.prog 13 #[.agg #[.int .i64 c, .slice pv rs.length cv], .agg #[.int .i64 q', .string s'], .int .i64 i] w1 fun r w' => r = .returned (stepV q' s' (stepP rs q' s' i)) ∧ Below w1.heap.size w1 w') :=
                fun w1 hb => stepR_any c _ rs q' i s' w1 ((HS5.out.slR HSM.out).below hb) (by have := hrel.size; omega) (fun e he => by have := HSM.out e he; omega)
              obtain ⟨q3, s3, b, hv3, hsome, hnone⟩ := stepV_is q' s' (stepP rs q' s' i)
              rw [hv3] at HSTEP
              have HSOME := Lib.hid hsome
              have HREL := Lib.hid hrel
              have HCI : Hid (∀ w1, Below wr.heap.size wr w1 → w1.cell? (ad.add k) = some (.int .i64 i)) := fun w1 hb => (hb.cell (p := ad.add k) (by rw [block_add]; exact hg)).trans hc
              clear hi hrs hrel hv3 hsome hnone hc
              go_wp2_with (fail)
              refine wp_region_rel (by kernel_rfl) 104 rfl (by kernel_rfl) [.fix (.agg #[.int .i64 c, .slice pv rs.length cv]), .fix (.agg #[.int .i64 q', .string s']), .fix (.slice (some ad) l'.length c'), .fix (.int .i64 k), .fix (.pointer (some (ad.add k))), .fix (.int .i64 i), .fix (.tuple #[.agg #[.int .i64 q3, .string s3], .bool b]), .fix (.tuple #[.agg #[.int .i64 q3, .string s3], .bool b]), .fix (.agg #[.int .i64 q3, .string s3]), .fix (.bool b), .box 26 2, .fill 10 8 26 2, .fix (.bool b)] rfl (stays_fix rfl) ?hop ?hQ
              case hop =>
                intro W hW j o hj vs w1 hb hV
                have hbw : Below wr.heap.size wr w1 := by rw [hW] at hb; exact ((Below.refl wr.heap.size wr).drew).trans hb
                have HPW := Lib.hid (HREL.out.below hbw)
                have HSW := Lib.hid (HS5.out.below HPW.out.b)
                have HLW := Lib.hid (HL5.out.below HPW.out.b)
                have d0 : w1.cell? ⟨g0, 0, none⟩ = some (.int .i64 c) := HSW.out.b0.cell 0
                have d1 : w1.cell? ⟨g0, 1, none⟩ = some (.slice pv rs.length cv) := HSW.out.b0.cell 1
                have d2 : w1.cell? ⟨g1, 0, none⟩ = some (.int .i64 q1) := HSW.out.b1.cell 0
                have d3 : w1.cell? ⟨g1, 1, none⟩ = some (.string t1) := HSW.out.b1.cell 1
                have d4 : w1.cell? ⟨wa.heap.size, 0, none⟩ = some (.int .i64 q') := HPW.out.at_.cell 0
                have d5 : w1.cell? ⟨wa.heap.size, 1, none⟩ = some (.string s') := HPW.out.at_.cell 1
                have d6 := HCI.out w1 hbw
                clear hW hb hbw
                have hj' : j < 13 := (List.getElem?_eq_some_iff.1 hj).1
                rcases (by omega : j = 0 ∨ j = 1 ∨ j = 2 ∨ j = 3 ∨ j = 4 ∨ j = 5 ∨ j = 6 ∨ j = 7 ∨ j = 8 ∨ j = 9 ∨ j = 10 ∨ j = 11 ∨ j = 12) with rfl | rfl | rfl | rfl | rfl | rfl | rfl | rfl | rfl | rfl | rfl | rfl | rfl
                · cases hj
                  clear hj'
                  refine .inl ⟨rfl, ?_⟩
                  (try simp [predsR, Region.binds, Vk] at hV)
                  simp only [putAll]
                  generalize hR : Res _ _ vs w1 = R
                  go_simp
                  subst hR
                  exact ⟨rfl, Below.refl _ _⟩
                · cases hj
                  clear hj'
                  refine .inl ⟨rfl, ?_⟩
                  (try simp [predsR, Region.binds, Vk] at hV)
                  simp only [putAll]
                  generalize hR : Res _ _ vs w1 = R
                  go_simp
                  subst hR
                  exact ⟨rfl, Below.refl _ _⟩
                · cases hj
                  clear hj'
                  refine .inl ⟨rfl, ?_⟩
                  (try simp [predsR, Region.binds, Vk] at hV)
                  simp only [putAll]
                  generalize hR : Res _ _ vs w1 = R
                  go_simp
                  subst hR
                  exact ⟨rfl, Below.refl _ _⟩
                · cases hj
                  clear hj'
                  refine .inl ⟨rfl, ?_⟩
                  (try simp [predsR, Region.binds, Vk] at hV)
                  simp only [putAll]
                  generalize hR : Res _ _ vs w1 = R
                  go_simp
                  subst hR
                  exact ⟨rfl, Below.refl _ _⟩
                · cases hj
                  clear hj'
                  refine .inl ⟨rfl, ?_⟩
                  (try simp [predsR, Region.binds, Vk] at hV)
                  simp only [putAll]
                  generalize hR : Res _ _ vs w1 = R
                  go_simp
                  subst hR
                  exact ⟨rfl, Below.refl _ _⟩
                · cases hj
                  clear hj'
                  refine .inl ⟨rfl, ?_⟩
                  (try simp [predsR, Region.binds, Vk] at hV)
                  simp only [putAll]
                  generalize hR : Res _ _ vs w1 = R
                  go_simp
                  subst hR
                  exact ⟨rfl, Below.refl _ _⟩
                · cases hj
                  clear hj'
                  refine .inl ⟨rfl, ?_⟩
                  (try simp [predsR, Region.binds, Vk] at hV)
                  simp only [putAll]
                  generalize hR : Res _ _ vs w1 = R
                  go_simp
                  subst hR
                  refine (HSTEP.out w1 HPW.out.b).mono ?_
                  rintro e w2 ⟨rfl, hb⟩
                  exact ⟨_, rfl, rfl, hb⟩
                · cases hj
                  clear hj'
                  refine .inl ⟨rfl, ?_⟩
                  (try simp [predsR, Region.binds, Vk] at hV)
                  simp only [putAll]
                  generalize hR : Res _ _ vs w1 = R
                  go_simp
                  subst hR
                  exact ⟨rfl, Below.refl _ _⟩
                · cases hj
                  clear hj'
                  refine .inl ⟨rfl, ?_⟩
                  (try simp [predsR, Region.binds, Vk] at hV)
                  simp only [putAll]
                  generalize hR : Res _ _ vs w1 = R
                  go_simp
                  subst hR
                  exact ⟨rfl, Below.refl _ _⟩
                · cases hj
                  clear hj'
                  refine .inl ⟨rfl, ?_⟩
                  (try simp [predsR, Region.binds, Vk] at hV)
                  simp only [putAll]
                  generalize hR : Res _ _ vs w1 = R
                  go_simp
                  subst hR
                  exact ⟨rfl, Below.refl _ _⟩
                · cases hj
                  clear hj'
                  refine .inl ⟨rfl, ?_⟩
                  (try simp [predsR, Region.binds, Vk] at hV)
                  simp only [putAll]
                  generalize hR : Res _ _ vs w1 = R
                  go_simp
                  subst hR
                  exact ⟨_, rfl, rfl, rfl⟩
                · cases hj
                  clear hj'
                  refine .inl ⟨rfl, ?_⟩
                  generalize hG : relUpon _ _ _ = G
                  obtain ⟨g, x, e10, _, hx, hxl⟩ := hV 10 (by decide)
                  have e8 : vs 8 = _ := hV 8 (by decide)
                  clear hV
                  obtain ⟨x0, x1, f0, f1, f2, f3, ft⟩ := fill2 hx hxl
                  subst hG
                  simp only [putAll]
                  generalize hR : Res _ _ vs w1 = R
                  go_simp
                  subst hR
                  exact ⟨g, _, e10, (ft _ _).1, (ft _ _).2, by rw [e8]; rfl, rfl⟩
                · cases hj
                  clear hj'
                  refine .inl ⟨rfl, ?_⟩
                  (try simp [predsR, Region.binds, Vk] at hV)
                  simp only [putAll]
                  generalize hR : Res _ _ vs w1 = R
                  go_simp
                  subst hR
                  exact ⟨rfl, Below.refl _ _⟩
              case hQ =>
                intro W hW vs w1 hb hV hD
                have hbw : Below wr.heap.size wr w1 := by rw [hW] at hb; exact ((Below.refl wr.heap.size wr).drew).trans hb
                generalize hG : Exit.then _ _ _ _ _ = G
                have v0 : vs 0 = _ := hV 0 (by decide)
                have v1 : vs 1 = _ := hV 1 (by decide)
                have v2 : vs 2 = _ := hV 2 (by decide)
                have v3 : vs 3 = _ := hV 3 (by decide)
                have v4 : vs 4 = _ := hV 4 (by decide)
                have v5 : vs 5 = _ := hV 5 (by decide)
                have v6 : vs 6 = _ := hV 6 (by decide)
                have v7 : vs 7 = _ := hV 7 (by decide)
                have v8 : vs 8 = _ := hV 8 (by decide)
                have v9 : vs 9 = _ := hV 9 (by decide)
                have v12 : vs 12 = _ := hV 12 (by decide)
                obtain ⟨gn, xs, v10, hbx, hxs, hxl⟩ := hV 11 (by decide)
                rw [v8] at hxs
                replace hxs : [.int .i64 q3, .string s3] = xs := hxs
                subst hxs
                have HP1 := Lib.hid (HREL.out.below hbw)
                have e0 : w1.cell? ⟨gn, 0, none⟩ = some (.int .i64 q3) := hbx.cell 0
                have e1 : w1.cell? ⟨gn, 1, none⟩ = some (.string s3) := hbx.cell 1
                have e2 : w1.cell? ⟨wa.heap.size, 0, none⟩ = some (.int .i64 q') := HP1.out.at_.cell 0
                have e3 : w1.cell? ⟨wa.heap.size, 1, none⟩ = some (.string s') := HP1.out.at_.cell 1
                have f2 : w1.frozen? ⟨wa.heap.size, 0, none⟩ = false := HP1.out.at_.free 0
                have f3 : w1.frozen? ⟨wa.heap.size, 1, none⟩ = false := HP1.out.at_.free 1
                subst hG
                generalize hKK : Exit.then _ _ = KK
                simp only [putAll, v0, v1, v2, v3, v4, v5, v6, v7, v8, v9, v10, v12]
                go_simp
                subst hKK
                clear hV hD hb hbw hW hbx v0 v1 v2 v3 v4 v5 v6 v7 v8 v9 v10 v12
                cases b with
                | false =>
                  clear e0 e1 e2 e3 f2 f3 HREL
                  have HS6 := Lib.hid (HS5.out.below HP1.out.b)
                  have e0 : w1.cell? ⟨g0, 0, none⟩ = some (.int .i64 c) := HS6.out.b0.cell 0
                  have e1 : w1.cell? ⟨g0, 1, none⟩ = some (.slice pv rs.length cv) := HS6.out.b0.cell 1
                  have e2 : w1.cell? ⟨wa.heap.size, 0, none⟩ = some (.int .i64 q') := HP1.out.at_.cell 0
                  have e3 : w1.cell? ⟨wa.heap.size, 1, none⟩ = some (.string s') := HP1.out.at_.cell 1
                  have hsz6 : s'.size ≤ 1000000 := by have := HP1.out.size; omega
                  have hsz7 : s'.size ≤ maxLen := by unfold maxLen; omega
                  go_wp2_with (fail)
                  go_at_call 7
                  refine (proper_any c q' _ s' _ hsz7).mono ?_
                  rintro e w6 ⟨rfl, hb⟩
                  have HP6 := Lib.hid (HP1.out.below hb)
                  clear hb e0 e1 e2 e3 HS6 hsz7
                  cases hpc : confP c q' s'
                  · have HS8 := Lib.hid (HS5.out.below HP6.out.b)
                    clear hpc
                    go_wp2_with (go_at_call 12; refine (HAW.out _).mono ?_; rintro e w9 ⟨rfl, hb⟩; have HB9 := Lib.hid hb; clear hb)
                    go_ret
                    exact ⟨rfl, HS8.out.bel.trans (HB9.out.mono HS8.out.bel.size)⟩
                  · obtain ⟨b18, hb18⟩ : ∃ b, decide (k ≤ 1000) = b := ⟨_, rfl⟩
                    have hb19 : decide ((k : Int) ≤ 1000) = b18 := by rw [← hb18]; simp; omega
                    have HTK : Hid (∀ w1, SlA w1 (.slice (some ad) l'.length c') (ints l') → SlA w1 (.slice (some ad) k c') (ints (l'.take k))) := fun w1 h => by
                      have := h.take k hk
                      rwa [ints_take] at this
                    have HG2 : Hid (isRunG c rs q1 t1 q' s' (l'.take k) = b18) := by
                      show _ = _
                      have hz : (chkP c rs q1 t1 q' s' == 0) = true := by unfold chkP; simp [HV.out, HC1.out, hpc]
                      have hln : (l'.take k).length = k := by simp; omega
                      unfold isRunG isRunP
                      rw [hz, HP6.out.run, hln, hb18]
                      simp [sameC]
                    clear hpc hb18
                    go_wp2_with (fail)
                    refine wp_region_rel (by kernel_rfl) 104 rfl (by kernel_rfl) [.fix (.agg #[.int .i64 c, .slice pv rs.length cv]), .mem (SysOf 54 w.heap.size c rs), .fix (.agg #[.int .i64 q1, .string t1]), .fix (.agg #[.int .i64 q1, .string t1]), .fix (.agg #[.int .i64 q', .string s']), .fix (.agg #[.int .i64 q', .string s']), .fix (.slice (some ad) l'.length c'), .fix (.int .i64 k), .fix (.slice (some ad) k c'), .fix (.bool b18), .fix (.int .i64 k), .fix (.bool b18), .fix (.bool true), .fix (.bool true), .fix (.bool true), .fix (.bool true), .fix (.bool true)] rfl (stays_sys (TE := 54) (B := w.heap.size) (s := c) (es := rs) ⟨trivial, rfl, trivial, trivial, trivial, trivial, trivial, trivial, trivial, trivial, trivial, trivial, trivial, trivial, trivial, trivial, trivial, trivial⟩) ?hop ?hQ
                    case hop =>
                      intro W hW j o hj vs w1 hb hV
                      have hbw : Below w6.heap.size w6 w1 := by rw [hW] at hb; exact ((Below.refl w6.heap.size w6).drew).trans hb
                      have HPW := Lib.hid (HP6.out.below hbw)
                      have HSW := Lib.hid (HS5.out.below HPW.out.b)
                      have HLW := Lib.hid (HL5.out.below HPW.out.b)
                      have d0 : w1.cell? ⟨g0, 0, none⟩ = some (.int .i64 c) := HSW.out.b0.cell 0
                      have d1 : w1.cell? ⟨g0, 1, none⟩ = some (.slice pv rs.length cv) := HSW.out.b0.cell 1
                      have d2 : w1.cell? ⟨g1, 0, none⟩ = some (.int .i64 q1) := HSW.out.b1.cell 0
                      have d3 : w1.cell? ⟨g1, 1, none⟩ = some (.string t1) := HSW.out.b1.cell 1
                      have d4 : w1.cell? ⟨wa.heap.size, 0, none⟩ = some (.int .i64 q') := HPW.out.at_.cell 0
                      have d5 : w1.cell? ⟨wa.heap.size, 1, none⟩ = some (.string s') := HPW.out.at_.cell 1
                      have hkc : k ≤ c' := by omega
                      clear hW hb hbw
                      have hj' : j < 17 := (List.getElem?_eq_some_iff.1 hj).1
                      rcases (by omega : j = 0 ∨ j = 1 ∨ j = 2 ∨ j = 3 ∨ j = 4 ∨ j = 5 ∨ j = 6 ∨ j = 7 ∨ j = 8 ∨ j = 9 ∨ j = 10 ∨ j = 11 ∨ j = 12 ∨ j = 13 ∨ j = 14 ∨ j = 15 ∨ j = 16) with rfl | rfl | rfl | rfl | rfl | rfl | rfl | rfl | rfl | rfl | rfl | rfl | rfl | rfl | rfl | rfl | rfl
                      · cases hj
                        clear hj'
                        refine .inl ⟨rfl, ?_⟩
                        (try simp [predsR, Region.binds, Vk] at hV)
                        simp only [putAll]
                        generalize hR : Res _ _ vs w1 = R
                        go_simp
                        subst hR
                        exact ⟨rfl, Below.refl _ _⟩
                      · cases hj
                        clear hj'
                        refine .inl ⟨rfl, ?_⟩
                        (try simp [predsR, Region.binds, Vk] at hV)
                        simp only [putAll]
                        generalize hR : Res _ _ vs w1 = R
                        go_simp
                        subst hR
                        refine (system_any c _ rs w1 (HSW.out.slR HSM.out) (by omega)).mono ?_
                        rintro e w2 ⟨v', rfl, hm, hb⟩
                        exact ⟨_, rfl, hm.base HSW.out.bel.size, hb⟩
                      · cases hj
                        clear hj'
                        refine .inl ⟨rfl, ?_⟩
                        (try simp [predsR, Region.binds, Vk] at hV)
                        simp only [putAll]
                        generalize hR : Res _ _ vs w1 = R
                        go_simp
                        subst hR
                        exact ⟨rfl, Below.refl _ _⟩
                      · cases hj
                        clear hj'
                        refine .inl ⟨rfl, ?_⟩
                        (try simp [predsR, Region.binds, Vk] at hV)
                        simp only [putAll]
                        generalize hR : Res _ _ vs w1 = R
                        go_simp
                        subst hR
                        refine (stack_any q1 t1 w1).mono ?_
                        rintro e w2 ⟨rfl, hb⟩
                        exact ⟨_, rfl, rfl, hb⟩
                      · cases hj
                        clear hj'
                        refine .inl ⟨rfl, ?_⟩
                        (try simp [predsR, Region.binds, Vk] at hV)
                        simp only [putAll]
                        generalize hR : Res _ _ vs w1 = R
                        go_simp
                        subst hR
                        exact ⟨rfl, Below.refl _ _⟩
                      · cases hj
                        clear hj'
                        refine .inl ⟨rfl, ?_⟩
                        (try simp [predsR, Region.binds, Vk] at hV)
                        simp only [putAll]
                        generalize hR : Res _ _ vs w1 = R
                        go_simp
                        subst hR
                        refine (stack_any q' s' w1).mono ?_
                        rintro e w2 ⟨rfl, hb⟩
                        exact ⟨_, rfl, rfl, hb⟩
                      · cases hj
                        clear hj'
                        refine .inl ⟨rfl, ?_⟩
                        (try simp [predsR, Region.binds, Vk] at hV)
                        simp only [putAll]
                        generalize hR : Res _ _ vs w1 = R
                        go_simp
                        subst hR
                        exact ⟨rfl, Below.refl _ _⟩
                      · cases hj
                        clear hj'
                        refine .inl ⟨rfl, ?_⟩
                        (try simp [predsR, Region.binds, Vk] at hV)
                        simp only [putAll]
                        generalize hR : Res _ _ vs w1 = R
                        go_simp
                        subst hR
                        exact ⟨rfl, Below.refl _ _⟩
                      · cases hj
                        clear hj'
                        refine .inl ⟨rfl, ?_⟩
                        (try simp [predsR, Region.binds, Vk] at hV)
                        simp only [putAll]
                        generalize hR : Res _ _ vs w1 = R
                        go_simp
                        subst hR
                        exact ⟨rfl, Below.refl _ _⟩
                      · cases hj
                        clear hj'
                        refine .inl ⟨rfl, ?_⟩
                        generalize hG : relUpon _ _ _ = G
                        obtain ⟨vS, v1, hOS⟩ : SysOf 54 w.heap.size c rs (vs 1) w1 := hV 1 (by decide)
                        have v3 : vs 3 = _ := hV 3 (by decide)
                        have v5 : vs 5 = _ := hV 5 (by decide)
                        have v8 : vs 8 = _ := hV 8 (by decide)
                        clear hV
                        subst hG
                        simp only [putAll]
                        generalize hR : Res _ _ vs w1 = R
                        go_simp
                        subst hR
                        refine (isRun_any c q1 q' vS _ rs t1 s' (l'.take k) w1 (OwnK.slR hOS (fun e he => by have := HSM.out e he; unfold maxLen; omega)) (HTK.out w1 HLW.out) (by omega) hsz6 HSM.out).mono ?_
                        rintro e w2 ⟨rfl, hb⟩
                        exact ⟨_, rfl, by rw [HG2.out], hb⟩
                      · cases hj
                        clear hj'
                        refine .inl ⟨rfl, ?_⟩
                        (try simp [predsR, Region.binds, Vk] at hV)
                        simp only [putAll]
                        generalize hR : Res _ _ vs w1 = R
                        go_simp
                        subst hR
                        exact ⟨rfl, Below.refl _ _⟩
                      · cases hj
                        clear hj'
                        refine .inl ⟨rfl, ?_⟩
                        (try simp [predsR, Region.binds, Vk] at hV)
                        simp only [putAll]
                        generalize hR : Res _ _ vs w1 = R
                        go_simp
                        subst hR
                        exact ⟨rfl, Below.refl _ _⟩
                      · cases hj
                        clear hj'
                        refine .inl ⟨rfl, ?_⟩
                        (try simp [predsR, Region.binds, Vk] at hV)
                        simp only [putAll]
                        generalize hR : Res _ _ vs w1 = R
                        go_simp
                        subst hR
                        exact ⟨rfl, Below.refl _ _⟩
                      · cases hj
                        clear hj'
                        refine .inl ⟨rfl, ?_⟩
                        (try simp [predsR, Region.binds, Vk] at hV)
                        simp only [putAll]
                        generalize hR : Res _ _ vs w1 = R
                        go_simp
                        subst hR
                        exact ⟨rfl, Below.refl _ _⟩
                      · cases hj
                        clear hj'
                        refine .inl ⟨rfl, ?_⟩
                        (try simp [predsR, Region.binds, Vk] at hV)
                        simp only [putAll]
                        generalize hR : Res _ _ vs w1 = R
                        go_simp
                        subst hR
                        refine (HAW.out w1).mono ?_
                        rintro e w2 ⟨rfl, hb⟩
                        exact ⟨_, rfl, rfl, hb⟩
                      · cases hj
                        clear hj'
                        refine .inl ⟨rfl, ?_⟩
                        (try simp [predsR, Region.binds, Vk] at hV)
                        simp only [putAll]
                        generalize hR : Res _ _ vs w1 = R
                        go_simp
                        subst hR
                        exact ⟨rfl, Below.refl _ _⟩
                      · cases hj
                        clear hj'
                        refine .inl ⟨rfl, ?_⟩
                        (try simp [predsR, Region.binds, Vk] at hV)
                        simp only [putAll]
                        generalize hR : Res _ _ vs w1 = R
                        go_simp
                        subst hR
                        exact ⟨rfl, Below.refl _ _⟩
                    case hQ =>
                      intro W hW vs w1 hb hV hD
                      have hbw : Below w6.heap.size w6 w1 := by rw [hW] at hb; exact ((Below.refl w6.heap.size w6).drew).trans hb
                      generalize hG : Exit.then _ _ _ _ _ = G
                      have v0 : vs 0 = _ := hV 0 (by decide)
                      have v2 : vs 2 = _ := hV 2 (by decide)
                      have v3 : vs 3 = _ := hV 3 (by decide)
                      have v4 : vs 4 = _ := hV 4 (by decide)
                      have v5 : vs 5 = _ := hV 5 (by decide)
                      have v6 : vs 6 = _ := hV 6 (by decide)
                      have v7 : vs 7 = _ := hV 7 (by decide)
                      have v8 : vs 8 = _ := hV 8 (by decide)
                      have v9 : vs 9 = _ := hV 9 (by decide)
                      have v10 : vs 10 = _ := hV 10 (by decide)
                      have v11 : vs 11 = _ := hV 11 (by decide)
                      have v12 : vs 12 = _ := hV 12 (by decide)
                      have v13 : vs 13 = _ := hV 13 (by decide)
                      have v14 : vs 14 = _ := hV 14 (by decide)
                      have v15 : vs 15 = _ := hV 15 (by decide)
                      have v16 : vs 16 = _ := hV 16 (by decide)
                      obtain ⟨x1, hx1, hox⟩ : SysOf 54 w.heap.size c rs (vs 1) w1 := hV 1 (by decide)
                      obtain ⟨px, cx, rfl, _, _⟩ := OwnK.len hox
                      have HB7 := Lib.hid (HS5.out.below (HP6.out.below hbw).b).bel
                      subst hG
                      generalize hKK : Exit.then _ _ = KK
                      simp only [putAll, hx1, v0, v2, v3, v4, v5, v6, v7, v8, v9, v10, v11, v12, v13, v14, v15, v16]
                      go_simp
                      subst hKK
                      clear hV hD hb hbw hW hx1 hox v0 v2 v3 v4 v5 v6 v7 v8 v9 v10 v11 v12 v13 v14 v15 v16
                      go_wp2_with (fail)
                      go_ret
                      exact ⟨rfl, HB7.out⟩
                | true =>
                  have hst := HSOME.out rfl
                  have hrun : runP rs (q1, t1) (l'.take (k + 1)) = some (q3, s3) := by rw [HRS.out, hst]
                  have hsz : s3.size ≤ 21 + 4 * (k + 1) := by have := stepP_size hst HSM.out; have := HP1.out.size; dsimp only at *; omega
                  have HNEW : Hid (LoopSt wa ((w1.setCell ⟨wa.heap.size, 0, none⟩ (.int .i64 q3)).setCell ⟨wa.heap.size, 1, none⟩ (.string s3)) q1 t1 rs l' (k + 1) q3 s3) :=
                    ⟨(HP1.out.b.setCell (by simp) _).setCell (by simp) _, (HP1.out.at_.store 0 _).store 1 _, hrun, hsz⟩
                  clear hst hrun hsz
                  go_wp2_with (fail)
                  go_roundw
                  case rel => exact ⟨k + 1, q3, s3, by omega, by go_num, HNEW.out⟩
                  case measure => simp [intOf]; omega
            · have HP1 := Lib.hid hrel
              clear hrel
              obtain ⟨wz, hwz⟩ : ∃ wz : World, wz = wr := ⟨_, rfl⟩
              subst hwz
              have HS6 := Lib.hid (HS5.out.below HP1.out.b)
              have e0 : wz.cell? ⟨g0, 0, none⟩ = some (.int .i64 c) := HS6.out.b0.cell 0
              have e1 : wz.cell? ⟨g0, 1, none⟩ = some (.slice pv rs.length cv) := HS6.out.b0.cell 1
              have e2 : wz.cell? ⟨wa.heap.size, 0, none⟩ = some (.int .i64 q') := HP1.out.at_.cell 0
              have e3 : wz.cell? ⟨wa.heap.size, 1, none⟩ = some (.string s') := HP1.out.at_.cell 1
              have hsz6 : s'.size ≤ 1000000 := by have := HP1.out.size; omega
              have hsz7 : s'.size ≤ maxLen := by unfold maxLen; omega
              go_wp2_with (fail)
              go_at_call 7
              refine (proper_any c q' _ s' _ hsz7).mono ?_
              rintro e w6 ⟨rfl, hb⟩
              have HP6 := Lib.hid (HP1.out.below hb)
              clear hb e0 e1 e2 e3 HS6 hsz7
              cases hpc : confP c q' s'
              · have HS8 := Lib.hid (HS5.out.below HP6.out.b)
                clear hpc
                go_wp2_with (go_at_call 12; refine (HAW.out _).mono ?_; rintro e w9 ⟨rfl, hb⟩; have HB9 := Lib.hid hb; clear hb)
                go_ret
                exact ⟨rfl, HS8.out.bel.trans (HB9.out.mono HS8.out.bel.size)⟩
              · obtain ⟨b18, hb18⟩ : ∃ b, decide (k ≤ 1000) = b := ⟨_, rfl⟩
                have hb19 : decide ((k : Int) ≤ 1000) = b18 := by rw [← hb18]; simp; omega
                have HTK : Hid (∀ w1, SlA w1 (.slice p' l'.length c') (ints l') → SlA w1 (.slice p' k c') (ints (l'.take k))) := fun w1 h => by
                  have := h.take k hk
                  rwa [ints_take] at this
                have HG2 : Hid (isRunG c rs q1 t1 q' s' (l'.take k) = b18) := by
                  show _ = _
                  have hz : (chkP c rs q1 t1 q' s' == 0) = true := by unfold chkP; simp [HV.out, HC1.out, hpc]
                  have hln : (l'.take k).length = k := by simp; omega
                  unfold isRunG isRunP
                  rw [hz, HP6.out.run, hln, hb18]
                  simp [sameC]
                clear hpc hb18
                go_wp2_with (fail)
                refine wp_region_rel (by kernel_rfl) 104 rfl (by kernel_rfl) [.fix (.agg #[.int .i64 c, .slice pv rs.length cv]), .mem (SysOf 54 w.heap.size c rs), .fix (.agg #[.int .i64 q1, .string t1]), .fix (.agg #[.int .i64 q1, .string t1]), .fix (.agg #[.int .i64 q', .string s']), .fix (.agg #[.int .i64 q', .string s']), .fix (.slice p' l'.length c'), .fix (.int .i64 k), .fix (.slice p' k c'), .fix (.bool b18), .fix (.int .i64 k), .fix (.bool b18), .fix (.bool true), .fix (.bool true), .fix (.bool true), .fix (.bool true), .fix (.bool true)] rfl (stays_sys (TE := 54) (B := w.heap.size) (s := c) (es := rs) ⟨trivial, rfl, trivial, trivial, trivial, trivial, trivial, trivial, trivial, trivial, trivial, trivial, trivial, trivial, trivial, trivial, trivial, trivial⟩) ?hop ?hQ
                case hop =>
                  intro W hW j o hj vs w1 hb hV
                  have hbw : Below w6.heap.size w6 w1 := by rw [hW] at hb; exact ((Below.refl w6.heap.size w6).drew).trans hb
                  have HPW := Lib.hid (HP6.out.below hbw)
                  have HSW := Lib.hid (HS5.out.below HPW.out.b)
                  have HLW := Lib.hid (HL5.out.below HPW.out.b)
                  have d0 : w1.cell? ⟨g0, 0, none⟩ = some (.int .i64 c) := HSW.out.b0.cell 0
                  have d1 : w1.cell? ⟨g0, 1, none⟩ = some (.slice pv rs.length cv) := HSW.out.b0.cell 1
                  have d2 : w1.cell? ⟨g1, 0, none⟩ = some (.int .i64 q1) := HSW.out.b1.cell 0
                  have d3 : w1.cell? ⟨g1, 1, none⟩ = some (.string t1) := HSW.out.b1.cell 1
                  have d4 : w1.cell? ⟨wa.heap.size, 0, none⟩ = some (.int .i64 q') := HPW.out.at_.cell 0
                  have d5 : w1.cell? ⟨wa.heap.size, 1, none⟩ = some (.string s') := HPW.out.at_.cell 1
                  have hkc : k ≤ c' := by omega
                  clear hW hb hbw
                  have hj' : j < 17 := (List.getElem?_eq_some_iff.1 hj).1
                  rcases (by omega : j = 0 ∨ j = 1 ∨ j = 2 ∨ j = 3 ∨ j = 4 ∨ j = 5 ∨ j = 6 ∨ j = 7 ∨ j = 8 ∨ j = 9 ∨ j = 10 ∨ j = 11 ∨ j = 12 ∨ j = 13 ∨ j = 14 ∨ j = 15 ∨ j = 16) with rfl | rfl | rfl | rfl | rfl | rfl | rfl | rfl | rfl | rfl | rfl | rfl | rfl | rfl | rfl | rfl | rfl
                  · cases hj
                    clear hj'
                    refine .inl ⟨rfl, ?_⟩
                    (try simp [predsR, Region.binds, Vk] at hV)
                    simp only [putAll]
                    generalize hR : Res _ _ vs w1 = R
                    go_simp
                    subst hR
                    exact ⟨rfl, Below.refl _ _⟩
                  · cases hj
                    clear hj'
                    refine .inl ⟨rfl, ?_⟩
                    (try simp [predsR, Region.binds, Vk] at hV)
                    simp only [putAll]
                    generalize hR : Res _ _ vs w1 = R
                    go_simp
                    subst hR
                    refine (system_any c _ rs w1 (HSW.out.slR HSM.out) (by omega)).mono ?_
                    rintro e w2 ⟨v', rfl, hm, hb⟩
                    exact ⟨_, rfl, hm.base HSW.out.bel.size, hb⟩
                  · cases hj
                    clear hj'
                    refine .inl ⟨rfl, ?_⟩
                    (try simp [predsR, Region.binds, Vk] at hV)
                    simp only [putAll]
                    generalize hR : Res _ _ vs w1 = R
                    go_simp
                    subst hR
                    exact ⟨rfl, Below.refl _ _⟩
                  · cases hj
                    clear hj'
                    refine .inl ⟨rfl, ?_⟩
                    (try simp [predsR, Region.binds, Vk] at hV)
                    simp only [putAll]
                    generalize hR : Res _ _ vs w1 = R
                    go_simp
                    subst hR
                    refine (stack_any q1 t1 w1).mono ?_
                    rintro e w2 ⟨rfl, hb⟩
                    exact ⟨_, rfl, rfl, hb⟩
                  · cases hj
                    clear hj'
                    refine .inl ⟨rfl, ?_⟩
                    (try simp [predsR, Region.binds, Vk] at hV)
                    simp only [putAll]
                    generalize hR : Res _ _ vs w1 = R
                    go_simp
                    subst hR
                    exact ⟨rfl, Below.refl _ _⟩
                  · cases hj
                    clear hj'
                    refine .inl ⟨rfl, ?_⟩
                    (try simp [predsR, Region.binds, Vk] at hV)
                    simp only [putAll]
                    generalize hR : Res _ _ vs w1 = R
                    go_simp
                    subst hR
                    refine (stack_any q' s' w1).mono ?_
                    rintro e w2 ⟨rfl, hb⟩
                    exact ⟨_, rfl, rfl, hb⟩
                  · cases hj
                    clear hj'
                    refine .inl ⟨rfl, ?_⟩
                    (try simp [predsR, Region.binds, Vk] at hV)
                    simp only [putAll]
                    generalize hR : Res _ _ vs w1 = R
                    go_simp
                    subst hR
                    exact ⟨rfl, Below.refl _ _⟩
                  · cases hj
                    clear hj'
                    refine .inl ⟨rfl, ?_⟩
                    (try simp [predsR, Region.binds, Vk] at hV)
                    simp only [putAll]
                    generalize hR : Res _ _ vs w1 = R
                    go_simp
                    subst hR
                    exact ⟨rfl, Below.refl _ _⟩
                  · cases hj
                    clear hj'
                    refine .inl ⟨rfl, ?_⟩
                    (try simp [predsR, Region.binds, Vk] at hV)
                    simp only [putAll]
                    generalize hR : Res _ _ vs w1 = R
                    go_simp
                    subst hR
                    exact ⟨rfl, Below.refl _ _⟩
                  · cases hj
                    clear hj'
                    refine .inl ⟨rfl, ?_⟩
                    generalize hG : relUpon _ _ _ = G
                    obtain ⟨vS, v1, hOS⟩ : SysOf 54 w.heap.size c rs (vs 1) w1 := hV 1 (by decide)
                    have v3 : vs 3 = _ := hV 3 (by decide)
                    have v5 : vs 5 = _ := hV 5 (by decide)
                    have v8 : vs 8 = _ := hV 8 (by decide)
                    clear hV
                    subst hG
                    simp only [putAll]
                    generalize hR : Res _ _ vs w1 = R
                    go_simp
                    subst hR
                    refine (isRun_any c q1 q' vS _ rs t1 s' (l'.take k) w1 (OwnK.slR hOS (fun e he => by have := HSM.out e he; unfold maxLen; omega)) (HTK.out w1 HLW.out) (by omega) hsz6 HSM.out).mono ?_
                    rintro e w2 ⟨rfl, hb⟩
                    exact ⟨_, rfl, by rw [HG2.out], hb⟩
                  · cases hj
                    clear hj'
                    refine .inl ⟨rfl, ?_⟩
                    (try simp [predsR, Region.binds, Vk] at hV)
                    simp only [putAll]
                    generalize hR : Res _ _ vs w1 = R
                    go_simp
                    subst hR
                    exact ⟨rfl, Below.refl _ _⟩
                  · cases hj
                    clear hj'
                    refine .inl ⟨rfl, ?_⟩
                    (try simp [predsR, Region.binds, Vk] at hV)
                    simp only [putAll]
                    generalize hR : Res _ _ vs w1 = R
                    go_simp
                    subst hR
                    exact ⟨rfl, Below.refl _ _⟩
                  · cases hj
                    clear hj'
                    refine .inl ⟨rfl, ?_⟩
                    (try simp [predsR, Region.binds, Vk] at hV)
                    simp only [putAll]
                    generalize hR : Res _ _ vs w1 = R
                    go_simp
                    subst hR
                    exact ⟨rfl, Below.refl _ _⟩
                  · cases hj
                    clear hj'
                    refine .inl ⟨rfl, ?_⟩
                    (try simp [predsR, Region.binds, Vk] at hV)
                    simp only [putAll]
                    generalize hR : Res _ _ vs w1 = R
                    go_simp
                    subst hR
                    exact ⟨rfl, Below.refl _ _⟩
                  · cases hj
                    clear hj'
                    refine .inl ⟨rfl, ?_⟩
                    (try simp [predsR, Region.binds, Vk] at hV)
                    simp only [putAll]
                    generalize hR : Res _ _ vs w1 = R
                    go_simp
                    subst hR
                    refine (HAW.out w1).mono ?_
                    rintro e w2 ⟨rfl, hb⟩
                    exact ⟨_, rfl, rfl, hb⟩
                  · cases hj
                    clear hj'
                    refine .inl ⟨rfl, ?_⟩
                    (try simp [predsR, Region.binds, Vk] at hV)
                    simp only [putAll]
                    generalize hR : Res _ _ vs w1 = R
                    go_simp
                    subst hR
                    exact ⟨rfl, Below.refl _ _⟩
                  · cases hj
                    clear hj'
                    refine .inl ⟨rfl, ?_⟩
                    (try simp [predsR, Region.binds, Vk] at hV)
                    simp only [putAll]
                    generalize hR : Res _ _ vs w1 = R
                    go_simp
                    subst hR
                    exact ⟨rfl, Below.refl _ _⟩
                case hQ =>
                  intro W hW vs w1 hb hV hD
                  have hbw : Below w6.heap.size w6 w1 := by rw [hW] at hb; exact ((Below.refl w6.heap.size w6).drew).trans hb
                  generalize hG : Exit.then _ _ _ _ _ = G
                  have v0 : vs 0 = _ := hV 0 (by decide)
                  have v2 : vs 2 = _ := hV 2 (by decide)
                  have v3 : vs 3 = _ := hV 3 (by decide)
                  have v4 : vs 4 = _ := hV 4 (by decide)
                  have v5 : vs 5 = _ := hV 5 (by decide)
                  have v6 : vs 6 = _ := hV 6 (by decide)
                  have v7 : vs 7 = _ := hV 7 (by decide)
                  have v8 : vs 8 = _ := hV 8 (by decide)
                  have v9 : vs 9 = _ := hV 9 (by decide)
                  have v10 : vs 10 = _ := hV 10 (by decide)
                  have v11 : vs 11 = _ := hV 11 (by decide)
                  have v12 : vs 12 = _ := hV 12 (by decide)
                  have v13 : vs 13 = _ := hV 13 (by decide)
                  have v14 : vs 14 = _ := hV 14 (by decide)
                  have v15 : vs 15 = _ := hV 15 (by decide)
                  have v16 : vs 16 = _ := hV 16 (by decide)
                  obtain ⟨x1, hx1, hox⟩ : SysOf 54 w.heap.size c rs (vs 1) w1 := hV 1 (by decide)
                  obtain ⟨px, cx, rfl, _, _⟩ := OwnK.len hox
                  have HB7 := Lib.hid (HS5.out.below (HP6.out.below hbw).b).bel
                  subst hG
                  generalize hKK : Exit.then _ _ = KK
                  simp only [putAll, hx1, v0, v2, v3, v4, v5, v6, v7, v8, v9, v10, v11, v12, v13, v14, v15, v16]
                  go_simp
                  subst hKK
                  clear hV hD hb hbw hW hx1 hox v0 v2 v3 v4 v5 v6 v7 v8 v9 v10 v11 v12 v13 v14 v15 v16
                  go_wp2_with (fail)
                  go_ret
                  exact ⟨rfl, HB7.out⟩



end Go.Proofs.Ytbkalcnblhhjlaa
