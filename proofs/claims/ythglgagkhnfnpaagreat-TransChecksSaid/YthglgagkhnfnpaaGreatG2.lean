/- TransChecks. -/
import Derived.Test.YthglgagkhnfnpaaGreatG1
import Derived.Test.YthglgagkhnfnpaaGreatE2
set_option linter.unusedVariables false
set_option linter.unusedSimpArgs false
set_option linter.unnecessarySimpa false
namespace Go.Proofs.YthglgagkhnfnpaaGreat
open Go.RowKit

structure Ed.inr (e : Ed) : Prop where
  f0 : -9223372036854775808 ≤ e.f
  f1 : e.f ≤ 9223372036854775807
  t0 : -9223372036854775808 ≤ e.t
  t1 : e.t ≤ 9223372036854775807
  l : e.l < 256
theorem ownE_ok {es : List Ed} (h : ∀ e ∈ es, e.inr) : ∀ e ∈ ownE es, e.ok := by
  intro e he
  obtain ⟨x, hx, rfl⟩ := List.mem_map.1 he
  have := h x (List.mem_of_mem_take hx)
  exact ⟨this.f0, this.f1, this.t0, this.t1, this.l, trimS_len _⟩
theorem ownN_ok {ns : List En} : ∀ e ∈ ownN ns, e.a.size ≤ 5 := by
  intro e he
  obtain ⟨x, hx, rfl⟩ := List.mem_map.1 he
  exact trimS_len _
theorem none_any (w : World) : Calls Tryz.prog 16 #[.agg #[.int .i64 0, .slice none 0 0, .slice none 0 0]] w fun e w' => e = .returned (.bool true) ∧ Below w.heap.size w w' := by
  go_enter Tryz.func16, Tryz.ntmps16
  go_wp2
  go_ret
  exact ⟨rfl, box_below _ _⟩
/-- what is carried from call to call -/
structure Kp (w0 : World) (g g' : Nat) (vx vy : List Value) (x y : Value) (a b : Int) (es : List Ed) (ns : List En) (fs : List Ed) (gs : List En) (w : World) : Prop where
  bel : Below w0.heap.size w0 w
  r : Row 25 w g vx
  r' : Row 25 w g' vy
  x : Mac 52 54 0 w x a (ownE es) (ownN ns)
  y : Mac 52 54 0 w y b (ownE fs) (ownN gs)
theorem Kp.below {w0 : World} {g g' : Nat} {vx vy : List Value} {x y : Value} {a b : Int} {es : List Ed} {ns : List En} {fs : List Ed} {gs : List En} {w w' : World} (h : Kp w0 g g' vx vy x y a b es ns fs gs w) (hb : Below w.heap.size w w') : Kp w0 g g' vx vy x y a b es ns fs gs w' :=
  ⟨h.bel.trans (hb.mono h.bel.size), h.r.below hb h.r.lt, h.r'.below hb h.r'.lt, h.x.below hb, h.y.below hb⟩
set_option maxRecDepth 100000 in
set_option maxHeartbeats 4000000 in
theorem law_any (a b : Int) (vE vN uE uN : Value) (es : List Ed) (ns : List En) (fs : List Ed) (gs : List En) (w : World) (hE : SlE w vE es) (hN : SlN w vN ns) (hF : SlE w uE fs) (hG : SlN w uN gs)
    (hE' : ∀ e ∈ es, e.inr) (hF' : ∀ e ∈ fs, e.inr) (haw : ∀ w, Calls Tryz.prog 8 #[] w fun e w' => e = .returned (.bool true) ∧ Below w.heap.size w w') :
    Calls Tryz.prog 3 #[.agg #[.int .i64 a, vE, vN], .agg #[.int .i64 b, uE, uN]] w fun e w' => e = .returned (.bool true) ∧ Below w.heap.size w w' := by
  obtain ⟨pE, capE, rfl, _, _⟩ := hE.len
  obtain ⟨pN, capN, rfl, _, _⟩ := hN.len
  obtain ⟨qE, dE, rfl, _, _⟩ := hF.len
  obtain ⟨qN, dN, rfl, _, _⟩ := hG.len
  have HE := Lib.hid hE
  have HN := Lib.hid hN
  have HF := Lib.hid hF
  have HG := Lib.hid hG
  have HOKE := Lib.hid (ownE_ok hE')
  have HOKF := Lib.hid (ownE_ok hF')
  have HAW := Lib.hid haw
  have HLE := Lib.hid (ownE_len es)
  have HLN := Lib.hid (ownN_len ns)
  have HLF := Lib.hid (ownE_len fs)
  have HLG := Lib.hid (ownN_len gs)
  clear hE hN hF hG hE' hF' haw
  go_enter Tryz.func3, Tryz.ntmps3
  go_wp2_with (fail)
  refine wp_region_inv (by kernel_rfl) (St1 w a b (.slice pE es.length capE) (.slice pN ns.length capN) (.slice qE fs.length dE) (.slice qN gs.length dN) es ns fs gs) ?h0 ?hs ?he
  case h0 =>
    have hno : ∀ i, ¬ At (Array.replicate 8 false) i := fun i h => by
      unfold At at h
      by_cases hi : i < 8
      · simp [hi] at h
      · simp [hi] at h
    refine ⟨undef, undef, undef, undef, undef, undef, rfl, ?_⟩
    refine ⟨(((box_below _ _).trans ((box_below _ _).mono (by simp)))).drew, by show _ ≤ ((w.alloc _).alloc _).heap.size; simp, ?_, ?_, fun h => (hno _ h).elim, fun h => (hno _ h).elim, fun h => (hno _ h).elim, fun h => (hno _ h).elim, fun h => (hno _ h).elim, fun h => (hno _ h).elim, fun h => (hno _ h).elim, fun h => (hno _ h).elim, fun h => (hno _ h).elim⟩
    · exact ((row_new _ w _).alloc _).drew
    · exact (row_new' _ _ _ _ (by simp)).drew
  case hs =>
    intro l a' w' hsz hI i hmem
    obtain ⟨s5, s6, s26, s27, s28, s29, rfl, hI⟩ := hI
    obtain ⟨h1, h2, h3⟩ := ready_spec hmem
    change i < 8 at h1
    change l.size = 8 at hsz
    rcases (by omega : i = 0 ∨ i = 1 ∨ i = 2 ∨ i = 3 ∨ i = 4 ∨ i = 5 ∨ i = 6 ∨ i = 7) with rfl | rfl | rfl | rfl | rfl | rfl | rfl | rfl
    · clear h3 hmem
      have c0 : w'.cell? ⟨w.heap.size, 0, none⟩ = some (.int .i64 a) := hI.r0.cell 0
      have c1 : w'.cell? ⟨w.heap.size, 1, none⟩ = some (.slice pE es.length capE) := hI.r0.cell 1
      have c2 : w'.cell? ⟨w.heap.size, 2, none⟩ = some (.slice pN ns.length capN) := hI.r0.cell 2
      have HI := Lib.hid hI
      clear hI
      refine wpOp_of rfl rfl ?_
      unfold frame1
      go_simp
      exact ⟨_, _, _, _, _, _, rfl, HI.out.at0⟩
    · have h4 := h3 _ rfl
      simp [Region.binds] at h4
      clear h3 hmem
      have e0 := hI.l0 h4
      subst e0
      have HI := Lib.hid hI
      clear hI h4
      refine wpOp_of rfl rfl ?_
      unfold frame1
      go_simp
      refine (own_any _ _ _ _ _ _ (HE.out.below HI.out.bel) (HN.out.below HI.out.bel)).mono ?_
      rintro e w2 ⟨v', rfl, hm, hb⟩
      exact ⟨_, _, _, _, _, _, rfl, (HI.out.more hb).at1 (not_at h2) (hm.base (Nat.le_trans (by omega) HI.out.size))⟩
    · clear h3 hmem
      have c0 : w'.cell? ⟨w.heap.size + 1, 0, none⟩ = some (.int .i64 b) := hI.r1.cell 0
      have c1 : w'.cell? ⟨w.heap.size + 1, 1, none⟩ = some (.slice qE fs.length dE) := hI.r1.cell 1
      have c2 : w'.cell? ⟨w.heap.size + 1, 2, none⟩ = some (.slice qN gs.length dN) := hI.r1.cell 2
      have HI := Lib.hid hI
      clear hI
      refine wpOp_of rfl rfl ?_
      unfold frame1
      go_simp
      exact ⟨_, _, _, _, _, _, rfl, HI.out.at2⟩
    · have h4 := h3 _ rfl
      simp [Region.binds] at h4
      clear h3 hmem
      have e0 := hI.l2 h4.1
      subst e0
      have HI := Lib.hid hI
      clear hI h4
      refine wpOp_of rfl rfl ?_
      unfold frame1
      go_simp
      refine (own_any _ _ _ _ _ _ (HF.out.below HI.out.bel) (HG.out.below HI.out.bel)).mono ?_
      rintro e w2 ⟨v', rfl, hm, hb⟩
      exact ⟨_, _, _, _, _, _, rfl, (HI.out.more hb).at3 (not_at h2) (hm.base (Nat.le_trans (by omega) HI.out.size))⟩
    · clear h3 hmem
      have HI := Lib.hid hI
      clear hI
      refine wpOp_of rfl rfl ?_
      unfold frame1
      go_simp
      exact ⟨_, _, _, _, _, _, rfl, HI.out.at4 (not_at h2)⟩
    · clear h3 hmem
      have HI := Lib.hid hI
      clear hI
      refine wpOp_of rfl rfl ?_
      unfold frame1
      go_simp
      exact ⟨_, _, _, _, _, _, rfl, HI.out.at5 (not_at h2)⟩
    · have h4 := h3 _ rfl
      simp [Region.binds] at h4
      clear h3 hmem
      obtain ⟨g, c0, c1, c2, rfl, hg, hr, _⟩ := hI.l4 h4.1
      obtain ⟨xE, xN, rfl, hxE, hxN⟩ := hI.l1 h4.2.1
      obtain ⟨yE, zE, rfl, _, _⟩ := hxE.len
      obtain ⟨yN, zN, rfl, _, _⟩ := hxN.len
      have d0 : w'.cell? ⟨g, 0, none⟩ = some c0 := hr.cell 0
      have d1 : w'.cell? ⟨g, 1, none⟩ = some c1 := hr.cell 1
      have d2 : w'.cell? ⟨g, 2, none⟩ = some c2 := hr.cell 2
      have f0 := hr.free 0
      have f1 := hr.free 1
      have f2 := hr.free 2
      have HI := Lib.hid hI
      have HH := Lib.hid (HI.out.at6 h4.2.1 h4.1 hr hg)
      clear hI h4 hr hxE hxN
      refine wpOp_of rfl rfl ?_
      unfold frame1
      go_simp
      exact ⟨_, _, _, _, _, _, rfl, HH.out⟩
    · have h4 := h3 _ rfl
      simp [Region.binds] at h4
      clear h3 hmem
      obtain ⟨g, c0, c1, c2, rfl, hg, hr, _⟩ := hI.l5 h4.1
      obtain ⟨xE, xN, rfl, hxE, hxN⟩ := hI.l3 h4.2.1
      obtain ⟨yE, zE, rfl, _, _⟩ := hxE.len
      obtain ⟨yN, zN, rfl, _, _⟩ := hxN.len
      have d0 : w'.cell? ⟨g, 0, none⟩ = some c0 := hr.cell 0
      have d1 : w'.cell? ⟨g, 1, none⟩ = some c1 := hr.cell 1
      have d2 : w'.cell? ⟨g, 2, none⟩ = some c2 := hr.cell 2
      have f0 := hr.free 0
      have f1 := hr.free 1
      have f2 := hr.free 2
      have HI := Lib.hid hI
      have HH := Lib.hid (HI.out.at7 h4.2.1 h4.1 hr hg)
      clear hI h4 hr hxE hxN
      refine wpOp_of rfl rfl ?_
      unfold frame1
      go_simp
      exact ⟨_, _, _, _, _, _, rfl, HH.out⟩
  case he =>
    intro l a' w' hsz hI hnil
    obtain ⟨s5, s6, s26, s27, s28, s29, rfl, hI⟩ := hI
    have a0 := ready_nil hsz hnil 0 _ rfl (by simp)
    have a2 := ready_nil hsz hnil 2 _ rfl (by simp)
    have a4 := ready_nil hsz hnil 4 _ rfl (by simp)
    have a5 := ready_nil hsz hnil 5 _ rfl (by simp)
    have a1 := ready_nil hsz hnil 1 _ rfl (by simp [a0])
    have a3 := ready_nil hsz hnil 3 _ rfl (by simp [a2, a1])
    have a6 := ready_nil hsz hnil 6 _ rfl (by simp [a0, a1, a2, a3, a4, a5])
    have a7 := ready_nil hsz hnil 7 _ rfl (by simp [a0, a1, a2, a3, a4, a5, a6])
    obtain ⟨g, c0, c1, c2, rfl, hg, hr, hq⟩ := hI.l4 a4
    obtain ⟨g', c0', c1', c2', rfl, hg', hr', hq'⟩ := hI.l5 a5
    have hx := hI.l1 a1
    have hy := hI.l3 a3
    have e1 := hq a6
    have e2 := hq' a7
    subst e1
    subst e2
    have HB := Lib.hid hI.bel
    have HX := Lib.hid hx
    have HY := Lib.hid hy
    obtain ⟨xE, xN, ex, hxE, hxN⟩ := hx
    obtain ⟨yE, zE, rfl, _, _⟩ := hxE.len
    obtain ⟨yN, zN, rfl, _, _⟩ := hxN.len
    obtain ⟨xE', xN', ex', hxE', hxN'⟩ := hy
    obtain ⟨yE', zE', rfl, _, _⟩ := hxE'.len
    obtain ⟨yN', zN', rfl, _, _⟩ := hxN'.len
    cases ex
    cases ex'
    have HR := Lib.hid hr
    have HR' := Lib.hid hr'
    have HSZ := Lib.hid hI.size
    clear hI hsz hnil a0 a1 a2 a3 a4 a5 a6 a7 hxE hxN hxE' hxN' hq hq' hr hr'
    have d0 : w'.cell? ⟨g, 0, none⟩ = some (.int .i64 a) := HR.out.cell 0
    have d1 : w'.cell? ⟨g, 1, none⟩ = some (.slice yE (ownE es).length zE) := HR.out.cell 1
    have d2 : w'.cell? ⟨g, 2, none⟩ = some (.slice yN (ownN ns).length zN) := HR.out.cell 2
    unfold frame1
    cases hcp : checkP a (ownE es) (ownN ns)
    · have HC : Hid (∀ w, Mac 52 54 0 w (.agg #[.int .i64 a, .slice yE (ownE es).length zE, .slice yN (ownN ns).length zN]) a (ownE es) (ownN ns) → Calls Tryz.prog 5 #[.agg #[.int .i64 a, .slice yE (ownE es).length zE, .slice yN (ownN ns).length zN]] w fun e w' => e = .returned (.bool false) ∧ Below w.heap.size w w') := fun w hm =>
        hcp ▸ check_any _ _ _ _ _ w hm (by rw [HLE.out]; omega) (by rw [HLN.out]; omega) HOKE.out ownN_ok
      have HCP := Lib.hid hcp
      have K0 := Lib.hid (Kp.mk HB.out HR.out HR'.out (HX.out.base (Nat.zero_le _)) (HY.out.base (Nat.zero_le _)))
      clear HB HR HR' HX HY hcp HSZ
      go_wp2_with (fail)
      go_at_call 5
      refine (HC.out _ K0.out.x).mono ?_
      rintro e w1 ⟨rfl, hb⟩
      have K1 := Lib.hid (K0.out.below hb)
      clear hb d0 d1 d2 K0
      have d0 : w1.cell? ⟨g, 0, none⟩ = some (.int .i64 a) := K1.out.r.cell 0
      have d1 : w1.cell? ⟨g, 1, none⟩ = some (.slice yE (ownE es).length zE) := K1.out.r.cell 1
      have d2 : w1.cell? ⟨g, 2, none⟩ = some (.slice yN (ownN ns).length zN) := K1.out.r.cell 2
      go_wp2_with (fail)
      go_at_call 7
      refine (given_any _ _ _ _ _ _ K1.out.x (by rw [HLE.out]; omega) (by rw [HLN.out]; omega)).mono ?_
      rintro e w2 ⟨v2, rfl, hm2, hb⟩
      have K2 := Lib.hid (K1.out.below hb)
      have HC2 : Hid (Calls Tryz.prog 6 #[v2] w2 fun e w' => e = .returned (.int .i64 30) ∧ Below w2.heap.size w2 w') :=
        tcheck_any _ _ _ _ _ w2 hm2 (by rw [HLE.out]; omega) (by rw [HLN.out]; omega) HOKE.out ownN_ok false HCP.out
      clear hm2 hb d0 d1 d2 K1
      go_wp2_with (fail)
      go_at_call 6
      refine HC2.out.mono ?_
      rintro e w3 ⟨rfl, hb⟩
      have K3 := Lib.hid (K2.out.below hb)
      clear hb K2 HC2
      have d0 : w3.cell? ⟨g, 0, none⟩ = some (.int .i64 a) := K3.out.r.cell 0
      have d1 : w3.cell? ⟨g, 1, none⟩ = some (.slice yE (ownE es).length zE) := K3.out.r.cell 1
      have d2 : w3.cell? ⟨g, 2, none⟩ = some (.slice yN (ownN ns).length zN) := K3.out.r.cell 2
      go_wp2_with (fail)
      go_at_call 7
      refine (given_any _ _ _ _ _ _ K3.out.x (by rw [HLE.out]; omega) (by rw [HLN.out]; omega)).mono ?_
      rintro e w4 ⟨v4, rfl, hm4, hb⟩
      have hbad := bad_of hm4 (by rw [HLE.out]; omega) (by rw [HLN.out]; omega) HOKE.out ownN_ok HCP.out
      obtain ⟨xv, xu, rfl, hxv, hxu⟩ := hm4
      obtain ⟨pv, cv, rfl, _, _⟩ := OwnK.len hxv
      obtain ⟨pu, cu, rfl, _, _⟩ := OwnK.len hxu
      have K4 := Lib.hid ((K3.out.below hb).below (box_below w4 (.cells #[.int .i64 a, .slice pv (ownE es).length cv, .slice pu (ownN ns).length cu] 33)))
      have B4 := Lib.hid (hbad.below (box_below w4 (.cells #[.int .i64 a, .slice pv (ownE es).length cv, .slice pu (ownN ns).length cu] 33)))
      have R4 := Lib.hid (row_new 33 w4 #[.int .i64 a, .slice pv (ownE es).length cv, .slice pu (ownN ns).length cu])
      clear hbad hxv hxu hb d0 d1 d2 K3
      go_wp2_with (fail)
      go_at_call 9
      refine (outputs_bad _ _ _ _ _ B4.out).mono ?_
      rintro e w5 ⟨rfl, hb⟩
      have K5 := Lib.hid (K4.out.below hb)
      have B5 := Lib.hid (B4.out.below hb)
      have R5 := Lib.hid (R4.out.below hb R4.out.lt)
      clear hb K4 B4 R4
      have d0 : w5.cell? ⟨w4.heap.size, 0, none⟩ = some (.int .i64 a) := R5.out.cell 0
      have d1 : w5.cell? ⟨w4.heap.size, 1, none⟩ = some (.slice pv (ownE es).length cv) := R5.out.cell 1
      have d2 : w5.cell? ⟨w4.heap.size, 2, none⟩ = some (.slice pu (ownN ns).length cu) := R5.out.cell 2
      go_wp2_with (fail)
      go_at_call 10
      refine (useful_bad _ _ _ _ B5.out).mono ?_
      rintro e w6 ⟨rfl, hb⟩
      have K6 := Lib.hid (K5.out.below hb)
      have B6 := Lib.hid (B5.out.below hb)
      have R6 := Lib.hid (R5.out.below hb R5.out.lt)
      clear hb K5 B5 R5 d0 d1 d2
      have d0 : w6.cell? ⟨w4.heap.size, 0, none⟩ = some (.int .i64 a) := R6.out.cell 0
      have d1 : w6.cell? ⟨w4.heap.size, 1, none⟩ = some (.slice pv (ownE es).length cv) := R6.out.cell 1
      have d2 : w6.cell? ⟨w4.heap.size, 2, none⟩ = some (.slice pu (ownN ns).length cu) := R6.out.cell 2
      go_wp2_with (fail)
      go_at_call 11
      refine (sequential_bad _ _ _ _ B6.out).mono ?_
      rintro e w7 ⟨rfl, hb⟩
      have K7 := Lib.hid (K6.out.below hb)
      have B7 := Lib.hid (B6.out.below hb)
      have R7 := Lib.hid (R6.out.below hb R6.out.lt)
      clear hb K6 B6 R6 d0 d1 d2
      have d0 : w7.cell? ⟨w4.heap.size, 0, none⟩ = some (.int .i64 a) := R7.out.cell 0
      have d1 : w7.cell? ⟨w4.heap.size, 1, none⟩ = some (.slice pv (ownE es).length cv) := R7.out.cell 1
      have d2 : w7.cell? ⟨w4.heap.size, 2, none⟩ = some (.slice pu (ownN ns).length cu) := R7.out.cell 2
      go_wp2_with (fail)
      go_at_call 12
      refine (functional_bad _ _ _ _ B7.out).mono ?_
      rintro e w8 ⟨rfl, hb⟩
      have K8 := Lib.hid (K7.out.below hb)
      have B8 := Lib.hid (B7.out.below hb)
      have R8 := Lib.hid (R7.out.below hb R7.out.lt)
      clear hb K7 B7 R7 d0 d1 d2
      have d0 : w8.cell? ⟨w4.heap.size, 0, none⟩ = some (.int .i64 a) := R8.out.cell 0
      have d1 : w8.cell? ⟨w4.heap.size, 1, none⟩ = some (.slice pv (ownE es).length cv) := R8.out.cell 1
      have d2 : w8.cell? ⟨w4.heap.size, 2, none⟩ = some (.slice pu (ownN ns).length cu) := R8.out.cell 2
      go_wp2_with (fail)
      go_at_call 13
      refine (twins_bad _ _ _ _ B8.out).mono ?_
      rintro e w9 ⟨rfl, hb⟩
      have K9 := Lib.hid (K8.out.below hb)
      have B9 := Lib.hid (B8.out.below hb)
      have R9 := Lib.hid (R8.out.below hb R8.out.lt)
      clear hb K8 B8 R8 d0 d1 d2
      have d0 : w9.cell? ⟨w4.heap.size, 0, none⟩ = some (.int .i64 a) := R9.out.cell 0
      have d1 : w9.cell? ⟨w4.heap.size, 1, none⟩ = some (.slice pv (ownE es).length cv) := R9.out.cell 1
      have d2 : w9.cell? ⟨w4.heap.size, 2, none⟩ = some (.slice pu (ownN ns).length cu) := R9.out.cell 2
      go_wp2_with (fail)
      have e0 : w9.cell? ⟨g', 0, none⟩ = some (.int .i64 b) := K9.out.r'.cell 0
      have e1 : w9.cell? ⟨g', 1, none⟩ = some (.slice yE' (ownE fs).length zE') := K9.out.r'.cell 1
      have e2 : w9.cell? ⟨g', 2, none⟩ = some (.slice yN' (ownN gs).length zN') := K9.out.r'.cell 2
      have HGIV : Hid (Calls Tryz.prog 7 #[.agg #[.int .i64 b, .slice yE' (ownE fs).length zE', .slice yN' (ownN gs).length zN']] w9.drew fun e w' => ∃ p1 c1 p2 c2, e = .returned (.agg #[.int .i64 b, .slice p1 (ownE fs).length c1, .slice p2 (ownN gs).length c2]) ∧ Mac 57 58 0 w' (.agg #[.int .i64 b, .slice p1 (ownE fs).length c1, .slice p2 (ownN gs).length c2]) b (ownE fs) (ownN gs) ∧ Below w9.drew.heap.size w9.drew w') := by
        refine (given_any _ _ _ _ _ _ (K9.out.y.below ((Below.refl _ _).drew)) (by rw [HLF.out]; omega) (by rw [HLG.out]; omega)).mono ?_
        rintro e w10 ⟨v10, rfl, hm, hb⟩
        have hm2 := hm
        obtain ⟨xv, xu, rfl, hxv, hxu⟩ := hm
        obtain ⟨p1, c1, rfl, _, _⟩ := OwnK.len hxv
        obtain ⟨p2, c2, rfl, _, _⟩ := OwnK.len hxu
        exact ⟨p1, c1, p2, c2, rfl, hm2.base (Nat.zero_le _), hb⟩
      go_region_with (first
        | (go_at_call_of 7 (Value.agg #[Value.int IntKind.i64 b, Value.slice yE' (ownE fs).length zE', Value.slice yN' (ownN gs).length zN']); refine HGIV.out.mono ?_; rintro e w10 ⟨p1, c1, p2, c2, rfl, hm, hb⟩; have HM10 := Lib.hid hm; have K10 := Lib.hid (K9.out.below (((Below.refl _ _).drew).trans hb)); have B10 := Lib.hid (B9.out.below (((Below.refl _ _).drew).trans hb)); have R10 := Lib.hid (R9.out.below (((Below.refl _ _).drew).trans hb) R9.out.lt); clear hm hb; have n0 : w10.cell? ⟨w4.heap.size, 0, none⟩ = some (.int .i64 a) := R10.out.cell 0; have n1 : w10.cell? ⟨w4.heap.size, 1, none⟩ = some (.slice pv (ownE es).length cv) := R10.out.cell 1; have n2 : w10.cell? ⟨w4.heap.size, 2, none⟩ = some (.slice pu (ownN ns).length cu) := R10.out.cell 2)
        | (go_at_call 14; refine (same_bad _ _ _ _ _ _ _ _ _ _ _ _ _ _ _ (checkP b (ownE fs) (ownN gs)) (fun w1 h1 => tcheck_any _ _ _ _ _ w1 (HM10.out.below h1) (by rw [HLF.out]; omega) (by rw [HLG.out]; omega) HOKF.out ownN_ok _ rfl) B10.out).mono ?_; rintro e w11 ⟨rfl, hb⟩; have K11 := Lib.hid (K10.out.below hb); have B11 := Lib.hid (B10.out.below hb); have R11 := Lib.hid (R10.out.below hb R10.out.lt); clear hb))
      all_goals
        clear d0 d1 d2 e0 e1 e2 n0 n1 n2 HGIV K9 B9 R9 K10 B10 R10 HM10
        have d0 : w11.cell? ⟨w4.heap.size, 0, none⟩ = some (.int .i64 a) := R11.out.cell 0
        have d1 : w11.cell? ⟨w4.heap.size, 1, none⟩ = some (.slice pv (ownE es).length cv) := R11.out.cell 1
        have d2 : w11.cell? ⟨w4.heap.size, 2, none⟩ = some (.slice pu (ownN ns).length cu) := R11.out.cell 2
        go_wp2_with (fail)
        go_at_call 15
        refine (first_bad _ _ _ _ _ _ _ _ B11.out).mono ?_
        rintro e w12 ⟨rfl, hb⟩
        have K12 := Lib.hid (K11.out.below hb)
        have B12 := Lib.hid (B11.out.below hb)
        have R12 := Lib.hid (R11.out.below hb R11.out.lt)
        clear hb K11 B11 R11 d0 d1 d2
        have d0 : w12.cell? ⟨w4.heap.size, 0, none⟩ = some (.int .i64 a) := R12.out.cell 0
        have d1 : w12.cell? ⟨w4.heap.size, 1, none⟩ = some (.slice pv (ownE es).length cv) := R12.out.cell 1
        have d2 : w12.cell? ⟨w4.heap.size, 2, none⟩ = some (.slice pu (ownN ns).length cu) := R12.out.cell 2
        have d3 := R12.out.lt
        go_wp2_with (fail)
        go_at_call 6
        refine (B12.out _ (box_below _ _)).mono ?_
        rintro e w13 ⟨rfl, hb⟩
        have R13 := Lib.hid ((row_new 33 w12 #[.int .i64 0, .slice none 0 0, .slice none 0 0]).below hb (by simp))
        have K13 := Lib.hid (K12.out.bel.trans ((box_below w12 _).mono K12.out.bel.size) |>.trans (hb.mono (by have := K12.out.bel.size; simp; omega)))
        clear hb K12 B12 R12 d0 d1 d2 d3
        have d0 : w13.cell? ⟨w12.heap.size, 0, none⟩ = some (.int .i64 0) := R13.out.cell 0
        have d1 : w13.cell? ⟨w12.heap.size, 1, none⟩ = some (.slice none 0 0) := R13.out.cell 1
        have d2 : w13.cell? ⟨w12.heap.size, 2, none⟩ = some (.slice none 0 0) := R13.out.cell 2
        go_wp2_with (fail)
        go_at_call 16
        refine (none_any _).mono ?_
        rintro e w14 ⟨rfl, hb⟩
        have K14 := Lib.hid (K13.out.trans (hb.mono K13.out.size))
        clear hb K13 R13 d0 d1 d2
        go_wp2_with (fail)
        go_at_call 8
        refine (HAW.out _).mono ?_
        rintro e w15 ⟨rfl, hb⟩
        have K15 := Lib.hid (K14.out.trans (hb.mono K14.out.size))
        clear hb K14
        go_wp2_with (fail)
        go_ret
        exact ⟨rfl, K15.out⟩
    · have HC : Hid (∀ w, Mac 52 54 0 w (.agg #[.int .i64 a, .slice yE (ownE es).length zE, .slice yN (ownN ns).length zN]) a (ownE es) (ownN ns) → Calls Tryz.prog 5 #[.agg #[.int .i64 a, .slice yE (ownE es).length zE, .slice yN (ownN ns).length zN]] w fun e w' => e = .returned (.bool true) ∧ Below w.heap.size w w') := fun w hm =>
        hcp ▸ check_any _ _ _ _ _ w hm (by rw [HLE.out]; omega) (by rw [HLN.out]; omega) HOKE.out ownN_ok
      go_wp2_with (fail)
      go_at_call 5
      refine (HC.out _ (HX.out.base (Nat.zero_le _))).mono ?_
      rintro e w1 ⟨rfl, hb⟩
      have HX1 := Lib.hid (HX.out.below hb)
      have HR1 := Lib.hid (HR.out.below hb HR.out.lt)
      have HB1 := Lib.hid (HB.out.trans (hb.mono (by have := HB.out.size; omega)))
      clear hb d0 d1 d2
      have d0 : w1.cell? ⟨g, 0, none⟩ = some (.int .i64 a) := HR1.out.cell 0
      have d1 : w1.cell? ⟨g, 1, none⟩ = some (.slice yE (ownE es).length zE) := HR1.out.cell 1
      have d2 : w1.cell? ⟨g, 2, none⟩ = some (.slice yN (ownN ns).length zN) := HR1.out.cell 2
      go_wp2_with (fail)
      go_at_call 7
      refine (given_any _ _ _ _ _ _ HX1.out (by rw [HLE.out]; omega) (by rw [HLN.out]; omega)).mono ?_
      rintro e w2 ⟨v2, rfl, hm2, hb⟩
      have HB2 := Lib.hid (HB1.out.trans (hb.mono (by have := HB1.out.size; omega)))
      have HC2 : Hid (Calls Tryz.prog 6 #[v2] w2 fun e w' => e = .returned (.int .i64 0) ∧ Below w2.heap.size w2 w') :=
        tcheck_any _ _ _ _ _ w2 hm2 (by rw [HLE.out]; omega) (by rw [HLN.out]; omega) HOKE.out ownN_ok true hcp
      clear hm2 hb d0 d1 d2 hcp
      go_wp2_with (fail)
      go_at_call 6
      refine HC2.out.mono ?_
      rintro e w3 ⟨rfl, hb⟩
      have HB3 := Lib.hid (HB2.out.trans (hb.mono (by have := HB2.out.size; omega)))
      clear hb
      go_wp2_with (fail)
      go_at_call 8
      refine (HAW.out _).mono ?_
      rintro e w4 ⟨rfl, hb⟩
      have HB4 := Lib.hid (HB3.out.trans (hb.mono (by have := HB3.out.size; omega)))
      clear hb
      go_wp2_with (fail)
      go_ret
      exact ⟨rfl, HB4.out⟩
end Go.Proofs.YthglgagkhnfnpaaGreat
