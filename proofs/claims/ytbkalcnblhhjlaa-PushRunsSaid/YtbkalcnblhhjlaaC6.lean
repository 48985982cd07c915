/- checkConfigs of two configurations; heads; steps. -/
import Derived.Test.YtbkalcnblhhjlaaC5
set_option linter.unnecessarySimpa false
set_option linter.unusedVariables false
set_option linter.unusedSimpArgs false
namespace Go.Proofs.Ytbkalcnblhhjlaa
open Go.RowKit

theorem box_below (w : World) (o : Obj) : Below w.heap.size w (w.alloc o) := (Below.refl _ _).alloc (Nat.le_refl _) _
def chkP (c : Int) (es : List Ru) (q1 : Int) (s1 : ByteArray) (q2 : Int) (s2 : ByteArray) : Int := if validP c es then (if confP c q1 s1 && confP c q2 s2 then 0 else 21) else 40
set_option maxRecDepth 100000 in
set_option maxHeartbeats 1000000 in
theorem checkConfigs_any (g : Nat) (c : Int) (v : Value) (es : List Ru) (q1 q2 : Int) (s1 s2 : ByteArray) (w : World) (hE : SlR w v es) (hp : ∀ e ∈ es, e.p.size ≤ 1000) (h1 : s1.size ≤ 1000000) (h2 : s2.size ≤ 1000000)
    (hr : Row 39 w g [.int .i64 q1, .string s1, .int .i64 q2, .string s2]) :
    Calls Try.prog 15 #[.agg #[.int .i64 c, v], .slice (some ⟨g, 0, none⟩) 2 2] w fun e w' => e = .returned (.int .i64 (chkP c es q1 s1 q2 s2)) ∧ Below w.heap.size w w' := by
  have HC : Hid (∀ w1, Below w.heap.size w w1 → Calls Try.prog 23 #[.agg #[.int .i64 c, v]] w1 fun e w' => e = .returned (.int .i64 (if validP c es then 0 else 40)) ∧ Below w1.heap.size w1 w') := fun w1 h => check_any c v es w1 (hE.below h) hp
  have HR := Lib.hid hr
  have hg := hr.lt
  obtain ⟨p, cap, rfl, hlc, hcm⟩ := hE.len
  clear hE hp hr
  cases hv : validP c es
  · have HN : Hid (chkP c es q1 s1 q2 s2 = 40) := by show _ = _; simp [chkP, hv]
    simp only [hv] at HC
    clear hv
    go_enter Try.func15, Try.ntmps15
    go_wp2_with (go_at_call 23; refine (HC.out _ (box_below _ _)).mono ?_; rintro e w1 ⟨rfl, hb⟩; have HB1 := Lib.hid hb; clear hb)
    go_ret
    exact ⟨by rw [HN.out]; rfl, (box_below _ _).trans (HB1.out.mono (by simp))⟩
  · simp only [hv] at HC
    cases hc1 : confP c q1 s1
    · have HN : Hid (chkP c es q1 s1 q2 s2 = 21) := by show _ = _; simp [chkP, hv, hc1]
      have H1 : Hid (∀ w vE, Calls Try.prog 24 #[.agg #[.int .i64 c, vE], .agg #[.int .i64 q1, .string s1]] w fun r w' => r = .returned (.bool false) ∧ Below w.heap.size w w') := fun w vE => hc1 ▸ isConfig_any c q1 vE s1 w h1
      clear hv hc1
      go_enter Try.func15, Try.ntmps15
      go_wp2_with (fail)
      go_at_call 23
      refine (HC.out _ (box_below _ _)).mono ?_
      rintro e w1 ⟨rfl, hb⟩
      have HBB := Lib.hid ((box_below w (.cells #[.int .i64 c, .slice p es.length cap] 37)).trans (hb.mono (by simp)))
      have HRS := Lib.hid ((row_new 37 w #[.int .i64 c, .slice p es.length cap]).below hb (by simp))
      have HR1 := Lib.hid ((HR.out.alloc (.cells #[.int .i64 c, .slice p es.length cap] 37)).below hb (by simp; omega))
      clear hb
      have d0 : w1.cell? ⟨g, 0, none⟩ = some (.int .i64 q1) := HR1.out.cell 0
      have d1 : w1.cell? ⟨g, 1, none⟩ = some (.string s1) := HR1.out.cell 1
      have e0 : w1.cell? ⟨w.heap.size, 0, none⟩ = some (.int .i64 c) := HRS.out.cell 0
      have e1 : w1.cell? ⟨w.heap.size, 1, none⟩ = some (.slice p es.length cap) := HRS.out.cell 1
      have hz1 := HRS.out.lt
      go_wp2_with (fail)
      refine wp_loop_rounds 1 ?_
      rw [rounds_succ]
      go_wp2_with (go_at_call 24; refine (H1.out _ _).mono ?_; rintro e w2 ⟨rfl, hb⟩; have HB2 := Lib.hid hb; clear hb)
      go_ret
      exact ⟨by rw [HN.out]; rfl, (HBB.out.trans ((box_below _ _).mono HBB.out.size)).trans (HB2.out.mono (by have := HBB.out.size; simp; omega))⟩
    · have H1 : Hid (∀ w vE, Calls Try.prog 24 #[.agg #[.int .i64 c, vE], .agg #[.int .i64 q1, .string s1]] w fun r w' => r = .returned (.bool true) ∧ Below w.heap.size w w') := fun w vE => hc1 ▸ isConfig_any c q1 vE s1 w h1
      have H2 : Hid (∀ w vE, Calls Try.prog 24 #[.agg #[.int .i64 c, vE], .agg #[.int .i64 q2, .string s2]] w fun r w' => r = .returned (.bool (confP c q2 s2)) ∧ Below w.heap.size w w') := fun w vE => isConfig_any c q2 vE s2 w h2
      have HN : Hid (chkP c es q1 s1 q2 s2 = if confP c q2 s2 then 0 else 21) := by show _ = _; simp [chkP, hv, hc1]
      obtain ⟨b, hb⟩ : ∃ b, confP c q2 s2 = b := ⟨_, rfl⟩
      rw [hb] at HN
      simp only [hb] at H2
      clear hv hc1 hb
      cases b
      · go_enter Try.func15, Try.ntmps15
        go_wp2_with (fail)
        go_at_call 23
        refine (HC.out _ (box_below _ _)).mono ?_
        rintro e w1 ⟨rfl, hb⟩
        have HBB := Lib.hid ((box_below w (.cells #[.int .i64 c, .slice p es.length cap] 37)).trans (hb.mono (by simp)))
        have HRS := Lib.hid ((row_new 37 w #[.int .i64 c, .slice p es.length cap]).below hb (by simp))
        have HR1 := Lib.hid ((HR.out.alloc (.cells #[.int .i64 c, .slice p es.length cap] 37)).below hb (by simp; omega))
        clear hb
        have d0 : w1.cell? ⟨g, 0, none⟩ = some (.int .i64 q1) := HR1.out.cell 0
        have d1 : w1.cell? ⟨g, 1, none⟩ = some (.string s1) := HR1.out.cell 1
        have e0 : w1.cell? ⟨w.heap.size, 0, none⟩ = some (.int .i64 c) := HRS.out.cell 0
        have e1 : w1.cell? ⟨w.heap.size, 1, none⟩ = some (.slice p es.length cap) := HRS.out.cell 1
        have hz1 := HRS.out.lt
        have hz2 := HR1.out.lt
        go_wp2_with (fail)
        refine wp_loop_rounds 2 ?_
        rw [rounds_succ]
        go_wp2_with (fail)
        go_at_call 24
        refine (H1.out _ _).mono ?_
        rintro e w2 ⟨rfl, hb⟩
        have HBB2 := Lib.hid (HBB.out.trans (((box_below w1 (.cells #[.int .i64 q1, .string s1] 39)).trans (hb.mono (by simp))).mono HBB.out.size))
        have HRS2 := Lib.hid ((HRS.out.alloc (.cells #[.int .i64 q1, .string s1] 39)).below hb (by simp; omega))
        have HR2 := Lib.hid ((HR1.out.alloc (.cells #[.int .i64 q1, .string s1] 39)).below hb (by simp; omega))
        clear hb d0 d1 e0 e1
        have d0 : w2.cell? ⟨g, 2, none⟩ = some (.int .i64 q2) := HR2.out.cell 2
        have d1 : w2.cell? ⟨g, 3, none⟩ = some (.string s2) := HR2.out.cell 3
        have e0 : w2.cell? ⟨w.heap.size, 0, none⟩ = some (.int .i64 c) := HRS2.out.cell 0
        have e1 : w2.cell? ⟨w.heap.size, 1, none⟩ = some (.slice p es.length cap) := HRS2.out.cell 1
        have hz3 := HRS2.out.lt
        go_wp2_with (fail)
        rw [rounds_succ]
        go_wp2_with (go_at_call 24; refine (H2.out _ _).mono ?_; rintro e w3 ⟨rfl, hb⟩; have HB3 := Lib.hid hb; clear hb)
        go_ret
        exact ⟨by rw [HN.out]; rfl, (HBB2.out.trans ((box_below _ _).mono HBB2.out.size)).trans (HB3.out.mono (by have := HBB2.out.size; simp; omega))⟩
      · go_enter Try.func15, Try.ntmps15
        go_wp2_with (fail)
        go_at_call 23
        refine (HC.out _ (box_below _ _)).mono ?_
        rintro e w1 ⟨rfl, hb⟩
        have HBB := Lib.hid ((box_below w (.cells #[.int .i64 c, .slice p es.length cap] 37)).trans (hb.mono (by simp)))
        have HRS := Lib.hid ((row_new 37 w #[.int .i64 c, .slice p es.length cap]).below hb (by simp))
        have HR1 := Lib.hid ((HR.out.alloc (.cells #[.int .i64 c, .slice p es.length cap] 37)).below hb (by simp; omega))
        clear hb
        have d0 : w1.cell? ⟨g, 0, none⟩ = some (.int .i64 q1) := HR1.out.cell 0
        have d1 : w1.cell? ⟨g, 1, none⟩ = some (.string s1) := HR1.out.cell 1
        have e0 : w1.cell? ⟨w.heap.size, 0, none⟩ = some (.int .i64 c) := HRS.out.cell 0
        have e1 : w1.cell? ⟨w.heap.size, 1, none⟩ = some (.slice p es.length cap) := HRS.out.cell 1
        have hz1 := HRS.out.lt
        have hz2 := HR1.out.lt
        go_wp2_with (fail)
        refine wp_loop_rounds 3 ?_
        rw [rounds_succ]
        go_wp2_with (fail)
        go_at_call 24
        refine (H1.out _ _).mono ?_
        rintro e w2 ⟨rfl, hb⟩
        have HBB2 := Lib.hid (HBB.out.trans (((box_below w1 (.cells #[.int .i64 q1, .string s1] 39)).trans (hb.mono (by simp))).mono HBB.out.size))
        have HRS2 := Lib.hid ((HRS.out.alloc (.cells #[.int .i64 q1, .string s1] 39)).below hb (by simp; omega))
        have HR2 := Lib.hid ((HR1.out.alloc (.cells #[.int .i64 q1, .string s1] 39)).below hb (by simp; omega))
        clear hb d0 d1 e0 e1
        have d0 : w2.cell? ⟨g, 2, none⟩ = some (.int .i64 q2) := HR2.out.cell 2
        have d1 : w2.cell? ⟨g, 3, none⟩ = some (.string s2) := HR2.out.cell 3
        have e0 : w2.cell? ⟨w.heap.size, 0, none⟩ = some (.int .i64 c) := HRS2.out.cell 0
        have e1 : w2.cell? ⟨w.heap.size, 1, none⟩ = some (.slice p es.length cap) := HRS2.out.cell 1
        have hz3 := HRS2.out.lt
        go_wp2_with (fail)
        rw [rounds_succ]
        go_wp2_with (go_at_call 24; refine (H2.out _ _).mono ?_; rintro e w3 ⟨rfl, hb⟩; have HB3 := Lib.hid hb; clear hb)
        rw [rounds_succ]
        go_wp2
        go_ret
        exact ⟨by rw [HN.out]; rfl, (HBB2.out.trans ((box_below _ _).mono HBB2.out.size)).trans (HB3.out.mono (by have := HBB2.out.size; simp; omega))⟩
end Go.Proofs.Ytbkalcnblhhjlaa
