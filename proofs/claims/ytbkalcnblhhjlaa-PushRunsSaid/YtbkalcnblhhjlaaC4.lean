/- The program's isValid, and Check. -/
import Derived.Test.YtbkalcnblhhjlaaC3
set_option linter.unnecessarySimpa false
set_option linter.unusedVariables false
set_option linter.unusedSimpArgs false
namespace Go.Proofs.Ytbkalcnblhhjlaa
open Go.RowKit

theorem kin_at {P : Program} {f : FuncId} {args : Array Value} {v : Value} {W : World} (h : ∀ z : Kin W, Calls P f args z.1 fun e w' => e = .returned v ∧ Below z.1.heap.size z.1 w') (z : Kin W) :
    Calls P f args z.1 fun e w' => e = .returned v ∧ ∃ z : Kin W, w' = z.1 :=
  (h z).mono fun _ w' h => ⟨h.1, ⟨w', z.2.trans (h.2.mono z.2.size)⟩, rfl⟩
def headP (c : Int) (n : Nat) : Bool := decide (1 ≤ c) && (decide (c ≤ 5) && decide (n ≤ 30))
def okR (c : Int) (es : List Ru) (k : Nat) : Bool :=
  match es[k]? with
  | some e => ruleP c e && !anyR (es.take k) e
  | none => true
def upR (c : Int) (es : List Ru) (k : Nat) : Bool := (List.range k).all (okR c es)
def validP (c : Int) (es : List Ru) : Bool := headP c es.length && upR c es es.length
theorem upR_succ (c : Int) (es : List Ru) (k : Nat) : upR c es (k + 1) = (upR c es k && okR c es k) := by
  unfold upR; rw [List.range_succ, List.all_append]; simp
theorem upR_false {c : Int} {es : List Ru} {k : Nat} (hk : k < es.length) (h : okR c es k = false) : upR c es es.length = false := by
  unfold upR; rw [List.all_eq_false]
  exact ⟨k, List.mem_range.2 hk, by rw [h]; simp⟩
theorem okR_at {c : Int} {es : List Ru} {k : Nat} {e : Ru} (h : es[k]? = some e) : okR c es k = (ruleP c e && !anyR (es.take k) e) := by simp [okR, h]
set_option maxRecDepth 100000 in
set_option maxHeartbeats 4000000 in
theorem isValid_any (c : Int) (v : Value) (es : List Ru) (w : World) (hE : SlR w v es) (hp : ∀ e ∈ es, e.p.size ≤ 1000) :
    Calls Try.prog 31 #[.agg #[.int .i64 c, v]] w fun e w' => e = .returned (.bool (validP c es)) ∧ Below w.heap.size w w' := by
  obtain ⟨p, cap, rfl, hlc, hcm⟩ := hE.len
  have HE := Lib.hid hE
  have HPS := Lib.hid hp
  clear hE hp
  by_cases h1 : c < 1
  · have HB : Hid (validP c es = false) := by
      have h : decide (1 ≤ c) = false := by simp; omega
      show _ = _; simp [validP, headP, h]
    go_enter Try.func31, Try.ntmps31
    go_wp2
    go_ret
    exact ⟨by rw [HB.out]; rfl, (Below.refl _ _).alloc (Nat.le_refl _) _⟩
  by_cases h2 : 5 < c
  · have HB : Hid (validP c es = false) := by
      have h : decide (c ≤ 5) = false := by simp; omega
      show _ = _; simp [validP, headP, h]
    go_enter Try.func31, Try.ntmps31
    go_wp2
    go_ret
    exact ⟨by rw [HB.out]; rfl, (Below.refl _ _).alloc (Nat.le_refl _) _⟩
  by_cases h3 : 30 < es.length
  · have HB : Hid (validP c es = false) := by
      have h : decide (es.length ≤ 30) = false := by simp; omega
      show _ = _; simp [validP, headP, h]
    go_enter Try.func31, Try.ntmps31
    go_wp2
    go_ret
    exact ⟨by rw [HB.out]; rfl, (Below.refl _ _).alloc (Nat.le_refl _) _⟩
  have HP : Hid (validP c es = upR c es es.length) := by
    have e1 : decide (1 ≤ c) = true := by simp; omega
    have e2 : decide (c ≤ 5) = true := by simp; omega
    have e3 : decide (es.length ≤ 30) = true := by simp; omega
    show _ = _
    simp [validP, headP, e1, e2, e3]
  have b1 : decide (c < 1) = false := by simp; omega
  have b2 : decide (5 < c) = false := by simp; omega
  have b3 : decide ((30 : Int) < es.length) = false := by simp; omega
  go_enter Try.func31, Try.ntmps31
  go_wp2
  go_loopw [2, 3, 4, 22] (fun _ _ _ i wr => ∃ k : Nat, k ≤ es.length ∧ i = .int .i64 k ∧ upR c es k = true ∧ Row 37 wr w.heap.size [.int .i64 c, .slice p es.length cap] ∧ Below w.heap.size w wr) (fun _ _ _ i _ => es.length - (intOf i).toNat)
  case atStart => exact ⟨0, Nat.zero_le _, rfl, rfl, row_new _ _ _, (Below.refl _ _).alloc (Nat.le_refl _) _⟩
  case round =>
    obtain ⟨k, hk, rfl, hup, hrow, hbel⟩ := hrel
    by_cases hlt : k < es.length
    · obtain ⟨ad, cap', e, hv, hg, hek, d1, d2, d3, d4, d5⟩ := (HE.out.below hbel).at_ k hlt
      cases hv
      have HPE := Lib.hid (HPS.out _ (List.mem_of_getElem? hek))
      replace d2 : wr.cell? ⟨(ad.add (k * 4)).block, (ad.add (k * 4)).off + 1, none⟩ = some (.int .u8 e.l) := d2
      replace d3 : wr.cell? ⟨(ad.add (k * 4)).block, (ad.add (k * 4)).off + 2, none⟩ = some (.int .i64 e.t) := d3
      replace d4 : wr.cell? ⟨(ad.add (k * 4)).block, (ad.add (k * 4)).off + 3, none⟩ = some (.string e.p) := d4
      obtain ⟨f, l, t, s⟩ := e
      dsimp only at d1 d2 d3 d4 d5
      have HUP := Lib.hid hup
      have HROW := Lib.hid hrow
      have HBEL := Lib.hid hbel
      have HEK := Lib.hid hek
      have HSUCC := Lib.hid (upR_succ c es k)
      have HFALSE := Lib.hid (@upR_false c es k hlt)
      have HOK := Lib.hid (okR_at (c := c) hek)
      clear hup hrow hbel hek
      go_wp2
      refine wp_region_kin (by kernel_rfl) (by kernel_rfl) ?_
      intro W hW
      have HBW : Hid (Below w.heap.size w W) := hW ▸ (HBEL.out.alloc HBEL.out.size _).drew
      have HRW : Hid (Row 37 W w.heap.size [.int .i64 c, .slice (some ad) es.length cap]) := hW ▸ (HROW.out.alloc _).drew
      have r1 : Row 54 W wr.heap.size [.int .i64 f, .int .u8 l, .int .i64 t, .string s] := hW ▸ (row_new 54 wr _).drew
      have b0 := kin_cell (show W.cell? ⟨wr.heap.size, 0, none⟩ = some (.int .i64 f) from r1.cell 0) r1.lt
      have b1 := kin_cell (show W.cell? ⟨wr.heap.size, 1, none⟩ = some (.int .u8 l) from r1.cell 1) r1.lt
      have b2 := kin_cell (show W.cell? ⟨wr.heap.size, 2, none⟩ = some (.int .i64 t) from r1.cell 2) r1.lt
      have b3 := kin_cell (show W.cell? ⟨wr.heap.size, 3, none⟩ = some (.string s) from r1.cell 3) r1.lt
      have a0 := kin_cell (show W.cell? ⟨w.heap.size, 0, none⟩ = some (.int .i64 c) from HRW.out.cell 0) HRW.out.lt
      have a1 := kin_cell (show W.cell? ⟨w.heap.size, 1, none⟩ = some (.slice (some ad) es.length cap) from HRW.out.cell 1) HRW.out.lt
      clear hW r1 d1 d2 d3 d4
      have HRULE : Hid (∀ w, Calls Try.prog 44 #[.agg #[.int .i64 c, .slice (some ad) es.length cap], .agg #[.int .i64 f, .int .u8 l, .int .i64 t, .string s]] w fun r w' => r = .returned (.bool (ruleP c ⟨f, l, t, s⟩)) ∧ Below w.heap.size w w') :=
        fun w => isRule_any c _ ⟨f, l, t, s⟩ w HPE.out
      have HCONT : Hid (∀ z : Kin W, Calls Try.prog 45 #[.slice (some ad) k cap, .agg #[.int .i64 f, .int .u8 l, .int .i64 t, .string s]] z.1 fun e w' => e = .returned (.bool (anyR (es.take k) ⟨f, l, t, s⟩)) ∧ Below z.1.heap.size z.1 w') :=
        fun z => contains_any _ (es.take k) ⟨f, l, t, s⟩ z.1 (((HE.out.below HBW.out).below z.2).take k (by omega))
      cases hep : ruleP c ⟨f, l, t, s⟩
      · have HN2 : Hid (validP c es = false) := by
          show _ = _; rw [HP.out, HFALSE.out (by rw [HOK.out, hep]; rfl)]
        rw [hep] at HRULE
        clear hep
        open BigFrame in repeat (go_big_quiet_step (exact kin_call HRULE.out _))
        refine wpQuiet_nil ?_
        intro z
        go_wp2
        go_ret
        exact ⟨by rw [HN2.out]; rfl, HBW.out.trans (z.2.mono HBW.out.size)⟩
      · rw [hep] at HRULE
        cases hac : anyR (es.take k) ⟨f, l, t, s⟩
        · have HN2 : Hid (upR c es (k + 1) = true) := by
            show _ = _; rw [HSUCC.out, HUP.out, HOK.out, hep, hac]; rfl
          rw [hac] at HCONT
          clear hep hac
          open BigFrame in repeat (go_big_quiet_step (first | exact kin_call HRULE.out _ | exact kin_at HCONT.out _))
          refine wpQuiet_nil ?_
          intro z
          have HZ := Lib.hid z.2
          go_wp2
          go_roundw
          case rel => exact ⟨k + 1, by omega, by go_num, HN2.out, HRW.out.below HZ.out HRW.out.lt, HBW.out.trans (HZ.out.mono HBW.out.size)⟩
          case measure => simp [intOf]; omega
        · have HN2 : Hid (validP c es = false) := by
            show _ = _; rw [HP.out, HFALSE.out (by rw [HOK.out, hep, hac]; rfl)]
          rw [hac] at HCONT
          clear hep hac
          open BigFrame in repeat (go_big_quiet_step (first | exact kin_call HRULE.out _ | exact kin_at HCONT.out _))
          refine wpQuiet_nil ?_
          intro z
          go_wp2
          go_ret
          exact ⟨by rw [HN2.out]; rfl, HBW.out.trans (z.2.mono HBW.out.size)⟩
    · have HN : Hid (validP c es = true) := by
        show _ = _; rw [HP.out]
        have : k = es.length := by omega
        rw [← this]; exact hup
      have HBEL := Lib.hid hbel
      clear hup hrow hbel
      go_wp2
      go_ret
      exact ⟨by rw [HN.out]; rfl, HBEL.out⟩
theorem check_any (c : Int) (v : Value) (es : List Ru) (w : World) (hE : SlR w v es) (hp : ∀ e ∈ es, e.p.size ≤ 1000) :
    Calls Try.prog 23 #[.agg #[.int .i64 c, v]] w fun e w' => e = .returned (.int .i64 (if validP c es then 0 else 40)) ∧ Below w.heap.size w w' := by
  have HI : Hid (∀ w1, Below w.heap.size w w1 → Calls Try.prog 31 #[.agg #[.int .i64 c, v]] w1 fun e w' => e = .returned (.bool (validP c es)) ∧ Below w1.heap.size w1 w') := fun w1 h => isValid_any c v es w1 (hE.below h) hp
  clear hE hp
  obtain ⟨b, hb⟩ : ∃ b, validP c es = b := ⟨_, rfl⟩
  simp only [hb] at HI ⊢
  clear hb
  cases b
  all_goals
    go_enter Try.func23, Try.ntmps23
    go_wp2_with (go_at_call 31; refine (HI.out _ ((Below.refl _ _).alloc (Nat.le_refl _) _)).mono ?_; rintro e w' ⟨rfl, hb⟩; have HB := Lib.hid hb; clear hb)
    go_ret
    exact ⟨rfl, ((Below.refl w.heap.size w).alloc (Nat.le_refl _) _).trans (HB.out.mono (by simp))⟩
end Go.Proofs.Ytbkalcnblhhjlaa
