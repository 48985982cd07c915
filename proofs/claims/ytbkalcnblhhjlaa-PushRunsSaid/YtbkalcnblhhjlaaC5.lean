/- The reference's Check. -/
import Derived.Test.YtbkalcnblhhjlaaC4
set_option linter.unnecessarySimpa false
set_option linter.unusedVariables false
set_option linter.unusedSimpArgs false
namespace Go.Proofs.Ytbkalcnblhhjlaa
open Go.RowKit

theorem sameR_comm (e g : Ru) : sameR e g = sameR g e := by
  unfold sameR
  rw [Bool.eq_iff_iff]
  simp only [Bool.and_eq_true, beq_iff_eq]
  constructor
  · rintro ⟨h1, h2, h3, h4⟩; exact ⟨h1.symm, h2.symm, h3.symm, h4.symm⟩
  · rintro ⟨h1, h2, h3, h4⟩; exact ⟨h1.symm, h2.symm, h3.symm, h4.symm⟩
/-- what a rule must not be -/
def badR (c f t : Int) (l : Nat) (s : ByteArray) : Prop := f < 0 ∨ c ≤ f ∨ t < 0 ∨ c ≤ t ∨ l < 97 ∨ 101 < l ∨ wordP s = false ∨ 2 < s.size
theorem ruleP_no {c f t : Int} {l : Nat} {s : ByteArray} (h : badR c f t l s) : ruleP c ⟨f, l, t, s⟩ = false := by
  unfold badR at h
  cases hr : ruleP c ⟨f, l, t, s⟩ with
  | false => rfl
  | true =>
    simp [ruleP, belowP, letP, wordN] at hr
    obtain ⟨⟨h1, h2⟩, ⟨h3, h4⟩, ⟨h5, h6⟩, h7, h8⟩ := hr
    rw [h8] at h
    simp at h
    omega
theorem ruleP_yes {c f t : Int} {l : Nat} {s : ByteArray} (h1 : ¬ f < 0) (h2 : ¬ c ≤ f) (h3 : ¬ t < 0) (h4 : ¬ c ≤ t) (h5 : ¬ l < 97) (h6 : ¬ 101 < l) (h7 : wordP s = true) (h8 : ¬ 2 < s.size) : ruleP c ⟨f, l, t, s⟩ = true := by
  simp [ruleP, belowP, letP, wordN, h7]; omega
set_option maxRecDepth 100000 in
set_option maxHeartbeats 4000000 in
theorem checkR_any (c : Int) (v : Value) (es : List Ru) (w : World) (hE : SlR w v es) :
    Calls Try.prog 6 #[.agg #[.int .i64 c, v]] w fun e w' => e = .returned (.bool (validP c es)) ∧ Below w.heap.size w w' := by
  obtain ⟨p, cap, rfl, hlc, hcm⟩ := hE.len
  have HE := Lib.hid hE
  clear hE
  by_cases h1 : c < 1
  · have HB : Hid (validP c es = false) := by
      have h : decide (1 ≤ c) = false := by simp; omega
      show _ = _; simp [validP, headP, h]
    go_enter Try.func6, Try.ntmps6
    go_wp2
    go_ret
    exact ⟨by rw [HB.out]; rfl, (Below.refl _ _).alloc (Nat.le_refl _) _⟩
  by_cases h2 : 5 < c
  · have HB : Hid (validP c es = false) := by
      have h : decide (c ≤ 5) = false := by simp; omega
      show _ = _; simp [validP, headP, h]
    go_enter Try.func6, Try.ntmps6
    go_wp2
    go_ret
    exact ⟨by rw [HB.out]; rfl, (Below.refl _ _).alloc (Nat.le_refl _) _⟩
  by_cases h3 : 30 < es.length
  · have HB : Hid (validP c es = false) := by
      have h : decide (es.length ≤ 30) = false := by simp; omega
      show _ = _; simp [validP, headP, h]
    go_enter Try.func6, Try.ntmps6
    go_wp2
    go_ret
    exact ⟨by rw [HB.out]; rfl, (Below.refl _ _).alloc (Nat.le_refl _) _⟩
  have HP : Hid (validP c es = upR c es es.length) := by
    have e1 : decide (1 ≤ c) = true := by simp; omega
    have e2 : decide (c ≤ 5) = true := by simp; omega
    have e3 : decide (es.length ≤ 30) = true := by simp; omega
    show _ = _
    simp [validP, headP, e1, e2, e3]
  have b1 : decide (c < 1) = false := by simp; omega
  have b2 : decide (5 < c) = false := by simp; omega
  have b3 : decide ((30 : Int) < es.length) = false := by simp; omega
  go_enter Try.func6, Try.ntmps6
  go_wp2
  go_loopw [3, 4, 5] (fun i _ _ wr => ∃ k : Nat, k ≤ es.length ∧ i = .int .i64 k ∧ upR c es k = true ∧ Row 24 wr w.heap.size [.int .i64 c, .slice p es.length cap] ∧ Below w.heap.size w wr) (fun i _ _ _ => es.length - (intOf i).toNat)
  case atStart => exact ⟨0, Nat.zero_le _, rfl, rfl, row_new _ _ _, (Below.refl _ _).alloc (Nat.le_refl _) _⟩
  case round =>
    obtain ⟨k, hk, rfl, hup, hrow, hbel⟩ := hrel
    have c0 : wr.cell? ⟨w.heap.size, 0, none⟩ = some (.int .i64 c) := hrow.cell 0
    have c1 : wr.cell? ⟨w.heap.size, 1, none⟩ = some (.slice p es.length cap) := hrow.cell 1
    have cl := hrow.lt
    by_cases hlt : k < es.length
    · obtain ⟨ad, cap', e, hv, hg, hek, d1, d2, d3, d4, d5⟩ := (HE.out.below hbel).at_ k hlt
      cases hv
      replace d2 : wr.cell? ⟨(ad.add (k * 4)).block, (ad.add (k * 4)).off + 1, none⟩ = some (.int .u8 e.l) := d2
      replace d3 : wr.cell? ⟨(ad.add (k * 4)).block, (ad.add (k * 4)).off + 2, none⟩ = some (.int .i64 e.t) := d3
      replace d4 : wr.cell? ⟨(ad.add (k * 4)).block, (ad.add (k * 4)).off + 3, none⟩ = some (.string e.p) := d4
      obtain ⟨f, l, t, s⟩ := e
      dsimp only at d1 d2 d3 d4 d5
      have HUP := Lib.hid hup
      have HROW := Lib.hid hrow
      have HBEL := Lib.hid hbel
      have HEK := Lib.hid hek
      have HSUCC := Lib.hid (upR_succ c es k)
      have HFALSE := Lib.hid (@upR_false c es k hlt)
      have HOK := Lib.hid (okR_at (c := c) hek)
      have HW : Hid (∀ w, Calls Try.prog 14 #[.string s] w fun e w' => e = .returned (.bool (wordP s)) ∧ w = w') := fun w => word_any s w (by unfold maxLen; omega)
      clear hup hrow hbel hek
      by_cases q1 : f < 0
      · have HN2 : Hid (validP c es = false) := by
          show _ = _; rw [HP.out, HFALSE.out (by rw [HOK.out, ruleP_no (c := c) (f := f) (t := t) (l := l) (s := s) (by unfold badR; first | omega | exact .inr (.inr (.inr (.inr (.inr (.inr (.inl q1))))))) ]; rfl)]
        go_wp2
        go_ret
        exact ⟨by rw [HN2.out]; rfl, HBEL.out.alloc HBEL.out.size _⟩
      by_cases q2 : c ≤ f
      · have HN2 : Hid (validP c es = false) := by
          show _ = _; rw [HP.out, HFALSE.out (by rw [HOK.out, ruleP_no (c := c) (f := f) (t := t) (l := l) (s := s) (by unfold badR; first | omega | exact .inr (.inr (.inr (.inr (.inr (.inr (.inl q2))))))) ]; rfl)]
        go_wp2
        go_ret
        exact ⟨by rw [HN2.out]; rfl, HBEL.out.alloc HBEL.out.size _⟩
      by_cases q3 : t < 0
      · have HN2 : Hid (validP c es = false) := by
          show _ = _; rw [HP.out, HFALSE.out (by rw [HOK.out, ruleP_no (c := c) (f := f) (t := t) (l := l) (s := s) (by unfold badR; first | omega | exact .inr (.inr (.inr (.inr (.inr (.inr (.inl q3))))))) ]; rfl)]
        go_wp2
        go_ret
        exact ⟨by rw [HN2.out]; rfl, HBEL.out.alloc HBEL.out.size _⟩
      by_cases q4 : c ≤ t
      · have HN2 : Hid (validP c es = false) := by
          show _ = _; rw [HP.out, HFALSE.out (by rw [HOK.out, ruleP_no (c := c) (f := f) (t := t) (l := l) (s := s) (by unfold badR; first | omega | exact .inr (.inr (.inr (.inr (.inr (.inr (.inl q4))))))) ]; rfl)]
        go_wp2
        go_ret
        exact ⟨by rw [HN2.out]; rfl, HBEL.out.alloc HBEL.out.size _⟩
      by_cases q5 : l < 97
      · have HN2 : Hid (validP c es = false) := by
          show _ = _; rw [HP.out, HFALSE.out (by rw [HOK.out, ruleP_no (c := c) (f := f) (t := t) (l := l) (s := s) (by unfold badR; first | omega | exact .inr (.inr (.inr (.inr (.inr (.inr (.inl q5))))))) ]; rfl)]
        go_wp2
        go_ret
        exact ⟨by rw [HN2.out]; rfl, HBEL.out.alloc HBEL.out.size _⟩
      by_cases q6 : 101 < l
      · have HN2 : Hid (validP c es = false) := by
          show _ = _; rw [HP.out, HFALSE.out (by rw [HOK.out, ruleP_no (c := c) (f := f) (t := t) (l := l) (s := s) (by unfold badR; first | omega | exact .inr (.inr (.inr (.inr (.inr (.inr (.inl q6))))))) ]; rfl)]
        go_wp2
        go_ret
        exact ⟨by rw [HN2.out]; rfl, HBEL.out.alloc HBEL.out.size _⟩
      by_cases q7 : wordP s = false
      · have HN2 : Hid (validP c es = false) := by
          show _ = _; rw [HP.out, HFALSE.out (by rw [HOK.out, ruleP_no (c := c) (f := f) (t := t) (l := l) (s := s) (by unfold badR; first | omega | exact .inr (.inr (.inr (.inr (.inr (.inr (.inl q7))))))) ]; rfl)]
        go_wp2_with (go_at_call 14; refine (HW.out _).mono ?_; rintro e w' ⟨rfl, rfl⟩)
        go_ret
        exact ⟨by rw [HN2.out]; rfl, HBEL.out.alloc HBEL.out.size _⟩
      have q7 : wordP s = true := by simpa using q7
      by_cases q8 : 2 < s.size
      · have HN2 : Hid (validP c es = false) := by
          show _ = _; rw [HP.out, HFALSE.out (by rw [HOK.out, ruleP_no (c := c) (f := f) (t := t) (l := l) (s := s) (by unfold badR; first | omega | exact .inr (.inr (.inr (.inr (.inr (.inr (.inl q8))))))) ]; rfl)]
        go_wp2_with (go_at_call 14; refine (HW.out _).mono ?_; rintro e w' ⟨rfl, rfl⟩)
        go_ret
        exact ⟨by rw [HN2.out]; rfl, HBEL.out.alloc HBEL.out.size _⟩
      have HR := Lib.hid (ruleP_yes q1 q2 q3 q4 q5 q6 q7 q8)
      have u1 : decide ((l : Int) < 97) = false := by simp; omega
      have u2 : decide ((101 : Int) < l) = false := by simp; omega
      have u3 : decide ((2 : Int) < s.size) = false := by simp; omega
      go_wp2_with (go_at_call 14; refine (HW.out _).mono ?_; rintro e w' ⟨rfl, rfl⟩)
      have HROW2 := Lib.hid (HROW.out.alloc (.cells #[.int .i64 f, .int .u8 l, .int .i64 t, .string s] 47))
      have HRU := Lib.hid (row_new 47 wr #[.int .i64 f, .int .u8 l, .int .i64 t, .string s])
      have HBEL2 := Lib.hid (HBEL.out.alloc HBEL.out.size (.cells #[.int .i64 f, .int .u8 l, .int .i64 t, .string s] 47))
      have hwr := HBEL.out.size
      clear d1 d2 d3 d4 c0 c1 HROW
      obtain ⟨wo, hwo⟩ : ∃ wo : World, wo = wr := ⟨_, rfl⟩
      subst hwo
      go_loopw [5] (fun j wr => ∃ m : Nat, m ≤ k ∧ j = .int .i64 m ∧ anyR (es.take m) ⟨f, l, t, s⟩ = false ∧ Row 24 wr w.heap.size [.int .i64 c, .slice (some ad) es.length cap] ∧ Row 47 wr wo.heap.size [.int .i64 f, .int .u8 l, .int .i64 t, .string s] ∧ Below w.heap.size w wr) (fun j _ => k - (intOf j).toNat)
      case atStart => exact ⟨0, Nat.zero_le _, rfl, by simp [anyR], HROW2.out, HRU.out, HBEL2.out⟩
      case round =>
        obtain ⟨m, hm, rfl, hno, hrow, hru, hbel⟩ := hrel
        clear HROW2 HRU HBEL2
        by_cases hlt2 : m < k
        · obtain ⟨ad2, cap2, e, hv, hg2, hek, d1, d2, d3, d4, d5'⟩ := (HE.out.below hbel).at_ m (by omega)
          cases hv
          have c1 : wr.cell? ⟨w.heap.size, 1, none⟩ = some (.slice (some ad) es.length cap) := hrow.cell 1
          have e0 : wr.cell? ⟨wo.heap.size, 0, none⟩ = some (.int .i64 f) := hru.cell 0
          have e1 : wr.cell? ⟨wo.heap.size, 1, none⟩ = some (.int .u8 l) := hru.cell 1
          have e2 : wr.cell? ⟨wo.heap.size, 2, none⟩ = some (.int .i64 t) := hru.cell 2
          have e3 : wr.cell? ⟨wo.heap.size, 3, none⟩ = some (.string s) := hru.cell 3
          replace d2 : wr.cell? ⟨(ad.add (m * 4)).block, (ad.add (m * 4)).off + 1, none⟩ = some (.int .u8 e.l) := d2
          replace d3 : wr.cell? ⟨(ad.add (m * 4)).block, (ad.add (m * 4)).off + 2, none⟩ = some (.int .i64 e.t) := d3
          replace d4 : wr.cell? ⟨(ad.add (m * 4)).block, (ad.add (m * 4)).off + 3, none⟩ = some (.string e.p) := d4
          have HEK2 := Lib.hid hek
          obtain ⟨f', l', t', s'⟩ := e
          dsimp only at d1 d2 d3 d4 d5'
          have q := eql_ruleR f' f t' t l' l s' s
          have g2 := guard_ruleR
          have hs := anyR_snoc es m _ ⟨f, l, t, s⟩ hek
          rw [sameR_comm ⟨f, l, t, s⟩] at hs
          obtain ⟨b, hb⟩ : ∃ b, sameR ⟨f', l', t', s'⟩ ⟨f, l, t, s⟩ = b := ⟨_, rfl⟩
          simp only [hb] at q
          rw [hb, hno] at hs
          have HS := Lib.hid hs
          have HBB := Lib.hid hb
          have HROW3 := Lib.hid hrow
          have HRU3 := Lib.hid hru
          have HBEL3 := Lib.hid hbel
          have HLT2 : m < es.length := by omega
          have hml : (m : Int) < (es.length : Int) := by omega
          clear hek hs hb hrow hru hbel hno
          cases b with
          | true =>
            have HN2 : Hid (validP c es = false) := by
              show _ = _
              have : anyR (es.take k) ⟨f, l, t, s⟩ = true := by
                unfold anyR
                rw [List.any_eq_true]
                refine ⟨⟨f', l', t', s'⟩, ?_, by rw [sameR_comm]; exact HBB.out⟩
                exact List.mem_of_getElem? (by rw [List.getElem?_take_of_lt hlt2]; exact HEK2.out)
              rw [HP.out, HFALSE.out (by rw [HOK.out, this]; simp)]
            go_wp2
            go_quiet (fail)
            go_wp2
            go_ret
            exact ⟨by rw [HN2.out]; rfl, HBEL3.out.trans ((below_drewN _ _).mono HBEL3.out.size)⟩
          | false =>
            go_wp2
            go_quiet (fail)
            obtain ⟨w2, hw2⟩ : ∃ w2, wr.drewN nq = w2 := ⟨_, rfl⟩
            have hd := hw2 ▸ below_drewN wr nq
            have HR1 := Lib.hid (HROW3.out.below hd HROW3.out.lt)
            have HR2 := Lib.hid (HRU3.out.below hd HRU3.out.lt)
            have HR3 := Lib.hid (HBEL3.out.trans (hd.mono HBEL3.out.size))
            rw [hw2]
            clear hd hw2 c1 e0 e1 e2 e3 d1 d2 d3 d4 q g2
            go_wp2
            go_roundw
            case rel => exact ⟨m + 1, by omega, by go_num, HS.out, HR1.out, HR2.out, HR3.out⟩
            case measure => simp [intOf]; omega
        · obtain rfl : m = k := by omega
          have HN2 : Hid (upR c es (m + 1) = true) := by
            show _ = _; rw [HSUCC.out, HUP.out, HOK.out, HR.out, hno]; rfl
          have HR1 := Lib.hid hrow
          have HR3 := Lib.hid hbel
          clear hno hrow hru hbel hlt2
          go_wp2
          go_roundw
          case rel => exact ⟨m + 1, by omega, by go_num, HN2.out, HR1.out, HR3.out⟩
          case measure => simp [intOf]; omega
    · have HN : Hid (validP c es = true) := by
        show _ = _; rw [HP.out]
        have : k = es.length := by omega
        rw [← this]; exact hup
      have HBEL := Lib.hid hbel
      clear hup hrow hbel
      go_wp2
      go_ret
      exact ⟨by rw [HN.out]; rfl, HBEL.out⟩
end Go.Proofs.Ytbkalcnblhhjlaa
