/- The program's Sign. -/
import Derived.Test.YtllhejjcmfiebaaDoorS13
set_option linter.unusedVariables false
set_option linter.unusedSimpArgs false
set_option linter.unnecessarySimpa false
namespace Go.Proofs.YtllhejjcmfiebaaDoor
open Go.RowKit Go.Shelf

theorem posE_zero {n : Int} {l : List Int} (h : posE n l = 0) : ∃ N : Nat, n = (N : Int) ∧ 2 ≤ N ∧ N ≤ 9 ∧ l.length = N ∧ ∀ j, j < N → rngAt N l j = true := by
  unfold posE posR at h
  split at h
  · rename_i hc
    simp only [Bool.and_eq_true, sizeB, posB, decide_eq_true_eq] at hc
    obtain ⟨⟨h1, h2⟩, ⟨h3, h4⟩, _⟩ := hc
    refine ⟨n.toNat, by omega, by omega, by omega, h3, fun j hj => List.all_eq_true.1 h4 j (List.mem_range.2 hj)⟩
  · cases h
theorem posF_sm {N : Nat} {l : List Int} (hN : N ≤ 9) (hl : l.length = N) (h : ∀ j, j < N → rngAt N l j = true) : Sm (posF l l.length) := by
  intro j hj
  unfold posF
  split
  · have := h j (by omega)
    simp only [rngAt, Bool.and_eq_true, decide_eq_true_eq] at this
    omega
  · omega
/-- the sign of one list against another one -/
def signL (p q : List Int) : Int := sgAll (takF (posF p p.length) (posF q q.length) 9) 9
set_option maxRecDepth 100000 in
set_option maxHeartbeats 4000000 in
theorem sign2_go (vp vq : Value) (n : Int) (p q : List Int) (w : World) (hp : SlA w vp (ints p)) (hq : SlA w vq (ints q)) :
    Calls Tryd.prog 18 #[.int .i64 n, vp, vq] w fun e w' => ((posE n p ≠ 0 → e = .returned (.tuple #[.int .i64 0, .int .i64 (posE n p)])) ∧ (posE n p = 0 → posE n q ≠ 0 → e = .returned (.tuple #[.int .i64 0, .int .i64 (posE n q)])) ∧
      (posE n p = 0 → posE n q = 0 → e = .returned (.tuple #[.int .i64 (signL p q), .int .i64 0]))) ∧ Below w.heap.size w w' := by
  have HCP := Lib.hid (fun W (hb : Below w.heap.size w W) => checkPos_go vp n p W (hp.below hb))
  have HCQ := Lib.hid (fun W (hb : Below w.heap.size w W) => checkPos_go vq n q W (hq.below hb))
  have HNP := Lib.hid (fun (h : posE n p = 0) W (hb : Below w.heap.size w W) => by
    obtain ⟨N, _, _, h9, hl, hr⟩ := posE_zero h
    exact newPos_go vp N p W (hp.below hb) h9 hl hr)
  have HNQ := Lib.hid (fun (h : posE n q = 0) W (hb : Below w.heap.size w W) => by
    obtain ⟨N, _, _, h9, hl, hr⟩ := posE_zero h
    exact newPos_go vq N q W (hq.below hb) h9 hl hr)
  have HSG := Lib.hid (fun (h : posE n p = 0) W => by
    obtain ⟨N, _, _, h9, hl, hr⟩ := posE_zero h
    exact sign_go (posF p p.length) (posF q q.length) (posF_sm h9 hl hr) W)
  have HSL : Hid (sgAll (takF (posF p p.length) (posF q q.length) 9) 9 = signL p q) := rfl
  obtain ⟨pp, cp, rfl, hp1, hp2⟩ := hp.form
  obtain ⟨pq, cq, rfl, hq1, hq2⟩ := hq.form
  obtain ⟨ep, hep⟩ : ∃ ep, posE n p = ep := ⟨_, rfl⟩
  obtain ⟨eq, heq⟩ : ∃ eq, posE n q = eq := ⟨_, rfl⟩
  rw [hep] at HCP HNP HSG
  rw [heq] at HCQ HNQ
  rw [hep, heq]
  have hrow := row_new 23 w #[.slice pp p.length cp, .slice pq q.length cq]
  have HROW := Lib.hid hrow
  have HB := Lib.hid ((Below.refl w.heap.size w).alloc (Nat.le_refl _) (.cells #[.slice pp p.length cp, .slice pq q.length cq] 23))
  clear hp hq hep heq hrow
  go_enter Tryd.func18, Tryd.ntmps18
  go_wp2
  go_loopw [15] (fun i wr => ∃ k : Nat, k ≤ 2 ∧ i = .int .i64 k ∧ Row 23 wr w.heap.size [.slice pp p.length cp, .slice pq q.length cq] ∧ (1 ≤ k → ep = 0) ∧ (2 ≤ k → eq = 0) ∧ Below w.heap.size w wr) (fun i _ => 2 - (intOf i).toNat)
  case atStart => exact ⟨0, by omega, rfl, HROW.out, fun h => by omega, fun h => by omega, HB.out⟩
  case round =>
    obtain ⟨k, hk, rfl, hrow, h1, h2, hbel⟩ := hrel
    clear HROW HB
    have k0 := hrow.cell 0
    have k1 := hrow.cell 1
    simp only [List.getElem?_cons_zero, List.getElem?_cons_succ] at k0 k1
    have HROW := Lib.hid hrow
    have HB := Lib.hid hbel
    clear hrow hbel
    rcases (by omega : k = 0 ∨ k = 1 ∨ k = 2) with hk0 | hk0 | hk0
    · subst hk0
      clear h1 h2
      by_cases he : ep = 0
      · have HE := Lib.hid he
        subst he
        go_wp2_with (first | (go_at_call 16; refine (HCP.out _ HB.out).mono ?_; rintro e w1 ⟨rfl, hb1⟩; have HB1 := Lib.hid (HB.out.trans (hb1.mono HB.out.size)); have HR1 := Lib.hid (HROW.out.below hb1 HROW.out.lt); clear hb1))
        go_roundw
        case rel => exact ⟨1, by omega, rfl, HR1.out, by simp, by simp, HB1.out⟩
        case measure => simp [intOf]
      · have hne : (ep != 0) = true := by rw [bne_iff_ne]; exact he
        have HE := Lib.hid he
        clear he
        go_wp2_with (first | (go_at_call 16; refine (HCP.out _ HB.out).mono ?_; rintro e w1 ⟨rfl, hb1⟩; have HB1 := Lib.hid (HB.out.trans (hb1.mono HB.out.size)); clear hb1))
        go_ret2
        exact ⟨⟨fun _ => rfl, fun h => absurd h HE.out, fun h => absurd h HE.out⟩, HB1.out⟩
    · have he0 := h1 (by omega)
      subst he0 hk0
      clear h1 h2
      by_cases he : eq = 0
      · have HE := Lib.hid he
        subst he
        go_wp2_with (first | (go_at_call 16; refine (HCQ.out _ HB.out).mono ?_; rintro e w1 ⟨rfl, hb1⟩; have HB1 := Lib.hid (HB.out.trans (hb1.mono HB.out.size)); have HR1 := Lib.hid (HROW.out.below hb1 HROW.out.lt); clear hb1))
        go_roundw
        case rel => exact ⟨2, by omega, rfl, HR1.out, by simp, by simp, HB1.out⟩
        case measure => simp [intOf]
      · have hne : (eq != 0) = true := by rw [bne_iff_ne]; exact he
        have HE := Lib.hid he
        clear he
        go_wp2_with (first | (go_at_call 16; refine (HCQ.out _ HB.out).mono ?_; rintro e w1 ⟨rfl, hb1⟩; have HB1 := Lib.hid (HB.out.trans (hb1.mono HB.out.size)); clear hb1))
        go_ret2
        exact ⟨⟨fun _ => rfl, fun h => absurd h HE.out⟩, HB1.out⟩
    · have he0 := h1 (by omega)
      have he1 := h2 (by omega)
      subst he0 he1 hk0
      clear h1 h2
      go_wp2_with fail
      refine (HNP.out trivial _ HB.out).mono ?_
      rintro e w1 ⟨rfl, hb1⟩
      have HB1 := Lib.hid (HB.out.trans (hb1.mono HB.out.size))
      clear hb1
      go_wp2_with fail
      refine (HNQ.out trivial _ HB1.out).mono ?_
      rintro e w2 ⟨rfl, hb2⟩
      have HB2 := Lib.hid (HB1.out.trans (hb2.mono HB1.out.size))
      clear hb2
      go_wp2_with fail
      refine (HSG.out trivial _).mono ?_
      rintro e w3 ⟨rfl, hb3⟩
      have HB3 := Lib.hid (HB2.out.trans (hb3.mono HB2.out.size))
      clear hb3
      rw [HSL.out]
      go_wp2
      go_ret2
      exact ⟨rfl, HB3.out⟩
end Go.Proofs.YtllhejjcmfiebaaDoor
