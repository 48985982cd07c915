/- The reference's Sign: its walk. -/
import Derived.Test.YtllhejjcmfiebaaDoorS19
import Derived.StillTailTactics
set_option linter.unusedVariables false
set_option linter.unusedSimpArgs false
set_option linter.unnecessarySimpa false
namespace Go.Proofs.YtllhejjcmfiebaaDoor
open Go.RowKit Go.Shelf

theorem valsN_zero (n : Nat) : List.replicate n (Value.int .i64 0) = ints (valsN n fun _ => 0) := by
  rw [ints_replicate]; congr 1; simp [valsN, List.map_const']
set_option maxRecDepth 100000 in
set_option maxHeartbeats 4000000 in
theorem rsign_go (vp vq : Value) (n : Nat) (p q : List Int) (w : World) (hp : SlA w vp (ints p)) (hq : SlA w vq (ints q)) (hn0 : 0 < n) (hn9 : n ≤ 9) (hlp : p.length = n) (hlq : q.length = n)
    (hr : ∀ j, j < n → rngAt n p j = true) (hrq : ∀ j, j < n → rngAt n q j = true) :
    Calls Tryd.prog 32 #[vp, vq] w fun e w' => e = .returned (.int .i64 (signL p q)) ∧ Below w.heap.size w w' := by
  have rg : ∀ l : List Int, (∀ j, j < n → rngAt n l j = true) → ∀ j, j < n → 0 ≤ l.getD j 0 ∧ l.getD j 0 < n := by
    intro l h j hj
    have := h j hj
    simp only [rngAt, Bool.and_eq_true, decide_eq_true_eq] at this
    exact this
  have HSL := Lib.hid (signL_rall hn0 hn9 hlp hlq fun j hj => (rg q hrq j hj).2)
  have HRP := Lib.hid (rg p hr)
  have HP := Lib.hid hp
  have HQ := Lib.hid hq
  obtain ⟨pp, cp, rfl, hp1, hp2⟩ := hp.form
  obtain ⟨pq, cq, rfl, hq1, hq2⟩ := hq.form
  have hlp0 := hlp
  have hlq0 := hlq
  rw [hlp, hlq]
  have HLP := Lib.hid hlp
  have HLQ := Lib.hid hlq
  rw [hlp] at hp1
  rw [hlq] at hq1
  clear hp hq hr hrq rg hlp hlq hlp0 hlq0
  obtain ⟨f, hf⟩ : ∃ f, posF p n = f := ⟨_, rfl⟩
  obtain ⟨g, hg⟩ : ∃ g, posF q n = g := ⟨_, rfl⟩
  have HFE : Hid (∀ j, j < n → p.getD j 0 = f j) := by intro j hj; subst hf; unfold posF; rw [if_pos hj]
  have HGE : Hid (∀ j, j < n → q.getD j 0 = g j) := by intro j hj; subst hg; unfold posF; rw [if_pos hj]
  rw [hf, hg] at HSL
  obtain ⟨S, hS⟩ : ∃ S, signL p q = S := ⟨_, rfl⟩
  rw [hS] at HSL ⊢
  clear hf hg hS
  go_enter Tryd.func32, Tryd.ntmps32
  go_wp2_with (first | (at_make; refine wpList_make_row _ rfl _ _ 23 rfl 3 (.int .i64 0) 8 Tryd.underlying23 Tryd.infoI rfl .i64 .i64 _ _ n rfl rfl ?d1 ?d2 ?d3 ?d4 ?_))
  case d1 => rfl
  case d2 => rfl
  case d3 => omega
  case d4 => simp [maxLen]; omega
  intro W1 hrow hb1
  rw [valsN_zero] at hrow
  have HROW0 : Hid (Row 3 W1 w.heap.size (ints (valsN n (takF f g 0)))) := hrow
  have HB1 := Lib.hid hb1
  clear hrow hb1
  go_wp2
  go_loopw [7] (fun i wr => ∃ k : Nat, k ≤ n ∧ i = .int .i64 k ∧ Row 3 wr w.heap.size (ints (valsN n (takF f g k))) ∧ Below w.heap.size w wr) (fun i _ => n - (intOf i).toNat)
  case atStart => exact ⟨0, Nat.zero_le _, rfl, HROW0.out, HB1.out⟩
  case round =>
    obtain ⟨k, hk, rfl, hrow, hbel⟩ := hrel
    clear HROW0 HB1
    by_cases hlt : k < n
    · obtain ⟨ad, cap', hv, _, _, hg1, hc1⟩ := (HP.out.below hbel).int_at k (by rw [HLP.out]; exact hlt)
      rw [HLP.out] at hv
      cases hv
      obtain ⟨ad2, cap2', hv2, _, _, hg2, hc2⟩ := (HQ.out.below hbel).int_at k (by rw [HLQ.out]; exact hlt)
      rw [HLQ.out] at hv2
      cases hv2
      have hrg := HRP.out k hlt
      rw [HFE.out k hlt] at hc1 hrg
      rw [HGE.out k hlt] at hc2
      obtain ⟨X, hX⟩ : ∃ X : Nat, f k = (X : Int) := ⟨(f k).toNat, by omega⟩
      rw [hX] at hc1 hrg
      have hXn : X < n := by omega
      have gX : (X : Int) < (n : Int) := by omega
      have ht := hrow.cell X
      rw [valsN_get _ hXn] at ht
      have hfr := hrow.free X
      have hst := hrow.drew.store X (.int .i64 (g k))
      rw [valsN_set] at hst
      have HST : Hid (Row 3 (wr.drew.setCell ⟨w.heap.size, X, none⟩ (.int .i64 (g k))) w.heap.size (ints (valsN n (takF f g (k + 1))))) := by
        show Row _ _ _ _
        have e : takF f g (k + 1) = upd (takF f g k) X (g k) := by show upd (takF f g k) (f k).toNat (g k) = _; rw [hX, Int.toNat_natCast]
        rw [e]; exact hst
      have HB := Lib.hid (hbel.drew.setCell (p := ⟨w.heap.size, X, none⟩) (by dsimp only; omega) (.int .i64 (g k)))
      obtain ⟨y, hy⟩ : ∃ y, g k = y := ⟨_, rfl⟩
      rw [hy] at hc2 HST HB
      obtain ⟨z, hz⟩ : ∃ z, takF f g k X = z := ⟨_, rfl⟩
      rw [hz] at ht
      clear hrow hbel hst hX hy hz hrg
      go_wp2
      go_still_tail 10, (by kernel_rfl)
      change wpList _ _ _ _ _ wr.drew
      go_wp2
      go_roundw
      case rel => exact ⟨k + 1, by omega, by go_num, HST.out, HB.out⟩
      case measure => simp [intOf]; omega
    · obtain rfl : k = n := by omega
      obtain ⟨T, hT⟩ : ∃ T, takF f g k = T := ⟨_, rfl⟩
      rw [hT] at hrow
      rw [hT] at HSL
      have HROW := Lib.hid hrow
      have HB := Lib.hid hbel
      clear hrow hbel hT HRP HFE HGE HP HQ HLP HLQ
      go_wp2
      go_loopw [8, 9] (fun sv i wr => ∃ i' : Nat, i' ≤ k ∧ sv = .int .i64 (rall T k i') ∧ i = .int .i64 i' ∧ Row 3 wr w.heap.size (ints (valsN k T)) ∧ Below w.heap.size w wr) (fun _ i _ => k - (intOf i).toNat)
      case atStart => exact ⟨0, Nat.zero_le _, rfl, rfl, HROW.out, HB.out⟩
      case round =>
        obtain ⟨i, hi, rfl, rfl, hrow, hbel⟩ := hrel
        clear HROW HB
        have HROW := Lib.hid hrow
        have HB := Lib.hid hbel
        clear hrow hbel
        by_cases hil : i < k
        · have HRA : Hid (rall T k (i + 1) = rall T k i * rrow T i (k - 1 - i)) := rfl
          have H1 := Lib.hid (rall_one T k i)
          obtain ⟨s0, hs0⟩ : ∃ s0, rall T k i = s0 := ⟨_, rfl⟩
          rw [hs0] at HRA H1 ⊢
          obtain ⟨x, hx⟩ : ∃ x, T i = x := ⟨_, rfl⟩
          have HX := Lib.hid hx
          clear hs0 hx
          go_wp2
          go_loopw [8, 10] (fun sv jv wr => ∃ m : Nat, i + 1 + m ≤ k ∧ sv = .int .i64 (s0 * rrow T i m) ∧ jv = .int .i64 ((i + 1 + m : Nat) : Int) ∧ Row 3 wr w.heap.size (ints (valsN k T)) ∧ Below w.heap.size w wr) (fun _ jv _ => k - (intOf jv).toNat)
          case atStart => exact ⟨0, by omega, by simp [rrow], by go_num, HROW.out, HB.out⟩
          case round =>
            obtain ⟨m, hm, rfl, rfl, hrow, hbel⟩ := hrel
            clear HROW HB
            have HROW := Lib.hid hrow
            have HB := Lib.hid hbel
            clear hrow hbel
            obtain ⟨j, hj⟩ : ∃ j, i + 1 + m = j := ⟨_, rfl⟩
            have HR1 : Hid (rrow T i (m + 1) = rrow T i m * sg (T (i + 1 + m) < T i)) := rfl
            rw [hj] at HR1 hm ⊢
            rw [HX.out] at HR1
            have h1 := H1.out.mul (rrow_one T i m)
            by_cases hjl : j < k
            · have hci := HROW.out.cell i
              rw [valsN_get _ hil, HX.out] at hci
              have hcj := HROW.out.cell j
              rw [valsN_get _ hjl] at hcj
              obtain ⟨y, hy⟩ : ∃ y, T j = y := ⟨_, rfl⟩
              rw [hy] at HR1 hcj
              have HS2 : Hid (s0 * rrow T i (m + 1) = (s0 * rrow T i m) * sg (y < x)) := by show _ = _; rw [HR1.out, Int.mul_assoc]
              obtain ⟨s1, hs1⟩ : ∃ s1, s0 * rrow T i m = s1 := ⟨_, rfl⟩
              rw [hs1] at HS2 h1 ⊢
              have hneg : IntKind.i64.wrap (-s1) = -s1 := IntWalk.i64_in _ (by unfold One at h1; omega)
              clear hs1 hy h1
              by_cases hyx : y < x
              · have HS3 : Hid (s0 * rrow T i (m + 1) = -s1) := by show _ = _; rw [HS2.out]; unfold sg; rw [if_pos hyx]; omega
                clear HS2 HR1
                go_wp2
                go_quiet (fail)
                go_wp2
                go_roundw
                case rel => exact ⟨m + 1, by omega, by rw [HS3.out], by rw [show i + 1 + (m + 1) = j + 1 by omega]; go_num, HROW.out.below (below_drewN (Below.refl _ _) _) HROW.out.lt, below_drewN HB.out _⟩
                case measure => simp [intOf]; omega
              · have HS3 : Hid (s0 * rrow T i (m + 1) = s1) := by show _ = _; rw [HS2.out]; unfold sg; rw [if_neg hyx]; omega
                clear HS2 HR1
                go_wp2
                go_quiet (fail)
                go_wp2
                go_roundw
                case rel => exact ⟨m + 1, by omega, by rw [HS3.out], by rw [show i + 1 + (m + 1) = j + 1 by omega]; go_num, HROW.out.below (below_drewN (Below.refl _ _) _) HROW.out.lt, below_drewN HB.out _⟩
                case measure => simp [intOf]; omega
            · have hjk : j = k := by omega
              subst hjk
              have HE : Hid (rall T j (i + 1) = s0 * rrow T i m) := by show _ = _; rw [HRA.out, show j - 1 - i = m by omega]
              obtain ⟨s1, hs1⟩ : ∃ s1, s0 * rrow T i m = s1 := ⟨_, rfl⟩
              rw [hs1] at HE ⊢
              clear hs1 HR1 h1
              go_wp2
              go_roundw
              case rel => exact ⟨i + 1, by omega, by rw [HE.out], by go_num, HROW.out, HB.out⟩
              case measure => simp [intOf]; omega
        · obtain rfl : i = k := by omega
          rw [HSL.out]
          go_wp2
          go_ret
          exact ⟨rfl, HB.out⟩
end Go.Proofs.YtllhejjcmfiebaaDoor
