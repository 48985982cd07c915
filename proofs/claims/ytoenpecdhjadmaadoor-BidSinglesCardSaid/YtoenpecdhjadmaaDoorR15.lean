/- The program's Payments. -/
import Derived.Test.YtoenpecdhjadmaaDoorR14
set_option linter.unusedVariables false
set_option linter.unusedSimpArgs false
set_option linter.unnecessarySimpa false
namespace Go.Proofs.YtoenpecdhjadmaaDoor
open Go.RowKit

set_option maxRecDepth 100000 in
set_option maxHeartbeats 2000000 in
theorem pay_spec : SpecPay := by
  intro v m bids w hl hm hf
  have hn7 := hf.1
  have HNW := Lib.hid (new_go v m bids w hl hm hf)
  by_cases hc : checkP m bids = 0
  · obtain ⟨h1, h6, hn1, hn6, ho⟩ := checkP_zero hc
    obtain ⟨K, rfl⟩ : ∃ K : Nat, m = (K : Int) := ⟨m.toNat, by omega⟩
    rw [Int.toNat_natCast] at ho
    have hK6 : K ≤ 6 := by omega
    have HB1 : Hid (payR (K : Int) bids = payP K bids) := by show _ = _; unfold payR; rw [if_pos hc, Int.toNat_natCast]
    have e1 : newR (K : Int) bids v = .agg #[.int .i64 ((2 ^ K - 1 : Nat) : Int), v] := by unfold newR; rw [if_pos hc, Int.toNat_natCast]
    rw [e1, hc] at HNW
    have HPAY : Hid (∀ W, Below w.heap.size w W → Calls Tryd.prog 50 #[.agg #[.int .i64 ((2 ^ K - 1 : Nat) : Int), v]] W fun e w' => ∃ v', e = .returned v' ∧ Own 2 W.heap.size w' v' (ints (payP K bids)) ∧ Below W.heap.size W w') := fun W hb => payments_go v K bids W (hl.below hb) hK6 hn7 hn1 ho
    obtain ⟨p, cap, rfl, hlc, hcm⟩ := hl.form_
    rw [hc]
    obtain ⟨N, hN⟩ : ∃ N : Nat, 2 ^ K - 1 = N := ⟨_, rfl⟩
    rw [hN] at HNW HPAY
    clear hl hm hf hc ho h1 h6 e1 hN
    go_enter Tryd.func18, Tryd.ntmps18
    go_wp2_with (first
      | (go_at_call 46; refine HNW.out.mono ?_; rintro e w1 ⟨rfl, hb1⟩; have HB1' := Lib.hid (hb1.alloc hb1.size (.cells #[.int .i64 (N : Int), .slice p bids.length cap] 73)); clear hb1)
      | (go_at_call 50; refine (HPAY.out _ HB1'.out).mono ?_; rintro e w2 ⟨v2, rfl, hown2, hb2⟩; have HS2 := Lib.hid hown2.sl; have HB2' := Lib.hid (HB1'.out.trans (hb2.mono HB1'.out.size)); clear hown2 hb2))
    go_ret2
    exact ⟨_, rfl, by rw [HB1.out]; exact HS2.out, HB2'.out⟩
  · have HNO := Lib.hid (payR_no hc)
    have e1 : newR m bids v = .agg #[.int .i64 0, .slice none 0 0] := by unfold newR; rw [if_neg hc]
    rw [e1] at HNW
    obtain ⟨c, hcc⟩ : ∃ c, checkP m bids = c := ⟨_, rfl⟩
    rw [hcc] at HNW hc ⊢
    have hne : (c != 0) = true := by rw [bne_iff_ne]; exact hc
    clear hl hm hf e1 hcc hc
    go_enter Tryd.func18, Tryd.ntmps18
    go_wp2_with (first
      | (go_at_call 46; refine HNW.out.mono ?_; rintro e w1 ⟨rfl, hb1⟩; have HB1 := Lib.hid hb1; clear hb1))
    go_ret2
    exact ⟨_, rfl, by rw [HNO.out]; exact Sl.nil _, HB1.out.alloc HB1.out.size _⟩
end Go.Proofs.YtoenpecdhjadmaaDoor
