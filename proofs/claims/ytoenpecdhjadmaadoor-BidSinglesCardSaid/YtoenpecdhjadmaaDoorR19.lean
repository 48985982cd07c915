/- The program's rise, where everyone is content; math/bits.Len. -/
import Derived.Test.YtoenpecdhjadmaaDoorR17
import Derived.Test.YtoenpecdhjadmaaDoorR18
set_option linter.unusedVariables false
set_option linter.unusedSimpArgs false
set_option linter.unnecessarySimpa false
namespace Go.Proofs.YtoenpecdhjadmaaDoor
open Go.RowKit

/-- no bidder would rather have another bundle -/
def Content (N : Nat) (bids : List (List Int)) (l p : List Int) : Prop := ∀ i, i < bids.length → favP bids p i N (gainOf bids p i (l.getD i 0).toNat, (l.getD i 0).toNat) = (gainOf bids p i (l.getD i 0).toNat, (l.getD i 0).toNat)
set_option maxRecDepth 100000 in
set_option maxHeartbeats 4000000 in
theorem rise_content (g N : Nat) (bids : List (List Int)) (l p : List Int) (w : World) (hM : Market w g N bids l p) (hn : bids.length ≤ 7) (hl : l.length = bids.length) (hd : ∀ i, i < bids.length → 0 ≤ l.getD i 0 ∧ (l.getD i 0).toNat ≤ N) (hN : ∀ i, i < bids.length → N < (bids.getD i []).length) (hN64 : N < 64) (hp : p.length ≤ 60) (hsm : Small12 p)
    (hbd : ∀ i s, 0 ≤ (bids.getD i []).getD s 0 ∧ (bids.getD i []).getD s 0 ≤ 1000000) (hc : Content N bids l p) :
    Calls Tryd.prog 75 #[.pointer (some ⟨g, 0, none⟩)] w fun e w' => e = .returned (.bool false) ∧ Below w.heap.size w w' := by
  have HGAIN : Hid (∀ W, Below w.heap.size w W → ∀ i, i < bids.length → ∀ b : Nat, b ≤ N → Calls Tryd.prog 76 #[.pointer (some ⟨g, 0, none⟩), .int .i64 i, .int .i64 b] W fun e w' => e = .returned (.agg #[.int .i64 (gainOf bids p i b), .int .i64 b]) ∧ Below W.heap.size W w') := fun W hb i hi b hbN =>
    gain_go g N i b bids l p W (hM.below hb) hi hn (by have := hN i hi; omega) (by omega) hp hsm hbd
  have HFAV : Hid (∀ W, Below w.heap.size w W → ∀ i, i < bids.length → Calls Tryd.prog 77 #[.pointer (some ⟨g, 0, none⟩), .int .i64 i, .agg #[.int .i64 (gainOf bids p i (l.getD i 0).toNat), .int .i64 ((l.getD i 0).toNat : Nat)]] W fun e w' => e = .returned (.agg #[.int .i64 (gainOf bids p i (l.getD i 0).toNat), .int .i64 ((l.getD i 0).toNat : Nat)]) ∧ Below W.heap.size W w') := fun W hb i hi => by
    have := favorite_go g N i (gainOf bids p i (l.getD i 0).toNat) (l.getD i 0).toNat bids l p W (hM.below hb) hi hn (hN i hi) hN64 hp hsm hbd
    rw [hc i hi] at this; exact this
  obtain ⟨pb, cb, ll, pp, hr, hm, hll, hps⟩ := hM.cells
  obtain ⟨lp, lc, rfl, hlc, hlm⟩ := hll.form
  have k1 := hr.cell 2
  simp only [List.getElem?_cons_zero, List.getElem?_cons_succ] at k1
  rw [hl] at k1 hlc
  have HLL := Lib.hid hll
  rw [hl] at HLL
  have HD := Lib.hid hd
  have HLEN := Lib.hid hl
  have hl0 : (0 : Int) ≤ (bids.length : Int) := by omega
  clear hM hr hm hll hps hd hN hsm hbd hc hp hl
  go_enter Tryd.func75, Tryd.ntmps75
  go_wp2
  go_loopw [12] (fun i wr => ∃ k : Nat, k ≤ bids.length ∧ i = .int .i64 k ∧ Below w.heap.size w wr) (fun i _ => bids.length - (intOf i).toNat)
  case atStart => exact ⟨0, Nat.zero_le _, rfl, Below.refl _ _⟩
  case round =>
    obtain ⟨k, hk, rfl, hb⟩ := hrel
    have HB := Lib.hid hb
    by_cases hlt : k < bids.length
    · obtain ⟨b1, o1, c1, hv, _, _, _, hcx⟩ := (HLL.out.below hb).int_at k (by rw [HLEN.out]; exact hlt)
      rw [HLEN.out] at hv
      cases hv
      have hdk := HD.out k hlt
      have HG := Lib.hid (HGAIN.out wr hb k hlt _ hdk.2)
      have HF := Lib.hid (fun W h => HFAV.out W h k hlt)
      obtain ⟨q, hq⟩ : ∃ q, (l.getD k 0).toNat = q := ⟨_, rfl⟩
      have hqi : l.getD k 0 = (q : Int) := by omega
      rw [hq] at HG HF
      rw [hqi] at hcx
      obtain ⟨x, hx⟩ : ∃ x, gainOf bids p k q = x := ⟨_, rfl⟩
      rw [hx] at HG HF
      have e1 : (x == x) = true := by simp
      have e2 : ((q : Int) == (q : Int)) = true := by simp
      clear hb hq hqi hx hdk
      go_wp2_with (first
        | (go_at_call 76; refine HG.out.mono ?_; rintro e w1 ⟨rfl, hb1⟩; have HB1 := Lib.hid ((HB.out.trans (hb1.mono HB.out.size)).alloc (Nat.le_trans HB.out.size hb1.size) (.cells #[.int .i64 x, .int .i64 (q : Nat)] 98)); have HR5 := Lib.hid (row_new 98 w1 #[.int .i64 x, .int .i64 (q : Nat)]); clear hb1)
        | (go_at_call 77; refine (HF.out _ HB1.out).mono ?_; rintro e w2 ⟨rfl, hb2⟩; have hr5 := (HR5.out.below hb2 HR5.out.lt).alloc (.cells #[.int .i64 x, .int .i64 (q : Nat)] 98); have d0 := hr5.cell 0; have d1 := hr5.cell 1; simp only [List.getElem?_cons_zero, List.getElem?_cons_succ, List.getElem?_toArray] at d0 d1; have HB2 := Lib.hid ((HB1.out.trans (hb2.mono HB1.out.size)).alloc (Nat.le_trans HB1.out.size hb2.size) (.cells #[.int .i64 x, .int .i64 (q : Nat)] 98)); clear hb2 hr5))
      go_roundw
      case rel => exact ⟨k + 1, by omega, by go_num, HB2.out⟩
      case measure => simp [intOf]; omega
    · obtain rfl : k = bids.length := by omega
      go_wp2
      go_ret
      exact ⟨rfl, HB.out⟩
set_option maxRecDepth 100000 in
set_option maxHeartbeats 1000000 in
theorem len3_go (w : World) : Calls Tryd.prog 84 #[.int .u64 3] w fun e w' => e = .returned (.int .i64 2) ∧ w = w' := by
  go_enter Tryd.func84, Tryd.ntmps84
  go_wp2
  go_ret
  exact ⟨by kernel_rfl, rfl⟩
end Go.Proofs.YtoenpecdhjadmaaDoor
