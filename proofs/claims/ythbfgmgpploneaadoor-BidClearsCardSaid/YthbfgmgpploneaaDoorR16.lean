/- The program's gain. -/
import Derived.Test.YthbfgmgpploneaaDoorR9
set_option linter.unusedVariables false
set_option linter.unusedSimpArgs false
set_option linter.unnecessarySimpa false
namespace Go.Proofs.YthbfgmgpploneaaDoor
open Go.RowKit

/-- an auction, an allocation and prices, as they lie -/
structure Market (W : World) (g : Nat) (N : Nat) (bids : List (List Int)) (l p : List Int) : Prop where
  cells : ∃ pb cb ll pp, Row 84 W g [.int .i64 N, .slice pb bids.length cb, ll, pp] ∧ Mat W (.slice pb bids.length cb) bids ∧ Sl W ll (ints l) ∧ Sl W pp (ints p)
theorem Market.below {W W' : World} {g N : Nat} {bids : List (List Int)} {l p : List Int} (h : Market W g N bids l p) (hb : Below W.heap.size W W') : Market W' g N bids l p := by
  obtain ⟨pb, cb, ll, pp, h1, h2, h3, h4⟩ := h.cells
  exact ⟨pb, cb, ll, pp, h1.below hb h1.lt, h2.below hb, h3.below hb, h4.below hb⟩
/-- what a bidder has of a bundle at these prices -/
def gainOf (bids : List (List Int)) (p : List Int) (i b : Nat) : Int := (bids.getD i []).getD b 0 - sumP p b
theorem sumTo_next (p : List Int) (s k : Nat) : sumTo p s (k + 1) = if bt s k then sumTo p s k + p.getD k 0 else sumTo p s k := rfl
set_option maxRecDepth 100000 in
set_option maxHeartbeats 4000000 in
theorem gain_go (g N i b : Nat) (bids : List (List Int)) (l p : List Int) (w : World) (hM : Market w g N bids l p) (hi : i < bids.length) (hn : bids.length ≤ 7) (hb : b < (bids.getD i []).length) (hb64 : b < 1000) (hp : p.length ≤ 60) (hsm : Small12 p)
    (hbd : ∀ i s, 0 ≤ (bids.getD i []).getD s 0 ∧ (bids.getD i []).getD s 0 ≤ 1000000) :
    Calls Tryd.prog 76 #[.pointer (some ⟨g, 0, none⟩), .int .i64 i, .int .i64 b] w fun e w' => e = .returned (.agg #[.int .i64 (gainOf bids p i b), .int .i64 b]) ∧ Below w.heap.size w w' := by
  obtain ⟨pb, cb, ll, pp, hr, hm, hl, hps⟩ := hM.cells
  obtain ⟨ap, ac, rfl, hpc, hpm⟩ := hps.form
  obtain ⟨al, bl, hlv, _, _⟩ := hl.form
  have hbnd : ∀ k, k ≤ p.length → -60000000000000 ≤ sumTo p b k ∧ sumTo p b k ≤ 60000000000000 := fun k hk => by
    have := sumTo_le (B := 1000000000000) (by omega) hsm b k
    omega
  have HBND := Lib.hid hbnd
  have hx := hbd i b
  obtain ⟨b1, o1, c1, b2, o2, c2, hv, hcb, hcx, hlc1, hlc2⟩ := hm.at2 rfl hi (M := (bids.getD i []).length) (s := b) rfl hb rfl
  cases hv
  have HG : Hid (gainOf bids p i b = (bids.getD i []).getD b 0 - sumTo p b p.length) := rfl
  obtain ⟨M, hMM⟩ : ∃ M, (bids.getD i []).length = M := ⟨_, rfl⟩
  rw [hMM] at hcb hlc2 hb
  obtain ⟨x, hxx⟩ : ∃ x, (bids.getD i []).getD b 0 = x := ⟨_, rfl⟩
  rw [hxx] at hcx HG hx
  have hr6 := row_new 98 w #[.int .i64 0, .int .i64 0]
  have hb0 := (Below.refl w.heap.size w).alloc (Nat.le_refl _) (.cells #[.int .i64 0, .int .i64 0] 98)
  have hr0 := hr.alloc (.cells #[.int .i64 0, .int .i64 0] 98)
  have HPS := Lib.hid (hps.below hb0)
  have k1 := hr0.cell 1
  have k3 := hr0.cell 3
  simp only [List.getElem?_cons_zero, List.getElem?_cons_succ] at k1 k3
  have hcb' := (hb0.cell (p := ⟨b1, o1 + i, none⟩) (World.block_lt_of_cell? _ _ hcb)).trans hcb
  have hcx' := (hb0.cell (p := ⟨b2, o2 + b, none⟩) (World.block_lt_of_cell? _ _ hcx)).trans hcx
  have HR6 := Lib.hid hr6
  have HB0 := Lib.hid hb0
  have hbm : (b : Int) < (M : Int) := by omega
  have hin : (i : Int) < (bids.length : Int) := by omega
  have hpl0 : (0 : Int) ≤ (p.length : Int) := by omega
  have HHAS := Lib.hid (fun k (hk : k < p.length) W => has_any b k W hb64 (by omega))
  have HPR := Lib.hid (fun k => hsm k)
  have hf0 := hr6.free 0
  have hf1 := hr6.free 1
  have hz0 := hr6.cell 0
  have hz1 := hr6.cell 1
  simp only [List.getElem?_cons_zero, List.getElem?_cons_succ, List.getElem?_toArray] at hz0 hz1
  obtain ⟨W0, hW0⟩ : ∃ W0, w.alloc (.cells #[.int .i64 0, .int .i64 0] 98) = W0 := ⟨_, rfl⟩
  rw [hW0] at HPS k1 k3 hcb' hcx' HR6 HB0 hf0 hf1 hz0 hz1
  clear hr hm hl hps hbnd hr6 hb0 hr0 hcb hcx hMM hxx hlv hM hbd hsm
  go_enter Tryd.func76, Tryd.ntmps76
  go_wp2
  clear hW0
  go_loop [7, 26] (fun v i => ∃ k : Nat, k ≤ p.length ∧ i = .int .i64 k ∧ v = .int .i64 (x - sumTo p b k)) (fun _ i => p.length - (intOf i).toNat)
  case atStart => exact ⟨0, Nat.zero_le _, rfl, by simp [sumTo]⟩
  case round =>
    obtain ⟨k, hk, rfl, rfl⟩ := hrel
    by_cases hlt : k < p.length
    · obtain ⟨b3, o3, c3, hv, _, _, _, hcp⟩ := HPS.out.int_at k hlt
      cases hv
      have HN := Lib.hid (sumTo_next p b k)
      have h1 := HBND.out k (by omega)
      have h2 := HPR.out k
      have HH := Lib.hid (HHAS.out k hlt)
      obtain ⟨y, hy⟩ : ∃ y, p.getD k 0 = y := ⟨_, rfl⟩
      obtain ⟨s, hs⟩ : ∃ s, sumTo p b k = s := ⟨_, rfl⟩
      rw [hy] at hcp HN h2
      rw [hs] at HN h1 ⊢
      have hw1 : IntKind.i64.wrap (x - s - y) = x - s - y := IntWalk.i64_in _ (by omega)
      clear hy hs
      cases hbt : bt b k with
      | true =>
        rw [hbt] at HH HN
        clear hbt h1 h2
        go_wp2_with (first | (go_at_call 78; refine (HH.out _).mono ?_; rintro e w1 ⟨rfl, rfl⟩))
        go_round
        case rel => exact ⟨k + 1, by omega, by go_num, by rw [HN.out]; simp only [if_true]; congr 1; omega⟩
        case measure => simp [intOf]; omega
      | false =>
        rw [hbt] at HH HN
        clear hbt h1 h2
        go_wp2_with (first | (go_at_call 78; refine (HH.out _).mono ?_; rintro e w1 ⟨rfl, rfl⟩))
        go_round
        case rel => exact ⟨k + 1, by omega, by go_num, by rw [HN.out, if_neg (by decide)]⟩
        case measure => simp [intOf]; omega
    · obtain rfl : k = p.length := by omega
      rw [← HG.out]
      have hst := (HR6.out.store 0 (.int .i64 (gainOf bids p i b))).store 1 (.int .i64 b)
      have q0 := hst.cell 0
      have q1 := hst.cell 1
      simp only [List.set_cons_zero, List.set_cons_succ, List.getElem?_cons_zero, List.getElem?_cons_succ, List.getElem?_toArray] at q0 q1
      go_wp2
      refine bodyPost_ret (v := .agg #[.int .i64 (gainOf bids p i b), .int .i64 b]) (by simp [results, Tryd.results76, go_sem, q0, q1]) rfl ⟨rfl, (HB0.out.setCell (p := ⟨w.heap.size, 0, none⟩) (Nat.le_refl _) _).setCell (p := ⟨w.heap.size, 1, none⟩) (Nat.le_refl _) _⟩
end Go.Proofs.YthbfgmgpploneaaDoor
