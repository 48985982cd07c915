/- Lists of pairs in memory; the edges of a grid. -/
import Derived.Test.YtllhejjcmfiebaaDoorD1
import Derived.Test.YtllhejjcmfiebaaDoorProg
set_option linter.unusedVariables false
set_option linter.unusedSimpArgs false
set_option linter.unnecessarySimpa false
namespace Go.Proofs.YtllhejjcmfiebaaDoor
open Go.RowKit

theorem Tryd.infoP : (Tryd.prog.info? 90).map (fun i => (i.zero, i.size, i.bytes)) = some (some (.agg #[.int .i64 0, .int .i64 0]), 2, 16) := by kernel_rfl
/-- pairs as cells -/
def prC (p : Int × Int) : List Value := [.int .i64 p.1, .int .i64 p.2]
def prs (l : List (Int × Int)) : List Value := l.flatMap prC
theorem prs_append (l m : List (Int × Int)) : prs (l ++ m) = prs l ++ prs m := by simp [prs]
theorem prs_len (l : List (Int × Int)) : (prs l).length = l.length * 2 := flat_len prC 2 (fun _ => rfl) l
theorem prs_get (l : List (Int × Int)) (i : Nat) (p : Int × Int) (h : l[i]? = some p) : (prs l)[i * 2]? = some (.int .i64 p.1) ∧ (prs l)[i * 2 + 1]? = some (.int .i64 p.2) :=
  ⟨flat_get prC 2 (fun _ => rfl) l i 0 p h (by omega), flat_get prC 2 (fun _ => rfl) l i 1 p h (by omega)⟩
/-- a slice of pairs of the call's own -/
abbrev OwnP (base : Nat) (w : World) (v : Value) (l : List (Int × Int)) : Prop := OwnK 90 2 base w v l.length (prs l)
theorem OwnP.nil (base : Nat) (w : World) : OwnP base w (.slice none 0 0) [] := World.ownsRow_nil _ _ _ _

/-- what one place adds -/
def gridS (r c p : Nat) : List (Int × Int) := (if p % c < c - 1 then [((p : Int), (p : Int) + 1)] else []) ++ (if p / c < r - 1 then [((p : Int), (p : Int) + c)] else [])
/-- the edges of a grid, of the first k places -/
def gridE (r c : Nat) : Nat → List (Int × Int)
  | 0 => []
  | k + 1 => gridE r c k ++ gridS r c k
theorem gridS_len (r c p : Nat) : (gridS r c p).length ≤ 2 := by unfold gridS; split <;> split <;> simp
theorem gridE_len (r c : Nat) : ∀ k, (gridE r c k).length ≤ 2 * k
  | 0 => by simp [gridE]
  | k + 1 => by have h1 := gridE_len r c k; have h2 := gridS_len r c k; simp only [gridE, List.length_append]; omega
set_option maxRecDepth 100000 in
set_option maxHeartbeats 2000000 in
theorem edges_go (r c : Nat) (hr : 1 ≤ r) (hc : 1 ≤ c) (hr9 : r ≤ 9) (hc9 : c ≤ 9) (hn : r * c ≤ 9) (w : World) :
    Calls Tryd.prog 63 #[.int .i64 r, .int .i64 c] w fun e w' => ∃ v, e = .returned v ∧ OwnP w.heap.size w' v (gridE r c (r * c)) ∧ Below w.heap.size w w' := by
  have hmul : (r : Int) * (c : Int) = ((r * c : Nat) : Int) := by rw [Int.natCast_mul]
  obtain ⟨n, hnn⟩ : ∃ n, r * c = n := ⟨_, rfl⟩
  rw [hnn] at hmul hn ⊢
  have HM := Lib.hid hnn
  have HLEN := Lib.hid (gridE_len r c)
  clear hnn
  go_enter Tryd.func63, Tryd.ntmps63
  go_wp2
  go_loopw [5, 10] (fun v i wr => ∃ k : Nat, k ≤ n ∧ i = .int .i64 k ∧ OwnP w.heap.size wr v (gridE r c k) ∧ Below w.heap.size w wr) (fun _ i _ => n - (intOf i).toNat)
  case atStart => exact ⟨0, Nat.zero_le _, rfl, OwnP.nil _ _, Below.refl _ _⟩
  case round =>
    obtain ⟨k, hk, rfl, hown, hbel⟩ := hrel
    obtain ⟨p, cap, rfl, _, _⟩ := hown.len
    have HOWN := Lib.hid hown
    have HB := Lib.hid hbel
    have hlen := HLEN.out k
    clear hown hbel
    by_cases hlt : k < n
    · have HS : Hid (gridE r c (k + 1) = gridE r c k ++ gridS r c k) := rfl
      have hgs : gridS r c k = (if k % c < c - 1 then [((k : Int), (k : Int) + 1)] else []) ++ (if k / c < r - 1 then [((k : Int), (k : Int) + c)] else []) := rfl
      obtain ⟨q, hq⟩ : ∃ q, k % c = q := ⟨_, rfl⟩
      obtain ⟨d, hd⟩ : ∃ d, k / c = d := ⟨_, rfl⟩
      have hq9 : q < 9 := by rw [← hq]; have := Nat.mod_lt k (show c > 0 by omega); omega
      have hd9 : d ≤ 9 := by rw [← hd]; have := Nat.div_le_self k c; omega
      rw [hq, hd] at hgs
      have hmod : (k : Int) % (c : Int) = (q : Int) := by rw [← hq]; rfl
      have hdiv : (k : Int) / (c : Int) = (d : Int) := by rw [← hd]; rfl
      have hc1 : IntKind.i64.wrap ((c : Int) - 1) = (c : Int) - 1 := IntWalk.i64_in _ (by omega)
      have hr1 : IntKind.i64.wrap ((r : Int) - 1) = (r : Int) - 1 := IntWalk.i64_in _ (by omega)
      clear hq hd
      by_cases h1 : q < c - 1
      · have h1' : (q : Int) < (c : Int) - 1 := by omega
        rw [if_pos h1] at hgs
        go_wp2_with (at_builtin; refine wpList_append_boxK wr rfl (.tmp 19) (.tmp 24) 22 rfl 90 _ 2 16 Tryd.underlying22 Tryd.infoP rfl (by omega) (by omega) w.heap.size (.slice p (gridE r c k).length cap) (gridE r c k).length (prs (gridE r c k)) rfl HOWN.out _ ?c9 _ rfl ?c0 ?c1 ?c2 ?c3 ?_)
        try (case c9 => rfl)
        case c0 => rfl
        case c1 => simp [Value.oneCell']
        case c2 => omega
        case c3 => exact HB.out.size
        intro v1 w1 ho hb hkp hrp
        have HO1 : Hid (OwnK 90 2 w.heap.size w1 v1 ((gridE r c k).length + 1) (prs (gridE r c k ++ [((k : Int), (k : Int) + 1)]))) := by
          show OwnK _ _ _ _ _ _ _
          rw [prs_append]; exact ho
        obtain ⟨p1, cap1, rfl, _, _⟩ := ho.len
        have HB1 := Lib.hid (HB.out.trans hb)
        clear ho hb hkp hrp
        by_cases h2 : d < r - 1
        · have h2' : (d : Int) < (r : Int) - 1 := by omega
          rw [if_pos h2] at hgs
          go_wp2_with (at_builtin; refine wpList_append_boxK w1 rfl (.tmp 32) (.tmp 38) 22 rfl 90 _ 2 16 Tryd.underlying22 Tryd.infoP rfl (by omega) (by omega) w.heap.size (.slice p1 ((gridE r c k).length + 1) cap1) ((gridE r c k).length + 1) (prs (gridE r c k ++ [((k : Int), (k : Int) + 1)])) rfl HO1.out _ ?c9 _ rfl ?c0 ?c1 ?c2 ?c3 ?_)
          try (case c9 => rfl)
          case c0 => rfl
          case c1 => simp [Value.oneCell']
          case c2 => omega
          case c3 => exact HB1.out.size
          intro v2 w2 ho hb hkp hrp
          have HO2 : Hid (OwnP w.heap.size w2 v2 (gridE r c k ++ ([((k : Int), (k : Int) + 1)] ++ [((k : Int), (k : Int) + c)]))) := by
            show OwnK _ _ _ _ _ _ _
            rw [← List.append_assoc, prs_append, List.length_append, List.length_append]; exact ho
          obtain ⟨p2, cap2, rfl, _, _⟩ := ho.len
          have HB2 := Lib.hid (HB1.out.trans hb)
          clear ho hb hkp hrp
          go_wp2
          go_roundw
          case rel => exact ⟨k + 1, by omega, by go_num, by rw [HS.out, hgs]; exact HO2.out, HB2.out⟩
          case measure => simp [intOf]; omega
        · have h2' : ¬ ((d : Int) < (r : Int) - 1) := by omega
          rw [if_neg h2, List.append_nil] at hgs
          go_wp2
          go_roundw
          case rel => exact ⟨k + 1, by omega, by go_num, by rw [HS.out, hgs]; show OwnK _ _ _ _ _ _ _; rw [List.length_append]; exact HO1.out, HB1.out⟩
          case measure => simp [intOf]; omega
      · have h1' : ¬ ((q : Int) < (c : Int) - 1) := by omega
        rw [if_neg h1, List.nil_append] at hgs
        by_cases h2 : d < r - 1
        · have h2' : (d : Int) < (r : Int) - 1 := by omega
          rw [if_pos h2] at hgs
          go_wp2_with (at_builtin; refine wpList_append_boxK wr rfl (.tmp 32) (.tmp 38) 22 rfl 90 _ 2 16 Tryd.underlying22 Tryd.infoP rfl (by omega) (by omega) w.heap.size (.slice p (gridE r c k).length cap) (gridE r c k).length (prs (gridE r c k)) rfl HOWN.out _ ?c9 _ rfl ?c0 ?c1 ?c2 ?c3 ?_)
          try (case c9 => rfl)
          case c0 => rfl
          case c1 => simp [Value.oneCell']
          case c2 => omega
          case c3 => exact HB.out.size
          intro v2 w2 ho hb hkp hrp
          have HO2 : Hid (OwnP w.heap.size w2 v2 (gridE r c k ++ [((k : Int), (k : Int) + c)])) := by
            show OwnK _ _ _ _ _ _ _
            rw [prs_append, List.length_append]; exact ho
          obtain ⟨p2, cap2, rfl, _, _⟩ := ho.len
          have HB2 := Lib.hid (HB.out.trans hb)
          clear ho hb hkp hrp
          go_wp2
          go_roundw
          case rel => exact ⟨k + 1, by omega, by go_num, by rw [HS.out, hgs]; exact HO2.out, HB2.out⟩
          case measure => simp [intOf]; omega
        · have h2' : ¬ ((d : Int) < (r : Int) - 1) := by omega
          rw [if_neg h2] at hgs
          go_wp2
          go_roundw
          case rel => exact ⟨k + 1, by omega, by go_num, by rw [HS.out, hgs]; rw [List.append_nil]; exact HOWN.out, HB.out⟩
          case measure => simp [intOf]; omega
    · obtain rfl : k = n := by omega
      go_wp2
      go_ret
      exact ⟨_, rfl, HOWN.out, HB.out⟩
end Go.Proofs.YtllhejjcmfiebaaDoor
