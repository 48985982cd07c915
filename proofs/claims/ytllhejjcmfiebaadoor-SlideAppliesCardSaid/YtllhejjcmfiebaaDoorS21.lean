/- The reference's Whole. -/
import Derived.Test.YtllhejjcmfiebaaDoorS9
set_option linter.unusedVariables false
set_option linter.unusedSimpArgs false
set_option linter.unnecessarySimpa false
namespace Go.Proofs.YtllhejjcmfiebaaDoor
open Go.RowKit Go.Shelf

/-- whether a board is whole -/
def wholeB (n : Nat) (E : Es) : Bool := (List.range n).all (fun i => joinedP n E (i : Nat)) && decide (3 ≤ n)
theorem wholeB_no {n i : Nat} {E : Es} (hi : i < n) (h : joinedP n E (i : Nat) = false) : wholeB n E = false := by
  unfold wholeB
  have : (List.range n).all (fun i => joinedP n E (i : Nat)) = false := by
    cases ha : (List.range n).all (fun i => joinedP n E (i : Nat)) with
    | false => rfl
    | true => have := List.all_eq_true.1 ha i (List.mem_range.2 hi); rw [h] at this; cases this
  rw [this]; rfl
theorem wholeB_end {n : Nat} {E : Es} (h : ∀ i, i < n → joinedP n E (i : Nat) = true) : wholeB n E = decide (3 ≤ n) := by
  unfold wholeB
  have : (List.range n).all (fun i => joinedP n E (i : Nat)) = true := List.all_eq_true.2 fun i hi => h i (List.mem_range.1 hi)
  rw [this]; simp
set_option maxRecDepth 100000 in
set_option maxHeartbeats 4000000 in
theorem rwhole_go (v : Value) (n : Nat) (l : Ps) (w : World) (hl : SlP w v l) (hv : VE l n) (hn2 : 2 ≤ n) (hn9 : n ≤ 9) :
    Calls Tryd.prog 31 #[.int .i64 n, v] w fun e w' => e = .returned (.bool (wholeB n (toE l))) ∧ Below w.heap.size w w' := by
  have HJ := Lib.hid (fun W (hb : Below w.heap.size w W) i (hi : i < n) => joined_go v n (i : Nat) l W (hl.below hb) hv hn2 hn9 (by omega))
  obtain ⟨p, cap, rfl, hl1, hl2⟩ := hl.len
  have HNO := Lib.hid (fun i => @wholeB_no n i (toE l))
  have HEND := Lib.hid (@wholeB_end n (toE l))
  clear hl hv
  obtain ⟨R, hR⟩ : ∃ R, wholeB n (toE l) = R := ⟨_, rfl⟩
  rw [hR] at HNO HEND ⊢
  clear hR
  go_enter Tryd.func31, Tryd.ntmps31
  go_wp2
  go_loopw [5] (fun i wr => ∃ k : Nat, k ≤ n ∧ i = .int .i64 k ∧ (∀ j, j < k → joinedP n (toE l) (j : Nat) = true) ∧ Below w.heap.size w wr) (fun i _ => n - (intOf i).toNat)
  case atStart => exact ⟨0, Nat.zero_le _, rfl, fun j hj => by omega, Below.refl _ _⟩
  case round =>
    obtain ⟨k, hk, rfl, hall, hbel⟩ := hrel
    have HALL := Lib.hid hall
    have HB := Lib.hid hbel
    clear hall hbel
    by_cases hlt : k < n
    · have HJK := Lib.hid (HJ.out wr HB.out k hlt)
      have HNK := Lib.hid (HNO.out k hlt)
      obtain ⟨b, hb⟩ : ∃ b, joinedP n (toE l) (k : Nat) = b := ⟨_, rfl⟩
      rw [hb] at HJK HNK
      have HBB := Lib.hid hb
      clear hb
      cases b with
      | false =>
        obtain rfl := HNK.out rfl
        go_wp2_with (first | (go_at_call 62; refine HJK.out.mono ?_; rintro e w1 ⟨rfl, hb1⟩; have HB1 := Lib.hid (HB.out.trans (hb1.mono HB.out.size)); clear hb1))
        go_ret
        exact ⟨rfl, HB1.out⟩
      | true =>
        clear HNK
        go_wp2_with (first | (go_at_call 62; refine HJK.out.mono ?_; rintro e w1 ⟨rfl, hb1⟩; have HB1 := Lib.hid (HB.out.trans (hb1.mono HB.out.size)); clear hb1))
        go_roundw
        case rel =>
          refine ⟨k + 1, by omega, by go_num, fun j hj => ?_, HB1.out⟩
          rcases Nat.lt_or_ge j k with h | h
          · exact HALL.out j h
          · have : j = k := by omega
            subst this; exact HBB.out
        case measure => simp [intOf]; omega
    · obtain rfl : k = n := by omega
      have he := HEND.out HALL.out
      have HR : Hid (decide ((3 : Int) ≤ (k : Int)) = R) := by
        show _ = _
        rw [he]; exact decide_eq_decide.2 (by omega)
      clear he HEND HNO
      go_wp2
      go_ret
      exact ⟨by rw [← HR.out]; rfl, HB.out⟩
end Go.Proofs.YtllhejjcmfiebaaDoor
