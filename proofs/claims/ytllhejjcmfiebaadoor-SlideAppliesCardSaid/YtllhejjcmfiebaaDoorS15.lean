/- What the program answers where the board or the first list is refused. -/
import Derived.Test.YtllhejjcmfiebaaDoorS14
set_option linter.unusedVariables false
set_option linter.unusedSimpArgs false
set_option linter.unnecessarySimpa false
namespace Go.Proofs.YtllhejjcmfiebaaDoor
open Go.RowKit Go.Shelf

theorem size_of_check {n : Int} {l : Ps} (h : checkB n l = 0) : sizeB n = true := by
  unfold checkB at h
  cases hs : sizeB n with
  | true => rfl
  | false => rw [hs] at h; simp at h
set_option maxRecDepth 100000 in
set_option maxHeartbeats 4000000 in
theorem given_bad (v v3 : Value) (n : Int) (l : Ps) (w : World) (hl : SlP w v l) (ht : Tab w) (h : checkB n l ≠ 0) :
    Calls Tryd.prog 49 #[.int .i64 n, v, v3] w fun e w' => e = .returned (.tuple #[.pointer none, .slice none 0 0, .int .i64 (checkB n l)]) ∧ Below w.heap.size w w' := by
  have HN := Lib.hid (new_go v n l w hl ht)
  obtain ⟨c, hc⟩ : ∃ c, checkB n l = c := ⟨_, rfl⟩
  rw [hc] at HN h
  rw [hc]
  have hne : (c != 0) = true := by rw [bne_iff_ne]; exact h
  have HH := Lib.hid h
  obtain ⟨p, cap, rfl, hl1, hl2⟩ := hl.len
  clear hl ht hc h
  go_enter Tryd.func49, Tryd.ntmps49
  go_wp2_with (first | (go_at_call 67; refine (HN.out).mono ?_; rintro e w1 ⟨he, -, hb1⟩; obtain rfl := he HH.out; have HB1 := Lib.hid hb1; clear he hb1))
  go_ret3
  exact ⟨rfl, HB1.out⟩
set_option maxRecDepth 100000 in
set_option maxHeartbeats 4000000 in
theorem given_no (v vp : Value) (g : Nat) (rest : List Value) (n : Int) (l : Ps) (q : List Int) (w : World) (hl : SlP w v l) (ht : Tab w) (hq : SlA w vp (ints q))
    (hrow : Row 23 w g (vp :: rest)) (hrest : rest.length ≤ 1) (h : checkB n l = 0) (hp : posE n q ≠ 0) :
    Calls Tryd.prog 49 #[.int .i64 n, v, .slice (some ⟨g, 0, none⟩) (rest.length + 1) (rest.length + 1)] w fun e w' => e = .returned (.tuple #[.pointer none, .slice none 0 0, .int .i64 1]) ∧ Below w.heap.size w w' := by
  have HN := Lib.hid (new_go v n l w hl ht)
  have hs := size_of_check h
  have hs' := hs
  simp only [sizeB, Bool.and_eq_true, decide_eq_true_eq] at hs'
  obtain ⟨N, rfl⟩ : ∃ N : Nat, n = (N : Int) := ⟨n.toNat, by omega⟩
  have hpb : posB N q = false := by
    cases hb : posB N q with
    | false => rfl
    | true => exact absurd (by simp [posE, posR, hs, hb]) hp
  have HP := Lib.hid (fun W (hb : Below w.heap.size w W) => isPos_go vp N q W (hq.below hb) (by omega) (by omega))
  rw [hpb] at HP
  have HR := Lib.hid (fun W (hb : Below w.heap.size w W) => hrow.below hb hrow.lt)
  rw [h] at HN
  obtain ⟨p, cap, rfl, hl1, hl2⟩ := hl.len
  obtain ⟨pq, cq, rfl, hq1, hq2⟩ := hq.form
  obtain ⟨m, hm⟩ : ∃ m, rest.length = m := ⟨_, rfl⟩
  rw [hm] at hrest ⊢
  clear hl ht h hp hpb hs hs' hq hrow
  go_enter Tryd.func49, Tryd.ntmps49
  go_wp2_with (first | (go_at_call 67; refine (HN.out).mono ?_; rintro e w1 ⟨-, he, hb1⟩; obtain ⟨b, rfl, -, -⟩ := he rfl; have HB1 := Lib.hid hb1; clear he hb1))
  go_loopw [25] (fun i wr => i = .int .i64 0 ∧ Below w.heap.size w wr) (fun i _ => 0)
  case atStart => exact ⟨rfl, HB1.out⟩
  case round =>
    obtain ⟨rfl, hbel⟩ := hrel
    have hrw := HR.out _ hbel
    have k0 := hrw.cell 0
    simp only [List.getElem?_cons_zero] at k0
    have HB := Lib.hid hbel
    clear hbel hrw
    go_wp2_with (first | (go_at_call 51; refine (HP.out _ HB.out).mono ?_; rintro e w2 ⟨rfl, hb2⟩; have HB2 := Lib.hid (HB.out.trans (hb2.mono HB.out.size)); clear hb2))
    go_ret3
    exact ⟨rfl, HB2.out⟩
/-- the error of a board and a list -/
def errE (n : Int) (l : Ps) (q : List Int) : Int := if checkB n l = 0 then posE n q else checkB n l
theorem posE_one {n : Int} {q : List Int} (h : posE n q ≠ 0) : posE n q = 1 := by
  unfold posE at h ⊢
  split
  · rename_i hc
    rw [if_pos hc] at h
    exact absurd rfl h
  · rfl
theorem given_err (v vp : Value) (g : Nat) (rest : List Value) (n : Int) (l : Ps) (q : List Int) (w : World) (hl : SlP w v l) (ht : Tab w) (hq : SlA w vp (ints q))
    (hrow : Row 23 w g (vp :: rest)) (hrest : rest.length ≤ 1) (h : errE n l q ≠ 0) :
    Calls Tryd.prog 49 #[.int .i64 n, v, .slice (some ⟨g, 0, none⟩) (rest.length + 1) (rest.length + 1)] w fun e w' => e = .returned (.tuple #[.pointer none, .slice none 0 0, .int .i64 (errE n l q)]) ∧ Below w.heap.size w w' := by
  by_cases hc : checkB n l = 0
  · have he : errE n l q = posE n q := if_pos hc
    rw [he] at h ⊢
    rw [posE_one h]
    exact given_no v vp g rest n l q w hl ht hq hrow hrest hc h
  · have he : errE n l q = checkB n l := if_neg hc
    rw [he]
    exact given_bad v _ n l w hl ht hc
end Go.Proofs.YtllhejjcmfiebaaDoor
