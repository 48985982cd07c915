/- The program's functions where the board or a list is refused. -/
import Derived.Test.YtllhejjcmfiebaaDoorS15
set_option linter.unusedVariables false
set_option linter.unusedSimpArgs false
set_option linter.unnecessarySimpa false
namespace Go.Proofs.YtllhejjcmfiebaaDoor
open Go.RowKit Go.Shelf

set_option maxRecDepth 100000 in
set_option maxHeartbeats 4000000 in
theorem given_nil (v : Value) (n : Int) (l : Ps) (w : World) (hl : SlP w v l) (ht : Tab w) (h : checkB n l = 0) :
    Calls Tryd.prog 49 #[.int .i64 n, v, .slice none 0 0] w fun e w' => ∃ g, (e = .returned (.tuple #[.pointer (some ⟨g, 0, none⟩), .slice none 0 0, .int .i64 0]) ∧ w.heap.size ≤ g ∧ BoardR w' g n.toNat (toE l)) ∧ Below w.heap.size w w' := by
  have HN := Lib.hid (new_go v n l w hl ht)
  rw [h] at HN
  obtain ⟨p, cap, rfl, hl1, hl2⟩ := hl.len
  clear hl ht h
  go_enter Tryd.func49, Tryd.ntmps49
  go_wp2_with (first | (go_at_call 67; refine (HN.out).mono ?_; rintro e w1 ⟨-, he, hb1⟩; obtain ⟨b, rfl, hb, hbr⟩ := he rfl; have HB1 := Lib.hid hb1; have HBR := Lib.hid hbr; clear he hb1 hbr))
  go_loopw [11, 25] (fun ps i wr => ps = .slice none 0 0 ∧ i = .int .i64 0 ∧ wr = w1) (fun _ i _ => 0)
  case atStart => exact ⟨rfl, rfl, rfl⟩
  case round =>
    obtain ⟨rfl, rfl, rfl⟩ := hrel
    go_wp2_with fail
    go_ret3
    exact ⟨b, ⟨rfl, hb, HBR.out⟩, HB1.out⟩
set_option maxRecDepth 100000 in
set_option maxHeartbeats 4000000 in
theorem check_go (v : Value) (n : Int) (l : Ps) (w : World) (hl : SlP w v l) (ht : Tab w) :
    Calls Tryd.prog 15 #[.int .i64 n, v] w fun e w' => e = .returned (.int .i64 (checkB n l)) ∧ Below w.heap.size w w' := by
  by_cases h : checkB n l = 0
  · have HG := Lib.hid (given_nil v n l w hl ht h)
    rw [h]
    obtain ⟨p, cap, rfl, hl1, hl2⟩ := hl.len
    clear hl ht h
    go_enter Tryd.func15, Tryd.ntmps15
    go_wp2_with (first | (go_at_call 49; refine (HG.out).mono ?_; rintro e w1 ⟨b, ⟨rfl, -, -⟩, hb1⟩; have HB1 := Lib.hid hb1; clear hb1))
    go_ret
    exact ⟨rfl, HB1.out⟩
  · have HG := Lib.hid (given_bad v (.slice none 0 0) n l w hl ht h)
    obtain ⟨c, hc⟩ : ∃ c, checkB n l = c := ⟨_, rfl⟩
    rw [hc] at HG ⊢
    obtain ⟨p, cap, rfl, hl1, hl2⟩ := hl.len
    clear hl ht h hc
    go_enter Tryd.func15, Tryd.ntmps15
    go_wp2_with (first | (go_at_call 49; refine (HG.out).mono ?_; rintro e w1 ⟨rfl, hb1⟩; have HB1 := Lib.hid hb1; clear hb1))
    go_ret
    exact ⟨rfl, HB1.out⟩
set_option maxRecDepth 100000 in
set_option maxHeartbeats 4000000 in
theorem whole_bad (v : Value) (n : Int) (l : Ps) (w : World) (hl : SlP w v l) (ht : Tab w) (h : checkB n l ≠ 0) :
    Calls Tryd.prog 19 #[.int .i64 n, v] w fun e w' => e = .returned (.tuple #[.bool false, .int .i64 (checkB n l)]) ∧ Below w.heap.size w w' := by
  have HG := Lib.hid (given_bad v (.slice none 0 0) n l w hl ht h)
  obtain ⟨c, hc⟩ : ∃ c, checkB n l = c := ⟨_, rfl⟩
  rw [hc] at HG h ⊢
  have hne : (c != 0) = true := by rw [bne_iff_ne]; exact h
  have hne2 : (c == 0) = false := by rw [beq_eq_false_iff_ne]; exact h
  obtain ⟨p, cap, rfl, hl1, hl2⟩ := hl.len
  clear hl ht h hc
  go_enter Tryd.func19, Tryd.ntmps19
  go_wp2_with (first | (go_at_call 49; refine (HG.out).mono ?_; rintro e w1 ⟨rfl, hb1⟩; have HB1 := Lib.hid hb1; clear hb1))
  go_ret2
  exact ⟨rfl, HB1.out⟩
set_option maxRecDepth 100000 in
set_option maxHeartbeats 4000000 in
theorem sides_bad (v : Value) (n : Int) (l : Ps) (w : World) (hl : SlP w v l) (ht : Tab w) (h : checkB n l ≠ 0) :
    Calls Tryd.prog 20 #[.int .i64 n, v] w fun e w' => e = .returned (.tuple #[.int .i64 0, .bool false, .int .i64 (checkB n l)]) ∧ Below w.heap.size w w' := by
  have HG := Lib.hid (given_bad v (.slice none 0 0) n l w hl ht h)
  obtain ⟨c, hc⟩ : ∃ c, checkB n l = c := ⟨_, rfl⟩
  rw [hc] at HG h ⊢
  have hne : (c != 0) = true := by rw [bne_iff_ne]; exact h
  have hne2 : (c == 0) = false := by rw [beq_eq_false_iff_ne]; exact h
  obtain ⟨p, cap, rfl, hl1, hl2⟩ := hl.len
  clear hl ht h hc
  go_enter Tryd.func20, Tryd.ntmps20
  go_wp2_with (first | (go_at_call 49; refine (HG.out).mono ?_; rintro e w1 ⟨rfl, hb1⟩; have HB1 := Lib.hid hb1; clear hb1))
  go_ret3
  exact ⟨rfl, HB1.out⟩
set_option maxRecDepth 100000 in
set_option maxHeartbeats 4000000 in
theorem size_bad (v : Value) (n : Int) (l : Ps) (w : World) (hl : SlP w v l) (ht : Tab w) (h : checkB n l ≠ 0) :
    Calls Tryd.prog 21 #[.int .i64 n, v] w fun e w' => e = .returned (.tuple #[.int .i64 0, .int .i64 (checkB n l)]) ∧ Below w.heap.size w w' := by
  have HG := Lib.hid (given_bad v (.slice none 0 0) n l w hl ht h)
  obtain ⟨c, hc⟩ : ∃ c, checkB n l = c := ⟨_, rfl⟩
  rw [hc] at HG h ⊢
  have hne : (c != 0) = true := by rw [bne_iff_ne]; exact h
  have hne2 : (c == 0) = false := by rw [beq_eq_false_iff_ne]; exact h
  obtain ⟨p, cap, rfl, hl1, hl2⟩ := hl.len
  clear hl ht h hc
  go_enter Tryd.func21, Tryd.ntmps21
  go_wp2_with (first | (go_at_call 49; refine (HG.out).mono ?_; rintro e w1 ⟨rfl, hb1⟩; have HB1 := Lib.hid hb1; clear hb1))
  go_ret2
  exact ⟨rfl, HB1.out⟩
set_option maxRecDepth 100000 in
set_option maxHeartbeats 4000000 in
theorem apply_bad (v vp : Value) (pm : Option Addr) (lm cm : Nat) (n : Int) (l : Ps) (q : List Int) (w : World) (hl : SlP w v l) (ht : Tab w) (hq : SlA w vp (ints q)) (h : errE n l q ≠ 0) :
    Calls Tryd.prog 23 #[.int .i64 n, v, vp, .slice pm lm cm] w fun e w' => e = .returned (.tuple #[.slice none 0 0, .int .i64 0, .int .i64 (errE n l q)]) ∧ Below w.heap.size w w' := by
  obtain ⟨pq, cq, rfl, hq1, hq2⟩ := hq.form
  have hb0 := (Below.refl w.heap.size w).alloc (Nat.le_refl _) (.cells #[.slice pq q.length cq] 23)
  have HG := Lib.hid (show Calls Tryd.prog 49 #[.int .i64 n, v, .slice (some ⟨w.heap.size, 0, none⟩) 1 1] (w.alloc (.cells #[.slice pq q.length cq] 23)) (fun e w' => e = .returned (.tuple #[.pointer none, .slice none 0 0, .int .i64 (errE n l q)]) ∧ Below (w.alloc (.cells #[.slice pq q.length cq] 23)).heap.size (w.alloc (.cells #[.slice pq q.length cq] 23)) w') from
    given_err v (.slice pq q.length cq) w.heap.size [] n l q _ (hl.below hb0) (ht.below hb0 ht.lt) (hq.below hb0) (row_new 23 w #[.slice pq q.length cq]) (by simp) h)
  have HB0 := Lib.hid hb0
  obtain ⟨c, hc⟩ : ∃ c, errE n l q = c := ⟨_, rfl⟩
  rw [hc] at HG h ⊢
  have hne : (c != 0) = true := by rw [bne_iff_ne]; exact h
  obtain ⟨p, cap, rfl, hl1, hl2⟩ := hl.len
  clear hl ht h hc hq hb0
  go_enter Tryd.func23, Tryd.ntmps23
  go_wp2_with (first | (go_at_call 49; refine (HG.out).mono ?_; rintro e w1 ⟨rfl, hb1⟩; have HB1 := Lib.hid (HB0.out.trans (hb1.mono HB0.out.size)); clear hb1))
  go_ret3
  exact ⟨rfl, HB1.out⟩
set_option maxRecDepth 100000 in
set_option maxHeartbeats 4000000 in
theorem count_bad (v vp : Value)  (n : Int) (l : Ps) (q : List Int) (w : World) (hl : SlP w v l) (ht : Tab w) (hq : SlA w vp (ints q)) (h : errE n l q ≠ 0) :
    Calls Tryd.prog 26 #[.int .i64 n, v, vp] w fun e w' => e = .returned (.tuple #[.int .i64 0, .int .i64 (errE n l q)]) ∧ Below w.heap.size w w' := by
  obtain ⟨pq, cq, rfl, hq1, hq2⟩ := hq.form
  have hb0 := (Below.refl w.heap.size w).alloc (Nat.le_refl _) (.cells #[.slice pq q.length cq] 23)
  have HG := Lib.hid (show Calls Tryd.prog 49 #[.int .i64 n, v, .slice (some ⟨w.heap.size, 0, none⟩) 1 1] (w.alloc (.cells #[.slice pq q.length cq] 23)) (fun e w' => e = .returned (.tuple #[.pointer none, .slice none 0 0, .int .i64 (errE n l q)]) ∧ Below (w.alloc (.cells #[.slice pq q.length cq] 23)).heap.size (w.alloc (.cells #[.slice pq q.length cq] 23)) w') from
    given_err v (.slice pq q.length cq) w.heap.size [] n l q _ (hl.below hb0) (ht.below hb0 ht.lt) (hq.below hb0) (row_new 23 w #[.slice pq q.length cq]) (by simp) h)
  have HB0 := Lib.hid hb0
  obtain ⟨c, hc⟩ : ∃ c, errE n l q = c := ⟨_, rfl⟩
  rw [hc] at HG h ⊢
  have hne : (c != 0) = true := by rw [bne_iff_ne]; exact h
  obtain ⟨p, cap, rfl, hl1, hl2⟩ := hl.len
  clear hl ht h hc hq hb0
  go_enter Tryd.func26, Tryd.ntmps26
  go_wp2_with (first | (go_at_call 49; refine (HG.out).mono ?_; rintro e w1 ⟨rfl, hb1⟩; have HB1 := Lib.hid (HB0.out.trans (hb1.mono HB0.out.size)); clear hb1))
  go_ret2
  exact ⟨rfl, HB1.out⟩
set_option maxRecDepth 100000 in
set_option maxHeartbeats 4000000 in
theorem far_bad (v vp : Value)  (n : Int) (l : Ps) (q : List Int) (w : World) (hl : SlP w v l) (ht : Tab w) (hq : SlA w vp (ints q)) (h : errE n l q ≠ 0) :
    Calls Tryd.prog 27 #[.int .i64 n, v, vp] w fun e w' => e = .returned (.tuple #[.int .i64 0, .int .i64 0, .int .i64 (errE n l q)]) ∧ Below w.heap.size w w' := by
  obtain ⟨pq, cq, rfl, hq1, hq2⟩ := hq.form
  have hb0 := (Below.refl w.heap.size w).alloc (Nat.le_refl _) (.cells #[.slice pq q.length cq] 23)
  have HG := Lib.hid (show Calls Tryd.prog 49 #[.int .i64 n, v, .slice (some ⟨w.heap.size, 0, none⟩) 1 1] (w.alloc (.cells #[.slice pq q.length cq] 23)) (fun e w' => e = .returned (.tuple #[.pointer none, .slice none 0 0, .int .i64 (errE n l q)]) ∧ Below (w.alloc (.cells #[.slice pq q.length cq] 23)).heap.size (w.alloc (.cells #[.slice pq q.length cq] 23)) w') from
    given_err v (.slice pq q.length cq) w.heap.size [] n l q _ (hl.below hb0) (ht.below hb0 ht.lt) (hq.below hb0) (row_new 23 w #[.slice pq q.length cq]) (by simp) h)
  have HB0 := Lib.hid hb0
  obtain ⟨c, hc⟩ : ∃ c, errE n l q = c := ⟨_, rfl⟩
  rw [hc] at HG h ⊢
  have hne : (c != 0) = true := by rw [bne_iff_ne]; exact h
  obtain ⟨p, cap, rfl, hl1, hl2⟩ := hl.len
  clear hl ht h hc hq hb0
  go_enter Tryd.func27, Tryd.ntmps27
  go_wp2_with (first | (go_at_call 49; refine (HG.out).mono ?_; rintro e w1 ⟨rfl, hb1⟩; have HB1 := Lib.hid (HB0.out.trans (hb1.mono HB0.out.size)); clear hb1))
  go_ret3
  exact ⟨rfl, HB1.out⟩
set_option maxRecDepth 100000 in
set_option maxHeartbeats 4000000 in
theorem solve_bad (v vp : Value) (pm : Option Addr) (lm cm : Nat) (n : Int) (l : Ps) (q : List Int) (w : World) (hl : SlP w v l) (ht : Tab w) (hq : SlA w vp (ints q)) (h : errE n l q ≠ 0) :
    Calls Tryd.prog 25 #[.int .i64 n, v, vp, .slice pm lm cm] w fun e w' => e = .returned (.tuple #[.slice none 0 0, .bool false, .int .i64 (errE n l q)]) ∧ Below w.heap.size w w' := by
  obtain ⟨pq, cq, rfl, hq1, hq2⟩ := hq.form
  have hb0 := (Below.refl w.heap.size w).alloc (Nat.le_refl _) (.cells #[.slice pq q.length cq, .slice pm lm cm] 23)
  have HG := Lib.hid (show Calls Tryd.prog 49 #[.int .i64 n, v, .slice (some ⟨w.heap.size, 0, none⟩) 2 2] (w.alloc (.cells #[.slice pq q.length cq, .slice pm lm cm] 23)) (fun e w' => e = .returned (.tuple #[.pointer none, .slice none 0 0, .int .i64 (errE n l q)]) ∧ Below (w.alloc (.cells #[.slice pq q.length cq, .slice pm lm cm] 23)).heap.size (w.alloc (.cells #[.slice pq q.length cq, .slice pm lm cm] 23)) w') from
    given_err v (.slice pq q.length cq) w.heap.size [.slice pm lm cm] n l q _ (hl.below hb0) (ht.below hb0 ht.lt) (hq.below hb0) (row_new 23 w #[.slice pq q.length cq, .slice pm lm cm]) (by simp) h)
  have HB0 := Lib.hid hb0
  obtain ⟨c, hc⟩ : ∃ c, errE n l q = c := ⟨_, rfl⟩
  rw [hc] at HG h ⊢
  have hne : (c != 0) = true := by rw [bne_iff_ne]; exact h
  obtain ⟨p, cap, rfl, hl1, hl2⟩ := hl.len
  clear hl ht h hc hq hb0
  go_enter Tryd.func25, Tryd.ntmps25
  go_wp2_with (first | (go_at_call 49; refine (HG.out).mono ?_; rintro e w1 ⟨rfl, hb1⟩; have HB1 := Lib.hid (HB0.out.trans (hb1.mono HB0.out.size)); clear hb1))
  go_ret3
  exact ⟨rfl, HB1.out⟩
set_option maxRecDepth 100000 in
set_option maxHeartbeats 4000000 in
theorem reach_bad (v vp : Value) (pm : Option Addr) (lm cm : Nat) (n : Int) (l : Ps) (q : List Int) (w : World) (hl : SlP w v l) (ht : Tab w) (hq : SlA w vp (ints q)) (h : errE n l q ≠ 0) :
    Calls Tryd.prog 24 #[.int .i64 n, v, vp, .slice pm lm cm] w fun e w' => e = .returned (.tuple #[.bool false, .int .i64 (errE n l q)]) ∧ Below w.heap.size w w' := by
  have HG := Lib.hid (solve_bad v vp pm lm cm n l q w hl ht hq h)
  obtain ⟨c, hc⟩ : ∃ c, errE n l q = c := ⟨_, rfl⟩
  rw [hc] at HG ⊢
  obtain ⟨p, cap, rfl, hl1, hl2⟩ := hl.len
  obtain ⟨pq, cq, rfl, hq1, hq2⟩ := hq.form
  clear hl ht h hc hq
  go_enter Tryd.func24, Tryd.ntmps24
  go_wp2_with (first | (go_at_call 25; refine (HG.out).mono ?_; rintro e w1 ⟨rfl, hb1⟩; have HB1 := Lib.hid hb1; clear hb1))
  go_ret2
  exact ⟨rfl, HB1.out⟩
end Go.Proofs.YtllhejjcmfiebaaDoor
