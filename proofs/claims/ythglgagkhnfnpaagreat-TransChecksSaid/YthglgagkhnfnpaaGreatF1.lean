/- What the other functions answer for what is no machine. -/
import Derived.Test.YthglgagkhnfnpaaGreatE3
set_option linter.unusedVariables false
set_option linter.unusedSimpArgs false
set_option linter.unnecessarySimpa false
namespace Go.Proofs.YthglgagkhnfnpaaGreat
open Go.RowKit

/-- Check refuses this value, from here on -/
def Bad (w : World) (v : Value) : Prop := ∀ w1, Below w.heap.size w w1 → Calls Tryz.prog 6 #[v] w1 fun e w' => e = .returned (.int .i64 30) ∧ Below w1.heap.size w1 w'
theorem Bad.below {w w' : World} {v : Value} (h : Bad w v) (hb : Below w.heap.size w w') : Bad w' v := fun w1 h1 => h w1 (hb.trans (h1.mono hb.size))
theorem bad_of {v : Value} {s : Int} {es : List Ed} {ns : List En} {b0 : Nat} {w : World} (hm : Mac 57 58 b0 w v s es ns) (he : es.length ≤ 30) (hn : ns.length ≤ 30) (heo : ∀ e ∈ es, e.ok) (hno : ∀ e ∈ ns, e.a.size ≤ 5) (hb : checkP s es ns = false) : Bad w v := by
  intro w1 h1
  obtain ⟨vE, vN, rfl, hE, hN⟩ := hm
  exact tcheck_any _ s es ns b0 w1 ⟨vE, vN, rfl, hE.below h1 (Nat.le_refl _), hN.below h1 (Nat.le_refl _)⟩ he hn heo hno false hb
theorem box_below (w : World) (o : Obj) : Below w.heap.size w (w.alloc o) := (Below.refl _ _).alloc (Nat.le_refl _) _
set_option maxHeartbeats 1000000
theorem outputs_bad (s : Int) (vE vN : Value) (word : ByteArray) (w : World) (h : Bad w (.agg #[.int .i64 s, vE, vN])) :
    Calls Tryz.prog 9 #[.agg #[.int .i64 s, vE, vN], .string word] w fun e w' => e = .returned (.tuple #[.slice none 0 0, .int .i64 30]) ∧ Below w.heap.size w w' := by
  have H := Lib.hid h
  clear h
  go_enter Tryz.func9, Tryz.ntmps9
  go_wp2_with (go_at_call 6; refine (H.out _ (box_below _ _)).mono ?_; rintro e w1 ⟨rfl, hb⟩; have HB1 := Lib.hid hb; clear hb)
  go_ret2
  exact ⟨rfl, (box_below _ _).trans (HB1.out.mono (by simp))⟩
theorem useful_bad (s : Int) (vE vN : Value) (w : World) (h : Bad w (.agg #[.int .i64 s, vE, vN])) :
    Calls Tryz.prog 10 #[.agg #[.int .i64 s, vE, vN]] w fun e w' => e = .returned (.tuple #[.slice none 0 0, .int .i64 30]) ∧ Below w.heap.size w w' := by
  have H := Lib.hid h
  clear h
  go_enter Tryz.func10, Tryz.ntmps10
  go_wp2_with (go_at_call 6; refine (H.out _ (box_below _ _)).mono ?_; rintro e w1 ⟨rfl, hb⟩; have HB1 := Lib.hid hb; clear hb)
  go_ret2
  exact ⟨rfl, (box_below _ _).trans (HB1.out.mono (by simp))⟩
theorem sequential_bad (s : Int) (vE vN : Value) (w : World) (h : Bad w (.agg #[.int .i64 s, vE, vN])) :
    Calls Tryz.prog 11 #[.agg #[.int .i64 s, vE, vN]] w fun e w' => e = .returned (.tuple #[.bool false, .int .i64 30]) ∧ Below w.heap.size w w' := by
  have H := Lib.hid h
  clear h
  go_enter Tryz.func11, Tryz.ntmps11
  go_wp2_with (go_at_call 6; refine (H.out _ (box_below _ _)).mono ?_; rintro e w1 ⟨rfl, hb⟩; have HB1 := Lib.hid hb; clear hb)
  go_ret2
  exact ⟨rfl, (box_below _ _).trans (HB1.out.mono (by simp))⟩
theorem functional_bad (s : Int) (vE vN : Value) (w : World) (h : Bad w (.agg #[.int .i64 s, vE, vN])) :
    Calls Tryz.prog 12 #[.agg #[.int .i64 s, vE, vN]] w fun e w' => e = .returned (.tuple #[.string ⟨#[]⟩, .bool false, .int .i64 30]) ∧ Below w.heap.size w w' := by
  have H := Lib.hid h
  clear h
  go_enter Tryz.func12, Tryz.ntmps12
  go_wp2_with (go_at_call 6; refine (H.out _ (box_below _ _)).mono ?_; rintro e w1 ⟨rfl, hb⟩; have HB1 := Lib.hid hb; clear hb)
  go_ret3
  exact ⟨rfl, (box_below _ _).trans (HB1.out.mono (by simp))⟩
theorem twins_bad (s : Int) (vE vN : Value) (w : World) (h : Bad w (.agg #[.int .i64 s, vE, vN])) :
    Calls Tryz.prog 13 #[.agg #[.int .i64 s, vE, vN]] w fun e w' => e = .returned (.tuple #[.bool false, .int .i64 30]) ∧ Below w.heap.size w w' := by
  have H := Lib.hid h
  clear h
  go_enter Tryz.func13, Tryz.ntmps13
  go_wp2_with (go_at_call 12; refine (functional_bad _ _ _ _ (H.out.below (box_below _ _))).mono ?_; rintro e w1 ⟨rfl, hb⟩; have HB1 := Lib.hid hb; clear hb)
  go_ret2
  exact ⟨rfl, (box_below _ _).trans (HB1.out.mono (by simp))⟩
end Go.Proofs.YthglgagkhnfnpaaGreat
