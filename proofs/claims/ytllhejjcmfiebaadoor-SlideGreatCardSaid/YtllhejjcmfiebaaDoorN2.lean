/- The program's after, as an iterator. -/
import Derived.Test.YtllhejjcmfiebaaDoorN1
import Derived.Test.YtllhejjcmfiebaaDoorS36
import Derived.Test.YtllhejjcmfiebaaDoorB5
import Derived.Test.YtllhejjcmfiebaaDoorQR
import Derived.RangeFuncCalls
import Derived.Stop.RegionWithIn
set_option linter.unusedVariables false
set_option linter.unusedSimpArgs false
set_option linter.unnecessarySimpa false
namespace Go.Proofs.YtllhejjcmfiebaaDoor
open Go.RowKit Go.Shelf
attribute [local go_sem] Oper.semAt_some
theorem filter_range_ext {f : Nat → Bool} {n : Nat} (h : ∀ j, f j = true → j < n) : ∀ d, (List.range (n + d)).filter f = (List.range n).filter f
 | 0 => rfl
 | d + 1 => by
  have hf : f (n + d) = false := by cases hc : f (n + d); rfl; exact absurd (h _ hc) (by omega)
  rw [← Nat.add_assoc, List.range_succ, List.filter_append, filter_range_ext h d]; simp [hf]
theorem nbr_pls {E : Es} {N : Nat} (hE : Lt E N) (hN9 : N ≤ 9) (p : List Int) : nbrL E N p = (pls (nb E (holeL p))).map (movedL p) := by
 unfold nbrL pls
 have := filter_range_ext (f := fun t => (nb E (holeL p)).testBit t) (n := N) (fun j hj => bit_lt (nb_lt hE _) hj) (9 - N)
 rw [show N + (9 - N) = 9 by omega] at this
 rw [this]
theorem nb_self {E : Es} (hne : Ne2 E) (a : Nat) : (nb E a).testBit a = false := by
 cases h : (nb E a).testBit a with
 | false => rfl
 | true =>
  rcases (nb_bit E a a).1 h with h | h
  ·exact absurd rfl (hne _ h)
  ·exact absurd rfl (hne _ h)
theorem turn_bool {α : Type} {J Jx : List α → (Nat → Prop) → World → Prop} {pre : List α} {x : α} {M : Nat → Prop} {W : World} : ∀ e W', Turn J Jx pre x M W e W' → ∃ M' bo, e = .returned (.bool bo) ∧ Bd M M' W W' ∧ (bo = true → J (pre ++ [x]) M' W') ∧ (bo = false → Jx (pre ++ [x]) M' W') := by
 rintro e W' ⟨M', hb, (⟨rfl, h⟩ | ⟨rfl, h⟩)⟩
 ·exact ⟨M', true, rfl, hb, fun _ => h, fun e => by cases e⟩
 ·exact ⟨M', false, rfl, hb, (fun e => by cases e), fun _ => h⟩
theorem stays_n2 {ks : List Kd} (hM : ∀ (i : Nat) M, ks[i]? = some (.mem M) → ∀ v w w', M v w → Below w.heap.size w w' → M v w') (hF : ∀ (j b k T n : Nat), ks[j]? ≠ some (.fill b k T n)) : Stays ks :=
 ⟨fun i M v w w' hk h hb => hM i M hk v w w' h hb, fun i M v w w' j g b k T n xs hk hf => absurd hf (hF j b k T n)⟩
theorem below_alloc_refl (w : World) (o : Obj) : Below w.heap.size w (w.alloc o) := (Below.refl _ _).alloc (Nat.le_refl _) o
abbrev encP (q : List Int) : Array Value := #[nineV (posF q q.length)]
def AfR (bp bb g b : Nat) : Prop := b = bp ∨ b = bb ∨ b = g ∨ b = 0
set_option maxRecDepth 100000 in
set_option maxHeartbeats 4000000 in
theorem after_seq (bp bb g N : Nat) (E : Es) (p : List Int) (w0 : World) (hp : PosP N p) (hN2 : 2 ≤ N) (hN9 : N ≤ 9) (hE : Lt E N) (hne : Ne2 E) (h1 : Row 82 w0 bp (nineL (posF p p.length))) (h2 : Row 75 w0 bb [.pointer (some ⟨g, 0, none⟩)]) (hb : BoardR w0 g N E) (hT : Tab w0) :
  SeqC Tryd.prog 96 #[] #[.pointer (some ⟨bp, 0, none⟩), .pointer (some ⟨bb, 0, none⟩)] encP (AfR bp bb g) (fun _ => False) (fun pre x => ∃ post, nbrL E N p = pre ++ x :: post) (fun xs W => xs = nbrL E N p) (fun xs W => xs <+: nbrL E N p) w0 := by
 intro l J Jx M W hW hJ hJx hM hY h0
 have hr1 := hW.row h1 trivial
 have hr2 := hW.row h2 trivial
 have hrb : BoardR W g N E := hW.row hb trivial
 have hT0 := hT.same hW trivial
 have hpw := hp.w (by omega)
 obtain ⟨hf0, hfn, hh9⟩ := posF_hole hpw hN9
 have hhN := hpw.hole.1
 obtain ⟨h, hh⟩ : ∃ h, holeL p = h := ⟨_, rfl⟩
 obtain ⟨P0, hP0⟩ : ∃ P0, posF p p.length = P0 := ⟨_, rfl⟩
 have HNB := Lib.hid (nbr_pls hE hN9 p)
 have HMV := Lib.hid (fun (tn : Nat) (W' : World) (ht : tn < N) (hn : tn ≠ holeL p) => moved_int N tn (tn : Int) p W' hpw hN9 ht hn rfl)
 have hs := nb_lt (n := 9) (fun e he => by have := hE e he; omega) h
 have hsN := nb_lt hE h
 have hslf := nb_self hne h
 rw [hh] at HNB HMV hf0 hfn hh9 hhN
 rw [hP0] at HMV hf0 hfn hr1
 have hnx := BoardR.next hrb h hh9
 obtain ⟨s, hse⟩ : ∃ s, nb E h = s := ⟨_, rfl⟩
 rw [hse] at hs hsN hslf hnx HNB
 have hy1 := row_new 133 W #[.func (.yield l) #[] #[]]
 have hbW1 := below_alloc_refl W (.cells #[.func (.yield l) #[] #[]] 133)
 obtain ⟨W1, hW1⟩ : ∃ W1, W.alloc (.cells #[.func (.yield l) #[] #[]] 133) = W1 := ⟨_, rfl⟩
 rw [hW1] at hy1 hbW1
 replace hr1 := hr1.below hbW1 hr1.lt
 replace hr2 := hr2.below hbW1 hr2.lt
 replace hrb := Row.below hrb hbW1 hrb.lt
 replace hT0 := hT0.below hbW1 hT0.lt
 have hMy : ∀ b, M b → b < W.heap.size := fun b hb => hJ.lt _ _ _ h0 b hb
 replace h0 := hJ.stay _ _ _ _ h0 (Same.of_below hbW1 (fun x hx _ => hx))
 have hlt1 : bp < W.heap.size ∧ bb < W.heap.size ∧ g < W.heap.size := ⟨(hW.row h1 trivial).lt, (hW.row h2 trivial).lt, (hW.row hb trivial).lt⟩
 obtain ⟨B0, hB0⟩ : ∃ B0, W.heap.size = B0 := ⟨_, rfl⟩
 have HHO := hole_go P0 h W1 hh9 hf0 hfn
 unfold nineV at HHO
 have HHOLE := Lib.hid HHO
 clear HHO
 obtain ⟨c0, c1, c2, c3, c4, c5, c6, c7, c8⟩ := nine_cells hr1
 have HPL := Lib.hid (fun W => places_any s W)
 rw [hB0] at hJ hJx hy1 hlt1 hMy
 have HJ := Lib.hid hJ
 have HJX := Lib.hid hJx
 have HM := Lib.hid hM
 have HY := Lib.hid hY
 have H0 := Lib.hid h0
 have HR1 := Lib.hid hr1
 have HRB := Lib.hid hrb
 have HR2 := Lib.hid hr2
 have HT0 := Lib.hid hT0
 have HY1 := Lib.hid hy1
 have HLT1 := Lib.hid hlt1
 have HMY := Lib.hid hMy
 have HBW1 : Hid (W1.heap.size = B0 + 1) := by show _ = _; rw [← hW1, World.size_alloc, hB0]
 have ghh : (h : Int) < 9 := by omega
 clear h1 h2 hb hT hW hJ hJx hM hY h0 hr1 hr2 hrb hT0 hf0 hfn hy1 hbW1 hlt1 hMy
 have HB0 := Lib.hid hB0
 clear hnx hB0
 refine calls_marks Tryd.func96 rfl ?_
 intro Q hQ
 have HQ := Lib.hid hQ
 clear hQ
 simp only [Tryd.ntmps96, List.size_toArray, List.length_cons, List.length_nil, Nat.reduceAdd, Nat.reduceSub, Array.replicate_succ, Array.replicate_zero, List.push_toArray, List.append_toArray, List.nil_append, List.cons_append]
 go_wp2_with (first | (go_at_call 75; refine (HHOLE.out).mono ?_; rintro e w2 ⟨rfl, hb2⟩; have HB2 := Lib.hid hb2; clear hb2))
 rw [HB0.out]
 clear c0 c1 c2 c3 c4 c5 c6 c7 c8 HHOLE
 have hX := row_new 3 w2 #[.int .i64 (h : Nat)]
 have hb3 := HB2.out.trans ((below_alloc_refl w2 (.cells #[.int .i64 (h : Nat)] 3)).mono HB2.out.size)
 obtain ⟨X, hXe⟩ : ∃ X, w2.heap.size = X := ⟨_, rfl⟩
 obtain ⟨W3, hW3⟩ : ∃ W3, w2.alloc (.cells #[.int .i64 (h : Nat)] 3) = W3 := ⟨_, rfl⟩
 rw [hW3] at hX hb3
 rw [hXe] at hX
 have hX0 : B0 < X := by have := HB2.out.size; have := HBW1.out; omega
 have hW3s : W3.heap.size = X + 1 := by rw [← hW3, World.size_alloc, hXe]
 have h31 := HR1.out.below hb3 HR1.out.lt
 have h32 := HR2.out.below hb3 HR2.out.lt
 have h3b := Row.below HRB.out hb3 HRB.out.lt
 have h3y := HY1.out.below hb3 HY1.out.lt
 have h3t := HT0.out.below hb3 HT0.out.lt
 have h30 := HJ.out.stay _ _ _ _ H0.out (Same.of_below hb3 fun x hx _ => hx)
 have k2 := h32.cell 0
 have kh := hX.cell 0
 have hnx := BoardR.next (E := E) h3b h hh9
 rw [hse] at hnx
 simp only [List.getElem?_cons_zero] at k2 kh
 have HB3 : Hid (bb < W3.heap.size) := h32.lt
 have H31 := Lib.hid h31
 have H3B := Lib.hid h3b
 have H3Y := Lib.hid h3y
 have H3T := Lib.hid h3t
 have H30 := Lib.hid h30
 have HX := Lib.hid hX
 rw [hXe, hW3]
 clear HR1 HR2 HRB HY1 HT0 H0 hW3 hXe hW1 h31 h32 h3b h3y h3t h30 hX HB0 HB2 hb3 HBW1
 refine wp_region_rel (by kernel_rfl) 23 rfl (by kernel_rfl) [.fix (.pointer (some ⟨g, 0, none⟩)), .fix (.int .i64 (h : Nat)), .fix (.pointer (some ⟨g, 0, none⟩)), .fix (.pointer (some ⟨g, 1, none⟩)), .fix (.pointer (some ⟨g, 1 + h, none⟩)), .fix (.int .u16 (s : Nat)), .mem (fun u W => ∃ Bn, u = .func (.func 84) #[] #[.pointer (some ⟨Bn, 0, none⟩)] ∧ X < Bn ∧ Row 86 W Bn [.int .u16 s])] rfl (stays_n2 (fun i M hk v w' w'' h hb => by rcases i with _ | _ | _ | _ | _ | _ | _ | i <;> simp at hk; subst hk; obtain ⟨Bn, h1, h2, h3⟩ := h; exact ⟨Bn, h1, h2, h3.below hb h3.lt⟩) (fun j b k T n => by rcases j with _ | _ | _ | _ | _ | _ | _ | j <;> simp)) ?hop ?hQ
 case hop =>
  intro W hW j0 o hj vs0 wz hb hV
  have hbw : Below W3.heap.size W3 wz := by rw [hW] at hb; exact ((Below.refl W3.heap.size W3).drew).trans hb
  have d0 : wz.cell? ⟨bb, 0, none⟩ = some (.pointer (some ⟨g, 0, none⟩)) := (hbw.cell (p := ⟨bb, 0, none⟩) HB3.out).trans k2
  have d1 : wz.cell? ⟨X, 0, none⟩ = some (.int .i64 (h : Nat)) := (hbw.cell (p := ⟨X, 0, none⟩) (by dsimp only; omega)).trans kh
  have d2 : wz.cell? ⟨g, 1 + h, none⟩ = some (.int .u16 (s : Nat)) := (hbw.cell (p := ⟨g, 1 + h, none⟩) H3B.out.lt).trans hnx
  clear hW hb
  have hj' : j0 < 7 := (List.getElem?_eq_some_iff.1 hj).1
  rcases (by omega : j0 = 0 ∨ j0 = 1 ∨ j0 = 2 ∨ j0 = 3 ∨ j0 = 4 ∨ j0 = 5 ∨ j0 = 6) with rfl | rfl | rfl | rfl | rfl | rfl | rfl
  ·cases hj
   clear hj'
   refine .inl ⟨rfl, ?_⟩
   (try simp [predsR, Region.binds, Vk] at hV)
   simp only [putAll]
   generalize hR : Res _ _ vs0 wz = R
   go_simp
   subst hR
   exact ⟨rfl, Below.refl _ _⟩
  ·cases hj
   clear hj'
   refine .inl ⟨rfl, ?_⟩
   (try simp [predsR, Region.binds, Vk] at hV)
   simp only [putAll]
   generalize hR : Res _ _ vs0 wz = R
   go_simp
   subst hR
   exact ⟨rfl, Below.refl _ _⟩
  ·cases hj
   clear hj'
   refine .inl ⟨rfl, ?_⟩
   generalize hG : relUpon _ _ _ = G
   have q0_ : vs0 0 = _ := hV 0 (by decide)
   clear hV
   subst hG
   simp only [putAll]
   generalize hR : Res _ _ vs0 wz = R
   go_simp
   subst hR
   exact ⟨rfl, Below.refl _ _⟩
  ·cases hj
   clear hj'
   refine .inl ⟨rfl, ?_⟩
   generalize hG : relUpon _ _ _ = G
   have q2_ : vs0 2 = _ := hV 2 (by decide)
   clear hV
   subst hG
   simp only [putAll]
   generalize hR : Res _ _ vs0 wz = R
   go_simp
   subst hR
   exact ⟨rfl, Below.refl _ _⟩
  ·cases hj
   clear hj'
   refine .inl ⟨rfl, ?_⟩
   generalize hG : relUpon _ _ _ = G
   have q1_ : vs0 1 = _ := hV 1 (by decide)
   have q3_ : vs0 3 = _ := hV 3 (by decide)
   clear hV
   subst hG
   simp only [putAll]
   generalize hR : Res _ _ vs0 wz = R
   go_simp
   subst hR
   exact ⟨rfl, Below.refl _ _⟩
  ·cases hj
   clear hj'
   refine .inl ⟨rfl, ?_⟩
   generalize hG : relUpon _ _ _ = G
   have q4_ : vs0 4 = _ := hV 4 (by decide)
   clear hV
   subst hG
   simp only [putAll]
   generalize hR : Res _ _ vs0 wz = R
   go_simp
   subst hR
   exact ⟨rfl, Below.refl _ _⟩
  ·cases hj
   clear hj'
   refine .inl ⟨rfl, ?_⟩
   generalize hG : relUpon _ _ _ = G
   have q5_ : vs0 5 = _ := hV 5 (by decide)
   clear hV
   subst hG
   simp only [putAll]
   generalize hR : Res _ _ vs0 wz = R
   go_simp
   subst hR
   refine (HPL.out wz).mono ?_
   rintro e w4 ⟨rfl, rfl⟩
   exact ⟨_, rfl, ⟨_, rfl, by have := hbw.size; omega, row_new 86 wz #[.int .u16 s]⟩, below_alloc_refl _ _⟩
 case hQ =>
  intro W hW vs0 wz hb hV hD
  have hbw : Below W3.heap.size W3 wz := by rw [hW] at hb; exact ((Below.refl W3.heap.size W3).drew).trans hb
  have e0_ : vs0 0 = _ := hV 0 (by decide)
  have e1_ : vs0 1 = _ := hV 1 (by decide)
  have e2_ : vs0 2 = _ := hV 2 (by decide)
  have e3_ : vs0 3 = _ := hV 3 (by decide)
  have e4_ : vs0 4 = _ := hV 4 (by decide)
  have e5_ : vs0 5 = _ := hV 5 (by decide)
  obtain ⟨Bn, hv6, hXB, hrB⟩ := hV 6 (by decide)
  generalize hKK : Exit.then _ _ = KK
  simp only [putAll, e0_, e1_, e2_, e3_, e4_, e5_, hv6]
  go_simp
  subst hKK
  clear hV hD hb hW e0_ e1_ e2_ e3_ e4_ e5_ hv6 k2 kh hnx HPL
  go_wp2
  have hwz := hbw.size
  have hT4 := H3T.out.below hbw H3T.out.lt
  have htX : 0 < W3.heap.size := H3T.out.lt
  have h40 := HJ.out.stay _ _ _ _ H30.out (Same.of_below hbw fun x hx _ => hx)
  have h41 := H31.out.below hbw H31.out.lt
  have h4y : Row 133 wz B0 [.func (.yield l) #[] #[]] := H3Y.out.below hbw H3Y.out.lt
  have h4x : Row 3 wz X [.int .i64 (h : Nat)] := HX.out.below hbw HX.out.lt
  have hB4 := hrB.lt
  have HL := Lib.hid HLT1.out
  obtain ⟨hl1, hl2, hl3⟩ := HLT1.out
  clear H31 H3Y HX H3B H3T H30 HB3 hbw
  refine wp_range_gen (α := Nat) (enc := encN) ?hg ?eg ?hps (places_seq Bn s hs wz hrB hT4 (by omega)) ?hRw (fun b h => .inl h)
   (fun _ _ _ _ _ _ _ h => h) (fun _ _ _ _ _ _ _ h => h)
   (fun pre M W => J (pre.map (movedL p)) M W ∧ (∀ b, M b → ¬ AfR bp bb g b ∧ b ≠ B0 ∧ b ≠ X) ∧ Row 82 W bp (nineL P0) ∧ Row 133 W B0 [.func (.yield l) #[] #[]] ∧ Row 3 W X [.int .i64 (h : Nat)] ∧ wz.heap.size ≤ W.heap.size)
   (fun c pre M W => c = .ret ∧ Jx (pre.map (movedL p)) M W) ?hI ?hIx M ?hM0 ?h0
   (fun x a' _ _ => a' = { tmps := #[.func (.yield l) #[] #[], .pointer (some ⟨bp, 0, none⟩), .pointer (some ⟨bb, 0, none⟩), .pointer (some ⟨B0, 0, none⟩), .pointer (some ⟨X, 0, none⟩), .int .i64 (x : Nat),
     .agg #[.int .i8 (P0 0), .int .i8 (P0 1), .int .i8 (P0 2), .int .i8 (P0 3), .int .i8 (P0 4), .int .i8 (P0 5), .int .i8 (P0 6), .int .i8 (P0 7), .int .i8 (P0 8)], .int .i64 (h : Nat), .pointer (some ⟨g, 0, none⟩), .int .i64 (h : Nat), .pointer (some ⟨g, 0, none⟩), .pointer (some ⟨g, 1, none⟩), .pointer (some ⟨g, 1 + h, none⟩), .int .u16 (s : Nat),
     .func (.func 84) #[] #[.pointer (some ⟨Bn, 0, none⟩)], .int .i64 (x : Nat), undef, undef, undef, undef, undef, undef, undef], defers := [] }) (fun _ _ _ _ _ _ _ _ h => h) ?assign ?body ?done ?stop
  case hg => rfl
  case eg => exact enters_of Tryd.func84 (by kernel_rfl) rfl
  case hps => exact fun _ => rfl
  case hRw =>
   rintro b (rfl | rfl)
   ·exact hB4
   ·exact hT4.lt
  case hI =>
   refine ⟨fun pre M W h => HJ.out.lt _ _ _ h.1, ?_⟩
   rintro pre M W W' ⟨hj, hn, r1, r2, r3, hsz⟩ hs2
   refine ⟨HJ.out.stay _ _ _ _ hj (hs2.mono ?_), hn, hs2.row r1 (.inl ⟨by omega, by omega⟩), hs2.row r2 (.inl ⟨by omega, by omega⟩), hs2.row r3 (.inl ⟨by omega, by omega⟩), Nat.le_trans hsz hs2.size⟩
   rintro x hx (⟨h1, _⟩ | h1)
   ·exact .inl ⟨by omega, by omega⟩
   ·exact .inr h1
  case hIx =>
   intro c
   refine ⟨fun pre M W h => HJX.out.lt _ _ _ h.2, ?_⟩
   rintro pre M W W' ⟨rfl, hj⟩ hs2
   refine ⟨rfl, HJX.out.stay _ _ _ _ hj (hs2.mono ?_)⟩
   rintro x hx (⟨h1, _⟩ | h1)
   ·exact .inl ⟨by omega, by omega⟩
   ·exact .inr h1
  case hM0 =>
   intro b hb
   have h1 := HMY.out b hb
   have h2 := HM.out b hb
   refine ⟨fun h3 => ?_, by omega⟩
   rcases h3 with rfl | h3
   ·omega
   ·exact h2 (.inr (.inr (.inr h3)))
  case h0 => exact ⟨h40, fun b hb => ⟨HM.out b hb, by have := HMY.out b hb; omega, by have := HMY.out b hb; omega⟩, h41, h4y, h4x, Nat.le_refl _⟩
  case assign =>
   intro l' pre x M W K hi hK
   gi_wp2
   exact hK _ _ _ (Bd.refl _ _) hi rfl
  case body =>
   clear h40 h41 h4y h4x
   rintro l' pre x M1 a' W5 ⟨hj, hn, r1, r2, r3, hsz⟩ rfl ⟨post, hpost⟩
   have hxs : x ∈ pls s := by rw [hpost]; simp
   have hxb := (mem_pls.1 hxs).2
   have hxN : x < N := bit_lt hsN hxb
   have hxh : x ≠ h := fun e => by rw [e, hslf] at hxb; cases hxb
   have HM5 := Lib.hid (fun W' => HMV.out x W' hxN hxh)
   unfold nineV at HM5
   have HYY : Hid (∀ w1, Below W5.heap.size W5 w1 → YieldAt (Fence.wide.inRound l') 3 Tryd.prog l (encP (movedL p x)) w1 (Turn J Jx (pre.map (movedL p)) (movedL p x) M1 w1)) := fun w1 hb1 =>
    yieldAt_in (HY.out (pre.map (movedL p)) (movedL p x) M1 w1 (HJ.out.stay _ _ _ _ hj (Same.of_below hb1 fun x hx _ => hx)) ⟨post.map (movedL p), by rw [HNB.out, hpost]; simp⟩)
   obtain ⟨c0, c1, c2, c3, c4, c5, c6, c7, c8⟩ := nine_cells r1
   have ky := r2.cell 0
   have kx := r3.cell 0
   simp only [List.getElem?_cons_zero] at ky kx
   have HN5 := Lib.hid hn
   have HR15 := Lib.hid r1
   have HR25 := Lib.hid r2
   have HR35 := Lib.hid r3
   have FIN : Hid (∀ w6 W6 M6, Below W5.heap.size W5 w6 → Bd M1 M6 w6 W6 → (J (pre.map (movedL p) ++ [movedL p x]) M6 W6 → ∃ M', Bd M1 M' W5 W6 ∧ J ((pre ++ [x]).map (movedL p)) M' W6 ∧ (∀ b, M' b → ¬ AfR bp bb g b ∧ b ≠ B0 ∧ b ≠ X) ∧ Row 82 W6 bp (nineL P0) ∧ Row 133 W6 B0 [.func (.yield l) #[] #[]] ∧ Row 3 W6 X [.int .i64 (h : Nat)] ∧ wz.heap.size ≤ W6.heap.size) ∧
     (Jx (pre.map (movedL p) ++ [movedL p x]) M6 W6 → ∃ M', Bd M1 M' W5 W6 ∧ Jx ((pre ++ [x]).map (movedL p)) M' W6)) := by
    intro w6 W6 M6 hb7 hb6
    have hbd : Bd M1 M6 W5 W6 := (show Bd M1 M1 W5 w6 from ⟨Same.of_below hb7 fun x hx _ => hx, fun b h => .inl h⟩).trans hb6
    have hsz6 := hbd.1.size
    have hsz5 : wz.heap.size ≤ W6.heap.size := Nat.le_trans hsz hsz6
    refine ⟨fun h => ⟨M6, hbd, by simpa using h, fun b hm => ?_, hbd.1.row r1 fun h => (hn _ h).1 (.inl rfl), hbd.1.row r2 fun h => (hn _ h).2.1 rfl, hbd.1.row r3 fun h => (hn _ h).2.2 rfl, hsz5⟩, fun h => ⟨M6, hbd, by simpa using h⟩⟩
    rcases hbd.2 b hm with h1 | h1
    ·exact hn b h1
    ·refine ⟨fun h2 => ?_, by omega, by omega⟩
     rcases h2 with rfl | rfl | rfl | rfl <;> omega
   obtain ⟨q, hq⟩ : ∃ q, movedL p x = q := ⟨_, rfl⟩
   have HQE := Lib.hid hq
   rw [hq] at HYY HM5 FIN
   clear hj hn r1 r2 r3 hpost hxs hxb hq
   gi_wp2
   gi_region_with (first
    | (refine HRR.out.mono ?_; rintro e W6 ⟨M6, bo, rfl, hb6, ht6, hf6⟩; have HB6 := Lib.hid hb6; have HT6 := Lib.hid ht6; have HF6 := Lib.hid hf6; clear hb6 ht6 hf6)
    | (refine ⟨trivial, CallsIn.mono (((callsIn_wide (n := 3)).2 (HM5.out _)).inRound l') ?_⟩; rintro e w6 ⟨rfl, hb7⟩; have HB7 := Lib.hid (((Below.refl W5.heap.size W5).drew).trans hb7); obtain ⟨fn6, tmps6, assign6, body6, hy6, hR6⟩ := yieldAt_mono (HYY.out w6 HB7.out) turn_bool; dsimp only [encP, nineV] at hy6; have ky6 := (HR25.out.below HB7.out HR25.out.lt).cell 0; simp only [List.getElem?_cons_zero] at ky6; have HRR := Lib.hid hR6; clear hb7 hR6))
   all_goals
    cases bo with
    | true =>
     gi_wp2
     exact (FIN.out _ _ _ HB7.out HB6.out).1 (by first | exact HT6.out rfl | exact HT6.out trivial | exact HT6.out)
    | false =>
     gi_wp2
     obtain ⟨Mz, hbz, hjz⟩ := (FIN.out _ _ _ HB7.out HB6.out).2 (by first | exact HF6.out rfl | exact HF6.out trivial | exact HF6.out)
     exact ⟨Mz, hbz, rfl, hjz⟩
  case done =>
   rintro D xs M' W5 hD hnD rfl ⟨hj, hn, r1, r2, r3, hsz⟩ hK
   have HJ5 := Lib.hid hj
   have HK5 := Lib.hid hK
   clear hj hn r1 r2 r3 h40 h41 h4y h4x hK
   go_wp2
   refine (HQ.out _ _ ?_).2
   refine mark_leave HK5.out fun o' => ⟨.tuple #[], by simp [results, Tryd.results96, go_sem], ⟨_, rfl⟩, .inl ⟨_, M', HNB.out.symm, HJ.out.stay _ _ _ _ HJ5.out (Same.put _ HK5.out fun hk => ?_)⟩⟩
   rcases hk with ⟨hk, _⟩ | hk
   ·omega
   ·exact hnD hk
  case stop =>
   rintro D c xs M' W5 hD hnD hpre ⟨rfl, hj⟩ hK
   have HJ5 := Lib.hid hj
   have HK5 := Lib.hid hK
   clear hj h40 h41 h4y h4x hK
   go_wp2
   refine (HQ.out _ _ ?_).1
   refine mark_leave HK5.out fun o' => ⟨.tuple #[], by simp [results, Tryd.results96, go_sem], ⟨_, rfl⟩, .inr ⟨_, M', by rw [HNB.out]; exact hpre.map _, HJX.out.stay _ _ _ _ HJ5.out (Same.put _ HK5.out fun hk => ?_)⟩⟩
   rcases hk with ⟨hk, _⟩ | hk
   ·omega
   ·exact hnD hk
end Go.Proofs.YtllhejjcmfiebaaDoor
