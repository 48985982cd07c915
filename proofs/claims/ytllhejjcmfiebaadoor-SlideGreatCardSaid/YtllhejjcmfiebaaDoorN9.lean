/- The search: Collect over grow. -/
import Derived.Test.YtllhejjcmfiebaaDoorN8
import Derived.Test.YtllhejjcmfiebaaDoorF6
set_option linter.unusedVariables false
set_option linter.unusedSimpArgs false
set_option linter.unnecessarySimpa false
namespace Go.Proofs.YtllhejjcmfiebaaDoor
open Go.RowKit Go.Shelf
attribute [local go_sem] Oper.semAt_some
theorem row_ne {T g r : Nat} {W : World} {xs : List Value} {o : Obj} (h : Row T W g xs) (hl : W.heap[r]? = some o) (hc : o.isCells = false) : g ≠ r := fun e => by
 unfold Row at h
 rw [e, hl] at h
 cases h; cases hc
theorem SearchAt.same {E : Es} {N : Nat} {p : List Int} {sg g m k : Nat} {W W' : World} {K : Nat → Prop} (h : SearchAt E N p sg g m k W) (hs : Same K W W') (h1 : K sg) (h2 : K m) (h3 : ∀ b xs, Row 82 W b xs → K b) : SearchAt E N p sg g m k W' := by
 obtain ⟨par, nv, a, b, c, d, e, f⟩ := h
 exact ⟨par, nv, hs.row a h1, b.same hs h2, c, d, e.same hs (fun x hx => by obtain ⟨_, _, ys, hr⟩ := e.ob_lt x hx; exact h3 x ys hr), f⟩
theorem SearchAt.put {E : Es} {N : Nat} {p : List Int} {sg g m k : Nat} {W : World} (h : SearchAt E N p sg g m k W) {r : Nat} {o o' : Obj} (hl : W.heap[r]? = some o) (hc : o.isCells = false) (hm : ∀ es c, o ≠ .map es c) : SearchAt E N p sg g m k (W.putObj r o') := by
 have h' := h
 obtain ⟨par, nv, a, b, _⟩ := h'
 refine h.same (K := fun b => b ≠ r) (Same.put _ hl fun e => e rfl) (row_ne a hl hc) (fun e => ?_) (fun b xs hr => row_ne hr hl hc)
 obtain ⟨D, ⟨es, clock, hh, _⟩, _⟩ := b
 rw [e, hl] at hh
 exact hm _ _ (Option.some.inj hh)
theorem wpListIn_exec {F : Fence} {nF : Nat} {P : Program} {w : World} {ops : Array Oper} {rest : List Oper} {o : Oper} {a : Act} {Q : Exit → Act → World → Prop} (hF : ∀ f, F.fn f) (hg : o.guard = none) (hnd : ∀ c, o.op ≠ .defer c) (v : Value) (w' : World) (h : (execOp a.eval o).run P w = .ok (.value v) w')
  (hK : wpListIn F nF P ops Q rest (a.put o.dst v) w') : wpListIn F nF P ops Q (o :: rest) a w := by
 refine wpListIn_plain hg fun K' hK' => ?_
 unfold Oper.wpIn
 refine ⟨fun f _ => hF f, ?_⟩
 rw [Oper.semAt_eq _ _ _ hnd, h, Oper.uponIn_value]
 exact hK' _ _ hK
set_option maxRecDepth 100000 in
set_option maxHeartbeats 4000000 in
theorem appendSeq_go (N sg g m k : Nat) (E : Es) (p : List Int) (w : World) (hp : PosP N p) (hN2 : 2 ≤ N) (hN9 : N ≤ 9) (hE : Lt E N) (hne : Ne2 E) (hb : BoardR w g N E) (hT : Tab w) (hS : SearchAt E N p sg g m k w) :
  Calls Tryd.prog 93 #[.slice none 0 0, .func (.func 88) #[.pointer (some ⟨sg, 0, none⟩)] #[]] w fun e w' => ∃ v, e = .returned v ∧ OwnK 82 9 w.heap.size w' v (lv E N p (k + 1)).2.length (posC (lv E N p (k + 1)).2) ∧ SearchAt E N p sg g m (k + 1) w' ∧ Same (fun b => b ≠ sg ∧ b ≠ m) w w' := by
 have hr0 := row_new 76 w #[.slice none 0 0]
 have hb0 := below_alloc_refl w (.cells #[.slice none 0 0] 76)
 obtain ⟨B, hB⟩ : ∃ B, w.heap.size = B := ⟨_, rfl⟩
 obtain ⟨W1, hW1⟩ : ∃ W1, w.alloc (.cells #[.slice none 0 0] 76) = W1 := ⟨_, rfl⟩
 rw [hW1] at hr0 hb0
 have hW1s : W1.heap.size = B + 1 := by rw [← hW1, World.size_alloc, hB]
 have hS1 := hS.same (K := fun b => b < w.heap.size) (Same.of_below hb0 fun x hx _ => hx) (by obtain ⟨_, _, a, _⟩ := hS; exact Row.lt a) (by obtain ⟨_, _, _, a, _⟩ := hS; exact a.lt) (fun b xs hr => hr.lt)
 have hb1 : BoardR W1 g N E := Row.below hb hb0 (Row.lt hb)
 have hT1 := hT.below hb0 hT.lt
 obtain ⟨par, nv, s1, s2, s3, s4, s5, s6⟩ := hS1
 have hgl : g < B := by rw [← hB]; exact Row.lt hb
 have htl : 0 < B := by rw [← hB]; exact hT.lt
 have hsl : sg < B := by obtain ⟨_, _, a, _⟩ := hS; rw [← hB]; exact Row.lt a
 have hml : m < B := by obtain ⟨_, _, _, a, _⟩ := hS; rw [← hB]; exact a.lt
 have hnvl : ∀ b, nv.ownBlock = some b → b < W1.heap.size ∧ b ≠ B := fun b hb => by
  obtain ⟨h1, _, ys, hr⟩ := s5.ob_lt b hb
  refine ⟨h1, fun e => ?_⟩
  subst e
  rw [hB] at hr0
  have := Row.only hr ⟨_, hr0⟩
  exact absurd this (by decide)
 have hsq := grow_seq N sg g m k E p W1 hp hN2 hN9 hE hne hb1 hT1 par nv s1 s2 s3 s4 (PosA.of_own s5) s6
 have HSQ := Lib.hid hsq
 have HNV := Lib.hid hnvl
 have HR0 : Hid (Row 76 W1 B [.slice none 0 0]) := by show Row _ _ _ _; rw [← hB]; exact hr0
 have hwW1 : Same (fun b => b ≠ sg ∧ b ≠ m) w W1 := Same.of_below (K := fun b => b ≠ sg ∧ b ≠ m) hb0 fun x hx _ => hx
 have HWW := Lib.hid hwW1
 obtain ⟨L, hL⟩ : ∃ L, (lv E N p (k + 1)).2 = L := ⟨_, rfl⟩
 have hLl : L.length ≤ 362880 := by
  have h1 := lv_le (E := E) (N := N) (p := p) (k + 1)
  have h2 := lv_few (E := E) hp (k + 1)
  have h3 := fact_mono hN9
  rw [fact9] at h3
  rw [← hL]; omega
 rw [hL] at HSQ ⊢
 have HLL := Lib.hid hLl
 clear hS hb hT hr0 hb0 hb1 hT1 s1 s2 s3 s4 s5 s6 hsq hnvl hwW1 hp hL hLl
 refine calls_marks Tryd.func93 rfl ?_
 intro Q hQ
 have HQ := Lib.hid hQ
 clear hQ
 simp only [Tryd.ntmps93, List.size_toArray, List.length_cons, List.length_nil, Nat.reduceAdd, Nat.reduceSub, Array.replicate_succ, Array.replicate_zero, List.push_toArray, List.append_toArray, List.nil_append, List.cons_append]
 go_wp2
 clear hW1
 refine wp_range_gen (α := List Int) (enc := encP) ?hg ?eg ?hps HSQ.out ?hRw ?hGR ?hS ?hSp
  (fun pre M W => (∃ v, Row 76 W B [v] ∧ OwnK 82 9 (B + 1) W v pre.length (posC pre) ∧ (∀ b, M b ↔ b = B ∨ v.ownBlock = some b)) ∧ Same (fun b => b ≠ sg ∧ b ≠ m) w W ∧ pre <+: L)
  (fun c pre M W => False) ?hI ?hIx (fun b => b = B) ?hM0 ?h0
  (fun x a' M2 W => ∃ bx, a' = { tmps := #[.slice none 0 0, .func (.func 88) #[.pointer (some ⟨sg, 0, none⟩)] #[], .pointer (some ⟨B, 0, none⟩), undef, .slice none 0 0, .pointer (some ⟨bx, 0, none⟩), .func (.func 88) #[.pointer (some ⟨sg, 0, none⟩)] #[], nineV (posF x x.length), undef, undef, undef, undef, undef], defers := [] } ∧ Row 82 W bx (nineL (posF x x.length)) ∧ ¬ M2 bx) ?hAx ?assign ?body ?done ?stop
 case hg => rfl
 case eg => exact enters_of Tryd.func88 (by kernel_rfl) rfl
 case hps => exact fun _ => rfl
 case hRw =>
  rintro b (rfl | rfl | rfl | rfl | h)
  ·omega
  ·omega
  ·omega
  ·omega
  ·exact (HNV.out b h).1
 case hGR =>
  rintro b (rfl | rfl)
  ·exact .inl rfl
  ·exact .inr (.inl rfl)
 case hS =>
  rintro xs W r o o' hl _ ⟨h1, h2⟩
  exact ⟨h1, h2.put hl rfl (fun es c e => by cases e)⟩
 case hSp =>
  rintro xs W r o o' hl _ ⟨h1, par, nv, a, b, c, d⟩
  refine ⟨h1, par, nv, Row.put a r _ _ hl rfl, b.block (World.putObj_heap_other fun e => ?_), c, d⟩
  obtain ⟨D, ⟨es, clock, hh, _⟩, _⟩ := b
  rw [e, hl] at hh
  cases hh
 case hI =>
  refine ⟨?_, ?_⟩
  ·rintro pre M W ⟨⟨v, h1, h2, h3⟩, _⟩ b hb
   rcases (h3 b).1 hb with rfl | h
   ·exact h1.lt
   ·exact (h2.ob_lt b h).1
  ·rintro pre M W W' ⟨⟨v, h1, h2, h3⟩, h4, h5⟩ hs
   refine ⟨⟨v, hs.row h1 (.inr ((h3 B).2 (.inl rfl))), h2.same hs (fun b hb => .inr ((h3 b).2 (.inr hb))), h3⟩, h4.trans hs (fun b hb hn => .inl ⟨by omega, fun h => ?_⟩), h5⟩
   rcases h with h | h
   ·exact hn.1 h
   ·exact hn.2 h
 case hIx => exact fun c => ⟨fun _ _ _ h => h.elim, fun _ _ _ _ h => h.elim⟩
 case hM0 =>
  rintro b rfl
  refine ⟨fun h => ?_, by omega⟩
  rcases h with rfl | rfl | rfl | rfl | h
  ·omega
  ·omega
  ·omega
  ·omega
  ·exact (HNV.out _ h).2 rfl
 case h0 => exact ⟨⟨_, HR0.out, World.ownsRow_nil _ _ _ _, fun b => ⟨.inl, fun h => h.elim id fun h => by cases h⟩⟩, HWW.out, List.nil_prefix⟩
 case hAx =>
  rintro x a' M2 W r o o' hl ⟨bx, rfl, hr, h2⟩
  exact ⟨bx, rfl, hr.put r _ _ hl rfl, h2⟩
 case assign =>
  rintro l' pre x M2 W K ⟨⟨v, h1, h2, h3⟩, h4, h5⟩ hK
  obtain ⟨PX, hPX⟩ : ∃ PX, posF x x.length = PX := ⟨_, rfl⟩
  have hb2 := below_alloc_refl W (.cells (nineL PX).toArray 82)
  have HK : Hid (K { tmps := #[.slice none 0 0, .func (.func 88) #[.pointer (some ⟨sg, 0, none⟩)] #[], .pointer (some ⟨B, 0, none⟩), undef, .slice none 0 0, .pointer (some ⟨W.heap.size, 0, none⟩), .func (.func 88) #[.pointer (some ⟨sg, 0, none⟩)] #[], .agg #[.int .i8 (PX 0), .int .i8 (PX 1), .int .i8 (PX 2), .int .i8 (PX 3), .int .i8 (PX 4), .int .i8 (PX 5), .int .i8 (PX 6), .int .i8 (PX 7), .int .i8 (PX 8)], undef, undef, undef, undef, undef], defers := [] } (W.alloc (.cells (nineL PX).toArray 82))) := by
   refine hK _ M2 _ ⟨Same.alloc _ _ _, fun b h => .inl h⟩ ⟨⟨v, h1.below hb2 h1.lt, h2.below hb2 (Nat.le_refl _), h3⟩, h4.trans (Same.of_below (K := fun _ => True) hb2 fun x hx _ => hx) fun _ _ _ => trivial, h5⟩ ⟨W.heap.size, ?_, ?_, fun h => ?_⟩
   ·rw [hPX]; rfl
   ·rw [hPX]; exact row_new 82 W (nineL PX).toArray
   ·rcases (h3 _).1 h with h | h
    ·have := h1.lt; omega
    ·have := (h2.ob_lt _ h).1; omega
  clear hb2 h1 h2 h3 h4 h5 hK
  simp only [encP, nineV, hPX]
  gi_wp2
  exact HK.out
 case body =>
  rintro l' pre x M2 a' W ⟨⟨v, h1, h2, h3⟩, h4, h5⟩ ⟨bx, rfl, rbx, hbx⟩ ⟨post, hpost⟩
  obtain ⟨PX, hPX⟩ : ∃ PX, posF x x.length = PX := ⟨_, rfl⟩
  rw [hPX] at rbx
  obtain ⟨p2, c2, hv2, hc21, hc22⟩ := h2.len
  subst hv2
  have hpl : pre.length ≤ 362880 := by
   have h6 := h5.length_le
   have := HLL.out
   omega
  have rgb := row_new 82 W (nineL PX).toArray
  have hb1 := below_alloc_refl W (.cells (nineL PX).toArray 82)
  obtain ⟨gb, hgb⟩ : ∃ gb, W.heap.size = gb := ⟨_, rfl⟩
  obtain ⟨Y1, hY1⟩ : ∃ Y1, W.alloc (.cells (nineL PX).toArray 82) = Y1 := ⟨_, rfl⟩
  rw [hY1] at rgb hb1
  rw [hgb] at rgb
  have hY1s : Y1.heap.size = gb + 1 := by rw [← hY1, World.size_alloc, hgb]
  have hBl := h1.lt
  have own1 := h2.below hb1 (Nat.le_refl _)
  have hob := h2.ob_lt
  obtain ⟨v3, Y2, own3, hg3, hob3, heq⟩ := exec_append9 (B + 1) Y1 _ pre x gb own1 (by rw [hPX]; exact rgb) (by omega) (by omega)
  have hl3 : (pre ++ [x]).length = pre.length + 1 := by simp
  rw [hl3] at own3
  obtain ⟨p3, c3, hv3, _, _⟩ := own3.len
  subst hv3
  have s12 : Same (fun b => (Value.slice p2 pre.length c2).ownBlock ≠ some b) Y1 Y2 := Same.of_grownBy hg3 fun x hx => hx
  have hnB : (Value.slice p2 pre.length c2).ownBlock ≠ some B := fun e => by have := (hob _ e).2.1; omega
  have r1 := h1.below hb1 h1.lt
  have r2 := s12.row r1 hnB
  have r3 := r2.store 0 (.slice p3 (pre.length + 1) c3)
  obtain ⟨Y3, hY3⟩ : ∃ Y3, Y2.setCell ⟨B, 0, none⟩ (.slice p3 (pre.length + 1) c3) = Y3 := ⟨_, rfl⟩
  rw [hY3] at r3
  have s23 : Same (fun b => b ≠ B) Y2 Y3 := by rw [← hY3]; exact Same.setCell _ _ _ fun h => h rfl
  have sW3 : Same (fun b => b ≠ B ∧ (Value.slice p2 pre.length c2).ownBlock ≠ some b) W Y3 := ((Same.of_below (K := fun b => b ≠ B ∧ (Value.slice p2 pre.length c2).ownBlock ≠ some b) hb1 fun x hx _ => hx).trans s12 fun x _ h => h.2).trans s23 fun x _ h => h.1
  have own3' := own3.same s23 (fun b hb => by have := (own3.ob_lt b hb).2.1; omega)
  have FIN : Hid (∃ M', Bd M2 M' W Y3 ∧ (∃ v, Row 76 Y3 B [v] ∧ OwnK 82 9 (B + 1) Y3 v (pre ++ [x]).length (posC (pre ++ [x])) ∧ (∀ b, M' b ↔ b = B ∨ v.ownBlock = some b)) ∧ Same (fun b => b ≠ sg ∧ b ≠ m) w Y3 ∧ (pre ++ [x]) <+: L) := by
   refine ⟨fun b => b = B ∨ (Value.slice p3 (pre.length + 1) c3).ownBlock = some b, ⟨sW3.mono fun b _ hb => ⟨fun e => hb ((h3 b).2 (.inl e)), fun e => hb ((h3 b).2 (.inr e))⟩, fun b hb => ?_⟩, ⟨_, r3, (by rw [hl3]; exact own3'), fun b => Iff.rfl⟩, h4.trans sW3 (fun b hb hn => ⟨by omega, fun e => by have := (hob _ e).2.1; omega⟩), ⟨post, by rw [hpost]; simp⟩⟩
   rcases hb with h | h
   ·exact .inl ((h3 b).2 (.inl h))
   ·rcases hob3 with h6 | h6
    ·rw [h6] at h; exact .inl ((h3 b).2 (.inr h))
    ·rw [h6] at h
     have := Option.some.inj h
     exact .inr (by omega)
  obtain ⟨b0, b1, b2, b3, b4, b5, b6, b7, b8⟩ := nine_cells rbx
  have k0 := h1.cell 0
  have k2 := r2.cell 0
  have f2 := r2.free 0
  have hY1' : W.alloc (.cells #[.int .i8 (PX 0), .int .i8 (PX 1), .int .i8 (PX 2), .int .i8 (PX 3), .int .i8 (PX 4), .int .i8 (PX 5), .int .i8 (PX 6), .int .i8 (PX 7), .int .i8 (PX 8)] 82) = Y1 := hY1
  simp only [List.getElem?_cons_zero] at k0 k2
  have HEQ := Lib.hid heq
  have HY3 := Lib.hid hY3
  have kb := r1.cell 0
  simp only [List.getElem?_cons_zero] at kb
  clear h2 h3 h4 h5 rbx hbx hpost own1 hob own3 hg3 hob3 heq s12 hnB r1 r2 r3 s23 sW3 own3' hb1 rgb h1 hY1 hY3
  simp only [nineV, hPX]
  gi_wp2_with (first | (gi_at_builtin; refine wpListIn_exec (fun _ => trivial) rfl (by intro c h; cases h) _ Y2 (HEQ.out _ _ (.tmp 8) (.tmp 10) rfl rfl rfl rfl) ?_))
  rw [HY3.out]
  exact FIN.out
 case done =>
  rintro D xs M2 W5 hD hnD ⟨rfl, hsa⟩ ⟨⟨v, h1, h2, h3⟩, h4, h5⟩ hK
  obtain ⟨p2, c2, hv2, hc21, hc22⟩ := h2.len
  subst hv2
  have k0 := h1.cell 0
  simp only [List.getElem?_cons_zero] at k0
  have H2 := Lib.hid h2
  have H4 := Lib.hid h4
  have HA := Lib.hid hsa
  have HK5 := Lib.hid hK
  clear h1 h2 h3 h4 h5 hsa hK
  go_wp2
  refine (HQ.out _ _ ?_).1
  refine mark_leave HK5.out fun o' => ⟨.slice p2 xs.length c2, by simp [results, Tryd.results93, go_sem], _, rfl, ?_, HA.out.put HK5.out rfl (fun es c e => by cases e), H4.out.trans (Same.put (K := fun b => b ≠ D) _ HK5.out fun h => h rfl) fun b hb _ => by omega⟩
  exact (H2.out.base (by omega)).same (K := fun b => b ≠ D) (Same.put _ HK5.out fun h => h rfl) fun b hb => by obtain ⟨_, _, ys, hr⟩ := H2.out.ob_lt b hb; exact row_ne hr HK5.out rfl
 case stop => exact fun _ _ _ _ _ _ _ _ h => h.elim
set_option maxHeartbeats 1000000 in
theorem collect_go (N sg g m k : Nat) (E : Es) (p : List Int) (w : World) (hp : PosP N p) (hN2 : 2 ≤ N) (hN9 : N ≤ 9) (hE : Lt E N) (hne : Ne2 E) (hb : BoardR w g N E) (hT : Tab w) (hS : SearchAt E N p sg g m k w) :
  Calls Tryd.prog 87 #[.func (.func 88) #[.pointer (some ⟨sg, 0, none⟩)] #[]] w fun e w' => ∃ v, e = .returned v ∧ OwnK 82 9 w.heap.size w' v (lv E N p (k + 1)).2.length (posC (lv E N p (k + 1)).2) ∧ SearchAt E N p sg g m (k + 1) w' ∧ Same (fun b => b ≠ sg ∧ b ≠ m) w w' := by
 have HA := Lib.hid (appendSeq_go N sg g m k E p w hp hN2 hN9 hE hne hb hT hS)
 obtain ⟨L, hL⟩ : ∃ L, (lv E N p (k + 1)).2 = L := ⟨_, rfl⟩
 rw [hL] at HA ⊢
 clear hp hb hT hS hL
 go_enter Tryd.func87, Tryd.ntmps87
 go_wp2_with fail
 refine (HA.out).mono ?_
 rintro e w1 ⟨v, rfl, h1, h2, h3⟩
 obtain ⟨p2, c2, rfl, _, _⟩ := h1.len
 have H1 := Lib.hid h1
 have H2 := Lib.hid h2
 have H3 := Lib.hid h3
 clear h1 h2 h3
 go_wp2
 go_ret
 exact ⟨_, rfl, H1.out, H2.out, H3.out⟩
end Go.Proofs.YtllhejjcmfiebaaDoor
