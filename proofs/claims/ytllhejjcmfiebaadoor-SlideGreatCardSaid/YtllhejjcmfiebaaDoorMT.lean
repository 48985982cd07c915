/- Two searches that meet. -/
import Derived.Test.YtllhejjcmfiebaaDoorE9
import Derived.Test.YtllhejjcmfiebaaDoorN9
import Derived.Test.YtllhejjcmfiebaaDoorKG
import Derived.Deep.LoopGhost
import Derived.WalkMore
set_option linter.unusedVariables false
set_option linter.unusedSimpArgs false
set_option linter.unnecessarySimpa false
namespace Go.Proofs.YtllhejjcmfiebaaDoor
open Go.RowKit Go.Shelf
attribute [local go_sem] Oper.semAt_some
def Knows (E : Es) (N : Nat) (p : List Int) (sg g m d : Nat) (x : List Int) (W : World) : Prop :=
 ∃ par nv, SrchR W sg g m nv ∧ MapAt N W m par ∧ ParOK E N p par ∧ x ∈ keysP par ∧ DistIs E N p d x
theorem Knows.same {E : Es} {N : Nat} {p x : List Int} {sg g m d : Nat} {W W' : World} {K : Nat → Prop} (h : Knows E N p sg g m d x W) (hs : Same K W W') (h1 : K sg) (h2 : K m) : Knows E N p sg g m d x W' := by
 obtain ⟨par, nv, a, b, c⟩ := h
 exact ⟨par, nv, hs.row a h1, b.same hs h2, c⟩
theorem SearchAt.knows {E : Es} {N : Nat} {p x : List Int} {sg g m d k : Nat} {W : World} (h : SearchAt E N p sg g m k W) (hx : x ∈ (lv E N p k).1) (hd : DistIs E N p d x) : Knows E N p sg g m d x W := by
 obtain ⟨par, nv, a, b, c, e, _⟩ := h
 exact ⟨par, nv, a, b, e, by rw [c]; exact hx, hd⟩
theorem SearchMid.knows {E : Es} {N : Nat} {p x : List Int} {sg g m d k : Nat} {xs : List (List Int)} {W : World} (h : SearchMid E N p sg g m k xs W) (hx : x ∈ xs) (hd : DistIs E N p d x) : Knows E N p sg g m d x W := by
 obtain ⟨par, nv, a, b, c, e⟩ := h
 exact ⟨par, nv, a, b, e, by rw [c]; exact List.mem_append_right _ hx, hd⟩
theorem SearchAt.apart1 {E E' : Es} {N N' : Nat} {p q : List Int} {s1 g m1 s2 g' m2 a b : Nat} {W : World} (h : SearchAt E N p s1 g m1 a W) (h' : SearchAt E' N' q s2 g' m2 b W) : s1 ≠ m2 := fun e => by
 obtain ⟨par, nv, hr, _⟩ := h
 obtain ⟨par', nv', _, ⟨D, ⟨es, clock, hh, _⟩, _⟩, _⟩ := h'
 unfold SrchR Row at hr
 rw [e, hh] at hr; cases hr
theorem Row.search_ne {E : Es} {N : Nat} {p : List Int} {s g m k T b : Nat} {W : World} {xs : List Value} (hr : Row T W b xs) (hT : T ≠ 125) (h : SearchAt E N p s g m k W) : b ≠ s ∧ b ≠ m := by
 obtain ⟨par, nv, a, c, _⟩ := h
 refine ⟨fun e => ?_, fun e => ?_⟩
 ·subst e; exact hT (hr.only ⟨_, a⟩).symm
 ·obtain ⟨D, ⟨es, clock, hh, _⟩, _⟩ := c
  unfold Row at hr
  rw [e, hh] at hr; cases hr
theorem SearchAt.stays {E : Es} {N : Nat} {p q : List Int} {s1 g m1 s2 m2 a b : Nat} {W W' : World} (h1 : SearchAt E N p s1 g m1 a W) (h2 : SearchAt E N q s2 g m2 b W) (hs : s1 ≠ s2) (hm : m1 ≠ m2) (hw : Same (fun b => b ≠ s1 ∧ b ≠ m1) W W') : SearchAt E N q s2 g m2 b W' :=
 h2.same hw ⟨hs.symm, (h2.apart1 h1)⟩ ⟨(h1.apart1 h2).symm, hm.symm⟩ fun b xs hr => Row.search_ne hr (by decide) h1
theorem SearchAt.newest_ne {E : Es} {N : Nat} {p : List Int} {sg g m k z : Nat} {W : World} {nv : Value} (hp : PosP N p) (hN2 : 2 ≤ N) (hN9 : N ≤ 9) (h : OwnK 82 9 0 W nv (lv E N p k).2.length (posC (lv E N p k).2)) (hne : (lv E N p k).2 ≠ []) (hz : Row 82 W z (nineL fun _ => 0)) : nv.ownBlock ≠ some z := by
 intro e
 obtain ⟨x, t, hx⟩ := List.exists_cons_of_ne_nil hne
 have hl : 0 < (lv E N p k).2.length := by rw [hx]; simp
 obtain ⟨g2, c2, rfl, _, _, _, _, hc⟩ := h.at_ hl
 have eg : g2 = z := by simpa [Value.ownBlock] using e
 subst eg
 have hxP : PosP N x := lv_pos hp k x (lv_sub E N p k x (by rw [hx]; simp))
 obtain ⟨j, hj, hj1⟩ := hxP.ex (x := 1) (by omega) (by omega)
 have h1 := hc j (by omega)
 have h2 := hz.cell j
 rw [nine_get _ (by omega)] at h2
 have h3 := posC_get (lv E N p k).2 0 x j (by rw [hx]; rfl) (by omega)
 rw [Nat.zero_mul, Nat.zero_add] at h3
 rw [h3, h2] at h1
 have h4 := Option.some.inj h1
 unfold posF at h4
 rw [if_pos (by rw [hxP.len]; exact hj), hj1] at h4
 simp at h4
structure MI (E : Es) (N : Nat) (p q : List Int) (B s1 m1 s2 m2 g : Nat) (w : World) (ka kb : Nat) (W : World) : Prop where
 one : SearchAt E N p s1 g m1 ka W
 two : SearchAt E N q s2 g m2 kb W
 dis : ∀ x, x ∈ (lv E N p ka).1 → x ∉ (lv E N q kb).1
 res : Row 82 W B (nineL fun _ => 0)
 meet : Row 82 W (B + 1) (nineL fun _ => 0)
 fnd : Row 4 W (B + 2) [.bool false]
 fr : Same (fun b => b ≠ s1 ∧ b ≠ m1 ∧ b ≠ s2 ∧ b ≠ m2) w W
def MetE (E : Es) (N : Nat) (p q : List Int) (s1 m1 s2 m2 g : Nat) (w : World) (F : Nat → Int) (bo : Bool) (W : World) : Prop :=
 Same (fun b => b ≠ s1 ∧ b ≠ m1 ∧ b ≠ s2 ∧ b ≠ m2) w W ∧
 ((bo = true ∧ ∃ x a b, F = posF x x.length ∧ PosP N x ∧ Knows E N p s1 g m1 a x W ∧ Knows E N q s2 g m2 b x W ∧ DistIs E N p (a + b) q) ∨ (bo = false ∧ (F = fun _ => 0) ∧ ∀ d, ¬ Way (nbrL E N) p d q))
theorem MetE.same {E : Es} {N : Nat} {p q : List Int} {s1 m1 s2 m2 g : Nat} {w W W' : World} {F : Nat → Int} {bo : Bool} {K : Nat → Prop} (h : MetE E N p q s1 m1 s2 m2 g w F bo W) (hs : Same K W W') (hK : ∀ b, b < w.heap.size → K b) (h1 : s1 < w.heap.size ∧ m1 < w.heap.size ∧ s2 < w.heap.size ∧ m2 < w.heap.size) : MetE E N p q s1 m1 s2 m2 g w F bo W' := by
 obtain ⟨h2, h3⟩ := h
 refine ⟨h2.trans hs fun x hx _ => hK x hx, h3.imp (fun ⟨a, x, i, j, b, c, d, e, f⟩ => ⟨a, x, i, j, b, c, d.same hs (hK _ h1.1) (hK _ h1.2.1), e.same hs (hK _ h1.2.2.1) (hK _ h1.2.2.2), f⟩) id⟩
theorem wpListIn_skip {F : Fence} {nF : Nat} {P : Program} {w : World} {ops : Array Oper} {rest : List Oper} {o : Oper} {a : Act} {Q : Exit → Act → World → Prop} (hF : ∀ f, F.fn f) (hg : o.guard = none) (hnd : ∀ c, o.op ≠ .defer c) (w' : World) (h : (execOp a.eval o).run P w = .ok .skip w')
  (hK : wpListIn F nF P ops Q rest (a.put o.dst undef) w') : wpListIn F nF P ops Q (o :: rest) a w := by
 refine wpListIn_plain hg fun K' hK' => ?_
 unfold Oper.wpIn
 refine ⟨fun f _ => hF f, ?_⟩
 rw [Oper.semAt_eq _ _ _ hnd, h, Oper.uponIn_skip]
 exact hK' _ _ hK
theorem results_meet (tmps : Array Value) (w : World) (g : Nat) (F : Nat → Int) (bo : Bool) (hp : tmps.getD 4 undef = .pointer (some ⟨g, 0, none⟩)) (h5 : tmps.getD 5 undef = .bool bo) (hg : Row 82 w g (nineL F)) :
  (results Tryd.f79 tmps).run Tryd.prog w = .ok (.tuple #[nineV F, .bool bo]) w := by
 have hp' : tmps[4]?.getD undef = .pointer (some ⟨g, 0, none⟩) := by simpa using hp
 have h5' : tmps[5]?.getD undef = .bool bo := by simpa using h5
 have hrun := run_loadVar_row (P := Tryd.prog) (ty := 82) w g 82 (nineL F).toArray (0, 0) _ hg und82 rfl (by kernel_rfl)
 simp [results, Tryd.results79, hp', h5', asAddr, hrun]
 rfl
theorem same_st9m {w : World} {g : Nat} (F : Nat → Int) : Same (fun b => b ≠ g) w (st9 w g F) := by
 unfold st9
 have h : ∀ (X : World) (i : Nat) (v : Value), Same (fun b => b ≠ g) w X → Same (fun b => b ≠ g) w (X.setCell ⟨g, i, none⟩ v) := fun X i v hx => hx.trans (Same.setCell (K := fun b => b ≠ g) _ _ _ fun h => h rfl) fun _ _ h => h
 exact h _ _ _ (h _ _ _ (h _ _ _ (h _ _ _ (h _ _ _ (h _ _ _ (h _ _ _ (h _ _ _ (h _ _ _ (Same.refl _ _)))))))))
set_option maxRecDepth 100000 in
set_option maxHeartbeats 8000000 in
theorem meeting_go (N g s1 m1 s2 m2 : Nat) (E : Es) (p q : List Int) (w : World) (hp : PosP N p) (hq : PosP N q) (hN2 : 2 ≤ N) (hN9 : N ≤ 9) (hE : Lt E N) (hne : Ne2 E) (hb : BoardR w g N E) (hT : Tab w)
  (h1 : SearchAt E N p s1 g m1 0 w) (h2 : SearchAt E N q s2 g m2 0 w) (hpq : p ≠ q) (hs : s1 ≠ s2) (hm : m1 ≠ m2) :
  Calls Tryd.prog 79 #[.pointer (some ⟨s1, 0, none⟩), .pointer (some ⟨s2, 0, none⟩)] w fun e w' => ∃ F bo, e = .returned (.tuple #[nineV F, .bool bo]) ∧ MetE E N p q s1 m1 s2 m2 g w F bo w' := by
 obtain ⟨B, hB⟩ : ∃ B, w.heap.size = B := ⟨_, rfl⟩
 have hltg : g < B := by rw [← hB]; exact Row.lt hb
 have hlt1 : s1 < B ∧ m1 < B := by obtain ⟨_, _, a, c, _⟩ := h1; rw [← hB]; exact ⟨Row.lt a, c.lt⟩
 have hlt2 : s2 < B ∧ m2 < B := by obtain ⟨_, _, a, c, _⟩ := h2; rw [← hB]; exact ⟨Row.lt a, c.lt⟩
 have hltT : 0 < B := by rw [← hB]; exact hT.lt
 have hgs := Row.search_ne hb (by decide) h1
 have hgs2 := Row.search_ne hb (by decide) h2
 have hTn : ∀ {p : List Int} {s g m k : Nat}, SearchAt E N p s g m k w → 0 ≠ s ∧ 0 ≠ m := fun {p s g m k} h => by
  obtain ⟨_, _, a, ⟨D, ⟨es, clock, hh, _⟩, _⟩, _⟩ := h
  have h1 := hT.c 0 (by omega)
  refine ⟨fun e => ?_, fun e => ?_⟩
  ·have h3 := Row.cell a 0
   rw [← e] at h3
   rw [h3] at h1
   simp at h1
  ·rw [← e] at hh
   unfold World.cell? at h1
   dsimp only at h1
   rw [hh] at h1
   simp at h1
 have hT1 := hTn h1
 have hT2 := hTn h2
 have hd0 : ∀ x, x ∈ (lv E N p 0).1 → x ∉ (lv E N q 0).1 := fun x hx hy => by
  have e1 : x = p := List.mem_singleton.1 hx
  have e2 : x = q := List.mem_singleton.1 hy
  exact hpq (e1.symm.trans e2)
 obtain ⟨V3, hV3⟩ : ∃ V3, ((w.alloc (.cells (nineL fun _ => 0).toArray 82)).alloc (.cells (nineL fun _ => 0).toArray 82)).alloc (.cells #[.bool false] 4) = V3 := ⟨_, rfl⟩
 have hb1 := below_alloc_refl w (.cells (nineL fun _ => 0).toArray 82)
 have r1 := row_new 82 w (nineL fun _ => 0).toArray
 have hb2 := below_alloc_refl (w.alloc (.cells (nineL fun _ => 0).toArray 82)) (.cells (nineL fun _ => 0).toArray 82)
 have r2 := row_new 82 (w.alloc (.cells (nineL fun _ => 0).toArray 82)) (nineL fun _ => 0).toArray
 have hb3 := below_alloc_refl ((w.alloc (.cells (nineL fun _ => 0).toArray 82)).alloc (.cells (nineL fun _ => 0).toArray 82)) (.cells #[.bool false] 4)
 have r3 := row_new 4 ((w.alloc (.cells (nineL fun _ => 0).toArray 82)).alloc (.cells (nineL fun _ => 0).toArray 82)) #[.bool false]
 have r2' := r2.below hb3 r2.lt
 have r1' := (r1.below hb2 r1.lt).below hb3 (r1.below hb2 r1.lt).lt
 have hbV : Below w.heap.size w V3 := by rw [← hV3]; exact (hb1.trans (hb2.mono (by simp))).trans (hb3.mono (by simp; omega))
 rw [hV3] at r1' r2' r3
 simp only [World.size_alloc, hB] at r1' r2' r3
 have hV3s : V3.heap.size = B + 3 := by rw [← hV3]; simp [hB]
 have hMI : MI E N p q B s1 m1 s2 m2 g w 0 0 V3 := by
  have hsm : ∀ {p : List Int} {s g m k : Nat}, SearchAt E N p s g m k w → SearchAt E N p s g m k V3 := fun {p s g m k} h => h.same (K := fun b => b < w.heap.size) (Same.of_below hbV fun x hx _ => hx) (by obtain ⟨_, _, a, _⟩ := h; exact Row.lt a) (by obtain ⟨_, _, _, a, _⟩ := h; exact a.lt) (fun b xs hr => hr.lt)
  exact ⟨hsm h1, hsm h2, hd0, r1', r2', r3, Same.of_below hbV fun x hx _ => hx⟩
 have HMI := Lib.hid hMI
 have HP := Lib.hid hp
 have HQ0 := Lib.hid hq
 have HBR := Lib.hid (fun (W : World) (h : Same (fun b => b ≠ s1 ∧ b ≠ m1 ∧ b ≠ s2 ∧ b ≠ m2) w W) => show BoardR W g N E from h.row hb ⟨hgs.1, hgs.2, hgs2.1, hgs2.2⟩)
 have HTB := Lib.hid (fun (W : World) (h : Same (fun b => b ≠ s1 ∧ b ≠ m1 ∧ b ≠ s2 ∧ b ≠ m2) w W) => hT.same h ⟨hT1.1, hT1.2, hT2.1, hT2.2⟩)
 have hfl := fact_mono hN9
 rw [fact9] at hfl
 have HFW := Lib.hid (fun (p : List Int) (hp : PosP N p) k => Nat.le_trans (lv_le (E := E) (N := N) (p := p) k) (Nat.le_trans (lv_few hp k) hfl))
 have HFB := Lib.hid (fun (p : List Int) (hp : PosP N p) k (h : (lv E N p k).2 ≠ []) => Nat.lt_of_lt_of_le (lv_bound hp h) hfl)
 have HGR := Lib.hid (fun (pX : List Int) (sX mX kX : Nat) (W : World) (hpX : PosP N pX) (hfr : Same (fun b => b ≠ s1 ∧ b ≠ m1 ∧ b ≠ s2 ∧ b ≠ m2) w W) (par : List (List Int × List Int)) (nv : Value) (c1 : SrchR W sX g mX nv) (c2 : MapAt N W mX par) (c3 : keysP par = (lv E N pX kX).1) (c4 : ParOK E N pX par) (c5 : OwnK 82 9 0 W nv (lv E N pX kX).2.length (posC (lv E N pX kX).2)) (c6 : ∀ b, nv.ownBlock = some b → b ≠ sX ∧ b ≠ mX ∧ b ≠ g) => grow_seq N sX g mX kX E pX W hpX hN2 hN9 hE hne (HBR.out W hfr) (HTB.out W hfr) par nv c1 c2 c3 c4 (PosA.of_own c5) c6)
 have HALL : Hid (s1 < w.heap.size ∧ m1 < w.heap.size ∧ s2 < w.heap.size ∧ m2 < w.heap.size) := by rw [hB]; exact ⟨hlt1.1, hlt1.2, hlt2.1, hlt2.2⟩
 have HD2 := Lib.hid (fun h0 : 0 < N => fun (a b : Nat) (hd : ∀ x, x ∈ (lv E N p a).1 → x ∉ (lv E N q b).1) => And.intro (fun (x : List Int) (h1 : DistIs E N p (a + 1) x) (h2 : x ∈ (lv E N q b).1) => meet_dist hp hq h0 hd h1 h2) (fun (x : List Int) (h1 : DistIs E N q (b + 1) x) (h2 : x ∈ (lv E N p a).1) => meet_dist hq hp h0 (fun y hy hy' => hd y hy' hy) h1 h2))
 have HHB := Lib.hid hB
 have hV3' : ((w.alloc (.cells #[.int .i8 0, .int .i8 0, .int .i8 0, .int .i8 0, .int .i8 0, .int .i8 0, .int .i8 0, .int .i8 0, .int .i8 0] 82)).alloc (.cells #[.int .i8 0, .int .i8 0, .int .i8 0, .int .i8 0, .int .i8 0, .int .i8 0, .int .i8 0, .int .i8 0, .int .i8 0] 82)).alloc (.cells #[.bool false] 4) = V3 := hV3
 have HV3 := Lib.hid hV3'
 clear hV3' hp hq hE hne hb hT h1 h2 hpq hd0 hTn hV3 hb1 r1 hb2 r2 hb3 r3 r2' r1' hbV hMI hfl hgs hgs2
 refine calls_marks Tryd.func79 rfl ?_
 intro Q hQ
 have HQ := Lib.hid hQ
 clear hQ
 simp only [Tryd.ntmps79, List.size_toArray, List.length_cons, List.length_nil, Nat.reduceAdd, Nat.reduceSub, Array.replicate_succ, Array.replicate_zero, List.push_toArray, List.append_toArray, List.nil_append, List.cons_append]
 go_wp2
 apply wp_scope_straight
 go_wp2
 apply wp_label
 go_wp2
 rename_i K9 h9
 have FINW : Hid (∀ (ds : List Deferred) (F : Nat → Int) (bo : Bool) (W : World) (x8 x9 x11 x12 x13 x14 x15 x16 x17 x18 x19 x20 x21 x22 x23 x24 x25 x26 x27 x28 x29 x30 x31 x32 x33 x34 x35 x36 x37 x38 x39 x40 x41 x42 : Value), Row 82 W B (nineL fun _ => 0) → Row 82 W (B + 1) (nineL F) → Row 4 W (B + 2) [.bool bo] → Marks (B + 3) W ds → MetE E N p q s1 m1 s2 m2 g w F bo W → K9 { tmps := #[.pointer (some ⟨s1, 0, none⟩), .pointer (some ⟨s2, 0, none⟩), undef, undef, .pointer (some ⟨B, 0, none⟩), .bool false, .pointer (some ⟨B + 1, 0, none⟩), .pointer (some ⟨B + 2, 0, none⟩), x8, x9, undef, x11, x12, x13, x14, x15, x16, x17, x18, x19, x20, x21, x22, x23, x24, x25, x26, x27, x28, x29, x30, x31, x32, x33, x34, x35, x36, x37, x38, x39, x40, x41, x42, undef, undef, undef, undef, undef, undef, undef], defers := ds } W) := by
  intro ds F bo W x8 x9 x11 x12 x13 x14 x15 x16 x17 x18 x19 x20 x21 x22 x23 x24 x25 x26 x27 x28 x29 x30 x31 x32 x33 x34 x35 x36 x37 x38 x39 x40 x41 x42 hrB hr6 hr7 hmk hmet
  refine h9 _ _ ?_
  clear h9
  obtain ⟨X0, hX0⟩ : ∃ X0 : World, W.drew = X0 := ⟨_, rfl⟩
  obtain ⟨X1, hX1⟩ : ∃ X1, st9 X0 B F = X1 := ⟨_, rfl⟩
  have sX0 : Same (fun _ => True) W X0 := by rw [← hX0]; exact Same.drew _ _
  have sX1 : Same (fun b => b ≠ B) W X1 := by rw [← hX1]; exact (sX0.mono (K' := fun b => b ≠ B) fun _ _ _ => trivial).trans (same_st9m F) fun _ _ h => h
  have rB0 := sX0.row hrB trivial
  have HX6 := Lib.hid (sX0.row hr6 trivial)
  have HX7 := Lib.hid (sX0.row hr7 trivial)
  have HX71 := Lib.hid (sX1.row hr7 (by omega))
  have HXB := Lib.hid rB0
  have HXB1 : Hid (Row 82 X1 B (nineL F)) := by show Row _ _ _ _; rw [← hX1]; exact row_st9 F rB0
  have HMK1 := Lib.hid (hmk.same sX1 fun D h => by have := hmk.ge _ h; omega)
  have HMET := Lib.hid (hmet.same sX1 (fun b hb => by have := HHB.out; omega) HALL.out)
  have HX0 := Lib.hid hX0
  have HX1 := Lib.hid hX1
  clear hrB hr6 hr7 hmk hmet hX0 hX1 sX0 sX1 rB0
  go_wp2
  refine wp_region_det (by kernel_rfl) 50 rfl (by kernel_rfl) [2] (by kernel_rfl) (by decide) (fun j => match j with | 0 => .agg #[.int .i8 (F 0), .int .i8 (F 1), .int .i8 (F 2), .int .i8 (F 3), .int .i8 (F 4), .int .i8 (F 5), .int .i8 (F 6), .int .i8 (F 7), .int .i8 (F 8)] | 1 => .bool bo | 2 => undef | 3 => .bool bo | _ => undef) (fun s => match s with | 0 => X0 | _ => X1) HX0.out.symm ?hop ?hQ
  case hop =>
   intro i o hi s hs hok vs0 hv
   have hi' : i < 4 := (List.getElem?_eq_some_iff.1 hi).1
   have hs' : s ≤ 1 := hs
   have hs3 : s = 0 ∨ s = 1 := by clear hok hv hi hs; omega
   have hi3 : i = 0 ∨ i = 1 ∨ i = 2 ∨ i = 3 := by clear hok hv hi hs hs3; omega
   clear hs hs' hi'
   rcases hi3 with rfl | rfl | rfl | rfl
   ·cases hi
    generalize hG : relUpon _ _ _ = G9
    clear hv
    refine ⟨rfl, ?_⟩
    rcases hs3 with rfl | rfl
    ·clear hok
     subst hG
     generalize hX : Sem.run _ (execOp _ _) _ = r9
     simp only [List.take_succ_cons, List.take_zero, putAll] at hX
     rw [exec_load9 HX6.out rfl (by go_simp)] at hX
     subst hX
     exact ⟨rfl, rfl⟩
    ·exact (okSt_no hok (by kernel_rfl)).elim
   ·cases hi
    generalize hG : relUpon _ _ _ = G9
    clear hv
    refine ⟨rfl, ?_⟩
    rcases hs3 with rfl | rfl
    ·first
      | (clear hok; subst hG; generalize hR : (fun (u : Value) (w2 : World) => u = _ ∧ w2 = _) = R; simp only [List.take_succ_cons, List.take_zero, putAll]; have k := HX7.out.cell 0; simp only [List.getElem?_cons_zero] at k; go_simp; subst hR; exact ⟨rfl, rfl⟩)
    ·first
      | (clear hok; subst hG; generalize hR : (fun (u : Value) (w2 : World) => u = _ ∧ w2 = _) = R; simp only [List.take_succ_cons, List.take_zero, putAll]; have k := HX71.out.cell 0; simp only [List.getElem?_cons_zero] at k; go_simp; subst hR; exact ⟨rfl, rfl⟩)
   ·cases hi
    generalize hG : relUpon _ _ _ = G9
    have q0_ : vs0 0 = .agg #[.int .i8 (F 0), .int .i8 (F 1), .int .i8 (F 2), .int .i8 (F 3), .int .i8 (F 4), .int .i8 (F 5), .int .i8 (F 6), .int .i8 (F 7), .int .i8 (F 8)] := hv 0 (by decide +kernel)
    clear hv
    refine ⟨rfl, ?_⟩
    rcases hs3 with rfl | rfl
    ·clear hok
     subst hG
     generalize hX : Sem.run _ (execOp _ _) _ = r9
     simp only [List.take_succ_cons, List.take_zero, putAll] at hX
     rw [exec_store9 (G := F) HXB.out rfl (by go_simp) (by go_simp; rfl)] at hX
     subst hX
     exact ⟨rfl, HX1.out⟩
    ·exact (okSt_no hok (by kernel_rfl)).elim
   ·cases hi
    generalize hG : relUpon _ _ _ = G9
    have q1_ : vs0 1 = .bool bo := hv 1 (by decide +kernel)
    clear hv
    refine ⟨rfl, ?_⟩
    rcases hs3 with rfl | rfl
    ·exact (okSt_no hok (by kernel_rfl)).elim
    ·first
      | (clear hok; subst hG; generalize hR : (fun (u : Value) (w2 : World) => u = _ ∧ w2 = _) = R; simp only [List.take_succ_cons, List.take_zero, putAll]; go_simp; subst hR; exact ⟨rfl, rfl⟩)
  case hQ =>
   intro vs0 hv
   have e0_ : vs0 0 = .agg #[.int .i8 (F 0), .int .i8 (F 1), .int .i8 (F 2), .int .i8 (F 3), .int .i8 (F 4), .int .i8 (F 5), .int .i8 (F 6), .int .i8 (F 7), .int .i8 (F 8)] := hv 0 (by decide)
   have e1_ : vs0 1 = .bool bo := hv 1 (by decide)
   have e2_ : vs0 2 = undef := hv 2 (by decide)
   have e3_ : vs0 3 = .bool bo := hv 3 (by decide)
   generalize hKK : Exit.then _ _ = KK
   simp only [putAll, e0_, e1_, e2_, e3_]
   clear hv e0_ e1_ e2_ e3_
   go_simp
   subst hKK
   go_wp2
   refine (HQ.out _ _ ?_).1
   refine marks_same HMK1.out fun w4 hs4 => ⟨_, results_meet _ w4 B F bo rfl rfl (hs4.row HXB1.out fun h => by have := HMK1.out.ge _ h; omega), F, bo, rfl, ?_⟩
   have hKK4 : ∀ b, b < w.heap.size → ¬ mark b ∈ ds := fun b hb hm => by have := HMK1.out.ge _ hm; have := HHB.out; omega
   exact HMET.out.same hs4 hKK4 HALL.out
 clear h9
 rw [HV3.out]
 refine wp_loop_ghost_k (fun n a wr => ∃ (ka kb : Nat) (ds : List Deferred) (x8 x9 x11 x12 x13 x14 x15 x16 x17 x18 x19 x20 x21 x22 x23 x24 x25 x26 x27 x28 x29 x30 x31 x32 x33 x34 x35 x36 x37 x38 x39 x40 x41 x42 : Value), a = { tmps := #[.pointer (some ⟨s1, 0, none⟩), .pointer (some ⟨s2, 0, none⟩), undef, undef, .pointer (some ⟨B, 0, none⟩), .bool false, .pointer (some ⟨B + 1, 0, none⟩), .pointer (some ⟨B + 2, 0, none⟩), x8, x9, undef, x11, x12, x13, x14, x15, x16, x17, x18, x19, x20, x21, x22, x23, x24, x25, x26, x27, x28, x29, x30, x31, x32, x33, x34, x35, x36, x37, x38, x39, x40, x41, x42, undef, undef, undef, undef, undef, undef, undef], defers := ds } ∧ MI E N p q B s1 m1 s2 m2 g w ka kb wr ∧ Marks (B + 3) wr ds ∧ n + ka + kb = 725762 ∧ ka ≤ 362880 ∧ kb ≤ 362880) 725762 ⟨0, 0, [], _, _, _, _, _, _, _, _, _, _, _, _, _, _, _, _, _, _, _, _, _, _, _, _, _, _, _, _, _, _, _, _, _, _, rfl, HMI.out, Marks.nil _ _, rfl, Nat.zero_le _, Nat.zero_le _⟩ ?_
 rintro n a wr ⟨ka, kb, ds, x8, x9, x11, x12, x13, x14, x15, x16, x17, x18, x19, x20, x21, x22, x23, x24, x25, x26, x27, x28, x29, x30, x31, x32, x33, x34, x35, x36, x37, x38, x39, x40, x41, x42, rfl, hmi, hmk, hn, hka, hkb⟩ J K hJ hK
 have HKK : Hid (∀ (wr' : World) (ka' kb' : Nat) (ds' : List Deferred) (x8 x9 x11 x12 x13 x14 x15 x16 x17 x18 x19 x20 x21 x22 x23 x24 x25 x26 x27 x28 x29 x30 x31 x32 x33 x34 x35 x36 x37 x38 x39 x40 x41 x42 : Value), MI E N p q B s1 m1 s2 m2 g w ka' kb' wr' → Marks (B + 3) wr' ds' → ka' + kb' = ka + kb + 1 → ka' ≤ 362880 → kb' ≤ 362880 → K { tmps := #[.pointer (some ⟨s1, 0, none⟩), .pointer (some ⟨s2, 0, none⟩), undef, undef, .pointer (some ⟨B, 0, none⟩), .bool false, .pointer (some ⟨B + 1, 0, none⟩), .pointer (some ⟨B + 2, 0, none⟩), x8, x9, undef, x11, x12, x13, x14, x15, x16, x17, x18, x19, x20, x21, x22, x23, x24, x25, x26, x27, x28, x29, x30, x31, x32, x33, x34, x35, x36, x37, x38, x39, x40, x41, x42, undef, undef, undef, undef, undef, undef, undef], defers := ds' } wr') :=
  fun wr' ka' kb' ds' x8 x9 x11 x12 x13 x14 x15 x16 x17 x18 x19 x20 x21 x22 x23 x24 x25 x26 x27 x28 x29 x30 x31 x32 x33 x34 x35 x36 x37 x38 x39 x40 x41 x42 h1 h2 h3 h4 h5 => hK _ _ (Handed.intro (n - 1) (by omega) (hJ _ _ _ ⟨ka', kb', ds', x8, x9, x11, x12, x13, x14, x15, x16, x17, x18, x19, x20, x21, x22, x23, x24, x25, x26, x27, x28, x29, x30, x31, x32, x33, x34, x35, x36, x37, x38, x39, x40, x41, x42, rfl, h1, h2, by omega, h4, h5⟩))
 clear hK hJ
 have hmi1 := hmi.one
 have hmi2 := hmi.two
 obtain ⟨par1, nv1, a1, a2, a3, a4, a5, a6⟩ := hmi1
 obtain ⟨par2, nv2, b1, b2, b3, b4, b5, b6⟩ := hmi2
 obtain ⟨p1, c1, hv1, hc11, hc12⟩ := a5.len
 obtain ⟨p2, c2, hv2, hc21, hc22⟩ := b5.len
 subst hv1
 subst hv2
 have HLL1 := Lib.hid (HFW.out p HP.out ka)
 have HLL2 := Lib.hid (HFW.out q HQ0.out kb)
 have k1 := Row.cell a1 2
 have k2 := Row.cell b1 2
 simp only [List.getElem?_cons_zero, List.getElem?_cons_succ] at k1 k2
 have HMI2 := Lib.hid hmi
 have HMK := Lib.hid hmk
 have hl1 : (lv E N p ka).2.length ≤ 362880 := HLL1.out
 have hl2 : (lv E N q kb).2.length ≤ 362880 := HLL2.out
 obtain ⟨n1, hn1⟩ : ∃ n1, (lv E N p ka).2.length = n1 := ⟨_, rfl⟩
 obtain ⟨n2, hn2⟩ : ∃ n2, (lv E N q kb).2.length = n2 := ⟨_, rfl⟩
 rw [hn1] at k1 hl1
 rw [hn2] at k2 hl2
 have HN1 := Lib.hid hn1
 have HN2 := Lib.hid hn2
 have hszr : B + 3 ≤ wr.heap.size := hmi.fnd.lt
 clear a1 a2 a3 a4 a5 a6 b1 b2 b3 b4 b5 b6 hc11 hc12 hc21 hc22 hn1 hn2 hmi hmk HMI HV3
 by_cases e1 : 0 < n1
 ·by_cases e2 : 0 < n2
  ·have i1 : (0 : Int) < (n1 : Int) := by omega
   have i2 : (0 : Int) < (n2 : Int) := by omega
   have hne1 : (lv E N p ka).2 ≠ [] := by intro h; have := HN1.out; rw [h] at this; simp at this; omega
   have hne2 : (lv E N q kb).2 ≠ [] := by intro h; have := HN2.out; rw [h] at this; simp at this; omega
   have hka1 := HFB.out p HP.out ka hne1
   have hkb1 := HFB.out q HQ0.out kb hne2
   have HNE1 := Lib.hid hne1
   have HNE2 := Lib.hid hne2
   clear hne1 hne2
   by_cases e3 : n2 < n1
   ·have i3 : (n2 : Int) < (n1 : Int) := by omega
    obtain ⟨c9, hc9⟩ : ∃ c9, wr.heap.size = c9 := ⟨_, rfl⟩
    have r9A := row_new 119 wr #[.pointer (some ⟨s2, 0, none⟩)]
    have b9A := below_alloc_refl wr (.cells #[.pointer (some ⟨s2, 0, none⟩)] 119)
    obtain ⟨WA, hWA⟩ : ∃ WA, wr.alloc (.cells #[.pointer (some ⟨s2, 0, none⟩)] 119) = WA := ⟨_, rfl⟩
    rw [hWA] at r9A b9A
    rw [hc9] at r9A
    obtain ⟨X0, hX0⟩ : ∃ X0 : World, WA.drew = X0 := ⟨_, rfl⟩
    have sX0 : Same (fun _ => True) wr X0 := by rw [← hX0]; exact (Same.of_below (K := fun _ => True) b9A fun x hx _ => hx).trans (Same.drew (fun _ => True) _) fun _ _ _ => trivial
    have r9X : Row 119 X0 c9 [.pointer (some ⟨s2, 0, none⟩)] := by rw [← hX0]; exact (Same.drew (fun _ => True) WA).row r9A trivial
    have HK1 : Hid (X0.cell? ⟨s1, 2, none⟩ = some (.slice p1 n1 c1)) := (World.cell?_of_block (a := ⟨s1, 2, none⟩) (sX0.block s1 (by omega) trivial)).trans k1
    have HK2 : Hid (X0.cell? ⟨s2, 2, none⟩ = some (.slice p2 n2 c2)) := (World.cell?_of_block (a := ⟨s2, 2, none⟩) (sX0.block s2 (by omega) trivial)).trans k2
    have HX0 := Lib.hid hX0
    clear hX0 r9A b9A
    go_wp2
    clear k1 k2 hWA
    refine wp_region_det (by kernel_rfl) 50 rfl (by kernel_rfl) [] (by kernel_rfl) (by decide) (fun j => match j with | 0 => .pointer (some ⟨s2, 0, none⟩) | 1 => .pointer (some ⟨s2, 0, none⟩) | 2 => .pointer (some ⟨s2, 2, none⟩) | 3 => .slice p2 n2 c2 | 4 => .int .i64 (n2 : Nat) | 5 => .pointer (some ⟨s1, 0, none⟩) | 6 => .pointer (some ⟨s1, 0, none⟩) | 7 => .pointer (some ⟨s1, 2, none⟩) | 8 => .slice p1 n1 c1 | 9 => .int .i64 (n1 : Nat) | 10 => .bool true | _ => undef) (fun s => match s with  | _ => X0) HX0.out.symm ?hop ?hQ
    case hop =>
     intro i o hi s hs hok vs0 hv
     have hi' : i < 11 := (List.getElem?_eq_some_iff.1 hi).1
     have hs' : s ≤ 0 := hs
     have hs3 : s = 0 := by clear hok hv hi hs; omega
     have hi3 : i = 0 ∨ i = 1 ∨ i = 2 ∨ i = 3 ∨ i = 4 ∨ i = 5 ∨ i = 6 ∨ i = 7 ∨ i = 8 ∨ i = 9 ∨ i = 10 := by clear hok hv hi hs hs3; omega
     clear hs hs' hi'
     rcases hi3 with rfl | rfl | rfl | rfl | rfl | rfl | rfl | rfl | rfl | rfl | rfl
     ·cases hi
      generalize hG : relUpon _ _ _ = G9
      clear hv
      refine ⟨rfl, ?_⟩
      rcases hs3 with rfl
      ·first
        | (clear hok; subst hG; generalize hR : (fun (u : Value) (w2 : World) => u = _ ∧ w2 = _) = R; simp only [List.take_succ_cons, List.take_zero, putAll]; go_simp; subst hR; exact ⟨rfl, rfl⟩)
     ·cases hi
      generalize hG : relUpon _ _ _ = G9
      have q0_ : vs0 0 = .pointer (some ⟨s2, 0, none⟩) := hv 0 (by decide +kernel)
      clear hv
      refine ⟨rfl, ?_⟩
      rcases hs3 with rfl
      ·first
        | (clear hok; subst hG; generalize hR : (fun (u : Value) (w2 : World) => u = _ ∧ w2 = _) = R; simp only [List.take_succ_cons, List.take_zero, putAll]; go_simp; subst hR; exact ⟨rfl, rfl⟩)
     ·cases hi
      generalize hG : relUpon _ _ _ = G9
      have q1_ : vs0 1 = .pointer (some ⟨s2, 0, none⟩) := hv 1 (by decide +kernel)
      clear hv
      refine ⟨rfl, ?_⟩
      rcases hs3 with rfl
      ·first
        | (clear hok; subst hG; generalize hR : (fun (u : Value) (w2 : World) => u = _ ∧ w2 = _) = R; simp only [List.take_succ_cons, List.take_zero, putAll]; go_simp; subst hR; exact ⟨rfl, rfl⟩)
     ·cases hi
      generalize hG : relUpon _ _ _ = G9
      have q2_ : vs0 2 = .pointer (some ⟨s2, 2, none⟩) := hv 2 (by decide +kernel)
      clear hv
      refine ⟨rfl, ?_⟩
      rcases hs3 with rfl
      ·first
        | (clear hok; subst hG; generalize hR : (fun (u : Value) (w2 : World) => u = _ ∧ w2 = _) = R; simp only [List.take_succ_cons, List.take_zero, putAll]; have k := HK2.out; go_simp; subst hR; exact ⟨rfl, rfl⟩)
     ·cases hi
      generalize hG : relUpon _ _ _ = G9
      have q3_ : vs0 3 = .slice p2 n2 c2 := hv 3 (by decide +kernel)
      clear hv
      refine ⟨rfl, ?_⟩
      rcases hs3 with rfl
      ·first
        | (clear hok; subst hG; generalize hR : (fun (u : Value) (w2 : World) => u = _ ∧ w2 = _) = R; simp only [List.take_succ_cons, List.take_zero, putAll]; go_simp; subst hR; exact ⟨rfl, rfl⟩)
     ·cases hi
      generalize hG : relUpon _ _ _ = G9
      clear hv
      refine ⟨rfl, ?_⟩
      rcases hs3 with rfl
      ·first
        | (clear hok; subst hG; generalize hR : (fun (u : Value) (w2 : World) => u = _ ∧ w2 = _) = R; simp only [List.take_succ_cons, List.take_zero, putAll]; go_simp; subst hR; exact ⟨rfl, rfl⟩)
     ·cases hi
      generalize hG : relUpon _ _ _ = G9
      have q5_ : vs0 5 = .pointer (some ⟨s1, 0, none⟩) := hv 5 (by decide +kernel)
      clear hv
      refine ⟨rfl, ?_⟩
      rcases hs3 with rfl
      ·first
        | (clear hok; subst hG; generalize hR : (fun (u : Value) (w2 : World) => u = _ ∧ w2 = _) = R; simp only [List.take_succ_cons, List.take_zero, putAll]; go_simp; subst hR; exact ⟨rfl, rfl⟩)
     ·cases hi
      generalize hG : relUpon _ _ _ = G9
      have q6_ : vs0 6 = .pointer (some ⟨s1, 0, none⟩) := hv 6 (by decide +kernel)
      clear hv
      refine ⟨rfl, ?_⟩
      rcases hs3 with rfl
      ·first
        | (clear hok; subst hG; generalize hR : (fun (u : Value) (w2 : World) => u = _ ∧ w2 = _) = R; simp only [List.take_succ_cons, List.take_zero, putAll]; go_simp; subst hR; exact ⟨rfl, rfl⟩)
     ·cases hi
      generalize hG : relUpon _ _ _ = G9
      have q7_ : vs0 7 = .pointer (some ⟨s1, 2, none⟩) := hv 7 (by decide +kernel)
      clear hv
      refine ⟨rfl, ?_⟩
      rcases hs3 with rfl
      ·first
        | (clear hok; subst hG; generalize hR : (fun (u : Value) (w2 : World) => u = _ ∧ w2 = _) = R; simp only [List.take_succ_cons, List.take_zero, putAll]; have k := HK1.out; go_simp; subst hR; exact ⟨rfl, rfl⟩)
     ·cases hi
      generalize hG : relUpon _ _ _ = G9
      have q8_ : vs0 8 = .slice p1 n1 c1 := hv 8 (by decide +kernel)
      clear hv
      refine ⟨rfl, ?_⟩
      rcases hs3 with rfl
      ·first
        | (clear hok; subst hG; generalize hR : (fun (u : Value) (w2 : World) => u = _ ∧ w2 = _) = R; simp only [List.take_succ_cons, List.take_zero, putAll]; go_simp; subst hR; exact ⟨rfl, rfl⟩)
     ·cases hi
      generalize hG : relUpon _ _ _ = G9
      have q4_ : vs0 4 = .int .i64 (n2 : Nat) := hv 4 (by decide +kernel)
      have q9_ : vs0 9 = .int .i64 (n1 : Nat) := hv 9 (by decide +kernel)
      clear hv
      refine ⟨rfl, ?_⟩
      rcases hs3 with rfl
      ·first
        | (clear hok; subst hG; generalize hR : (fun (u : Value) (w2 : World) => u = _ ∧ w2 = _) = R; simp only [List.take_succ_cons, List.take_zero, putAll]; go_simp; subst hR; exact ⟨rfl, rfl⟩)
    case hQ =>
     intro vs0 hv
     have e0_ : vs0 0 = .pointer (some ⟨s2, 0, none⟩) := hv 0 (by decide)
     have e1_ : vs0 1 = .pointer (some ⟨s2, 0, none⟩) := hv 1 (by decide)
     have e2_ : vs0 2 = .pointer (some ⟨s2, 2, none⟩) := hv 2 (by decide)
     have e3_ : vs0 3 = .slice p2 n2 c2 := hv 3 (by decide)
     have e4_ : vs0 4 = .int .i64 (n2 : Nat) := hv 4 (by decide)
     have e5_ : vs0 5 = .pointer (some ⟨s1, 0, none⟩) := hv 5 (by decide)
     have e6_ : vs0 6 = .pointer (some ⟨s1, 0, none⟩) := hv 6 (by decide)
     have e7_ : vs0 7 = .pointer (some ⟨s1, 2, none⟩) := hv 7 (by decide)
     have e8_ : vs0 8 = .slice p1 n1 c1 := hv 8 (by decide)
     have e9_ : vs0 9 = .int .i64 (n1 : Nat) := hv 9 (by decide)
     have e10_ : vs0 10 = .bool true := hv 10 (by decide)
     generalize hKK : Exit.then _ _ = KK
     simp only [putAll, e0_, e1_, e2_, e3_, e4_, e5_, e6_, e7_, e8_, e9_, e10_]
     clear hv e0_ e1_ e2_ e3_ e4_ e5_ e6_ e7_ e8_ e9_ e10_
     go_simp
     subst hKK
     obtain ⟨wz, hwz⟩ : ∃ wz, X0.setCell ⟨c9, 0, none⟩ (.pointer (some ⟨s1, 0, none⟩)) = wz := ⟨_, rfl⟩
     have sWZ : Same (fun _ => True) wr wz := by rw [← hwz]; exact sX0.trans (Same.setCell (K := fun b => b ≠ c9) _ _ _ fun h => h rfl) fun x hx _ => by omega
     have r9 : Row 119 wz c9 [.pointer (some ⟨s1, 0, none⟩)] := by rw [← hwz]; exact r9X.store 0 (.pointer (some ⟨s1, 0, none⟩))
     have k9 := r9X.cell 0
     have f9 := r9X.free 0
     simp only [List.getElem?_cons_zero] at k9
     go_wp2
     clear k9 f9
     have hwzs : B + 3 ≤ wz.heap.size := Nat.le_trans hszr sWZ.size
     have hz1 : SearchAt E N q s2 g m2 kb wz := HMI2.out.two.same sWZ trivial trivial fun _ _ _ => trivial
     have hz2 : SearchAt E N p s1 g m1 ka wz := HMI2.out.one.same sWZ trivial trivial fun _ _ _ => trivial
     have rres := sWZ.row HMI2.out.res trivial
     have rmeet := sWZ.row HMI2.out.meet trivial
     have rfnd := sWZ.row HMI2.out.fnd trivial
     have hfr : Same (fun b => b ≠ s1 ∧ b ≠ m1 ∧ b ≠ s2 ∧ b ≠ m2) w wz := HMI2.out.fr.trans sWZ fun _ _ _ => trivial
     have hmkz : Marks (B + 3) wz ds := HMK.out.same sWZ fun _ _ => trivial
     have hz1' := hz1
     obtain ⟨parX, nvX, y1, y2, y3, y4, y5, y6⟩ := hz1'
     have hnm := SearchAt.newest_ne (E := E) (sg := s2) (g := g) (m := m2) HQ0.out hN2 hN9 y5 HNE2.out rmeet
     have hnf : nvX.ownBlock ≠ some (B + 2) := fun e => by obtain ⟨_, _, ys, hr⟩ := y5.ob_lt _ e; exact absurd (hr.only ⟨_, rfnd⟩) (by decide)
     have hnl : ∀ b, nvX.ownBlock = some b → b < wz.heap.size := fun b hb => (y5.ob_lt b hb).1
     have HSQ := Lib.hid (HGR.out q s2 m2 kb wz HQ0.out hfr parX nvX y1 y2 y3 y4 y5 y6)
     have HZ1 := Lib.hid hz1
     have HZ2 := Lib.hid hz2
     have HRR := Lib.hid rres
     have HRM := Lib.hid rmeet
     have HRF := Lib.hid rfnd
     have HFRZ := Lib.hid hfr
     have HMKZ := Lib.hid hmkz
     have HNM := Lib.hid hnm
     have HNF := Lib.hid hnf
     have HNL := Lib.hid hnl
     have HR9 := Lib.hid r9
     clear hz1 hz2 rres rmeet rfnd hfr hmkz hnm hnf hnl r9 y1 y2 y3 y4 y5 y6 sWZ sX0 r9X
     try clear hwz
     refine wp_range_gen (α := List Int) (enc := encP) ?hg ?eg ?hps HSQ.out ?hRw ?hGR ?hS ?hSp
      (fun pre M W => (∀ b, M b ↔ b = B + 1 ∨ b = B + 2) ∧ Same (fun b => b ≠ s2 ∧ b ≠ m2) wz W ∧ (∀ x ∈ pre, x ∉ (lv E N p ka).1))
      (fun c xs M W => c = .exit 0 ∧ (∀ b, M b ↔ b = B + 1 ∨ b = B + 2) ∧ Same (fun b => b ≠ s2 ∧ b ≠ m2 ∧ b ≠ B + 1 ∧ b ≠ B + 2) wz W ∧ ∃ x, x ∈ xs ∧ x ∈ (lv E N p ka).1 ∧ Row 82 W (B + 1) (nineL (posF x x.length)) ∧ Row 4 W (B + 2) [.bool true])
      ?hI ?hIx (fun b => b = B + 1 ∨ b = B + 2) ?hM0 ?h0
      (fun x a' M2 W => ∃ bx, a' = { tmps := #[.pointer (some ⟨s1, 0, none⟩), .pointer (some ⟨s2, 0, none⟩), undef, undef, .pointer (some ⟨B, 0, none⟩), .bool false, .pointer (some ⟨B + 1, 0, none⟩), .pointer (some ⟨B + 2, 0, none⟩), .func (.func 88) #[.pointer (some ⟨s2, 0, none⟩)] #[], .pointer (some ⟨c9, 0, none⟩), .pointer (some ⟨bx, 0, none⟩), .pointer (some ⟨s1, 0, none⟩), .pointer (some ⟨s1, 0, none⟩), .pointer (some ⟨s1, 2, none⟩), .slice p1 n1 c1, .int .i64 (n1 : Nat), .bool true, .bool true, .pointer (some ⟨s2, 0, none⟩), .pointer (some ⟨s2, 0, none⟩), .pointer (some ⟨s2, 2, none⟩), .slice p2 n2 c2, .int .i64 (n2 : Nat), .bool true, .bool true, .pointer (some ⟨s1, 0, none⟩), .func (.func 88) #[.pointer (some ⟨s1, 0, none⟩)] #[], .pointer (some ⟨s2, 0, none⟩), .pointer (some ⟨s2, 0, none⟩), .pointer (some ⟨s2, 0, none⟩), .pointer (some ⟨s2, 2, none⟩), .slice p2 n2 c2, .int .i64 (n2 : Nat), .pointer (some ⟨s1, 0, none⟩), .pointer (some ⟨s1, 0, none⟩), .pointer (some ⟨s1, 2, none⟩), .slice p1 n1 c1, .int .i64 (n1 : Nat), .bool true, .pointer (some ⟨s2, 0, none⟩), .func (.func 88) #[.pointer (some ⟨s2, 0, none⟩)] #[], .pointer (some ⟨s1, 0, none⟩), .func (.func 88) #[.pointer (some ⟨s2, 0, none⟩)] #[], nineV (posF x x.length), undef, undef, undef, undef, undef, undef], defers := [] } ∧ Row 82 W bx (nineL (posF x x.length)) ∧ wz.heap.size ≤ bx ∧ ¬ M2 bx) ?hAx ?assign ?body ?done ?stop
     case hg => rfl
     case eg => exact enters_of Tryd.func88 (by kernel_rfl) rfl
     case hps => exact fun _ => rfl
     case hRw =>
      rintro b (rfl | rfl | rfl | rfl | h)
      ·omega
      ·omega
      ·omega
      ·omega
      ·exact HNL.out b h
     case hGR =>
      rintro b (rfl | rfl)
      ·exact .inl rfl
      ·exact .inr (.inl rfl)
     case hS =>
      rintro xs W r o o' hl _ ⟨h1, h2⟩
      exact ⟨h1, h2.put hl rfl (fun es c e => by cases e)⟩
     case hSp =>
      rintro xs W r o o' hl _ ⟨h1, par, nv, a, b, c, d⟩
      refine ⟨h1, par, nv, Row.put a r _ _ hl rfl, b.block (World.putObj_heap_other fun e => ?_), c, d⟩
      obtain ⟨D, ⟨es, clock, hh, _⟩, _⟩ := b
      rw [e, hl] at hh
      cases hh
     case hI =>
      refine ⟨?_, ?_⟩
      ·rintro pre M W ⟨hM, hsm, _⟩ b hb
       have := hsm.size
       rcases (hM b).1 hb with rfl | rfl <;> omega
      ·rintro pre M W W' ⟨hM, hsm, hpre⟩ hs5
       refine ⟨hM, hsm.trans hs5 (fun b hb hn => .inl ⟨hb, fun h => ?_⟩), hpre⟩
       rcases h with h | h
       ·exact hn.1 h
       ·exact hn.2 h
     case hIx =>
      refine fun c => ⟨?_, ?_⟩
      ·rintro pre M W ⟨_, hM, hsm, _⟩ b hb
       have := hsm.size
       rcases (hM b).1 hb with rfl | rfl <;> omega
      ·rintro pre M W W' ⟨hc, hM, hsm, x, h1, h2, h3, h4⟩ hs5
       refine ⟨hc, hM, hsm.trans hs5 (fun b hb hn => .inl ⟨hb, fun h => ?_⟩), x, h1, h2, hs5.row h3 (.inr ((hM _).2 (.inl rfl))), hs5.row h4 (.inr ((hM _).2 (.inr rfl)))⟩
       rcases h with h | h
       ·exact hn.1 h
       ·exact hn.2.1 h
     case hM0 =>
      rintro b (rfl | rfl)
      ·refine ⟨fun h => ?_, by omega⟩
       rcases h with h | h | h | h | h
       ·omega
       ·omega
       ·omega
       ·omega
       ·exact HNM.out h
      ·refine ⟨fun h => ?_, by omega⟩
       rcases h with h | h | h | h | h
       ·omega
       ·omega
       ·omega
       ·omega
       ·exact HNF.out h
     case h0 => exact ⟨fun b => Iff.rfl, Same.refl _ _, fun x hx => by cases hx⟩
     case hAx =>
      rintro x a' M2 W r o o' hl ⟨bx, rfl, hr, h1, h2⟩
      exact ⟨bx, rfl, hr.put r _ _ hl rfl, h1, h2⟩
     case assign =>
      rintro l' pre x M2 W K5 ⟨hM, hsm, hpre⟩ hK5
      obtain ⟨PX, hPX⟩ : ∃ PX, posF x x.length = PX := ⟨_, rfl⟩
      have hb2 := below_alloc_refl W (.cells (nineL PX).toArray 82)
      have HK5 : Hid (K5 { tmps := #[.pointer (some ⟨s1, 0, none⟩), .pointer (some ⟨s2, 0, none⟩), undef, undef, .pointer (some ⟨B, 0, none⟩), .bool false, .pointer (some ⟨B + 1, 0, none⟩), .pointer (some ⟨B + 2, 0, none⟩), .func (.func 88) #[.pointer (some ⟨s2, 0, none⟩)] #[], .pointer (some ⟨c9, 0, none⟩), .pointer (some ⟨W.heap.size, 0, none⟩), .pointer (some ⟨s1, 0, none⟩), .pointer (some ⟨s1, 0, none⟩), .pointer (some ⟨s1, 2, none⟩), .slice p1 n1 c1, .int .i64 (n1 : Nat), .bool true, .bool true, .pointer (some ⟨s2, 0, none⟩), .pointer (some ⟨s2, 0, none⟩), .pointer (some ⟨s2, 2, none⟩), .slice p2 n2 c2, .int .i64 (n2 : Nat), .bool true, .bool true, .pointer (some ⟨s1, 0, none⟩), .func (.func 88) #[.pointer (some ⟨s1, 0, none⟩)] #[], .pointer (some ⟨s2, 0, none⟩), .pointer (some ⟨s2, 0, none⟩), .pointer (some ⟨s2, 0, none⟩), .pointer (some ⟨s2, 2, none⟩), .slice p2 n2 c2, .int .i64 (n2 : Nat), .pointer (some ⟨s1, 0, none⟩), .pointer (some ⟨s1, 0, none⟩), .pointer (some ⟨s1, 2, none⟩), .slice p1 n1 c1, .int .i64 (n1 : Nat), .bool true, .pointer (some ⟨s2, 0, none⟩), .func (.func 88) #[.pointer (some ⟨s2, 0, none⟩)] #[], .pointer (some ⟨s1, 0, none⟩), .func (.func 88) #[.pointer (some ⟨s2, 0, none⟩)] #[], .agg #[.int .i8 (PX 0), .int .i8 (PX 1), .int .i8 (PX 2), .int .i8 (PX 3), .int .i8 (PX 4), .int .i8 (PX 5), .int .i8 (PX 6), .int .i8 (PX 7), .int .i8 (PX 8)], undef, undef, undef, undef, undef, undef], defers := [] } (W.alloc (.cells (nineL PX).toArray 82))) := by
       refine hK5 _ M2 _ ⟨Same.alloc _ _ _, fun b h => .inl h⟩ ⟨hM, hsm.trans (Same.of_below (K := fun _ => True) hb2 fun x hx _ => hx) fun _ _ _ => trivial, hpre⟩ ⟨W.heap.size, ?_, ?_, hsm.size, fun h => ?_⟩
       ·rw [hPX]; rfl
       ·rw [hPX]; exact row_new 82 W (nineL PX).toArray
       ·have := hsm.size
        rcases (hM _).1 h with h | h <;> omega
      clear hb2 hM hsm hpre hK5
      simp only [encP, nineV, hPX]
      gi_wp2
      exact HK5.out
     case body =>
      rintro l' pre x M2 a' W ⟨hM, hsm, hpre⟩ ⟨bx, rfl, rbx, hbx1, hbx2⟩ ⟨post, hpost⟩
      obtain ⟨PX, hPX⟩ : ∃ PX, posF x x.length = PX := ⟨_, rfl⟩
      rw [hPX] at rbx
      have hxP : PosP N x := lv_pos HQ0.out (kb + 1) x (lv_sub E N q (kb + 1) x (by rw [hpost]; simp))
      have hsY := SearchAt.stays HZ1.out HZ2.out (hs.symm) (hm.symm) hsm
      obtain ⟨parY, nvY, y1, y2, y3, _⟩ := hsY
      have HKN := knows_go N s1 g m1 nvY parY x W y1 y2 hN9 hxP
      rw [hPX] at HKN
      unfold nineV at HKN
      have HKN := Lib.hid HKN
      have HY3 := Lib.hid y3
      have rc9 := hsm.row HR9.out ⟨by omega, by omega⟩
      have rm := hsm.row HRM.out ⟨by omega, by omega⟩
      have rf := hsm.row HRF.out ⟨by omega, by omega⟩
      have HRMW := Lib.hid rm
      have HRFW := Lib.hid rf
      have HRBX := Lib.hid rbx
      have HMM := Lib.hid hM
      have HSM := Lib.hid hsm
      have HPRE := Lib.hid hpre
      have HPX := Lib.hid hPX
      have hWs := hsm.size
      have ks := rc9.cell 0
      simp only [List.getElem?_cons_zero] at ks
      obtain ⟨d0, d1, d2, d3, d4, d5, d6, d7, d8⟩ := nine_cells rbx
      clear hM hsm hpre hPX hxP y1 y2 y3 rc9 rm rf rbx hpost
      simp only [nineV, HPX.out]
      gi_wp2
      refine ⟨trivial, CallsIn.mono (((callsIn_wide (n := 3)).2 HKN.out).inRound l') ?_⟩
      rintro e w6 ⟨rfl, hb6⟩
      clear d0 d1 d2 d3 d4 d5 d6 d7 d8 ks
      have HB6 := Lib.hid hb6
      by_cases hold : x ∈ keysP parY
      ·have r6 := HRMW.out.below hb6 (by omega)
       have r7 := HRFW.out.below hb6 (by omega)
       obtain ⟨Y1, hY1⟩ : ∃ Y1, st9 w6 (B + 1) PX = Y1 := ⟨_, rfl⟩
       have s61 : Same (fun b => b ≠ B + 1) w6 Y1 := by rw [← hY1]; exact same_st9m PX
       have r61 : Row 82 Y1 (B + 1) (nineL PX) := by rw [← hY1]; exact row_st9 PX r6
       have r71 := s61.row r7 (by omega)
       have r72 := r71.store 0 (.bool true)
       obtain ⟨Y2, hY2⟩ : ∃ Y2, Y1.setCell ⟨B + 2, 0, none⟩ (.bool true) = Y2 := ⟨_, rfl⟩
       rw [hY2] at r72
       have s12 : Same (fun b => b ≠ B + 2) Y1 Y2 := by rw [← hY2]; exact Same.setCell _ _ _ fun h => h rfl
       have sW6 : Same (fun _ => True) W w6 := Same.of_below hb6 fun x hx _ => hx
       have sW2 : Same (fun b => b ≠ B + 1 ∧ b ≠ B + 2) W Y2 := ((sW6.mono (K' := fun b => b ≠ B + 1 ∧ b ≠ B + 2) fun _ _ _ => trivial).trans s61 fun _ _ h => h.1).trans s12 fun _ _ h => h.2
       have FINB : Hid (∃ M3, Bd M2 M3 W Y2 ∧ (∀ b, M3 b ↔ b = B + 1 ∨ b = B + 2) ∧ Same (fun b => b ≠ s2 ∧ b ≠ m2 ∧ b ≠ B + 1 ∧ b ≠ B + 2) wz Y2 ∧ ∃ x', x' ∈ (pre ++ [x]) ∧ x' ∈ (lv E N p ka).1 ∧ Row 82 Y2 (B + 1) (nineL (posF x' x'.length)) ∧ Row 4 Y2 (B + 2) [.bool true]) := by
        refine ⟨M2, ⟨sW2.mono fun b _ hb => ⟨fun e => hb ((HMM.out b).2 (.inl e)), fun e => hb ((HMM.out b).2 (.inr e))⟩, fun b h => .inl h⟩, HMM.out, (HSM.out.mono fun b _ hb => ⟨hb.1, hb.2.1⟩).trans sW2 fun b _ hb => ⟨hb.2.2.1, hb.2.2.2⟩, x, by simp, by rw [← HY3.out]; exact hold, ?_, r72⟩
        rw [HPX.out]; exact s12.row r61 (by omega)
       have k7 := r71.cell 0
       have f7 := r71.free 0
       simp only [List.getElem?_cons_zero] at k7
       have HR6 := Lib.hid r6
       have HY1 := Lib.hid hY1
       have HY2 := Lib.hid hY2
       obtain ⟨d0, d1, d2, d3, d4, d5, d6, d7, d8⟩ := nine_cells (HRBX.out.below hb6 HRBX.out.lt)
       rw [decide_eq_true hold]
       clear hold r6 r7 s61 r61 r71 r72 hY1 hY2 s12 sW6 sW2 hb6
       gi_wp2_with (first | (refine wpListIn_skip (fun _ => trivial) rfl (by intro c h; cases h) Y1 ((exec_store9 (G := PX) HR6.out rfl rfl rfl).trans (by rw [HY1.out])) ?_))
       rw [HY2.out]
       obtain ⟨M3, f1, f2, f3, f4⟩ := FINB.out
       exact ⟨M3, f1, rfl, f2, f3, f4⟩
      ·have FINB : Hid (∃ M3, Bd M2 M3 W w6 ∧ (∀ b, M3 b ↔ b = B + 1 ∨ b = B + 2) ∧ Same (fun b => b ≠ s2 ∧ b ≠ m2) wz w6 ∧ (∀ x' ∈ pre ++ [x], x' ∉ (lv E N p ka).1)) := by
        refine ⟨M2, ⟨Same.of_below hb6 fun x hx _ => hx, fun b h => .inl h⟩, HMM.out, HSM.out.trans (Same.of_below (K := fun _ => True) hb6 fun x hx _ => hx) fun _ _ _ => trivial, fun x' hx' => ?_⟩
        rcases List.mem_append.1 hx' with h | h
        ·exact HPRE.out x' h
        ·rw [List.mem_singleton.1 h, ← HY3.out]; exact hold
       rw [decide_eq_false hold]
       clear hold hb6
       gi_wp2
       exact FINB.out
     case done =>
      rintro D xs M2 W5 hD hnD ⟨rfl, hsa⟩ ⟨hM, hsm, hpre⟩ hK5
      have htl : (lv E N q (kb + 1)).1 = (lv E N q kb).1 ++ (lv E N q (kb + 1)).2 := lvl_tail _ q kb
      have hsY := SearchAt.stays HZ1.out HZ2.out (hs.symm) (hm.symm) hsm
      have HMI5 : Hid (MI E N p q B s1 m1 s2 m2 g w ka (kb + 1) W5) := by
       refine ⟨hsY, hsa, fun x hx hx' => ?_, hsm.row HRR.out ⟨by omega, by omega⟩, hsm.row HRM.out ⟨by omega, by omega⟩, hsm.row HRF.out ⟨by omega, by omega⟩, HFRZ.out.trans hsm fun b _ hb => ⟨hb.2.2.1, hb.2.2.2⟩⟩
       rw [htl] at hx'
       rcases List.mem_append.1 hx' with h | h
       ·exact HMI2.out.dis x hx h
       ·exact hpre x h hx
      have HMK5 := Lib.hid (HMKZ.out.cons (HMKZ.out.same hsm fun D' h => by have := HMKZ.out.ge _ h; omega) hD hwzs hK5)
      clear htl hsY hsa hM hsm hpre hK5 hnD
      go_wp2
      exact HKK.out W5 ka (kb + 1) _ _ _ _ _ _ _ _ _ _ _ _ _ _ _ _ _ _ _ _ _ _ _ _ _ _ _ _ _ _ _ _ _ _ _ HMI5.out HMK5.out (by omega) (by omega) (by omega)
     case stop =>
      rintro D c xs M2 W5 hD hnD ⟨hpre2, hmid⟩ ⟨rfl, hM, hsm, x, hx, hxY, hr6, hr7⟩ hK5
      have hxD : DistIs E N q (kb + 1) x := lv_dist.1 (hpre2.subset hx)
      have hxP : PosP N x := lv_pos HQ0.out (kb + 1) x (lv_sub E N q (kb + 1) x (hpre2.subset hx))
      have hmd := (HD2.out (by omega) ka kb HMI2.out.dis).2 x hxD hxY
      have hnsY := (HZ2.out.apart1 HZ1.out)
      have hnmY := (HZ1.out.apart1 HZ2.out)
      have hKY : Knows E N p s1 g m1 ka x W5 := (HZ2.out.knows hxY hmd.1).same hsm ⟨Ne.symm (hs.symm), hnsY, by omega, by omega⟩ ⟨hnmY.symm, Ne.symm (hm.symm), by omega, by omega⟩
      have hKX : Knows E N q s2 g m2 (kb + 1) x W5 := hmid.knows hx hxD
      have HME5 : Hid (MetE E N p q s1 m1 s2 m2 g w (posF x x.length) true W5) :=
       ⟨HFRZ.out.trans hsm fun b hb hn => ⟨hn.2.2.1, hn.2.2.2, by omega, by omega⟩, .inl ⟨rfl, x, ka, kb + 1, rfl, hxP, hKY, hKX, by rw [show ka + (kb + 1) = kb + 1 + ka by omega]; exact hmd.2.symm HQ0.out (by omega)⟩⟩
      have HR65 := Lib.hid hr6
      have HR75 := Lib.hid hr7
      have HRB5 := Lib.hid (hsm.row HRR.out ⟨by omega, by omega, by omega, by omega⟩)
      have HMK5 := Lib.hid (HMKZ.out.cons (HMKZ.out.same hsm fun D' h => by have := HMKZ.out.ge _ h; omega) hD hwzs hK5)
      clear hxD hxP hmd hKY hKX hr6 hr7 hsm hM hmid hpre2 hK5 hnD hx hxY
      go_wp2
      exact FINW.out _ (posF x x.length) true W5 _ _ _ _ _ _ _ _ _ _ _ _ _ _ _ _ _ _ _ _ _ _ _ _ _ _ _ _ _ _ _ _ _ _ HRB5.out HR65.out HR75.out HMK5.out HME5.out
   ·have i3 : ¬ (n2 : Int) < (n1 : Int) := by omega
    obtain ⟨c9, hc9⟩ : ∃ c9, wr.heap.size = c9 := ⟨_, rfl⟩
    have r9A := row_new 119 wr #[.pointer (some ⟨s2, 0, none⟩)]
    have b9A := below_alloc_refl wr (.cells #[.pointer (some ⟨s2, 0, none⟩)] 119)
    obtain ⟨WA, hWA⟩ : ∃ WA, wr.alloc (.cells #[.pointer (some ⟨s2, 0, none⟩)] 119) = WA := ⟨_, rfl⟩
    rw [hWA] at r9A b9A
    rw [hc9] at r9A
    obtain ⟨X0, hX0⟩ : ∃ X0 : World, WA.drew = X0 := ⟨_, rfl⟩
    have sX0 : Same (fun _ => True) wr X0 := by rw [← hX0]; exact (Same.of_below (K := fun _ => True) b9A fun x hx _ => hx).trans (Same.drew (fun _ => True) _) fun _ _ _ => trivial
    have r9X : Row 119 X0 c9 [.pointer (some ⟨s2, 0, none⟩)] := by rw [← hX0]; exact (Same.drew (fun _ => True) WA).row r9A trivial
    have HK1 : Hid (X0.cell? ⟨s1, 2, none⟩ = some (.slice p1 n1 c1)) := (World.cell?_of_block (a := ⟨s1, 2, none⟩) (sX0.block s1 (by omega) trivial)).trans k1
    have HK2 : Hid (X0.cell? ⟨s2, 2, none⟩ = some (.slice p2 n2 c2)) := (World.cell?_of_block (a := ⟨s2, 2, none⟩) (sX0.block s2 (by omega) trivial)).trans k2
    have HX0 := Lib.hid hX0
    clear hX0 r9A b9A
    go_wp2
    clear k1 k2 hWA
    refine wp_region_det (by kernel_rfl) 50 rfl (by kernel_rfl) [] (by kernel_rfl) (by decide) (fun j => match j with | 0 => .pointer (some ⟨s2, 0, none⟩) | 1 => .pointer (some ⟨s2, 0, none⟩) | 2 => .pointer (some ⟨s2, 2, none⟩) | 3 => .slice p2 n2 c2 | 4 => .int .i64 (n2 : Nat) | 5 => .pointer (some ⟨s1, 0, none⟩) | 6 => .pointer (some ⟨s1, 0, none⟩) | 7 => .pointer (some ⟨s1, 2, none⟩) | 8 => .slice p1 n1 c1 | 9 => .int .i64 (n1 : Nat) | 10 => .bool false | _ => undef) (fun s => match s with  | _ => X0) HX0.out.symm ?hop ?hQ
    case hop =>
     intro i o hi s hs hok vs0 hv
     have hi' : i < 11 := (List.getElem?_eq_some_iff.1 hi).1
     have hs' : s ≤ 0 := hs
     have hs3 : s = 0 := by clear hok hv hi hs; omega
     have hi3 : i = 0 ∨ i = 1 ∨ i = 2 ∨ i = 3 ∨ i = 4 ∨ i = 5 ∨ i = 6 ∨ i = 7 ∨ i = 8 ∨ i = 9 ∨ i = 10 := by clear hok hv hi hs hs3; omega
     clear hs hs' hi'
     rcases hi3 with rfl | rfl | rfl | rfl | rfl | rfl | rfl | rfl | rfl | rfl | rfl
     ·cases hi
      generalize hG : relUpon _ _ _ = G9
      clear hv
      refine ⟨rfl, ?_⟩
      rcases hs3 with rfl
      ·first
        | (clear hok; subst hG; generalize hR : (fun (u : Value) (w2 : World) => u = _ ∧ w2 = _) = R; simp only [List.take_succ_cons, List.take_zero, putAll]; go_simp; subst hR; exact ⟨rfl, rfl⟩)
     ·cases hi
      generalize hG : relUpon _ _ _ = G9
      have q0_ : vs0 0 = .pointer (some ⟨s2, 0, none⟩) := hv 0 (by decide +kernel)
      clear hv
      refine ⟨rfl, ?_⟩
      rcases hs3 with rfl
      ·first
        | (clear hok; subst hG; generalize hR : (fun (u : Value) (w2 : World) => u = _ ∧ w2 = _) = R; simp only [List.take_succ_cons, List.take_zero, putAll]; go_simp; subst hR; exact ⟨rfl, rfl⟩)
     ·cases hi
      generalize hG : relUpon _ _ _ = G9
      have q1_ : vs0 1 = .pointer (some ⟨s2, 0, none⟩) := hv 1 (by decide +kernel)
      clear hv
      refine ⟨rfl, ?_⟩
      rcases hs3 with rfl
      ·first
        | (clear hok; subst hG; generalize hR : (fun (u : Value) (w2 : World) => u = _ ∧ w2 = _) = R; simp only [List.take_succ_cons, List.take_zero, putAll]; go_simp; subst hR; exact ⟨rfl, rfl⟩)
     ·cases hi
      generalize hG : relUpon _ _ _ = G9
      have q2_ : vs0 2 = .pointer (some ⟨s2, 2, none⟩) := hv 2 (by decide +kernel)
      clear hv
      refine ⟨rfl, ?_⟩
      rcases hs3 with rfl
      ·first
        | (clear hok; subst hG; generalize hR : (fun (u : Value) (w2 : World) => u = _ ∧ w2 = _) = R; simp only [List.take_succ_cons, List.take_zero, putAll]; have k := HK2.out; go_simp; subst hR; exact ⟨rfl, rfl⟩)
     ·cases hi
      generalize hG : relUpon _ _ _ = G9
      have q3_ : vs0 3 = .slice p2 n2 c2 := hv 3 (by decide +kernel)
      clear hv
      refine ⟨rfl, ?_⟩
      rcases hs3 with rfl
      ·first
        | (clear hok; subst hG; generalize hR : (fun (u : Value) (w2 : World) => u = _ ∧ w2 = _) = R; simp only [List.take_succ_cons, List.take_zero, putAll]; go_simp; subst hR; exact ⟨rfl, rfl⟩)
     ·cases hi
      generalize hG : relUpon _ _ _ = G9
      clear hv
      refine ⟨rfl, ?_⟩
      rcases hs3 with rfl
      ·first
        | (clear hok; subst hG; generalize hR : (fun (u : Value) (w2 : World) => u = _ ∧ w2 = _) = R; simp only [List.take_succ_cons, List.take_zero, putAll]; go_simp; subst hR; exact ⟨rfl, rfl⟩)
     ·cases hi
      generalize hG : relUpon _ _ _ = G9
      have q5_ : vs0 5 = .pointer (some ⟨s1, 0, none⟩) := hv 5 (by decide +kernel)
      clear hv
      refine ⟨rfl, ?_⟩
      rcases hs3 with rfl
      ·first
        | (clear hok; subst hG; generalize hR : (fun (u : Value) (w2 : World) => u = _ ∧ w2 = _) = R; simp only [List.take_succ_cons, List.take_zero, putAll]; go_simp; subst hR; exact ⟨rfl, rfl⟩)
     ·cases hi
      generalize hG : relUpon _ _ _ = G9
      have q6_ : vs0 6 = .pointer (some ⟨s1, 0, none⟩) := hv 6 (by decide +kernel)
      clear hv
      refine ⟨rfl, ?_⟩
      rcases hs3 with rfl
      ·first
        | (clear hok; subst hG; generalize hR : (fun (u : Value) (w2 : World) => u = _ ∧ w2 = _) = R; simp only [List.take_succ_cons, List.take_zero, putAll]; go_simp; subst hR; exact ⟨rfl, rfl⟩)
     ·cases hi
      generalize hG : relUpon _ _ _ = G9
      have q7_ : vs0 7 = .pointer (some ⟨s1, 2, none⟩) := hv 7 (by decide +kernel)
      clear hv
      refine ⟨rfl, ?_⟩
      rcases hs3 with rfl
      ·first
        | (clear hok; subst hG; generalize hR : (fun (u : Value) (w2 : World) => u = _ ∧ w2 = _) = R; simp only [List.take_succ_cons, List.take_zero, putAll]; have k := HK1.out; go_simp; subst hR; exact ⟨rfl, rfl⟩)
     ·cases hi
      generalize hG : relUpon _ _ _ = G9
      have q8_ : vs0 8 = .slice p1 n1 c1 := hv 8 (by decide +kernel)
      clear hv
      refine ⟨rfl, ?_⟩
      rcases hs3 with rfl
      ·first
        | (clear hok; subst hG; generalize hR : (fun (u : Value) (w2 : World) => u = _ ∧ w2 = _) = R; simp only [List.take_succ_cons, List.take_zero, putAll]; go_simp; subst hR; exact ⟨rfl, rfl⟩)
     ·cases hi
      generalize hG : relUpon _ _ _ = G9
      have q4_ : vs0 4 = .int .i64 (n2 : Nat) := hv 4 (by decide +kernel)
      have q9_ : vs0 9 = .int .i64 (n1 : Nat) := hv 9 (by decide +kernel)
      clear hv
      refine ⟨rfl, ?_⟩
      rcases hs3 with rfl
      ·first
        | (clear hok; subst hG; generalize hR : (fun (u : Value) (w2 : World) => u = _ ∧ w2 = _) = R; simp only [List.take_succ_cons, List.take_zero, putAll]; go_simp; subst hR; exact ⟨rfl, rfl⟩)
    case hQ =>
     intro vs0 hv
     have e0_ : vs0 0 = .pointer (some ⟨s2, 0, none⟩) := hv 0 (by decide)
     have e1_ : vs0 1 = .pointer (some ⟨s2, 0, none⟩) := hv 1 (by decide)
     have e2_ : vs0 2 = .pointer (some ⟨s2, 2, none⟩) := hv 2 (by decide)
     have e3_ : vs0 3 = .slice p2 n2 c2 := hv 3 (by decide)
     have e4_ : vs0 4 = .int .i64 (n2 : Nat) := hv 4 (by decide)
     have e5_ : vs0 5 = .pointer (some ⟨s1, 0, none⟩) := hv 5 (by decide)
     have e6_ : vs0 6 = .pointer (some ⟨s1, 0, none⟩) := hv 6 (by decide)
     have e7_ : vs0 7 = .pointer (some ⟨s1, 2, none⟩) := hv 7 (by decide)
     have e8_ : vs0 8 = .slice p1 n1 c1 := hv 8 (by decide)
     have e9_ : vs0 9 = .int .i64 (n1 : Nat) := hv 9 (by decide)
     have e10_ : vs0 10 = .bool false := hv 10 (by decide)
     generalize hKK : Exit.then _ _ = KK
     simp only [putAll, e0_, e1_, e2_, e3_, e4_, e5_, e6_, e7_, e8_, e9_, e10_]
     clear hv e0_ e1_ e2_ e3_ e4_ e5_ e6_ e7_ e8_ e9_ e10_
     go_simp
     subst hKK
     have sWZ := sX0
     have r9 := r9X
     go_wp2
     have hX0s : B + 3 ≤ X0.heap.size := Nat.le_trans hszr sWZ.size
     have hz1 : SearchAt E N p s1 g m1 ka X0 := HMI2.out.one.same sWZ trivial trivial fun _ _ _ => trivial
     have hz2 : SearchAt E N q s2 g m2 kb X0 := HMI2.out.two.same sWZ trivial trivial fun _ _ _ => trivial
     have rres := sWZ.row HMI2.out.res trivial
     have rmeet := sWZ.row HMI2.out.meet trivial
     have rfnd := sWZ.row HMI2.out.fnd trivial
     have hfr : Same (fun b => b ≠ s1 ∧ b ≠ m1 ∧ b ≠ s2 ∧ b ≠ m2) w X0 := HMI2.out.fr.trans sWZ fun _ _ _ => trivial
     have hmkz : Marks (B + 3) X0 ds := HMK.out.same sWZ fun _ _ => trivial
     have hz1' := hz1
     obtain ⟨parX, nvX, y1, y2, y3, y4, y5, y6⟩ := hz1'
     have hnm := SearchAt.newest_ne (E := E) (sg := s1) (g := g) (m := m1) HP.out hN2 hN9 y5 HNE1.out rmeet
     have hnf : nvX.ownBlock ≠ some (B + 2) := fun e => by obtain ⟨_, _, ys, hr⟩ := y5.ob_lt _ e; exact absurd (hr.only ⟨_, rfnd⟩) (by decide)
     have hnl : ∀ b, nvX.ownBlock = some b → b < X0.heap.size := fun b hb => (y5.ob_lt b hb).1
     have HSQ := Lib.hid (HGR.out p s1 m1 ka X0 HP.out hfr parX nvX y1 y2 y3 y4 y5 y6)
     have HZ1 := Lib.hid hz1
     have HZ2 := Lib.hid hz2
     have HRR := Lib.hid rres
     have HRM := Lib.hid rmeet
     have HRF := Lib.hid rfnd
     have HFRZ := Lib.hid hfr
     have HMKZ := Lib.hid hmkz
     have HNM := Lib.hid hnm
     have HNF := Lib.hid hnf
     have HNL := Lib.hid hnl
     have HR9 := Lib.hid r9
     clear hz1 hz2 rres rmeet rfnd hfr hmkz hnm hnf hnl r9 y1 y2 y3 y4 y5 y6 sWZ sX0 r9X
     try clear hX0
     refine wp_range_gen (α := List Int) (enc := encP) ?hg ?eg ?hps HSQ.out ?hRw ?hGR ?hS ?hSp
      (fun pre M W => (∀ b, M b ↔ b = B + 1 ∨ b = B + 2) ∧ Same (fun b => b ≠ s1 ∧ b ≠ m1) X0 W ∧ (∀ x ∈ pre, x ∉ (lv E N q kb).1))
      (fun c xs M W => c = .exit 0 ∧ (∀ b, M b ↔ b = B + 1 ∨ b = B + 2) ∧ Same (fun b => b ≠ s1 ∧ b ≠ m1 ∧ b ≠ B + 1 ∧ b ≠ B + 2) X0 W ∧ ∃ x, x ∈ xs ∧ x ∈ (lv E N q kb).1 ∧ Row 82 W (B + 1) (nineL (posF x x.length)) ∧ Row 4 W (B + 2) [.bool true])
      ?hI ?hIx (fun b => b = B + 1 ∨ b = B + 2) ?hM0 ?h0
      (fun x a' M2 W => ∃ bx, a' = { tmps := #[.pointer (some ⟨s1, 0, none⟩), .pointer (some ⟨s2, 0, none⟩), undef, undef, .pointer (some ⟨B, 0, none⟩), .bool false, .pointer (some ⟨B + 1, 0, none⟩), .pointer (some ⟨B + 2, 0, none⟩), .func (.func 88) #[.pointer (some ⟨s1, 0, none⟩)] #[], .pointer (some ⟨c9, 0, none⟩), .pointer (some ⟨bx, 0, none⟩), .pointer (some ⟨s1, 0, none⟩), .pointer (some ⟨s1, 0, none⟩), .pointer (some ⟨s1, 2, none⟩), .slice p1 n1 c1, .int .i64 (n1 : Nat), .bool true, .bool true, .pointer (some ⟨s2, 0, none⟩), .pointer (some ⟨s2, 0, none⟩), .pointer (some ⟨s2, 2, none⟩), .slice p2 n2 c2, .int .i64 (n2 : Nat), .bool true, .bool true, .pointer (some ⟨s1, 0, none⟩), .func (.func 88) #[.pointer (some ⟨s1, 0, none⟩)] #[], .pointer (some ⟨s2, 0, none⟩), .pointer (some ⟨s2, 0, none⟩), .pointer (some ⟨s2, 0, none⟩), .pointer (some ⟨s2, 2, none⟩), .slice p2 n2 c2, .int .i64 (n2 : Nat), .pointer (some ⟨s1, 0, none⟩), .pointer (some ⟨s1, 0, none⟩), .pointer (some ⟨s1, 2, none⟩), .slice p1 n1 c1, .int .i64 (n1 : Nat), .bool false, x39, x40, x41, .func (.func 88) #[.pointer (some ⟨s1, 0, none⟩)] #[], nineV (posF x x.length), undef, undef, undef, undef, undef, undef], defers := [] } ∧ Row 82 W bx (nineL (posF x x.length)) ∧ X0.heap.size ≤ bx ∧ ¬ M2 bx) ?hAx ?assign ?body ?done ?stop
     case hg => rfl
     case eg => exact enters_of Tryd.func88 (by kernel_rfl) rfl
     case hps => exact fun _ => rfl
     case hRw =>
      rintro b (rfl | rfl | rfl | rfl | h)
      ·omega
      ·omega
      ·omega
      ·omega
      ·exact HNL.out b h
     case hGR =>
      rintro b (rfl | rfl)
      ·exact .inl rfl
      ·exact .inr (.inl rfl)
     case hS =>
      rintro xs W r o o' hl _ ⟨h1, h2⟩
      exact ⟨h1, h2.put hl rfl (fun es c e => by cases e)⟩
     case hSp =>
      rintro xs W r o o' hl _ ⟨h1, par, nv, a, b, c, d⟩
      refine ⟨h1, par, nv, Row.put a r _ _ hl rfl, b.block (World.putObj_heap_other fun e => ?_), c, d⟩
      obtain ⟨D, ⟨es, clock, hh, _⟩, _⟩ := b
      rw [e, hl] at hh
      cases hh
     case hI =>
      refine ⟨?_, ?_⟩
      ·rintro pre M W ⟨hM, hsm, _⟩ b hb
       have := hsm.size
       rcases (hM b).1 hb with rfl | rfl <;> omega
      ·rintro pre M W W' ⟨hM, hsm, hpre⟩ hs5
       refine ⟨hM, hsm.trans hs5 (fun b hb hn => .inl ⟨hb, fun h => ?_⟩), hpre⟩
       rcases h with h | h
       ·exact hn.1 h
       ·exact hn.2 h
     case hIx =>
      refine fun c => ⟨?_, ?_⟩
      ·rintro pre M W ⟨_, hM, hsm, _⟩ b hb
       have := hsm.size
       rcases (hM b).1 hb with rfl | rfl <;> omega
      ·rintro pre M W W' ⟨hc, hM, hsm, x, h1, h2, h3, h4⟩ hs5
       refine ⟨hc, hM, hsm.trans hs5 (fun b hb hn => .inl ⟨hb, fun h => ?_⟩), x, h1, h2, hs5.row h3 (.inr ((hM _).2 (.inl rfl))), hs5.row h4 (.inr ((hM _).2 (.inr rfl)))⟩
       rcases h with h | h
       ·exact hn.1 h
       ·exact hn.2.1 h
     case hM0 =>
      rintro b (rfl | rfl)
      ·refine ⟨fun h => ?_, by omega⟩
       rcases h with h | h | h | h | h
       ·omega
       ·omega
       ·omega
       ·omega
       ·exact HNM.out h
      ·refine ⟨fun h => ?_, by omega⟩
       rcases h with h | h | h | h | h
       ·omega
       ·omega
       ·omega
       ·omega
       ·exact HNF.out h
     case h0 => exact ⟨fun b => Iff.rfl, Same.refl _ _, fun x hx => by cases hx⟩
     case hAx =>
      rintro x a' M2 W r o o' hl ⟨bx, rfl, hr, h1, h2⟩
      exact ⟨bx, rfl, hr.put r _ _ hl rfl, h1, h2⟩
     case assign =>
      rintro l' pre x M2 W K5 ⟨hM, hsm, hpre⟩ hK5
      obtain ⟨PX, hPX⟩ : ∃ PX, posF x x.length = PX := ⟨_, rfl⟩
      have hb2 := below_alloc_refl W (.cells (nineL PX).toArray 82)
      have HK5 : Hid (K5 { tmps := #[.pointer (some ⟨s1, 0, none⟩), .pointer (some ⟨s2, 0, none⟩), undef, undef, .pointer (some ⟨B, 0, none⟩), .bool false, .pointer (some ⟨B + 1, 0, none⟩), .pointer (some ⟨B + 2, 0, none⟩), .func (.func 88) #[.pointer (some ⟨s1, 0, none⟩)] #[], .pointer (some ⟨c9, 0, none⟩), .pointer (some ⟨W.heap.size, 0, none⟩), .pointer (some ⟨s1, 0, none⟩), .pointer (some ⟨s1, 0, none⟩), .pointer (some ⟨s1, 2, none⟩), .slice p1 n1 c1, .int .i64 (n1 : Nat), .bool true, .bool true, .pointer (some ⟨s2, 0, none⟩), .pointer (some ⟨s2, 0, none⟩), .pointer (some ⟨s2, 2, none⟩), .slice p2 n2 c2, .int .i64 (n2 : Nat), .bool true, .bool true, .pointer (some ⟨s1, 0, none⟩), .func (.func 88) #[.pointer (some ⟨s1, 0, none⟩)] #[], .pointer (some ⟨s2, 0, none⟩), .pointer (some ⟨s2, 0, none⟩), .pointer (some ⟨s2, 0, none⟩), .pointer (some ⟨s2, 2, none⟩), .slice p2 n2 c2, .int .i64 (n2 : Nat), .pointer (some ⟨s1, 0, none⟩), .pointer (some ⟨s1, 0, none⟩), .pointer (some ⟨s1, 2, none⟩), .slice p1 n1 c1, .int .i64 (n1 : Nat), .bool false, x39, x40, x41, .func (.func 88) #[.pointer (some ⟨s1, 0, none⟩)] #[], .agg #[.int .i8 (PX 0), .int .i8 (PX 1), .int .i8 (PX 2), .int .i8 (PX 3), .int .i8 (PX 4), .int .i8 (PX 5), .int .i8 (PX 6), .int .i8 (PX 7), .int .i8 (PX 8)], undef, undef, undef, undef, undef, undef], defers := [] } (W.alloc (.cells (nineL PX).toArray 82))) := by
       refine hK5 _ M2 _ ⟨Same.alloc _ _ _, fun b h => .inl h⟩ ⟨hM, hsm.trans (Same.of_below (K := fun _ => True) hb2 fun x hx _ => hx) fun _ _ _ => trivial, hpre⟩ ⟨W.heap.size, ?_, ?_, hsm.size, fun h => ?_⟩
       ·rw [hPX]; rfl
       ·rw [hPX]; exact row_new 82 W (nineL PX).toArray
       ·have := hsm.size
        rcases (hM _).1 h with h | h <;> omega
      clear hb2 hM hsm hpre hK5
      simp only [encP, nineV, hPX]
      gi_wp2
      exact HK5.out
     case body =>
      rintro l' pre x M2 a' W ⟨hM, hsm, hpre⟩ ⟨bx, rfl, rbx, hbx1, hbx2⟩ ⟨post, hpost⟩
      obtain ⟨PX, hPX⟩ : ∃ PX, posF x x.length = PX := ⟨_, rfl⟩
      rw [hPX] at rbx
      have hxP : PosP N x := lv_pos HP.out (ka + 1) x (lv_sub E N p (ka + 1) x (by rw [hpost]; simp))
      have hsY := SearchAt.stays HZ1.out HZ2.out (hs) (hm) hsm
      obtain ⟨parY, nvY, y1, y2, y3, _⟩ := hsY
      have HKN := knows_go N s2 g m2 nvY parY x W y1 y2 hN9 hxP
      rw [hPX] at HKN
      unfold nineV at HKN
      have HKN := Lib.hid HKN
      have HY3 := Lib.hid y3
      have rc9 := hsm.row HR9.out ⟨by omega, by omega⟩
      have rm := hsm.row HRM.out ⟨by omega, by omega⟩
      have rf := hsm.row HRF.out ⟨by omega, by omega⟩
      have HRMW := Lib.hid rm
      have HRFW := Lib.hid rf
      have HRBX := Lib.hid rbx
      have HMM := Lib.hid hM
      have HSM := Lib.hid hsm
      have HPRE := Lib.hid hpre
      have HPX := Lib.hid hPX
      have hWs := hsm.size
      have ks := rc9.cell 0
      simp only [List.getElem?_cons_zero] at ks
      obtain ⟨d0, d1, d2, d3, d4, d5, d6, d7, d8⟩ := nine_cells rbx
      clear hM hsm hpre hPX hxP y1 y2 y3 rc9 rm rf rbx hpost
      simp only [nineV, HPX.out]
      gi_wp2
      refine ⟨trivial, CallsIn.mono (((callsIn_wide (n := 3)).2 HKN.out).inRound l') ?_⟩
      rintro e w6 ⟨rfl, hb6⟩
      clear d0 d1 d2 d3 d4 d5 d6 d7 d8 ks
      have HB6 := Lib.hid hb6
      by_cases hold : x ∈ keysP parY
      ·have r6 := HRMW.out.below hb6 (by omega)
       have r7 := HRFW.out.below hb6 (by omega)
       obtain ⟨Y1, hY1⟩ : ∃ Y1, st9 w6 (B + 1) PX = Y1 := ⟨_, rfl⟩
       have s61 : Same (fun b => b ≠ B + 1) w6 Y1 := by rw [← hY1]; exact same_st9m PX
       have r61 : Row 82 Y1 (B + 1) (nineL PX) := by rw [← hY1]; exact row_st9 PX r6
       have r71 := s61.row r7 (by omega)
       have r72 := r71.store 0 (.bool true)
       obtain ⟨Y2, hY2⟩ : ∃ Y2, Y1.setCell ⟨B + 2, 0, none⟩ (.bool true) = Y2 := ⟨_, rfl⟩
       rw [hY2] at r72
       have s12 : Same (fun b => b ≠ B + 2) Y1 Y2 := by rw [← hY2]; exact Same.setCell _ _ _ fun h => h rfl
       have sW6 : Same (fun _ => True) W w6 := Same.of_below hb6 fun x hx _ => hx
       have sW2 : Same (fun b => b ≠ B + 1 ∧ b ≠ B + 2) W Y2 := ((sW6.mono (K' := fun b => b ≠ B + 1 ∧ b ≠ B + 2) fun _ _ _ => trivial).trans s61 fun _ _ h => h.1).trans s12 fun _ _ h => h.2
       have FINB : Hid (∃ M3, Bd M2 M3 W Y2 ∧ (∀ b, M3 b ↔ b = B + 1 ∨ b = B + 2) ∧ Same (fun b => b ≠ s1 ∧ b ≠ m1 ∧ b ≠ B + 1 ∧ b ≠ B + 2) X0 Y2 ∧ ∃ x', x' ∈ (pre ++ [x]) ∧ x' ∈ (lv E N q kb).1 ∧ Row 82 Y2 (B + 1) (nineL (posF x' x'.length)) ∧ Row 4 Y2 (B + 2) [.bool true]) := by
        refine ⟨M2, ⟨sW2.mono fun b _ hb => ⟨fun e => hb ((HMM.out b).2 (.inl e)), fun e => hb ((HMM.out b).2 (.inr e))⟩, fun b h => .inl h⟩, HMM.out, (HSM.out.mono fun b _ hb => ⟨hb.1, hb.2.1⟩).trans sW2 fun b _ hb => ⟨hb.2.2.1, hb.2.2.2⟩, x, by simp, by rw [← HY3.out]; exact hold, ?_, r72⟩
        rw [HPX.out]; exact s12.row r61 (by omega)
       have k7 := r71.cell 0
       have f7 := r71.free 0
       simp only [List.getElem?_cons_zero] at k7
       have HR6 := Lib.hid r6
       have HY1 := Lib.hid hY1
       have HY2 := Lib.hid hY2
       obtain ⟨d0, d1, d2, d3, d4, d5, d6, d7, d8⟩ := nine_cells (HRBX.out.below hb6 HRBX.out.lt)
       rw [decide_eq_true hold]
       clear hold r6 r7 s61 r61 r71 r72 hY1 hY2 s12 sW6 sW2 hb6
       gi_wp2_with (first | (refine wpListIn_skip (fun _ => trivial) rfl (by intro c h; cases h) Y1 ((exec_store9 (G := PX) HR6.out rfl rfl rfl).trans (by rw [HY1.out])) ?_))
       rw [HY2.out]
       obtain ⟨M3, f1, f2, f3, f4⟩ := FINB.out
       exact ⟨M3, f1, rfl, f2, f3, f4⟩
      ·have FINB : Hid (∃ M3, Bd M2 M3 W w6 ∧ (∀ b, M3 b ↔ b = B + 1 ∨ b = B + 2) ∧ Same (fun b => b ≠ s1 ∧ b ≠ m1) X0 w6 ∧ (∀ x' ∈ pre ++ [x], x' ∉ (lv E N q kb).1)) := by
        refine ⟨M2, ⟨Same.of_below hb6 fun x hx _ => hx, fun b h => .inl h⟩, HMM.out, HSM.out.trans (Same.of_below (K := fun _ => True) hb6 fun x hx _ => hx) fun _ _ _ => trivial, fun x' hx' => ?_⟩
        rcases List.mem_append.1 hx' with h | h
        ·exact HPRE.out x' h
        ·rw [List.mem_singleton.1 h, ← HY3.out]; exact hold
       rw [decide_eq_false hold]
       clear hold hb6
       gi_wp2
       exact FINB.out
     case done =>
      rintro D xs M2 W5 hD hnD ⟨rfl, hsa⟩ ⟨hM, hsm, hpre⟩ hK5
      have htl : (lv E N p (ka + 1)).1 = (lv E N p ka).1 ++ (lv E N p (ka + 1)).2 := lvl_tail _ p ka
      have hsY := SearchAt.stays HZ1.out HZ2.out (hs) (hm) hsm
      have HMI5 : Hid (MI E N p q B s1 m1 s2 m2 g w (ka + 1) kb W5) := by
       refine ⟨hsa, hsY, fun x hx hx' => ?_, hsm.row HRR.out ⟨by omega, by omega⟩, hsm.row HRM.out ⟨by omega, by omega⟩, hsm.row HRF.out ⟨by omega, by omega⟩, HFRZ.out.trans hsm fun b _ hb => ⟨hb.1, hb.2.1⟩⟩
       rw [htl] at hx
       rcases List.mem_append.1 hx with h | h
       ·exact HMI2.out.dis x h hx'
       ·exact hpre x h hx'
      have HMK5 := Lib.hid (HMKZ.out.cons (HMKZ.out.same hsm fun D' h => by have := HMKZ.out.ge _ h; omega) hD hX0s hK5)
      clear htl hsY hsa hM hsm hpre hK5 hnD
      go_wp2
      exact HKK.out W5 (ka + 1) kb _ _ _ _ _ _ _ _ _ _ _ _ _ _ _ _ _ _ _ _ _ _ _ _ _ _ _ _ _ _ _ _ _ _ _ HMI5.out HMK5.out (by omega) (by omega) (by omega)
     case stop =>
      rintro D c xs M2 W5 hD hnD ⟨hpre2, hmid⟩ ⟨rfl, hM, hsm, x, hx, hxY, hr6, hr7⟩ hK5
      have hxD : DistIs E N p (ka + 1) x := lv_dist.1 (hpre2.subset hx)
      have hxP : PosP N x := lv_pos HP.out (ka + 1) x (lv_sub E N p (ka + 1) x (hpre2.subset hx))
      have hmd := (HD2.out (by omega) ka kb HMI2.out.dis).1 x hxD hxY
      have hnsY := (HZ2.out.apart1 HZ1.out)
      have hnmY := (HZ1.out.apart1 HZ2.out)
      have hKY : Knows E N q s2 g m2 kb x W5 := (HZ2.out.knows hxY hmd.1).same hsm ⟨Ne.symm (hs), hnsY, by omega, by omega⟩ ⟨hnmY.symm, Ne.symm (hm), by omega, by omega⟩
      have hKX : Knows E N p s1 g m1 (ka + 1) x W5 := hmid.knows hx hxD
      have HME5 : Hid (MetE E N p q s1 m1 s2 m2 g w (posF x x.length) true W5) :=
       ⟨HFRZ.out.trans hsm fun b hb hn => ⟨hn.1, hn.2.1, by omega, by omega⟩, .inl ⟨rfl, x, ka + 1, kb, rfl, hxP, hKX, hKY, hmd.2⟩⟩
      have HR65 := Lib.hid hr6
      have HR75 := Lib.hid hr7
      have HRB5 := Lib.hid (hsm.row HRR.out ⟨by omega, by omega, by omega, by omega⟩)
      have HMK5 := Lib.hid (HMKZ.out.cons (HMKZ.out.same hsm fun D' h => by have := HMKZ.out.ge _ h; omega) hD hX0s hK5)
      clear hxD hxP hmd hKY hKX hr6 hr7 hsm hM hmid hpre2 hK5 hnD hx hxY
      go_wp2
      exact FINW.out _ (posF x x.length) true W5 _ _ _ _ _ _ _ _ _ _ _ _ _ _ _ _ _ _ _ _ _ _ _ _ _ _ _ _ _ _ _ _ _ _ HRB5.out HR65.out HR75.out HMK5.out HME5.out
  ·have i2 : n2 = 0 := by omega
   have i1 : (0 : Int) < (n1 : Int) := by omega
   subst i2
   have hnil : (lv E N q kb).2 = [] := List.length_eq_zero_iff.1 HN2.out
   have FF : Hid (MetE E N p q s1 m1 s2 m2 g w (fun _ => 0) false wr) := ⟨HMI2.out.fr, .inr ⟨rfl, rfl, fun d hd => never HQ0.out HP.out (by omega) (fun x hx hx' => HMI2.out.dis x hx' hx) hnil d (way_rev HP.out (by omega) hd).2⟩⟩
   clear hnil
   go_wp2
   exact FINW.out ds (fun _ => 0) false wr _ _ _ _ _ _ _ _ _ _ _ _ _ _ _ _ _ _ _ _ _ _ _ _ _ _ _ _ _ _ _ _ _ _ HMI2.out.res HMI2.out.meet HMI2.out.fnd HMK.out FF.out
 ·have i1 : n1 = 0 := by omega
  subst i1
  have hnil : (lv E N p ka).2 = [] := List.length_eq_zero_iff.1 HN1.out
  have FF : Hid (MetE E N p q s1 m1 s2 m2 g w (fun _ => 0) false wr) := ⟨HMI2.out.fr, .inr ⟨rfl, rfl, fun d hd => never HP.out HQ0.out (by omega) HMI2.out.dis hnil d hd⟩⟩
  clear hnil
  go_wp2
  exact FINW.out ds (fun _ => 0) false wr _ _ _ _ _ _ _ _ _ _ _ _ _ _ _ _ _ _ _ _ _ _ _ _ _ _ _ _ _ _ _ _ _ _ HMI2.out.res HMI2.out.meet HMI2.out.fnd HMK.out FF.out
end Go.Proofs.YtllhejjcmfiebaaDoor
