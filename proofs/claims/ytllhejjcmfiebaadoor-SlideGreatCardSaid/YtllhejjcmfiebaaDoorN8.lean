/- The search's grow, as an iterator. -/
import Derived.Test.YtllhejjcmfiebaaDoorN7
import Derived.Test.YtllhejjcmfiebaaDoorF4
set_option linter.unusedVariables false
set_option linter.unusedSimpArgs false
set_option linter.unnecessarySimpa false
namespace Go.Proofs.YtllhejjcmfiebaaDoor
open Go.RowKit Go.Shelf
attribute [local go_sem] Oper.semAt_some
def SearchAt (E : Es) (N : Nat) (p : List Int) (sg g m k : Nat) (W : World) : Prop :=
 ∃ par nv, SrchR W sg g m nv ∧ MapAt N W m par ∧ keysP par = (lv E N p k).1 ∧ ParOK E N p par ∧ OwnK 82 9 0 W nv (lv E N p k).2.length (posC (lv E N p k).2) ∧ (∀ b, nv.ownBlock = some b → b ≠ sg ∧ b ≠ m ∧ b ≠ g)
def SearchMid (E : Es) (N : Nat) (p : List Int) (sg g m k : Nat) (xs : List (List Int)) (W : World) : Prop :=
 ∃ par nv, SrchR W sg g m nv ∧ MapAt N W m par ∧ keysP par = (lv E N p k).1 ++ xs ∧ ParOK E N p par
theorem marks_same {P : Program} {fn : Func} {tmps : Array Value} {R : Ending → World → Prop} {B : Nat} {w : World} {ds : List Deferred} (h : Marks B w ds)
  (hR : ∀ w', Same (fun b => mark b ∉ ds) w w' → ∃ v, (results fn tmps).run P w' = .ok v w' ∧ R (.returned v) w') : LeavesInM Fence.wide 6 P fn tmps R ds .returning w := by
 obtain ⟨Ds, rfl, hn, hall⟩ := h
 induction Ds generalizing w with
 | nil => exact hR w (Same.refl _ _)
 | cons D Ds ih =>
  obtain ⟨hd, hn2⟩ := List.nodup_cons.1 hn
  have hD := hall D (by simp)
  refine ⟨by simp, .inl ⟨D, _, rfl, run_takeDeferred hD.2, ?_⟩⟩
  refine ih (fun w' hs => ?_) hn2 (fun D' hD' => ?_)
  ·refine hR w' (Same.trans (K := fun b => mark b ∉ (D :: Ds).map mark) (Same.put _ hD.2 (by simp)) hs (fun x _ hx hm => hx (by simp only [List.map_cons, List.mem_cons]; exact .inr hm)))
  ·have h1 := hall D' (by simp [hD'])
   refine ⟨h1.1, (World.putObj_heap_other (fun e => ?_)).trans h1.2⟩
   subst e; exact hd hD'
theorem load9 (w : World) (g : Nat) (f : Nat → Int) (h : Row 82 w g (nineL f)) : (Instr.loadAt 82 (.pointer (some ⟨g, 0, none⟩))).run Tryd.prog w = .ok (nineV f) w := by
 obtain ⟨c0, c1, c2, c3, c4, c5, c6, c7, c8⟩ := nine_cells h
 clear h
 unfold nineV
 go_simp
theorem exec_load9 {f : Operand → Value} {o : Oper} {X : World} {g : Nat} {F : Nat → Int} {s : Operand} (hr : Row 82 X g (nineL F)) (ho : o.op = .load 82 s) (hs : f s = .pointer (some ⟨g, 0, none⟩)) : (execOp f o).run Tryd.prog X = .ok (.value (nineV F)) X := by
 have := load9 X g F hr
 unfold execOp
 simp only [ho, hs, Sem.run_bind, this, Result.andThen_ok, Sem.run_pure]
theorem nd_of {l : List Oper} (h : (l.all fun o => match o.op with | .defer _ => false | _ => true) = true) : ∀ (i : Nat) (o : Oper), l[i]? = some o → ∀ c, o.op ≠ .defer c := by
 intro i o hi c hc
 have := List.all_eq_true.1 h o (List.mem_of_getElem? hi)
 rw [hc] at this
 cases this
structure GX (J : List (List Int) → (Nat → Prop) → World → Prop) (E : Es) (N : Nat) (p : List Int) (sg g m : Nat) (K0 xs : List (List Int)) (M Mo : Nat → Prop) (par : List (List Int × List Int)) (nv : Value) (W : World) : Prop where
 J : J xs Mo W
 M : ∀ b, M b ↔ Mo b ∨ b = sg ∨ b = m ∨ nv.ownBlock = some b
 sr : SrchR W sg g m nv
 map : MapAt N W m par
 keys : keysP par = K0 ++ xs
 par : ParOK E N p par
 nb : ∀ b, nv.ownBlock = some b → b < W.heap.size
theorem GX.stay {J : List (List Int) → (Nat → Prop) → World → Prop} {E : Es} {N : Nat} {p : List Int} {sg g m : Nat} {K0 xs : List (List Int)} {M Mo : Nat → Prop} {par : List (List Int × List Int)} {nv : Value} {W : World} (h : GX J E N p sg g m K0 xs M Mo par nv W) {G : Nat → Prop} {Bj : Nat} (hJ : Stab G Bj J) {W' : World} {K : Nat → Prop} (hs : Same K W W') (hM : ∀ b, M b → K b) (hb : ∀ b, b < Bj → ¬ G b → K b) : GX J E N p sg g m K0 xs M Mo par nv W' := by
 refine ⟨hJ.stay _ _ _ _ h.J (hs.mono fun x _ hx => ?_), h.M, hs.row h.sr (hM _ ((h.M _).2 (.inr (.inl rfl)))), h.map.same hs (hM _ ((h.M _).2 (.inr (.inr (.inl rfl))))), h.keys, h.par, fun b hb => Nat.lt_of_lt_of_le (h.nb b hb) hs.size⟩
 rcases hx with ⟨h1, h2⟩ | h1
 ·exact hb x h1 h2
 ·exact hM x ((h.M x).2 (.inl h1))
theorem Marks.same {K : Nat → Prop} {B : Nat} {w w' : World} {ds : List Deferred} (h : Marks B w ds) (hs : Same K w w') (hK : ∀ D, mark D ∈ ds → K D) : Marks B w' ds := by
 obtain ⟨Ds, rfl, hn, hall⟩ := h
 exact ⟨Ds, rfl, hn, fun D hD => ⟨(hall D hD).1, hs.at_ (hall D hD).2 (hK D (List.mem_map.2 ⟨D, hD, rfl⟩))⟩⟩
theorem Marks.ge {B : Nat} {w : World} {ds : List Deferred} (h : Marks B w ds) : ∀ D, mark D ∈ ds → B ≤ D := by
 obtain ⟨Ds, rfl, _, hd⟩ := h
 intro D hD
 obtain ⟨D', hD', he⟩ := List.mem_map.1 hD
 have : D' = D := by unfold mark at he; simpa using he
 subst this
 exact (hd _ hD').1
theorem lv_few {E : Es} {N : Nat} {p : List Int} (hp : PosP N p) (k : Nat) : (lv E N p k).1.length ≤ fact N := pos_few (lv_pos hp k) (lvl_nodup _ _ k)
theorem mid_few {E : Es} {N : Nat} {p q : List Int} {k j : Nat} {pre post : List (List Int)} (hp : PosP N p) (hq : (lv E N p k).2[j]? = some q) (hpr : nbrL E N q = pre ++ post) : (midS E N p k j pre).1.length ≤ fact N := by
 refine pos_few (fun x hx => ?_) (addL_nodup _ (pt_nodup E N p k j))
 unfold midS at hx
 rw [addL_mem] at hx
 rcases hx with hx | hx
 ·exact pt_pos hp k j x hx
 ·exact nbrL_pos (lv_pos hp k q (lv_sub E N p k q (List.mem_of_getElem? hq))) x (by rw [hpr]; exact List.mem_append_left _ hx)
theorem mid_tail (E : Es) (N : Nat) (p : List Int) (k j : Nat) (pre : List (List Int)) : (midS E N p k j pre).1 = (lv E N p k).1 ++ (midS E N p k j pre).2 := Tail.addL pre (pt_tail E N p k j)
set_option maxRecDepth 100000 in
set_option maxHeartbeats 8000000 in
theorem grow_seq (N sg g m k : Nat) (E : Es) (p : List Int) (w0 : World) (hp : PosP N p) (hN2 : 2 ≤ N) (hN9 : N ≤ 9) (hE : Lt E N) (hne : Ne2 E) (hb : BoardR w0 g N E) (hT : Tab w0) (par : List (List Int × List Int)) (nv : Value)
  (hs : SrchR w0 sg g m nv) (hm : MapAt N w0 m par) (hk : keysP par = (lv E N p k).1) (hpar : ParOK E N p par) (hnv : PosA w0 nv (lv E N p k).2) (hbl : ∀ b, nv.ownBlock = some b → b ≠ sg ∧ b ≠ m ∧ b ≠ g) :
  SeqC Tryd.prog 88 #[.pointer (some ⟨sg, 0, none⟩)] #[] encP (fun b => b = sg ∨ b = m ∨ b = g ∨ b = 0 ∨ nv.ownBlock = some b) (fun b => b = sg ∨ b = m) (fun pre x => ∃ post, (lv E N p (k + 1)).2 = pre ++ x :: post) (fun xs W => xs = (lv E N p (k + 1)).2 ∧ SearchAt E N p sg g m (k + 1) W) (fun xs W => xs <+: (lv E N p (k + 1)).2 ∧ SearchMid E N p sg g m k xs W) w0 := by
 intro l J Jx M W hW hJ hJx hM hY h0
 have hs1 : SrchR W sg g m nv := hW.row hs trivial
 have hb1 : BoardR W g N E := hW.row hb trivial
 have hm1 := hm.same hW trivial
 have hT1 := hT.same hW trivial
 have hn1 := hnv.same hW (fun _ _ => trivial)
 have hMlt := hJ.lt _ _ _ h0
 have hsgm : sg ≠ m := fun e => by
  obtain ⟨D, ⟨es, clock, hh, _⟩, _⟩ := hm1
  unfold SrchR Row at hs1
  rw [e, hh] at hs1; cases hs1
 have hggm : g ≠ m := fun e => by
  obtain ⟨D, ⟨es, clock, hh, _⟩, _⟩ := hm1
  unfold BoardR Row at hb1
  rw [e, hh] at hb1; cases hb1
 have hgsg : g ≠ sg := fun e => by
  subst e
  unfold BoardR Row at hb1
  unfold SrchR Row at hs1
  rw [hb1] at hs1
  injection hs1 with h1
  injection h1 with _ h2
  exact absurd h2 (by decide)
 have htsg : 0 ≠ sg := fun e => by
  have h1 := hT1.c 0 (by omega)
  have h3 := Row.cell hs1 0
  rw [← e] at h3
  rw [h3] at h1
  simp at h1
 have htm : 0 ≠ m := fun e => by
  obtain ⟨D, ⟨es, clock, hh, _⟩, _⟩ := hm1
  have h1 := hT1.c 0 (by omega)
  rw [← e] at hh
  unfold World.cell? at h1
  dsimp only at h1
  rw [hh] at h1
  simp at h1
 have hlS := row_new 119 W #[.pointer (some ⟨sg, 0, none⟩)]
 have hlY := row_new 133 (W.alloc (.cells #[.pointer (some ⟨sg, 0, none⟩)] 119)) #[.func (.yield l) #[] #[]]
 have hlS2 := hlS.alloc (.cells #[.func (.yield l) #[] #[]] 133)
 have hbW2 := (below_alloc_refl W (.cells #[.pointer (some ⟨sg, 0, none⟩)] 119)).trans ((below_alloc_refl (W.alloc (.cells #[.pointer (some ⟨sg, 0, none⟩)] 119)) (.cells #[.func (.yield l) #[] #[]] 133)).mono (by simp))
 rw [World.size_alloc] at hlY
 obtain ⟨W2, hW2⟩ : ∃ W2, (W.alloc (.cells #[.pointer (some ⟨sg, 0, none⟩)] 119)).alloc (.cells #[.func (.yield l) #[] #[]] 133) = W2 := ⟨_, rfl⟩
 rw [hW2] at hlY hlS2 hbW2
 obtain ⟨B0, hB0⟩ : ∃ B0, W.heap.size = B0 := ⟨_, rfl⟩
 have hW2s : W2.heap.size = B0 + 2 := by rw [← hW2, World.size_alloc, World.size_alloc, hB0]
 have hs2 := Row.below hs1 hbW2 (Row.lt hs1)
 have hb2 := Row.below hb1 hbW2 (Row.lt hb1)
 have hsl : sg < B0 := by rw [← hB0]; exact Row.lt hs1
 have hml : m < B0 := by rw [← hB0]; exact hm1.lt
 have hgl : g < B0 := by rw [← hB0]; exact Row.lt hb1
 have htl : 0 < B0 := by rw [← hB0]; exact hT1.lt
 have hnl : ∀ b, nv.ownBlock = some b → b < B0 := fun b hb => by
  obtain ⟨pq, cq, rfl, _, _, h4, _⟩ := hn1
  cases pq with
  | none => cases hb
  | some a => rw [← hB0]; have : a.block = b := by simpa [Value.ownBlock] using hb
              rw [← this]; exact h4 a rfl
 have hs3 := hs2.store 2 (.slice none 0 0)
 rw [hB0] at hlS2 hlY hJ hJx hMlt
 obtain ⟨W3, hW3⟩ : ∃ W3, W2.setCell ⟨sg, 2, none⟩ (.slice none 0 0) = W3 := ⟨_, rfl⟩
 rw [hW3] at hs3
 have hs3' : SrchR W3 sg g m (.slice none 0 0) := hs3
 have hW23 : Same (fun b => b ≠ sg) W2 W3 := by rw [← hW3]; exact Same.setCell _ _ _ fun h => h rfl
 have hWW3 : Same (fun b => b ≠ sg) W W3 := (Same.of_below (K := fun b => b ≠ sg) hbW2 fun x hx _ => hx).trans hW23 fun _ _ h => h
 have hMn : ∀ b, M b → b ≠ sg ∧ b ≠ m ∧ b ≠ g ∧ b ≠ 0 ∧ nv.ownBlock ≠ some b := fun b hb => ⟨fun e => hM b hb (.inl e), fun e => hM b hb (.inr (.inl e)), fun e => hM b hb (.inr (.inr (.inl e))), fun e => hM b hb (.inr (.inr (.inr (.inl e)))), fun e => hM b hb (.inr (.inr (.inr (.inr e))))⟩
 have h03 : J [] M W3 := hJ.stay _ _ _ _ h0 (hWW3.mono fun x hx hk => by
  rcases hk with ⟨_, hk⟩ | hk
  ·exact fun e => hk (.inl e)
  ·exact (hMn x hk).1)
 have hGS : GS J E N p (B0 + 2) sg g m (pt E N p k 0) (fun b => M b ∨ b = sg ∨ b = m ∨ (Value.slice none 0 0).ownBlock = some b) M par (.slice none 0 0) W3 := by
  rw [pt_zero]
  exact ⟨h03, fun b => Iff.rfl, hs3', hm1.same hWW3 hsgm.symm, hk, hpar, World.ownsRow_nil _ _ _ _, fun b hb => ⟨(hMn b hb).1, (hMn b hb).2.1, fun e => by cases e⟩⟩
 have hn3 := (hn1.same hWW3 (fun b hb => (hbl b hb).1))
 have hb3 : BoardR W3 g N E := hW23.row hb2 hgsg
 have hT3 := hT1.same hWW3 htsg
 have hS3 : Row 119 W3 B0 [.pointer (some ⟨sg, 0, none⟩)] := hW23.row hlS2 (by omega)
 have hY3 : Row 133 W3 (B0 + 1) [.func (.yield l) #[] #[]] := hW23.row hlY (by omega)
 have hW3s : W3.heap.size = B0 + 2 := by rw [← hW3, World.size_setCell, hW2s]
 have kS := hlS2.cell 0
 have k2 := hs2.cell 2
 have f2 := hs2.free 2
 simp only [List.getElem?_cons_zero, List.getElem?_cons_succ] at kS k2
 obtain ⟨pn, cn, hnvE, hcn1, hcn2, _, _⟩ := hn1
 have HGS := Lib.hid hGS
 have HN3 := Lib.hid hn3
 have HB3 := Lib.hid hb3
 have HT3 := Lib.hid hT3
 have HS3 := Lib.hid hS3
 have HY3 := Lib.hid hY3
 have HJ := Lib.hid hJ
 have HJX := Lib.hid hJx
 have HYY := Lib.hid hY
 have HMN := Lib.hid hMn
 have HBL := Lib.hid hbl
 have HMLT := Lib.hid hMlt
 have HNL := Lib.hid hnl
 have HP := Lib.hid hp
 have HNVE := Lib.hid hnvE
 obtain ⟨L, hL⟩ : ∃ L, (lv E N p k).2 = L := ⟨_, rfl⟩
 have HL := Lib.hid hL
 rw [hL] at hnvE hcn1 HN3
 subst hnvE
 clear hs hm hk hpar hnv hbl hs1 hb1 hm1 hT1 h0 hJ hJx hY hMn hMlt hnl hp hb hT hGS hn3 hb3 hT3 hS3 hY3 hs3 hs3' hs2 hb2 hlS hlY hlS2 hbW2 hW23 hWW3 h03 hM hL hW HNVE
 refine calls_marks Tryd.func88 rfl ?_
 intro Q hQ
 have HQ := Lib.hid hQ
 clear hQ
 simp only [Tryd.ntmps88, List.size_toArray, List.length_cons, List.length_nil, Nat.reduceAdd, Nat.reduceSub, Array.replicate_succ, Array.replicate_zero, List.push_toArray, List.append_toArray, List.nil_append, List.cons_append]
 go_wp2
 clear kS k2 f2 hW3 hW2
 obtain ⟨MM, hMM⟩ : ∃ MM : Nat → Prop, MM = fun b => M b ∨ b = sg ∨ b = m ∨ (Value.slice none 0 0).ownBlock = some b := ⟨_, rfl⟩
 have HMM : Hid (∀ b, MM b → M b ∨ b = sg ∨ b = m) := fun b hb => by
  rw [hMM] at hb
  rcases hb with h | h | h | h
  ·exact .inl h
  ·exact .inr (.inl h)
  ·exact .inr (.inr h)
  ·cases h
 rw [← hMM] at HGS
 clear hMM
 refine wp_loop (fun a wr => ∃ (i : Nat) (ds : List Deferred) (par' : List (List Int × List Int)) (nv' : Value) (Mo M' : Nat → Prop) (x5 x6 x7 x18 x19 x20 x21 x22 x23 x24 x25 x26 x27 x28 x29 x30 x31 x32 x33 x34 x35 x36 x37 x38 x39 x40 x41 x42 x43 x44 x45 x46 x47 x48 x49 x50 x51 : Value), a = { tmps := #[.pointer (some ⟨sg, 0, none⟩), .func (.yield l) #[] #[], .pointer (some ⟨B0, 0, none⟩), .pointer (some ⟨B0 + 1, 0, none⟩), .slice pn L.length cn, x5, x6, x7, .pointer (some ⟨sg, 0, none⟩), .pointer (some ⟨sg, 0, none⟩), .pointer (some ⟨sg, 2, none⟩), .slice pn L.length cn, .pointer (some ⟨sg, 0, none⟩), .pointer (some ⟨sg, 0, none⟩), .pointer (some ⟨sg, 2, none⟩), .slice pn L.length cn, .int .i64 (L.length : Nat), .int .i64 (i : Nat), x18, x19, x20, x21, x22, x23, x24, x25, x26, x27, x28, x29, x30, x31, x32, x33, x34, x35, x36, x37, x38, x39, x40, x41, x42, x43, x44, x45, x46, x47, x48, x49, x50, x51], defers := ds } ∧ i ≤ L.length ∧ Bd MM M' W3 wr ∧ GS J E N p (B0 + 2) sg g m (pt E N p k i) M' Mo par' nv' wr ∧ Marks B0 wr ds ∧ (∀ D, mark D ∈ ds → ¬ M' D)) (fun a _ => L.length - (intOf (a.tmps.getD 17 undef)).toNat) ?start ?round
 case start => exact ⟨0, [], par, _, M, MM, _, _, _, _, _, _, _, _, _, _, _, _, _, _, _, _, _, _, _, _, _, _, _, _, _, _, _, _, _, _, _, _, _, _, _, _, _, rfl, Nat.zero_le _, Bd.refl _ _, HGS.out, Marks.nil _ _, fun D h => by cases h⟩
 case round =>
  clear HGS
  rintro a wr ⟨i, ds, par', nv', Mo, M', x5, x6, x7, x18, x19, x20, x21, x22, x23, x24, x25, x26, x27, x28, x29, x30, x31, x32, x33, x34, x35, x36, x37, x38, x39, x40, x41, x42, x43, x44, x45, x46, x47, x48, x49, x50, x51, rfl, hi, hbd, hgs, hmk, hmd⟩
  have hfz : ∀ b, b < B0 + 2 → b ≠ sg → b ≠ m → ¬ M b → ¬ MM b ∧ ¬ M' b := fun b h1 h2 h3 h4 => by
   have h5 : ¬ MM b := fun h => by
    rcases HMM.out b h with h | h | h
    ·exact h4 h
    ·exact h2 h
    ·exact h3 h
   exact ⟨h5, fun h => (hbd.2 b h).elim h5 fun h => by omega⟩
  have fS := hfz B0 (by omega) (by omega) (by omega) (fun h => by have := HMLT.out _ h; omega)
  have fY := hfz (B0 + 1) (by omega) (by omega) (by omega) (fun h => by have := HMLT.out _ h; omega)
  have fg := hfz g (by omega) hgsg hggm (fun h => (HMN.out _ h).2.2.1 rfl)
  have ft := hfz 0 (by omega) htsg htm (fun h => (HMN.out _ h).2.2.2.1 rfl)
  have hMlt := hgs.lt HJ.out
  have hszr : B0 + 2 ≤ wr.heap.size := by have := hbd.1.size; omega
  by_cases hlt : i < L.length
  ·obtain ⟨q, hq⟩ : ∃ q, L[i]? = some q := ⟨_, List.getElem?_eq_getElem hlt⟩
   have hqL : (lv E N p k).2[i]? = some q := by rw [HL.out]; exact hq
   have hqm := List.mem_of_getElem? hqL
   have hqP : PosP N q := lv_pos HP.out k q (lv_sub E N p k q hqm)
   have hqD : DistIs E N p k q := lv_dist.1 hqm
   obtain ⟨pq, cq, hv, _, _, _, h3⟩ := HN3.out
   injection hv with e1 _ e2
   subst e1 e2
   obtain ⟨lb, e3, hlb, hlc⟩ := h3 (by omega)
   subst e3
   have hbl := HBL.out lb rfl
   have hnl := HNL.out lb rfl
   have fl := hfz lb (by omega) hbl.1 hbl.2.1 (fun h => (HMN.out _ h).2.2.2.2 rfl)
   obtain ⟨P0, hP0⟩ : ∃ P0, posF q q.length = P0 := ⟨_, rfl⟩
   have hc : ∀ r, r < 9 → wr.cell? ⟨lb, i * 9 + r, none⟩ = some (.int .i8 (P0 r)) := fun r hr => by
    rw [← hP0, ← posC_get L i q r hq hr, ← hlc (i * 9 + r) (by omega)]
    exact World.cell?_of_block (a := ⟨lb, i * 9 + r, none⟩) (hbd.1.block lb (by omega) fl.1)
   have c0 := hc 0 (by omega)
   rw [Nat.add_zero] at c0
   have c1 := hc 1 (by omega)
   have c2 := hc 2 (by omega)
   have c3 := hc 3 (by omega)
   have c4 := hc 4 (by omega)
   have c5 := hc 5 (by omega)
   have c6 := hc 6 (by omega)
   have c7 := hc 7 (by omega)
   have c8 := hc 8 (by omega)
   have gil : (i : Int) < (L.length : Int) := by omega
   have HGS := Lib.hid hgs
   have HBD := Lib.hid hbd
   have HMK := Lib.hid hmk
   have HMD := Lib.hid hmd
   have HQL := Lib.hid hqL
   have HQP := Lib.hid hqP
   have HQD := Lib.hid hqD
   have HQM := Lib.hid hqm
   have HP0 := Lib.hid hP0
   have HFZ := Lib.hid hfz
   have HML := Lib.hid hMlt
   clear hgs hbd hmk hmd hqL hqP hqD hqm hq hlc h3 hP0 hfz hMlt hc
   go_wp2
   have hq1 := row_new 82 wr (nineL P0).toArray
   have hb1 := below_alloc_refl wr (.cells (nineL P0).toArray 82)
   obtain ⟨PB, hPB⟩ : ∃ PB, wr.heap.size = PB := ⟨_, rfl⟩
   obtain ⟨w1, hw1⟩ : ∃ w1, wr.alloc (.cells (nineL P0).toArray 82) = w1 := ⟨_, rfl⟩
   have hw1' : wr.alloc (.cells #[.int .i8 (P0 0), .int .i8 (P0 1), .int .i8 (P0 2), .int .i8 (P0 3), .int .i8 (P0 4), .int .i8 (P0 5), .int .i8 (P0 6), .int .i8 (P0 7), .int .i8 (P0 8)] 82) = w1 := hw1
   rw [hw1] at hq1 hb1
   rw [hPB] at hq1
   have hw1s : w1.heap.size = PB + 1 := by rw [← hw1, World.size_alloc, hPB]
   have hS1 := (HBD.out.1.row HS3.out fS.1).below hb1 (HBD.out.1.row HS3.out fS.1).lt
   have hsr1 := Row.below HGS.out.sr hb1 (Row.lt HGS.out.sr)
   rw [hw1', hPB]
   have HQ1 := Lib.hid hq1
   have HB1 := Lib.hid hb1
   have HS1 := Lib.hid hS1
   have HSR1 := Lib.hid hsr1
   have HW1S := Lib.hid hw1s
   have HPB := Lib.hid hPB
   have HAF := Lib.hid (fun W => after_go g P0 W)
   unfold nineV at HAF
   clear hq1 hb1 hS1 hsr1 hw1 hw1' c0 c1 c2 c3 c4 c5 c6 c7 c8 hPB
   refine wp_region_rel (by kernel_rfl) 52 rfl (by kernel_rfl) [.fix (.pointer (some ⟨sg, 0, none⟩)), .fix (.pointer (some ⟨sg, 0, none⟩)), .fix (.pointer (some ⟨sg, 0, none⟩)), .fix (.pointer (some ⟨g, 0, none⟩)), .fix (.agg #[.int .i8 (P0 0), .int .i8 (P0 1), .int .i8 (P0 2), .int .i8 (P0 3), .int .i8 (P0 4), .int .i8 (P0 5), .int .i8 (P0 6), .int .i8 (P0 7), .int .i8 (P0 8)]), .mem (fun u W => ∃ bq bb, u = .func (.func 96) #[] #[.pointer (some ⟨bq, 0, none⟩), .pointer (some ⟨bb, 0, none⟩)] ∧ PB < bq ∧ PB < bb ∧ Row 82 W bq (nineL P0) ∧ Row 75 W bb [.pointer (some ⟨g, 0, none⟩)])] rfl (stays_n2 (fun i M hk v w' w'' h hb => by rcases i with _ | _ | _ | _ | _ | _ | i <;> simp at hk; subst hk; obtain ⟨bq, bb, h1, h2, h3, h4, h5⟩ := h; exact ⟨bq, bb, h1, h2, h3, h4.below hb h4.lt, h5.below hb h5.lt⟩) (fun j b k T n => by rcases j with _ | _ | _ | _ | _ | _ | j <;> simp)) ?hop ?hQ
   case hop =>
    intro W hW j0 o hj vs0 wz hb hV
    have hbw : Below w1.heap.size w1 wz := by rw [hW] at hb; exact ((Below.refl w1.heap.size w1).drew).trans hb
    have hw1s := HW1S.out
    have d0 : wz.cell? ⟨B0, 0, none⟩ = some (.pointer (some ⟨sg, 0, none⟩)) := (HS1.out.below hbw HS1.out.lt).cell 0
    have d1 : wz.cell? ⟨sg, 0, none⟩ = some (.pointer (some ⟨g, 0, none⟩)) := (Row.below HSR1.out hbw (Row.lt HSR1.out)).cell 0
    obtain ⟨d2, d3, d4, d5, d6, d7, d8, d9, d10⟩ := nine_cells (HQ1.out.below hbw HQ1.out.lt)
    clear hW hb
    have hj' : j0 < 6 := (List.getElem?_eq_some_iff.1 hj).1
    rcases (by omega : j0 = 0 ∨ j0 = 1 ∨ j0 = 2 ∨ j0 = 3 ∨ j0 = 4 ∨ j0 = 5) with rfl | rfl | rfl | rfl | rfl | rfl
    ·cases hj
     clear hj'
     refine .inl ⟨rfl, ?_⟩
     (try simp [predsR, Region.binds, Vk] at hV)
     simp only [putAll]
     generalize hR : Res _ _ vs0 wz = R
     go_simp
     subst hR
     exact ⟨rfl, Below.refl _ _⟩
    ·cases hj
     clear hj'
     refine .inl ⟨rfl, ?_⟩
     generalize hG : relUpon _ _ _ = G
     have q0_ : vs0 0 = _ := hV 0 (by decide)
     clear hV
     subst hG
     simp only [putAll]
     generalize hR : Res _ _ vs0 wz = R
     go_simp
     subst hR
     exact ⟨rfl, Below.refl _ _⟩
    ·cases hj
     clear hj'
     refine .inl ⟨rfl, ?_⟩
     generalize hG : relUpon _ _ _ = G
     have q1_ : vs0 1 = _ := hV 1 (by decide)
     clear hV
     subst hG
     simp only [putAll]
     generalize hR : Res _ _ vs0 wz = R
     go_simp
     subst hR
     exact ⟨rfl, Below.refl _ _⟩
    ·cases hj
     clear hj'
     refine .inl ⟨rfl, ?_⟩
     generalize hG : relUpon _ _ _ = G
     have q2_ : vs0 2 = _ := hV 2 (by decide)
     clear hV
     subst hG
     simp only [putAll]
     generalize hR : Res _ _ vs0 wz = R
     go_simp
     subst hR
     exact ⟨rfl, Below.refl _ _⟩
    ·cases hj
     clear hj'
     refine .inl ⟨rfl, ?_⟩
     (try simp [predsR, Region.binds, Vk] at hV)
     simp only [putAll]
     generalize hR : Res _ _ vs0 wz = R
     go_simp
     subst hR
     exact ⟨rfl, Below.refl _ _⟩
    ·cases hj
     clear hj'
     refine .inl ⟨rfl, ?_⟩
     generalize hG : relUpon _ _ _ = G
     have q3_ : vs0 3 = _ := hV 3 (by decide)
     have q4_ : vs0 4 = _ := hV 4 (by decide)
     clear hV
     subst hG
     simp only [putAll]
     generalize hR : Res _ _ vs0 wz = R
     go_simp
     subst hR
     refine (HAF.out wz).mono ?_
     rintro e w4 ⟨rfl, rfl⟩
     exact ⟨_, rfl, ⟨_, _, rfl, by have := hbw.size; omega, by have := hbw.size; omega, by have h := row_new 82 (wz.alloc (.cells #[.pointer (some ⟨g, 0, none⟩)] 75)) (nineL P0).toArray; rw [World.size_alloc] at h; exact h, (row_new 75 wz #[.pointer (some ⟨g, 0, none⟩)]).alloc _⟩, (below_alloc_refl _ _).trans ((below_alloc_refl _ _).mono (by simp))⟩
   case hQ =>
    intro W hW vs0 wz hb hV hD
    have hbw : Below w1.heap.size w1 wz := by rw [hW] at hb; exact ((Below.refl w1.heap.size w1).drew).trans hb
    have e0_ : vs0 0 = _ := hV 0 (by decide)
    have e1_ : vs0 1 = _ := hV 1 (by decide)
    have e2_ : vs0 2 = _ := hV 2 (by decide)
    have e3_ : vs0 3 = _ := hV 3 (by decide)
    have e4_ : vs0 4 = _ := hV 4 (by decide)
    obtain ⟨bq, bb, hv5, hPq, hPb, hrq, hrb⟩ := hV 5 (by decide)
    generalize hKK : Exit.then _ _ = KK
    simp only [putAll, e0_, e1_, e2_, e3_, e4_, hv5]
    go_simp
    subst hKK
    clear hV hD hb hW e0_ e1_ e2_ e3_ e4_ hv5 HAF
    have hbz : Below wr.heap.size wr wz := HB1.out.trans (hbw.mono HB1.out.size)
    have hPBe := HPB.out
    have hwzs : PB + 1 ≤ wz.heap.size := by have := hbw.size; have := HW1S.out; omega
    have hgs4 := HGS.out.below HJ.out hbz
    have hbd4 : Bd MM M' W3 wz := HBD.out.trans ⟨Same.of_below hbz fun x hx _ => hx, fun b h => .inl h⟩
    have hmk4 : Marks B0 wz ds := HMK.out.keeps (KeepsOthers.of_below hbz)
    have hB4 : BoardR wz g N E := hbd4.1.row HB3.out fg.1
    have hT4 : Tab wz := HT3.out.same hbd4.1 ft.1
    have hS4 : Row 119 wz B0 [.pointer (some ⟨sg, 0, none⟩)] := hbd4.1.row HS3.out fS.1
    have hY4 : Row 133 wz (B0 + 1) [.func (.yield l) #[] #[]] := hbd4.1.row HY3.out fY.1
    have hQ4 : Row 82 wz PB (nineL P0) := HQ1.out.below hbw HQ1.out.lt
    have hP4 : ¬ M' PB := fun h => by have := HML.out _ h; omega
    have hbql : bq < wz.heap.size := hrq.lt
    have hbbl : bb < wz.heap.size := hrb.lt
    have hmd4 := HMD.out
    have hsq := after_seq bq bb g N E q wz HQP.out hN2 hN9 hE hne (by rw [HP0.out]; exact hrq) hrb hB4 hT4
    have HSQ := Lib.hid hsq
    have HGS4 := Lib.hid hgs4
    have HBD4 := Lib.hid hbd4
    have HMK4 := Lib.hid hmk4
    have HT4 := Lib.hid hT4
    have HS4 := Lib.hid hS4
    have HY4 := Lib.hid hY4
    have HQ4 := Lib.hid hQ4
    have HB4 := Lib.hid hB4
    have HMD4 := Lib.hid hmd4
    clear hbz hgs4 hbd4 hmk4 hB4 hT4 hS4 hY4 hQ4 hsq hrq hrb HQ1 HB1 HS1 HSR1 HGS HBD HMK HMD hmd4 hbw
    go_wp2
    refine wp_range_gen (α := List Int) (enc := encP) ?hg ?eg ?hps HSQ.out ?hRw (fun b h => h.elim) (fun _ _ _ _ _ _ _ h => h) (fun _ _ _ _ _ _ _ h => h)
     (fun pre M2 W => Bd M' M2 wz W ∧ ∃ Mo par nv, GS J E N p (B0 + 2) sg g m (midS E N p k i pre) M2 Mo par nv W)
     (fun c pre M2 W => c = .ret ∧ Bd M' M2 wz W ∧ ∃ Mo par nv xs, GX Jx E N p sg g m (lv E N p k).1 xs M2 Mo par nv W ∧ xs <+: (lv E N p (k + 1)).2)
     ?hI ?hIx M' ?hM0 ?h0
     (fun x a' M2 W => ∃ bx, a' = { tmps := #[.pointer (some ⟨sg, 0, none⟩), .func (.yield l) #[] #[], .pointer (some ⟨B0, 0, none⟩), .pointer (some ⟨B0 + 1, 0, none⟩), .slice (some ⟨lb, 0, none⟩) L.length cn, x5, .pointer (some ⟨PB, 0, none⟩), .pointer (some ⟨bx, 0, none⟩), .pointer (some ⟨sg, 0, none⟩), .pointer (some ⟨sg, 0, none⟩), .pointer (some ⟨sg, 2, none⟩), .slice (some ⟨lb, 0, none⟩) L.length cn, .pointer (some ⟨sg, 0, none⟩), .pointer (some ⟨sg, 0, none⟩), .pointer (some ⟨sg, 2, none⟩), .slice (some ⟨lb, 0, none⟩) L.length cn, .int .i64 (L.length : Nat), .int .i64 (i : Nat), .bool true, .pointer (some ⟨lb, i * 9, none⟩), .agg #[.int .i8 (P0 0), .int .i8 (P0 1), .int .i8 (P0 2), .int .i8 (P0 3), .int .i8 (P0 4), .int .i8 (P0 5), .int .i8 (P0 6), .int .i8 (P0 7), .int .i8 (P0 8)], .pointer (some ⟨sg, 0, none⟩), .pointer (some ⟨sg, 0, none⟩), .pointer (some ⟨sg, 0, none⟩), .pointer (some ⟨g, 0, none⟩), .agg #[.int .i8 (P0 0), .int .i8 (P0 1), .int .i8 (P0 2), .int .i8 (P0 3), .int .i8 (P0 4), .int .i8 (P0 5), .int .i8 (P0 6), .int .i8 (P0 7), .int .i8 (P0 8)], .func (.func 96) #[] #[.pointer (some ⟨bq, 0, none⟩), .pointer (some ⟨bb, 0, none⟩)], nineV (posF x x.length), x28, x29, x30, x31, x32, x33, x34, x35, x36, x37, x38, x39, x40, x41, x42, x43, x44, x45, x46, x47, x48, x49, x50, x51], defers := [] } ∧ Row 82 W bx (nineL (posF x x.length)) ∧ wz.heap.size ≤ bx ∧ ¬ M2 bx) ?hAx ?assign ?body ?done ?stop
    case hg => rfl
    case eg => exact enters_of Tryd.func96 (by kernel_rfl) rfl
    case hps => exact fun _ => rfl
    case hRw =>
     rintro b (rfl | rfl | rfl | rfl)
     ·exact hbql
     ·exact hbbl
     ·omega
     ·exact HT4.out.lt
    case hI =>
     refine ⟨fun pre M2 W h => ?_, ?_⟩
     ·obtain ⟨_, Mo, par, nv, h⟩ := h; exact h.lt HJ.out
     ·rintro pre M2 W W' ⟨h1, Mo, par, nv, h2⟩ hs2
      exact ⟨⟨h1.1.trans hs2 fun x hx hn => .inl ⟨hx, id⟩, h1.2⟩, Mo, par, nv, h2.stay HJ.out hs2 (fun b hb => .inr hb) (fun b hb hn => .inl ⟨by omega, id⟩)⟩
    case hIx =>
     intro c
     refine ⟨fun pre M2 W h => ?_, ?_⟩
     ·obtain ⟨_, _, Mo, par, nv, xs, h, _⟩ := h
      intro b hb
      rcases (h.M b).1 hb with h1 | rfl | rfl | h1
      ·exact HJX.out.lt _ _ _ h.J b h1
      ·exact Row.lt h.sr
      ·exact h.map.lt
      ·exact h.nb b h1
     ·rintro pre M2 W W' ⟨rfl, h1, Mo, par, nv, xs, h2, h3⟩ hs2
      exact ⟨rfl, ⟨h1.1.trans hs2 fun x hx hn => .inl ⟨hx, id⟩, h1.2⟩, Mo, par, nv, xs, h2.stay HJX.out hs2 (fun b hb => .inr hb) (fun b hb hn => .inl ⟨by omega, id⟩), h3⟩
    case hM0 =>
     intro b hb
     have h1 := HML.out b hb
     refine ⟨fun h => ?_, by omega⟩
     rcases h with rfl | rfl | rfl | rfl
     ·omega
     ·omega
     ·exact fg.2 hb
     ·exact ft.2 hb
    case h0 => exact ⟨Bd.refl _ _, Mo, par', nv', HGS4.out⟩
    case hAx =>
     rintro x a' M2 W r o o' hl ⟨bx, rfl, hr, h1, h2⟩
     exact ⟨bx, rfl, hr.put r _ _ hl rfl, h1, h2⟩
    case assign =>
     rintro l' pre x M2 W K ⟨hb2, Mo2, par2, nv2, hg2⟩ hK
     have hlt2 := hg2.lt HJ.out
     obtain ⟨PX, hPX⟩ : ∃ PX, posF x x.length = PX := ⟨_, rfl⟩
     have HK : Hid (K { tmps := #[.pointer (some ⟨sg, 0, none⟩), .func (.yield l) #[] #[], .pointer (some ⟨B0, 0, none⟩), .pointer (some ⟨B0 + 1, 0, none⟩), .slice (some ⟨lb, 0, none⟩) L.length cn, x5, .pointer (some ⟨PB, 0, none⟩), .pointer (some ⟨W.heap.size, 0, none⟩), .pointer (some ⟨sg, 0, none⟩), .pointer (some ⟨sg, 0, none⟩), .pointer (some ⟨sg, 2, none⟩), .slice (some ⟨lb, 0, none⟩) L.length cn, .pointer (some ⟨sg, 0, none⟩), .pointer (some ⟨sg, 0, none⟩), .pointer (some ⟨sg, 2, none⟩), .slice (some ⟨lb, 0, none⟩) L.length cn, .int .i64 (L.length : Nat), .int .i64 (i : Nat), .bool true, .pointer (some ⟨lb, i * 9, none⟩), .agg #[.int .i8 (P0 0), .int .i8 (P0 1), .int .i8 (P0 2), .int .i8 (P0 3), .int .i8 (P0 4), .int .i8 (P0 5), .int .i8 (P0 6), .int .i8 (P0 7), .int .i8 (P0 8)], .pointer (some ⟨sg, 0, none⟩), .pointer (some ⟨sg, 0, none⟩), .pointer (some ⟨sg, 0, none⟩), .pointer (some ⟨g, 0, none⟩), .agg #[.int .i8 (P0 0), .int .i8 (P0 1), .int .i8 (P0 2), .int .i8 (P0 3), .int .i8 (P0 4), .int .i8 (P0 5), .int .i8 (P0 6), .int .i8 (P0 7), .int .i8 (P0 8)], .func (.func 96) #[] #[.pointer (some ⟨bq, 0, none⟩), .pointer (some ⟨bb, 0, none⟩)], .agg #[.int .i8 (PX 0), .int .i8 (PX 1), .int .i8 (PX 2), .int .i8 (PX 3), .int .i8 (PX 4), .int .i8 (PX 5), .int .i8 (PX 6), .int .i8 (PX 7), .int .i8 (PX 8)], x28, x29, x30, x31, x32, x33, x34, x35, x36, x37, x38, x39, x40, x41, x42, x43, x44, x45, x46, x47, x48, x49, x50, x51], defers := [] } (W.alloc (.cells (nineL PX).toArray 82))) := by
      refine hK _ M2 _ ⟨Same.alloc _ _ _, fun b h => .inl h⟩ ⟨hb2.trans ⟨Same.alloc _ _ _, fun b h => .inl h⟩, Mo2, par2, nv2, hg2.below HJ.out (below_alloc_refl _ _)⟩ ⟨W.heap.size, ?_, ?_, hb2.1.size, fun h => by have := hlt2 _ h; omega⟩
      ·rw [hPX]; rfl
      ·rw [hPX]; exact row_new 82 W (nineL PX).toArray
     clear hb2 hg2 hK hlt2
     simp only [encP, nineV, hPX]
     gi_wp2
     exact HK.out
    case body =>
     clear hbql hbbl
     rintro l' pre x M2 a' W ⟨hb2, Mo2, par2, nv2, hg2⟩ ⟨bx, rfl, rbx, hbx1, hbx2⟩ ⟨post, hpost⟩
     have hxm : x ∈ nbrL E N q := by rw [hpost]; simp
     have hxP : PosP N x := nbrL_pos HQP.out x hxm
     have hlt2 := hg2.lt HJ.out
     have hsz2 : wz.heap.size ≤ W.heap.size := hb2.1.size
     have hfew := mid_few HP.out HQL.out hpost
     have hf9 := fact_mono hN9
     rw [fact9] at hf9
     have htail := mid_tail E N p k i pre
     have hz : ∀ b, b < wz.heap.size → ¬ M' b → ¬ M2 b := fun b h1 h2 h3 => (hb2.2 b h3).elim h2 fun h => by omega
     have z1 := hz B0 (by omega) fS.2
     have z2 := hz (B0 + 1) (by omega) fY.2
     have z3 := hz PB (by omega) hP4
     have rS : Row 119 W B0 [.pointer (some ⟨sg, 0, none⟩)] := hb2.1.row HS4.out fS.2
     have rY : Row 133 W (B0 + 1) [.func (.yield l) #[] #[]] := hb2.1.row HY4.out fY.2
     have rQ : Row 82 W PB (nineL P0) := hb2.1.row HQ4.out hP4
     have hM2 := hg2.M
     have m1 : ∀ b, ¬ M2 b → b ≠ sg ∧ b ≠ m ∧ nv2.ownBlock ≠ some b ∧ ¬ Mo2 b := fun b hb => ⟨fun e => hb ((hM2 b).2 (.inr (.inl e))), fun e => hb ((hM2 b).2 (.inr (.inr (.inl e)))), fun e => hb ((hM2 b).2 (.inr (.inr (.inr e)))), fun e => hb ((hM2 b).2 (.inl e))⟩
     obtain ⟨PX, hPX⟩ : ∃ PX, posF x x.length = PX := ⟨_, rfl⟩
     rw [hPX] at rbx
     have ks := rS.cell 0
     obtain ⟨b0, b1, b2, b3, b4, b5, b6, b7, b8⟩ := nine_cells rbx
     simp only [List.getElem?_cons_zero] at ks
     have HKN := Lib.hid (knows_go N sg g m nv2 par2 x W hg2.sr hg2.map hN9 hxP)
     rw [hPX] at HKN
     unfold nineV at HKN
     have HG2 := Lib.hid hg2
     have HB2 := Lib.hid hb2
     have HRS := Lib.hid rS
     have HRY := Lib.hid rY
     have HRQ := Lib.hid rQ
     have HRX := Lib.hid rbx
     have HPX := Lib.hid hPX
     have HXM := Lib.hid hxm
     have HXP := Lib.hid hxP
     have HM1 := Lib.hid m1
     have HPOST := Lib.hid hpost
     have HTAIL := Lib.hid htail
     have HFEW := Lib.hid hfew
     have HLT2 := Lib.hid hlt2
     have HZ2 := Lib.hid hM2
     clear hb2 hg2 rS rY rQ rbx hPX hxm hxP m1 hpost htail hlt2 hM2 hfew hz HS4 HY4 HQ4 HB4 HT4 HSQ HMK4 HMD4 HBD4 HGS4
     simp only [nineV, HPX.out]
     gi_wp2
     refine ⟨trivial, CallsIn.mono (((callsIn_wide (n := 3)).2 HKN.out).inRound l') ?_⟩
     rintro e w6 ⟨rfl, hb6⟩
     have HB6 := Lib.hid hb6
     clear hb6 b0 b1 b2 b3 b4 b5 b6 b7 b8 ks
     by_cases hold : x ∈ keysP par2
     ·have FIN : Hid (∃ M3, Bd M2 M3 W w6 ∧ Bd M' M3 wz w6 ∧ ∃ Mo par nv, GS J E N p (B0 + 2) sg g m (midS E N p k i (pre ++ [x])) M3 Mo par nv w6) := by
       have hbd : Bd M2 M2 W w6 := ⟨Same.of_below HB6.out fun x hx _ => hx, fun b h => .inl h⟩
       refine ⟨M2, hbd, HB2.out.trans hbd, Mo2, par2, nv2, ?_⟩
       rw [mid_snoc_old (by rw [← HG2.out.keys]; exact hold)]
       exact HG2.out.below HJ.out HB6.out
      rw [decide_eq_true hold]
      gi_wp2
      exact FIN.out
     ·rw [decide_eq_false hold]
      obtain ⟨S, hS⟩ : ∃ S, midS E N p k i pre = S := ⟨_, rfl⟩
      have HS := Lib.hid hS
      rw [hS] at HG2 HTAIL HFEW
      have hx1 : x ∉ S.1 := by rw [← HG2.out.keys]; exact hold
      obtain ⟨p2, c2, hv2, hc21, hc22⟩ := HG2.out.own.len
      subst hv2
      have hS1 : S.1.length ≤ 362880 := by have := HFEW.out; omega
      have hS2 : S.2.length ≤ 362880 := by have := congrArg List.length HTAIL.out; rw [List.length_append] at this; omega
      have hkl : par2.length ≤ 362880 := by
       have := congrArg List.length HG2.out.keys
       unfold keysP at this
       rw [List.length_map] at this; omega
      have hob2 : ∀ b, (Value.slice p2 S.2.length c2).ownBlock = some b → b < W.heap.size ∧ B0 + 2 ≤ b := fun b hb => ⟨(HG2.out.own.ob_lt b hb).1, (HG2.out.own.ob_lt b hb).2.1⟩
      have hmap6 : MapAt N w6.drew m par2 := (HG2.out.map.below HB6.out).block rfl
      obtain ⟨X0, hX0⟩ : ∃ X0 : World, w6.drew = X0 := ⟨_, rfl⟩
      rw [hX0] at hmap6
      obtain ⟨X1, hrun, hmap1, hgr⟩ := hmap6.put (q := x) (v := q) hN9 HXP.out hold (by unfold maxLen; omega)
      rw [HPX.out, HP0.out] at hrun
      have sW0 : Same (fun b => b ≠ m) W X0 := by rw [← hX0]; exact (Same.of_below (K := fun b => b ≠ m) HB6.out fun x hx _ => hx).trans (Same.drew (fun _ => True) _) fun _ _ _ => trivial
      have sW1 : Same (fun b => b ≠ m) W X1 := sW0.trans (Same.of_grownBy (K := fun b => b ≠ m) hgr fun x hx e => hx (Option.some.inj e).symm) fun _ _ h => h
      obtain ⟨Y0, hY0⟩ : ∃ Y0 : World, X1.drew = Y0 := ⟨_, rfl⟩
      have sY0 : Same (fun b => b ≠ m) W Y0 := by rw [← hY0]; exact sW1.trans (Same.drew (fun _ => True) _) fun _ _ _ => trivial
      have hmapY0 : MapAt N Y0 m (par2 ++ [(x, q)]) := by rw [← hY0]; exact hmap1.block rfl
      obtain ⟨gb, hgb⟩ : ∃ gb, Y0.heap.size = gb := ⟨_, rfl⟩
      have rgb := row_new 82 Y0 (nineL PX).toArray
      obtain ⟨Y1, hY1⟩ : ∃ Y1, Y0.alloc (.cells (nineL PX).toArray 82) = Y1 := ⟨_, rfl⟩
      have hbY1 := below_alloc_refl Y0 (.cells (nineL PX).toArray 82)
      rw [hY1] at rgb hbY1
      rw [hgb] at rgb
      have hY1s : Y1.heap.size = gb + 1 := by rw [← hY1, World.size_alloc, hgb]
      have sY1 : Same (fun b => b ≠ m) W Y1 := sY0.trans (Same.of_below (K := fun b => b ≠ m) hbY1 fun x hx _ => hx) fun _ _ h => h
      have hmapY1 := hmapY0.below hbY1
      have hszW : W.heap.size ≤ Y1.heap.size := sY1.size
      have own1 := HG2.out.own.same sY1 (fun b hb => by have := hob2 b hb; omega)
      obtain ⟨nv3, Y2, own3, hg3, hob3, heq⟩ := exec_append9 (B0 + 2) Y1 _ S.2 x gb own1 (by rw [HPX.out]; exact rgb) (by omega) (by omega)
      obtain ⟨p3, c3, hv3, _, _⟩ := own3.len
      subst hv3
      have s12 : Same (fun b => (Value.slice p2 S.2.length c2).ownBlock ≠ some b) Y1 Y2 := Same.of_grownBy hg3 fun x hx => hx
      have hmapY2 := hmapY1.same s12 (fun e => by have := hob2 _ e; omega)
      have sr1 : SrchR Y1 sg g m (.slice p2 S.2.length c2) := sY1.row HG2.out.sr hsgm
      have sr2 : SrchR Y2 sg g m (.slice p2 S.2.length c2) := s12.row sr1 (fun e => by have := hob2 _ e; omega)
      have sr3 := Row.store sr2 2 (.slice p3 (S.2 ++ [x]).length c3)
      obtain ⟨Y3, hY3⟩ : ∃ Y3, Y2.setCell ⟨sg, 2, none⟩ (.slice p3 (S.2 ++ [x]).length c3) = Y3 := ⟨_, rfl⟩
      rw [hY3] at sr3
      have sr3' : SrchR Y3 sg g m (.slice p3 (S.2 ++ [x]).length c3) := sr3
      have s23 : Same (fun b => b ≠ sg) Y2 Y3 := by rw [← hY3]; exact Same.setCell _ _ _ fun h => h rfl
      have sWs : Same (fun b => b ≠ sg ∧ b ≠ m ∧ (Value.slice p2 S.2.length c2).ownBlock ≠ some b) W Y3 :=
       ((sY1.mono (K' := fun b => b ≠ sg ∧ b ≠ m ∧ (Value.slice p2 S.2.length c2).ownBlock ≠ some b) fun x _ h => h.2.1).trans s12 fun x _ h => h.2.2).trans s23 fun x _ h => h.1
      have hmapY3 := hmapY2.same s23 (fun e => hsgm e.symm)
      have hob3' : ∀ b, (Value.slice p3 (S.2 ++ [x]).length c3).ownBlock = some b → b ≠ sg ∧ (M2 b ∨ W.heap.size ≤ b) ∧ ¬ Mo2 b := fun b hb => by
       rcases hob3 with h | h
       ·rw [h] at hb
        have := hob2 b hb
        exact ⟨by omega, .inl ((HZ2.out b).2 (.inr (.inr (.inr hb)))), fun hm => (HG2.out.ap b hm).2.2 hb⟩
       ·rw [h] at hb
        have hbe := Option.some.inj hb
        exact ⟨by omega, .inr (by omega), fun hm => by have := HLT2.out b ((HZ2.out b).2 (.inl hm)); omega⟩
      have own3' := own3.same s23 (fun b hb => (hob3' b hb).1)
      have hJ3 : J S.2 Mo2 Y3 := HJ.out.stay _ _ _ _ HG2.out.J (sWs.mono fun b _ hk => by
       rcases hk with ⟨h1, h2⟩ | h1
       ·exact ⟨fun e => h2 (.inl e), fun e => h2 (.inr e), fun e => by have := hob2 _ e; omega⟩
       ·exact HG2.out.ap b h1)
      obtain ⟨M3, hM3⟩ : ∃ M3 : Nat → Prop, M3 = fun b => Mo2 b ∨ b = sg ∨ b = m ∨ (Value.slice p3 (S.2 ++ [x]).length c3).ownBlock = some b := ⟨_, rfl⟩
      have hbd3 : Bd M2 M3 W Y3 := by
       refine ⟨sWs.mono fun b _ hb => ⟨(HM1.out b hb).1, (HM1.out b hb).2.1, (HM1.out b hb).2.2.1⟩, fun b hb => ?_⟩
       rw [hM3] at hb
       rcases hb with h | h | h | h
       ·exact .inl ((HZ2.out b).2 (.inl h))
       ·exact .inl ((HZ2.out b).2 (.inr (.inl h)))
       ·exact .inl ((HZ2.out b).2 (.inr (.inr (.inl h))))
       ·exact (hob3' b h).2.1
      have hsnoc : midS E N p k i (pre ++ [x]) = (S.1 ++ [x], S.2 ++ [x]) := by rw [mid_snoc_new (by rw [hS]; exact hx1), hS]
      have hpre3 : S.2 ++ [x] <+: (lv E N p (k + 1)).2 := by
       have := mid_pre (p := p) (pre := pre ++ [x]) (post := post) HQL.out (by rw [HPOST.out]; simp)
       rw [hsnoc] at this; exact this
      have hnolv : x ∉ (lv E N p k).1 := fun h => hx1 (by rw [HTAIL.out]; exact List.mem_append_left _ h)
      have hpar3 : ParOK E N p (par2 ++ [(x, q)]) := HG2.out.par.add HQD.out (new_dist HQM.out HXM.out hnolv) HXM.out (by rw [HG2.out.keys, HTAIL.out]; exact List.mem_append_left _ (lv_sub E N p k q HQM.out))
      have hkey3 : keysP (par2 ++ [(x, q)]) = S.1 ++ [x] := by rw [keysP_snoc, HG2.out.keys]
      have FIN : Hid (∀ W6 M6, Bd Mo2 M6 Y3 W6 → (J (S.2 ++ [x]) M6 W6 → ∃ M4, Bd M2 M4 W W6 ∧ Bd M' M4 wz W6 ∧ ∃ Mo par nv, GS J E N p (B0 + 2) sg g m (midS E N p k i (pre ++ [x])) M4 Mo par nv W6) ∧
        (Jx (S.2 ++ [x]) M6 W6 → ∃ M4, Bd M2 M4 W W6 ∧ Bd M' M4 wz W6 ∧ ∃ Mo par nv xs, GX Jx E N p sg g m (lv E N p k).1 xs M4 Mo par nv W6 ∧ xs <+: (lv E N p (k + 1)).2)) := by
       intro W6 M6 hb6
       have hb7 : Bd M3 (fun b => M6 b ∨ b = sg ∨ b = m ∨ (Value.slice p3 (S.2 ++ [x]).length c3).ownBlock = some b) Y3 W6 := by
        refine ⟨hb6.1.mono fun b _ hb hm => hb (by rw [hM3]; exact .inl hm), fun b hb => ?_⟩
        rw [hM3]
        rcases hb with h | h
        ·exact (hb6.2 b h).elim (fun h => .inl (.inl h)) .inr
        ·exact .inl (.inr h)
       have hno : ∀ b, b < Y3.heap.size → ¬ Mo2 b → ¬ M6 b := fun b h1 h2 h3 => (hb6.2 b h3).elim h2 fun h => by omega
       have hsg3 : sg < Y3.heap.size := Row.lt sr3'
       have hm3 : m < Y3.heap.size := hmapY3.lt
       have nsg : ¬ Mo2 sg := fun h => (HG2.out.ap _ h).1 rfl
       have nm : ¬ Mo2 m := fun h => (HG2.out.ap _ h).2.1 rfl
       have hbW := hbd3.trans hb7
       refine ⟨fun hj => ⟨_, hbW, HB2.out.trans hbW, M6, par2 ++ [(x, q)], .slice p3 (S.2 ++ [x]).length c3, ?_⟩, fun hj => ⟨_, hbW, HB2.out.trans hbW, M6, par2 ++ [(x, q)], .slice p3 (S.2 ++ [x]).length c3, S.2 ++ [x], ⟨hj, fun b => Iff.rfl, hb6.1.row sr3' nsg, hmapY3.same hb6.1 nm, by rw [hkey3, HTAIL.out, List.append_assoc], hpar3, fun b hb => Nat.lt_of_lt_of_le (own3'.ob_lt b hb).1 hb6.1.size⟩, hpre3⟩⟩
       rw [hsnoc]
       refine ⟨hj, fun b => Iff.rfl, hb6.1.row sr3' nsg, hmapY3.same hb6.1 nm, hkey3, hpar3, own3'.same hb6.1 (fun b hb => (hob3' b hb).2.2), fun b hb => ⟨fun e => hno sg hsg3 nsg (e ▸ hb), fun e => hno m hm3 nm (e ▸ hb), fun e => hno b (own3'.ob_lt b e).1 (hob3' b e).2.2 hb⟩⟩
      obtain ⟨fn6, tmps6, assign6, body6, hy6, hR6⟩ := yieldAt_mono (yieldAt_in (l' := l') (k := 3) (HYY.out S.2 x Mo2 Y3 hJ3 (by obtain ⟨z, hz⟩ := hpre3; exact ⟨z, by rw [← hz]; simp⟩))) turn_bool
      dsimp only [encP, nineV] at hy6
      rw [HPX.out] at hy6
      have HYE := Lib.hid hy6
      have HRR := Lib.hid hR6
      have HRW : Hid (∀ X, Same (fun b => b ≠ m) W X → Row 119 X B0 [.pointer (some ⟨sg, 0, none⟩)] ∧ Row 133 X (B0 + 1) [.func (.yield l) #[] #[]] ∧ Row 82 X PB (nineL P0) ∧ Row 82 X bx (nineL PX) ∧ SrchR X sg g m (.slice p2 S.2.length c2)) := fun X hX =>
       ⟨hX.row HRS.out (by omega), hX.row HRY.out (by omega), hX.row HRQ.out (HM1.out PB z3).2.1, hX.row HRX.out (HM1.out bx hbx2).2.1, hX.row HG2.out.sr hsgm⟩
      have r1 := HRW.out Y1 sY1
      have rS2 : Row 119 Y2 B0 [.pointer (some ⟨sg, 0, none⟩)] := s12.row r1.1 (fun e => by have := hob2 _ e; omega)
      have rY3 : Row 133 Y3 (B0 + 1) [.func (.yield l) #[] #[]] := s23.row (s12.row r1.2.1 (fun e => by have := hob2 _ e; omega)) (by omega)
      have rX3 : Row 82 Y3 bx (nineL PX) := s23.row (s12.row r1.2.2.2.1 (HM1.out bx hbx2).2.2.1) (HM1.out bx hbx2).1
      have HX0R := Lib.hid (HRW.out X0 sW0)
      have HY0R := Lib.hid (HRW.out Y0 sY0)
      have HY1R := Lib.hid r1
      have HS2 := Lib.hid rS2
      have HY3R := Lib.hid rY3
      have HX3R := Lib.hid rX3
      have HSR2 := Lib.hid sr2
      have HRUN := Lib.hid hrun
      have HX0E := Lib.hid hX0
      have HY0E := Lib.hid hY0
      have HY1E : Hid (Y0.alloc (.cells #[.int .i8 (PX 0), .int .i8 (PX 1), .int .i8 (PX 2), .int .i8 (PX 3), .int .i8 (PX 4), .int .i8 (PX 5), .int .i8 (PX 6), .int .i8 (PX 7), .int .i8 (PX 8)] 82) = Y1) := hY1
      have HY3E := Lib.hid hY3
      have HGB := Lib.hid hgb
      have HEQ := Lib.hid heq
      clear hx1 hS1 hS2 hkl hob2 hmap6 hrun hmap1 hgr sW0 sW1 sY0 hmapY0 rgb hbY1 sY1 hmapY1 own1 own3 hg3 hob3 heq s12 hmapY2 sr1 sr2 sr3 sr3' s23 sWs hmapY3 hob3' own3' hJ3 hbd3 hsnoc hpre3 hnolv hpar3 hkey3 hy6 hR6 r1 rS2 rY3 rX3 hX0 hY0 hY1 hY3 hgb HRW hM3 hS hszW
      gi_wp2
      refine wpIn_region_det (by kernel_rfl) 52 rfl (nd_of (by kernel_rfl)) (by kernel_rfl) [6] (by kernel_rfl) (by decide) (fun j => match j with | 0 => .pointer (some ⟨sg, 0, none⟩) | 1 => .pointer (some ⟨sg, 0, none⟩) | 2 => .pointer (some ⟨sg, 1, none⟩) | 3 => .map (some m) | 4 => .agg #[.int .i8 (PX 0), .int .i8 (PX 1), .int .i8 (PX 2), .int .i8 (PX 3), .int .i8 (PX 4), .int .i8 (PX 5), .int .i8 (PX 6), .int .i8 (PX 7), .int .i8 (PX 8)] | 5 => .agg #[.int .i8 (P0 0), .int .i8 (P0 1), .int .i8 (P0 2), .int .i8 (P0 3), .int .i8 (P0 4), .int .i8 (P0 5), .int .i8 (P0 6), .int .i8 (P0 7), .int .i8 (P0 8)] | 6 => undef | _ => undef) (fun s => match s with | 0 => X0 | _ => X1) HX0E.out.symm ?hop ?hQ
      case hop =>
       intro i o hi s hs hok vs0 hv
       have hi' : i < 7 := (List.getElem?_eq_some_iff.1 hi).1
       have hs' : s ≤ 1 := hs
       have hs3 : s = 0 ∨ s = 1 := by clear hok hv hi hs; omega
       have hi3 : i = 0 ∨ i = 1 ∨ i = 2 ∨ i = 3 ∨ i = 4 ∨ i = 5 ∨ i = 6 := by clear hok hv hi hs hs3; omega
       clear hs hs' hi'
       rcases hi3 with rfl | rfl | rfl | rfl | rfl | rfl | rfl
       ·cases hi
        generalize hG : relUponIn _ _ _ = G9
        clear hv
        refine ⟨rfl, ?_⟩
        rcases hs3 with rfl | rfl
        ·first
          | (clear hok; subst hG; generalize hR : (fun (u : Value) (w2 : World) => u = _ ∧ w2 = _) = R; simp only [List.take_succ_cons, List.take_zero, putAll]; have k := HX0R.out.1.cell 0; simp only [List.getElem?_cons_zero] at k; go_simp; subst hR; exact ⟨rfl, rfl⟩)
        ·exact (okSt_no hok (by kernel_rfl)).elim
       ·cases hi
        generalize hG : relUponIn _ _ _ = G9
        have q0_ : vs0 0 = .pointer (some ⟨sg, 0, none⟩) := hv 0 (by decide +kernel)
        clear hv
        refine ⟨rfl, ?_⟩
        rcases hs3 with rfl | rfl
        ·first
          | (clear hok; subst hG; generalize hR : (fun (u : Value) (w2 : World) => u = _ ∧ w2 = _) = R; simp only [List.take_succ_cons, List.take_zero, putAll]; go_simp; subst hR; exact ⟨rfl, rfl⟩)
        ·exact (okSt_no hok (by kernel_rfl)).elim
       ·cases hi
        generalize hG : relUponIn _ _ _ = G9
        have q1_ : vs0 1 = .pointer (some ⟨sg, 0, none⟩) := hv 1 (by decide +kernel)
        clear hv
        refine ⟨rfl, ?_⟩
        rcases hs3 with rfl | rfl
        ·first
          | (clear hok; subst hG; generalize hR : (fun (u : Value) (w2 : World) => u = _ ∧ w2 = _) = R; simp only [List.take_succ_cons, List.take_zero, putAll]; go_simp; subst hR; exact ⟨rfl, rfl⟩)
        ·exact (okSt_no hok (by kernel_rfl)).elim
       ·cases hi
        generalize hG : relUponIn _ _ _ = G9
        have q2_ : vs0 2 = .pointer (some ⟨sg, 1, none⟩) := hv 2 (by decide +kernel)
        clear hv
        refine ⟨rfl, ?_⟩
        rcases hs3 with rfl | rfl
        ·first
          | (clear hok; subst hG; generalize hR : (fun (u : Value) (w2 : World) => u = _ ∧ w2 = _) = R; simp only [List.take_succ_cons, List.take_zero, putAll]; have k := Row.cell HX0R.out.2.2.2.2 1; simp only [List.getElem?_cons_zero, List.getElem?_cons_succ] at k; go_simp; subst hR; exact ⟨rfl, rfl⟩)
        ·exact (okSt_no hok (by kernel_rfl)).elim
       ·cases hi
        generalize hG : relUponIn _ _ _ = G9
        clear hv
        refine ⟨rfl, ?_⟩
        rcases hs3 with rfl | rfl
        ·clear hok
         subst hG
         generalize hX : Sem.run _ (execOp _ _) _ = r9
         simp only [List.take_succ_cons, List.take_zero, putAll] at hX
         rw [exec_load9 HX0R.out.2.2.2.1 rfl (by go_simp)] at hX
         subst hX
         exact ⟨rfl, rfl⟩
        ·exact (okSt_no hok (by kernel_rfl)).elim
       ·cases hi
        generalize hG : relUponIn _ _ _ = G9
        clear hv
        refine ⟨rfl, ?_⟩
        rcases hs3 with rfl | rfl
        ·clear hok
         subst hG
         generalize hX : Sem.run _ (execOp _ _) _ = r9
         simp only [List.take_succ_cons, List.take_zero, putAll] at hX
         rw [exec_load9 HX0R.out.2.2.1 rfl (by go_simp)] at hX
         subst hX
         exact ⟨rfl, rfl⟩
        ·exact (okSt_no hok (by kernel_rfl)).elim
       ·cases hi
        generalize hG : relUponIn _ _ _ = G9
        have q3_ : vs0 3 = .map (some m) := hv 3 (by decide +kernel)
        have q4_ : vs0 4 = .agg #[.int .i8 (PX 0), .int .i8 (PX 1), .int .i8 (PX 2), .int .i8 (PX 3), .int .i8 (PX 4), .int .i8 (PX 5), .int .i8 (PX 6), .int .i8 (PX 7), .int .i8 (PX 8)] := hv 4 (by decide +kernel)
        have q5_ : vs0 5 = .agg #[.int .i8 (P0 0), .int .i8 (P0 1), .int .i8 (P0 2), .int .i8 (P0 3), .int .i8 (P0 4), .int .i8 (P0 5), .int .i8 (P0 6), .int .i8 (P0 7), .int .i8 (P0 8)] := hv 5 (by decide +kernel)
        clear hv
        refine ⟨rfl, ?_⟩
        rcases hs3 with rfl | rfl
        ·first
          | (clear hok; subst hG; generalize hR : (fun (u : Value) (w2 : World) => u = _ ∧ w2 = _) = R; simp only [List.take_succ_cons, List.take_zero, putAll]; have hr := HRUN.out; unfold nineV at hr; go_simp; subst hR; exact ⟨rfl, rfl⟩)
        ·exact (okSt_no hok (by kernel_rfl)).elim
      case hQ =>
       intro vs0 hv
       have e0_ : vs0 0 = .pointer (some ⟨sg, 0, none⟩) := hv 0 (by decide)
       have e1_ : vs0 1 = .pointer (some ⟨sg, 0, none⟩) := hv 1 (by decide)
       have e2_ : vs0 2 = .pointer (some ⟨sg, 1, none⟩) := hv 2 (by decide)
       have e3_ : vs0 3 = .map (some m) := hv 3 (by decide)
       have e4_ : vs0 4 = .agg #[.int .i8 (PX 0), .int .i8 (PX 1), .int .i8 (PX 2), .int .i8 (PX 3), .int .i8 (PX 4), .int .i8 (PX 5), .int .i8 (PX 6), .int .i8 (PX 7), .int .i8 (PX 8)] := hv 4 (by decide)
       have e5_ : vs0 5 = .agg #[.int .i8 (P0 0), .int .i8 (P0 1), .int .i8 (P0 2), .int .i8 (P0 3), .int .i8 (P0 4), .int .i8 (P0 5), .int .i8 (P0 6), .int .i8 (P0 7), .int .i8 (P0 8)] := hv 5 (by decide)
       have e6_ : vs0 6 = undef := hv 6 (by decide)
       generalize hKK : Exit.then _ _ = KK
       simp only [putAll, e0_, e1_, e2_, e3_, e4_, e5_, e6_]
       clear hv e0_ e1_ e2_ e3_ e4_ e5_ e6_
       go_simp
       subst hKK
       gi_wp2
       refine wpIn_region_det (by kernel_rfl) 52 rfl (nd_of (by kernel_rfl)) (by kernel_rfl) [6, 7, 10] (by kernel_rfl) (by decide) (fun j => match j with | 0 => .pointer (some ⟨sg, 0, none⟩) | 1 => .pointer (some ⟨sg, 0, none⟩) | 2 => .pointer (some ⟨sg, 0, none⟩) | 3 => .pointer (some ⟨sg, 2, none⟩) | 4 => .slice p2 S.2.length c2 | 5 => .agg #[.int .i8 (PX 0), .int .i8 (PX 1), .int .i8 (PX 2), .int .i8 (PX 3), .int .i8 (PX 4), .int .i8 (PX 5), .int .i8 (PX 6), .int .i8 (PX 7), .int .i8 (PX 8)] | 6 => .slice (some ⟨gb, 0, none⟩) 1 1 | 7 => .slice p3 (S.2 ++ [x]).length c3 | 8 => .pointer (some ⟨sg, 0, none⟩) | 9 => .pointer (some ⟨sg, 2, none⟩) | 10 => undef | _ => undef) (fun s => match s with | 0 => Y0 | 1 => Y1 | 2 => Y2 | _ => Y3) HY0E.out.symm ?hop ?hQ
       case hop =>
        intro i o hi s hs hok vs0 hv
        have hi' : i < 11 := (List.getElem?_eq_some_iff.1 hi).1
        have hs' : s ≤ 3 := hs
        have hs3 : s = 0 ∨ s = 1 ∨ s = 2 ∨ s = 3 := by clear hok hv hi hs; omega
        have hi3 : i = 0 ∨ i = 1 ∨ i = 2 ∨ i = 3 ∨ i = 4 ∨ i = 5 ∨ i = 6 ∨ i = 7 ∨ i = 8 ∨ i = 9 ∨ i = 10 := by clear hok hv hi hs hs3; omega
        clear hs hs' hi'
        rcases hi3 with rfl | rfl | rfl | rfl | rfl | rfl | rfl | rfl | rfl | rfl | rfl
        ·cases hi
         generalize hG : relUponIn _ _ _ = G9
         clear hv
         refine ⟨rfl, ?_⟩
         rcases hs3 with rfl | rfl | rfl | rfl
         ·first
           | (clear hok; subst hG; generalize hR : (fun (u : Value) (w2 : World) => u = _ ∧ w2 = _) = R; simp only [List.take_succ_cons, List.take_zero, putAll]; have k := HY0R.out.1.cell 0; simp only [List.getElem?_cons_zero] at k; go_simp; subst hR; exact ⟨rfl, rfl⟩)
         ·first
           | (clear hok; subst hG; generalize hR : (fun (u : Value) (w2 : World) => u = _ ∧ w2 = _) = R; simp only [List.take_succ_cons, List.take_zero, putAll]; have k := HY1R.out.1.cell 0; simp only [List.getElem?_cons_zero] at k; go_simp; subst hR; exact ⟨rfl, rfl⟩)
         ·first
           | (clear hok; subst hG; generalize hR : (fun (u : Value) (w2 : World) => u = _ ∧ w2 = _) = R; simp only [List.take_succ_cons, List.take_zero, putAll]; have k := HS2.out.cell 0; simp only [List.getElem?_cons_zero] at k; go_simp; subst hR; exact ⟨rfl, rfl⟩)
         ·exact (okSt_no hok (by kernel_rfl)).elim
        ·cases hi
         generalize hG : relUponIn _ _ _ = G9
         clear hv
         refine ⟨rfl, ?_⟩
         rcases hs3 with rfl | rfl | rfl | rfl
         ·first
           | (clear hok; subst hG; generalize hR : (fun (u : Value) (w2 : World) => u = _ ∧ w2 = _) = R; simp only [List.take_succ_cons, List.take_zero, putAll]; have k := HY0R.out.1.cell 0; simp only [List.getElem?_cons_zero] at k; go_simp; subst hR; exact ⟨rfl, rfl⟩)
         ·first
           | (clear hok; subst hG; generalize hR : (fun (u : Value) (w2 : World) => u = _ ∧ w2 = _) = R; simp only [List.take_succ_cons, List.take_zero, putAll]; have k := HY1R.out.1.cell 0; simp only [List.getElem?_cons_zero] at k; go_simp; subst hR; exact ⟨rfl, rfl⟩)
         ·first
           | (clear hok; subst hG; generalize hR : (fun (u : Value) (w2 : World) => u = _ ∧ w2 = _) = R; simp only [List.take_succ_cons, List.take_zero, putAll]; have k := HS2.out.cell 0; simp only [List.getElem?_cons_zero] at k; go_simp; subst hR; exact ⟨rfl, rfl⟩)
         ·exact (okSt_no hok (by kernel_rfl)).elim
        ·cases hi
         generalize hG : relUponIn _ _ _ = G9
         have q1_ : vs0 1 = .pointer (some ⟨sg, 0, none⟩) := hv 1 (by decide +kernel)
         clear hv
         refine ⟨rfl, ?_⟩
         rcases hs3 with rfl | rfl | rfl | rfl
         ·first
           | (clear hok; subst hG; generalize hR : (fun (u : Value) (w2 : World) => u = _ ∧ w2 = _) = R; simp only [List.take_succ_cons, List.take_zero, putAll]; go_simp; subst hR; exact ⟨rfl, rfl⟩)
         ·first
           | (clear hok; subst hG; generalize hR : (fun (u : Value) (w2 : World) => u = _ ∧ w2 = _) = R; simp only [List.take_succ_cons, List.take_zero, putAll]; go_simp; subst hR; exact ⟨rfl, rfl⟩)
         ·first
           | (clear hok; subst hG; generalize hR : (fun (u : Value) (w2 : World) => u = _ ∧ w2 = _) = R; simp only [List.take_succ_cons, List.take_zero, putAll]; go_simp; subst hR; exact ⟨rfl, rfl⟩)
         ·exact (okSt_no hok (by kernel_rfl)).elim
        ·cases hi
         generalize hG : relUponIn _ _ _ = G9
         have q2_ : vs0 2 = .pointer (some ⟨sg, 0, none⟩) := hv 2 (by decide +kernel)
         clear hv
         refine ⟨rfl, ?_⟩
         rcases hs3 with rfl | rfl | rfl | rfl
         ·first
           | (clear hok; subst hG; generalize hR : (fun (u : Value) (w2 : World) => u = _ ∧ w2 = _) = R; simp only [List.take_succ_cons, List.take_zero, putAll]; go_simp; subst hR; exact ⟨rfl, rfl⟩)
         ·first
           | (clear hok; subst hG; generalize hR : (fun (u : Value) (w2 : World) => u = _ ∧ w2 = _) = R; simp only [List.take_succ_cons, List.take_zero, putAll]; go_simp; subst hR; exact ⟨rfl, rfl⟩)
         ·first
           | (clear hok; subst hG; generalize hR : (fun (u : Value) (w2 : World) => u = _ ∧ w2 = _) = R; simp only [List.take_succ_cons, List.take_zero, putAll]; go_simp; subst hR; exact ⟨rfl, rfl⟩)
         ·exact (okSt_no hok (by kernel_rfl)).elim
        ·cases hi
         generalize hG : relUponIn _ _ _ = G9
         have q3_ : vs0 3 = .pointer (some ⟨sg, 2, none⟩) := hv 3 (by decide +kernel)
         clear hv
         refine ⟨rfl, ?_⟩
         rcases hs3 with rfl | rfl | rfl | rfl
         ·first
           | (clear hok; subst hG; generalize hR : (fun (u : Value) (w2 : World) => u = _ ∧ w2 = _) = R; simp only [List.take_succ_cons, List.take_zero, putAll]; have k := Row.cell HY0R.out.2.2.2.2 2; simp only [List.getElem?_cons_zero, List.getElem?_cons_succ] at k; go_simp; subst hR; exact ⟨rfl, rfl⟩)
         ·first
           | (clear hok; subst hG; generalize hR : (fun (u : Value) (w2 : World) => u = _ ∧ w2 = _) = R; simp only [List.take_succ_cons, List.take_zero, putAll]; have k := Row.cell HY1R.out.2.2.2.2 2; simp only [List.getElem?_cons_zero, List.getElem?_cons_succ] at k; go_simp; subst hR; exact ⟨rfl, rfl⟩)
         ·exact (okSt_no hok (by kernel_rfl)).elim
         ·exact (okSt_no hok (by kernel_rfl)).elim
        ·cases hi
         generalize hG : relUponIn _ _ _ = G9
         clear hv
         refine ⟨rfl, ?_⟩
         rcases hs3 with rfl | rfl | rfl | rfl
         ·clear hok
          subst hG
          generalize hX : Sem.run _ (execOp _ _) _ = r9
          simp only [List.take_succ_cons, List.take_zero, putAll] at hX
          rw [exec_load9 HY0R.out.2.2.2.1 rfl (by go_simp)] at hX
          subst hX
          exact ⟨rfl, rfl⟩
         ·exact (okSt_no hok (by kernel_rfl)).elim
         ·exact (okSt_no hok (by kernel_rfl)).elim
         ·exact (okSt_no hok (by kernel_rfl)).elim
        ·cases hi
         generalize hG : relUponIn _ _ _ = G9
         have q5_ : vs0 5 = .agg #[.int .i8 (PX 0), .int .i8 (PX 1), .int .i8 (PX 2), .int .i8 (PX 3), .int .i8 (PX 4), .int .i8 (PX 5), .int .i8 (PX 6), .int .i8 (PX 7), .int .i8 (PX 8)] := hv 5 (by decide +kernel)
         clear hv
         refine ⟨rfl, ?_⟩
         rcases hs3 with rfl | rfl | rfl | rfl
         ·first
           | (clear hok; subst hG; generalize hR : (fun (u : Value) (w2 : World) => u = _ ∧ w2 = _) = R; simp only [List.take_succ_cons, List.take_zero, putAll]; have hg1 := HGB.out; have hg2 := HY1E.out; go_simp; subst hR; exact ⟨rfl, rfl⟩)
         ·exact (okSt_no hok (by kernel_rfl)).elim
         ·exact (okSt_no hok (by kernel_rfl)).elim
         ·exact (okSt_no hok (by kernel_rfl)).elim
        ·cases hi
         generalize hG : relUponIn _ _ _ = G9
         have q4_ : vs0 4 = .slice p2 S.2.length c2 := hv 4 (by decide +kernel)
         have q6_ : vs0 6 = .slice (some ⟨gb, 0, none⟩) 1 1 := hv 6 (by decide +kernel)
         clear hv
         refine ⟨rfl, ?_⟩
         rcases hs3 with rfl | rfl | rfl | rfl
         ·exact (okSt_no hok (by kernel_rfl)).elim
         ·clear hok
          subst hG
          generalize hX : Sem.run _ (execOp _ _) _ = r9
          simp only [List.take_succ_cons, List.take_zero, putAll] at hX
          rw [HEQ.out _ _ _ _ rfl rfl (by go_simp) (by go_simp)] at hX
          subst hX
          exact ⟨rfl, rfl⟩
         ·exact (okSt_no hok (by kernel_rfl)).elim
         ·exact (okSt_no hok (by kernel_rfl)).elim
        ·cases hi
         generalize hG : relUponIn _ _ _ = G9
         have q0_ : vs0 0 = .pointer (some ⟨sg, 0, none⟩) := hv 0 (by decide +kernel)
         clear hv
         refine ⟨rfl, ?_⟩
         rcases hs3 with rfl | rfl | rfl | rfl
         ·exact (okSt_no hok (by kernel_rfl)).elim
         ·exact (okSt_no hok (by kernel_rfl)).elim
         ·first
           | (clear hok; subst hG; generalize hR : (fun (u : Value) (w2 : World) => u = _ ∧ w2 = _) = R; simp only [List.take_succ_cons, List.take_zero, putAll]; go_simp; subst hR; exact ⟨rfl, rfl⟩)
         ·first
           | (clear hok; subst hG; generalize hR : (fun (u : Value) (w2 : World) => u = _ ∧ w2 = _) = R; simp only [List.take_succ_cons, List.take_zero, putAll]; go_simp; subst hR; exact ⟨rfl, rfl⟩)
        ·cases hi
         generalize hG : relUponIn _ _ _ = G9
         have q8_ : vs0 8 = .pointer (some ⟨sg, 0, none⟩) := hv 8 (by decide +kernel)
         clear hv
         refine ⟨rfl, ?_⟩
         rcases hs3 with rfl | rfl | rfl | rfl
         ·exact (okSt_no hok (by kernel_rfl)).elim
         ·exact (okSt_no hok (by kernel_rfl)).elim
         ·first
           | (clear hok; subst hG; generalize hR : (fun (u : Value) (w2 : World) => u = _ ∧ w2 = _) = R; simp only [List.take_succ_cons, List.take_zero, putAll]; go_simp; subst hR; exact ⟨rfl, rfl⟩)
         ·exact (okSt_no hok (by kernel_rfl)).elim
        ·cases hi
         generalize hG : relUponIn _ _ _ = G9
         have q9_ : vs0 9 = .pointer (some ⟨sg, 2, none⟩) := hv 9 (by decide +kernel)
         have q7_ : vs0 7 = .slice p3 (S.2 ++ [x]).length c3 := hv 7 (by decide +kernel)
         clear hv
         refine ⟨rfl, ?_⟩
         rcases hs3 with rfl | rfl | rfl | rfl
         ·exact (okSt_no hok (by kernel_rfl)).elim
         ·exact (okSt_no hok (by kernel_rfl)).elim
         ·first
           | (clear hok; subst hG; generalize hR : (fun (u : Value) (w2 : World) => u = _ ∧ w2 = _) = R; simp only [List.take_succ_cons, List.take_zero, putAll]; have k := Row.cell HSR2.out 2; have f := Row.free HSR2.out 2; simp only [List.getElem?_cons_zero, List.getElem?_cons_succ] at k; go_simp; subst hR; exact ⟨rfl, (by show _ = Y3; rw [← HY3E.out, List.length_append, List.length_singleton])⟩)
         ·exact (okSt_no hok (by kernel_rfl)).elim
       case hQ =>
        intro vs0 hv
        have e0_ : vs0 0 = .pointer (some ⟨sg, 0, none⟩) := hv 0 (by decide)
        have e1_ : vs0 1 = .pointer (some ⟨sg, 0, none⟩) := hv 1 (by decide)
        have e2_ : vs0 2 = .pointer (some ⟨sg, 0, none⟩) := hv 2 (by decide)
        have e3_ : vs0 3 = .pointer (some ⟨sg, 2, none⟩) := hv 3 (by decide)
        have e4_ : vs0 4 = .slice p2 S.2.length c2 := hv 4 (by decide)
        have e5_ : vs0 5 = .agg #[.int .i8 (PX 0), .int .i8 (PX 1), .int .i8 (PX 2), .int .i8 (PX 3), .int .i8 (PX 4), .int .i8 (PX 5), .int .i8 (PX 6), .int .i8 (PX 7), .int .i8 (PX 8)] := hv 5 (by decide)
        have e6_ : vs0 6 = .slice (some ⟨gb, 0, none⟩) 1 1 := hv 6 (by decide)
        have e7_ : vs0 7 = .slice p3 (S.2 ++ [x]).length c3 := hv 7 (by decide)
        have e8_ : vs0 8 = .pointer (some ⟨sg, 0, none⟩) := hv 8 (by decide)
        have e9_ : vs0 9 = .pointer (some ⟨sg, 2, none⟩) := hv 9 (by decide)
        have e10_ : vs0 10 = undef := hv 10 (by decide)
        generalize hKK : Exit.then _ _ = KK
        simp only [putAll, e0_, e1_, e2_, e3_, e4_, e5_, e6_, e7_, e8_, e9_, e10_]
        clear hv e0_ e1_ e2_ e3_ e4_ e5_ e6_ e7_ e8_ e9_ e10_
        go_simp
        subst hKK
        have k := HY3R.out.cell 0
        simp only [List.getElem?_cons_zero] at k
        obtain ⟨a0, a1, a2, a3, a4, a5, a6, a7, a8⟩ := nine_cells HX3R.out
        have hy := HYE.out
        gi_wp2
        refine HRR.out.mono ?_
        rintro e W6 ⟨M6, bo, rfl, hb6, ht6, hf6⟩
        have HT6 := Lib.hid ht6
        have HF6 := Lib.hid hf6
        have HB7 := Lib.hid hb6
        clear hb6 ht6 hf6
        cases bo with
        | true =>
         gi_wp2
         exact (FIN.out _ _ HB7.out).1 (by first | exact HT6.out rfl | exact HT6.out trivial | exact HT6.out)
        | false =>
         gi_wp2
         obtain ⟨M4, h1, h2, h3⟩ := (FIN.out _ _ HB7.out).2 (by first | exact HF6.out rfl | exact HF6.out trivial | exact HF6.out)
         exact ⟨M4, h1, rfl, h2, h3⟩
    case done =>
     rintro D xs M2 W5 hD hnD rfl ⟨hb2, Mo2, par2, nv2, hg2⟩ hK
     rw [show midS E N p k i (nbrL E N q) = pt E N p k (i + 1) from (pt_next HQL.out).symm] at hg2
     have hmk6 := HMK4.out.cons (HMK4.out.same hb2.1 HMD4.out) hD (by omega) hK
     have hbd6 := HBD4.out.trans hb2
     have hmlt := HMK4.out.lt
     have hmd6 : ∀ D', mark D' ∈ ({ target := .collected D, args := #[] } :: ds) → ¬ M2 D' := fun D' h => by
      rcases List.mem_cons.1 h with h | h
      ·have : D' = D := by unfold mark at h; simpa using h
       rw [this]; exact hnD
      ·exact fun h2 => (hb2.2 _ h2).elim (HMD4.out D' h) fun h3 => by have := hmlt D' h; omega
     have HA := Lib.hid hmk6
     have HB := Lib.hid hbd6
     have HC := Lib.hid hmd6
     have HD := Lib.hid hg2
     clear hmk6 hbd6 hmlt hmd6 hg2 hb2 hK hnD HS4 HY4 HQ4 HB4 HT4 HSQ HMK4 HMD4 HBD4 HGS4
     have gwi : IntKind.i64.wrap ((i : Int) + 1) = (i : Int) + 1 := by rw [show (i : Int) + 1 = ((i + 1 : Nat) : Int) by omega]; exact IntWalk.i64_in _ (by omega)
     go_wp2
     refine ⟨⟨i + 1, _, par2, nv2, Mo2, M2, _, _, _, _, _, _, _, _, _, _, _, _, _, _, _, _, _, _, _, _, _, _, _, _, _, _, _, _, _, _, _, _, _, _, _, _, _, rfl, by omega, HB.out, HD.out, HA.out, HC.out⟩, ?_⟩
     simp [intOf]
     omega
    case stop =>
     rintro D c xs M2 W5 hD hnD hpre ⟨rfl, hb2, Mo2, par2, nv2, ys, hg2, hys⟩ hK
     have hmk6 := HMK4.out.cons (HMK4.out.same hb2.1 HMD4.out) hD (by omega) hK
     have hmlt := HMK4.out.lt
     have hmd6 : ∀ D', mark D' ∈ ({ target := .collected D, args := #[] } :: ds) → ¬ M2 D' := fun D' h => by
      rcases List.mem_cons.1 h with h | h
      ·have : D' = D := by unfold mark at h; simpa using h
       rw [this]; exact hnD
      ·exact fun h2 => (hb2.2 _ h2).elim (HMD4.out D' h) fun h3 => by have := hmlt D' h; omega
     have HA := Lib.hid hmk6
     have HC := Lib.hid hmd6
     have HD := Lib.hid hg2
     clear hmk6 hmlt hmd6 hg2 hb2 hK hnD HS4 HY4 HQ4 HB4 HT4 HSQ HMK4 HMD4 HBD4 HGS4
     go_wp2
     refine (HQ.out _ _ ?_).1
     refine marks_same HA.out fun w' hs => ⟨.tuple #[], by simp [results, Tryd.results88, go_sem], ⟨_, rfl⟩, .inr ⟨ys, Mo2, ⟨hys, par2, nv2, hs.row HD.out.sr (fun h => by have := HA.out.ge _ h; omega), HD.out.map.same hs (fun h => by have := HA.out.ge _ h; omega), HD.out.keys, HD.out.par⟩, HJX.out.stay _ _ _ _ HD.out.J (hs.mono fun b _ hk => ?_)⟩⟩
     rcases hk with ⟨h1, _⟩ | h1
     ·exact fun h => by have := HA.out.ge _ h; omega
     ·exact fun h => HC.out b h ((HD.out.M b).2 (.inl h1))
  ·obtain rfl : L.length = i := by omega
   have hpt : pt E N p k L.length = lv E N p (k + 1) := by rw [← HL.out]; exact pt_last E N p k
   rw [hpt] at hgs
   have HD := Lib.hid hgs
   have HA := Lib.hid hmk
   have HC := Lib.hid hmd
   have HSZ := Lib.hid hszr
   clear hgs hmk hmd hbd hfz hMlt hpt
   go_wp2
   refine (HQ.out _ _ ?_).2
   refine marks_same HA.out fun w' hs => ⟨.tuple #[], by simp [results, Tryd.results88, go_sem], ⟨_, rfl⟩, .inl ⟨(lv E N p (k + 1)).2, Mo, ⟨rfl, par', nv', hs.row HD.out.sr (fun h => by have := HA.out.ge _ h; omega), HD.out.map.same hs (fun h => by have := HA.out.ge _ h; omega), HD.out.keys, HD.out.par, (HD.out.own.base (Nat.zero_le _)).same hs (fun b hb h => HC.out b h ((HD.out.M b).2 (.inr (.inr (.inr hb))))), fun b hb => by have := (HD.out.own.ob_lt b hb).2.1; omega⟩, HJ.out.stay _ _ _ _ HD.out.J (hs.mono fun b _ hk => ?_)⟩⟩
   rcases hk with ⟨h1, _⟩ | h1
   ·exact fun h => by have := HA.out.ge _ h; omega
   ·exact fun h => HC.out b h ((HD.out.M b).2 (.inl h1))
end Go.Proofs.YtllhejjcmfiebaaDoor
