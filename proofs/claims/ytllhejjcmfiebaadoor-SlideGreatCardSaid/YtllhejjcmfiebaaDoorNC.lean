/- The search: levels. -/
import Derived.Test.YtllhejjcmfiebaaDoorN9
import Derived.Test.YtllhejjcmfiebaaDoorF6
import Derived.Test.YtllhejjcmfiebaaDoorS31
import Derived.Test.YtllhejjcmfiebaaDoorAwake
set_option linter.unusedVariables false
set_option linter.unusedSimpArgs false
set_option linter.unnecessarySimpa false
namespace Go.Proofs.YtllhejjcmfiebaaDoor
open Go.RowKit Go.Shelf
theorem wpList_append_boxN {P : Program} (W : World) {ops : Array Oper} {rest : List Oper} {o : Oper} {a : Act} {Q : Exit → Act → World → Prop} (hgd : o.guard = none) (s x : Operand) (t : TypeId)
  (ho : o.op = .call { callee := .builtin .append, args := #[s, x], argTypes := #[t, t] })
  (e : TypeId) (z : Value) (bytes : Nat) (ht : P.underlying t = some (.slice e)) (hinfo : (P.info? e).map (fun i => (i.zero, i.size, i.bytes)) = some (some z, 1, bytes)) (hz : z.cells.size = 1) (hby : bytes ≤ 100)
  (base : Nat) (v : Value) (xs : List Value) (hs : a.eval s = v) (hown : Own e base W v xs)
  (u : Value) (hx : a.eval x = .slice (some ⟨W.heap.size, 0, none⟩) 1 1) (h1 : u.oneCell' = true) (hlen : xs.length ≤ 1000000) (hbase : base ≤ W.heap.size)
  (h : ∀ v' w', Own e base w' v' (xs ++ [u]) → Below base W w' → W.grownBy w' v.ownBlock → (v'.ownBlock = v.ownBlock ∨ v'.ownBlock = some (W.heap.size + 1)) → wpList P ops Q rest (a.put o.dst v') w') : wpList P ops Q (o :: rest) a (W.alloc (.cells #[u] e)) := by
 obtain ⟨i, hi, hz0, hz1, hz2⟩ := info_parts hinfo
 have hown2 := World.ownsRow.alloc hown (.cells #[u] e)
 refine wpList_append_own_at _ hgd s x t ho base e i z 1 bytes ht hi hz0 hz1 hz2 hz (by decide) v xs.length xs hs hown2 ⟨W.heap.size, 0, none⟩ 1 1 [u] hx (by simp) ?_ ?_ ?_ ?_ ?_ ?_
 ·intro j y hj
  have hj1 : j < 1 := (List.getElem?_eq_some_iff.1 hj).1
  have : j = 0 := by omega
  subst this
  have := (row_new e W #[u]).cell 0
  rw [add_none]; simpa using this.trans hj
 ·intro y hy; simp at hy; subst hy; exact h1
 ·simp [maxLen]; omega
 ·have : (xs.length + 1) * bytes ≤ 1000001 * 100 := Nat.mul_le_mul (by omega) hby
  omega
 ·simp; omega
 ·intro v' w' hown' hg _ hat
  refine h v' w' ?_ ?_ ?_ ?_
  ·show w'.ownsRow base e 1 v' (xs ++ [u]).length (xs ++ [u])
   rw [List.length_append]; exact hown'
  ·exact ((Below.refl base W).alloc hbase _).grown hg (by simp; omega) (fun k hk => (World.ownsRow.lt hown k hk).1)
  ·have hs2 := hg.size
   rw [World.size_alloc] at hs2
   exact ⟨hg.os, hg.tape, hg.output, by omega, fun k hk hne => (hg.block k (by rw [World.size_alloc]; omega) hne).trans (Below.heap_alloc _ _ _ hk)⟩
  ·rw [World.size_alloc] at hat; exact hat
set_option maxRecDepth 100000 in
set_option maxHeartbeats 2000000 in
theorem info76 : (Tryd.prog.info? 76).map (fun i => (i.zero, i.size, i.bytes)) = some (some (.slice none 0 0), 1, 24) := by kernel_rfl
theorem und116 : Tryd.prog.underlying 116 = some (.slice 76) := by kernel_rfl
def lenV : Value → Nat
 | .slice _ n _ => n
 | _ => 0
theorem own_block {T base : Nat} {w : World} {v : Value} {xs : List Value} (h : Own T base w v xs) : ∀ b, v.ownBlock = some b → base ≤ b ∧ ∃ ys, Row T w b ys := by
 rcases h.form_ with ⟨rfl, rfl⟩ | ⟨g, cap, more, rfl, hg, _, _, _, hr⟩
 ·intro b hb; cases hb
 ·intro b hb
  have : g = b := by simpa [Value.ownBlock] using hb
  subst this
  exact ⟨hg, _, hr⟩
structure LvI (E : Es) (N : Nat) (p : List Int) (B sg g m : Nat) (w : World) (k : Nat) (vs : List Value) (ov uv : Value) (wr : World) : Prop where
 out : Own 76 B wr ov vs
 len : vs.length = k
 el : ∀ (j : Nat) (u : Value), vs[j]? = some u → OwnK 82 9 B wr u (lv E N p j).2.length (posC (lv E N p j).2)
 cur : OwnK 82 9 B wr uv (lv E N p k).2.length (posC (lv E N p k).2)
 at_ : SearchAt E N p sg g m k wr
 bel : Below B w wr
 ne : ∀ j, j < k → (lv E N p j).2 ≠ []
theorem LvI.push {E : Es} {N : Nat} {p : List Int} {B sg g m k : Nat} {w wr w' : World} {vs : List Value} {ov uv ov' : Value} (h : LvI E N p B sg g m w k vs ov uv wr) (hB : B ≤ wr.heap.size) (ho : Own 76 B w' ov' (vs ++ [uv])) (hg : wr.grownBy w' ov.ownBlock) (hb : Below B wr w') :
  SearchAt E N p sg g m k w' ∧ (∀ (j : Nat) (u : Value), (vs ++ [uv])[j]? = some u → OwnK 82 9 B w' u (lv E N p j).2.length (posC (lv E N p j).2)) ∧ Below B w w' := by
 have hne : ∀ {T b : Nat} {xs : List Value}, Row T wr b xs → T ≠ 76 → ov.ownBlock ≠ some b := fun hr hT e => by
  obtain ⟨_, ys, hr2⟩ := own_block h.out _ e
  exact hT (hr2.only ⟨_, hr⟩)
 have hs : Same (fun b => ov.ownBlock ≠ some b) wr w' := Same.of_grownBy hg fun x hx => hx
 have hk : ∀ {u n xs}, OwnK 82 9 B wr u n xs → OwnK 82 9 B w' u n xs := fun h => h.same hs fun b hb => by
  obtain ⟨_, _, ys, hr⟩ := h.ob_lt b hb
  exact hne hr (by decide)
 refine ⟨?_, fun j u hj => ?_, h.bel.trans hb⟩
 ·obtain ⟨par, nv, a, b, _⟩ := h.at_
  refine h.at_.same hs (hne a (by decide)) (fun e => ?_) (fun b xs hr => hne hr (by decide))
  obtain ⟨_, ys, hr2⟩ := own_block h.out _ e
  obtain ⟨D, ⟨es, clock, hh, _⟩, _⟩ := b
  unfold Row at hr2
  rw [hr2] at hh; cases hh
 ·by_cases hjl : j < vs.length
  ·rw [List.getElem?_append_left hjl] at hj
   exact hk (h.el j u hj)
  ·rw [List.getElem?_append_right (by omega)] at hj
   have h1 := (List.getElem?_eq_some_iff.1 hj).1
   rw [List.length_singleton] at h1
   have h2 : j - vs.length = 0 := by omega
   rw [h2] at hj
   cases hj
   have : j = k := by have := h.len; omega
   subst this
   exact hk h.cur
theorem own_sameN {T base : Nat} {w w' : World} {v : Value} {xs : List Value} {K : Nat → Prop} (h : Own T base w v xs) (hs : Same K w w') (hK : ∀ b, v.ownBlock = some b → K b) : Own T base w' v xs := OwnK.same h hs hK
set_option maxRecDepth 100000 in
set_option maxHeartbeats 4000000 in
theorem levels_go (N g : Nat) (E : Es) (p : List Int) (w : World) (hp : PosP N p) (hN2 : 2 ≤ N) (hN9 : N ≤ 9) (hE : Lt E N) (hne : Ne2 E) (hb : BoardR w g N E) (hT : Tab w) :
  Calls Tryd.prog 74 #[.pointer (some ⟨g, 0, none⟩), nineV (posF p p.length)] w fun e w' => ∃ (v : Value) (vs : List Value) (k : Nat), e = .returned v ∧ LastAt E N p k ∧ Own 76 w.heap.size w' v vs ∧ vs.length = k + 1 ∧ (∀ (j : Nat) (u : Value), vs[j]? = some u → OwnK 82 9 w.heap.size w' u (lv E N p j).2.length (posC (lv E N p j).2)) ∧ Below w.heap.size w w' := by
 obtain ⟨P0, hP0⟩ : ∃ P0, posF p p.length = P0 := ⟨_, rfl⟩
 have hb1 := row_new 82 w (nineL P0).toArray
 have hbw1 := below_alloc_refl w (.cells (nineL P0).toArray 82)
 obtain ⟨B, hB⟩ : ∃ B, w.heap.size = B := ⟨_, rfl⟩
 obtain ⟨W1, hW1⟩ : ∃ W1, w.alloc (.cells (nineL P0).toArray 82) = W1 := ⟨_, rfl⟩
 rw [hW1] at hb1 hbw1
 rw [hB] at hb1
 have hW : w.alloc (.cells #[.int .i8 (P0 0), .int .i8 (P0 1), .int .i8 (P0 2), .int .i8 (P0 3), .int .i8 (P0 4), .int .i8 (P0 5), .int .i8 (P0 6), .int .i8 (P0 7), .int .i8 (P0 8)] 82) = W1 := hW1
 have hW1s : W1.heap.size = B + 1 := by rw [← hW1, World.size_alloc, hB]
 have hgl : g < B := by rw [← hB]; exact Row.lt hb
 have HFR := Lib.hid (from_go N g p W1 hN9 hp)
 rw [hP0] at HFR
 unfold nineV at HFR
 obtain ⟨c0, c1, c2, c3, c4, c5, c6, c7, c8⟩ := nine_cells hb1
 have HBW := Lib.hid hbw1
 have HCO := Lib.hid (fun (sg m k : Nat) (W : World) (hs : SearchAt E N p sg g m k W) (hbl : Below w.heap.size w W) => collect_go N sg g m k E p W hp hN2 hN9 hE hne (Row.below hb hbl (Row.lt hb)) (hT.below hbl hT.lt) hs)
 have HP := Lib.hid hp
 have HP0 := Lib.hid hP0
 have hfl := fact_mono hN9
 rw [fact9] at hfl
 have HFL := Lib.hid (fun k (h : (lv E N p k).2 ≠ []) => Nat.lt_of_lt_of_le (lv_bound hp h) hfl)
 have HFW := Lib.hid (fun k => Nat.le_trans (lv_le (E := E) (N := N) (p := p) k) (Nat.le_trans (lv_few hp k) hfl))
 rw [hP0]
 clear hb1 hbw1 hp hb hT hP0 hW1 hfl hE hne
 unfold nineV
 rw [hB]
 go_enter Tryd.func74, Tryd.ntmps74
 go_wp2_with fail
 refine (HFR.out).mono ?_
 rintro e w2 ⟨sg, m, sb, rfl, hl1, hl2, hl3, hsr, hmp, hrw, hb2⟩
 have hb2w := HBW.out.trans (hb2.mono HBW.out.size)
 have hno : sb ≠ sg ∧ sb ≠ m ∧ sb ≠ g := by
  refine ⟨fun e => ?_, fun e => ?_, by omega⟩
  ·subst e
   exact absurd (Row.only hrw ⟨_, hsr⟩) (by decide)
  ·obtain ⟨D, ⟨es, clock, hh, _⟩, _⟩ := hmp
   unfold Row at hrw
   rw [e, hh] at hrw; cases hrw
 have hown : ∀ b, b ≤ sb → OwnK 82 9 b w2 (.slice (some ⟨sb, 0, none⟩) 1 1) (lv E N p 0).2.length (posC (lv E N p 0).2) := fun b hb => by
  refine OwnK.of_row (more := []) (n := 1) (cap := 1) ?_ hb (by decide) (by decide) rfl rfl
  have : posC (lv E N p 0).2 = nineL (posF p p.length) := by show nineL _ ++ [] = _; simp
  rw [this, List.append_nil, HP0.out]; exact hrw
 have hat : SearchAt E N p sg g m 0 w2 := ⟨[(p, p)], _, hsr, hmp, rfl, ParOK.start, hown 0 (by omega), fun b hb => by
  have : sb = b := by simpa [Value.ownBlock] using hb
  rw [← this]; exact hno⟩
 have HI : Hid (LvI E N p B sg g m w 0 [] (.slice none 0 0) (.slice (some ⟨sb, 0, none⟩) 1 1) w2) := ⟨World.ownsRow_nil _ _ _ _, rfl, (fun j u h => by cases h), hown B (by omega), hat, by rw [← hB]; exact hb2w, fun j h => by omega⟩
 have k2 := Row.cell hsr 2
 simp only [List.getElem?_cons_zero, List.getElem?_cons_succ] at k2
 have hsgB : B ≤ sg := by omega
 have hmB : B ≤ m := by omega
 clear c0 c1 c2 c3 c4 c5 c6 c7 c8 hW HFR HBW hsr hmp hrw hb2 hb2w hno hown hat
 go_wp2
 clear k2
 go_loopw [5, 7] (fun ov uv wr => ∃ (k : Nat) (vs : List Value), LvI E N p B sg g m w k vs ov uv wr) (fun ov _ _ => 362881 - lenV ov)
 case atStart => exact ⟨0, [], HI.out⟩
 case round =>
  obtain ⟨k, vs, hI⟩ := hrel
  have hszB : B ≤ wr.heap.size := by have := hI.bel.size; omega
  obtain ⟨pu, cu, hu, _, _⟩ := hI.cur.len
  obtain ⟨po, co, ho, _, _⟩ := OwnK.len hI.out
  subst hu
  subst ho
  have hvl := hI.len
  have HLI := Lib.hid hI
  clear hI
  by_cases h0 : 0 < (lv E N p k).2.length
  ·have hne0 : (lv E N p k).2 ≠ [] := List.length_pos_iff.1 h0
   have hkb := HFL.out k hne0
   have g0 : (0 : Int) < ((lv E N p k).2.length : Int) := by omega
   have HNE := Lib.hid hne0
   obtain ⟨n, hn⟩ : ∃ n, (lv E N p k).2.length = n := ⟨_, rfl⟩
   rw [hn] at g0 ⊢
   have HLI2 := HLI
   rw [hn] at HLI2
   clear hne0 h0
   go_wp2_with (first
    | (at_builtin; refine wpList_append_boxN wr rfl (.tmp 21) (.tmp 23) 116 rfl 76 (.slice none 0 0) 24 und116 info76 rfl (by omega) B (.slice po vs.length co) vs rfl HLI2.out.out (.slice pu n cu) rfl rfl (by omega) hszB ?_; intro v3 w3 hown3 hb3 hg3 hob3; have HPU := Lib.hid (HLI2.out.push hszB hown3 hg3 hb3); have HO3 := Lib.hid hown3; clear hown3 hb3 hg3 hob3)
    | (go_at_call 87; refine (HCO.out sg m k _ HPU.out.1 (by rw [hB]; exact HPU.out.2.2)).mono ?_; rintro e w4 ⟨u4, rfl, h41, h42, h43⟩; obtain ⟨p4, c4, hu4, _, _⟩ := h41.len; subst hu4; have H41 := Lib.hid h41; have H42 := Lib.hid h42; have H43 := Lib.hid h43; clear h41 h42 h43))
   have hsame : Same (fun b => b ≠ sg ∧ b ≠ m) w3 w4 := H43.out
   have hsz3 : B ≤ w3.heap.size := by have := HPU.out.2.2.size; omega
   have hnb : ∀ {T b : Nat} {xs : List Value}, Row T w3 b xs → T ≠ 125 → b ≠ sg ∧ b ≠ m := fun hr hT => by
    obtain ⟨par, nv, a, c, _⟩ := HPU.out.1
    refine ⟨fun e => ?_, fun e => ?_⟩
    ·subst e
     exact hT (hr.only ⟨_, a⟩).symm
    ·obtain ⟨D, ⟨es, clock, hh, _⟩, _⟩ := c
     unfold Row at hr
     rw [e, hh] at hr; cases hr
   have HNX : Hid (LvI E N p B sg g m w (k + 1) (vs ++ [.slice pu n cu]) v3 (.slice p4 (lv E N p (k + 1)).2.length c4) w4) := by
    refine ⟨own_sameN HO3.out hsame (fun b hb => ?_), by rw [List.length_append, hvl]; rfl, fun j u hj => (HPU.out.2.1 j u hj).same hsame (fun b hb => ?_), H41.out.base hsz3, H42.out, ?_, fun j hj => ?_⟩
    ·obtain ⟨_, ys, hr⟩ := own_block HO3.out b hb
     exact hnb hr (by decide)
    ·obtain ⟨_, _, ys, hr⟩ := (HPU.out.2.1 j u hj).ob_lt b hb
     exact hnb hr (by decide)
    ·have h1 := HPU.out.2.2
     exact ⟨hsame.os.trans h1.os, hsame.tape.trans h1.tape, hsame.output.trans h1.output, Nat.le_trans h1.size hsame.size, fun x hx => (hsame.block x (by omega) ⟨by omega, by omega⟩).trans (h1.block x hx)⟩
    ·by_cases hjk : j < k
     ·exact HLI.out.ne j hjk
     ·have : j = k := by omega
      rw [this]; exact HNE.out
   go_roundw
   case rel => exact ⟨k + 1, _, HNX.out⟩
   case measure =>
    obtain ⟨pv, cv, hv3, _, _⟩ := OwnK.len HO3.out
    subst hv3
    show 362881 - (vs ++ [Value.slice pu n cu]).length < 362881 - vs.length
    rw [List.length_append, List.length_singleton]
    omega
  ·have h00 : (lv E N p k).2 = [] := List.length_eq_zero_iff.1 (by omega)
   have hk0 : 0 < k := by
    refine Nat.pos_of_ne_zero fun e => ?_
    rw [e] at h00
    cases h00
   obtain ⟨k', rfl⟩ : ∃ k', k = k' + 1 := ⟨k - 1, by omega⟩
   have hl0 : (lv E N p (k' + 1)).2.length = 0 := by omega
   have FIN : Hid (∃ k, LastAt E N p k ∧ Own 76 B wr (.slice po vs.length co) vs ∧ vs.length = k + 1 ∧ (∀ (j : Nat) (u : Value), vs[j]? = some u → OwnK 82 9 B wr u (lv E N p j).2.length (posC (lv E N p j).2)) ∧ Below B w wr) :=
    ⟨k', ⟨HLI.out.ne k' (by omega), h00⟩, HLI.out.out, HLI.out.len, HLI.out.el, HLI.out.bel⟩
   rw [hl0]
   clear h00 h0
   go_wp2
   go_ret
   obtain ⟨kk, f1, f2, f3, f4, f5⟩ := FIN.out
   exact ⟨_, vs, kk, rfl, f1, f2, f3, f4, f5⟩
end Go.Proofs.YtllhejjcmfiebaaDoor
namespace Go.Proofs.YtllhejjcmfiebaaDoor
open Go.RowKit Go.Shelf
end Go.Proofs.YtllhejjcmfiebaaDoor
namespace Go.Proofs.YtllhejjcmfiebaaDoor
open Go.RowKit Go.Shelf
theorem okc {N : Nat} {l : Ps} (h : checkB N l = 0) : ∀ j, j < l.length → okAt N l j = true := by
 unfold checkB at h
 split at h
 ·split at h
  ·rename_i hb
   rw [Bool.and_eq_true, Int.toNat_natCast] at hb
   exact fun j hj => List.all_eq_true.1 hb.1 j (List.mem_range.2 hj)
  ·cases h
 ·cases h
theorem ne2_of {N : Nat} {l : Ps} (hn9 : N ≤ 9) (h : checkB N l = 0) : Ne2 (toE l) := by
 intro e he
 unfold toE at he
 obtain ⟨x, hx, rfl⟩ := List.mem_map.1 he
 obtain ⟨k, hk⟩ := List.getElem?_of_mem hx
 have hkl := (List.getElem?_eq_some_iff.1 hk).1
 have h1 := okc h k hkl
 unfold okAt at h1
 rw [List.getD_eq_getElem?_getD, hk] at h1
 obtain ⟨i, j, rfl, hij, _⟩ := edgeOk_lt h1 hn9
 dsimp only
 omega
theorem lv_nil {E : Es} {N : Nat} {p : List Int} {k : Nat} (h : (lv E N p k).2 = []) : ∀ d, (lv E N p (k + d)).2 = []
 | 0 => h
 | d + 1 => by
  show (growS (nbrL E N) ((lv E N p (k + d)).1, []) (lv E N p (k + d)).2).2 = []
  rw [lv_nil h d]; rfl
theorem LastAt.uniq {E : Es} {N : Nat} {p : List Int} {j k : Nat} (hj : LastAt E N p j) (hk : LastAt E N p k) : j = k := by
 rcases Nat.lt_trichotomy j k with h | h | h
 ·have := lv_nil hj.2 (k - (j + 1))
  rw [show j + 1 + (k - (j + 1)) = k by omega] at this
  exact absurd this hk.1
 ·exact h
 ·have := lv_nil hk.2 (j - (k + 1))
  rw [show k + 1 + (j - (k + 1)) = j by omega] at this
  exact absurd this hj.1
end Go.Proofs.YtllhejjcmfiebaaDoor
