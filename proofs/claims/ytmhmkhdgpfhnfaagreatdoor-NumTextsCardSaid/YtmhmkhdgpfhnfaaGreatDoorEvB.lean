/- An evaluator of closed calls, and that it is right: part B. -/
import Derived.Test.YtmhmkhdgpfhnfaaGreatDoorEvA
set_option linter.unusedVariables false
set_option linter.unusedSimpArgs false
set_option linter.unnecessarySimpa false
namespace Go.Ev
section
variable {ρ : Ren} {h h' : H} {w : World} {P : Program} {ev : Operand → Option AV} {a : Operand → Value}

theorem stringBytes_ok {src dst el : TypeId} {s : ByteArray} {b : Nat} (g : Good ρ h w) (h1 : und P dst = some (.slice el)) (h2 : und P src = some .string) (h3 : und P el = some (.int .u8))
    (hn : newRow h el (s.data.toList.map fun b => .val (.int .u8 b.toNat)) true true = some (b, h')) (hf : Fresh ρ h h') :
    OpOut P ρ h w (.value (.sliceE b 0 s.size 1)) h' ((do pure (.value (← convert src dst (.string s))) : Sem Next).run P w) := by
  have hq : (Question.appendCap s.size 0 el).forced = false := rfl
  let k := Question.cut (.appendCap s.size 0 el) (w.tape w.drawn (.appendCap s.size 0 el))
  have hk : s.size ≤ k := by show s.size ≤ Question.cut _ _; simp [Question.cut]
  let c : Array Value := (s.data.map fun b => Value.int .u8 b.toNat) ++ Array.replicate (k - s.size) (Value.int .u8 0)
  have hcs : c.size = k := by
    show ((s.data.map _) ++ Array.replicate _ _).size = k
    have : s.data.size = s.size := rfl
    simp [this]; omega
  have hlen : (s.data.toList.map fun b => AV.val (.int .u8 b.toNat)).length = s.size := by simp
  obtain ⟨rfl, g1, g2⟩ := newRow_ok (w := w.drew) g.drew hn (fresh_lt hf (by rw [newRow_next hn]; omega)) c (by
      rw [hlen]
      have e : c.toList.take s.size = s.data.toList.map fun b => Value.int .u8 b.toNat := by
        show ((s.data.map _) ++ Array.replicate _ _).toList.take s.size = _
        rw [Array.toList_append, Array.toList_map]
        rw [List.take_left' (by simp)]
      rw [e]
      generalize s.data.toList = q
      induction q with
      | nil => exact .nil
      | cons x q ih => exact .cons (.val _) ih) (by rw [hlen, hcs]; exact hk) (fun hc => by cases hc) (c.size, c.size + 1) (.inr (Nat.le_refl _)) (fun hc => by cases hc)
  refine .inr ⟨_, .value (.slice (some ⟨w.heap.size, 0, none⟩) s.size k), _, ?_, .sliceE (e := ⟨w.heap.size, 0, c.size⟩) (by simp) (by simp [hcs]) (by omega) hk, g1, (Trans.drew ρ h w).trans g2⟩
  have hsh : (w.drew.alloc (.cells c el)).shape? w.drew.heap.size = some (el, c.size) := by unfold World.shape?; rw [heap_alloc, if_pos rfl]
  simp only [convert, Sem.run_bind, run_und h1, run_und h2, run_und h3, Result.andThen_ok, Conv.stringToBytes, run_choose, hq, Bool.false_eq_true, if_false, World.drew_eq, run_newRow']
  simp only [markStringish, Sem.run_bind, run_shape]
  have e2 : (w.drew.alloc (.cells ((s.data.map fun b => Value.int .u8 b.toNat) ++ Array.replicate (k - s.size) (Value.int .u8 0)) el)).shape? w.drew.heap.size = some (el, c.size) := hsh
  rw [e2]
  simp only [Result.andThen_ok, run_freeze, Sem.run_pure]
  have := freeze_alloc (w := w.drew) c el
  show Result.ok _ ((w.drew.alloc (.cells c el)).freeze ⟨w.drew.heap.size, c.size, none⟩ 1) = _
  rw [this]
  rfl

theorem convert_ok {src dst : TypeId} {x : AV} {x' : Value} {v : ANext} (g : Good ρ h w) (hx : VRel ρ x x') (hc : convertA P h src dst x = some (v, h')) (hf : Fresh ρ h h') :
    OpOut P ρ h w v h' ((do pure (.value (← convert src dst x')) : Sem Next).run P w) := by
  have pureOk : ∀ {y : Value}, val h ((evalPure P (convert src dst y)).map .val) = some (v, h') → OpOut P ρ h w v h' ((do pure (.value (← convert src dst y)) : Sem Next).run P w) := by
    intro y hy
    simp only [val, Option.map_eq_some_iff, Prod.mk.injEq] at hy
    obtain ⟨_, ⟨r, h1, rfl⟩, rfl, rfl⟩ := hy
    exact out_reads g ⟨r, evalPure_run h1, .val _⟩
  unfold convertA at hc
  split at hc
  · cases hx
    split at hc
    · rename_i s
      split at hc
      · rename_i el h1
        split at hc
        · rename_i h2 h3
          simp only [Option.map_eq_some_iff, Prod.mk.injEq] at hc
          obtain ⟨⟨b, h4⟩, hn, rfl, rfl⟩ := hc
          exact stringBytes_ok g h1 h2 h3 hn hf
        · cases hc
      · exact pureOk hc
    · exact pureOk hc
  · rename_i b off len cap
    have hxx := hx
    cases hx with
    | slice he =>
      split at hc
      · exact sliceString_ok g ⟨_, _, he, rfl⟩ hc
      · rename_i hnd
        exact convertSlice_ok g hxx ⟨_, _, _, _, he, rfl⟩ (fun e => hnd e) hc
  · rename_i b off len sz
    have hxx := hx
    cases hx with
    | sliceE he _ _ _ =>
      split at hc
      · exact sliceString_ok g ⟨_, _, he, rfl⟩ hc
      · rename_i hnd
        exact convertSlice_ok g hxx ⟨_, _, _, _, he, rfl⟩ (fun e => hnd e) hc
  · cases hc

/-! ### Builtins -/
theorem lenOp_ok {t ty : TypeId} {x : AV} {x' : Value} {n : Nat} {argTypes : Array TypeId} (g : Good ρ h w) (ht : argTypes[0]? = some t) (hx : VRel ρ x x') (hl : lenOpA P h t x = some n) :
    (Builtin.len_ argTypes ty #[x']).run P w = .ok (goInt n) w := by
  unfold lenOpA at hl
  unfold Builtin.len_
  simp only [ht, List.getElem?_toArray, List.getElem?_cons_zero, Sem.run_bind]
  split at hl
  · rename_i hu
    split at hl
    · cases hx; cases hl; simp only [run_und hu, Result.andThen_ok, Sem.run_pure]
    · cases hl
  · rename_i k e hu
    cases hl
    simp only [run_und hu, Result.andThen_ok, Sem.run_pure]
  · rename_i e hu
    split at hl
    · cases hx; cases hl; simp only [run_und hu, Result.andThen_ok, Sem.run_pure]
    · cases hx; cases hl; simp only [run_und hu, Result.andThen_ok, Sem.run_pure]
    · cases hx; cases hl; simp only [run_und hu, Result.andThen_ok, Sem.run_pure]
    · cases hx; cases hl; simp only [run_und hu, Result.andThen_ok, Sem.run_pure]
    · cases hl
  · rename_i k e hu
    split at hl
    · cases hx; cases hl; simp only [run_und hu, Result.andThen_ok, Sem.run_pure]; rfl
    · rename_i m
      split at hl
      · rename_i es c hm
        cases hl
        cases hx with
        | map he =>
          obtain ⟨o, ho, ha⟩ := g.sat m _ _ hm he
          cases o <;> simp only [ARel] at ha
          have := ha.2.length
          simp only [run_und hu, Result.andThen_ok, Sem.run_bind, run_getMap ho, Sem.run_pure]
          simp at this
          rw [this]
      · cases hl
    · cases hl
  · rename_i e hu
    split at hl
    · rename_i k e2 hu2
      cases hl
      simp only [run_und hu, Result.andThen_ok, Sem.run_bind, run_und hu2, Sem.run_pure]
    · cases hl
  · cases hl

theorem capOp_ok {t ty : TypeId} {x : AV} {x' : Value} {n : Nat} {argTypes : Array TypeId} (ht : argTypes[0]? = some t) (hx : VRel ρ x x') (hl : capOpA P t x = some n) :
    (Builtin.cap_ argTypes ty #[x']).run P w = .ok (goInt n) w := by
  unfold capOpA at hl
  unfold Builtin.cap_
  simp only [ht, List.getElem?_toArray, List.getElem?_cons_zero, Sem.run_bind]
  split at hl
  · rename_i e hu
    split at hl
    · cases hx; cases hl; simp only [run_und hu, Result.andThen_ok, Sem.run_pure]
    · cases hx; cases hl; simp only [run_und hu, Result.andThen_ok, Sem.run_pure]
    · cases hl
  · cases hl

theorem copy_ok {t ty : TypeId} {d s : AV} {d' s' : Value} {v : ANext} {argTypes : Array TypeId} (g : Good ρ h w) (ht : argTypes[0]? = some t) (hd : VRel ρ d d') (hs : VRel ρ s s') (hc : copyA P h t d s = some (v, h')) :
    OpOut P ρ h w v h' ((do pure (.value (← Builtin.copy_ argTypes ty #[d', s'])) : Sem Next).run P w) := by
  unfold copyA at hc
  split at hc
  · rename_i elem hu
    simp only [Option.bind_eq_some_iff] at hc
    obtain ⟨sz, hsz, dl, hdl, sl, hsl, new, hnew, hc⟩ := hc
    have h1 := len_ok (P := P) (w := w) hs hsl
    obtain ⟨nv, hn1, hn2⟩ := cellsOf_ok (P := P) g hs hnew
    split at hc
    · rename_i l c
      cases hd
      cases hc
      have : dl = l := by simp [lenA] at hdl; exact hdl.symm
      subst this
      refine .inr ⟨ρ, .value (goInt (Nat.min sl dl)), w, ?_, .val _, g, .refl _ _ _⟩
      simp only [Builtin.copy_, ht, List.getElem?_toArray, List.getElem?_cons_zero, List.getElem?_cons_succ, Sem.run_bind, run_und hu, Result.andThen_ok, h1, run_size hsz, hn1, Sem.run_pure]
    · rename_i b off l c
      cases hd with
      | slice he =>
        simp only [Option.map_eq_some_iff, Prod.mk.injEq] at hc
        obtain ⟨h2, hw, rfl, rfl⟩ := hc
        have : dl = l := by simp [lenA] at hdl; exact hdl.symm
        subst this
        obtain ⟨w', hst, hg, htr, _⟩ := write_cells (P := P) g hw he hn2
        refine .inr ⟨ρ, .value (goInt (Nat.min sl dl)), w', ?_, .val _, hg, htr⟩
        simp only [Builtin.copy_, ht, List.getElem?_toArray, List.getElem?_cons_zero, List.getElem?_cons_succ, Sem.run_bind, run_und hu, Result.andThen_ok, h1, run_size hsz, hn1, hst, Sem.run_pure]
    · rename_i b off l c
      cases hd with
      | sliceE he _ _ _ =>
        simp only [Option.map_eq_some_iff, Prod.mk.injEq] at hc
        obtain ⟨h2, hw, rfl, rfl⟩ := hc
        have : dl = l := by simp [lenA] at hdl; exact hdl.symm
        subst this
        obtain ⟨w', hst, hg, htr, _⟩ := write_cells (P := P) g hw he hn2
        refine .inr ⟨ρ, .value (goInt (Nat.min sl dl)), w', ?_, .val _, hg, htr⟩
        simp only [Builtin.copy_, ht, List.getElem?_toArray, List.getElem?_cons_zero, List.getElem?_cons_succ, Sem.run_bind, run_und hu, Result.andThen_ok, h1, run_size hsz, hn1, hst, Sem.run_pure]
    · cases hc
  · cases hc

theorem builtin_ok {b : Builtin} {argTypes : Array TypeId} {ty : TypeId} {consts : Array Bool} {args : List AV} {args' : Array Value} {v : ANext} (g : Good ρ h w) (ha : LRel ρ args args'.toList)
    (hb : builtinA P h b argTypes args = some (v, h')) (hf : Fresh ρ h h') : OpOut P ρ h w v h' ((builtin b argTypes ty consts args').run P w) := by
  have arr1 : ∀ {x : AV}, LRel ρ [x] args'.toList → ∃ x', args' = #[x'] ∧ VRel ρ x x' := by
    intro x hl
    generalize he : args'.toList = q at hl
    cases hl with
    | cons hx ht => cases ht; exact ⟨_, by rw [← Array.toArray_toList (xs := args'), he], hx⟩
  have arr2 : ∀ {x y : AV}, LRel ρ [x, y] args'.toList → ∃ x' y', args' = #[x', y'] ∧ VRel ρ x x' ∧ VRel ρ y y' := by
    intro x y hl
    generalize he : args'.toList = q at hl
    cases hl with
    | cons hx ht => cases ht with
      | cons hy ht => cases ht; exact ⟨_, _, by rw [← Array.toArray_toList (xs := args'), he], hx, hy⟩
  unfold builtinA at hb
  split at hb
  · split at hb
    · obtain ⟨x', rfl, hx⟩ := arr1 ha
      simp only [Option.bind_eq_some_iff, Option.map_eq_some_iff, Prod.mk.injEq] at hb
      obtain ⟨t, ht, n, hn, rfl, rfl⟩ := hb
      exact out_reads g ⟨_, lenOp_ok g ht hx hn, .val _⟩
    · cases hb
  · split at hb
    · obtain ⟨x', rfl, hx⟩ := arr1 ha
      simp only [Option.bind_eq_some_iff, Option.map_eq_some_iff, Prod.mk.injEq] at hb
      obtain ⟨t, ht, n, hn, rfl, rfl⟩ := hb
      exact out_reads g ⟨_, capOp_ok ht hx hn, .val _⟩
    · cases hb
  · split at hb
    · obtain ⟨x', y', rfl, hx, hy⟩ := arr2 ha
      exact append_ok g hx hy hb hf
    · cases hb
  · split at hb
    · obtain ⟨x', y', rfl, hx, hy⟩ := arr2 ha
      simp only [Option.bind_eq_some_iff] at hb
      obtain ⟨t, ht, hb⟩ := hb
      exact copy_ok g ht hx hy hb
    · cases hb
  · split at hb
    · obtain ⟨x', y', rfl, hx, hy⟩ := arr2 ha
      simp only [Option.bind_eq_some_iff, Option.map_eq_some_iff, Prod.mk.injEq] at hb
      obtain ⟨t, ht, h2, hd, rfl, rfl⟩ := hb
      obtain ⟨w', h3, h4, h5⟩ := delete_ok (ty := ty) g hx hy hd
      have e : Builtin.delete_ argTypes ty #[x', y'] = Builtin.delete_ #[t] ty #[x', y'] := by
        unfold Builtin.delete_
        simp only [ht, List.getElem?_toArray, List.getElem?_cons_zero]
      refine .inr ⟨ρ, .value (.tuple #[]), w', ?_, .val _, h4, h5⟩
      simp only [builtin, Sem.run_bind, e, h3, Result.andThen_ok, Sem.run_pure]
    · cases hb
  · simp only [Option.bind_eq_some_iff, Option.map_eq_some_iff, Prod.mk.injEq] at hb
    obtain ⟨l, hl, r, hr, rfl, rfl⟩ := hb
    have := toValues_rel hl ha
    have e : args' = l.toArray := by rw [← this]
    subst e
    exact out_reads g ⟨r, evalPure_run hr, .val _⟩
  · simp only [Option.bind_eq_some_iff, Option.map_eq_some_iff, Prod.mk.injEq] at hb
    obtain ⟨l, hl, r, hr, rfl, rfl⟩ := hb
    have := toValues_rel hl ha
    have e : args' = l.toArray := by rw [← this]
    subst e
    exact out_reads g ⟨r, evalPure_run hr, .val _⟩
  · split at hb
    · cases hb
      exact .inr ⟨ρ, .recover, w, rfl, trivial, g, .refl _ _ _⟩
    · cases hb
  · cases hb
end
end Go.Ev

namespace Go.Ev
section
variable {ρ : Ren} {h h' : H} {w : World} {P : Program} {ev : Operand → Option AV} {a : Operand → Value}

theorem enterF_ok {f : FuncId} {args : List AV} {args' : Array Value} {v : ANext} (g : Good ρ h w) (ha : LRel ρ args args'.toList) (he : enterF P h f args = some (v, h')) :
    OpOut P ρ h w v h' ((callFunc f args').run P w) := by
  unfold enterF at he
  split at he
  · rename_i fn hfn
    split at he
    · rename_i hb
      split at he
      · rename_i hnm
        cases he
        refine .inr ⟨ρ, .enter f args', w, ?_, ⟨rfl, ha⟩, g, .refl _ _ _⟩
        have hnm' : (fn.name == "runtime.NumGoroutine") = false := by simpa using hnm
        have hb' : fn.body.isNone = false := by cases hx : fn.body <;> simp_all
        simp only [callFunc, Sem.run_bind, run_program, Result.andThen_ok, hfn, hnm', hb', Bool.false_eq_true, if_false, Sem.run_pure]
      · cases he
    · split at he
      · rename_i vs hvs
        have := toValues_rel hvs ha
        have e : args' = vs.toArray := by rw [← this]
        subst e
        split at he
        · rename_i r hr
          cases he
          exact .inr ⟨ρ, .value r, w, evalPure_run hr, ofValue_rel r, g, .refl _ _ _⟩
        · rename_i g' as hr
          cases he
          exact .inr ⟨ρ, .enter g' as, w, evalPure_run hr, ⟨rfl, LRel.vals _⟩, g, .refl _ _ _⟩
        · cases he
      · cases he
  · cases he

theorem method_ok {t : TypeId} {x r : AV} {x' : Value} {name : String} {f : FuncId} {n : Nat} (hx : VRel ρ x x') (hm : methodA P t x name = some (f, r)) :
    ∃ r', (method (n + 1) t x' name).run P w = .ok (f, r') w ∧ VRel ρ r r' := by
  unfold methodA at hm
  split at hm
  · rename_i info hi
    split at hm
    · rename_i m hf
      split at hm
      · rename_i f0 pr hp hfn
        split at hm
        · rename_i e hu
          cases hm
          exact ⟨x', by simp only [method, Sem.run_bind, run_info hi, Result.andThen_ok, hf, hp, follow, Sem.run_pure, hfn, receiverAt, run_und hu, Place.get], hx⟩
        · cases hm
        · rename_i d hne hu
          cases hm
          refine ⟨x', ?_, hx⟩
          simp only [method, Sem.run_bind, run_info hi, Result.andThen_ok, hf, hp, follow, Sem.run_pure, hfn, receiverAt, run_und hu]
          cases d <;> first | (simp only [Place.get, Sem.run_pure, Result.andThen_ok]; done) | exact absurd rfl (hne _)
        · cases hm
      · cases hm
    · cases hm
  · cases hm

theorem callMethod_ok {recv : AV} {recv' : Value} {name : String} {args : List AV} {args' : Array Value} {v : ANext} (g : Good ρ h w) (hr : VRel ρ recv recv') (ha : LRel ρ args args'.toList) (hc : callMethodA P h recv name args = some (v, h')) :
    OpOut P ρ h w v h' ((callMethod recv' name args').run P w) := by
  unfold callMethodA at hc
  split at hc
  · rename_i t x
    cases hr with
    | iface hx =>
      simp only [Option.bind_eq_some_iff] at hc
      obtain ⟨⟨f, r⟩, hm, hc⟩ := hc
      obtain ⟨r', h1, h2⟩ := method_ok (n := P.types.size + Made.depth - 1) (w := w) hx hm
      have hd : P.types.size + Made.depth - 1 + 1 = P.types.size + Made.depth := by
        have : 0 < Made.depth := by decide
        omega
      rw [hd] at h1
      simp only [callMethod, Sem.run_bind, run_program, Result.andThen_ok, h1]
      exact enterF_ok g (by simpa using LRel.cons h2 ha) hc
  · cases hc

theorem invoke_ok {fn : Fn} {cap args : List AV} {cap' args' : Array Value} {v : ANext} (g : Good ρ h w) (hc : LRel ρ cap cap'.toList) (ha : LRel ρ args args'.toList) (hi : invokeA P h fn cap args = some (v, h')) :
    OpOut P ρ h w v h' ((invoke (.fn fn cap') args').run P w) := by
  have split1 : ∀ {x : AV} {l : List AV}, LRel ρ (x :: l) args'.toList → ∃ x', args'[0]? = some x' ∧ VRel ρ x x' ∧ LRel ρ l (args'.extract 1 args'.size).toList := by
    intro x l hl
    obtain ⟨q⟩ := args'
    simp only at hl
    cases hl with
    | cons hx ht => exact ⟨_, rfl, hx, by simpa using ht⟩
  unfold invokeA at hi
  split at hi
  · rename_i f
    have := enterF_ok (args' := args' ++ cap') g (by simpa using ha.append hc) hi
    simpa [invoke] using this
  · rename_i name
    split at hi
    · obtain ⟨x', h1, h2, h3⟩ := split1 ha
      simp only [invoke, h1]
      exact callMethod_ok g h2 h3 hi
    · cases hi
  · rename_i t name
    split at hi
    · obtain ⟨x', h1, h2, h3⟩ := split1 ha
      split at hi
      · rename_i ms hu
        have := callMethod_ok g h2 h3 hi
        simp only [invoke, h1, Sem.run_bind, run_und hu, Result.andThen_ok]
        exact this
      · rename_i d hne hu
        have := callMethod_ok g (.iface h2) h3 hi
        simp only [invoke, h1, Sem.run_bind, run_und hu, Result.andThen_ok]
        cases d <;> first | exact this | exact absurd rfl (hne _)
      · cases hi
    · cases hi
  · cases hi

theorem TRel.put {nt : Nat} {t : Tr AV} {arr : Array Value} {d : Nat} {x : AV} {v : Value} (ht : TRel ρ nt t arr) (hd : d < nt) (hx : VRel ρ x v) : TRel ρ nt (t.put (d + 1) d (some x)) (arr.setIfInBounds d v) := by
  refine ⟨by simp [ht.1], fun i y hy => ?_⟩
  rw [Tr.get_put _ _ _ (by omega)] at hy
  by_cases hi : i = d
  · subst hi
    rw [if_pos rfl] at hy; cases hy
    exact ⟨v, by simp [ht.1, hd], hx⟩
  · rw [if_neg hi] at hy
    obtain ⟨u, h1, h2⟩ := ht.2 i y hy
    exact ⟨u, by rw [Array.getElem?_setIfInBounds_ne (fun e => hi e.symm)]; exact h1, h2⟩

theorem zip_ok {nt : Nat} : ∀ (ps : List Nat) (args : List AV) (args' : List Value) (t : Tr AV) (arr : Array Value), LRel ρ args args' → (∀ p ∈ ps, p < nt) → TRel ρ nt t arr →
    TRel ρ nt ((ps.zip args).foldl (fun t p => t.put (p.1 + 1) p.1 (some p.2)) t) ((ps.zip args').foldl (fun tmps p => tmps.setIfInBounds p.1 p.2) arr)
  | [], _, _, t, arr, _, _, ht => by simpa using ht
  | p :: ps, _, _, t, arr, .nil, _, ht => by simpa using ht
  | p :: ps, _, _, t, arr, .cons hx hl, hp, ht => by
    simp only [List.zip_cons_cons, List.foldl_cons]
    exact zip_ok ps _ _ _ _ hl (fun q hq => hp q (List.mem_cons_of_mem _ hq)) (ht.put (hp p (List.mem_cons_self ..)) hx)

theorem yield_ok {l : Nat} {e : Ent} {args : List AV} {args' : Array Value} {v : ANext} (g : Good ρ h w) (he : ρ l = some e) (ha : LRel ρ args args'.toList) (hy : yieldA h l args = some (v, h')) :
    OpOut P ρ h w v h' ((Instr.yield e.blk args').run P w) := by
  unfold yieldA at hy
  split at hy
  · rename_i st pd fn t nt ps as body d hb
    split at hy
    · rename_i hc
      simp only [Bool.and_eq_true, beq_iff_eq] at hc
      cases hy
      obtain ⟨o, ho, har⟩ := g.sat l _ e hb he
      cases o <;> simp only [ARel] at har
      rename_i r
      obtain ⟨h1, h2, h3, h4, h5, h6, h7, _⟩ := har
      have hg := run_getObj' (P := P) ho (by simp)
      have hlen := ha.length
      have hsz : args'.size = r.params.size := by rw [h5, ← hc.1]; simpa using hlen.symm
      refine .inr ⟨ρ, .round e.blk r.fn ((r.params.zip args').foldl (fun tmps (t, a) => tmps.setIfInBounds t a) r.tmps) r.assign r.body, w, ?_, ⟨⟨e, he, rfl⟩, h3, ?_, h6, h7⟩, g, .refl _ _ _⟩
      · simp only [Instr.yield, Instr.getLoop, Sem.run_bind, hg, Result.andThen_ok, Sem.run_pure, hsz, ne_eq, not_true, if_false]
      · have hz := zip_ok (nt := nt) ps.toList args args'.toList t r.tmps ha (fun p hp => by
          have := hc.2
          rw [Array.all_eq_true'] at this
          simpa using this p (Array.mem_toList_iff.1 hp)) h4
        have e1 : (r.params.zip args').foldl (fun tmps (t, a) => tmps.setIfInBounds t a) r.tmps = (ps.toList.zip args'.toList).foldl (fun tmps p => tmps.setIfInBounds p.1 p.2) r.tmps := by
          rw [h5, ← Array.foldl_toList, Array.toList_zip]
        rw [e1]
        exact hz
    · cases hy
  · cases hy

theorem ofValues_rel (l : List Value) : LRel ρ (l.map AV.ofValue) l := by
  induction l with
  | nil => exact .nil
  | cons v l ih => exact .cons (ofValue_rel v) ih

theorem call_ok {c : Call} {type : TypeId} {f : AV} {args : List AV} {fo : Operand} {v : ANext} (g : Good ρ h w) (hcal : c.callee = .value fo) (hf : VRel ρ f (a fo)) (ha : LRel ρ args (c.args.toList.map a)) (hc : callA P h f args = some (v, h')) :
    OpOut P ρ h w v h' ((do let d ← resolve a c type; invoke d.target d.args : Sem Next).run P w) := by
  have ha' : LRel ρ args (c.args.map a).toList := by simpa using ha
  unfold callA at hc
  split at hc
  · rename_i fn first captured
    split at hc
    · cases hc
    · have hv : a fo = .func fn first captured := by
        generalize a fo = q at hf; cases hf; rfl
      have := invoke_ok (args' := first ++ c.args.map a) g (ofValues_rel captured.toList) (by simpa using (ofValues_rel first.toList).append ha') hc
      simpa [resolve, hcal, hv, Deferred.ofValue] using this
  · rename_i fn first captured
    split at hc
    · cases hc
    · generalize hq : a fo = q at hf
      cases hf with
      | func h1 h2 =>
        rename_i f' c'
        have := invoke_ok (args' := f' ++ c.args.map a) g h2 (by simpa using h1.append ha') hc
        simpa [resolve, hcal, hq, Deferred.ofValue] using this
  · rename_i l
    generalize hq : a fo = q at hf
    cases hf with
    | yld he =>
      have := yield_ok (P := P) g he ha' hc
      simpa [resolve, hcal, hq, Deferred.ofValue, invoke] using this
  · cases hc

theorem callOp_ok {c : Call} {type : TypeId} {v : ANext} (g : Good ρ h w) (hev : ∀ x v, ev x = some v → VRel ρ v (a x)) (hc : callOpA P h ev c = some (v, h')) (hf : Fresh ρ h h') :
    OpOut P ρ h w v h' ((do let d ← resolve a c type; invoke d.target d.args : Sem Next).run P w) := by
  simp only [callOpA, Option.bind_eq_some_iff] at hc
  obtain ⟨args, hargs, hc⟩ := hc
  have ha := evs_rel hev hargs
  split at hc
  · rename_i fo hcal
    simp only [Option.bind_eq_some_iff] at hc
    obtain ⟨f, hfo, hc⟩ := hc
    exact call_ok g hcal (hev _ _ hfo) ha hc
  · rename_i recv name hcal
    simp only [Option.bind_eq_some_iff] at hc
    obtain ⟨r, hr, hc⟩ := hc
    have := callMethod_ok (args' := c.args.map a) g (hev _ _ hr) (by simpa using ha) hc
    have hres : resolve a c type = pure { target := .fn (.method name) #[], args := #[a recv] ++ c.args.map a } := by unfold resolve; rw [hcal]
    have e0 : (#[a recv] ++ c.args.map a)[0]? = some (a recv) := by rw [Array.getElem?_append_left (by simp)]; rfl
    have e1 : (#[a recv] ++ c.args.map a).extract 1 (#[a recv] ++ c.args.map a).size = c.args.map a := by
      apply Array.ext'
      simp only [Array.toList_extract, Array.toList_append, List.extract_eq_take_drop]
      simp
      rw [List.take_of_length_le (by simp)]
    rw [hres, pure_bind]
    simp only [invoke, e0, e1]
    exact this
  · rename_i b hcal
    rw [Sem.run_bind]
    simp only [resolve, hcal, Sem.run_pure, Result.andThen_ok, invoke]
    exact builtin_ok (args' := c.args.map a) g (by simpa using ha) hc hf

theorem deferOp_ok {c : Call} {type : TypeId} {v : ANext} (g : Good ρ h w) (hev : ∀ x v, ev x = some v → VRel ρ v (a x)) (hc : deferOpA h ev c = some (v, h')) :
    OpOut P ρ h w v h' ((do pure (.defer (← resolve a c type)) : Sem Next).run P w) := by
  simp only [deferOpA, Option.bind_eq_some_iff] at hc
  obtain ⟨args, hargs, hc⟩ := hc
  have ha := evs_rel hev hargs
  have ha' : LRel ρ args (c.args.map a).toList := by simpa using ha
  split at hc
  · rename_i fo hcal
    simp only [Option.bind_eq_some_iff] at hc
    obtain ⟨f, hfo, hc⟩ := hc
    have hf := hev _ _ hfo
    split at hc
    · rename_i g' first captured
      cases hc
      have hv : a fo = .func (.func g') first captured := by
        generalize a fo = q at hf; cases hf; rfl
      refine .inr ⟨ρ, .defer { target := .fn (.func g') captured, args := first ++ c.args.map a }, w, by simp [resolve, hcal, hv, Deferred.ofValue], ⟨captured, rfl, by simp, ofValues_rel _, ?_⟩, g, .refl _ _ _⟩
      simpa using (ofValues_rel first.toList).append ha'
    · rename_i g' first captured
      cases hc
      generalize hq : a fo = q at hf
      cases hf with
      | func h1 h2 =>
        rename_i f' c'
        refine .inr ⟨ρ, .defer { target := .fn (.func g') c', args := f' ++ c.args.map a }, w, by simp [resolve, hcal, hq, Deferred.ofValue], ⟨c', rfl, by simp, h2, ?_⟩, g, .refl _ _ _⟩
        simpa using h1.append ha'
    · cases hc
  · cases hc

theorem assert_ok {x v : AV} {x' : Value} {xType asserted : TypeId} {ok : Bool} (hx : VRel ρ x x') (hc : assertA P x asserted ok = some v) : Reads P ρ w (Instr.typeAssert x' xType asserted ok) v := by
  have holds : ∀ {y : AV} {y' : Value}, VRel ρ y y' → (if ok = true then some (AV.tuple [y, .val (.bool true)]) else some y) = some v ∨ some (if ok = true then (AV.tuple [y, .val (.bool true)]) else y) = some v →
      ∃ r, (pure (if ok then .tuple #[y', .bool true] else y') : Sem Value).run P w = .ok r w ∧ VRel ρ v r := by
    intro y y' hy hv
    refine ⟨_, rfl, ?_⟩
    cases ok
    · simp at hv; subst hv; simpa using hy
    · simp at hv; subst hv; exact .tuple (.cons hy (.cons (.val _) .nil))
  have fails : ∀ (st dy : Option TypeId) (ms : String), (if ok = true then (zero P asserted).map fun z => AV.tuple [z, .val (.bool false)] else none) = some v →
      ∃ r, (if ok then do pure (.tuple #[← zeroValue asserted, .bool false]) else runtimePanic (.typeAssertion st dy asserted ms) : Sem Value).run P w = .ok r w ∧ VRel ρ v r := by
    intro st dy ms hv
    cases ok
    · simp at hv
    · simp only [if_true, Option.map_eq_some_iff] at hv
      obtain ⟨z, hz, rfl⟩ := hv
      obtain ⟨z', h1, h2⟩ := run_zero (P := P) (w := w) (ρ := ρ) hz
      exact ⟨.tuple #[z', .bool false], by simp [h1], .tuple (.cons h2 (.cons (.val _) .nil))⟩
  unfold assertA at hc
  simp only at hc
  unfold Reads Instr.typeAssert
  simp only [Sem.run_bind]
  split at hc
  · rename_i ms hu
    cases hx
    simp only [run_und hu, Result.andThen_ok]
    exact fails _ _ _ hc
  · rename_i want t y hu
    cases hx with
    | iface hy =>
      split at hc
      · rename_i him
        simp only [implementsA, Option.map_eq_some_iff] at him
        obtain ⟨i, hi, hm⟩ := him
        cases hmm : Instr.missingMethod want i.methods with
        | some _ => simp [hmm] at hm
        | none =>
          simp only [run_und hu, Result.andThen_ok, Sem.run_bind, run_info hi, hmm]
          exact holds (.iface hy) (.inr hc)
      · rename_i him
        simp only [implementsA, Option.map_eq_some_iff] at him
        obtain ⟨i, hi, hm⟩ := him
        cases hmm : Instr.missingMethod want i.methods with
        | none => simp [hmm] at hm
        | some m =>
          simp only [run_und hu, Result.andThen_ok, Sem.run_bind, run_info hi, hmm]
          exact fails _ _ _ hc
      · cases hc
  · rename_i d hne hu
    cases hx
    simp only [run_und hu, Result.andThen_ok]
    cases d <;> first | exact fails _ _ _ hc | exact absurd rfl (hne _)
  · rename_i d t y hne hu
    cases hx with
    | iface hy =>
      simp only [run_und hu, Result.andThen_ok]
      split at hc
      · rename_i ht
        cases d <;> first | exact absurd rfl (hne _ _ _) | exact absurd rfl (hne _) | (simp only [if_pos ht]; exact holds hy (.inr hc))
      · rename_i ht
        cases d <;> first | exact absurd rfl (hne _ _ _) | exact absurd rfl (hne _) | (simp only [if_neg ht]; exact fails _ _ _ hc)
  · cases hc
end
end Go.Ev

namespace Go.Ev
section
variable {ρ : Ren} {h h' : H} {w : World} {P : Program} {ev : Operand → Option AV} {a : Operand → Value}

theorem val_some {o : Option AV} {x : ANext} (hv : val h o = some (x, h')) : ∃ v, o = some v ∧ x = .value v ∧ h' = h := by
  simp only [val, Option.map_eq_some_iff, Prod.mk.injEq] at hv
  obtain ⟨v, h1, h2, h3⟩ := hv
  exact ⟨v, h1, h2.symm, h3.symm⟩

theorem out_unit {s : Sem Unit} {ρ' : Ren} {w' : World} (hs : s.run P w = .ok () w') (g : Good ρ' h' w') (t : Trans ρ h w ρ' h' w') : OpOut P ρ h w .skip h' ((do s; pure .skip : Sem Next).run P w) :=
  .inr ⟨ρ', .skip, w', by simp [hs], trivial, g, t⟩

set_option maxHeartbeats 1000000 in
theorem aop_ok {o : Oper} {x : ANext} (g : Good ρ h w) (hev : ∀ x v, ev x = some v → VRel ρ v (a x)) (he : aop P ev o h = some (x, h')) (hf : Fresh ρ h h') :
    OpOut P ρ h w x h' ((execOp a o).run P w) := by
  unfold aop at he
  unfold execOp
  generalize hop : o.op = op at he
  cases op with
  | move y =>
    obtain ⟨v, h1, rfl, rfl⟩ := val_some he
    exact out_value g (hev _ _ h1)
  | assign y =>
    obtain ⟨v, h1, rfl, rfl⟩ := val_some he
    exact out_value g (hev _ _ h1)
  | pick c y z =>
    simp only at he
    split at he
    · rename_i hc
      obtain ⟨v, h1, rfl, rfl⟩ := val_some he
      have := hev _ _ hc
      generalize hq : a c = q at this
      cases this
      have := out_value (P := P) g (hev _ _ h1)
      simpa [hop, hq, asBool] using this
    · rename_i hc
      obtain ⟨v, h1, rfl, rfl⟩ := val_some he
      have := hev _ _ hc
      generalize hq : a c = q at this
      cases this
      have := out_value (P := P) g (hev _ _ h1)
      simpa [hop, hq, asBool] using this
    · cases he
  | alloc elem =>
    simp only [Option.bind_eq_bind, Option.bind_eq_some_iff] at he
    obtain ⟨z, hz, ⟨b, h1⟩, hn, he⟩ := he
    cases he
    exact alloc_ok g hz hn hf
  | box elem y =>
    simp only [Option.bind_eq_bind, Option.bind_eq_some_iff] at he
    obtain ⟨v, hv, ⟨b, h1⟩, hn, he⟩ := he
    cases he
    exact box_ok g (hev _ _ hv) hn hf
  | build t ps =>
    simp only [Option.bind_eq_bind, Option.bind_eq_some_iff] at he
    obtain ⟨z, hz, qs, hq, d, hd, he⟩ := he
    have hp := parts_rel hev hq
    cases d <;> first | (cases he; done) | skip
    · rename_i n elem
      simp only [Option.bind_eq_some_iff] at he
      obtain ⟨n, hn, he⟩ := he
      obtain ⟨v, h1, rfl, rfl⟩ := val_some he
      exact out_reads g (build_ok (d := .array _ elem) hz (by simpa using hp) hd (by simp only [hn, Option.bind_some]; exact h1))
    · rename_i fields
      simp only at he
      split at he
      · rename_i hall
        obtain ⟨v, h1, rfl, rfl⟩ := val_some he
        exact out_reads g (build_ok (d := .struct fields) hz (by simpa using hp) hd (by simp only [if_pos hall]; exact h1))
      · cases he
  | buildSlice t len ps =>
    simp only [Option.bind_eq_bind, Option.bind_eq_some_iff] at he
    split at he
    · rename_i elem hu
      simp only [Option.bind_eq_some_iff] at he
      obtain ⟨sz, hsz, qs, hq, he⟩ := he
      split at he
      · rename_i h24
        simp only [Option.bind_eq_some_iff] at he
        obtain ⟨z, hz, he⟩ := he
        split at he
        · rename_i hzl
          simp only [Option.bind_eq_some_iff, Option.map_eq_some_iff, Prod.mk.injEq] at he
          obtain ⟨cells, hc, ⟨b, h1⟩, hn, rfl, rfl⟩ := he
          exact buildSlice_ok g hu hsz (by simpa using parts_rel hev hq) h24 hz (fun hne => hzl.resolve_left hne) hc hn hf
        · cases he
      · cases he
    · cases he
  | load t y =>
    simp only [Option.bind_eq_bind, Option.bind_eq_some_iff] at he
    obtain ⟨v, hv, he⟩ := he
    obtain ⟨u, h1, rfl, rfl⟩ := val_some he
    exact out_reads g (load_ok g h1 (hev _ _ hv))
  | store t y z =>
    simp only [Option.bind_eq_bind, Option.bind_eq_some_iff] at he
    obtain ⟨u, hu, v, hv, h1, hs, he⟩ := he
    cases he
    obtain ⟨w', h2, h3, h4, _⟩ := store_ok (P := P) g hs (hev _ _ hu) (hev _ _ hv)
    exact out_unit h2 h3 h4
  | nilCheck y =>
    simp only at he
    split at he
    · rename_i b off hy
      cases he
      have hv := hev _ _ hy
      generalize hq : a y = q at hv
      cases hv with
      | ptr hh => simpa [hop, hq] using out_value (P := P) g (.ptr hh)
    · rename_i f u c hy
      cases he
      have hv := hev _ _ hy
      generalize hq : a y = q at hv
      cases hv
      simpa [hop, hq] using out_value (P := P) g (.val (.func (.func f) u c))
    · rename_i f u c hy
      cases he
      have hv := hev _ _ hy
      generalize hq : a y = q at hv
      cases hv with
      | func h1 h2 => simpa [hop, hq] using out_value (P := P) g (VRel.func (fn := .func f) h1 h2)
    · rename_i b hy
      cases he
      have hv := hev _ _ hy
      generalize hq : a y = q at hv
      cases hv with
      | yld hh => simpa [hop, hq] using out_value (P := P) g (.yld hh)
    · rename_i t v hy
      cases he
      have hv := hev _ _ hy
      generalize hq : a y = q at hv
      cases hv with
      | iface hh => simpa [hop, hq] using out_value (P := P) g (.iface hh)
    · cases he
  | binOp op t y z u =>
    simp only [Option.bind_eq_bind, Option.bind_eq_some_iff] at he
    obtain ⟨p, hp, q, hq, he⟩ := he
    obtain ⟨v, h1, rfl, rfl⟩ := val_some he
    exact out_reads g (bin_ok g h1 (hev _ _ hp) (hev _ _ hq))
  | unOp op t y =>
    simp only at he
    split at he
    · rename_i v hy
      obtain ⟨u, h1, rfl, rfl⟩ := val_some he
      simp only [Option.map_eq_some_iff] at h1
      obtain ⟨r, hr, rfl⟩ := h1
      have hv := hev _ _ hy
      generalize hq : a y = q at hv
      cases hv
      have := out_reads (P := P) g ⟨r, evalPure_run (w := w) hr, .val r⟩
      simpa [hop, hq] using this
    · cases he
  | convert src dst y =>
    simp only [Option.bind_eq_some_iff] at he
    obtain ⟨v, hv, he⟩ := he
    exact convert_ok g (hev _ _ hv) he hf
  | makeInterface t y =>
    simp only at he
    split at he
    · cases he
    · rename_i d hne hu
      obtain ⟨u, h1, rfl, rfl⟩ := val_some he
      simp only [Option.map_eq_some_iff] at h1
      obtain ⟨v, hv, rfl⟩ := h1
      refine out_reads g ⟨.iface t (a y), ?_, .iface (hev _ _ hv)⟩
      simp only [Instr.makeInterface, Sem.run_bind, run_und hu, Result.andThen_ok]
      cases d <;> first | rfl | exact absurd rfl (hne _)
    · cases he
  | makeFunc fn first captured =>
    simp only [Option.bind_eq_some_iff, Option.map_eq_some_iff, Prod.mk.injEq] at he
    obtain ⟨u, hu, v, hv, rfl, rfl⟩ := he
    exact out_reads g ⟨.func fn (first.map a) (captured.map a), rfl, .func (by simpa using evs_rel hev hu) (by simpa using evs_rel hev hv)⟩
  | makeMap t r =>
    have mk : ∀ {x : ANext}, some (ANext.value (.map h.next), h.new (.map [] 0)) = some (x, h') → ∀ (s : Sem Value), s.run P w = .ok (.map (some w.heap.size)) (w.alloc (.map #[] 0)) → OpOut P ρ h w x h' ((do pure (.value (← s)) : Sem Next).run P w) := by
      intro x hx s hs
      cases hx
      obtain ⟨h1, h2⟩ := new_out (ab := .map [] 0) (o := .map #[] 0) g hf ⟨rfl, .nil⟩
      exact .inr ⟨_, .value (.map (some w.heap.size)), _, by simp [hs], .map (e := ⟨w.heap.size, 0, 0⟩) (by simp), h1, h2⟩
    simp only at he
    split at he
    · exact mk he _ (by simp [Instr.makeMap])
    · split at he
      · rename_i k e kk n hu hy
        have hv := hev _ _ hy
        generalize hq : a _ = q at hv
        cases hv
        exact mk he _ (by simp [Instr.makeMap, run_und hu, hq, asInt, asIntOf])
      · cases he
  | makeSlice t l c =>
    simp only [Option.bind_eq_bind] at he
    split at he
    · rename_i elem hu
      simp only [Option.bind_eq_some_iff] at he
      obtain ⟨lv, hl, ln, hln, cv, hc, cn, hcn, sz, hsz, he⟩ := he
      split at he
      · rename_i info hi
        split at he
        · rename_i hcond
          simp only [Option.bind_eq_some_iff] at he
          obtain ⟨z, hz, he⟩ := he
          split at he
          · rename_i hzl
            simp only [Option.map_eq_some_iff, Prod.mk.injEq] at he
            obtain ⟨⟨b, h1⟩, hn, rfl, rfl⟩ := he
            exact makeSlice_ok g hu (hev _ _ hl) (hev _ _ hc) hln hcn hsz hi hcond.1 hcond.2.1 hcond.2.2 hz (fun hne => hzl.resolve_left hne) hn hf
          · cases he
        · cases he
      · cases he
    · cases he
  | slice t y lo hi mx =>
    simp only [Option.bind_eq_bind, Option.bind_eq_some_iff] at he
    obtain ⟨v, hv, l, hl, u, hu, m, hm, he⟩ := he
    obtain ⟨r, h1, rfl, rfl⟩ := val_some he
    exact out_reads g (slice_ok g (hev _ _ hv) (omap_rel hev hl) (omap_rel hev hu) (omap_rel hev hm) h1)
  | fieldAddr s y f =>
    simp only at he
    split at he
    · rename_i fields b o' hu hy
      split at he
      · rename_i fd hfd
        split at he
        · rename_i n hn
          cases he
          exact out_reads g (fieldAt_ok hu hfd (hev _ _ hy) hn)
        · cases he
      · cases he
    · cases he
  | field t y f =>
    simp only at he
    split at he
    · rename_i fields l hu hy
      split at he
      · rename_i fd hfd
        obtain ⟨v, h1, rfl, rfl⟩ := val_some he
        exact out_reads g (field_ok hu hfd (hev _ _ hy) h1)
      · cases he
    · cases he
  | indexAddr t y ix =>
    simp only [Option.bind_eq_bind, Option.bind_eq_some_iff] at he
    obtain ⟨iv, hiv, i, hi, d, hd, yv, hy, he⟩ := he
    split at he
    · rename_i len elem b o'
      simp only [Option.bind_eq_some_iff] at he
      obtain ⟨n, hn, he⟩ := he
      split at he
      · rename_i hlt
        cases he
        exact out_reads g (indexAt_array hd (hev _ _ hy) (hev _ _ hiv) hi hn hlt)
      · cases he
    · rename_i elem b o' len cap
      simp only [Option.bind_eq_some_iff] at he
      obtain ⟨n, hn, he⟩ := he
      split at he
      · rename_i hlt
        cases he
        exact out_reads g (indexAt_slice hd (hev _ _ hy) (.inl ⟨_, rfl⟩) (hev _ _ hiv) hi hn hlt)
      · cases he
    · rename_i elem b o' len cap
      simp only [Option.bind_eq_some_iff] at he
      obtain ⟨n, hn, he⟩ := he
      split at he
      · rename_i hlt
        cases he
        exact out_reads g (indexAt_slice hd (hev _ _ hy) (.inr ⟨_, rfl⟩) (hev _ _ hiv) hi hn hlt)
      · cases he
    · cases he
  | index t y ix =>
    simp only [Option.bind_eq_bind, Option.bind_eq_some_iff] at he
    obtain ⟨iv, hiv, i, hi, d, hd, yv, hy, he⟩ := he
    split at he
    · rename_i len elem l
      simp only [Option.bind_eq_some_iff] at he
      obtain ⟨n, hn, he⟩ := he
      split at he
      · rename_i hlt
        obtain ⟨v, h1, rfl, rfl⟩ := val_some he
        exact out_reads g (index_array hd (hev _ _ hy) (hev _ _ hiv) hi hn hlt h1)
      · cases he
    · rename_i s
      split at he
      · rename_i c hc
        cases he
        exact out_reads g (index_string hd (hev _ _ hy) (hev _ _ hiv) hi hc)
      · cases he
    · cases he
  | lookup t m k ok =>
    simp only [Option.bind_eq_bind, Option.bind_eq_some_iff] at he
    obtain ⟨mv, hm, kv, hk, he⟩ := he
    obtain ⟨v, h1, rfl, rfl⟩ := val_some he
    exact out_reads g (lookup_ok g (hev _ _ hm) (hev _ _ hk) h1)
  | mapUpdate t m k v =>
    simp only [Option.bind_eq_bind, Option.bind_eq_some_iff] at he
    obtain ⟨mv, hm, kv, hk, vv, hv, h1, hu, he⟩ := he
    cases he
    obtain ⟨w', h2, h3, h4⟩ := update_ok (P := P) g (hev _ _ hm) (hev _ _ hk) (hev _ _ hv) hu
    exact out_unit h2 h3 h4
  | insert t m k v =>
    simp only [Option.bind_eq_bind, Option.bind_eq_some_iff] at he
    obtain ⟨mv, hm, kv, hk, vv, hv, h1, hu, he⟩ := he
    cases he
    obtain ⟨w', h2, h3, h4⟩ := update_ok (P := P) g (hev _ _ hm) (hev _ _ hk) (hev _ _ hv) hu
    exact out_unit h2 h3 h4
  | mapEntry t m k =>
    simp only [Option.bind_eq_bind, Option.bind_eq_some_iff] at he
    obtain ⟨mv, hm, kv, hk, he⟩ := he
    exact entry_ok g (hev _ _ hm) (hev _ _ hk) he
  | entryStore t m s v =>
    simp only [Option.bind_eq_bind, Option.bind_eq_some_iff] at he
    obtain ⟨mv, hm, kv, hk, vv, hv, h1, hu, he⟩ := he
    cases he
    obtain ⟨w', h2, h3, h4⟩ := entryStore_ok (P := P) (t := t) g (hev _ _ hm) (hev _ _ hk) (hev _ _ hv) hu
    exact out_unit h2 h3 h4
  | range t y =>
    simp only [Option.bind_eq_bind, Option.bind_eq_some_iff] at he
    obtain ⟨v, hv, he⟩ := he
    exact range_ok g (hev _ _ hv) he hf
  | next it isS =>
    simp only [Option.bind_eq_bind, Option.bind_eq_some_iff] at he
    obtain ⟨v, hv, he⟩ := he
    exact next_ok g (hev _ _ hv) he
  | entry it =>
    simp only [Option.bind_eq_bind, Option.bind_eq_some_iff] at he
    obtain ⟨v, hv, he⟩ := he
    obtain ⟨r, h1, rfl, rfl⟩ := val_some he
    exact out_reads g (entryOf_ok g (hev _ _ hv) h1)
  | typeAssert y t asserted ok =>
    simp only [Option.bind_eq_bind, Option.bind_eq_some_iff] at he
    obtain ⟨v, hv, he⟩ := he
    obtain ⟨r, h1, rfl, rfl⟩ := val_some he
    exact out_reads g (assert_ok (hev _ _ hv) h1)
  | extract t i =>
    simp only at he
    split at he
    · rename_i l hy
      obtain ⟨v, h1, rfl, rfl⟩ := val_some he
      have hv := hev _ _ hy
      generalize hq : a t = q at hv
      cases hv with
      | tuple hl =>
        obtain ⟨y, h2, h3⟩ := hl.get _ _ h1
        rw [Array.getElem?_toList] at h2
        refine out_reads g ⟨y, ?_, h3⟩
        simp [hq, Instr.extract, h2]
    · cases he
  | call c => exact callOp_ok g hev he hf
  | panic y =>
    simp only at he
    split at he
    · rename_i t v hy
      cases he
      have hv := hev _ _ hy
      generalize hq : a y = q at hv
      cases hv with
      | iface hh =>
        rename_i v'
        exact .inl ⟨_, ρ, .iface t v', w, rfl, by simp [hq, Instr.panic], .iface hh, g, .refl _ _ _⟩
    · cases he
  | _ => first | (rename_i c; exact deferOp_ok g hev he) | cases he
end
end Go.Ev

namespace Go.Ev

inductive All2 {α β : Type} (R : α → β → Prop) : List α → List β → Prop
  | nil : All2 R [] []
  | cons {x : α} {y : β} {l : List α} {m : List β} (h : R x y) (t : All2 R l m) : All2 R (x :: l) (y :: m)

theorem All2.mono {α β : Type} {R R' : α → β → Prop} (h : ∀ x y, R x y → R' x y) : ∀ {l : List α} {m : List β}, All2 R l m → All2 R' l m
  | _, _, .nil => .nil
  | _, _, .cons a t => .cons (h _ _ a) (All2.mono h t)
theorem All2.append {α β : Type} {R : α → β → Prop} : ∀ {l l' : List α} {m m' : List β}, All2 R l m → All2 R l' m' → All2 R (l ++ l') (m ++ m')
  | _, _, _, _, .nil, h => h
  | _, _, _, _, .cons a t, h => .cons a (All2.append t h)

def IRel (ρ : Ren) : AItem → Item → Prop
  | .code c, .code c' => c' = c
  | .inBlock i, .inBlock j => j = i
  | .inLoop c, .inLoop c' => c' = c
  | .inScope c, .inScope c' => c' = c
  | .inRegion ops i rest, .inRegion ops' todo => ops' = ops ∧ rest = ops.toList.drop i ∧ todo = List.range' i rest.length
  | .inRangeFunc l, .inRangeFunc l' => ∃ e, ρ l = some e ∧ l' = e.blk
  | .endRangeFunc l, .endRangeFunc l' => ∃ e, ρ l = some e ∧ l' = e.blk
  | .beginRound, .beginRound => True
  | _, _ => False

def DefRel (ρ : Ren) : ADefer → Deferred → Prop
  | .fn d, d' => DRel ρ d d'
  | .collected r, d' => ∃ e, ρ r = some e ∧ d'.target = .collected e.blk

def PanRel (ρ : Ren) (x : AV × Bool) (y : PanicEntry) : Prop := VRel ρ x.1 y.v ∧ y.recovered = x.2 ∧ y.goexit = false

def ModeRel (ρ : Ren) : AMode → FrameMode → Prop
  | .run, .run => True
  | .returning, .returning => True
  | .panicking c, .panicking c' => All2 (PanRel ρ) c c'
  | _, _ => False

def RoundRel (ρ : Ren) : Option Nat → Option Nat → Prop
  | none, none => True
  | some l, some l' => ∃ e, ρ l = some e ∧ l' = e.blk
  | _, _ => False

structure FrRel (ρ : Ren) (f : AFrame) (fr : Frame) : Prop where
  fn : fr.fn = f.fn
  tmps : TRel ρ f.nt f.tmps fr.tmps
  todo : All2 (IRel ρ) f.todo fr.todo
  defers : All2 (DefRel ρ) f.defers fr.defers
  mode : ModeRel ρ f.mode fr.mode
  kind : fr.kind = f.kind
  round : RoundRel ρ f.roundOf fr.roundOf

section
variable {ρ ρ' : Ren}
theorem IRel.mono (hl : Ren.le ρ ρ') {x : AItem} {y : Item} (h : IRel ρ x y) : IRel ρ' x y := by
  cases x <;> cases y <;> simp only [IRel] at h ⊢ <;> try exact h
  all_goals (obtain ⟨e, h1, h2⟩ := h; exact ⟨e, hl _ _ h1, h2⟩)
theorem DRel.mono (hl : Ren.le ρ ρ') {d : ADef} {d' : Deferred} (h : DRel ρ d d') : DRel ρ' d d' :=
  let ⟨c, h1, h2, h3, h4⟩ := h; ⟨c, h1, h2, h3.mono hl, h4.mono hl⟩
theorem DefRel.mono (hl : Ren.le ρ ρ') {d : ADefer} {d' : Deferred} (h : DefRel ρ d d') : DefRel ρ' d d' := by
  cases d with
  | fn d => exact DRel.mono hl h
  | collected r => obtain ⟨e, h1, h2⟩ := h; exact ⟨e, hl _ _ h1, h2⟩
theorem ModeRel.mono (hl : Ren.le ρ ρ') {m : AMode} {m' : FrameMode} (h : ModeRel ρ m m') : ModeRel ρ' m m' := by
  cases m <;> cases m' <;> simp only [ModeRel] at h ⊢
  exact All2.mono (fun x y hxy => ⟨hxy.1.mono hl, hxy.2⟩) h
theorem RoundRel.mono (hl : Ren.le ρ ρ') {m : Option Nat} {m' : Option Nat} (h : RoundRel ρ m m') : RoundRel ρ' m m' := by
  cases m <;> cases m' <;> simp only [RoundRel] at h ⊢
  obtain ⟨e, h1, h2⟩ := h; exact ⟨e, hl _ _ h1, h2⟩
theorem FrRel.mono (hl : Ren.le ρ ρ') {f : AFrame} {fr : Frame} (h : FrRel ρ f fr) : FrRel ρ' f fr :=
  ⟨h.fn, h.tmps.mono hl, h.todo.mono fun _ _ => IRel.mono hl, h.defers.mono fun _ _ => DefRel.mono hl, h.mode.mono hl, h.kind, h.round.mono hl⟩
end

/-- The names and the world, between two steps: no name from 'next' on is in use. -/
structure St (ρ : Ren) (h : H) (w : World) : Prop where
  good : Good ρ h w
  free : ∀ b, h.next ≤ b → ρ b = none
  okw : OKW w
  far : ∀ k, Foot ρ h k → limO ≤ k

theorem St.fresh {ρ : Ren} {h h' : H} {w : World} (s : St ρ h w) : Fresh ρ h h' := fun b h1 _ => s.free b h1
theorem St.of {ρ ρ' : Ren} {h h' : H} {w w' : World} (s : St ρ h w) (g : Good ρ' h' w') (t : Trans ρ h w ρ' h' w') : St ρ' h' w' :=
  ⟨g, fun b hb => by
    cases hq : ρ' b with
    | none => rfl
    | some e =>
      have h0 := s.free b (Nat.le_trans t.next hb)
      have := t.ids b h0 (by rw [hq]; simp)
      omega,
    s.okw.keep t.size (fun k hk => t.keep k (Nat.lt_of_lt_of_le hk s.okw.1) fun hf => absurd (s.far k hf) (by omega)),
    fun k hk => by
      rcases t.foot k hk with h1 | h1
      · exact s.far k h1
      · exact Nat.le_trans s.okw.1 h1⟩

/-- Contracts hold in such worlds. -/
class OrcSound (P : Program) : Prop where
  ok : ∀ f vs v, orc f vs = some v → ∀ w, OKW w → Calls P f vs.toArray w fun e w' => e = .returned v ∧ w' = w

section
variable {P : Program} {ρ : Ren} {w w' : World} {fr fr' : Frame} {cs cs' : List Frame}

theorem exec_go (hm : fr.mode = .run) (h : (stepG.exec P true true fr cs none w).bare = .go { frame := fr', callers := cs', status := .running, dying := none } w') :
    step P (lone fr cs w) = .next (lone fr' cs' w') := step_lone_go (by simp only [stepG, hm]; exact h)

theorem eval_rel {nt : Nat} {tmps : Tr AV} (ht : TRel ρ nt tmps fr.tmps) : ∀ x v, ev tmps x = some v → VRel ρ v (fr.eval x) := by
  intro x v hx
  cases x with
  | tmp t =>
    obtain ⟨y, h1, h2⟩ := ht.2 t v hx
    show VRel ρ v (fr.tmps.getD t undef)
    rw [Array.getD_eq_getD_getElem?, h1]
    exact h2
  | const c => cases hx; exact ofValue_rel c
  | global g => cases hx; exact .val _
  | func f => cases hx; exact .val _

theorem yielded_rel {nt : Nat} {tmps : Tr AV} {ops : Array Oper} {j : Nat} {r : Option Bool} {arr : Array Value} (ht : TRel ρ nt tmps arr) (hy : yieldedA ops tmps j = some r) : yielded ops arr j = r := by
  unfold yieldedA at hy
  unfold yielded
  split at hy
  · rename_i d hd
    rw [hd]
    simp only [Option.bind_some]
    split at hy
    · rename_i b hb
      cases hy
      obtain ⟨y, h1, h2⟩ := ht.2 d _ hb
      cases h2
      rw [h1]
    · rename_i v hne hb
      cases hy
      obtain ⟨y, h1, h2⟩ := ht.2 d _ hb
      rw [h1]
      cases y <;> first | rfl | skip
      cases h2
      exact absurd rfl (hne _)
    · cases hy
  · rename_i hd
    cases hy
    rw [hd]
    rfl

theorem wanted_rel {nt : Nat} {tmps : Tr AV} {ops : Array Oper} {o : Oper} {b : Bool} {arr : Array Value} (ht : TRel ρ nt tmps arr) (hy : wantedA ops o tmps = some b) : Region.wanted o (yielded ops arr) = b := by
  unfold wantedA at hy
  unfold Region.wanted
  split at hy
  · rename_i hg; rw [hg]; cases hy; rfl
  · rename_i j want hg
    rw [hg]
    simp only [Option.map_eq_some_iff] at hy
    obtain ⟨r, h1, h2⟩ := hy
    simp only [yielded_rel ht h1, h2]

def putV (arr : Array Value) (dst : Option Tmp) (v : Value) : Array Value :=
  match dst with
  | some d => arr.setIfInBounds d v
  | none => arr

theorem put_rel {nt : Nat} {tmps tmps' : Tr AV} {arr : Array Value} {dst : Option Tmp} {x : AV} {v : Value} (ht : TRel ρ nt tmps arr) (hp : putT tmps nt dst x = some tmps') (hx : VRel ρ x v) :
    TRel ρ nt tmps' (putV arr dst v) := by
  unfold putT at hp
  split at hp
  · cases hp; exact ht
  · rename_i d
    split at hp
    · rename_i hd
      cases hp
      exact ht.put hd hx
    · cases hp

theorem finish_region {ops : Array Oper} {i : Nat} {rest : List Nat} {k : List Item} {v : Value} (ht : fr.todo = .inRegion ops (i :: rest) :: k) :
    fr.finish v = { fr with tmps := putV fr.tmps ((ops[i]?).bind (·.dst)) v, todo := .inRegion ops rest :: k } := by
  unfold Frame.finish
  rw [ht]
  simp only [putV]
  cases (ops[i]?).bind (·.dst) <;> rfl

theorem stepG_oper {ops : Array Oper} {i : Nat} {rest : List Nat} {k : List Item} {o : Oper} (hm : fr.mode = .run) (ht : fr.todo = .inRegion ops (i :: rest) :: k) (ho : ops[i]? = some o)
    (hw : Region.wanted o (yielded ops fr.tmps) = true) (hd : fr.roundOf = none ∨ ∀ c, o.op ≠ .defer c) :
    stepG P true { frame := fr, callers := cs, status := .running, dying := none } w = stepG.apply P true fr cs none (execOp fr.eval o) w := by
  have hop : fr.oper? = some o := by unfold Frame.oper?; rw [ht]; exact ho
  simp only [stepG, hm]
  unfold stepG.exec
  simp only [ht, ho, Option.map_some, Option.getD_some, hw, if_true]
  unfold stepG.oper
  simp only [hop]
  rcases hd with hd | hd
  · rw [hd]
  · cases hr : fr.roundOf with
    | none => rfl
    | some l =>
      generalize hq : o.op = op at hd ⊢
      cases op <;> first | rfl | exact absurd rfl (hd _)

theorem op_skip {ops : Array Oper} {i : Nat} {rest : List Nat} {k : List Item} {o : Oper} (hm : fr.mode = .run) (ht : fr.todo = .inRegion ops (i :: rest) :: k) (ho : ops[i]? = some o)
    (hw : Region.wanted o (yielded ops fr.tmps) = false) : step P (lone fr cs w) = .next (lone (fr.finish undef) cs w) :=
  exec_go hm (by unfold stepG.exec; simp only [ht, ho, Option.map_some, Option.getD_some, hw, Bool.false_eq_true, if_false]; rfl)

theorem op_value {ops : Array Oper} {i : Nat} {rest : List Nat} {k : List Item} {o : Oper} {v : Value} (hm : fr.mode = .run) (ht : fr.todo = .inRegion ops (i :: rest) :: k) (ho : ops[i]? = some o)
    (hw : Region.wanted o (yielded ops fr.tmps) = true) (hd : fr.roundOf = none ∨ ∀ c, o.op ≠ .defer c) (hr : (execOp fr.eval o).run P w = .ok (.value v) w') :
    step P (lone fr cs w) = .next (lone (fr.finish v) cs w') :=
  step_lone_go (by rw [stepG_oper hm ht ho hw hd]; simp [stepG.apply, hr])
theorem op_nothing {ops : Array Oper} {i : Nat} {rest : List Nat} {k : List Item} {o : Oper} (hm : fr.mode = .run) (ht : fr.todo = .inRegion ops (i :: rest) :: k) (ho : ops[i]? = some o)
    (hw : Region.wanted o (yielded ops fr.tmps) = true) (hd : fr.roundOf = none ∨ ∀ c, o.op ≠ .defer c) (hr : (execOp fr.eval o).run P w = .ok .skip w') :
    step P (lone fr cs w) = .next (lone (fr.finish undef) cs w') :=
  step_lone_go (by rw [stepG_oper hm ht ho hw hd]; simp [stepG.apply, hr])
theorem op_enter {ops : Array Oper} {i : Nat} {rest : List Nat} {k : List Item} {o : Oper} {f : FuncId} {args : Array Value} (hm : fr.mode = .run) (ht : fr.todo = .inRegion ops (i :: rest) :: k) (ho : ops[i]? = some o)
    (hw : Region.wanted o (yielded ops fr.tmps) = true) (hd : fr.roundOf = none ∨ ∀ c, o.op ≠ .defer c) (hr : (execOp fr.eval o).run P w = .ok (.enter f args) w') :
    step P (lone fr cs w) = .next (lone (Frame.enter P f args .normal) (fr :: cs) w') :=
  step_lone_go (by rw [stepG_oper hm ht ho hw hd]; simp [stepG.apply, hr, ht])
theorem op_round {ops : Array Oper} {i : Nat} {rest : List Nat} {k : List Item} {o : Oper} {l : Nat} {f : FuncId} {tmps : Array Value} {as body : Code} (hm : fr.mode = .run) (ht : fr.todo = .inRegion ops (i :: rest) :: k) (ho : ops[i]? = some o)
    (hw : Region.wanted o (yielded ops fr.tmps) = true) (hd : fr.roundOf = none ∨ ∀ c, o.op ≠ .defer c) (hr : (execOp fr.eval o).run P w = .ok (.round l f tmps as body) w') :
    step P (lone fr cs w) = .next (lone (Frame.round l f tmps as body .normal) (fr :: cs) w') :=
  step_lone_go (by rw [stepG_oper hm ht ho hw hd]; simp [stepG.apply, hr])
theorem op_defer {ops : Array Oper} {i : Nat} {rest : List Nat} {k : List Item} {o : Oper} {d : Deferred} (hm : fr.mode = .run) (ht : fr.todo = .inRegion ops (i :: rest) :: k) (ho : ops[i]? = some o)
    (hw : Region.wanted o (yielded ops fr.tmps) = true) (hd : fr.roundOf = none ∨ ∀ c, o.op ≠ .defer c) (hr : (execOp fr.eval o).run P w = .ok (.defer d) w') :
    step P (lone fr cs w) = .next (lone ({ fr with defers := d :: fr.defers }.finish undef) cs w') :=
  step_lone_go (by rw [stepG_oper hm ht ho hw hd]; simp [stepG.apply, hr])
theorem op_recover {ops : Array Oper} {i : Nat} {rest : List Nat} {k : List Item} {o : Oper} (hm : fr.mode = .run) (ht : fr.todo = .inRegion ops (i :: rest) :: k) (ho : ops[i]? = some o)
    (hw : Region.wanted o (yielded ops fr.tmps) = true) (hro : fr.roundOf = none) (hr : (execOp fr.eval o).run P w = .ok .recover w') :
    step P (lone fr cs w) = .next (match tryRecover fr cs with
      | some (v, cs') => lone (fr.finish v) cs' w'
      | none => lone (fr.finish .nilIface) cs w') := by
  cases h : tryRecover fr cs with
  | some q =>
    obtain ⟨v, cs'⟩ := q
    exact step_lone_go (by rw [stepG_oper hm ht ho hw (.inl hro)]; simp [stepG.apply, hr, hro, h])
  | none => exact step_lone_go (by rw [stepG_oper hm ht ho hw (.inl hro)]; simp [stepG.apply, hr, hro, h])
theorem op_panic {ops : Array Oper} {i : Nat} {rest : List Nat} {k : List Item} {o : Oper} {v : Value} (hm : fr.mode = .run) (ht : fr.todo = .inRegion ops (i :: rest) :: k) (ho : ops[i]? = some o)
    (hw : Region.wanted o (yielded ops fr.tmps) = true) (hd : fr.roundOf = none ∨ ∀ c, o.op ≠ .defer c) (hr : (execOp fr.eval o).run P w = .halt (.panic v) w') :
    step P (lone fr cs w) = .next (lone (fr.raise [{ v, recovered := false }]) cs w') :=
  step_lone_go (by rw [stepG_oper hm ht ho hw hd]; simp [stepG.apply, hr])
end
end Go.Ev

namespace Go.Ev
section
variable {P : Program}

theorem defer_only {ev : Operand → Option AV} {o : Oper} {h h' : H} {x : ANext} (ha : aop P ev o h = some (x, h')) (hx : ∀ d, x ≠ .defer d) : ∀ c, o.op ≠ .defer c := by
  intro c hc
  unfold aop at ha
  rw [hc] at ha
  simp only [deferOpA, Option.bind_eq_some_iff] at ha
  obtain ⟨args, _, ha⟩ := ha
  split at ha
  · simp only [Option.bind_eq_some_iff] at ha
    obtain ⟨f, _, ha⟩ := ha
    split at ha
    · cases ha; exact hx _ rfl
    · cases ha; exact hx _ rfl
    · cases ha
  · cases ha

def OpsOut (P : Program) (ops : Array Oper) (nt : Nat) (k : List Item) (ρ : Ren) (h : H) (fr : Frame) (w : World) : OpsRes → Prop
  | .done tmps' h' => ∃ ρ' arr w', (∀ cs, Steps P (lone fr cs w) (lone { fr with tmps := arr, todo := k } cs w')) ∧ TRel ρ' nt tmps' arr ∧ St ρ' h' w' ∧ Trans ρ h w ρ' h' w'
  | .ctl x o j rest' tmps' h' => ∃ ρ₁ h₁ arr w₁, (∀ cs, Steps P (lone fr cs w) (lone { fr with tmps := arr, todo := .inRegion ops (List.range' j (rest'.length + 1)) :: k } cs w₁)) ∧ TRel ρ₁ nt tmps' arr ∧
      St ρ₁ h₁ w₁ ∧ Trans ρ h w ρ₁ h₁ w₁ ∧ ops[j]? = some o ∧ rest' = ops.toList.drop (j + 1) ∧ aop P (ev tmps') o h₁ = some (x, h') ∧ wantedA ops o tmps' = some true

theorem OpsOut.before {ops : Array Oper} {nt : Nat} {k : List Item} {ρ ρ₁ : Ren} {h h₁ : H} {fr fr₁ : Frame} {w w₁ : World} {r : OpsRes}
    (hs : ∀ cs, step P (lone fr cs w) = .next (lone fr₁ cs w₁)) (hf : ∃ arr td, fr₁ = { fr with tmps := arr, todo := td }) (t : Trans ρ h w ρ₁ h₁ w₁) (h0 : OpsOut P ops nt k ρ₁ h₁ fr₁ w₁ r) : OpsOut P ops nt k ρ h fr w r := by
  obtain ⟨arr0, td, rfl⟩ := hf
  cases r with
  | done tmps' h' =>
    obtain ⟨ρ', arr, w', h1, h2, h3, h4⟩ := h0
    exact ⟨ρ', arr, w', fun cs => .head (hs cs) (h1 cs), h2, h3, t.trans h4⟩
  | ctl x o j rest' tmps' h' =>
    obtain ⟨ρ₂, h₂, arr, w₂, h1, h2, h3, h4, h5⟩ := h0
    exact ⟨ρ₂, h₂, arr, w₂, fun cs => .head (hs cs) (h1 cs), h2, h3, t.trans h4, h5⟩

theorem runOps_ok {ops : Array Oper} {nt : Nat} {k : List Item} : ∀ (rest : List Oper) (i : Nat) (tmps : Tr AV) (h : H) (r : OpsRes), runOps P ops nt i rest tmps h = some r → rest = ops.toList.drop i →
    ∀ (ρ : Ren) (fr : Frame) (w : World), fr.mode = .run → fr.todo = .inRegion ops (List.range' i rest.length) :: k → TRel ρ nt tmps fr.tmps → St ρ h w → OpsOut P ops nt k ρ h fr w r
  | [], i, tmps, h, r, hr, _, ρ, fr, w, hm, ht, htr, hst => by
    simp only [runOps, Option.some.injEq] at hr
    subst hr
    refine ⟨ρ, fr.tmps, w, fun cs => .one (exec_go hm ?_), htr, hst, .refl _ _ _⟩
    unfold stepG.exec
    simp only [ht]
    rfl
  | o :: rest, i, tmps, h, r, hr, hrest, ρ, fr, w, hm, ht, htr, hst => by
    have ho : ops[i]? = some o := by
      have : (ops.toList.drop i)[0]? = some o := by rw [← hrest]; rfl
      rw [List.getElem?_drop] at this
      simpa using this
    have hrest' : rest = ops.toList.drop (i + 1) := by
      have : (ops.toList.drop i).drop 1 = rest := by rw [← hrest]; rfl
      rw [List.drop_drop] at this
      exact this.symm
    have ht' : fr.todo = .inRegion ops (i :: List.range' (i + 1) rest.length) :: k := by rw [ht]; rfl
    simp only [runOps] at hr
    split at hr
    · rename_i hw
      have hwant := wanted_rel htr hw
      split at hr
      · rename_i v h1 ha
        have hd : fr.roundOf = none ∨ ∀ c, o.op ≠ .defer c := .inr (defer_only ha (by simp))
        split at hr
        · rename_i tmps1 hp
          rcases aop_ok hst.good (eval_rel htr) ha hst.fresh with ⟨_, _, _, _, hx, _⟩ | ⟨ρ₁, n, w₁, hrun, hn, hg, htn⟩
          · cases hx
          · cases n <;> simp only [NRel] at hn
            rename_i v'
            have hstep : ∀ cs, step P (lone fr cs w) = .next (lone (fr.finish v') cs w₁) := fun cs => op_value hm ht' ho hwant hd hrun
            rw [finish_region ht'] at hstep
            have := runOps_ok rest (i + 1) tmps1 h1 r hr hrest' ρ₁ { fr with tmps := putV fr.tmps ((ops[i]?).bind (·.dst)) v', todo := .inRegion ops (List.range' (i + 1) rest.length) :: k } w₁ hm rfl
              (by rw [ho]; exact put_rel (htr.mono htn.le) hp hn) (hst.of hg htn)
            exact this.before hstep ⟨_, _, rfl⟩ htn
        · cases hr
      · rename_i h1 ha
        have hd : fr.roundOf = none ∨ ∀ c, o.op ≠ .defer c := .inr (defer_only ha (by simp))
        split at hr
        · rename_i tmps1 hp
          rcases aop_ok hst.good (eval_rel htr) ha hst.fresh with ⟨_, _, _, _, hx, _⟩ | ⟨ρ₁, n, w₁, hrun, hn, hg, htn⟩
          · cases hx
          · cases n <;> simp only [NRel] at hn
            have hstep : ∀ cs, step P (lone fr cs w) = .next (lone (fr.finish undef) cs w₁) := fun cs => op_nothing hm ht' ho hwant hd hrun
            rw [finish_region ht'] at hstep
            have := runOps_ok rest (i + 1) tmps1 h1 r hr hrest' ρ₁ { fr with tmps := putV fr.tmps ((ops[i]?).bind (·.dst)) undef, todo := .inRegion ops (List.range' (i + 1) rest.length) :: k } w₁ hm rfl
              (by rw [ho]; exact put_rel (htr.mono htn.le) hp (.val _)) (hst.of hg htn)
            exact this.before hstep ⟨_, _, rfl⟩ htn
        · cases hr
      · rename_i x h1 hnv hns ha
        cases hr
        refine ⟨ρ, h, fr.tmps, w, fun cs => ?_, htr, hst, .refl _ _ _, ho, hrest', ha, hw⟩
        have : ({ fr with tmps := fr.tmps, todo := .inRegion ops (List.range' i (rest.length + 1)) :: k } : Frame) = fr := by
          have := ht
          simp only [List.length_cons] at this
          cases fr; simp only at this; subst this; rfl
        rw [this]
        exact .refl _ _
      · cases hr
    · rename_i hw
      have hwant := wanted_rel htr hw
      split at hr
      · rename_i tmps1 hp
        have hstep : ∀ cs, step P (lone fr cs w) = .next (lone (fr.finish undef) cs w) := fun cs => op_skip hm ht' ho hwant
        rw [finish_region ht'] at hstep
        have := runOps_ok rest (i + 1) tmps1 h r hr hrest' ρ { fr with tmps := putV fr.tmps ((ops[i]?).bind (·.dst)) undef, todo := .inRegion ops (List.range' (i + 1) rest.length) :: k } w hm rfl
          (by rw [ho]; exact put_rel htr hp (.val _)) hst
        exact this.before hstep ⟨_, _, rfl⟩ (.refl _ _ _)
      · cases hr
    · cases hr

/-! ### Frames -/
def bot : AFrame → List AFrame → FuncId × Option Nat
  | fr, [] => (fr.fn, fr.roundOf)
  | _, c :: cs => bot c cs

theorem bot_same {f g : AFrame} (h1 : f.fn = g.fn) (h2 : f.roundOf = g.roundOf) : ∀ cs, bot f cs = bot g cs
  | [] => by simp [bot, h1, h2]
  | _ :: _ => rfl

/-- Where a step of the names leads, the machine comes by steps. -/
def Sim (P : Program) (ρ : Ren) (m : M) (fr : Frame) (cs : List Frame) (w : World) (m' : M) : Prop :=
  bot m'.fr m'.cs = bot m.fr m.cs ∧ ∃ ρ' fr' cs' w', (∀ CS, Steps P (lone fr (cs ++ CS) w) (lone fr' (cs' ++ CS) w')) ∧ FrRel ρ' m'.fr fr' ∧ All2 (FrRel ρ') m'.cs cs' ∧ St ρ' m'.h w' ∧ Trans ρ m.h w ρ' m'.h w'

def Out (P : Program) (m₀ : Machine) (CS : List Frame) (b : FuncId × Option Nat) (x : Value) (w' : World) : Prop :=
  match b.2 with
  | none => ∃ fr', Steps P m₀ (lone fr' CS w') ∧ fr'.leaving P w' (.returned x) ∧ fr'.fn = b.1
  | some _ => ∀ c CS', CS = c :: CS' → Steps P m₀ (lone (c.finish x) CS' w')

def GoneOk (P : Program) (ρ : Ren) (m : M) (fr : Frame) (cs : List Frame) (w : World) (v : AV) (h' : H) : Prop :=
  ∃ ρ' x w', VRel ρ' v x ∧ St ρ' h' w' ∧ Trans ρ m.h w ρ' h' w' ∧ ∀ CS, Out P (lone fr (cs ++ CS) w) CS (bot m.fr m.cs) x w'

def ResOk (P : Program) (ρ : Ren) (m : M) (fr : Frame) (cs : List Frame) (w : World) : ARes → Prop
  | .go m' => Sim P ρ m fr cs w m'
  | .gone v h' => GoneOk P ρ m fr cs w v h'

theorem Out.before {m₀ m₁ : Machine} {CS : List Frame} {b : FuncId × Option Nat} {x : Value} {w' : World} (hs : Steps P m₀ m₁) (h : Out P m₁ CS b x w') : Out P m₀ CS b x w' := by
  revert h
  unfold Out
  cases b.2 with
  | none => rintro ⟨fr', h1, h2⟩; exact ⟨fr', hs.trans h1, h2⟩
  | some l => intro h c CS' hc; exact hs.trans (h c CS' hc)

theorem ResOk.before {ρ ρ₁ : Ren} {m m₁ : M} {fr fr₁ : Frame} {cs cs₁ : List Frame} {w w₁ : World} {r : ARes} (hb : bot m₁.fr m₁.cs = bot m.fr m.cs) (hs : ∀ CS, Steps P (lone fr (cs ++ CS) w) (lone fr₁ (cs₁ ++ CS) w₁))
    (t : Trans ρ m.h w ρ₁ m₁.h w₁) (h : ResOk P ρ₁ m₁ fr₁ cs₁ w₁ r) : ResOk P ρ m fr cs w r := by
  cases r with
  | go m' =>
    obtain ⟨h0, ρ', fr', cs', w', h1, h2, h3, h4, h5⟩ := h
    exact ⟨h0.trans hb, ρ', fr', cs', w', fun CS => (hs CS).trans (h1 CS), h2, h3, h4, t.trans h5⟩
  | gone v h' =>
    obtain ⟨ρ', x, w', h1, h2, h3, h4⟩ := h
    exact ⟨ρ', x, w', h1, h2, t.trans h3, fun CS => by rw [← hb]; exact (h4 CS).before (hs CS)⟩

/-- A step within the frame on top. -/
theorem sim_top {ρ ρ' : Ren} {m : M} {fr fr' : Frame} {cs : List Frame} {w w' : World} {f' : AFrame} {h' : H} (hcs : All2 (FrRel ρ) m.cs cs) (hs : ∀ CS, Steps P (lone fr (cs ++ CS) w) (lone fr' (cs ++ CS) w'))
    (hf : FrRel ρ' f' fr') (h1 : f'.fn = m.fr.fn) (h2 : f'.roundOf = m.fr.roundOf) (hst : St ρ' h' w') (t : Trans ρ m.h w ρ' h' w') : Sim P ρ m fr cs w ⟨f', m.cs, h'⟩ :=
  ⟨bot_same h1 h2 _, ρ', fr', cs, w', hs, hf, hcs.mono fun _ _ => FrRel.mono t.le, hst, t⟩
end
end Go.Ev

namespace Go.Ev
section
variable {P : Program} {ρ : Ren} {w : World}

theorem atR_self {fr : Frame} (hm : fr.mode = .run) : fr.atR ⟨fr.tmps, fr.defers⟩ fr.todo = fr := by
  cases fr; simp only at hm; subst hm; rfl

theorem All2.cons_inv {α β : Type} {R : α → β → Prop} {x : α} {l : List α} {m : List β} (h : All2 R (x :: l) m) : ∃ y m', m = y :: m' ∧ R x y ∧ All2 R l m' := by
  cases h with | cons a t => exact ⟨_, _, rfl, a, t⟩
theorem All2.nil_inv {α β : Type} {R : α → β → Prop} {m : List β} (h : All2 R [] m) : m = [] := by cases h; rfl

theorem argTmps_get : ∀ (args : List AV) (i : Nat) (t : Tr AV) (j : Nat), (argTmps args i t).get j = if i ≤ j ∧ j < i + args.length then args[j - i]? else t.get j
  | [], i, t, j => by
    unfold argTmps
    rw [if_neg (by simp)]
  | v :: args, i, t, j => by
    unfold argTmps
    rw [argTmps_get args (i + 1), Tr.get_put _ _ _ (by omega)]
    simp only [List.length_cons]
    by_cases h1 : i + 1 ≤ j ∧ j < i + 1 + args.length
    · rw [if_pos h1, if_pos (by omega)]
      have : j - i = (j - (i + 1)) + 1 := by omega
      rw [this, List.getElem?_cons_succ]
    · rw [if_neg h1]
      by_cases h2 : j = i
      · subst h2; rw [if_pos rfl, if_pos (by omega)]; simp
      · rw [if_neg h2, if_neg (by omega)]

theorem enter_rel {f : FuncId} {args : List AV} {args' : Array Value} {kind : CallKind} {g : AFrame} (he : enterA P f args kind = some g) (ha : LRel ρ args args'.toList) :
    FrRel ρ g (Frame.enter P f args' kind) ∧ g.fn = f ∧ g.roundOf = none := by
  unfold enterA at he
  split at he
  · rename_i fn hfn
    split at he
    · rename_i c hc
      split at he
      · rename_i hle
        cases he
        refine ⟨⟨rfl, ?_, ?_, .nil, trivial, rfl, trivial⟩, rfl, rfl⟩
        · have hlen := ha.length
          simp at hlen
          simp only [Frame.enter, hfn, Option.map_some, Option.getD_some]
          refine ⟨by simp; omega, fun i x hx => ?_⟩
          rw [argTmps_get] at hx
          split at hx
          · rename_i hi
            obtain ⟨y, h1, h2⟩ := ha.get _ _ hx
            rw [Nat.sub_zero, Array.getElem?_toList] at h1
            exact ⟨y, by rw [Array.getElem?_append_left (by omega)]; exact h1, h2⟩
          · simp [Tr.get] at hx
        · simp only [Frame.enter, hfn, hc, Option.bind_some, Option.getD_some]
          exact .cons rfl .nil
      · cases he
    · cases he
  · cases he

theorem finish_rel {f f' : AFrame} {fr : Frame} {v : AV} {x : Value} (hF : FrRel ρ f fr) (hv : VRel ρ v x) (hf : finishA f v = some f') : FrRel ρ f' (fr.finish x) ∧ f'.fn = f.fn ∧ f'.roundOf = f.roundOf := by
  unfold finishA at hf
  split at hf
  · rename_i ops i o rest k ht
    simp only [Option.map_eq_some_iff] at hf
    obtain ⟨tmps, hp, rfl⟩ := hf
    have htodo := hF.todo
    rw [ht] at htodo
    obtain ⟨it, k', hk, hi, hk'⟩ := htodo.cons_inv
    cases it <;> simp only [IRel] at hi
    obtain ⟨rfl, hr, rfl⟩ := hi
    rename_i ops'
    have ho : ops'[i]? = some o := by
      have : (ops'.toList.drop i)[0]? = some o := by rw [← hr]; rfl
      rw [List.getElem?_drop] at this
      simpa using this
    have hrest' : rest = ops'.toList.drop (i + 1) := by
      have : (ops'.toList.drop i).drop 1 = rest := by rw [← hr]; rfl
      rw [List.drop_drop] at this
      exact this.symm
    have hk2 : fr.todo = .inRegion ops' (i :: List.range' (i + 1) rest.length) :: k' := by rw [hk]; rfl
    rw [finish_region hk2, ho]
    exact ⟨⟨hF.fn, put_rel hF.tmps hp hv, .cons ⟨rfl, hrest', rfl⟩ hk', hF.defers, hF.mode, hF.kind, hF.round⟩, rfl, rfl⟩
  · rename_i l k ht
    cases hf
    have htodo := hF.todo
    rw [ht] at htodo
    obtain ⟨it, k', hk, hi, hk'⟩ := htodo.cons_inv
    cases it <;> simp only [IRel] at hi
    have : ∀ l', fr.todo = .inRangeFunc l' :: k' → fr.finish x = { fr with todo := .endRangeFunc l' :: k' } := fun l' h => by unfold Frame.finish; rw [h]
    rw [this _ hk]
    exact ⟨⟨hF.fn, hF.tmps, .cons hi hk', hF.defers, hF.mode, hF.kind, hF.round⟩, rfl, rfl⟩
  · cases hf

theorem raise_rel {f : AFrame} {fr : Frame} {c : List (AV × Bool)} {c' : List PanicEntry} (hF : FrRel ρ f fr) (hc : All2 (PanRel ρ) c c') : FrRel ρ (raiseA f c) (fr.raise c') := by
  have hm := hF.mode
  unfold raiseA Frame.raise
  cases h1 : f.mode <;> cases h2 : fr.mode <;> rw [h1, h2] at hm <;> simp only [ModeRel] at hm
  · exact ⟨hF.fn, hF.tmps, hF.todo, hF.defers, hc, hF.kind, hF.round⟩
  · exact ⟨hF.fn, hF.tmps, hF.todo, hF.defers, hc, hF.kind, hF.round⟩
  · exact ⟨hF.fn, hF.tmps, hF.todo, hF.defers, hc.append hm, hF.kind, hF.round⟩

theorem raise_same (f : AFrame) (c : List (AV × Bool)) : (raiseA f c).fn = f.fn ∧ (raiseA f c).roundOf = f.roundOf := by
  unfold raiseA; split <;> exact ⟨rfl, rfl⟩

theorem exitTo_rel {id : Nat} : ∀ {k : List AItem} {k' : List Item}, All2 (IRel ρ) k k' → (∀ r, exitToA id k = some r → ∃ r', exitTo id k' = some r' ∧ All2 (IRel ρ) r r') ∧ (exitToA id k = none → exitTo id k' = none)
  | _, _, .nil => ⟨fun r hr => by simp [exitToA] at hr, fun _ => rfl⟩
  | _, _, .cons (x := x) (y := y) (l := l) (m := m) h t => by
    have ih := exitTo_rel (id := id) t
    cases x <;> cases y <;> simp only [IRel] at h <;> try exact ih
    subst h
    simp only [exitToA, exitTo]
    split
    · exact ⟨fun r hr => by cases hr; exact ⟨m, rfl, t⟩, fun hn => by cases hn⟩
    · exact ih

theorem gotoIn_rel {l : Nat} : ∀ {k : List AItem} {k' : List Item}, All2 (IRel ρ) k k' → (∀ r, gotoInA l k = some r → ∃ r', gotoIn l k' = some r' ∧ All2 (IRel ρ) r r') ∧ (gotoInA l k = none → gotoIn l k' = none)
  | _, _, .nil => ⟨fun r hr => by simp [gotoInA] at hr, fun _ => rfl⟩
  | _, _, .cons (x := x) (y := y) (l := k) (m := m) h t => by
    have ih := gotoIn_rel (l := l) t
    cases x <;> cases y <;> simp only [IRel] at h <;> try exact ih
    subst h
    simp only [gotoInA, gotoIn]
    split
    · rename_i rest hfl
      rw [hfl]
      exact ⟨fun r hr => by cases hr; exact ⟨_, rfl, .cons rfl (.cons rfl t)⟩, fun hn => by cases hn⟩
    · rename_i hfl
      rw [hfl]
      exact ih

/-! ### Coming to an end -/
theorem dropWhile_all {ρ : Ren} : ∀ {c : List (AV × Bool)} {c' : List PanicEntry}, All2 (PanRel ρ) c c' → c'.dropWhile (!·.goexit) = []
  | _, _, .nil => rfl
  | _, _, .cons h t => by
    rw [List.dropWhile_cons, h.2.2]
    simpa using dropWhile_all t

theorem results_ok {h : H} {tmps : Tr AV} {nt : Nat} {arr : Array Value} (g : Good ρ h w) (ht : TRel ρ nt tmps arr) (F : ResultVar → Sem Value) (hF1 : ∀ t, F (.tmp t) = pure (arr.getD t undef))
    (hF2 : ∀ a t, F (.cell a t) = do loadVar t (← asAddr (arr.getD a undef))) : ∀ (l : List ResultVar) (vs : List AV), resultsA P h tmps l = some vs →
    ∃ xs : List Value, (l.mapM F : Sem (List Value)).run P w = .ok xs w ∧ LRel ρ vs xs
  | [], vs, hr => by simp [resultsA] at hr; subst hr; exact ⟨[], rfl, .nil⟩
  | .tmp t :: l, vs, hr => by
    simp only [resultsA, Option.bind_eq_some_iff, Option.map_eq_some_iff] at hr
    obtain ⟨v, hv, r, hr, rfl⟩ := hr
    obtain ⟨xs, h1, h2⟩ := results_ok g ht F hF1 hF2 l r hr
    obtain ⟨y, h3, h4⟩ := ht.2 t v hv
    refine ⟨y :: xs, ?_, .cons h4 h2⟩
    have : arr.getD t undef = y := by rw [Array.getD_eq_getD_getElem?, h3]; rfl
    simp only [List.mapM_cons, hF1, Sem.run_bind, Sem.run_pure, Result.andThen_ok, h1, this]
  | .cell a t :: l, vs, hr => by
    simp only [resultsA, Option.bind_eq_some_iff, Option.map_eq_some_iff] at hr
    obtain ⟨p, hp, v, hv, r, hr, rfl⟩ := hr
    obtain ⟨xs, h1, h2⟩ := results_ok g ht F hF1 hF2 l r hr
    obtain ⟨y, h3, h4⟩ := ht.2 a p hp
    obtain ⟨u, h5, h6⟩ := load_ok (P := P) g hv h4
    refine ⟨u :: xs, ?_, .cons h6 h2⟩
    have : arr.getD a undef = y := by rw [Array.getD_eq_getD_getElem?, h3]; rfl
    have hld : (do loadVar t (← asAddr y) : Sem Value).run P w = .ok u w := by
      unfold load at hv
      split at hv
      · cases h4
        rw [← h5]
        rfl
      · cases hv
    simp only [List.mapM_cons, hF2, Sem.run_bind, this]
    have hld' := hld
    simp only [Sem.run_bind] at hld'
    simp only [hld', Result.andThen_ok, h1, Sem.run_pure]

def resOf (arr : Array Value) : ResultVar → Sem Value
  | .tmp t => pure (arr.getD t undef)
  | .cell a t => do loadVar t (← asAddr (arr.getD a undef))

theorem results_eq (fn : Func) (arr : Array Value) : results fn arr = (do let vs ← fn.results.mapM (resOf arr); pure (if h : vs.size = 1 then vs[0] else .tuple vs)) := by
  unfold results
  congr 1

theorem result_ok {h : H} {f : AFrame} {fr : Frame} {v : AV} (g : Good ρ h w) (hF : FrRel ρ f fr) (hr : resultA P h f = some v) : ∃ fn x, P.funcs[fr.fn]? = some fn ∧ (results fn fr.tmps).run P w = .ok x w ∧ VRel ρ v x := by
  unfold resultA at hr
  split at hr
  · rename_i fn hfn
    have hrun : ∀ vs, resultsA P h f.tmps fn.results.toList = some vs → ∃ xs : List Value, (results fn fr.tmps).run P w = .ok (if h : xs.toArray.size = 1 then xs.toArray[0] else .tuple xs.toArray) w ∧ LRel ρ vs xs := by
      intro vs hvs
      rw [results_eq, show fn.results = fn.results.toList.toArray by simp, List.mapM_toArray]
      simp only [Sem.run_bind, Sem.run_map]
      obtain ⟨xs, h1, h2⟩ := results_ok (P := P) (w := w) g hF.tmps (resOf fr.tmps) (fun t => rfl) (fun a t => rfl) _ _ hvs
      refine ⟨xs, ?_, h2⟩
      rw [h1]
      rfl
    refine ⟨fn, ?_⟩
    split at hr
    · rename_i v0 hvs
      cases hr
      obtain ⟨xs, h1, h2⟩ := hrun _ hvs
      cases h2 with
      | cons hx ht =>
        cases ht
        exact ⟨_, by rw [hF.fn]; exact hfn, h1, by simpa using hx⟩
    · rename_i l hne hvs
      cases hr
      obtain ⟨xs, h1, h2⟩ := hrun _ hvs
      have hl := h2.length
      have h1' : ¬ (xs.toArray.size = 1) := by
        intro hc
        have hc' : l.length = 1 := by rw [hl]; simpa using hc
        match l, hc' with
        | [a], _ => exact hne a rfl
      rw [dif_neg h1'] at h1
      exact ⟨_, by rw [hF.fn]; exact hfn, h1, .tuple (by simpa using h2)⟩
    · cases hr
  · cases hr
end
end Go.Ev

namespace Go.Ev
section
variable {P : Program} {ρ : Ren} {w : World}

theorem orc_steps [OrcSound P] {f : FuncId} {args : List AV} {args' : Array Value} {v : Value} (ho : (toValues args).bind (orc f) = some v) (ha : LRel ρ args args'.toList) (hw : OKW w) (fr : Frame) (cs : List Frame) :
    Steps P (lone (Frame.enter P f args' .normal) (fr :: cs) w) (lone (fr.finish v) cs w) := by
  rw [Option.bind_eq_some_iff] at ho
  obtain ⟨vs, h1, h2⟩ := ho
  have hva : args'.toList = vs := toValues_rel h1 ha
  have hva' : args' = vs.toArray := by rw [← hva]
  subst hva'
  obtain ⟨e, w', fr', ⟨rfl, rfl⟩, h3, h4, h5⟩ := OrcSound.ok (P := P) f vs v h2 w hw (fr :: cs)
  exact h3.trans (.one (step_leave_returned h5))

theorem step_defer' {fr : Frame} {cs : List Frame} {w w' : World} {d : Deferred} {ds : List Deferred} {fv : Fn} {cap : Array Value} {f : FuncId}
    {args : Array Value} (hm : fr.mode ≠ .run) (hd : fr.defers = d :: ds) (ht : d.target = .fn fv cap)
    (hi : (invoke d.target d.args).run P w = .ok (.enter f args) w') :
    step P (lone fr cs w) = .next (lone (Frame.enter P f args .deferred) ({ fr with defers := ds } :: cs) w') := by
  obtain ⟨t, a⟩ := d
  simp only at ht hi
  subst ht
  refine step_lone_go ?_
  cases hmode : fr.mode with
  | run => exact absurd hmode hm
  | returning => simp [stepG, unwind, callDeferred, hmode, hd, hi]
  | panicking chain => simp [stepG, unwind, callDeferred, hmode, hd, hi]

/-- A value handed back by a frame of the kind 'normal' to the frame below. -/
theorem handBack_ok {m : M} {fr : Frame} {cs : List Frame} {v : AV} {x : Value} {h' : H} {w' : World} {ρ' : Ren} {r : ARes} (hcs : All2 (FrRel ρ) m.cs cs) (hv : VRel ρ' v x) (hst : St ρ' h' w') (ht : Trans ρ m.h w ρ' h' w')
    (hstep : ∀ c CS, step P (lone fr (c :: CS) w) = .next (lone (c.finish x) CS w')) (hend : m.cs = [] → ∀ CS, Out P (lone fr CS w) CS (m.fr.fn, m.fr.roundOf) x w')
    (hr : doReturnA .normal m.cs v h' = some r) : ResOk P ρ m fr cs w r := by
  unfold doReturnA at hr
  split at hr
  · rename_i hc
    cases hr
    have hcs0 : cs = [] := by rw [hc] at hcs; exact hcs.nil_inv
    subst hcs0
    refine ⟨ρ', x, w', hv, hst, ht, fun CS => ?_⟩
    rw [hc]
    exact hend hc CS
  · rename_i c rest hc
    simp only [Option.map_eq_some_iff] at hr
    obtain ⟨c', hf, rfl⟩ := hr
    rw [hc] at hcs
    obtain ⟨fc, frest, rfl, h1, h2⟩ := hcs.cons_inv
    obtain ⟨h3, h4, h5⟩ := finish_rel (h1.mono ht.le) hv hf
    refine ⟨by rw [hc]; exact bot_same h4 h5 _, ρ', _, frest, w', fun CS => .one (hstep fc (frest ++ CS)), h3, h2.mono fun _ _ => FrRel.mono ht.le, hst, ht⟩

theorem return_ok {m : M} {fr : Frame} {cs : List Frame} {r : ARes} (hF : FrRel ρ m.fr fr) (hcs : All2 (FrRel ρ) m.cs cs) (hst : St ρ m.h w) (hm : m.fr.mode = .returning) (hd : m.fr.defers = []) (hro : m.fr.roundOf = none)
    (hr : ((resultA P m.h m.fr).bind fun v => doReturnA m.fr.kind m.cs v m.h) = some r) : ResOk P ρ m fr cs w r := by
  simp only [Option.bind_eq_some_iff] at hr
  obtain ⟨v, hv, hr⟩ := hr
  obtain ⟨fn, x, hfn, hx, hvx⟩ := result_ok hst.good hF hv
  have hmode : fr.mode = .returning := by
    have := hF.mode; rw [hm] at this
    cases hq : fr.mode <;> rw [hq] at this <;> simp only [ModeRel] at this
  have hdef : fr.defers = [] := by have := hF.defers; rw [hd] at this; exact this.nil_inv
  have hround : fr.roundOf = none := by
    have := hF.round; rw [hro] at this
    cases hq : fr.roundOf <;> rw [hq] at this <;> simp only [RoundRel] at this
  cases hk : m.fr.kind with
  | normal =>
    rw [hk] at hr
    have hkind : fr.kind = .normal := by rw [hF.kind, hk]
    have hl : fr.leaving P w (.returned x) := ⟨hmode, hdef, hkind, fn, hfn, hx⟩
    exact handBack_ok hcs hvx hst (.refl _ _ _) (fun c CS => step_leave_returned hl) (fun _ CS => by
      unfold Out
      simp only [hro]
      exact ⟨fr, .refl _ _, hl, hF.fn⟩) hr
  | deferred =>
    rw [hk] at hr
    have hkind : fr.kind = .deferred := by rw [hF.kind, hk]
    have hg : fr.going P w (.returned x) := ⟨hmode, hdef, fn, hfn, hx⟩
    unfold doReturnA at hr
    split at hr
    · cases hr
    · rename_i c rest hc
      rw [hc] at hcs
      obtain ⟨fc, frest, rfl, h1, h2⟩ := hcs.cons_inv
      have hsteps : ∀ CS, Steps P (lone fr (fc :: frest ++ CS) w) (lone { fc with mode := settle fc.mode } (frest ++ CS) w) := fun CS => .one (step_going_returned hkind hg)
      simp only at hr
      split at hr
      · rename_i pv pc hpm
        cases hr
        have hs : settle fc.mode = .returning := by
          have hmr := h1.mode
          rw [hpm] at hmr
          cases hq : fc.mode <;> rw [hq] at hmr <;> simp only [ModeRel] at hmr
          cases hmr with
          | cons hx hy =>
            obtain ⟨p1, p2, p3⟩ := hx
            rename_i y0 _
            obtain ⟨yv, yr, yg⟩ := y0
            simp only at p2
            subst p2
            unfold settle
            simp only [dropWhile_all hy]
        rw [hs] at hsteps
        exact ⟨by rw [hc]; exact bot_same (f := { c with mode := .returning }) (g := c) rfl rfl _, ρ, _, frest, w, hsteps, ⟨h1.fn, h1.tmps, h1.todo, h1.defers, trivial, h1.kind, h1.round⟩, h2, hst, .refl _ _ _⟩
      · rename_i hne
        cases hr
        have hs : settle fc.mode = fc.mode := by
          have hmr := h1.mode
          cases hq : fc.mode with
          | panicking ch =>
            rw [hq] at hmr
            cases hqa : c.mode <;> rw [hqa] at hmr <;> simp only [ModeRel] at hmr
            cases hmr with
            | nil => rfl
            | cons hx hy =>
              obtain ⟨p1, p2, p3⟩ := hx
              rename_i x0 y0 _ _
              obtain ⟨yv, yr, yg⟩ := y0
              obtain ⟨xv, xr⟩ := x0
              simp only at p2
              cases yr with
              | false => rfl
              | true => exact absurd hqa (by rw [← p2]; exact hne _ _)
          | _ => rfl
        rw [hs] at hsteps
        exact ⟨by rw [hc]; rfl, ρ, fc, frest, w, hsteps, h1, h2, hst, .refl _ _ _⟩
  | _ => rw [hk] at hr; unfold doReturnA at hr; split at hr <;> cases hr

theorem endRound_ok {h h' : H} {l : Nat} {e : Ent} {J : Option Code} (hst : St ρ h w) (he : ρ l = some e) (hr : endRoundA h l J = some h') :
    ∃ w', (Instr.endRound e.blk J).run P w = .ok (.bool J.isNone) w' ∧ St ρ h' w' ∧ Trans ρ h w ρ h' w' := by
  unfold endRoundA at hr
  split at hr
  · rename_i st pd fn t nt ps as body d hb
    cases hr
    obtain ⟨o, ho, ha⟩ := hst.good.sat l _ e hb he
    cases o <;> simp only [ARel] at ha
    rename_i r
    obtain ⟨h1, h2, h3, h4, h5, h6, h7, h8⟩ := ha
    have hg := run_getObj' (P := P) ho (by simp)
    have hs := run_setObj' (P := P) (o' := .loop { r with state := if J.isNone then .ready else .done, pending := J }) ho (by simp)
    have hp := good_put (ab' := .loop (if J.isNone then .ready else .done) J fn t nt ps as body d) (o' := .loop { r with state := if J.isNone then .ready else .done, pending := J }) hst.good hb he ⟨rfl, rfl, h3, h4, h5, h6, h7, h8⟩
    refine ⟨_, ?_, hst.of hp.1 hp.2, hp.2⟩
    simp only [Instr.endRound, Instr.getLoop, Sem.run_bind, hg, Result.andThen_ok, Sem.run_pure, hs]
  · cases hr

theorem leave_ok {m : M} {fr : Frame} {cs : List Frame} {r : ARes} {J : Option Code} (hF : FrRel ρ m.fr fr) (hcs : All2 (FrRel ρ) m.cs cs) (hst : St ρ m.h w)
    (hN : fr.roundOf = none → (J = none ∨ J = some .ret) → ∀ CS, step P (lone fr CS w) = .next (lone { fr with mode := .returning } CS w))
    (hR : ∀ l v w', fr.roundOf = some l → fr.kind = .normal → (Instr.endRound l J).run P w = .ok v w' → ∀ c CS, step P (lone fr (c :: CS) w) = .next (lone (c.finish v) CS w'))
    (hr : leaveA m.fr m.cs m.h J = some r) : ResOk P ρ m fr cs w r := by
  unfold leaveA at hr
  have hround := hF.round
  split at hr
  · rename_i hro
    rw [hro] at hround
    have hrn : fr.roundOf = none := by cases hq : fr.roundOf <;> rw [hq] at hround <;> simp only [RoundRel] at hround
    have hgo : ∀ J', J = J' → (J' = none ∨ J' = some .ret) → some (ARes.go ⟨{ m.fr with mode := .returning }, m.cs, m.h⟩) = some r → ResOk P ρ m fr cs w r := by
      intro J' hJ hor hr
      cases hr
      exact sim_top hcs (fun CS => .one (hN hrn (by rw [hJ]; exact hor) (cs ++ CS))) ⟨hF.fn, hF.tmps, hF.todo, hF.defers, trivial, hF.kind, hF.round⟩ rfl rfl hst (.refl _ _ _)
    split at hr
    · exact hgo _ rfl (.inl rfl) hr
    · exact hgo _ rfl (.inr rfl) hr
    · cases hr
  · rename_i l hro
    rw [hro] at hround
    cases hq : fr.roundOf with
    | none => rw [hq] at hround; simp only [RoundRel] at hround
    | some l' =>
      rw [hq] at hround
      obtain ⟨e, he, rfl⟩ := hround
      split at hr
      · rename_i hk
        simp only [Option.bind_eq_some_iff] at hr
        obtain ⟨h', her, hr⟩ := hr
        obtain ⟨w', h1, h2, h3⟩ := endRound_ok (P := P) hst he her
        have hkind : fr.kind = .normal := by rw [hF.kind, hk]
        have hstep := hR e.blk _ w' hq hkind h1
        exact handBack_ok hcs (.val _) h2 h3 hstep (fun _ CS => by
          unfold Out
          simp only [hro]
          intro c CS' hc
          subst hc
          exact .one (hstep c CS')) hr
      · cases hr

theorem tryRecover_none {fr : Frame} {c : Frame} {rest : List Frame} (hk : fr.kind = .deferred) (hc : ∀ v older, c.mode ≠ .panicking ({ v := v, recovered := false, goexit := false } :: older)) : tryRecover fr (c :: rest) = none := by
  unfold tryRecover
  rw [hk]
  simp only

/-- An operation that leaves the frame. -/
theorem ctl_ok [OrcSound P] {m : M} {fr : Frame} {cs : List Frame} {r : ARes} {x : ANext} {ops : Array Oper} {i : Nat} {o : Oper} {rest : List Oper} {k : List AItem} {h' : H} (hF : FrRel ρ m.fr fr) (hcs : All2 (FrRel ρ) m.cs cs) (hst : St ρ m.h w)
    (hm : fr.mode = .run) (hmA : m.fr.mode = .run) (ht : m.fr.todo = .inRegion ops i (o :: rest) :: k) (hw : wantedA ops o m.fr.tmps = some true) (ha : aop P (ev m.fr.tmps) o m.h = some (x, h'))
    (hx : (∀ v, x ≠ .value v) ∧ x ≠ .skip) (hr : ctlA P m.fr m.cs h' x = some r) : ResOk P ρ m fr cs w r := by
  have htodo := hF.todo
  rw [ht] at htodo
  obtain ⟨it, k', hk, hi, hk'⟩ := htodo.cons_inv
  cases it <;> simp only [IRel] at hi
  obtain ⟨rfl, hr0, rfl⟩ := hi
  rename_i ops
  have ho : ops[i]? = some o := by
    have : (ops.toList.drop i)[0]? = some o := by rw [← hr0]; rfl
    rw [List.getElem?_drop] at this
    simpa using this
  have hk2 : fr.todo = .inRegion ops (i :: List.range' (i + 1) rest.length) :: k' := by rw [hk]; rfl
  have hwant := wanted_rel hF.tmps hw
  have hout := aop_ok hst.good (eval_rel hF.tmps) ha hst.fresh
  have hround := hF.round
  cases x with
  | value v => exact absurd rfl (hx.1 v)
  | skip => exact absurd rfl hx.2
  | enter f args =>
    have hd : fr.roundOf = none ∨ ∀ c, o.op ≠ .defer c := .inr (defer_only ha (by simp))
    rcases hout with ⟨_, _, _, _, hq, _⟩ | ⟨ρ₁, n, w₁, hrun, hn, hgd, htn⟩
    · cases hq
    · cases n <;> simp only [NRel] at hn
      obtain ⟨rfl, hargs⟩ := hn
      simp only [ctlA] at hr
      split at hr
      · rename_i v hv
        simp only [Option.map_eq_some_iff] at hr
        obtain ⟨f', hf, rfl⟩ := hr
        obtain ⟨h3, h4, h5⟩ := finish_rel (hF.mono htn.le) (.val v) hf
        exact sim_top hcs (fun CS => (Steps.one (op_enter hm hk2 ho hwant hd hrun)).trans (orc_steps hv hargs (hst.of hgd htn).okw fr (cs ++ CS))) h3 h4 h5 (hst.of hgd htn) htn
      simp only [Option.map_eq_some_iff] at hr
      obtain ⟨g, hg, rfl⟩ := hr
      obtain ⟨h1, h2, h3⟩ := enter_rel (P := P) hg hargs
      exact ⟨rfl, ρ₁, _, fr :: cs, w₁, fun CS => .one (op_enter hm hk2 ho hwant hd hrun), h1, .cons (hF.mono htn.le) (hcs.mono fun _ _ => FrRel.mono htn.le), hst.of hgd htn, htn⟩
  | round l f tmps nt as body =>
    have hd : fr.roundOf = none ∨ ∀ c, o.op ≠ .defer c := .inr (defer_only ha (by simp))
    simp only [ctlA, Option.some.injEq] at hr
    subst hr
    rcases hout with ⟨_, _, _, _, hq, _⟩ | ⟨ρ₁, n, w₁, hrun, hn, hgd, htn⟩
    · cases hq
    · cases n <;> simp only [NRel] at hn
      obtain ⟨⟨e, he, rfl⟩, rfl, htr, rfl, rfl⟩ := hn
      exact ⟨rfl, ρ₁, _, fr :: cs, w₁, fun CS => .one (op_round hm hk2 ho hwant hd hrun), ⟨rfl, htr, .cons rfl (.cons trivial (.cons rfl .nil)), .nil, trivial, rfl, ⟨e, he, rfl⟩⟩,
        .cons (hF.mono htn.le) (hcs.mono fun _ _ => FrRel.mono htn.le), hst.of hgd htn, htn⟩
  | recover =>
    simp only [ctlA] at hr
    split at hr
    · rename_i hro hkd
      rw [hro] at hround
      have hrn : fr.roundOf = none := by cases hq : fr.roundOf <;> rw [hq] at hround <;> simp only [RoundRel] at hround
      have hkind : fr.kind = .deferred := by rw [hF.kind, hkd]
      rcases hout with ⟨_, _, _, _, hq, _⟩ | ⟨ρ₁, n, w₁, hrun, hn, hgd, htn⟩
      · cases hq
      · cases n <;> simp only [NRel] at hn
        split at hr
        · rename_i c crest hc
          rw [hc] at hcs
          obtain ⟨fc, frest, rfl, h1, h2⟩ := hcs.cons_inv
          have hF' := hF.mono htn.le
          have h1' := h1.mono htn.le
          split at hr
          · rename_i pv older hpm
            simp only [Option.map_eq_some_iff] at hr
            obtain ⟨f', hfin, rfl⟩ := hr
            have hmr := h1'.mode
            rw [hpm] at hmr
            cases hq : fc.mode <;> rw [hq] at hmr <;> simp only [ModeRel] at hmr
            cases hmr with
            | cons hpx hpy =>
              rename_i y0 m0
              obtain ⟨yv, yr, yg⟩ := y0
              obtain ⟨p1, p2, p3⟩ := hpx
              simp only at p1 p2 p3
              subst p2; subst p3
              have htry : ∀ CS, tryRecover fr (fc :: frest ++ CS) = some (yv, { fc with mode := .panicking ({ v := yv, recovered := true } :: m0) } :: (frest ++ CS)) := fun CS => by
                unfold tryRecover
                simp only [hkind, List.cons_append, hq]
              obtain ⟨h3, h4, h5⟩ := finish_rel hF' p1 hfin
              refine ⟨by rw [hc]; exact bot_same (f := { c with mode := .panicking ((pv, true) :: older) }) (g := c) rfl rfl _, ρ₁, fr.finish yv, { fc with mode := .panicking ({ v := yv, recovered := true } :: m0) } :: frest, w₁, fun CS => .one ?_, h3,
                .cons ⟨h1'.fn, h1'.tmps, h1'.todo, h1'.defers, .cons ⟨p1, rfl, rfl⟩ hpy, h1'.kind, h1'.round⟩ (h2.mono fun _ _ => FrRel.mono htn.le), hst.of hgd htn, htn⟩
              have := op_recover (P := P) (cs := fc :: frest ++ CS) hm hk2 ho hwant hrn hrun
              rw [htry CS] at this
              exact this
          · rename_i hne
            simp only [Option.map_eq_some_iff] at hr
            obtain ⟨f', hfin, rfl⟩ := hr
            obtain ⟨h3, h4, h5⟩ := finish_rel hF' (.val .nilIface) hfin
            have htry : ∀ CS, tryRecover fr (fc :: frest ++ CS) = none := fun CS => tryRecover_none hkind fun v older hq => by
              have hmr := h1'.mode
              rw [hq] at hmr
              cases hqa : c.mode <;> rw [hqa] at hmr <;> simp only [ModeRel] at hmr
              cases hmr with
              | cons hpx hpy =>
                rename_i x0 _
                obtain ⟨xv, xr⟩ := x0
                have : false = xr := hpx.2.1
                subst this
                exact hne _ _ hqa
            refine ⟨bot_same h4 h5 _, ρ₁, fr.finish .nilIface, fc :: frest, w₁, fun CS => .one ?_, h3, by simp only [hc]; exact .cons h1' (h2.mono fun _ _ => FrRel.mono htn.le), hst.of hgd htn, htn⟩
            have := op_recover (P := P) (cs := fc :: frest ++ CS) hm hk2 ho hwant hrn hrun
            rw [htry CS] at this
            exact this
        · cases hr
    · cases hr
  | panic v =>
    have hd : fr.roundOf = none ∨ ∀ c, o.op ≠ .defer c := .inr (defer_only ha (by simp))
    simp only [ctlA, Option.some.injEq] at hr
    subst hr
    rcases hout with ⟨v1, ρ₁, v', w₁, hq, hrun, hv, hgd, htn⟩ | ⟨ρ₁, n, w₁, hrun, hn, hgd, htn⟩
    · cases hq
      have hF' := hF.mono htn.le
      exact sim_top hcs (fun CS => .one (op_panic hm hk2 ho hwant hd hrun)) (raise_rel hF' (.cons ⟨hv, rfl, rfl⟩ .nil)) (raise_same _ _).1 (raise_same _ _).2 (hst.of hgd htn) htn
    · cases n <;> simp only [NRel] at hn
  | _ =>
    rename_i d
    simp only [ctlA] at hr
    split at hr
    · rename_i ops2 i2 o2 rest2 k2 hro htd
      rw [ht] at htd
      cases htd
      simp only [Option.map_eq_some_iff] at hr
      obtain ⟨tmps, hp, rfl⟩ := hr
      rw [hro] at hround
      have hrn : fr.roundOf = none := by cases hq : fr.roundOf <;> rw [hq] at hround <;> simp only [RoundRel] at hround
      rcases hout with ⟨_, _, _, _, hq, _⟩ | ⟨ρ₁, n, w₁, hrun, hn, hgd, htn⟩
      · cases hq
      · cases n <;> simp only [NRel] at hn
        rename_i d'
        have hfin : ({ fr with defers := d' :: fr.defers } : Frame).finish undef = { fr with defers := d' :: fr.defers, tmps := putV fr.tmps o.dst undef, todo := .inRegion ops (List.range' (i + 1) rest.length) :: k' } := by
          rw [finish_region (fr := { fr with defers := d' :: fr.defers }) hk2, ho]; rfl
        have hstep := fun CS => op_defer (P := P) (cs := cs ++ CS) hm hk2 ho hwant (.inl hrn) hrun
        rw [hfin] at hstep
        have hrest' : rest = ops.toList.drop (i + 1) := by
          have : (ops.toList.drop i).drop 1 = rest := by rw [← hr0]; rfl
          rw [List.drop_drop] at this
          exact this.symm
        have hF' := hF.mono htn.le
        exact sim_top hcs (fun CS => .one (hstep CS)) ⟨hF'.fn, put_rel hF'.tmps hp (.val _), .cons ⟨rfl, hrest', rfl⟩ (hk'.mono fun _ _ => IRel.mono htn.le), .cons hn hF'.defers, hF'.mode, hF'.kind, hF'.round⟩ rfl rfl (hst.of hgd htn) htn
    · cases hr
end
end Go.Ev

namespace Go.Ev
section
variable {P : Program}

/-- Regions that draw their order are taken rightly. -/
def DrawnSound (P : Program) (call : M → Option (AV × H)) : Prop :=
  ∀ (ops : Array Oper) (nt : Nat) (tmps : Tr AV) (h : H) (q : Tr AV × H), drawnA P call ops nt tmps h = some q →
    ∀ (ρ : Ren) (fr : Frame) (cs : List Frame) (w : World) (id : Nat) (k : List Item), fr.mode = .run → fr.todo = .code (.region id ops true) :: k → TRel ρ nt tmps fr.tmps → St ρ h w →
      ∃ ρ' arr w', Steps P (lone fr cs w) (lone { fr with tmps := arr, todo := k } cs w') ∧ TRel ρ' nt q.1 arr ∧ St ρ' q.2 w' ∧ Trans ρ h w ρ' q.2 w'

/-- As 'ResOk', over given callers. -/
def ResAt (P : Program) (CS : List Frame) (ρ : Ren) (m : M) (fr : Frame) (cs : List Frame) (w : World) : ARes → Prop
  | .go m' => bot m'.fr m'.cs = bot m.fr m.cs ∧ ∃ ρ' fr' cs' w', Steps P (lone fr (cs ++ CS) w) (lone fr' (cs' ++ CS) w') ∧ FrRel ρ' m'.fr fr' ∧ All2 (FrRel ρ') m'.cs cs' ∧ St ρ' m'.h w' ∧ Trans ρ m.h w ρ' m'.h w'
  | .gone v h' => ∃ ρ' x w', VRel ρ' v x ∧ St ρ' h' w' ∧ Trans ρ m.h w ρ' h' w' ∧ Out P (lone fr (cs ++ CS) w) CS (bot m.fr m.cs) x w'

theorem ResOk.at {ρ : Ren} {m : M} {fr : Frame} {cs : List Frame} {w : World} {r : ARes} (h : ResOk P ρ m fr cs w r) (CS : List Frame) : ResAt P CS ρ m fr cs w r := by
  cases r with
  | go m' =>
    obtain ⟨h0, ρ', fr', cs', w', h1, h2⟩ := h
    exact ⟨h0, ρ', fr', cs', w', h1 CS, h2⟩
  | gone v h' =>
    obtain ⟨ρ', x, w', h1, h2, h3, h4⟩ := h
    exact ⟨ρ', x, w', h1, h2, h3, h4 CS⟩

variable {ρ : Ren} {w : World}

theorem mode_run {a : AMode} {b : FrameMode} (h : ModeRel ρ a b) (ha : a = .run) : b = .run := by
  subst ha; cases b <;> simp only [ModeRel] at h; rfl
theorem mode_ret {a : AMode} {b : FrameMode} (h : ModeRel ρ a b) (ha : a = .returning) : b = .returning := by
  subst ha; cases b <;> simp only [ModeRel] at h; rfl
theorem mode_pan {a : AMode} {b : FrameMode} {c : List (AV × Bool)} (h : ModeRel ρ a b) (ha : a = .panicking c) : ∃ c', b = .panicking c' ∧ All2 (PanRel ρ) c c' := by
  subst ha; cases b <;> simp only [ModeRel] at h; exact ⟨_, rfl, h⟩

/-- A step of control within the frame. -/
theorem ctrl_ok {m : M} {fr : Frame} {cs : List Frame} {k : List AItem} {k' : List Item} (hF : FrRel ρ m.fr fr) (hcs : All2 (FrRel ρ) m.cs cs) (hst : St ρ m.h w) (hk : All2 (IRel ρ) k k')
    (hs : ∀ CS, step P (lone fr CS w) = .next (lone { fr with todo := k' } CS w)) : ResOk P ρ m fr cs w (.go ⟨{ m.fr with todo := k }, m.cs, m.h⟩) :=
  sim_top hcs (fun CS => .one (hs (cs ++ CS))) ⟨hF.fn, hF.tmps, hk, hF.defers, hF.mode, hF.kind, hF.round⟩ rfl rfl hst (.refl _ _ _)

theorem ops_ok [OrcSound P] {m : M} {fr : Frame} {cs : List Frame} {ops : Array Oper} {k : List AItem} {k' : List Item} {q : OpsRes} {r : ARes} (hF : FrRel ρ m.fr fr) (hcs : All2 (FrRel ρ) m.cs cs) (hst : St ρ m.h w)
    (hmA : m.fr.mode = .run) (hk : All2 (IRel ρ) k k') (ho : OpsOut P ops m.fr.nt k' ρ m.h fr w q) (hnv : ∀ x o j rest' tmps' h', q = .ctl x o j rest' tmps' h' → (∀ v, x ≠ .value v) ∧ x ≠ .skip)
    (hr : (match q with
      | .done tmps h => some (.go { m with fr := { m.fr with todo := k, tmps }, h })
      | .ctl x o i rest tmps h => ctlA P { m.fr with todo := .inRegion ops i (o :: rest) :: k, tmps } m.cs h x) = some r) : ResOk P ρ m fr cs w r := by
  cases q with
  | done tmps' h' =>
    simp only [Option.some.injEq] at hr
    subst hr
    obtain ⟨ρ', arr, w', h1, h2, h3, h4⟩ := ho
    have hF' := hF.mono h4.le
    exact sim_top hcs (fun CS => h1 (cs ++ CS)) ⟨hF'.fn, h2, hk.mono fun _ _ => IRel.mono h4.le, hF'.defers, hF'.mode, hF'.kind, hF'.round⟩ rfl rfl h3 h4
  | ctl x o j rest' tmps' h' =>
    obtain ⟨ρ₁, h₁, arr, w₁, h1, h2, h3, h4, h5, h6, h7, h8⟩ := ho
    have hF' := hF.mono h4.le
    have hmode := mode_run hF.mode hmA
    have hF1 : FrRel ρ₁ { m.fr with todo := .inRegion ops j (o :: rest') :: k, tmps := tmps' } { fr with tmps := arr, todo := .inRegion ops (List.range' j (rest'.length + 1)) :: k' } := by
      refine ⟨hF'.fn, h2, .cons ⟨rfl, ?_, rfl⟩ (hk.mono fun _ _ => IRel.mono h4.le), hF'.defers, hF'.mode, hF'.kind, hF'.round⟩
      rw [h6]
      have hj : j < ops.toList.length := by have := (Array.getElem?_eq_some_iff.1 h5).1; simpa using this
      rw [List.drop_eq_getElem_cons hj]
      congr 1
      have := (Array.getElem?_eq_some_iff.1 h5).2
      simpa using this.symm
    have := ctl_ok (P := P) (m := ⟨{ m.fr with todo := .inRegion ops j (o :: rest') :: k, tmps := tmps' }, m.cs, h₁⟩) hF1 (hcs.mono fun _ _ => FrRel.mono h4.le) h3 hmode hmA rfl h8 h7 (hnv _ _ _ _ _ _ rfl) hr
    exact ResOk.before (m := m) (m₁ := ⟨{ m.fr with todo := .inRegion ops j (o :: rest') :: k, tmps := tmps' }, m.cs, h₁⟩) (bot_same (f := { m.fr with todo := .inRegion ops j (o :: rest') :: k, tmps := tmps' }) (g := m.fr) rfl rfl _) (fun CS => h1 (cs ++ CS)) h4 this

theorem runOps_ctl {ops : Array Oper} {nt : Nat} : ∀ (rest : List Oper) (i : Nat) (tmps : Tr AV) (h : H) (q : OpsRes), runOps P ops nt i rest tmps h = some q →
    ∀ x o j rest' tmps' h', q = .ctl x o j rest' tmps' h' → (∀ v, x ≠ .value v) ∧ x ≠ .skip
  | [], i, tmps, h, q, hr, x, o, j, rest', tmps', h', hq => by simp only [runOps, Option.some.injEq] at hr; subst hr; cases hq
  | o :: rest, i, tmps, h, q, hr, x, o', j, rest', tmps', h', hq => by
    simp only [runOps] at hr
    split at hr
    · split at hr
      · split at hr
        · exact runOps_ctl rest _ _ _ _ hr x o' j rest' tmps' h' hq
        · cases hr
      · split at hr
        · exact runOps_ctl rest _ _ _ _ hr x o' j rest' tmps' h' hq
        · cases hr
      · rename_i hnv hns _
        cases hr
        cases hq
        exact ⟨fun v hv => hnv v hv, fun hs => hns hs⟩
      · cases hr
    · split at hr
      · exact runOps_ctl rest _ _ _ _ hr x o' j rest' tmps' h' hq
      · cases hr
    · cases hr
end
end Go.Ev

namespace Go.Ev
section
variable {P : Program} {ρ : Ren} {w : World}

theorem icode (c : Code) : IRel ρ (.code c) (.code c) := rfl
theorem iblock (i : Nat) : IRel ρ (.inBlock i) (.inBlock i) := rfl
theorem iloop (c : Code) : IRel ρ (.inLoop c) (.inLoop c) := rfl
theorem iscope (c : Code) : IRel ρ (.inScope c) (.inScope c) := rfl

theorem collected_ok {m : M} {fr : Frame} {cs : List Frame} {r : Nat} {ds : List ADefer} (hF : FrRel ρ m.fr fr) (hcs : All2 (FrRel ρ) m.cs cs) (hst : St ρ m.h w) (hm : fr.mode ≠ .run) (hd : m.fr.defers = .collected r :: ds)
    (hg : m.h.get r = some (.deferred true)) : ResOk P ρ m fr cs w (.go ⟨{ m.fr with defers := ds }, m.cs, m.h.set r (.deferred false)⟩) := by
  have hdef := hF.defers
  rw [hd] at hdef
  obtain ⟨d', ds', hds, hd1, hd2⟩ := hdef.cons_inv
  obtain ⟨e, he, ht⟩ := hd1
  obtain ⟨o, ho, ha⟩ := hst.good.sat r _ e hg he
  cases o <;> simp only [ARel] at ha
  simp only [if_true] at ha
  subst ha
  have hgo := run_getObj' (P := P) ho (by simp)
  have hso := run_setObj' (P := P) (o' := .deferred none) ho (by simp)
  have hp := good_put (ab' := .deferred false) (o' := .deferred none) hst.good hg he rfl
  have htake : (Instr.takeDeferred e.blk).run P w = .ok [] (World.put w e.blk (.deferred none)) := by
    simp only [Instr.takeDeferred, Sem.run_bind, hgo, Result.andThen_ok, hso, Sem.run_pure]
  exact sim_top hcs (fun CS => .one (step_collected hm hds ht htake)) ⟨hF.fn, hF.tmps, hF.todo, by simpa using hd2, hF.mode, hF.kind, hF.round⟩ rfl rfl (hst.of hp.1 hp.2) hp.2

theorem runDefer_ok {m : M} {fr : Frame} {cs : List Frame} {d : ADef} {ds : List ADefer} {r : ARes} (hF : FrRel ρ m.fr fr) (hcs : All2 (FrRel ρ) m.cs cs) (hst : St ρ m.h w) (hm : fr.mode ≠ .run) (hd : m.fr.defers = .fn d :: ds)
    (hr : (match invokeA P m.h d.fn d.captured d.args with
      | some (.enter f args, h) => (enterA P f args .deferred).map fun g => ARes.go ⟨g, { m.fr with defers := ds } :: m.cs, h⟩
      | _ => none) = some r) : ResOk P ρ m fr cs w r := by
  have hdef := hF.defers
  rw [hd] at hdef
  obtain ⟨d', ds', hds, hd1, hd2⟩ := hdef.cons_inv
  obtain ⟨cap', ht, hny, hcap, hargs⟩ := hd1
  split at hr
  · rename_i f args h1 hi
    simp only [Option.map_eq_some_iff] at hr
    obtain ⟨g, hg, rfl⟩ := hr
    rcases invoke_ok (P := P) hst.good hcap hargs hi with ⟨_, _, _, _, hq, _⟩ | ⟨ρ₁, n, w₁, hrun, hn, hgd, htn⟩
    · cases hq
    · cases n <;> simp only [NRel] at hn
      obtain ⟨rfl, ha⟩ := hn
      obtain ⟨h2, h3, h4⟩ := enter_rel (P := P) hg ha
      have hF' := hF.mono htn.le
      refine ⟨bot_same (f := { m.fr with defers := ds }) (g := m.fr) rfl rfl _, ρ₁, _, { fr with defers := ds' } :: cs, w₁, fun CS => .one (step_defer' hm hds ht (by rw [ht]; exact hrun)), h2,
        .cons ⟨hF'.fn, hF'.tmps, hF'.todo, hd2.mono fun _ _ => DefRel.mono htn.le, hF'.mode, hF'.kind, hF'.round⟩ (hcs.mono fun _ _ => FrRel.mono htn.le), hst.of hgd htn, htn⟩
  · cases hr

/-- A range over a function is entered. -/
theorem rangeFunc_step {fr : Frame} {cs : List Frame} {w w₁ w₂ : World} {f : Operand} {ps : Array Tmp} {as body : Code} {k : List Item} {l : Nat} {mark : List Deferred} {g : FuncId} {args : Array Value}
    (hm : fr.mode = .run) (ht : fr.todo = .code (.rangeFunc f ps as body) :: k) (he : (Instr.enterLoop fr.fn fr.tmps ps as body fr.roundOf).run P w = .ok (l, mark) w₁)
    (hc : (do let d ← resolve fr.eval { callee := .value f, args := #[.const (.func (.yield l) #[] #[])], argTypes := #[] } 0; invoke d.target d.args : Sem Next).run P w₁ = .ok (.enter g args) w₂) :
    step P (lone fr cs w) = .next (lone (Frame.enter P g args .normal) ({ fr with todo := .inRangeFunc l :: k, defers := mark ++ fr.defers } :: cs) w₂) := by
  refine exec_go hm ?_
  unfold stepG.exec
  simp only [ht, Sem.runT_eq, he, GStep.bare_after]
  have hev : ({ fr with todo := .inRangeFunc l :: k, defers := mark ++ fr.defers } : Frame).eval = fr.eval := by funext x; cases x <;> rfl
  simp only [stepG.apply, hev]
  simp only [Sem.runT_eq, if_true, hc]
  rfl

theorem rangeFunc_ok {m : M} {fr : Frame} {cs : List Frame} {f : Operand} {ps : Array Tmp} {as body : Code} {k : List AItem} {r : ARes} {l : Nat} {h2 : H} {mark : List ADefer} {w₁ : World} {mark' : List Deferred} {ρ₁ : Ren} {e : Ent}
    (hF : FrRel ρ m.fr fr) (hcs : All2 (FrRel ρ) m.cs cs) (hst : St ρ m.h w) (hmA : m.fr.mode = .run) (ht : m.fr.todo = .code (.rangeFunc f ps as body) :: k)
    (he : (Instr.enterLoop fr.fn fr.tmps ps as body fr.roundOf).run P w = .ok (e.blk, mark') w₁) (hel : ρ₁ l = some e) (hst₁ : St ρ₁ h2 w₁) (ht₁ : Trans ρ m.h w ρ₁ h2 w₁) (hmark : All2 (DefRel ρ₁) mark mark')
    (hr : (match ev m.fr.tmps f with
      | some g => match callA P h2 g [.yld l] with
        | some (.enter f args, h) => (enterA P f args .normal).map fun g => ARes.go ⟨g, { m.fr with todo := .inRangeFunc l :: k, defers := mark ++ m.fr.defers } :: m.cs, h⟩
        | _ => none
      | none => none) = some r) : ResOk P ρ m fr cs w r := by
  have htodo := hF.todo
  rw [ht] at htodo
  obtain ⟨it, k', hk, hi, hk'⟩ := htodo.cons_inv
  cases it <;> simp only [IRel] at hi
  subst hi
  have hmode := mode_run hF.mode hmA
  split at hr
  · rename_i g hg
    split at hr
    · rename_i f0 args h3 hc
      simp only [Option.map_eq_some_iff] at hr
      obtain ⟨g', hg', rfl⟩ := hr
      have hF1 := hF.mono ht₁.le
      have hgv := eval_rel hF1.tmps f g hg
      have hcall := call_ok (P := P) (w := w₁) (a := fr.eval) (c := { callee := .value f, args := #[.const (.func (.yield e.blk) #[] #[])], argTypes := #[] }) (type := 0) (fo := f) hst₁.good rfl hgv
        (.cons (.yld hel) .nil) hc
      rcases hcall with ⟨_, _, _, _, hq, _⟩ | ⟨ρ₂, n, w₂, hrun, hn, hgd, htn⟩
      · cases hq
      · cases n <;> simp only [NRel] at hn
        obtain ⟨rfl, ha⟩ := hn
        obtain ⟨h5, h6, h7⟩ := enter_rel (P := P) hg' ha
        have hF2 := hF1.mono htn.le
        refine ⟨bot_same (f := { m.fr with todo := .inRangeFunc l :: k, defers := mark ++ m.fr.defers }) (g := m.fr) rfl rfl _, ρ₂, _, { fr with todo := .inRangeFunc e.blk :: k', defers := mark' ++ fr.defers } :: cs, w₂,
          fun CS => .one (rangeFunc_step hmode hk he hrun), h5, .cons ⟨hF2.fn, hF2.tmps, .cons ⟨e, htn.le _ _ hel, rfl⟩ (hk'.mono fun _ _ => IRel.mono (Ren.le_trans ht₁.le htn.le)),
            (hmark.mono fun _ _ => DefRel.mono htn.le).append hF2.defers, hF2.mode, hF2.kind, hF2.round⟩ (hcs.mono fun _ _ => FrRel.mono (Ren.le_trans ht₁.le htn.le)), hst₁.of hgd htn, ht₁.trans htn⟩
    · cases hr
  · cases hr

set_option maxHeartbeats 1000000 in
theorem astep_ok [OrcSound P] {call : M → Option (AV × H)} (hD : DrawnSound P call) {m : M} {fr : Frame} {cs : List Frame} {r : ARes} (hF : FrRel ρ m.fr fr) (hcs : All2 (FrRel ρ) m.cs cs) (hst : St ρ m.h w) (hr : astep P call m = some r) (CS : List Frame) :
    ResAt P CS ρ m fr cs w r := by
  unfold astep at hr
  simp only at hr
  split at hr
  · rename_i hmA
    have hm := mode_run hF.mode hmA
    have htodo := hF.todo
    split at hr
    · -- the end
      rename_i ht
      rw [ht] at htodo
      have hk := htodo.nil_inv
      refine (leave_ok hF hcs hst (fun hro _ CS => exec_go hm (by unfold stepG.exec; simp only [hk, hro]; rfl)) (fun l v w' hro hkd hend c CS => ?_) hr).at CS
      have := stepR_round_end (P := P) (b := fr) (a := ⟨fr.tmps, fr.defers⟩) (c := c) (cs := CS) hro hkd hend
      rw [← hk, atR_self hm] at this
      exact this
    · rename_i c k ht
      rw [ht] at htodo
      obtain ⟨it, k', hk, hi, hk'⟩ := htodo.cons_inv
      cases it <;> simp only [IRel] at hi
      subst hi
      split at hr
      · cases hr
        exact (ctrl_ok hF hcs hst hk' (fun CS => exec_go hm (by unfold stepG.exec; simp only [hk]; rfl))).at CS
      · cases hr
        exact (ctrl_ok hF hcs hst hk' (fun CS => exec_go hm (by unfold stepG.exec; simp only [hk]; rfl))).at CS
      · rename_i a b
        cases hr
        exact (ctrl_ok hF hcs hst (.cons (icode a) (.cons (icode b) hk')) (k' := .code a :: .code b :: k') (fun CS => exec_go hm (by unfold stepG.exec; simp only [hk]; rfl))).at CS
      · rename_i c a b
        split at hr
        · rename_i hc
          cases hr
          have hv := eval_rel hF.tmps _ _ hc
          generalize hq : fr.eval c = q at hv
          cases hv
          exact (ctrl_ok hF hcs hst (.cons (icode a) hk') (k' := .code a :: k') (fun CS => exec_go hm (by unfold stepG.exec; simp only [hk, hq]; rfl))).at CS
        · rename_i hc
          cases hr
          have hv := eval_rel hF.tmps _ _ hc
          generalize hq : fr.eval c = q at hv
          cases hv
          exact (ctrl_ok hF hcs hst (.cons (icode b) hk') (k' := .code b :: k') (fun CS => exec_go hm (by unfold stepG.exec; simp only [hk, hq]; rfl))).at CS
        · cases hr
      · rename_i id body
        cases hr
        exact (ctrl_ok hF hcs hst (.cons (icode body) (.cons (iblock id) hk')) (k' := .code body :: .inBlock id :: k') (fun CS => exec_go hm (by unfold stepG.exec; simp only [hk]; rfl))).at CS
      · rename_i body
        cases hr
        exact (ctrl_ok hF hcs hst (.cons (icode body) (.cons (iloop body) hk')) (k' := .code body :: .inLoop body :: k') (fun CS => exec_go hm (by unfold stepG.exec; simp only [hk]; rfl))).at CS
      · rename_i body
        cases hr
        exact (ctrl_ok hF hcs hst (.cons (icode body) (.cons (iscope body) hk')) (k' := .code body :: .inScope body :: k') (fun CS => exec_go hm (by unfold stepG.exec; simp only [hk]; rfl))).at CS
      · rename_i id
        obtain ⟨x1, x2⟩ := exitTo_rel (id := id) hk'
        split at hr
        · rename_i kk hkk
          cases hr
          obtain ⟨r', h1, h2⟩ := x1 _ hkk
          exact (ctrl_ok hF hcs hst h2 (fun CS => exec_go hm (by unfold stepG.exec; simp only [hk, h1]; rfl))).at CS
        · rename_i hkk
          have hnone := x2 hkk
          refine (leave_ok hF hcs hst (fun hro hor => ?_) (fun l v w' hro hkd hend c CS => ?_) hr).at CS
          · rcases hor with h | h <;> cases h
          · have := stepR_round_exit (P := P) (b := fr) (a := ⟨fr.tmps, fr.defers⟩) (k := k') (c := c) (cs := CS) hro hkd hnone hend
            rw [← hk, atR_self hm] at this
            exact this
      · rename_i l
        obtain ⟨x1, x2⟩ := gotoIn_rel (l := l) hk'
        split at hr
        · rename_i kk hkk
          cases hr
          obtain ⟨r', h1, h2⟩ := x1 _ hkk
          exact (ctrl_ok hF hcs hst h2 (fun CS => exec_go hm (by unfold stepG.exec; simp only [hk, h1]; rfl))).at CS
        · rename_i hkk
          have hnone := x2 hkk
          refine (leave_ok hF hcs hst (fun hro hor => ?_) (fun l v w' hro hkd hend c CS => ?_) hr).at CS
          · rcases hor with h | h <;> cases h
          · have := stepR_round_goto (P := P) (b := fr) (a := ⟨fr.tmps, fr.defers⟩) (k := k') (c := c) (cs := CS) hro hkd hnone hend
            rw [← hk, atR_self hm] at this
            exact this
      · refine (leave_ok hF hcs hst (fun hro _ CS => exec_go hm (by unfold stepG.exec; simp only [hk, hro]; rfl)) (fun l v w' hro hkd hend c CS => ?_) hr).at CS
        have := stepR_round_ret (P := P) (b := fr) (a := ⟨fr.tmps, fr.defers⟩) (k := k') (c := c) (cs := CS) hro hkd hend
        rw [← hk, atR_self hm] at this
        exact this
      · rename_i id ops
        have hstep : ∀ CS, step P (lone fr CS w) = .next (lone { fr with todo := .inRegion ops (List.range ops.size) :: k' } CS w) := fun CS => exec_go hm (by unfold stepG.exec; simp only [hk]; rfl)
        cases hq : runOps P ops m.fr.nt 0 ops.toList m.fr.tmps m.h with
        | none => rw [hq] at hr; cases hr
        | some q =>
          rw [hq] at hr
          have ho := runOps_ok (P := P) (k := k') ops.toList 0 _ _ _ hq (by simp) ρ { fr with todo := .inRegion ops (List.range ops.size) :: k' } w hm (by simp [List.range_eq_range']) hF.tmps hst
          have ho' : OpsOut P ops m.fr.nt k' ρ m.h fr w q := ho.before hstep ⟨fr.tmps, _, rfl⟩ (.refl _ _ _)
          refine (ops_ok hF hcs hst hmA hk' ho' (runOps_ctl _ _ _ _ _ hq) ?_).at CS
          cases q <;> exact hr
      · rename_i id ops
        simp only [Option.map_eq_some_iff] at hr
        obtain ⟨q, hq, rfl⟩ := hr
        obtain ⟨ρ', arr, w', h1, h2, h3, h4⟩ := hD ops _ _ _ q hq ρ fr (cs ++ CS) w id k' hm hk hF.tmps hst
        have hF' := hF.mono h4.le
        exact ⟨bot_same (f := { m.fr with todo := k, tmps := q.1 }) (g := m.fr) rfl rfl _, ρ', _, cs, w', h1, ⟨hF'.fn, h2, hk'.mono fun _ _ => IRel.mono h4.le, hF'.defers, hF'.mode, hF'.kind, hF'.round⟩, hcs.mono fun _ _ => FrRel.mono h4.le, h3, h4⟩
      · rename_i f ps as body
        split at hr
        · rename_i hro
          have hround := hF.round
          rw [hro] at hround
          have hrn : fr.roundOf = none := by cases hq : fr.roundOf <;> rw [hq] at hround <;> simp only [RoundRel] at hround
          have hn1 : ρ m.h.next = none := hst.free _ (Nat.le_refl _)
          obtain ⟨g1, t1⟩ := good_new (e := ⟨w.heap.size, 0, 0⟩) (ab := .deferred true) (o := .deferred (some [])) hst.good hn1 rfl rfl
          have s1 := hst.of g1 t1
          have hn2 := s1.free (m.h.new (.deferred true)).next (Nat.le_refl _)
          obtain ⟨g2, t2⟩ := good_new (e := ⟨(w.alloc (.deferred (some []))).heap.size, 0, 0⟩) (ab := .loop .ready none m.fr.fn m.fr.tmps m.fr.nt ps as body m.h.next)
            (o := .loop { state := .ready, pending := none, fn := fr.fn, tmps := fr.tmps, params := ps, assign := as, body, defers := w.heap.size }) g1 hn2 rfl
            ⟨rfl, rfl, hF.fn, (hF.tmps.mono t1.le).mono (Ren.le_with hn2), rfl, rfl, rfl, ⟨w.heap.size, 0, 0⟩, Ren.le_with hn2 _ _ (by simp), rfl⟩
          have s2 := s1.of g2 t2
          refine (rangeFunc_ok (mark := [.collected m.h.next]) (mark' := [{ target := .collected w.heap.size, args := #[] }]) (e := ⟨(w.alloc (.deferred (some []))).heap.size, 0, 0⟩) hF hcs hst hmA ht ?_ (by simp) s2 (t1.trans t2)
            (.cons ⟨⟨w.heap.size, 0, 0⟩, Ren.le_with hn2 _ _ (by simp), rfl⟩ .nil) hr).at CS
          simp [Instr.enterLoop, hrn]
        · rename_i l hro
          have hround := hF.round
          rw [hro] at hround
          split at hr
          · rename_i st pd fn t nt ps0 as0 body0 dr hg
            cases hq : fr.roundOf with
            | none => rw [hq] at hround; simp only [RoundRel] at hround
            | some l' =>
              rw [hq] at hround
              obtain ⟨e0, he0, rfl⟩ := hround
              obtain ⟨o, ho, ha⟩ := hst.good.sat l _ e0 hg he0
              cases o <;> simp only [ARel] at ha
              rename_i rl
              obtain ⟨_, _, _, _, _, _, _, ed, hed, hde⟩ := ha
              have hgo := run_getObj' (P := P) ho (by simp)
              have hn2 := hst.free m.h.next (Nat.le_refl _)
              obtain ⟨g2, t2⟩ := good_new (e := ⟨w.heap.size, 0, 0⟩) (ab := .loop .ready none m.fr.fn m.fr.tmps m.fr.nt ps as body dr)
                (o := .loop { state := .ready, pending := none, fn := fr.fn, tmps := fr.tmps, params := ps, assign := as, body, defers := ed.blk }) hst.good hn2 rfl
                ⟨rfl, rfl, hF.fn, hF.tmps.mono (Ren.le_with hn2), rfl, rfl, rfl, ed, Ren.le_with hn2 _ _ hed, rfl⟩
              refine (rangeFunc_ok (mark := []) (mark' := []) (e := ⟨w.heap.size, 0, 0⟩) hF hcs hst hmA ht ?_ (by simp) (hst.of g2 t2) t2 .nil hr).at CS
              simp [Instr.enterLoop, hq, Instr.getLoop, hgo, hde]
          · cases hr
      · cases hr
    · rename_i id k ht
      cases hr
      rw [ht] at htodo
      obtain ⟨it, k', hk, hi, hk'⟩ := htodo.cons_inv
      cases it <;> simp only [IRel] at hi
      exact (ctrl_ok hF hcs hst hk' (fun CS => exec_go hm (by unfold stepG.exec; simp only [hk]; rfl))).at CS
    · rename_i id k ht
      cases hr
      rw [ht] at htodo
      obtain ⟨it, k', hk, hi, hk'⟩ := htodo.cons_inv
      cases it <;> simp only [IRel] at hi
      exact (ctrl_ok hF hcs hst hk' (fun CS => exec_go hm (by unfold stepG.exec; simp only [hk]; rfl))).at CS
    · rename_i body k ht
      cases hr
      rw [ht] at htodo
      obtain ⟨it, k', hk, hi, hk'⟩ := htodo.cons_inv
      cases it <;> simp only [IRel] at hi
      rw [hi] at hk
      exact (ctrl_ok hF hcs hst (.cons (icode body) (.cons (iloop body) hk')) (k' := .code body :: .inLoop body :: k') (fun CS => exec_go hm (by unfold stepG.exec; simp only [hk]; rfl))).at CS
    · rename_i ops i rest k ht
      rw [ht] at htodo
      obtain ⟨it, k', hk, hi, hk'⟩ := htodo.cons_inv
      cases it <;> simp only [IRel] at hi
      obtain ⟨hops, hr0, htd⟩ := hi
      rw [hops, htd] at hk
      cases hq : runOps P ops m.fr.nt i rest m.fr.tmps m.h with
      | none => rw [hq] at hr; cases hr
      | some q =>
        rw [hq] at hr
        have ho := runOps_ok (P := P) (k := k') rest i _ _ _ hq hr0 ρ fr w hm hk hF.tmps hst
        refine (ops_ok hF hcs hst hmA hk' ho (runOps_ctl _ _ _ _ _ hq) ?_).at CS
        cases q <;> exact hr
    · cases hr
    · rename_i l k ht
      rw [ht] at htodo
      obtain ⟨it, k', hk, hi, hk'⟩ := htodo.cons_inv
      cases it <;> simp only [IRel] at hi
      obtain ⟨e, he, rfl⟩ := hi
      split at hr
      · rename_i st pd fn t nt ps as body d hg
        split at hr
        · cases hr
        · rename_i hnb
          cases hr
          obtain ⟨o, ho, ha⟩ := hst.good.sat l _ e hg he
          cases o <;> simp only [ARel] at ha
          rename_i rl
          obtain ⟨a1, a2, a3, a4, a5, a6, a7, a8⟩ := ha
          have hgo := run_getObj' (P := P) ho (by simp)
          have hso := run_setObj' (P := P) (o' := .loop { rl with state := .exhausted }) ho (by simp)
          have hp := good_put (ab' := .loop .exhausted pd fn t nt ps as body d) (o' := .loop { rl with state := .exhausted }) hst.good hg he ⟨rfl, a2, a3, a4, a5, a6, a7, a8⟩
          have hend : (Instr.endLoop e.blk).run P w = .ok pd (World.put w e.blk (.loop { rl with state := .exhausted })) := by
            have hnb' : (rl.state == LoopState.busy) = false := by
              rw [a1]; cases st <;> first | rfl | exact absurd rfl hnb
            simp only [Instr.endLoop, Instr.getLoop, Sem.run_bind, hgo, Result.andThen_ok, Sem.run_pure, hnb', Bool.false_eq_true, if_false, hso]
            rw [a2]
          have hstep : ∀ CS, step P (lone fr CS w) = .next (lone { fr with todo := (pd.map Item.code).toList ++ k' } CS (World.put w e.blk (.loop { rl with state := .exhausted }))) := fun CS => by
            have := stepR_endRangeFunc (P := P) (b := fr) (a := ⟨fr.tmps, fr.defers⟩) (k := k') (cs := CS) hend
            rw [← hk, atR_self hm] at this
            rw [this]
            congr 1
            cases fr; simp only at hm; subst hm; rfl
          have hjk : All2 (IRel ρ) (jumpK pd k) ((pd.map Item.code).toList ++ k') := by
            cases pd with
            | none => exact hk'
            | some c => exact .cons (icode c) hk'
          have key : ResOk P ρ m fr cs w (.go ⟨{ m.fr with todo := jumpK pd k }, m.cs, m.h.set l (.loop .exhausted pd fn t nt ps as body d)⟩) :=
            sim_top hcs (fun CS => .one (hstep (cs ++ CS))) ⟨hF.fn, hF.tmps, hjk, hF.defers, hF.mode, hF.kind, hF.round⟩ rfl rfl (hst.of hp.1 hp.2) hp.2
          exact key.at CS
      · cases hr
    · rename_i k ht
      rw [ht] at htodo
      obtain ⟨it, k', hk, hi, hk'⟩ := htodo.cons_inv
      cases it <;> simp only [IRel] at hi
      have hround := hF.round
      split at hr
      · rename_i l hro
        rw [hro] at hround
        split at hr
        · rename_i pd fn t nt ps as body d hg
          cases hr
          cases hq : fr.roundOf with
          | none => rw [hq] at hround; simp only [RoundRel] at hround
          | some l' =>
            rw [hq] at hround
            obtain ⟨e, he, rfl⟩ := hround
            obtain ⟨o, ho, ha⟩ := hst.good.sat l _ e hg he
            cases o <;> simp only [ARel] at ha
            rename_i rl
            obtain ⟨a1, a2, a3, a4, a5, a6, a7, a8⟩ := ha
            have hgo := run_getObj' (P := P) ho (by simp)
            have hso := run_setObj' (P := P) (o' := .loop { rl with state := .busy }) ho (by simp)
            have hp := good_put (ab' := .loop .busy pd fn t nt ps as body d) (o' := .loop { rl with state := .busy }) hst.good hg he ⟨rfl, a2, a3, a4, a5, a6, a7, a8⟩
            have hbeg : (Instr.beginRound e.blk).run P w = .ok () (World.put w e.blk (.loop { rl with state := .busy })) := by
              simp only [Instr.beginRound, Instr.getLoop, Sem.run_bind, hgo, Result.andThen_ok, Sem.run_pure, hso, a1]
            have hstep : ∀ CS, step P (lone fr CS w) = .next (lone { fr with todo := k' } CS (World.put w e.blk (.loop { rl with state := .busy }))) := fun CS => by
              have := stepR_beginRound (P := P) (b := fr) (a := ⟨fr.tmps, fr.defers⟩) (k := k') (cs := CS) hq hbeg
              rw [← hk, atR_self hm] at this
              rw [this]
              congr 1
              cases fr; simp only at hm; subst hm; rfl
            have key : ResOk P ρ m fr cs w (.go ⟨{ m.fr with todo := k }, m.cs, m.h.set l (.loop .busy pd fn t nt ps as body d)⟩) :=
              sim_top hcs (fun CS => .one (hstep (cs ++ CS))) ⟨hF.fn, hF.tmps, hk', hF.defers, hF.mode, hF.kind, hF.round⟩ rfl rfl (hst.of hp.1 hp.2) hp.2
            exact key.at CS
        · cases hr
      · cases hr
  · rename_i hmA
    have hm := mode_ret hF.mode hmA
    split at hr
    · rename_i hd
      split at hr
      · rename_i hro
        exact (return_ok hF hcs hst hmA hd hro hr).at CS
      · cases hr
    · rename_i rr ds hd
      split at hr
      · rename_i hg
        cases hr
        exact (collected_ok hF hcs hst (by rw [hm]; simp) hd hg).at CS
      · cases hr
    · rename_i d ds hd
      exact (runDefer_ok hF hcs hst (by rw [hm]; simp) hd hr).at CS
  · rename_i chain hmA
    obtain ⟨chain', hm, hch⟩ := mode_pan hF.mode hmA
    split at hr
    · rename_i hd
      split at hr
      · rename_i c rest hc
        split at hr
        · rename_i fn hfn
          cases hr
          rw [hc] at hcs
          obtain ⟨fc, frest, rfl, h1, h2⟩ := hcs.cons_inv
          have hdef : fr.defers = [] := by have := hF.defers; rw [hd] at this; exact this.nil_inv
          have hl : fr.leaving P w (.panicked chain') := ⟨hm, hdef, fn, by rw [hF.fn]; exact hfn⟩
          have hs := raise_same c chain
          refine ⟨by rw [hc]; exact bot_same hs.1 hs.2 _, ρ, _, frest, w, .one (step_leave_panicked hl), raise_rel h1 hch, h2, hst, .refl _ _ _⟩
        · cases hr
      · cases hr
    · rename_i rr ds hd
      split at hr
      · rename_i hg
        cases hr
        exact (collected_ok hF hcs hst (by rw [hm]; simp) hd hg).at CS
      · cases hr
    · rename_i d ds hd
      exact (runDefer_ok hF hcs hst (by rw [hm]; simp) hd hr).at CS
end
end Go.Ev

namespace Go.Ev
section
variable {P : Program}

theorem evs_congr {e₁ e₂ : Operand → Option AV} : ∀ {l : List Operand}, (∀ x ∈ l, e₁ x = e₂ x) → evs e₁ l = evs e₂ l
  | [], _ => rfl
  | x :: l, h => by simp only [evs, h x (List.mem_cons_self ..), evs_congr fun y hy => h y (List.mem_cons_of_mem _ hy)]
theorem parts_congr {e₁ e₂ : Operand → Option AV} : ∀ {l : List (Nat × Operand)}, (∀ x ∈ l.map (·.2), e₁ x = e₂ x) → parts e₁ l = parts e₂ l
  | [], _ => rfl
  | (i, x) :: l, h => by simp only [parts, h x (by simp), parts_congr fun y hy => h y (by simp at hy ⊢; exact .inr hy)]
theorem omap_congr {e₁ e₂ : Operand → Option AV} {o : Option Operand} (h : ∀ x, o = some x → e₁ x = e₂ x) : omap e₁ o = omap e₂ o := by
  cases o with
  | none => rfl
  | some x => simp only [omap, h x rfl]

theorem aop_congr {e₁ e₂ : Operand → Option AV} {o : Oper} {h : H} (hc : ∀ x ∈ o.op.operands.toList, e₁ x = e₂ x) : aop P e₁ o h = aop P e₂ o h := by
  unfold aop
  generalize hop : o.op = op at hc
  cases op with
  | move x => simp only [hc x (by simp [Op.operands])]
  | assign x => simp only [hc x (by simp [Op.operands])]
  | pick c a b => simp only [hc c (by simp [Op.operands]), hc a (by simp [Op.operands]), hc b (by simp [Op.operands])]
  | alloc t => rfl
  | box t x => simp only [hc x (by simp [Op.operands])]
  | build t ps =>
    have : parts e₁ ps.toList = parts e₂ ps.toList := parts_congr fun x hx => hc x (by simpa [Op.operands] using hx)
    simp only [this]
  | buildSlice t n ps =>
    have : parts e₁ ps.toList = parts e₂ ps.toList := parts_congr fun x hx => hc x (by simpa [Op.operands] using hx)
    simp only [this]
  | load t x => simp only [hc x (by simp [Op.operands])]
  | store t x y => simp only [hc x (by simp [Op.operands]), hc y (by simp [Op.operands])]
  | nilCheck x => simp only [hc x (by simp [Op.operands])]
  | binOp op t x y u => simp only [hc x (by simp [Op.operands]), hc y (by simp [Op.operands])]
  | unOp op t x => simp only [hc x (by simp [Op.operands])]
  | convert s d x => simp only [hc x (by simp [Op.operands])]
  | makeInterface t x => simp only [hc x (by simp [Op.operands])]
  | makeFunc fn f c =>
    have h1 : evs e₁ f.toList = evs e₂ f.toList := evs_congr fun x hx => hc x (by simp [Op.operands]; exact .inl (by simpa using hx))
    have h2 : evs e₁ c.toList = evs e₂ c.toList := evs_congr fun x hx => hc x (by simp [Op.operands]; exact .inr (by simpa using hx))
    simp only [h1, h2]
  | makeMap t r =>
    cases r with
    | none => rfl
    | some x => simp only [hc x (by simp [Op.operands])]
  | makeSlice t x y => simp only [hc x (by simp [Op.operands]), hc y (by simp [Op.operands])]
  | slice t x l hh m =>
    have h1 : omap e₁ l = omap e₂ l := omap_congr fun y hy => hc y (by subst hy; simp [Op.operands])
    have h2 : omap e₁ hh = omap e₂ hh := omap_congr fun y hy => hc y (by subst hy; simp [Op.operands])
    have h3 : omap e₁ m = omap e₂ m := omap_congr fun y hy => hc y (by subst hy; simp [Op.operands])
    simp only [hc x (by simp [Op.operands]), h1, h2, h3]
  | fieldAddr t x f => simp only [hc x (by simp [Op.operands])]
  | field t x f => simp only [hc x (by simp [Op.operands])]
  | indexAddr t x y => simp only [hc x (by simp [Op.operands]), hc y (by simp [Op.operands])]
  | index t x y => simp only [hc x (by simp [Op.operands]), hc y (by simp [Op.operands])]
  | lookup t x y ok => simp only [hc x (by simp [Op.operands]), hc y (by simp [Op.operands])]
  | mapUpdate t x y z => simp only [hc x (by simp [Op.operands]), hc y (by simp [Op.operands]), hc z (by simp [Op.operands])]
  | insert t x y z => simp only [hc x (by simp [Op.operands]), hc y (by simp [Op.operands]), hc z (by simp [Op.operands])]
  | mapEntry t x y => simp only [hc x (by simp [Op.operands]), hc y (by simp [Op.operands])]
  | entryStore t x y z => simp only [hc x (by simp [Op.operands]), hc y (by simp [Op.operands]), hc z (by simp [Op.operands])]
  | range t x => simp only [hc x (by simp [Op.operands])]
  | next x s => simp only [hc x (by simp [Op.operands])]
  | entry x => simp only [hc x (by simp [Op.operands])]
  | typeAssert x t u ok => simp only [hc x (by simp [Op.operands])]
  | extract x i => simp only [hc x (by simp [Op.operands])]
  | call c =>
    have h1 : evs e₁ c.args.toList = evs e₂ c.args.toList := evs_congr fun x hx => hc x (by simp [Op.operands, Call.operands]; exact .inr (by simpa using hx))
    simp only [callOpA, h1]
    cases hcal : c.callee with
    | value f => simp only [hc f (by simp [Op.operands, Call.operands, hcal])]
    | invoke r n => simp only [hc r (by simp [Op.operands, Call.operands, hcal])]
    | builtin b => rfl
  | panic x => simp only [hc x (by simp [Op.operands])]
  | _ =>
    first
    | (rename_i c
       have h1 : evs e₁ c.args.toList = evs e₂ c.args.toList := evs_congr fun x hx => hc x (by simp [Op.operands, Call.operands]; exact .inr (by simpa using hx))
       simp only [deferOpA, h1]
       cases hcal : c.callee with
       | value f => simp only [hc f (by simp [Op.operands, Call.operands, hcal])]
       | invoke r n => rfl
       | builtin b => rfl)
    | rfl

theorem look_same {e : Operand → Option AV} {o : Oper} {h h' : H} {x : ANext} (ha : aop P e o h = some (x, h')) (hs : sortOf P o.op = .look) : h' = h ∧ ∃ v, x = .value v := by
  have hv : ∀ {q : Option AV}, val h q = some (x, h') → h' = h ∧ ∃ v, x = .value v := fun hq => by
    obtain ⟨v, _, h1, h2⟩ := val_some hq; exact ⟨h2, v, h1⟩
  unfold aop at ha
  generalize hop : o.op = op at hs ha
  cases op <;> simp only [sortOf] at hs <;> first | (cases hs; done) | (exact hv ha) | skip
  · -- pick
    simp only at ha
    split at ha <;> first | exact hv ha | cases ha
  · -- build
    simp only [Option.bind_eq_bind, Option.bind_eq_some_iff] at ha
    obtain ⟨z, _, qs, _, d, _, ha⟩ := ha
    cases d <;> first | (cases ha; done) | skip
    · simp only [Option.bind_eq_some_iff] at ha
      obtain ⟨n, _, ha⟩ := ha
      exact hv ha
    · simp only at ha
      split at ha
      · exact hv ha
      · cases ha
  · simp only [Option.bind_eq_bind, Option.bind_eq_some_iff] at ha
    obtain ⟨v, _, ha⟩ := ha
    exact hv ha
  · simp only at ha
    split at ha <;> first | (cases ha; exact ⟨rfl, _, rfl⟩) | cases ha
  · simp only [Option.bind_eq_bind, Option.bind_eq_some_iff] at ha
    obtain ⟨v, _, u, _, ha⟩ := ha
    exact hv ha
  · simp only at ha
    split at ha
    · exact hv ha
    · cases ha
  · -- convert
    simp only [Option.bind_eq_some_iff] at ha
    obtain ⟨v, _, ha⟩ := ha
    split at hs
    · cases hs
    · rename_i hnd
      unfold convertA at ha
      split at ha
      · split at ha
        · split at ha
          · rename_i hd; exact absurd hd (hnd _)
          · exact hv ha
        · exact hv ha
      · split at ha
        · unfold sliceString at ha
          split at ha
          · split at ha
            · simp only [Option.bind_eq_some_iff, Option.map_eq_some_iff, Prod.mk.injEq] at ha
              obtain ⟨l, _, bs, _, rfl, rfl⟩ := ha
              exact ⟨rfl, _, rfl⟩
            · cases ha
          · cases ha
        · unfold convertSlice at ha
          split at ha
          · rename_i hd; exact absurd hd (hnd _)
          · cases ha
      · split at ha
        · unfold sliceString at ha
          split at ha
          · split at ha
            · simp only [Option.bind_eq_some_iff, Option.map_eq_some_iff, Prod.mk.injEq] at ha
              obtain ⟨l, _, bs, _, rfl, rfl⟩ := ha
              exact ⟨rfl, _, rfl⟩
            · cases ha
          · cases ha
        · unfold convertSlice at ha
          split at ha
          · rename_i hd; exact absurd hd (hnd _)
          · cases ha
      · cases ha
  · simp only at ha
    split at ha
    · cases ha
    · exact hv ha
    · cases ha
  · simp only [Option.bind_eq_some_iff, Option.map_eq_some_iff, Prod.mk.injEq] at ha
    obtain ⟨u, _, v, _, rfl, rfl⟩ := ha
    exact ⟨rfl, _, rfl⟩
  · simp only [Option.bind_eq_bind, Option.bind_eq_some_iff] at ha
    obtain ⟨v, _, l, _, u, _, m, _, ha⟩ := ha
    exact hv ha
  · simp only at ha
    split at ha
    · split at ha
      · split at ha
        · cases ha; exact ⟨rfl, _, rfl⟩
        · cases ha
      · cases ha
    · cases ha
  · simp only at ha
    split at ha
    · split at ha
      · exact hv ha
      · cases ha
    · cases ha
  · simp only [Option.bind_eq_bind, Option.bind_eq_some_iff] at ha
    obtain ⟨iv, _, i, _, d, _, yv, _, ha⟩ := ha
    split at ha
    all_goals first | (cases ha; done) | skip
    all_goals
      simp only [Option.bind_eq_some_iff] at ha
      obtain ⟨n, _, ha⟩ := ha
      split at ha
      · cases ha; exact ⟨rfl, _, rfl⟩
      · cases ha
  · simp only [Option.bind_eq_bind, Option.bind_eq_some_iff] at ha
    obtain ⟨iv, _, i, _, d, _, yv, _, ha⟩ := ha
    split at ha
    · simp only [Option.bind_eq_some_iff] at ha
      obtain ⟨n, _, ha⟩ := ha
      split at ha
      · exact hv ha
      · cases ha
    · split at ha
      · cases ha; exact ⟨rfl, _, rfl⟩
      · cases ha
    · cases ha
  · simp only [Option.bind_eq_bind, Option.bind_eq_some_iff] at ha
    obtain ⟨m, _, k, _, ha⟩ := ha
    exact hv ha
  · simp only [Option.bind_eq_bind, Option.bind_eq_some_iff] at ha
    obtain ⟨m, _, ha⟩ := ha
    exact hv ha
  · simp only [Option.bind_eq_bind, Option.bind_eq_some_iff] at ha
    obtain ⟨m, _, ha⟩ := ha
    exact hv ha
  · simp only at ha
    split at ha
    · exact hv ha
    · cases ha
  · -- call
    rename_i c
    simp only [callOpA, Option.bind_eq_some_iff] at ha
    obtain ⟨args, _, ha⟩ := ha
    cases hcal : c.callee with
    | value f => simp [hcal] at hs
    | invoke r n => simp [hcal] at hs
    | builtin b =>
      simp only [hcal] at ha hs
      cases b <;> simp only at hs <;> first | (cases hs; done) | skip
      all_goals simp only [builtinA] at ha
      · split at ha
        · simp only [Option.bind_eq_some_iff, Option.map_eq_some_iff, Prod.mk.injEq] at ha
          obtain ⟨t, _, n, _, rfl, rfl⟩ := ha
          exact ⟨rfl, _, rfl⟩
        · cases ha
      · split at ha
        · simp only [Option.bind_eq_some_iff, Option.map_eq_some_iff, Prod.mk.injEq] at ha
          obtain ⟨t, _, n, _, rfl, rfl⟩ := ha
          exact ⟨rfl, _, rfl⟩
        · cases ha
      · simp only [Option.bind_eq_some_iff, Option.map_eq_some_iff, Prod.mk.injEq] at ha
        obtain ⟨l, _, r, _, rfl, rfl⟩ := ha
        exact ⟨rfl, _, rfl⟩
      · simp only [Option.bind_eq_some_iff, Option.map_eq_some_iff, Prod.mk.injEq] at ha
        obtain ⟨l, _, r, _, rfl, rfl⟩ := ha
        exact ⟨rfl, _, rfl⟩

theorem newRow_form {h h' : H} {elem : TypeId} {cells : List AV} {b : Nat} (hn : newRow h elem cells = some (b, h')) :
    b = h.next ∧ h' = h.new (.cells cells elem false false) ∧ ∀ g : H, g.next = h.next → newRow g elem cells = some (h.next, g.new (.cells cells elem false false)) := by
  unfold newRow at hn ⊢
  split at hn
  · rename_i hs
    cases hn
    exact ⟨rfl, rfl, fun g hg => by rw [if_pos hs, hg]⟩
  · cases hn

theorem make_form {e : Operand → Option AV} {o : Oper} {h h' : H} {x : ANext} (ha : aop P e o h = some (x, h')) (hs : sortOf P o.op = .make) :
    ∃ v ab, x = .value v ∧ h' = h.new ab ∧ ∀ g : H, g.next = h.next → aop P e o g = some (.value v, g.new ab) := by
  unfold aop at ha ⊢
  generalize hop : o.op = op at hs ha
  cases op <;> simp only [sortOf] at hs <;> first | (cases hs; done) | skip
  all_goals first | (split at hs <;> cases hs; done) | skip
  · simp only [Option.bind_eq_bind, Option.bind_eq_some_iff] at ha
    obtain ⟨z, hz, ⟨b, h1⟩, hn, he⟩ := ha
    cases he
    obtain ⟨rfl, rfl, hall⟩ := newRow_form hn
    exact ⟨_, _, rfl, rfl, fun g hg => by simp [hz, hall g hg]⟩
  · simp only [Option.bind_eq_bind, Option.bind_eq_some_iff] at ha
    obtain ⟨v, hv, ⟨b, h1⟩, hn, he⟩ := ha
    cases he
    obtain ⟨rfl, rfl, hall⟩ := newRow_form hn
    exact ⟨_, _, rfl, rfl, fun g hg => by simp [hv, hall g hg]⟩
  · simp only [Option.bind_eq_bind] at ha
    split at ha
    · rename_i elem hu
      simp only [Option.bind_eq_some_iff] at ha
      obtain ⟨sz, hsz, qs, hq, he⟩ := ha
      split at he
      · rename_i h24
        simp only [Option.bind_eq_some_iff] at he
        obtain ⟨z, hz, he⟩ := he
        split at he
        · rename_i hzl
          simp only [Option.bind_eq_some_iff, Option.map_eq_some_iff, Prod.mk.injEq] at he
          obtain ⟨cells, hc, ⟨b, h1⟩, hn, rfl, rfl⟩ := he
          obtain ⟨rfl, rfl, hall⟩ := newRow_form hn
          refine ⟨_, _, rfl, rfl, fun g hg => ?_⟩
          simp only [Option.bind_eq_bind, hu, hsz, hq, Option.bind_some, if_pos h24, hz, if_pos hzl, hc, hall g hg, Option.map_some]
        · cases he
      · cases he
    · cases ha
  · simp only at ha
    split at ha
    · cases ha
      exact ⟨_, _, rfl, rfl, fun g hg => by simp [hg]⟩
    · split at ha
      · rename_i h1 h2
        cases ha
        exact ⟨_, _, rfl, rfl, fun g hg => by simp [h1, h2, hg]⟩
      · cases ha
  · simp only [Option.bind_eq_bind] at ha
    split at ha
    · rename_i elem hu
      simp only [Option.bind_eq_some_iff] at ha
      obtain ⟨lv, hl, ln, hln, cv, hc, cn, hcn, sz, hsz, he⟩ := ha
      split at he
      · rename_i info hi
        split at he
        · rename_i hcond
          simp only [Option.bind_eq_some_iff] at he
          obtain ⟨z, hz, he⟩ := he
          split at he
          · rename_i hzl
            simp only [Option.map_eq_some_iff, Prod.mk.injEq] at he
            obtain ⟨⟨b, h1⟩, hn, rfl, rfl⟩ := he
            obtain ⟨rfl, rfl, hall⟩ := newRow_form hn
            refine ⟨_, _, rfl, rfl, fun g hg => ?_⟩
            simp only [Option.bind_eq_bind, hu, hl, hln, hc, hcn, hsz, hi, Option.bind_some, if_pos hcond, hz, if_pos hzl, hall g hg, Option.map_some]
          · cases he
        · cases he
      · cases he
    · cases ha
end
end Go.Ev

namespace Go.Ev
section
variable {P : Program} {call : M → Option (AV × H)} {ops : Array Oper} {nt base : Nat}

/-- Calls come to what they are said to come to. -/
def CallSound (P : Program) (call : M → Option (AV × H)) : Prop :=
  ∀ m q, call m = some q → ∀ (ρ : Ren) (fr : Frame) (cs : List Frame) (w : World), FrRel ρ m.fr fr → All2 (FrRel ρ) m.cs cs → St ρ m.h w → ∀ CS,
    ∃ ρ' x w', VRel ρ' q.1 x ∧ St ρ' q.2 w' ∧ Trans ρ m.h w ρ' q.2 w' ∧ Out P (lone fr (cs ++ CS) w) CS (bot m.fr m.cs) x w'

def dstOf (ops : Array Oper) (i : Nat) : Option Tmp := (ops[i]?).bind (·.dst)

theorem dstIs_eq (t j : Nat) : dstIs ops.toList t j = true ↔ dstOf ops j = some t := by
  unfold dstIs dstOf
  rw [Array.getElem?_toList]
  cases ops[j]? <;> simp

inductive Emitted (P : Program) (call : M → Option (AV × H)) (ops : Array Oper) (base nt : Nat) : List Turn → Tr AV → H → Tr AV → H → Prop
  | nil (tmps : Tr AV) (h : H) : Emitted P call ops base nt [] tmps h tmps h
  | cons {t : Turn} {ts : List Turn} {o : Oper} {tmps tmps₁ tmps' : Tr AV} {h h' : H} (ho : ops[t.i]? = some o) (he : emit P call ops base t.i o tmps h = some t) (hp : putT tmps nt o.dst t.v = some tmps₁)
      (hr : Emitted P call ops base nt ts tmps₁ t.after tmps' h') : Emitted P call ops base nt (t :: ts) tmps h tmps' h'

theorem emit_i {i : Nat} {o : Oper} {tmps : Tr AV} {h : H} {t : Turn} (he : emit P call ops base i o tmps h = some t) : t.i = i ∧ t.tmps = tmps ∧ t.before = h ∧ t.sort = sortOf P o.op ∧ wantedA ops o tmps = some t.want := by
  unfold emit at he
  split at he
  · rename_i hw; cases he; exact ⟨rfl, rfl, rfl, rfl, hw⟩
  · rename_i hw
    split at he
    · rename_i hs
      split at he
      · cases he; exact ⟨rfl, rfl, rfl, hs.symm, hw⟩
      · cases he
    · rename_i hs
      split at he
      · cases he; exact ⟨rfl, rfl, rfl, hs.symm, hw⟩
      · cases he
    · rename_i hs
      simp only [Option.map_eq_some_iff] at he
      obtain ⟨q, _, rfl⟩ := he
      exact ⟨rfl, rfl, rfl, hs.symm, hw⟩
  · cases he

theorem emitAll_spec : ∀ (ord : List Nat) (tmps : Tr AV) (h : H) (q : List Turn × Tr AV × H), emitAll P call ops ops.toList nt base ord tmps h = some q → Emitted P call ops base nt q.1 tmps h q.2.1 q.2.2 ∧ q.1.map (·.i) = ord
  | [], tmps, h, q, hq => by simp only [emitAll, Option.some.injEq] at hq; subst hq; exact ⟨.nil _ _, rfl⟩
  | i :: rest, tmps, h, q, hq => by
    simp only [emitAll] at hq
    split at hq
    · rename_i o ho
      split at hq
      · rename_i t ht
        split at hq
        · rename_i tmps1 hp
          simp only [Option.map_eq_some_iff] at hq
          obtain ⟨q', hq', rfl⟩ := hq
          obtain ⟨h1, h2⟩ := emitAll_spec rest tmps1 t.after q' hq'
          have hi := (emit_i ht).1
          rw [Array.getElem?_toList] at ho
          exact ⟨.cons (by rw [hi]; exact ho) (by rw [hi]; exact ht) hp h1, by simp [hi, h2]⟩
        · cases hq
      · cases hq
    · cases hq

theorem Emitted.split {A B : List Turn} : ∀ {tmps tmps' : Tr AV} {h h' : H}, Emitted P call ops base nt (A ++ B) tmps h tmps' h' → ∃ tm hm, Emitted P call ops base nt A tmps h tm hm ∧ Emitted P call ops base nt B tm hm tmps' h' := by
  induction A with
  | nil => intro tmps tmps' h h' he; exact ⟨tmps, h, .nil _ _, he⟩
  | cons a A ih =>
    intro tmps tmps' h h' he
    cases he with
    | cons ho hem hp hr =>
      obtain ⟨tm, hm, h1, h2⟩ := ih hr
      exact ⟨tm, hm, .cons ho hem hp h1, h2⟩
theorem Emitted.append {A B : List Turn} {tm : Tr AV} {hm : H} {tmps' : Tr AV} {h' : H} : ∀ {tmps : Tr AV} {h : H}, Emitted P call ops base nt A tmps h tm hm → Emitted P call ops base nt B tm hm tmps' h' → Emitted P call ops base nt (A ++ B) tmps h tmps' h' := by
  induction A with
  | nil => intro tmps h h1 h2; cases h1; exact h2
  | cons a A ih =>
    intro tmps h h1 h2
    cases h1 with
    | cons ho hem hp hr => exact .cons ho hem hp (ih hr h2)

theorem putT_get {tmps tmps' : Tr AV} {dst : Option Tmp} {v : AV} (hp : putT tmps nt dst v = some tmps') (t : Nat) : tmps'.get t = if dst = some t then some v else tmps.get t := by
  unfold putT at hp
  split at hp
  · cases hp; simp
  · rename_i d
    split at hp
    · cases hp
      rw [Tr.get_put _ _ _ (by omega)]
      by_cases h : t = d
      · subst h; simp
      · rw [if_neg h, if_neg (by simp; exact fun e => h e.symm)]
    · cases hp
theorem putT_lt {tmps tmps' : Tr AV} {d : Nat} {v : AV} (hp : putT tmps nt (some d) v = some tmps') : d < nt := by
  unfold putT at hp
  simp only at hp
  split at hp
  · assumption
  · cases hp

theorem Emitted.get_other {ts : List Turn} {tmps tmps' : Tr AV} {h h' : H} (he : Emitted P call ops base nt ts tmps h tmps' h') (t : Nat) (hn : ∀ e ∈ ts, dstOf ops e.i ≠ some t) : tmps'.get t = tmps.get t := by
  induction he with
  | nil => rfl
  | cons ho hem hp hr ih =>
    rw [ih fun e he => hn e (List.mem_cons_of_mem _ he), putT_get hp, if_neg]
    have := hn _ (List.mem_cons_self ..)
    simpa [dstOf, ho] using this

theorem Emitted.get_val {ts : List Turn} {tmps tmps' : Tr AV} {h h' : H} (he : Emitted P call ops base nt ts tmps h tmps' h') (hd : ∀ i j t, dstOf ops i = some t → dstOf ops j = some t → i = j) (hn : (ts.map (·.i)).Nodup) (t : Nat) (e : Turn) (hmem : e ∈ ts)
    (hdst : dstOf ops e.i = some t) : tmps'.get t = some e.v := by
  induction he with
  | nil => cases hmem
  | cons ho hem hp hr ih =>
    rename_i t0 ts0 o tmps0 tmps1 tmps2 h0 h2
    simp only [List.map_cons, List.nodup_cons] at hn
    rcases List.mem_cons.1 hmem with rfl | hmem
    · rw [hr.get_other t (fun e' he' hc => hn.1 (by rw [hd _ _ _ hdst hc]; exact List.mem_map_of_mem he')), putT_get hp, if_pos]
      simpa [dstOf, ho] using hdst
    · exact ih hn.2 hmem

/-! ### What comes before -/
theorem bitsOf_mem (acc : List Nat) : ∀ (l : List Nat) (i : Nat), (bitsOf acc l).testBit i = true → ∃ p ∈ l, i = p ∨ (acc.getD p 0).testBit i = true
  | [], i, h => by simp [bitsOf] at h
  | p :: l, i, h => by
    simp only [bitsOf, Nat.testBit_or, Bool.or_eq_true] at h
    rcases h with (h | h) | h
    · rw [Nat.testBit_two_pow] at h
      exact ⟨p, List.mem_cons_self .., .inl (by simpa using h : p = i).symm⟩
    · exact ⟨p, List.mem_cons_self .., .inr h⟩
    · obtain ⟨q, h1, h2⟩ := bitsOf_mem acc l i h
      exact ⟨q, List.mem_cons_of_mem _ h1, h2⟩

theorem closure_ok (S : Nat → Prop) (all : List Oper) (hS : ∀ j o, S j → all[j]? = some o → ∀ p ∈ preds o, S p) : ∀ (rest : List Oper) (acc : List Nat) (done : List Oper), all = done ++ rest → acc.length = done.length →
    (∀ j o, done[j]? = some o → (∀ p ∈ preds o, S p) → ∀ i, (acc.getD j 0).testBit i = true → S i) →
    ∀ j o, all[j]? = some o → (∀ p ∈ preds o, S p) → ∀ i, ((closure rest acc).getD j 0).testBit i = true → S i
  | [], acc, done, ha, hl, hi, j, o, hj, hp, i, hb => by
    simp only [closure] at hb
    have : done = all := by simpa using ha.symm
    exact hi j o (by rw [this]; exact hj) hp i hb
  | o0 :: rest, acc, done, ha, hl, hi, j, o, hj, hp, i, hb => by
    simp only [closure] at hb
    refine closure_ok S all hS rest (acc ++ [bitsOf acc (preds o0)]) (done ++ [o0]) (by simp [ha]) (by simp [hl]) ?_ j o hj hp i hb
    intro j' o' hj' hp' i' hb'
    by_cases hlt : j' < done.length
    · rw [List.getElem?_append_left hlt] at hj'
      rw [List.getD_eq_getElem?_getD, List.getElem?_append_left (by omega), ← List.getD_eq_getElem?_getD] at hb'
      exact hi j' o' hj' hp' i' hb'
    · have hge : done.length ≤ j' := Nat.le_of_not_lt hlt
      rw [List.getElem?_append_right hge] at hj'
      have hz : j' = done.length := by
        have := (List.getElem?_eq_some_iff.1 hj').1
        simp at this; omega
      subst hz
      simp at hj'
      subst hj'
      rw [List.getD_eq_getElem?_getD, List.getElem?_append_right (by omega), hl] at hb'
      simp at hb'
      obtain ⟨p, hpm, hpi⟩ := bitsOf_mem acc _ _ hb'
      rcases hpi with rfl | hpi
      · exact hp' _ hpm
      · have hSp := hp' _ hpm
        by_cases hpl : p < done.length
        · have hdp : done[p]? = some done[p] := List.getElem?_eq_getElem hpl
          have hap : all[p]? = some done[p] := by rw [ha, List.getElem?_append_left hpl]; exact hdp
          exact hi p _ hdp (hS p _ hSp hap) i' hpi
        · rw [List.getD_eq_getElem?_getD, List.getElem?_eq_none (by omega)] at hpi
          simp at hpi

theorem orderOk_split {clo : List Nat} : ∀ (A : List Nat) (i : Nat) (B done : List Nat), orderOk P ops.toList clo done (A ++ i :: B) = true →
    ∃ o, ops[i]? = some o ∧ (∀ p ∈ preds o, p ∈ done ++ A) ∧ (sortOf P o.op = .write → ∀ j ∈ done ++ A, (clo.getD i 0).testBit j = true)
  | [], i, B, done, h => by
    simp only [List.nil_append, orderOk, Bool.and_eq_true] at h
    obtain ⟨h, _⟩ := h
    split at h
    · rename_i o ho
      rw [Array.getElem?_toList] at ho
      simp only [Bool.and_eq_true, List.all_eq_true] at h
      refine ⟨o, ho, fun p hp => ?_, fun hs j hj => ?_⟩
      · have := h.1 p hp; simpa using this
      · have h2 := h.2
        rw [hs] at h2
        simp only [List.all_eq_true] at h2
        exact h2 j (by simpa using hj)
    · cases h
  | a :: A, i, B, done, h => by
    simp only [List.cons_append, orderOk, Bool.and_eq_true] at h
    obtain ⟨o, h1, h2, h3⟩ := orderOk_split A i B (done ++ [a]) h.2
    exact ⟨o, h1, by simpa using h2, by simpa using h3⟩

/-! ### Memory with what is made later on -/
theorem Good.congr {ρ : Ren} {h h' : H} {w : World} (g : Good ρ h w) (hg : ∀ b ab, h'.get b = some ab → h.get b = some ab) : Good ρ h' w :=
  have hl : ∀ b, (h'.get b).isSome = true → (h.get b).isSome = true := fun b hb => by
    cases hx : h'.get b with
    | none => simp [hx] at hb
    | some ab => simp [hg b ab hx]
  ⟨fun b ab e hb he => g.sat b ab e (hg b ab hb) he, fun b b' e e' hb hb' => g.inj b b' e e' (hl b hb) (hl b' hb'), g.lt⟩

theorem withMakes_next (h : H) : ∀ (ts : List Turn), (withMakes base h ts).next = h.next := by
  intro ts
  induction ts generalizing h with
  | nil => rfl
  | cons t ts ih => simp only [withMakes]; rw [ih]; split <;> rfl

theorem withMakes_get : ∀ (ts : List Turn) (h : H) (b : Nat), (ts.map (·.i)).Nodup →
    (∀ e ∈ ts, e.sort = .make → e.want = true → b = base + e.i → (withMakes base h ts).get b = e.after.get b) ∧
    ((∀ e ∈ ts, e.sort = .make → e.want = true → b ≠ base + e.i) → (withMakes base h ts).get b = h.get b)
  | [], h, b, _ => ⟨(fun e he => by cases he), fun _ => rfl⟩
  | t :: ts, h, b, hn => by
    simp only [List.map_cons, List.nodup_cons] at hn
    have hget : ∀ (x : Nat), (⟨h.heap.put (base + t.i + 1) (base + t.i) (t.after.get (base + t.i)), h.next⟩ : H).get x = if x = base + t.i then t.after.get (base + t.i) else h.get x :=
      fun x => Tr.get_put _ _ _ (by omega) _ _
    constructor
    · intro e he hs hw hb
      rcases List.mem_cons.1 he with rfl | he
      · simp only [withMakes, hs, hw]
        rw [(withMakes_get ts _ b hn.2).2 (fun e' he' _ _ hb' => hn.1 (by
          have : e'.i = e.i := by omega
          rw [← this]; exact List.mem_map_of_mem he')), hget, if_pos hb, hb]
      · simp only [withMakes]
        exact (withMakes_get ts _ b hn.2).1 e he hs hw hb
    · intro hnb
      simp only [withMakes]
      rw [(withMakes_get ts _ b hn.2).2 fun e he => hnb e (List.mem_cons_of_mem _ he)]
      split
      · rename_i hs hw
        rw [hget, if_neg (hnb t (List.mem_cons_self ..) hs hw)]
      · rfl
end
end Go.Ev

namespace Go.Ev

theorem emp_eq {α : Type} {a b : Array α} (ha : a.isEmpty = true) (hb : b.isEmpty = true) : a = b := by
  simp at ha hb; rw [ha, hb]

theorem bytes_eq {a b : ByteArray} (h : (a == b) = true) : a = b := by
  have h' : (a.data == b.data) = true := h
  cases a; cases b
  simp only [beq_iff_eq] at h'
  rw [h']

theorem eqVal_eq {v u : Value} (h : eqAV (.val v) (.val u) = true) : v = u := by
  unfold eqAV at h
  split at h
  all_goals (try simp only [Bool.and_eq_true, beq_iff_eq] at h)
  all_goals first
    | rfl
    | (subst h; rfl)
    | (obtain ⟨h1, h2⟩ := h; subst h1; subst h2; rfl)
    | (obtain ⟨h1, h2⟩ := h; rw [emp_eq h1 h2])
    | (rw [bytes_eq h])
    | (obtain ⟨⟨⟨⟨h1, h2⟩, h3⟩, h4⟩, h5⟩ := h; subst h1; rw [emp_eq h2 h4, emp_eq h3 h5])
    | cases h

mutual
theorem eqAV_eq : ∀ (a b : AV), eqAV a b = true → a = b
  | .val v, b, h => by
    cases b with
    | val u => rw [eqVal_eq h]
    | _ => simp [eqAV] at h
  | .ptr a c, b, h => by
    cases b <;> simp [eqAV] at h
    rw [h.1, h.2]
  | .slice a c d e, b, h => by
    cases b <;> simp [eqAV] at h
    obtain ⟨⟨⟨h1, h2⟩, h3⟩, h4⟩ := h
    rw [h1, h2, h3, h4]
  | .sliceE a c d e, b, h => by
    cases b <;> simp [eqAV] at h
    obtain ⟨⟨⟨h1, h2⟩, h3⟩, h4⟩ := h
    rw [h1, h2, h3, h4]
  | .void, b, h => by cases b <;> simp [eqAV] at h; rfl
  | .map a, b, h => by cases b <;> simp [eqAV] at h; rw [h]
  | .yld a, b, h => by cases b <;> simp [eqAV] at h; rw [h]
  | .func f a c, b, h => by
    cases b with
    | func g a' c' =>
      cases f <;> cases g <;> simp [eqAV] at h
      obtain ⟨⟨h1, h2⟩, h3⟩ := h
      rw [h1, eqAVs_eq a a' h2, eqAVs_eq c c' h3]
    | _ => simp [eqAV] at h
  | .iface t v, b, h => by
    cases b with
    | iface u x =>
      simp [eqAV] at h
      rw [h.1, eqAV_eq v x h.2]
    | _ => simp [eqAV] at h
  | .agg l, b, h => by
    cases b with
    | agg m => simp [eqAV] at h; rw [eqAVs_eq l m h]
    | _ => simp [eqAV] at h
  | .tuple l, b, h => by
    cases b with
    | tuple m => simp [eqAV] at h; rw [eqAVs_eq l m h]
    | _ => simp [eqAV] at h
theorem eqAVs_eq : ∀ (a b : List AV), eqAVs a b = true → a = b
  | [], [], _ => rfl
  | [], _ :: _, h => by simp [eqAVs] at h
  | _ :: _, [], h => by simp [eqAVs] at h
  | x :: l, y :: m, h => by
    simp [eqAVs] at h
    rw [eqAV_eq x y h.1, eqAVs_eq l m h.2]
end

/-- What is known of memory beside what an operation saw is kept. -/
theorem carry {ρ₀ ρ ρ' : Ren} {h₀ X hA hB X' : H} {w₀ w w' : World} (gX : Good ρ X w) (t0 : Trans ρ₀ h₀ w₀ ρ X w) (g' : Good ρ' hB w') (t : Trans ρ hA w ρ' hB w')
    (hsub : ∀ b ab, hA.get b = some ab → X.get b = some ab) (h1 : h₀.next ≤ hA.next) (h2 : X.next ≤ X'.next) (h3 : hB.next ≤ X'.next)
    (hx : ∀ b ab, X'.get b = some ab → hB.get b = some ab ∨ (X.get b = some ab ∧ hA.get b = none ∧ b < hA.next)) : Good ρ' X' w' ∧ Trans ρ₀ h₀ w₀ ρ' X' w' := by
  have hlive : ∀ b, (hA.get b).isSome = true → (X.get b).isSome = true := fun b hb => by
    cases hq : hA.get b with
    | none => simp [hq] at hb
    | some ab => simp [hsub b ab hq]
  have hold : ∀ b e, b < hA.next → ρ' b = some e → ρ b = some e := fun b e hb he => by
    cases hq : ρ b with
    | none => have := t.ids b hq (by rw [he]; simp); omega
    | some e0 => have := t.le _ _ hq; rw [he] at this; exact this.symm
  have hfootA : ∀ k, Foot ρ hA k → Foot ρ X k := fun k ⟨b, e, a1, a2, a3⟩ => ⟨b, e, hlive b a1, a2, a3⟩
  have hxl : ∀ b, (X'.get b).isSome = true → (hB.get b).isSome = true ∨ ((X.get b).isSome = true ∧ hA.get b = none ∧ b < hA.next) := fun b hb => by
    cases hq : X'.get b with
    | none => simp [hq] at hb
    | some ab => exact (hx b ab hq).imp (fun h => by simp [h]) (fun h => ⟨by simp [h.1], h.2⟩)
  -- what is beside is not in the footprint
  have hnf : ∀ b e, (X.get b).isSome = true → hA.get b = none → ρ b = some e → ¬Foot ρ hA e.blk := by
    rintro b e a1 a2 a3 ⟨j, ej, b1, b2, b3⟩
    have := gX.inj j b ej e (hlive j b1) a1 b2 a3 b3
    subst this
    simp [a2] at b1
  refine ⟨⟨fun b ab e hb he => ?_, fun b b' e e' hb hb' he he' hbb => ?_, g'.lt⟩, ⟨Ren.le_trans t0.le t.le, fun b a1 a2 => ?_, Nat.le_trans t0.next h2, Nat.le_trans t0.size t.size, fun k hk hf => ?_, ?_, t.os.trans t0.os, t.tape.trans t0.tape, t.output.trans t0.output⟩⟩
  · rcases hx b ab hb with hb | ⟨a1, a2, a3⟩
    · exact g'.sat b ab e hb he
    · have hρ := hold b e a3 he
      obtain ⟨o, h4, h5⟩ := gX.sat b ab e a1 hρ
      refine ⟨o, ?_, h5.mono t.le⟩
      rw [t.keep _ (gX.lt b e hρ) (hnf b e (by simp [a1]) a2 hρ), h4]
  · have key : ∀ b b' e e', (hB.get b).isSome = true → ((X.get b').isSome = true ∧ hA.get b' = none ∧ b' < hA.next) → ρ' b = some e → ρ' b' = some e' → e.blk = e'.blk → False := by
      intro b b' e e' c1 ⟨c2, c3, c4⟩ c5 c6 c7
      have hρ := hold b' e' c4 c6
      rcases t.foot e'.blk ⟨b, e, c1, c5, c7⟩ with hf | hf
      · exact hnf b' e' c2 c3 hρ hf
      · have := gX.lt b' e' hρ; omega
    rcases hxl b hb with c | c <;> rcases hxl b' hb' with c' | c'
    · exact g'.inj b b' e e' c c' he he' hbb
    · exact (key b b' e e' c c' he he' hbb).elim
    · exact (key b' b e' e c' c he' he hbb.symm).elim
    · exact gX.inj b b' e e' c.1 c'.1 (hold b e c.2.2 he) (hold b' e' c'.2.2 he') hbb
  · cases hq : ρ b with
    | none => have := t.ids b hq a2; omega
    | some e => have := t0.ids b a1 (by rw [hq]; simp); omega
  · rw [t.keep k (Nat.lt_of_lt_of_le hk t0.size) (fun hf' => (t0.foot k (hfootA k hf')).elim hf (fun h => by omega)), t0.keep k hk hf]
  · rintro k ⟨b, e, c1, c2, c3⟩
    rcases hxl b c1 with c | ⟨c, c', c''⟩
    · rcases t.foot k ⟨b, e, c, c2, c3⟩ with hf | hf
      · exact t0.foot k (hfootA k hf)
      · exact .inr (Nat.le_trans t0.size hf)
    · exact t0.foot k ⟨b, e, c, hold b e c'' c2, c3⟩

section
variable {P : Program} {call : M → Option (AV × H)} {ops : Array Oper} {nt base : Nat}

theorem withMakes_append (h : H) : ∀ (A B : List Turn), withMakes base h (A ++ B) = withMakes base (withMakes base h A) B := by
  intro A
  induction A generalizing h with
  | nil => intro B; rfl
  | cons t A ih => intro B; simp only [List.cons_append, withMakes]; exact ih _ B

theorem emit_cases {i : Nat} {o : Oper} {tmps : Tr AV} {h : H} {t : Turn} (he : emit P call ops base i o tmps h = some t) :
    (t.want = false ∧ t.v = undefA ∧ t.after = h) ∨ (t.want = true ∧ t.sort = .look ∧ t.after = h) ∨
    (t.want = true ∧ t.sort = .make ∧ ∃ ab, t.after = ⟨h.heap.put (base + i + 1) (base + i) (some ab), h.next⟩ ∧ ∀ g : H, g.next = base + i → aop P (ev tmps) o g = some (.value t.v, g.new ab)) ∨
    (t.want = true ∧ t.sort = .write ∧ wholeOp P call tmps o h = some (t.v, t.after)) := by
  unfold emit at he
  split at he
  · cases he; exact .inl ⟨rfl, rfl, rfl⟩
  · split at he
    · split at he
      · cases he; exact .inr (.inl ⟨rfl, rfl, rfl⟩)
      · cases he
    · rename_i hs
      split at he
      · rename_i v h1 ha
        cases he
        obtain ⟨v', ab, hv, rfl, hall⟩ := make_form ha hs
        cases hv
        exact .inr (.inr (.inl ⟨rfl, rfl, ab, rfl, hall⟩))
      · cases he
    · rename_i hs
      simp only [Option.map_eq_some_iff] at he
      obtain ⟨q, hq, rfl⟩ := he
      exact .inr (.inr (.inr ⟨rfl, rfl, hq⟩))
  · cases he

/-- Behind turns of which none writes. -/
theorem Emitted.quiet {ts : List Turn} {tmps tmps' : Tr AV} {h h' : H} (he : Emitted P call ops base nt ts tmps h tmps' h') (hq : ∀ e ∈ ts, e.sort ≠ .write) : h' = withMakes base h ts := by
  induction he with
  | nil => rfl
  | cons ho hem hp hr ih =>
    rename_i t ts o tmps0 tmps1 tmps2 h0 h2
    rw [ih fun e he => hq e (List.mem_cons_of_mem _ he)]
    simp only [withMakes]
    congr 1
    have hw := hq t (List.mem_cons_self ..)
    rcases emit_cases hem with ⟨h1, _, h3⟩ | ⟨h1, h2, h3⟩ | ⟨h1, h2, ab, h3, _⟩ | ⟨h1, h2, h3⟩
    · rw [h1, h3]; cases t.sort <;> rfl
    · rw [h1, h2, h3]
    · have hg : t.after.get (base + t.i) = some ab := by
        rw [h3]
        have := Tr.get_put (base + t.i + 1) h0.heap (base + t.i) (by omega) (some ab) (base + t.i)
        rw [if_pos rfl] at this
        exact this
      rw [h1, h2, hg, h3]
    · exact absurd h2 hw
end
end Go.Ev

namespace Go.Ev
section
variable {P : Program} {call : M → Option (AV × H)} {ops : Array Oper} {nt base : Nat}

theorem nodup_inj : ∀ {T : List Turn}, (T.map (·.i)).Nodup → ∀ e ∈ T, ∀ e' ∈ T, e.i = e'.i → e = e'
  | [], _, e, he, _, _, _ => by cases he
  | t :: T, hn, e, he, e', he', h => by
    simp only [List.map_cons, List.nodup_cons] at hn
    rcases List.mem_cons.1 he with h1 | h1
    · rcases List.mem_cons.1 he' with h2 | h2
      · rw [h1, h2]
      · exact absurd (by rw [← h1, h]; exact List.mem_map_of_mem h2) hn.1
    · rcases List.mem_cons.1 he' with h2 | h2
      · exact absurd (by rw [← h2, ← h]; exact List.mem_map_of_mem h1) hn.1
      · exact nodup_inj hn.2 e h1 e' h2 h

theorem nodupB_ok : ∀ {l : List Nat}, nodupB l = true → l.Nodup
  | [], _ => .nil
  | x :: l, h => by
    simp [nodupB] at h
    exact List.nodup_cons.2 ⟨h.1, nodupB_ok h.2⟩

/-- The plan of a region that draws. -/
structure Plan (P : Program) (call : M → Option (AV × H)) (ops : Array Oper) (base nt : Nat) (T : List Turn) (tmps₀ : Tr AV) (g₀ : H) (tmpsF : Tr AV) (hF : H) : Prop where
  em : Emitted P call ops base nt T tmps₀ g₀ tmpsF hF
  nodup : (T.map (·.i)).Nodup
  all : ∀ i, i < ops.size → ∃ e ∈ T, e.i = i
  ord : orderOk P ops.toList (closure ops.toList []) [] (T.map (·.i)) = true
  dst : ∀ i j t, dstOf ops i = some t → dstOf ops j = some t → i = j
  oper : ∀ (i : Nat) (o : Oper), ops[i]? = some o → ∀ t ∈ tmpsOf o, ∀ j, dstOf ops j = some t → j = i ∨ j ∈ preds o ∨ ∃ p, ops[j]? = some p ∧ i ∈ preds p
  guard : ∀ (i : Nat) (o : Oper) (g : Nat) (b : Bool), ops[i]? = some o → o.guard = some (g, b) → g ∈ preds o

theorem dstOf_lt {j t : Nat} (h : dstOf ops j = some t) : j < ops.size ∧ ∃ p, ops[j]? = some p ∧ p.dst = some t := by
  unfold dstOf at h
  cases hq : ops[j]? with
  | none => simp [hq] at h
  | some p =>
    simp [hq] at h
    exact ⟨(Array.getElem?_eq_some_iff.1 hq).1, p, rfl, h⟩

theorem plan_of {T : List Turn} {ord : List Nat} {tmps₀ : Tr AV} {g₀ : H} {tmpsF : Tr AV} {hF : H} (hr : regionOk P ops.toList (closure ops.toList []) ord = true)
    (he : emitAll P call ops ops.toList nt base ord tmps₀ g₀ = some (T, tmpsF, hF)) : Plan P call ops base nt T tmps₀ g₀ tmpsF hF := by
  obtain ⟨h1, h2⟩ := emitAll_spec ord tmps₀ g₀ _ he
  simp only at h1 h2
  unfold regionOk at hr
  simp only [Bool.and_eq_true, List.all_eq_true] at hr
  obtain ⟨⟨⟨ha, hn⟩, ho⟩, hall⟩ := hr
  have hat : ∀ i o, ops[i]? = some o → _ := fun i o hio => by
    have hlt := (Array.getElem?_eq_some_iff.1 hio).1
    have := hall i (by simp; exact hlt)
    rw [Array.getElem?_toList, hio] at this
    simp only [Bool.and_eq_true] at this
    exact this
  refine ⟨h1, by rw [h2]; exact nodupB_ok hn, fun i hi => ?_, by rw [h2]; exact ho, fun i j t hi hj => ?_, fun i o hio t ht j hj => ?_, fun i o g b hio hg => ?_⟩
  · have := ha i (by simp; exact hi)
    have hm : i ∈ T.map (·.i) := by rw [h2]; simpa using this
    obtain ⟨e, he, hei⟩ := List.mem_map.1 hm
    exact ⟨e, he, hei⟩
  · obtain ⟨hlt, p, hp, hpd⟩ := dstOf_lt hi
    obtain ⟨hlt', _, _, _⟩ := dstOf_lt hj
    have := (hat i p hp).1.1
    rw [hpd] at this
    simp only [List.all_eq_true] at this
    have := this j (by simp; exact hlt')
    rw [(dstIs_eq t j).2 hj] at this
    simpa using this
  · obtain ⟨hlt', p, hp, hpd⟩ := dstOf_lt hj
    have := (hat i o hio).1.2
    simp only [List.all_eq_true] at this
    have := this t ht j (by simp; exact hlt')
    rw [(dstIs_eq t j).2 hj, Array.getElem?_toList, hp] at this
    simp at this
    rcases this with (h | h) | h
    · exact .inl h
    · exact .inr (.inl h)
    · exact .inr (.inr ⟨p, hp, h⟩)
  · have := (hat i o hio).2
    rw [hg] at this
    simpa using this

/-- Where a region that draws its order stands. -/
structure Inv (P : Program) (call : M → Option (AV × H)) (ops : Array Oper) (nt : Nat) (T : List Turn) (tmps₀ : Tr AV) (h₀ : H) (tmpsF : Tr AV) (hF : H) (ρ₀ : Ren) (w₀ : World)
    (L : Nat → Prop) (T₁ T₂ : List Turn) (G : H) (tm : Tr AV) (ρ : Ren) (arr : Array Value) (w : World) : Prop where
  split : T = T₁ ++ T₂
  e1 : Emitted P call ops h₀.next nt T₁ tmps₀ ⟨h₀.heap, h₀.next + ops.size⟩ tm G
  e2 : Emitted P call ops h₀.next nt T₂ tm G tmpsF hF
  time : timeOk P ops.toList (closure ops.toList []) h₀.next T (writesOf T₁) G T₂ = true
  times : timesOk P ops.toList (closure ops.toList []) h₀.next T (writesOf T₁) T₂ = true
  l1 : ∀ e ∈ T₁, L e.i
  l2 : ∀ e ∈ T₂, e.sort = .write → ¬L e.i
  good : Good ρ (withMakes h₀.next G T₂) w
  new : ∀ i, i < ops.size → ¬L i → ρ (h₀.next + i) = none
  free : ∀ b, G.next ≤ b → ρ b = none
  next : h₀.next + ops.size ≤ G.next
  tr : Trans ρ₀ h₀ w₀ ρ (withMakes h₀.next G T₂) w
  size : arr.size = nt
  done : ∀ e ∈ T, L e.i → ∀ t, dstOf ops e.i = some t → ∃ v, arr[t]? = some v ∧ VRel ρ e.v v
  rest : ∀ t x, (∀ j, L j → dstOf ops j ≠ some t) → tmps₀.get t = some x → ∃ v, arr[t]? = some v ∧ VRel ρ x v
  closed : ∀ (j : Nat) (o : Oper), L j → ops[j]? = some o → ∀ p ∈ preds o, L p
  st0 : St ρ₀ h₀ w₀

variable {T : List Turn} {tmps₀ : Tr AV} {h₀ : H} {tmpsF : Tr AV} {hF : H} {ρ₀ : Ren} {w₀ : World} {L : Nat → Prop} {T₁ T₂ : List Turn} {G : H} {tm : Tr AV} {ρ : Ren} {arr : Array Value} {w : World}

theorem Inv.okw (I : Inv P call ops nt T tmps₀ h₀ tmpsF hF ρ₀ w₀ L T₁ T₂ G tm ρ arr w) : OKW w :=
  I.st0.okw.keep I.tr.size (fun k hk => I.tr.keep k (Nat.lt_of_lt_of_le hk I.st0.okw.1) fun hf => absurd (I.st0.far k hf) (by omega))
theorem Inv.far (I : Inv P call ops nt T tmps₀ h₀ tmpsF hF ρ₀ w₀ L T₁ T₂ G tm ρ arr w) : ∀ k, Foot ρ (withMakes h₀.next G T₂) k → limO ≤ k := fun k hk => by
  rcases I.tr.foot k hk with h1 | h1
  · exact I.st0.far k h1
  · exact Nat.le_trans I.st0.okw.1 h1

/-- All that a turn waits for lies ahead of it. -/
theorem Plan.before {g₀ : H} (pl : Plan P call ops base nt T tmps₀ g₀ tmpsF hF) {A : List Turn} {e : Turn} {B : List Turn} (hT : T = A ++ e :: B) {o : Oper} (ho : ops[e.i]? = some o) :
    (∀ p ∈ preds o, ∃ e' ∈ A, e'.i = p) ∧ (sortOf P o.op = .write → ∀ e' ∈ A, ((closure ops.toList []).getD e.i 0).testBit e'.i = true) := by
  have h := pl.ord
  rw [hT, List.map_append, List.map_cons] at h
  obtain ⟨o', h1, h2, h3⟩ := orderOk_split _ _ _ _ h
  rw [ho] at h1
  cases h1
  refine ⟨fun p hp => ?_, fun hs e' he' => h3 hs _ (by simp; exact ⟨e', he', rfl⟩)⟩
  have := h2 p hp
  simp at this
  exact this

theorem Plan.apart {g₀ : H} (pl : Plan P call ops base nt T tmps₀ g₀ tmpsF hF) {A : List Turn} {e : Turn} {B : List Turn} (hT : T = A ++ e :: B) : (∀ e' ∈ A, e'.i ≠ e.i) ∧ (∀ e' ∈ B, e'.i ≠ e.i) ∧ (∀ e' ∈ A, ∀ e'' ∈ B, e'.i ≠ e''.i) := by
  have h := pl.nodup
  rw [hT, List.map_append, List.map_cons, List.nodup_append] at h
  obtain ⟨h1, h2, h3⟩ := h
  rw [List.nodup_cons] at h2
  refine ⟨fun e' he' => h3 _ (List.mem_map_of_mem he') _ (List.mem_cons_self ..), fun e' he' hc => h2.1 (by rw [← hc]; exact List.mem_map_of_mem he'), fun e' he' e'' he'' => h3 _ (List.mem_map_of_mem he') _ (List.mem_cons_of_mem _ (List.mem_map_of_mem he''))⟩

/-- What a turn sees in a temporary that it has a right to look at is there. -/
theorem Inv.sees (pl : Plan P call ops h₀.next nt T tmps₀ ⟨h₀.heap, h₀.next + ops.size⟩ tmpsF hF) (I : Inv P call ops nt T tmps₀ h₀ tmpsF hF ρ₀ w₀ L T₁ T₂ G tm ρ arr w) {A : List Turn} {e : Turn} {B : List Turn} (hT : T₂ = A ++ e :: B)
    {tmA : Tr AV} {hA : H} (hA : Emitted P call ops h₀.next nt A tm G tmA hA) {o : Oper} (ho : ops[e.i]? = some o) (hl : ¬L e.i) (hp : ∀ p ∈ preds o, L p) {t : Nat}
    (hj : ∀ j, dstOf ops j = some t → j = e.i ∨ j ∈ preds o ∨ ∃ p, ops[j]? = some p ∧ e.i ∈ preds p) {x : AV} (hx : tmA.get t = some x) : ∃ v, arr[t]? = some v ∧ VRel ρ x v := by
  have hE := I.e1.append hA
  have hTT : T = (T₁ ++ A) ++ e :: B := by rw [I.split, hT, List.append_assoc]
  have hap := pl.apart hTT
  have hnd : ((T₁ ++ A).map (·.i)).Nodup := by
    have := pl.nodup
    rw [hTT, List.map_append, List.nodup_append] at this
    exact this.1
  have initial : (∀ e' ∈ T₁ ++ A, dstOf ops e'.i ≠ some t) → (∀ j, L j → dstOf ops j ≠ some t) → ∃ v, arr[t]? = some v ∧ VRel ρ x v := fun h1 h2 => by
    rw [hE.get_other t h1] at hx
    exact I.rest t x h2 hx
  by_cases hex : ∃ j, dstOf ops j = some t
  · obtain ⟨j, hd⟩ := hex
    rcases hj j hd with rfl | hjp | ⟨p, hpj, hip⟩
    · exact initial (fun e' he' hc => hap.1 e' he' (pl.dst _ _ _ hc hd)) (fun j' hj' hc => hl (by rw [← pl.dst _ _ _ hc hd]; exact hj'))
    · obtain ⟨e', he', rfl⟩ := (pl.before hTT ho).1 j hjp
      rw [hE.get_val pl.dst hnd t e' he' hd] at hx
      cases hx
      exact I.done e' (by rw [hTT]; exact List.mem_append_left _ he') (hp _ hjp) t hd
    · refine initial (fun e' he' hc => ?_) (fun j' hj' hc => ?_)
      · have hej := pl.dst _ _ _ hc hd
        obtain ⟨A1, A2, hAA⟩ := List.append_of_mem he'
        have hT' : T = A1 ++ e' :: (A2 ++ e :: B) := by rw [hTT, hAA]; simp
        obtain ⟨e'', h1, h2⟩ := (pl.before hT' (o := p) (by rw [hej]; exact hpj)).1 _ hip
        exact hap.1 e'' (by rw [hAA]; exact List.mem_append_left _ h1) h2
      · have hej := pl.dst _ _ _ hc hd
        exact hl (I.closed j' p hj' (by rw [hej]; exact hpj) _ hip)
  · exact initial (fun e' _ hc => hex ⟨_, hc⟩) (fun j _ hc => hex ⟨_, hc⟩)

theorem yielded_at {tmps : Tr AV} {j : Nat} {r : Option Bool} (ht : ∀ d x, dstOf ops j = some d → tmps.get d = some x → ∃ v, arr[d]? = some v ∧ VRel ρ x v) (hy : yieldedA ops tmps j = some r) : yielded ops arr j = r := by
  unfold yieldedA at hy
  unfold yielded
  unfold dstOf at ht
  split at hy
  · rename_i d hd
    rw [hd]
    simp only [Option.bind_some]
    split at hy
    · rename_i b hb
      cases hy
      obtain ⟨y, h1, h2⟩ := ht d _ hd hb
      cases h2
      rw [h1]
    · rename_i v hne hb
      cases hy
      obtain ⟨y, h1, h2⟩ := ht d _ hd hb
      rw [h1]
      cases y <;> first | rfl | skip
      cases h2
      exact absurd rfl (hne _)
    · cases hy
  · rename_i hd
    cases hy
    rw [hd]
    rfl

theorem wanted_at {tmps : Tr AV} {o : Oper} {b : Bool} (ht : ∀ g c, o.guard = some (g, c) → ∀ d x, dstOf ops g = some d → tmps.get d = some x → ∃ v, arr[d]? = some v ∧ VRel ρ x v) (hy : wantedA ops o tmps = some b) :
    Region.wanted o (yielded ops arr) = b := by
  unfold wantedA at hy
  unfold Region.wanted
  split at hy
  · rename_i hg; rw [hg]; cases hy; rfl
  · rename_i j want hg
    rw [hg]
    simp only [Option.map_eq_some_iff] at hy
    obtain ⟨r, h1, h2⟩ := hy
    simp only [yielded_at (ht j want hg) h1, h2]

theorem Inv.wants (pl : Plan P call ops h₀.next nt T tmps₀ ⟨h₀.heap, h₀.next + ops.size⟩ tmpsF hF) (I : Inv P call ops nt T tmps₀ h₀ tmpsF hF ρ₀ w₀ L T₁ T₂ G tm ρ arr w) {A : List Turn} {e : Turn} {B : List Turn} (hT : T₂ = A ++ e :: B)
    {tmA : Tr AV} {hA : H} (hA : Emitted P call ops h₀.next nt A tm G tmA hA) {o : Oper} (ho : ops[e.i]? = some o) (hl : ¬L e.i) (hp : ∀ p ∈ preds o, L p) {b : Bool} (hw : wantedA ops o tmA = some b) :
    Region.wanted o (yielded ops arr) = b :=
  wanted_at (fun g c hg d x hd hx => I.sees pl hT hA ho hl hp (fun j hj => .inr (.inl (by rw [pl.dst _ _ _ hj hd]; exact pl.guard _ _ _ _ ho hg))) hx) hw

open Classical in
/-- The operands alone. -/
noncomputable def evIn (o : Oper) (tm : Tr AV) (x : Operand) : Option AV := if x ∈ o.op.operands.toList then ev tm x else none

theorem aop_evIn {o : Oper} {tm : Tr AV} {h : H} : aop P (evIn o tm) o h = aop P (ev tm) o h := aop_congr fun x hx => by unfold evIn; rw [if_pos hx]

theorem Inv.evals (pl : Plan P call ops h₀.next nt T tmps₀ ⟨h₀.heap, h₀.next + ops.size⟩ tmpsF hF) {a : Act} (I : Inv P call ops nt T tmps₀ h₀ tmpsF hF ρ₀ w₀ L T₁ T₂ G tm ρ a.tmps w) {A : List Turn} {e : Turn} {B : List Turn} (hT : T₂ = A ++ e :: B)
    {tmA : Tr AV} {hA : H} (hA : Emitted P call ops h₀.next nt A tm G tmA hA) {o : Oper} (ho : ops[e.i]? = some o) (hl : ¬L e.i) (hp : ∀ p ∈ preds o, L p) : ∀ x v, evIn o tmA x = some v → VRel ρ v (a.eval x) := by
  intro x v hx
  unfold evIn at hx
  split at hx
  · rename_i hm
    cases x with
    | tmp t =>
      obtain ⟨y, h1, h2⟩ := I.sees pl hT hA ho hl hp (pl.oper _ _ ho t (by unfold tmpsOf; rw [List.mem_filterMap]; exact ⟨_, hm, rfl⟩)) hx
      show VRel ρ v (a.tmps.getD t undef)
      rw [Array.getD_eq_getD_getElem?, h1]
      exact h2
    | const c => cases hx; exact ofValue_rel c
    | global g => cases hx; exact .val _
    | func f => cases hx; exact .val _
  · cases hx

theorem put_putV (a : Act) (dst : Option Tmp) (v : Value) : a.put dst v = ⟨putV a.tmps dst v, a.defers⟩ := by cases dst <;> rfl
end
end Go.Ev

namespace Go.Ev
section
variable {P : Program} {call : M → Option (AV × H)} {ops : Array Oper} {nt : Nat}
variable {T : List Turn} {tmps₀ : Tr AV} {h₀ : H} {tmpsF : Tr AV} {hF : H} {ρ₀ : Ren} {w₀ : World} {L : Nat → Prop} {T₁ T₂ : List Turn} {G : H} {tm : Tr AV} {ρ : Ren} {w : World}

/-- The temporaries behind an operation. -/
theorem Inv.tmps (pl : Plan P call ops h₀.next nt T tmps₀ ⟨h₀.heap, h₀.next + ops.size⟩ tmpsF hF) {arr : Array Value} (I : Inv P call ops nt T tmps₀ h₀ tmpsF hF ρ₀ w₀ L T₁ T₂ G tm ρ arr w)
    {e : Turn} (he : e ∈ T) {o : Oper} (ho : ops[e.i]? = some o) (hd : ∀ d, o.dst = some d → d < nt) {ρ' : Ren} (hle : Ren.le ρ ρ') {v : Value} (hv : VRel ρ' e.v v) :
    (putV arr o.dst v).size = nt ∧ (∀ e' ∈ T, (L e'.i ∨ e'.i = e.i) → ∀ t, dstOf ops e'.i = some t → ∃ v', (putV arr o.dst v)[t]? = some v' ∧ VRel ρ' e'.v v') ∧
    (∀ t x, (∀ j, (L j ∨ j = e.i) → dstOf ops j ≠ some t) → tmps₀.get t = some x → ∃ v', (putV arr o.dst v)[t]? = some v' ∧ VRel ρ' x v') := by
  have hdo : dstOf ops e.i = o.dst := by unfold dstOf; rw [ho]; rfl
  have hother : ∀ t, o.dst ≠ some t → (putV arr o.dst v)[t]? = arr[t]? := fun t ht => by
    unfold putV
    split
    · rename_i d hdd
      rw [Array.getElem?_setIfInBounds, if_neg (fun hc => ht (by rw [hdd, hc]))]
    · rfl
  refine ⟨?_, fun e' he' hl t ht => ?_, fun t x hn hx => ?_⟩
  · unfold putV
    split
    · simp [I.size]
    · exact I.size
  · by_cases hei : e'.i = e.i
    · have := nodup_inj pl.nodup e' he' e he hei
      subst this
      rw [hdo] at ht
      refine ⟨v, ?_, hv⟩
      unfold putV
      rw [ht]
      simp only
      rw [Array.getElem?_setIfInBounds, if_pos rfl, if_pos (by rw [I.size]; exact hd t ht)]
    · obtain ⟨v', h1, h2⟩ := I.done e' he' (hl.resolve_right hei) t ht
      refine ⟨v', ?_, h2.mono hle⟩
      rw [hother t (fun hc => hei (pl.dst _ _ _ ht (by rw [hdo]; exact hc))), h1]
  · obtain ⟨v', h1, h2⟩ := I.rest t x (fun j hj => hn j (.inl hj)) hx
    refine ⟨v', ?_, h2.mono hle⟩
    rw [hother t (fun hc => hn e.i (.inr rfl) (by rw [hdo]; exact hc)), h1]

theorem closed_step (hcl : ∀ (j : Nat) (o : Oper), L j → ops[j]? = some o → ∀ p ∈ preds o, L p) {i : Nat} {o : Oper} (ho : ops[i]? = some o) (hp : ∀ p ∈ preds o, L p) :
    ∀ (j : Nat) (o : Oper), (L j ∨ j = i) → ops[j]? = some o → ∀ p ∈ preds o, (L p ∨ p = i) := by
  intro j o' hj hjo p hpm
  rcases hj with hj | rfl
  · exact .inl (hcl j o' hj hjo p hpm)
  · rw [ho] at hjo; cases hjo; exact .inl (hp p hpm)

/-- An operation that does not write has been taken. -/
theorem Inv.quiet (pl : Plan P call ops h₀.next nt T tmps₀ ⟨h₀.heap, h₀.next + ops.size⟩ tmpsF hF) {arr : Array Value} (I : Inv P call ops nt T tmps₀ h₀ tmpsF hF ρ₀ w₀ L T₁ T₂ G tm ρ arr w)
    {e : Turn} (he : e ∈ T₂) {o : Oper} (ho : ops[e.i]? = some o) (hp : ∀ p ∈ preds o, L p) (hd : ∀ d, o.dst = some d → d < nt) (hs : e.sort ≠ .write) {ρ' : Ren} {w' : World} (hle : Ren.le ρ ρ') {v : Value} (hv : VRel ρ' e.v v)
    (hg : Good ρ' (withMakes h₀.next G T₂) w') (ht : Trans ρ₀ h₀ w₀ ρ' (withMakes h₀.next G T₂) w') (hnew : ∀ b, ρ b = none → ρ' b ≠ none → b = h₀.next + e.i) :
    Inv P call ops nt T tmps₀ h₀ tmpsF hF ρ₀ w₀ (fun j => L j ∨ j = e.i) T₁ T₂ G tm ρ' (putV arr o.dst v) w' := by
  have heT : e ∈ T := by rw [I.split]; exact List.mem_append_right _ he
  have hlt : e.i < ops.size := (Array.getElem?_eq_some_iff.1 ho).1
  obtain ⟨h1, h2, h3⟩ := I.tmps pl heT ho hd hle hv
  have hnone : ∀ b, ρ b = none → b ≠ h₀.next + e.i → ρ' b = none := fun b hb hne => by
    cases hq : ρ' b with
    | none => rfl
    | some _ => exact absurd (hnew b hb (by rw [hq]; simp)) hne
  refine ⟨I.split, I.e1, I.e2, I.time, I.times, fun e' he' => .inl (I.l1 e' he'), fun e' he' hs' hc => ?_, hg, fun i hi hl => ?_, fun b hb => ?_, I.next, ht, h1, h2, h3, closed_step I.closed ho hp, I.st0⟩
  · rcases hc with hc | hc
    · exact I.l2 e' he' hs' hc
    · have := nodup_inj pl.nodup e' (by rw [I.split]; exact List.mem_append_right _ he') e heT hc
      rw [this] at hs'
      exact hs hs'
  · exact hnone _ (I.new i hi fun h => hl (.inl h)) (fun hc => hl (.inr (by omega)))
  · have := I.next
    exact hnone _ (I.free b hb) (by omega)

theorem writesOf_append (A B : List Turn) : writesOf (A ++ B) = writesOf A ++ writesOf B := by simp [writesOf]
theorem writesOf_quiet {A : List Turn} (h : ∀ e ∈ A, e.sort ≠ .write) : writesOf A = [] := by
  unfold writesOf
  rw [List.filterMap_eq_nil_iff]
  intro e he
  have := h e he
  cases hs : e.sort <;> simp_all

theorem times_split {clo : List Nat} {base : Nat} {all : List Turn} : ∀ (A : List Turn) (e : Turn) (B : List Turn) (beh : List Nat), (∀ e ∈ A, e.sort ≠ .write) → e.sort = .write → timesOk P ops.toList clo base all beh (A ++ e :: B) = true →
    timeOk P ops.toList clo base all (beh ++ [e.i]) e.after B = true ∧ timesOk P ops.toList clo base all (beh ++ [e.i]) B = true
  | [], e, B, beh, _, hs, h => by
    simp only [List.nil_append, timesOk, hs, Bool.and_eq_true] at h
    exact h
  | a :: A, e, B, beh, hA, hs, h => by
    have ha := hA a (List.mem_cons_self ..)
    simp only [List.cons_append, timesOk, Bool.and_eq_true] at h
    have h2 := h.2
    have : (match a.sort with | .write => beh ++ [a.i] | _ => beh) = beh := by
      cases hq : a.sort <;> simp_all
    try rw [this] at h2
    exact times_split A e B beh (fun e he => hA e (List.mem_cons_of_mem _ he)) hs h2

theorem time_none {clo : List Nat} {base : Nat} {all : List Turn} {beh : List Nat} {h : H} {rest : List Turn} (ht : timeOk P ops.toList clo base all beh h rest = true) : ∀ e ∈ rest, e.sort = .make → h.get (base + e.i) = none := by
  intro e he hs
  unfold timeOk at ht
  simp only [Bool.and_eq_true, List.all_eq_true] at ht
  have := ht.1 e he
  rw [hs] at this
  simpa using this

/-- What is ahead of the first writing operation is there. -/
theorem withMakes_sub {base : Nat} {h : H} {B : List Turn} (hn : (B.map (·.i)).Nodup) (h0 : ∀ e ∈ B, e.sort = .make → h.get (base + e.i) = none) : ∀ b ab, h.get b = some ab → (withMakes base h B).get b = some ab := by
  intro b ab hb
  rw [(withMakes_get B h b hn).2 (fun e he hs _ hc => ?_)]
  · exact hb
  · rw [hc, h0 e he hs] at hb; cases hb

/-- An operation that writes has been taken. -/
theorem Inv.wrote {o : Oper} (pl : Plan P call ops h₀.next nt T tmps₀ ⟨h₀.heap, h₀.next + ops.size⟩ tmpsF hF) {arr : Array Value} (I : Inv P call ops nt T tmps₀ h₀ tmpsF hF ρ₀ w₀ L T₁ T₂ G tm ρ arr w)
    {A : List Turn} {e : Turn} {B : List Turn} (hT : T₂ = A ++ e :: B) {tmA tm1 : Tr AV} {hA : H} (hEA : Emitted P call ops h₀.next nt A tm G tmA hA) (hem : emit P call ops h₀.next e.i o tmA hA = some e) (hput : putT tmA nt o.dst e.v = some tm1)
    (hEB : Emitted P call ops h₀.next nt B tm1 e.after tmpsF hF)
    (ho : ops[e.i]? = some o) (hp : ∀ p ∈ preds o, L p) (hd : ∀ d, o.dst = some d → d < nt) (hs : e.sort = .write) (hq : ∀ e' ∈ A, e'.sort ≠ .write) (hAL : ∀ e' ∈ A, L e'.i) {ρ' : Ren} {w' : World} {v : Value} (hv : VRel ρ' e.v v)
    (hg : Good ρ' e.after w') (ht : Trans ρ hA w ρ' e.after w') :
    Inv P call ops nt T tmps₀ h₀ tmpsF hF ρ₀ w₀ (fun j => L j ∨ j = e.i) (T₁ ++ A ++ [e]) B e.after tm1 ρ' (putV arr o.dst v) w' := by
  have heT2 : e ∈ T₂ := by rw [hT]; simp
  have heT : e ∈ T := by rw [I.split]; exact List.mem_append_right _ heT2
  have hlt : e.i < ops.size := (Array.getElem?_eq_some_iff.1 ho).1
  have hTT : T = (T₁ ++ A) ++ e :: B := by rw [I.split, hT, List.append_assoc]
  have hap := pl.apart hTT
  obtain ⟨h1, h2, h3⟩ := I.tmps pl heT ho hd ht.le hv
  have hX : withMakes h₀.next G T₂ = withMakes h₀.next hA (e :: B) := by rw [hT, withMakes_append, ← hEA.quiet hq]
  have hXe : withMakes h₀.next hA (e :: B) = withMakes h₀.next hA B := by simp only [withMakes, hs]
  rw [hXe] at hX
  have hnB : (B.map (·.i)).Nodup := by
    have := pl.nodup
    rw [hTT, List.map_append, List.map_cons, List.nodup_append] at this
    exact (List.nodup_cons.1 this.2.1).2
  have hnA : (A.map (·.i)).Nodup := by
    have := pl.nodup
    rw [hTT, List.map_append, List.map_append, List.nodup_append, List.nodup_append] at this
    exact this.1.2.1
  have htm := times_split A e B _ hq hs (by rw [← hT]; exact I.times)
  have hbeh : writesOf (T₁ ++ A ++ [e]) = writesOf T₁ ++ [e.i] := by
    rw [writesOf_append, writesOf_append, writesOf_quiet hq]
    simp [writesOf, hs]
  have hAn : ∀ e' ∈ B, e'.sort = .make → hA.get (h₀.next + e'.i) = none := fun e' he' hs' => by
    rw [hEA.quiet hq, (withMakes_get A G _ hnA).2 (fun e'' he'' _ _ hc => hap.2.2 e'' (List.mem_append_right _ he'') e' he' (by omega))]
    exact time_none I.time e' (by rw [hT]; simp [he']) hs'
  have hBn := time_none htm.1
  have hAnext : hA.next = G.next := by rw [hEA.quiet hq, withMakes_next]
  have hGn := I.next
  have hX' : ∀ b ab, (withMakes h₀.next e.after B).get b = some ab → e.after.get b = some ab ∨ ((withMakes h₀.next G T₂).get b = some ab ∧ hA.get b = none ∧ b < hA.next) := by
    intro b ab hb
    by_cases hex : ∃ e' ∈ B, e'.sort = .make ∧ e'.want = true ∧ b = h₀.next + e'.i
    · obtain ⟨e', he', hs', hw', hbe⟩ := hex
      right
      refine ⟨?_, by rw [hbe]; exact hAn e' he' hs', ?_⟩
      · rw [hX, (withMakes_get B hA b hnB).1 e' he' hs' hw' hbe]
        rw [(withMakes_get B e.after b hnB).1 e' he' hs' hw' hbe] at hb
        exact hb
      · obtain ⟨_, _, hBB⟩ := List.append_of_mem he'
        have hlt' : e'.i < ops.size := by
          rw [hBB] at hEB
          obtain ⟨_, _, _, hc⟩ := hEB.split
          cases hc with
          | cons ho' _ _ _ => exact (Array.getElem?_eq_some_iff.1 ho').1
        omega
    · left
      rw [(withMakes_get B e.after b hnB).2 (fun e' he' hs' hw' hc => hex ⟨e', he', hs', hw', hc⟩)] at hb
      exact hb
  have hXn : (withMakes h₀.next G T₂).next = hA.next := by rw [withMakes_next, hAnext]
  have hBnext : (withMakes h₀.next e.after B).next = e.after.next := withMakes_next _ _
  obtain ⟨c1, c2⟩ := carry (X' := withMakes h₀.next e.after B) I.good I.tr hg ht (by rw [hX]; exact withMakes_sub hnB hAn) (by omega) (by rw [hXn, hBnext]; exact ht.next) (by omega) hX'
  have hnone : ∀ b, ρ b = none → b < hA.next ∨ e.after.next ≤ b → ρ' b = none := fun b hb hor => by
    cases hq : ρ' b with
    | none => rfl
    | some _ => have := ht.ids b hb (by rw [hq]; simp); omega
  have htn := ht.next
  refine ⟨by rw [hTT]; simp, ?_, hEB, by rw [hbeh]; exact htm.1, by rw [hbeh]; exact htm.2, fun e' he' => ?_, fun e' he' hs' hc => ?_, c1, fun i hi hl => ?_, fun b hb => ?_, by omega, c2, h1, h2, h3, closed_step I.closed ho hp, I.st0⟩
  · exact (I.e1.append hEA).append (.cons ho hem hput (.nil _ _))
  · simp only [List.mem_append, List.mem_singleton] at he'
    rcases he' with (he' | he') | he'
    · exact .inl (I.l1 e' he')
    · exact .inl (hAL e' he')
    · exact .inr (by rw [he'])
  · rcases hc with hc | hc
    · exact I.l2 e' (by rw [hT]; simp [he']) hs' hc
    · exact hap.2.1 e' he' hc
  · exact hnone _ (I.new i hi fun h => hl (.inl h)) (.inl (by omega))
  · exact hnone _ (I.free b (by omega)) (.inr hb)
end
end Go.Ev

namespace Go.Ev
section
variable {P : Program} {call : M → Option (AV × H)} {ops : Array Oper} {nt : Nat}
variable {T : List Turn} {tmps₀ : Tr AV} {h₀ : H} {tmpsF : Tr AV} {hF : H} {ρ₀ : Ren} {w₀ : World} {L : Nat → Prop} {T₁ T₂ : List Turn} {G : H} {tm : Tr AV} {ρ : Ren} {w : World}

/-- Any order, of a frame of whatever kind. -/
def roundF (ro : Option Nat) : Fence := { Fence.wide with round := ro }

theorem stepsIn_round {ro : Option Nat} {m m' : Machine} (h : Steps P m m') : StepsIn (Machine.fenced P (roundF ro)) P m m' := stepsIn_wide.2 h

/-- An operation that writes comes to what it is said to come to. -/
theorem whole_ok [OrcSound P] (hcs : CallSound P call) {a : Act} {o : Oper} {e : Operand → Option AV} {ρ : Ren} {hA h' : H} {w : World} {v : AV} {n : Nat} {ro : Option Nat} {K : Act → World → Prop} {Q : Exit → Act → World → Prop} {tmA : Tr AV}
    (he : e = evIn o tmA) (hev : ∀ x v, e x = some v → VRel ρ v (a.eval x)) (hst : St ρ hA w) (hw : wholeOp P call tmA o hA = some (v, h'))
    (hK : ∀ ρ' v' w', VRel ρ' v v' → Good ρ' h' w' → Trans ρ hA w ρ' h' w' → K (a.put o.dst v') w') : o.wpIn (roundF ro) n P a w K Q := by
  refine ⟨fun _ _ => trivial, ?_⟩
  unfold wholeOp at hw
  split at hw
  · rename_i v1 h1 ha
    cases hw
    rw [← aop_evIn, ← he] at ha
    rw [Oper.semAt_eq _ _ _ (defer_only ha (by simp))]
    rcases aop_ok hst.good hev ha hst.fresh with ⟨_, _, _, _, hx, _⟩ | ⟨ρ₁, nx, w₁, hrun, hn, hg, htn⟩
    · cases hx
    · rw [hrun]
      cases nx <;> simp only [NRel] at hn
      exact hK _ _ _ hn hg htn
  · rename_i h1 ha
    cases hw
    rw [← aop_evIn, ← he] at ha
    rw [Oper.semAt_eq _ _ _ (defer_only ha (by simp))]
    rcases aop_ok hst.good hev ha hst.fresh with ⟨_, _, _, _, hx, _⟩ | ⟨ρ₁, nx, w₁, hrun, hn, hg, htn⟩
    · cases hx
    · rw [hrun]
      cases nx <;> simp only [NRel] at hn
      exact hK _ _ _ (.val _) hg htn
  · rename_i f args h1 ha
    rw [← aop_evIn, ← he] at ha
    rw [Oper.semAt_eq _ _ _ (defer_only ha (by simp))]
    rcases aop_ok hst.good hev ha hst.fresh with ⟨_, _, _, _, hx, _⟩ | ⟨ρ₁, nx, w₁, hrun, hn, hg, htn⟩
    · cases hx
    · rw [hrun]
      cases nx <;> simp only [NRel] at hn
      rename_i f' args'
      obtain ⟨rfl, hargs⟩ := hn
      split at hw
      · rename_i v2 hv2
        cases hw
        refine ⟨fun h => by simp [roundF, Fence.wide] at h, trivial, fun cs _ => ?_⟩
        rw [Option.bind_eq_some_iff] at hv2
        obtain ⟨vs, h1, h2⟩ := hv2
        have hva : args'.toList = vs := toValues_rel h1 hargs
        have hva' : args' = vs.toArray := by rw [← hva]
        subst hva'
        obtain ⟨e, w', fr', ⟨rfl, rfl⟩, h3, h4, h5⟩ := OrcSound.ok (P := P) _ vs v2 h2 w₁ (hst.of hg htn).okw cs
        exact ⟨.returned v2, _, fr', hK _ _ _ (.val v2) hg htn, stepsIn_round h3, h4, h5⟩
      simp only [Option.bind_eq_some_iff] at hw
      obtain ⟨g, hg0, hcall⟩ := hw
      obtain ⟨hfr, hgf, hgr⟩ := enter_rel hg0 hargs
      refine ⟨fun h => by simp [roundF, Fence.wide] at h, trivial, fun cs _ => ?_⟩
      obtain ⟨ρ', x, w', h2, h3, h4, h5⟩ := hcs ⟨g, [], h1⟩ _ hcall ρ₁ _ [] w₁ hfr .nil (hst.of hg htn) cs
      unfold Out at h5
      simp only [bot, hgr, List.nil_append] at h5
      obtain ⟨fr', h6, h7, h8⟩ := h5
      exact ⟨.returned x, w', fr', hK _ _ _ h2 h3.good (htn.trans h4), stepsIn_round h6, by rw [h8, hgf], h7⟩
  · rename_i l f tmps nt as body h1 ha
    rw [← aop_evIn, ← he] at ha
    rw [Oper.semAt_eq _ _ _ (defer_only ha (by simp))]
    rcases aop_ok hst.good hev ha hst.fresh with ⟨_, _, _, _, hx, _⟩ | ⟨ρ₁, nx, w₁, hrun, hn, hg, htn⟩
    · cases hx
    · rw [hrun]
      cases nx <;> simp only [NRel] at hn
      obtain ⟨⟨el, hel, rfl⟩, rfl, htr, rfl, rfl⟩ := hn
      refine ⟨fun h => by simp [roundF, Fence.wide] at h, trivial, fun c cs _ => ?_⟩

      obtain ⟨ρ', x, w', h2, h3, h4, h5⟩ := hcs _ _ hw ρ₁ (Frame.round el.blk _ _ _ _ .normal) [] w₁ ⟨rfl, htr, .cons rfl (.cons trivial (.cons rfl .nil)), .nil, trivial, rfl, ⟨el, hel, rfl⟩⟩ .nil (hst.of hg htn) (c :: cs)
      unfold Out at h5
      simp only [bot, List.nil_append] at h5
      exact ⟨.returned x, w', hK _ _ _ h2 h3.good (htn.trans h4), stepsIn_round (h5 c cs rfl)⟩
  · cases hw

theorem put_idem {base i : Nat} {X : H} {ab : AB} (hx : X.get (base + i) = some ab) : ∀ b, ((⟨X.heap, base + i⟩ : H).new ab).get b = X.get b := by
  intro b
  rw [H.get_new]
  by_cases h : b = base + i
  · rw [if_pos h, h, hx]
  · rw [if_neg h]; rfl

/-- An operation is taken. -/
theorem Inv.step [OrcSound P] (hcs : CallSound P call) (pl : Plan P call ops h₀.next nt T tmps₀ ⟨h₀.heap, h₀.next + ops.size⟩ tmpsF hF) {a : Act} (I : Inv P call ops nt T tmps₀ h₀ tmpsF hF ρ₀ w₀ L T₁ T₂ G tm ρ a.tmps w)
    {i : Nat} {o : Oper} (ho : ops[i]? = some o) (hl : ¬L i) (hp : ∀ p ∈ preds o, L p) {n : Nat} {ro : Option Nat} {K : Act → World → Prop} {Q : Exit → Act → World → Prop}
    (hK : ∀ T₁' T₂' G' tm' ρ' arr' w', Inv P call ops nt T tmps₀ h₀ tmpsF hF ρ₀ w₀ (fun j => L j ∨ j = i) T₁' T₂' G' tm' ρ' arr' w' → K ⟨arr', a.defers⟩ w') : wpOpIn (roundF ro) n P ops Q i K a w := by
  obtain ⟨e, heT, rfl⟩ := pl.all i (Array.getElem?_eq_some_iff.1 ho).1
  have heT2 : e ∈ T₂ := by
    rw [I.split] at heT
    rcases List.mem_append.1 heT with h | h
    · exact absurd (I.l1 e h) hl
    · exact h
  obtain ⟨A, B, hT⟩ := List.append_of_mem heT2
  have hE := I.e2
  rw [hT] at hE
  obtain ⟨tmA, hA, hEA, hE⟩ := hE.split
  cases hE with
  | cons ho' hem hput hEB =>
  rw [ho] at ho'
  cases ho'
  rename_i tm1
  obtain ⟨_, htmA, hbA, hsort, hwA⟩ := emit_i hem
  have hd : ∀ d, o.dst = some d → d < nt := fun d hdd => by rw [hdd] at hput; exact putT_lt hput
  have hwant := I.wants pl hT hEA ho hl hp hwA
  have hev := I.evals pl hT hEA ho hl hp
  have hTT : T = (T₁ ++ A) ++ e :: B := by rw [I.split, hT, List.append_assoc]
  have hnT2 : (T₂.map (·.i)).Nodup := by
    have := pl.nodup
    rw [I.split, List.map_append, List.nodup_append] at this
    exact this.2.1
  have hlt : e.i < ops.size := (Array.getElem?_eq_some_iff.1 ho).1
  -- a writing one
  have hwr : e.sort = .write → (∀ e' ∈ A, e'.sort ≠ .write) ∧ (∀ e' ∈ A, L e'.i) ∧ St ρ hA w := fun hs => by
    have hAL : ∀ e' ∈ A, L e'.i := fun e' he' => by
      have hb := (pl.before hTT ho).2 (by rw [← hsort]; exact hs) e' (List.mem_append_right _ he')
      exact closure_ok L ops.toList (fun j o' hj hjo => I.closed j o' hj (by rw [← Array.getElem?_toList]; exact hjo)) ops.toList [] [] rfl rfl (by intro j o' hj; simp at hj) e.i o (by rw [Array.getElem?_toList]; exact ho) hp _ hb
    have hq : ∀ e' ∈ A, e'.sort ≠ .write := fun e' he' hs' => I.l2 e' (by rw [hT]; simp [he']) hs' (hAL e' he')
    suffices hS : ∀ b ab, hA.get b = some ab → (withMakes h₀.next G T₂).get b = some ab by
      refine ⟨hq, hAL, I.good.congr hS, fun b hb => I.free b (by rw [hEA.quiet hq, withMakes_next] at hb; exact hb), I.okw, fun k hk => I.far k ?_⟩
      obtain ⟨b, e', h1, h2, h3⟩ := hk
      obtain ⟨ab, hab⟩ := Option.isSome_iff_exists.1 h1
      exact ⟨b, e', by rw [hS b ab hab]; rfl, h2, h3⟩
    have hnB : (B.map (·.i)).Nodup := by
      rw [hT, List.map_append, List.map_cons, List.nodup_append] at hnT2
      exact (List.nodup_cons.1 hnT2.2.1).2
    have hnA : (A.map (·.i)).Nodup := by
      rw [hT, List.map_append, List.nodup_append] at hnT2
      exact hnT2.1
    have hX : withMakes h₀.next G T₂ = withMakes h₀.next hA B := by rw [hT, withMakes_append, ← hEA.quiet hq]; simp only [withMakes, hs]
    rw [hX]
    refine withMakes_sub hnB fun e' he' hs' => ?_
    rw [hEA.quiet hq, (withMakes_get A G _ hnA).2 (fun e'' he'' _ _ hc => (pl.apart hTT).2.2 e'' (List.mem_append_right _ he'') e' he' (by omega))]
    exact time_none I.time e' (by rw [hT]; simp [he']) hs'
  unfold wpOpIn
  simp only [ho, hwant]
  rcases emit_cases hem with ⟨h1, h2, h3⟩ | ⟨h1, h2, h3⟩ | ⟨h1, h2, ab, h3, h4⟩ | ⟨h1, h2, h3⟩
  · rw [h1, if_neg (by simp)]
    refine ⟨fun _ _ => trivial, ?_⟩
    rw [put_putV]
    by_cases hs : e.sort = .write
    · obtain ⟨hq, hAL, hst⟩ := hwr hs
      exact hK _ _ _ _ _ _ _ (I.wrote (ρ' := ρ) pl hT hEA hem hput hEB ho hp hd hs hq hAL (by rw [h2]; exact .val _) (by rw [h3]; exact hst.good) (by rw [h3]; exact .refl _ _ _))
    · exact hK _ _ _ _ _ _ _ (I.quiet pl heT2 ho hp hd hs (Ren.le_refl _) (by rw [h2]; exact .val _) I.good I.tr (fun b hb hb' => absurd hb hb'))
  · -- a look
    rw [h1, if_pos rfl]
    have htime := I.time
    unfold timeOk at htime
    simp only [Bool.and_eq_true, List.all_eq_true] at htime
    have hsame := htime.2 e heT
    unfold lookSame at hsame
    rw [h1, h2] at hsame
    have hclo : ∀ j o', L j → ops[j]? = some o' → ∀ k, ((closure ops.toList []).getD j 0).testBit k = true → L k := fun j o' hj hjo k hb =>
      closure_ok L ops.toList (fun j o' hj hjo => I.closed j o' hj (by rw [← Array.getElem?_toList]; exact hjo)) ops.toList [] [] rfl rfl (by intro j o' hj; simp at hj) j o' (by rw [Array.getElem?_toList]; exact hjo) (I.closed j o' hj hjo) k hb
    have hcloE : ∀ k, ((closure ops.toList []).getD e.i 0).testBit k = true → L k := fun k hb =>
      closure_ok L ops.toList (fun j o' hj hjo => I.closed j o' hj (by rw [← Array.getElem?_toList]; exact hjo)) ops.toList [] [] rfl rfl (by intro j o' hj; simp at hj) e.i o (by rw [Array.getElem?_toList]; exact ho) hp k hb
    have hadm : ((writesOf T₁).all (fun k => !((closure ops.toList []).getD k 0).testBit e.i) && (writesOf T₂).all (fun k => !((closure ops.toList []).getD e.i 0).testBit k)) = true := by
      simp only [Bool.and_eq_true, List.all_eq_true, Bool.not_eq_true']
      constructor
      · intro k hk
        cases hb : ((closure ops.toList []).getD k 0).testBit e.i with
        | false => rfl
        | true =>
          unfold writesOf at hk
          obtain ⟨e', he', hk'⟩ := List.mem_filterMap.1 hk
          have hki : k = e'.i := by cases hq : e'.sort <;> rw [hq] at hk' <;> simp at hk'; exact hk'.symm
          subst hki
          obtain ⟨A1, A2, hAA⟩ := List.append_of_mem he'
          have hE1 := I.e1
          rw [hAA] at hE1
          obtain ⟨_, _, _, hc⟩ := hE1.split
          cases hc with
          | cons ho1 _ _ _ => exact absurd (hclo _ _ (I.l1 e' he') ho1 _ hb) hl
      · intro k hk
        cases hb : ((closure ops.toList []).getD e.i 0).testBit k with
        | false => rfl
        | true =>
          unfold writesOf at hk
          obtain ⟨e', he', hk'⟩ := List.mem_filterMap.1 hk
          cases hq : e'.sort <;> rw [hq] at hk' <;> simp at hk'
          subst hk'
          exact absurd (hcloE _ hb) (I.l2 e' he' hq)
    simp only at hsame
    rw [if_pos hadm, Array.getElem?_toList, ho] at hsame
    simp only [htmA] at hsame
    split at hsame
    · rename_i v' h' ha
      have := eqAV_eq _ _ hsame
      subst this
      obtain ⟨hh, _⟩ := look_same ha (by rw [← hsort]; exact h2)
      subst hh
      rw [← aop_evIn] at ha
      refine ⟨fun _ _ => trivial, ?_⟩
      rw [Oper.semAt_eq _ _ _ (defer_only ha (by simp))]
      rcases aop_ok I.good hev ha (fun b c1 c2 => by omega) with ⟨_, _, _, _, hx, _⟩ | ⟨ρ₁, nx, w₁, hrun, hn, hg, htn⟩
      · cases hx
      · rw [hrun]
        cases nx <;> simp only [NRel] at hn
        show K (a.put o.dst _) _
        rw [put_putV]
        exact hK _ _ _ _ _ _ _ (I.quiet pl heT2 ho hp hd (by rw [h2]; simp) htn.le hn hg (I.tr.trans htn) (fun b hb hb' => by have := htn.ids b hb hb'; omega))
    · cases hsame
  · -- a new block
    rw [h1, if_pos rfl]
    have hgab : (withMakes h₀.next G T₂).get (h₀.next + e.i) = some ab := by
      rw [(withMakes_get T₂ G _ hnT2).1 e heT2 h2 h1 rfl, h3]
      have := Tr.get_put (h₀.next + e.i + 1) hA.heap (h₀.next + e.i) (by omega) (some ab) (h₀.next + e.i)
      rw [if_pos rfl] at this
      exact this
    have ha := h4 ⟨(withMakes h₀.next G T₂).heap, h₀.next + e.i⟩ rfl
    rw [← aop_evIn] at ha
    have hid := put_idem hgab
    refine ⟨fun _ _ => trivial, ?_⟩
    rw [Oper.semAt_eq _ _ _ (defer_only ha (by simp))]
    have hgood : Good ρ ⟨(withMakes h₀.next G T₂).heap, h₀.next + e.i⟩ w := I.good.congr fun _ _ h => h
    rcases aop_ok hgood hev ha (fun b c1 c2 => by
        have : b = h₀.next + e.i := by simp only [H.next_new] at c2; simp only at c1; omega
        rw [this]; exact I.new _ hlt hl) with ⟨_, _, _, _, hx, _⟩ | ⟨ρ₁, nx, w₁, hrun, hn, hg, htn⟩
    · cases hx
    · rw [hrun]
      cases nx <;> simp only [NRel] at hn
      show K (a.put o.dst _) _
      rw [put_putV]
      have hGn := I.next
      have hXn : (withMakes h₀.next G T₂).next = G.next := withMakes_next _ _
      obtain ⟨c1, c2⟩ := carry (X' := withMakes h₀.next G T₂) I.good I.tr hg htn (fun _ _ h => h) (by simp) (Nat.le_refl _) (by simp only [H.next_new]; omega) (fun b ab' hb => .inl (by rw [hid]; exact hb))
      exact hK _ _ _ _ _ _ _ (I.quiet pl heT2 ho hp hd (by rw [h2]; simp) htn.le hn c1 c2 (fun b hb hb' => by have := htn.ids b hb hb'; simp only [H.next_new] at this; omega))
  · rw [h1, if_pos rfl]
    obtain ⟨hq, hAL, hst⟩ := hwr h2
    exact whole_ok hcs rfl hev hst h3 fun ρ' v' w' c1 c2 c3 => by
      rw [put_putV]
      exact hK _ _ _ _ _ _ _ (I.wrote pl hT hEA hem hput hEB ho hp hd h2 hq hAL c1 c2 c3)
end
end Go.Ev

namespace Go.Ev
section
variable {P : Program} {call : M → Option (AV × H)} {ops : Array Oper} {nt : Nat}
variable {T : List Turn} {tmps₀ : Tr AV} {h₀ : H} {tmpsF : Tr AV} {hF : H} {ρ₀ : Ren} {w₀ : World} {L : Nat → Prop} {T₁ T₂ : List Turn} {G : H} {tm : Tr AV} {ρ : Ren} {w : World}

/-- All has been taken. -/
theorem Inv.finish (pl : Plan P call ops h₀.next nt T tmps₀ ⟨h₀.heap, h₀.next + ops.size⟩ tmpsF hF) {arr : Array Value} (I : Inv P call ops nt T tmps₀ h₀ tmpsF hF ρ₀ w₀ L T₁ T₂ G tm ρ arr w) (hall : ∀ e ∈ T, L e.i) :
    TRel ρ nt tmpsF arr ∧ St ρ hF w ∧ Trans ρ₀ h₀ w₀ ρ hF w := by
  have hq : hF = withMakes h₀.next G T₂ := I.e2.quiet fun e he hs => I.l2 e he hs (hall e (by rw [I.split]; exact List.mem_append_right _ he))
  refine ⟨⟨I.size, fun t x hx => ?_⟩, ⟨by rw [hq]; exact I.good, fun b hb => I.free b (by rw [hq, withMakes_next] at hb; exact hb), I.okw, by rw [hq]; exact I.far⟩, by rw [hq]; exact I.tr⟩
  by_cases hex : ∃ e ∈ T, dstOf ops e.i = some t
  · obtain ⟨e, he, hd⟩ := hex
    rw [pl.em.get_val pl.dst pl.nodup t e he hd] at hx
    cases hx
    exact I.done e he (hall e he) t hd
  · rw [pl.em.get_other t (fun e he hd => hex ⟨e, he, hd⟩)] at hx
    refine I.rest t x (fun j _ hd => ?_) hx
    obtain ⟨e, he, rfl⟩ := pl.all j (dstOf_lt hd).1
    exact hex ⟨e, he, hd⟩

theorem first_not {α : Type} {p : α → Prop} : ∀ {l : List α}, (∃ e ∈ l, ¬p e) → ∃ A e B, l = A ++ e :: B ∧ (∀ x ∈ A, p x) ∧ ¬p e
  | [], h => by obtain ⟨_, h, _⟩ := h; cases h
  | a :: l, h => by
    by_cases ha : p a
    · obtain ⟨e, he, hn⟩ := h
      have : ∃ e ∈ l, ¬p e := by
        rcases List.mem_cons.1 he with rfl | he
        · exact absurd ha hn
        · exact ⟨e, he, hn⟩
      obtain ⟨A, e', B, h1, h2, h3⟩ := first_not this
      refine ⟨a :: A, e', B, by rw [h1]; rfl, fun x hx => ?_, h3⟩
      rcases List.mem_cons.1 hx with rfl | hx
      · exact ha
      · exact h2 x hx
    · exact ⟨[], a, l, rfl, (fun x hx => by cases hx), ha⟩

def Lst (listed : Array Bool) (j : Nat) : Prop := listed.getD j false = true

theorem unlisted {listed : Array Bool} {j : Nat} (hs : listed.size = ops.size) (hj : j < ops.size) : listed.getD j true = false ↔ ¬Lst listed j := by
  unfold Lst
  rw [Array.getD_eq_getD_getElem?, Array.getD_eq_getD_getElem?, Array.getElem?_eq_getElem (by rw [hs]; exact hj)]
  simp

theorem mem_preds {o : Oper} {p : Nat} : p ∈ preds o ↔ ∃ e ∈ o.after, Region.binds .any e = true ∧ e.on = p := by
  unfold preds
  rw [List.mem_filterMap]
  constructor
  · rintro ⟨e, he, h⟩
    split at h
    · rename_i hb; cases h; exact ⟨e, by simpa using he, hb, rfl⟩
    · cases h
  · rintro ⟨e, he, hb, rfl⟩
    exact ⟨e, by simpa using he, by rw [if_pos hb]⟩

theorem ready_iff {listed : Array Bool} {j : Nat} (hs : listed.size = ops.size) : j ∈ Region.ready .any ops listed ↔ ∃ o, ops[j]? = some o ∧ ¬Lst listed j ∧ ∀ p ∈ preds o, Lst listed p := by
  rw [mem_ready]
  constructor
  · rintro ⟨h1, o, ho, h2⟩
    refine ⟨o, ho, (unlisted hs (Array.getElem?_eq_some_iff.1 ho).1).1 h1, fun p hp => ?_⟩
    obtain ⟨e, he, hb, rfl⟩ := mem_preds.1 hp
    exact h2 e he hb
  · rintro ⟨o, ho, h1, h2⟩
    exact ⟨(unlisted hs (Array.getElem?_eq_some_iff.1 ho).1).2 h1, o, ho, fun e he hb => h2 e.on (mem_preds.2 ⟨e, he, hb, rfl⟩)⟩

theorem Plan.none_ready {base : Nat} {g₀ : H} (pl : Plan P call ops base nt T tmps₀ g₀ tmpsF hF) {listed : Array Bool} (hs : listed.size = ops.size) (hr : Region.ready .any ops listed = []) : ∀ e ∈ T, Lst listed e.i := by
  intro e he
  by_cases h : Lst listed e.i
  · exact h
  exfalso
  obtain ⟨A, e', B, hT, hA, hn⟩ := first_not (p := fun e : Turn => Lst listed e.i) ⟨e, he, h⟩
  have hE := pl.em
  rw [hT] at hE
  obtain ⟨_, _, _, hc⟩ := hE.split
  cases hc with
  | cons ho _ _ _ =>
    have : e'.i ∈ Region.ready .any ops listed := (ready_iff hs).2 ⟨_, ho, hn, fun p hp => by
      obtain ⟨e'', h1, rfl⟩ := (pl.before hT ho).1 p hp
      exact hA e'' h1⟩
    rw [hr] at this
    cases this

theorem any_ok [OrcSound P] (hcs : CallSound P call) (pl : Plan P call ops h₀.next nt T tmps₀ ⟨h₀.heap, h₀.next + ops.size⟩ tmpsF hF) {n : Nat} {ro : Option Nat} {Q : Exit → Act → World → Prop} {D : List Deferred}
    (hQ : ∀ ρ arr w, TRel ρ nt tmpsF arr → St ρ hF w → Trans ρ₀ h₀ w₀ ρ hF w → Q .normal ⟨arr, D⟩ w) :
    ∀ (fuel : Nat) (listed : Array Bool) (U : List Nat) (T₁ T₂ : List Turn) (G : H) (tm : Tr AV) (ρ : Ren) (a : Act) (w : World), Inv P call ops nt T tmps₀ h₀ tmpsF hF ρ₀ w₀ (Lst listed) T₁ T₂ G tm ρ a.tmps w →
      listed.size = ops.size → (∀ j, j < ops.size → ¬Lst listed j → j ∈ U) → U.length ≤ fuel → a.defers = D → wpAnyIn (roundF ro) n P .any ops Q fuel listed a w
  | 0, listed, U, T₁, T₂, G, tm, ρ, a, w, I, hs, hU, hf, hD => by
    have hU0 : U = [] := by cases U with | nil => rfl | cons x l => simp at hf
    have hr : Region.ready .any ops listed = [] := by
      cases hq : Region.ready .any ops listed with
      | nil => rfl
      | cons j l =>
        obtain ⟨o, ho, h1, _⟩ := (ready_iff hs).1 (by rw [hq]; exact List.mem_cons_self .. : j ∈ Region.ready .any ops listed)
        have := hU j (Array.getElem?_eq_some_iff.1 ho).1 h1
        rw [hU0] at this
        cases this
    refine ⟨hr, ?_⟩
    obtain ⟨h1, h2, h3⟩ := I.finish pl (pl.none_ready hs hr)
    have := hQ _ _ _ h1 h2 h3
    rw [← hD] at this
    exact this
  | fuel + 1, listed, U, T₁, T₂, G, tm, ρ, a, w, I, hs, hU, hf, hD => by
    refine ⟨fun hr => ?_, fun i hi => ?_⟩
    · obtain ⟨h1, h2, h3⟩ := I.finish pl (pl.none_ready hs hr)
      have := hQ _ _ _ h1 h2 h3
      rw [← hD] at this
      exact this
    · obtain ⟨o, ho, hl, hp⟩ := (ready_iff hs).1 hi
      have hlt := (Array.getElem?_eq_some_iff.1 ho).1
      have hL : (fun j => Lst listed j ∨ j = i) = Lst (listed.setIfInBounds i true) := by
        funext j
        apply propext
        unfold Lst
        rw [Array.getD_eq_getD_getElem?, Array.getD_eq_getD_getElem?, Array.getElem?_setIfInBounds]
        by_cases hij : i = j
        · subst hij
          simp [hs, hlt]
        · rw [if_neg hij]
          constructor
          · rintro (h | h)
            · exact h
            · exact absurd h.symm hij
          · exact .inl
      refine Inv.step hcs pl I ho hl hp fun T₁' T₂' G' tm' ρ' arr' w' I' => ?_
      rw [hL] at I'
      refine any_ok hcs pl hQ fuel _ (U.erase i) T₁' T₂' G' tm' ρ' ⟨arr', a.defers⟩ w' I' (by simp [hs]) (fun j hj hn => ?_) ?_ hD
      · have hn' : ¬(Lst listed j ∨ j = i) := by
          intro hc
          rw [← hL] at hn
          exact hn hc
        exact (List.mem_erase_of_ne (fun h => hn' (.inr h))).2 (hU j hj fun h => hn' (.inl h))
      · have := List.length_erase_of_mem (hU i hlt hl)
        omega

theorem drawn_ok [OrcSound P] (hcs : CallSound P call) (hm : P.follows .mixedOrders = true) : DrawnSound P call := by
  intro ops nt tmps h q hq ρ fr cs w id k hmode htodo htr hst
  unfold drawnA at hq
  simp only at hq
  split at hq
  · rename_i hreg
    split at hq
    · rename_i T tmpsF hF hem
      split at hq
      · rename_i htimes
        cases hq
        simp only [Bool.and_eq_true] at htimes
        rw [Array.length_toList] at hem htimes
        have pl := plan_of hreg hem
        have hfree := hst.free
        -- names of what is made are free
        have hget : ∀ b e, ρ b = some e → (withMakes h.next ⟨h.heap, h.next + ops.size⟩ T).get b = h.get b := fun b e hb => by
          have hlt : b < h.next := by
            rcases Nat.lt_or_ge b h.next with hc | hc
            · exact hc
            · rw [hfree b hc] at hb; cases hb
          rw [(withMakes_get T _ b pl.nodup).2 (fun e' _ _ _ hc => by omega)]
          rfl
        have I : Inv P call ops nt T tmps h tmpsF hF ρ w (Lst (Array.replicate ops.size false)) [] T ⟨h.heap, h.next + ops.size⟩ tmps ρ fr.tmps { w with drawn := w.drawn + 1 } := by
          have hno : ∀ j, ¬Lst (Array.replicate ops.size false) j := fun j hj => by
            unfold Lst at hj
            rw [Array.getD_eq_getD_getElem?, Array.getElem?_replicate] at hj
            split at hj <;> simp at hj
          refine ⟨rfl, .nil _ _, pl.em, htimes.1, htimes.2, (fun e he => by cases he), fun e _ _ => hno _, ?_, fun i hi _ => hfree _ (by omega), fun b hb => hfree b (by simp only at hb; omega), Nat.le_refl _, ?_, htr.1, fun e _ hl => absurd hl (hno _), fun t x _ hx => htr.2 t x hx, fun j o hj => absurd hj (hno _), hst⟩
          · refine ⟨fun b ab e hb he => ?_, fun b b' e e' hb hb' he he' => ?_, hst.good.lt⟩
            · rw [hget b e he] at hb
              exact hst.good.sat b ab e hb he
            · rw [hget b e he] at hb
              rw [hget b' e' he'] at hb'
              exact hst.good.inj b b' e e' hb hb' he he'
          · refine ⟨Ren.le_refl _, fun _ h1 h2 => absurd h1 h2, by rw [withMakes_next]; exact Nat.le_add_right _ _, Nat.le_refl _, fun _ _ _ => rfl, ?_, rfl, rfl, rfl⟩
            rintro k' ⟨b, e, h1, h2, h3⟩
            rw [hget b e h2] at h1
            exact .inl ⟨b, e, h1, h2, h3⟩
        have hany := any_ok (n := 0) (ro := fr.roundOf) (D := fr.defers) (Q := fun e a' w' => e = .normal ∧ a'.defers = fr.defers ∧ ∃ ρ', TRel ρ' nt tmpsF a'.tmps ∧ St ρ' hF w' ∧ Trans ρ h w ρ' hF w') hcs pl
          (fun ρ' arr w' h1 h2 h3 => ⟨rfl, rfl, ρ', h1, h2, h3⟩) ops.size _ (List.range ops.size) _ _ _ _ _ ⟨fr.tmps, fr.defers⟩ _ I (by simp) (fun j hj _ => List.mem_range.2 hj) (by simp) rfl
        obtain ⟨e, a', w', ⟨rfl, hd, ρ', h1, h2, h3⟩, harr⟩ := wpIn_region_any (id := id) hm hany fr k cs rfl trivial (fun d hd => by simp [roundF, Fence.wide] at hd)
        refine ⟨ρ', a'.tmps, w', ?_, h1, h2, h3⟩
        have hs := StepsIn.steps harr
        rw [← htodo, atR_self hmode] at hs
        have : fr.atR a' k = { fr with tmps := a'.tmps, todo := k } := by
          cases fr
          simp only at hmode hd
          subst hmode
          simp only [Frame.atR, hd]
        rw [this] at hs
        exact hs
      · cases hq
    · cases hq
  · cases hq
end
end Go.Ev

namespace Go.Ev
section
variable {P : Program}

/-- THE EVALUATOR IS RIGHT: a call that it follows to the end ends so. -/
theorem arun_ok [OrcSound P] (hm : P.follows .mixedOrders = true) : ∀ (n : Nat), CallSound P (arun P n)
  | 0 => fun m q hq => by simp [arun] at hq
  | n + 1 => by
    intro m q hq ρ fr cs w hF hcs hst CS
    have ih := arun_ok hm n
    unfold arun at hq
    split at hq
    · rename_i m' hs
      obtain ⟨hb, ρ₁, fr₁, cs₁, w₁, h1, h2, h3, h4, h5⟩ := astep_ok (drawn_ok ih hm) hF hcs hst hs CS
      obtain ⟨ρ', x, w', c1, c2, c3, c4⟩ := ih m' q hq ρ₁ fr₁ cs₁ w₁ h2 h3 h4 CS
      rw [hb] at c4
      exact ⟨ρ', x, w', c1, c2, h5.trans c3, c4.before h1⟩
    · rename_i v h' hs
      cases hq
      exact astep_ok (drawn_ok ih hm) hF hcs hst hs CS
    · cases hq

/-- What is left of the world that a call was made in. -/
structure Kept (w w' : World) : Prop where
  heap : ∀ k, k < w.heap.size → w'.heap[k]? = w.heap[k]?
  size : w.heap.size ≤ w'.heap.size
  os : w'.os = w.os
  tape : w'.tape = w.tape
  output : w'.output = w.output

end
end Go.Ev

namespace Go.Ev
end Go.Ev
