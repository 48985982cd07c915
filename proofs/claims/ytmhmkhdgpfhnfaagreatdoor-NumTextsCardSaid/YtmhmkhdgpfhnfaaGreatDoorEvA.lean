/- An evaluator of closed calls, and that it is right: part A. -/
import Derived.Laws.BytesString
import Derived.Laws.Cells
import Derived.Laws.IdiomCopy
import Derived.Laws.StructEq
import Derived.Lib.FrozenHead
import Derived.OrdersIn
import Derived.RangeFuncLeaves
import GoSem.Step
set_option linter.unusedVariables false
set_option linter.unusedSimpArgs false
set_option linter.unnecessarySimpa false
namespace Go.Ev

/-! ## Trees of cells by number -/
inductive Tr (α : Type) where
  | nil
  | node (l : Tr α) (v : Option α) (r : Tr α)
  deriving Inhabited

namespace Tr
variable {α : Type}
def get : Tr α → Nat → Option α
  | nil, _ => none
  | node l v r, k => match k with
    | 0 => v
    | k' + 1 => match Nat.beq (k % 2) 1 with
      | true => l.get (k / 2)
      | false => r.get (k' / 2)
def put : Nat → Tr α → Nat → Option α → Tr α
  | 0, t, _, _ => t
  | n + 1, t, k, x =>
    match t with
    | nil => match k with
      | 0 => node nil x nil
      | k' + 1 => match Nat.beq (k % 2) 1 with
        | true => node (put n nil (k / 2) x) none nil
        | false => node nil none (put n nil (k' / 2) x)
    | node l v r => match k with
      | 0 => node l x r
      | k' + 1 => match Nat.beq (k % 2) 1 with
        | true => node (put n l (k / 2) x) v r
        | false => node l v (put n r (k' / 2) x)
end Tr

/-! ## Calls that are answered by a contract, in a world that holds some tables -/
/-- What a call answers at which arguments, if a contract says so. -/
def orc (f : FuncId) (vs : List Value) : Option Value := none
/-- The blocks below this one are not the run's own. -/
def limO : Nat := 0
/-- What lies there. -/
def tabO : List (Addr × Value) := []
def OKW (w : World) : Prop := limO ≤ w.heap.size ∧ ∀ p ∈ tabO, p.1.block < limO ∧ w.cell? p.1 = some p.2
theorem OKW.keep {w w' : World} (h : OKW w) (hs : w.heap.size ≤ w'.heap.size) (hk : ∀ k, k < limO → w'.heap[k]? = w.heap[k]?) : OKW w' :=
  ⟨Nat.le_trans h.1 hs, fun p hp => ⟨(h.2 p hp).1, by have := (h.2 p hp).2; unfold World.cell? at *; rw [hk _ (h.2 p hp).1]; exact this⟩⟩

/-! ## Values whose blocks are names -/
inductive AV where
  | val (v : Value)
  | ptr (b off : Nat)
  | slice (b off len cap : Nat)
  | sliceE (b off len sz : Nat)
  | void
  | map (b : Nat)
  | yld (b : Nat)
  | func (fn : Fn) (first captured : List AV)
  | iface (t : TypeId) (v : AV)
  | agg (l : List AV)
  | tuple (l : List AV)
  deriving Inhabited

def AV.ofValue : Value → AV
  | .agg cs => .agg (cs.toList.map .val)
  | .tuple vs => .tuple (vs.toList.map fun v => match v with | .agg cs => .agg (cs.toList.map .val) | v => .val v)
  | .iface t v => .iface t (match v with | .agg cs => .agg (cs.toList.map .val) | v => .val v)
  | v => .val v

def AV.cells : AV → List AV
  | .agg l => l
  | .val (.agg cs) => cs.toList.map .val
  | v => [v]

/-- What may stand in one cell of memory. -/
def AV.single : AV → Bool
  | .agg _ | .tuple _ => false
  | .val (.agg _) | .val (.tuple _) => false
  | _ => true

inductive AB where
  | cells (l : List AV) (elem : TypeId) (opn str : Bool)
  | map (es : List (AV × AV × Nat)) (clock : Nat)
  | strIter (s : ByteArray) (pos : Nat)
  | mapIter (m : Option Nat) (since : Nat) (seen : List Nat) (stepped : Nat)
  | loop (state : LoopState) (pending : Option Code) (fn : FuncId) (tmps : Tr AV) (nt : Nat) (params : Array Tmp) (assign body : Code) (defers : Nat)
  | deferred (some : Bool)
  deriving Inhabited

structure H where
  heap : Tr AB
  next : Nat

def H.get (h : H) (b : Nat) : Option AB := h.heap.get b
def H.set (h : H) (b : Nat) (o : AB) : H := { h with heap := h.heap.put (b + 1) b (some o) }
def H.kill (h : H) (b : Nat) : H := { h with heap := h.heap.put (b + 1) b none }
def H.new (h : H) (o : AB) : H := { heap := h.heap.put (h.next + 1) h.next (some o), next := h.next + 1 }

def evalPure (P : Program) {α : Type} : Sem α → Option α
  | .pure a => some a
  | .program k => evalPure P (k P)
  | .mark _ k => evalPure P k
  | _ => none

/-! ## Types -/
def und (P : Program) (t : TypeId) : Option TypeDesc := P.underlying t
def size (P : Program) (t : TypeId) : Option Nat := (P.info? t).map (·.size)
def isAggT (P : Program) (t : TypeId) : Option Bool :=
  match und P t with
  | some (.struct _) | some (.array _ _) => some true
  | some _ => some false
  | none => none
def zero (P : Program) (t : TypeId) : Option AV := ((P.info? t).bind (·.zero)).map AV.ofValue

/-! ## Memory -/
def takeN {α : Type} : Nat → List α → Option (List α)
  | 0, _ => some []
  | _ + 1, [] => none
  | n + 1, x :: l => (takeN n l).map (x :: ·)

def dropN {α : Type} : Nat → List α → List α
  | 0, l => l
  | _ + 1, [] => []
  | n + 1, _ :: l => dropN n l

/-- Writes a list over another one from a place on; it must lie within. -/
def over {α : Type} : List α → Nat → List α → Option (List α)
  | l, _, [] => some l
  | [], _, _ :: _ => none
  | _ :: l, 0, v :: vs => (over l 0 vs).map (v :: ·)
  | x :: l, n + 1, vs => (over l n vs).map (x :: ·)

def readCells (h : H) (b off n : Nat) : Option (List AV) :=
  match h.get b with
  | some (.cells l _ _ _) => takeN n (dropN off l)
  | _ => none

def writeCells (h : H) (b off : Nat) (vs : List AV) : Option H :=
  match h.get b with
  | some (.cells l e o s) => if vs.all AV.single then (over l off vs).map fun l => h.set b (.cells l e o s) else none
  | _ => none

def load (P : Program) (h : H) (t : TypeId) (a : AV) : Option AV :=
  match a with
  | .ptr b off =>
    match isAggT P t, size P t with
    | some true, some n => (readCells h b off n).map .agg
    | some false, _ => (readCells h b off 1).bind (·.head?)
    | _, _ => none
  | _ => none

def store (P : Program) (h : H) (t : TypeId) (a v : AV) : Option H :=
  match a, size P t with
  | .ptr b off, some n => if v.cells.length == n then writeCells h b off v.cells else none
  | _, _ => none

def newRow (h : H) (elem : TypeId) (cells : List AV) (opn str : Bool := false) : Option (Nat × H) :=
  if cells.all AV.single then some (h.next, h.new (.cells cells elem opn str)) else none

/-! ## Pieces -/
def fillA (place : Nat → Option (Nat × Nat)) : List AV → List (Nat × AV) → Option (List AV)
  | cells, [] => some cells
  | cells, (i, v) :: rest =>
    match place i with
    | some (off, n) => if v.cells.length == n && (n != 0 || Nat.ble off cells.length) then (over cells off v.cells).bind fun c => fillA place c rest else none
    | none => none

def partA (P : Program) (t : TypeId) (cs : List AV) (off : Nat) : Option AV :=
  match isAggT P t with
  | some true => (size P t).bind fun n => (takeN n (dropN off cs)).map .agg
  | some false => (dropN off cs).head?
  | none => none

def asNat : AV → Option Nat
  | .val (.int _ n) => if 0 ≤ n then some n.toNat else none
  | _ => none

def repeatN (l : List AV) : Nat → List AV
  | 0 => []
  | n + 1 => l ++ repeatN l n

/-! ## Equality -/
def sameFields (P : Program) (same : TypeId → AV → AV → Option Bool) : List Field → List AV → List AV → Option Bool
  | [], _, _ => some true
  | f :: fs, xs, ys =>
    if f.name = "_" then sameFields P same fs xs ys else
    match partA P f.type xs f.offset, partA P f.type ys f.offset with
    | some x, some y =>
      match same f.type x y with
      | some true => sameFields P same fs xs ys
      | r => r
    | _, _ => none

def sameElems (P : Program) (same : TypeId → AV → AV → Option Bool) (elem : TypeId) (n : Nat) : Nat → List AV → List AV → Option Bool
  | 0, _, _ => some true
  | k + 1, xs, ys =>
    match partA P elem xs 0, partA P elem ys 0 with
    | some x, some y =>
      match same elem x y with
      | some true => sameElems P same elem n k (dropN n xs) (dropN n ys)
      | r => r
    | _, _ => none

/-- A block of cells that no string has been made of, or been turned into. -/
def plainB (h : H) (b : Nat) : Bool :=
  match h.get b with
  | some (.cells _ _ _ s) => !s
  | _ => false

def sameAV (P : Program) (h : H) : Nat → TypeId → AV → AV → Option Bool
  | 0, _, _, _ => none
  | d + 1, t, x, y =>
    match und P t, x, y with
    | some (.bool), .val (.bool a), .val (.bool b) => some (a == b)
    | some (.int _), .val (.int k a), .val (.int k' b) => if k = k' then some (a == b) else none
    | some .string, .val (.string a), .val (.string b) => some (a == b)
    | some (.pointer _), .val (.pointer none), .val (.pointer none) => some true
    | some (.pointer _), .val (.pointer none), .ptr _ _ => some false
    | some (.pointer _), .ptr _ _, .val (.pointer none) => some false
    | some (.pointer e), .ptr b o, .ptr b' o' => match size P e with
      | some (_ + 1) => if b == b' then some (o == o') else if plainB h b && plainB h b' then some false else none
      | _ => none
    | some (.interface _), .val .nilIface, .val .nilIface => some true
    | some (.interface _), .val .nilIface, .iface _ _ => some false
    | some (.interface _), .iface _ _, .val .nilIface => some false
    | some (.interface _), .iface tx vx, .iface ty vy =>
      if tx ≠ ty then some false else
      match P.info? tx with
      | some info => if info.comparable then sameAV P h d tx vx vy else none
      | none => none
    | some (.struct fields), .agg xs, .agg ys => if P.stoodInHeld t then none else sameFields P (sameAV P h d) fields.toList xs ys
    | some (.array len elem), .agg xs, .agg ys => (size P elem).bind fun n => sameElems P (sameAV P h d) elem n len xs ys
    | some (.slice _), .val (.slice none _ _), .val (.slice none _ _) => some true
    | some (.slice _), .val (.slice none _ _), .slice .. => some false
    | some (.slice _), .val (.slice none _ _), .sliceE .. => some false
    | some (.slice _), .slice .., .val (.slice none _ _) => some false
    | some (.slice _), .sliceE .., .val (.slice none _ _) => some false
    | some (.slice _), .void, .val (.slice none _ _) => some false
    | some (.slice _), .val (.slice none _ _), .void => some false
    | some (.map _ _), .val (.map none), .val (.map none) => some true
    | some (.map _ _), .val (.map none), .map _ => some false
    | some (.map _ _), .map _, .val (.map none) => some false
    | some (.func _ _ _), .val .nilFunc, .val .nilFunc => some true
    | some (.func _ _ _), .val .nilFunc, .val (.func ..) => some false
    | some (.func _ _ _), .val .nilFunc, .func .. => some false
    | some (.func _ _ _), .val .nilFunc, .yld _ => some false
    | some (.func _ _ _), .val (.func ..), .val .nilFunc => some false
    | some (.func _ _ _), .func .., .val .nilFunc => some false
    | some (.func _ _ _), .yld _, .val .nilFunc => some false
    | _, _, _ => none

/-- Two nil values of an interface type with methods meet nowhere: what the model's guard looks for. -/
def guardOk (P : Program) (op : BinOp) (t : TypeId) (x y : Operand) (a b : AV) : Bool :=
  match op with
  | .eql | .neq =>
    match a, b with
    | .val .nilIface, .val .nilIface =>
      Region.isConst x || Region.isConst y ||
      (match und P t with | some (.interface ms) => ms.isEmpty | some _ => true | none => false)
    | .val (.agg _), _ | _, .val (.agg _) => false
    | .agg _, .agg _ => !P.eqGuardType P.depth t
    | _, _ => true
  | _ => true

def binA (P : Program) (h : H) (op : BinOp) (t : TypeId) (x y : Operand) (a b : AV) : Option AV :=
  match guardOk P op t x y a b with
  | false => none
  | true =>
    match a, b with
    | .val (.int k m), .val (.int k' n) => (evalPure P (binOp op t (.int k m) (.int k' n))).map .val
    | .val (.string m), .val (.string n) => (evalPure P (binOp op t (.string m) (.string n))).map .val
    | .val (.float _ _), _ => none
    | .val (.complex _ _ _), _ => none
    | a, b =>
      match op with
      | .eql => (sameAV P h 100 t a b).map fun r => .val (.bool r)
      | .neq => (sameAV P h 100 t a b).map fun r => .val (.bool (!r))
      | _ => none

/-! ## Operations -/
structure ADef where
  fn : Fn
  captured : List AV
  args : List AV

inductive ANext where
  | value (v : AV)
  | skip
  | enter (f : FuncId) (args : List AV)
  | round (loop : Nat) (f : FuncId) (tmps : Tr AV) (nt : Nat) (assign body : Code)
  | defer (d : ADef)
  | recover
  | panic (v : AV)

abbrev Ans := Option (ANext × H)

def val (h : H) (v : Option AV) : Ans := v.map fun v => (.value v, h)

def toValue : AV → Option Value
  | .val v => some v
  | _ => none

def toValues : List AV → Option (List Value)
  | [] => some []
  | a :: l => (toValue a).bind fun v => (toValues l).map (v :: ·)

/-- A function's body lies in the program; or the model answers for it. -/
def enterF (P : Program) (h : H) (f : FuncId) (args : List AV) : Ans :=
  match P.funcs[f]? with
  | some fn =>
    if fn.body.isSome then (if fn.name != "runtime.NumGoroutine" then some (.enter f args, h) else none)
    else match toValues args with
      | some vs => match evalPure P (callFunc f vs.toArray) with
        | some (.value v) => some (.value (AV.ofValue v), h)
        | some (.enter g as) => some (.enter g (as.toList.map .val), h)
        | _ => none
      | none => none
  | none => none

/-- A value's method by its name: no embedding. -/
def methodA (P : Program) (t : TypeId) (v : AV) (name : String) : Option (FuncId × AV) :=
  match P.info? t with
  | some info =>
    match info.methods.find? (·.name == name) with
    | some m =>
      match m.path.toList, m.func with
      | [], some (f, pr) =>
        match und P t, pr with
        | some (.pointer _), true => some (f, v)
        | some (.pointer _), false => none
        | some _, false => some (f, v)
        | _, _ => none
      | _, _ => none
    | none => none
  | none => none

def callMethodA (P : Program) (h : H) (recv : AV) (name : String) (args : List AV) : Ans :=
  match recv with
  | .iface t v => (methodA P t v name).bind fun q => enterF P h q.1 (q.2 :: args)
  | _ => none

def invokeA (P : Program) (h : H) (fn : Fn) (captured args : List AV) : Ans :=
  match fn with
  | .func f => enterF P h f (args ++ captured)
  | .method name => match args with
    | recv :: rest => callMethodA P h recv name rest
    | [] => none
  | .methodOf t name => match args with
    | recv :: rest =>
      match und P t with
      | some (.interface _) => callMethodA P h recv name rest
      | some _ => callMethodA P h (.iface t recv) name rest
      | none => none
    | [] => none
  | _ => none

def yieldA (h : H) (l : Nat) (args : List AV) : Ans :=
  match h.get l with
  | some (.loop _ _ fn tmps nt params assign body _) =>
    if args.length == params.size && params.all (· < nt) then
      some (.round l fn ((params.toList.zip args).foldl (fun t (p, v) => t.put (p + 1) p (some v)) tmps) nt assign body, h)
    else none
  | _ => none

def callA (P : Program) (h : H) (f : AV) (args : List AV) : Ans :=
  match f with
  | .val (.func fn first captured) => if fn matches .yield _ then none else invokeA P h fn (captured.toList.map AV.ofValue) (first.toList.map AV.ofValue ++ args)
  | .func fn first captured => if fn matches .yield _ then none else invokeA P h fn captured (first ++ args)
  | .yld l => yieldA h l args
  | _ => none

def lenA (x : AV) : Option Nat :=
  match x with
  | .val (.slice none n _) => some n
  | .val (.string s) => some s.size
  | .slice _ _ n _ | .sliceE _ _ n _ => some n
  | .void => some 0
  | _ => none

def cellsOf (h : H) (sz n : Nat) (x : AV) : Option (List AV) :=
  match x with
  | .val (.slice none _ _) => some []
  | .val (.string s) => some ((s.extract 0 n).data.toList.map fun b => .val (.int .u8 b.toNat))
  | .slice b off _ _ | .sliceE b off _ _ => readCells h b off (n * sz)
  | .void => if n * sz = 0 then some [] else none
  | _ => none

/-- A slice that has grown: its capacity is whatever. -/
def growA (P : Program) (h : H) (elem : TypeId) (sz need : Nat) (cells : List AV) (str : Bool) : Ans :=
  match P.info? elem, zero P elem with
  | some info, some z =>
    if 0 < info.bytes ∧ info.bytes * need ≤ 2 ^ 40 ∧ z.cells.length = sz ∧ cells.length = need * sz then
      (newRow h elem cells true str).map fun r => (.value (.sliceE r.1 0 need sz), r.2)
    else none
  | _, _ => none

def appendTo (P : Program) (h : H) (elem : TypeId) (sz n : Nat) (new : List AV) (s : AV) : Ans :=
  match s with
  | .val (.slice none 0 0) => if n = 0 then some (.value s, h) else growA P h elem sz n new false
  | .slice b off len cap =>
    if len + n ≤ cap then (writeCells h b (off + len * sz) new).map fun h => (.value (.slice b off (len + n) cap), h)
    else (readCells h b off (len * sz)).bind fun old => growA P h elem sz (len + n) (old ++ new) false
  | .sliceE b off len sz' =>
    match h.get b with
    | some (.cells l el _ st) =>
      if sz' = sz ∧ el = elem then
        if off + (len + n) * sz ≤ l.length then (writeCells h b (off + len * sz) new).map fun h => (.value (.sliceE b off (len + n) sz), h)
        else (readCells h b off (len * sz)).bind fun old => growA P (h.kill b) elem sz (len + n) (old ++ new) st
      else none
    | _ => none
  | _ => none

/-- So many zeros behind nil. -/
def growNew (P : Program) (h : H) (elem : TypeId) (s x : AV) : Ans :=
  match s, x with
  | .val (.slice none 0 0), .val (.int _ m) =>
    match size P elem, zero P elem with
    | some (sz + 1), some z => if 0 < m ∧ m ≤ 2 ^ 40 then growA P h elem (sz + 1) m.toNat (repeatN z.cells m.toNat) false else none
    | _, _ => none
  | _, _ => none

def appendA (P : Program) (h : H) (argTypes : Array TypeId) (s x : AV) : Ans :=
  match (argTypes[0]?).bind (und P), (argTypes[1]?).bind (und P) with
  | some (.slice elem), some d =>
    match d with
    | .int _ => growNew P h elem s x
    | _ => match size P elem with
      | some (sz + 1) => (lenA x).bind fun n => (cellsOf h (sz + 1) n x).bind fun new => appendTo P h elem (sz + 1) n new s
      | _ => none
  | _, _ => none

/-! maps -/
def findA (P : Program) (h : H) (key : TypeId) (k : AV) : List (AV × AV × Nat) → Nat → Option (Option (Nat × AV × AV))
  | [], _ => some none
  | (k', v, _) :: es, i =>
    match sameAV P h 100 key k k' with
    | some true => some (some (i, k', v))
    | some false => findA P h key k es (i + 1)
    | none => none

def allFields (P : Program) (ok : TypeId → AV → Bool) : List Field → List AV → Bool
  | [], _ => true
  | f :: fs, xs =>
    if f.name = "_" then allFields P ok fs xs else
    match partA P f.type xs f.offset with
    | some x => ok f.type x && allFields P ok fs xs
    | none => false

def allElems (P : Program) (ok : TypeId → AV → Bool) (elem : TypeId) (n : Nat) : Nat → List AV → Bool
  | 0, _ => true
  | k + 1, xs =>
    match partA P elem xs 0 with
    | some x => ok elem x && allElems P ok elem n k (dropN n xs)
    | none => false

/-- A key that may be asked. -/
def checkA (P : Program) : Nat → TypeId → AV → Bool
  | 0, _, _ => false
  | d + 1, t, x =>
    match und P t with
    | some (.interface _) => match x with
      | .val .nilIface => true
      | .iface u v => match P.info? u with
        | some info => info.comparable && checkA P d u v
        | none => false
      | _ => false
    | some (.array len elem) => match x, size P elem with
      | .agg xs, some n => allElems P (checkA P d) elem n len xs
      | _, _ => false
    | some (.struct fields) => match x with
      | .agg xs => allFields P (checkA P d) fields.toList xs
      | _ => false
    | some _ => true
    | none => false

def modifyN {α : Type} (f : α → α) : Nat → List α → List α
  | _, [] => []
  | 0, x :: l => f x :: l
  | n + 1, x :: l => x :: modifyN f n l

def eraseN {α : Type} : Nat → List α → List α
  | _, [] => []
  | 0, _ :: l => l
  | n + 1, x :: l => x :: eraseN n l

def entriesOf (h : H) (m : AV) : Option (List (AV × AV × Nat)) :=
  match m with
  | .val (.map none) => some []
  | .map b => match h.get b with
    | some (.map es _) => some es
    | _ => none
  | _ => none

def foundA (P : Program) (elem : TypeId) : Option (Nat × AV × AV) → Option (AV × Bool)
  | some r => some (r.2.2, true)
  | none => (zero P elem).map fun z => (z, false)

def lookupA (P : Program) (h : H) (t : TypeId) (m k : AV) (commaOk : Bool) : Option AV :=
  match und P t with
  | some (.map key elem) =>
    match checkA P 100 key k with
    | true => (entriesOf h m).bind fun es => (findA P h key k es 0).bind fun r => (foundA P elem r).map fun p => if commaOk then .tuple [p.1, .val (.bool p.2)] else p.1
    | false => none
  | _ => none

def bitsL (same : AV → AV → Bool) : List AV → List AV → Bool
  | [], [] => true
  | x :: l, y :: m => same x y && bitsL same l m
  | _, _ => false

/-- Two keys are the same to the bit. -/
def sameBitsA : Nat → AV → AV → Bool
  | 0, x, y => match x, y with
    | .val (.int j a), .val (.int k b) => j == k && a == b
    | .val (.string a), .val (.string b) => a == b
    | .val (.bool a), .val (.bool b) => a == b
    | .ptr b o, .ptr c u => b == c && o == u
    | _, _ => false
  | n + 1, x, y => match x, y with
    | .agg l, .agg m => bitsL (sameBitsA n) l m
    | .iface t v, .iface u w => t == u && sameBitsA n v w
    | x, y => sameBitsA n x y

/-- A map's key type, and its entries, where a key may be asked. -/
def atMap (P : Program) (h : H) (t : TypeId) (m k : AV) : Option (TypeId × TypeId × Nat × List (AV × AV × Nat) × Nat) :=
  match und P t with
  | some (.map key elem) =>
    match checkA P 100 key k with
    | true => match m with
      | .map b => match h.get b with
        | some (.map es clock) => some (key, elem, b, es, clock)
        | _ => none
      | _ => none
    | false => none
  | _ => none

def updateA (P : Program) (h : H) (t : TypeId) (m k v : AV) : Option H :=
  (atMap P h t m k).bind fun q => (findA P h q.1 k q.2.2.2.1 0).bind fun r => match r with
    | some f => if sameBitsA 10 f.2.1 k then some (h.set q.2.2.1 (.map (modifyN (fun e => (k, v, e.2.2)) f.1 q.2.2.2.1) q.2.2.2.2)) else none
    | none => some (h.set q.2.2.1 (.map (q.2.2.2.1 ++ [(k, v, q.2.2.2.2)]) (q.2.2.2.2 + 1)))

def entryA (P : Program) (h : H) (t : TypeId) (m k : AV) : Ans :=
  (atMap P h t m k).bind fun q => (findA P h q.1 k q.2.2.2.1 0).bind fun r => match r with
    | some f => if sameBitsA 10 f.2.1 k then
        (q.2.2.2.1[f.1]?).map fun e => (.value (.tuple [f.2.2, .val (.int .i64 e.2.2)]), h.set q.2.2.1 (.map (modifyN (fun e => (k, e.2.1, e.2.2)) f.1 q.2.2.2.1) q.2.2.2.2))
      else none
    | none => (zero P q.2.1).map fun z => (.value (.tuple [z, .val (.int .i64 q.2.2.2.2)]), h.set q.2.2.1 (.map (q.2.2.2.1 ++ [(k, z, q.2.2.2.2)]) (q.2.2.2.2 + 1)))

def findBorn (n : Int) : List (AV × AV × Nat) → Nat → Option Nat
  | [], _ => none
  | e :: es, i => if ((e.2.2 : Int) == n) = true then some i else findBorn n es (i + 1)

def entryStoreA (h : H) (m stamp v : AV) : Option H :=
  match m, stamp with
  | .map b, .val (.int _ n) =>
    match h.get b with
    | some (.map es clock) => (findBorn n es 0).map fun i => h.set b (.map (modifyN (fun e => (e.1, v, e.2.2)) i es) clock)
    | _ => none
  | _, _ => none

def deleteA (P : Program) (h : H) (t : TypeId) (m k : AV) : Option H :=
  (atMap P h t m k).bind fun q => (findA P h q.1 k q.2.2.2.1 0).map fun r => match r with
    | some f => h.set q.2.2.1 (.map (eraseN f.1 q.2.2.2.1) q.2.2.2.2)
    | none => h.set q.2.2.1 (.map q.2.2.2.1 q.2.2.2.2)

def rangeA (P : Program) (h : H) (t : TypeId) (x : AV) : Ans :=
  match und P t, x with
  | some .string, .val (.string s) => some (.value (.ptr h.next 0), h.new (.strIter s 0))
  | some (.map _ _), .val (.map none) => some (.value (.ptr h.next 0), h.new (.mapIter none 0 [] 0))
  | some (.map _ _), .map m => match h.get m with
    | some (.map _ clock) => some (.value (.ptr h.next 0), h.new (.mapIter (some m) clock [] clock))
    | _ => none
  | _, _ => none

def nextA (h : H) (it : AV) (isString : Bool) : Ans :=
  match it with
  | .ptr b 0 =>
    match h.get b, isString with
    | some (.strIter s pos), true =>
      if pos < s.size then
        some (.value (.tuple [.val (.bool true), .val (goInt pos), .val (.int .i32 (Utf8.decode s pos).1)]), h.set b (.strIter s (pos + (Utf8.decode s pos).2)))
      else some (.value (.tuple [.val (.bool false)]), h)
    | some (.mapIter none _ _ _), false => some (.value (.tuple [.val (.bool false)]), h)
    | some (.mapIter (some m) since seen last), false =>
      match h.get m with
      | some (.map es clock) =>
        if !seen.isEmpty && !es.isEmpty && es.all (·.2.2 ≥ last) then none else
        match (es.filter fun e => !seen.contains e.2.2).filter (·.2.2 < since), (es.filter fun e => !seen.contains e.2.2).filter (·.2.2 ≥ since) with
        | [], [] => some (.value (.tuple [.val (.bool false)]), h)
        | [(k, v, born)], [] => some (.value (.tuple [.val (.bool true), k, v]), h.set b (.mapIter (some m) since (seen ++ [born]) clock))
        | _, _ => none
      | _ => none
    | _, _ => none
  | _ => none

def lastOf {α : Type} : List α → Option α
  | [] => none
  | [x] => some x
  | _ :: l => lastOf l

def entryOfA (h : H) (it : AV) : Option AV :=
  match it with
  | .ptr b 0 =>
    match h.get b with
    | some (.mapIter (some m) _ seen stepped) =>
      match lastOf seen, h.get m with
      | some stamp, some (.map es clock) =>
        if clock == stepped then (es.find? (fun e => e.2.2 == stamp)).map fun e => .tuple [e.1, e.2.1] else none
      | _, _ => none
    | _ => none
  | _ => none

def boundA (x : AV) (y : Nat) : Option Nat := (asNat x).bind fun i => if i ≤ y then some i else none

def lowA (hi m : Nat) : Option AV → Option (Nat × Nat × Nat)
  | some v => (boundA v hi).map fun l => (l, hi, m)
  | none => some (0, hi, m)

def sliceBoundsA (len cap : Nat) (low high max : Option AV) : Option (Nat × Nat × Nat) :=
  match max with
  | some v => (boundA v cap).bind fun m => match high with
    | some u => (boundA u m).bind fun hi => lowA hi m low
    | none => none
  | none => match high with
    | some u => (boundA u cap).bind fun hi => lowA hi cap low
    | none => lowA len cap low

def omap (ev : Operand → Option AV) : Option Operand → Option (Option AV)
  | none => some none
  | some x => (ev x).map some

def sliceA (P : Program) (h : H) (t : TypeId) (x : AV) (low high max : Option AV) : Option AV :=
  match und P t with
  | some .string => match x with
    | .val (.string s) =>
      match max with
      | some _ => none
      | none => (sliceBoundsA s.size s.size low high none).map fun r => .val (.string (s.extract r.1 r.2.1))
    | _ => none
  | some (.slice elem) =>
    match size P elem with
    | none => none
    | some sz =>
      match x with
      | .val (.slice none len cap) =>
        if len ≤ cap then (sliceBoundsA len cap low high max).map fun r => .val (.slice none (r.2.1 - r.1) (r.2.2 - r.1)) else none
      | .slice b off len cap =>
        if len ≤ cap then (sliceBoundsA len cap low high max).map fun r => .slice b (if r.2.2 = r.1 then off else off + r.1 * sz) (r.2.1 - r.1) (r.2.2 - r.1) else none
      | .sliceE b off len sz' =>
        match h.get b with
        | some (.cells c _ _ _) =>
          if sz' = sz ∧ 0 < sz ∧ len ≤ (c.length - off) / sz then
            match max with
            | some _ => (sliceBoundsA len ((c.length - off) / sz) low high max).map fun r => .slice b (if r.2.2 = r.1 then off else off + r.1 * sz) (r.2.1 - r.1) (r.2.2 - r.1)
            | none => (sliceBoundsA len ((c.length - off) / sz) low high none).bind fun r =>
              if r.1 = 0 ∨ r.1 < (c.length - off) / sz then some (.sliceE b (off + r.1 * sz) (r.2.1 - r.1) sz) else if r.1 = r.2.1 then some .void else none
          else none
        | _ => none
      | .void => match max with
        | some _ => none
        | none => (sliceBoundsA 0 0 low high none).map fun _ => .void
      | _ => none
  | some (.array n elem) =>
    match size P elem, x with
    | some sz, .ptr b off => (sliceBoundsA n n low high max).map fun r => .slice b (if r.2.2 = r.1 then off else off + r.1 * sz) (r.2.1 - r.1) (r.2.2 - r.1)
    | _, _ => none
  | _ => none

def lenOpA (P : Program) (h : H) (t : TypeId) (x : AV) : Option Nat :=
  match und P t with
  | some .string => match x with
    | .val (.string s) => some s.size
    | _ => none
  | some (.array n _) => some n
  | some (.slice _) => match x with
    | .val (.slice _ n _) => some n
    | .slice _ _ n _ | .sliceE _ _ n _ => some n
    | .void => some 0
    | _ => none
  | some (.map _ _) => match x with
    | .val (.map none) => some 0
    | .map m => match h.get m with
      | some (.map es _) => some es.length
      | _ => none
    | _ => none
  | some (.pointer e) => match und P e with
    | some (.array n _) => some n
    | _ => none
  | _ => none

def capOpA (P : Program) (t : TypeId) (x : AV) : Option Nat :=
  match und P t with
  | some (.slice _) => match x with
    | .val (.slice _ _ c) => some c
    | .slice _ _ _ c => some c
    | _ => none
  | _ => none

def copyA (P : Program) (h : H) (t : TypeId) (d s : AV) : Ans :=
  match und P t with
  | some (.slice elem) =>
    (size P elem).bind fun sz => (lenA d).bind fun dl => (lenA s).bind fun sl => (cellsOf h sz (Nat.min sl dl) s).bind fun new =>
      match d with
      | .val (.slice none _ _) => some (.value (.val (goInt (Nat.min sl dl))), h)
      | .slice b off _ _ | .sliceE b off _ _ => (writeCells h b off new).map fun h => (.value (.val (goInt (Nat.min sl dl))), h)
      | _ => none
  | _ => none

def builtinA (P : Program) (h : H) (b : Builtin) (argTypes : Array TypeId) (args : List AV) : Ans :=
  match b with
  | .len => match args with
    | [x] => (argTypes[0]?).bind fun t => (lenOpA P h t x).map fun (n : Nat) => (.value (.val (goInt (n : Int))), h)
    | _ => none
  | .cap => match args with
    | [x] => (argTypes[0]?).bind fun t => (capOpA P t x).map fun (n : Nat) => (.value (.val (goInt (n : Int))), h)
    | _ => none
  | .append => match args with
    | [s, x] => appendA P h argTypes s x
    | _ => none
  | .copy => match args with
    | [d, s] => (argTypes[0]?).bind fun t => copyA P h t d s
    | _ => none
  | .delete => match args with
    | [m, k] => (argTypes[0]?).bind fun t => (deleteA P h t m k).map fun h => (.value (.val (.tuple #[])), h)
    | _ => none
  | .min => (toValues args).bind fun l => (evalPure P (Builtin.min_ argTypes 0 l.toArray)).map fun v => (.value (.val v), h)
  | .max => (toValues args).bind fun l => (evalPure P (Builtin.max_ argTypes 0 l.toArray)).map fun v => (.value (.val v), h)
  | .recover => match args with
    | [] => some (.recover, h)
    | _ => none
  | _ => none

def parts (ev : Operand → Option AV) : List (Nat × Operand) → Option (List (Nat × AV))
  | [] => some []
  | (i, x) :: rest => (ev x).bind fun v => (parts ev rest).map ((i, v) :: ·)

def evs (ev : Operand → Option AV) : List Operand → Option (List AV)
  | [] => some []
  | x :: rest => (ev x).bind fun v => (evs ev rest).map (v :: ·)

/-- Whether a value's type t implements an interface. -/
def implementsA (P : Program) (want : Array (String × TypeId)) (t : TypeId) : Option Bool :=
  (P.info? t).map fun i => (Instr.missingMethod want i.methods).isNone

def assertA (P : Program) (x : AV) (asserted : TypeId) (commaOk : Bool) : Option AV :=
  let holds (v : AV) : Option AV := some (if commaOk then .tuple [v, .val (.bool true)] else v)
  let fails : Option AV := if commaOk then (zero P asserted).map fun z => .tuple [z, .val (.bool false)] else none
  match und P asserted, x with
  | some (.interface _), .val .nilIface => fails
  | some (.interface want), .iface t v => match implementsA P want t with
    | some true => holds (.iface t v)
    | some false => fails
    | none => none
  | some _, .val .nilIface => fails
  | some _, .iface t v => if t = asserted then holds v else fails
  | _, _ => none

def fieldsPlaces (P : Program) (fields : Array Field) (i : Nat) : Option (Nat × Nat) :=
  (fields[i]?).bind fun f => (size P f.type).map fun n => (f.offset, n)

/-- Bytes as a string. -/
def bytesA : List AV → Option (List UInt8)
  | [] => some []
  | .val (.int .u8 n) :: l => (bytesA l).map (UInt8.ofNat n.toNat :: ·)
  | _ => none

def sliceString (P : Program) (h : H) (src dst : TypeId) (b off len : Nat) : Ans :=
  match und P src, und P dst with
  | some (.slice e), some .string =>
    match und P e with
    | some (.int .u8) => (readCells h b off len).bind fun l => (bytesA l).map fun l => (.value (.val (.string ⟨l.toArray⟩)), h)
    | _ => none
  | _, _ => none

/-- A conversion of a slice: to a slice of the same type (the model marks its block: a string has been made of it). -/
def convertSlice (P : Program) (h : H) (src dst : TypeId) (b : Nat) (x : AV) : Ans :=
  match src == dst, und P dst with
  | true, some (.slice e) =>
    match und P e, h.get b with
    | some (.int .u8), some (.cells l e o _) => some (.value x, h.set b (.cells l e o true))
    | _, _ => none
  | _, _ => none

def convertA (P : Program) (h : H) (src dst : TypeId) (x : AV) : Ans :=
  match x with
  | .val v =>
    match v with
    | .string s =>
      match und P dst with
      | some (.slice e) =>
        match und P src, und P e with
        | some .string, some (.int .u8) => (newRow h e (s.data.toList.map fun b => .val (.int .u8 b.toNat)) true true).map fun r => (.value (.sliceE r.1 0 s.size 1), r.2)
        | _, _ => none
      | _ => val h ((evalPure P (convert src dst v)).map .val)
    | v => val h ((evalPure P (convert src dst v)).map .val)
  | .slice b off len cap => match und P dst with
    | some .string => sliceString P h src dst b off len
    | _ => convertSlice P h src dst b (.slice b off len cap)
  | .sliceE b off len sz => match und P dst with
    | some .string => sliceString P h src dst b off len
    | _ => convertSlice P h src dst b (.sliceE b off len sz)
  | _ => none

def callOpA (P : Program) (h : H) (ev : Operand → Option AV) (c : Call) : Ans :=
  (evs ev c.args.toList).bind fun args => match c.callee with
    | .value f => (ev f).bind fun f => callA P h f args
    | .invoke recv name => (ev recv).bind fun r => callMethodA P h r name args
    | .builtin b => builtinA P h b c.argTypes args

def deferOpA (h : H) (ev : Operand → Option AV) (c : Call) : Ans :=
  (evs ev c.args.toList).bind fun args => match c.callee with
    | .value f => (ev f).bind fun f => match f with
      | .val (.func (.func g) first captured) => some (.defer { fn := .func g, captured := captured.toList.map AV.ofValue, args := first.toList.map AV.ofValue ++ args }, h)
      | .func (.func g) first captured => some (.defer { fn := .func g, captured, args := first ++ args }, h)
      | _ => none
    | _ => none

def aop (P : Program) (ev : Operand → Option AV) (o : Oper) (h : H) : Ans :=
  match o.op with
  | .move x | .assign x => val h (ev x)
  | .pick c a b => match ev c with
    | some (.val (.bool true)) => val h (ev a)
    | some (.val (.bool false)) => val h (ev b)
    | _ => none
  | .alloc elem => do
    let z ← zero P elem
    let (b, h) ← newRow h elem z.cells
    some (.value (.ptr b 0), h)
  | .box elem x => do
    let v ← ev x
    let (b, h) ← newRow h elem v.cells
    some (.value (.ptr b 0), h)
  | .build t ps => do
    let z ← zero P t
    let ps ← parts ev ps.toList
    match ← und P t with
    | .struct fields => if fields.toList.all (fun f => (size P f.type).isSome) then val h ((fillA (fieldsPlaces P fields) z.cells ps).map .agg) else none
    | .array _ elem => (size P elem).bind fun n => val h ((fillA (fun i => some (i * n, n)) z.cells ps).map .agg)
    | _ => none
  | .buildSlice t len ps => do
    let some (.slice elem) := und P t | none
    let sz ← size P elem
    let ps ← parts ev ps.toList
    if len * sz ≤ 2 ^ 24 then
      (if len * sz = 0 then some [] else (zero P elem).map (·.cells)).bind fun z =>
        if len * sz = 0 ∨ z.length = sz then
          (fillA (fun i => some (i * sz, sz)) (repeatN z len) ps).bind fun cells =>
            (newRow h elem cells).map fun r => (.value (.slice r.1 0 len len), r.2)
        else none
    else none
  | .load t a => do val h (load P h t (← ev a))
  | .store t a x => do
    let h ← store P h t (← ev a) (← ev x)
    some (.skip, h)
  | .nilCheck x => match ev x with
    | some (.ptr b o) => some (.value (.ptr b o), h)
    | some (.val (.func (.func f) a c)) => some (.value (.val (.func (.func f) a c)), h)
    | some (.func (.func f) a c) => some (.value (.func (.func f) a c), h)
    | some (.yld b) => some (.value (.yld b), h)
    | some (.iface t v) => some (.value (.iface t v), h)
    | _ => none
  | .binOp op t x y _ => do val h (binA P h op t x y (← ev x) (← ev y))
  | .unOp op _ x => match ev x with
    | some (.val v) => val h ((evalPure P (Op.unary op v)).map .val)
    | _ => none
  | .convert src dst x => (ev x).bind fun x => convertA P h src dst x
  | .makeInterface t x => match und P t with
    | some (.interface _) => none
    | some _ => val h ((ev x).map (.iface t))
    | none => none
  | .makeFunc fn first captured => (evs ev first.toList).bind fun a => (evs ev captured.toList).map fun c => (.value (.func fn a c), h)
  | .makeMap t r => do
    match r with
    | none => some (.value (.map h.next), h.new (.map [] 0))
    | some x => match und P t, ev x with
      | some (.map _ _), some (.val (.int _ _)) => some (.value (.map h.next), h.new (.map [] 0))
      | _, _ => none
  | .makeSlice t l c => do
    let some (.slice elem) := und P t | none
    let l ← asNat (← ev l)
    let c ← asNat (← ev c)
    let sz ← size P elem
    let some info := P.info? elem | none
    if l ≤ c ∧ c < 2 ^ 40 ∧ info.bytes * c ≤ 2 ^ 40 then
      (if c * sz = 0 then some [] else (zero P elem).map (·.cells)).bind fun z =>
        if c * sz = 0 ∨ z.length = sz then (newRow h elem (repeatN z c)).map fun r => (.value (.slice r.1 0 l c), r.2) else none
    else none
  | .slice t x lo hi mx => do
    val h (sliceA P h t (← ev x) (← omap ev lo) (← omap ev hi) (← omap ev mx))
  | .fieldAddr s x f => match und P s, ev x with
    | some (.struct fields), some (.ptr b o) => match fields[f]? with
      | some fd => match size P fd.type with
        | some (_ + 1) => some (.value (.ptr b (o + fd.offset)), h)
        | _ => none
      | none => none
    | _, _ => none
  | .field t x f => match und P t, ev x with
    | some (.struct fields), some (.agg l) => match fields[f]? with
      | some fd => val h (partA P fd.type l fd.offset)
      | none => none
    | _, _ => none
  | .indexAddr t x ix => do
    let i ← asNat (← ev ix)
    match ← und P t, ← ev x with
    | .array len elem, .ptr b o => (size P elem).bind fun n => if i < len then some (.value (.ptr b (o + i * n)), h) else none
    | .slice elem, .slice b o len _ => (size P elem).bind fun n => if i < len then some (.value (.ptr b (o + i * n)), h) else none
    | .slice elem, .sliceE b o len _ => (size P elem).bind fun n => if i < len then some (.value (.ptr b (o + i * n)), h) else none
    | _, _ => none
  | .index t x ix => do
    let i ← asNat (← ev ix)
    match ← und P t, ← ev x with
    | .array len elem, .agg l => (size P elem).bind fun n => if i < len then val h (partA P elem l (i * n)) else none
    | .string, .val (.string s) => match s[i]? with
      | some b => some (.value (.val (.int .u8 b.toNat)), h)
      | none => none
    | _, _ => none
  | .lookup t m k ok => do val h (lookupA P h t (← ev m) (← ev k) ok)
  | .mapUpdate t m k v | .insert t m k v => do
    let h ← updateA P h t (← ev m) (← ev k) (← ev v)
    some (.skip, h)
  | .mapEntry t m k => do entryA P h t (← ev m) (← ev k)
  | .entryStore _ m s v => do
    let h ← entryStoreA h (← ev m) (← ev s) (← ev v)
    some (.skip, h)
  | .range t x => do rangeA P h t (← ev x)
  | .next it isString => do nextA h (← ev it) isString
  | .entry it => do val h (entryOfA h (← ev it))
  | .typeAssert x _ asserted ok => do val h (assertA P (← ev x) asserted ok)
  | .extract t i => match ev t with
    | some (.tuple l) => val h l[i]?
    | _ => none
  | .call c => callOpA P h ev c
  | .defer c => deferOpA h ev c
  | .panic x => match ev x with
    | some (.iface t v) => some (.panic (.iface t v), h)
    | _ => none
  | _ => none

end Go.Ev

namespace Go.Ev

inductive AItem where
  | code (c : Code)
  | inBlock (id : Nat)
  | inLoop (body : Code)
  | inScope (body : Code)
  | inRegion (ops : Array Oper) (i : Nat) (rest : List Oper)
  | inRangeFunc (loop : Nat)
  | endRangeFunc (loop : Nat)
  | beginRound
  deriving Inhabited

inductive ADefer where
  | fn (d : ADef)
  | collected (r : Nat)

inductive AMode where
  | run
  | returning
  | panicking (chain : List (AV × Bool))

structure AFrame where
  fn : FuncId
  nt : Nat
  tmps : Tr AV
  todo : List AItem
  defers : List ADefer
  mode : AMode
  kind : CallKind
  roundOf : Option Nat

structure M where
  fr : AFrame
  cs : List AFrame
  h : H

inductive ARes where
  | go (m : M)
  | gone (v : AV) (h : H)

def ev (tmps : Tr AV) : Operand → Option AV
  | .tmp t => tmps.get t
  | .const v => some (AV.ofValue v)
  | .global g => some (.val (.pointer (some ⟨g, 0, none⟩)))
  | .func f => some (.val (.func (.func f) #[] #[]))

def putT (tmps : Tr AV) (nt : Nat) (dst : Option Tmp) (v : AV) : Option (Tr AV) :=
  match dst with
  | none => some tmps
  | some d => if d < nt then some (tmps.put (d + 1) d (some v)) else none

/-- What an operation without a result leaves. -/
def undefA : AV := .val (.tuple #[])

def yieldedA (ops : Array Oper) (tmps : Tr AV) (j : Nat) : Option (Option Bool) :=
  match (ops[j]?).bind (·.dst) with
  | some d => match tmps.get d with
    | some (.val (.bool b)) => some (some b)
    | some _ => some none
    | none => none
  | none => some none

def wantedA (ops : Array Oper) (o : Oper) (tmps : Tr AV) : Option Bool :=
  match o.guard with
  | none => some true
  | some (j, want) => (yieldedA ops tmps j).map (· == some want)

inductive OpsRes where
  | done (tmps : Tr AV) (h : H)
  | ctl (x : ANext) (o : Oper) (i : Nat) (rest : List Oper) (tmps : Tr AV) (h : H)

/-- The operations of a region that does not draw, one after the other, up to its end or to one that leaves the frame. -/
def runOps (P : Program) (ops : Array Oper) (nt : Nat) : Nat → List Oper → Tr AV → H → Option OpsRes
  | _, [], tmps, h => some (.done tmps h)
  | i, o :: rest, tmps, h =>
    match wantedA ops o tmps with
    | some true =>
      match aop P (ev tmps) o h with
      | some (.value v, h) => match putT tmps nt o.dst v with
        | some tmps => runOps P ops nt (i + 1) rest tmps h
        | none => none
      | some (.skip, h) => match putT tmps nt o.dst undefA with
        | some tmps => runOps P ops nt (i + 1) rest tmps h
        | none => none
      | some (x, h) => some (.ctl x o i rest tmps h)
      | none => none
    | some false => match putT tmps nt o.dst undefA with
      | some tmps => runOps P ops nt (i + 1) rest tmps h
      | none => none
    | none => none

def argTmps (args : List AV) : Nat → Tr AV → Tr AV
  | i, t => match args with
    | [] => t
    | v :: rest => argTmps rest (i + 1) (t.put (i + 1) i (some v))

def enterA (P : Program) (f : FuncId) (args : List AV) (kind : CallKind) : Option AFrame :=
  match P.funcs[f]? with
  | some fn => match fn.body with
    | some c => if args.length ≤ fn.ntmps then some { fn := f, nt := fn.ntmps, tmps := argTmps args 0 .nil, todo := [.code c], defers := [], mode := .run, kind, roundOf := none } else none
    | none => none
  | none => none

def finishA (fr : AFrame) (v : AV) : Option AFrame :=
  match fr.todo with
  | .inRegion ops i (o :: rest) :: k => (putT fr.tmps fr.nt o.dst v).map fun tmps => { fr with tmps, todo := .inRegion ops (i + 1) rest :: k }
  | .inRangeFunc l :: k => some { fr with todo := .endRangeFunc l :: k }
  | _ => none

def raiseA (fr : AFrame) (vs : List (AV × Bool)) : AFrame :=
  match fr.mode with
  | .panicking chain => { fr with mode := .panicking (vs ++ chain) }
  | _ => { fr with mode := .panicking vs }

def exitToA (id : Nat) : List AItem → Option (List AItem)
  | .inBlock id' :: k => if id' == id then some k else exitToA id k
  | _ :: k => exitToA id k
  | [] => none

def gotoInA (l : Nat) : List AItem → Option (List AItem)
  | .inScope body :: k =>
    match findLabel body l with
    | some rest => some (.code rest :: .inScope body :: k)
    | none => gotoInA l k
  | _ :: k => gotoInA l k
  | [] => none

/-- What a call that has come to an end hands back to the frame below. -/
def doReturnA (kind : CallKind) (cs : List AFrame) (v : AV) (h : H) : Option ARes :=
  match cs with
  | [] => match kind with
    | .normal => some (.gone v h)
    | _ => none
  | c :: rest =>
    match kind with
    | .normal => (finishA c v).map fun c => .go ⟨c, rest, h⟩
    | .deferred =>
      match c.mode with
      | .panicking ((_, true) :: _) => some (.go ⟨{ c with mode := .returning }, rest, h⟩)
      | _ => some (.go ⟨c, rest, h⟩)
    | _ => none

def endRoundA (h : H) (l : Nat) (jump : Option Code) : Option H :=
  match h.get l with
  | some (.loop _ _ fn tmps nt params assign body defers) => some (h.set l (.loop (if jump.isNone then .ready else .done) jump fn tmps nt params assign body defers))
  | _ => none

def leaveA (fr : AFrame) (cs : List AFrame) (h : H) (jump : Option Code) : Option ARes :=
  match fr.roundOf with
  | none => match jump with
    | none | some .ret => some (.go ⟨{ fr with mode := .returning }, cs, h⟩)
    | _ => none
  | some l => match fr.kind with
    | .normal => (endRoundA h l jump).bind fun h => doReturnA .normal cs (.val (.bool jump.isNone)) h
    | _ => none

/-- What an operation that leaves the frame does. -/
def ctlA (P : Program) (fr : AFrame) (cs : List AFrame) (h : H) (x : ANext) : Option ARes :=
  match x with
  | .value v => (finishA fr v).map fun fr => .go ⟨fr, cs, h⟩
  | .skip => none
  | .enter f args => match (toValues args).bind (orc f) with
    | some v => (finishA fr (.val v)).map fun fr => .go ⟨fr, cs, h⟩
    | none => (enterA P f args .normal).map fun g => .go ⟨g, fr :: cs, h⟩
  | .round l f tmps nt assign body =>
    some (.go ⟨{ fn := f, nt, tmps, todo := [.code assign, .beginRound, .code body], defers := [], mode := .run, kind := .normal, roundOf := some l }, fr :: cs, h⟩)
  | .defer d => match fr.roundOf, fr.todo with
    | none, .inRegion ops i (o :: rest) :: k => (putT fr.tmps fr.nt o.dst undefA).map fun tmps =>
      .go ⟨{ fr with defers := .fn d :: fr.defers, todo := .inRegion ops (i + 1) rest :: k, tmps }, cs, h⟩
    | _, _ => none
  | .recover =>
    match fr.roundOf, fr.kind with
    | none, .deferred => match cs with
      | c :: rest => match c.mode with
        | .panicking ((v, false) :: older) => (finishA fr v).map fun fr => .go ⟨fr, { c with mode := .panicking ((v, true) :: older) } :: rest, h⟩
        | _ => (finishA fr (.val .nilIface)).map fun fr => .go ⟨fr, cs, h⟩
      | [] => none
    | _, _ => none
  | .panic v => some (.go ⟨raiseA fr [(v, false)], cs, h⟩)

/-- The results of a function. -/
def resultsA (P : Program) (h : H) (tmps : Tr AV) : List ResultVar → Option (List AV)
  | [] => some []
  | .tmp t :: rest => (tmps.get t).bind fun v => (resultsA P h tmps rest).map (v :: ·)
  | .cell a t :: rest => (tmps.get a).bind fun p => (load P h t p).bind fun v => (resultsA P h tmps rest).map (v :: ·)

def resultA (P : Program) (h : H) (fr : AFrame) : Option AV :=
  match P.funcs[fr.fn]? with
  | some fn => match resultsA P h fr.tmps fn.results.toList with
    | some [v] => some v
    | some l => some (.tuple l)
    | none => none
  | none => none

/-! ### A region that draws its order -/

/-- What an operation waits for, at whatever order. -/
def preds (o : Oper) : List Nat := o.after.toList.filterMap fun e => if Region.binds .any e then some e.on else none

/-- All that comes before an operation: bits. 'acc': those of the operations ahead. -/
def bitsOf (acc : List Nat) : List Nat → Nat
  | [] => 0
  | j :: l => (2 ^ j ||| acc.getD j 0) ||| bitsOf acc l

def closure : List Oper → List Nat → List Nat
  | [], acc => acc
  | o :: rest, acc => closure rest (acc ++ [bitsOf acc (preds o)])

/-- What an operation does to memory, as far as orders go: nothing (it may look) · a new block alone · it may write. -/
inductive Sort3 where
  | look | make | write
  deriving DecidableEq

def sortOf (P : Program) : Op → Sort3
  | .alloc _ | .box .. | .buildSlice .. | .makeMap .. | .makeSlice .. => .make
  | .move _ | .assign _ | .pick .. | .build .. | .load .. | .nilCheck _ | .binOp .. | .unOp .. | .makeInterface .. | .makeFunc .. | .slice .. | .fieldAddr .. | .field .. | .indexAddr .. | .index .. | .lookup ..
  | .entry _ | .typeAssert .. | .extract .. => .look
  | .convert _ dst _ => match und P dst with
    | some (.slice _) => .write
    | _ => .look
  | .call c => match c.callee with
    | .builtin .len | .builtin .cap | .builtin .min | .builtin .max => .look
    | _ => .write
  | _ => .write

def sortAt (P : Program) (ops : List Oper) (i : Nat) : Sort3 :=
  match ops[i]? with
  | some o => sortOf P o.op
  | none => .write

/-- An order in which makings come as late as they can. -/
def orderGo (clo : List Nat) (n : Nat) : List Nat → List Nat → List Nat
  | [], done => done ++ (List.range n).filter fun i => !done.contains i
  | w :: ws, done => orderGo clo n ws (done ++ ((List.range n).filter fun i => !done.contains i && (clo.getD w 0).testBit i) ++ [w])

def orderOf (P : Program) (ops : List Oper) (clo : List Nat) : List Nat :=
  orderGo clo ops.length ((List.range ops.length).filter fun i => sortAt P ops i == .write) []

def nodupB : List Nat → Bool
  | [] => true
  | x :: l => !l.contains x && nodupB l

/-- The order keeps to what is waited for; all that comes ahead of a writing operation is waited for by it. -/
def orderOk (P : Program) (ops : List Oper) (clo : List Nat) : List Nat → List Nat → Bool
  | _, [] => true
  | done, i :: rest =>
    (match ops[i]? with
      | some o => (preds o).all (done.contains ·) && (match sortOf P o.op with | .write => done.all fun j => (clo.getD i 0).testBit j | _ => true)
      | none => false) && orderOk P ops clo (done ++ [i]) rest

def tmpsOf (o : Oper) : List Tmp := o.op.operands.toList.filterMap fun x => match x with | .tmp t => some t | _ => none

def dstIs (ops : List Oper) (t : Tmp) (j : Nat) : Bool :=
  match ops[j]? with
  | some o => o.dst == some t
  | none => false

def regionOk (P : Program) (ops : List Oper) (clo ord : List Nat) : Bool :=
  (List.range ops.length).all (ord.contains ·) && nodupB ord && orderOk P ops clo [] ord &&
  (List.range ops.length).all fun i => match ops[i]? with
    | some o =>
      (match o.dst with
        | some t => (List.range ops.length).all fun j => i == j || !dstIs ops t j
        | none => true) &&
      (tmpsOf o).all (fun t => (List.range ops.length).all fun j => !dstIs ops t j || j == i || (preds o).contains j || (match ops[j]? with | some p => (preds p).contains i | none => false)) &&
      (match o.guard with
        | some (g, _) => (preds o).contains g
        | none => true)
    | none => false

/-- One operation with its calls run to their ends. -/
def wholeOp (P : Program) (call : M → Option (AV × H)) (tmps : Tr AV) (o : Oper) (h : H) : Option (AV × H) :=
  match aop P (ev tmps) o h with
  | some (.value v, h) => some (v, h)
  | some (.skip, h) => some (undefA, h)
  | some (.enter f args, h) => match (toValues args).bind (orc f) with
    | some v => some (.val v, h)
    | none => (enterA P f args .normal).bind fun g => call ⟨g, [], h⟩
  | some (.round l f tmps nt assign body, h) =>
    call ⟨{ fn := f, nt, tmps, todo := [.code assign, .beginRound, .code body], defers := [], mode := .run, kind := .normal, roundOf := some l }, [], h⟩
  | _ => none

/-- What is known of an operation's turn: its number, whether it was wanted, what it does to memory, its value, the memory behind it, and the temporaries and the memory ahead of it. -/
structure Turn where
  i : Nat
  want : Bool
  sort : Sort3
  v : AV
  after : H
  tmps : Tr AV
  before : H

def emit (P : Program) (call : M → Option (AV × H)) (ops : Array Oper) (base i : Nat) (o : Oper) (tmps : Tr AV) (h : H) : Option Turn :=
  match wantedA ops o tmps with
  | some false => some ⟨i, false, sortOf P o.op, undefA, h, tmps, h⟩
  | some true =>
    match sortOf P o.op with
    | .look => match aop P (ev tmps) o h with
      | some (.value v, _) => some ⟨i, true, .look, v, h, tmps, h⟩
      | _ => none
    | .make => match aop P (ev tmps) o ⟨h.heap, base + i⟩ with
      | some (.value v, h1) => some ⟨i, true, .make, v, ⟨h1.heap, h.next⟩, tmps, h⟩
      | _ => none
    | .write => (wholeOp P call tmps o h).map fun q => ⟨i, true, .write, q.1, q.2, tmps, h⟩
  | none => none

def emitAll (P : Program) (call : M → Option (AV × H)) (ops : Array Oper) (opl : List Oper) (nt base : Nat) : List Nat → Tr AV → H → Option (List Turn × Tr AV × H)
  | [], tmps, h => some ([], tmps, h)
  | i :: rest, tmps, h =>
    match opl[i]? with
    | some o => match emit P call ops base i o tmps h with
      | some t => match putT tmps nt o.dst t.v with
        | some tmps => (emitAll P call ops opl nt base rest tmps t.after).map fun q => (t :: q.1, q.2)
        | none => none
      | none => none
    | none => none

/-- The memory with all blocks that are made later on. -/
def withMakes (base : Nat) : H → List Turn → H
  | h, [] => h
  | h, t :: ts => withMakes base (match t.sort, t.want with
    | .make, true => ⟨h.heap.put (base + t.i + 1) (base + t.i) (t.after.get (base + t.i)), h.next⟩
    | _, _ => h) ts

mutual
def eqAV : AV → AV → Bool
  | .val v, .val u => match v, u with
    | .bool a, .bool b => a == b
    | .int j a, .int k b => j == k && a == b
    | .string a, .string b => a == b
    | .pointer none, .pointer none => true
    | .slice none a b, .slice none c d => a == c && b == d
    | .map none, .map none => true
    | .nilFunc, .nilFunc => true
    | .nilIface, .nilIface => true
    | .func (.func f) a b, .func (.func g) c d => f == g && a.isEmpty && b.isEmpty && c.isEmpty && d.isEmpty
    | .tuple a, .tuple b => a.isEmpty && b.isEmpty
    | .agg a, .agg b => a.isEmpty && b.isEmpty
    | _, _ => false
  | .ptr a b, .ptr c d => a == c && b == d
  | .slice a b c d, .slice a' b' c' d' => a == a' && b == b' && c == c' && d == d'
  | .sliceE a b c d, .sliceE a' b' c' d' => a == a' && b == b' && c == c' && d == d'
  | .void, .void => true
  | .map a, .map b => a == b
  | .yld a, .yld b => a == b
  | .func (.func f) a b, .func (.func g) c d => f == g && eqAVs a c && eqAVs b d
  | .iface t v, .iface u w => t == u && eqAV v w
  | .agg l, .agg m => eqAVs l m
  | .tuple l, .tuple m => eqAVs l m
  | _, _ => false
def eqAVs : List AV → List AV → Bool
  | [], [] => true
  | x :: l, y :: m => eqAV x y && eqAVs l m
  | _, _ => false
end

/-- A look that may be taken at a time comes to the same. -/
def lookSame (P : Program) (opl : List Oper) (clo : List Nat) (behind ahead : List Nat) (x : H) (t : Turn) : Bool :=
  match t.sort, t.want with
  | .look, true =>
    if behind.all (fun w => !(clo.getD w 0).testBit t.i) && ahead.all (fun w => !(clo.getD t.i 0).testBit w) then
      match opl[t.i]? with
      | some o => match aop P (ev t.tmps) o x with
        | some (.value v, _) => eqAV v t.v
        | _ => false
      | none => false
    else true
  | _, _ => true

def writesOf (ts : List Turn) : List Nat := ts.filterMap fun t => match t.sort with | .write => some t.i | _ => none

/-- At a time: behind the turns 'done', the last of which writes. -/
def timeOk (P : Program) (opl : List Oper) (clo : List Nat) (base : Nat) (all : List Turn) (behind : List Nat) (h : H) (rest : List Turn) : Bool :=
  rest.all (fun t => match t.sort with | .make => (h.get (base + t.i)).isNone | _ => true) &&
  all.all (lookSame P opl clo behind (writesOf rest) (withMakes base h rest))

def timesOk (P : Program) (opl : List Oper) (clo : List Nat) (base : Nat) (all : List Turn) : List Nat → List Turn → Bool
  | _, [] => true
  | behind, t :: rest =>
    (match t.sort with
      | .write => timeOk P opl clo base all (behind ++ [t.i]) t.after rest
      | _ => true) && timesOk P opl clo base all (match t.sort with | .write => behind ++ [t.i] | _ => behind) rest

/-- A region that draws its order, in whatever order: each look is asked again at each time at which it may be taken. -/
def drawnA (P : Program) (call : M → Option (AV × H)) (ops : Array Oper) (nt : Nat) (tmps : Tr AV) (h : H) : Option (Tr AV × H) :=
  let opl := ops.toList
  let clo := closure opl []
  let ord := orderOf P opl clo
  if regionOk P opl clo ord then
    match emitAll P call ops opl nt h.next ord tmps ⟨h.heap, h.next + opl.length⟩ with
    | some (ts, tmps', h') =>
      if timeOk P opl clo h.next ts [] ⟨h.heap, h.next + opl.length⟩ ts && timesOk P opl clo h.next ts [] ts then some (tmps', h') else none
    | none => none
  else none

/-- A jump that a round has left is done next. -/
def jumpK (pending : Option Code) (k : List AItem) : List AItem :=
  match pending with
  | some c => .code c :: k
  | none => k

def astep (P : Program) (call : M → Option (AV × H)) (m : M) : Option ARes :=
  let fr := m.fr
  match fr.mode with
  | .run =>
    match fr.todo with
    | [] => leaveA fr m.cs m.h none
    | .code c :: k =>
      match c with
      | .skip | .label _ => some (.go { m with fr := { fr with todo := k } })
      | .seq a b => some (.go { m with fr := { fr with todo := .code a :: .code b :: k } })
      | .cond c a b => match ev fr.tmps c with
        | some (.val (.bool true)) => some (.go { m with fr := { fr with todo := .code a :: k } })
        | some (.val (.bool false)) => some (.go { m with fr := { fr with todo := .code b :: k } })
        | _ => none
      | .block id body => some (.go { m with fr := { fr with todo := .code body :: .inBlock id :: k } })
      | .loop body => some (.go { m with fr := { fr with todo := .code body :: .inLoop body :: k } })
      | .scope body => some (.go { m with fr := { fr with todo := .code body :: .inScope body :: k } })
      | .exit id => match exitToA id k with
        | some k => some (.go { m with fr := { fr with todo := k } })
        | none => leaveA fr m.cs m.h (some (.exit id))
      | .goto l => match gotoInA l k with
        | some k => some (.go { m with fr := { fr with todo := k } })
        | none => leaveA fr m.cs m.h (some (.goto l))
      | .ret => leaveA fr m.cs m.h (some .ret)
      | .region _ ops false =>
        match runOps P ops fr.nt 0 ops.toList fr.tmps m.h with
        | some (.done tmps h) => some (.go { m with fr := { fr with todo := k, tmps }, h })
        | some (.ctl x o i rest tmps h) => ctlA P { fr with todo := .inRegion ops i (o :: rest) :: k, tmps } m.cs h x
        | none => none
      | .region _ ops true =>
        (drawnA P call ops fr.nt fr.tmps m.h).map fun q => .go { m with fr := { fr with todo := k, tmps := q.1 }, h := q.2 }
      | .rangeFunc f params assign body =>
        match fr.roundOf with
        | none =>
          let h1 := m.h.new (.deferred true)
          let h2 := h1.new (.loop .ready none fr.fn fr.tmps fr.nt params assign body m.h.next)
          match ev fr.tmps f with
          | some g => match callA P h2 g [.yld h1.next] with
            | some (.enter f args, h) => (enterA P f args .normal).map fun g => .go ⟨g, { fr with todo := .inRangeFunc h1.next :: k, defers := .collected m.h.next :: fr.defers } :: m.cs, h⟩
            | _ => none
          | none => none
        | some l => match m.h.get l with
          | some (.loop _ _ _ _ _ _ _ _ r) =>
            let h2 := m.h.new (.loop .ready none fr.fn fr.tmps fr.nt params assign body r)
            match ev fr.tmps f with
            | some g => match callA P h2 g [.yld m.h.next] with
              | some (.enter f args, h) => (enterA P f args .normal).map fun g => .go ⟨g, { fr with todo := .inRangeFunc m.h.next :: k } :: m.cs, h⟩
              | _ => none
            | none => none
          | _ => none
      | .refuse _ => none
    | .inBlock _ :: k | .inScope _ :: k => some (.go { m with fr := { fr with todo := k } })
    | .inLoop body :: k => some (.go { m with fr := { fr with todo := .code body :: .inLoop body :: k } })
    | .inRegion ops i rest :: k =>
      match runOps P ops fr.nt i rest fr.tmps m.h with
      | some (.done tmps h) => some (.go { m with fr := { fr with todo := k, tmps }, h })
      | some (.ctl x o i rest tmps h) => ctlA P { fr with todo := .inRegion ops i (o :: rest) :: k, tmps } m.cs h x
      | none => none
    | .inRangeFunc _ :: _ => none
    | .endRangeFunc l :: k =>
      match m.h.get l with
      | some (.loop state pending fn tmps nt params assign body defers) =>
        match state with
        | .busy => none
        | _ => some (.go { m with fr := { fr with todo := jumpK pending k }, h := m.h.set l (.loop .exhausted pending fn tmps nt params assign body defers) })
      | _ => none
    | .beginRound :: k =>
      match fr.roundOf with
      | some l => match m.h.get l with
        | some (.loop .ready pending fn tmps nt params assign body defers) =>
          some (.go { m with fr := { fr with todo := k }, h := m.h.set l (.loop .busy pending fn tmps nt params assign body defers) })
        | _ => none
      | none => none
  | .returning =>
    match fr.defers with
    | [] => match fr.roundOf with
      | none => (resultA P m.h fr).bind fun v => doReturnA fr.kind m.cs v m.h
      | some _ => none
    | .collected r :: ds => match m.h.get r with
      | some (.deferred true) => some (.go { m with fr := { fr with defers := ds }, h := m.h.set r (.deferred false) })
      | _ => none
    | .fn d :: ds => match invokeA P m.h d.fn d.captured d.args with
      | some (.enter f args, h) => (enterA P f args .deferred).map fun g => .go ⟨g, { fr with defers := ds } :: m.cs, h⟩
      | _ => none
  | .panicking chain =>
    match fr.defers with
    | [] => match m.cs with
      | c :: rest => match P.funcs[fr.fn]? with
        | some _ => some (.go ⟨raiseA c chain, rest, m.h⟩)
        | none => none
      | [] => none
    | .collected r :: ds => match m.h.get r with
      | some (.deferred true) => some (.go { m with fr := { fr with defers := ds }, h := m.h.set r (.deferred false) })
      | _ => none
    | .fn d :: ds => match invokeA P m.h d.fn d.captured d.args with
      | some (.enter f args, h) => (enterA P f args .deferred).map fun g => .go ⟨g, { fr with defers := ds } :: m.cs, h⟩
      | _ => none

def arun (P : Program) : Nat → M → Option (AV × H)
  | 0, _ => none
  | n + 1, m =>
    match astep P (arun P n) m with
    | some (.go m) => arun P n m
    | some (.gone v h) => some (v, h)
    | none => none

end Go.Ev

namespace Go.Ev

/-! ## Trees -/
namespace Tr
variable {α : Type}
theorem get_put (n : Nat) : ∀ (t : Tr α) (k : Nat), k < n → ∀ (x : Option α) (j : Nat), (put n t k x).get j = if j = k then x else t.get j := by
  induction n with
  | zero => intro t k hk; omega
  | succ n ih =>
    intro t k hk x j
    have hb : ∀ (a b : Nat), Nat.beq a b = decide (a = b) := fun a b => by
      rw [Bool.eq_iff_iff]; simp
    cases t with
    | nil =>
      cases k with
      | zero =>
        cases j with
        | zero => simp [put, get]
        | succ j => simp only [put, get]; split <;> simp
      | succ k' =>
        cases j with
        | zero => simp only [put]; split <;> simp [get]
        | succ j' =>
          simp only [put]
          split <;> rename_i hk2 <;> rw [hb] at hk2 <;> simp only [get, hb]
          · split
            · rename_i hj2
              rw [ih _ _ (by omega)]
              simp only [get, decide_eq_true_eq] at *
              by_cases h : j' + 1 = k' + 1
              · simp [h]
              · rw [if_neg h, if_neg (by omega)]
            · rename_i hj2
              simp only [get, decide_eq_true_eq, decide_eq_false_iff_not] at *
              rw [if_neg (by omega)]
          · split
            · rename_i hj2
              simp only [get, decide_eq_true_eq, decide_eq_false_iff_not] at *
              rw [if_neg (by omega)]
            · rename_i hj2
              rw [ih _ _ (by omega)]
              simp only [get, decide_eq_true_eq, decide_eq_false_iff_not] at *
              by_cases h : j' + 1 = k' + 1
              · have : j' / 2 = k' / 2 := by omega
                simp [h, this]
              · rw [if_neg h, if_neg (by omega)]
    | node l v r =>
      cases k with
      | zero => cases j <;> simp [put, get]
      | succ k' =>
        cases j with
        | zero => simp only [put]; split <;> simp [get]
        | succ j' =>
          simp only [put]
          split <;> rename_i hk2 <;> rw [hb] at hk2 <;> simp only [get, hb]
          · split
            · rename_i hj2
              rw [ih _ _ (by omega)]
              simp only [decide_eq_true_eq] at *
              by_cases h : j' + 1 = k' + 1
              · simp [h]
              · rw [if_neg h, if_neg (by omega)]
            · rename_i hj2
              simp only [decide_eq_true_eq, decide_eq_false_iff_not] at *
              rw [if_neg (by omega)]
          · split
            · rename_i hj2
              simp only [decide_eq_true_eq, decide_eq_false_iff_not] at *
              rw [if_neg (by omega)]
            · rename_i hj2
              rw [ih _ _ (by omega)]
              simp only [decide_eq_true_eq, decide_eq_false_iff_not] at *
              by_cases h : j' + 1 = k' + 1
              · have : j' / 2 = k' / 2 := by omega
                simp [h, this]
              · rw [if_neg h, if_neg (by omega)]
end Tr

theorem H.get_set (h : H) (b : Nat) (o : AB) (j : Nat) : (h.set b o).get j = if j = b then some o else h.get j :=
  Tr.get_put _ _ _ (by omega) _ _
theorem H.get_kill (h : H) (b j : Nat) : (h.kill b).get j = if j = b then none else h.get j :=
  Tr.get_put _ _ _ (by omega) _ _
theorem H.get_new (h : H) (o : AB) (j : Nat) : (h.new o).get j = if j = h.next then some o else h.get j :=
  Tr.get_put _ _ _ (by omega) _ _
@[simp] theorem H.next_set (h : H) (b : Nat) (o : AB) : (h.set b o).next = h.next := rfl
@[simp] theorem H.next_kill (h : H) (b : Nat) : (h.kill b).next = h.next := rfl
@[simp] theorem H.next_new (h : H) (o : AB) : (h.new o).next = h.next + 1 := rfl

/-! ## Lists -/
theorem takeN_eq {α : Type} : ∀ (n : Nat) (l r : List α), takeN n l = some r → r = l.take n ∧ n ≤ l.length := by
  intro n
  induction n with
  | zero => intro l r h; simp [takeN] at h; simp [h]
  | succ n ih =>
    intro l r h
    cases l with
    | nil => simp [takeN] at h
    | cons x l =>
      simp only [takeN, Option.map_eq_some_iff] at h
      obtain ⟨r', h1, rfl⟩ := h
      obtain ⟨h2, h3⟩ := ih _ _ h1
      simp [h2, h3]
theorem dropN_eq {α : Type} : ∀ (n : Nat) (l : List α), dropN n l = l.drop n := by
  intro n
  induction n with
  | zero => intro l; rfl
  | succ n ih => intro l; cases l <;> simp [dropN, ih]
theorem over_len {α : Type} : ∀ (l : List α) (k : Nat) (vs r : List α), over l k vs = some r → r.length = l.length ∧ (vs ≠ [] → k + vs.length ≤ l.length) := by
  intro l
  induction l with
  | nil => intro k vs r h; cases vs <;> simp_all [over]
  | cons x l ih =>
    intro k vs r h
    cases vs with
    | nil => simp_all [over]
    | cons v vs =>
      cases k with
      | zero =>
        simp only [over, Option.map_eq_some_iff] at h
        obtain ⟨r', h1, rfl⟩ := h
        obtain ⟨h2, h3⟩ := ih _ _ _ h1
        refine ⟨by simp [h2], fun _ => ?_⟩
        by_cases hv : vs = []
        · simp [hv]
        · have := h3 hv; simp; omega
      | succ k =>
        simp only [over, Option.map_eq_some_iff] at h
        obtain ⟨r', h1, rfl⟩ := h
        obtain ⟨h2, h3⟩ := ih _ _ _ h1
        refine ⟨by simp [h2], fun hv => ?_⟩
        have := h3 (by simp); simp at this ⊢; omega
theorem over_get {α : Type} : ∀ (l : List α) (k : Nat) (vs r : List α), over l k vs = some r → ∀ j, r[j]? = if k ≤ j ∧ j < k + vs.length then vs[j - k]? else l[j]? := by
  intro l
  induction l with
  | nil =>
    intro k vs r h j
    cases vs with
    | nil => simp [over] at h; subst h; simp; try omega
    | cons v vs => simp [over] at h
  | cons x l ih =>
    intro k vs r h j
    cases vs with
    | nil => simp [over] at h; subst h; simp; try omega
    | cons v vs =>
      cases k with
      | zero =>
        simp only [over, Option.map_eq_some_iff] at h
        obtain ⟨r', h1, rfl⟩ := h
        cases j with
        | zero => simp
        | succ j =>
          have := ih _ _ _ h1 j
          simp only [List.getElem?_cons_succ, this]
          simp only [Nat.zero_le, true_and, Nat.zero_add, List.length_cons, Nat.sub_zero, List.getElem?_cons_succ]
          by_cases hj : j < vs.length
          · rw [if_pos hj, if_pos (by omega)]
          · rw [if_neg hj, if_neg (by omega)]
      | succ k =>
        simp only [over, Option.map_eq_some_iff] at h
        obtain ⟨r', h1, rfl⟩ := h
        cases j with
        | zero => simp
        | succ j =>
          have := ih _ _ _ h1 j
          simp only [List.getElem?_cons_succ, this]
          have e : (j + 1) - (k + 1) = j - k := by omega
          rw [e]
          by_cases hj : k ≤ j ∧ j < k + (v :: vs).length
          · rw [if_pos hj, if_pos (by omega)]
          · rw [if_neg hj, if_neg (by omega)]

/-! ## What a name stands for -/
structure Ent where
  blk : Nat
  off : Nat
  tot : Nat

abbrev Ren := Nat → Option Ent

mutual
inductive VRel (ρ : Ren) : AV → Value → Prop
  | val (v : Value) : VRel ρ (.val v) v
  | ptr {b off : Nat} {e : Ent} (h : ρ b = some e) : VRel ρ (.ptr b off) (.pointer (some ⟨e.blk, e.off + off, none⟩))
  | slice {b off len cap : Nat} {e : Ent} (h : ρ b = some e) : VRel ρ (.slice b off len cap) (.slice (some ⟨e.blk, e.off + off, none⟩) len cap)
  | sliceE {b off len sz cap : Nat} {e : Ent} (h : ρ b = some e) (ht : e.tot = off + cap * sz) (hz : 0 < sz) (hl : len ≤ cap) :
      VRel ρ (.sliceE b off len sz) (.slice (some ⟨e.blk, e.off + off, none⟩) len cap)
  | void {a : Addr} {cap : Nat} : VRel ρ .void (.slice (some a) 0 cap)
  | map {b : Nat} {e : Ent} (h : ρ b = some e) : VRel ρ (.map b) (.map (some e.blk))
  | yld {b : Nat} {e : Ent} (h : ρ b = some e) : VRel ρ (.yld b) (.func (.yield e.blk) #[] #[])
  | func {fn : Fn} {f c : List AV} {f' c' : Array Value} (hf : LRel ρ f f'.toList) (hc : LRel ρ c c'.toList) : VRel ρ (.func fn f c) (.func fn f' c')
  | iface {t : TypeId} {v : AV} {v' : Value} (h : VRel ρ v v') : VRel ρ (.iface t v) (.iface t v')
  | agg {l : List AV} {l' : Array Value} (h : LRel ρ l l'.toList) : VRel ρ (.agg l) (.agg l')
  | tuple {l : List AV} {l' : Array Value} (h : LRel ρ l l'.toList) : VRel ρ (.tuple l) (.tuple l')
inductive LRel (ρ : Ren) : List AV → List Value → Prop
  | nil : LRel ρ [] []
  | cons {a : AV} {v : Value} {l : List AV} {l' : List Value} (h : VRel ρ a v) (t : LRel ρ l l') : LRel ρ (a :: l) (v :: l')
end

def Ren.le (ρ ρ' : Ren) : Prop := ∀ b e, ρ b = some e → ρ' b = some e

mutual
theorem VRel.mono {ρ ρ' : Ren} (hl : Ren.le ρ ρ') {a : AV} {v : Value} (h : VRel ρ a v) : VRel ρ' a v :=
  match h with
  | .val v => .val v
  | .ptr h => .ptr (hl _ _ h)
  | .slice h => .slice (hl _ _ h)
  | .sliceE h ht hz hle => .sliceE (hl _ _ h) ht hz hle
  | .void => .void
  | .map h => .map (hl _ _ h)
  | .yld h => .yld (hl _ _ h)
  | .func hf hc => .func (LRel.mono hl hf) (LRel.mono hl hc)
  | .iface h => .iface (VRel.mono hl h)
  | .agg h => .agg (LRel.mono hl h)
  | .tuple h => .tuple (LRel.mono hl h)
theorem LRel.mono {ρ ρ' : Ren} (hl : Ren.le ρ ρ') {a : List AV} {v : List Value} (h : LRel ρ a v) : LRel ρ' a v :=
  match h with
  | .nil => .nil
  | .cons h t => .cons (VRel.mono hl h) (LRel.mono hl t)
end

theorem LRel.length {ρ : Ren} : ∀ {a : List AV} {v : List Value}, LRel ρ a v → a.length = v.length
  | _, _, .nil => rfl
  | _, _, .cons _ t => by simp [LRel.length t]
theorem LRel.get {ρ : Ren} : ∀ {a : List AV} {v : List Value}, LRel ρ a v → ∀ (i : Nat) (x : AV), a[i]? = some x → ∃ y, v[i]? = some y ∧ VRel ρ x y
  | _, _, .nil, i, x, h => by simp at h
  | _, _, .cons h t, i, x, hx => by
    cases i with
    | zero => simp at hx; subst hx; exact ⟨_, rfl, h⟩
    | succ i => simp at hx; obtain ⟨y, h1, h2⟩ := LRel.get t i x hx; exact ⟨y, by simpa using h1, h2⟩
theorem LRel.of_get {ρ : Ren} : ∀ {a : List AV} {v : List Value}, a.length = v.length → (∀ (i : Nat) (x : AV) (y : Value), a[i]? = some x → v[i]? = some y → VRel ρ x y) → LRel ρ a v
  | [], [], _, _ => .nil
  | x :: a, y :: v, hl, h => .cons (h 0 x y rfl rfl) (LRel.of_get (by simpa using hl) fun i x y hx hy => h (i + 1) x y (by simpa using hx) (by simpa using hy))
  | [], _ :: _, hl, _ => by simp at hl
  | _ :: _, [], hl, _ => by simp at hl
theorem LRel.append {ρ : Ren} : ∀ {a b : List AV} {v w : List Value}, LRel ρ a v → LRel ρ b w → LRel ρ (a ++ b) (v ++ w)
  | _, _, _, _, .nil, h => h
  | _, _, _, _, .cons h t, h' => .cons h (LRel.append t h')
theorem LRel.take {ρ : Ren} : ∀ (n : Nat) {a : List AV} {v : List Value}, LRel ρ a v → LRel ρ (a.take n) (v.take n)
  | 0, _, _, _ => .nil
  | _ + 1, _, _, .nil => .nil
  | n + 1, _, _, .cons h t => .cons h (LRel.take n t)
theorem LRel.drop {ρ : Ren} : ∀ (n : Nat) {a : List AV} {v : List Value}, LRel ρ a v → LRel ρ (a.drop n) (v.drop n)
  | 0, _, _, h => h
  | _ + 1, _, _, .nil => .nil
  | n + 1, _, _, .cons _ t => LRel.drop n t
theorem LRel.vals {ρ : Ren} : ∀ (l : List Value), LRel ρ (l.map .val) l
  | [] => .nil
  | v :: l => .cons (.val v) (LRel.vals l)
end Go.Ev

namespace Go.Ev

def TRel (ρ : Ren) (nt : Nat) (t : Tr AV) (arr : Array Value) : Prop :=
  arr.size = nt ∧ ∀ i x, t.get i = some x → ∃ v, arr[i]? = some v ∧ VRel ρ x v

def CRel (ρ : Ren) (off : Nat) (l : List AV) (c : Array Value) : Prop :=
  ∀ i x, l[i]? = some x → ∃ v, c[off + i]? = some v ∧ VRel ρ x v

inductive ERel (ρ : Ren) : List (AV × AV × Nat) → List MapEntry → Prop
  | nil : ERel ρ [] []
  | cons {k v : AV} {n : Nat} {m : MapEntry} {es : List (AV × AV × Nat)} {ms : List MapEntry} (hk : VRel ρ k m.key) (hv : VRel ρ v m.val) (hn : m.born = n) (t : ERel ρ es ms) :
      ERel ρ ((k, v, n) :: es) (m :: ms)

def ARel (ρ : Ren) (e : Ent) : AB → Obj → Prop
  | .cells l elem opn str, .cells c elem' fz => elem' = elem ∧ c.size = e.off + e.tot ∧ l.length ≤ e.tot ∧ (opn = false → l.length = e.tot) ∧ CRel ρ e.off l c ∧
      (fz.1 = fz.2 ∨ c.size ≤ fz.1) ∧ (str = false → fz.1 = fz.2)
  | .map es clock, .map es' clock' => clock' = clock ∧ ERel ρ es es'.toList
  | .strIter s p, .stringIter s' p' => s' = s ∧ p' = p ∧ e.off = 0
  | .mapIter m since seen st, .mapIter m' since' seen' st' =>
      ((m = none ∧ m' = none) ∨ ∃ b e', m = some b ∧ ρ b = some e' ∧ m' = some e'.blk) ∧ since' = since ∧ seen'.toList = seen ∧ st' = st ∧ e.off = 0
  | .loop st pd fn t nt ps as body d, .loop r =>
      r.state = st ∧ r.pending = pd ∧ r.fn = fn ∧ TRel ρ nt t r.tmps ∧ r.params = ps ∧ r.assign = as ∧ r.body = body ∧ ∃ e', ρ d = some e' ∧ r.defers = e'.blk
  | .deferred b, .deferred calls => calls = if b then some [] else none
  | _, _ => False

theorem TRel.mono {ρ ρ' : Ren} (hl : Ren.le ρ ρ') {nt : Nat} {t : Tr AV} {arr : Array Value} (h : TRel ρ nt t arr) : TRel ρ' nt t arr :=
  ⟨h.1, fun i x hx => let ⟨v, h1, h2⟩ := h.2 i x hx; ⟨v, h1, h2.mono hl⟩⟩
theorem CRel.mono {ρ ρ' : Ren} (hl : Ren.le ρ ρ') {off : Nat} {l : List AV} {c : Array Value} (h : CRel ρ off l c) : CRel ρ' off l c :=
  fun i x hx => let ⟨v, h1, h2⟩ := h i x hx; ⟨v, h1, h2.mono hl⟩
theorem ERel.mono {ρ ρ' : Ren} (hl : Ren.le ρ ρ') : ∀ {es : List (AV × AV × Nat)} {ms : List MapEntry}, ERel ρ es ms → ERel ρ' es ms
  | _, _, .nil => .nil
  | _, _, .cons hk hv hn t => .cons (hk.mono hl) (hv.mono hl) hn (ERel.mono hl t)
theorem ARel.mono {ρ ρ' : Ren} (hl : Ren.le ρ ρ') {e : Ent} {ab : AB} {o : Obj} (h : ARel ρ e ab o) : ARel ρ' e ab o := by
  cases ab <;> cases o <;> simp only [ARel] at h ⊢ <;> try exact h
  · exact ⟨h.1, h.2.1, h.2.2.1, h.2.2.2.1, h.2.2.2.2.1.mono hl, h.2.2.2.2.2⟩
  · exact ⟨h.1, h.2.mono hl⟩
  · refine ⟨?_, h.2⟩
    rcases h.1 with h' | ⟨b, e', h1, h2, h3⟩
    · exact .inl h'
    · exact .inr ⟨b, e', h1, hl _ _ h2, h3⟩
  · obtain ⟨h1, h2, h3, h4, h5, h6, h7, e', h8, h9⟩ := h
    exact ⟨h1, h2, h3, h4.mono hl, h5, h6, h7, e', hl _ _ h8, h9⟩

structure Good (ρ : Ren) (h : H) (w : World) : Prop where
  sat : ∀ b ab e, h.get b = some ab → ρ b = some e → ∃ o, w.heap[e.blk]? = some o ∧ ARel ρ e ab o
  inj : ∀ b b' e e', (h.get b).isSome = true → (h.get b').isSome = true → ρ b = some e → ρ b' = some e' → e.blk = e'.blk → b = b'
  lt : ∀ b e, ρ b = some e → e.blk < w.heap.size

def Foot (ρ : Ren) (h : H) (k : Nat) : Prop := ∃ b e, (h.get b).isSome = true ∧ ρ b = some e ∧ e.blk = k

structure Trans (ρ : Ren) (h : H) (w : World) (ρ' : Ren) (h' : H) (w' : World) : Prop where
  le : Ren.le ρ ρ'
  ids : ∀ b, ρ b = none → ρ' b ≠ none → h.next ≤ b ∧ b < h'.next
  next : h.next ≤ h'.next
  size : w.heap.size ≤ w'.heap.size
  keep : ∀ k, k < w.heap.size → ¬Foot ρ h k → w'.heap[k]? = w.heap[k]?
  foot : ∀ k, Foot ρ' h' k → Foot ρ h k ∨ w.heap.size ≤ k
  os : w'.os = w.os
  tape : w'.tape = w.tape
  output : w'.output = w.output

theorem Ren.le_refl (ρ : Ren) : Ren.le ρ ρ := fun _ _ h => h
theorem Ren.le_trans {a b c : Ren} (h : Ren.le a b) (k : Ren.le b c) : Ren.le a c := fun _ _ x => k _ _ (h _ _ x)

theorem Trans.refl (ρ : Ren) (h : H) (w : World) : Trans ρ h w ρ h w :=
  ⟨Ren.le_refl _, fun _ h1 h2 => absurd h1 h2, Nat.le_refl _, Nat.le_refl _, fun _ _ _ => rfl, fun _ h => .inl h, rfl, rfl, rfl⟩
theorem Trans.trans {ρ ρ₁ ρ₂ : Ren} {h h₁ h₂ : H} {w w₁ w₂ : World} (a : Trans ρ h w ρ₁ h₁ w₁) (b : Trans ρ₁ h₁ w₁ ρ₂ h₂ w₂) : Trans ρ h w ρ₂ h₂ w₂ where
  le := Ren.le_trans a.le b.le
  ids := fun k h1 h2 => by
    cases hk : ρ₁ k with
    | none => have := b.ids k hk h2; have := a.next; omega
    | some e => have := a.ids k h1 (by rw [hk]; simp); have := b.next; omega
  next := Nat.le_trans a.next b.next
  size := Nat.le_trans a.size b.size
  keep := fun k hk hf => by
    rw [b.keep k (Nat.lt_of_lt_of_le hk a.size) (fun hf' => (a.foot k hf').elim hf (fun h => by omega)), a.keep k hk hf]
  foot := fun k hf => by
    rcases b.foot k hf with h1 | h1
    · exact a.foot k h1
    · exact .inr (Nat.le_trans a.size h1)
  os := b.os.trans a.os
  tape := b.tape.trans a.tape
  output := b.output.trans a.output

/-- A draw from the tape. -/
theorem Good.drew {ρ : Ren} {h : H} {w : World} (g : Good ρ h w) : Good ρ h w.drew := ⟨g.sat, g.inj, g.lt⟩
theorem Trans.drew (ρ : Ren) (h : H) (w : World) : Trans ρ h w ρ h w.drew :=
  ⟨Ren.le_refl _, fun _ h1 h2 => absurd h1 h2, Nat.le_refl _, Nat.le_refl _, fun _ _ _ => rfl, fun _ h => .inl h, rfl, rfl, rfl⟩

/-- A live block of ours is written. -/
theorem good_set {ρ : Ren} {h : H} {w w' : World} {b : Nat} {e : Ent} {ab ab' : AB} {o' : Obj} (g : Good ρ h w) (hb : h.get b = some ab) (he : ρ b = some e)
    (hs : w'.heap.size = w.heap.size) (hk : w'.heap[e.blk]? = some o') (ho : ∀ k, k ≠ e.blk → w'.heap[k]? = w.heap[k]?)
    (h1 : w'.os = w.os) (h2 : w'.tape = w.tape) (h3 : w'.output = w.output) (hr : ARel ρ e ab' o') :
    Good ρ (h.set b ab') w' ∧ Trans ρ h w ρ (h.set b ab') w' := by
  have hlive : ∀ j, ((h.set b ab').get j).isSome = true → (h.get j).isSome = true := fun j hj => by
    rw [H.get_set] at hj
    by_cases hjb : j = b
    · subst hjb; simp [hb]
    · rwa [if_neg hjb] at hj
  refine ⟨⟨fun j aj ej hj hej => ?_, fun j j' ej ej' hj hj' => g.inj j j' ej ej' (hlive j hj) (hlive j' hj'), fun j ej hj => by rw [hs]; exact g.lt j ej hj⟩, ?_⟩
  · rw [H.get_set] at hj
    by_cases hjb : j = b
    · subst hjb
      rw [if_pos rfl] at hj
      rw [he] at hej
      cases hj; cases hej
      exact ⟨o', hk, hr⟩
    · rw [if_neg hjb] at hj
      obtain ⟨o, h4, h5⟩ := g.sat j aj ej hj hej
      refine ⟨o, ?_, h5⟩
      rw [ho, h4]
      intro hc
      exact hjb (g.inj j b ej e (by simp [hj]) (by simp [hb]) hej he hc)
  · refine ⟨Ren.le_refl _, fun _ h1 h2 => absurd h1 h2, Nat.le_refl _, by rw [hs]; exact Nat.le_refl _, fun k hk' hf => ho k fun hc => hf ⟨b, e, by simp [hb], he, hc.symm⟩, ?_, h1, h2, h3⟩
    rintro k ⟨j, ej, hj, hej, hk'⟩
    exact .inl ⟨j, ej, hlive j hj, hej, hk'⟩

theorem heap_alloc (w : World) (o : Obj) (k : Nat) : (w.alloc o).heap[k]? = if k = w.heap.size then some o else w.heap[k]? := by
  show (w.heap.push o)[k]? = _
  rw [Array.getElem?_push]

/-- A name more. -/
def Ren.with (ρ : Ren) (b : Nat) (e : Ent) : Ren := fun j => if j = b then some e else ρ j
theorem Ren.le_with {ρ : Ren} {b : Nat} {e : Ent} (h : ρ b = none) : Ren.le ρ (ρ.with b e) := fun j ej hj => by
  unfold Ren.with
  rw [if_neg (fun hc => by rw [hc, h] at hj; cases hj)]
  exact hj
@[simp] theorem Ren.with_same (ρ : Ren) (b : Nat) (e : Ent) : (ρ.with b e) b = some e := by simp [Ren.with]

/-- A new block. -/
theorem good_new {ρ : Ren} {h : H} {w : World} {e : Ent} {ab : AB} {o : Obj} (g : Good ρ h w) (hn : ρ h.next = none) (hb : e.blk = w.heap.size)
    (hr : ARel (ρ.with h.next e) e ab o) :
    Good (ρ.with h.next e) (h.new ab) (w.alloc o) ∧ Trans ρ h w (ρ.with h.next e) (h.new ab) (w.alloc o) := by
  have hle := Ren.le_with (e := e) hn
  have hold : ∀ j ej, j ≠ h.next → (ρ.with h.next e) j = some ej → ρ j = some ej := fun j ej hj he => by simpa [Ren.with, hj] using he
  have hlt : ∀ j ej, (ρ.with h.next e) j = some ej → ej.blk < (w.alloc o).heap.size := fun j ej he => by
    by_cases hj : j = h.next
    · subst hj; simp at he; subst he; simp [hb]
    · have := g.lt j ej (hold j ej hj he); simp; omega
  refine ⟨⟨fun j aj ej hj hej => ?_, fun j j' ej ej' hj hj' he he' hbb => ?_, hlt⟩, ⟨hle, fun j h1 h2 => ?_, by simp, by simp, fun k hk _ => ?_, ?_, rfl, rfl, rfl⟩⟩
  · rw [H.get_new] at hj
    by_cases hjn : j = h.next
    · subst hjn
      simp at hej; subst hej
      rw [if_pos rfl] at hj; cases hj
      exact ⟨o, by rw [heap_alloc, hb, if_pos rfl], hr⟩
    · rw [if_neg hjn] at hj
      obtain ⟨o', h4, h5⟩ := g.sat j aj ej hj (hold j ej hjn hej)
      refine ⟨o', ?_, h5.mono hle⟩
      have := g.lt j ej (hold j ej hjn hej)
      rw [heap_alloc, if_neg (Nat.ne_of_lt this), h4]
  · rw [H.get_new] at hj hj'
    by_cases hjn : j = h.next <;> by_cases hjn' : j' = h.next
    · rw [hjn, hjn']
    · exfalso
      subst hjn; simp at he; subst he
      have := g.lt j' ej' (hold j' ej' hjn' he'); omega
    · exfalso
      subst hjn'; simp at he'; subst he'
      have := g.lt j ej (hold j ej hjn he); omega
    · rw [if_neg hjn] at hj; rw [if_neg hjn'] at hj'
      exact g.inj j j' ej ej' hj hj' (hold j ej hjn he) (hold j' ej' hjn' he') hbb
  · by_cases hj : j = h.next
    · subst hj; simp
    · simp [Ren.with, hj, h1] at h2
  · rw [heap_alloc, if_neg (Nat.ne_of_lt hk)]
  · rintro k ⟨j, ej, hj, hej, hk⟩
    by_cases hjn : j = h.next
    · subst hjn; simp at hej; subst hej; right; omega
    · left
      rw [H.get_new, if_neg hjn] at hj
      exact ⟨j, ej, hj, hold j ej hjn hej, hk⟩

/-- A name is forgotten. -/
theorem good_kill {ρ : Ren} {h : H} {w : World} (g : Good ρ h w) (b : Nat) : Good ρ (h.kill b) w ∧ Trans ρ h w ρ (h.kill b) w := by
  have hlive : ∀ j aj, (h.kill b).get j = some aj → h.get j = some aj := fun j aj hj => by
    rw [H.get_kill] at hj
    by_cases hjb : j = b
    · simp [hjb] at hj
    · rwa [if_neg hjb] at hj
  have hlive' : ∀ j, ((h.kill b).get j).isSome = true → (h.get j).isSome = true := fun j hj => by
    cases hx : (h.kill b).get j with
    | none => simp [hx] at hj
    | some aj => simp [hlive j aj hx]
  refine ⟨⟨fun j aj ej hj => g.sat j aj ej (hlive j aj hj), fun j j' ej ej' hj hj' => g.inj j j' ej ej' (hlive' j hj) (hlive' j' hj'), g.lt⟩,
    ⟨Ren.le_refl _, fun _ h1 h2 => absurd h1 h2, Nat.le_refl _, Nat.le_refl _, fun _ _ _ => rfl, ?_, rfl, rfl, rfl⟩⟩
  rintro k ⟨j, ej, hj, hej, hk⟩
  exact .inl ⟨j, ej, hlive' j hj, hej, hk⟩

/-- A block's name gives way to another one for a part of it, which has been written (an append that finds room). -/
theorem good_turn {ρ : Ren} {h : H} {w w' : World} {b : Nat} {e e' : Ent} {ab ab' : AB} {o' : Obj} (g : Good ρ h w) (hb : h.get b = some ab) (he : ρ b = some e)
    (hn : ρ h.next = none) (hbl : e'.blk = e.blk)
    (hs : w'.heap.size = w.heap.size) (hk : w'.heap[e.blk]? = some o') (ho : ∀ k, k ≠ e.blk → w'.heap[k]? = w.heap[k]?)
    (h1 : w'.os = w.os) (h2 : w'.tape = w.tape) (h3 : w'.output = w.output) (hr : ARel (ρ.with h.next e') e' ab' o') :
    Good (ρ.with h.next e') ((h.kill b).new ab') w' ∧ Trans ρ h w (ρ.with h.next e') ((h.kill b).new ab') w' := by
  have hle := Ren.le_with (e := e') hn
  have hnext : (h.kill b).next = h.next := rfl
  have hold : ∀ j ej, j ≠ h.next → (ρ.with h.next e') j = some ej → ρ j = some ej := fun j ej hj he => by simpa [Ren.with, hj] using he
  have hlive : ∀ j aj, j ≠ h.next → ((h.kill b).new ab').get j = some aj → j ≠ b ∧ h.get j = some aj := fun j aj hjn hj => by
    rw [H.get_new, hnext, if_neg hjn, H.get_kill] at hj
    by_cases hjb : j = b
    · simp [hjb] at hj
    · exact ⟨hjb, by rwa [if_neg hjb] at hj⟩
  have hlive' : ∀ j, j ≠ h.next → (((h.kill b).new ab').get j).isSome = true → j ≠ b ∧ (h.get j).isSome = true := fun j hjn hj => by
    cases hx : ((h.kill b).new ab').get j with
    | none => simp [hx] at hj
    | some aj => have := hlive j aj hjn hx; exact ⟨this.1, by simp [this.2]⟩
  have hlt : ∀ j ej, (ρ.with h.next e') j = some ej → ej.blk < w'.heap.size := fun j ej hej => by
    rw [hs]
    by_cases hj : j = h.next
    · subst hj; simp at hej; subst hej; rw [hbl]; exact g.lt b e he
    · exact g.lt j ej (hold j ej hj hej)
  refine ⟨⟨fun j aj ej hj hej => ?_, fun j j' ej ej' hj hj' hej hej' hbb => ?_, hlt⟩, ⟨hle, fun j h1 h2 => ?_, by simp, by omega, fun k hk' hf => ho k fun hc => hf ⟨b, e, by simp [hb], he, hc.symm⟩, ?_, h1, h2, h3⟩⟩
  · by_cases hjn : j = h.next
    · subst hjn
      rw [H.get_new, hnext, if_pos rfl] at hj
      simp at hej; subst hej; cases hj
      exact ⟨o', by rw [hbl]; exact hk, hr⟩
    · obtain ⟨hjb, hj⟩ := hlive j aj hjn hj
      obtain ⟨o, h4, h5⟩ := g.sat j aj ej hj (hold j ej hjn hej)
      refine ⟨o, ?_, h5.mono hle⟩
      rw [ho, h4]
      intro hc
      exact hjb (g.inj j b ej e (by simp [hj]) (by simp [hb]) (hold j ej hjn hej) he hc)
  · by_cases hjn : j = h.next <;> by_cases hjn' : j' = h.next
    · rw [hjn, hjn']
    · exfalso
      subst hjn; simp at hej; subst hej
      obtain ⟨hjb, hl⟩ := hlive' j' hjn' hj'
      exact hjb (g.inj j' b ej' e hl (by simp [hb]) (hold j' ej' hjn' hej') he (by rw [← hbb, hbl]))
    · exfalso
      subst hjn'; simp at hej'; subst hej'
      obtain ⟨hjb, hl⟩ := hlive' j hjn hj
      exact hjb (g.inj j b ej e hl (by simp [hb]) (hold j ej hjn hej) he (by rw [hbb, hbl]))
    · exact g.inj j j' ej ej' (hlive' j hjn hj).2 (hlive' j' hjn' hj').2 (hold j ej hjn hej) (hold j' ej' hjn' hej') hbb
  · by_cases hj : j = h.next
    · subst hj; simp
    · simp [Ren.with, hj, h1] at h2
  · rintro k ⟨j, ej, hj, hej, hk'⟩
    by_cases hjn : j = h.next
    · subst hjn; simp at hej; subst hej
      exact .inl ⟨b, e, by simp [hb], he, by rw [← hbl]; exact hk'⟩
    · exact .inl ⟨j, ej, (hlive' j hjn hj).2, hold j ej hjn hej, hk'⟩
end Go.Ev

namespace Go.Ev

theorem add_none (g o i : Nat) : (⟨g, o, none⟩ : Addr).add i = ⟨g, o + i, none⟩ := by unfold Addr.add; split <;> simp_all

/-- Only one block has turned, and it is a row of cells still. -/
structure Turned (w w' : World) (g : Nat) : Prop where
  size : w'.heap.size = w.heap.size
  other : ∀ k, k ≠ g → w'.heap[k]? = w.heap[k]?
  os : w'.os = w.os
  tape : w'.tape = w.tape
  output : w'.output = w.output

theorem Turned.refl (w : World) (g : Nat) : Turned w w g := ⟨rfl, fun _ _ => rfl, rfl, rfl, rfl⟩
theorem Turned.trans {w w₁ w₂ : World} {g : Nat} (a : Turned w w₁ g) (b : Turned w₁ w₂ g) : Turned w w₂ g :=
  ⟨b.size.trans a.size, fun k hk => (b.other k hk).trans (a.other k hk), b.os.trans a.os, b.tape.trans a.tape, b.output.trans a.output⟩
theorem turned_setCell (w : World) (g o : Nat) (v : Value) : Turned w (w.setCell ⟨g, o, none⟩ v) g :=
  ⟨by simp, fun k hk => by simp only [World.setCell, Array.getElem?_modify]; rw [if_neg (by intro h; exact hk h.symm)], rfl, rfl, rfl⟩

theorem run_store_row (P : Program) (g o : Nat) (t : TypeId) (fz : Nat × Nat) : ∀ (vs : List Value) (i : Nat) (cur : Array Value) (w : World), w.heap[g]? = some (.cells cur t fz) →
    o + i + vs.length ≤ cur.size → (fz.1 = fz.2 ∨ cur.size ≤ fz.1) → (∀ v ∈ vs, v.oneCell' = true) →
    ∃ w' cur', (storeCells ⟨g, o, none⟩ vs i).run P w = .ok () w' ∧ w'.heap[g]? = some (.cells cur' t fz) ∧ cur'.size = cur.size ∧
      (∀ j, cur'[j]? = if o + i ≤ j ∧ j < o + i + vs.length then vs[j - (o + i)]? else cur[j]?) ∧ Turned w w' g
  | [], i, cur, w, hg, _, _, _ => ⟨w, cur, rfl, hg, rfl, fun j => by rw [if_neg]; simp, .refl _ _⟩
  | v :: rest, i, cur, w, hg, hl, hz, h1 => by
    have hi : o + i < cur.size := by simp at hl; omega
    have hcell : w.cell? ⟨g, o + i, none⟩ = some cur[o + i] := by simp [World.cell?, hg, hi]
    have hfro : w.frozen? ⟨g, o + i, none⟩ = false := by
      obtain ⟨lo, hi'⟩ := fz
      simp only [World.frozen?, hg, Bool.and_eq_false_iff, decide_eq_false_iff_not]
      simp only at hz
      omega
    have hst : (Go.store ((⟨g, o, none⟩ : Addr).add i) v).run P w = .ok () (w.setCell ⟨g, o + i, none⟩ v) := by
      rw [add_none, run_store P w _ v _ (h1 v (by simp)), hcell]
      simp [hfro]
    have hw1 : (w.setCell ⟨g, o + i, none⟩ v).heap[g]? = some (.cells (cur.setIfInBounds (o + i) v) t fz) := by
      simp [World.setCell, Array.getElem?_modify, hg]
    obtain ⟨w', cur', h2, h3, h4, h5, h6⟩ := run_store_row P g o t fz rest (i + 1) (cur.setIfInBounds (o + i) v) _ hw1 (by simp at hl ⊢; omega) (by simpa using hz) (fun x hx => h1 x (by simp [hx]))
    refine ⟨w', cur', by simp only [storeCells, Sem.run_bind, hst, Result.andThen_ok]; exact h2, h3, by simpa using h4, fun j => ?_, (turned_setCell _ _ _ _).trans h6⟩
    rw [h5 j]
    simp only [List.length_cons]
    by_cases hj : o + (i + 1) ≤ j ∧ j < o + (i + 1) + rest.length
    · rw [if_pos hj, if_pos (by omega)]
      have : j - (o + i) = (j - (o + (i + 1))) + 1 := by omega
      rw [this, List.getElem?_cons_succ]
    · rw [if_neg hj, Array.getElem?_setIfInBounds]
      by_cases hji : o + i = j
      · subst hji; simp [hi]
      · rw [if_neg hji, if_neg (by omega)]

section
variable {ρ : Ren} {h h' : H} {w : World} {P : Program}

theorem read_cells {b off n : Nat} {l : List AV} {e : Ent} (g : Good ρ h w) (hr : readCells h b off n = some l) (he : ρ b = some e) :
    ∃ vs : List Value, LRel ρ l vs ∧ vs.length = n ∧ l.length = n ∧ ∀ j v, vs[j]? = some v → w.cell? ⟨e.blk, e.off + off + j, none⟩ = some v := by
  unfold readCells at hr
  split at hr
  · rename_i l0 elem opn str hb
    rw [dropN_eq] at hr
    obtain ⟨hl, hn⟩ := takeN_eq _ _ _ hr
    obtain ⟨o, ho, ha⟩ := g.sat b _ e hb he
    cases o <;> simp only [ARel] at ha
    rename_i c elem' fz
    obtain ⟨_, hsz, hle, _, hc, _⟩ := ha
    have hn' : off + n ≤ l0.length ∨ n = 0 := by simp at hn; omega
    have hln : l.length = n := by rw [hl, List.length_take]; omega
    have hvn : ((c.toList.drop (e.off + off)).take n).length = n := by
      rw [List.length_take, List.length_drop]; simp; omega
    refine ⟨(c.toList.drop (e.off + off)).take n, LRel.of_get (by omega) fun i x y hx hy => ?_, hvn, hln, fun j v hv => ?_⟩
    · have hi : i < n := by
        have := (List.getElem?_eq_some_iff.1 hx).1; omega
      rw [hl, List.getElem?_take, if_pos hi, List.getElem?_drop] at hx
      rw [List.getElem?_take, if_pos hi, List.getElem?_drop] at hy
      obtain ⟨v, h1, h2⟩ := hc _ _ hx
      have : c[e.off + (off + i)]? = some y := by rw [← Nat.add_assoc]; simpa using hy
      rw [this] at h1; cases h1; exact h2
    · have hj : j < n := by have := (List.getElem?_eq_some_iff.1 hv).1; omega
      rw [List.getElem?_take, if_pos hj, List.getElem?_drop] at hv
      simp only [World.cell?, ho]
      simpa using hv
  · cases hr

theorem run_read {b off n : Nat} {l : List AV} {e : Ent} (g : Good ρ h w) (hr : readCells h b off n = some l) (he : ρ b = some e) :
    ∃ vs : List Value, LRel ρ l vs ∧ vs.length = n ∧ (loadCells ⟨e.blk, e.off + off, none⟩ n).run P w = .ok vs.toArray w := by
  obtain ⟨vs, h1, h2, _, h3⟩ := read_cells g hr he
  refine ⟨vs, h1, h2, ?_⟩
  rw [← h2]
  exact run_loadCells_list w _ vs fun j v hv => by rw [add_none]; exact h3 j v hv

theorem single_one {a : AV} {v : Value} (h : VRel ρ a v) (hs : a.single = true) : v.oneCell' = true := by
  cases h <;> try rfl
  · cases v <;> simp_all [AV.single, Value.oneCell']
  · simp [AV.single] at hs
  · simp [AV.single] at hs

theorem lrel_single : ∀ {l : List AV} {vs : List Value}, LRel ρ l vs → l.all AV.single = true → ∀ v ∈ vs, v.oneCell' = true
  | _, _, .nil, _, v, hv => by cases hv
  | _, _, .cons h t, hs, v, hv => by
    simp only [List.all_cons, Bool.and_eq_true] at hs
    cases hv with
    | head => exact single_one h hs.1
    | tail _ hv => exact lrel_single t hs.2 v hv

theorem write_cells {b off : Nat} {vs : List AV} {vs' : List Value} {e : Ent} (g : Good ρ h w) (hw : writeCells h b off vs = some h') (he : ρ b = some e) (hl : LRel ρ vs vs') :
    ∃ w', (storeCells ⟨e.blk, e.off + off, none⟩ vs').run P w = .ok () w' ∧ Good ρ h' w' ∧ Trans ρ h w ρ h' w' ∧ h'.next = h.next := by
  unfold writeCells at hw
  split at hw
  · rename_i l0 elem opn str hb
    split at hw
    · rename_i hs
      simp only [Option.map_eq_some_iff] at hw
      obtain ⟨r, hr, rfl⟩ := hw
      obtain ⟨o, ho, ha⟩ := g.sat b _ e hb he
      cases o <;> simp only [ARel] at ha
      rename_i c elem' fz
      obtain ⟨h1, hsz, hle, hop, hc, hfz, hst⟩ := ha
      have hlen := hl.length
      have ⟨hrl, hrb⟩ := over_len _ _ _ _ hr
      have hg := over_get _ _ _ _ hr
      by_cases hv : vs = []
      · subst hv
        cases hl
        have : r = l0 := by cases l0 <;> simp [over] at hr <;> simp [hr]
        subst this
        refine ⟨w, rfl, ?_⟩
        have := good_set (ab' := .cells r elem opn str) g hb he rfl ho (fun _ _ => rfl) rfl rfl rfl ⟨h1, hsz, hle, hop, hc, hfz, hst⟩
        exact ⟨this.1, this.2, rfl⟩
      · have hb2 := hrb hv
        obtain ⟨w', cur', h2, h3, h4, h5, h6⟩ := run_store_row P e.blk (e.off + off) elem' fz vs' 0 c w ho (by omega) hfz (lrel_single hl hs)
        refine ⟨w', h2, ?_⟩
        have := good_set (ab' := .cells r elem opn str) g hb he h6.size h3 h6.other h6.os h6.tape h6.output
          ⟨h1, by rw [h4]; exact hsz, by omega, fun ho => by rw [hrl]; exact hop ho, fun i x hx => ?_, by rw [h4]; exact hfz, hst⟩
        · exact ⟨this.1, this.2, rfl⟩
        · rw [hg i] at hx
          rw [h5]
          by_cases hi : off ≤ i ∧ i < off + vs.length
          · rw [if_pos hi] at hx
            obtain ⟨y, hy, hxy⟩ := hl.get _ _ hx
            refine ⟨y, ?_, hxy⟩
            rw [if_pos (by omega)]
            have : e.off + i - (e.off + off + 0) = i - off := by omega
            rw [this]; exact hy
          · rw [if_neg hi] at hx
            obtain ⟨y, hy, hxy⟩ := hc _ _ hx
            exact ⟨y, by rw [if_neg (by omega)]; exact hy, hxy⟩
    · cases hw
  · cases hw

/-! Types -/
theorem run_und {t : TypeId} {d : TypeDesc} (h : und P t = some d) : (underlying t).run P w = .ok d w := by
  have : P.underlying t = some d := h
  simp [underlying, this]
theorem run_info {t : TypeId} {i : TypeInfo} (h : P.info? t = some i) : (typeInfo t).run P w = .ok i w := by
  simp [typeInfo, h]
theorem run_size {t : TypeId} {n : Nat} (h : size P t = some n) : (sizeOf t).run P w = .ok n w := by
  simp only [size, Option.map_eq_some_iff] at h
  obtain ⟨i, h1, rfl⟩ := h
  simp [sizeOf, run_info h1]
theorem run_agg {t : TypeId} {b : Bool} (h : isAggT P t = some b) : (isAgg t).run P w = .ok b w := by
  cases hu : und P t with
  | none => simp [isAggT, hu] at h
  | some d =>
    simp only [isAgg, Sem.run_bind, run_und hu, Result.andThen_ok]
    cases d <;> simp_all [isAggT]

theorem ofValue_rel (v : Value) : VRel ρ (AV.ofValue v) v := by
  have one : ∀ v : Value, VRel ρ (match v with | .agg cs => .agg (cs.toList.map .val) | v => .val v) v := fun v => by
    split
    · exact .agg (LRel.vals _)
    · exact .val _
  cases v <;> simp only [AV.ofValue] <;> try exact .val _
  · exact .iface (one _)
  · exact .agg (LRel.vals _)
  · rename_i vs
    refine .tuple ?_
    generalize vs.toList = l
    induction l with
    | nil => exact .nil
    | cons v l ih => exact .cons (one v) ih

theorem run_zero {t : TypeId} {z : AV} (h : zero P t = some z) : ∃ v, (zeroValue t).run P w = .ok v w ∧ VRel ρ z v := by
  simp only [zero, Option.map_eq_some_iff, Option.bind_eq_some_iff] at h
  obtain ⟨v, ⟨i, h1, h2⟩, rfl⟩ := h
  exact ⟨v, by simp [zeroValue, run_info h1, h2], ofValue_rel v⟩

theorem evalPure_run {α : Type} {s : Sem α} {a : α} (h : evalPure P s = some a) : s.run P w = .ok a w := by
  induction s with
  | pure x => simp [evalPure] at h; subst h; rfl
  | program k ih => simp only [evalPure] at h; simp only [Sem.run]; exact ih _ h
  | mark m k ih => simp only [evalPure] at h; simp only [Sem.run]; exact ih h
  | _ => simp [evalPure] at h

/-- A value's cells. -/
theorem cells_rel {a : AV} {v : Value} (h : VRel ρ a v) : LRel ρ a.cells v.cells.toList := by
  cases h with
  | val v =>
    cases v <;> try exact .cons (.val _) .nil
    exact LRel.vals _
  | agg h => exact h
  | ptr h => exact .cons (.ptr h) .nil
  | slice h => exact .cons (.slice h) .nil
  | sliceE h ht hz hl => exact .cons (.sliceE h ht hz hl) .nil
  | void => exact .cons .void .nil
  | map h => exact .cons (.map h) .nil
  | yld h => exact .cons (.yld h) .nil
  | func hf hc => exact .cons (.func hf hc) .nil
  | iface h => exact .cons (.iface h) .nil
  | tuple h => exact .cons (.tuple h) .nil
end
end Go.Ev

namespace Go.Ev

def DRel (ρ : Ren) (d : ADef) (d' : Deferred) : Prop := ∃ cap', d'.target = .fn d.fn cap' ∧ (∀ b, d.fn ≠ .yield b) ∧ LRel ρ d.captured cap'.toList ∧ LRel ρ d.args d'.args.toList

def NRel (ρ : Ren) : ANext → Next → Prop
  | .value v, .value v' => VRel ρ v v'
  | .skip, .skip => True
  | .enter f args, .enter f' args' => f' = f ∧ LRel ρ args args'.toList
  | .round l f t nt as body, .round l' f' t' as' body' => (∃ e, ρ l = some e ∧ l' = e.blk) ∧ f' = f ∧ TRel ρ nt t t' ∧ as' = as ∧ body' = body
  | .defer d, .defer d' => DRel ρ d d'
  | .recover, .recover => True
  | _, _ => False

/-- What an operation comes to, by the names. -/
def OpOut (P : Program) (ρ : Ren) (h : H) (w : World) (x : ANext) (h' : H) (r : Result Next) : Prop :=
  (∃ v ρ' v' w', x = .panic v ∧ r = .halt (.panic v') w' ∧ VRel ρ' v v' ∧ Good ρ' h' w' ∧ Trans ρ h w ρ' h' w') ∨
  (∃ ρ' n w', r = .ok n w' ∧ NRel ρ' x n ∧ Good ρ' h' w' ∧ Trans ρ h w ρ' h' w')

def Reads (P : Program) (ρ : Ren) (w : World) (s : Sem Value) (v : AV) : Prop := ∃ y, s.run P w = .ok y w ∧ VRel ρ v y

section
variable {ρ : Ren} {h h' : H} {w : World} {P : Program}

/-- A name that is not in use yet. -/
def Fresh (ρ : Ren) (h h' : H) : Prop := ∀ b, h.next ≤ b → b < h'.next → ρ b = none

theorem out_reads {s : Sem Value} {v : AV} (g : Good ρ h w) (hs : Reads P ρ w s v) : OpOut P ρ h w (.value v) h ((do pure (.value (← s)) : Sem Next).run P w) := by
  obtain ⟨y, h1, h2⟩ := hs
  exact .inr ⟨ρ, .value y, w, by simp [h1], h2, g, .refl _ _ _⟩

theorem out_value {v : AV} {y : Value} (g : Good ρ h w) (hv : VRel ρ v y) : OpOut P ρ h w (.value v) h (.ok (.value y) w) :=
  .inr ⟨ρ, .value y, w, rfl, hv, g, .refl _ _ _⟩

theorem load_ok {t : TypeId} {a v : AV} {a' : Value} (g : Good ρ h w) (hl : load P h t a = some v) (ha : VRel ρ a a') : Reads P ρ w (Instr.loadAt t a') v := by
  unfold load at hl
  split at hl
  · rename_i b off
    cases ha with
    | ptr he =>
      rename_i e
      split at hl
      · rename_i n hag hsz
        simp only [Option.map_eq_some_iff] at hl
        obtain ⟨l, hr, rfl⟩ := hl
        obtain ⟨vs, h1, h2, h3⟩ := run_read (P := P) g hr he
        exact ⟨.agg vs.toArray, by simp [Instr.loadAt, Instr.sureAddr, loadVar, run_agg hag, run_size hsz, h3], .agg (by simpa using h1)⟩
      · rename_i hag
        simp only [Option.bind_eq_some_iff] at hl
        obtain ⟨l, hr, hv⟩ := hl
        obtain ⟨vs, h1, h2, h3, h4⟩ := read_cells g hr he
        cases h1 with
        | nil => simp at hv
        | cons hxy ht =>
          simp at hv; subst hv
          rename_i x y _ _
          have := h4 0 y (by simp)
          refine ⟨y, ?_, hxy⟩
          simp at this
          simp [Instr.loadAt, Instr.sureAddr, loadVar, run_agg hag, this]
      · cases hl
  · cases hl

theorem store_ok {t : TypeId} {a v : AV} {a' v' : Value} (g : Good ρ h w) (hl : store P h t a v = some h') (ha : VRel ρ a a') (hv : VRel ρ v v') :
    ∃ w', (Instr.storeAt t a' v').run P w = .ok () w' ∧ Good ρ h' w' ∧ Trans ρ h w ρ h' w' ∧ h'.next = h.next := by
  unfold store at hl
  split at hl
  · rename_i b off n hsz
    cases ha with
    | ptr he =>
      split at hl
      · rename_i hn
        have hc := cells_rel hv
        obtain ⟨w', h1, h2⟩ := write_cells (P := P) g hl he hc
        have hlen := hc.length
        have : v'.cells.size = n := by simp at hn hlen; omega
        refine ⟨w', ?_, h2⟩
        simp [Instr.storeAt, Instr.sureAddr, storeVar, run_size hsz, this, h1]
      · cases hl
  · cases hl

/-- A new row of cells. -/
theorem newRow_ok {elem : TypeId} {cells : List AV} {opn str : Bool} {b : Nat} (g : Good ρ h w) (hn : newRow h elem cells opn str = some (b, h')) (hf : ρ h.next = none)
    (c : Array Value) (hc : LRel ρ cells (c.toList.take cells.length)) (hle : cells.length ≤ c.size) (ho : opn = false → cells.length = c.size) (fz : Nat × Nat)
    (hfz : fz.1 = fz.2 ∨ c.size ≤ fz.1) (hst : str = false → fz.1 = fz.2) :
    b = h.next ∧ Good (ρ.with b ⟨w.heap.size, 0, c.size⟩) h' (w.alloc (.cells c elem fz)) ∧ Trans ρ h w (ρ.with b ⟨w.heap.size, 0, c.size⟩) h' (w.alloc (.cells c elem fz)) := by
  unfold newRow at hn
  split at hn
  · cases hn
    refine ⟨rfl, ?_⟩
    refine good_new g hf rfl ⟨rfl, by simp, hle, ho, fun i x hx => ?_, hfz, hst⟩
    obtain ⟨y, h1, h2⟩ := (hc.mono (Ren.le_with hf)).get i x hx
    have hi : i < cells.length := (List.getElem?_eq_some_iff.1 hx).1
    rw [List.getElem?_take, if_pos hi] at h1
    exact ⟨y, by simpa using h1, h2⟩
  · cases hn

theorem newRow_closed {elem : TypeId} {cells : List AV} {b : Nat} (g : Good ρ h w) (hn : newRow h elem cells = some (b, h')) (hf : ρ h.next = none)
    (c : Array Value) (hc : LRel ρ cells c.toList) :
    b = h.next ∧ Good (ρ.with b ⟨w.heap.size, 0, c.size⟩) h' (w.alloc (.cells c elem)) ∧ Trans ρ h w (ρ.with b ⟨w.heap.size, 0, c.size⟩) h' (w.alloc (.cells c elem)) := by
  have hl := hc.length
  simp at hl
  exact newRow_ok g hn hf c (by rw [hl]; simpa [List.take_of_length_le] using hc) (by omega) (fun _ => hl) (0, 0) (.inl rfl) (fun _ => rfl)

/-! ### Literals -/
inductive PRel (ρ : Ren) : List (Nat × AV) → List (Nat × Value) → Prop
  | nil : PRel ρ [] []
  | cons {i : Nat} {a : AV} {v : Value} {l : List (Nat × AV)} {l' : List (Nat × Value)} (h : VRel ρ a v) (t : PRel ρ l l') : PRel ρ ((i, a) :: l) ((i, v) :: l')

theorem foldl_set (off : Nat) : ∀ (l : List Value) (n : Nat) (cs : Array Value),
    ((l.zipIdx n).foldl (fun cs p => cs.setIfInBounds (off + p.2) p.1) cs).size = cs.size ∧
    ∀ k, off + n + l.length ≤ cs.size → ((l.zipIdx n).foldl (fun cs p => cs.setIfInBounds (off + p.2) p.1) cs)[k]? = if off + n ≤ k ∧ k < off + n + l.length then l[k - (off + n)]? else cs[k]?
  | [], n, cs => ⟨rfl, fun k _ => by rw [if_neg (by simp)]; rfl⟩
  | v :: l, n, cs => by
    have ih := foldl_set off l (n + 1) (cs.setIfInBounds (off + n) v)
    simp only [List.zipIdx_cons, List.foldl_cons]
    refine ⟨by rw [ih.1]; simp, fun k hk => ?_⟩
    rw [ih.2 k (by simp at hk ⊢; omega)]
    simp only [List.length_cons] at hk ⊢
    by_cases h1 : off + (n + 1) ≤ k ∧ k < off + (n + 1) + l.length
    · rw [if_pos h1, if_pos (by omega)]
      have : k - (off + n) = (k - (off + (n + 1))) + 1 := by omega
      rw [this, List.getElem?_cons_succ]
    · rw [if_neg h1, Array.getElem?_setIfInBounds]
      by_cases h2 : off + n = k
      · subst h2
        have : off + n < cs.size := by omega
        simp [this]
      · rw [if_neg h2, if_neg (by omega)]

theorem fill_ok {place : Nat → Option (Nat × Nat)} : ∀ {ps : List (Nat × AV)} {ps' : List (Nat × Value)}, PRel ρ ps ps' → ∀ {cells r : List AV} {cells' : Array Value}, LRel ρ cells cells'.toList →
    fillA place cells ps = some r → ∃ r', Instr.fill place cells' ps' = some r' ∧ LRel ρ r r'.toList
  | _, _, .nil, cells, r, cells', hc, hf => by simp [fillA] at hf; subst hf; exact ⟨cells', rfl, hc⟩
  | _, _, .cons (i := i) (a := a) (v := v) hv ht, cells, r, cells', hc, hf => by
    simp only [fillA] at hf
    split at hf
    · rename_i off n hp
      split at hf
      · rename_i hn
        simp only [Bool.and_eq_true, beq_iff_eq, Bool.or_eq_true, bne_iff_ne, Nat.ble_eq] at hn
        simp only [Option.bind_eq_some_iff] at hf
        obtain ⟨c, h1, h2⟩ := hf
        have hvc := cells_rel hv
        have hlen := hvc.length
        have hcl := hc.length
        have ⟨hol, hob⟩ := over_len _ _ _ _ h1
        have hog := over_get _ _ _ _ h1
        simp only [Instr.fill, hp]
        have hsz : v.cells.size = n := by simp at hlen; omega
        by_cases he : a.cells = []
        · rw [he] at hvc h1
          have hz : v.cells = #[] := by
            have : v.cells.toList = [] := by generalize v.cells.toList = q at hvc; cases hvc; rfl
            simpa using this
          have hcc : c = cells := by cases cells <;> simp [over] at h1 <;> simp [h1]
          subst hcc
          have hn0 : n = 0 := by rw [← hsz, hz]; rfl
          have hoff : off ≤ cells'.size := by
            simp at hcl; rw [← hcl]
            have := hn
            simp [hn0] at this
            exact this.2
          have e : v.cells.zipIdx.foldl (fun cs (c, j) => cs.setIfInBounds (off + j) c) cells' = (v.cells.toList.zipIdx 0).foldl (fun cs p => cs.setIfInBounds (off + p.2) p.1) cells' := by
            rw [← Array.foldl_toList, Array.toList_zipIdx]
          rw [if_neg (by simp [hz, hn0]; omega), e, hz]
          exact fill_ok ht hc h2
        · have hb := hob he
          simp at hcl
          rw [if_neg (by simp; simp at hlen; omega)]
          have hfs := foldl_set off v.cells.toList 0 cells'
          have e : v.cells.zipIdx.foldl (fun cs (c, j) => cs.setIfInBounds (off + j) c) cells' = (v.cells.toList.zipIdx 0).foldl (fun cs p => cs.setIfInBounds (off + p.2) p.1) cells' := by
            rw [← Array.foldl_toList, Array.toList_zipIdx]
          rw [e]
          refine fill_ok ht ?_ h2
          simp at hlen
          refine LRel.of_get (by simp [hfs.1]; omega) fun k x y hx hy => ?_
          rw [hog k] at hx
          rw [Array.getElem?_toList, hfs.2 k (by simp; omega)] at hy
          simp only [Array.length_toList, Nat.add_zero] at hy
          by_cases hk : off ≤ k ∧ k < off + a.cells.length
          · rw [if_pos hk] at hx
            rw [if_pos (by omega)] at hy
            obtain ⟨z, hz1, hz2⟩ := hvc.get _ _ hx
            rw [hz1] at hy; cases hy; exact hz2
          · rw [if_neg hk] at hx
            rw [if_neg (by omega)] at hy
            obtain ⟨z, hz1, hz2⟩ := hc.get _ _ hx
            rw [Array.getElem?_toList] at hz1
            rw [hz1] at hy; cases hy; exact hz2
      · cases hf
    · cases hf
end
end Go.Ev

namespace Go.Ev
section
variable {ρ : Ren} {h h' : H} {w : World} {P : Program} {ev : Operand → Option AV} {a : Operand → Value}

theorem parts_rel (hev : ∀ x v, ev x = some v → VRel ρ v (a x)) : ∀ {l : List (Nat × Operand)} {ps : List (Nat × AV)}, parts ev l = some ps → PRel ρ ps (l.map fun (i, x) => (i, a x))
  | [], ps, h => by simp [parts] at h; subst h; exact .nil
  | (i, x) :: l, ps, h => by
    simp only [parts, Option.bind_eq_some_iff, Option.map_eq_some_iff] at h
    obtain ⟨v, h1, r, h2, rfl⟩ := h
    exact .cons (hev _ _ h1) (parts_rel hev h2)
theorem evs_rel (hev : ∀ x v, ev x = some v → VRel ρ v (a x)) : ∀ {l : List Operand} {vs : List AV}, evs ev l = some vs → LRel ρ vs (l.map a)
  | [], ps, h => by simp [evs] at h; subst h; exact .nil
  | x :: l, ps, h => by
    simp only [evs, Option.bind_eq_some_iff, Option.map_eq_some_iff] at h
    obtain ⟨v, h1, r, h2, rfl⟩ := h
    exact .cons (hev _ _ h1) (evs_rel hev h2)

theorem asNat_ok {x : AV} {x' : Value} {n : Nat} (hx : VRel ρ x x') (h : asNat x = some n) : ∃ k i, x' = .int k i ∧ 0 ≤ i ∧ i.toNat = n ∧ x = .val (.int k i) := by
  unfold asNat at h
  split at h
  · rename_i k i
    split at h
    · rename_i h0
      cases h; cases hx
      exact ⟨k, i, rfl, h0, rfl, rfl⟩
    · cases h
  · cases h

theorem run_newRow' {elem : TypeId} {c : Array Value} : (Go.newRow elem c).run P w = .ok ⟨w.heap.size, 0, none⟩ (w.alloc (.cells c elem)) := by
  simp [Go.newRow]

theorem fresh_lt (hf : Fresh ρ h h') (hn : h.next < h'.next) : ρ h.next = none := hf _ (Nat.le_refl _) hn

theorem newRow_next {elem : TypeId} {cells : List AV} {opn str : Bool} {b : Nat} (hn : newRow h elem cells opn str = some (b, h')) : h'.next = h.next + 1 := by
  unfold newRow at hn; split at hn <;> cases hn; rfl

theorem box_ok {elem : TypeId} {v : AV} {v' : Value} {b : Nat} (g : Good ρ h w) (hv : VRel ρ v v') (hn : newRow h elem v.cells = some (b, h')) (hf : Fresh ρ h h') :
    OpOut P ρ h w (.value (.ptr b 0)) h' ((do pure (.value (← Instr.box elem v')) : Sem Next).run P w) := by
  obtain ⟨rfl, h1, h2⟩ := newRow_closed g hn (fresh_lt hf (by rw [newRow_next hn]; omega)) v'.cells (cells_rel hv)
  exact .inr ⟨_, .value (.pointer (some ⟨w.heap.size, 0, none⟩)), _, by simp [Instr.box, newVar, run_newRow'], .ptr (e := ⟨w.heap.size, 0, v'.cells.size⟩) (by simp), h1, h2⟩

theorem alloc_ok {elem : TypeId} {z : AV} {b : Nat} (g : Good ρ h w) (hz : zero P elem = some z) (hn : newRow h elem z.cells = some (b, h')) (hf : Fresh ρ h h') :
    OpOut P ρ h w (.value (.ptr b 0)) h' ((do pure (.value (← Instr.alloc elem true (.tuple #[]))) : Sem Next).run P w) := by
  obtain ⟨v', hz1, hz2⟩ := run_zero (P := P) (w := w) (ρ := ρ) hz
  obtain ⟨rfl, h1, h2⟩ := newRow_closed g hn (fresh_lt hf (by rw [newRow_next hn]; omega)) v'.cells (cells_rel hz2)
  exact .inr ⟨_, .value (.pointer (some ⟨w.heap.size, 0, none⟩)), _, by simp [Instr.alloc, newVar, run_newRow', hz1], .ptr (e := ⟨w.heap.size, 0, v'.cells.size⟩) (by simp), h1, h2⟩

theorem mapM_places {fields : Array Field} (hall : ∀ (i : Nat) (f : Field), fields[i]? = some f → ∃ n, size P f.type = some n) :
    ∃ places, (fields.mapM (fun (f : Field) => do pure (f.offset, ← sizeOf f.type)) : Sem (Array (Nat × Nat))).run P w = .ok places w ∧ ∀ i, places[i]? = fieldsPlaces P fields i := by
  obtain ⟨l⟩ := fields
  have key : ∀ (l : List Field), (∀ (i : Nat) (f : Field), l[i]? = some f → ∃ n, size P f.type = some n) →
      ∃ pl : List (Nat × Nat), (l.mapM (fun (f : Field) => do pure (f.offset, ← sizeOf f.type)) : Sem (List (Nat × Nat))).run P w = .ok pl w ∧ ∀ i : Nat, pl[i]? = (l[i]?).bind fun (f : Field) => (size P f.type).map fun n => (f.offset, n) := by
    intro l
    induction l with
    | nil => intro _; exact ⟨[], rfl, fun i => by simp⟩
    | cons f l ih =>
      intro hl
      obtain ⟨n, hn⟩ := hl 0 f rfl
      obtain ⟨pl, h1, h2⟩ := ih fun i g hg => hl (i + 1) g (by simpa using hg)
      refine ⟨(f.offset, n) :: pl, by simp only [List.mapM_cons, Sem.run_bind, run_size hn, Result.andThen_ok, Sem.run_pure, h1], fun i => ?_⟩
      cases i with
      | zero => simp [hn]
      | succ i => simpa using h2 i
  obtain ⟨pl, h1, h2⟩ := key l fun i f hi => hall i f (by simpa using hi)
  refine ⟨pl.toArray, ?_, fun i => by simpa [fieldsPlaces] using h2 i⟩
  rw [show (Array.mk l) = l.toArray from rfl, List.mapM_toArray, Sem.run_map, h1]
  rfl

theorem build_ok {t : TypeId} {z v : AV} {ps : List (Nat × AV)} {ps' : Array (Nat × Value)} {d : TypeDesc} (hz : zero P t = some z) (hp : PRel ρ ps ps'.toList) (hu : und P t = some d)
    (he : (match d with
      | .struct fields => if fields.toList.all (fun f => (size P f.type).isSome) then (fillA (fieldsPlaces P fields) z.cells ps).map AV.agg else none
      | .array _ elem => (size P elem).bind fun n => (fillA (fun i => some (i * n, n)) z.cells ps).map AV.agg
      | _ => none) = some v) : Reads P ρ w (Instr.build t ps') v := by
  obtain ⟨z', hz1, hz2⟩ := run_zero (P := P) (w := w) (ρ := ρ) hz
  have hzc := cells_rel hz2
  split at he
  · rename_i fields hu
    split at he
    · rename_i hall
      simp only [Option.map_eq_some_iff] at he
      obtain ⟨r, h1, rfl⟩ := he
      obtain ⟨places, hp1, hp2⟩ := mapM_places (P := P) (w := w) (fields := fields) fun i f hf => by
        rw [List.all_eq_true] at hall
        have := hall f (Array.mem_toList_iff.2 (Array.mem_of_getElem? hf))
        exact Option.isSome_iff_exists.1 this
      obtain ⟨r', h2, h3⟩ := fill_ok (place := (places[·]?)) hp hzc (by rw [show (fun i => places[i]?) = fieldsPlaces P fields from funext hp2]; exact h1)
      refine ⟨.agg r', ?_, .agg h3⟩
      simp only [Instr.build, Sem.run_bind, hz1, Result.andThen_ok, run_und hu, hp1, h2, Sem.run_pure]
    · cases he
  · rename_i n elem hu
    simp only [Option.bind_eq_some_iff, Option.map_eq_some_iff] at he
    obtain ⟨n, hn, r, h1, rfl⟩ := he
    obtain ⟨r', h2, h3⟩ := fill_ok hp hzc h1
    refine ⟨.agg r', ?_, .agg h3⟩
    simp only [Instr.build, Sem.run_bind, hz1, Result.andThen_ok, run_und hu, run_size hn, h2, Sem.run_pure]
  · cases he

theorem repeat_len (l : List AV) : ∀ n, (repeatN l n).length = n * l.length
  | 0 => by simp [repeatN]
  | n + 1 => by simp [repeatN, repeat_len l n, Nat.add_mul, Nat.add_comm]

theorem repeat_get (l : List AV) : ∀ (n k : Nat), k < n * l.length → (repeatN l n)[k]? = l[k % l.length]?
  | 0, k, h => by simp at h
  | n + 1, k, h => by
    simp only [repeatN]
    by_cases hk : k < l.length
    · rw [List.getElem?_append_left hk, Nat.mod_eq_of_lt hk]
    · have hk' : l.length ≤ k := Nat.le_of_not_lt hk
      rw [List.getElem?_append_right hk', repeat_get l n (k - l.length) (by rw [Nat.add_mul] at h; omega)]
      rw [← Nat.mod_eq_sub_mod hk']

/-- Zero cells over and over. -/
theorem repeat_rel {z : List AV} {z' : Array Value} (hz : LRel ρ z z'.toList) (n m : Nat) (hm : m = n * z.length) :
    LRel ρ (repeatN z n) ((Array.range m).map (z'[· % z'.size]!)).toList := by
  have hl := hz.length
  simp at hl
  refine LRel.of_get (by simp [repeat_len, hm]) fun i x y hx hy => ?_
  have hi : i < m := by have := (List.getElem?_eq_some_iff.1 hx).1; rw [repeat_len] at this; omega
  rw [repeat_get z n i (by omega)] at hx
  obtain ⟨u, h1, h2⟩ := hz.get _ _ hx
  rw [hl, Array.getElem?_toList] at h1
  have hpos : i % z'.size < z'.size := (Array.getElem?_eq_some_iff.1 h1).1
  have : z'[i % z'.size]! = u := by rw [getElem!_pos z' _ hpos]; exact (Array.getElem?_eq_some_iff.1 h1).2
  simp [hi, this] at hy
  rw [← hy]; exact h2

theorem buildSlice_ok {t elem : TypeId} {len sz : Nat} {z cells : List AV} {ps : List (Nat × AV)} {ps' : Array (Nat × Value)} {b : Nat} (g : Good ρ h w)
    (hu : und P t = some (.slice elem)) (hs : size P elem = some sz) (hp : PRel ρ ps ps'.toList) (h24 : len * sz ≤ 2 ^ 24)
    (hz : (if len * sz = 0 then some [] else (zero P elem).map (·.cells)) = some z) (hzl : len * sz ≠ 0 → z.length = sz)
    (hfl : fillA (fun i => some (i * sz, sz)) (repeatN z len) ps = some cells) (hn : newRow h elem cells = some (b, h')) (hf : Fresh ρ h h') :
    OpOut P ρ h w (.value (.slice b 0 len len)) h' ((do pure (.value (← Instr.buildSlice t len ps')) : Sem Next).run P w) := by
  have key : ∃ z' : Array Value, (len * sz = 0 → z' = #[]) ∧ (len * sz ≠ 0 → ∃ v', (zeroValue elem).run P w = .ok v' w ∧ v'.cells = z') ∧ LRel ρ (repeatN z len) ((Array.range (len * sz)).map (z'[· % z'.size]!)).toList := by
    by_cases h0 : len * sz = 0
    · rw [if_pos h0] at hz; cases hz
      refine ⟨#[], fun _ => rfl, fun h => absurd h0 h, ?_⟩
      rw [h0]
      have : repeatN ([] : List AV) len = [] := by apply List.eq_nil_of_length_eq_zero; simp [repeat_len]
      rw [this, show Array.range 0 = #[] from rfl, Array.map_empty]
      exact .nil
    · rw [if_neg h0] at hz
      simp only [Option.map_eq_some_iff] at hz
      obtain ⟨zv, hz0, rfl⟩ := hz
      obtain ⟨v', hz1, hz2⟩ := run_zero (P := P) (w := w) (ρ := ρ) hz0
      exact ⟨v'.cells, fun h => absurd h h0, fun _ => ⟨v', hz1, rfl⟩, repeat_rel (cells_rel hz2) _ _ (by rw [hzl h0])⟩
  obtain ⟨z', hz0, hz1, hz2⟩ := key
  obtain ⟨r', h2, h3⟩ := fill_ok hp hz2 hfl
  obtain ⟨rfl, h4, h5⟩ := newRow_closed g hn (fresh_lt hf (by rw [newRow_next hn]; omega)) r' h3
  refine .inr ⟨_, .value (.slice (some ⟨w.heap.size, 0, none⟩) len len), _, ?_, .slice (e := ⟨w.heap.size, 0, r'.size⟩) (by simp), h4, h5⟩
  have hnot : ¬ (len * sz > 2 ^ 24) := by omega
  by_cases h0 : len * sz = 0
  · have := hz0 h0; subst this
    simp only [Instr.buildSlice, Sem.run_bind, run_und hu, Result.andThen_ok, run_size hs, if_neg hnot, Sem.run_pure, if_pos h0, h2, run_newRow']
  · obtain ⟨v', h6, rfl⟩ := hz1 h0
    simp only [Instr.buildSlice, Sem.run_bind, run_und hu, Result.andThen_ok, run_size hs, if_neg hnot, Sem.run_pure, if_neg h0, h6, h2, run_newRow']

theorem makeSlice_ok {t elem : TypeId} {x y : AV} {x' y' : Value} {l c sz : Nat} {z : List AV} {info : TypeInfo} {b : Nat} (g : Good ρ h w)
    (hu : und P t = some (.slice elem)) (hx : VRel ρ x x') (hy : VRel ρ y y') (hl : asNat x = some l) (hc : asNat y = some c) (hs : size P elem = some sz) (hi : P.info? elem = some info)
    (hlc : l ≤ c) (hc40 : c < 2 ^ 40) (hb : info.bytes * c ≤ 2 ^ 40)
    (hz : (if c * sz = 0 then some [] else (zero P elem).map (·.cells)) = some z) (hzl : c * sz ≠ 0 → z.length = sz)
    (hn : newRow h elem (repeatN z c) = some (b, h')) (hf : Fresh ρ h h') :
    OpOut P ρ h w (.value (.slice b 0 l c)) h' ((do pure (.value (← Instr.makeSlice t x' y')) : Sem Next).run P w) := by
  obtain ⟨k, i, rfl, hi0, hil, -⟩ := asNat_ok hx hl
  obtain ⟨k', j, rfl, hj0, hjc, -⟩ := asNat_ok hy hc
  have hw : ∀ n : Int, 0 ≤ n → n < 2 ^ 40 → IntKind.i64.wrap n = n := fun n h1 h2 => by
    simp only [IntKind.wrap, IntKind.signed, IntKind.bits]
    have : n % 2 ^ 64 = n := Int.emod_eq_of_lt h1 (by omega)
    simp only [this]
    rw [if_neg (by simp; omega)]
  have hwi := hw i hi0 (by omega)
  have hwj := hw j hj0 (by omega)
  have hbj : (info.bytes : Int) * j ≤ 2 ^ 40 := by
    have : ((info.bytes * c : Nat) : Int) ≤ 2 ^ 40 := by exact_mod_cast hb
    rw [Int.natCast_mul] at this
    have e : (c : Int) = j := by omega
    rwa [e] at this
  have hns : ((j < 0 || (info.bytes : Int) * j > 2 ^ 48) || i < 0 || i > j) = false := by
    simp only [Bool.or_eq_false_iff, decide_eq_false_iff_not]
    refine ⟨⟨⟨by omega, by omega⟩, by omega⟩, by omega⟩
  have key : ∃ z' : Array Value, (c * sz = 0 → z' = #[]) ∧ (c * sz ≠ 0 → ∃ v', (zeroValue elem).run P w = .ok v' w ∧ v'.cells = z') ∧ LRel ρ (repeatN z c) ((Array.range (c * sz)).map (z'[· % z'.size]!)).toList := by
    by_cases h0 : c * sz = 0
    · rw [if_pos h0] at hz; cases hz
      refine ⟨#[], fun _ => rfl, fun h => absurd h0 h, ?_⟩
      rw [h0]
      have : repeatN ([] : List AV) c = [] := by apply List.eq_nil_of_length_eq_zero; simp [repeat_len]
      rw [this, show Array.range 0 = #[] from rfl, Array.map_empty]
      exact .nil
    · rw [if_neg h0] at hz
      simp only [Option.map_eq_some_iff] at hz
      obtain ⟨zv, hz0, rfl⟩ := hz
      obtain ⟨v', hz1, hz2⟩ := run_zero (P := P) (w := w) (ρ := ρ) hz0
      exact ⟨v'.cells, fun h => absurd h h0, fun _ => ⟨v', hz1, rfl⟩, repeat_rel (cells_rel hz2) _ _ (by rw [hzl h0])⟩
  obtain ⟨z', hz0, hz1, hz2⟩ := key
  obtain ⟨rfl, h4, h5⟩ := newRow_closed g hn (fresh_lt hf (by rw [newRow_next hn]; omega)) _ hz2
  refine .inr ⟨_, .value (.slice (some ⟨w.heap.size, 0, none⟩) l c), _, ?_, .slice (e := ⟨w.heap.size, 0, _⟩) (by simp; rfl), h4, h5⟩
  simp only [Instr.makeSlice, Sem.run_bind, run_und hu, Result.andThen_ok, asInt, asIntOf, Sem.run_pure, run_info hi, hwi, hwj, run_size hs, run_askRoom]
  rw [if_neg (by simpa using hns)]
  by_cases h0 : c * sz = 0
  · have := hz0 h0; subst this
    simp only [Sem.run_bind, run_askRoom, Result.andThen_ok, hjc, hil, Sem.run_pure, if_pos h0, run_newRow', run_size hs]
  · obtain ⟨v', h6, rfl⟩ := hz1 h0
    simp only [Sem.run_bind, run_askRoom, Result.andThen_ok, hjc, hil, Sem.run_pure, if_neg h0, h6, run_newRow', run_size hs]
end
end Go.Ev

namespace Go.Ev
section
variable {ρ : Ren} {h h' : H} {w : World} {P : Program} {ev : Operand → Option AV} {a : Operand → Value}

theorem part_ok {t : TypeId} {cs : List AV} {off : Nat} {v : AV} {cs' : Array Value} (hc : LRel ρ cs cs'.toList) (hp : partA P t cs off = some v) : Reads P ρ w (part t cs' off) v := by
  unfold partA at hp
  split at hp
  · rename_i hag
    simp only [Option.bind_eq_some_iff, Option.map_eq_some_iff] at hp
    obtain ⟨n, hn, l, h1, rfl⟩ := hp
    rw [dropN_eq] at h1
    obtain ⟨rfl, h2⟩ := takeN_eq _ _ _ h1
    refine ⟨.agg (cs'.extract off (off + n)), by simp [part, run_agg hag, run_size hn], .agg ?_⟩
    have := (hc.drop off).take n
    rw [Array.toList_extract]
    simpa [List.extract_eq_take_drop] using this
  · rename_i hag
    rw [dropN_eq] at hp
    have h1 : cs[off]? = some v := by simpa [List.head?_drop] using hp
    obtain ⟨y, h2, h3⟩ := hc.get _ _ h1
    rw [Array.getElem?_toList] at h2
    exact ⟨y, by simp [part, run_agg hag, h2], h3⟩
  · cases hp

theorem field_ok {t : TypeId} {v : AV} {x' : Value} {fields : Array Field} {f : Nat} {fd : Field} {l : List AV} (hu : und P t = some (.struct fields)) (hf : fields[f]? = some fd)
    (hx : VRel ρ (.agg l) x') (hp : partA P fd.type l fd.offset = some v) : Reads P ρ w (Instr.field t x' f) v := by
  cases hx with
  | agg hc =>
    obtain ⟨y, h1, h2⟩ := part_ok (w := w) hc hp
    exact ⟨y, by simp [Instr.field, run_und hu, hf, asAgg, h1], h2⟩

theorem fieldAt_ok {t : TypeId} {x' : Value} {fields : Array Field} {f b o n : Nat} {fd : Field} (hu : und P t = some (.struct fields)) (hf : fields[f]? = some fd)
    (hx : VRel ρ (.ptr b o) x') (hs : size P fd.type = some (n + 1)) : Reads P ρ w (Instr.fieldAt t x' f) (.ptr b (o + fd.offset)) := by
  cases hx with
  | ptr he =>
    refine ⟨_, ?_, .ptr he⟩
    simp [Instr.fieldAt, run_und hu, hf, Instr.sureAddr, fieldPlace, run_size hs, add_none, Nat.add_assoc]

theorem index_array {t elem : TypeId} {l : List AV} {x' ix' : Value} {ix v : AV} {i n len : Nat} (hu : und P t = some (.array len elem)) (hx : VRel ρ (.agg l) x') (hi : VRel ρ ix ix') (hn : asNat ix = some i)
    (hs : size P elem = some n) (hlt : i < len) (hp : partA P elem l (i * n) = some v) : Reads P ρ w (Instr.index t x' ix') v := by
  obtain ⟨k, j, rfl, h0, rfl, -⟩ := asNat_ok hi hn
  cases hx with
  | agg hc =>
    obtain ⟨y, h1, h2⟩ := part_ok (w := w) hc hp
    refine ⟨y, ?_, h2⟩
    have : 0 ≤ j ∧ j < (len : Int) := ⟨h0, by omega⟩
    simp [Instr.index, asIntOf, run_und hu, this, run_size hs, h1]

theorem index_string {t : TypeId} {s : ByteArray} {x' ix' : Value} {ix : AV} {i : Nat} {c : UInt8} (hu : und P t = some .string) (hx : VRel ρ (.val (.string s)) x') (hi : VRel ρ ix ix') (hn : asNat ix = some i)
    (hc : s[i]? = some c) : Reads P ρ w (Instr.index t x' ix') (.val (.int .u8 c.toNat)) := by
  obtain ⟨k, j, rfl, h0, rfl, -⟩ := asNat_ok hi hn
  cases hx
  exact ⟨.int .u8 c.toNat, by simp [Instr.index, asIntOf, run_und hu, h0, hc], .val _⟩

theorem indexAt_array {t elem : TypeId} {x' ix' : Value} {ix : AV} {b o i n len : Nat} (hu : und P t = some (.array len elem)) (hx : VRel ρ (.ptr b o) x') (hi : VRel ρ ix ix') (hn : asNat ix = some i)
    (hs : size P elem = some n) (hlt : i < len) : Reads P ρ w (Instr.indexAt t x' ix') (.ptr b (o + i * n)) := by
  obtain ⟨k, j, rfl, h0, rfl, -⟩ := asNat_ok hi hn
  cases hx with
  | ptr he =>
    refine ⟨_, ?_, .ptr he⟩
    have : 0 ≤ j ∧ j < (len : Int) := ⟨h0, by omega⟩
    simp [Instr.indexAt, asIntOf, run_und hu, Instr.sureAddr, this, run_size hs, add_none, Nat.add_assoc]

theorem indexAt_slice {t elem : TypeId} {x : AV} {x' ix' : Value} {ix : AV} {b o i n len : Nat} (hu : und P t = some (.slice elem)) (hx : VRel ρ x x') (hxs : (∃ cap, x = .slice b o len cap) ∨ (∃ sz, x = .sliceE b o len sz))
    (hi : VRel ρ ix ix') (hn : asNat ix = some i) (hs : size P elem = some n) (hlt : i < len) : Reads P ρ w (Instr.indexAt t x' ix') (.ptr b (o + i * n)) := by
  obtain ⟨k, j, rfl, h0, rfl, -⟩ := asNat_ok hi hn
  have : ∃ e cap, ρ b = some e ∧ x' = .slice (some ⟨e.blk, e.off + o, none⟩) len cap := by
    rcases hxs with ⟨cap, rfl⟩ | ⟨sz, rfl⟩
    · cases hx with | slice he => exact ⟨_, _, he, rfl⟩
    · cases hx with | sliceE he _ _ _ => exact ⟨_, _, he, rfl⟩
  obtain ⟨e, cap, he, rfl⟩ := this
  refine ⟨_, ?_, .ptr he⟩
  have : 0 ≤ j ∧ j < (len : Int) := ⟨h0, by omega⟩
  simp [Instr.indexAt, asIntOf, run_und hu, this, run_size hs, add_none, Nat.add_assoc]

/-! ### Slicing -/
theorem bound_ok {v : AV} {v' : Value} {y i : Nat} {code : BoundsCode} (hv : VRel ρ v v') (h : boundA v y = some i) :
    (∀ y', y ≤ y' → (Instr.sliceBound v' y' code).run P w = .ok i w) ∧ i ≤ y := by
  simp only [boundA, Option.bind_eq_some_iff] at h
  obtain ⟨n, h1, h2⟩ := h
  split at h2
  · rename_i hle
    cases h2
    obtain ⟨k, j, rfl, h0, rfl, -⟩ := asNat_ok hv h1
    refine ⟨fun y' hy => ?_, hle⟩
    have : 0 ≤ j ∧ j ≤ (y' : Int) := ⟨h0, by omega⟩
    simp [Instr.sliceBound, asIntOf, this]
  · cases h2

inductive ORel (ρ : Ren) : Option AV → Option Value → Prop
  | none : ORel ρ none none
  | some {a : AV} {v : Value} (h : VRel ρ a v) : ORel ρ (some a) (some v)

theorem omap_rel (hev : ∀ x v, ev x = some v → VRel ρ v (a x)) {o : Option Operand} {r : Option AV} (h : omap ev o = some r) : ORel ρ r (o.map a) := by
  cases o with
  | none => simp [omap] at h; subst h; exact .none
  | some x =>
    simp only [omap, Option.map_eq_some_iff] at h
    obtain ⟨v, h1, rfl⟩ := h
    exact .some (hev _ _ h1)

/-- With a bound of the capacity from below: where no max is given, the model's m is the capacity itself. -/
theorem bounds_ok {isSlice : Bool} {len cap cap' l hi m : Nat} {low high max : Option AV} {low' high' max' : Option Value} (h1 : ORel ρ low low') (h2 : ORel ρ high high') (h3 : ORel ρ max max')
    (hb : sliceBoundsA len cap low high max = some (l, hi, m)) (hc : cap ≤ cap') (hl : len ≤ cap) :
    (Instr.sliceBounds isSlice len cap' low' high' max').run P w = .ok (l, hi, if max = none then cap' else m) w ∧ l ≤ hi ∧ hi ≤ m ∧ m ≤ cap ∧ (max = none → m = cap) := by
  have low_ok : ∀ (code : BoundsCode) (hi m : Nat), lowA hi m low = some (l, hi, m) ∨ True → True := fun _ _ _ _ => trivial
  have lowk : ∀ (code : BoundsCode) (hi0 m0 : Nat), lowA hi0 m0 low = some (l, hi, m) → hi = hi0 ∧ m = m0 ∧ l ≤ hi ∧
      ((match low' with | some v => Instr.sliceBound v hi0 code | none => pure 0 : Sem Nat).run P w = .ok l w) := by
    intro code hi0 m0 hq
    cases h1 with
    | none => simp [lowA] at hq; obtain ⟨rfl, rfl, rfl⟩ := hq; exact ⟨rfl, rfl, Nat.zero_le _, rfl⟩
    | some hv =>
      simp only [lowA, Option.map_eq_some_iff, Prod.mk.injEq] at hq
      obtain ⟨l', hl', rfl, rfl, rfl⟩ := hq
      obtain ⟨r, hle⟩ := bound_ok (P := P) (w := w) (code := code) hv hl'
      exact ⟨rfl, rfl, hle, r _ (Nat.le_refl _)⟩
  clear low_ok
  cases h3 with
  | none =>
    cases h2 with
    | none =>
      simp only [sliceBoundsA] at hb
      obtain ⟨rfl, rfl, hle, hr⟩ := lowk .sliceB _ _ hb
      refine ⟨?_, hle, hl, Nat.le_refl _, fun _ => rfl⟩
      simp only [Instr.sliceBounds, Sem.run_bind, Sem.run_pure, Result.andThen_ok, Option.isSome_none, Bool.false_eq_true, if_false, if_true]
      cases low' <;> simp_all
    | some hv2 =>
      simp only [sliceBoundsA, Option.bind_eq_some_iff] at hb
      obtain ⟨hi', hhi, hb⟩ := hb
      obtain ⟨r2, hle2⟩ := bound_ok (P := P) (w := w) (code := if isSlice then .sliceAcap else .sliceAlen) hv2 hhi
      obtain ⟨rfl, rfl, hle, hr⟩ := lowk .sliceB _ _ hb
      refine ⟨?_, hle, hle2, Nat.le_refl _, fun _ => rfl⟩
      simp only [Instr.sliceBounds, Sem.run_bind, Sem.run_pure, Result.andThen_ok, Option.isSome_none, Bool.false_eq_true, if_false, if_true, r2 _ hc]
      cases low' <;> simp_all
  | some hv3 =>
    simp only [sliceBoundsA, Option.bind_eq_some_iff] at hb
    obtain ⟨m', hm, hb⟩ := hb
    obtain ⟨r3, hle3⟩ := bound_ok (P := P) (w := w) (code := if isSlice then .slice3Acap else .slice3Alen) hv3 hm
    cases h2 with
    | none => cases hb
    | some hv2 =>
      simp only [Option.bind_eq_some_iff] at hb
      obtain ⟨hi', hhi, hb⟩ := hb
      obtain ⟨r2, hle2⟩ := bound_ok (P := P) (w := w) (code := .slice3B) hv2 hhi
      obtain ⟨rfl, rfl, hle, hr⟩ := lowk .slice3C _ _ hb
      refine ⟨?_, hle, hle2, hle3, fun h => by cases h⟩
      simp only [Instr.sliceBounds, Sem.run_bind, Sem.run_pure, Result.andThen_ok, Option.isSome_some, if_true, r3 _ hc, r2 _ (Nat.le_refl _), reduceCtorEq, if_false]
      cases low' <;> simp_all
end
end Go.Ev

namespace Go.Ev
section
variable {ρ : Ren} {h h' : H} {w : World} {P : Program}

theorem slice_ok {t : TypeId} {x v : AV} {x' : Value} {low high max : Option AV} {low' high' max' : Option Value} (g : Good ρ h w) (hx : VRel ρ x x') (h1 : ORel ρ low low') (h2 : ORel ρ high high') (h3 : ORel ρ max max')
    (hs : sliceA P h t x low high max = some v) : Reads P ρ w (Instr.sliceAt t x' low' high' max') v := by
  unfold sliceA at hs
  split at hs
  · rename_i hu
    split at hs
    · rename_i s
      split at hs
      · cases hs
      · simp only [Option.map_eq_some_iff] at hs
        obtain ⟨⟨l, hi, m⟩, hb, rfl⟩ := hs
        obtain ⟨r, _⟩ := bounds_ok (P := P) (w := w) (isSlice := false) h1 h2 .none hb (Nat.le_refl _) (Nat.le_refl _)
        cases hx
        cases h3
        exact ⟨.string (s.extract l hi), by simp [Instr.sliceAt, Instr.slice, run_und hu, r], .val _⟩
    · cases hs
  · rename_i elem hu
    split at hs
    · cases hs
    · rename_i sz hsz
      have hrun : (Instr.sliceAt t x' low' high' max').run P w = (Instr.slice t x' low' high' max').run P w := by
        simp only [Instr.sliceAt, Sem.run_bind, run_und hu, Result.andThen_ok]
      split at hs
      · rename_i len cap
        split at hs
        · rename_i hle
          simp only [Option.map_eq_some_iff] at hs
          obtain ⟨⟨l, hi, m⟩, hb, rfl⟩ := hs
          obtain ⟨r, _, _, _, hm⟩ := bounds_ok (P := P) (w := w) (isSlice := true) h1 h2 h3 hb (Nat.le_refl _) hle
          cases hx
          refine ⟨.slice none (hi - l) (m - l), ?_, .val _⟩
          rw [hrun]
          have e : (if max = none then cap else m) = m := by split <;> simp_all
          rw [e] at r
          simp [Instr.slice, run_und hu, r, run_size hsz]
        · cases hs
      · rename_i b off len cap
        split at hs
        · rename_i hle
          simp only [Option.map_eq_some_iff] at hs
          obtain ⟨⟨l, hi, m⟩, hb, rfl⟩ := hs
          obtain ⟨r, _, _, _, hm⟩ := bounds_ok (P := P) (w := w) (isSlice := true) h1 h2 h3 hb (Nat.le_refl _) hle
          cases hx with
          | slice he =>
            refine ⟨_, ?_, .slice he⟩
            rw [hrun]
            have e : (if max = none then cap else m) = m := by split <;> simp_all
            rw [e] at r
            by_cases hml : m = l
            · simp [Instr.slice, run_und hu, r, run_size hsz, hml]
            · simp [Instr.slice, run_und hu, r, run_size hsz, hml, add_none, Nat.add_assoc]
        · cases hs
      · rename_i b off len sz'
        split at hs
        · rename_i c elem' opn str hb0
          split at hs
          · rename_i hc
            obtain ⟨rfl, hz, hle⟩ := hc
            cases hx with
            | @sliceE _ _ _ _ cap e he ht _ hl =>
              have hcap : (c.length - off) / sz' ≤ cap := by
                obtain ⟨o, _, ha⟩ := g.sat b _ e hb0 he
                cases o <;> simp only [ARel] at ha
                have : c.length ≤ off + cap * sz' := by rw [← ht]; exact ha.2.2.1
                rw [Nat.div_le_iff_le_mul_add_pred hz]
                have : c.length - off ≤ cap * sz' := by omega
                rw [Nat.mul_comm]; omega
              split at hs
              · simp only [Option.map_eq_some_iff] at hs
                obtain ⟨⟨l, hi, m⟩, hb, rfl⟩ := hs
                obtain ⟨r, _, _, _, hm⟩ := bounds_ok (P := P) (w := w) (isSlice := true) h1 h2 h3 hb hcap hle
                refine ⟨_, ?_, .slice he⟩
                rw [hrun]
                simp only [reduceCtorEq, if_false] at r
                by_cases hml : m = l
                · simp [Instr.slice, run_und hu, r, run_size hsz, hml]
                · simp [Instr.slice, run_und hu, r, run_size hsz, hml, add_none, Nat.add_assoc]
              · simp only [Option.bind_eq_some_iff] at hs
                obtain ⟨⟨l, hi, m⟩, hb, hs⟩ := hs
                obtain ⟨r, hlh, hhm, hmk, hm⟩ := bounds_ok (P := P) (w := w) (isSlice := true) h1 h2 .none hb hcap hle
                cases h3
                simp only [if_true] at r
                simp only at hs
                split at hs
                · rename_i hor
                  cases hs
                  have hcl : cap = l → l = 0 := by omega
                  refine ⟨.slice (some ⟨e.blk, e.off + (off + l * sz'), none⟩) (hi - l) (cap - l), ?_, .sliceE he ?_ hz (by omega)⟩
                  · rw [hrun]
                    by_cases hml : cap = l
                    · have := hcl hml
                      subst this
                      simp only [Instr.slice, Sem.run_bind, run_und hu, Result.andThen_ok, r, run_size hsz, Sem.run_pure, if_pos hml]
                      simp
                    · simp [Instr.slice, run_und hu, r, run_size hsz, hml, add_none, Nat.add_assoc]
                  · rw [ht]
                    have : l ≤ cap := by omega
                    have : cap * sz' = l * sz' + (cap - l) * sz' := by rw [← Nat.add_mul]; congr 1; omega
                    omega
                · split at hs
                  · rename_i hlh'
                    cases hs
                    subst hlh'
                    by_cases hml : cap = l
                    · exact ⟨.slice (some ⟨e.blk, e.off + off, none⟩) 0 (cap - l), by rw [hrun]; simp only [Instr.slice, Sem.run_bind, run_und hu, Result.andThen_ok, r, run_size hsz, Sem.run_pure, if_pos hml, Nat.sub_self], .void⟩
                    · exact ⟨.slice (some (Addr.add ⟨e.blk, e.off + off, none⟩ (l * sz'))) 0 (cap - l), by rw [hrun]; simp [Instr.slice, run_und hu, r, run_size hsz, hml], .void⟩
                  · cases hs
          · cases hs
        · cases hs
      · split at hs
        · cases hs
        · simp only [Option.map_eq_some_iff] at hs
          obtain ⟨⟨l, hi, m⟩, hb, rfl⟩ := hs
          cases h3
          cases hx with
          | void =>
            rename_i a cap
            obtain ⟨r, hlh, hhm, hmk, hm⟩ := bounds_ok (P := P) (w := w) (isSlice := true) h1 h2 .none hb (Nat.zero_le cap) (Nat.le_refl _)
            have : hi = 0 := by omega
            have : l = 0 := by omega
            subst hi; subst l
            simp only [if_true] at r
            by_cases hml : cap = 0
            · exact ⟨.slice (some a) 0 cap, by rw [hrun]; simp only [Instr.slice, Sem.run_bind, run_und hu, Result.andThen_ok, r, run_size hsz, Sem.run_pure, if_pos hml]; simp, .void⟩
            · exact ⟨.slice (some (a.add 0)) 0 cap, by rw [hrun]; simp [Instr.slice, run_und hu, r, run_size hsz, hml], .void⟩
      · cases hs
  · rename_i n elem hu
    split at hs
    · rename_i sz b off hsz
      simp only [Option.map_eq_some_iff] at hs
      obtain ⟨⟨l, hi, m⟩, hb, rfl⟩ := hs
      obtain ⟨r, _, _, _, hm⟩ := bounds_ok (P := P) (w := w) (isSlice := false) h1 h2 h3 hb (Nat.le_refl _) (Nat.le_refl _)
      have e : (if max = none then n else m) = m := by split <;> simp_all
      rw [e] at r
      cases hx with
      | ptr he =>
        refine ⟨_, ?_, .slice he⟩
        by_cases hml : m = l
        · simp [Instr.sliceAt, Instr.sureAddr, run_und hu, r, run_size hsz, hml]
        · simp [Instr.sliceAt, Instr.sureAddr, run_und hu, r, run_size hsz, hml, add_none, Nat.add_assoc]
    · cases hs
  · cases hs
end
end Go.Ev

namespace Go.Ev
section
variable {ρ : Ren} {h h' : H} {w : World} {P : Program}

theorem plain_facts {b : Nat} {e : Ent} (g : Good ρ h w) (hp : plainB h b = true) (he : ρ b = some e) :
    (∀ off, w.frozen? ⟨e.blk, off, none⟩ = false) ∧ ∃ t n, w.shape? e.blk = some (t, n) := by
  unfold plainB at hp
  split at hp
  · rename_i l el op st hb
    obtain ⟨o, ho, ha⟩ := g.sat b _ e hb he
    cases o <;> simp only [ARel] at ha
    rename_i c el' fz
    have hz := ha.2.2.2.2.2.2 (by simpa using hp)
    refine ⟨fun off => ?_, el', c.size, by simp [World.shape?, ho]⟩
    obtain ⟨lo, hi⟩ := fz
    simp only at hz
    simp only [World.frozen?, ho, Bool.and_eq_false_iff, decide_eq_false_iff_not]
    omega
  · cases hp

theorem partA_drop (t : TypeId) (cs : List AV) (k : Nat) : partA P t (dropN k cs) 0 = partA P t cs k := by
  unfold partA
  simp [dropN_eq]

theorem sameAddr_ne {b b' o o' : Nat} {e e' : Ent} (g : Good ρ h w) (h1 : plainB h b = true) (h2 : plainB h b' = true) (he : ρ b = some e) (he' : ρ b' = some e') (hne : b ≠ b') :
    (sameAddr ⟨e.blk, e.off + o, none⟩ ⟨e'.blk, e'.off + o', none⟩).run P w = .ok false w := by
  obtain ⟨f1, t1, n1, s1⟩ := plain_facts g h1 he
  obtain ⟨f2, t2, n2, s2⟩ := plain_facts g h2 he'
  have hl : ∀ {b}, plainB h b = true → (h.get b).isSome = true := fun {b} hb => by
    unfold plainB at hb; cases hx : h.get b <;> simp [hx] at hb ⊢
  have hb : e.blk ≠ e'.blk := fun hc => hne (g.inj b b' e e' (hl h1) (hl h2) he he' hc)
  have hb' : (e.blk == e'.blk) = false := by simpa using hb
  simp [sameAddr, hb', f1, f2, noView, viewAt, s1, s2, mayBeOne, stringish]

theorem fields_ok {D : Nat} {same : TypeId → AV → AV → Option Bool}
    (ih : ∀ t x y b x' y', same t x y = some b → VRel ρ x x' → VRel ρ y y' → (Op.equalIn D t x' y').run P w = .ok b w) {xs ys : List AV} {xs' ys' : Array Value}
    (hx : LRel ρ xs xs'.toList) (hy : LRel ρ ys ys'.toList) : ∀ (fs : List Field) (b : Bool), sameFields P same fs xs ys = some b → (Op.eqFields D xs' ys' fs).run P w = .ok b w
  | [], b, h => by simp [sameFields] at h; subst h; rfl
  | f :: fs, b, h => by
    simp only [sameFields] at h
    by_cases hn : f.name = "_"
    · rw [if_pos hn] at h
      simp only [Op.eqFields, hn, ne_eq, not_true, if_false]
      exact fields_ok ih hx hy fs b h
    · rw [if_neg hn] at h
      simp only [Op.eqFields, ne_eq, hn, not_false_iff, if_true]
      split at h
      · rename_i x y hpx hpy
        obtain ⟨x', h1, h2⟩ := part_ok (w := w) hx hpx
        obtain ⟨y', h3, h4⟩ := part_ok (w := w) hy hpy
        split at h
        · rename_i hs
          have := ih _ _ _ _ _ _ hs h2 h4
          simp only [Sem.run_bind, h1, h3, this, Result.andThen_ok]
          simpa using fields_ok ih hx hy fs b h
        · rename_i hs
          have := ih _ _ _ _ _ _ h h2 h4
          have hb : b = false := by cases b with | false => rfl | true => exact absurd h hs
          subst hb
          simp [Sem.run_bind, h1, h3, this]
      · cases h

theorem elems_ok {D : Nat} {same : TypeId → AV → AV → Option Bool} {elem : TypeId} {n : Nat}
    (ih : ∀ t x y b x' y', same t x y = some b → VRel ρ x x' → VRel ρ y y' → (Op.equalIn D t x' y').run P w = .ok b w) {xs ys : List AV} {xs' ys' : Array Value}
    (hx : LRel ρ xs xs'.toList) (hy : LRel ρ ys ys'.toList) : ∀ (k i : Nat) (b : Bool), sameElems P same elem n k (dropN (i * n) xs) (dropN (i * n) ys) = some b →
      (forIn (m := Sem) (List.range' i k 1) ((none, ()) : Option Bool × Unit) (fun i _ => do
          let a ← part elem xs' (i * n)
          let c ← part elem ys' (i * n)
          let r ← Op.equalIn D elem a c
          if (!r) = true then pure (ForInStep.done (some false, ())) else pure (ForInStep.yield (none, ())))).run P w = .ok (if b then none else some false, ()) w
  | 0, i, b, h => by simp [sameElems] at h; subst h; rfl
  | k + 1, i, b, h => by
    simp only [sameElems, partA_drop] at h
    split at h
    · rename_i x y hpx hpy
      obtain ⟨x', h1, h2⟩ := part_ok (w := w) hx hpx
      obtain ⟨y', h3, h4⟩ := part_ok (w := w) hy hpy
      have hd : ∀ l : List AV, dropN n (dropN (i * n) l) = dropN ((i + 1) * n) l := fun l => by simp [dropN_eq, Nat.add_mul]
      simp only [List.range'_succ, List.forIn_cons, Sem.run_bind, h1, h3, Result.andThen_ok]
      split at h
      · rename_i hs
        have := ih _ _ _ _ _ _ hs h2 h4
        rw [hd, hd] at h
        simp only [this, Result.andThen_ok, Bool.not_true, Bool.false_eq_true, if_false, Sem.run_pure]
        exact elems_ok ih hx hy k (i + 1) b h
      · rename_i hs
        have := ih _ _ _ _ _ _ h h2 h4
        have hb : b = false := by cases b with | false => rfl | true => exact absurd h hs
        subst hb
        simp [this]
    · cases h

set_option maxHeartbeats 1000000 in
theorem same_ok (g : Good ρ h w) : ∀ (d D : Nat), d ≤ D → ∀ (t : TypeId) (x y : AV) (b : Bool) (x' y' : Value), sameAV P h d t x y = some b → VRel ρ x x' → VRel ρ y y' → (Op.equalIn D t x' y').run P w = .ok b w := by
  intro d
  induction d with
  | zero => intro D _ t x y b x' y' hs; simp [sameAV] at hs
  | succ d ih =>
    intro D hD t x y b x' y' hs hx hy
    obtain ⟨D, rfl⟩ : ∃ D', D = D' + 1 := ⟨D - 1, by omega⟩
    have ih' := ih D (by omega)
    unfold sameAV at hs
    split at hs
    all_goals (try (rename_i hu; cases hs; cases hx; cases hy; unfold Op.equalIn; rw [Sem.run_bind, run_und hu]; rfl))
    · rename_i hu
      cases hx; cases hy
      split at hs
      · rename_i hk
        cases hs; subst hk
        unfold Op.equalIn
        rw [Sem.run_bind, run_und hu]
        simp
      · cases hs
    · rename_i e0 b1 o1 b2 o2 hu
      cases hx with
      | ptr he =>
        cases hy with
        | ptr he' =>
          split at hs
          · rename_i n hn
            simp only [Op.equalIn, Sem.run_bind, run_und hu, Result.andThen_ok, run_size hn]
            rw [if_pos (by omega)]
            by_cases hbb : (b1 == b2) = true
            · rw [if_pos hbb] at hs
              have := eq_of_beq hbb
              subst this
              rw [he] at he'; cases he'; cases hs
              simp only [sameAddr, beq_self_eq_true, if_true]
              simp only [Sem.run_pure, Result.ok.injEq, and_true]
              rw [Bool.eq_iff_iff]
              simp
            · rw [if_neg hbb] at hs
              split at hs
              · rename_i hp
                simp only [Bool.and_eq_true] at hp
                cases hs
                exact sameAddr_ne g hp.1 hp.2 he he' (by simpa using hbb)
              · cases hs
          · cases hs
    · rename_i hu
      cases hx with
      | iface hv =>
        cases hy with
        | iface hv' =>
          simp only [Op.equalIn, Sem.run_bind, run_und hu, Result.andThen_ok]
          split at hs
          · rename_i hne
            cases hs
            simp [hne]
          · rename_i hne
            rw [if_neg hne]
            split at hs
            · rename_i info hi
              split at hs
              · rename_i hc
                simp only [Sem.run_bind, run_info hi, Result.andThen_ok, hc, Bool.not_true, Bool.false_eq_true, if_false]
                exact ih' _ _ _ _ _ _ hs hv hv'
              · cases hs
            · cases hs
    · rename_i fields xs ys hu
      cases hx with
      | agg hx =>
        cases hy with
        | agg hy =>
          split at hs
          · cases hs
          · rename_i hst
            have hf : P.fieldsOf t = fields := by
              have : P.underlying t = some (.struct fields) := hu
              simp [Program.fieldsOf, this]
            rw [run_equalIn_struct w D t _ _ (by rw [hf]; exact hu) (by simpa using hst), hf]
            exact fields_ok ih' hx hy _ _ hs
    · rename_i len elem xs ys hu
      cases hx with
      | agg hx =>
        cases hy with
        | agg hy =>
          simp only [Option.bind_eq_some_iff] at hs
          obtain ⟨n, hn, hs⟩ := hs
          have := elems_ok (P := P) (w := w) (elem := elem) (n := n) ih' hx hy len 0 b (by simpa [dropN_eq] using hs)
          simp only [Op.equalIn, Sem.run_bind, run_und hu, Result.andThen_ok, run_size hn, Std.Legacy.Range.forIn_eq_forIn_range', Std.Legacy.Range.size, Nat.sub_zero, Nat.add_one_sub_one, Nat.div_one]
          rw [this]
          cases b <;> rfl
    all_goals cases hs
end
end Go.Ev

namespace Go.Ev
section
variable {ρ : Ren} {h h' : H} {w : World} {P : Program}

theorem nilIface_inv {a : AV} (hr : VRel ρ a .nilIface) : a = .val .nilIface := by cases hr; rfl
theorem agg_inv {a : AV} {c : Array Value} (hr : VRel ρ a (.agg c)) : (∃ l, a = .agg l) ∨ a = .val (.agg c) := by
  cases hr with
  | val => exact .inr rfl
  | agg => exact .inl ⟨_, rfl⟩
theorem int_inv {a : AV} {k : IntKind} {n : Int} (hr : VRel ρ a (.int k n)) : a = .val (.int k n) := by cases hr; rfl
theorem string_inv {a : AV} {s : ByteArray} (hr : VRel ρ a (.string s)) : a = .val (.string s) := by cases hr; rfl
theorem float_inv {a : AV} {k : FloatKind} {n : Nat} (hr : VRel ρ a (.float k n)) : a = .val (.float k n) := by cases hr; rfl
theorem complex_inv {a : AV} {k : FloatKind} {m n : Nat} (hr : VRel ρ a (.complex k m n)) : a = .val (.complex k m n) := by cases hr; rfl

theorem guard_eq {op : BinOp} (hop : op = .eql ∨ op = .neq) {t : TypeId} {x y : Operand} {a b : AV} {a' b' : Value}
    (hg : guardOk P op t x y a b = true) (ha : VRel ρ a a') (hb : VRel ρ b b') : (eqGuard op t x y a' b').run P w = .ok () w := by
  have hg' : guardOk P .eql t x y a b = true := by rcases hop with rfl | rfl <;> exact hg
  have he : eqGuard op t x y a' b' = eqGuard .eql t x y a' b' := by rcases hop with rfl | rfl <;> rfl
  rw [he]
  clear he hg
  by_cases hn : a' = .nilIface ∧ b' = .nilIface
  · obtain ⟨rfl, rfl⟩ := hn
    rw [nilIface_inv ha, nilIface_inv hb] at hg'
    simp only [guardOk, Bool.or_eq_true] at hg'
    unfold eqGuard
    simp only [Bool.not_true, Bool.false_eq_true, if_false]
    by_cases hc : (Region.isConst x || Region.isConst y) = true
    · cases x <;> cases y <;> first | rfl | (simp [Region.isConst] at hc)
    · have h3 : (match und P t with | some (.interface ms) => ms.isEmpty | some _ => true | none => false) = true := by
        rcases hg' with h' | h'
        · exact absurd (by simpa using h') (by simpa using hc)
        · exact h'
      have key : (Op.eqGuardIn Op.maxDepth t .nilIface .nilIface).run P w = .ok false w := by
        unfold Op.maxDepth
        cases hu : und P t with
        | none => simp [hu] at h3
        | some d =>
          unfold Op.eqGuardIn
          simp only [Sem.run_bind, run_und hu, Result.andThen_ok]
          cases d <;> first | rfl | (simp only [hu] at h3; simp [h3])
      cases x <;> cases y <;> first | (simp [Region.isConst] at hc; done) | (show ((Op.eqGuardIn Op.maxDepth t .nilIface .nilIface).bind _).run P w = _; rw [Sem.run_bind', key]; rfl)
  · by_cases hag : (∃ c, a' = .agg c) ∧ ∃ c, b' = .agg c
    · obtain ⟨⟨c, rfl⟩, c', rfl⟩ := hag
      rcases agg_inv ha with ⟨l, rfl⟩ | rfl
      · rcases agg_inv hb with ⟨l', rfl⟩ | rfl
        · have : P.eqGuardType P.depth t = false := by simpa [guardOk] using hg'
          exact run_eqGuard_agg w .eql t x y c c' this
        · simp [guardOk] at hg'
      · simp [guardOk] at hg'
    · unfold eqGuard
      simp only [Bool.not_true, Bool.false_eq_true, if_false]
      cases a' <;> first | rfl | (cases b' <;> first | rfl | simp at hn hag)

theorem bin_ok {op : BinOp} {t : TypeId} {x y : Operand} {a b v : AV} {a' b' : Value} (g : Good ρ h w) (hv : binA P h op t x y a b = some v) (ha : VRel ρ a a') (hb : VRel ρ b b') :
    Reads P ρ w (do eqGuard op t x y a' b'; binOp op t a' b') v := by
  unfold binA at hv
  split at hv
  · cases hv
  · rename_i hg
    have hguard : (eqGuard op t x y a' b').run P w = .ok () w := by
      cases op <;> first | exact guard_eq (.inl rfl) hg ha hb | exact guard_eq (.inr rfl) hg ha hb | rfl
    split at hv
    · cases ha; cases hb
      simp only [Option.map_eq_some_iff] at hv
      obtain ⟨r, h1, rfl⟩ := hv
      exact ⟨r, by simp only [Sem.run_bind, hguard, Result.andThen_ok]; exact evalPure_run h1, .val _⟩
    · cases ha; cases hb
      simp only [Option.map_eq_some_iff] at hv
      obtain ⟨r, h1, rfl⟩ := hv
      exact ⟨r, by simp only [Sem.run_bind, hguard, Result.andThen_ok]; exact evalPure_run h1, .val _⟩
    · cases hv
    · cases hv
    · rename_i n3 n4 n1 n2
      have hnb : (∀ k m k' n, ¬(a' = .int k m ∧ b' = .int k' n)) ∧ (∀ m n, ¬(a' = .string m ∧ b' = .string n)) ∧ (∀ k m, a' ≠ .float k m) ∧ (∀ k m n, a' ≠ .complex k m n) :=
        ⟨fun k m k' n ⟨e1, e2⟩ => by subst e1; subst e2; exact n1 _ _ _ _ (int_inv ha) (int_inv hb), fun m n ⟨e1, e2⟩ => by subst e1; subst e2; exact n2 _ _ (string_inv ha) (string_inv hb),
          fun k m e => by subst e; exact n3 _ _ (float_inv ha), fun k m n e => by subst e; exact n4 _ _ _ (complex_inv ha)⟩
      obtain ⟨m1, m2, m3, m4⟩ := hnb
      split at hv
      · simp only [Option.map_eq_some_iff] at hv
        obtain ⟨r, h1, rfl⟩ := hv
        have hs := same_ok g 100 10000 (by omega) _ _ _ _ _ _ h1 ha hb
        have he : binOp .eql t a' b' = (do pure (.bool (← Op.equal t a' b'))) := by
          cases a' <;> first | rfl | (cases b' <;> first | rfl | (exfalso; first | exact m1 _ _ _ _ ⟨rfl, rfl⟩ | exact m2 _ _ ⟨rfl, rfl⟩ | exact m3 _ _ rfl | exact m4 _ _ _ rfl))
        exact ⟨.bool r, by simp only [Sem.run_bind, hguard, Result.andThen_ok, he, Op.equal, Op.maxDepth, hs, Sem.run_pure], .val _⟩
      · simp only [Option.map_eq_some_iff] at hv
        obtain ⟨r, h1, rfl⟩ := hv
        have hs := same_ok g 100 10000 (by omega) _ _ _ _ _ _ h1 ha hb
        have he : binOp .neq t a' b' = (do pure (.bool (!(← Op.equal t a' b')))) := by
          cases a' <;> first | rfl | (cases b' <;> first | rfl | (exfalso; first | exact m1 _ _ _ _ ⟨rfl, rfl⟩ | exact m2 _ _ ⟨rfl, rfl⟩ | exact m3 _ _ rfl | exact m4 _ _ _ rfl))
        exact ⟨.bool (!r), by simp only [Sem.run_bind, hguard, Result.andThen_ok, he, Op.equal, Op.maxDepth, hs, Sem.run_pure], .val _⟩
      · cases hv

/-! ### Keys of maps -/
theorem allFields_ok {D : Nat} {empty : Bool} {ok : TypeId → AV → Bool} (ih : ∀ t x x', ok t x = true → VRel ρ x x' → (Instr.checkKey empty D t x').run P w = .ok () w)
    {xs : List AV} {xs' : Array Value} (hx : LRel ρ xs xs'.toList) : ∀ (fs : List Field), allFields P ok fs xs = true →
      (forIn (m := Sem) fs PUnit.unit (fun f _ => do
        if f.name ≠ "_" then do
          let a ← part f.type xs' f.offset
          Instr.checkKey empty D f.type a
          pure (ForInStep.yield PUnit.unit)
        else pure (ForInStep.yield PUnit.unit))).run P w = .ok () w
  | [], _ => rfl
  | f :: fs, h => by
    simp only [allFields] at h
    simp only [List.forIn_cons, Sem.run_bind]
    by_cases hn : f.name = "_"
    · rw [if_pos hn] at h
      simp only [hn, ne_eq, not_true, if_false, Sem.run_bind, Sem.run_pure, Result.andThen_ok]
      exact allFields_ok ih hx fs h
    · rw [if_neg hn] at h
      split at h
      · rename_i x hp
        simp only [Bool.and_eq_true] at h
        obtain ⟨x', h1, h2⟩ := part_ok (w := w) hx hp
        simp only [ne_eq, hn, not_false_iff, if_true, Sem.run_bind, h1, Result.andThen_ok, ih _ _ _ h.1 h2, Sem.run_pure]
        exact allFields_ok ih hx fs h.2
      · cases h

theorem allElems_ok {D : Nat} {empty : Bool} {ok : TypeId → AV → Bool} {elem : TypeId} {n : Nat} (hsz : size P elem = some n) (ih : ∀ t x x', ok t x = true → VRel ρ x x' → (Instr.checkKey empty D t x').run P w = .ok () w)
    {xs : List AV} {xs' : Array Value} (hx : LRel ρ xs xs'.toList) : ∀ (k i : Nat), allElems P ok elem n k (dropN (i * n) xs) = true →
      (forIn (m := Sem) (List.range' i k 1) PUnit.unit (fun i _ => do
        Instr.checkKey empty D elem (← part elem xs' (i * (← sizeOf elem)))
        pure (ForInStep.yield PUnit.unit))).run P w = .ok () w
  | 0, _, _ => rfl
  | k + 1, i, h => by
    simp only [allElems, partA_drop] at h
    split at h
    · rename_i x hp
      simp only [Bool.and_eq_true] at h
      obtain ⟨x', h1, h2⟩ := part_ok (w := w) hx hp
      have hd : ∀ l : List AV, dropN n (dropN (i * n) l) = dropN ((i + 1) * n) l := fun l => by simp [dropN_eq, Nat.add_mul]
      rw [hd] at h
      simp only [List.range'_succ, List.forIn_cons, Sem.run_bind, run_size hsz, h1, Result.andThen_ok, ih _ _ _ h.1 h2, Sem.run_pure]
      exact allElems_ok hsz ih hx k (i + 1) h.2
    · cases h

theorem check_ok {empty : Bool} : ∀ (d D : Nat), d ≤ D → ∀ (t : TypeId) (x : AV) (x' : Value), checkA P d t x = true → VRel ρ x x' → (Instr.checkKey empty D t x').run P w = .ok () w := by
  intro d
  induction d with
  | zero => intro D _ t x x' hc; simp [checkA] at hc
  | succ d ih =>
    intro D hD t x x' hc hx
    obtain ⟨D, rfl⟩ : ∃ D', D = D' + 1 := ⟨D - 1, by omega⟩
    have ih' := ih D (by omega)
    unfold checkA at hc
    unfold Instr.checkKey
    simp only [Sem.run_bind]
    split at hc
    · rename_i ms hu
      simp only [run_und hu, Result.andThen_ok]
      split at hc
      · cases hx; rfl
      · split at hc
        · rename_i info hi
          simp only [Bool.and_eq_true] at hc
          cases hx with
          | iface hv =>
            simp only [Sem.run_bind, run_info hi, Result.andThen_ok, hc.1, Bool.not_true, Bool.false_eq_true, if_false]
            simpa using ih' _ _ _ hc.2 hv
        · cases hc
      · cases hc
    · rename_i len elem hu
      simp only [run_und hu, Result.andThen_ok]
      split at hc
      · rename_i xs n hsz
        cases hx with
        | agg hx =>
          simp only [Std.Legacy.Range.forIn_eq_forIn_range', Std.Legacy.Range.size, Nat.sub_zero, Nat.add_one_sub_one, Nat.div_one]
          have := allElems_ok (P := P) (w := w) (empty := empty) hsz ih' hx len 0 (by simpa [dropN_eq] using hc)
          simp only [Sem.run_bind] at this ⊢
          rw [this]
          rfl
      · cases hc
    · rename_i fields hu
      simp only [run_und hu, Result.andThen_ok]
      split at hc
      · cases hx with
        | agg hx =>
          have := allFields_ok (P := P) (w := w) (empty := empty) ih' hx _ hc
          show ((forIn fields PUnit.unit _ : Sem PUnit) >>= fun _ => pure ()).run P w = _
          rw [Sem.run_bind, ← Array.forIn_toList, this]
          rfl
      · cases hc
    · rename_i d' n1 n2 n3 hu
      simp only [run_und hu, Result.andThen_ok]
      cases d' <;> first | rfl | (exact absurd rfl (n1 _)) | (exact absurd rfl (n2 _ _)) | (exact absurd rfl (n3 _)) | simp_all
    · cases hc
end
end Go.Ev

namespace Go.Ev
section
variable {ρ : Ren} {h h' : H} {w : World} {P : Program}

theorem sameBits_ok : ∀ (n : Nat) (a b : AV) (a' b' : Value), sameBitsA n a b = true → VRel ρ a a' → VRel ρ b b' → ∀ N, n ≤ N → Instr.sameBits N a' b' = true
  | 0, a, b, a', b', hs, ha, hb, N, _ => by
    unfold sameBitsA at hs
    split at hs
    · cases ha; cases hb; cases N <;> simpa [Instr.sameBits] using hs
    · cases ha; cases hb; cases N <;> simpa [Instr.sameBits] using hs
    · cases ha; cases hb; cases N <;> simpa [Instr.sameBits] using hs
    · simp only [Bool.and_eq_true, beq_iff_eq] at hs
      obtain ⟨rfl, rfl⟩ := hs
      cases ha with
      | ptr he => cases hb with
        | ptr he' =>
          rw [he] at he'; cases he'
          cases N <;> simp [Instr.sameBits]
    · cases hs
  | n + 1, a, b, a', b', hs, ha, hb, N, hN => by
    obtain ⟨N, rfl⟩ : ∃ N', N = N' + 1 := ⟨N - 1, by omega⟩
    unfold sameBitsA at hs
    split at hs
    · rename_i l m
      cases ha with
      | agg ha => cases hb with
        | agg hb =>
          have key : ∀ (l m : List AV) (l' m' : List Value), bitsL (sameBitsA n) l m = true → LRel ρ l l' → LRel ρ m m' → l'.length = m'.length ∧ (l'.zip m').all (fun (x, y) => Instr.sameBits N x y) = true := by
            intro l
            induction l with
            | nil => intro m l' m' h1 h2 h3; cases m <;> simp [bitsL] at h1; cases h2; cases h3; simp
            | cons x l ih =>
              intro m l' m' h1 h2 h3
              cases m with
              | nil => simp [bitsL] at h1
              | cons y m =>
                simp only [bitsL, Bool.and_eq_true] at h1
                cases h2 with
                | cons hx hl => cases h3 with
                  | cons hy hm =>
                    obtain ⟨h4, h5⟩ := ih _ _ _ h1.2 hl hm
                    refine ⟨by simp [h4], ?_⟩
                    simp only [List.zip_cons_cons, List.all_cons, Bool.and_eq_true]
                    exact ⟨sameBits_ok n _ _ _ _ h1.1 hx hy N (by omega), h5⟩
          obtain ⟨h4, h5⟩ := key _ _ _ _ hs ha hb
          simp only [Instr.sameBits, Bool.and_eq_true]
          exact ⟨by simpa using h4, h5⟩
    · simp only [Bool.and_eq_true, beq_iff_eq] at hs
      obtain ⟨rfl, hs⟩ := hs
      cases ha with
      | iface ha => cases hb with
        | iface hb =>
          simp only [Instr.sameBits, Bool.and_eq_true, beq_self_eq_true, true_and]
          exact sameBits_ok n _ _ _ _ hs ha hb N (by omega)
    · exact sameBits_ok n _ _ _ _ hs ha hb (N + 1) (by omega)

theorem ERel.get : ∀ {es : List (AV × AV × Nat)} {ms : List MapEntry}, ERel ρ es ms → ∀ (i : Nat) (x : AV × AV × Nat), es[i]? = some x → ∃ m, ms[i]? = some m ∧ VRel ρ x.1 m.key ∧ VRel ρ x.2.1 m.val ∧ m.born = x.2.2
  | _, _, .nil, i, x, hx => by simp at hx
  | _, _, .cons hk hv hn t, i, x, hx => by
    cases i with
    | zero => simp at hx; subst hx; exact ⟨_, rfl, hk, hv, hn⟩
    | succ i => simp at hx; obtain ⟨m, h1, h2⟩ := ERel.get t i x hx; exact ⟨m, by simpa using h1, h2⟩
theorem ERel.length : ∀ {es : List (AV × AV × Nat)} {ms : List MapEntry}, ERel ρ es ms → es.length = ms.length
  | _, _, .nil => rfl
  | _, _, .cons _ _ _ t => by simp [ERel.length t]
theorem ERel.push : ∀ {es : List (AV × AV × Nat)} {ms : List MapEntry}, ERel ρ es ms → ∀ {k v : AV} {n : Nat} {m : MapEntry}, VRel ρ k m.key → VRel ρ v m.val → m.born = n → ERel ρ (es ++ [(k, v, n)]) (ms ++ [m])
  | _, _, .nil, _, _, _, _, hk, hv, hn => .cons hk hv hn .nil
  | _, _, .cons a b c t, _, _, _, _, hk, hv, hn => .cons a b c (ERel.push t hk hv hn)
theorem ERel.modify {f : AV × AV × Nat → AV × AV × Nat} {f' : MapEntry → MapEntry} : ∀ {es : List (AV × AV × Nat)} {ms : List MapEntry} (i : Nat), ERel ρ es ms →
    (∀ x m, es[i]? = some x → ms[i]? = some m → VRel ρ x.1 m.key → VRel ρ x.2.1 m.val → m.born = x.2.2 → VRel ρ (f x).1 (f' m).key ∧ VRel ρ (f x).2.1 (f' m).val ∧ (f' m).born = (f x).2.2) →
    ERel ρ (modifyN f i es) (ms.modify i f')
  | _, _, i, .nil, _ => by cases i <;> exact .nil
  | _, _, 0, .cons (k := k) (v := v) (n := n) (m := m) a b c t, h => by
    have := h (k, v, n) m rfl rfl a b c
    exact .cons this.1 this.2.1 this.2.2 t
  | _, _, i + 1, .cons a b c t, h => .cons a b c (ERel.modify i t fun x m h1 h2 => h x m (by simpa using h1) (by simpa using h2))
theorem ERel.erase : ∀ {es : List (AV × AV × Nat)} {ms : List MapEntry} (i : Nat), ERel ρ es ms → ERel ρ (eraseN i es) (ms.eraseIdx i)
  | _, _, i, .nil => by cases i <;> exact .nil
  | _, _, 0, .cons _ _ _ t => t
  | _, _, i + 1, .cons a b c t => .cons a b c (ERel.erase i t)

/-- What is found. -/
def FRel (ρ : Ren) : Option (Nat × AV × AV) → Option (Nat × Value) → Prop
  | none, none => True
  | some f, some r => r.1 = f.1 ∧ VRel ρ f.2.2 r.2
  | _, _ => False

theorem findA_at {key : TypeId} {k : AV} : ∀ (es : List (AV × AV × Nat)) (i : Nat) (f : Nat × AV × AV), findA P h key k es i = some (some f) → i ≤ f.1 ∧ ∃ n, es[f.1 - i]? = some (f.2.1, f.2.2, n)
  | [], i, f, hf => by simp [findA] at hf
  | (k', v, n) :: es, i, f, hf => by
    simp only [findA] at hf
    split at hf
    · cases hf; exact ⟨Nat.le_refl _, n, by simp⟩
    · obtain ⟨h1, n, h2⟩ := findA_at es (i + 1) f hf
      refine ⟨by omega, n, ?_⟩
      have : f.1 - i = (f.1 - (i + 1)) + 1 := by omega
      rw [this]; simpa using h2
    · cases hf

theorem sameNow_ok {key : TypeId} {d : TypeDesc} {a b : Value} {t : Bool} (hu : und P key = some d) (hs : Instr.sameNow d a b = some t) : (Op.equalIn 10000 key a b).run P w = .ok t w := by
  unfold Instr.sameNow at hs
  unfold Op.equalIn
  rw [Sem.run_bind, run_und hu]
  split at hs
  · split at hs
    · rename_i hk
      cases hs; subst hk
      simp
    · cases hs
  · cases hs; rfl
  · cases hs; rfl
  · cases hs

theorem findNow_ok {key : TypeId} {k : AV} {k' : Value} {d : TypeDesc} (g : Good ρ h w) (hu : und P key = some d) (hk : VRel ρ k k') : ∀ {es : List (AV × AV × Nat)} {ms : List MapEntry}, ERel ρ es ms → ∀ (i : Nat) (r : Option (Nat × AV × AV)),
    findA P h key k es i = some r → ∀ r', Instr.findNow d k' ms i = some r' → FRel ρ r r'
  | _, _, .nil, i, r, hf, r', hr => by simp [findA] at hf; simp [Instr.findNow] at hr; subst hf; subst hr; trivial
  | _, _, .cons (k := kx) (v := v) (n := n) (m := m) a b c t, i, r, hf, r', hr => by
    simp only [findA] at hf
    simp only [Instr.findNow] at hr
    cases hn : Instr.sameNow d k' m.key with
    | none => simp [hn] at hr
    | some x =>
      have h1 := sameNow_ok (w := w) hu hn
      split at hf
      · rename_i hs
        have h2 := same_ok g 100 10000 (by omega) _ _ _ _ _ _ hs hk a
        rw [h1] at h2; cases h2
        rw [hn] at hr
        cases hf; cases hr
        exact ⟨rfl, b⟩
      · rename_i hs
        have h2 := same_ok g 100 10000 (by omega) _ _ _ _ _ _ hs hk a
        rw [h1] at h2; cases h2
        rw [hn] at hr
        exact findNow_ok g hu hk t (i + 1) r hf r' hr
      · cases hf

theorem findAsking_ok {key : TypeId} {k : AV} {k' : Value} (g : Good ρ h w) (hk : VRel ρ k k') : ∀ {es : List (AV × AV × Nat)} {ms : List MapEntry}, ERel ρ es ms → ∀ (i : Nat) (r : Option (Nat × AV × AV)),
    findA P h key k es i = some r → ∃ r', (Instr.findAsking key k' ms i).run P w = .ok r' w ∧ FRel ρ r r'
  | _, _, .nil, i, r, hf => by simp [findA] at hf; subst hf; exact ⟨none, rfl, trivial⟩
  | _, _, .cons (k := kx) (v := v) (n := n) (m := m) a b c t, i, r, hf => by
    simp only [findA] at hf
    split at hf
    · rename_i hs
      have h2 := same_ok g 100 10000 (by omega) _ _ _ _ _ _ hs hk a
      cases hf
      exact ⟨some (i, m.val), by simp [Instr.findAsking, Op.equal, Op.maxDepth, h2], rfl, b⟩
    · rename_i hs
      have h2 := same_ok g 100 10000 (by omega) _ _ _ _ _ _ hs hk a
      obtain ⟨r', h3, h4⟩ := findAsking_ok g hk t (i + 1) r hf
      exact ⟨r', by simp [Instr.findAsking, Op.equal, Op.maxDepth, h2, h3], h4⟩
    · cases hf

theorem find_ok {key : TypeId} {k : AV} {k' : Value} {d : TypeDesc} {es : List (AV × AV × Nat)} {ms : List MapEntry} {r : Option (Nat × AV × AV)} (g : Good ρ h w) (hu : und P key = some d) (hk : VRel ρ k k') (he : ERel ρ es ms)
    (hf : findA P h key k es 0 = some r) : ∃ r', (Instr.findKey key k' ms).run P w = .ok r' w ∧ FRel ρ r r' := by
  unfold Instr.findKey
  rw [Sem.run_bind, run_und hu]
  simp only [Result.andThen_ok]
  cases hn : Instr.findNow d k' ms 0 with
  | some r' => exact ⟨r', rfl, findNow_ok g hu hk he 0 r hf r' hn⟩
  | none => exact findAsking_ok g hk he 0 r hf

theorem checkA_und {d : Nat} {t : TypeId} {x : AV} (hc : checkA P d t x = true) : ∃ u, und P t = some u := by
  cases d with
  | zero => simp [checkA] at hc
  | succ d =>
    cases hu : und P t with
    | none => simp [checkA, hu] at hc
    | some u => exact ⟨u, rfl⟩

theorem run_getMap {r : Nat} {es : Array MapEntry} {c : Nat} (hr : w.heap[r]? = some (.map es c)) : (getObj r).run P w = .ok (.map es c) w := by
  simp [getObj, Sem.run, hr]

def World.put (w : World) (r : Nat) (o : Obj) : World := { w with heap := w.heap.setIfInBounds r o }
theorem put_get {r : Nat} {o : Obj} (hr : r < w.heap.size) : (World.put w r o).heap[r]? = some o := by simp [World.put, hr]
theorem put_other {r k : Nat} {o : Obj} (hk : k ≠ r) : (World.put w r o).heap[k]? = w.heap[k]? := by
  simp only [World.put]; rw [Array.getElem?_setIfInBounds_ne (fun e => hk e.symm)]

theorem run_setMap {r : Nat} {es : Array MapEntry} {c : Nat} {o : Obj} (hr : w.heap[r]? = some (.map es c)) : (setObj r o).run P w = .ok () (World.put w r o) := by
  simp [setObj, Sem.run, hr, World.put]

/-- An object of ours is written over. -/
theorem good_put {b : Nat} {e : Ent} {ab ab' : AB} {o' : Obj} (g : Good ρ h w) (hb : h.get b = some ab) (he : ρ b = some e) (hr : ARel ρ e ab' o') :
    Good ρ (h.set b ab') (World.put w e.blk o') ∧ Trans ρ h w ρ (h.set b ab') (World.put w e.blk o') :=
  good_set g hb he (by simp [World.put]) (put_get (g.lt b e he)) (fun k hk => put_other hk) rfl rfl rfl hr
end
end Go.Ev

namespace Go.Ev
section
variable {ρ : Ren} {h h' : H} {w : World} {P : Program}

theorem entries_ok {m : AV} {m' : Value} {es : List (AV × AV × Nat)} (g : Good ρ h w) (hm : VRel ρ m m') (he : entriesOf h m = some es) :
    (m' = .map none ∧ es = []) ∨ ∃ b e es' c, m = .map b ∧ ρ b = some e ∧ h.get b = some (.map es c) ∧ m' = .map (some e.blk) ∧ w.heap[e.blk]? = some (.map es' c) ∧ ERel ρ es es'.toList := by
  unfold entriesOf at he
  split at he
  · cases hm; cases he; exact .inl ⟨rfl, rfl⟩
  · rename_i b
    split at he
    · rename_i es0 c hb
      cases he
      cases hm with
      | map hρ =>
        rename_i e
        obtain ⟨o, ho, ha⟩ := g.sat b _ e hb hρ
        cases o <;> simp only [ARel] at ha
        rename_i es' c'
        obtain ⟨rfl, hr⟩ := ha
        exact .inr ⟨b, e, es', _, rfl, hρ, hb, rfl, ho, hr⟩
    · cases he
  · cases he

theorem lookup_ok {t : TypeId} {m k v : AV} {m' k' : Value} {ok : Bool} (g : Good ρ h w) (hm : VRel ρ m m') (hk : VRel ρ k k') (hl : lookupA P h t m k ok = some v) :
    Reads P ρ w (Instr.lookup t m' k' ok) v := by
  unfold lookupA at hl
  split at hl
  · rename_i key elem hu
    split at hl
    · rename_i hc
      simp only [Option.bind_eq_some_iff, Option.map_eq_some_iff] at hl
      obtain ⟨es, he, r, hf, p, hp, rfl⟩ := hl
      obtain ⟨u, hku⟩ := checkA_und hc
      have hchk : ∀ empty, (Instr.checkKey empty 10000 key k').run P w = .ok () w := fun empty => check_ok 100 10000 (by omega) _ _ _ hc hk
      have fin : ∀ (ms : List MapEntry), ERel ρ es ms → ∃ r' v' b', (Instr.findKey key k' ms).run P w = .ok r' w ∧ p.2 = b' ∧ VRel ρ p.1 v' ∧
          ((match r' with | some (_, v) => pure (v, true) | none => do pure (← zeroValue elem, false) : Sem (Value × Bool))).run P w = .ok (v', b') w := by
        intro ms hms
        obtain ⟨r', h1, h2⟩ := find_ok g hku hk hms hf
        cases r with
        | none =>
          cases r' with
          | some _ => exact h2.elim
          | none =>
            simp only [foundA, Option.map_eq_some_iff] at hp
            obtain ⟨z, hz, rfl⟩ := hp
            obtain ⟨z', hz1, hz2⟩ := run_zero (P := P) (w := w) (ρ := ρ) hz
            exact ⟨none, z', false, h1, rfl, hz2, by simp [hz1]⟩
        | some f =>
          cases r' with
          | none => exact h2.elim
          | some r' =>
            simp only [foundA, Option.some.injEq] at hp
            subst hp
            exact ⟨some r', r'.2, true, h1, rfl, h2.2, rfl⟩
      have hend : ∀ v' b', VRel ρ p.1 v' → p.2 = b' → VRel ρ (if ok = true then .tuple [p.1, .val (.bool p.2)] else p.1) (if ok then .tuple #[v', .bool b'] else v') := by
        intro v' b' h1 h2
        subst h2
        cases ok
        · simpa using h1
        · simp only [if_true]; exact .tuple (.cons h1 (.cons (.val _) .nil))
      rcases entries_ok g hm he with ⟨rfl, rfl⟩ | ⟨b, e, es', c, rfl, hρ, hb, rfl, ho, hr⟩
      · obtain ⟨r', v', b', h1, h2, h3, h4⟩ := fin [] .nil
        refine ⟨if ok then .tuple #[v', .bool b'] else v', ?_, hend v' b' h3 h2⟩
        unfold Instr.lookup
        simp only [Sem.run_bind, run_und hu, Result.andThen_ok, Sem.run_pure, hchk]
        rw [h1]
        simp only [Result.andThen_ok]
        cases r' <;> simp only [Sem.run_bind, Sem.run_pure, Result.andThen_ok] at h4 ⊢
        · generalize (zeroValue elem).run P w = q at h4 ⊢
          cases q <;> simp_all
        · cases h4; rfl
      · obtain ⟨r', v', b', h1, h2, h3, h4⟩ := fin es'.toList hr
        refine ⟨if ok then .tuple #[v', .bool b'] else v', ?_, hend v' b' h3 h2⟩
        unfold Instr.lookup
        simp only [Sem.run_bind, run_und hu, Result.andThen_ok, Sem.run_pure, run_getMap ho, hchk]
        rw [h1]
        simp only [Result.andThen_ok]
        cases r' <;> simp only [Sem.run_bind, Sem.run_pure, Result.andThen_ok] at h4 ⊢
        · generalize (zeroValue elem).run P w = q at h4 ⊢
          cases q <;> simp_all
        · cases h4; rfl
    · cases hl
  · cases hl

theorem atMap_ok {t : TypeId} {m k : AV} {m' k' : Value} {q : TypeId × TypeId × Nat × List (AV × AV × Nat) × Nat} (g : Good ρ h w) (hm : VRel ρ m m') (hk : VRel ρ k k') (ha : atMap P h t m k = some q) :
    ∃ key elem b es c e es', q = (key, elem, b, es, c) ∧ und P t = some (.map key elem) ∧ (∃ u, und P key = some u) ∧ (∀ empty, (Instr.checkKey empty 10000 key k').run P w = .ok () w) ∧ m = .map b ∧ ρ b = some e ∧
      h.get b = some (.map es c) ∧ m' = .map (some e.blk) ∧ w.heap[e.blk]? = some (.map es' c) ∧ ERel ρ es es'.toList := by
  unfold atMap at ha
  split at ha
  · rename_i key elem hu
    split at ha
    · rename_i hc
      split at ha
      · rename_i b
        split at ha
        · rename_i es c hb
          cases ha
          cases hm with
          | map hρ =>
            rename_i e
            obtain ⟨o, ho, har⟩ := g.sat b _ e hb hρ
            cases o <;> simp only [ARel] at har
            rename_i es' c'
            obtain ⟨rfl, hr⟩ := har
            exact ⟨key, elem, b, es, _, e, es', rfl, hu, checkA_und hc, fun empty => check_ok 100 10000 (by omega) _ _ _ hc hk, rfl, hρ, hb, rfl, ho, hr⟩
        · cases ha
      · cases ha
    · cases ha
  · cases ha

theorem update_ok {t : TypeId} {m k v : AV} {m' k' v' : Value} (g : Good ρ h w) (hm : VRel ρ m m') (hk : VRel ρ k k') (hv : VRel ρ v v') (hl : updateA P h t m k v = some h') :
    ∃ w', (Instr.mapUpdate t m' k' v').run P w = .ok () w' ∧ Good ρ h' w' ∧ Trans ρ h w ρ h' w' := by
  simp only [updateA, Option.bind_eq_some_iff] at hl
  obtain ⟨q, hq, r, hf, hl⟩ := hl
  obtain ⟨key, elem, b, es, c, e, es', rfl, hu, ⟨u, hku⟩, hchk, rfl, hρ, hb, rfl, ho, hr⟩ := atMap_ok g hm hk hq
  simp only at hf hl
  obtain ⟨r', h1, h2⟩ := find_ok g hku hk hr hf
  unfold Instr.mapUpdate
  simp only [Sem.run_bind, run_und hu, Result.andThen_ok, run_getMap ho, hchk, h1]
  cases r with
  | none =>
    cases r' with
    | some _ => exact h2.elim
    | none =>
      simp only [Option.some.injEq] at hl
      subst hl
      exact ⟨_, run_setMap ho, good_put g hb hρ ⟨rfl, by rw [Array.toList_push]; exact hr.push hk hv rfl⟩⟩
  | some f =>
    cases r' with
    | none => exact h2.elim
    | some r' =>
      simp only at hl
      split at hl
      · rename_i hsb
        cases hl
        obtain ⟨hi, n, hfa⟩ := findA_at _ _ _ hf
        obtain ⟨x, hx1, hx2, hx3, hx4⟩ := hr.get _ _ hfa
        rw [Nat.sub_zero, Array.getElem?_toList] at hx1
        have hsame : Instr.sameBits 10000 x.key k' = true := sameBits_ok 10 _ _ _ _ hsb hx2 hk 10000 (by omega)
        obtain ⟨hr1, hr2⟩ := h2
        have hks : (Instr.keyThatStays (((es'[r'.1]?).map (·.key)).getD k') k').run P w = .ok k' w := by
          rw [hr1, hx1]
          simp [Instr.keyThatStays, hsame]
        simp only [Sem.run_bind, hks, Result.andThen_ok]
        refine ⟨_, run_setMap ho, good_put g hb hρ ⟨rfl, ?_⟩⟩
        rw [Array.toList_modify, hr1]
        exact hr.modify _ fun x m _ _ _ _ hn => ⟨hk, hv, hn⟩
      · cases hl

theorem entry_ok {t : TypeId} {m k : AV} {m' k' : Value} {x : ANext} (g : Good ρ h w) (hm : VRel ρ m m') (hk : VRel ρ k k') (hl : entryA P h t m k = some (x, h')) :
    OpOut P ρ h w x h' ((do pure (.value (← Instr.mapEntry t m' k')) : Sem Next).run P w) := by
  simp only [entryA, Option.bind_eq_some_iff] at hl
  obtain ⟨q, hq, r, hf, hl⟩ := hl
  obtain ⟨key, elem, b, es, c, e, es', rfl, hu, ⟨u, hku⟩, hchk, rfl, hρ, hb, rfl, ho, hr⟩ := atMap_ok g hm hk hq
  simp only at hf hl
  obtain ⟨r', h1, h2⟩ := find_ok g hku hk hr hf
  unfold Instr.mapEntry
  simp only [Sem.run_bind, run_und hu, Result.andThen_ok, run_getMap ho, hchk, h1]
  cases r with
  | none =>
    cases r' with
    | some _ => exact h2.elim
    | none =>
      simp only [Option.map_eq_some_iff, Prod.mk.injEq] at hl
      obtain ⟨z, hz, rfl, rfl⟩ := hl
      obtain ⟨z', hz1, hz2⟩ := run_zero (P := P) (w := w) (ρ := ρ) hz
      have hg := good_put (ab' := .map (es ++ [(k, z, c)]) (c + 1)) (o' := .map (es'.push { key := k', val := z', born := c }) (c + 1)) g hb hρ ⟨rfl, by rw [Array.toList_push]; exact hr.push hk hz2 rfl⟩
      refine .inr ⟨ρ, .value (.tuple #[z', goInt c]), _, ?_, .tuple (.cons hz2 (.cons (.val _) .nil)), hg.1, hg.2⟩
      simp only [Sem.run_bind, hz1, Result.andThen_ok, run_setMap ho, Sem.run_pure]
  | some f =>
    cases r' with
    | none => exact h2.elim
    | some r' =>
      simp only at hl
      split at hl
      · rename_i hsb
        simp only [Option.map_eq_some_iff, Prod.mk.injEq] at hl
        obtain ⟨y, hy, rfl, rfl⟩ := hl
        obtain ⟨hi, n, hfa⟩ := findA_at _ _ _ hf
        obtain ⟨x, hx1, hx2, hx3, hx4⟩ := hr.get _ _ hfa
        rw [Nat.sub_zero] at hfa
        rw [hfa] at hy; cases hy
        rw [Nat.sub_zero, Array.getElem?_toList] at hx1
        have hsame : Instr.sameBits 10000 x.key k' = true := sameBits_ok 10 _ _ _ _ hsb hx2 hk 10000 (by omega)
        obtain ⟨hr1, hr2⟩ := h2
        have hks : (Instr.keyThatStays (((es'[r'.1]?).map (·.key)).getD k') k').run P w = .ok k' w := by
          rw [hr1, hx1]
          simp [Instr.keyThatStays, hsame]
        have hborn : ((es'[r'.1]?).map (fun x => (x.born : Int))).getD 0 = n := by rw [hr1, hx1]; simp at hx4; simp [hx4]
        simp only [Sem.run_bind, hks, Result.andThen_ok]
        have hg := good_put (ab' := .map (modifyN (fun e => (k, e.2.1, e.2.2)) f.1 es) c) (o' := .map (es'.modify r'.1 fun e => { e with key := k' }) c) g hb hρ ⟨rfl, by
          rw [Array.toList_modify, hr1]
          exact hr.modify _ fun x m _ _ _ hv hn => ⟨hk, hv, hn⟩⟩
        refine .inr ⟨ρ, .value (.tuple #[r'.2, goInt n]), _, ?_, .tuple (.cons hr2 (.cons (.val _) .nil)), hg.1, hg.2⟩
        simp only [run_setMap ho, Result.andThen_ok, Sem.run_pure, hborn]
      · cases hl

theorem findBorn_ok {n : Int} : ∀ {es : List (AV × AV × Nat)} {ms : List MapEntry}, ERel ρ es ms → ∀ (i j : Nat), findBorn n es i = some j → i ≤ j ∧ ms.findIdx? (fun e => (e.born : Int) == n) = some (j - i)
  | _, _, .nil, i, j, hf => by simp [findBorn] at hf
  | _, _, .cons (n := c) a b hn t, i, j, hf => by
    simp only [findBorn] at hf
    split at hf
    · rename_i hc
      cases hf
      refine ⟨Nat.le_refl _, ?_⟩
      rw [List.findIdx?_cons, hn, if_pos hc]; simp
    · rename_i hc
      obtain ⟨h1, h2⟩ := findBorn_ok t (i + 1) j hf
      refine ⟨by omega, ?_⟩
      rw [List.findIdx?_cons, hn, if_neg hc, h2]
      simp; omega

theorem entryStore_ok {t : TypeId} {m s v : AV} {m' s' v' : Value} (g : Good ρ h w) (hm : VRel ρ m m') (hs : VRel ρ s s') (hv : VRel ρ v v') (hl : entryStoreA h m s v = some h') :
    ∃ w', (Instr.entryStore t m' s' v').run P w = .ok () w' ∧ Good ρ h' w' ∧ Trans ρ h w ρ h' w' := by
  unfold entryStoreA at hl
  split at hl
  · rename_i b k n
    split at hl
    · rename_i es c hb
      simp only [Option.map_eq_some_iff] at hl
      obtain ⟨i, hi, rfl⟩ := hl
      cases hm with
      | map hρ =>
        rename_i e
        cases hs
        obtain ⟨o, ho, har⟩ := g.sat b _ e hb hρ
        cases o <;> simp only [ARel] at har
        rename_i es' c'
        obtain ⟨rfl, hr⟩ := har
        obtain ⟨_, hfi⟩ := findBorn_ok hr 0 i hi
        have hfi' : es'.findIdx? (fun e => (e.born : Int) == n) = some i := by
          rw [show es' = es'.toList.toArray by simp, List.findIdx?_toArray]; simpa using hfi
        refine ⟨World.put w e.blk (.map (es'.modify i fun e => { e with val := v' }) c'), ?_, good_put g hb hρ ⟨rfl, ?_⟩⟩
        · unfold Instr.entryStore
          simp only [Sem.run_bind, run_getMap ho, Result.andThen_ok, asInt, asIntOf, Sem.run_pure, hfi', run_setMap ho]
        · rw [Array.toList_modify]
          exact hr.modify _ fun x m _ _ hk _ hn => ⟨hk, hv, hn⟩
    · cases hl
  · cases hl

theorem delete_ok {t : TypeId} {ty : TypeId} {m k : AV} {m' k' : Value} (g : Good ρ h w) (hm : VRel ρ m m') (hk : VRel ρ k k') (hl : deleteA P h t m k = some h') :
    ∃ w', (Builtin.delete_ #[t] ty #[m', k']).run P w = .ok (.tuple #[]) w' ∧ Good ρ h' w' ∧ Trans ρ h w ρ h' w' := by
  simp only [deleteA, Option.bind_eq_some_iff, Option.map_eq_some_iff] at hl
  obtain ⟨q, hq, r, hf, hl⟩ := hl
  obtain ⟨key, elem, b, es, c, e, es', rfl, hu, ⟨u, hku⟩, hchk, rfl, hρ, hb, rfl, ho, hr⟩ := atMap_ok g hm hk hq
  simp only at hf hl
  obtain ⟨r', h1, h2⟩ := find_ok g hku hk hr hf
  unfold Builtin.delete_
  simp only [List.getElem?_toArray, List.getElem?_cons_zero, List.getElem?_cons_succ, Sem.run_bind, run_und hu, Result.andThen_ok, run_getMap ho, hchk, h1]
  cases r with
  | none =>
    cases r' with
    | some _ => exact h2.elim
    | none =>
      subst hl
      exact ⟨World.put w e.blk (.map es' c), by simp only [Sem.run_bind, run_setMap ho, Result.andThen_ok, Sem.run_pure], good_put g hb hρ ⟨rfl, hr⟩⟩
  | some f =>
    cases r' with
    | none => exact h2.elim
    | some r' =>
      subst hl
      obtain ⟨hr1, hr2⟩ := h2
      refine ⟨World.put w e.blk (.map (es'.eraseIdxIfInBounds r'.1) c), by simp only [Sem.run_bind, run_setMap ho, Result.andThen_ok, Sem.run_pure], good_put g hb hρ ⟨rfl, ?_⟩⟩
      rw [hr1]
      have : (es'.eraseIdxIfInBounds f.1).toList = es'.toList.eraseIdx f.1 := by
        unfold Array.eraseIdxIfInBounds
        split
        · simp
        · rename_i hge
          rw [List.eraseIdx_of_length_le (by simpa using hge)]
      rw [this]
      exact hr.erase _
end
end Go.Ev

namespace Go.Ev
section
variable {ρ : Ren} {h h' : H} {w : World} {P : Program}

theorem len_ok {x : AV} {x' : Value} {n : Nat} (hx : VRel ρ x x') (hl : lenA x = some n) : (Builtin.lenOf x').run P w = .ok n w := by
  unfold lenA at hl
  split at hl
  · cases hx; cases hl; rfl
  · cases hx; cases hl; rfl
  · cases hx; cases hl; rfl
  · cases hx; cases hl; rfl
  · cases hx; cases hl; rfl
  · cases hl

theorem cellsOf_ok {sz n : Nat} {x : AV} {x' : Value} {l : List AV} (g : Good ρ h w) (hx : VRel ρ x x') (hc : cellsOf h sz n x = some l) :
    ∃ vs : List Value, (Builtin.firstCells sz n x').run P w = .ok vs.toArray w ∧ LRel ρ l vs := by
  unfold cellsOf at hc
  split at hc
  · cases hx; cases hc; exact ⟨[], rfl, .nil⟩
  · rename_i s
    cases hx; cases hc
    refine ⟨(s.extract 0 n).data.toList.map fun b => .int .u8 b.toNat, ?_, ?_⟩
    · simp only [Builtin.firstCells, Sem.run_pure, Result.ok.injEq, and_true]
      apply Array.ext'
      simp
    · generalize (s.extract 0 n).data.toList = q
      induction q with
      | nil => exact .nil
      | cons b q ih => exact .cons (.val _) ih
  · cases hx with
    | slice he =>
      obtain ⟨vs, h1, _, h3⟩ := run_read (P := P) g hc he
      exact ⟨vs, h3, h1⟩
  · cases hx with
    | sliceE he _ _ _ =>
      obtain ⟨vs, h1, _, h3⟩ := run_read (P := P) g hc he
      exact ⟨vs, h3, h1⟩
  · cases hx with
    | void =>
      split at hc
      · rename_i h0
        cases hc
        refine ⟨[], ?_, .nil⟩
        simp only [Builtin.firstCells, h0]
        rfl
      · cases hc
  · cases hc

theorem growBy_le (n : Nat) : ∀ (r c : Nat), c < 2 * n + 192 → Builtin.growBy n r c < 2 * n + 192
  | 0, c, hc => hc
  | r + 1, c, hc => by
    simp only [Builtin.growBy]
    split
    · exact hc
    · exact growBy_le n r _ (by omega)

theorem next_le {need cap : Nat} (h : cap < need) : Builtin.nextslicecap need cap ≤ 2 * need + 192 := by
  unfold Builtin.nextslicecap
  split
  · omega
  · split
    · omega
    · exact Nat.le_of_lt (growBy_le need 4 cap (by omega))

/-- The model's append, where it must grow. -/
theorem run_grow {sT xT ty elem : TypeId} {d : TypeDesc} {sz n len cap : Nat} {base : Option Addr} {x' : Value} {info : TypeInfo} {old new : List Value} {zv : Value}
    (hu : und P sT = some (.slice elem)) (hd : und P xT = some d) (hnd : ∀ k, d ≠ .int k) (hs : size P elem = some sz) (hl : (Builtin.lenOf x').run P w = .ok n w)
    (hi : P.info? elem = some info) (hb : 0 < info.bytes) (hbn : info.bytes * (len + n) ≤ 2 ^ 40) (hcap : cap < len + n) (hz : (∀ w : World, (zeroValue elem).run P w = .ok zv w)) (hzs : zv.cells.size = sz)
    (ho : (Builtin.firstCells sz len (.slice base len cap)).run P w.drew = .ok old.toArray w.drew) (hn : (Builtin.firstCells sz n x').run P w.drew = .ok new.toArray w.drew) (hol : old.length + new.length = (len + n) * sz) :
    ∃ (c : Array Value) (newCap : Nat), (Builtin.append_ #[sT, xT] ty #[.slice base len cap, x']).run P w = .ok (.slice (some ⟨w.heap.size, 0, none⟩) (len + n) newCap) (w.drew.alloc (.cells c elem)) ∧
      c.toList.take ((len + n) * sz) = old ++ new ∧ c.size = newCap * sz ∧ len + n ≤ newCap := by
  have hnz : (match d with | .int _ => true | _ => false) = false := by cases d <;> first | rfl | exact absurd rfl (hnd _)
  have hneed : ¬ (len + n ≤ cap) := by omega
  have hq : (Question.appendCap (len + n) cap elem).forced = false := rfl
  refine ⟨(old.toArray ++ new.toArray ++ Builtin.zeroCells zv.cells (Question.cut (.appendCap (len + n) cap elem) (w.tape w.drawn (.appendCap (len + n) cap elem)) - (len + n))),
    Question.cut (.appendCap (len + n) cap elem) (w.tape w.drawn (.appendCap (len + n) cap elem)), ?_, ?_, ?_, ?_⟩
  · unfold Builtin.append_
    simp only [List.getElem?_toArray, List.getElem?_cons_zero, List.getElem?_cons_succ, Sem.run_bind, run_und hu, run_und hd, run_size hs, Result.andThen_ok, Sem.run_pure, hl]
    simp only [Bool.false_eq_true, if_false, Sem.run_bind, hl, Result.andThen_ok, if_neg hneed, run_info hi, false_or]
    rw [if_neg (by intro hc; omega)]
    have h48 : ¬ (Builtin.nextslicecap (len + n) cap * info.bytes > 2 ^ 48) := by
      have h1 := next_le hcap
      have h2 : Builtin.nextslicecap (len + n) cap * info.bytes ≤ (2 * (len + n) + 192) * info.bytes := Nat.mul_le_mul_right _ h1
      have h3 : info.bytes ≤ info.bytes * (len + n) := Nat.le_mul_of_pos_right _ (by omega)
      have h4 : (2 * (len + n) + 192) * info.bytes = 2 * (info.bytes * (len + n)) + 192 * info.bytes := by rw [Nat.add_mul, Nat.mul_assoc, Nat.mul_comm (len + n)]
      omega
    simp only [Sem.run_bind, run_info hi, Result.andThen_ok, if_neg h48, run_choose, hq, Bool.false_eq_true, if_false, run_askRoom]
    simp only [World.drew_eq, ho, Result.andThen_ok, Bool.not_false, if_true, hn, hz, Sem.run_bind, Sem.run_pure, run_newRow']
    rfl
  · have : ((len + n) * sz) = (old ++ new).length := by simp [hol]
    rw [this]
    simp only [Array.toList_append]
    rw [List.take_left]
  · have hzc : ∀ k, (Builtin.zeroCells zv.cells k).size = k * sz := fun k => by simp [Builtin.zeroCells, hzs]
    simp only [Array.size_append, List.size_toArray, hzc, hol]
    rw [← Nat.add_mul]
    congr 1
    simp [Question.cut]
  · simp [Question.cut]

/-- A slice that has grown, by the names. -/
theorem grow_ok {sT xT ty elem : TypeId} {d : TypeDesc} {sz n len cap : Nat} {base : Option Addr} {x' : Value} {old new : List AV} {old' new' : List Value} {str : Bool} {v : ANext}
    (g : Good ρ h w) (hu : und P sT = some (.slice elem)) (hd : und P xT = some d) (hnd : ∀ k, d ≠ .int k) (hs : size P elem = some sz) (hsz : 0 < sz) (hl : (Builtin.lenOf x').run P w = .ok n w)
    (hcap : cap < len + n) (hgr : growA P h elem sz (len + n) (old ++ new) str = some (v, h'))
    (ho : (Builtin.firstCells sz len (.slice base len cap)).run P w.drew = .ok old'.toArray w.drew) (hn : (Builtin.firstCells sz n x').run P w.drew = .ok new'.toArray w.drew)
    (hor : LRel ρ old old') (hnr : LRel ρ new new') (hf : Fresh ρ h h') :
    OpOut P ρ h w v h' ((do pure (.value (← Builtin.append_ #[sT, xT] ty #[.slice base len cap, x'])) : Sem Next).run P w) := by
  unfold growA at hgr
  split at hgr
  · rename_i info z hi hz
    split at hgr
    · rename_i hc
      obtain ⟨hb, hbn, hzl, hcl⟩ := hc
      simp only [Option.map_eq_some_iff, Prod.mk.injEq] at hgr
      obtain ⟨⟨b, h1⟩, hr, rfl, rfl⟩ := hgr
      obtain ⟨zv, hz1, hz2⟩ := run_zero (P := P) (w := w) (ρ := ρ) hz
      have hzw : ∀ w : World, (zeroValue elem).run P w = .ok zv w := fun w' => by
        simp only [zero, Option.map_eq_some_iff, Option.bind_eq_some_iff] at hz
        obtain ⟨v, ⟨i, h1, h2⟩, _⟩ := hz
        simp [zeroValue, run_info h1, h2] at hz1 ⊢
        exact hz1
      have hzs : zv.cells.size = sz := by have := (cells_rel hz2).length; simp at this; omega
      have e1 := hor.length
      have e2 := hnr.length
      obtain ⟨c, newCap, hrun, htake, hsize, hnc⟩ := run_grow (ty := ty) (w := w) (P := P) hu hd hnd hs hl hi hb hbn hcap hzw hzs ho hn (by simp at hcl; omega)
      have hlen : (old ++ new).length = (len + n) * sz := hcl
      obtain ⟨rfl, h4, h5⟩ := newRow_ok (w := w.drew) g.drew hr (fresh_lt hf (by have := newRow_next hr; simp; omega)) c (by rw [hlen, htake]; exact hor.append hnr) (by rw [hlen, hsize]; exact Nat.mul_le_mul_right _ hnc) (fun hx => by cases hx)
        (0, 0) (.inl rfl) (fun _ => rfl)
      refine .inr ⟨_, .value (.slice (some ⟨w.heap.size, 0, none⟩) (len + n) newCap), _, by simp [hrun], ?_, h4, (Trans.drew ρ h w).trans h5⟩
      exact .sliceE (e := ⟨w.heap.size, 0, c.size⟩) (by simp) (by simp [hsize]) hsz hnc
    · cases hgr
  · cases hgr

/-- An append that finds room. -/
theorem run_room {sT xT ty elem : TypeId} {d : TypeDesc} {sz n len cap : Nat} {base : Option Addr} {x' : Value} {new' : List Value} {w' : World}
    (hu : und P sT = some (.slice elem)) (hd : und P xT = some d) (hnd : ∀ k, d ≠ .int k) (hs : size P elem = some sz) (hl : (Builtin.lenOf x').run P w = .ok n w)
    (hcap : len + n ≤ cap) (hn : (Builtin.firstCells sz n x').run P w = .ok new'.toArray w) (hst : ∀ a, base = some a → (storeCells (a.add (len * sz)) new').run P w = .ok () w') (hbn : base = none → w' = w) :
    (Builtin.append_ #[sT, xT] ty #[.slice base len cap, x']).run P w = .ok (.slice base (len + n) cap) w' := by
  have hnz : (match d with | .int _ => true | _ => false) = false := by cases d <;> first | rfl | exact absurd rfl (hnd _)
  unfold Builtin.append_
  simp only [List.getElem?_toArray, List.getElem?_cons_zero, List.getElem?_cons_succ, Sem.run_bind, run_und hu, run_und hd, run_size hs, Result.andThen_ok, Sem.run_pure]
  simp only [Bool.false_eq_true, if_false, Sem.run_bind, hl, Result.andThen_ok, if_pos hcap, Bool.not_false, if_true, hn]
  cases base with
  | none => rw [hbn rfl]; rfl
  | some a => simp only [Sem.run_bind, hst a rfl, Result.andThen_ok, Sem.run_pure]

/-- Zeros behind nil. -/
theorem run_grow0 {sT xT ty elem : TypeId} {k0 k : IntKind} {sz n : Nat} {info : TypeInfo} {zv : Value}
    (hu : und P sT = some (.slice elem)) (hd : und P xT = some (.int k0)) (hs : size P elem = some sz) (h0 : 0 < n) (hn : n ≤ 2 ^ 40)
    (hi : P.info? elem = some info) (hb : 0 < info.bytes) (hbn : info.bytes * n ≤ 2 ^ 40) (hz : (∀ w : World, (zeroValue elem).run P w = .ok zv w)) (hzs : zv.cells.size = sz) (hsz : 0 < sz) :
    ∃ (c : Array Value) (newCap : Nat), (Builtin.append_ #[sT, xT] ty #[.slice none 0 0, .int k n]).run P w = .ok (.slice (some ⟨w.heap.size, 0, none⟩) n newCap) (w.drew.alloc (.cells c elem)) ∧
      c.toList.take (n * sz) = (Builtin.zeroCells zv.cells n).toList ∧ c.size = newCap * sz ∧ n ≤ newCap := by
  have hneed : ¬ (0 + n ≤ 0) := by omega
  have hzero : (0 + n) = n := Nat.zero_add n
  have hq : (Question.appendCap n 0 elem).forced = false := rfl
  have hwrap : IntKind.i64.wrap (n : Int) = (n : Int) := by rw [IntKind.wrap_i64]; omega
  have hzc : ∀ k, (Builtin.zeroCells zv.cells k).size = k * sz := fun k => by simp [Builtin.zeroCells, hzs]
  refine ⟨((#[] : Array Value) ++ Builtin.zeroCells zv.cells n ++ Builtin.zeroCells zv.cells (Question.cut (.appendCap n 0 elem) (w.tape w.drawn (.appendCap n 0 elem)) - n)),
    Question.cut (.appendCap n 0 elem) (w.tape w.drawn (.appendCap n 0 elem)), ?_, ?_, ?_, ?_⟩
  · unfold Builtin.append_
    simp only [List.getElem?_toArray, List.getElem?_cons_zero, List.getElem?_cons_succ, Sem.run_bind, run_und hu, run_und hd, run_size hs, Result.andThen_ok, Sem.run_pure]
    have hnneg : ¬ ((n : Int) < 0) := by omega
    have hbig : ¬ ((n : Int) * (info.bytes : Int) > 2 ^ 48) := by
      have : ((info.bytes * n : Nat) : Int) ≤ ((2 ^ 40 : Nat) : Int) := by exact_mod_cast hbn
      have h2 : ((info.bytes * n : Nat) : Int) = (n : Int) * (info.bytes : Int) := by rw [Int.natCast_mul, Int.mul_comm]
      rw [h2] at this
      omega
    have hai : (asInt (.int k (n : Int)) : Sem Int) = pure (n : Int) := rfl
    simp only [hai, if_true, Sem.run_bind, Result.andThen_ok, Sem.run_pure, hwrap, if_neg hnneg, run_info hi, if_neg hbig, Int.toNat_natCast, hzero, if_neg hneed]
    have hmx : ¬ ((n : Int) > IntKind.i64.max ∧ (True ∨ info.bytes = 0)) := by rw [show IntKind.i64.max = 9223372036854775807 from rfl]; intro hc; omega
    have hn0 : ¬ (n ≤ 0) := by omega
    simp only [if_neg hn0, Sem.run_bind, run_info hi, Result.andThen_ok, if_neg hmx]
    have h48 : ¬ (Builtin.nextslicecap n 0 * info.bytes > 2 ^ 48) := by
      have h1 := next_le h0
      have h2 : Builtin.nextslicecap n 0 * info.bytes ≤ (2 * n + 192) * info.bytes := Nat.mul_le_mul_right _ h1
      have h3 : info.bytes ≤ info.bytes * n := Nat.le_mul_of_pos_right _ h0
      have h4 : (2 * n + 192) * info.bytes = 2 * (info.bytes * n) + 192 * info.bytes := by rw [Nat.add_mul, Nat.mul_assoc, Nat.mul_comm n]
      omega
    have hfirst : ∀ w : World, (Builtin.firstCells sz 0 (.slice none 0 0)).run P w = .ok #[] w := fun w => by simp [Builtin.firstCells]
    have hnsz : ¬ (n * sz = 0) := by
      have := Nat.mul_pos h0 hsz
      omega
    simp only [Sem.run_bind, run_info hi, Result.andThen_ok, if_neg h48, run_choose, hq, Bool.false_eq_true, if_false, run_askRoom]
    simp only [World.drew_eq, hfirst, Result.andThen_ok, Bool.not_true, Bool.false_eq_true, if_false, if_neg hnsz, hz, Sem.run_bind, Sem.run_pure, run_newRow']
    rfl
  · have : n * sz = (Builtin.zeroCells zv.cells n).toList.length := by simp [hzc]
    rw [this]
    simp only [Array.toList_append]
    rw [List.nil_append, List.take_left]
  · simp only [Array.size_append, hzc]
    rw [show ((#[] : Array Value).size) = 0 from rfl, Nat.zero_add, ← Nat.add_mul]
    congr 1
    simp [Question.cut]
  · simp [Question.cut]

theorem growNew_ok {sT xT ty elem : TypeId} {k0 : IntKind} {s x : AV} {s' x' : Value} {v : ANext} (g : Good ρ h w) (hs : VRel ρ s s') (hx : VRel ρ x x') (hu : und P sT = some (.slice elem)) (hd : und P xT = some (.int k0))
    (ha : growNew P h elem s x = some (v, h')) (hf : Fresh ρ h h') :
    OpOut P ρ h w v h' ((do pure (.value (← Builtin.append_ #[sT, xT] ty #[s', x'])) : Sem Next).run P w) := by
  unfold growNew at ha
  split at ha
  · rename_i k m
    cases hs; cases hx
    split at ha
    · rename_i sz z hsz hz0
      split at ha
      · rename_i hm
        obtain ⟨n, rfl⟩ : ∃ n : Nat, m = (n : Int) := ⟨m.toNat, by omega⟩
        rw [Int.toNat_natCast] at ha
        unfold growA at ha
        split at ha
        · rename_i info z1 hi hz
          rw [hz0] at hz; cases hz
          split at ha
          · rename_i hc
            obtain ⟨hb, hbn, hzl, hcl⟩ := hc
            simp only [Option.map_eq_some_iff, Prod.mk.injEq] at ha
            obtain ⟨⟨b, h1⟩, hr, rfl, rfl⟩ := ha
            obtain ⟨zv, hz1, hz2⟩ := run_zero (P := P) (w := w) (ρ := ρ) hz0
            have hzw : ∀ w : World, (zeroValue elem).run P w = .ok zv w := fun w' => by
              simp only [zero, Option.map_eq_some_iff, Option.bind_eq_some_iff] at hz0
              obtain ⟨v, ⟨i, h1, h2⟩, _⟩ := hz0
              simp [zeroValue, run_info h1, h2] at hz1 ⊢
              exact hz1
            have hzr := cells_rel hz2
            have hzs : zv.cells.size = sz + 1 := by have := hzr.length; simp at this; omega
            obtain ⟨c, newCap, hrun, htake, hsize, hnc⟩ := run_grow0 (ty := ty) (w := w) (P := P) (k := k) hu hd hsz (n := n) (by omega) (by omega) hi hb hbn hzw hzs (by omega)
            have hlen : (repeatN z.cells n).length = n * (sz + 1) := hcl
            have hrel : LRel ρ (repeatN z.cells n) (Builtin.zeroCells zv.cells n).toList := by
              unfold Builtin.zeroCells
              exact repeat_rel hzr n _ (by rw [hzs, hzl])
            obtain ⟨rfl, h4, h5⟩ := newRow_ok (w := w.drew) g.drew hr (fresh_lt hf (by have := newRow_next hr; simp; omega)) c (by rw [hlen, htake]; exact hrel) (by rw [hlen, hsize]; exact Nat.mul_le_mul_right _ hnc) (fun hx => by cases hx)
              (0, 0) (.inl rfl) (fun _ => rfl)
            refine .inr ⟨_, .value (.slice (some ⟨w.heap.size, 0, none⟩) n newCap), _, by simp [hrun], ?_, h4, (Trans.drew ρ h w).trans h5⟩
            exact .sliceE (e := ⟨w.heap.size, 0, c.size⟩) (by simp) (by simp [hsize]) (by omega) hnc
          · cases ha
        · cases ha
      · cases ha
    · cases ha
  · cases ha

theorem append_ok {argTypes : Array TypeId} {ty : TypeId} {s x : AV} {s' x' : Value} {v : ANext} (g : Good ρ h w) (hs : VRel ρ s s') (hx : VRel ρ x x') (ha : appendA P h argTypes s x = some (v, h')) (hf : Fresh ρ h h') :
    OpOut P ρ h w v h' ((do pure (.value (← Builtin.append_ argTypes ty #[s', x'])) : Sem Next).run P w) := by
  unfold appendA at ha
  split at ha
  · rename_i elem d hu hd
    simp only [Option.bind_eq_some_iff] at hu hd
    obtain ⟨sT, hsT, hu⟩ := hu
    obtain ⟨xT, hxT, hd⟩ := hd
    have happ : Builtin.append_ argTypes ty #[s', x'] = Builtin.append_ #[sT, xT] ty #[s', x'] := by
      unfold Builtin.append_
      simp only [hsT, hxT, List.getElem?_toArray, List.getElem?_cons_zero, List.getElem?_cons_succ]
    rw [happ]
    split at ha
    · exact growNew_ok g hs hx hu hd ha hf
    · rename_i hnd
      have hnd : ∀ k, d ≠ .int k := fun k hk => hnd k hk
      split at ha
      · rename_i sz0 hsz
        simp only [Option.bind_eq_some_iff] at ha
        obtain ⟨n, hn, new, hnew, ha⟩ := ha
        have hl := len_ok (P := P) (w := w) hx hn
        obtain ⟨nv, hnr, hnl⟩ := cellsOf_ok (P := P) g hx hnew
        obtain ⟨nv2, hnr2, hnl2⟩ := cellsOf_ok (P := P) g.drew hx hnew
        unfold appendTo at ha
        split at ha
        · cases hs
          split at ha
          · rename_i h0
            cases ha
            have := run_room (ty := ty) (w' := w) (base := none) (len := 0) (cap := 0) hu hd hnd hsz hl (by omega) hnr (fun a ha => by cases ha) (fun _ => rfl)
            subst h0
            exact .inr ⟨ρ, .value (.slice none 0 0), w, by simp [this], .val _, g, .refl _ _ _⟩
          · have := grow_ok (ty := ty) (old := []) (old' := []) (len := 0) (cap := 0) (base := none) g hu hd hnd hsz (by omega) hl (by omega) (by simpa using ha) rfl hnr2 .nil hnl2 hf
            simpa using this
        · rename_i b off len cap
          have hs0 := hs
          cases hs with
          | slice he =>
            rename_i e
            split at ha
            · rename_i hle
              simp only [Option.map_eq_some_iff, Prod.mk.injEq] at ha
              obtain ⟨h1, hw1, rfl, rfl⟩ := ha
              obtain ⟨w', hst, hg, ht, _⟩ := write_cells (P := P) g hw1 he hnl
              have := run_room (ty := ty) (w' := w') (base := some ⟨e.blk, e.off + off, none⟩) hu hd hnd hsz hl hle hnr (fun a ha => by cases ha; rw [add_none]; rw [Nat.add_assoc]; exact hst) (fun hx => by cases hx)
              exact .inr ⟨ρ, .value (.slice (some ⟨e.blk, e.off + off, none⟩) (len + n) cap), w', by simp [this], .slice he, hg, ht⟩
            · rename_i hle
              simp only [Option.bind_eq_some_iff] at ha
              obtain ⟨old, hro, ha⟩ := ha
              obtain ⟨ov, hov, _, hor⟩ := run_read (P := P) g.drew hro he
              exact grow_ok (ty := ty) g hu hd hnd hsz (by omega) hl (by omega) ha hor hnr2 hov hnl2 hf
        · rename_i b off len sz'
          split at ha
          · rename_i l el opn st hb
            split at ha
            · rename_i hc
              obtain ⟨rfl, rfl⟩ := hc
              cases hs with
              | @sliceE _ _ _ _ cap e he ht hz hle =>
                obtain ⟨o, ho, har⟩ := g.sat b _ e hb he
                cases o <;> simp only [ARel] at har
                rename_i c el' fz
                obtain ⟨rfl, hcs, hll, hop, hcr, hfz, hst⟩ := har
                split at ha
                · rename_i hroom
                  simp only [Option.map_eq_some_iff, Prod.mk.injEq] at ha
                  obtain ⟨h1, hw1, rfl, rfl⟩ := ha
                  obtain ⟨w', hstw, hg, htr, _⟩ := write_cells (P := P) g hw1 he hnl
                  have hcap : len + n ≤ cap := by
                    have : (len + n) * (sz0 + 1) ≤ cap * (sz0 + 1) := by omega
                    exact Nat.le_of_mul_le_mul_right this (by omega)
                  have := run_room (ty := ty) (w' := w') (base := some ⟨e.blk, e.off + off, none⟩) hu hd hnd hsz hl hcap hnr (fun a ha => by cases ha; rw [add_none]; rw [Nat.add_assoc]; exact hstw) (fun hx => by cases hx)
                  exact .inr ⟨ρ, .value (.slice (some ⟨e.blk, e.off + off, none⟩) (len + n) cap), w', by simp [this], .sliceE he ht hz hcap, hg, htr⟩
                · rename_i hroom
                  simp only [Option.bind_eq_some_iff] at ha
                  obtain ⟨old, hro, ha⟩ := ha
                  by_cases hcap : len + n ≤ cap
                  · -- there is room that the names do not know of: the block's name gives way
                    obtain ⟨ov, hov, hovl, _, hor⟩ := read_cells g hro he
                    unfold growA at ha
                    split at ha
                    · rename_i info z hi hzz
                      split at ha
                      · rename_i hcond
                        obtain ⟨_, _, hzl, hcl⟩ := hcond
                        simp only [Option.map_eq_some_iff, Prod.mk.injEq] at ha
                        obtain ⟨⟨b2, h2⟩, hr, rfl, rfl⟩ := ha
                        unfold newRow at hr
                        split at hr
                        · rename_i hsing
                          cases hr
                          have hmul : (len + n) * (sz0 + 1) ≤ cap * (sz0 + 1) := Nat.mul_le_mul_right _ hcap
                          have hlnn : len * (sz0 + 1) + new.length = (len + n) * (sz0 + 1) := by simp at hcl; omega
                          have hnlen := hnl.length
                          have hsn : new.all AV.single = true := by
                            rw [List.all_append, Bool.and_eq_true] at hsing; exact hsing.2
                          obtain ⟨w', c', r1, r2, r3, r4, r5⟩ := run_store_row P e.blk (e.off + off + len * (sz0 + 1)) el' fz nv 0 c w ho (by omega) hfz (lrel_single hnl hsn)
                          have hrun := run_room (ty := ty) (w' := w') (base := some ⟨e.blk, e.off + off, none⟩) hu hd hnd hsz hl hcap hnr (fun a ha => by cases ha; rw [add_none]; exact r1) (fun hx => by cases hx)
                          have hnx : ρ h.next = none := fresh_lt hf (by simp)
                          have hgt := good_turn (ab' := .cells (old ++ new) el' true st) (e' := ⟨e.blk, e.off + off, e.tot - off⟩) g hb he hnx rfl r5.size r2 r5.other r5.os r5.tape r5.output
                            ⟨rfl, by rw [r3, hcs]; simp; omega, by simp at hcl ⊢; omega, (fun hx => by cases hx), (fun i y hy => by
                              rw [r4]
                              by_cases hi : i < old.length
                              · rw [List.getElem?_append_left hi] at hy
                                obtain ⟨u, hu1, hu2⟩ := hov.get _ _ hy
                                refine ⟨u, ?_, hu2.mono (Ren.le_with hnx)⟩
                                have hcell := hor i u hu1
                                rw [if_neg (by simp; omega)]
                                simpa [World.cell?, ho] using hcell
                              · have hi' : old.length ≤ i := Nat.le_of_not_lt hi
                                rw [List.getElem?_append_right hi'] at hy
                                obtain ⟨u, hu1, hu2⟩ := hnl.get _ _ hy
                                refine ⟨u, ?_, hu2.mono (Ren.le_with hnx)⟩
                                have hlt : i - old.length < nv.length := (List.getElem?_eq_some_iff.1 hu1).1
                                rw [if_pos (by simp; omega)]
                                have : e.off + off + i - (e.off + off + len * (sz0 + 1) + 0) = i - old.length := by omega
                                simp only
                                rw [this]
                                exact hu1), by rw [r3]; exact hfz, hst⟩
                          refine .inr ⟨_, .value (.slice (some ⟨e.blk, e.off + off, none⟩) (len + n) cap), w', by simp [hrun], ?_, hgt.1, hgt.2⟩
                          have : VRel (ρ.with h.next ⟨e.blk, e.off + off, e.tot - off⟩) (.sliceE h.next 0 (len + n) (sz0 + 1)) (.slice (some ⟨e.blk, e.off + off + 0, none⟩) (len + n) cap) :=
                            .sliceE (e := ⟨e.blk, e.off + off, e.tot - off⟩) (by simp) (by simp; omega) hz hcap
                          exact this
                        · cases hr
                      · cases ha
                    · cases ha
                  · obtain ⟨ov, hov, _, hor⟩ := run_read (P := P) g.drew hro he
                    have hk := good_kill g b
                    have := grow_ok (ty := ty) (len := len) (cap := cap) (base := some ⟨e.blk, e.off + off, none⟩) hk.1 hu hd hnd hsz (by omega) hl (by omega) ha hor hnr2 hov hnl2 hf
                    rcases this with ⟨v1, ρ', v', w', rfl, q2, q3, q4, q5⟩ | ⟨ρ', nx, w', q2, q3, q4, q5⟩
                    · exact .inl ⟨v1, ρ', v', w', rfl, q2, q3, q4, hk.2.trans q5⟩
                    · exact .inr ⟨ρ', nx, w', q2, q3, q4, hk.2.trans q5⟩
            · cases ha
          · cases ha
        · cases ha
      · cases ha
  · cases ha
end
end Go.Ev

namespace Go.Ev
section
variable {ρ : Ren} {h h' : H} {w : World} {P : Program}

theorem run_getObj' {r : Nat} {o : Obj} (hr : w.heap[r]? = some o) (ho : ∀ c e f, o ≠ .cells c e f) : (getObj r).run P w = .ok o w := by
  cases o <;> first | exact absurd rfl (ho _ _ _) | simp [getObj, Sem.run, hr]
theorem run_setObj' {r : Nat} {o o' : Obj} (hr : w.heap[r]? = some o) (ho : ∀ c e f, o ≠ .cells c e f) : (setObj r o').run P w = .ok () (World.put w r o') := by
  cases o <;> first | exact absurd rfl (ho _ _ _) | simp [setObj, Sem.run, hr, World.put]

theorem new_out {ab : AB} {o : Obj} (g : Good ρ h w) (hf : Fresh ρ h (h.new ab)) (hr : ARel (ρ.with h.next ⟨w.heap.size, 0, 0⟩) ⟨w.heap.size, 0, 0⟩ ab o) :
    Good (ρ.with h.next ⟨w.heap.size, 0, 0⟩) (h.new ab) (w.alloc o) ∧ Trans ρ h w (ρ.with h.next ⟨w.heap.size, 0, 0⟩) (h.new ab) (w.alloc o) :=
  good_new g (fresh_lt hf (by simp)) rfl hr

theorem range_ok {t : TypeId} {x : AV} {x' : Value} {v : ANext} (g : Good ρ h w) (hx : VRel ρ x x') (hl : rangeA P h t x = some (v, h')) (hf : Fresh ρ h h') :
    OpOut P ρ h w v h' ((do pure (.value (← Instr.range t x')) : Sem Next).run P w) := by
  unfold rangeA at hl
  split at hl
  · rename_i s hu
    cases hl; cases hx
    obtain ⟨h1, h2⟩ := new_out (o := .stringIter s 0) g hf ⟨rfl, rfl, rfl⟩
    exact .inr ⟨_, .value (.pointer (some ⟨w.heap.size, 0, none⟩)), _, by simp [Instr.range, run_und hu], .ptr (e := ⟨w.heap.size, 0, 0⟩) (by simp), h1, h2⟩
  · rename_i k e hu
    cases hl; cases hx
    obtain ⟨h1, h2⟩ := new_out (o := .mapIter none 0 #[] 0) g hf ⟨.inl ⟨rfl, rfl⟩, rfl, rfl, rfl, rfl⟩
    exact .inr ⟨_, .value (.pointer (some ⟨w.heap.size, 0, none⟩)), _, by simp [Instr.range, run_und hu], .ptr (e := ⟨w.heap.size, 0, 0⟩) (by simp), h1, h2⟩
  · rename_i k e m hu
    split at hl
    · rename_i es clock hm
      cases hl
      cases hx with
      | map he =>
        rename_i e'
        obtain ⟨o, ho, ha⟩ := g.sat m _ e' hm he
        cases o <;> simp only [ARel] at ha
        rename_i es' c'
        obtain ⟨rfl, _⟩ := ha
        have hn : ρ h.next = none := fresh_lt hf (by simp)
        obtain ⟨h1, h2⟩ := new_out (o := .mapIter (some e'.blk) c' #[] c') g hf ⟨.inr ⟨m, e', rfl, Ren.le_with hn _ _ he, rfl⟩, rfl, rfl, rfl, rfl⟩
        exact .inr ⟨_, .value (.pointer (some ⟨w.heap.size, 0, none⟩)), _, by simp [Instr.range, run_und hu, run_getMap ho], .ptr (e := ⟨w.heap.size, 0, 0⟩) (by simp), h1, h2⟩
    · cases hl
  · cases hl

theorem ERel.filter {p : AV × AV × Nat → Bool} {q : MapEntry → Bool} (hpq : ∀ x m, m.born = x.2.2 → p x = q m) : ∀ {es : List (AV × AV × Nat)} {ms : List MapEntry}, ERel ρ es ms → ERel ρ (es.filter p) (ms.filter q)
  | _, _, .nil => .nil
  | _, _, .cons (k := k) (v := v) (n := n) (m := m) a b c t => by
    have := hpq (k, v, n) m c
    rw [List.filter_cons, List.filter_cons, this]
    split
    · exact .cons a b c (ERel.filter hpq t)
    · exact ERel.filter hpq t
theorem ERel.all {p : AV × AV × Nat → Bool} {q : MapEntry → Bool} (hpq : ∀ x m, m.born = x.2.2 → p x = q m) : ∀ {es : List (AV × AV × Nat)} {ms : List MapEntry}, ERel ρ es ms → es.all p = ms.all q
  | _, _, .nil => rfl
  | _, _, .cons (k := k) (v := v) (n := n) (m := m) a b c t => by
    rw [List.all_cons, List.all_cons, hpq (k, v, n) m c, ERel.all hpq t]
theorem ERel.find {p : AV × AV × Nat → Bool} {q : MapEntry → Bool} (hpq : ∀ x m, m.born = x.2.2 → p x = q m) : ∀ {es : List (AV × AV × Nat)} {ms : List MapEntry}, ERel ρ es ms → ∀ x, es.find? p = some x →
    ∃ m, ms.find? q = some m ∧ VRel ρ x.1 m.key ∧ VRel ρ x.2.1 m.val
  | _, _, .nil, x, hx => by simp at hx
  | _, _, .cons (k := k) (v := v) (n := n) (m := m) a b c t, x, hx => by
    rw [List.find?_cons] at hx
    rw [List.find?_cons, ← hpq (k, v, n) m c]
    split at hx
    · rename_i hp
      cases hx
      exact ⟨m, by simp [hp], a, b⟩
    · rename_i hp
      obtain ⟨m', h1, h2⟩ := ERel.find hpq t x hx
      exact ⟨m', by simp [hp, h1], h2⟩

theorem lastOf_eq {α : Type} : ∀ (l : List α), lastOf l = l.getLast?
  | [] => rfl
  | [x] => rfl
  | x :: y :: l => by rw [List.getLast?_cons_cons]; exact lastOf_eq (y :: l)

theorem next_ok {it : AV} {it' : Value} {isString : Bool} {ty : TypeId} {v : ANext} (g : Good ρ h w) (hx : VRel ρ it it') (hl : nextA h it isString = some (v, h')) :
    OpOut P ρ h w v h' ((do pure (.value (← Instr.next it' isString ty)) : Sem Next).run P w) := by
  unfold nextA at hl
  split at hl
  · rename_i b
    cases hx with
    | ptr he =>
      rename_i e
      split at hl
      · rename_i s pos hb
        obtain ⟨o, ho, ha⟩ := g.sat b _ e hb he
        cases o <;> simp only [ARel] at ha
        obtain ⟨hs1, hs2, h0⟩ := ha
        rw [hs1, hs2] at ho
        have hg := run_getObj' (P := P) ho (by simp)
        split at hl
        · rename_i hlt
          cases hl
          have hp := good_put (ab' := .strIter s (pos + (Utf8.decode s pos).2)) (o' := .stringIter s (pos + (Utf8.decode s pos).2)) g hb he ⟨rfl, rfl, h0⟩
          refine .inr ⟨ρ, .value (.tuple #[.bool true, goInt pos, .int .i32 (Utf8.decode s pos).1]), _, ?_, .tuple (.cons (.val _) (.cons (.val _) (.cons (.val _) .nil))), hp.1, hp.2⟩
          have hs := run_setObj' (P := P) (o' := .stringIter s (pos + (Utf8.decode s pos).2)) ho (by simp)
          simp only [h0, Nat.zero_add]
          simp only [Instr.next, Sem.run_bind, hg, Result.andThen_ok, if_pos hlt, hs, Sem.run_pure]
        · rename_i hlt
          cases hl
          refine .inr ⟨ρ, .value (.tuple #[.bool false]), w, ?_, .tuple (.cons (.val _) .nil), g, .refl _ _ _⟩
          simp only [h0, Nat.zero_add]
          simp only [Instr.next, Sem.run_bind, hg, Result.andThen_ok, if_neg hlt, Sem.run_pure]
      · rename_i since seen st hb
        cases hl
        obtain ⟨o, ho, ha⟩ := g.sat b _ e hb he
        cases o <;> simp only [ARel] at ha
        obtain ⟨hm, rfl, hs, rfl, h0⟩ := ha
        rcases hm with ⟨_, rfl⟩ | ⟨_, _, hc, _⟩
        · have hg := run_getObj' (P := P) ho (by simp)
          refine .inr ⟨ρ, .value (.tuple #[.bool false]), w, ?_, .tuple (.cons (.val _) .nil), g, .refl _ _ _⟩
          simp only [h0, Nat.zero_add]
          simp only [Instr.next, Sem.run_bind, hg, Result.andThen_ok, Sem.run_pure]
        · cases hc
      · rename_i m since seen last hb
        obtain ⟨o, ho, ha⟩ := g.sat b _ e hb he
        cases o <;> simp only [ARel] at ha
        rename_i m' since' seen' last'
        obtain ⟨hm, rfl, hs, rfl, h0⟩ := ha
        rcases hm with ⟨hc, _⟩ | ⟨m2, e2, hm2, he2, rfl⟩
        · cases hc
        cases hm2
        have hg := run_getObj' (P := P) ho (by simp)
        split at hl
        · rename_i es clock hbm
          obtain ⟨o2, ho2, ha2⟩ := g.sat m _ e2 hbm he2
          cases o2 <;> simp only [ARel] at ha2
          rename_i es' clock'
          obtain ⟨rfl, hr⟩ := ha2
          have hg2 := run_getMap (P := P) ho2
          split at hl
          · cases hl
          · rename_i hguard
            have hal := hr.all (p := (·.2.2 ≥ last')) (q := (·.born ≥ last')) (fun x m hb => by simp [hb])
            have hlen := hr.length
            have hguard' : (!seen'.isEmpty && !es'.isEmpty && es'.all (·.born ≥ last')) = false := by
              have e1 : seen'.isEmpty = seen.isEmpty := by rw [← hs]; simp
              have e2 : es'.isEmpty = es.isEmpty := by
                have : es'.toList.isEmpty = es.isEmpty := by generalize es'.toList = q at hr; cases hr <;> rfl
                rw [← this]; simp
              rw [e1, e2, ← Array.all_toList, ← hal]
              simpa using hguard
            have hfl := hr.filter (p := fun e => !seen.contains e.2.2) (q := fun e => !seen'.contains e.born) (fun x m hb => by rw [hb, ← hs]; simp)
            have hfo := hfl.filter (p := (·.2.2 < since')) (q := (·.born < since')) (fun x m hb => by simp [hb])
            have hfn := hfl.filter (p := (·.2.2 ≥ since')) (q := (·.born ≥ since')) (fun x m hb => by simp [hb])
            have eo : (((es'.filter fun e => !seen'.contains e.born).filter (·.born < since'))) = (((es'.toList.filter fun e => !seen'.contains e.born).filter (·.born < since'))).toArray := by
              apply Array.ext'; simp
            have en : (((es'.filter fun e => !seen'.contains e.born).filter (·.born ≥ since'))) = (((es'.toList.filter fun e => !seen'.contains e.born).filter (·.born ≥ since'))).toArray := by
              apply Array.ext'; simp
            split at hl
            · rename_i heo hen
              cases hl
              simp only [heo] at hfo
              simp only [hen] at hfn
              generalize hqo : ((es'.toList.filter fun e => !seen'.contains e.born).filter (·.born < since')) = qo at hfo eo
              generalize hqn : ((es'.toList.filter fun e => !seen'.contains e.born).filter (·.born ≥ since')) = qn at hfn en
              cases hfo; cases hfn
              refine .inr ⟨ρ, .value (.tuple #[.bool false]), w, ?_, .tuple (.cons (.val _) .nil), g, .refl _ _ _⟩
              simp only [h0, Nat.zero_add]
              simp only [Instr.next, Sem.run_bind, hg, hg2, Result.andThen_ok, hguard', Bool.false_eq_true, if_false, eo, en]
              simp [Question.forced]
            · rename_i k v born heo hen
              cases hl
              simp only [heo] at hfo
              simp only [hen] at hfn
              generalize hqo : ((es'.toList.filter fun e => !seen'.contains e.born).filter (·.born < since')) = qo at hfo eo
              generalize hqn : ((es'.toList.filter fun e => !seen'.contains e.born).filter (·.born ≥ since')) = qn at hfn en
              cases hfn
              cases hfo with
              | cons hk hv hbn ht =>
                rename_i me mt
                cases ht
                have hp := good_put (ab' := .mapIter (some m) since' (seen ++ [born]) clock') (o' := .mapIter (some e2.blk) since' (seen'.push me.born) clock') g hb he
                  ⟨.inr ⟨m, e2, rfl, he2, rfl⟩, rfl, by rw [Array.toList_push, hs, hbn], rfl, h0⟩
                refine .inr ⟨ρ, .value (.tuple #[.bool true, me.key, me.val]), _, ?_, .tuple (.cons (.val _) (.cons hk (.cons hv .nil))), hp.1, hp.2⟩
                have hst := run_setObj' (P := P) (o' := .mapIter (some e2.blk) since' (seen'.push me.born) clock') ho (by simp)
                simp only [h0, Nat.zero_add]
                simp only [Instr.next, Sem.run_bind, hg, hg2, Result.andThen_ok, hguard', Bool.false_eq_true, if_false, eo, en]
                simp [Question.forced, hst]
            · cases hl
        · cases hl
      · cases hl
  · cases hl

theorem entryOf_ok {it v : AV} {it' : Value} (g : Good ρ h w) (hx : VRel ρ it it') (hl : entryOfA h it = some v) : Reads P ρ w (Instr.entry it') v := by
  unfold entryOfA at hl
  split at hl
  · rename_i b
    cases hx with
    | ptr he =>
      rename_i e
      split at hl
      · rename_i m since seen st hb
        obtain ⟨o, ho, ha⟩ := g.sat b _ e hb he
        cases o <;> simp only [ARel] at ha
        rename_i m' since' seen' st'
        obtain ⟨hm, rfl, hs, rfl, h0⟩ := ha
        rcases hm with ⟨hc, _⟩ | ⟨m2, e2, hm2, he2, rfl⟩
        · cases hc
        cases hm2
        have hg := run_getObj' (P := P) ho (by simp)
        split at hl
        · rename_i stamp es clock hst hbm
          obtain ⟨o2, ho2, ha2⟩ := g.sat m _ e2 hbm he2
          cases o2 <;> simp only [ARel] at ha2
          rename_i es' clock'
          obtain ⟨rfl, hr⟩ := ha2
          have hg2 := run_getMap (P := P) ho2
          split at hl
          · rename_i hcs
            have hcs := eq_of_beq hcs
            subst hcs
            simp only [Option.map_eq_some_iff] at hl
            obtain ⟨x, hx1, rfl⟩ := hl
            obtain ⟨me, hm1, hm2, hm3⟩ := hr.find (p := fun e => e.2.2 == stamp) (q := fun e => e.born == stamp) (fun x m hb => by rw [hb]) x hx1
            have hback : seen'.back? = some stamp := by rw [lastOf_eq, ← hs] at hst; simpa using hst
            have hfind : es'.find? (fun e => e.born == stamp) = some me := by rw [← Array.find?_toList]; exact hm1
            refine ⟨.tuple #[me.key, me.val], ?_, .tuple (.cons hm2 (.cons hm3 .nil))⟩
            simp only [h0, Nat.zero_add]
            simp only [Instr.entry, Sem.run_bind, hg, hg2, Result.andThen_ok, hback, bne_self_eq_false, Bool.false_eq_true, if_false, hfind, Sem.run_pure]
          · cases hl
        · cases hl
      · cases hl
  · cases hl
end
end Go.Ev

namespace Go.Ev
section
variable {ρ : Ren} {h h' : H} {w : World} {P : Program} {ev : Operand → Option AV} {a : Operand → Value}

theorem toValue_rel {x : AV} {v v' : Value} (hv : toValue x = some v) (hx : VRel ρ x v') : v' = v := by
  unfold toValue at hv
  split at hv
  · cases hv; cases hx; rfl
  · cases hv
theorem toValues_rel : ∀ {l : List AV} {vs vs' : List Value}, toValues l = some vs → LRel ρ l vs' → vs' = vs
  | [], vs, vs', hv, hx => by simp [toValues] at hv; subst hv; cases hx; rfl
  | x :: l, vs, vs', hv, hx => by
    simp only [toValues, Option.bind_eq_some_iff, Option.map_eq_some_iff] at hv
    obtain ⟨v, h1, r, h2, rfl⟩ := hv
    cases hx with
    | cons hx ht => rw [toValue_rel h1 hx, toValues_rel h2 ht]

/-! ### Conversions -/
theorem bytesA_ok : ∀ {l : List AV} {bs : List UInt8} {vs : List Value}, bytesA l = some bs → LRel ρ l vs → ∃ ns : List Int, vs = ns.map (Value.int .u8) ∧ bs = ns.map fun n => UInt8.ofNat n.toNat
  | [], bs, vs, hb, hl => by simp [bytesA] at hb; subst hb; cases hl; exact ⟨[], rfl, rfl⟩
  | x :: l, bs, vs, hb, hl => by
    unfold bytesA at hb
    split at hb
    · rename_i heq; cases heq
    · rename_i n l' heq
      cases heq
      simp only [Option.map_eq_some_iff] at hb
      obtain ⟨r, h1, rfl⟩ := hb
      cases hl with
      | cons hx ht =>
        obtain ⟨ns, h2, h3⟩ := bytesA_ok h1 ht
        cases hx
        exact ⟨n :: ns, by simp [h2], by simp [h3]⟩
    · cases hb

theorem foldl_push : ∀ (ns : List Int) (r : ByteArray), ns.foldl (fun r n => r.push (UInt8.ofNat n.toNat)) r = ⟨r.data ++ (ns.map fun n => UInt8.ofNat n.toNat).toArray⟩
  | [], r => by simp
  | n :: ns, r => by
    rw [List.foldl_cons, foldl_push ns]
    congr 1
    apply Array.ext'
    simp [ByteArray.push]

theorem sliceString_ok {src dst : TypeId} {b off len : Nat} {x' : Value} {v : ANext} (g : Good ρ h w) (hx : ∃ e cap, ρ b = some e ∧ x' = .slice (some ⟨e.blk, e.off + off, none⟩) len cap)
    (hs : sliceString P h src dst b off len = some (v, h')) : OpOut P ρ h w v h' ((do pure (.value (← convert src dst x')) : Sem Next).run P w) := by
  obtain ⟨e, cap, he, rfl⟩ := hx
  unfold sliceString at hs
  split at hs
  · rename_i el h1 h2
    split at hs
    · rename_i h3
      simp only [Option.bind_eq_some_iff, Option.map_eq_some_iff, Prod.mk.injEq] at hs
      obtain ⟨l, hr, bs, hb, rfl, rfl⟩ := hs
      obtain ⟨vs, hv1, hv2, hv3⟩ := run_read (P := P) g hr he
      obtain ⟨ns, hn1, hn2⟩ := bytesA_ok hb hv1
      rw [hn1] at hv3
      have hrun := run_bytesToString (P := P) w ⟨e.blk, e.off + off, none⟩ len cap ns hv3
      rw [foldl_push] at hrun
      simp only [show ByteArray.empty.data = (#[] : Array UInt8) from rfl, Array.empty_append] at hrun
      refine .inr ⟨ρ, .value (.string ⟨bs.toArray⟩), w, ?_, .val _, g, .refl _ _ _⟩
      rw [hn2]
      simp only [Sem.run_bind, run_convert_bytes_string w src dst el _ _ _ h1 h3 h2, hrun, Result.andThen_ok, Sem.run_pure]
    · cases hs
  · cases hs

theorem freeze_facts {r n : Nat} {c : Array Value} {el : TypeId} {fz : Nat × Nat} (hr : w.heap[r]? = some (.cells c el fz)) :
    Turned w (w.freeze ⟨r, n, none⟩ 1) r ∧ (w.freeze ⟨r, n, none⟩ 1).heap[r]? = some (.cells c el (if fz.1 == fz.2 then (n, n + 1) else (min fz.1 n, max fz.2 (n + 1)))) := by
  obtain ⟨lo, hi⟩ := fz
  refine ⟨⟨by simp [World.freeze], fun k hk => ?_, by simp [World.freeze], by simp [World.freeze], by simp [World.freeze]⟩, ?_⟩
  · simp only [World.freeze, Nat.one_ne_zero, if_false, Array.getElem?_modify]
    rw [if_neg (fun e => hk e.symm)]
  · simp only [World.freeze, Nat.one_ne_zero, if_false, Array.getElem?_modify, if_true, hr, Option.map_some]

theorem convertSlice_ok {src dst : TypeId} {b : Nat} {x : AV} {x' : Value} {v : ANext} (g : Good ρ h w) (hx : VRel ρ x x') (hxs : ∃ e off len cap, ρ b = some e ∧ x' = .slice (some ⟨e.blk, e.off + off, none⟩) len cap) (hnd : und P dst ≠ some .string)
    (hs : convertSlice P h src dst b x = some (v, h')) : OpOut P ρ h w v h' ((do pure (.value (← convert src dst x')) : Sem Next).run P w) := by
  obtain ⟨e, off, len, cap, he, rfl⟩ := hxs
  unfold convertSlice at hs
  split at hs
  · rename_i el h1 h2
    split at hs
    · rename_i l el0 op st h3 hb
      cases hs
      obtain ⟨o, ho, ha⟩ := g.sat b _ e hb he
      cases o <;> simp only [ARel] at ha
      rename_i c el' fz
      obtain ⟨rfl, hsz, hle, hop, hcr, hfz, hst⟩ := ha
      obtain ⟨ht, hf⟩ := freeze_facts (n := c.size) ho
      have hgs := good_set (ab' := .cells l el' op true) g hb he ht.size hf ht.other ht.os ht.tape ht.output
        ⟨rfl, hsz, hle, hop, hcr, by
          split
          · right; simp
          · rename_i hne
            right
            rcases hfz with hc | hc
            · simp [hc] at hne
            · simp; omega, fun hc => by cases hc⟩
      have hshape : w.shape? e.blk = some (el', c.size) := by simp [World.shape?, ho]
      have hse : src = dst := eq_of_beq h1
      subst hse
      refine .inr ⟨ρ, .value (.slice (some ⟨e.blk, e.off + off, none⟩) len cap), _, ?_, hx, hgs.1, hgs.2⟩
      have hcv : (convert src src (.slice (some ⟨e.blk, e.off + off, none⟩) len cap)).run P w = .ok (.slice (some ⟨e.blk, e.off + off, none⟩) len cap) (w.freeze ⟨e.blk, c.size, none⟩ 1) := by
        simp only [convert, Sem.run_bind, run_und h2, Result.andThen_ok, run_und h3, beq_self_eq_true, markStringish, run_shape, hshape, run_freeze, Sem.run_pure]
      simp only [Sem.run_bind, hcv, Result.andThen_ok, Sem.run_pure]
    · cases hs
  · cases hs

theorem freeze_alloc (c : Array Value) (el : TypeId) : (w.alloc (.cells c el)).freeze ⟨w.heap.size, c.size, none⟩ 1 = w.alloc (.cells c el (c.size, c.size + 1)) := by
  obtain ⟨heap, tape, drawn, os, output⟩ := w
  unfold World.freeze World.alloc
  simp only [Nat.one_ne_zero, if_false, World.mk.injEq, and_true]
  apply Array.ext
  · simp
  · intro i h1 h2
    simp only [Array.getElem_modify, Array.getElem_push]
    by_cases hi : i < heap.size
    · have : ¬ (heap.size = i) := by omega
      simp [hi, this]
    · have : heap.size = i := by simp at h1; omega
      subst this
      simp
end
end Go.Ev
