/-
  NARROWER THAN 'FOR EVERY INPUT', by the rows' own cells (each row's printed sentence says how): BidChecks: laid · BidBest: laid · BidGains: laid · BidSingles: laid · BidSeconds: laid · BidClears: laid · BidCores: laid · BidVickrey: laid · BidShapley: laid · BidWorth: laid.
  DERIVED. THE GIVEN ROWS OF THIS SEAT. 10 by the template 'for every input the law returns true; each argument reads behind the call as it read before'; 0 by the template 'total and deterministic' (their statements: YthbfgmgpploneaaDoorTotals.lean).
  GIVEN WITH THE SEED: the statements are not yours to turn. If you find one false, say at which input.
  Laid BY PROGRAM, IN A SANDBOX (cutbox-rows.mjs): the forced cells as the released guide's own fill.sh prints them over the translation f2470296511cb08b… (all of the seat's roots in one cut). By AI agents, Wed Nov 11 2026. No macro, syntax, notation, axiom, sorry.
-/
import Derived.Test.YthbfgmgpploneaaDoorChecked
import GoSem.Claim
import GoSem.ClaimJoined
import GoSem.ClaimMapViews
import Derived.JoinedTies
import Derived.KernelRfl
namespace Go.Proofs.YthbfgmgpploneaaDoor
/- THE CELL 'sum', in the pinned program and in every row, IS THE sha256 OF THE DUMP (.gsa) THAT YthbfgmgpploneaaDoorProg.lean LOADS. Nothing in Lean hashes anything: it is a label: what it is worth is what the hold of that sum in a sandbox is worth. -/
noncomputable def Tryd.pinned : Pinned := { name := "ythbfgmgpploneaadoor", sum := "f2470296511cb08bbda228f45d828d5c45b6df24facfbb17324726d8eaac7c74", checked := Tryd.checked }
namespace Rows
def none {H : Type} : Left H := { results := [], args := [] }

/- WHAT THE LISTED PACKAGE-LEVEL VARIABLES READ AS WHEN THE CALL BEGINS. Each datum BY PROGRAM (the guide's laid-datum.mjs) off the statement by which the dump's own 'gosem.cut.vars' lays the variable. In a bare row this is a premise. The card (YthbfgmgpploneaaDoorCards.lean) ties it to the program's text. -/
def laid_math_bits_deBruijn32tab {H : Type} : DataW H := .agg [.lit (.int .u8 0), .lit (.int .u8 1), .lit (.int .u8 28), .lit (.int .u8 2), .lit (.int .u8 29), .lit (.int .u8 14), .lit (.int .u8 24), .lit (.int .u8 3), .lit (.int .u8 30), .lit (.int .u8 22), .lit (.int .u8 20), .lit (.int .u8 15), .lit (.int .u8 25), .lit (.int .u8 17), .lit (.int .u8 4), .lit (.int .u8 8), .lit (.int .u8 31), .lit (.int .u8 27), .lit (.int .u8 13), .lit (.int .u8 23), .lit (.int .u8 21), .lit (.int .u8 19), .lit (.int .u8 16), .lit (.int .u8 7), .lit (.int .u8 26), .lit (.int .u8 12), .lit (.int .u8 18), .lit (.int .u8 6), .lit (.int .u8 11), .lit (.int .u8 5), .lit (.int .u8 10), .lit (.int .u8 9)]
def laid_math_bits_deBruijn64tab {H : Type} : DataW H := .agg [.lit (.int .u8 0), .lit (.int .u8 1), .lit (.int .u8 56), .lit (.int .u8 2), .lit (.int .u8 57), .lit (.int .u8 49), .lit (.int .u8 28), .lit (.int .u8 3), .lit (.int .u8 61), .lit (.int .u8 58), .lit (.int .u8 42), .lit (.int .u8 50), .lit (.int .u8 38), .lit (.int .u8 29), .lit (.int .u8 17), .lit (.int .u8 4), .lit (.int .u8 62), .lit (.int .u8 47), .lit (.int .u8 59), .lit (.int .u8 36), .lit (.int .u8 45), .lit (.int .u8 43), .lit (.int .u8 51), .lit (.int .u8 22), .lit (.int .u8 53), .lit (.int .u8 39), .lit (.int .u8 33), .lit (.int .u8 30), .lit (.int .u8 24), .lit (.int .u8 18), .lit (.int .u8 12), .lit (.int .u8 5), .lit (.int .u8 63), .lit (.int .u8 55), .lit (.int .u8 48), .lit (.int .u8 27), .lit (.int .u8 60), .lit (.int .u8 41), .lit (.int .u8 37), .lit (.int .u8 16), .lit (.int .u8 46), .lit (.int .u8 35), .lit (.int .u8 44), .lit (.int .u8 21), .lit (.int .u8 52), .lit (.int .u8 32), .lit (.int .u8 23), .lit (.int .u8 11), .lit (.int .u8 54), .lit (.int .u8 26), .lit (.int .u8 40), .lit (.int .u8 15), .lit (.int .u8 34), .lit (.int .u8 20), .lit (.int .u8 31), .lit (.int .u8 10), .lit (.int .u8 25), .lit (.int .u8 14), .lit (.int .u8 19), .lit (.int .u8 9), .lit (.int .u8 13), .lit (.int .u8 8), .lit (.int .u8 7), .lit (.int .u8 6)]

/-- 'squeegeelaw08.BidChecks': WHATEVER THE INPUT: true; the input reads as it did. -/
def bidChecksSpec : ChangeSpec := { name := "bidChecks", fn := fun _ => fun
  | [d1, d2, d3] => { results := [.lit (.bool true)], args := [d1, d2, d3] }
  | _ => none }
def bidChecksRow : OpenClaim := { program := "ythbfgmgpploneaadoor", sum := "f2470296511cb08bbda228f45d828d5c45b6df24facfbb17324726d8eaac7c74", func := "squeegee/squeegeelaw08.BidChecks", spec := "bidChecks", unfollowed := true, recurses := true, named := ["math/bits.deBruijn32tab", "math/bits.deBruijn64tab"], apart := false, laid := [("math/bits.deBruijn32tab", laid_math_bits_deBruijn32tab), ("math/bits.deBruijn64tab", laid_math_bits_deBruijn64tab)] }
def BidChecksSaid : Prop := bidChecksRow.holds Tryd.pinned (OpenSpec.ofChange bidChecksSpec)

/-- ITS FALSE NEIGHBOUR: 'it returns false'. Refute it at one input. -/
def bidChecksWrong : ChangeSpec := { name := "bidChecks", fn := fun _ => fun
  | [d1, d2, d3] => { results := [.lit (.bool false)], args := [d1, d2, d3] }
  | _ => none }
def BidChecksWrongFalsely : Prop := bidChecksRow.holds Tryd.pinned (OpenSpec.ofChange bidChecksWrong)

/-- 'squeegeelaw08.BidBest': WHATEVER THE INPUT: true; the input reads as it did. -/
def bidBestSpec : ChangeSpec := { name := "bidBest", fn := fun _ => fun
  | [d1, d2, d3] => { results := [.lit (.bool true)], args := [d1, d2, d3] }
  | _ => none }
def bidBestRow : OpenClaim := { program := "ythbfgmgpploneaadoor", sum := "f2470296511cb08bbda228f45d828d5c45b6df24facfbb17324726d8eaac7c74", func := "squeegee/squeegeelaw08.BidBest", spec := "bidBest", unfollowed := true, recurses := true, named := ["math/bits.deBruijn32tab", "math/bits.deBruijn64tab"], apart := false, laid := [("math/bits.deBruijn32tab", laid_math_bits_deBruijn32tab), ("math/bits.deBruijn64tab", laid_math_bits_deBruijn64tab)] }
def BidBestSaid : Prop := bidBestRow.holds Tryd.pinned (OpenSpec.ofChange bidBestSpec)

/-- ITS FALSE NEIGHBOUR: 'it returns false'. Refute it at one input. -/
def bidBestWrong : ChangeSpec := { name := "bidBest", fn := fun _ => fun
  | [d1, d2, d3] => { results := [.lit (.bool false)], args := [d1, d2, d3] }
  | _ => none }
def BidBestWrongFalsely : Prop := bidBestRow.holds Tryd.pinned (OpenSpec.ofChange bidBestWrong)

/-- 'squeegeelaw08.BidGains': WHATEVER THE INPUT: true; the input reads as it did. -/
def bidGainsSpec : ChangeSpec := { name := "bidGains", fn := fun _ => fun
  | [d1, d2, d3] => { results := [.lit (.bool true)], args := [d1, d2, d3] }
  | _ => none }
def bidGainsRow : OpenClaim := { program := "ythbfgmgpploneaadoor", sum := "f2470296511cb08bbda228f45d828d5c45b6df24facfbb17324726d8eaac7c74", func := "squeegee/squeegeelaw08.BidGains", spec := "bidGains", unfollowed := true, recurses := true, named := ["math/bits.deBruijn32tab", "math/bits.deBruijn64tab"], apart := false, laid := [("math/bits.deBruijn32tab", laid_math_bits_deBruijn32tab), ("math/bits.deBruijn64tab", laid_math_bits_deBruijn64tab)] }
def BidGainsSaid : Prop := bidGainsRow.holds Tryd.pinned (OpenSpec.ofChange bidGainsSpec)

/-- ITS FALSE NEIGHBOUR: 'it returns false'. Refute it at one input. -/
def bidGainsWrong : ChangeSpec := { name := "bidGains", fn := fun _ => fun
  | [d1, d2, d3] => { results := [.lit (.bool false)], args := [d1, d2, d3] }
  | _ => none }
def BidGainsWrongFalsely : Prop := bidGainsRow.holds Tryd.pinned (OpenSpec.ofChange bidGainsWrong)

/-- 'squeegeelaw08.BidSingles': WHATEVER THE INPUT: true; the input reads as it did. -/
def bidSinglesSpec : ChangeSpec := { name := "bidSingles", fn := fun _ => fun
  | [d1, d2] => { results := [.lit (.bool true)], args := [d1, d2] }
  | _ => none }
def bidSinglesRow : OpenClaim := { program := "ythbfgmgpploneaadoor", sum := "f2470296511cb08bbda228f45d828d5c45b6df24facfbb17324726d8eaac7c74", func := "squeegee/squeegeelaw08.BidSingles", spec := "bidSingles", unfollowed := true, recurses := true, named := ["math/bits.deBruijn32tab", "math/bits.deBruijn64tab"], apart := false, laid := [("math/bits.deBruijn32tab", laid_math_bits_deBruijn32tab), ("math/bits.deBruijn64tab", laid_math_bits_deBruijn64tab)] }
def BidSinglesSaid : Prop := bidSinglesRow.holds Tryd.pinned (OpenSpec.ofChange bidSinglesSpec)

/-- ITS FALSE NEIGHBOUR: 'it returns false'. Refute it at one input. -/
def bidSinglesWrong : ChangeSpec := { name := "bidSingles", fn := fun _ => fun
  | [d1, d2] => { results := [.lit (.bool false)], args := [d1, d2] }
  | _ => none }
def BidSinglesWrongFalsely : Prop := bidSinglesRow.holds Tryd.pinned (OpenSpec.ofChange bidSinglesWrong)

/-- 'squeegeelaw08.BidSeconds': WHATEVER THE INPUT: true; the input reads as it did. -/
def bidSecondsSpec : ChangeSpec := { name := "bidSeconds", fn := fun _ => fun
  | [d] => { results := [.lit (.bool true)], args := [d] }
  | _ => none }
def bidSecondsRow : OpenClaim := { program := "ythbfgmgpploneaadoor", sum := "f2470296511cb08bbda228f45d828d5c45b6df24facfbb17324726d8eaac7c74", func := "squeegee/squeegeelaw08.BidSeconds", spec := "bidSeconds", unfollowed := true, recurses := true, named := ["math/bits.deBruijn32tab", "math/bits.deBruijn64tab"], apart := false, laid := [("math/bits.deBruijn32tab", laid_math_bits_deBruijn32tab), ("math/bits.deBruijn64tab", laid_math_bits_deBruijn64tab)] }
def BidSecondsSaid : Prop := bidSecondsRow.holds Tryd.pinned (OpenSpec.ofChange bidSecondsSpec)

/-- ITS FALSE NEIGHBOUR: 'it returns false'. Refute it at one input. -/
def bidSecondsWrong : ChangeSpec := { name := "bidSeconds", fn := fun _ => fun
  | [d] => { results := [.lit (.bool false)], args := [d] }
  | _ => none }
def BidSecondsWrongFalsely : Prop := bidSecondsRow.holds Tryd.pinned (OpenSpec.ofChange bidSecondsWrong)

/-- 'squeegeelaw08.BidClears': WHATEVER THE INPUT: true; the input reads as it did. -/
def bidClearsSpec : ChangeSpec := { name := "bidClears", fn := fun _ => fun
  | [d1, d2, d3] => { results := [.lit (.bool true)], args := [d1, d2, d3] }
  | _ => none }
def bidClearsRow : OpenClaim := { program := "ythbfgmgpploneaadoor", sum := "f2470296511cb08bbda228f45d828d5c45b6df24facfbb17324726d8eaac7c74", func := "squeegee/squeegeelaw08.BidClears", spec := "bidClears", unfollowed := true, recurses := true, named := ["math/bits.deBruijn32tab", "math/bits.deBruijn64tab"], apart := false, laid := [("math/bits.deBruijn32tab", laid_math_bits_deBruijn32tab), ("math/bits.deBruijn64tab", laid_math_bits_deBruijn64tab)] }
def BidClearsSaid : Prop := bidClearsRow.holds Tryd.pinned (OpenSpec.ofChange bidClearsSpec)

/-- ITS FALSE NEIGHBOUR: 'it returns false'. Refute it at one input. -/
def bidClearsWrong : ChangeSpec := { name := "bidClears", fn := fun _ => fun
  | [d1, d2, d3] => { results := [.lit (.bool false)], args := [d1, d2, d3] }
  | _ => none }
def BidClearsWrongFalsely : Prop := bidClearsRow.holds Tryd.pinned (OpenSpec.ofChange bidClearsWrong)

/-- 'squeegeelaw08.BidCores': WHATEVER THE INPUT: true; the input reads as it did. -/
def bidCoresSpec : ChangeSpec := { name := "bidCores", fn := fun _ => fun
  | [d1, d2, d3] => { results := [.lit (.bool true)], args := [d1, d2, d3] }
  | _ => none }
def bidCoresRow : OpenClaim := { program := "ythbfgmgpploneaadoor", sum := "f2470296511cb08bbda228f45d828d5c45b6df24facfbb17324726d8eaac7c74", func := "squeegee/squeegeelaw08.BidCores", spec := "bidCores", unfollowed := true, recurses := true, named := ["math/bits.deBruijn32tab", "math/bits.deBruijn64tab"], apart := false, laid := [("math/bits.deBruijn32tab", laid_math_bits_deBruijn32tab), ("math/bits.deBruijn64tab", laid_math_bits_deBruijn64tab)] }
def BidCoresSaid : Prop := bidCoresRow.holds Tryd.pinned (OpenSpec.ofChange bidCoresSpec)

/-- ITS FALSE NEIGHBOUR: 'it returns false'. Refute it at one input. -/
def bidCoresWrong : ChangeSpec := { name := "bidCores", fn := fun _ => fun
  | [d1, d2, d3] => { results := [.lit (.bool false)], args := [d1, d2, d3] }
  | _ => none }
def BidCoresWrongFalsely : Prop := bidCoresRow.holds Tryd.pinned (OpenSpec.ofChange bidCoresWrong)

/-- 'squeegeelaw08.BidVickrey': WHATEVER THE INPUT: true; the input reads as it did. -/
def bidVickreySpec : ChangeSpec := { name := "bidVickrey", fn := fun _ => fun
  | [d1, d2, d3] => { results := [.lit (.bool true)], args := [d1, d2, d3] }
  | _ => none }
def bidVickreyRow : OpenClaim := { program := "ythbfgmgpploneaadoor", sum := "f2470296511cb08bbda228f45d828d5c45b6df24facfbb17324726d8eaac7c74", func := "squeegee/squeegeelaw08.BidVickrey", spec := "bidVickrey", unfollowed := true, recurses := true, named := ["math/bits.deBruijn32tab", "math/bits.deBruijn64tab"], apart := false, laid := [("math/bits.deBruijn32tab", laid_math_bits_deBruijn32tab), ("math/bits.deBruijn64tab", laid_math_bits_deBruijn64tab)] }
def BidVickreySaid : Prop := bidVickreyRow.holds Tryd.pinned (OpenSpec.ofChange bidVickreySpec)

/-- ITS FALSE NEIGHBOUR: 'it returns false'. Refute it at one input. -/
def bidVickreyWrong : ChangeSpec := { name := "bidVickrey", fn := fun _ => fun
  | [d1, d2, d3] => { results := [.lit (.bool false)], args := [d1, d2, d3] }
  | _ => none }
def BidVickreyWrongFalsely : Prop := bidVickreyRow.holds Tryd.pinned (OpenSpec.ofChange bidVickreyWrong)

/-- 'squeegeelaw08.BidShapley': WHATEVER THE INPUT: true; the input reads as it did. -/
def bidShapleySpec : ChangeSpec := { name := "bidShapley", fn := fun _ => fun
  | [d1, d2, d3] => { results := [.lit (.bool true)], args := [d1, d2, d3] }
  | _ => none }
def bidShapleyRow : OpenClaim := { program := "ythbfgmgpploneaadoor", sum := "f2470296511cb08bbda228f45d828d5c45b6df24facfbb17324726d8eaac7c74", func := "squeegee/squeegeelaw08.BidShapley", spec := "bidShapley", unfollowed := true, recurses := true, named := ["math/bits.deBruijn32tab", "math/bits.deBruijn64tab"], apart := false, laid := [("math/bits.deBruijn32tab", laid_math_bits_deBruijn32tab), ("math/bits.deBruijn64tab", laid_math_bits_deBruijn64tab)] }
def BidShapleySaid : Prop := bidShapleyRow.holds Tryd.pinned (OpenSpec.ofChange bidShapleySpec)

/-- ITS FALSE NEIGHBOUR: 'it returns false'. Refute it at one input. -/
def bidShapleyWrong : ChangeSpec := { name := "bidShapley", fn := fun _ => fun
  | [d1, d2, d3] => { results := [.lit (.bool false)], args := [d1, d2, d3] }
  | _ => none }
def BidShapleyWrongFalsely : Prop := bidShapleyRow.holds Tryd.pinned (OpenSpec.ofChange bidShapleyWrong)

/-- 'squeegeelaw08.BidWorth': WHATEVER THE INPUT: true; the input reads as it did. -/
def bidWorthSpec : ChangeSpec := { name := "bidWorth", fn := fun _ => fun
  | [d1, d2, d3] => { results := [.lit (.bool true)], args := [d1, d2, d3] }
  | _ => none }
def bidWorthRow : OpenClaim := { program := "ythbfgmgpploneaadoor", sum := "f2470296511cb08bbda228f45d828d5c45b6df24facfbb17324726d8eaac7c74", func := "squeegee/squeegeelaw08.BidWorth", spec := "bidWorth", unfollowed := true, recurses := true, named := ["math/bits.deBruijn32tab", "math/bits.deBruijn64tab"], apart := false, laid := [("math/bits.deBruijn32tab", laid_math_bits_deBruijn32tab), ("math/bits.deBruijn64tab", laid_math_bits_deBruijn64tab)] }
def BidWorthSaid : Prop := bidWorthRow.holds Tryd.pinned (OpenSpec.ofChange bidWorthSpec)

/-- ITS FALSE NEIGHBOUR: 'it returns false'. Refute it at one input. -/
def bidWorthWrong : ChangeSpec := { name := "bidWorth", fn := fun _ => fun
  | [d1, d2, d3] => { results := [.lit (.bool false)], args := [d1, d2, d3] }
  | _ => none }
def BidWorthWrongFalsely : Prop := bidWorthRow.holds Tryd.pinned (OpenSpec.ofChange bidWorthWrong)

/- THE SECOND FORM. 'bulk': how many values and letters a reading holds, each counted each time it is reached (what is shared counts as often as it is met; a slice's spare places count too). A statement '..UptoSaid' is the law's where the arguments, and the package variables that the reading takes, are together of bulk at most 1048576: NARROWER than '..Said'. Prove '..Said' where nothing that the law and all that it calls make is longer than what came in: it says more and counts as full. Else prove '..UptoSaid'. A law counts once. -/
mutual
def uptoBulk {H : Type} : DataW H → Nat
  | .lit (.string bytes) => bytes.length + 1
  | .lit _ => 1
  | .nil => 1
  | .ptr d => uptoBulk d + 1
  | .slice elems spare => uptoBulkAll elems + uptoBulkAll spare + 1
  | .agg parts => uptoBulkAll parts + 1
  | .iface _ d => uptoBulk d + 1
  | .map entries => uptoBulkEntries entries + 1
  | .held _ => 1
def uptoBulkAll {H : Type} : List (DataW H) → Nat
  | [] => 0
  | d :: r => uptoBulk d + uptoBulkAll r
def uptoBulkEntries {H : Type} : List (Lit × DataW H) → Nat
  | [] => 0
  | x :: r => uptoBulkEntry x + uptoBulkEntries r
def uptoBulkEntry {H : Type} : Lit × DataW H → Nat
  | (.string bytes, d) => bytes.length + uptoBulk d + 1
  | (_, d) => uptoBulk d + 1
 end
def uptoSmall : (H : Type) → List (DataW H) → Bool := fun _ ds => decide (uptoBulkAll ds ≤ 1048576)
def OpenSpec.upto (s : _root_.Go.ChangeSpec) : _root_.Go.OpenSpec := { _root_.Go.OpenSpec.ofChange s with cond := some uptoSmall }

/-- 'squeegeelaw08.BidChecks', WHERE WHAT IT READS IS OF BULK AT MOST 1048576: true; the input reads as it did. -/
def bidChecksUptoRow : OpenClaim := { program := "ythbfgmgpploneaadoor", sum := "f2470296511cb08bbda228f45d828d5c45b6df24facfbb17324726d8eaac7c74", func := "squeegee/squeegeelaw08.BidChecks", spec := "bidChecks", unfollowed := true, recurses := true, named := ["math/bits.deBruijn32tab", "math/bits.deBruijn64tab"], apart := false, laid := [("math/bits.deBruijn32tab", laid_math_bits_deBruijn32tab), ("math/bits.deBruijn64tab", laid_math_bits_deBruijn64tab)], narrowed := true }
def BidChecksUptoSaid : Prop := bidChecksUptoRow.holds Tryd.pinned (OpenSpec.upto bidChecksSpec)

/-- 'squeegeelaw08.BidBest', WHERE WHAT IT READS IS OF BULK AT MOST 1048576: true; the input reads as it did. -/
def bidBestUptoRow : OpenClaim := { program := "ythbfgmgpploneaadoor", sum := "f2470296511cb08bbda228f45d828d5c45b6df24facfbb17324726d8eaac7c74", func := "squeegee/squeegeelaw08.BidBest", spec := "bidBest", unfollowed := true, recurses := true, named := ["math/bits.deBruijn32tab", "math/bits.deBruijn64tab"], apart := false, laid := [("math/bits.deBruijn32tab", laid_math_bits_deBruijn32tab), ("math/bits.deBruijn64tab", laid_math_bits_deBruijn64tab)], narrowed := true }
def BidBestUptoSaid : Prop := bidBestUptoRow.holds Tryd.pinned (OpenSpec.upto bidBestSpec)

/-- 'squeegeelaw08.BidGains', WHERE WHAT IT READS IS OF BULK AT MOST 1048576: true; the input reads as it did. -/
def bidGainsUptoRow : OpenClaim := { program := "ythbfgmgpploneaadoor", sum := "f2470296511cb08bbda228f45d828d5c45b6df24facfbb17324726d8eaac7c74", func := "squeegee/squeegeelaw08.BidGains", spec := "bidGains", unfollowed := true, recurses := true, named := ["math/bits.deBruijn32tab", "math/bits.deBruijn64tab"], apart := false, laid := [("math/bits.deBruijn32tab", laid_math_bits_deBruijn32tab), ("math/bits.deBruijn64tab", laid_math_bits_deBruijn64tab)], narrowed := true }
def BidGainsUptoSaid : Prop := bidGainsUptoRow.holds Tryd.pinned (OpenSpec.upto bidGainsSpec)

/-- 'squeegeelaw08.BidSingles', WHERE WHAT IT READS IS OF BULK AT MOST 1048576: true; the input reads as it did. -/
def bidSinglesUptoRow : OpenClaim := { program := "ythbfgmgpploneaadoor", sum := "f2470296511cb08bbda228f45d828d5c45b6df24facfbb17324726d8eaac7c74", func := "squeegee/squeegeelaw08.BidSingles", spec := "bidSingles", unfollowed := true, recurses := true, named := ["math/bits.deBruijn32tab", "math/bits.deBruijn64tab"], apart := false, laid := [("math/bits.deBruijn32tab", laid_math_bits_deBruijn32tab), ("math/bits.deBruijn64tab", laid_math_bits_deBruijn64tab)], narrowed := true }
def BidSinglesUptoSaid : Prop := bidSinglesUptoRow.holds Tryd.pinned (OpenSpec.upto bidSinglesSpec)

/-- 'squeegeelaw08.BidSeconds', WHERE WHAT IT READS IS OF BULK AT MOST 1048576: true; the input reads as it did. -/
def bidSecondsUptoRow : OpenClaim := { program := "ythbfgmgpploneaadoor", sum := "f2470296511cb08bbda228f45d828d5c45b6df24facfbb17324726d8eaac7c74", func := "squeegee/squeegeelaw08.BidSeconds", spec := "bidSeconds", unfollowed := true, recurses := true, named := ["math/bits.deBruijn32tab", "math/bits.deBruijn64tab"], apart := false, laid := [("math/bits.deBruijn32tab", laid_math_bits_deBruijn32tab), ("math/bits.deBruijn64tab", laid_math_bits_deBruijn64tab)], narrowed := true }
def BidSecondsUptoSaid : Prop := bidSecondsUptoRow.holds Tryd.pinned (OpenSpec.upto bidSecondsSpec)

/-- 'squeegeelaw08.BidClears', WHERE WHAT IT READS IS OF BULK AT MOST 1048576: true; the input reads as it did. -/
def bidClearsUptoRow : OpenClaim := { program := "ythbfgmgpploneaadoor", sum := "f2470296511cb08bbda228f45d828d5c45b6df24facfbb17324726d8eaac7c74", func := "squeegee/squeegeelaw08.BidClears", spec := "bidClears", unfollowed := true, recurses := true, named := ["math/bits.deBruijn32tab", "math/bits.deBruijn64tab"], apart := false, laid := [("math/bits.deBruijn32tab", laid_math_bits_deBruijn32tab), ("math/bits.deBruijn64tab", laid_math_bits_deBruijn64tab)], narrowed := true }
def BidClearsUptoSaid : Prop := bidClearsUptoRow.holds Tryd.pinned (OpenSpec.upto bidClearsSpec)

/-- 'squeegeelaw08.BidCores', WHERE WHAT IT READS IS OF BULK AT MOST 1048576: true; the input reads as it did. -/
def bidCoresUptoRow : OpenClaim := { program := "ythbfgmgpploneaadoor", sum := "f2470296511cb08bbda228f45d828d5c45b6df24facfbb17324726d8eaac7c74", func := "squeegee/squeegeelaw08.BidCores", spec := "bidCores", unfollowed := true, recurses := true, named := ["math/bits.deBruijn32tab", "math/bits.deBruijn64tab"], apart := false, laid := [("math/bits.deBruijn32tab", laid_math_bits_deBruijn32tab), ("math/bits.deBruijn64tab", laid_math_bits_deBruijn64tab)], narrowed := true }
def BidCoresUptoSaid : Prop := bidCoresUptoRow.holds Tryd.pinned (OpenSpec.upto bidCoresSpec)

/-- 'squeegeelaw08.BidVickrey', WHERE WHAT IT READS IS OF BULK AT MOST 1048576: true; the input reads as it did. -/
def bidVickreyUptoRow : OpenClaim := { program := "ythbfgmgpploneaadoor", sum := "f2470296511cb08bbda228f45d828d5c45b6df24facfbb17324726d8eaac7c74", func := "squeegee/squeegeelaw08.BidVickrey", spec := "bidVickrey", unfollowed := true, recurses := true, named := ["math/bits.deBruijn32tab", "math/bits.deBruijn64tab"], apart := false, laid := [("math/bits.deBruijn32tab", laid_math_bits_deBruijn32tab), ("math/bits.deBruijn64tab", laid_math_bits_deBruijn64tab)], narrowed := true }
def BidVickreyUptoSaid : Prop := bidVickreyUptoRow.holds Tryd.pinned (OpenSpec.upto bidVickreySpec)

/-- 'squeegeelaw08.BidShapley', WHERE WHAT IT READS IS OF BULK AT MOST 1048576: true; the input reads as it did. -/
def bidShapleyUptoRow : OpenClaim := { program := "ythbfgmgpploneaadoor", sum := "f2470296511cb08bbda228f45d828d5c45b6df24facfbb17324726d8eaac7c74", func := "squeegee/squeegeelaw08.BidShapley", spec := "bidShapley", unfollowed := true, recurses := true, named := ["math/bits.deBruijn32tab", "math/bits.deBruijn64tab"], apart := false, laid := [("math/bits.deBruijn32tab", laid_math_bits_deBruijn32tab), ("math/bits.deBruijn64tab", laid_math_bits_deBruijn64tab)], narrowed := true }
def BidShapleyUptoSaid : Prop := bidShapleyUptoRow.holds Tryd.pinned (OpenSpec.upto bidShapleySpec)

/-- 'squeegeelaw08.BidWorth', WHERE WHAT IT READS IS OF BULK AT MOST 1048576: true; the input reads as it did. -/
def bidWorthUptoRow : OpenClaim := { program := "ythbfgmgpploneaadoor", sum := "f2470296511cb08bbda228f45d828d5c45b6df24facfbb17324726d8eaac7c74", func := "squeegee/squeegeelaw08.BidWorth", spec := "bidWorth", unfollowed := true, recurses := true, named := ["math/bits.deBruijn32tab", "math/bits.deBruijn64tab"], apart := false, laid := [("math/bits.deBruijn32tab", laid_math_bits_deBruijn32tab), ("math/bits.deBruijn64tab", laid_math_bits_deBruijn64tab)], narrowed := true }
def BidWorthUptoSaid : Prop := bidWorthUptoRow.holds Tryd.pinned (OpenSpec.upto bidWorthSpec)

end Rows
end Go.Proofs.YthbfgmgpploneaaDoor
