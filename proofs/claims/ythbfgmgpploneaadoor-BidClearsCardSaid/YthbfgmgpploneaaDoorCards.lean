/-
  DERIVED. GIVEN WITH THE SEED: THE CARDS: each row of YthbfgmgpploneaaDoorRows.lean that lists a variable, with what it lists TIED to the program's text (the seventh form; the later family's looks); each row that meets fmt, with fmt's text TOLD by the authors' own Lean function (tested against real Go, not proved from fmt's source: count such statements apart). THE CARD IS WHAT COUNTS. Prove the row's statement (the work); the ties are given (YthbfgmgpploneaaDoorTie.lean); close each card by the builder's one call (the guide's Derived/Test/ToyasCard.lean, 'card_holds'). Laid BY PROGRAM, IN A SANDBOX (cutbox-door.mjs). By AI agents, Wed Nov 11 2026. No macro, syntax, notation, axiom, sorry.
-/
import Derived.Test.YthbfgmgpploneaaDoorRows
import GoSem.ClaimSeven
namespace Go.Proofs.YthbfgmgpploneaaDoor
namespace Rows

/-- THE TIED CARD OF 'squeegeelaw08.BidChecks'. -/
def bidChecksCard : Claim7 := { stood := { row := bidChecksRow, standIns := [], harness := (true, "ac046d723c43299c9ce667caf6356279ef57120d60b20839e392c2d6206db844"), looks := false }, kinds := [], alts := [], laidByText := true, laidKinds := [.data, .data], laidTests := true, laidLooks := .later }
def BidChecksCardSaid : Prop := Claim7.holds Tryd.pinned (.plain (OpenSpec.ofChange bidChecksSpec)) bidChecksCard

/-- THE TIED CARD OF 'squeegeelaw08.BidBest'. -/
def bidBestCard : Claim7 := { stood := { row := bidBestRow, standIns := [], harness := (true, "ac046d723c43299c9ce667caf6356279ef57120d60b20839e392c2d6206db844"), looks := false }, kinds := [], alts := [], laidByText := true, laidKinds := [.data, .data], laidTests := true, laidLooks := .later }
def BidBestCardSaid : Prop := Claim7.holds Tryd.pinned (.plain (OpenSpec.ofChange bidBestSpec)) bidBestCard

/-- THE TIED CARD OF 'squeegeelaw08.BidGains'. -/
def bidGainsCard : Claim7 := { stood := { row := bidGainsRow, standIns := [], harness := (true, "ac046d723c43299c9ce667caf6356279ef57120d60b20839e392c2d6206db844"), looks := false }, kinds := [], alts := [], laidByText := true, laidKinds := [.data, .data], laidTests := true, laidLooks := .later }
def BidGainsCardSaid : Prop := Claim7.holds Tryd.pinned (.plain (OpenSpec.ofChange bidGainsSpec)) bidGainsCard

/-- THE TIED CARD OF 'squeegeelaw08.BidSingles'. -/
def bidSinglesCard : Claim7 := { stood := { row := bidSinglesRow, standIns := [], harness := (true, "ac046d723c43299c9ce667caf6356279ef57120d60b20839e392c2d6206db844"), looks := false }, kinds := [], alts := [], laidByText := true, laidKinds := [.data, .data], laidTests := true, laidLooks := .later }
def BidSinglesCardSaid : Prop := Claim7.holds Tryd.pinned (.plain (OpenSpec.ofChange bidSinglesSpec)) bidSinglesCard

/-- THE TIED CARD OF 'squeegeelaw08.BidSeconds'. -/
def bidSecondsCard : Claim7 := { stood := { row := bidSecondsRow, standIns := [], harness := (true, "ac046d723c43299c9ce667caf6356279ef57120d60b20839e392c2d6206db844"), looks := false }, kinds := [], alts := [], laidByText := true, laidKinds := [.data, .data], laidTests := true, laidLooks := .later }
def BidSecondsCardSaid : Prop := Claim7.holds Tryd.pinned (.plain (OpenSpec.ofChange bidSecondsSpec)) bidSecondsCard

/-- THE TIED CARD OF 'squeegeelaw08.BidClears'. -/
def bidClearsCard : Claim7 := { stood := { row := bidClearsRow, standIns := [], harness := (true, "ac046d723c43299c9ce667caf6356279ef57120d60b20839e392c2d6206db844"), looks := false }, kinds := [], alts := [], laidByText := true, laidKinds := [.data, .data], laidTests := true, laidLooks := .later }
def BidClearsCardSaid : Prop := Claim7.holds Tryd.pinned (.plain (OpenSpec.ofChange bidClearsSpec)) bidClearsCard

/-- THE TIED CARD OF 'squeegeelaw08.BidCores'. -/
def bidCoresCard : Claim7 := { stood := { row := bidCoresRow, standIns := [], harness := (true, "ac046d723c43299c9ce667caf6356279ef57120d60b20839e392c2d6206db844"), looks := false }, kinds := [], alts := [], laidByText := true, laidKinds := [.data, .data], laidTests := true, laidLooks := .later }
def BidCoresCardSaid : Prop := Claim7.holds Tryd.pinned (.plain (OpenSpec.ofChange bidCoresSpec)) bidCoresCard

/-- THE TIED CARD OF 'squeegeelaw08.BidVickrey'. -/
def bidVickreyCard : Claim7 := { stood := { row := bidVickreyRow, standIns := [], harness := (true, "ac046d723c43299c9ce667caf6356279ef57120d60b20839e392c2d6206db844"), looks := false }, kinds := [], alts := [], laidByText := true, laidKinds := [.data, .data], laidTests := true, laidLooks := .later }
def BidVickreyCardSaid : Prop := Claim7.holds Tryd.pinned (.plain (OpenSpec.ofChange bidVickreySpec)) bidVickreyCard

/-- THE TIED CARD OF 'squeegeelaw08.BidShapley'. -/
def bidShapleyCard : Claim7 := { stood := { row := bidShapleyRow, standIns := [], harness := (true, "ac046d723c43299c9ce667caf6356279ef57120d60b20839e392c2d6206db844"), looks := false }, kinds := [], alts := [], laidByText := true, laidKinds := [.data, .data], laidTests := true, laidLooks := .later }
def BidShapleyCardSaid : Prop := Claim7.holds Tryd.pinned (.plain (OpenSpec.ofChange bidShapleySpec)) bidShapleyCard

/-- THE TIED CARD OF 'squeegeelaw08.BidWorth'. -/
def bidWorthCard : Claim7 := { stood := { row := bidWorthRow, standIns := [], harness := (true, "ac046d723c43299c9ce667caf6356279ef57120d60b20839e392c2d6206db844"), looks := false }, kinds := [], alts := [], laidByText := true, laidKinds := [.data, .data], laidTests := true, laidLooks := .later }
def BidWorthCardSaid : Prop := Claim7.holds Tryd.pinned (.plain (OpenSpec.ofChange bidWorthSpec)) bidWorthCard

/-- THE SECOND FORM's CARD OF 'squeegeelaw08.BidChecks'. -/
def bidChecksUptoCard : Claim7 := { stood := { row := bidChecksUptoRow, standIns := [], harness := (true, "ac046d723c43299c9ce667caf6356279ef57120d60b20839e392c2d6206db844"), looks := false }, kinds := [], alts := [], laidByText := true, laidKinds := [.data, .data], laidTests := true, laidLooks := .later }
def BidChecksUptoCardSaid : Prop := Claim7.holds Tryd.pinned (.plain (OpenSpec.upto bidChecksSpec)) bidChecksUptoCard

/-- THE SECOND FORM's CARD OF 'squeegeelaw08.BidBest'. -/
def bidBestUptoCard : Claim7 := { stood := { row := bidBestUptoRow, standIns := [], harness := (true, "ac046d723c43299c9ce667caf6356279ef57120d60b20839e392c2d6206db844"), looks := false }, kinds := [], alts := [], laidByText := true, laidKinds := [.data, .data], laidTests := true, laidLooks := .later }
def BidBestUptoCardSaid : Prop := Claim7.holds Tryd.pinned (.plain (OpenSpec.upto bidBestSpec)) bidBestUptoCard

/-- THE SECOND FORM's CARD OF 'squeegeelaw08.BidGains'. -/
def bidGainsUptoCard : Claim7 := { stood := { row := bidGainsUptoRow, standIns := [], harness := (true, "ac046d723c43299c9ce667caf6356279ef57120d60b20839e392c2d6206db844"), looks := false }, kinds := [], alts := [], laidByText := true, laidKinds := [.data, .data], laidTests := true, laidLooks := .later }
def BidGainsUptoCardSaid : Prop := Claim7.holds Tryd.pinned (.plain (OpenSpec.upto bidGainsSpec)) bidGainsUptoCard

/-- THE SECOND FORM's CARD OF 'squeegeelaw08.BidSingles'. -/
def bidSinglesUptoCard : Claim7 := { stood := { row := bidSinglesUptoRow, standIns := [], harness := (true, "ac046d723c43299c9ce667caf6356279ef57120d60b20839e392c2d6206db844"), looks := false }, kinds := [], alts := [], laidByText := true, laidKinds := [.data, .data], laidTests := true, laidLooks := .later }
def BidSinglesUptoCardSaid : Prop := Claim7.holds Tryd.pinned (.plain (OpenSpec.upto bidSinglesSpec)) bidSinglesUptoCard

/-- THE SECOND FORM's CARD OF 'squeegeelaw08.BidSeconds'. -/
def bidSecondsUptoCard : Claim7 := { stood := { row := bidSecondsUptoRow, standIns := [], harness := (true, "ac046d723c43299c9ce667caf6356279ef57120d60b20839e392c2d6206db844"), looks := false }, kinds := [], alts := [], laidByText := true, laidKinds := [.data, .data], laidTests := true, laidLooks := .later }
def BidSecondsUptoCardSaid : Prop := Claim7.holds Tryd.pinned (.plain (OpenSpec.upto bidSecondsSpec)) bidSecondsUptoCard

/-- THE SECOND FORM's CARD OF 'squeegeelaw08.BidClears'. -/
def bidClearsUptoCard : Claim7 := { stood := { row := bidClearsUptoRow, standIns := [], harness := (true, "ac046d723c43299c9ce667caf6356279ef57120d60b20839e392c2d6206db844"), looks := false }, kinds := [], alts := [], laidByText := true, laidKinds := [.data, .data], laidTests := true, laidLooks := .later }
def BidClearsUptoCardSaid : Prop := Claim7.holds Tryd.pinned (.plain (OpenSpec.upto bidClearsSpec)) bidClearsUptoCard

/-- THE SECOND FORM's CARD OF 'squeegeelaw08.BidCores'. -/
def bidCoresUptoCard : Claim7 := { stood := { row := bidCoresUptoRow, standIns := [], harness := (true, "ac046d723c43299c9ce667caf6356279ef57120d60b20839e392c2d6206db844"), looks := false }, kinds := [], alts := [], laidByText := true, laidKinds := [.data, .data], laidTests := true, laidLooks := .later }
def BidCoresUptoCardSaid : Prop := Claim7.holds Tryd.pinned (.plain (OpenSpec.upto bidCoresSpec)) bidCoresUptoCard

/-- THE SECOND FORM's CARD OF 'squeegeelaw08.BidVickrey'. -/
def bidVickreyUptoCard : Claim7 := { stood := { row := bidVickreyUptoRow, standIns := [], harness := (true, "ac046d723c43299c9ce667caf6356279ef57120d60b20839e392c2d6206db844"), looks := false }, kinds := [], alts := [], laidByText := true, laidKinds := [.data, .data], laidTests := true, laidLooks := .later }
def BidVickreyUptoCardSaid : Prop := Claim7.holds Tryd.pinned (.plain (OpenSpec.upto bidVickreySpec)) bidVickreyUptoCard

/-- THE SECOND FORM's CARD OF 'squeegeelaw08.BidShapley'. -/
def bidShapleyUptoCard : Claim7 := { stood := { row := bidShapleyUptoRow, standIns := [], harness := (true, "ac046d723c43299c9ce667caf6356279ef57120d60b20839e392c2d6206db844"), looks := false }, kinds := [], alts := [], laidByText := true, laidKinds := [.data, .data], laidTests := true, laidLooks := .later }
def BidShapleyUptoCardSaid : Prop := Claim7.holds Tryd.pinned (.plain (OpenSpec.upto bidShapleySpec)) bidShapleyUptoCard

/-- THE SECOND FORM's CARD OF 'squeegeelaw08.BidWorth'. -/
def bidWorthUptoCard : Claim7 := { stood := { row := bidWorthUptoRow, standIns := [], harness := (true, "ac046d723c43299c9ce667caf6356279ef57120d60b20839e392c2d6206db844"), looks := false }, kinds := [], alts := [], laidByText := true, laidKinds := [.data, .data], laidTests := true, laidLooks := .later }
def BidWorthUptoCardSaid : Prop := Claim7.holds Tryd.pinned (.plain (OpenSpec.upto bidWorthSpec)) bidWorthUptoCard
end Rows
end Go.Proofs.YthbfgmgpploneaaDoor
