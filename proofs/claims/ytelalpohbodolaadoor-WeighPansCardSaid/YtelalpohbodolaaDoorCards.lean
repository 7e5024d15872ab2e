/-
  DERIVED. GIVEN WITH THE SEED: THE CARDS: each row of YtelalpohbodolaaDoorRows.lean that lists a variable, with what it lists TIED to the program's text (the seventh form; the later family's looks); each row that meets fmt, with fmt's text TOLD by the authors' own Lean function (tested against real Go, not proved from fmt's source: count such statements apart). THE CARD IS WHAT COUNTS. Prove the row's statement (the work); the ties are given (YtelalpohbodolaaDoorTie.lean); close each card by the builder's one call (the guide's Derived/Test/ToyasCard.lean, 'card_holds'). Laid BY PROGRAM, IN A SANDBOX (cutbox-door.mjs). By AI agents, Wed Nov 11 2026. No macro, syntax, notation, axiom, sorry.
-/
import Derived.Test.YtelalpohbodolaaDoorRows
import GoSem.ClaimSeven
namespace Go.Proofs.YtelalpohbodolaaDoor
namespace Rows

/-- THE TIED CARD OF 'bellpulllaw08.WeighDistinct'. -/
def weighDistinctCard : Claim7 := { stood := { row := weighDistinctRow, standIns := [], harness := (true, "9e278049d9308d2612ddcceeb5eb5e2b9b163782cb5caeb8028118d659028afd"), looks := false }, kinds := [], alts := [], laidByText := true, laidKinds := [.data, .data, .data, .data, .pinned], laidTests := true, laidLooks := .later }
def WeighDistinctCardSaid : Prop := Claim7.holds Tryd.pinned (.plain (OpenSpec.ofChange weighDistinctSpec)) weighDistinctCard

/-- THE TIED CARD OF 'bellpulllaw08.WeighSubsets'. -/
def weighSubsetsCard : Claim7 := { stood := { row := weighSubsetsRow, standIns := [], harness := (true, "9e278049d9308d2612ddcceeb5eb5e2b9b163782cb5caeb8028118d659028afd"), looks := false }, kinds := [], alts := [], laidByText := true, laidKinds := [.data, .data, .data, .data, .pinned], laidTests := true, laidLooks := .later }
def WeighSubsetsCardSaid : Prop := Claim7.holds Tryd.pinned (.plain (OpenSpec.ofChange weighSubsetsSpec)) weighSubsetsCard

/-- THE TIED CARD OF 'bellpulllaw08.WeighPans'. -/
def weighPansCard : Claim7 := { stood := { row := weighPansRow, standIns := [], harness := (true, "9e278049d9308d2612ddcceeb5eb5e2b9b163782cb5caeb8028118d659028afd"), looks := false }, kinds := [], alts := [], laidByText := true, laidKinds := [.data, .data, .data, .data, .pinned], laidTests := true, laidLooks := .later }
def WeighPansCardSaid : Prop := Claim7.holds Tryd.pinned (.plain (OpenSpec.ofChange weighPansSpec)) weighPansCard

/-- THE TIED CARD OF 'bellpulllaw08.WeighGuys'. -/
def weighGuysCard : Claim7 := { stood := { row := weighGuysRow, standIns := [], harness := (true, "9e278049d9308d2612ddcceeb5eb5e2b9b163782cb5caeb8028118d659028afd"), looks := false }, kinds := [], alts := [], laidByText := true, laidKinds := [.data, .data, .data, .data, .pinned], laidTests := true, laidLooks := .later }
def WeighGuysCardSaid : Prop := Claim7.holds Tryd.pinned (.plain (OpenSpec.ofChange weighGuysSpec)) weighGuysCard

/-- THE TIED CARD OF 'bellpulllaw08.WeighClash'. -/
def weighClashCard : Claim7 := { stood := { row := weighClashRow, standIns := [], harness := (true, "9e278049d9308d2612ddcceeb5eb5e2b9b163782cb5caeb8028118d659028afd"), looks := false }, kinds := [], alts := [], laidByText := true, laidKinds := [.data, .data, .data, .data, .pinned], laidTests := true, laidLooks := .later }
def WeighClashCardSaid : Prop := Claim7.holds Tryd.pinned (.plain (OpenSpec.ofChange weighClashSpec)) weighClashCard

/-- THE TIED CARD OF 'bellpulllaw08.WeighConway'. -/
def weighConwayCard : Claim7 := { stood := { row := weighConwayRow, standIns := [], harness := (true, "9e278049d9308d2612ddcceeb5eb5e2b9b163782cb5caeb8028118d659028afd"), looks := false }, kinds := [], alts := [], laidByText := true, laidKinds := [.data, .data, .data, .data, .pinned], laidTests := true, laidLooks := .later }
def WeighConwayCardSaid : Prop := Claim7.holds Tryd.pinned (.plain (OpenSpec.ofChange weighConwaySpec)) weighConwayCard

/-- THE TIED CARD OF 'bellpulllaw08.WeighErdos'. -/
def weighErdosCard : Claim7 := { stood := { row := weighErdosRow, standIns := [], harness := (true, "9e278049d9308d2612ddcceeb5eb5e2b9b163782cb5caeb8028118d659028afd"), looks := false }, kinds := [], alts := [], laidByText := true, laidKinds := [.data, .data, .data, .data, .pinned], laidTests := true, laidLooks := .later }
def WeighErdosCardSaid : Prop := Claim7.holds Tryd.pinned (.plain (OpenSpec.ofChange weighErdosSpec)) weighErdosCard

/-- THE TIED CARD OF 'bellpulllaw08.WeighWays'. -/
def weighWaysCard : Claim7 := { stood := { row := weighWaysRow, standIns := [], harness := (true, "9e278049d9308d2612ddcceeb5eb5e2b9b163782cb5caeb8028118d659028afd"), looks := false }, kinds := [], alts := [], laidByText := true, laidKinds := [.data, .data, .data, .data, .pinned], laidTests := true, laidLooks := .later }
def WeighWaysCardSaid : Prop := Claim7.holds Tryd.pinned (.plain (OpenSpec.ofChange weighWaysSpec)) weighWaysCard

/-- THE TIED CARD OF 'bellpulllaw08.WeighParts'. -/
def weighPartsCard : Claim7 := { stood := { row := weighPartsRow, standIns := [], harness := (true, "9e278049d9308d2612ddcceeb5eb5e2b9b163782cb5caeb8028118d659028afd"), looks := false }, kinds := [], alts := [], laidByText := true, laidKinds := [.data, .data, .data, .data, .pinned], laidTests := true, laidLooks := .later }
def WeighPartsCardSaid : Prop := Claim7.holds Tryd.pinned (.plain (OpenSpec.ofChange weighPartsSpec)) weighPartsCard

/-- THE TIED CARD OF 'bellpulllaw08.WeighTernary'. -/
def weighTernaryCard : Claim7 := { stood := { row := weighTernaryRow, standIns := [], harness := (true, "9e278049d9308d2612ddcceeb5eb5e2b9b163782cb5caeb8028118d659028afd"), looks := false }, kinds := [], alts := [], laidByText := true, laidKinds := [.data, .data, .data, .data, .pinned], laidTests := true, laidLooks := .later }
def WeighTernaryCardSaid : Prop := Claim7.holds Tryd.pinned (.plain (OpenSpec.ofChange weighTernarySpec)) weighTernaryCard

/-- THE SECOND FORM's CARD OF 'bellpulllaw08.WeighDistinct'. -/
def weighDistinctUptoCard : Claim7 := { stood := { row := weighDistinctUptoRow, standIns := [], harness := (true, "9e278049d9308d2612ddcceeb5eb5e2b9b163782cb5caeb8028118d659028afd"), looks := false }, kinds := [], alts := [], laidByText := true, laidKinds := [.data, .data, .data, .data, .pinned], laidTests := true, laidLooks := .later }
def WeighDistinctUptoCardSaid : Prop := Claim7.holds Tryd.pinned (.plain (OpenSpec.upto weighDistinctSpec)) weighDistinctUptoCard

/-- THE SECOND FORM's CARD OF 'bellpulllaw08.WeighSubsets'. -/
def weighSubsetsUptoCard : Claim7 := { stood := { row := weighSubsetsUptoRow, standIns := [], harness := (true, "9e278049d9308d2612ddcceeb5eb5e2b9b163782cb5caeb8028118d659028afd"), looks := false }, kinds := [], alts := [], laidByText := true, laidKinds := [.data, .data, .data, .data, .pinned], laidTests := true, laidLooks := .later }
def WeighSubsetsUptoCardSaid : Prop := Claim7.holds Tryd.pinned (.plain (OpenSpec.upto weighSubsetsSpec)) weighSubsetsUptoCard

/-- THE SECOND FORM's CARD OF 'bellpulllaw08.WeighPans'. -/
def weighPansUptoCard : Claim7 := { stood := { row := weighPansUptoRow, standIns := [], harness := (true, "9e278049d9308d2612ddcceeb5eb5e2b9b163782cb5caeb8028118d659028afd"), looks := false }, kinds := [], alts := [], laidByText := true, laidKinds := [.data, .data, .data, .data, .pinned], laidTests := true, laidLooks := .later }
def WeighPansUptoCardSaid : Prop := Claim7.holds Tryd.pinned (.plain (OpenSpec.upto weighPansSpec)) weighPansUptoCard

/-- THE SECOND FORM's CARD OF 'bellpulllaw08.WeighGuys'. -/
def weighGuysUptoCard : Claim7 := { stood := { row := weighGuysUptoRow, standIns := [], harness := (true, "9e278049d9308d2612ddcceeb5eb5e2b9b163782cb5caeb8028118d659028afd"), looks := false }, kinds := [], alts := [], laidByText := true, laidKinds := [.data, .data, .data, .data, .pinned], laidTests := true, laidLooks := .later }
def WeighGuysUptoCardSaid : Prop := Claim7.holds Tryd.pinned (.plain (OpenSpec.upto weighGuysSpec)) weighGuysUptoCard

/-- THE SECOND FORM's CARD OF 'bellpulllaw08.WeighClash'. -/
def weighClashUptoCard : Claim7 := { stood := { row := weighClashUptoRow, standIns := [], harness := (true, "9e278049d9308d2612ddcceeb5eb5e2b9b163782cb5caeb8028118d659028afd"), looks := false }, kinds := [], alts := [], laidByText := true, laidKinds := [.data, .data, .data, .data, .pinned], laidTests := true, laidLooks := .later }
def WeighClashUptoCardSaid : Prop := Claim7.holds Tryd.pinned (.plain (OpenSpec.upto weighClashSpec)) weighClashUptoCard

/-- THE SECOND FORM's CARD OF 'bellpulllaw08.WeighConway'. -/
def weighConwayUptoCard : Claim7 := { stood := { row := weighConwayUptoRow, standIns := [], harness := (true, "9e278049d9308d2612ddcceeb5eb5e2b9b163782cb5caeb8028118d659028afd"), looks := false }, kinds := [], alts := [], laidByText := true, laidKinds := [.data, .data, .data, .data, .pinned], laidTests := true, laidLooks := .later }
def WeighConwayUptoCardSaid : Prop := Claim7.holds Tryd.pinned (.plain (OpenSpec.upto weighConwaySpec)) weighConwayUptoCard

/-- THE SECOND FORM's CARD OF 'bellpulllaw08.WeighErdos'. -/
def weighErdosUptoCard : Claim7 := { stood := { row := weighErdosUptoRow, standIns := [], harness := (true, "9e278049d9308d2612ddcceeb5eb5e2b9b163782cb5caeb8028118d659028afd"), looks := false }, kinds := [], alts := [], laidByText := true, laidKinds := [.data, .data, .data, .data, .pinned], laidTests := true, laidLooks := .later }
def WeighErdosUptoCardSaid : Prop := Claim7.holds Tryd.pinned (.plain (OpenSpec.upto weighErdosSpec)) weighErdosUptoCard

/-- THE SECOND FORM's CARD OF 'bellpulllaw08.WeighWays'. -/
def weighWaysUptoCard : Claim7 := { stood := { row := weighWaysUptoRow, standIns := [], harness := (true, "9e278049d9308d2612ddcceeb5eb5e2b9b163782cb5caeb8028118d659028afd"), looks := false }, kinds := [], alts := [], laidByText := true, laidKinds := [.data, .data, .data, .data, .pinned], laidTests := true, laidLooks := .later }
def WeighWaysUptoCardSaid : Prop := Claim7.holds Tryd.pinned (.plain (OpenSpec.upto weighWaysSpec)) weighWaysUptoCard

/-- THE SECOND FORM's CARD OF 'bellpulllaw08.WeighParts'. -/
def weighPartsUptoCard : Claim7 := { stood := { row := weighPartsUptoRow, standIns := [], harness := (true, "9e278049d9308d2612ddcceeb5eb5e2b9b163782cb5caeb8028118d659028afd"), looks := false }, kinds := [], alts := [], laidByText := true, laidKinds := [.data, .data, .data, .data, .pinned], laidTests := true, laidLooks := .later }
def WeighPartsUptoCardSaid : Prop := Claim7.holds Tryd.pinned (.plain (OpenSpec.upto weighPartsSpec)) weighPartsUptoCard

/-- THE SECOND FORM's CARD OF 'bellpulllaw08.WeighTernary'. -/
def weighTernaryUptoCard : Claim7 := { stood := { row := weighTernaryUptoRow, standIns := [], harness := (true, "9e278049d9308d2612ddcceeb5eb5e2b9b163782cb5caeb8028118d659028afd"), looks := false }, kinds := [], alts := [], laidByText := true, laidKinds := [.data, .data, .data, .data, .pinned], laidTests := true, laidLooks := .later }
def WeighTernaryUptoCardSaid : Prop := Claim7.holds Tryd.pinned (.plain (OpenSpec.upto weighTernarySpec)) weighTernaryUptoCard
end Rows
end Go.Proofs.YtelalpohbodolaaDoor
