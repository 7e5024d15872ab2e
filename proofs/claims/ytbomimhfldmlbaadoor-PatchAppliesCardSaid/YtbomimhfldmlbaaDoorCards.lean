/-
  DERIVED. GIVEN WITH THE SEED: THE CARDS: each row of YtbomimhfldmlbaaDoorRows.lean that lists a variable, with what it lists TIED to the program's text (the seventh form; the later family's looks); each row that meets fmt, with fmt's text TOLD by the authors' own Lean function (tested against real Go, not proved from fmt's source: count such statements apart). THE CARD IS WHAT COUNTS. Prove the row's statement (the work); the ties are given (YtbomimhfldmlbaaDoorTie.lean); close each card by the builder's one call (the guide's Derived/Test/ToyasCard.lean, 'card_holds'). Laid BY PROGRAM, IN A SANDBOX (cutbox-door.mjs). By AI agents, Wed Nov 11 2026. No macro, syntax, notation, axiom, sorry.
-/
import Derived.Test.YtbomimhfldmlbaaDoorRows
import GoSem.ClaimSeven
namespace Go.Proofs.YtbomimhfldmlbaaDoor
namespace Rows

/-- THE TIED CARD OF 'bellpulllaw06.PatchRoutes'. -/
def patchRoutesCard : Claim7 := { stood := { row := patchRoutesRow, standIns := [], harness := (true, "4d89646da91097bbf824f6728011eb681f1108a9f62f141bbdd1a564ba8805aa"), looks := false }, kinds := [], alts := [], laidByText := true, laidKinds := [.data, .pinned], laidTests := true, laidLooks := .later }
def PatchRoutesCardSaid : Prop := Claim7.holds Tryd.pinned (.plain (OpenSpec.ofChange patchRoutesSpec)) patchRoutesCard

/-- THE TIED CARD OF 'bellpulllaw06.PatchServes'. -/
def patchServesCard : Claim7 := { stood := { row := patchServesRow, standIns := [], harness := (true, "4d89646da91097bbf824f6728011eb681f1108a9f62f141bbdd1a564ba8805aa"), looks := false }, kinds := [], alts := [], laidByText := true, laidKinds := [.data, .pinned], laidTests := true, laidLooks := .later }
def PatchServesCardSaid : Prop := Claim7.holds Tryd.pinned (.plain (OpenSpec.ofChange patchServesSpec)) patchServesCard

/-- THE TIED CARD OF 'bellpulllaw06.PatchApplies'. -/
def patchAppliesCard : Claim7 := { stood := { row := patchAppliesRow, standIns := [], harness := (true, "4d89646da91097bbf824f6728011eb681f1108a9f62f141bbdd1a564ba8805aa"), looks := false }, kinds := [], alts := [], laidByText := true, laidKinds := [.data, .pinned], laidTests := true, laidLooks := .later }
def PatchAppliesCardSaid : Prop := Claim7.holds Tryd.pinned (.plain (OpenSpec.ofChange patchAppliesSpec)) patchAppliesCard

/-- THE TIED CARD OF 'bellpulllaw06.PatchNumbers'. -/
def patchNumbersCard : Claim7 := { stood := { row := patchNumbersRow, standIns := [], harness := (true, "4d89646da91097bbf824f6728011eb681f1108a9f62f141bbdd1a564ba8805aa"), looks := false }, kinds := [], alts := [], laidByText := true, laidKinds := [.data, .pinned], laidTests := true, laidLooks := .later }
def PatchNumbersCardSaid : Prop := Claim7.holds Tryd.pinned (.plain (OpenSpec.ofChange patchNumbersSpec)) patchNumbersCard

/-- THE TIED CARD OF 'bellpulllaw06.PatchOmegas'. -/
def patchOmegasCard : Claim7 := { stood := { row := patchOmegasRow, standIns := [], harness := (true, "4d89646da91097bbf824f6728011eb681f1108a9f62f141bbdd1a564ba8805aa"), looks := false }, kinds := [], alts := [], laidByText := true, laidKinds := [.data, .pinned], laidTests := true, laidLooks := .later }
def PatchOmegasCardSaid : Prop := Claim7.holds Tryd.pinned (.plain (OpenSpec.ofChange patchOmegasSpec)) patchOmegasCard

/-- THE TIED CARD OF 'bellpulllaw06.PatchColors'. -/
def patchColorsCard : Claim7 := { stood := { row := patchColorsRow, standIns := [], harness := (true, "4d89646da91097bbf824f6728011eb681f1108a9f62f141bbdd1a564ba8805aa"), looks := false }, kinds := [], alts := [], laidByText := true, laidKinds := [.data, .pinned], laidTests := true, laidLooks := .later }
def PatchColorsCardSaid : Prop := Claim7.holds Tryd.pinned (.plain (OpenSpec.ofChange patchColorsSpec)) patchColorsCard

/-- THE TIED CARD OF 'bellpulllaw06.PatchSlepian'. -/
def patchSlepianCard : Claim7 := { stood := { row := patchSlepianRow, standIns := [], harness := (true, "4d89646da91097bbf824f6728011eb681f1108a9f62f141bbdd1a564ba8805aa"), looks := false }, kinds := [], alts := [], laidByText := true, laidKinds := [.data, .pinned], laidTests := true, laidLooks := .later }
def PatchSlepianCardSaid : Prop := Claim7.holds Tryd.pinned (.plain (OpenSpec.ofChange patchSlepianSpec)) patchSlepianCard

/-- THE TIED CARD OF 'bellpulllaw06.PatchClos'. -/
def patchClosCard : Claim7 := { stood := { row := patchClosRow, standIns := [], harness := (true, "4d89646da91097bbf824f6728011eb681f1108a9f62f141bbdd1a564ba8805aa"), looks := false }, kinds := [], alts := [], laidByText := true, laidKinds := [.data, .pinned], laidTests := true, laidLooks := .later }
def PatchClosCardSaid : Prop := Claim7.holds Tryd.pinned (.plain (OpenSpec.ofChange patchClosSpec)) patchClosCard

/-- THE TIED CARD OF 'bellpulllaw06.PatchBenes'. -/
def patchBenesCard : Claim7 := { stood := { row := patchBenesRow, standIns := [], harness := (true, "4d89646da91097bbf824f6728011eb681f1108a9f62f141bbdd1a564ba8805aa"), looks := false }, kinds := [], alts := [], laidByText := true, laidKinds := [.data, .pinned], laidTests := true, laidLooks := .later }
def PatchBenesCardSaid : Prop := Claim7.holds Tryd.pinned (.plain (OpenSpec.ofChange patchBenesSpec)) patchBenesCard

/-- THE TIED CARD OF 'bellpulllaw06.PatchCount'. -/
def patchCountCard : Claim7 := { stood := { row := patchCountRow, standIns := [], harness := (true, "4d89646da91097bbf824f6728011eb681f1108a9f62f141bbdd1a564ba8805aa"), looks := false }, kinds := [], alts := [], laidByText := true, laidKinds := [.data, .pinned], laidTests := true, laidLooks := .later }
def PatchCountCardSaid : Prop := Claim7.holds Tryd.pinned (.plain (OpenSpec.ofChange patchCountSpec)) patchCountCard

/-- THE TIED CARD OF 'bellpulllaw06.PatchLawrie'. -/
def patchLawrieCard : Claim7 := { stood := { row := patchLawrieRow, standIns := [], harness := (true, "4d89646da91097bbf824f6728011eb681f1108a9f62f141bbdd1a564ba8805aa"), looks := false }, kinds := [], alts := [], laidByText := true, laidKinds := [.data, .pinned], laidTests := true, laidLooks := .later }
def PatchLawrieCardSaid : Prop := Claim7.holds Tryd.pinned (.plain (OpenSpec.ofChange patchLawrieSpec)) patchLawrieCard

/-- THE TIED CARD OF 'bellpulllaw06.PatchKonig'. -/
def patchKonigCard : Claim7 := { stood := { row := patchKonigRow, standIns := [], harness := (true, "4d89646da91097bbf824f6728011eb681f1108a9f62f141bbdd1a564ba8805aa"), looks := false }, kinds := [], alts := [], laidByText := true, laidKinds := [.data, .pinned], laidTests := true, laidLooks := .later }
def PatchKonigCardSaid : Prop := Claim7.holds Tryd.pinned (.plain (OpenSpec.ofChange patchKonigSpec)) patchKonigCard

/-- THE TIED CARD OF 'bellpulllaw06.PatchEdges'. -/
def patchEdgesCard : Claim7 := { stood := { row := patchEdgesRow, standIns := [], harness := (true, "4d89646da91097bbf824f6728011eb681f1108a9f62f141bbdd1a564ba8805aa"), looks := false }, kinds := [], alts := [], laidByText := true, laidKinds := [.data, .pinned], laidTests := true, laidLooks := .later }
def PatchEdgesCardSaid : Prop := Claim7.holds Tryd.pinned (.plain (OpenSpec.ofChange patchEdgesSpec)) patchEdgesCard

/-- THE TIED CARD OF 'bellpulllaw06.PatchBack'. -/
def patchBackCard : Claim7 := { stood := { row := patchBackRow, standIns := [], harness := (true, "4d89646da91097bbf824f6728011eb681f1108a9f62f141bbdd1a564ba8805aa"), looks := false }, kinds := [], alts := [], laidByText := true, laidKinds := [.data, .pinned], laidTests := true, laidLooks := .later }
def PatchBackCardSaid : Prop := Claim7.holds Tryd.pinned (.plain (OpenSpec.ofChange patchBackSpec)) patchBackCard

/-- THE SECOND FORM's CARD OF 'bellpulllaw06.PatchRoutes'. -/
def patchRoutesUptoCard : Claim7 := { stood := { row := patchRoutesUptoRow, standIns := [], harness := (true, "4d89646da91097bbf824f6728011eb681f1108a9f62f141bbdd1a564ba8805aa"), looks := false }, kinds := [], alts := [], laidByText := true, laidKinds := [.data, .pinned], laidTests := true, laidLooks := .later }
def PatchRoutesUptoCardSaid : Prop := Claim7.holds Tryd.pinned (.plain (OpenSpec.upto patchRoutesSpec)) patchRoutesUptoCard

/-- THE SECOND FORM's CARD OF 'bellpulllaw06.PatchServes'. -/
def patchServesUptoCard : Claim7 := { stood := { row := patchServesUptoRow, standIns := [], harness := (true, "4d89646da91097bbf824f6728011eb681f1108a9f62f141bbdd1a564ba8805aa"), looks := false }, kinds := [], alts := [], laidByText := true, laidKinds := [.data, .pinned], laidTests := true, laidLooks := .later }
def PatchServesUptoCardSaid : Prop := Claim7.holds Tryd.pinned (.plain (OpenSpec.upto patchServesSpec)) patchServesUptoCard

/-- THE SECOND FORM's CARD OF 'bellpulllaw06.PatchApplies'. -/
def patchAppliesUptoCard : Claim7 := { stood := { row := patchAppliesUptoRow, standIns := [], harness := (true, "4d89646da91097bbf824f6728011eb681f1108a9f62f141bbdd1a564ba8805aa"), looks := false }, kinds := [], alts := [], laidByText := true, laidKinds := [.data, .pinned], laidTests := true, laidLooks := .later }
def PatchAppliesUptoCardSaid : Prop := Claim7.holds Tryd.pinned (.plain (OpenSpec.upto patchAppliesSpec)) patchAppliesUptoCard

/-- THE SECOND FORM's CARD OF 'bellpulllaw06.PatchNumbers'. -/
def patchNumbersUptoCard : Claim7 := { stood := { row := patchNumbersUptoRow, standIns := [], harness := (true, "4d89646da91097bbf824f6728011eb681f1108a9f62f141bbdd1a564ba8805aa"), looks := false }, kinds := [], alts := [], laidByText := true, laidKinds := [.data, .pinned], laidTests := true, laidLooks := .later }
def PatchNumbersUptoCardSaid : Prop := Claim7.holds Tryd.pinned (.plain (OpenSpec.upto patchNumbersSpec)) patchNumbersUptoCard

/-- THE SECOND FORM's CARD OF 'bellpulllaw06.PatchOmegas'. -/
def patchOmegasUptoCard : Claim7 := { stood := { row := patchOmegasUptoRow, standIns := [], harness := (true, "4d89646da91097bbf824f6728011eb681f1108a9f62f141bbdd1a564ba8805aa"), looks := false }, kinds := [], alts := [], laidByText := true, laidKinds := [.data, .pinned], laidTests := true, laidLooks := .later }
def PatchOmegasUptoCardSaid : Prop := Claim7.holds Tryd.pinned (.plain (OpenSpec.upto patchOmegasSpec)) patchOmegasUptoCard

/-- THE SECOND FORM's CARD OF 'bellpulllaw06.PatchColors'. -/
def patchColorsUptoCard : Claim7 := { stood := { row := patchColorsUptoRow, standIns := [], harness := (true, "4d89646da91097bbf824f6728011eb681f1108a9f62f141bbdd1a564ba8805aa"), looks := false }, kinds := [], alts := [], laidByText := true, laidKinds := [.data, .pinned], laidTests := true, laidLooks := .later }
def PatchColorsUptoCardSaid : Prop := Claim7.holds Tryd.pinned (.plain (OpenSpec.upto patchColorsSpec)) patchColorsUptoCard

/-- THE SECOND FORM's CARD OF 'bellpulllaw06.PatchSlepian'. -/
def patchSlepianUptoCard : Claim7 := { stood := { row := patchSlepianUptoRow, standIns := [], harness := (true, "4d89646da91097bbf824f6728011eb681f1108a9f62f141bbdd1a564ba8805aa"), looks := false }, kinds := [], alts := [], laidByText := true, laidKinds := [.data, .pinned], laidTests := true, laidLooks := .later }
def PatchSlepianUptoCardSaid : Prop := Claim7.holds Tryd.pinned (.plain (OpenSpec.upto patchSlepianSpec)) patchSlepianUptoCard

/-- THE SECOND FORM's CARD OF 'bellpulllaw06.PatchClos'. -/
def patchClosUptoCard : Claim7 := { stood := { row := patchClosUptoRow, standIns := [], harness := (true, "4d89646da91097bbf824f6728011eb681f1108a9f62f141bbdd1a564ba8805aa"), looks := false }, kinds := [], alts := [], laidByText := true, laidKinds := [.data, .pinned], laidTests := true, laidLooks := .later }
def PatchClosUptoCardSaid : Prop := Claim7.holds Tryd.pinned (.plain (OpenSpec.upto patchClosSpec)) patchClosUptoCard

/-- THE SECOND FORM's CARD OF 'bellpulllaw06.PatchBenes'. -/
def patchBenesUptoCard : Claim7 := { stood := { row := patchBenesUptoRow, standIns := [], harness := (true, "4d89646da91097bbf824f6728011eb681f1108a9f62f141bbdd1a564ba8805aa"), looks := false }, kinds := [], alts := [], laidByText := true, laidKinds := [.data, .pinned], laidTests := true, laidLooks := .later }
def PatchBenesUptoCardSaid : Prop := Claim7.holds Tryd.pinned (.plain (OpenSpec.upto patchBenesSpec)) patchBenesUptoCard

/-- THE SECOND FORM's CARD OF 'bellpulllaw06.PatchCount'. -/
def patchCountUptoCard : Claim7 := { stood := { row := patchCountUptoRow, standIns := [], harness := (true, "4d89646da91097bbf824f6728011eb681f1108a9f62f141bbdd1a564ba8805aa"), looks := false }, kinds := [], alts := [], laidByText := true, laidKinds := [.data, .pinned], laidTests := true, laidLooks := .later }
def PatchCountUptoCardSaid : Prop := Claim7.holds Tryd.pinned (.plain (OpenSpec.upto patchCountSpec)) patchCountUptoCard

/-- THE SECOND FORM's CARD OF 'bellpulllaw06.PatchLawrie'. -/
def patchLawrieUptoCard : Claim7 := { stood := { row := patchLawrieUptoRow, standIns := [], harness := (true, "4d89646da91097bbf824f6728011eb681f1108a9f62f141bbdd1a564ba8805aa"), looks := false }, kinds := [], alts := [], laidByText := true, laidKinds := [.data, .pinned], laidTests := true, laidLooks := .later }
def PatchLawrieUptoCardSaid : Prop := Claim7.holds Tryd.pinned (.plain (OpenSpec.upto patchLawrieSpec)) patchLawrieUptoCard

/-- THE SECOND FORM's CARD OF 'bellpulllaw06.PatchKonig'. -/
def patchKonigUptoCard : Claim7 := { stood := { row := patchKonigUptoRow, standIns := [], harness := (true, "4d89646da91097bbf824f6728011eb681f1108a9f62f141bbdd1a564ba8805aa"), looks := false }, kinds := [], alts := [], laidByText := true, laidKinds := [.data, .pinned], laidTests := true, laidLooks := .later }
def PatchKonigUptoCardSaid : Prop := Claim7.holds Tryd.pinned (.plain (OpenSpec.upto patchKonigSpec)) patchKonigUptoCard

/-- THE SECOND FORM's CARD OF 'bellpulllaw06.PatchEdges'. -/
def patchEdgesUptoCard : Claim7 := { stood := { row := patchEdgesUptoRow, standIns := [], harness := (true, "4d89646da91097bbf824f6728011eb681f1108a9f62f141bbdd1a564ba8805aa"), looks := false }, kinds := [], alts := [], laidByText := true, laidKinds := [.data, .pinned], laidTests := true, laidLooks := .later }
def PatchEdgesUptoCardSaid : Prop := Claim7.holds Tryd.pinned (.plain (OpenSpec.upto patchEdgesSpec)) patchEdgesUptoCard

/-- THE SECOND FORM's CARD OF 'bellpulllaw06.PatchBack'. -/
def patchBackUptoCard : Claim7 := { stood := { row := patchBackUptoRow, standIns := [], harness := (true, "4d89646da91097bbf824f6728011eb681f1108a9f62f141bbdd1a564ba8805aa"), looks := false }, kinds := [], alts := [], laidByText := true, laidKinds := [.data, .pinned], laidTests := true, laidLooks := .later }
def PatchBackUptoCardSaid : Prop := Claim7.holds Tryd.pinned (.plain (OpenSpec.upto patchBackSpec)) patchBackUptoCard
end Rows
end Go.Proofs.YtbomimhfldmlbaaDoor
