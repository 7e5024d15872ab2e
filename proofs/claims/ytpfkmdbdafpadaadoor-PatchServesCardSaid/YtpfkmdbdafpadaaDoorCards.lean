/-
  DERIVED. GIVEN WITH THE SEED: THE CARDS: each row of YtpfkmdbdafpadaaDoorRows.lean that lists a variable, with what it lists TIED to the program's text (the seventh form; the later family's looks); each row that meets fmt, with fmt's text TOLD by the authors' own Lean function (tested against real Go, not proved from fmt's source: count such statements apart). THE CARD IS WHAT COUNTS. Prove the row's statement (the work); the ties are given (YtpfkmdbdafpadaaDoorTie.lean); close each card by the builder's one call (the guide's Derived/Test/ToyasCard.lean, 'card_holds'). Laid BY PROGRAM, IN A SANDBOX (cutbox-door.mjs). By AI agents, Wed Nov 11 2026. No macro, syntax, notation, axiom, sorry.
-/
import Derived.Test.YtpfkmdbdafpadaaDoorRows
import GoSem.ClaimSeven
namespace Go.Proofs.YtpfkmdbdafpadaaDoor
namespace Rows

/-- THE TIED CARD OF 'bellpulllaw06.PatchServes'. -/
def patchServesCard : Claim7 := { stood := { row := patchServesRow, standIns := [], harness := (true, "d58f5436cc60ac17db21ae7ce4a4448ddcad529194a677eee3a63c610a6c57bd"), looks := false }, kinds := [], alts := [], laidByText := true, laidKinds := [.data, .pinned], laidTests := true, laidLooks := .later }
def PatchServesCardSaid : Prop := Claim7.holds Tryd.pinned (.plain (OpenSpec.ofChange patchServesSpec)) patchServesCard

/-- THE TIED CARD OF 'bellpulllaw06.PatchClos'. -/
def patchClosCard : Claim7 := { stood := { row := patchClosRow, standIns := [], harness := (true, "d58f5436cc60ac17db21ae7ce4a4448ddcad529194a677eee3a63c610a6c57bd"), looks := false }, kinds := [], alts := [], laidByText := true, laidKinds := [.data, .pinned], laidTests := true, laidLooks := .later }
def PatchClosCardSaid : Prop := Claim7.holds Tryd.pinned (.plain (OpenSpec.ofChange patchClosSpec)) patchClosCard

/-- THE TIED CARD OF 'bellpulllaw06.PatchBack'. -/
def patchBackCard : Claim7 := { stood := { row := patchBackRow, standIns := [], harness := (true, "d58f5436cc60ac17db21ae7ce4a4448ddcad529194a677eee3a63c610a6c57bd"), looks := false }, kinds := [], alts := [], laidByText := true, laidKinds := [.data, .pinned], laidTests := true, laidLooks := .later }
def PatchBackCardSaid : Prop := Claim7.holds Tryd.pinned (.plain (OpenSpec.ofChange patchBackSpec)) patchBackCard

/-- THE SECOND FORM's CARD OF 'bellpulllaw06.PatchServes'. -/
def patchServesUptoCard : Claim7 := { stood := { row := patchServesUptoRow, standIns := [], harness := (true, "d58f5436cc60ac17db21ae7ce4a4448ddcad529194a677eee3a63c610a6c57bd"), looks := false }, kinds := [], alts := [], laidByText := true, laidKinds := [.data, .pinned], laidTests := true, laidLooks := .later }
def PatchServesUptoCardSaid : Prop := Claim7.holds Tryd.pinned (.plain (OpenSpec.upto patchServesSpec)) patchServesUptoCard

/-- THE SECOND FORM's CARD OF 'bellpulllaw06.PatchClos'. -/
def patchClosUptoCard : Claim7 := { stood := { row := patchClosUptoRow, standIns := [], harness := (true, "d58f5436cc60ac17db21ae7ce4a4448ddcad529194a677eee3a63c610a6c57bd"), looks := false }, kinds := [], alts := [], laidByText := true, laidKinds := [.data, .pinned], laidTests := true, laidLooks := .later }
def PatchClosUptoCardSaid : Prop := Claim7.holds Tryd.pinned (.plain (OpenSpec.upto patchClosSpec)) patchClosUptoCard

/-- THE SECOND FORM's CARD OF 'bellpulllaw06.PatchBack'. -/
def patchBackUptoCard : Claim7 := { stood := { row := patchBackUptoRow, standIns := [], harness := (true, "d58f5436cc60ac17db21ae7ce4a4448ddcad529194a677eee3a63c610a6c57bd"), looks := false }, kinds := [], alts := [], laidByText := true, laidKinds := [.data, .pinned], laidTests := true, laidLooks := .later }
def PatchBackUptoCardSaid : Prop := Claim7.holds Tryd.pinned (.plain (OpenSpec.upto patchBackSpec)) patchBackUptoCard
end Rows
end Go.Proofs.YtpfkmdbdafpadaaDoor
