/-
  NARROWER THAN 'FOR EVERY INPUT', by the rows' own cells (each row's printed sentence says how): PatchRoutes: laid · PatchServes: laid · PatchApplies: laid · PatchNumbers: laid · PatchOmegas: laid · PatchColors: laid · PatchSlepian: laid · PatchClos: laid · PatchBenes: laid · PatchCount: laid · PatchLawrie: laid · PatchKonig: laid · PatchEdges: laid · PatchBack: laid.
  DERIVED. THE GIVEN ROWS OF THIS SEAT. 14 by the template 'for every input the law returns true; each argument reads behind the call as it read before'; 0 by the template 'total and deterministic' (their statements: YtbomimhfldmlbaaDoorTotals.lean).
  GIVEN WITH THE SEED: the statements are not yours to turn. If you find one false, say at which input.
  Laid BY PROGRAM, IN A SANDBOX (cutbox-rows.mjs): the forced cells as the released guide's own fill.sh prints them over the translation 4340ad752688f4de… (all of the seat's roots in one cut). By AI agents, Wed Nov 11 2026. No macro, syntax, notation, axiom, sorry.
-/
import Derived.Test.YtbomimhfldmlbaaDoorChecked
import GoSem.PinnedTables
import GoSem.Claim
import GoSem.ClaimJoined
import GoSem.ClaimMapViews
import Derived.JoinedTies
import Derived.KernelRfl
namespace Go.Proofs.YtbomimhfldmlbaaDoor
/- THE CELL 'sum', in the pinned program and in every row, IS THE sha256 OF THE DUMP (.gsa) THAT YtbomimhfldmlbaaDoorProg.lean LOADS. Nothing in Lean hashes anything: it is a label: what it is worth is what the hold of that sum in a sandbox is worth. -/
noncomputable def Tryd.pinned : Pinned := { name := "ytbomimhfldmlbaadoor", sum := "4340ad752688f4dec70022d5cb983de28fec96bf41f3d716fcae110995601a89", checked := Tryd.checked }
namespace Rows
def none {H : Type} : Left H := { results := [], args := [] }

/- WHAT THE LISTED PACKAGE-LEVEL VARIABLES READ AS WHEN THE CALL BEGINS. Each datum BY PROGRAM (the guide's laid-datum.mjs) off the statement by which the dump's own 'gosem.cut.vars' lays the variable. In a bare row this is a premise. The card (YtbomimhfldmlbaaDoorCards.lean) ties it to the program's text. -/
def laid_unicode_utf8_acceptRanges {H : Type} : DataW H := .agg [.agg [.lit (.int .u8 128), .lit (.int .u8 191)], .agg [.lit (.int .u8 160), .lit (.int .u8 191)], .agg [.lit (.int .u8 128), .lit (.int .u8 159)], .agg [.lit (.int .u8 144), .lit (.int .u8 191)], .agg [.lit (.int .u8 128), .lit (.int .u8 143)], .agg [.lit (.int .u8 0), .lit (.int .u8 0)], .agg [.lit (.int .u8 0), .lit (.int .u8 0)], .agg [.lit (.int .u8 0), .lit (.int .u8 0)], .agg [.lit (.int .u8 0), .lit (.int .u8 0)], .agg [.lit (.int .u8 0), .lit (.int .u8 0)], .agg [.lit (.int .u8 0), .lit (.int .u8 0)], .agg [.lit (.int .u8 0), .lit (.int .u8 0)], .agg [.lit (.int .u8 0), .lit (.int .u8 0)], .agg [.lit (.int .u8 0), .lit (.int .u8 0)], .agg [.lit (.int .u8 0), .lit (.int .u8 0)], .agg [.lit (.int .u8 0), .lit (.int .u8 0)]]
/-- One of Go's own tables, pinned by name: the form's constant. -/
def laid_unicode_utf8_first : DataW Unit := Go.Pinned.utf8First

/-- 'bellpulllaw06.PatchRoutes': WHATEVER THE INPUT: true; the input reads as it did. -/
def patchRoutesSpec : ChangeSpec := { name := "patchRoutes", fn := fun _ => fun
  | [d1, d2, d3] => { results := [.lit (.bool true)], args := [d1, d2, d3] }
  | _ => none }
def patchRoutesRow : OpenClaim := { program := "ytbomimhfldmlbaadoor", sum := "4340ad752688f4dec70022d5cb983de28fec96bf41f3d716fcae110995601a89", func := "bellpull/bellpulllaw06.PatchRoutes", spec := "patchRoutes", inPlace := ["internal/bytealg.IndexByteString", "internal/bytealg.IndexString"], unfollowed := true, recurses := true, named := ["unicode/utf8.first", "unicode/utf8.acceptRanges", "internal/bytealg.MaxLen"], apart := false, laid := [("unicode/utf8.acceptRanges", laid_unicode_utf8_acceptRanges), ("unicode/utf8.first", laid_unicode_utf8_first)] }
def PatchRoutesSaid : Prop := patchRoutesRow.holds Tryd.pinned (OpenSpec.ofChange patchRoutesSpec)

/-- ITS FALSE NEIGHBOUR: 'it returns false'. Refute it at one input. -/
def patchRoutesWrong : ChangeSpec := { name := "patchRoutes", fn := fun _ => fun
  | [d1, d2, d3] => { results := [.lit (.bool false)], args := [d1, d2, d3] }
  | _ => none }
def PatchRoutesWrongFalsely : Prop := patchRoutesRow.holds Tryd.pinned (OpenSpec.ofChange patchRoutesWrong)

/-- 'bellpulllaw06.PatchServes': WHATEVER THE INPUT: true; the input reads as it did. -/
def patchServesSpec : ChangeSpec := { name := "patchServes", fn := fun _ => fun
  | [d1, d2] => { results := [.lit (.bool true)], args := [d1, d2] }
  | _ => none }
def patchServesRow : OpenClaim := { program := "ytbomimhfldmlbaadoor", sum := "4340ad752688f4dec70022d5cb983de28fec96bf41f3d716fcae110995601a89", func := "bellpull/bellpulllaw06.PatchServes", spec := "patchServes", inPlace := ["internal/bytealg.IndexByteString", "internal/bytealg.IndexString"], unfollowed := true, recurses := true, named := ["unicode/utf8.first", "unicode/utf8.acceptRanges", "internal/bytealg.MaxLen"], apart := false, laid := [("unicode/utf8.acceptRanges", laid_unicode_utf8_acceptRanges), ("unicode/utf8.first", laid_unicode_utf8_first)] }
def PatchServesSaid : Prop := patchServesRow.holds Tryd.pinned (OpenSpec.ofChange patchServesSpec)

/-- ITS FALSE NEIGHBOUR: 'it returns false'. Refute it at one input. -/
def patchServesWrong : ChangeSpec := { name := "patchServes", fn := fun _ => fun
  | [d1, d2] => { results := [.lit (.bool false)], args := [d1, d2] }
  | _ => none }
def PatchServesWrongFalsely : Prop := patchServesRow.holds Tryd.pinned (OpenSpec.ofChange patchServesWrong)

/-- 'bellpulllaw06.PatchApplies': WHATEVER THE INPUT: true; the input reads as it did. -/
def patchAppliesSpec : ChangeSpec := { name := "patchApplies", fn := fun _ => fun
  | [d1, d2, d3] => { results := [.lit (.bool true)], args := [d1, d2, d3] }
  | _ => none }
def patchAppliesRow : OpenClaim := { program := "ytbomimhfldmlbaadoor", sum := "4340ad752688f4dec70022d5cb983de28fec96bf41f3d716fcae110995601a89", func := "bellpull/bellpulllaw06.PatchApplies", spec := "patchApplies", inPlace := ["internal/bytealg.IndexByteString", "internal/bytealg.IndexString"], unfollowed := true, recurses := true, named := ["unicode/utf8.first", "unicode/utf8.acceptRanges", "internal/bytealg.MaxLen"], apart := false, laid := [("unicode/utf8.acceptRanges", laid_unicode_utf8_acceptRanges), ("unicode/utf8.first", laid_unicode_utf8_first)] }
def PatchAppliesSaid : Prop := patchAppliesRow.holds Tryd.pinned (OpenSpec.ofChange patchAppliesSpec)

/-- ITS FALSE NEIGHBOUR: 'it returns false'. Refute it at one input. -/
def patchAppliesWrong : ChangeSpec := { name := "patchApplies", fn := fun _ => fun
  | [d1, d2, d3] => { results := [.lit (.bool false)], args := [d1, d2, d3] }
  | _ => none }
def PatchAppliesWrongFalsely : Prop := patchAppliesRow.holds Tryd.pinned (OpenSpec.ofChange patchAppliesWrong)

/-- 'bellpulllaw06.PatchNumbers': WHATEVER THE INPUT: true; the input reads as it did. -/
def patchNumbersSpec : ChangeSpec := { name := "patchNumbers", fn := fun _ => fun
  | [d1, d2, d3] => { results := [.lit (.bool true)], args := [d1, d2, d3] }
  | _ => none }
def patchNumbersRow : OpenClaim := { program := "ytbomimhfldmlbaadoor", sum := "4340ad752688f4dec70022d5cb983de28fec96bf41f3d716fcae110995601a89", func := "bellpull/bellpulllaw06.PatchNumbers", spec := "patchNumbers", inPlace := ["internal/bytealg.IndexByteString", "internal/bytealg.IndexString"], unfollowed := true, recurses := true, named := ["unicode/utf8.first", "unicode/utf8.acceptRanges", "internal/bytealg.MaxLen"], apart := false, laid := [("unicode/utf8.acceptRanges", laid_unicode_utf8_acceptRanges), ("unicode/utf8.first", laid_unicode_utf8_first)] }
def PatchNumbersSaid : Prop := patchNumbersRow.holds Tryd.pinned (OpenSpec.ofChange patchNumbersSpec)

/-- ITS FALSE NEIGHBOUR: 'it returns false'. Refute it at one input. -/
def patchNumbersWrong : ChangeSpec := { name := "patchNumbers", fn := fun _ => fun
  | [d1, d2, d3] => { results := [.lit (.bool false)], args := [d1, d2, d3] }
  | _ => none }
def PatchNumbersWrongFalsely : Prop := patchNumbersRow.holds Tryd.pinned (OpenSpec.ofChange patchNumbersWrong)

/-- 'bellpulllaw06.PatchOmegas': WHATEVER THE INPUT: true; the input reads as it did. -/
def patchOmegasSpec : ChangeSpec := { name := "patchOmegas", fn := fun _ => fun
  | [d1, d2] => { results := [.lit (.bool true)], args := [d1, d2] }
  | _ => none }
def patchOmegasRow : OpenClaim := { program := "ytbomimhfldmlbaadoor", sum := "4340ad752688f4dec70022d5cb983de28fec96bf41f3d716fcae110995601a89", func := "bellpull/bellpulllaw06.PatchOmegas", spec := "patchOmegas", inPlace := ["internal/bytealg.IndexByteString", "internal/bytealg.IndexString"], unfollowed := true, recurses := true, named := ["unicode/utf8.first", "unicode/utf8.acceptRanges", "internal/bytealg.MaxLen"], apart := false, laid := [("unicode/utf8.acceptRanges", laid_unicode_utf8_acceptRanges), ("unicode/utf8.first", laid_unicode_utf8_first)] }
def PatchOmegasSaid : Prop := patchOmegasRow.holds Tryd.pinned (OpenSpec.ofChange patchOmegasSpec)

/-- ITS FALSE NEIGHBOUR: 'it returns false'. Refute it at one input. -/
def patchOmegasWrong : ChangeSpec := { name := "patchOmegas", fn := fun _ => fun
  | [d1, d2] => { results := [.lit (.bool false)], args := [d1, d2] }
  | _ => none }
def PatchOmegasWrongFalsely : Prop := patchOmegasRow.holds Tryd.pinned (OpenSpec.ofChange patchOmegasWrong)

/-- 'bellpulllaw06.PatchColors': WHATEVER THE INPUT: true; the input reads as it did. -/
def patchColorsSpec : ChangeSpec := { name := "patchColors", fn := fun _ => fun
  | [d1, d2, d3] => { results := [.lit (.bool true)], args := [d1, d2, d3] }
  | _ => none }
def patchColorsRow : OpenClaim := { program := "ytbomimhfldmlbaadoor", sum := "4340ad752688f4dec70022d5cb983de28fec96bf41f3d716fcae110995601a89", func := "bellpull/bellpulllaw06.PatchColors", spec := "patchColors", inPlace := ["internal/bytealg.IndexByteString", "internal/bytealg.IndexString"], unfollowed := true, recurses := true, named := ["unicode/utf8.first", "unicode/utf8.acceptRanges", "internal/bytealg.MaxLen"], apart := false, laid := [("unicode/utf8.acceptRanges", laid_unicode_utf8_acceptRanges), ("unicode/utf8.first", laid_unicode_utf8_first)] }
def PatchColorsSaid : Prop := patchColorsRow.holds Tryd.pinned (OpenSpec.ofChange patchColorsSpec)

/-- ITS FALSE NEIGHBOUR: 'it returns false'. Refute it at one input. -/
def patchColorsWrong : ChangeSpec := { name := "patchColors", fn := fun _ => fun
  | [d1, d2, d3] => { results := [.lit (.bool false)], args := [d1, d2, d3] }
  | _ => none }
def PatchColorsWrongFalsely : Prop := patchColorsRow.holds Tryd.pinned (OpenSpec.ofChange patchColorsWrong)

/-- 'bellpulllaw06.PatchSlepian': WHATEVER THE INPUT: true; the input reads as it did. -/
def patchSlepianSpec : ChangeSpec := { name := "patchSlepian", fn := fun _ => fun
  | [d1, d2] => { results := [.lit (.bool true)], args := [d1, d2] }
  | _ => none }
def patchSlepianRow : OpenClaim := { program := "ytbomimhfldmlbaadoor", sum := "4340ad752688f4dec70022d5cb983de28fec96bf41f3d716fcae110995601a89", func := "bellpull/bellpulllaw06.PatchSlepian", spec := "patchSlepian", inPlace := ["internal/bytealg.IndexByteString", "internal/bytealg.IndexString"], unfollowed := true, recurses := true, named := ["unicode/utf8.first", "unicode/utf8.acceptRanges", "internal/bytealg.MaxLen"], apart := false, laid := [("unicode/utf8.acceptRanges", laid_unicode_utf8_acceptRanges), ("unicode/utf8.first", laid_unicode_utf8_first)] }
def PatchSlepianSaid : Prop := patchSlepianRow.holds Tryd.pinned (OpenSpec.ofChange patchSlepianSpec)

/-- ITS FALSE NEIGHBOUR: 'it returns false'. Refute it at one input. -/
def patchSlepianWrong : ChangeSpec := { name := "patchSlepian", fn := fun _ => fun
  | [d1, d2] => { results := [.lit (.bool false)], args := [d1, d2] }
  | _ => none }
def PatchSlepianWrongFalsely : Prop := patchSlepianRow.holds Tryd.pinned (OpenSpec.ofChange patchSlepianWrong)

/-- 'bellpulllaw06.PatchClos': WHATEVER THE INPUT: true; the input reads as it did. -/
def patchClosSpec : ChangeSpec := { name := "patchClos", fn := fun _ => fun
  | [d1, d2] => { results := [.lit (.bool true)], args := [d1, d2] }
  | _ => none }
def patchClosRow : OpenClaim := { program := "ytbomimhfldmlbaadoor", sum := "4340ad752688f4dec70022d5cb983de28fec96bf41f3d716fcae110995601a89", func := "bellpull/bellpulllaw06.PatchClos", spec := "patchClos", inPlace := ["internal/bytealg.IndexByteString", "internal/bytealg.IndexString"], unfollowed := true, recurses := true, named := ["unicode/utf8.first", "unicode/utf8.acceptRanges", "internal/bytealg.MaxLen"], apart := false, laid := [("unicode/utf8.acceptRanges", laid_unicode_utf8_acceptRanges), ("unicode/utf8.first", laid_unicode_utf8_first)] }
def PatchClosSaid : Prop := patchClosRow.holds Tryd.pinned (OpenSpec.ofChange patchClosSpec)

/-- ITS FALSE NEIGHBOUR: 'it returns false'. Refute it at one input. -/
def patchClosWrong : ChangeSpec := { name := "patchClos", fn := fun _ => fun
  | [d1, d2] => { results := [.lit (.bool false)], args := [d1, d2] }
  | _ => none }
def PatchClosWrongFalsely : Prop := patchClosRow.holds Tryd.pinned (OpenSpec.ofChange patchClosWrong)

/-- 'bellpulllaw06.PatchBenes': WHATEVER THE INPUT: true; the input reads as it did. -/
def patchBenesSpec : ChangeSpec := { name := "patchBenes", fn := fun _ => fun
  | [d1, d2] => { results := [.lit (.bool true)], args := [d1, d2] }
  | _ => none }
def patchBenesRow : OpenClaim := { program := "ytbomimhfldmlbaadoor", sum := "4340ad752688f4dec70022d5cb983de28fec96bf41f3d716fcae110995601a89", func := "bellpull/bellpulllaw06.PatchBenes", spec := "patchBenes", inPlace := ["internal/bytealg.IndexByteString", "internal/bytealg.IndexString"], unfollowed := true, recurses := true, named := ["unicode/utf8.first", "unicode/utf8.acceptRanges", "internal/bytealg.MaxLen"], apart := false, laid := [("unicode/utf8.acceptRanges", laid_unicode_utf8_acceptRanges), ("unicode/utf8.first", laid_unicode_utf8_first)] }
def PatchBenesSaid : Prop := patchBenesRow.holds Tryd.pinned (OpenSpec.ofChange patchBenesSpec)

/-- ITS FALSE NEIGHBOUR: 'it returns false'. Refute it at one input. -/
def patchBenesWrong : ChangeSpec := { name := "patchBenes", fn := fun _ => fun
  | [d1, d2] => { results := [.lit (.bool false)], args := [d1, d2] }
  | _ => none }
def PatchBenesWrongFalsely : Prop := patchBenesRow.holds Tryd.pinned (OpenSpec.ofChange patchBenesWrong)

/-- 'bellpulllaw06.PatchCount': WHATEVER THE INPUT: true; the input reads as it did. -/
def patchCountSpec : ChangeSpec := { name := "patchCount", fn := fun _ => fun
  | [d] => { results := [.lit (.bool true)], args := [d] }
  | _ => none }
def patchCountRow : OpenClaim := { program := "ytbomimhfldmlbaadoor", sum := "4340ad752688f4dec70022d5cb983de28fec96bf41f3d716fcae110995601a89", func := "bellpull/bellpulllaw06.PatchCount", spec := "patchCount", inPlace := ["internal/bytealg.IndexByteString", "internal/bytealg.IndexString"], unfollowed := true, recurses := true, named := ["unicode/utf8.first", "unicode/utf8.acceptRanges", "internal/bytealg.MaxLen"], apart := false, laid := [("unicode/utf8.acceptRanges", laid_unicode_utf8_acceptRanges), ("unicode/utf8.first", laid_unicode_utf8_first)] }
def PatchCountSaid : Prop := patchCountRow.holds Tryd.pinned (OpenSpec.ofChange patchCountSpec)

/-- ITS FALSE NEIGHBOUR: 'it returns false'. Refute it at one input. -/
def patchCountWrong : ChangeSpec := { name := "patchCount", fn := fun _ => fun
  | [d] => { results := [.lit (.bool false)], args := [d] }
  | _ => none }
def PatchCountWrongFalsely : Prop := patchCountRow.holds Tryd.pinned (OpenSpec.ofChange patchCountWrong)

/-- 'bellpulllaw06.PatchLawrie': WHATEVER THE INPUT: true; the input reads as it did. -/
def patchLawrieSpec : ChangeSpec := { name := "patchLawrie", fn := fun _ => fun
  | [d] => { results := [.lit (.bool true)], args := [d] }
  | _ => none }
def patchLawrieRow : OpenClaim := { program := "ytbomimhfldmlbaadoor", sum := "4340ad752688f4dec70022d5cb983de28fec96bf41f3d716fcae110995601a89", func := "bellpull/bellpulllaw06.PatchLawrie", spec := "patchLawrie", inPlace := ["internal/bytealg.IndexByteString", "internal/bytealg.IndexString"], unfollowed := true, recurses := true, named := ["unicode/utf8.first", "unicode/utf8.acceptRanges", "internal/bytealg.MaxLen"], apart := false, laid := [("unicode/utf8.acceptRanges", laid_unicode_utf8_acceptRanges), ("unicode/utf8.first", laid_unicode_utf8_first)] }
def PatchLawrieSaid : Prop := patchLawrieRow.holds Tryd.pinned (OpenSpec.ofChange patchLawrieSpec)

/-- ITS FALSE NEIGHBOUR: 'it returns false'. Refute it at one input. -/
def patchLawrieWrong : ChangeSpec := { name := "patchLawrie", fn := fun _ => fun
  | [d] => { results := [.lit (.bool false)], args := [d] }
  | _ => none }
def PatchLawrieWrongFalsely : Prop := patchLawrieRow.holds Tryd.pinned (OpenSpec.ofChange patchLawrieWrong)

/-- 'bellpulllaw06.PatchKonig': WHATEVER THE INPUT: true; the input reads as it did. -/
def patchKonigSpec : ChangeSpec := { name := "patchKonig", fn := fun _ => fun
  | [d] => { results := [.lit (.bool true)], args := [d] }
  | _ => none }
def patchKonigRow : OpenClaim := { program := "ytbomimhfldmlbaadoor", sum := "4340ad752688f4dec70022d5cb983de28fec96bf41f3d716fcae110995601a89", func := "bellpull/bellpulllaw06.PatchKonig", spec := "patchKonig", inPlace := ["internal/bytealg.IndexByteString", "internal/bytealg.IndexString"], unfollowed := true, recurses := true, named := ["unicode/utf8.first", "unicode/utf8.acceptRanges", "internal/bytealg.MaxLen"], apart := false, laid := [("unicode/utf8.acceptRanges", laid_unicode_utf8_acceptRanges), ("unicode/utf8.first", laid_unicode_utf8_first)] }
def PatchKonigSaid : Prop := patchKonigRow.holds Tryd.pinned (OpenSpec.ofChange patchKonigSpec)

/-- ITS FALSE NEIGHBOUR: 'it returns false'. Refute it at one input. -/
def patchKonigWrong : ChangeSpec := { name := "patchKonig", fn := fun _ => fun
  | [d] => { results := [.lit (.bool false)], args := [d] }
  | _ => none }
def PatchKonigWrongFalsely : Prop := patchKonigRow.holds Tryd.pinned (OpenSpec.ofChange patchKonigWrong)

/-- 'bellpulllaw06.PatchEdges': WHATEVER THE INPUT: true; the input reads as it did. -/
def patchEdgesSpec : ChangeSpec := { name := "patchEdges", fn := fun _ => fun
  | [d1, d2] => { results := [.lit (.bool true)], args := [d1, d2] }
  | _ => none }
def patchEdgesRow : OpenClaim := { program := "ytbomimhfldmlbaadoor", sum := "4340ad752688f4dec70022d5cb983de28fec96bf41f3d716fcae110995601a89", func := "bellpull/bellpulllaw06.PatchEdges", spec := "patchEdges", inPlace := ["internal/bytealg.IndexByteString", "internal/bytealg.IndexString"], unfollowed := true, recurses := true, named := ["unicode/utf8.first", "unicode/utf8.acceptRanges", "internal/bytealg.MaxLen"], apart := false, laid := [("unicode/utf8.acceptRanges", laid_unicode_utf8_acceptRanges), ("unicode/utf8.first", laid_unicode_utf8_first)] }
def PatchEdgesSaid : Prop := patchEdgesRow.holds Tryd.pinned (OpenSpec.ofChange patchEdgesSpec)

/-- ITS FALSE NEIGHBOUR: 'it returns false'. Refute it at one input. -/
def patchEdgesWrong : ChangeSpec := { name := "patchEdges", fn := fun _ => fun
  | [d1, d2] => { results := [.lit (.bool false)], args := [d1, d2] }
  | _ => none }
def PatchEdgesWrongFalsely : Prop := patchEdgesRow.holds Tryd.pinned (OpenSpec.ofChange patchEdgesWrong)

/-- 'bellpulllaw06.PatchBack': WHATEVER THE INPUT: true; the input reads as it did. -/
def patchBackSpec : ChangeSpec := { name := "patchBack", fn := fun _ => fun
  | [d1, d2, d3] => { results := [.lit (.bool true)], args := [d1, d2, d3] }
  | _ => none }
def patchBackRow : OpenClaim := { program := "ytbomimhfldmlbaadoor", sum := "4340ad752688f4dec70022d5cb983de28fec96bf41f3d716fcae110995601a89", func := "bellpull/bellpulllaw06.PatchBack", spec := "patchBack", inPlace := ["internal/bytealg.IndexByteString", "internal/bytealg.IndexString"], unfollowed := true, recurses := true, named := ["unicode/utf8.first", "unicode/utf8.acceptRanges", "internal/bytealg.MaxLen"], apart := false, laid := [("unicode/utf8.acceptRanges", laid_unicode_utf8_acceptRanges), ("unicode/utf8.first", laid_unicode_utf8_first)] }
def PatchBackSaid : Prop := patchBackRow.holds Tryd.pinned (OpenSpec.ofChange patchBackSpec)

/-- ITS FALSE NEIGHBOUR: 'it returns false'. Refute it at one input. -/
def patchBackWrong : ChangeSpec := { name := "patchBack", fn := fun _ => fun
  | [d1, d2, d3] => { results := [.lit (.bool false)], args := [d1, d2, d3] }
  | _ => none }
def PatchBackWrongFalsely : Prop := patchBackRow.holds Tryd.pinned (OpenSpec.ofChange patchBackWrong)

/- THE SECOND FORM. 'bulk': how many values and letters a reading holds, each counted each time it is reached (what is shared counts as often as it is met; a slice's spare places count too). A statement '..UptoSaid' is the law's where the arguments, and the package variables that the reading takes, are together of bulk at most 1048576: NARROWER than '..Said'. Prove '..Said' where nothing that the law and all that it calls make is longer than what came in: it says more and counts as full. Else prove '..UptoSaid'. A law counts once. -/
mutual
def uptoBulk {H : Type} : DataW H → Nat
  | .lit (.string bytes) => bytes.length + 1
  | .lit _ => 1
  | .nil => 1
  | .ptr d => uptoBulk d + 1
  | .slice elems spare => uptoBulkAll elems + uptoBulkAll spare + 1
  | .agg parts => uptoBulkAll parts + 1
  | .iface _ d => uptoBulk d + 1
  | .map entries => uptoBulkEntries entries + 1
  | .held _ => 1
def uptoBulkAll {H : Type} : List (DataW H) → Nat
  | [] => 0
  | d :: r => uptoBulk d + uptoBulkAll r
def uptoBulkEntries {H : Type} : List (Lit × DataW H) → Nat
  | [] => 0
  | x :: r => uptoBulkEntry x + uptoBulkEntries r
def uptoBulkEntry {H : Type} : Lit × DataW H → Nat
  | (.string bytes, d) => bytes.length + uptoBulk d + 1
  | (_, d) => uptoBulk d + 1
 end
def uptoSmall : (H : Type) → List (DataW H) → Bool := fun _ ds => decide (uptoBulkAll ds ≤ 1048576)
def OpenSpec.upto (s : _root_.Go.ChangeSpec) : _root_.Go.OpenSpec := { _root_.Go.OpenSpec.ofChange s with cond := some uptoSmall }

/-- 'bellpulllaw06.PatchRoutes', WHERE WHAT IT READS IS OF BULK AT MOST 1048576: true; the input reads as it did. -/
def patchRoutesUptoRow : OpenClaim := { program := "ytbomimhfldmlbaadoor", sum := "4340ad752688f4dec70022d5cb983de28fec96bf41f3d716fcae110995601a89", func := "bellpull/bellpulllaw06.PatchRoutes", spec := "patchRoutes", inPlace := ["internal/bytealg.IndexByteString", "internal/bytealg.IndexString"], unfollowed := true, recurses := true, named := ["unicode/utf8.first", "unicode/utf8.acceptRanges", "internal/bytealg.MaxLen"], apart := false, laid := [("unicode/utf8.acceptRanges", laid_unicode_utf8_acceptRanges), ("unicode/utf8.first", laid_unicode_utf8_first)], narrowed := true }
def PatchRoutesUptoSaid : Prop := patchRoutesUptoRow.holds Tryd.pinned (OpenSpec.upto patchRoutesSpec)

/-- 'bellpulllaw06.PatchServes', WHERE WHAT IT READS IS OF BULK AT MOST 1048576: true; the input reads as it did. -/
def patchServesUptoRow : OpenClaim := { program := "ytbomimhfldmlbaadoor", sum := "4340ad752688f4dec70022d5cb983de28fec96bf41f3d716fcae110995601a89", func := "bellpull/bellpulllaw06.PatchServes", spec := "patchServes", inPlace := ["internal/bytealg.IndexByteString", "internal/bytealg.IndexString"], unfollowed := true, recurses := true, named := ["unicode/utf8.first", "unicode/utf8.acceptRanges", "internal/bytealg.MaxLen"], apart := false, laid := [("unicode/utf8.acceptRanges", laid_unicode_utf8_acceptRanges), ("unicode/utf8.first", laid_unicode_utf8_first)], narrowed := true }
def PatchServesUptoSaid : Prop := patchServesUptoRow.holds Tryd.pinned (OpenSpec.upto patchServesSpec)

/-- 'bellpulllaw06.PatchApplies', WHERE WHAT IT READS IS OF BULK AT MOST 1048576: true; the input reads as it did. -/
def patchAppliesUptoRow : OpenClaim := { program := "ytbomimhfldmlbaadoor", sum := "4340ad752688f4dec70022d5cb983de28fec96bf41f3d716fcae110995601a89", func := "bellpull/bellpulllaw06.PatchApplies", spec := "patchApplies", inPlace := ["internal/bytealg.IndexByteString", "internal/bytealg.IndexString"], unfollowed := true, recurses := true, named := ["unicode/utf8.first", "unicode/utf8.acceptRanges", "internal/bytealg.MaxLen"], apart := false, laid := [("unicode/utf8.acceptRanges", laid_unicode_utf8_acceptRanges), ("unicode/utf8.first", laid_unicode_utf8_first)], narrowed := true }
def PatchAppliesUptoSaid : Prop := patchAppliesUptoRow.holds Tryd.pinned (OpenSpec.upto patchAppliesSpec)

/-- 'bellpulllaw06.PatchNumbers', WHERE WHAT IT READS IS OF BULK AT MOST 1048576: true; the input reads as it did. -/
def patchNumbersUptoRow : OpenClaim := { program := "ytbomimhfldmlbaadoor", sum := "4340ad752688f4dec70022d5cb983de28fec96bf41f3d716fcae110995601a89", func := "bellpull/bellpulllaw06.PatchNumbers", spec := "patchNumbers", inPlace := ["internal/bytealg.IndexByteString", "internal/bytealg.IndexString"], unfollowed := true, recurses := true, named := ["unicode/utf8.first", "unicode/utf8.acceptRanges", "internal/bytealg.MaxLen"], apart := false, laid := [("unicode/utf8.acceptRanges", laid_unicode_utf8_acceptRanges), ("unicode/utf8.first", laid_unicode_utf8_first)], narrowed := true }
def PatchNumbersUptoSaid : Prop := patchNumbersUptoRow.holds Tryd.pinned (OpenSpec.upto patchNumbersSpec)

/-- 'bellpulllaw06.PatchOmegas', WHERE WHAT IT READS IS OF BULK AT MOST 1048576: true; the input reads as it did. -/
def patchOmegasUptoRow : OpenClaim := { program := "ytbomimhfldmlbaadoor", sum := "4340ad752688f4dec70022d5cb983de28fec96bf41f3d716fcae110995601a89", func := "bellpull/bellpulllaw06.PatchOmegas", spec := "patchOmegas", inPlace := ["internal/bytealg.IndexByteString", "internal/bytealg.IndexString"], unfollowed := true, recurses := true, named := ["unicode/utf8.first", "unicode/utf8.acceptRanges", "internal/bytealg.MaxLen"], apart := false, laid := [("unicode/utf8.acceptRanges", laid_unicode_utf8_acceptRanges), ("unicode/utf8.first", laid_unicode_utf8_first)], narrowed := true }
def PatchOmegasUptoSaid : Prop := patchOmegasUptoRow.holds Tryd.pinned (OpenSpec.upto patchOmegasSpec)

/-- 'bellpulllaw06.PatchColors', WHERE WHAT IT READS IS OF BULK AT MOST 1048576: true; the input reads as it did. -/
def patchColorsUptoRow : OpenClaim := { program := "ytbomimhfldmlbaadoor", sum := "4340ad752688f4dec70022d5cb983de28fec96bf41f3d716fcae110995601a89", func := "bellpull/bellpulllaw06.PatchColors", spec := "patchColors", inPlace := ["internal/bytealg.IndexByteString", "internal/bytealg.IndexString"], unfollowed := true, recurses := true, named := ["unicode/utf8.first", "unicode/utf8.acceptRanges", "internal/bytealg.MaxLen"], apart := false, laid := [("unicode/utf8.acceptRanges", laid_unicode_utf8_acceptRanges), ("unicode/utf8.first", laid_unicode_utf8_first)], narrowed := true }
def PatchColorsUptoSaid : Prop := patchColorsUptoRow.holds Tryd.pinned (OpenSpec.upto patchColorsSpec)

/-- 'bellpulllaw06.PatchSlepian', WHERE WHAT IT READS IS OF BULK AT MOST 1048576: true; the input reads as it did. -/
def patchSlepianUptoRow : OpenClaim := { program := "ytbomimhfldmlbaadoor", sum := "4340ad752688f4dec70022d5cb983de28fec96bf41f3d716fcae110995601a89", func := "bellpull/bellpulllaw06.PatchSlepian", spec := "patchSlepian", inPlace := ["internal/bytealg.IndexByteString", "internal/bytealg.IndexString"], unfollowed := true, recurses := true, named := ["unicode/utf8.first", "unicode/utf8.acceptRanges", "internal/bytealg.MaxLen"], apart := false, laid := [("unicode/utf8.acceptRanges", laid_unicode_utf8_acceptRanges), ("unicode/utf8.first", laid_unicode_utf8_first)], narrowed := true }
def PatchSlepianUptoSaid : Prop := patchSlepianUptoRow.holds Tryd.pinned (OpenSpec.upto patchSlepianSpec)

/-- 'bellpulllaw06.PatchClos', WHERE WHAT IT READS IS OF BULK AT MOST 1048576: true; the input reads as it did. -/
def patchClosUptoRow : OpenClaim := { program := "ytbomimhfldmlbaadoor", sum := "4340ad752688f4dec70022d5cb983de28fec96bf41f3d716fcae110995601a89", func := "bellpull/bellpulllaw06.PatchClos", spec := "patchClos", inPlace := ["internal/bytealg.IndexByteString", "internal/bytealg.IndexString"], unfollowed := true, recurses := true, named := ["unicode/utf8.first", "unicode/utf8.acceptRanges", "internal/bytealg.MaxLen"], apart := false, laid := [("unicode/utf8.acceptRanges", laid_unicode_utf8_acceptRanges), ("unicode/utf8.first", laid_unicode_utf8_first)], narrowed := true }
def PatchClosUptoSaid : Prop := patchClosUptoRow.holds Tryd.pinned (OpenSpec.upto patchClosSpec)

/-- 'bellpulllaw06.PatchBenes', WHERE WHAT IT READS IS OF BULK AT MOST 1048576: true; the input reads as it did. -/
def patchBenesUptoRow : OpenClaim := { program := "ytbomimhfldmlbaadoor", sum := "4340ad752688f4dec70022d5cb983de28fec96bf41f3d716fcae110995601a89", func := "bellpull/bellpulllaw06.PatchBenes", spec := "patchBenes", inPlace := ["internal/bytealg.IndexByteString", "internal/bytealg.IndexString"], unfollowed := true, recurses := true, named := ["unicode/utf8.first", "unicode/utf8.acceptRanges", "internal/bytealg.MaxLen"], apart := false, laid := [("unicode/utf8.acceptRanges", laid_unicode_utf8_acceptRanges), ("unicode/utf8.first", laid_unicode_utf8_first)], narrowed := true }
def PatchBenesUptoSaid : Prop := patchBenesUptoRow.holds Tryd.pinned (OpenSpec.upto patchBenesSpec)

/-- 'bellpulllaw06.PatchCount', WHERE WHAT IT READS IS OF BULK AT MOST 1048576: true; the input reads as it did. -/
def patchCountUptoRow : OpenClaim := { program := "ytbomimhfldmlbaadoor", sum := "4340ad752688f4dec70022d5cb983de28fec96bf41f3d716fcae110995601a89", func := "bellpull/bellpulllaw06.PatchCount", spec := "patchCount", inPlace := ["internal/bytealg.IndexByteString", "internal/bytealg.IndexString"], unfollowed := true, recurses := true, named := ["unicode/utf8.first", "unicode/utf8.acceptRanges", "internal/bytealg.MaxLen"], apart := false, laid := [("unicode/utf8.acceptRanges", laid_unicode_utf8_acceptRanges), ("unicode/utf8.first", laid_unicode_utf8_first)], narrowed := true }
def PatchCountUptoSaid : Prop := patchCountUptoRow.holds Tryd.pinned (OpenSpec.upto patchCountSpec)

/-- 'bellpulllaw06.PatchLawrie', WHERE WHAT IT READS IS OF BULK AT MOST 1048576: true; the input reads as it did. -/
def patchLawrieUptoRow : OpenClaim := { program := "ytbomimhfldmlbaadoor", sum := "4340ad752688f4dec70022d5cb983de28fec96bf41f3d716fcae110995601a89", func := "bellpull/bellpulllaw06.PatchLawrie", spec := "patchLawrie", inPlace := ["internal/bytealg.IndexByteString", "internal/bytealg.IndexString"], unfollowed := true, recurses := true, named := ["unicode/utf8.first", "unicode/utf8.acceptRanges", "internal/bytealg.MaxLen"], apart := false, laid := [("unicode/utf8.acceptRanges", laid_unicode_utf8_acceptRanges), ("unicode/utf8.first", laid_unicode_utf8_first)], narrowed := true }
def PatchLawrieUptoSaid : Prop := patchLawrieUptoRow.holds Tryd.pinned (OpenSpec.upto patchLawrieSpec)

/-- 'bellpulllaw06.PatchKonig', WHERE WHAT IT READS IS OF BULK AT MOST 1048576: true; the input reads as it did. -/
def patchKonigUptoRow : OpenClaim := { program := "ytbomimhfldmlbaadoor", sum := "4340ad752688f4dec70022d5cb983de28fec96bf41f3d716fcae110995601a89", func := "bellpull/bellpulllaw06.PatchKonig", spec := "patchKonig", inPlace := ["internal/bytealg.IndexByteString", "internal/bytealg.IndexString"], unfollowed := true, recurses := true, named := ["unicode/utf8.first", "unicode/utf8.acceptRanges", "internal/bytealg.MaxLen"], apart := false, laid := [("unicode/utf8.acceptRanges", laid_unicode_utf8_acceptRanges), ("unicode/utf8.first", laid_unicode_utf8_first)], narrowed := true }
def PatchKonigUptoSaid : Prop := patchKonigUptoRow.holds Tryd.pinned (OpenSpec.upto patchKonigSpec)

/-- 'bellpulllaw06.PatchEdges', WHERE WHAT IT READS IS OF BULK AT MOST 1048576: true; the input reads as it did. -/
def patchEdgesUptoRow : OpenClaim := { program := "ytbomimhfldmlbaadoor", sum := "4340ad752688f4dec70022d5cb983de28fec96bf41f3d716fcae110995601a89", func := "bellpull/bellpulllaw06.PatchEdges", spec := "patchEdges", inPlace := ["internal/bytealg.IndexByteString", "internal/bytealg.IndexString"], unfollowed := true, recurses := true, named := ["unicode/utf8.first", "unicode/utf8.acceptRanges", "internal/bytealg.MaxLen"], apart := false, laid := [("unicode/utf8.acceptRanges", laid_unicode_utf8_acceptRanges), ("unicode/utf8.first", laid_unicode_utf8_first)], narrowed := true }
def PatchEdgesUptoSaid : Prop := patchEdgesUptoRow.holds Tryd.pinned (OpenSpec.upto patchEdgesSpec)

/-- 'bellpulllaw06.PatchBack', WHERE WHAT IT READS IS OF BULK AT MOST 1048576: true; the input reads as it did. -/
def patchBackUptoRow : OpenClaim := { program := "ytbomimhfldmlbaadoor", sum := "4340ad752688f4dec70022d5cb983de28fec96bf41f3d716fcae110995601a89", func := "bellpull/bellpulllaw06.PatchBack", spec := "patchBack", inPlace := ["internal/bytealg.IndexByteString", "internal/bytealg.IndexString"], unfollowed := true, recurses := true, named := ["unicode/utf8.first", "unicode/utf8.acceptRanges", "internal/bytealg.MaxLen"], apart := false, laid := [("unicode/utf8.acceptRanges", laid_unicode_utf8_acceptRanges), ("unicode/utf8.first", laid_unicode_utf8_first)], narrowed := true }
def PatchBackUptoSaid : Prop := patchBackUptoRow.holds Tryd.pinned (OpenSpec.upto patchBackSpec)

end Rows
end Go.Proofs.YtbomimhfldmlbaaDoor
