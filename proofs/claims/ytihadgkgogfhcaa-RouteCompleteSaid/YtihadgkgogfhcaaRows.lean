/-
  No cell of these rows narrows 'for every input' (looked for: loops, veiled, ifaces, maps, wideKeys, modest, calm, conditions, laid).
  DERIVED. THE GIVEN ROWS OF THIS SEAT. 11 by the template 'for every input the law returns true; each argument reads behind the call as it read before'; 0 by the template 'total and deterministic' (their statements: YtihadgkgogfhcaaTotals.lean).
  GIVEN WITH THE SEED: the statements are not yours to turn. If you find one false, say at which input.
  Laid BY PROGRAM, IN A SANDBOX (cutbox-rows.mjs): the forced cells as the released guide's own fill.sh prints them over the translation d62c815e3020f257… (all of the seat's roots in one cut). By AI agents, Wed Nov 11 2026. No macro, syntax, notation, axiom, sorry.
-/
import Derived.Test.YtihadgkgogfhcaaChecked
import GoSem.Claim
import GoSem.ClaimJoined
import GoSem.ClaimMapViews
import Derived.JoinedTies
import Derived.KernelRfl
namespace Go.Proofs.Ytihadgkgogfhcaa
/- THE CELL 'sum', in the pinned program and in every row, IS THE sha256 OF THE DUMP (.gsa) THAT YtihadgkgogfhcaaProg.lean LOADS. Nothing in Lean hashes anything: it is a label: what it is worth is what the hold of that sum in a sandbox is worth. -/
noncomputable def Try.pinned : Pinned := { name := "ytihadgkgogfhcaa", sum := "d62c815e3020f25725cb405033ed970fed749e0bf156dad593b2da89ae581606", checked := Try.checked }
namespace Rows
def none {H : Type} : Left H := { results := [], args := [] }

/-- 'bellpulllaw07.RouteMeasures': WHATEVER THE INPUT: true; the input reads as it did. -/
def routeMeasuresSpec : ChangeSpec := { name := "routeMeasures", fn := fun _ => fun
  | [d1, d2, d3] => { results := [.lit (.bool true)], args := [d1, d2, d3] }
  | _ => none }
def routeMeasuresRow : OpenClaim := { program := "ytihadgkgogfhcaa", sum := "d62c815e3020f25725cb405033ed970fed749e0bf156dad593b2da89ae581606", func := "bellpull/bellpulllaw07.RouteMeasures", spec := "routeMeasures", unfollowed := true, recurses := true, apart := false }
def RouteMeasuresSaid : Prop := routeMeasuresRow.holds Try.pinned (OpenSpec.ofChange routeMeasuresSpec)

/-- ITS FALSE NEIGHBOUR: 'it returns false'. Refute it at one input. -/
def routeMeasuresWrong : ChangeSpec := { name := "routeMeasures", fn := fun _ => fun
  | [d1, d2, d3] => { results := [.lit (.bool false)], args := [d1, d2, d3] }
  | _ => none }
def RouteMeasuresWrongFalsely : Prop := routeMeasuresRow.holds Try.pinned (OpenSpec.ofChange routeMeasuresWrong)

/-- 'bellpulllaw07.RouteLeast': WHATEVER THE INPUT: true; the input reads as it did. -/
def routeLeastSpec : ChangeSpec := { name := "routeLeast", fn := fun _ => fun
  | [d1, d2] => { results := [.lit (.bool true)], args := [d1, d2] }
  | _ => none }
def routeLeastRow : OpenClaim := { program := "ytihadgkgogfhcaa", sum := "d62c815e3020f25725cb405033ed970fed749e0bf156dad593b2da89ae581606", func := "bellpull/bellpulllaw07.RouteLeast", spec := "routeLeast", unfollowed := true, recurses := true, apart := false }
def RouteLeastSaid : Prop := routeLeastRow.holds Try.pinned (OpenSpec.ofChange routeLeastSpec)

/-- ITS FALSE NEIGHBOUR: 'it returns false'. Refute it at one input. -/
def routeLeastWrong : ChangeSpec := { name := "routeLeast", fn := fun _ => fun
  | [d1, d2] => { results := [.lit (.bool false)], args := [d1, d2] }
  | _ => none }
def RouteLeastWrongFalsely : Prop := routeLeastRow.holds Try.pinned (OpenSpec.ofChange routeLeastWrong)

/-- 'bellpulllaw07.RouteBounds': WHATEVER THE INPUT: true; the input reads as it did. -/
def routeBoundsSpec : ChangeSpec := { name := "routeBounds", fn := fun _ => fun
  | [d1, d2, d3] => { results := [.lit (.bool true)], args := [d1, d2, d3] }
  | _ => none }
def routeBoundsRow : OpenClaim := { program := "ytihadgkgogfhcaa", sum := "d62c815e3020f25725cb405033ed970fed749e0bf156dad593b2da89ae581606", func := "bellpull/bellpulllaw07.RouteBounds", spec := "routeBounds", unfollowed := true, recurses := true, apart := false }
def RouteBoundsSaid : Prop := routeBoundsRow.holds Try.pinned (OpenSpec.ofChange routeBoundsSpec)

/-- ITS FALSE NEIGHBOUR: 'it returns false'. Refute it at one input. -/
def routeBoundsWrong : ChangeSpec := { name := "routeBounds", fn := fun _ => fun
  | [d1, d2, d3] => { results := [.lit (.bool false)], args := [d1, d2, d3] }
  | _ => none }
def RouteBoundsWrongFalsely : Prop := routeBoundsRow.holds Try.pinned (OpenSpec.ofChange routeBoundsWrong)

/-- 'bellpulllaw07.RouteOrders': WHATEVER THE INPUT: true; the input reads as it did. -/
def routeOrdersSpec : ChangeSpec := { name := "routeOrders", fn := fun _ => fun
  | [d1, d2, d3] => { results := [.lit (.bool true)], args := [d1, d2, d3] }
  | _ => none }
def routeOrdersRow : OpenClaim := { program := "ytihadgkgogfhcaa", sum := "d62c815e3020f25725cb405033ed970fed749e0bf156dad593b2da89ae581606", func := "bellpull/bellpulllaw07.RouteOrders", spec := "routeOrders", unfollowed := true, recurses := true, apart := false }
def RouteOrdersSaid : Prop := routeOrdersRow.holds Try.pinned (OpenSpec.ofChange routeOrdersSpec)

/-- ITS FALSE NEIGHBOUR: 'it returns false'. Refute it at one input. -/
def routeOrdersWrong : ChangeSpec := { name := "routeOrders", fn := fun _ => fun
  | [d1, d2, d3] => { results := [.lit (.bool false)], args := [d1, d2, d3] }
  | _ => none }
def RouteOrdersWrongFalsely : Prop := routeOrdersRow.holds Try.pinned (OpenSpec.ofChange routeOrdersWrong)

/-- 'bellpulllaw07.RouteSum': WHATEVER THE INPUT: true; the input reads as it did. -/
def routeSumSpec : ChangeSpec := { name := "routeSum", fn := fun _ => fun
  | [d1, d2, d3] => { results := [.lit (.bool true)], args := [d1, d2, d3] }
  | _ => none }
def routeSumRow : OpenClaim := { program := "ytihadgkgogfhcaa", sum := "d62c815e3020f25725cb405033ed970fed749e0bf156dad593b2da89ae581606", func := "bellpull/bellpulllaw07.RouteSum", spec := "routeSum", unfollowed := true, recurses := true, apart := false }
def RouteSumSaid : Prop := routeSumRow.holds Try.pinned (OpenSpec.ofChange routeSumSpec)

/-- ITS FALSE NEIGHBOUR: 'it returns false'. Refute it at one input. -/
def routeSumWrong : ChangeSpec := { name := "routeSum", fn := fun _ => fun
  | [d1, d2, d3] => { results := [.lit (.bool false)], args := [d1, d2, d3] }
  | _ => none }
def RouteSumWrongFalsely : Prop := routeSumRow.holds Try.pinned (OpenSpec.ofChange routeSumWrong)

/-- 'bellpulllaw07.RouteChvatal': WHATEVER THE INPUT: true; the input reads as it did. -/
def routeChvatalSpec : ChangeSpec := { name := "routeChvatal", fn := fun _ => fun
  | [d1, d2] => { results := [.lit (.bool true)], args := [d1, d2] }
  | _ => none }
def routeChvatalRow : OpenClaim := { program := "ytihadgkgogfhcaa", sum := "d62c815e3020f25725cb405033ed970fed749e0bf156dad593b2da89ae581606", func := "bellpull/bellpulllaw07.RouteChvatal", spec := "routeChvatal", unfollowed := true, recurses := true, apart := false }
def RouteChvatalSaid : Prop := routeChvatalRow.holds Try.pinned (OpenSpec.ofChange routeChvatalSpec)

/-- ITS FALSE NEIGHBOUR: 'it returns false'. Refute it at one input. -/
def routeChvatalWrong : ChangeSpec := { name := "routeChvatal", fn := fun _ => fun
  | [d1, d2] => { results := [.lit (.bool false)], args := [d1, d2] }
  | _ => none }
def RouteChvatalWrongFalsely : Prop := routeChvatalRow.holds Try.pinned (OpenSpec.ofChange routeChvatalWrong)

/-- 'bellpulllaw07.RouteBetween': WHATEVER THE INPUT: true; the input reads as it did. -/
def routeBetweenSpec : ChangeSpec := { name := "routeBetween", fn := fun _ => fun
  | [d1, d2] => { results := [.lit (.bool true)], args := [d1, d2] }
  | _ => none }
def routeBetweenRow : OpenClaim := { program := "ytihadgkgogfhcaa", sum := "d62c815e3020f25725cb405033ed970fed749e0bf156dad593b2da89ae581606", func := "bellpull/bellpulllaw07.RouteBetween", spec := "routeBetween", unfollowed := true, recurses := true, apart := false }
def RouteBetweenSaid : Prop := routeBetweenRow.holds Try.pinned (OpenSpec.ofChange routeBetweenSpec)

/-- ITS FALSE NEIGHBOUR: 'it returns false'. Refute it at one input. -/
def routeBetweenWrong : ChangeSpec := { name := "routeBetween", fn := fun _ => fun
  | [d1, d2] => { results := [.lit (.bool false)], args := [d1, d2] }
  | _ => none }
def RouteBetweenWrongFalsely : Prop := routeBetweenRow.holds Try.pinned (OpenSpec.ofChange routeBetweenWrong)

/-- 'bellpulllaw07.RouteComplete': WHATEVER THE INPUT: true; the input reads as it did. -/
def routeCompleteSpec : ChangeSpec := { name := "routeComplete", fn := fun _ => fun
  | [d1, d2] => { results := [.lit (.bool true)], args := [d1, d2] }
  | _ => none }
def routeCompleteRow : OpenClaim := { program := "ytihadgkgogfhcaa", sum := "d62c815e3020f25725cb405033ed970fed749e0bf156dad593b2da89ae581606", func := "bellpull/bellpulllaw07.RouteComplete", spec := "routeComplete", unfollowed := true, recurses := true, apart := false }
def RouteCompleteSaid : Prop := routeCompleteRow.holds Try.pinned (OpenSpec.ofChange routeCompleteSpec)

/-- ITS FALSE NEIGHBOUR: 'it returns false'. Refute it at one input. -/
def routeCompleteWrong : ChangeSpec := { name := "routeComplete", fn := fun _ => fun
  | [d1, d2] => { results := [.lit (.bool false)], args := [d1, d2] }
  | _ => none }
def RouteCompleteWrongFalsely : Prop := routeCompleteRow.holds Try.pinned (OpenSpec.ofChange routeCompleteWrong)

/-- 'bellpulllaw07.RouteMore': WHATEVER THE INPUT: true; the input reads as it did. -/
def routeMoreSpec : ChangeSpec := { name := "routeMore", fn := fun _ => fun
  | [d1, d2, d3] => { results := [.lit (.bool true)], args := [d1, d2, d3] }
  | _ => none }
def routeMoreRow : OpenClaim := { program := "ytihadgkgogfhcaa", sum := "d62c815e3020f25725cb405033ed970fed749e0bf156dad593b2da89ae581606", func := "bellpull/bellpulllaw07.RouteMore", spec := "routeMore", unfollowed := true, recurses := true, apart := false }
def RouteMoreSaid : Prop := routeMoreRow.holds Try.pinned (OpenSpec.ofChange routeMoreSpec)

/-- ITS FALSE NEIGHBOUR: 'it returns false'. Refute it at one input. -/
def routeMoreWrong : ChangeSpec := { name := "routeMore", fn := fun _ => fun
  | [d1, d2, d3] => { results := [.lit (.bool false)], args := [d1, d2, d3] }
  | _ => none }
def RouteMoreWrongFalsely : Prop := routeMoreRow.holds Try.pinned (OpenSpec.ofChange routeMoreWrong)

/-- 'bellpulllaw07.RouteReversed': WHATEVER THE INPUT: true; the input reads as it did. -/
def routeReversedSpec : ChangeSpec := { name := "routeReversed", fn := fun _ => fun
  | [d1, d2, d3] => { results := [.lit (.bool true)], args := [d1, d2, d3] }
  | _ => none }
def routeReversedRow : OpenClaim := { program := "ytihadgkgogfhcaa", sum := "d62c815e3020f25725cb405033ed970fed749e0bf156dad593b2da89ae581606", func := "bellpull/bellpulllaw07.RouteReversed", spec := "routeReversed", unfollowed := true, recurses := true, apart := false }
def RouteReversedSaid : Prop := routeReversedRow.holds Try.pinned (OpenSpec.ofChange routeReversedSpec)

/-- ITS FALSE NEIGHBOUR: 'it returns false'. Refute it at one input. -/
def routeReversedWrong : ChangeSpec := { name := "routeReversed", fn := fun _ => fun
  | [d1, d2, d3] => { results := [.lit (.bool false)], args := [d1, d2, d3] }
  | _ => none }
def RouteReversedWrongFalsely : Prop := routeReversedRow.holds Try.pinned (OpenSpec.ofChange routeReversedWrong)

/-- 'bellpulllaw07.RouteRenamed': WHATEVER THE INPUT: true; the input reads as it did. -/
def routeRenamedSpec : ChangeSpec := { name := "routeRenamed", fn := fun _ => fun
  | [d1, d2, d3] => { results := [.lit (.bool true)], args := [d1, d2, d3] }
  | _ => none }
def routeRenamedRow : OpenClaim := { program := "ytihadgkgogfhcaa", sum := "d62c815e3020f25725cb405033ed970fed749e0bf156dad593b2da89ae581606", func := "bellpull/bellpulllaw07.RouteRenamed", spec := "routeRenamed", unfollowed := true, recurses := true, apart := false }
def RouteRenamedSaid : Prop := routeRenamedRow.holds Try.pinned (OpenSpec.ofChange routeRenamedSpec)

/-- ITS FALSE NEIGHBOUR: 'it returns false'. Refute it at one input. -/
def routeRenamedWrong : ChangeSpec := { name := "routeRenamed", fn := fun _ => fun
  | [d1, d2, d3] => { results := [.lit (.bool false)], args := [d1, d2, d3] }
  | _ => none }
def RouteRenamedWrongFalsely : Prop := routeRenamedRow.holds Try.pinned (OpenSpec.ofChange routeRenamedWrong)

/- THE SECOND FORM. 'bulk': how many values and letters a reading holds, each counted each time it is reached (what is shared counts as often as it is met; a slice's spare places count too). A statement '..UptoSaid' is the law's where the arguments, and the package variables that the reading takes, are together of bulk at most 1048576: NARROWER than '..Said'. Prove '..Said' where nothing that the law and all that it calls make is longer than what came in: it says more and counts as full. Else prove '..UptoSaid'. A law counts once. -/
mutual
def uptoBulk {H : Type} : DataW H → Nat
  | .lit (.string bytes) => bytes.length + 1
  | .lit _ => 1
  | .nil => 1
  | .ptr d => uptoBulk d + 1
  | .slice elems spare => uptoBulkAll elems + uptoBulkAll spare + 1
  | .agg parts => uptoBulkAll parts + 1
  | .iface _ d => uptoBulk d + 1
  | .map entries => uptoBulkEntries entries + 1
  | .held _ => 1
def uptoBulkAll {H : Type} : List (DataW H) → Nat
  | [] => 0
  | d :: r => uptoBulk d + uptoBulkAll r
def uptoBulkEntries {H : Type} : List (Lit × DataW H) → Nat
  | [] => 0
  | x :: r => uptoBulkEntry x + uptoBulkEntries r
def uptoBulkEntry {H : Type} : Lit × DataW H → Nat
  | (.string bytes, d) => bytes.length + uptoBulk d + 1
  | (_, d) => uptoBulk d + 1
 end
def uptoSmall : (H : Type) → List (DataW H) → Bool := fun _ ds => decide (uptoBulkAll ds ≤ 1048576)
def OpenSpec.upto (s : _root_.Go.ChangeSpec) : _root_.Go.OpenSpec := { _root_.Go.OpenSpec.ofChange s with cond := some uptoSmall }

/-- 'bellpulllaw07.RouteMeasures', WHERE WHAT IT READS IS OF BULK AT MOST 1048576: true; the input reads as it did. -/
def routeMeasuresUptoRow : OpenClaim := { program := "ytihadgkgogfhcaa", sum := "d62c815e3020f25725cb405033ed970fed749e0bf156dad593b2da89ae581606", func := "bellpull/bellpulllaw07.RouteMeasures", spec := "routeMeasures", unfollowed := true, recurses := true, apart := false, narrowed := true }
def RouteMeasuresUptoSaid : Prop := routeMeasuresUptoRow.holds Try.pinned (OpenSpec.upto routeMeasuresSpec)

/-- 'bellpulllaw07.RouteLeast', WHERE WHAT IT READS IS OF BULK AT MOST 1048576: true; the input reads as it did. -/
def routeLeastUptoRow : OpenClaim := { program := "ytihadgkgogfhcaa", sum := "d62c815e3020f25725cb405033ed970fed749e0bf156dad593b2da89ae581606", func := "bellpull/bellpulllaw07.RouteLeast", spec := "routeLeast", unfollowed := true, recurses := true, apart := false, narrowed := true }
def RouteLeastUptoSaid : Prop := routeLeastUptoRow.holds Try.pinned (OpenSpec.upto routeLeastSpec)

/-- 'bellpulllaw07.RouteBounds', WHERE WHAT IT READS IS OF BULK AT MOST 1048576: true; the input reads as it did. -/
def routeBoundsUptoRow : OpenClaim := { program := "ytihadgkgogfhcaa", sum := "d62c815e3020f25725cb405033ed970fed749e0bf156dad593b2da89ae581606", func := "bellpull/bellpulllaw07.RouteBounds", spec := "routeBounds", unfollowed := true, recurses := true, apart := false, narrowed := true }
def RouteBoundsUptoSaid : Prop := routeBoundsUptoRow.holds Try.pinned (OpenSpec.upto routeBoundsSpec)

/-- 'bellpulllaw07.RouteOrders', WHERE WHAT IT READS IS OF BULK AT MOST 1048576: true; the input reads as it did. -/
def routeOrdersUptoRow : OpenClaim := { program := "ytihadgkgogfhcaa", sum := "d62c815e3020f25725cb405033ed970fed749e0bf156dad593b2da89ae581606", func := "bellpull/bellpulllaw07.RouteOrders", spec := "routeOrders", unfollowed := true, recurses := true, apart := false, narrowed := true }
def RouteOrdersUptoSaid : Prop := routeOrdersUptoRow.holds Try.pinned (OpenSpec.upto routeOrdersSpec)

/-- 'bellpulllaw07.RouteSum', WHERE WHAT IT READS IS OF BULK AT MOST 1048576: true; the input reads as it did. -/
def routeSumUptoRow : OpenClaim := { program := "ytihadgkgogfhcaa", sum := "d62c815e3020f25725cb405033ed970fed749e0bf156dad593b2da89ae581606", func := "bellpull/bellpulllaw07.RouteSum", spec := "routeSum", unfollowed := true, recurses := true, apart := false, narrowed := true }
def RouteSumUptoSaid : Prop := routeSumUptoRow.holds Try.pinned (OpenSpec.upto routeSumSpec)

/-- 'bellpulllaw07.RouteChvatal', WHERE WHAT IT READS IS OF BULK AT MOST 1048576: true; the input reads as it did. -/
def routeChvatalUptoRow : OpenClaim := { program := "ytihadgkgogfhcaa", sum := "d62c815e3020f25725cb405033ed970fed749e0bf156dad593b2da89ae581606", func := "bellpull/bellpulllaw07.RouteChvatal", spec := "routeChvatal", unfollowed := true, recurses := true, apart := false, narrowed := true }
def RouteChvatalUptoSaid : Prop := routeChvatalUptoRow.holds Try.pinned (OpenSpec.upto routeChvatalSpec)

/-- 'bellpulllaw07.RouteBetween', WHERE WHAT IT READS IS OF BULK AT MOST 1048576: true; the input reads as it did. -/
def routeBetweenUptoRow : OpenClaim := { program := "ytihadgkgogfhcaa", sum := "d62c815e3020f25725cb405033ed970fed749e0bf156dad593b2da89ae581606", func := "bellpull/bellpulllaw07.RouteBetween", spec := "routeBetween", unfollowed := true, recurses := true, apart := false, narrowed := true }
def RouteBetweenUptoSaid : Prop := routeBetweenUptoRow.holds Try.pinned (OpenSpec.upto routeBetweenSpec)

/-- 'bellpulllaw07.RouteComplete', WHERE WHAT IT READS IS OF BULK AT MOST 1048576: true; the input reads as it did. -/
def routeCompleteUptoRow : OpenClaim := { program := "ytihadgkgogfhcaa", sum := "d62c815e3020f25725cb405033ed970fed749e0bf156dad593b2da89ae581606", func := "bellpull/bellpulllaw07.RouteComplete", spec := "routeComplete", unfollowed := true, recurses := true, apart := false, narrowed := true }
def RouteCompleteUptoSaid : Prop := routeCompleteUptoRow.holds Try.pinned (OpenSpec.upto routeCompleteSpec)

/-- 'bellpulllaw07.RouteMore', WHERE WHAT IT READS IS OF BULK AT MOST 1048576: true; the input reads as it did. -/
def routeMoreUptoRow : OpenClaim := { program := "ytihadgkgogfhcaa", sum := "d62c815e3020f25725cb405033ed970fed749e0bf156dad593b2da89ae581606", func := "bellpull/bellpulllaw07.RouteMore", spec := "routeMore", unfollowed := true, recurses := true, apart := false, narrowed := true }
def RouteMoreUptoSaid : Prop := routeMoreUptoRow.holds Try.pinned (OpenSpec.upto routeMoreSpec)

/-- 'bellpulllaw07.RouteReversed', WHERE WHAT IT READS IS OF BULK AT MOST 1048576: true; the input reads as it did. -/
def routeReversedUptoRow : OpenClaim := { program := "ytihadgkgogfhcaa", sum := "d62c815e3020f25725cb405033ed970fed749e0bf156dad593b2da89ae581606", func := "bellpull/bellpulllaw07.RouteReversed", spec := "routeReversed", unfollowed := true, recurses := true, apart := false, narrowed := true }
def RouteReversedUptoSaid : Prop := routeReversedUptoRow.holds Try.pinned (OpenSpec.upto routeReversedSpec)

/-- 'bellpulllaw07.RouteRenamed', WHERE WHAT IT READS IS OF BULK AT MOST 1048576: true; the input reads as it did. -/
def routeRenamedUptoRow : OpenClaim := { program := "ytihadgkgogfhcaa", sum := "d62c815e3020f25725cb405033ed970fed749e0bf156dad593b2da89ae581606", func := "bellpull/bellpulllaw07.RouteRenamed", spec := "routeRenamed", unfollowed := true, recurses := true, apart := false, narrowed := true }
def RouteRenamedUptoSaid : Prop := routeRenamedUptoRow.holds Try.pinned (OpenSpec.upto routeRenamedSpec)

end Rows
end Go.Proofs.Ytihadgkgogfhcaa
