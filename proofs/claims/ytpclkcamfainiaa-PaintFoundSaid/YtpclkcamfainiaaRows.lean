/-
  No cell of these rows narrows 'for every input' (looked for: loops, veiled, ifaces, maps, wideKeys, modest, calm, conditions, laid).
  DERIVED. THE GIVEN ROWS OF THIS SEAT. 13 by the template 'for every input the law returns true; each argument reads behind the call as it read before'; 0 by the template 'total and deterministic' (their statements: YtpclkcamfainiaaTotals.lean).
  GIVEN WITH THE SEED: the statements are not yours to turn. If you find one false, say at which input.
  Laid BY PROGRAM, IN A SANDBOX (cutbox-rows.mjs): the forced cells as the released guide's own fill.sh prints them over the translation 155c70aec13bd57a… (all of the seat's roots in one cut). By AI agents, Wed Nov 11 2026. No macro, syntax, notation, axiom, sorry.
-/
import Derived.Test.YtpclkcamfainiaaChecked
import GoSem.Claim
import GoSem.ClaimJoined
import GoSem.ClaimMapViews
import Derived.JoinedTies
import Derived.KernelRfl
namespace Go.Proofs.Ytpclkcamfainiaa
/- THE CELL 'sum', in the pinned program and in every row, IS THE sha256 OF THE DUMP (.gsa) THAT YtpclkcamfainiaaProg.lean LOADS. Nothing in Lean hashes anything: it is a label: what it is worth is what the hold of that sum in a sandbox is worth. -/
noncomputable def Try.pinned : Pinned := { name := "ytpclkcamfainiaa", sum := "155c70aec13bd57aaba80e01e989b5ce3cf5c0cbad34c16b52566ecc37d94d67", checked := Try.checked }
namespace Rows
def none {H : Type} : Left H := { results := [], args := [] }

/-- 'bellpulllaw01.PaintCliques': WHATEVER THE INPUT: true; the input reads as it did. -/
def paintCliquesSpec : ChangeSpec := { name := "paintCliques", fn := fun _ => fun
  | [d1, d2, d3] => { results := [.lit (.bool true)], args := [d1, d2, d3] }
  | _ => none }
def paintCliquesRow : OpenClaim := { program := "ytpclkcamfainiaa", sum := "155c70aec13bd57aaba80e01e989b5ce3cf5c0cbad34c16b52566ecc37d94d67", func := "bellpull/bellpulllaw01.PaintCliques", spec := "paintCliques", unfollowed := true, recurses := true, apart := false }
def PaintCliquesSaid : Prop := paintCliquesRow.holds Try.pinned (OpenSpec.ofChange paintCliquesSpec)

/-- ITS FALSE NEIGHBOUR: 'it returns false'. Refute it at one input. -/
def paintCliquesWrong : ChangeSpec := { name := "paintCliques", fn := fun _ => fun
  | [d1, d2, d3] => { results := [.lit (.bool false)], args := [d1, d2, d3] }
  | _ => none }
def PaintCliquesWrongFalsely : Prop := paintCliquesRow.holds Try.pinned (OpenSpec.ofChange paintCliquesWrong)

/-- 'bellpulllaw01.PaintAvoids': WHATEVER THE INPUT: true; the input reads as it did. -/
def paintAvoidsSpec : ChangeSpec := { name := "paintAvoids", fn := fun _ => fun
  | [d1, d2, d3] => { results := [.lit (.bool true)], args := [d1, d2, d3] }
  | _ => none }
def paintAvoidsRow : OpenClaim := { program := "ytpclkcamfainiaa", sum := "155c70aec13bd57aaba80e01e989b5ce3cf5c0cbad34c16b52566ecc37d94d67", func := "bellpull/bellpulllaw01.PaintAvoids", spec := "paintAvoids", unfollowed := true, recurses := true, apart := false }
def PaintAvoidsSaid : Prop := paintAvoidsRow.holds Try.pinned (OpenSpec.ofChange paintAvoidsSpec)

/-- ITS FALSE NEIGHBOUR: 'it returns false'. Refute it at one input. -/
def paintAvoidsWrong : ChangeSpec := { name := "paintAvoids", fn := fun _ => fun
  | [d1, d2, d3] => { results := [.lit (.bool false)], args := [d1, d2, d3] }
  | _ => none }
def PaintAvoidsWrongFalsely : Prop := paintAvoidsRow.holds Try.pinned (OpenSpec.ofChange paintAvoidsWrong)

/-- 'bellpulllaw01.PaintSums': WHATEVER THE INPUT: true; the input reads as it did. -/
def paintSumsSpec : ChangeSpec := { name := "paintSums", fn := fun _ => fun
  | [d1, d2, d3] => { results := [.lit (.bool true)], args := [d1, d2, d3] }
  | _ => none }
def paintSumsRow : OpenClaim := { program := "ytpclkcamfainiaa", sum := "155c70aec13bd57aaba80e01e989b5ce3cf5c0cbad34c16b52566ecc37d94d67", func := "bellpull/bellpulllaw01.PaintSums", spec := "paintSums", unfollowed := true, recurses := true, apart := false }
def PaintSumsSaid : Prop := paintSumsRow.holds Try.pinned (OpenSpec.ofChange paintSumsSpec)

/-- ITS FALSE NEIGHBOUR: 'it returns false'. Refute it at one input. -/
def paintSumsWrong : ChangeSpec := { name := "paintSums", fn := fun _ => fun
  | [d1, d2, d3] => { results := [.lit (.bool false)], args := [d1, d2, d3] }
  | _ => none }
def PaintSumsWrongFalsely : Prop := paintSumsRow.holds Try.pinned (OpenSpec.ofChange paintSumsWrong)

/-- 'bellpulllaw01.PaintProgressions': WHATEVER THE INPUT: true; the input reads as it did. -/
def paintProgressionsSpec : ChangeSpec := { name := "paintProgressions", fn := fun _ => fun
  | [d1, d2] => { results := [.lit (.bool true)], args := [d1, d2] }
  | _ => none }
def paintProgressionsRow : OpenClaim := { program := "ytpclkcamfainiaa", sum := "155c70aec13bd57aaba80e01e989b5ce3cf5c0cbad34c16b52566ecc37d94d67", func := "bellpull/bellpulllaw01.PaintProgressions", spec := "paintProgressions", unfollowed := true, recurses := true, apart := false }
def PaintProgressionsSaid : Prop := paintProgressionsRow.holds Try.pinned (OpenSpec.ofChange paintProgressionsSpec)

/-- ITS FALSE NEIGHBOUR: 'it returns false'. Refute it at one input. -/
def paintProgressionsWrong : ChangeSpec := { name := "paintProgressions", fn := fun _ => fun
  | [d1, d2] => { results := [.lit (.bool false)], args := [d1, d2] }
  | _ => none }
def PaintProgressionsWrongFalsely : Prop := paintProgressionsRow.holds Try.pinned (OpenSpec.ofChange paintProgressionsWrong)

/-- 'bellpulllaw01.PaintStepless': WHATEVER THE INPUT: true; the input reads as it did. -/
def paintSteplessSpec : ChangeSpec := { name := "paintStepless", fn := fun _ => fun
  | [d1, d2, d3] => { results := [.lit (.bool true)], args := [d1, d2, d3] }
  | _ => none }
def paintSteplessRow : OpenClaim := { program := "ytpclkcamfainiaa", sum := "155c70aec13bd57aaba80e01e989b5ce3cf5c0cbad34c16b52566ecc37d94d67", func := "bellpull/bellpulllaw01.PaintStepless", spec := "paintStepless", unfollowed := true, recurses := true, apart := false }
def PaintSteplessSaid : Prop := paintSteplessRow.holds Try.pinned (OpenSpec.ofChange paintSteplessSpec)

/-- ITS FALSE NEIGHBOUR: 'it returns false'. Refute it at one input. -/
def paintSteplessWrong : ChangeSpec := { name := "paintStepless", fn := fun _ => fun
  | [d1, d2, d3] => { results := [.lit (.bool false)], args := [d1, d2, d3] }
  | _ => none }
def PaintSteplessWrongFalsely : Prop := paintSteplessRow.holds Try.pinned (OpenSpec.ofChange paintSteplessWrong)

/-- 'bellpulllaw01.PaintCounts': WHATEVER THE INPUT: true; the input reads as it did. -/
def paintCountsSpec : ChangeSpec := { name := "paintCounts", fn := fun _ => fun
  | [d1, d2, d3] => { results := [.lit (.bool true)], args := [d1, d2, d3] }
  | _ => none }
def paintCountsRow : OpenClaim := { program := "ytpclkcamfainiaa", sum := "155c70aec13bd57aaba80e01e989b5ce3cf5c0cbad34c16b52566ecc37d94d67", func := "bellpull/bellpulllaw01.PaintCounts", spec := "paintCounts", unfollowed := true, recurses := true, apart := false }
def PaintCountsSaid : Prop := paintCountsRow.holds Try.pinned (OpenSpec.ofChange paintCountsSpec)

/-- ITS FALSE NEIGHBOUR: 'it returns false'. Refute it at one input. -/
def paintCountsWrong : ChangeSpec := { name := "paintCounts", fn := fun _ => fun
  | [d1, d2, d3] => { results := [.lit (.bool false)], args := [d1, d2, d3] }
  | _ => none }
def PaintCountsWrongFalsely : Prop := paintCountsRow.holds Try.pinned (OpenSpec.ofChange paintCountsWrong)

/-- 'bellpulllaw01.PaintAvoided': WHATEVER THE INPUT: true; the input reads as it did. -/
def paintAvoidedSpec : ChangeSpec := { name := "paintAvoided", fn := fun _ => fun
  | [d1, d2, d3] => { results := [.lit (.bool true)], args := [d1, d2, d3] }
  | _ => none }
def paintAvoidedRow : OpenClaim := { program := "ytpclkcamfainiaa", sum := "155c70aec13bd57aaba80e01e989b5ce3cf5c0cbad34c16b52566ecc37d94d67", func := "bellpull/bellpulllaw01.PaintAvoided", spec := "paintAvoided", unfollowed := true, recurses := true, apart := false }
def PaintAvoidedSaid : Prop := paintAvoidedRow.holds Try.pinned (OpenSpec.ofChange paintAvoidedSpec)

/-- ITS FALSE NEIGHBOUR: 'it returns false'. Refute it at one input. -/
def paintAvoidedWrong : ChangeSpec := { name := "paintAvoided", fn := fun _ => fun
  | [d1, d2, d3] => { results := [.lit (.bool false)], args := [d1, d2, d3] }
  | _ => none }
def PaintAvoidedWrongFalsely : Prop := paintAvoidedRow.holds Try.pinned (OpenSpec.ofChange paintAvoidedWrong)

/-- 'bellpulllaw01.PaintRamsey': WHATEVER THE INPUT: true; the input reads as it did. -/
def paintRamseySpec : ChangeSpec := { name := "paintRamsey", fn := fun _ => fun
  | [d1, d2] => { results := [.lit (.bool true)], args := [d1, d2] }
  | _ => none }
def paintRamseyRow : OpenClaim := { program := "ytpclkcamfainiaa", sum := "155c70aec13bd57aaba80e01e989b5ce3cf5c0cbad34c16b52566ecc37d94d67", func := "bellpull/bellpulllaw01.PaintRamsey", spec := "paintRamsey", unfollowed := true, recurses := true, apart := false }
def PaintRamseySaid : Prop := paintRamseyRow.holds Try.pinned (OpenSpec.ofChange paintRamseySpec)

/-- ITS FALSE NEIGHBOUR: 'it returns false'. Refute it at one input. -/
def paintRamseyWrong : ChangeSpec := { name := "paintRamsey", fn := fun _ => fun
  | [d1, d2] => { results := [.lit (.bool false)], args := [d1, d2] }
  | _ => none }
def PaintRamseyWrongFalsely : Prop := paintRamseyRow.holds Try.pinned (OpenSpec.ofChange paintRamseyWrong)

/-- 'bellpulllaw01.PaintFewer': WHATEVER THE INPUT: true; the input reads as it did. -/
def paintFewerSpec : ChangeSpec := { name := "paintFewer", fn := fun _ => fun
  | [d1, d2] => { results := [.lit (.bool true)], args := [d1, d2] }
  | _ => none }
def paintFewerRow : OpenClaim := { program := "ytpclkcamfainiaa", sum := "155c70aec13bd57aaba80e01e989b5ce3cf5c0cbad34c16b52566ecc37d94d67", func := "bellpull/bellpulllaw01.PaintFewer", spec := "paintFewer", unfollowed := true, recurses := true, apart := false }
def PaintFewerSaid : Prop := paintFewerRow.holds Try.pinned (OpenSpec.ofChange paintFewerSpec)

/-- ITS FALSE NEIGHBOUR: 'it returns false'. Refute it at one input. -/
def paintFewerWrong : ChangeSpec := { name := "paintFewer", fn := fun _ => fun
  | [d1, d2] => { results := [.lit (.bool false)], args := [d1, d2] }
  | _ => none }
def PaintFewerWrongFalsely : Prop := paintFewerRow.holds Try.pinned (OpenSpec.ofChange paintFewerWrong)

/-- 'bellpulllaw01.PaintSchur': WHATEVER THE INPUT: true; the input reads as it did. -/
def paintSchurSpec : ChangeSpec := { name := "paintSchur", fn := fun _ => fun
  | [d1, d2, d3] => { results := [.lit (.bool true)], args := [d1, d2, d3] }
  | _ => none }
def paintSchurRow : OpenClaim := { program := "ytpclkcamfainiaa", sum := "155c70aec13bd57aaba80e01e989b5ce3cf5c0cbad34c16b52566ecc37d94d67", func := "bellpull/bellpulllaw01.PaintSchur", spec := "paintSchur", unfollowed := true, recurses := true, apart := false }
def PaintSchurSaid : Prop := paintSchurRow.holds Try.pinned (OpenSpec.ofChange paintSchurSpec)

/-- ITS FALSE NEIGHBOUR: 'it returns false'. Refute it at one input. -/
def paintSchurWrong : ChangeSpec := { name := "paintSchur", fn := fun _ => fun
  | [d1, d2, d3] => { results := [.lit (.bool false)], args := [d1, d2, d3] }
  | _ => none }
def PaintSchurWrongFalsely : Prop := paintSchurRow.holds Try.pinned (OpenSpec.ofChange paintSchurWrong)

/-- 'bellpulllaw01.PaintExchanged': WHATEVER THE INPUT: true; the input reads as it did. -/
def paintExchangedSpec : ChangeSpec := { name := "paintExchanged", fn := fun _ => fun
  | [d] => { results := [.lit (.bool true)], args := [d] }
  | _ => none }
def paintExchangedRow : OpenClaim := { program := "ytpclkcamfainiaa", sum := "155c70aec13bd57aaba80e01e989b5ce3cf5c0cbad34c16b52566ecc37d94d67", func := "bellpull/bellpulllaw01.PaintExchanged", spec := "paintExchanged", unfollowed := true, recurses := true, apart := false }
def PaintExchangedSaid : Prop := paintExchangedRow.holds Try.pinned (OpenSpec.ofChange paintExchangedSpec)

/-- ITS FALSE NEIGHBOUR: 'it returns false'. Refute it at one input. -/
def paintExchangedWrong : ChangeSpec := { name := "paintExchanged", fn := fun _ => fun
  | [d] => { results := [.lit (.bool false)], args := [d] }
  | _ => none }
def PaintExchangedWrongFalsely : Prop := paintExchangedRow.holds Try.pinned (OpenSpec.ofChange paintExchangedWrong)

/-- 'bellpulllaw01.PaintFound': WHATEVER THE INPUT: true; the input reads as it did. -/
def paintFoundSpec : ChangeSpec := { name := "paintFound", fn := fun _ => fun
  | [d1, d2, d3] => { results := [.lit (.bool true)], args := [d1, d2, d3] }
  | _ => none }
def paintFoundRow : OpenClaim := { program := "ytpclkcamfainiaa", sum := "155c70aec13bd57aaba80e01e989b5ce3cf5c0cbad34c16b52566ecc37d94d67", func := "bellpull/bellpulllaw01.PaintFound", spec := "paintFound", unfollowed := true, recurses := true, apart := false }
def PaintFoundSaid : Prop := paintFoundRow.holds Try.pinned (OpenSpec.ofChange paintFoundSpec)

/-- ITS FALSE NEIGHBOUR: 'it returns false'. Refute it at one input. -/
def paintFoundWrong : ChangeSpec := { name := "paintFound", fn := fun _ => fun
  | [d1, d2, d3] => { results := [.lit (.bool false)], args := [d1, d2, d3] }
  | _ => none }
def PaintFoundWrongFalsely : Prop := paintFoundRow.holds Try.pinned (OpenSpec.ofChange paintFoundWrong)

/-- 'bellpulllaw01.PaintDifferences': WHATEVER THE INPUT: true; the input reads as it did. -/
def paintDifferencesSpec : ChangeSpec := { name := "paintDifferences", fn := fun _ => fun
  | [d] => { results := [.lit (.bool true)], args := [d] }
  | _ => none }
def paintDifferencesRow : OpenClaim := { program := "ytpclkcamfainiaa", sum := "155c70aec13bd57aaba80e01e989b5ce3cf5c0cbad34c16b52566ecc37d94d67", func := "bellpull/bellpulllaw01.PaintDifferences", spec := "paintDifferences", unfollowed := true, recurses := true, apart := false }
def PaintDifferencesSaid : Prop := paintDifferencesRow.holds Try.pinned (OpenSpec.ofChange paintDifferencesSpec)

/-- ITS FALSE NEIGHBOUR: 'it returns false'. Refute it at one input. -/
def paintDifferencesWrong : ChangeSpec := { name := "paintDifferences", fn := fun _ => fun
  | [d] => { results := [.lit (.bool false)], args := [d] }
  | _ => none }
def PaintDifferencesWrongFalsely : Prop := paintDifferencesRow.holds Try.pinned (OpenSpec.ofChange paintDifferencesWrong)

/- THE SECOND FORM. 'bulk': how many values and letters a reading holds, each counted each time it is reached (what is shared counts as often as it is met; a slice's spare places count too). A statement '..UptoSaid' is the law's where the arguments, and the package variables that the reading takes, are together of bulk at most 1048576: NARROWER than '..Said'. Prove '..Said' where nothing that the law and all that it calls make is longer than what came in: it says more and counts as full. Else prove '..UptoSaid'. A law counts once. -/
mutual
def uptoBulk {H : Type} : DataW H → Nat
  | .lit (.string bytes) => bytes.length + 1
  | .lit _ => 1
  | .nil => 1
  | .ptr d => uptoBulk d + 1
  | .slice elems spare => uptoBulkAll elems + uptoBulkAll spare + 1
  | .agg parts => uptoBulkAll parts + 1
  | .iface _ d => uptoBulk d + 1
  | .map entries => uptoBulkEntries entries + 1
  | .held _ => 1
def uptoBulkAll {H : Type} : List (DataW H) → Nat
  | [] => 0
  | d :: r => uptoBulk d + uptoBulkAll r
def uptoBulkEntries {H : Type} : List (Lit × DataW H) → Nat
  | [] => 0
  | x :: r => uptoBulkEntry x + uptoBulkEntries r
def uptoBulkEntry {H : Type} : Lit × DataW H → Nat
  | (.string bytes, d) => bytes.length + uptoBulk d + 1
  | (_, d) => uptoBulk d + 1
 end
def uptoSmall : (H : Type) → List (DataW H) → Bool := fun _ ds => decide (uptoBulkAll ds ≤ 1048576)
def OpenSpec.upto (s : _root_.Go.ChangeSpec) : _root_.Go.OpenSpec := { _root_.Go.OpenSpec.ofChange s with cond := some uptoSmall }

/-- 'bellpulllaw01.PaintCliques', WHERE WHAT IT READS IS OF BULK AT MOST 1048576: true; the input reads as it did. -/
def paintCliquesUptoRow : OpenClaim := { program := "ytpclkcamfainiaa", sum := "155c70aec13bd57aaba80e01e989b5ce3cf5c0cbad34c16b52566ecc37d94d67", func := "bellpull/bellpulllaw01.PaintCliques", spec := "paintCliques", unfollowed := true, recurses := true, apart := false, narrowed := true }
def PaintCliquesUptoSaid : Prop := paintCliquesUptoRow.holds Try.pinned (OpenSpec.upto paintCliquesSpec)

/-- 'bellpulllaw01.PaintAvoids', WHERE WHAT IT READS IS OF BULK AT MOST 1048576: true; the input reads as it did. -/
def paintAvoidsUptoRow : OpenClaim := { program := "ytpclkcamfainiaa", sum := "155c70aec13bd57aaba80e01e989b5ce3cf5c0cbad34c16b52566ecc37d94d67", func := "bellpull/bellpulllaw01.PaintAvoids", spec := "paintAvoids", unfollowed := true, recurses := true, apart := false, narrowed := true }
def PaintAvoidsUptoSaid : Prop := paintAvoidsUptoRow.holds Try.pinned (OpenSpec.upto paintAvoidsSpec)

/-- 'bellpulllaw01.PaintSums', WHERE WHAT IT READS IS OF BULK AT MOST 1048576: true; the input reads as it did. -/
def paintSumsUptoRow : OpenClaim := { program := "ytpclkcamfainiaa", sum := "155c70aec13bd57aaba80e01e989b5ce3cf5c0cbad34c16b52566ecc37d94d67", func := "bellpull/bellpulllaw01.PaintSums", spec := "paintSums", unfollowed := true, recurses := true, apart := false, narrowed := true }
def PaintSumsUptoSaid : Prop := paintSumsUptoRow.holds Try.pinned (OpenSpec.upto paintSumsSpec)

/-- 'bellpulllaw01.PaintProgressions', WHERE WHAT IT READS IS OF BULK AT MOST 1048576: true; the input reads as it did. -/
def paintProgressionsUptoRow : OpenClaim := { program := "ytpclkcamfainiaa", sum := "155c70aec13bd57aaba80e01e989b5ce3cf5c0cbad34c16b52566ecc37d94d67", func := "bellpull/bellpulllaw01.PaintProgressions", spec := "paintProgressions", unfollowed := true, recurses := true, apart := false, narrowed := true }
def PaintProgressionsUptoSaid : Prop := paintProgressionsUptoRow.holds Try.pinned (OpenSpec.upto paintProgressionsSpec)

/-- 'bellpulllaw01.PaintStepless', WHERE WHAT IT READS IS OF BULK AT MOST 1048576: true; the input reads as it did. -/
def paintSteplessUptoRow : OpenClaim := { program := "ytpclkcamfainiaa", sum := "155c70aec13bd57aaba80e01e989b5ce3cf5c0cbad34c16b52566ecc37d94d67", func := "bellpull/bellpulllaw01.PaintStepless", spec := "paintStepless", unfollowed := true, recurses := true, apart := false, narrowed := true }
def PaintSteplessUptoSaid : Prop := paintSteplessUptoRow.holds Try.pinned (OpenSpec.upto paintSteplessSpec)

/-- 'bellpulllaw01.PaintCounts', WHERE WHAT IT READS IS OF BULK AT MOST 1048576: true; the input reads as it did. -/
def paintCountsUptoRow : OpenClaim := { program := "ytpclkcamfainiaa", sum := "155c70aec13bd57aaba80e01e989b5ce3cf5c0cbad34c16b52566ecc37d94d67", func := "bellpull/bellpulllaw01.PaintCounts", spec := "paintCounts", unfollowed := true, recurses := true, apart := false, narrowed := true }
def PaintCountsUptoSaid : Prop := paintCountsUptoRow.holds Try.pinned (OpenSpec.upto paintCountsSpec)

/-- 'bellpulllaw01.PaintAvoided', WHERE WHAT IT READS IS OF BULK AT MOST 1048576: true; the input reads as it did. -/
def paintAvoidedUptoRow : OpenClaim := { program := "ytpclkcamfainiaa", sum := "155c70aec13bd57aaba80e01e989b5ce3cf5c0cbad34c16b52566ecc37d94d67", func := "bellpull/bellpulllaw01.PaintAvoided", spec := "paintAvoided", unfollowed := true, recurses := true, apart := false, narrowed := true }
def PaintAvoidedUptoSaid : Prop := paintAvoidedUptoRow.holds Try.pinned (OpenSpec.upto paintAvoidedSpec)

/-- 'bellpulllaw01.PaintRamsey', WHERE WHAT IT READS IS OF BULK AT MOST 1048576: true; the input reads as it did. -/
def paintRamseyUptoRow : OpenClaim := { program := "ytpclkcamfainiaa", sum := "155c70aec13bd57aaba80e01e989b5ce3cf5c0cbad34c16b52566ecc37d94d67", func := "bellpull/bellpulllaw01.PaintRamsey", spec := "paintRamsey", unfollowed := true, recurses := true, apart := false, narrowed := true }
def PaintRamseyUptoSaid : Prop := paintRamseyUptoRow.holds Try.pinned (OpenSpec.upto paintRamseySpec)

/-- 'bellpulllaw01.PaintFewer', WHERE WHAT IT READS IS OF BULK AT MOST 1048576: true; the input reads as it did. -/
def paintFewerUptoRow : OpenClaim := { program := "ytpclkcamfainiaa", sum := "155c70aec13bd57aaba80e01e989b5ce3cf5c0cbad34c16b52566ecc37d94d67", func := "bellpull/bellpulllaw01.PaintFewer", spec := "paintFewer", unfollowed := true, recurses := true, apart := false, narrowed := true }
def PaintFewerUptoSaid : Prop := paintFewerUptoRow.holds Try.pinned (OpenSpec.upto paintFewerSpec)

/-- 'bellpulllaw01.PaintSchur', WHERE WHAT IT READS IS OF BULK AT MOST 1048576: true; the input reads as it did. -/
def paintSchurUptoRow : OpenClaim := { program := "ytpclkcamfainiaa", sum := "155c70aec13bd57aaba80e01e989b5ce3cf5c0cbad34c16b52566ecc37d94d67", func := "bellpull/bellpulllaw01.PaintSchur", spec := "paintSchur", unfollowed := true, recurses := true, apart := false, narrowed := true }
def PaintSchurUptoSaid : Prop := paintSchurUptoRow.holds Try.pinned (OpenSpec.upto paintSchurSpec)

/-- 'bellpulllaw01.PaintExchanged', WHERE WHAT IT READS IS OF BULK AT MOST 1048576: true; the input reads as it did. -/
def paintExchangedUptoRow : OpenClaim := { program := "ytpclkcamfainiaa", sum := "155c70aec13bd57aaba80e01e989b5ce3cf5c0cbad34c16b52566ecc37d94d67", func := "bellpull/bellpulllaw01.PaintExchanged", spec := "paintExchanged", unfollowed := true, recurses := true, apart := false, narrowed := true }
def PaintExchangedUptoSaid : Prop := paintExchangedUptoRow.holds Try.pinned (OpenSpec.upto paintExchangedSpec)

/-- 'bellpulllaw01.PaintFound', WHERE WHAT IT READS IS OF BULK AT MOST 1048576: true; the input reads as it did. -/
def paintFoundUptoRow : OpenClaim := { program := "ytpclkcamfainiaa", sum := "155c70aec13bd57aaba80e01e989b5ce3cf5c0cbad34c16b52566ecc37d94d67", func := "bellpull/bellpulllaw01.PaintFound", spec := "paintFound", unfollowed := true, recurses := true, apart := false, narrowed := true }
def PaintFoundUptoSaid : Prop := paintFoundUptoRow.holds Try.pinned (OpenSpec.upto paintFoundSpec)

/-- 'bellpulllaw01.PaintDifferences', WHERE WHAT IT READS IS OF BULK AT MOST 1048576: true; the input reads as it did. -/
def paintDifferencesUptoRow : OpenClaim := { program := "ytpclkcamfainiaa", sum := "155c70aec13bd57aaba80e01e989b5ce3cf5c0cbad34c16b52566ecc37d94d67", func := "bellpull/bellpulllaw01.PaintDifferences", spec := "paintDifferences", unfollowed := true, recurses := true, apart := false, narrowed := true }
def PaintDifferencesUptoSaid : Prop := paintDifferencesUptoRow.holds Try.pinned (OpenSpec.upto paintDifferencesSpec)

end Rows
end Go.Proofs.Ytpclkcamfainiaa
