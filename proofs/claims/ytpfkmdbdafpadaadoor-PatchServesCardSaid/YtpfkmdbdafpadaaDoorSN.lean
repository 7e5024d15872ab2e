/- Calls that are known. -/
import Derived.Test.YtpfkmdbdafpadaaDoorSG
import Derived.Test.YtpfkmdbdafpadaaDoorSI
import Derived.Test.YtpfkmdbdafpadaaDoorSL
set_option maxRecDepth 100000
namespace Go.Abs
open Go
/-- What Delete of one element does to the heap. -/
def delA (sz : Nat) (z : List AV) (h : Hp) (id off n i : Nat) : Option Hp :=
  match srcCells h.en sz (.sl id (off + (i + 1) * sz) (n - (i + 1)) none sz) with
  | some (vs, _) => match (bif Nat.beq (i + 1) n then some h.en else h.en.write id (off + i * sz) vs) with
    | some h1 => (h1.write id (off + (n - 1) * sz) z).map fun h2 => { h2 with base := h.base, esc := h.esc }
    | none => none
  | none => none
def okL (h : Hp) : Bool := h.loops.all fun x => Nat.blt x.1 h.next && refL h.next x.2
/-- slices.Delete of one element of a slice whose capacity isn't known: see DT. -/
def delT (sz : Nat) (z : List AV) (args : List AV) (h : Hp) : Option (AV × Hp) := match args with
  | [.sl id off n none m, .int .i64 a, .int .i64 b] =>
    if m = sz ∧ 0 ≤ a ∧ b = a + 1 ∧ a < n ∧ n ≤ 1073741824 ∧ okL h = true then (delA sz z h id off n a.toNat).map fun h' => (.sl id off (n - 1) none sz, h') else none
  | _ => none
theorem delT_spec {sz : Nat} {z args : List AV} {h h' : Hp} {v : AV} (e : delT sz z args h = some (v, h')) :
    ∃ id off n i : Nat, args = [.sl id off n none sz, .int .i64 i, .int .i64 (i + 1 : Nat)] ∧ i < n ∧ n ≤ 1073741824 ∧ (∀ x ∈ h.loops, x.1 < h.next ∧ refL h.next x.2 = true) ∧ delA sz z h id off n i = some h' ∧ v = .sl id off (n - 1) none sz := by
  unfold delT at e
  split at e
  · rename_i id off n m a b
    split at e
    · rename_i hc
      obtain ⟨rfl, h1, rfl, h2, h3, h4⟩ := hc
      rw [Option.map_eq_some_iff] at e
      obtain ⟨h'', e1, e2⟩ := e
      cases e2
      obtain ⟨i, rfl⟩ : ∃ i : Nat, a = i := ⟨a.toNat, by omega⟩
      rw [Int.toNat_natCast] at e1
      refine ⟨id, off, n, i, by simp, by omega, h3, fun x hx => ?_, e1, rfl⟩
      have := List.all_eq_true.1 h4 x hx
      simp only [Bool.and_eq_true, Nat.blt_eq] at this
      exact this
    · cases e
  · cases e
theorem delT_of {sz : Nat} {z : List AV} {h h' : Hp} {id off n i : Nat} (hi : i < n) (hn : n ≤ 1073741824) (hL : ∀ x ∈ h.loops, x.1 < h.next ∧ refL h.next x.2 = true) (e : delA sz z h id off n i = some h') :
    delT sz z [.sl id off n none sz, .int .i64 i, .int .i64 (i + 1 : Nat)] h = some (.sl id off (n - 1) none sz, h') := by
  have hl : okL h = true := List.all_eq_true.2 fun x hx => by
    simp only [Bool.and_eq_true, Nat.blt_eq]
    exact hL x hx
  have hc : sz = sz ∧ (0 : Int) ≤ i ∧ ((i + 1 : Nat) : Int) = (i : Int) + 1 ∧ (i : Int) < n ∧ n ≤ 1073741824 ∧ okL h = true := ⟨rfl, by omega, by omega, by omega, hn, hl⟩
  simp only [delT, hc, and_self, if_true, Int.toNat_natCast, e, Option.map_some]
end Go.Abs
namespace Go.Proofs.YtpfkmdbdafpadaaDoor
open Go Go.Abs
theorem mixed : Tryd.prog.follows .mixedOrders = true := by kernel_rfl
/-- The examples of the document: proved in SO. Delete: proved in DT, DP. -/
def tab : Tab := fun f args h => match f with
  | 9 => (match args with
    | [] => some (.bool true, h)
    | _ => none)
  | 46 => delT 1 [.int .i64 0] args h
  | 45 => delT 2 [.int .i64 0, .int .i64 0] args h
  | _ => none
end Go.Proofs.YtpfkmdbdafpadaaDoor
