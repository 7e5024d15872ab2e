/- Variables of the library whose contents are known: where they lie, and what they hold. -/
import Derived.Below
import Derived.Lib.ItoaNum
namespace Go.Abs
open Go
def glob : List (Nat × List Value) := [(0, Lib.pow10Tab.map fun z => Value.int .u64 z)]
def GB (k : Nat) : Prop := ∃ x ∈ glob, x.1 = k
/-- The world holds them. -/
def GloW (w : World) : Prop := ∀ x ∈ glob, ∃ e fz, w.heap[x.1]? = some (.cells x.2.toArray e fz)
theorem GloW.lt {w : World} (h : GloW w) {k : Nat} (hk : GB k) : k < w.heap.size := by
  obtain ⟨x, hx, rfl⟩ := hk
  obtain ⟨e, fz, he⟩ := h x hx
  exact (Array.getElem?_eq_some_iff.1 he).1
theorem GloW.keep {w w' : World} (h : GloW w) (hb : ∀ k, GB k → w'.heap[k]? = w.heap[k]?) : GloW w' := fun x hx => by
  obtain ⟨e, fz, he⟩ := h x hx
  exact ⟨e, fz, by rw [hb _ ⟨x, hx, rfl⟩]; exact he⟩
end Go.Abs
