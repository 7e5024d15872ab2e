/- A law's argument: a slice that came in. -/
import Derived.Test.YtogfojkjocbahaaSR
import Derived.Test.YtogfojkjocbahaaV
set_option linter.unusedSimpArgs false
set_option linter.unusedVariables false
namespace Go.Abs
open Go

def ArgK (k : IntKind) (bs : List (Nat × Blk)) (a : AV) (zs : List Int) : Prop :=
  ((a = .nilsl ∧ zs = []) ∨ (a = .esl ∧ zs = []) ∨ ∃ id cap, a = .sl id 0 zs.length (some cap) 1 ∧ zs.length ≤ cap ∧ 0 < cap ∧ ∀ i, i < zs.length → cellB bs id i = some (.int k (zs.getD i 0))) ∧ ∀ z ∈ zs, (Lit.int k z).wf = true

theorem ArgK.nil {k : IntKind} {bs : List (Nat × Blk)} : ArgK k bs .nilsl [] := ⟨.inl ⟨rfl, rfl⟩, by simp⟩
theorem ArgK.esl {k : IntKind} {bs : List (Nat × Blk)} : ArgK k bs .esl [] := ⟨.inr (.inl ⟨rfl, rfl⟩), by simp⟩

theorem ArgK.sl {k : IntKind} {n len cap : Nat} {zs : List Int} (hl : len ≤ cap) (hz : zs.length = cap) (h0 : 0 < cap) (hw : ∀ z ∈ zs, (Lit.int k z).wf = true) :
    ArgK k [(n, { cells := Go.Abs.ints k zs, ch := n, wr := false })] (.sl n 0 len (some cap) 1) (zs.take len) := by
  have hlz : (zs.take len).length = len := by simp; omega
  refine ⟨.inr (.inr ⟨n, cap, by rw [hlz], by omega, h0, fun i hi => ?_⟩), fun z hz => hw z (List.mem_of_mem_take hz)⟩
  rw [hlz] at hi
  simp only [cellB, lkB, Nat.beq_refl, cond_true, Option.bind_some, Go.Abs.ints, List.getElem?_map, List.getD_eq_getElem?_getD]
  rw [List.getElem?_take_of_lt hi, List.getElem?_eq_getElem (by omega)]
  rfl

theorem ArgK.ints {k : IntKind} {bs : List (Nat × Blk)} {a : AV} {zs : List Int} (A : ArgK k bs a zs) : Ints bs k a zs := by
  rcases A.1 with ⟨rfl, rfl⟩ | ⟨rfl, rfl⟩ | ⟨id, cap, rfl, _, _, h⟩
  · exact Ints.nil
  · exact Ints.esl
  · exact Ints.sl rfl fun i hi => by rw [Nat.zero_add]; exact h i hi

theorem ArgK.u8 {bs : List (Nat × Blk)} {a : AV} {zs : List Int} (A : ArgK .u8 bs a zs) : ∀ z ∈ zs, 0 ≤ z ∧ z ≤ 255 := fun z hz => by
  have := A.2 z hz
  simp [Lit.wf, IntKind.min, IntKind.max, IntKind.bits, IntKind.signed] at this
  omega

theorem wf_u16 {z : Int} (h : (Lit.int .u16 z).wf = true) : 0 ≤ z ∧ z ≤ 65535 := by
  simp [Lit.wf, IntKind.min, IntKind.max, IntKind.bits, IntKind.signed] at h
  omega
theorem wf_u8 {z : Int} (h : (Lit.int .u8 z).wf = true) : 0 ≤ z ∧ z ≤ 255 := by
  simp [Lit.wf, IntKind.min, IntKind.max, IntKind.bits, IntKind.signed] at h
  omega

end Go.Abs
