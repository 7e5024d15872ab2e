/- Laws of shift: beginnings, mirrors, stretching. -/
import Derived.Test.YtgpdimkgfhgffaaS9
set_option linter.unusedSimpArgs false
set_option linter.unusedVariables false
set_option maxHeartbeats 4000000

namespace Go.Proofs.Ytgpdimkgfhgffaa

open Go Go.Abs Go.Sh

theorem f8 (h : Hp) : Evals Try.prog tab false (.func 8) [] h (.bool true, h) := evals_tab rfl

theorem Res.ok {c : Nat} {bs : List (Nat × Blk)} {zs : List Int} {r : AV} {e : Int} (R : Res c bs e zs r) (he : e = 0) : ∃ v, r = .tu [v, .int .i64 0] ∧ Own c bs .i64 v zs := by
  subst he
  obtain ⟨v, rfl, h⟩ := R
  rw [if_pos rfl] at h
  exact ⟨v, rfl, h⟩

/-- What a loop over intervals appends. -/
theorem map_take {f : Span → Span} {l : List Span} {i : Nat} (h : i < l.length) : (l.take (i + 1)).map f = (l.take i).map f ++ [f (sg l i)] := by
  rw [List.take_succ_eq_append_getElem h, List.map_append]
  simp [sg, List.getD_eq_getElem?_getD, List.getElem?_eq_getElem h]

theorem bad_of {l : List Span} (hl : l.length ≤ 40) (h : ∀ s ∈ l, 0 ≤ s.1 ∧ s.1 < s.2 ∧ s.2 ≤ 1000) : bad l = 0 := by
  rw [bad, if_neg (by omega), if_pos]
  rw [List.all_eq_true]
  intro s hs
  have := h s hs
  simp [okS]
  omega


end Go.Proofs.Ytgpdimkgfhgffaa

