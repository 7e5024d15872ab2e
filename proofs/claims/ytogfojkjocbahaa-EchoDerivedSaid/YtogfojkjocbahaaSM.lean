/- Evaluation with compiled functions. -/
import Derived.Test.YtogfojkjocbahaaSI
namespace Go.Abs
open Go

/-- The interpreter over compiled functions. -/
def callS (P : Program) (F : Nat → Option SFun) (g : Bool) (m : Nat) : Nat → CallF
  | 0 => fun _ _ _ => none
  | n + 1 => fun f args h => match f with
    | .func f => match F f with
      | some sf => enterS (callS P F g m n) g m sf args h
      | none => none
    | .yield l => enterY P (callS P F g m n) m l args h

theorem callS_le {P : Program} {F : Nat → Option SFun} (hF : ∀ f sf, F f = some sf → compF P f = some sf) {g : Bool} {m : Nat} : ∀ {n : Nat}, Le (callS P F g m n) (callN P noTab g m n)
  | 0 => fun t a h r e => by cases e
  | n + 1 => fun t a h r e => by
    have ih := callS_le hF (g := g) (m := m) (n := n)
    cases t with
    | func f =>
      simp only [callS] at e
      split at e
      · rename_i sf hf
        rw [← enterF_S (hF _ _ hf)] at e
        show enterF P (callN P noTab g m n) g m f a h = _
        exact enterF_mono ih (Nat.le_refl _) e
      · cases e
    | yield l => exact enterY_mono ih (Nat.le_refl _) e

theorem Closed.runS {P : Program} (hm : P.follows .mixedOrders = true) {F : Nat → Option SFun} (hF : ∀ f sf, F f = some sf → compF P f = some sf) {g : Bool} {m k f : Nat} {args : List AV} {v : AV} (ha : args.all plain = true) (hv : plainR v = true)
    (e : (callS P F g m k (.func f) args ⟨0, [], [], 0, false⟩).map (·.1) = some v) : Closed P f args v := by
  rw [Option.map_eq_some_iff] at e
  obtain ⟨⟨v', h'⟩, e, rfl⟩ := e
  exact Closed.run hm noTab_ok ha hv (callS_le hF _ _ _ _ e)

def lkSF : List (Nat × SFun) → Nat → Option SFun
  | [], _ => none
  | (i, s) :: r, f => bif Nat.beq i f then some s else lkSF r f

def AllF (P : Program) (l : List (Nat × SFun)) : Prop := ∀ f sf, lkSF l f = some sf → compF P f = some sf

theorem allF_nil {P : Program} : AllF P [] := fun _ _ h => by cases h
theorem allF_cons {P : Program} {i : Nat} {s : SFun} {r : List (Nat × SFun)} (h : compF P i = some s) (hr : AllF P r) : AllF P ((i, s) :: r) := fun f sf e => by
  simp only [lkSF] at e
  cases hb : Nat.beq i f
  · rw [hb] at e
    exact hr f sf e
  · rw [hb] at e
    cases e
    rw [← Nat.eq_of_beq_eq_true hb]
    exact h
theorem lkSF_ok {P : Program} {l : List (Nat × SFun)} (h : AllF P l) : ∀ f sf, lkSF l f = some sf → compF P f = some sf := h

end Go.Abs
