/- The references' colourings; routes. -/
import Derived.Test.YtpfkmdbdafpadaaDoorPD
set_option linter.unusedSimpArgs false
set_option linter.unusedVariables false
set_option maxHeartbeats 4000000
set_option maxRecDepth 20000
namespace Go.Abs
theorem Own.eql {c : Nat} {bs : List (Nat × Blk)} {k : IntKind} {s : AV} {zs : List Int} (O : Own c bs k s zs) (h : s ≠ .nilsl) : sBin .eql .slice s .nilsl = some (.bool false) ∧ sBin .neq .slice s .nilsl = some (.bool true) := by
  obtain ⟨_, ⟨_, rfl⟩ | ⟨id, b, cap, rfl, _⟩⟩ := O
  · exact absurd rfl h
  · exact ⟨rfl, rfl⟩
theorem sBin_nilN : sBin .neq .slice .nilsl .nilsl = some (.bool false) := (Eq.refl _).trans rfl
end Go.Abs
namespace Go.Pa
open Go Go.Abs
/- A list of one's own, or nothing. -/
def HD (c : Nat) (r : AV) (bs : List (Nat × Blk)) : Option (List Int) → Prop
  | none => r = .nilsl
  | some zs => Own c bs .i64 r zs ∧ r ≠ .nilsl
theorem HD.lk {c d : Nat} {r : AV} {bs bs' : List (Nat × Blk)} {o : Option (List Int)} (G : HD c r bs o) (hr : refOK d r = true) (hl : ∀ id, id < d → lkB bs' id = lkB bs id) : HD c r bs' o := by
  cases o with
  | none => exact G
  | some cl => exact ⟨OwnA.lk G.1 hr hl, G.2⟩
theorem HD.sub {c : Nat} {r : AV} {bs bs' : List (Nat × Blk)} {o : Option (List Int)} (G : HD c r bs o) (s : Sub bs bs') : HD c r bs' o := by
  cases o with
  | none => exact G
  | some cl => exact ⟨G.1.sub s, G.2⟩
theorem HD.le {c c' : Nat} {r : AV} {bs : List (Nat × Blk)} {o : Option (List Int)} (G : HD c r bs o) (h : c' ≤ c) : HD c' r bs o := by
  cases o with
  | none => exact G
  | some cl => exact ⟨G.1.le h, G.2⟩
theorem HD.ints {c : Nat} {r : AV} {bs : List (Nat × Blk)} {o : Option (List Int)} (G : HD c r bs o) : Ints bs .i64 r (o.getD []) := by
  cases o with
  | none => cases G; exact Ints.nil
  | some cl => exact G.1.ints
theorem prp_of {E : List (Int × Int)} {zs : List Int} {i : Nat} (hi : zs.length ≤ i) (hp : ∀ j, j < i → ∀ k, k < j → ¬ (cl zs j = cl zs k ∧ adj (eg E j) (eg E k))) : Prp E zs := fun j hj k hk => hp j (by omega) k hk
end Go.Pa
namespace Go.Proofs.YtpfkmdbdafpadaaDoor
open Go Go.Abs Go.Pa

theorem LeastOK.hd {c : Nat} {E : List (Int × Int)} {limit : Nat} {v : AV} {bs : List (Nat × Blk)} (q : LeastOK c E limit v bs) : HD c v bs (ext E limit E.length []) := by
  unfold LeastOK at q
  cases hx : ext E limit E.length [] with
  | some ys => rw [hx] at q; exact q
  | none => rw [hx] at q; exact q

end Go.Proofs.YtpfkmdbdafpadaaDoor
