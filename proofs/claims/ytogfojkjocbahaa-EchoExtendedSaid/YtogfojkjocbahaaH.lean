/- Each operation does to a world what the abstract operation says (3): all that make no call. -/
import Derived.Test.YtogfojkjocbahaaG
namespace Go.Abs
open Go Go.RowKit

section
variable {P : Program} {base : Nat} {σ : Env} {w : World} {h : Hp}

theorem isAggT_of_struct {t : TypeId} {fs : Array Field} (hu : P.underlying t = some (.struct fs)) : isAggT P t = some true := by simp [isAggT, hu]

theorem run_zeroValue' {t : TypeId} {i : TypeInfo} {z : Value} (hi : P.info? t = some i) (hz : i.zero = some z) (w : World) : (zeroValue t).run P w = .ok z w := by
  simp [zeroValue, run_typeInfo w hi, hz]

theorem abInt_sound {op : BinOp} {k : IntKind} {a b : Int} {v : AV} (hv : abInt op k a b = some v) : ∃ u, ((match op with
    | .add | .sub | .mul => Op.intArith op k a b
    | .quo | .rem => Op.intDiv op k a b
    | .and | .or | .xor | .andNot => Op.intBits op k a b
    | _ => Op.intCmp op a b : Sem Value)).run P w = .ok u w ∧ R σ v u := by
  cases op <;> simp only [abInt, Option.some.injEq] at hv
  case quo | rem =>
    by_cases hb : b = 0
    · simp [hb] at hv
    · simp only [hb, if_false, Option.some.injEq] at hv
      subst hv
      exact ⟨_, by simp [Op.intDiv, hb]; rfl, by simp [R]⟩
  all_goals first
    | (cases hv; done)
    | (subst hv; exact ⟨_, by simp [Op.intArith, Op.intBits, Op.intCmp]; rfl, by simp [R]⟩)

theorem abShift_sound {op : BinOp} {k k' : IntKind} {a b : Int} {v : AV} (hv : abShift op k a b = some v) : ∃ u, (Op.shift op k a k' b).run P w = .ok u w ∧ R σ v u := by
  unfold abShift at hv
  by_cases hb : b < 0
  · simp [hb] at hv
  · rw [if_neg hb] at hv
    cases op <;> simp only at hv
    case shl => cases hv; exact ⟨_, by simp [Op.shift, hb]; rfl, by simp [R]⟩
    case shr => cases hv; exact ⟨_, by simp [Op.shift, hb]; rfl, by simp [R]⟩
    all_goals cases hv

/-- Neither a number, a text, an interface's value nor an aggregate. -/
def refKind : Value → Bool
  | .bool _ | .slice .. | .map _ | .pointer _ | .func .. | .nilFunc => true
  | _ => false

theorem binOp_eql {t : TypeId} {u v : Value} (h : refKind u = true) : binOp .eql t u v = (do pure (.bool (← Op.equal t u v))) := by
  cases u <;> simp only [refKind] at h <;> first | (cases h; done) | rfl

theorem binOp_neq {t : TypeId} {u v : Value} (h : refKind u = true) : binOp .neq t u v = (do pure (.bool (!(← Op.equal t u v)))) := by
  cases u <;> simp only [refKind] at h <;> first | (cases h; done) | rfl

theorem eqGuard_ok {op : BinOp} {t : TypeId} {u v : Value} (h : refKind u = true) (x y : Operand) : (eqGuard op t x y u v).run P w = .ok () w := by
  unfold eqGuard
  cases u <;> simp only [refKind] at h <;> first | (cases h; done) | (cases op <;> simp)

set_option maxHeartbeats 1000000 in
theorem abEq_sound {t : TypeId} {x y : AV} {r : Bool} (hf : eqFits P t x = true) (he : abEq x y = some r) {u v : Value} (hu : R σ x u) (hv : R σ y v) :
    (Op.equal t u v).run P w = .ok r w ∧ refKind u = true := by
  unfold eqFits at hf
  split at hf
  all_goals first | (cases hf; done) | skip
  all_goals
    rename_i hd
    cases y <;> simp only [abEq, Option.some.injEq] at he
  all_goals first | (cases he; done) | skip
  all_goals
    subst he
    simp only [R] at hu hv
    have fin : ∀ {u v : Value} {r : Bool}, (∀ d, (Op.equalIn (d + 1) t u v).run P w = .ok r w) → refKind u = true → (Op.equal t u v).run P w = .ok r w ∧ refKind u = true := fun a b => ⟨a 9999, b⟩
    first
      | subst hu
      | (obtain ⟨c, k, hc, rfl, hk⟩ := hu)
      | (obtain ⟨xx, yy, rfl, hk⟩ := hu)
      | (obtain ⟨c, hc, rfl⟩ := hu)
      | (obtain ⟨a0, rfl⟩ := hu)
    first
      | subst hv
      | (obtain ⟨c, k, hc, rfl, hk⟩ := hv)
      | (obtain ⟨xx, yy, rfl, hk⟩ := hv)
      | (obtain ⟨c, hc, rfl⟩ := hv)
      | (obtain ⟨a0, rfl⟩ := hv)
    refine fin ?_ rfl
    intro d
    simp only [Op.equalIn]
    simp [run_underlying hd]

theorem abBin_sound {op : BinOp} {t : TypeId} {x y : AV} {v : AV} (hv : abBin P op t x y = some v) {u u' : Value} (hu : R σ x u) (hu' : R σ y u') (xo yo : Operand) :
    ∃ r, (do eqGuard op t xo yo u u'; binOp op t u u' : Sem Value).run P w = .ok r w ∧ R σ v r := by
  unfold abBin at hv
  split at hv
  · rename_i k a k' b
    have e1 := R_int hu
    have e2 := R_int hu'
    subst e1 e2
    have hg : (eqGuard op t xo yo (.int k a) (.int k' b)).run P w = .ok () w := by
      unfold eqGuard
      cases op <;> simp
    simp only [Sem.run_bind, hg, Result.andThen_ok]
    split at hv
    · obtain ⟨r, h1, h2⟩ := abShift_sound (P := P) (w := w) (σ := σ) (k' := k') hv
      exact ⟨r, by simpa [binOp] using h1, h2⟩
    · obtain ⟨r, h1, h2⟩ := abShift_sound (P := P) (w := w) (σ := σ) (k' := k') hv
      exact ⟨r, by simpa [binOp] using h1, h2⟩
    · rename_i hne1 hne2
      by_cases hk : k = k'
      · subst hk
        simp only [if_true] at hv
        obtain ⟨r, h1, h2⟩ := abInt_sound (P := P) (w := w) (σ := σ) hv
        refine ⟨r, ?_, h2⟩
        rw [← h1]
        cases op <;> simp_all [binOp]
      · simp [hk] at hv
  · split at hv
    · cases hf : eqFits P t x
      · simp [hf] at hv
      · simp only [hf, cond_true] at hv
        cases he : abEq x y with
        | none => simp [he] at hv
        | some r =>
          simp only [he, Option.map_some, Option.some.injEq] at hv
          subst hv
          obtain ⟨h1, h2⟩ := abEq_sound (P := P) (w := w) hf he hu hu'
          exact ⟨.bool r, by simp only [Sem.run_bind, eqGuard_ok h2, Result.andThen_ok, binOp_eql h2, h1, Sem.run_pure], by simp [R]⟩
    · cases hf : eqFits P t x
      · simp [hf] at hv
      · simp only [hf, cond_true] at hv
        cases he : abEq x y with
        | none => simp [he] at hv
        | some r =>
          simp only [he, Option.map_some, Option.some.injEq] at hv
          subst hv
          obtain ⟨h1, h2⟩ := abEq_sound (P := P) (w := w) hf he hu hu'
          exact ⟨.bool (!r), by simp only [Sem.run_bind, eqGuard_ok h2, Result.andThen_ok, binOp_neq h2, h1, Sem.run_pure], by simp [R]⟩
    · cases hv

end
end Go.Abs
