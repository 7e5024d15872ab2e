/- Regions whose order is drawn (2): operations that leave the heap alone. -/
import Derived.Test.YtogfojkjocbahaaN
namespace Go.Abs
open Go Go.RowKit

section
variable {P : Program} {call : CallF} {f : Nat → AV}

theorem map_snd {x : Option AV} {h h2 : Hp} : (x.map fun v => (v, h2)) = (x.map fun v => (v, h)).map fun p => (p.1, h2) := by cases x <;> rfl

theorem step1_indep (h h2 : Hp) (o : Oper) (he : isEff o = false) (hr : isRead o = false) : step1 P f h2 o.op = (step1 P f h o.op).map fun p => (p.1, h2) := by
  unfold isEff at he
  unfold isRead at hr
  generalize o.op = op at he hr ⊢
  cases op <;> simp only at he hr <;> first | (cases he; done) | (cases hr; done) | skip
  case slice t x lo hi mx =>
    cases mx with
    | some m =>
      cases hi with
      | none => rfl
      | some hi =>
        simp only [step1, Bool.cond_eq_ite]
        repeat' split
        all_goals first | rfl | simp_all
    | none =>
      simp only [step1, Bool.cond_eq_ite]
      repeat' split
      all_goals first | rfl | simp_all
  all_goals
    simp only [step1, Bool.cond_eq_ite]
    repeat' split
    all_goals first | rfl | exact map_snd | (simp only [Option.map_map]; rfl) | simp_all

theorem step1_quiet {h h1 : Hp} {v : AV} (o : Oper) (he : isEff o = false) (hs : step1 P f h o.op = some (v, h1)) : h1 = h := by
  cases hr : isRead o
  · have := step1_indep (P := P) (f := f) h h o he hr
    rw [hs] at this
    simp only [Option.map_some, Option.some.injEq, Prod.mk.injEq, true_and] at this
    exact this
  · unfold isEff at he
    unfold isRead at hr
    generalize o.op = op at he hr hs
    cases op <;> simp only at he hr <;> first | (cases he; done) | (cases hr; done) | skip
    case load =>
      simp only [step1] at hs
      split at hs
      · split at hs
        · simp only [Option.map_eq_some_iff, Prod.mk.injEq] at hs
          obtain ⟨_, _, _, e⟩ := hs
          exact e.symm
        · cases hs
      · cases hs
    all_goals simp only [step1] at hs <;> cases hs

theorem exec1_quiet {h h1 : Hp} {v : AV} (o : Oper) (he : isEff o = false) (hs : exec1 P call f h o = some (v, h1)) : h1 = h := by
  unfold exec1 at hs
  split at hs
  · rename_i c hop
    simp only [isEff, hop] at he
    split at hs
    · rename_i b hb
      rw [hb] at he
      cases b <;> simp only at he <;> first | (cases he; done) | skip
      all_goals
        simp only [builtin1] at hs
        repeat' split at hs
        all_goals first | (cases hs; done) | (simp only [Option.some.injEq, Prod.mk.injEq] at hs; exact hs.2.symm)
    · rename_i g hg
      rw [hg] at he
      cases he
    · cases hs
  · exact step1_quiet o he hs

theorem exec1_indep {h h1 : Hp} {v : AV} (o : Oper) (he : isEff o = false) (hr : isRead o = false) (hs : exec1 P call f h o = some (v, h1)) (h2 : Hp) : exec1 P call f h2 o = some (v, h2) := by
  unfold exec1 at hs ⊢
  split at hs
  · rename_i c hop
    simp only [isEff, isRead, hop] at he hr
    split at hs
    · rename_i b hb
      rw [hb] at he hr
      cases b <;> simp only at he hr <;> first | (cases he; done) | (cases hr; done) | skip
      all_goals
        simp only [builtin1] at hs ⊢
        repeat' split at hs
        all_goals first | (cases hs; done) | skip
        all_goals
          first
            | (simp only [Option.some.injEq, Prod.mk.injEq] at hs; simp_all; done)
            | (simp at hs; simp_all; done)
            | (simp at hs; simp_all; rw [if_neg (by omega)]; exact hs.1)
    · rename_i g hg
      rw [hg] at he
      cases he
    · cases hs
  · have := step1_indep (P := P) (f := f) h h2 o he hr
    rw [hs] at this
    exact this

end
end Go.Abs
