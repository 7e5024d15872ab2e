/- The iterator of colourings, and its first. -/
import Derived.Test.YtpclkcamfainiaaP8
set_option linter.unusedSimpArgs false
set_option linter.unusedVariables false
set_option maxHeartbeats 4000000
set_option maxRecDepth 20000
namespace Go.Abs
theorem sBox_v {h : Hp} {v : AV} (hp : v.parts = some [v] ∧ v.isCell = true) : sBox h v = some (.ptr h.next 0, { next := h.next + 1, blks := (h.next, { cells := [v], ch := h.next, wr := true }) :: h.blks, loops := h.loops, base := h.base, esc := h.esc }) := by
  simp only [sBox, hp.1]
end Go.Abs
namespace Go.Proofs.Ytpclkcamfainiaa
open Go Go.Abs Go.Pt

theorem f62 {σ : Type} (ff l N0 i1 i2 i3 i4 size r : Nat) (cs : List AV) (F : List Int → Bool) (B : σ → Hp) (step : σ → List Int → Option σ) (Fin : σ → List Int → Hp → Prop)
    (Y : ColY Try.prog tab σ 60 ff l N0 i1 i2 i3 i4 size r cs F B step Fin) (hs : size ≤ 1000) (hr : r ≤ 1000) (s : σ) (h : Hp) (g : Grown (B s) h) :
    ∃ v h', Evals Try.prog tab false (.func 62) [.yld l, .ptr i4 0, .ptr i1 0] h (v, h') ∧ (Elder h h' ∧
      (match runC' step s (allC F r size []) with
        | .inl s' => Grown (B s') h'
        | .inr (s', ys) => Fin s' ys h')) := by
  have hk := g.ok (Y.ok s)
  have sB := g.sub (Y.ok s)
  have b1 := ((Y.b1 s).sub sB).ld (Sub.refl _) (j := 0)
  have b4 := ((Y.b4 s).sub sB).ld (Sub.refl _) (j := 0)
  have gp : Grown h (h.en.pu (repl [.int .i64 0] size)) := Grown.pu Grown.en (by rw [repl_ints]; exact refsOK_ints)
  have b4p := (((Y.b4 s).sub sB).sub (gp.sub hk)).ld (Sub.refl _) (j := 0)
  have gB : Grown (B s) (h.en.pu (repl [.int .i64 0] size)) := GrownR.trans g gp
  have O : OwnK N0 (h.en.pu (repl [.int .i64 0] size)).blks h.next size [] := ⟨_, lkB_top, by rw [repl_ints]; simp [ints_len], by simp [ints], by have := g.next; rw [Y.nx] at this; exact this, by have := g.next; rw [Y.nx] at this; exact this, rfl, by simp⟩
  obtain ⟨b, h2, ev, el, q⟩ := f60 ff l N0 i1 i2 i3 i4 size r cs F B step Fin Y hs hr size [] s (h.en.pu (repl [.int .i64 0] size)) h.next (by simp) gB O (by simp)
  have elh : Elder h h2 := (GrownR.elder gp).trans el
  have mk := sMks_0 (h := h.en) (z := [.int .i64 0]) (n := 1) (c := size) (by omega)
  refine evals_two c62 (fun _ h' => Elder h h' ∧ (match runC' step s (allC F r size []) with
        | .inl s' => Grown (B s') h'
        | .inr (s', ys) => Fin s' ys h')) rfl ?_
  simp only [sf62, initS_cons, initS_nil]
  have ev' : Evals Try.prog tab false (.func 60) ([.sl h.next 0 0 (some size) 1, .yld l] ++ [.ptr i1 0, .ptr i2 0, .ptr i3 0, .ptr i4 0]) (h.en.pu (repl [.int .i64 0] size)) (b, h2) := ev
  simp (disch := first | (simp only [Nat.reduceBEq, elem_hit, elem_miss, elem_nil]; done) | ((repeat' (first | assumption | exact Sub.refl _ | refine Sub.push ?_ ?_ | exact HokR.fresh (by assumption) | refine Fresh.push ?_ | refine HokR.push ?_ ?_ ?_ | exact Grown.refl | refine GrownR.push ?_ ?_ ?_ | exact refsOK_ints | exact refsOK_pairs | exact Nat.le_refl _ | (simp only [wM, Nat.reduceAdd, Nat.reduceLT, Nat.reduceLeDiff]; done))); done) | omega | decide) only [b1, b4, mk, b4p, callC ev', wrap_i64, idx?_pos, Int.toNat_natCast, ↓wA, wB, resOf, Option.map_some, Option.map_none, List.map_cons, List.map_nil, List.nil_append, List.append_nil, List.cons_append, Nat.reduceBEq, List.getElem?_cons_zero, List.getElem?_cons_succ, List.getElem?_nil, Option.getD_some, Option.getD_none, cond_false, cond_true, and_true, true_and, Nat.zero_add, Nat.mul_one, Int.reduceBEq, Int.reduceBNe, Int.reduceLT, Int.reduceLE, Int.reduceAdd, Int.reduceSub, Int.reduceMul, decide_true, decide_false, Bool.not_true, Bool.not_false, beq_self_eq_true, bne_self_eq_false, and_self, List.isEmpty_nil, List.isEmpty_cons, Bool.true_or, Bool.false_or, List.set_cons_zero, List.set_cons_succ, List.length_cons, List.length_nil, Option.bind_some, List.all_cons, List.all_nil, Bool.or_true, Bool.true_and, Bool.and_true, Int.reduceToNat]
  refine ⟨_, rfl, elh, elder_leave elh, ?_⟩
  cases hrc : runC' step s (allC F r size []) with
  | inl s' =>
    rw [hrc] at q
    exact (grown_leave (by rw [Y.nx, Y.nx]) (Y.len s' s) g q.2.1 (Y.ok s') elh).1
  | inr y =>
    obtain ⟨s', ys⟩ := y
    rw [hrc] at q
    exact Y.fin s s' ys h h2 _ g elh q.2

theorem f48 (ff size r : Nat) (cs : List AV) (h : Hp) (hk : Hok h) (hcs : refsOK h.next cs = true) :
    ∃ v h', Evals Try.prog tab false (.func 48) [.int .i64 size, .int .i64 r, .fn (.func ff) [] cs] h (v, h') ∧ Grown h h' ∧ ∃ i1 i2 i3 i4, v = .fn (.func 62) [] [.ptr i4 0, .ptr i1 0] ∧ h.next ≤ i4 ∧
      BoxD h.next h'.blks i1 [.int .i64 size] ∧ BoxD h.next h'.blks i2 [.int .i64 r] ∧ BoxD h.next h'.blks i3 [.fn (.func ff) [] cs] ∧ BoxD h.next h'.blks i4 [.fn (.func 60) [] [.ptr i1 0, .ptr i2 0, .ptr i3 0, .ptr i4 0]] := by
  refine evals_q c48 (fun v h' => ∃ i1 i2 i3 i4, v = .fn (.func 62) [] [.ptr i4 0, .ptr i1 0] ∧ h.next ≤ i4 ∧
      BoxD h.next h'.blks i1 [.int .i64 size] ∧ BoxD h.next h'.blks i2 [.int .i64 r] ∧ BoxD h.next h'.blks i3 [.fn (.func ff) [] cs] ∧ BoxD h.next h'.blks i4 [.fn (.func 60) [] [.ptr i1 0, .ptr i2 0, .ptr i3 0, .ptr i4 0]]) rfl hk ?_ (fun v h1 g q => ⟨fun hr => by
        obtain ⟨i1, i2, i3, i4, rfl, h4, _⟩ := q
        simp only [refOK, refsOK_cons, Bool.and_eq_true, Nat.blt_eq] at hr
        omega, fun _ => q⟩)
  simp only [sf48, initS_cons, initS_nil]
  have k1 : Hok (h.en.pu [.int .i64 size]) := Hok.pu hk rfl
  have k2 : Hok ((h.en.pu [.int .i64 size]).pu [.int .i64 r]) := Hok.pu k1 rfl
  have r3 : refsOK (h.next + 1 + 1 + 1) [.fn (.func ff) [] cs] = true := by simp only [refsOK_cons, refsOK_nil, refOK, Bool.and_true, Bool.true_and]; exact refsOK_mono (by omega) hcs
  have k3 : Hok (((h.en.pu [.int .i64 size]).pu [.int .i64 r]).pu [.fn (.func ff) [] cs]) := Hok.pu k2 r3
  have sv := fun (m base : Nat) (esc : Bool) => sStore_v (m := m) (i := h.next + 1 + 1 + 1) (off := 0) (base := base) (esc := esc) (cs := [.nilfn]) (v := .fn (.func 60) [] [.ptr h.next 0, .ptr (h.next + 1) 0, .ptr (h.next + 1 + 1) 0, .ptr (h.next + 1 + 1 + 1) 0]) ⟨rfl, rfl⟩ k3 (by simp)
  simp (disch := first | (simp only [Nat.reduceBEq, elem_hit, elem_miss, elem_nil]; done) | ((repeat' (first | assumption | exact Sub.refl _ | refine Sub.push ?_ ?_ | exact HokR.fresh (by assumption) | refine Fresh.push ?_ | refine HokR.push ?_ ?_ ?_ | exact Grown.refl | refine GrownR.push ?_ ?_ ?_ | exact refsOK_ints | exact refsOK_pairs | exact Nat.le_refl _ | (simp only [wM, Nat.reduceAdd, Nat.reduceLT, Nat.reduceLeDiff]; done))); done) | omega | decide) only [sBox_int, sBox_v (v := .fn (.func ff) [] cs) ⟨rfl, rfl⟩, sv, wrap_i64, idx?_pos, Int.toNat_natCast, ↓wA, wB, resOf, Option.map_some, Option.map_none, List.map_cons, List.map_nil, List.nil_append, List.append_nil, List.cons_append, Nat.reduceBEq, List.getElem?_cons_zero, List.getElem?_cons_succ, List.getElem?_nil, Option.getD_some, Option.getD_none, cond_false, cond_true, and_true, true_and, Nat.zero_add, Nat.mul_one, Int.reduceBEq, Int.reduceBNe, Int.reduceLT, Int.reduceLE, Int.reduceAdd, Int.reduceSub, Int.reduceMul, decide_true, decide_false, Bool.not_true, Bool.not_false, beq_self_eq_true, bne_self_eq_false, and_self, List.isEmpty_nil, List.isEmpty_cons, Bool.true_or, Bool.false_or, List.set_cons_zero, List.set_cons_succ, List.length_cons, List.length_nil, Option.bind_some, List.all_cons, List.all_nil, Bool.or_true, Bool.true_and, Bool.and_true, Int.reduceToNat]
  have n1 : h.next ≠ h.next + 1 := by omega
  refine ⟨_, rfl, ?_, h.next, h.next + 1, h.next + 1 + 1, h.next + 1 + 1 + 1, rfl, by omega, ?_, ?_, ?_, ?_⟩
  · refine GrownR.push (GrownR.push (GrownR.push (GrownR.push Grown.en rfl (Nat.le_refl _)) rfl (Nat.le_refl _)) r3 (Nat.le_refl _)) ?_ (Nat.le_refl _)
    simp only [refsOK_cons, refsOK_nil, refOK, Bool.and_true, Bool.true_and, Bool.and_eq_true, Nat.blt_eq, List.set_cons_zero]
    omega
  · exact ⟨h.next, true, by rw [lkB_push (by omega), lkB_push (by omega), lkB_push (by omega), lkB_top], by omega, by omega⟩
  · exact ⟨h.next + 1, true, by rw [lkB_push (by omega), lkB_push (by omega), lkB_top], by omega, by omega⟩
  · exact ⟨h.next + 1 + 1, true, by rw [lkB_push (by omega), lkB_top], by omega, by omega⟩
  · exact ⟨h.next + 1 + 1 + 1, true, by rw [lkB_top], by omega, by omega⟩
end Go.Proofs.Ytpclkcamfainiaa
