/- Laws of shift: beginnings, levels, the colouring by levels. -/
import Derived.Test.YtgpdimkgfhgffaaS10
import Derived.Test.YtgpdimkgfhgffaaS11
set_option linter.unusedSimpArgs false
set_option linter.unusedVariables false
set_option maxHeartbeats 4000000

namespace Go.Abs

theorem OwnA.sl3 {sz c n m : Nat} {bs : List (Nat × Blk)} {s : AV} {cs : List AV} (O : OwnA sz c bs s n cs) (hm : m ≤ n) :
    ∃ a', (∀ h, sSl3 sz h (some m) (some m) (some 0) s = some (a', h)) ∧ Arr bs sz a' m (cs.take (m * sz)) := by
  have H0 := O.arr
  obtain ⟨hl, ⟨rfl, rfl⟩ | ⟨id, b, cap, rfl, h1, h2, h3, h4, h5, h6⟩⟩ := O
  · have : m = 0 := by omega
    subst this
    exact ⟨_, fun h => rfl, by simpa using Arr.nil⟩
  · have hb : Nat.ble 0 m = true := Nat.ble_eq_true_of_le (Nat.zero_le _)
    have hc : m ≤ cap.getD n := by
      cases cap with
      | none => exact hm
      | some k => have := h6.2; simp only [Option.getD_some]; omega
    simp only [sSl3, hb, Nat.beq_refl, Bool.and_self, Nat.ble_eq_true_of_le (Nat.le_refl m), Nat.ble_eq_true_of_le hc, cond_true, Nat.zero_mul, Nat.add_zero, Nat.sub_zero]
    cases hc0 : Nat.beq m 0
    · exact ⟨_, fun h => rfl, H0.pre rfl hm (Nat.le_refl m)⟩
    · have := Nat.eq_of_beq_eq_true hc0
      exact ⟨_, fun h => rfl, H0.pre rfl hm (show m ≤ 0 by omega)⟩
theorem Own.sl3 {c m : Nat} {bs : List (Nat × Blk)} {k : IntKind} {s : AV} {zs : List Int} (O : Own c bs k s zs) (hm : m ≤ zs.length) :
    ∃ a', (∀ h, sSl3 1 h (some m) (some m) (some 0) s = some (a', h)) ∧ Ints bs k a' (zs.take m) := by
  obtain ⟨a', e, i⟩ := OwnA.sl3 O hm
  refine ⟨a', e, ?_⟩
  unfold Ints
  rw [Nat.mul_one, ints_take] at i
  rw [List.length_take, Nat.min_eq_left hm]
  exact i
theorem OwnP.sl3 {c m : Nat} {bs : List (Nat × Blk)} {s : AV} {l : List (Int × Int)} (O : OwnP c bs s l) (hm : m ≤ l.length) :
    ∃ a', (∀ h, sSl3 2 h (some m) (some m) (some 0) s = some (a', h)) ∧ Pairs bs a' (l.take m) := by
  obtain ⟨a', e, i⟩ := OwnA.sl3 O hm
  refine ⟨a', e, ?_⟩
  unfold Pairs
  rw [pairs_take] at i
  rw [List.length_take, Nat.min_eq_left hm]
  exact i

end Go.Abs


namespace Go.Sh

theorem bad_take {l : List Span} (hb : bad l = 0) (n : Nat) : bad (l.take n) = 0 := by
  obtain ⟨h1, h2⟩ := bad_0 hb
  rw [bad, if_neg (by simp; omega), if_pos]
  rw [List.all_eq_true]
  exact fun s hs => h2 s (List.mem_of_mem_take hs)
theorem bad_ok {l : List Span} (hb : bad l = 0) : ∀ s ∈ l, 0 ≤ s.1 ∧ s.1 < s.2 ∧ s.2 ≤ 1000 := fun s hs => by
  have := (bad_0 hb).2 s hs
  simpa [okS] using this

end Go.Sh


namespace Go.Proofs.Ytgpdimkgfhgffaa

open Go Go.Abs Go.Sh

theorem Res.no {c : Nat} {bs : List (Nat × Blk)} {zs : List Int} {r : AV} {e : Int} (R : Res c bs e zs r) (he : e ≠ 0) : r = .tu [.nilsl, .int .i64 e] := by
  obtain ⟨v, rfl, h⟩ := R
  rw [if_neg he] at h
  rw [h]

theorem f5 (a : AV) (l : List Span) (h : Hp) (hk : Hok h) (ha : Pairs h.blks a l) (hl : l.length ≤ maxLen) :
    ∃ v h', Evals Try.prog tab false (.func 5) [a] h (v, h') ∧ Grown h h' ∧ OwnP h.next h'.blks v (l.take 41) := by
  refine evals_q c5 (fun v h' => OwnP h.next h'.blks v (l.take 41)) rfl hk ?_ (fun v h1 g q => q.leave)
  simp only [sf5, initS_cons, initS_nil]
  unfold maxLen at hl
  have em : min (l.length : Int) 41 = ((min l.length 41 : Nat) : Int) := by omega
  have et : l.take (min l.length 41) = l.take 41 := by rw [Nat.min_comm, ← List.take_take, List.take_length]
  have a1 : Pairs (h.pu []).blks a l := ha.sub (by (repeat' (first|assumption|exact mAx _|refine mBx ?_ ?_|exact mCx (by assumption)|refine mDx ?_|refine mEx ?_ ?_ ?_|exact mFx|refine mGx ?_ ?_ ?_|exact mHx|exact mIx _|(simp only [wM,Nat.reduceAdd,Nat.reduceLT,Nat.reduceLeDiff];done))))
  have k1 : Hok (h.en.pu []) := by (repeat' (first|assumption|exact mAx _|refine mBx ?_ ?_|exact mCx (by assumption)|refine mDx ?_|refine mEx ?_ ?_ ?_|exact mFx|refine mGx ?_ ?_ ?_|exact mHx|exact mIx _|(simp only [wM,Nat.reduceAdd,Nat.reduceLT,Nat.reduceLeDiff];done)))
  have g1 : Grown h (h.en.pu []) := by (repeat' (first|assumption|exact mAx _|refine mBx ?_ ?_|exact mCx (by assumption)|refine mDx ?_|refine mEx ?_ ?_ ?_|exact mFx|refine mGx ?_ ?_ ?_|exact mHx|exact mIx _|(simp only [wM,Nat.reduceAdd,Nat.reduceLT,Nat.reduceLeDiff];done)))
  obtain ⟨a', ea, ia⟩ := a1.upto (m := min l.length 41) (by omega) (h.en.pu [])
  rw [et] at ia
  obtain ⟨s', h', e1, e2, e3, e4⟩ := own_appP (h0 := h) (h := h.en.pu []) (s := .sl h.next 0 0 (some 0) 2) (l := []) hk g1 (OwnP.fresh (Nat.le_refl _) rfl rfl rfl (Nat.le_refl _)) ia (by simp; omega)
  simp (disch := first|(simp only [Nat.reduceBEq,wE];done)|((repeat' (first|assumption|exact mAx _|refine mBx ?_ ?_|exact mCx (by assumption)|refine mDx ?_|refine mEx ?_ ?_ ?_|exact mFx|refine mGx ?_ ?_ ?_|exact mHx|exact mIx _|(simp only [wM,Nat.reduceAdd,Nat.reduceLT,Nat.reduceLeDiff];done)));done)|omega|decide) only [ha.len, a1.len, em, ea, e1, ↓wA,wB,wL,resOf,Nat.reduceBEq,Int.reduceBEq,Int.reduceBNe,Int.reduceLT,Int.reduceLE,Int.reduceAdd,Int.reduceSub,Int.reduceMul,Int.reduceToNat]
  exact ⟨_, rfl, e3, by simpa using e2⟩


end Go.Proofs.Ytgpdimkgfhgffaa

