/- Writes in a slice that was passed in. -/
import Derived.Test.YtgpdimkgfhgffaaS1
import Derived.Test.YtgpdimkgfhgffaaS18
set_option linter.unusedSimpArgs false
set_option linter.unusedVariables false
set_option maxHeartbeats 2000000
set_option maxRecDepth 20000

namespace Go.Abs

/-- Blocks were written to, but none came. -/
structure Mut (h h' : Hp) : Prop where
  next : h'.next = h.next
  len : h'.blks.length = h.blks.length
theorem Mut.refl (h : Hp) : Mut h h := ⟨rfl, rfl⟩
theorem Mut.en (h : Hp) : Mut h h.en := ⟨rfl, rfl⟩
theorem Mut.trans {a b c : Hp} (h : Mut a b) (h' : Mut b c) : Mut a c := ⟨h'.next.trans h.next, h'.len.trans h.len⟩
theorem trunc_len : ∀ (l : List (Nat × Blk)) (c s n : Nat), (trunc l c s n).length = l.length
  | [], _, _, _ => rfl
  | (j, b) :: r, c, s, n => by
    simp only [trunc]
    cases Nat.blt j c
    · simp only [cond_false, List.length_cons, trunc_len r]
    · rfl
theorem setB_len : ∀ (l : List (Nat × Blk)) (i : Nat) (v : Blk), (setB l i v).length = l.length
  | [], _, _ => rfl
  | (j, b) :: r, i, v => by
    simp only [setB]
    cases Nat.beq j i
    · simp only [cond_false, List.length_cons, setB_len r]
    · rfl
theorem write_mut {h h' : Hp} {id off : Nat} {vs : List AV} (e : h.write id off vs = some h') : Mut h h' := by
  unfold Hp.write at e
  split at e
  · rename_i b hb
    cases hc : (b.wr && Nat.ble (off + vs.length) b.cells.length && vs.all AV.isCell)
    · rw [hc] at e
      cases e
    · rw [hc] at e
      cases e
      exact ⟨rfl, by rw [setB_len, trunc_len]⟩
  · cases e
theorem sStore_mut {n : Nat} {h h' : Hp} {x a v : AV} (e : sStore n h x a = some (v, h')) : Mut h h' := by
  unfold sStore at e
  split at e
  · split at e
    · rename_i vs hv
      cases hn : Nat.beq vs.length n
      · rw [hn] at e
        cases e
      · rw [hn] at e
        simp only [cond_true, Option.map_eq_some_iff] at e
        obtain ⟨h1, e1, e2⟩ := e
        cases e2
        exact write_mut e1
    · cases e
  · cases e

/-- A call that writes, and returns nothing. -/
theorem evals_mut {P : Program} {T : Tab} {f : Nat} {sf : SFun} (hc : compF P f = some sf) {args : List AV} {h0 h : Hp} (Q : List (Nat × Blk) → Prop) (hlen : Nat.ble args.length sf.nt = true)
    (H : wp (Evals P T false) sf.body { fr := initS sf.slots args, hp := { next := h.next, blks := h.blks, loops := h.loops, base := h.next, esc := false } } fun e s => (match e with | .exit _ => False | _ => True) ∧ ∃ vs, sresVs s.fr s.hp sf.res = some vs ∧ resOf vs = .tu [] ∧ Mut h s.hp ∧ Grown h0 s.hp ∧ Q s.hp.blks)
    (hT : T f args h = none := by rfl) :
    ∃ v h', Evals P T false (.func f) args h (v, h') ∧ (v = .tu [] ∧ Mut h h' ∧ Grown h0 h' ∧ Q h'.blks) :=
  evals_func (Q := fun v h' => v = .tu [] ∧ Mut h h' ∧ Grown h0 h' ∧ Q h'.blks) hc hlen (wp_mono (fun e s Hs => by
    obtain ⟨h1, vs, h2, h3, m, g, q⟩ := Hs
    refine ⟨h1, vs, h2, h3, ?_⟩
    have : leave false h (resOf vs) s.hp = { s.hp with base := h.base, esc := h.esc } := by
      have hd : s.hp.blks.drop (s.hp.blks.length - h.blks.length) = s.hp.blks := by rw [m.len, Nat.sub_self, List.drop_zero]
      simp only [leave, cond_false, hd]
      cases (refOK h.next (resOf vs) && selfOK h.next s.hp.blks s.hp.loops)
      · rfl
      · simp only [cond_true, m.next]
    rw [this]
    exact ⟨⟨m.next, m.len⟩, g, q⟩) H) hT

theorem own_sw {h0 h : Hp} {s : AV} {zs : List Int} {i j : Nat} (ho : Hok h0) (g : Grown h0 h) (O : Own h0.next h.blks .i64 s zs) (hi : i < zs.length) (hj : j < zs.length) :
    ∃ h3 h4, sStore 1 h (.int .i64 (zs.getD j 0)) (cellAt s i) = some (.any, h3) ∧ sStore 1 h3 (.int .i64 (zs.getD i 0)) (cellAt s j) = some (.any, h4) ∧ Own h0.next h4.blks .i64 s (Sh.sw zs i j) ∧ Grown h0 h4 ∧ Mut h h4 := by
  obtain ⟨h3, e3, o3, g3⟩ := own_setI (v := zs.getD j 0) ho g O hi
  obtain ⟨h4, e4, o4, g4⟩ := own_setI (v := zs.getD i 0) (i := j) ho g3 o3 (by simpa using hj)
  exact ⟨h3, h4, e3, e4, o4, g4, (sStore_mut e3).trans (sStore_mut e4)⟩

end Go.Abs


namespace Go.Proofs.Ytgpdimkgfhgffaa

open Go Go.Abs Go.Sh

theorem f51 (s c : AV) (A B n : Nat) (zs : List Int) (h0 h : Hp) (ho : Hok h0) (g : Grown h0 h) (O : Own h0.next h.blks .i64 s zs) (hl : zs.length ≤ 1000) (h1 : A + n ≤ B) (h2 : B + n ≤ zs.length) :
    ∃ v h', Evals Try.prog tab false (.func 51) [s, .int .i64 A, .int .i64 B, .int .i64 n, c] h (v, h') ∧ (v = .tu [] ∧ Mut h h' ∧ Grown h0 h' ∧ Own h0.next h'.blks .i64 s (swr zs A B n)) := by
  refine evals_mut c51 (fun bs => Own h0.next bs .i64 s (swr zs A B n)) rfl ?_
  simp only [sf51, initS_cons, initS_nil]
  simp (disch := first|(simp only [Nat.reduceBEq,wE];done)|((repeat' (first|assumption|exact mAx _|refine mBx ?_ ?_|exact mCx (by assumption)|refine mDx ?_|refine mEx ?_ ?_ ?_|exact mFx|refine mGx ?_ ?_ ?_|exact mHx|exact mIx _|(simp only [wM,Nat.reduceAdd,Nat.reduceLT,Nat.reduceLeDiff];done)));done)|omega|decide) only [↓wA,wB,wL,resOf,Nat.reduceBEq,Int.reduceBEq,Int.reduceBNe,Int.reduceLT,Int.reduceLE,Int.reduceAdd,Int.reduceSub,Int.reduceMul,Int.reduceToNat]
  refine wloop (fun mm ss => ∃ (x : Nat) (h3 : Hp) (u13 : AV), (mm = n - x) ∧ (x ≤ n ∧ Mut h h3 ∧ Grown h0 h3 ∧ Own h0.next h3.blks .i64 s (swr zs A B x)) ∧ ss = { fr := [(0, s), (1, .int .i64 A), (2, .int .i64 B), (3, .int .i64 n), (10, .int .i64 x), (13, u13)], hp := h3 }) (n) ?_ ?_
  ·
    refine ⟨0, h.en, _, by omega, ⟨by omega, Mut.en h, g, O⟩, rfl⟩
  rintro nA sA ⟨x, h3, u13, hnA, ⟨hx, m3, g3, o3⟩, rfl⟩
  have hw := swr_len zs A B x
  simp (disch := first|(simp only [Nat.reduceBEq,wE];done)|((repeat' (first|assumption|exact mAx _|refine mBx ?_ ?_|exact mCx (by assumption)|refine mDx ?_|refine mEx ?_ ?_ ?_|exact mFx|refine mGx ?_ ?_ ?_|exact mHx|exact mIx _|(simp only [wM,Nat.reduceAdd,Nat.reduceLT,Nat.reduceLeDiff];done)));done)|omega|decide) only [↓wA,wB,wL,resOf,Nat.reduceBEq,Int.reduceBEq,Int.reduceBNe,Int.reduceLT,Int.reduceLE,Int.reduceAdd,Int.reduceSub,Int.reduceMul,Int.reduceToNat]
  refine ifThen_intro (fun e => ?_) (fun e => ?_) <;> have eq := e <;> try simp [-List.getD_eq_getElem?_getD] at eq
  · obtain ⟨h4, h5, e1, e2, o5, g5, m5⟩ := own_sw (i := A + x) (j := B + x) ho g3 o3 (by omega) (by omega)
    have i1 : (A : Int) + (x : Int) = ((A + x : Nat) : Int) := by omega
    have i2 : (B : Int) + (x : Int) = ((B + x : Nat) : Int) := by omega
    simp (disch := first|(simp only [Nat.reduceBEq,wE];done)|((repeat' (first|assumption|exact mAx _|refine mBx ?_ ?_|exact mCx (by assumption)|refine mDx ?_|refine mEx ?_ ?_ ?_|exact mFx|refine mGx ?_ ?_ ?_|exact mHx|exact mIx _|(simp only [wM,Nat.reduceAdd,Nat.reduceLT,Nat.reduceLeDiff];done)));done)|omega|decide) only [e, i1, i2, o3.ints.ix, o3.ints.ld, e1, e2, ↓wA,wB,wL,resOf,Nat.reduceBEq,Int.reduceBEq,Int.reduceBNe,Int.reduceLT,Int.reduceLE,Int.reduceAdd,Int.reduceSub,Int.reduceMul,Int.reduceToNat]
    refine ⟨_, ?_, x + 1, _, _, rfl, ?_, rfl⟩
    · omega
    exact ⟨by omega, m3.trans m5, g5, o5⟩
  · simp (disch := first|(simp only [Nat.reduceBEq,wE];done)|((repeat' (first|assumption|exact mAx _|refine mBx ?_ ?_|exact mCx (by assumption)|refine mDx ?_|refine mEx ?_ ?_ ?_|exact mFx|refine mGx ?_ ?_ ?_|exact mHx|exact mIx _|(simp only [wM,Nat.reduceAdd,Nat.reduceLT,Nat.reduceLeDiff];done)));done)|omega|decide) only [e, ↓wA,wB,wL,resOf,Nat.reduceBEq,Int.reduceBEq,Int.reduceBNe,Int.reduceLT,Int.reduceLE,Int.reduceAdd,Int.reduceSub,Int.reduceMul,Int.reduceToNat]
    refine ⟨_, rfl, rfl, m3, g3, ?_⟩
    rw [show n = x by omega]
    exact o3

end Go.Proofs.Ytgpdimkgfhgffaa

