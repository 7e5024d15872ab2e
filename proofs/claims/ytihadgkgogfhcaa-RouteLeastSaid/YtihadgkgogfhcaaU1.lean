/- Graphs and orders that the laws make; the three least measures. -/
import Derived.Test.YtihadgkgogfhcaaQE
set_option linter.unusedSimpArgs false
set_option linter.unusedVariables false
set_option maxHeartbeats 4000000
set_option maxRecDepth 20000
namespace Go.Proofs.Ytihadgkgogfhcaa
open Go Go.Abs Go.Pa Go.Ro

theorem code_of {l : List Int} (h : ∀ k ∈ l, 0 ≤ k ∧ k ≤ 255) : ∃ code : List Nat, l = ofN code ∧ ∀ x ∈ code, x ≤ 255 := by
  refine ⟨l.map Int.toNat, ?_, fun x hx => ?_⟩
  · unfold ofN
    rw [List.map_map]
    conv => lhs; rw [← List.map_id l]
    exact List.map_congr_left fun k hk => by have := h k hk; simp; omega
  · obtain ⟨k, hk, rfl⟩ := List.mem_map.1 hx
    have := h k hk
    omega

theorem start1 (k0 : Int) (m : Nat) (x1 : AV) (l1 : List (Int × Int)) (h : Hp) (hk : Hok h) (hm : 0 < m ∧ m ≤ 8) (b0 : 0 ≤ k0 ∧ k0 ≤ 255) (P1 : Pairs8 h.blks x1 l1) (B1 : ∀ p ∈ l1, 0 ≤ p.1 ∧ p.1 ≤ 255 ∧ 0 ≤ p.2 ∧ p.2 ≤ 255) (S1 : l1.length ≤ maxLen) :
    ∃ (k : Nat) (E : List (Int × Int)) (s1 : AV) (h1 : Hp), 0 < k ∧ k ≤ m ∧ EdgeOK k E ∧ E.length ≤ 20 ∧ Evals Try.prog tab false (.func 33) [.int .u8 k0, x1, .int .i64 m] h (.tu [.int .i64 k, s1], h1) ∧ Grown h h1 ∧ OwnP h.next h1.blks s1 E := by
  have S1' : l1.length < 2 ^ 63 := by have : maxLen = 2 ^ 63 - 1 := rfl; omega
  obtain ⟨x, rfl⟩ : ∃ x : Nat, k0 = x := ⟨k0.toNat, by omega⟩
  obtain ⟨v, h1, ev, g1, t, rfl, o1⟩ := f33 x m x1 l1 h hk (by omega) hm P1 B1 S1'
  have hr : x % m < m := Nat.mod_lt _ hm.1
  exact ⟨x % m + 1, mdG (x % m + 1) l1, t, h1, by omega, by omega, mdG_ok (by omega) B1, mdG_len, ev, g1, o1⟩

theorem start2 (k : Nat) (x2 : AV) (l2 : List Int) (h1 : Hp) (k1 : Hok h1) (hk8 : k ≤ 8) (P2 : Ints h1.blks .u8 x2 l2) (B2 : ∀ k ∈ l2, 0 ≤ k ∧ k ≤ 255) (S2 : l2.length ≤ maxLen) :
    ∃ (o : List Int) (s2 : AV) (h2 : Hp), PermI k o ∧ Evals Try.prog tab false (.func 34) [.int .i64 k, x2] h1 (s2, h2) ∧ Grown h1 h2 ∧ Own h1.next h2.blks .i64 s2 o := by
  have S2' : l2.length < 2 ^ 63 := by have : maxLen = 2 ^ 63 - 1 := rfl; omega
  obtain ⟨code, rfl, hc⟩ := code_of B2
  obtain ⟨v, h2, ev, g2, o2⟩ := f34 k x2 code h1 k1 P2 (by omega) (by rw [← ofN_len]; exact S2') hc
  exact ⟨_, v, h2, nth_perm, ev, g2, o2⟩

theorem f35 (n : Nat) (a : AV) (E : List (Int × Int)) (h : Hp) (hk : Hok h) (ha : Pairs h.blks a E) (hr : refOK h.next a = true) (h0 : 0 < n) (h8 : n ≤ 8) (hE : E.length ≤ 30) (hO : EdgeOK n E) :
    ∃ v h', Evals Try.prog tab false (.func 35) [.int .i64 n, a] h (v, h') ∧ Grown h h' ∧ ∃ t p q r xs ys zs, v = .tu [t, .bool true] ∧ Least n (cBand E) p xs ∧ Least n (cCut E) q ys ∧ Least n (cSum E) r zs ∧ Own h.next h'.blks .i64 t [p, q, r] := by
  refine evals_q c35 (fun v h' => ∃ t p q r xs ys zs, v = .tu [t, .bool true] ∧ Least n (cBand E) p xs ∧ Least n (cCut E) q ys ∧ Least n (cSum E) r zs ∧ Own h.next h'.blks .i64 t [p, q, r]) rfl hk ?_ (fun v h1 g q => by
    obtain ⟨t, p, q, r, xs, ys, zs, rfl, q1, q2, q3, q4⟩ := q
    refine ⟨fun rr => ⟨t, p, q, r, xs, ys, zs, rfl, q1, q2, q3, q4.leave.1 ?_⟩, fun rr => ⟨t, p, q, r, xs, ys, zs, rfl, q1, q2, q3, q4⟩⟩
    simp only [refOK, refsOK_cons, Bool.and_eq_true] at rr
    exact rr.1)
  simp only [sf35, initS_cons, initS_nil]
  obtain ⟨v, h2, e2, g2, p, t2, xs, rfl, q2, o2⟩ := Band_ok n a E h.en hk ha hr h0 h8 hE hO
  have k2 : Hok h2 := g2.ok hk
  have gh2 : Grown h h2 := GrownR.of_en g2
  obtain ⟨v, h3, e3, g3, q, t3, ys, rfl, q3, o3⟩ := Cut_ok n a E h2 k2 (ha.sub (gh2.sub hk)) (refOK_mono gh2.next hr) h0 h8 hE hO
  have k3 := g3.ok k2
  have gh3 := GrownR.trans gh2 g3
  obtain ⟨v, h4, e4, g4, r, t4, zs, rfl, q4, o4⟩ := Arrange_ok n a E h3 k3 (ha.sub (gh3.sub hk)) (refOK_mono gh3.next hr) h0 h8 hE hO
  have gh4 := GrownR.trans gh3 g4
  simp (disch := first|(simp only [Nat.reduceBEq,wE];done)|((repeat' (first|assumption|exact mAx _|refine mBx ?_ ?_|exact mCx (by assumption)|refine mDx ?_|refine mEx ?_ ?_ ?_|exact mFx|refine mGx ?_ ?_ ?_|exact mHx|exact mIx _|(simp only [wM,Nat.reduceAdd,Nat.reduceLT,Nat.reduceLeDiff];done)));done)|omega|decide) only [callT e2, callT e3, callT e4, sBS_i3, ↓wA,wB,wL,resOf,Nat.reduceBEq,Int.reduceBEq,Int.reduceBNe,Int.reduceLT,Int.reduceLE,Int.reduceAdd,Int.reduceSub,Int.reduceMul,Int.reduceToNat]
  refine ⟨_, rfl, Grown.pu gh4 refsOK_ints, _, p, q, r, xs, ys, zs, rfl, q2, q3, q4, ?_⟩
  exact Own.fresh gh4.next rfl rfl rfl (Nat.le_refl _)
end Go.Proofs.Ytihadgkgogfhcaa
