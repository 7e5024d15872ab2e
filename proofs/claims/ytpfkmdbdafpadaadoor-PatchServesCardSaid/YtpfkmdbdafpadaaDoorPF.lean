/- Valid, Route, and what the laws make: lists that are cut, permutations by their codes. -/
import Derived.Test.YtpfkmdbdafpadaaDoorPE
import Derived.Test.YtpfkmdbdafpadaaDoorKB
set_option linter.unusedSimpArgs false
set_option linter.unusedVariables false
set_option maxHeartbeats 4000000
set_option maxRecDepth 20000
namespace Go.Pa
theorem deg_le {A g : Nat → Int} {N n : Nat} {x : Int} (inj : ∀ i j, i < N → j < N → g i = g j → i = j) (h : ∀ i, i < N → A i = x → x * n ≤ g i ∧ g i < x * n + n) : deg A N x ≤ n := by
  have := few n (x * n) (((List.range N).filter fun i => decide (A i = x)).map g) ?_ ?_
  · simpa [deg] using this
  · rw [List.Nodup, List.pairwise_map]
    refine List.Pairwise.imp_of_mem (fun {i j} hi hj hne e => hne (inj i j ?_ ?_ e)) (List.nodup_range.filter _)
    · exact List.mem_range.1 (List.mem_filter.1 hi).1
    · exact List.mem_range.1 (List.mem_filter.1 hj).1
  · intro y hy
    obtain ⟨i, hi, rfl⟩ := List.mem_map.1 hy
    obtain ⟨h1, h2⟩ := List.mem_filter.1 hi
    exact h i (List.mem_range.1 h1) (by simpa using h2)
theorem div_box {y x : Int} {n : Nat} (hn : 0 < n) (h : y / (n : Int) = x) : x * n ≤ y ∧ y < x * n + n := by
  have h1 := Int.emod_add_mul_ediv y n
  have h2 := Int.emod_nonneg y (show (n : Int) ≠ 0 by omega)
  have h3 := Int.emod_lt_of_pos y (show (0 : Int) < n by omega)
  rw [h] at h1
  rw [Int.mul_comm]
  constructor <;> omega
theorem nodup_inj {zs : List Int} (h : zs.Nodup) : ∀ i j, i < zs.length → j < zs.length → zs.getD i 0 = zs.getD j 0 → i = j := fun i j hi hj e => by
  rw [getD_at hi, getD_at hj] at e
  exact (List.getElem_inj h).1 e
theorem edgs_degA {n w : Nat} {zs : List Int} (hn : 0 < n) (x : Int) : degA (edgs n zs) x ≤ n := by
  refine deg_le (g := fun i => (i : Int)) (fun i j _ _ h => by omega) fun i hi e => ?_
  rw [edgs_len] at hi
  rw [edgs_at hi] at e
  exact div_box hn e
theorem edgs_degB {n : Nat} {zs : List Int} (hn : 0 < n) (h : zs.Nodup) (x : Int) : degB (edgs n zs) x ≤ n := by
  refine deg_le (g := fun i => zs.getD i 0) (fun i j hi hj e => ?_) fun i hi e => ?_
  · rw [edgs_len] at hi hj
    exact nodup_inj h i j hi hj e
  · rw [edgs_len] at hi
    rw [edgs_at hi] at e
    exact div_box hn e
/- There is a routing, if there are as many middle switches as inputs of a switch. -/
theorem route_ex {n m : Nat} {zs : List Int} (hn : 0 < n) (h : zs.Nodup) (hm : n ≤ m) : ∃ ys, ext (edgs n zs) m (edgs n zs).length [] = some ys ∧ Prp (edgs n zs) ys ∧ ys.length = zs.length ∧ ∀ z ∈ ys, 0 ≤ z ∧ z < (m : Int) := by
  obtain ⟨ys, h1, h2, h3, h4⟩ := ext_konig (E := edgs n zs) (D := n) (limit := m) (fun x => edgs_degA (w := 0) hn x) (fun x => edgs_degB hn h x) hm
  exact ⟨ys, h1, h2, by rw [h3, edgs_len], h4⟩
theorem Clos.nat {n r m : Int} (c : Clos n r m) : ∃ a b d : Nat, n = a ∧ r = b ∧ m = d ∧ 0 < a ∧ a ≤ 12 ∧ 0 < b ∧ b ≤ 12 ∧ a * b ≤ 12 ∧ 0 < d ∧ d ≤ 12 := by
  obtain ⟨⟨h1, h2⟩, ⟨h3, h4⟩, h5, h6, h7⟩ := c
  obtain ⟨a, rfl⟩ : ∃ a : Nat, n = a := ⟨n.toNat, by omega⟩
  obtain ⟨b, rfl⟩ : ∃ b : Nat, r = b := ⟨r.toNat, by omega⟩
  obtain ⟨d, rfl⟩ : ∃ d : Nat, m = d := ⟨m.toNat, by omega⟩
  exact ⟨a, b, d, rfl, rfl, rfl, by omega, by omega, by omega, by omega, by exact_mod_cast h5, by omega, by omega⟩
theorem clos_of {a b d : Nat} (h1 : 0 < a) (h2 : a ≤ 12) (h3 : 0 < b) (h4 : b ≤ 12) (h5 : a * b ≤ 12) (h6 : 0 < d) (h7 : d ≤ 12) : Clos a b d :=
  ⟨⟨by omega, by omega⟩, ⟨by omega, by omega⟩, by exact_mod_cast h5, by omega, by omega⟩
theorem PermI.bd {w : Nat} {zs : List Int} (p : PermI w zs) (hw : w ≤ 100000) : ∀ z ∈ zs, 0 ≤ z ∧ z ≤ 100000 := fun z hz => by have := p.2.1 z hz; omega
end Go.Pa
namespace Go.Proofs.YtpfkmdbdafpadaaDoor
open Go Go.Abs Go.Pa

theorem lives_ev (h : Hp) : Evals Tryd.prog tab false (.func 9) [] h (.bool true, h) := evals_tab rfl

theorem Route_arg (n r m : Int) (a : AV) (h : Hp) (hk : Hok h) (hc : ¬ Clos n r m) : Evals Tryd.prog tab false (.func 20) [.int .i64 n, .int .i64 r, .int .i64 m, a] h (.tu [.nilsl, .int .i64 1], h) := by
  refine evals_pure c20 rfl hk ?_
  simp only [sf20, initS_cons, initS_nil]
  simp (disch := first|(simp only [Nat.reduceBEq,wE];done)|((repeat' (first|assumption|exact mAx _|refine mBx ?_ ?_|exact mCx (by assumption)|refine mDx ?_|refine mEx ?_ ?_ ?_|exact mFx|refine mGx ?_ ?_ ?_|exact mHx|exact mIx _|(simp only [wM,Nat.reduceAdd,Nat.reduceLT,Nat.reduceLeDiff];done)));done)|omega|decide) only [callT (f15 n r m h.en hk), decide_eq_false hc, ↓wA,wB,wL,resOf,Nat.reduceBEq,Int.reduceBEq,Int.reduceBNe,Int.reduceLT,Int.reduceLE,Int.reduceAdd,Int.reduceSub,Int.reduceMul,Int.reduceToNat]
  exact ⟨_, rfl, rfl, by (repeat' (first|assumption|exact mAx _|refine mBx ?_ ?_|exact mCx (by assumption)|refine mDx ?_|refine mEx ?_ ?_ ?_|exact mFx|refine mGx ?_ ?_ ?_|exact mHx|exact mIx _|(simp only [wM,Nat.reduceAdd,Nat.reduceLT,Nat.reduceLeDiff];done)))⟩

theorem Route_perm (n r m : Nat) (a : AV) (ps : List Int) (h : Hp) (hk : Hok h) (hc : Clos n r m) (hw : n * r ≤ 12) (ha : Ints h.blks .i64 a ps) (hz : ps.length ≤ 1000) (hp : ¬ PermI (n * r : Nat) ps) :
    Evals Tryd.prog tab false (.func 20) [.int .i64 n, .int .i64 r, .int .i64 m, a] h (.tu [.nilsl, .int .i64 2], h) := by
  refine evals_pure c20 rfl hk ?_
  simp only [sf20, initS_cons, initS_nil]
  have e : (n : Int) * (r : Int) = ((n * r : Nat) : Int) := by simp
  simp (disch := first|(simp only [Nat.reduceBEq,wE];done)|((repeat' (first|assumption|exact mAx _|refine mBx ?_ ?_|exact mCx (by assumption)|refine mDx ?_|refine mEx ?_ ?_ ?_|exact mFx|refine mGx ?_ ?_ ?_|exact mHx|exact mIx _|(simp only [wM,Nat.reduceAdd,Nat.reduceLT,Nat.reduceLeDiff];done)));done)|omega|decide) only [callT (f15 n r m h.en hk), decide_eq_true hc, e, callT (f30 a ps (n * r) h.en hk ha (by omega) (by omega)), decide_eq_false hp, ↓wA,wB,wL,resOf,Nat.reduceBEq,Int.reduceBEq,Int.reduceBNe,Int.reduceLT,Int.reduceLE,Int.reduceAdd,Int.reduceSub,Int.reduceMul,Int.reduceToNat]
  exact ⟨_, rfl, rfl, by (repeat' (first|assumption|exact mAx _|refine mBx ?_ ?_|exact mCx (by assumption)|refine mDx ?_|refine mEx ?_ ?_ ?_|exact mFx|refine mGx ?_ ?_ ?_|exact mHx|exact mIx _|(simp only [wM,Nat.reduceAdd,Nat.reduceLT,Nat.reduceLeDiff];done)))⟩

theorem Route_none (n r m : Nat) (a : AV) (ps : List Int) (h : Hp) (hk : Hok h) (hc : Clos n r m) (hw : n * r ≤ 12) (ha : Ints h.blks .i64 a ps) (hz : ps.length ≤ 1000) (hp : PermI (n * r : Nat) ps) (hm : m < n) :
    Evals Tryd.prog tab false (.func 20) [.int .i64 n, .int .i64 r, .int .i64 m, a] h (.tu [.nilsl, .int .i64 5], h) := by
  refine evals_pure c20 rfl hk ?_
  simp only [sf20, initS_cons, initS_nil]
  have e : (n : Int) * (r : Int) = ((n * r : Nat) : Int) := by simp
  have e2 : decide ((m : Int) < n) = true := decide_eq_true (by omega)
  simp (disch := first|(simp only [Nat.reduceBEq,wE];done)|((repeat' (first|assumption|exact mAx _|refine mBx ?_ ?_|exact mCx (by assumption)|refine mDx ?_|refine mEx ?_ ?_ ?_|exact mFx|refine mGx ?_ ?_ ?_|exact mHx|exact mIx _|(simp only [wM,Nat.reduceAdd,Nat.reduceLT,Nat.reduceLeDiff];done)));done)|omega|decide) only [callT (f15 n r m h.en hk), decide_eq_true hc, e, callT (f30 a ps (n * r) h.en hk ha (by omega) (by omega)), decide_eq_true hp, e2, ↓wA,wB,wL,resOf,Nat.reduceBEq,Int.reduceBEq,Int.reduceBNe,Int.reduceLT,Int.reduceLE,Int.reduceAdd,Int.reduceSub,Int.reduceMul,Int.reduceToNat]
  exact ⟨_, rfl, rfl, by (repeat' (first|assumption|exact mAx _|refine mBx ?_ ?_|exact mCx (by assumption)|refine mDx ?_|refine mEx ?_ ?_ ?_|exact mFx|refine mGx ?_ ?_ ?_|exact mHx|exact mIx _|(simp only [wM,Nat.reduceAdd,Nat.reduceLT,Nat.reduceLeDiff];done)))⟩

theorem Route_ok (n r m : Nat) (a : AV) (ps : List Int) (h : Hp) (hk : Hok h) (hc : Clos n r m) (hn : 0 < n ∧ n ≤ 12) (hw : n * r ≤ 12) (hm' : m ≤ 12) (ha : Ints h.blks .i64 a ps) (hz : ps.length ≤ 1000) (hp : PermI (n * r : Nat) ps) (hm : n ≤ m) :
    ∃ v h', Evals Tryd.prog tab false (.func 20) [.int .i64 n, .int .i64 r, .int .i64 m, a] h (v, h') ∧ Grown h h' ∧ ∃ t ys, v = .tu [t, .int .i64 0] ∧ ext (edgs n ps) m (edgs n ps).length [] = some ys ∧ Prp (edgs n ps) ys ∧ ys.length = ps.length ∧ (∀ z ∈ ys, 0 ≤ z ∧ z < (m : Int)) ∧ Own h.next h'.blks .i64 t ys ∧ t ≠ .nilsl := by
  obtain ⟨ys, y1, y2, y3, y4⟩ := route_ex (n := n) (m := m) hn.1 hp.2.2 hm
  refine evals_q c20 (fun v h' => ∃ t ys, v = .tu [t, .int .i64 0] ∧ ext (edgs n ps) m (edgs n ps).length [] = some ys ∧ Prp (edgs n ps) ys ∧ ys.length = ps.length ∧ (∀ z ∈ ys, 0 ≤ z ∧ z < (m : Int)) ∧ Own h.next h'.blks .i64 t ys ∧ t ≠ .nilsl) rfl hk ?_ (fun v h1 g q => by
    obtain ⟨t, ys, rfl, q1, q2, q3, q4, q5, q6⟩ := q
    refine ⟨fun r => ⟨t, ys, rfl, q1, q2, q3, q4, q5.leave.1 ?_, q6⟩, fun r => ⟨t, ys, rfl, q1, q2, q3, q4, q5, q6⟩⟩
    simp only [refOK, refsOK_cons, Bool.and_eq_true] at r
    exact r.1)
  simp only [sf20, initS_cons, initS_nil]
  have e : (n : Int) * (r : Int) = ((n * r : Nat) : Int) := by simp
  have e2 : decide ((m : Int) < n) = false := decide_eq_false (by omega)
  obtain ⟨v, h1, ev, g1, o1⟩ := f32 n a ps h.en hk (by omega) ha hz (hp.bd (by omega))
  obtain ⟨t, h2, et, g2, o2⟩ := f31 v (edgs n ps) m h1 (g1.ok hk) o1.pairs (by rw [edgs_len]; omega) (by omega)
  have q := o2.hd
  rw [y1] at q
  simp (disch := first|(simp only [Nat.reduceBEq,wE];done)|((repeat' (first|assumption|exact mAx _|refine mBx ?_ ?_|exact mCx (by assumption)|refine mDx ?_|refine mEx ?_ ?_ ?_|exact mFx|refine mGx ?_ ?_ ?_|exact mHx|exact mIx _|(simp only [wM,Nat.reduceAdd,Nat.reduceLT,Nat.reduceLeDiff];done)));done)|omega|decide) only [callT (f15 n r m h.en hk), decide_eq_true hc, e, callT (f30 a ps (n * r) h.en hk ha (by omega) (by omega)), decide_eq_true hp, e2, callT ev, callT et, ↓wA,wB,wL,resOf,Nat.reduceBEq,Int.reduceBEq,Int.reduceBNe,Int.reduceLT,Int.reduceLE,Int.reduceAdd,Int.reduceSub,Int.reduceMul,Int.reduceToNat]
  exact ⟨_, rfl, GrownR.of_en (GrownR.trans g1 g2), t, ys, rfl, y1, y2, y3, y4, q.1.le g1.next, q.2⟩

end Go.Proofs.YtpfkmdbdafpadaaDoor
