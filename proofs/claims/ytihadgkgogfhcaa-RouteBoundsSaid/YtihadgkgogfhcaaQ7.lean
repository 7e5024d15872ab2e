/- Copies of slices; graphs that the laws make; the cuts of an order, and its other end. -/
import Derived.Test.YtihadgkgogfhcaaQ5
import Derived.Test.YtihadgkgogfhcaaQ6
set_option linter.unusedSimpArgs false
set_option linter.unusedVariables false
set_option maxHeartbeats 4000000
set_option maxRecDepth 20000
namespace Go.Ro
open Go.Abs Go.Pa
/- A graph out of pairs of bytes. -/
def mdE (k : Nat) (p : Int × Int) : Int × Int := (p.1 % k, (p.1 % k + 1 + p.2 % ((k : Int) - 1)) % k)
def mdG (k : Nat) (l : List (Int × Int)) : List (Int × Int) := if 1 < k then (l.take 20).map (mdE k) else []
theorem mdG_len {k : Nat} {l : List (Int × Int)} : (mdG k l).length ≤ 20 := by
  unfold mdG
  split
  · simp; omega
  · simp
theorem mdE_ok {k : Nat} (h1 : 1 < k) (h8 : k ≤ 8) (p : Int × Int) (hp : 0 ≤ p.1 ∧ 0 ≤ p.2) : (0 ≤ (mdE k p).1 ∧ (mdE k p).1 < k) ∧ (0 ≤ (mdE k p).2 ∧ (mdE k p).2 < k) ∧ (mdE k p).1 ≠ (mdE k p).2 := by
  unfold mdE
  rcases small (by omega : 0 < k) h8 with rfl | rfl | rfl | rfl | rfl | rfl | rfl | rfl <;> simp <;> omega
theorem mdG_ok {k : Nat} {l : List (Int × Int)} (h8 : k ≤ 8) (hb : ∀ p ∈ l, 0 ≤ p.1 ∧ p.1 ≤ 255 ∧ 0 ≤ p.2 ∧ p.2 ≤ 255) : EdgeOK k (mdG k l) := fun e he => by
  unfold mdG at he
  split at he
  · rename_i h1
    obtain ⟨p, hp, rfl⟩ := List.mem_map.1 he
    have := hb p (List.mem_of_mem_take hp)
    exact mdE_ok h1 h8 p ⟨this.1, this.2.2.1⟩
  · cases he
/- A list while it is turned. -/
def rvF (zs : List Int) (i k : Nat) : Int := if k < i ∨ zs.length ≤ k + i then zs.getD (zs.length - 1 - k) 0 else zs.getD k 0
def rvL (zs : List Int) (i : Nat) : List Int := tabF zs.length (rvF zs i)
theorem rvL_len {zs : List Int} {i : Nat} : (rvL zs i).length = zs.length := tabF_len
theorem rvL_zero {zs : List Int} : rvL zs 0 = zs := by
  refine List.ext_getElem rvL_len fun k h1 h2 => ?_
  rw [← getD_at h1, ← getD_at h2]
  unfold rvL
  rw [tabF_at h2, rvF, if_neg (by omega)]
theorem rvL_end {zs : List Int} {i : Nat} (h : zs.length ≤ 2 * i + 1) : rvL zs i = zs.reverse := by
  refine List.ext_getElem (by rw [rvL_len, List.length_reverse]) fun k h1 h2 => ?_
  rw [List.length_reverse] at h2
  rw [List.getElem_reverse, ← getD_at h1, ← getD_at (by omega)]
  unfold rvL
  rw [tabF_at h2, rvF]
  by_cases hk : k < i ∨ zs.length ≤ k + i
  · rw [if_pos hk]
  · rw [if_neg hk]
    congr 1
    omega
theorem rvL_step {zs : List Int} {i : Nat} (h : 2 * i + 1 < zs.length) : ((rvL zs i).set i ((rvL zs i).getD (zs.length - 1 - i) 0)).set (zs.length - 1 - i) ((rvL zs i).getD i 0) = rvL zs (i + 1) := by
  unfold rvL
  rw [tabF_at (by omega), tabF_at (by omega), tabF_set (by omega), tabF_set (by omega)]
  refine tabF_congr fun k hk => ?_
  simp only [rvF]
  by_cases e1 : k = zs.length - 1 - i
  · rw [if_pos e1, if_neg (by omega), if_pos (by omega)]
    congr 1
    omega
  · rw [if_neg e1]
    by_cases e2 : k = i
    · rw [if_pos e2, if_neg (by omega), if_pos (by omega)]
      congr 1
      omega
    · rw [if_neg e2]
      by_cases e3 : k < i ∨ zs.length ≤ k + i
      · rw [if_pos e3, if_pos (by omega)]
      · rw [if_neg e3, if_neg (by omega)]
end Go.Ro
namespace Go.Proofs.Ytihadgkgogfhcaa
open Go Go.Abs Go.Pa Go.Ro

theorem f42 (a : AV) (zs : List Int) (h : Hp) (hk : Hok h) (ha : Ints h.blks .i64 a zs) (hz : zs.length ≤ 1000) (hne : sBin .eql .slice a .nilsl = some (.bool false)) :
    ∃ v h', Evals Try.prog tab false (.func 42) [a] h (v, h') ∧ Grown h h' ∧ Own h.next h'.blks .i64 v zs ∧ (0 < zs.length → v ≠ .nilsl) := by
  refine evals_q c42 (fun v h' => Own h.next h'.blks .i64 v zs ∧ (0 < zs.length → v ≠ .nilsl)) rfl hk ?_ (fun v h1 g q => ⟨fun hr => ⟨q.1.leave.1 hr, q.2⟩, fun hr => ⟨q.1.leave.2 hr, q.2⟩⟩)
  simp only [sf42, initS_cons, initS_nil]
  have ab : Ints (h.en.pu []).blks .i64 a zs := ha.sub (Sub.pu (h := h.en) hk)
  have O : Own h.next (h.en.pu []).blks .i64 (.sl h.next 0 0 (some 0) 1) [] := Own.fresh (Nat.le_refl _) rfl rfl rfl (Nat.le_refl _)
  obtain ⟨s', h', e, o, g, n⟩ := own_appI (h0 := h) (h := h.en.pu []) hk (Grown.pu Grown.en rfl) O ab (by simp; omega)
  simp (disch := first|(simp only [Nat.reduceBEq,wE];done)|((repeat' (first|assumption|exact mAx _|refine mBx ?_ ?_|exact mCx (by assumption)|refine mDx ?_|refine mEx ?_ ?_ ?_|exact mFx|refine mGx ?_ ?_ ?_|exact mHx|exact mIx _|(simp only [wM,Nat.reduceAdd,Nat.reduceLT,Nat.reduceLeDiff];done)));done)|omega|decide) only [hne, e, ↓wA,wB,wL,resOf,Nat.reduceBEq,Int.reduceBEq,Int.reduceBNe,Int.reduceLT,Int.reduceLE,Int.reduceAdd,Int.reduceSub,Int.reduceMul,Int.reduceToNat]
  exact ⟨_, rfl, g, by simpa using o, n⟩
theorem ints_ne {bs : List (Nat × Blk)} {a : AV} {zs : List Int} (ha : Ints bs .i64 a zs) (h0 : 0 < zs.length) : sBin .eql .slice a .nilsl = some (.bool false) := by
  obtain ⟨hl, ⟨h1, _⟩ | ⟨id, off, cap, rfl, _⟩⟩ := ha
  · omega
  · rfl

theorem f15 (a : AV) (zs : List Int) (h : Hp) (hk : Hok h) (ha : Ints h.blks .i64 a zs) (hz : zs.length < 2 ^ 63) :
    ∃ v h', Evals Try.prog tab false (.func 15) [a] h (v, h') ∧ Grown h h' ∧ Own h.next h'.blks .i64 v (zs.take 9) := by
  refine evals_q c15 (fun v h' => Own h.next h'.blks .i64 v (zs.take 9)) rfl hk ?_ (fun v h1 g q => q.leave)
  simp only [sf15, initS_cons, initS_nil]
  have k1 : Hok (h.en.pu []) := Hok.pu hk rfl
  have a1 : Ints (h.en.pu []).blks .i64 a zs := ha.sub (Sub.pu (h := h.en) hk)
  obtain ⟨a', ea, ia⟩ := a1.upto (m := min zs.length 9) (by omega) (h.en.pu [])
  have em : min (zs.length : Int) 9 = ((min zs.length 9 : Nat) : Int) := by omega
  have et : zs.take (min zs.length 9) = zs.take 9 := by
    by_cases h : zs.length ≤ 9
    · rw [List.take_of_length_le h, List.take_of_length_le (by omega)]
    · rw [show min zs.length 9 = 9 by omega]
  rw [et] at ia
  have O : Own h.next (h.en.pu []).blks .i64 (.sl h.next 0 0 (some 0) 1) [] := Own.fresh (Nat.le_refl _) rfl rfl rfl (Nat.le_refl _)
  obtain ⟨s1, h2, e2, o2, g2, _⟩ := own_appI (h0 := h) (h := h.en.pu []) hk (Grown.pu Grown.en rfl) O ia (by rw [List.length_nil]; simp; omega)
  rw [List.nil_append] at o2
  simp (disch := first|(simp only [Nat.reduceBEq,wE];done)|((repeat' (first|assumption|exact mAx _|refine mBx ?_ ?_|exact mCx (by assumption)|refine mDx ?_|refine mEx ?_ ?_ ?_|exact mFx|refine mGx ?_ ?_ ?_|exact mHx|exact mIx _|(simp only [wM,Nat.reduceAdd,Nat.reduceLT,Nat.reduceLeDiff];done)));done)|omega|decide) only [a1.len, em, ea, e2, ↓wA,wB,wL,resOf,Nat.reduceBEq,Int.reduceBEq,Int.reduceBNe,Int.reduceLT,Int.reduceLE,Int.reduceAdd,Int.reduceSub,Int.reduceMul,Int.reduceToNat]
  exact ⟨_, rfl, g2, o2⟩

theorem f14 (a : AV) (l : List (Int × Int)) (h : Hp) (hk : Hok h) (ha : Pairs h.blks a l) (hz : l.length < 2 ^ 63) :
    ∃ v h', Evals Try.prog tab false (.func 14) [a] h (v, h') ∧ Grown h h' ∧ OwnP h.next h'.blks v (l.take 31) := by
  refine evals_q c14 (fun v h' => OwnP h.next h'.blks v (l.take 31)) rfl hk ?_ (fun v h1 g q => q.leave)
  simp only [sf14, initS_cons, initS_nil]
  have k1 : Hok (h.en.pu []) := Hok.pu hk rfl
  have a1 : Pairs (h.en.pu []).blks a l := ha.sub (Sub.pu (h := h.en) hk)
  obtain ⟨a', ea, ia⟩ := Arr.upto a1 (m := min l.length 31) (by omega) (h.en.pu [])
  have em : min (l.length : Int) 31 = ((min l.length 31 : Nat) : Int) := by omega
  have et : l.take (min l.length 31) = l.take 31 := by
    by_cases h : l.length ≤ 31
    · rw [List.take_of_length_le h, List.take_of_length_le (by omega)]
    · rw [show min l.length 31 = 31 by omega]
  rw [pairs_take, et] at ia
  have ia' : Pairs (h.en.pu []).blks a' (l.take 31) := by
    unfold Pairs
    rw [← et, List.length_take, Nat.min_eq_left (by omega), et]
    exact ia
  have O : OwnP h.next (h.en.pu []).blks (.sl h.next 0 0 (some 0) 2) [] := OwnP.fresh (Nat.le_refl _) rfl rfl rfl (Nat.le_refl _)
  obtain ⟨s1, h2, e2, o2, g2, _⟩ := own_appP (h0 := h) (h := h.en.pu []) hk (Grown.pu Grown.en rfl) O ia' (by rw [List.length_nil]; simp; omega)
  rw [List.nil_append] at o2
  simp (disch := first|(simp only [Nat.reduceBEq,wE];done)|((repeat' (first|assumption|exact mAx _|refine mBx ?_ ?_|exact mCx (by assumption)|refine mDx ?_|refine mEx ?_ ?_ ?_|exact mFx|refine mGx ?_ ?_ ?_|exact mHx|exact mIx _|(simp only [wM,Nat.reduceAdd,Nat.reduceLT,Nat.reduceLeDiff];done)));done)|omega|decide) only [a1.len, em, ea, e2, ↓wA,wB,wL,resOf,Nat.reduceBEq,Int.reduceBEq,Int.reduceBNe,Int.reduceLT,Int.reduceLE,Int.reduceAdd,Int.reduceSub,Int.reduceMul,Int.reduceToNat]
  exact ⟨_, rfl, g2, o2⟩

theorem f31 (a : AV) (zs : List Int) (h : Hp) (hk : Hok h) (ha : Ints h.blks .i64 a zs) (hz : zs.length ≤ 1000) :
    ∃ v h', Evals Try.prog tab false (.func 31) [a] h (v, h') ∧ Grown h h' ∧ Own h.next h'.blks .i64 v zs.reverse := by
  refine evals_q c31 (fun v h' => Own h.next h'.blks .i64 v zs.reverse) rfl hk ?_ (fun v h1 g q => q.leave)
  simp only [sf31, initS_cons, initS_nil]
  have a1 : Ints (h.en.pu []).blks .i64 a zs := ha.sub (Sub.pu (h := h.en) hk)
  have O : Own h.next (h.en.pu []).blks .i64 (.sl h.next 0 0 (some 0) 1) [] := Own.fresh (Nat.le_refl _) rfl rfl rfl (Nat.le_refl _)
  simp (disch := first|(simp only [Nat.reduceBEq,wE];done)|((repeat' (first|assumption|exact mAx _|refine mBx ?_ ?_|exact mCx (by assumption)|refine mDx ?_|refine mEx ?_ ?_ ?_|exact mFx|refine mGx ?_ ?_ ?_|exact mHx|exact mIx _|(simp only [wM,Nat.reduceAdd,Nat.reduceLT,Nat.reduceLeDiff];done)));done)|omega|decide) only [a1.len, ↓wA,wB,wL,resOf,Nat.reduceBEq,Int.reduceBEq,Int.reduceBNe,Int.reduceLT,Int.reduceLE,Int.reduceAdd,Int.reduceSub,Int.reduceMul,Int.reduceToNat]
  refine wloop (fun mm ss => ∃ (i : Nat) (q : AV) (h1 : Hp) (j : Int) (u2 u10 : AV), (mm = zs.length - i) ∧ (j = (zs.length : Int) - 1 - i ∧ i ≤ zs.length ∧ Grown h h1 ∧ Own h.next h1.blks .i64 q (zs.reverse.take i)) ∧ ss = { fr := [(0, a), (2, u2), (3, q), (4, .int .i64 j), (10, u10)], hp := h1 }) (zs.length) ?_ ?_
  ·
    refine ⟨0, _, _, _, _, _, by omega, ⟨by omega, by omega, Grown.pu Grown.en rfl, by simpa using O⟩, rfl⟩
  rintro nA sA ⟨i, q, h1, j, u2, u10, hnA, ⟨hj, hi, g1, o1⟩, rfl⟩
  subst hj
  have k1 := g1.ok hk
  have a2 := ha.sub (g1.sub hk)
  by_cases e : i < zs.length
  · have et : decide ((0 : Int) ≤ (zs.length : Int) - 1 - i) = true := decide_eq_true (by omega)
    have ei : (zs.length : Int) - 1 - i = ((zs.length - 1 - i : Nat) : Int) := by omega
    have en : (zs.length : Int) - 1 - i - 1 = (zs.length : Int) - 1 - (i + 1 : Nat) := by omega
    have ix : idx? (.int .i64 ((zs.length : Int) - 1 - i)) = some (zs.length - 1 - i) := by rw [ei]; exact idx?_nat
    obtain ⟨s2, h2, y1, y2, y3, y4⟩ := own_app1 (v := zs.getD (zs.length - 1 - i) 0) hk g1 o1 (by simp; omega)
    simp (disch := first|(simp only [Nat.reduceBEq,wE];done)|((repeat' (first|assumption|exact mAx _|refine mBx ?_ ?_|exact mCx (by assumption)|refine mDx ?_|refine mEx ?_ ?_ ?_|exact mFx|refine mGx ?_ ?_ ?_|exact mHx|exact mIx _|(simp only [wM,Nat.reduceAdd,Nat.reduceLT,Nat.reduceLeDiff];done)));done)|omega|decide) only [et, ix, a2.ix, a2.ld, y1, en, ↓wA,wB,wL,resOf,Nat.reduceBEq,Int.reduceBEq,Int.reduceBNe,Int.reduceLT,Int.reduceLE,Int.reduceAdd,Int.reduceSub,Int.reduceMul,Int.reduceToNat]
    refine ⟨_, ?_, i + 1, s2, h2, _, _, _, rfl, ?_, rfl⟩
    · omega
    refine ⟨rfl, by omega, y3, ?_⟩
    rw [List.take_succ_eq_append_getElem (by rw [List.length_reverse]; exact e), List.getElem_reverse, ← getD_at (by omega)]
    exact y2
  · have et : decide ((0 : Int) ≤ (zs.length : Int) - 1 - i) = false := decide_eq_false (by omega)
    simp (disch := first|(simp only [Nat.reduceBEq,wE];done)|((repeat' (first|assumption|exact mAx _|refine mBx ?_ ?_|exact mCx (by assumption)|refine mDx ?_|refine mEx ?_ ?_ ?_|exact mFx|refine mGx ?_ ?_ ?_|exact mHx|exact mIx _|(simp only [wM,Nat.reduceAdd,Nat.reduceLT,Nat.reduceLeDiff];done)));done)|omega|decide) only [et, ↓wA,wB,wL,resOf,Nat.reduceBEq,Int.reduceBEq,Int.reduceBNe,Int.reduceLT,Int.reduceLE,Int.reduceAdd,Int.reduceSub,Int.reduceMul,Int.reduceToNat]
    refine ⟨_, rfl, g1, ?_⟩
    rw [List.take_of_length_le (by rw [List.length_reverse]; omega)] at o1
    exact o1

theorem f33 (x m : Nat) (a : AV) (l : List (Int × Int)) (h : Hp) (hk : Hok h) (hx : x ≤ 255) (hm : 0 < m ∧ m ≤ 8) (ha : Pairs8 h.blks a l) (hb : ∀ p ∈ l, 0 ≤ p.1 ∧ p.1 ≤ 255 ∧ 0 ≤ p.2 ∧ p.2 ≤ 255) (hl : l.length < 2 ^ 63) :
    ∃ v h', Evals Try.prog tab false (.func 33) [.int .u8 x, a, .int .i64 m] h (v, h') ∧ Grown h h' ∧ ∃ t, v = .tu [.int .i64 (x % m + 1 : Nat), t] ∧ OwnP h.next h'.blks t (mdG (x % m + 1) l) := by
  refine evals_q c33 (fun v h' => ∃ t, v = .tu [.int .i64 (x % m + 1 : Nat), t] ∧ OwnP h.next h'.blks t (mdG (x % m + 1) l)) rfl hk ?_ (fun v h1 g q => by
    obtain ⟨t, rfl, q⟩ := q
    refine ⟨fun r => ⟨t, rfl, q.leave.1 ?_⟩, fun r => ⟨t, rfl, q⟩⟩
    simp only [refOK, refsOK_cons, Bool.and_eq_true] at r
    exact r.2.1)
  simp only [sf33, initS_cons, initS_nil]
  have w : IntKind.wrap .i64 (x : Int) = x := wrap_i64 (by omega) (by omega)
  have rm : sBin .rem .no (.int .i64 (x : Int)) (.int .i64 (m : Int)) = some (.int .i64 ((x % m : Nat) : Int)) := by
    rw [sBin_rem (by omega) (by omega)]; rfl
  obtain ⟨k, ek⟩ : ∃ k, k = x % m + 1 := ⟨_, rfl⟩
  have hr : x % m < m := Nat.mod_lt _ hm.1
  have k8 : k ≤ 8 := by omega
  have ad : ((x % m : Nat) : Int) + 1 = (k : Int) := by omega
  rw [← ek]
  have O : OwnP h.next (h.en.pu []).blks (.sl h.next 0 0 (some 0) 2) [] := OwnP.fresh (Nat.le_refl _) rfl rfl rfl (Nat.le_refl _)
  simp (disch := first|(simp only [Nat.reduceBEq,wE];done)|((repeat' (first|assumption|exact mAx _|refine mBx ?_ ?_|exact mCx (by assumption)|refine mDx ?_|refine mEx ?_ ?_ ?_|exact mFx|refine mGx ?_ ?_ ?_|exact mHx|exact mIx _|(simp only [wM,Nat.reduceAdd,Nat.reduceLT,Nat.reduceLeDiff];done)));done)|omega|decide) only [w, rm, ad, ↓wA,wB,wL,resOf,Nat.reduceBEq,Int.reduceBEq,Int.reduceBNe,Int.reduceLT,Int.reduceLE,Int.reduceAdd,Int.reduceSub,Int.reduceMul,Int.reduceToNat]
  refine wloop (fun mm ss => ∃ (i : Nat) (q : AV) (h1 : Hp) (u6 u7 u11 u29 : AV), (mm = 20 - i) ∧ (i ≤ 20 ∧ i ≤ l.length ∧ (i ≠ 0 → 1 < k) ∧ Grown h h1 ∧ OwnP h.next h1.blks q ((l.take i).map (mdE k))) ∧ ss = { fr := [(0, .int .u8 x), (1, a), (2, .int .i64 m), (6, u6), (7, u7), (8, .int .i64 k), (9, q), (10, .int .i64 i), (11, u11), (29, u29)], hp := h1 }) (20) ?_ ?_
  ·
    refine ⟨0, _, _, _, _, _, _, by omega, ⟨by omega, by omega, fun h => absurd rfl h, Grown.pu Grown.en rfl, by simpa using O⟩, rfl⟩
  rintro nA sA ⟨i, q, h1, u6, u7, u11, u29, hnA, ⟨hi, hi2, hi3, g1, o1⟩, rfl⟩
  have k1 := g1.ok hk
  have a1 := ha.sub (g1.sub hk)
  by_cases e : i < l.length
  · have e1 : decide ((i : Int) < (l.length : Int)) = true := decide_eq_true (by omega)
    by_cases e2 : i < 20
    · have e2t : decide ((i : Int) < 20) = true := decide_eq_true (by omega)
      by_cases e3 : 1 < k
      · have e3t : decide ((1 : Int) < k) = true := decide_eq_true (by omega)
        have ge : l.getD i (0, 0) = l[i] := by simp [List.getD_eq_getElem?_getD, List.getElem?_eq_getElem e]
        have bd := hb _ (List.getElem_mem e)
        rw [← ge] at bd
        have w1 : IntKind.wrap .i64 (l.getD i (0, 0)).1 = (l.getD i (0, 0)).1 := wrap_i64 (by omega) (by omega)
        have w2 : IntKind.wrap .i64 (l.getD i (0, 0)).2 = (l.getD i (0, 0)).2 := wrap_i64 (by omega) (by omega)
        have m1 : 0 ≤ (l.getD i (0, 0)).1 % (k : Int) ∧ (l.getD i (0, 0)).1 % (k : Int) < k := ⟨Int.emod_nonneg _ (by omega), Int.emod_lt_of_pos _ (by omega)⟩
        have m2 : 0 ≤ (l.getD i (0, 0)).2 % ((k : Int) - 1) ∧ (l.getD i (0, 0)).2 % ((k : Int) - 1) < (k : Int) - 1 := ⟨Int.emod_nonneg _ (by omega), Int.emod_lt_of_pos _ (by omega)⟩
        have r1 : ∀ c, sBin .rem c (.int .i64 (l.getD i (0, 0)).1) (.int .i64 k) = some (.int .i64 ((l.getD i (0, 0)).1 % k)) := fun c => sBin_rem bd.1 (by omega)
        have r2 : ∀ c, sBin .rem c (.int .i64 (l.getD i (0, 0)).2) (.int .i64 ((k : Int) - 1)) = some (.int .i64 ((l.getD i (0, 0)).2 % ((k : Int) - 1))) := fun c => sBin_rem bd.2.2.1 (by omega)
        have r3 : ∀ c, sBin .rem c (.int .i64 ((l.getD i (0, 0)).1 % k + 1 + (l.getD i (0, 0)).2 % ((k : Int) - 1))) (.int .i64 k) = some (.int .i64 (((l.getD i (0, 0)).1 % k + 1 + (l.getD i (0, 0)).2 % ((k : Int) - 1)) % k)) := fun c => sBin_rem (by omega) (by omega)
        have ix0 : ∀ h', sIxA 2 1 h' (some 0) (cellAt a i) = some (cellF a i 0, h') := fun h' => a1.ixA h' e (by omega)
        have ix1 : ∀ h', sIxA 2 1 h' (some 1) (cellAt a i) = some (cellF a i 1, h') := fun h' => a1.ixA h' e (by omega)
        obtain ⟨s2, h2, y1, y2, y3, y4⟩ := own_appP1 (a := (mdE k (l.getD i (0, 0))).1) (b := (mdE k (l.getD i (0, 0))).2) hk g1 o1 (by simp; omega)
        simp only [mdE] at y1
        simp (disch := first|(simp only [Nat.reduceBEq,wE];done)|((repeat' (first|assumption|exact mAx _|refine mBx ?_ ?_|exact mCx (by assumption)|refine mDx ?_|refine mEx ?_ ?_ ?_|exact mFx|refine mGx ?_ ?_ ?_|exact mHx|exact mIx _|(simp only [wM,Nat.reduceAdd,Nat.reduceLT,Nat.reduceLeDiff];done)));done)|omega|decide) only [a1.len, e1, e2t, e3t, a1.ix, ix0, ix1, idx?_lit0, idx?_lit1, a1.ld0, a1.ld1, w1, w2, r1, r2, r3, y1, ↓wA,wB,wL,resOf,Nat.reduceBEq,Int.reduceBEq,Int.reduceBNe,Int.reduceLT,Int.reduceLE,Int.reduceAdd,Int.reduceSub,Int.reduceMul,Int.reduceToNat]
        refine ⟨_, ?_, i + 1, s2, h2, _, _, _, _, rfl, ?_, rfl⟩
        · omega
        refine ⟨by omega, by omega, fun _ => e3, y3, ?_⟩
        rw [List.take_succ_eq_append_getElem e, List.map_append, ← ge]
        exact y2
      · have e3t : decide ((1 : Int) < k) = false := decide_eq_false (by omega)
        have i0 : i = 0 := Classical.byContradiction fun h => e3 (hi3 h)
        subst i0
        have e1' : decide ((0 : Int) < (l.length : Int)) = true := e1
        have e1'' : decide (((0 : Nat) : Int) < (l.length : Int)) = true := e1
        simp (disch := first|(simp only [Nat.reduceBEq,wE];done)|((repeat' (first|assumption|exact mAx _|refine mBx ?_ ?_|exact mCx (by assumption)|refine mDx ?_|refine mEx ?_ ?_ ?_|exact mFx|refine mGx ?_ ?_ ?_|exact mHx|exact mIx _|(simp only [wM,Nat.reduceAdd,Nat.reduceLT,Nat.reduceLeDiff];done)));done)|omega|decide) only [a1.len, e1', e1'', e2t, e3t, ↓wA,wB,wL,resOf,Nat.reduceBEq,Int.reduceBEq,Int.reduceBNe,Int.reduceLT,Int.reduceLE,Int.reduceAdd,Int.reduceSub,Int.reduceMul,Int.reduceToNat]
        refine ⟨_, rfl, g1, _, rfl, ?_⟩
        rw [mdG, if_neg e3]
        exact o1
    · have e2t : decide ((i : Int) < 20) = false := decide_eq_false (by omega)
      have e3 : 1 < k := hi3 (by omega)
      simp (disch := first|(simp only [Nat.reduceBEq,wE];done)|((repeat' (first|assumption|exact mAx _|refine mBx ?_ ?_|exact mCx (by assumption)|refine mDx ?_|refine mEx ?_ ?_ ?_|exact mFx|refine mGx ?_ ?_ ?_|exact mHx|exact mIx _|(simp only [wM,Nat.reduceAdd,Nat.reduceLT,Nat.reduceLeDiff];done)));done)|omega|decide) only [a1.len, e1, e2t, ↓wA,wB,wL,resOf,Nat.reduceBEq,Int.reduceBEq,Int.reduceBNe,Int.reduceLT,Int.reduceLE,Int.reduceAdd,Int.reduceSub,Int.reduceMul,Int.reduceToNat]
      refine ⟨_, rfl, g1, _, rfl, ?_⟩
      rw [mdG, if_pos e3, show 20 = i by omega]
      exact o1
  · have e1 : decide ((i : Int) < (l.length : Int)) = false := decide_eq_false (by omega)
    simp (disch := first|(simp only [Nat.reduceBEq,wE];done)|((repeat' (first|assumption|exact mAx _|refine mBx ?_ ?_|exact mCx (by assumption)|refine mDx ?_|refine mEx ?_ ?_ ?_|exact mFx|refine mGx ?_ ?_ ?_|exact mHx|exact mIx _|(simp only [wM,Nat.reduceAdd,Nat.reduceLT,Nat.reduceLeDiff];done)));done)|omega|decide) only [a1.len, e1, ↓wA,wB,wL,resOf,Nat.reduceBEq,Int.reduceBEq,Int.reduceBNe,Int.reduceLT,Int.reduceLE,Int.reduceAdd,Int.reduceSub,Int.reduceMul,Int.reduceToNat]
    refine ⟨_, rfl, g1, _, rfl, ?_⟩
    rw [List.take_of_length_le (by omega)] at o1
    by_cases e3 : 1 < k
    · rw [mdG, if_pos e3, List.take_of_length_le (by omega)]
      exact o1
    · have i0 : i = 0 := Classical.byContradiction fun h => e3 (hi3 h)
      have ln : l = [] := List.length_eq_zero_iff.1 (by omega)
      subst ln
      rw [mdG, if_neg e3]
      exact o1

theorem f56 (s : AV) (zs : List Int) (h0 h : Hp) (ho : Hok h0) (g : Grown h0 h) (O : Own h0.next h.blks .i64 s zs) (hz : zs.length ≤ 1000) :
    ∃ v h', Evals Try.prog tab false (.func 56) [s] h (v, h') ∧ (v = .tu [] ∧ Mut h h' ∧ Grown h0 h' ∧ Own h0.next h'.blks .i64 s zs.reverse) := by
  refine evals_mut c56 ho g (fun bs => Own h0.next bs .i64 s zs.reverse) rfl ?_
  simp only [sf56, initS_cons, initS_nil]
  simp (disch := first|(simp only [Nat.reduceBEq,wE];done)|((repeat' (first|assumption|exact mAx _|refine mBx ?_ ?_|exact mCx (by assumption)|refine mDx ?_|refine mEx ?_ ?_ ?_|exact mFx|refine mGx ?_ ?_ ?_|exact mHx|exact mIx _|(simp only [wM,Nat.reduceAdd,Nat.reduceLT,Nat.reduceLeDiff];done)));done)|omega|decide) only [O.len, ↓wA,wB,wL,resOf,Nat.reduceBEq,Int.reduceBEq,Int.reduceBNe,Int.reduceLT,Int.reduceLE,Int.reduceAdd,Int.reduceSub,Int.reduceMul,Int.reduceToNat]
  refine wloop (fun mm ss => ∃ (i : Nat) (h3 : Hp) (j : Int) (u9 : AV), (mm = zs.length - i) ∧ (j = (zs.length : Int) - 1 - i ∧ 2 * i ≤ zs.length + 1 ∧ Mut h h3 ∧ Grown h0 h3 ∧ Own h0.next h3.blks .i64 s (rvL zs i)) ∧ ss = { fr := [(0, s), (2, .int .i64 i), (3, .int .i64 j), (9, u9)], hp := h3 }) (zs.length) ?_ ?_
  ·
    refine ⟨0, h.en, _, _, by omega, ⟨by omega, by omega, Mut.en h, g, by rw [rvL_zero]; exact O⟩, rfl⟩
  rintro nA sA ⟨i, h3, j, u9, hnA, ⟨hj, hi, m3, g3, o3⟩, rfl⟩
  subst hj
  by_cases e : 2 * i + 1 < zs.length
  · have et : decide ((i : Int) < (zs.length : Int) - 1 - i) = true := decide_eq_true (by omega)
    have ei : (zs.length : Int) - 1 - i = ((zs.length - 1 - i : Nat) : Int) := by omega
    have en : (zs.length : Int) - 1 - i - 1 = (zs.length : Int) - 1 - (i + 1 : Nat) := by omega
    have ix : idx? (.int .i64 ((zs.length : Int) - 1 - i)) = some (zs.length - 1 - i) := by rw [ei]; exact idx?_nat
    have hl : (rvL zs i).length = zs.length := rvL_len
    obtain ⟨h4, e4, o4, g4⟩ := own_setI (v := (rvL zs i).getD (zs.length - 1 - i) 0) (i := i) ho g3 o3 (by omega)
    obtain ⟨h5, e5, o5, g5⟩ := own_setI (v := (rvL zs i).getD i 0) (i := zs.length - 1 - i) ho g4 o4 (by rw [List.length_set]; omega)
    rw [rvL_step e] at o5
    have m5 : Mut h h5 := m3.trans ((sStore_mut e4).trans (sStore_mut e5))
    have ixa := fun (i : Nat) (h' : Hp) (hi : i < zs.length) => o3.ints.ix h' (i := i) (by omega)
    have ld := fun (i : Nat) (hi : i < zs.length) => o3.ints.ld (Sub.refl _) (i := i) (by omega)
    simp (disch := first|(simp only [Nat.reduceBEq,wE];done)|((repeat' (first|assumption|exact mAx _|refine mBx ?_ ?_|exact mCx (by assumption)|refine mDx ?_|refine mEx ?_ ?_ ?_|exact mFx|refine mGx ?_ ?_ ?_|exact mHx|exact mIx _|(simp only [wM,Nat.reduceAdd,Nat.reduceLT,Nat.reduceLeDiff];done)));done)|omega|decide) only [et, ix, ixa, ld, e4, e5, en, ↓wA,wB,wL,resOf,Nat.reduceBEq,Int.reduceBEq,Int.reduceBNe,Int.reduceLT,Int.reduceLE,Int.reduceAdd,Int.reduceSub,Int.reduceMul,Int.reduceToNat]
    refine ⟨_, ?_, i + 1, h5, _, _, rfl, ?_, rfl⟩
    · omega
    exact ⟨rfl, by omega, m5, g5, o5⟩
  · have et : decide ((i : Int) < (zs.length : Int) - 1 - i) = false := decide_eq_false (by omega)
    simp (disch := first|(simp only [Nat.reduceBEq,wE];done)|((repeat' (first|assumption|exact mAx _|refine mBx ?_ ?_|exact mCx (by assumption)|refine mDx ?_|refine mEx ?_ ?_ ?_|exact mFx|refine mGx ?_ ?_ ?_|exact mHx|exact mIx _|(simp only [wM,Nat.reduceAdd,Nat.reduceLT,Nat.reduceLeDiff];done)));done)|omega|decide) only [et, ↓wA,wB,wL,resOf,Nat.reduceBEq,Int.reduceBEq,Int.reduceBNe,Int.reduceLT,Int.reduceLE,Int.reduceAdd,Int.reduceSub,Int.reduceMul,Int.reduceToNat]
    refine ⟨_, rfl, rfl, m3, g3, ?_⟩
    rw [rvL_end (by omega)] at o3
    exact o3
end Go.Proofs.Ytihadgkgogfhcaa
