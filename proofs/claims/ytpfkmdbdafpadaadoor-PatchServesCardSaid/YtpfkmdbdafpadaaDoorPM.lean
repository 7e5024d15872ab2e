/- Omega networks. -/
import Derived.Test.YtpfkmdbdafpadaaDoorPG
import Derived.Test.YtpfkmdbdafpadaaDoorKE
set_option linter.unusedSimpArgs false
set_option linter.unusedVariables false
set_option maxHeartbeats 4000000
set_option maxRecDepth 20000
namespace Go.Abs
def bls (l : List Bool) : List AV := l.map .bool
theorem bls_len {l : List Bool} : (bls l).length = l.length := by simp [bls]
theorem repl_bls {b : Bool} : ∀ n : Nat, repl [.bool b] n = bls (List.replicate n b)
  | 0 => rfl
  | n + 1 => by simp [repl, bls, repl_bls n, List.replicate_succ]
theorem refsOK_bls {n : Nat} {l : List Bool} : refsOK n (bls l) = true := refsOK_iff.2 fun a ha => by
  obtain ⟨b, _, rfl⟩ := List.mem_map.1 ha
  rfl
/-- A slice of truth values of one's own. -/
def OwnT (c : Nat) (bs : List (Nat × Blk)) (s : AV) (l : List Bool) : Prop := OwnA 1 c bs s l.length (bls l)
theorem OwnT.ix {c : Nat} {bs : List (Nat × Blk)} {s : AV} {l : List Bool} (O : OwnT c bs s l) {i : Nat} (h : Hp) (hi : i < l.length) : sIxS 1 h (some i) s = some (cellAt s i, h) := (OwnA.arr O).ix h hi
theorem OwnT.ld {c : Nat} {bs bs' : List (Nat × Blk)} {s : AV} {l : List Bool} (O : OwnT c bs s l) (t : Sub bs bs') {i : Nat} (hi : i < l.length) : cellV bs' s i 0 = some (.bool (l.getD i false)) := by
  rw [(OwnA.arr O).ld t hi (by omega)]
  simp [bls, List.getD_eq_getElem?_getD, List.getElem?_eq_getElem hi]
theorem own_setT {h0 h : Hp} {s : AV} {l : List Bool} {i : Nat} {b : Bool} (ho : Hok h0) (g : Grown h0 h) (O : OwnT h0.next h.blks s l) (hi : i < l.length) :
    ∃ h', sStore 1 h (.bool b) (cellAt s i) = some (.any, h') ∧ OwnT h0.next h'.blks s (l.set i b) ∧ Grown h0 h' := by
  obtain ⟨h', e, o, g'⟩ := own_set (v := .bool b) (vs := [.bool b]) ho g O hi rfl rfl rfl rfl
  refine ⟨h', e, ?_, g'⟩
  unfold OwnT
  have : splice (bls l) (i * 1) [.bool b] = bls (l.set i b) := by
    rw [Nat.mul_one]
    simp only [splice, bls, List.length_singleton, ← List.map_take, ← List.map_drop]
    rw [List.set_eq_take_append_cons_drop, if_pos hi]
    simp
  rw [List.length_set, ← this]
  exact o
def orI (a b : Int) : Int := IntKind.wrap .i64 ((BitVec.ofInt 64 a ||| BitVec.ofInt 64 b).toNat : Int)
theorem sBin_or {a b : Int} : sBin .or .no (.int .i64 a) (.int .i64 b) = some (.int .i64 (orI a b)) := (Eq.refl _).trans rfl
theorem sBin_shlN {a j : Nat} (hj : j ≤ 20) (ha : a * 2 ^ j ≤ 9223372036854775807) : sBin .shl .no (.int .i64 (a : Int)) (.int .i64 (j : Int)) = some (.int .i64 ((a * 2 ^ j : Nat) : Int)) := by
  have hm : min ((j : Int).toNat) IntKind.i64.bits = j := by rw [Int.toNat_natCast]; show min j 64 = j; omega
  simp only [sBin, abShift, hm]
  rw [if_neg (by omega)]
  have : (a : Int) * 2 ^ j = ((a * 2 ^ j : Nat) : Int) := by simp
  rw [this, wrap_i64 (by omega) (by omega)]
theorem sBin_shrN {a j : Nat} (hj : j ≤ 20) : sBin .shr .no (.int .i64 (a : Int)) (.int .i64 (j : Int)) = some (.int .i64 ((a / 2 ^ j : Nat) : Int)) := by
  have hm : min ((j : Int).toNat) IntKind.i64.bits = j := by rw [Int.toNat_natCast]; show min j 64 = j; omega
  simp only [sBin, abShift, hm]
  rw [if_neg (by omega), Int.fdiv_eq_ediv_of_nonneg _ (by have := Int.pow_pos (n := 2) (m := j) (by omega); omega)]
  simp
theorem sBin_shl1 {j : Nat} (hj : j ≤ 20) : sBin .shl .no (.int .i64 1) (.int .i64 (j : Int)) = some (.int .i64 ((2 ^ j : Nat) : Int)) := by
  have h2 : 2 ^ j ≤ 2 ^ 20 := Nat.pow_le_pow_right (by omega) hj
  have := sBin_shlN (a := 1) hj (by omega)
  rw [Nat.one_mul] at this
  exact this
end Go.Abs
namespace Go.Pa
open Go Go.Abs
def linB (k j s t : Nat) : Bool := decide (0 ≤ orI ((s * 2 ^ j : Nat) : Int) ((t / 2 ^ (k - j) : Nat) : Int)) && (decide (orI ((s * 2 ^ j : Nat) : Int) ((t / 2 ^ (k - j) : Nat) : Int) % ((2 ^ k : Nat) : Int) = ((lin k j s t : Nat) : Int)) && decide (lin k j s t < 2 ^ k))
def linC : Bool := (List.range 4).all fun k => (List.range 4).all fun j => (List.range 8).all fun s => (List.range 8).all fun t => !(decide (0 < j) && (decide (j ≤ k) && (decide (s < 2 ^ k) && decide (t < 2 ^ k)))) || linB k j s t
theorem linC_ok : linC = true := by decide +kernel
theorem lin_or (k : Nat) (h1 : k < 4) (j : Nat) (h2 : j < 4) (s : Nat) (h3 : s < 8) (t : Nat) (h4 : t < 8) (g1 : 0 < j) (g2 : j ≤ k) (g3 : s < 2 ^ k) (g4 : t < 2 ^ k) : 0 ≤ orI ((s * 2 ^ j : Nat) : Int) ((t / 2 ^ (k - j) : Nat) : Int) ∧ orI ((s * 2 ^ j : Nat) : Int) ((t / 2 ^ (k - j) : Nat) : Int) % ((2 ^ k : Nat) : Int) = ((lin k j s t : Nat) : Int) ∧ lin k j s t < 2 ^ k := by
  have c := linC_ok
  unfold linC at c
  have c1 := List.all_eq_true.1 c k (List.mem_range.2 h1)
  have c2 := List.all_eq_true.1 c1 j (List.mem_range.2 h2)
  have c3 := List.all_eq_true.1 c2 s (List.mem_range.2 h3)
  have c4 := List.all_eq_true.1 c3 t (List.mem_range.2 h4)
  rw [decide_eq_true g1, decide_eq_true g2, decide_eq_true g3, decide_eq_true g4] at c4
  simp only [Bool.and_self, Bool.not_true, Bool.false_or, linB, Bool.and_eq_true] at c4
  exact ⟨of_decide_eq_true c4.1, of_decide_eq_true c4.2.1, of_decide_eq_true c4.2.2⟩
/- A permutation's element. -/
def pnt (zs : List Int) (s : Nat) : Nat := (zs.getD s 0).toNat
def lnz (k j : Nat) (zs : List Int) (s : Nat) : Nat := lin k j s (pnt zs s)
def OmP (k : Nat) (zs : List Int) : Prop := ∀ j, j < k → Inj (lnz k (j + 1) zs) (2 ^ k)
instance (k : Nat) (zs : List Int) : Decidable (OmP k zs) := inferInstanceAs (Decidable (∀ j, j < k → Inj (lnz k (j + 1) zs) (2 ^ k)))
theorem pow8 {k : Nat} (h : k ≤ 3) : 2 ^ k ≤ 8 := by
  have : 2 ^ k ≤ 2 ^ 3 := Nat.pow_le_pow_right (by omega) h
  exact this
theorem PermI.pnt {w : Nat} {zs : List Int} (p : PermI w zs) {s : Nat} (hs : s < w) : zs.getD s 0 = ((pnt zs s : Nat) : Int) ∧ Go.Pa.pnt zs s < w := by
  have hl := p.1
  have h := p.2.1 _ (List.getElem_mem (show s < zs.length by omega))
  rw [← getD_at (show s < zs.length by omega)] at h
  unfold Go.Pa.pnt
  omega
end Go.Pa
namespace Go.Proofs.YtpfkmdbdafpadaaDoor
open Go Go.Abs Go.Pa

theorem Checked_arg (k g : Int) (a : AV) (h : Hp) (hk : Hok h) (hc : ¬ (1 ≤ k ∧ k ≤ g)) : Evals Tryd.prog tab false (.func 35) [.int .i64 k, .int .i64 g, a] h (.int .i64 1, h) := by
  refine evals_pure c35 rfl hk ?_
  simp only [sf35, initS_cons, initS_nil]
  simp (disch := first|(simp only [Nat.reduceBEq,wE];done)|((repeat' (first|assumption|exact mAx _|refine mBx ?_ ?_|exact mCx (by assumption)|refine mDx ?_|refine mEx ?_ ?_ ?_|exact mFx|refine mGx ?_ ?_ ?_|exact mHx|exact mIx _|(simp only [wM,Nat.reduceAdd,Nat.reduceLT,Nat.reduceLeDiff];done)));done)|omega|decide) only [callT (f26 _ _ _ _ _), decide_eq_false hc, ↓wA,wB,wL,resOf,Nat.reduceBEq,Int.reduceBEq,Int.reduceBNe,Int.reduceLT,Int.reduceLE,Int.reduceAdd,Int.reduceSub,Int.reduceMul,Int.reduceToNat]
  exact ⟨_, rfl, rfl, by (repeat' (first|assumption|exact mAx _|refine mBx ?_ ?_|exact mCx (by assumption)|refine mDx ?_|refine mEx ?_ ?_ ?_|exact mFx|refine mGx ?_ ?_ ?_|exact mHx|exact mIx _|(simp only [wM,Nat.reduceAdd,Nat.reduceLT,Nat.reduceLeDiff];done)))⟩
theorem Checked_form (k : Nat) (g : Int) (a : AV) (zs : List Int) (h : Hp) (hk : Hok h) (hc : 1 ≤ (k : Int) ∧ (k : Int) ≤ g) (k3 : k ≤ 3) (ha : Ints h.blks .i64 a zs) (hz : zs.length ≤ 1000) (hp : ¬ PermI (2 ^ k : Nat) zs) :
    Evals Tryd.prog tab false (.func 35) [.int .i64 k, .int .i64 g, a] h (.int .i64 2, h) := by
  refine evals_pure c35 rfl hk ?_
  simp only [sf35, initS_cons, initS_nil]
  have p8 := pow8 k3
  have s1 := sBin_shl1 (j := k) (by omega)
  simp (disch := first|(simp only [Nat.reduceBEq,wE];done)|((repeat' (first|assumption|exact mAx _|refine mBx ?_ ?_|exact mCx (by assumption)|refine mDx ?_|refine mEx ?_ ?_ ?_|exact mFx|refine mGx ?_ ?_ ?_|exact mHx|exact mIx _|(simp only [wM,Nat.reduceAdd,Nat.reduceLT,Nat.reduceLeDiff];done)));done)|omega|decide) only [callT (f26 _ _ _ _ _), decide_eq_true hc, s1, callT (f30 a zs (2 ^ k) h.en hk ha (by omega) (by omega)), decide_eq_false hp, ↓wA,wB,wL,resOf,Nat.reduceBEq,Int.reduceBEq,Int.reduceBNe,Int.reduceLT,Int.reduceLE,Int.reduceAdd,Int.reduceSub,Int.reduceMul,Int.reduceToNat]
  exact ⟨_, rfl, rfl, by (repeat' (first|assumption|exact mAx _|refine mBx ?_ ?_|exact mCx (by assumption)|refine mDx ?_|refine mEx ?_ ?_ ?_|exact mFx|refine mGx ?_ ?_ ?_|exact mHx|exact mIx _|(simp only [wM,Nat.reduceAdd,Nat.reduceLT,Nat.reduceLeDiff];done)))⟩
theorem Checked_ok (k : Nat) (g : Int) (a : AV) (zs : List Int) (h : Hp) (hk : Hok h) (hc : 1 ≤ (k : Int) ∧ (k : Int) ≤ g) (k3 : k ≤ 3) (ha : Ints h.blks .i64 a zs) (hz : zs.length ≤ 1000) (hp : PermI (2 ^ k : Nat) zs) :
    Evals Tryd.prog tab false (.func 35) [.int .i64 k, .int .i64 g, a] h (.int .i64 0, h) := by
  refine evals_pure c35 rfl hk ?_
  simp only [sf35, initS_cons, initS_nil]
  have p8 := pow8 k3
  have s1 := sBin_shl1 (j := k) (by omega)
  simp (disch := first|(simp only [Nat.reduceBEq,wE];done)|((repeat' (first|assumption|exact mAx _|refine mBx ?_ ?_|exact mCx (by assumption)|refine mDx ?_|refine mEx ?_ ?_ ?_|exact mFx|refine mGx ?_ ?_ ?_|exact mHx|exact mIx _|(simp only [wM,Nat.reduceAdd,Nat.reduceLT,Nat.reduceLeDiff];done)));done)|omega|decide) only [callT (f26 _ _ _ _ _), decide_eq_true hc, s1, callT (f30 a zs (2 ^ k) h.en hk ha (by omega) (by omega)), decide_eq_true hp, ↓wA,wB,wL,resOf,Nat.reduceBEq,Int.reduceBEq,Int.reduceBNe,Int.reduceLT,Int.reduceLE,Int.reduceAdd,Int.reduceSub,Int.reduceMul,Int.reduceToNat]
  exact ⟨_, rfl, rfl, by (repeat' (first|assumption|exact mAx _|refine mBx ?_ ?_|exact mCx (by assumption)|refine mDx ?_|refine mEx ?_ ?_ ?_|exact mFx|refine mGx ?_ ?_ ?_|exact mHx|exact mIx _|(simp only [wM,Nat.reduceAdd,Nat.reduceLT,Nat.reduceLeDiff];done)))⟩

end Go.Proofs.YtpfkmdbdafpadaaDoor
