/- Omega networks. -/
import Derived.Test.YtbomimhfldmlbaaDoorPG
import Derived.Test.YtbomimhfldmlbaaDoorKE
set_option linter.unusedSimpArgs false
set_option linter.unusedVariables false
set_option maxHeartbeats 4000000
set_option maxRecDepth 20000
namespace Go.Abs
def bls (l : List Bool) : List AV := l.map .bool
theorem bls_len {l : List Bool} : (bls l).length = l.length := by simp [bls]
theorem repl_bls {b : Bool} : ∀ n : Nat, repl [.bool b] n = bls (List.replicate n b)
  | 0 => rfl
  | n + 1 => by simp [repl, bls, repl_bls n, List.replicate_succ]
theorem refsOK_bls {n : Nat} {l : List Bool} : refsOK n (bls l) = true := refsOK_iff.2 fun a ha => by
  obtain ⟨b, _, rfl⟩ := List.mem_map.1 ha
  rfl
/-- A slice of truth values of one's own. -/
def OwnT (c : Nat) (bs : List (Nat × Blk)) (s : AV) (l : List Bool) : Prop := OwnA 1 c bs s l.length (bls l)
theorem OwnT.ix {c : Nat} {bs : List (Nat × Blk)} {s : AV} {l : List Bool} (O : OwnT c bs s l) {i : Nat} (h : Hp) (hi : i < l.length) : sIxS 1 h (some i) s = some (cellAt s i, h) := (OwnA.arr O).ix h hi
theorem OwnT.ld {c : Nat} {bs bs' : List (Nat × Blk)} {s : AV} {l : List Bool} (O : OwnT c bs s l) (t : Sub bs bs') {i : Nat} (hi : i < l.length) : cellV bs' s i 0 = some (.bool (l.getD i false)) := by
  rw [(OwnA.arr O).ld t hi (by omega)]
  simp [bls, List.getD_eq_getElem?_getD, List.getElem?_eq_getElem hi]
theorem own_setT {h0 h : Hp} {s : AV} {l : List Bool} {i : Nat} {b : Bool} (ho : Hok h0) (g : Grown h0 h) (O : OwnT h0.next h.blks s l) (hi : i < l.length) :
    ∃ h', sStore 1 h (.bool b) (cellAt s i) = some (.any, h') ∧ OwnT h0.next h'.blks s (l.set i b) ∧ Grown h0 h' := by
  obtain ⟨h', e, o, g'⟩ := own_set (v := .bool b) (vs := [.bool b]) ho g O hi rfl rfl rfl rfl
  refine ⟨h', e, ?_, g'⟩
  unfold OwnT
  have : splice (bls l) (i * 1) [.bool b] = bls (l.set i b) := by
    rw [Nat.mul_one]
    simp only [splice, bls, List.length_singleton, ← List.map_take, ← List.map_drop]
    rw [List.set_eq_take_append_cons_drop, if_pos hi]
    simp
  rw [List.length_set, ← this]
  exact o
def orI (a b : Int) : Int := IntKind.wrap .i64 ((BitVec.ofInt 64 a ||| BitVec.ofInt 64 b).toNat : Int)
theorem sBin_or {a b : Int} : sBin .or .no (.int .i64 a) (.int .i64 b) = some (.int .i64 (orI a b)) := (Eq.refl _).trans rfl
theorem sBin_shlN {a j : Nat} (hj : j ≤ 20) (ha : a * 2 ^ j ≤ 9223372036854775807) : sBin .shl .no (.int .i64 (a : Int)) (.int .i64 (j : Int)) = some (.int .i64 ((a * 2 ^ j : Nat) : Int)) := by
  have hm : min ((j : Int).toNat) IntKind.i64.bits = j := by rw [Int.toNat_natCast]; show min j 64 = j; omega
  simp only [sBin, abShift, hm]
  rw [if_neg (by omega)]
  have : (a : Int) * 2 ^ j = ((a * 2 ^ j : Nat) : Int) := by simp
  rw [this, wrap_i64 (by omega) (by omega)]
theorem sBin_shrN {a j : Nat} (hj : j ≤ 20) : sBin .shr .no (.int .i64 (a : Int)) (.int .i64 (j : Int)) = some (.int .i64 ((a / 2 ^ j : Nat) : Int)) := by
  have hm : min ((j : Int).toNat) IntKind.i64.bits = j := by rw [Int.toNat_natCast]; show min j 64 = j; omega
  simp only [sBin, abShift, hm]
  rw [if_neg (by omega), Int.fdiv_eq_ediv_of_nonneg _ (by have := Int.pow_pos (n := 2) (m := j) (by omega); omega)]
  simp
theorem sBin_shl1 {j : Nat} (hj : j ≤ 20) : sBin .shl .no (.int .i64 1) (.int .i64 (j : Int)) = some (.int .i64 ((2 ^ j : Nat) : Int)) := by
  have h2 : 2 ^ j ≤ 2 ^ 20 := Nat.pow_le_pow_right (by omega) hj
  have := sBin_shlN (a := 1) hj (by omega)
  rw [Nat.one_mul] at this
  exact this
end Go.Abs
namespace Go.Pa
open Go Go.Abs
def linB (k j s t : Nat) : Bool := decide (0 ≤ orI ((s * 2 ^ j : Nat) : Int) ((t / 2 ^ (k - j) : Nat) : Int)) && (decide (orI ((s * 2 ^ j : Nat) : Int) ((t / 2 ^ (k - j) : Nat) : Int) % ((2 ^ k : Nat) : Int) = ((lin k j s t : Nat) : Int)) && decide (lin k j s t < 2 ^ k))
def linC : Bool := (List.range 4).all fun k => (List.range 4).all fun j => (List.range 8).all fun s => (List.range 8).all fun t => !(decide (0 < j) && (decide (j ≤ k) && (decide (s < 2 ^ k) && decide (t < 2 ^ k)))) || linB k j s t
theorem linC_ok : linC = true := by decide +kernel
theorem lin_or (k : Nat) (h1 : k < 4) (j : Nat) (h2 : j < 4) (s : Nat) (h3 : s < 8) (t : Nat) (h4 : t < 8) (g1 : 0 < j) (g2 : j ≤ k) (g3 : s < 2 ^ k) (g4 : t < 2 ^ k) : 0 ≤ orI ((s * 2 ^ j : Nat) : Int) ((t / 2 ^ (k - j) : Nat) : Int) ∧ orI ((s * 2 ^ j : Nat) : Int) ((t / 2 ^ (k - j) : Nat) : Int) % ((2 ^ k : Nat) : Int) = ((lin k j s t : Nat) : Int) ∧ lin k j s t < 2 ^ k := by
  have c := linC_ok
  unfold linC at c
  have c1 := List.all_eq_true.1 c k (List.mem_range.2 h1)
  have c2 := List.all_eq_true.1 c1 j (List.mem_range.2 h2)
  have c3 := List.all_eq_true.1 c2 s (List.mem_range.2 h3)
  have c4 := List.all_eq_true.1 c3 t (List.mem_range.2 h4)
  rw [decide_eq_true g1, decide_eq_true g2, decide_eq_true g3, decide_eq_true g4] at c4
  simp only [Bool.and_self, Bool.not_true, Bool.false_or, linB, Bool.and_eq_true] at c4
  exact ⟨of_decide_eq_true c4.1, of_decide_eq_true c4.2.1, of_decide_eq_true c4.2.2⟩
/- A permutation's element. -/
def pnt (zs : List Int) (s : Nat) : Nat := (zs.getD s 0).toNat
def lnz (k j : Nat) (zs : List Int) (s : Nat) : Nat := lin k j s (pnt zs s)
def OmP (k : Nat) (zs : List Int) : Prop := ∀ j, j < k → Inj (lnz k (j + 1) zs) (2 ^ k)
instance (k : Nat) (zs : List Int) : Decidable (OmP k zs) := inferInstanceAs (Decidable (∀ j, j < k → Inj (lnz k (j + 1) zs) (2 ^ k)))
theorem pow8 {k : Nat} (h : k ≤ 3) : 2 ^ k ≤ 8 := by
  have : 2 ^ k ≤ 2 ^ 3 := Nat.pow_le_pow_right (by omega) h
  exact this
theorem PermI.pnt {w : Nat} {zs : List Int} (p : PermI w zs) {s : Nat} (hs : s < w) : zs.getD s 0 = ((pnt zs s : Nat) : Int) ∧ Go.Pa.pnt zs s < w := by
  have hl := p.1
  have h := p.2.1 _ (List.getElem_mem (show s < zs.length by omega))
  rw [← getD_at (show s < zs.length by omega)] at h
  unfold Go.Pa.pnt
  omega
end Go.Pa
namespace Go.Proofs.YtbomimhfldmlbaaDoor
open Go Go.Abs Go.Pa

theorem Checked_arg (k g : Int) (a : AV) (h : Hp) (hk : Hok h) (hc : ¬ (1 ≤ k ∧ k ≤ g)) : Evals Tryd.prog tab false (.func 65) [.int .i64 k, .int .i64 g, a] h (.int .i64 1, h) := by
  refine evals_pure c65 rfl hk ?_
  simp only [sf65, initS_cons, initS_nil]
  simp (disch := first|(simp only [Nat.reduceBEq,wE];done)|((repeat' (first|assumption|exact mAx _|refine mBx ?_ ?_|exact mCx (by assumption)|refine mDx ?_|refine mEx ?_ ?_ ?_|exact mFx|refine mGx ?_ ?_ ?_|exact mHx|exact mIx _|(simp only [wM,Nat.reduceAdd,Nat.reduceLT,Nat.reduceLeDiff];done)));done)|omega|decide) only [callT (f62 _ _ _ _ _), decide_eq_false hc, ↓wA,wB,wL,resOf,Nat.reduceBEq,Int.reduceBEq,Int.reduceBNe,Int.reduceLT,Int.reduceLE,Int.reduceAdd,Int.reduceSub,Int.reduceMul,Int.reduceToNat]
  exact ⟨_, rfl, rfl, by (repeat' (first|assumption|exact mAx _|refine mBx ?_ ?_|exact mCx (by assumption)|refine mDx ?_|refine mEx ?_ ?_ ?_|exact mFx|refine mGx ?_ ?_ ?_|exact mHx|exact mIx _|(simp only [wM,Nat.reduceAdd,Nat.reduceLT,Nat.reduceLeDiff];done)))⟩
theorem Checked_form (k : Nat) (g : Int) (a : AV) (zs : List Int) (h : Hp) (hk : Hok h) (hc : 1 ≤ (k : Int) ∧ (k : Int) ≤ g) (k3 : k ≤ 3) (ha : Ints h.blks .i64 a zs) (hz : zs.length ≤ 1000) (hp : ¬ PermI (2 ^ k : Nat) zs) :
    Evals Tryd.prog tab false (.func 65) [.int .i64 k, .int .i64 g, a] h (.int .i64 2, h) := by
  refine evals_pure c65 rfl hk ?_
  simp only [sf65, initS_cons, initS_nil]
  have p8 := pow8 k3
  have s1 := sBin_shl1 (j := k) (by omega)
  simp (disch := first|(simp only [Nat.reduceBEq,wE];done)|((repeat' (first|assumption|exact mAx _|refine mBx ?_ ?_|exact mCx (by assumption)|refine mDx ?_|refine mEx ?_ ?_ ?_|exact mFx|refine mGx ?_ ?_ ?_|exact mHx|exact mIx _|(simp only [wM,Nat.reduceAdd,Nat.reduceLT,Nat.reduceLeDiff];done)));done)|omega|decide) only [callT (f62 _ _ _ _ _), decide_eq_true hc, s1, callT (f52 a zs (2 ^ k) h.en hk ha (by omega) (by omega)), decide_eq_false hp, ↓wA,wB,wL,resOf,Nat.reduceBEq,Int.reduceBEq,Int.reduceBNe,Int.reduceLT,Int.reduceLE,Int.reduceAdd,Int.reduceSub,Int.reduceMul,Int.reduceToNat]
  exact ⟨_, rfl, rfl, by (repeat' (first|assumption|exact mAx _|refine mBx ?_ ?_|exact mCx (by assumption)|refine mDx ?_|refine mEx ?_ ?_ ?_|exact mFx|refine mGx ?_ ?_ ?_|exact mHx|exact mIx _|(simp only [wM,Nat.reduceAdd,Nat.reduceLT,Nat.reduceLeDiff];done)))⟩
theorem Checked_ok (k : Nat) (g : Int) (a : AV) (zs : List Int) (h : Hp) (hk : Hok h) (hc : 1 ≤ (k : Int) ∧ (k : Int) ≤ g) (k3 : k ≤ 3) (ha : Ints h.blks .i64 a zs) (hz : zs.length ≤ 1000) (hp : PermI (2 ^ k : Nat) zs) :
    Evals Tryd.prog tab false (.func 65) [.int .i64 k, .int .i64 g, a] h (.int .i64 0, h) := by
  refine evals_pure c65 rfl hk ?_
  simp only [sf65, initS_cons, initS_nil]
  have p8 := pow8 k3
  have s1 := sBin_shl1 (j := k) (by omega)
  simp (disch := first|(simp only [Nat.reduceBEq,wE];done)|((repeat' (first|assumption|exact mAx _|refine mBx ?_ ?_|exact mCx (by assumption)|refine mDx ?_|refine mEx ?_ ?_ ?_|exact mFx|refine mGx ?_ ?_ ?_|exact mHx|exact mIx _|(simp only [wM,Nat.reduceAdd,Nat.reduceLT,Nat.reduceLeDiff];done)));done)|omega|decide) only [callT (f62 _ _ _ _ _), decide_eq_true hc, s1, callT (f52 a zs (2 ^ k) h.en hk ha (by omega) (by omega)), decide_eq_true hp, ↓wA,wB,wL,resOf,Nat.reduceBEq,Int.reduceBEq,Int.reduceBNe,Int.reduceLT,Int.reduceLE,Int.reduceAdd,Int.reduceSub,Int.reduceMul,Int.reduceToNat]
  exact ⟨_, rfl, rfl, by (repeat' (first|assumption|exact mAx _|refine mBx ?_ ?_|exact mCx (by assumption)|refine mDx ?_|refine mEx ?_ ?_ ?_|exact mFx|refine mGx ?_ ?_ ?_|exact mHx|exact mIx _|(simp only [wM,Nat.reduceAdd,Nat.reduceLT,Nat.reduceLeDiff];done)))⟩

theorem f71 (k j : Nat) (a : AV) (zs : List Int) (h : Hp) (hk : Hok h) (k3 : k ≤ 3) (hj : 0 < j ∧ j ≤ k) (ha : Ints h.blks .i64 a zs) (hp : PermI (2 ^ k : Nat) zs) :
    Evals Tryd.prog tab false (.func 71) [.int .i64 k, .int .i64 j, a] h (.bool (!decide (Inj (lnz k j zs) (2 ^ k))), h) := by
  refine evals_pure c71 rfl hk ?_
  simp only [sf71, initS_cons, initS_nil]
  have p8 := pow8 k3
  obtain ⟨w, ew⟩ : ∃ w, w = 2 ^ k := ⟨_, rfl⟩
  have hl : zs.length = w := by have := hp.1; omega
  have mk := sMks_ok (h := h.en) (z := [.bool false]) (n := 1) (l := w) (c := w) (Nat.le_refl _) (by omega)
  have rep : OwnT h.next (h.en.pu (repl [.bool false] w)).blks (.sl h.next 0 w (some w) 1) (List.replicate w false) := by
    rw [repl_bls]
    unfold OwnT
    rw [List.length_replicate]
    exact OwnA.fresh (Nat.le_refl _) (by simp [bls_len]) (List.take_of_length_le (by simp [bls_len])) (by simp [bls_len]) (Nat.le_refl _)
  have gp : Grown h (h.en.pu (repl [.bool false] w)) := Grown.pu Grown.en (by rw [repl_bls]; exact refsOK_bls)
  have a1 := ha.sub (gp.sub hk)
  have la : ∀ (h' : Hp), sLen h' a = some (.int .i64 (w : Int), h') := fun h' => by rw [ha.len, hl]
  simp (disch := first|(simp only [Nat.reduceBEq,wE];done)|((repeat' (first|assumption|exact mAx _|refine mBx ?_ ?_|exact mCx (by assumption)|refine mDx ?_|refine mEx ?_ ?_ ?_|exact mFx|refine mGx ?_ ?_ ?_|exact mHx|exact mIx _|(simp only [wM,Nat.reduceAdd,Nat.reduceLT,Nat.reduceLeDiff];done)));done)|omega|decide) only [la, mk, ↓wA,wB,wL,resOf,Nat.reduceBEq,Int.reduceBEq,Int.reduceBNe,Int.reduceLT,Int.reduceLE,Int.reduceAdd,Int.reduceSub,Int.reduceMul,Int.reduceToNat]
  refine wloop (fun mm ss => ∃ (i : Nat) (T : List Bool) (h1 : Hp) (u6 u8 u9 u10 u17 u36 : AV), (mm = w - i) ∧ (i ≤ w ∧ Grown h h1 ∧ OwnT h.next h1.blks (.sl h.next 0 w (some w) 1) T ∧ T.length = w ∧ Inj (lnz k j zs) i ∧ ∀ x, x < w → (T.getD x false = true ↔ ∃ s, s < i ∧ lnz k j zs s = x)) ∧ ss = { fr := [(0, .int .i64 k), (1, .int .i64 j), (2, a), (6, u6), (7, .sl h.next 0 w (some w) 1), (8, u8), (9, u9), (10, u10), (14, a), (15, .int .i64 w), (16, .int .i64 i), (17, u17), (36, u36)], hp := h1 }) (w) ?_ ?_
  ·
    refine ⟨0, List.replicate w false, _, _, _, _, _, _, _, by omega, ⟨by omega, gp, rep, by simp, fun i hi => absurd hi (by omega), fun x hx => by simp [List.getD_eq_getElem?_getD, List.getElem?_replicate, hx]⟩, rfl⟩
  rintro nA sA ⟨i, T, h1, u6, u8, u9, u10, u17, u36, hnA, ⟨hi, g1, o1, lT, hJ, hT⟩, rfl⟩
  have k1 := g1.ok hk
  have b1 := ha.sub (g1.sub hk)
  simp (disch := first|(simp only [Nat.reduceBEq,wE];done)|((repeat' (first|assumption|exact mAx _|refine mBx ?_ ?_|exact mCx (by assumption)|refine mDx ?_|refine mEx ?_ ?_ ?_|exact mFx|refine mGx ?_ ?_ ?_|exact mHx|exact mIx _|(simp only [wM,Nat.reduceAdd,Nat.reduceLT,Nat.reduceLeDiff];done)));done)|omega|decide) only [↓wA,wB,wL,resOf,Nat.reduceBEq,Int.reduceBEq,Int.reduceBNe,Int.reduceLT,Int.reduceLE,Int.reduceAdd,Int.reduceSub,Int.reduceMul,Int.reduceToNat]
  refine ifThen_intro (fun e => ?_) (fun e => ?_) <;> have eq := e <;> try simp [-List.getD_eq_getElem?_getD] at eq
  · obtain ⟨q1, q2⟩ := hp.pnt (s := i) (by omega)
    obtain ⟨t, et⟩ : ∃ t, t = pnt zs i := ⟨_, rfl⟩
    rw [← et] at q1 q2
    have L := lin_or k (by omega) j (by omega) i (by omega) t (by omega) hj.1 hj.2 (by omega) q2
    have el : lnz k j zs i = lin k j i t := by rw [lnz, ← et]
    obtain ⟨x, ex⟩ : ∃ x, x = lin k j i t := ⟨_, rfl⟩
    rw [← ex] at L el
    rw [← ew] at L
    have pj : 2 ^ j ≤ 8 := pow8 (by omega)
    have sm : i * 2 ^ j ≤ 8 * 8 := Nat.mul_le_mul (by omega) pj
    have sh1 := sBin_shlN (a := i) (j := j) (by omega) (by omega)
    have sb : (k : Int) - (j : Int) = ((k - j : Nat) : Int) := by omega
    have sh2 := sBin_shrN (a := t) (j := k - j) (by omega)
    have sr : sBin .rem .no (.int .i64 (orI ((i * 2 ^ j : Nat) : Int) ((t / 2 ^ (k - j) : Nat) : Int))) (.int .i64 (w : Int)) = some (.int .i64 (x : Int)) := by
      rw [sBin_rem L.1 (by omega), L.2.1]
    have hx : x < T.length := by omega
    have hl1 : i < zs.length := by omega
    cases eT : T.getD x false
    · obtain ⟨h2, e2, o2, g2⟩ := own_setT (b := true) (i := x) hk g1 o1 hx
      simp (disch := first|(simp only [Nat.reduceBEq,wE];done)|((repeat' (first|assumption|exact mAx _|refine mBx ?_ ?_|exact mCx (by assumption)|refine mDx ?_|refine mEx ?_ ?_ ?_|exact mFx|refine mGx ?_ ?_ ?_|exact mHx|exact mIx _|(simp only [wM,Nat.reduceAdd,Nat.reduceLT,Nat.reduceLeDiff];done)));done)|omega|decide) only [e, b1.ix, b1.ld, q1, sh1, sb, sh2, sBin_or, la, sr, o1.ix, o1.ld, eT, e2, ↓wA,wB,wL,resOf,Nat.reduceBEq,Int.reduceBEq,Int.reduceBNe,Int.reduceLT,Int.reduceLE,Int.reduceAdd,Int.reduceSub,Int.reduceMul,Int.reduceToNat]
      refine ⟨_, ?_, i + 1, T.set x true, h2, _, _, _, _, _, _, rfl, ?_, rfl⟩
      · omega
      refine ⟨by omega, g2, o2, by simpa using lT, inj_succ.2 ⟨hJ, fun s hs he => ?_⟩, fun y hy => ?_⟩
      · have := (hT x (by omega)).2 ⟨s, hs, by rw [he, el]⟩
        rw [eT] at this
        cases this
      · have hs : (T.set x true).getD y false = if x = y then true else T.getD y false := by
          simp only [List.getD_eq_getElem?_getD, List.getElem?_set]
          by_cases exy : x = y
          · subst exy; simp [hx]
          · simp [exy]
        rw [hs]
        by_cases exy : x = y
        · rw [if_pos exy]
          simp only [true_iff]
          exact ⟨i, by omega, by rw [el, exy]⟩
        · rw [if_neg exy, hT y hy]
          constructor
          · rintro ⟨s, h1, h2⟩
            exact ⟨s, by omega, h2⟩
          · rintro ⟨s, h1, h2⟩
            by_cases es : s = i
            · subst es
              rw [el] at h2
              exact absurd h2 exy
            · exact ⟨s, by omega, h2⟩
    · simp (disch := first|(simp only [Nat.reduceBEq,wE];done)|((repeat' (first|assumption|exact mAx _|refine mBx ?_ ?_|exact mCx (by assumption)|refine mDx ?_|refine mEx ?_ ?_ ?_|exact mFx|refine mGx ?_ ?_ ?_|exact mHx|exact mIx _|(simp only [wM,Nat.reduceAdd,Nat.reduceLT,Nat.reduceLeDiff];done)));done)|omega|decide) only [e, b1.ix, b1.ld, q1, sh1, sb, sh2, sBin_or, la, sr, o1.ix, o1.ld, eT, ↓wA,wB,wL,resOf,Nat.reduceBEq,Int.reduceBEq,Int.reduceBNe,Int.reduceLT,Int.reduceLE,Int.reduceAdd,Int.reduceSub,Int.reduceMul,Int.reduceToNat]
      refine ⟨_, rfl, ?_, g1⟩
      obtain ⟨s, h1, h2⟩ := (hT x (by omega)).1 eT
      have : ¬ Inj (lnz k j zs) (2 ^ k) := fun H => H i (by omega) s h1 (by rw [h2, el])
      rw [decide_eq_false this]
      rfl
  · simp (disch := first|(simp only [Nat.reduceBEq,wE];done)|((repeat' (first|assumption|exact mAx _|refine mBx ?_ ?_|exact mCx (by assumption)|refine mDx ?_|refine mEx ?_ ?_ ?_|exact mFx|refine mGx ?_ ?_ ?_|exact mHx|exact mIx _|(simp only [wM,Nat.reduceAdd,Nat.reduceLT,Nat.reduceLeDiff];done)));done)|omega|decide) only [e, ↓wA,wB,wL,resOf,Nat.reduceBEq,Int.reduceBEq,Int.reduceBNe,Int.reduceLT,Int.reduceLE,Int.reduceAdd,Int.reduceSub,Int.reduceMul,Int.reduceToNat]
    refine ⟨_, rfl, ?_, g1⟩
    have : Inj (lnz k j zs) (2 ^ k) := by rw [← ew, show w = i by omega]; exact hJ
    rw [decide_eq_true this]
    rfl

theorem Omega_arg (k : Int) (a : AV) (h : Hp) (hk : Hok h) (hc : ¬ (1 ≤ k ∧ k ≤ 3)) : Evals Tryd.prog tab false (.func 38) [.int .i64 k, a] h (.tu [.bool false, .int .i64 1], h) := by
  refine evals_pure c38 rfl hk ?_
  simp only [sf38, initS_cons, initS_nil]
  simp (disch := first|(simp only [Nat.reduceBEq,wE];done)|((repeat' (first|assumption|exact mAx _|refine mBx ?_ ?_|exact mCx (by assumption)|refine mDx ?_|refine mEx ?_ ?_ ?_|exact mFx|refine mGx ?_ ?_ ?_|exact mHx|exact mIx _|(simp only [wM,Nat.reduceAdd,Nat.reduceLT,Nat.reduceLeDiff];done)));done)|omega|decide) only [callT (Checked_arg k 3 a h.en hk hc), ↓wA,wB,wL,resOf,Nat.reduceBEq,Int.reduceBEq,Int.reduceBNe,Int.reduceLT,Int.reduceLE,Int.reduceAdd,Int.reduceSub,Int.reduceMul,Int.reduceToNat]
  exact ⟨_, rfl, rfl, by (repeat' (first|assumption|exact mAx _|refine mBx ?_ ?_|exact mCx (by assumption)|refine mDx ?_|refine mEx ?_ ?_ ?_|exact mFx|refine mGx ?_ ?_ ?_|exact mHx|exact mIx _|(simp only [wM,Nat.reduceAdd,Nat.reduceLT,Nat.reduceLeDiff];done)))⟩
theorem Omega_form (k : Nat) (a : AV) (zs : List Int) (h : Hp) (hk : Hok h) (hc : 1 ≤ k ∧ k ≤ 3) (ha : Ints h.blks .i64 a zs) (hz : zs.length ≤ 1000) (hp : ¬ PermI (2 ^ k : Nat) zs) : Evals Tryd.prog tab false (.func 38) [.int .i64 k, a] h (.tu [.bool false, .int .i64 2], h) := by
  refine evals_pure c38 rfl hk ?_
  simp only [sf38, initS_cons, initS_nil]
  simp (disch := first|(simp only [Nat.reduceBEq,wE];done)|((repeat' (first|assumption|exact mAx _|refine mBx ?_ ?_|exact mCx (by assumption)|refine mDx ?_|refine mEx ?_ ?_ ?_|exact mFx|refine mGx ?_ ?_ ?_|exact mHx|exact mIx _|(simp only [wM,Nat.reduceAdd,Nat.reduceLT,Nat.reduceLeDiff];done)));done)|omega|decide) only [callT (Checked_form k 3 a zs h.en hk (by omega) hc.2 ha hz hp), ↓wA,wB,wL,resOf,Nat.reduceBEq,Int.reduceBEq,Int.reduceBNe,Int.reduceLT,Int.reduceLE,Int.reduceAdd,Int.reduceSub,Int.reduceMul,Int.reduceToNat]
  exact ⟨_, rfl, rfl, by (repeat' (first|assumption|exact mAx _|refine mBx ?_ ?_|exact mCx (by assumption)|refine mDx ?_|refine mEx ?_ ?_ ?_|exact mFx|refine mGx ?_ ?_ ?_|exact mHx|exact mIx _|(simp only [wM,Nat.reduceAdd,Nat.reduceLT,Nat.reduceLeDiff];done)))⟩
theorem Omega_ok (k : Nat) (a : AV) (zs : List Int) (h : Hp) (hk : Hok h) (hc : 1 ≤ k ∧ k ≤ 3) (ha : Ints h.blks .i64 a zs) (hz : zs.length ≤ 1000) (hp : PermI (2 ^ k : Nat) zs) : Evals Tryd.prog tab false (.func 38) [.int .i64 k, a] h (.tu [.bool (decide (OmP k zs)), .int .i64 0], h) := by
  refine evals_pure c38 rfl hk ?_
  simp only [sf38, initS_cons, initS_nil]
  simp (disch := first|(simp only [Nat.reduceBEq,wE];done)|((repeat' (first|assumption|exact mAx _|refine mBx ?_ ?_|exact mCx (by assumption)|refine mDx ?_|refine mEx ?_ ?_ ?_|exact mFx|refine mGx ?_ ?_ ?_|exact mHx|exact mIx _|(simp only [wM,Nat.reduceAdd,Nat.reduceLT,Nat.reduceLeDiff];done)));done)|omega|decide) only [callT (Checked_ok k 3 a zs h.en hk (by omega) hc.2 ha hz hp), ↓wA,wB,wL,resOf,Nat.reduceBEq,Int.reduceBEq,Int.reduceBNe,Int.reduceLT,Int.reduceLE,Int.reduceAdd,Int.reduceSub,Int.reduceMul,Int.reduceToNat]
  refine wloop (fun mm ss => ∃ (j : Nat) (u4 u5 u6 u7 u12 u16 u22 : AV), (mm = k - j) ∧ (j ≤ k ∧ ∀ i, i < j → Inj (lnz k (i + 1) zs) (2 ^ k)) ∧ ss = { fr := [(0, .int .i64 k), (1, a), (4, u4), (5, u5), (6, u6), (7, u7), (12, u12), (14, .int .i64 k), (15, .int .i64 j), (16, u16), (22, u22)], hp := h.en }) (k) ?_ ?_
  ·
    refine ⟨0, _, _, _, _, _, _, _, by omega, ⟨by omega, fun i hi => absurd hi (by omega)⟩, rfl⟩
  rintro nA sA ⟨j, u4, u5, u6, u7, u12, u16, u22, hnA, ⟨hj, hJ⟩, rfl⟩
  simp (disch := first|(simp only [Nat.reduceBEq,wE];done)|((repeat' (first|assumption|exact mAx _|refine mBx ?_ ?_|exact mCx (by assumption)|refine mDx ?_|refine mEx ?_ ?_ ?_|exact mFx|refine mGx ?_ ?_ ?_|exact mHx|exact mIx _|(simp only [wM,Nat.reduceAdd,Nat.reduceLT,Nat.reduceLeDiff];done)));done)|omega|decide) only [↓wA,wB,wL,resOf,Nat.reduceBEq,Int.reduceBEq,Int.reduceBNe,Int.reduceLT,Int.reduceLE,Int.reduceAdd,Int.reduceSub,Int.reduceMul,Int.reduceToNat]
  refine ifThen_intro (fun e => ?_) (fun e => ?_) <;> have eq := e <;> try simp [-List.getD_eq_getElem?_getD] at eq
  · have C := f71 k (j + 1) a zs h.en hk hc.2 (by omega) ha hp
    have ad : (j : Int) + 1 = ((j + 1 : Nat) : Int) := by omega
    by_cases c : Inj (lnz k (j + 1) zs) (2 ^ k)
    · simp (disch := first|(simp only [Nat.reduceBEq,wE];done)|((repeat' (first|assumption|exact mAx _|refine mBx ?_ ?_|exact mCx (by assumption)|refine mDx ?_|refine mEx ?_ ?_ ?_|exact mFx|refine mGx ?_ ?_ ?_|exact mHx|exact mIx _|(simp only [wM,Nat.reduceAdd,Nat.reduceLT,Nat.reduceLeDiff];done)));done)|omega|decide) only [e, ad, callT C, decide_eq_true c, ↓wA,wB,wL,resOf,Nat.reduceBEq,Int.reduceBEq,Int.reduceBNe,Int.reduceLT,Int.reduceLE,Int.reduceAdd,Int.reduceSub,Int.reduceMul,Int.reduceToNat]
      refine ⟨_, ?_, j + 1, _, _, _, _, _, _, _, rfl, ?_, rfl⟩
      · omega
      refine ⟨by omega, fun i hi => ?_⟩
      by_cases ei : i = j
      · subst ei; exact c
      · exact hJ i (by omega)
    · simp (disch := first|(simp only [Nat.reduceBEq,wE];done)|((repeat' (first|assumption|exact mAx _|refine mBx ?_ ?_|exact mCx (by assumption)|refine mDx ?_|refine mEx ?_ ?_ ?_|exact mFx|refine mGx ?_ ?_ ?_|exact mHx|exact mIx _|(simp only [wM,Nat.reduceAdd,Nat.reduceLT,Nat.reduceLeDiff];done)));done)|omega|decide) only [e, ad, callT C, decide_eq_false c, ↓wA,wB,wL,resOf,Nat.reduceBEq,Int.reduceBEq,Int.reduceBNe,Int.reduceLT,Int.reduceLE,Int.reduceAdd,Int.reduceSub,Int.reduceMul,Int.reduceToNat]
      refine ⟨_, rfl, ?_, by (repeat' (first|assumption|exact mAx _|refine mBx ?_ ?_|exact mCx (by assumption)|refine mDx ?_|refine mEx ?_ ?_ ?_|exact mFx|refine mGx ?_ ?_ ?_|exact mHx|exact mIx _|(simp only [wM,Nat.reduceAdd,Nat.reduceLT,Nat.reduceLeDiff];done)))⟩
      rw [decide_eq_false fun H : OmP k zs => c (H j eq)]
  · simp (disch := first|(simp only [Nat.reduceBEq,wE];done)|((repeat' (first|assumption|exact mAx _|refine mBx ?_ ?_|exact mCx (by assumption)|refine mDx ?_|refine mEx ?_ ?_ ?_|exact mFx|refine mGx ?_ ?_ ?_|exact mHx|exact mIx _|(simp only [wM,Nat.reduceAdd,Nat.reduceLT,Nat.reduceLeDiff];done)));done)|omega|decide) only [e, ↓wA,wB,wL,resOf,Nat.reduceBEq,Int.reduceBEq,Int.reduceBNe,Int.reduceLT,Int.reduceLE,Int.reduceAdd,Int.reduceSub,Int.reduceMul,Int.reduceToNat]
    refine ⟨_, rfl, ?_, by (repeat' (first|assumption|exact mAx _|refine mBx ?_ ?_|exact mCx (by assumption)|refine mDx ?_|refine mEx ?_ ?_ ?_|exact mFx|refine mGx ?_ ?_ ?_|exact mHx|exact mIx _|(simp only [wM,Nat.reduceAdd,Nat.reduceLT,Nat.reduceLeDiff];done)))⟩
    have H : OmP k zs := fun i hi => hJ i (by omega)
    rw [decide_eq_true H]

theorem f39 (k : Nat) (a : AV) (zs : List Int) (h : Hp) (hk : Hok h) (hc : 1 ≤ k ∧ k ≤ 3) (ha : Ints h.blks .i64 a zs) (hp : PermI (2 ^ k : Nat) zs) : Evals Tryd.prog tab false (.func 39) [.int .i64 k, a] h (.bool (decide (OmP k zs)), h) := by
  refine evals_pure c39 rfl hk ?_
  simp only [sf39, initS_cons, initS_nil]
  have p8 := pow8 hc.2
  obtain ⟨w, ew⟩ : ∃ w, w = 2 ^ k := ⟨_, rfl⟩
  have hl : zs.length = w := by have := hp.1; omega
  have sw := sBin_shl1 (j := k) (by omega)
  rw [← ew] at sw
  simp (disch := first|(simp only [Nat.reduceBEq,wE];done)|((repeat' (first|assumption|exact mAx _|refine mBx ?_ ?_|exact mCx (by assumption)|refine mDx ?_|refine mEx ?_ ?_ ?_|exact mFx|refine mGx ?_ ?_ ?_|exact mHx|exact mIx _|(simp only [wM,Nat.reduceAdd,Nat.reduceLT,Nat.reduceLeDiff];done)));done)|omega|decide) only [↓wA,wB,wL,resOf,Nat.reduceBEq,Int.reduceBEq,Int.reduceBNe,Int.reduceLT,Int.reduceLE,Int.reduceAdd,Int.reduceSub,Int.reduceMul,Int.reduceToNat]
  refine wloop (fun mm ss => ∃ (j : Nat) (h1 : Hp) (u4 u6 u7 u8 u11 u18 u40 : AV), (mm = k + 1 - j) ∧ (1 ≤ j ∧ j ≤ k + 1 ∧ Grown h h1 ∧ ∀ i, i + 1 < j → Inj (lnz k (i + 1) zs) (2 ^ k)) ∧ ss = { fr := [(0, .int .i64 k), (1, a), (4, u4), (5, .int .i64 j), (6, u6), (7, u7), (8, u8), (11, u11), (18, u18), (40, u40)], hp := h1 }) (k) ?_ ?_
  ·
    refine ⟨1, h.en, _, _, _, _, _, _, _, by omega, ⟨by omega, by omega, Grown.en, fun i hi => absurd hi (by omega)⟩, rfl⟩
  rintro nA sA ⟨j, h1, u4, u6, u7, u8, u11, u18, u40, hnA, ⟨hj0, hj, g1, hJ⟩, rfl⟩
  have k1 := g1.ok hk
  simp (disch := first|(simp only [Nat.reduceBEq,wE];done)|((repeat' (first|assumption|exact mAx _|refine mBx ?_ ?_|exact mCx (by assumption)|refine mDx ?_|refine mEx ?_ ?_ ?_|exact mFx|refine mGx ?_ ?_ ?_|exact mHx|exact mIx _|(simp only [wM,Nat.reduceAdd,Nat.reduceLT,Nat.reduceLeDiff];done)));done)|omega|decide) only [↓wA,wB,wL,resOf,Nat.reduceBEq,Int.reduceBEq,Int.reduceBNe,Int.reduceLT,Int.reduceLE,Int.reduceAdd,Int.reduceSub,Int.reduceMul,Int.reduceToNat]
  refine ifThen_intro (fun e => ?_) (fun e => ?_) <;> have eq := e <;> try simp [-List.getD_eq_getElem?_getD] at eq
  · have O : Own h1.next (h1.pu []).blks .i64 (.sl h1.next 0 0 (some 0) 1) [] := Own.fresh (Nat.le_refl _) rfl rfl rfl (Nat.le_refl _)
    simp (disch := first|(simp only [Nat.reduceBEq,wE];done)|((repeat' (first|assumption|exact mAx _|refine mBx ?_ ?_|exact mCx (by assumption)|refine mDx ?_|refine mEx ?_ ?_ ?_|exact mFx|refine mGx ?_ ?_ ?_|exact mHx|exact mIx _|(simp only [wM,Nat.reduceAdd,Nat.reduceLT,Nat.reduceLeDiff];done)));done)|omega|decide) only [e, ↓wA,wB,wL,resOf,Nat.reduceBEq,Int.reduceBEq,Int.reduceBNe,Int.reduceLT,Int.reduceLE,Int.reduceAdd,Int.reduceSub,Int.reduceMul,Int.reduceToNat]
    refine wloop (fun mm ss => ∃ (s : Nat) (q : AV) (h2 : Hp) (u4 u8 u11 u18 u40 : AV), (mm = w - s) ∧ (s ≤ w ∧ Grown h1 h2 ∧ Own h1.next h2.blks .i64 q ((List.range s).map fun x : Nat => ((lnz k j zs x : Nat) : Int)) ∧ Inj (lnz k j zs) s) ∧ ss = { fr := [(0, .int .i64 k), (1, a), (4, u4), (5, .int .i64 j), (6, q), (7, .int .i64 s), (8, u8), (11, u11), (18, u18), (40, u40)], hp := h2 }) (w) ?_ ?_
    ·
      refine ⟨0, _, _, _, _, _, _, _, by omega, ⟨by omega, Grown.pu Grown.refl rfl, O, fun i hi => absurd hi (by omega)⟩, rfl⟩
    rintro nB sB ⟨s, q, h2, u4, u8, u11, u18, u40, hnB, ⟨hs, g2, o2, hI⟩, rfl⟩
    have k2 := g2.ok k1
    have b2 := (ha.sub (g1.sub hk)).sub (g2.sub k1)
    simp (disch := first|(simp only [Nat.reduceBEq,wE];done)|((repeat' (first|assumption|exact mAx _|refine mBx ?_ ?_|exact mCx (by assumption)|refine mDx ?_|refine mEx ?_ ?_ ?_|exact mFx|refine mGx ?_ ?_ ?_|exact mHx|exact mIx _|(simp only [wM,Nat.reduceAdd,Nat.reduceLT,Nat.reduceLeDiff];done)));done)|omega|decide) only [e, sw, ↓wA,wB,wL,resOf,Nat.reduceBEq,Int.reduceBEq,Int.reduceBNe,Int.reduceLT,Int.reduceLE,Int.reduceAdd,Int.reduceSub,Int.reduceMul,Int.reduceToNat]
    refine ifThen_intro (fun e2 => ?_) (fun e2 => ?_) <;> have e2q := e2 <;> try simp [-List.getD_eq_getElem?_getD] at e2q
    · obtain ⟨q1, q2⟩ := hp.pnt (s := s) (by omega)
      obtain ⟨t, et⟩ : ∃ t, t = pnt zs s := ⟨_, rfl⟩
      rw [← et] at q1 q2
      have L := lin_or k (by omega) j (by omega) s (by omega) t (by omega) (by omega) (by omega) (by omega) q2
      have el : lnz k j zs s = lin k j s t := by rw [lnz, ← et]
      have sb : (k : Int) - (j : Int) = ((k - j : Nat) : Int) := by omega
      have hl1 : s < zs.length := by omega
      have pj : 2 ^ j ≤ 8 := pow8 (by omega)
      have pkj : 2 ^ (k - j) ≤ 8 := pow8 (by omega)
      have pkj0 : 0 < 2 ^ (k - j) := Nat.pow_pos (by omega)
      have s1 := sBin_shl1 (j := k - j) (by omega)
      have s2 : sBin .rem .no (.int .i64 (s : Int)) (.int .i64 ((2 ^ (k - j) : Nat) : Int)) = some (.int .i64 ((s % 2 ^ (k - j) : Nat) : Int)) := by
        rw [sBin_rem (by omega) (by omega)]; rfl
      have hm := Nat.mod_lt s pkj0
      have sm : s % 2 ^ (k - j) * 2 ^ j ≤ 8 * 8 := Nat.mul_le_mul (by omega) pj
      have s3 := sBin_shlN (a := s % 2 ^ (k - j)) (j := j) (by omega) (by omega)
      have s4 := sBin_shrN (a := t) (j := k - j) (by omega)
      have td : t / 2 ^ (k - j) ≤ t := Nat.div_le_self _ _
      have s5 : ((s % 2 ^ (k - j) * 2 ^ j : Nat) : Int) + ((t / 2 ^ (k - j) : Nat) : Int) = ((lnz k j zs s : Nat) : Int) := by rw [el, lin]; omega
      have lb : lnz k j zs s < 8 := by rw [el]; omega
      have H := f46 q _ ((lnz k j zs s : Nat) : Int) h2 k2 o2.ints (by simp; omega)
      by_cases c : ((lnz k j zs s : Nat) : Int) ∈ (List.range s).map fun x : Nat => ((lnz k j zs x : Nat) : Int)
      · rw [decide_eq_true c] at H
        simp (disch := first|(simp only [Nat.reduceBEq,wE];done)|((repeat' (first|assumption|exact mAx _|refine mBx ?_ ?_|exact mCx (by assumption)|refine mDx ?_|refine mEx ?_ ?_ ?_|exact mFx|refine mGx ?_ ?_ ?_|exact mHx|exact mIx _|(simp only [wM,Nat.reduceAdd,Nat.reduceLT,Nat.reduceLeDiff];done)));done)|omega|decide) only [e, e2, sb, s1, s2, s3, b2.ix, b2.ld, q1, s4, s5, callT H, ↓wA,wB,wL,resOf,Nat.reduceBEq,Int.reduceBEq,Int.reduceBNe,Int.reduceLT,Int.reduceLE,Int.reduceAdd,Int.reduceSub,Int.reduceMul,Int.reduceToNat]
        refine ⟨_, rfl, ?_, GrownR.trans g1 g2⟩
        obtain ⟨x, hx, hex⟩ := List.mem_map.1 c
        have : ¬ OmP k zs := fun H => by
          have := H (j - 1) (by omega)
          rw [show j - 1 + 1 = j by omega] at this
          exact this s (by omega) x (List.mem_range.1 hx) (by omega)
        rw [decide_eq_false this]
      · rw [decide_eq_false c] at H
        obtain ⟨s5', h5, e5, o5, g5, n5⟩ := own_app1 (v := ((lnz k j zs s : Nat) : Int)) k1 g2 o2 (by simp; omega)
        simp (disch := first|(simp only [Nat.reduceBEq,wE];done)|((repeat' (first|assumption|exact mAx _|refine mBx ?_ ?_|exact mCx (by assumption)|refine mDx ?_|refine mEx ?_ ?_ ?_|exact mFx|refine mGx ?_ ?_ ?_|exact mHx|exact mIx _|(simp only [wM,Nat.reduceAdd,Nat.reduceLT,Nat.reduceLeDiff];done)));done)|omega|decide) only [e, e2, sb, s1, s2, s3, b2.ix, b2.ld, q1, s4, s5, callT H, e5, ↓wA,wB,wL,resOf,Nat.reduceBEq,Int.reduceBEq,Int.reduceBNe,Int.reduceLT,Int.reduceLE,Int.reduceAdd,Int.reduceSub,Int.reduceMul,Int.reduceToNat]
        refine ⟨_, ?_, s + 1, s5', h5, _, _, _, _, _, rfl, ?_, rfl⟩
        · omega
        refine ⟨by omega, g5, ?_, inj_succ.2 ⟨hI, fun x hx he => c (List.mem_map.2 ⟨x, List.mem_range.2 hx, by rw [he]⟩)⟩⟩
        rw [List.range_succ, List.map_append]
        exact o5
    · simp (disch := first|(simp only [Nat.reduceBEq,wE];done)|((repeat' (first|assumption|exact mAx _|refine mBx ?_ ?_|exact mCx (by assumption)|refine mDx ?_|refine mEx ?_ ?_ ?_|exact mFx|refine mGx ?_ ?_ ?_|exact mHx|exact mIx _|(simp only [wM,Nat.reduceAdd,Nat.reduceLT,Nat.reduceLeDiff];done)));done)|omega|decide) only [e, e2, ↓wA,wB,wL,resOf,Nat.reduceBEq,Int.reduceBEq,Int.reduceBNe,Int.reduceLT,Int.reduceLE,Int.reduceAdd,Int.reduceSub,Int.reduceMul,Int.reduceToNat]
      refine ⟨_, ?_, j + 1, h2, _, _, _, _, _, _, _, rfl, ?_, rfl⟩
      · omega
      refine ⟨by omega, by omega, GrownR.trans g1 g2, fun i hi => ?_⟩
      by_cases ei : i + 1 = j
      · rw [ei, ← ew, show w = s by omega]
        exact hI
      · exact hJ i (by omega)
  · simp (disch := first|(simp only [Nat.reduceBEq,wE];done)|((repeat' (first|assumption|exact mAx _|refine mBx ?_ ?_|exact mCx (by assumption)|refine mDx ?_|refine mEx ?_ ?_ ?_|exact mFx|refine mGx ?_ ?_ ?_|exact mHx|exact mIx _|(simp only [wM,Nat.reduceAdd,Nat.reduceLT,Nat.reduceLeDiff];done)));done)|omega|decide) only [e, ↓wA,wB,wL,resOf,Nat.reduceBEq,Int.reduceBEq,Int.reduceBNe,Int.reduceLT,Int.reduceLE,Int.reduceAdd,Int.reduceSub,Int.reduceMul,Int.reduceToNat]
    refine ⟨_, rfl, ?_, g1⟩
    have H : OmP k zs := fun i hi => hJ i (by omega)
    rw [decide_eq_true H]
end Go.Proofs.YtbomimhfldmlbaaDoor
