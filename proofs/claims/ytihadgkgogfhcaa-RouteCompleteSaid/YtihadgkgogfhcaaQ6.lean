/- Pairs of bytes, writes in slices that were passed in, parts of slices, orders that the laws make. -/
import Derived.Test.YtihadgkgogfhcaaQ1
import Derived.Test.YtihadgkgogfhcaaKD
set_option linter.unusedSimpArgs false
set_option linter.unusedVariables false
set_option maxHeartbeats 4000000
set_option maxRecDepth 20000
namespace Go.Abs
/- Arrays of two bytes. -/
def pairs8 (l : List (Int × Int)) : List AV := l.flatMap fun p => [.int .u8 p.1, .int .u8 p.2]
theorem pairs8_cons {p : Int × Int} {r : List (Int × Int)} : pairs8 (p :: r) = .int .u8 p.1 :: .int .u8 p.2 :: pairs8 r := by simp [pairs8]
theorem pairs8_len : ∀ {l : List (Int × Int)}, (pairs8 l).length = l.length * 2
  | [] => rfl
  | p :: r => by
    have := pairs8_len (l := r)
    rw [pairs8_cons]
    simp only [List.length_cons] at this ⊢
    omega
theorem pairs8_get : ∀ {l : List (Int × Int)} {i : Nat}, i < l.length → (pairs8 l)[i * 2]? = some (.int .u8 (l.getD i (0, 0)).1) ∧ (pairs8 l)[i * 2 + 1]? = some (.int .u8 (l.getD i (0, 0)).2)
  | [], i, h => by simp at h
  | p :: r, 0, _ => by simp [pairs8_cons]
  | p :: r, i + 1, h => by
    have := pairs8_get (l := r) (i := i) (by simpa using h)
    rw [pairs8_cons]
    constructor
    · rw [show (i + 1) * 2 = (i * 2) + 1 + 1 by omega, List.getElem?_cons_succ, List.getElem?_cons_succ, this.1]; simp
    · rw [show (i + 1) * 2 + 1 = (i * 2 + 1) + 1 + 1 by omega, List.getElem?_cons_succ, List.getElem?_cons_succ, this.2]; simp
theorem pairs8_take : ∀ {l : List (Int × Int)} {i : Nat}, (pairs8 l).take (i * 2) = pairs8 (l.take i)
  | [], i => by simp [pairs8]
  | p :: r, 0 => by simp [pairs8]
  | p :: r, i + 1 => by
    rw [pairs8_cons, show (i + 1) * 2 = i * 2 + 1 + 1 by omega, List.take_succ_cons, List.take_succ_cons, pairs8_take (l := r), List.take_succ_cons, pairs8_cons]
def Pairs8 (bs : List (Nat × Blk)) (a : AV) (l : List (Int × Int)) : Prop := Arr bs 2 a l.length (pairs8 l)
section
variable {bs bs' : List (Nat × Blk)} {a : AV} {l : List (Int × Int)}
theorem Pairs8.sub (H : Pairs8 bs a l) (s : Sub bs bs') : Pairs8 bs' a l := Arr.sub H s
theorem Pairs8.len (H : Pairs8 bs a l) : ∀ h, sLen h a = some (.int .i64 l.length, h) := Arr.len H
theorem Pairs8.ix (H : Pairs8 bs a l) {i : Nat} (h : Hp) (hi : i < l.length) : sIxS 2 h (some i) a = some (cellAt a i, h) := Arr.ix H h hi
theorem Pairs8.ixA (H : Pairs8 bs a l) {i j : Nat} (h : Hp) (hi : i < l.length) (hj : j < 2) : sIxA 2 1 h (some j) (cellAt a i) = some (cellF a i j, h) := by
  obtain ⟨_, ⟨h0, _⟩ | ⟨id, off, cap, rfl, _⟩⟩ := H
  · omega
  · have : Nat.blt j 2 = true := by simpa [Nat.blt_eq] using hj
    simp only [cellAt, sIxA, this, cond_true, cellF, Nat.mul_one]
theorem Pairs8.ld0 (H : Pairs8 bs a l) (s : Sub bs bs') {i : Nat} (hi : i < l.length) : cellV bs' a i 0 = some (.int .u8 (l.getD i (0, 0)).1) := by
  rw [Arr.ld H s hi (by omega), Nat.add_zero, (pairs8_get hi).1]
theorem Pairs8.ld1 (H : Pairs8 bs a l) (s : Sub bs bs') {i : Nat} (hi : i < l.length) : cellV bs' a i 1 = some (.int .u8 (l.getD i (0, 0)).2) := by
  rw [Arr.ld H s hi (by omega), (pairs8_get hi).2]
end
end Go.Abs
namespace Go.Abs
/-- Blocks were written to, but none came. -/
structure Mut (h h' : Hp) : Prop where
  next : h'.next = h.next
  len : h'.blks.length = h.blks.length
theorem Mut.refl (h : Hp) : Mut h h := ⟨rfl, rfl⟩
theorem Mut.en (h : Hp) : Mut h h.en := ⟨rfl, rfl⟩
theorem Mut.trans {a b c : Hp} (h : Mut a b) (h' : Mut b c) : Mut a c := ⟨h'.next.trans h.next, h'.len.trans h.len⟩
theorem trunc_len : ∀ (l : List (Nat × Blk)) (c s n : Nat), (trunc l c s n).length = l.length
  | [], _, _, _ => rfl
  | (j, b) :: r, c, s, n => by
    simp only [trunc]
    cases Nat.blt j c
    · simp only [cond_false, List.length_cons, trunc_len r]
    · rfl
theorem setB_len : ∀ (l : List (Nat × Blk)) (i : Nat) (v : Blk), (setB l i v).length = l.length
  | [], _, _ => rfl
  | (j, b) :: r, i, v => by
    simp only [setB]
    cases Nat.beq j i
    · simp only [cond_false, List.length_cons, setB_len r]
    · rfl
theorem write_mut {h h' : Hp} {id off : Nat} {vs : List AV} (e : h.write id off vs = some h') : Mut h h' := by
  unfold Hp.write at e
  split at e
  · rename_i b hb
    cases hc : (b.wr && Nat.ble (off + vs.length) b.cells.length && vs.all AV.isCell)
    · rw [hc] at e
      cases e
    · rw [hc] at e
      cases e
      exact ⟨rfl, by rw [setB_len, trunc_len]⟩
  · cases e
theorem sStore_mut {n : Nat} {h h' : Hp} {x a v : AV} (e : sStore n h x a = some (v, h')) : Mut h h' := by
  unfold sStore at e
  split at e
  · split at e
    · rename_i vs hv
      cases hn : Nat.beq vs.length n
      · rw [hn] at e
        cases e
      · rw [hn] at e
        simp only [cond_true, Option.map_eq_some_iff] at e
        obtain ⟨h1, e1, e2⟩ := e
        cases e2
        exact write_mut e1
    · cases e
  · cases e

/-- A call that writes, and returns nothing. -/
theorem evals_mut {P : Program} {T : Tab} {f : Nat} {sf : SFun} (hc : compF P f = some sf) {args : List AV} {h0 h : Hp} (ho : Hok h0) (g0 : Grown h0 h) (Q : List (Nat × Blk) → Prop) (hlen : Nat.ble args.length sf.nt = true)
    (H : wp (Evals P T false) sf.body { fr := initS sf.slots args, hp := { next := h.next, blks := h.blks, loops := h.loops, base := h.next, esc := false } } fun e s => (match e with | .exit _ => False | _ => True) ∧ ∃ vs, sresVs s.fr s.hp sf.res = some vs ∧ resOf vs = .tu [] ∧ Mut h s.hp ∧ Grown h0 s.hp ∧ Q s.hp.blks)
    (hT : T f args h = none := by rfl) :
    ∃ v h', Evals P T false (.func f) args h (v, h') ∧ (v = .tu [] ∧ Mut h h' ∧ Grown h0 h' ∧ Q h'.blks) :=
  evals_func (Q := fun v h' => v = .tu [] ∧ Mut h h' ∧ Grown h0 h' ∧ Q h'.blks) hc hlen (wp_mono (fun e s Hs => by
    obtain ⟨h1, vs, h2, h3, m, g, q⟩ := Hs
    refine ⟨h1, vs, h2, h3, ?_⟩
    have : leave false h (resOf vs) s.hp = { s.hp with base := h.base, esc := h.esc } := by
      have hd : s.hp.blks.drop (s.hp.blks.length - h.blks.length) = s.hp.blks := by rw [m.len, Nat.sub_self, List.drop_zero]
      have hk := g0.ok ho
      have hll : lowL h.next s.hp.loops = s.hp.loops := by rw [g.loops, ← g0.loops]; exact lowL_same fun x hx => HokR.lps hk hx
      simp only [leave, cond_false, hd, hll]
      cases (refOK h.next (resOf vs) && selfOK h.next s.hp.blks s.hp.loops)
      · rfl
      · simp only [cond_true, m.next]
    rw [this]
    exact ⟨⟨m.next, m.len⟩, g, q⟩) H) hT

theorem Arr.sl {bs : List (Nat × Blk)} {sz n : Nat} {a : AV} {cs : List AV} (H : Arr bs sz a n cs) {lo hi : Option (Option Nat)} {l u : Nat} (el : bndV 0 lo = some l) (eu : bndV n hi = some u) (h1 : l ≤ u) (h2 : u ≤ n) (h : Hp) :
    ∃ a', sSl sz h lo hi a = some (a', h) ∧ Arr bs sz a' (u - l) ((cs.drop (l * sz)).take ((u - l) * sz)) := by
  obtain ⟨hl, H | ⟨id, off, cap, rfl, hcap, hc⟩⟩ := H
  · obtain ⟨rfl, ha⟩ := H
    have hu : u = 0 := by omega
    subst hu
    have hl0 : l = 0 := by omega
    subst hl0
    have hcs : cs = [] := List.length_eq_zero_iff.1 (by simpa using hl)
    subst hcs
    rcases ha with rfl | rfl
    · refine ⟨.nilsl, ?_, by simpa using Arr.nil⟩
      simp only [sSl, el, eu]
    · refine ⟨.esl, ?_, by simpa using Arr.esl⟩
      simp only [sSl, el, eu]
  · have hb : (Nat.ble l u && Nat.beq sz sz) = true := by rw [Nat.ble_eq_true_of_le h1, Nat.beq_refl]; rfl
    have hm : (u - l) * sz + l * sz = u * sz := by rw [← Nat.add_mul]; congr 1; omega
    have hun : u * sz ≤ n * sz := Nat.mul_le_mul_right _ h2
    have key : ∀ j, j < (u - l) * sz → cellB bs id (off + l * sz + j) = ((cs.drop (l * sz)).take ((u - l) * sz))[j]? := fun j hj => by
      rw [List.getElem?_take_of_lt hj, List.getElem?_drop, Nat.add_assoc]
      exact hc _ (by omega)
    have len : ((cs.drop (l * sz)).take ((u - l) * sz)).length = (u - l) * sz := by
      rw [List.length_take, List.length_drop, hl]
      omega
    cases cap with
    | none =>
      simp only [sSl, el, eu, hb, cond_true, Nat.ble_eq_true_of_le h2]
      cases hq : Nat.blt l n
      · have : ¬ l < n := fun h => by rw [show Nat.blt l n = true from by simpa [Nat.blt_eq] using h] at hq; cases hq
        have e : u - l = 0 := by omega
        refine ⟨.esl, rfl, ?_⟩
        rw [e]
        simpa using Arr.esl
      · exact ⟨_, rfl, len, .inr ⟨id, off + l * sz, none, rfl, trivial, key⟩⟩
    | some c =>
      have hcap' : n ≤ c := hcap
      simp only [sSl, el, eu, hb, cond_true, Nat.ble_eq_true_of_le (show u ≤ c by omega)]
      cases hq : Nat.beq c l
      · exact ⟨_, rfl, len, .inr ⟨id, off + l * sz, some (c - l), rfl, show u - l ≤ c - l by omega, key⟩⟩
      · have := Nat.eq_of_beq_eq_true hq
        have e : u - l = 0 := by omega
        refine ⟨_, rfl, len, .inr ⟨id, off, some 0, rfl, show u - l ≤ 0 by omega, fun j hj => ?_⟩⟩
        rw [e] at hj
        omega
theorem Ints.sl {bs : List (Nat × Blk)} {k : IntKind} {a : AV} {zs : List Int} (H : Ints bs k a zs) {lo hi : Option (Option Nat)} {l u : Nat} (el : bndV 0 lo = some l) (eu : bndV zs.length hi = some u) (h1 : l ≤ u) (h2 : u ≤ zs.length) (h : Hp) :
    ∃ a', sSl 1 h lo hi a = some (a', h) ∧ Ints bs k a' ((zs.drop l).take (u - l)) := by
  obtain ⟨a', e, i⟩ := Arr.sl H el eu h1 h2 h
  refine ⟨a', e, ?_⟩
  unfold Ints
  have : (((zs.drop l).take (u - l)).length) = u - l := by simp; omega
  rw [this]
  have e2 : ((ints k zs).drop (l * 1)).take ((u - l) * 1) = ints k ((zs.drop l).take (u - l)) := by simp [ints, Nat.mul_one]
  rw [← e2]
  exact i
end Go.Abs
namespace Go.Pa
def ofN (l : List Nat) : List Int := l.map fun x : Nat => (x : Int)
theorem ofN_len {l : List Nat} : (ofN l).length = l.length := by simp [ofN]
theorem ofN_at {l : List Nat} {i : Nat} : (ofN l).getD i 0 = ((l.getD i 0 : Nat) : Int) := by
  simp only [ofN, List.getD_eq_getElem?_getD, List.getElem?_map]
  cases l[i]? <;> simp
theorem nth_perm {code : List Nat} {n : Nat} : PermI n (ofN (nthC code n)) := by
  refine ⟨by rw [ofN_len, nthC_len], fun z hz => ?_, ?_⟩
  · obtain ⟨x, hx, rfl⟩ := List.mem_map.1 hz
    have := nthC_lt n x hx
    omega
  · unfold ofN
    rw [List.Nodup, List.pairwise_map]
    exact List.Pairwise.imp (fun h e => h (by omega)) (nthC_nodup n)
end Go.Pa
namespace Go.Proofs.Ytihadgkgogfhcaa
open Go Go.Abs Go.Pa
theorem f34 (n : Nat) (a : AV) (code : List Nat) (h : Hp) (hk : Hok h) (ha : Ints h.blks .u8 a (ofN code)) (hn : n ≤ 1000) (hl : code.length < 2 ^ 63) (hb : ∀ x ∈ code, x ≤ 255) :
    ∃ v h', Evals Try.prog tab false (.func 34) [.int .i64 n, a] h (v, h') ∧ Grown h h' ∧ Own h.next h'.blks .i64 v (ofN (nthC code n)) := by
  refine evals_q c34 (fun v h' => Own h.next h'.blks .i64 v (ofN (nthC code n))) rfl hk ?_ (fun v h1 g q => q.leave)
  simp only [sf34, initS_cons, initS_nil]
  have O : Own h.next (h.en.pu []).blks .i64 (.sl h.next 0 0 (some 0) 1) [] := Own.fresh (Nat.le_refl _) rfl rfl rfl (Nat.le_refl _)
  simp (disch := first|(simp only [Nat.reduceBEq,wE];done)|((repeat' (first|assumption|exact mAx _|refine mBx ?_ ?_|exact mCx (by assumption)|refine mDx ?_|refine mEx ?_ ?_ ?_|exact mFx|refine mGx ?_ ?_ ?_|exact mHx|exact mIx _|(simp only [wM,Nat.reduceAdd,Nat.reduceLT,Nat.reduceLeDiff];done)));done)|omega|decide) only [↓wA,wB,wL,resOf,Nat.reduceBEq,Int.reduceBEq,Int.reduceBNe,Int.reduceLT,Int.reduceLE,Int.reduceAdd,Int.reduceSub,Int.reduceMul,Int.reduceToNat]
  refine wloop (fun mm ss => ∃ (i : Nat) (q : AV) (h1 : Hp) (u4 u7 u11 u17 : AV), (mm = n - i) ∧ (i ≤ n ∧ Grown h h1 ∧ Own h.next h1.blks .i64 q (ofN (nthC code i))) ∧ ss = { fr := [(0, .int .i64 n), (1, a), (4, u4), (5, q), (6, .int .i64 i), (7, u7), (11, u11), (17, u17)], hp := h1 }) (n) ?_ ?_
  ·
    refine ⟨0, _, _, _, _, _, _, by omega, ⟨by omega, Grown.pu Grown.en rfl, O⟩, rfl⟩
  rintro nA sA ⟨i, q, h1, u4, u7, u11, u17, hnA, ⟨hi, g1, o1⟩, rfl⟩
  have k1 := g1.ok hk
  have a1 := ha.sub (g1.sub hk)
  simp (disch := first|(simp only [Nat.reduceBEq,wE];done)|((repeat' (first|assumption|exact mAx _|refine mBx ?_ ?_|exact mCx (by assumption)|refine mDx ?_|refine mEx ?_ ?_ ?_|exact mFx|refine mGx ?_ ?_ ?_|exact mHx|exact mIx _|(simp only [wM,Nat.reduceAdd,Nat.reduceLT,Nat.reduceLeDiff];done)));done)|omega|decide) only [↓wA,wB,wL,resOf,Nat.reduceBEq,Int.reduceBEq,Int.reduceBNe,Int.reduceLT,Int.reduceLE,Int.reduceAdd,Int.reduceSub,Int.reduceMul,Int.reduceToNat]
  refine ifThen_intro (fun e => ?_) (fun e => ?_) <;> have eq := e <;> try simp [-List.getD_eq_getElem?_getD] at eq
  · obtain ⟨k, ek⟩ : ∃ k, k = code.getD i 0 % (i + 1) := ⟨_, rfl⟩
    have kl : k ≤ i := by rw [ek]; exact Nat.lt_succ_iff.1 (Nat.mod_lt _ (Nat.succ_pos i))
    have hlen : (ofN (nthC code i)).length = i := by rw [ofN_len, nthC_len]
    have lenc : (ofN code).length = code.length := ofN_len
    -- the new list
    have O2 : Own h1.next (h1.pu []).blks .i64 (.sl h1.next 0 0 (some 0) 1) [] := Own.fresh (Nat.le_refl _) rfl rfl rfl (Nat.le_refl _)
    have g2 : Grown h1 (h1.pu []) := Grown.pu Grown.refl rfl
    obtain ⟨t1, et1, it1⟩ := (o1.ints.sub (g2.sub k1)).upto (m := k) (by omega) (h1.pu [])
    obtain ⟨s1, h3, e3, o3, g3, _⟩ := own_appI (h0 := h1) (h := h1.pu []) k1 g2 O2 it1 (by simp; omega)
    rw [List.nil_append] at o3
    obtain ⟨s2, h4, e4, o4, g4, _⟩ := own_app1 (v := (i : Int)) k1 g3 o3 (by simp; omega)
    obtain ⟨t2, et2, it2⟩ := Ints.sl (o1.ints.sub (g4.sub k1)) (lo := some (some k)) (hi := none) (l := k) (u := i) rfl (by rw [hlen]; rfl) kl (by omega) h4
    obtain ⟨s3, h5, e5, o5, g5, _⟩ := own_appI k1 g4 o4 it2 (by simp; omega)
    have res : (ofN (nthC code i)).take k ++ [(i : Int)] ++ ((ofN (nthC code i)).drop k).take (i - k) = ofN (nthC code (i + 1)) := by
      rw [List.take_of_length_le (l := (ofN (nthC code i)).drop k) (by simp [hlen])]
      rw [nthC, ← ek]
      simp [ofN, insP]
    rw [res] at o5
    by_cases ec : i < code.length
    · have ect : decide ((i : Int) < (code.length : Int)) = true := decide_eq_true (by omega)
      have hx : code.getD i 0 ≤ 255 := by
        rw [List.getD_eq_getElem?_getD, List.getElem?_eq_getElem ec]
        exact hb _ (List.getElem_mem ec)
      have w : IntKind.wrap .i64 ((code.getD i 0 : Nat) : Int) = ((code.getD i 0 : Nat) : Int) := wrap_i64 (by omega) (by omega)
      have ad : (i : Int) + 1 = ((i + 1 : Nat) : Int) := by omega
      have rm : sBin .rem .no (.int .i64 ((code.getD i 0 : Nat) : Int)) (.int .i64 ((i + 1 : Nat) : Int)) = some (.int .i64 (k : Int)) := by
        rw [sBin_rem (by omega) (by omega), ek]; rfl
      simp (disch := first|(simp only [Nat.reduceBEq,wE];done)|((repeat' (first|assumption|exact mAx _|refine mBx ?_ ?_|exact mCx (by assumption)|refine mDx ?_|refine mEx ?_ ?_ ?_|exact mFx|refine mGx ?_ ?_ ?_|exact mHx|exact mIx _|(simp only [wM,Nat.reduceAdd,Nat.reduceLT,Nat.reduceLeDiff];done)));done)|omega|decide) only [e, a1.len, lenc, ect, a1.ix, a1.ld, ofN_at, w, ad, rm, et1, e3, e4, et2, e5, ↓wA,wB,wL,resOf,Nat.reduceBEq,Int.reduceBEq,Int.reduceBNe,Int.reduceLT,Int.reduceLE,Int.reduceAdd,Int.reduceSub,Int.reduceMul,Int.reduceToNat]
      refine ⟨_, ?_, i + 1, s3, h5, _, _, _, _, rfl, ?_, rfl⟩
      · omega
      exact ⟨by omega, GrownR.trans g1 g5, o5.le g1.next⟩
    · have ect : decide ((i : Int) < (code.length : Int)) = false := decide_eq_false (by omega)
      have k0 : k = 0 := by
        rw [ek, List.getD_eq_getElem?_getD, List.getElem?_eq_none (by omega)]
        exact Nat.zero_mod _
      rw [k0] at et1 et2
      have z1 : sSl 1 (h1.pu []) none (some (some 0)) q = some (t1, h1.pu []) := et1
      simp (disch := first|(simp only [Nat.reduceBEq,wE];done)|((repeat' (first|assumption|exact mAx _|refine mBx ?_ ?_|exact mCx (by assumption)|refine mDx ?_|refine mEx ?_ ?_ ?_|exact mFx|refine mGx ?_ ?_ ?_|exact mHx|exact mIx _|(simp only [wM,Nat.reduceAdd,Nat.reduceLT,Nat.reduceLeDiff];done)));done)|omega|decide) only [e, a1.len, lenc, ect, et1, e3, e4, et2, e5, idx?_lit0, ↓wA,wB,wL,resOf,Nat.reduceBEq,Int.reduceBEq,Int.reduceBNe,Int.reduceLT,Int.reduceLE,Int.reduceAdd,Int.reduceSub,Int.reduceMul,Int.reduceToNat]
      refine ⟨_, ?_, i + 1, s3, h5, _, _, _, _, rfl, ?_, rfl⟩
      · omega
      exact ⟨by omega, GrownR.trans g1 g5, o5.le g1.next⟩
  · simp (disch := first|(simp only [Nat.reduceBEq,wE];done)|((repeat' (first|assumption|exact mAx _|refine mBx ?_ ?_|exact mCx (by assumption)|refine mDx ?_|refine mEx ?_ ?_ ?_|exact mFx|refine mGx ?_ ?_ ?_|exact mHx|exact mIx _|(simp only [wM,Nat.reduceAdd,Nat.reduceLT,Nat.reduceLeDiff];done)));done)|omega|decide) only [e, ↓wA,wB,wL,resOf,Nat.reduceBEq,Int.reduceBEq,Int.reduceBNe,Int.reduceLT,Int.reduceLE,Int.reduceAdd,Int.reduceSub,Int.reduceMul,Int.reduceToNat]
    refine ⟨_, rfl, g1, ?_⟩
    rw [show n = i by omega]
    exact o1
end Go.Proofs.Ytihadgkgogfhcaa
