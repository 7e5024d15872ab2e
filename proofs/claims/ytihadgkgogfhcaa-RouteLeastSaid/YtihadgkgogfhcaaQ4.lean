/- The positions of an order's vertices; checks of graphs and orders; the greatest number. -/
import Derived.Test.YtihadgkgogfhcaaQ3
set_option linter.unusedSimpArgs false
set_option linter.unusedVariables false
set_option maxHeartbeats 4000000
set_option maxRecDepth 20000
namespace Go.Ro
open Go.Abs Go.Pa
def GOK (n : Int) (E : List (Int × Int)) : Prop := (1 ≤ n ∧ n ≤ 8) ∧ ∀ e ∈ E, (0 ≤ e.1 ∧ e.1 ≤ n - 1) ∧ (0 ≤ e.2 ∧ e.2 ≤ n - 1) ∧ e.1 ≠ e.2
instance (n : Int) (E : List (Int × Int)) : Decidable (GOK n E) := inferInstanceAs (Decidable (_ ∧ _))
def errG (n : Int) (E : List (Int × Int)) : Int := if 30 < E.length then 3 else if GOK n E then 0 else 1
def errO (n : Int) (E : List (Int × Int)) (zs : List Int) : Int := if errG n E ≠ 0 then errG n E else if PermI n zs then 0 else 2
theorem errG_0 {n : Int} {E : List (Int × Int)} : errG n E = 0 ↔ E.length ≤ 30 ∧ GOK n E := by
  unfold errG
  by_cases h1 : 30 < E.length
  · rw [if_pos h1]; simp; omega
  · rw [if_neg h1]
    by_cases h2 : GOK n E
    · rw [if_pos h2]; simp [h2]; omega
    · rw [if_neg h2]; simp [h2]
theorem GOK.nat {n : Int} {E : List (Int × Int)} (h : GOK n E) : ∃ k : Nat, n = k ∧ 0 < k ∧ k ≤ 8 ∧ EdgeOK k E := by
  obtain ⟨h1, h2⟩ := h
  obtain ⟨k, rfl⟩ : ∃ k : Nat, n = k := ⟨n.toNat, by omega⟩
  refine ⟨k, rfl, by omega, by omega, fun e he => ?_⟩
  have := h2 e he
  exact ⟨by omega, by omega, this.2.2⟩
theorem gok {k : Nat} {E : List (Int × Int)} (h0 : 0 < k) (h8 : k ≤ 8) (h : EdgeOK k E) : GOK k E := ⟨by omega, fun e he => by have := h e he; exact ⟨by omega, by omega, this.2.2⟩⟩
theorem EdgeOK.in8 {k : Nat} {E : List (Int × Int)} (h : EdgeOK k E) (h8 : k ≤ 8) : In8 E := fun e he => by have := h e he; omega
def bad (n : Int) (e : Int × Int) : Bool := !(decide (0 ≤ e.1 ∧ e.1 ≤ n - 1)) || !(decide (0 ≤ e.2 ∧ e.2 ≤ n - 1)) || e.1 == e.2
theorem bad_any {n : Int} {E : List (Int × Int)} (hn : 1 ≤ n ∧ n ≤ 8) : E.any (bad n) = !decide (GOK n E) := by
  rw [Bool.eq_iff_iff]
  simp only [List.any_eq_true, Bool.not_eq_true', decide_eq_false_iff_not, GOK, hn, and_self, true_and, bad, Bool.or_eq_true, Bool.not_eq_true', decide_eq_false_iff_not, beq_iff_eq]
  constructor
  · rintro ⟨e, he, h⟩ H
    have := H e he
    rcases h with (h | h) | h
    · exact h this.1
    · exact h this.2.1
    · exact this.2.2 h
  · intro H
    refine Classical.byContradiction fun hc => H fun e he => ?_
    refine ⟨Classical.byContradiction fun h => hc ⟨e, he, .inl (.inl h)⟩, Classical.byContradiction fun h => hc ⟨e, he, .inl (.inr h)⟩, fun h => hc ⟨e, he, .inr h⟩⟩
/- Positions while they are filled in. -/
def posU (zs : List Int) (i : Nat) (v : Int) : Int := if v ∈ zs.take i then ((zs.take i).idxOf v : Int) else zs.length
theorem posU_step {zs : List Int} (hd : zs.Nodup) {i : Nat} (hi : i < zs.length) (v : Int) : (if v = zs.getD i 0 then (i : Int) else posU zs i v) = posU zs (i + 1) v := by
  unfold posU
  rw [List.take_succ_eq_append_getElem hi, getD_at hi]
  have hn : zs[i] ∉ zs.take i := fun h => by
    have := hd.sublist (List.take_sublist (i + 1) zs)
    rw [List.take_succ_eq_append_getElem hi, List.nodup_append] at this
    exact absurd rfl (this.2.2 _ h _ (by simp))
  by_cases e : v = zs[i]
  · rw [if_pos e, e, if_pos (List.mem_append.2 (.inr (List.mem_singleton.2 rfl))), List.idxOf_append, if_neg hn]
    simp; omega
  · rw [if_neg e]
    by_cases h : v ∈ zs.take i
    · rw [if_pos h, if_pos (List.mem_append.2 (.inl h)), List.idxOf_append, if_pos h]
    · rw [if_neg h, if_neg fun hm => (List.mem_append.1 hm).elim h fun hm => e (List.mem_singleton.1 hm)]
theorem posU_end {zs : List Int} (v : Int) : posU zs zs.length v = pos zs v := by
  unfold posU
  rw [List.take_length]
  by_cases h : v ∈ zs
  · rw [if_pos h]; rfl
  · rw [if_neg h, pos_no h]
theorem mxL_snoc {zs : List Int} {i : Nat} (hi : i < zs.length) (h : ∀ z ∈ zs, 0 ≤ z) : mxL (zs.take (i + 1)) = max (mxL (zs.take i)) (zs.getD i 0) := by
  rw [List.take_succ_eq_append_getElem hi, mxL_app, getD_at hi]
  have := h _ (List.getElem_mem hi)
  simp only [mxL]; omega
end Go.Ro
namespace Go.Proofs.Ytihadgkgogfhcaa
open Go Go.Abs Go.Pa Go.Ro

theorem f37 (a : AV) (zs : List Int) (h : Hp) (hk : Hok h) (ha : Ints h.blks .i64 a zs) (hz : zs.length ≤ 8) (hr : ∀ z ∈ zs, 0 ≤ z ∧ z < 8) (hd : zs.Nodup) :
    Evals Try.prog tab false (.func 37) [a] h (.ag (ints .i64 (pArr (pos zs))), h) := by
  refine evals_pure c37 rfl hk ?_ (refsOK_ints)
  simp only [sf37, initS_cons, initS_nil]
  have g1 : Grown h ((h.en.pu (ints .i64 (tabF 8 fun _ => 0))).pu (ints .i64 (tabF 8 fun _ => 0))) := Grown.pu (Grown.pu Grown.en refsOK_ints) refsOK_ints
  have B0 : ArrB h.next ((h.en.pu (ints .i64 (tabF 8 fun _ => 0))).pu (ints .i64 (tabF 8 fun _ => 0))).blks h.next (tabF 8 fun _ => 0) := ⟨by rw [lkB_push (by simp), lkB_top], Nat.le_refl _⟩
  have C0 : ArrB h.next ((h.en.pu (ints .i64 (tabF 8 fun _ => 0))).pu (ints .i64 (tabF 8 fun _ => 0))).blks (h.next + 1) (tabF 8 fun v : Nat => if v < 0 then (zs.length : Int) else 0) := ⟨by rw [lkB_top]; rfl, by omega⟩
  rw [zero8]
  simp (disch := first|(simp only [Nat.reduceBEq,wE];done)|((repeat' (first|assumption|exact mAx _|refine mBx ?_ ?_|exact mCx (by assumption)|refine mDx ?_|refine mEx ?_ ?_ ?_|exact mFx|refine mGx ?_ ?_ ?_|exact mHx|exact mIx _|(simp only [wM,Nat.reduceAdd,Nat.reduceLT,Nat.reduceLeDiff];done)));done)|omega|decide) only [↓wA,wB,wL,resOf,Nat.reduceBEq,Int.reduceBEq,Int.reduceBNe,Int.reduceLT,Int.reduceLE,Int.reduceAdd,Int.reduceSub,Int.reduceMul,Int.reduceToNat]
  refine wloop (fun mm ss => ∃ (i : Nat) (h1 : Hp) (u4 u5 u6 u8 u15 u16 u17 u18 : AV), (mm = 8 - i) ∧ (i ≤ 8 ∧ Grown h h1 ∧ ArrB h.next h1.blks h.next (tabF 8 fun _ => 0) ∧ ArrB h.next h1.blks (h.next + 1) (tabF 8 fun v : Nat => if v < i then (zs.length : Int) else 0)) ∧ ss = { fr := [(0, a), (2, .ptr h.next 0), (3, .ptr (h.next + 1) 0), (4, u4), (5, u5), (6, u6), (7, .int .i64 i), (8, u8), (15, u15), (16, u16), (17, u17), (18, u18)], hp := h1 }) (8) ?_ ?_
  ·
    refine ⟨0, _, _, _, _, _, _, _, _, _, by omega, ⟨by omega, g1, B0, C0⟩, rfl⟩
  rintro nA sA ⟨i, h1, u4, u5, u6, u8, u15, u16, u17, u18, hnA, ⟨hi, g2, B2, C2⟩, rfl⟩
  have k2 := g2.ok hk
  have a2 := ha.sub (g2.sub hk)
  simp (disch := first|(simp only [Nat.reduceBEq,wE];done)|((repeat' (first|assumption|exact mAx _|refine mBx ?_ ?_|exact mCx (by assumption)|refine mDx ?_|refine mEx ?_ ?_ ?_|exact mFx|refine mGx ?_ ?_ ?_|exact mHx|exact mIx _|(simp only [wM,Nat.reduceAdd,Nat.reduceLT,Nat.reduceLeDiff];done)));done)|omega|decide) only [↓wA,wB,wL,resOf,Nat.reduceBEq,Int.reduceBEq,Int.reduceBNe,Int.reduceLT,Int.reduceLE,Int.reduceAdd,Int.reduceSub,Int.reduceMul,Int.reduceToNat]
  refine ifThen_intro (fun e => ?_) (fun e => ?_) <;> have eq := e <;> try simp [-List.getD_eq_getElem?_getD] at eq
  · have i8 : i < 8 := by omega
    obtain ⟨h3, es, C3, g3, n3, r3⟩ := arr_set (v := (zs.length : Int)) hk g2 C2 (i := i) (by rw [tabF_len]; exact i8)
    have eqc : (tabF 8 fun v : Nat => if v < i then (zs.length : Int) else 0).set i zs.length = tabF 8 fun v : Nat => if v < i + 1 then (zs.length : Int) else 0 := by
      rw [tabF_set i8]
      refine tabF_congr fun j _ => ?_
      by_cases ej : j = i
      · rw [if_pos ej, if_pos (by omega)]
      · rw [if_neg ej]
        by_cases hj : j < i
        · rw [if_pos hj, if_pos (by omega)]
        · rw [if_neg hj, if_neg (by omega)]
    rw [eqc] at C3
    simp (disch := first|(simp only [Nat.reduceBEq,wE];done)|((repeat' (first|assumption|exact mAx _|refine mBx ?_ ?_|exact mCx (by assumption)|refine mDx ?_|refine mEx ?_ ?_ ?_|exact mFx|refine mGx ?_ ?_ ?_|exact mHx|exact mIx _|(simp only [wM,Nat.reduceAdd,Nat.reduceLT,Nat.reduceLeDiff];done)));done)|omega|decide) only [e, a2.len, sIxA_ptr, Nat.add_zero, es, ↓wA,wB,wL,resOf,Nat.reduceBEq,Int.reduceBEq,Int.reduceBNe,Int.reduceLT,Int.reduceLE,Int.reduceAdd,Int.reduceSub,Int.reduceMul,Int.reduceToNat]
    refine ⟨_, ?_, i + 1, h3, _, _, _, _, _, _, _, _, rfl, ?_, rfl⟩
    · omega
    exact ⟨by omega, g3, ⟨r3 _ _ (by omega) (by simp) B2.1, B2.2⟩, C3⟩
  · have ei : i = 8 := by omega
    have eqc : (tabF 8 fun v : Nat => if v < i then (zs.length : Int) else 0) = tabF 8 fun v : Nat => posU zs 0 v := tabF_congr fun j hj => by
      rw [if_pos (by omega)]; simp [posU]
    rw [eqc] at C2
    simp (disch := first|(simp only [Nat.reduceBEq,wE];done)|((repeat' (first|assumption|exact mAx _|refine mBx ?_ ?_|exact mCx (by assumption)|refine mDx ?_|refine mEx ?_ ?_ ?_|exact mFx|refine mGx ?_ ?_ ?_|exact mHx|exact mIx _|(simp only [wM,Nat.reduceAdd,Nat.reduceLT,Nat.reduceLeDiff];done)));done)|omega|decide) only [e, a2.len, ↓wA,wB,wL,resOf,Nat.reduceBEq,Int.reduceBEq,Int.reduceBNe,Int.reduceLT,Int.reduceLE,Int.reduceAdd,Int.reduceSub,Int.reduceMul,Int.reduceToNat]
    refine wloop (fun mm ss => ∃ (i : Nat) (h1 : Hp) (u4 u5 u6 u7 u8 u18 : AV), (mm = zs.length - i) ∧ (i ≤ zs.length ∧ Grown h h1 ∧ ArrB h.next h1.blks h.next (tabF 8 fun _ => 0) ∧ ArrB h.next h1.blks (h.next + 1) (tabF 8 fun v : Nat => posU zs i v)) ∧ ss = { fr := [(0, a), (2, .ptr h.next 0), (3, .ptr (h.next + 1) 0), (4, u4), (5, u5), (6, u6), (7, u7), (8, u8), (15, a), (16, .int .i64 zs.length), (17, .int .i64 i), (18, u18)], hp := h1 }) (zs.length) ?_ ?_
    ·
      refine ⟨0, _, _, _, _, _, _, _, by omega, ⟨by omega, g2, B2, C2⟩, rfl⟩
    rintro nB sB ⟨i, h1, u4, u5, u6, u7, u8, u18, hnB, ⟨hj, g3, B3, C3⟩, rfl⟩
    have k3 := g3.ok hk
    have a3 := ha.sub (g3.sub hk)
    simp (disch := first|(simp only [Nat.reduceBEq,wE];done)|((repeat' (first|assumption|exact mAx _|refine mBx ?_ ?_|exact mCx (by assumption)|refine mDx ?_|refine mEx ?_ ?_ ?_|exact mFx|refine mGx ?_ ?_ ?_|exact mHx|exact mIx _|(simp only [wM,Nat.reduceAdd,Nat.reduceLT,Nat.reduceLeDiff];done)));done)|omega|decide) only [e, ↓wA,wB,wL,resOf,Nat.reduceBEq,Int.reduceBEq,Int.reduceBNe,Int.reduceLT,Int.reduceLE,Int.reduceAdd,Int.reduceSub,Int.reduceMul,Int.reduceToNat]
    refine ifThen_intro (fun e3 => ?_) (fun e3 => ?_) <;> have e3q := e3 <;> try simp [-List.getD_eq_getElem?_getD] at e3q
    · have hz1 : 0 ≤ zs.getD i 0 ∧ zs.getD i 0 < 8 := by rw [getD_at e3q]; exact hr _ (List.getElem_mem e3q)
      obtain ⟨z, ez⟩ : ∃ z : Nat, zs.getD i 0 = z := ⟨(zs.getD i 0).toNat, by omega⟩
      have z8 : z < 8 := by omega
      obtain ⟨h3, es, C4, g4, n4, r4⟩ := arr_set (v := (i : Int)) hk g3 C3 (i := z) (by rw [tabF_len]; exact z8)
      have eqc2 : (tabF 8 fun v : Nat => posU zs i v).set z i = tabF 8 fun v : Nat => posU zs (i + 1) v := by
        rw [tabF_set z8]
        refine tabF_congr fun j _ => ?_
        rw [← posU_step hd e3q, ez]
        by_cases ej : j = z
        · rw [if_pos ej, if_pos (by omega)]
        · rw [if_neg ej, if_neg (by omega)]
      rw [eqc2] at C4
      simp (disch := first|(simp only [Nat.reduceBEq,wE];done)|((repeat' (first|assumption|exact mAx _|refine mBx ?_ ?_|exact mCx (by assumption)|refine mDx ?_|refine mEx ?_ ?_ ?_|exact mFx|refine mGx ?_ ?_ ?_|exact mHx|exact mIx _|(simp only [wM,Nat.reduceAdd,Nat.reduceLT,Nat.reduceLeDiff];done)));done)|omega|decide) only [e, e3, a3.ix, a3.ld, ez, sIxA_ptr, Nat.add_zero, es, ↓wA,wB,wL,resOf,Nat.reduceBEq,Int.reduceBEq,Int.reduceBNe,Int.reduceLT,Int.reduceLE,Int.reduceAdd,Int.reduceSub,Int.reduceMul,Int.reduceToNat]
      refine ⟨_, ?_, i + 1, h3, _, _, _, _, _, _, rfl, ?_, rfl⟩
      · omega
      exact ⟨by omega, g4, ⟨r4 _ _ (by omega) (by simp) B3.1, B3.2⟩, C4⟩
    · have eqc2 : (tabF 8 fun v : Nat => posU zs i v) = pArr (pos zs) := tabF_congr fun j _ => by
        rw [show i = zs.length by omega, posU_end]
      rw [eqc2] at C3
      obtain ⟨h3, es, D3, g4, n4, r4⟩ := arr_all (f := fun v : Nat => pos zs v) hk g3 B3 tabF_len
      have l5 : aggB h1.blks (h.next + 1) 0 8 = some (.ag (ints .i64 (pArr (pos zs)))) := C3.all
      have l4 : aggB h3.blks h.next 0 8 = some (.ag (ints .i64 (pArr (pos zs)))) := D3.all
      have es' : sStore 8 h1 (.ag (ints .i64 (pArr (pos zs)))) (.ptr h.next 0) = some (.any, h3) := es
      simp (disch := first|(simp only [Nat.reduceBEq,wE];done)|((repeat' (first|assumption|exact mAx _|refine mBx ?_ ?_|exact mCx (by assumption)|refine mDx ?_|refine mEx ?_ ?_ ?_|exact mFx|refine mGx ?_ ?_ ?_|exact mHx|exact mIx _|(simp only [wM,Nat.reduceAdd,Nat.reduceLT,Nat.reduceLeDiff];done)));done)|omega|decide) only [e, e3, l5, es', l4, ↓wA,wB,wL,resOf,Nat.reduceBEq,Int.reduceBEq,Int.reduceBNe,Int.reduceLT,Int.reduceLE,Int.reduceAdd,Int.reduceSub,Int.reduceMul,Int.reduceToNat]
      exact ⟨_, rfl, rfl, g4⟩

theorem f58 (a : AV) (zs : List Int) (h : Hp) (hk : Hok h) (ha : Ints h.blks .i64 a zs) (hz : zs.length ≤ 1000) (h0 : 0 < zs.length) (hp : ∀ z ∈ zs, 0 ≤ z) :
    Evals Try.prog tab false (.func 58) [a] h (.int .i64 (mxL zs), h) := by
  refine evals_pure c58 rfl hk ?_
  simp only [sf58, initS_cons, initS_nil]
  have d0 : decide ((zs.length : Int) < 1) = false := decide_eq_false (by omega)
  simp (disch := first|(simp only [Nat.reduceBEq,wE];done)|((repeat' (first|assumption|exact mAx _|refine mBx ?_ ?_|exact mCx (by assumption)|refine mDx ?_|refine mEx ?_ ?_ ?_|exact mFx|refine mGx ?_ ?_ ?_|exact mHx|exact mIx _|(simp only [wM,Nat.reduceAdd,Nat.reduceLT,Nat.reduceLeDiff];done)));done)|omega|decide) only [ha.len, d0, ha.ix, ha.ld, idx?_lit0, ↓wA,wB,wL,resOf,Nat.reduceBEq,Int.reduceBEq,Int.reduceBNe,Int.reduceLT,Int.reduceLE,Int.reduceAdd,Int.reduceSub,Int.reduceMul,Int.reduceToNat]
  refine wloop (fun mm ss => ∃ (i : Nat) (m : Int) (u2 u7 u15 : AV), (mm = zs.length - i) ∧ (1 ≤ i ∧ i ≤ zs.length ∧ m = mxL (zs.take i)) ∧ ss = { fr := [(0, a), (2, u2), (3, .int .i64 m), (4, .int .i64 i), (7, u7), (15, u15)], hp := h.en }) (zs.length - 1) ?_ ?_
  ·
    have e1 : zs.getD 0 0 = mxL (zs.take 1) := by
      rw [mxL_snoc h0 hp]
      have := hp _ (List.getElem_mem h0)
      rw [getD_at h0]
      simp only [List.take_zero, mxL]; omega
    refine ⟨1, zs.getD 0 0, _, _, _, rfl, ⟨by omega, by omega, e1⟩, rfl⟩
  rintro nA sA ⟨i, m, u2, u7, u15, hnA, ⟨hi, hj, hm⟩, rfl⟩
  simp (disch := first|(simp only [Nat.reduceBEq,wE];done)|((repeat' (first|assumption|exact mAx _|refine mBx ?_ ?_|exact mCx (by assumption)|refine mDx ?_|refine mEx ?_ ?_ ?_|exact mFx|refine mGx ?_ ?_ ?_|exact mHx|exact mIx _|(simp only [wM,Nat.reduceAdd,Nat.reduceLT,Nat.reduceLeDiff];done)));done)|omega|decide) only [ha.len, ↓wA,wB,wL,resOf,Nat.reduceBEq,Int.reduceBEq,Int.reduceBNe,Int.reduceLT,Int.reduceLE,Int.reduceAdd,Int.reduceSub,Int.reduceMul,Int.reduceToNat]
  refine ifThen_intro (fun e => ?_) (fun e => ?_) <;> have eq := e <;> try simp [-List.getD_eq_getElem?_getD] at eq
  · simp (disch := first|(simp only [Nat.reduceBEq,wE];done)|((repeat' (first|assumption|exact mAx _|refine mBx ?_ ?_|exact mCx (by assumption)|refine mDx ?_|refine mEx ?_ ?_ ?_|exact mFx|refine mGx ?_ ?_ ?_|exact mHx|exact mIx _|(simp only [wM,Nat.reduceAdd,Nat.reduceLT,Nat.reduceLeDiff];done)));done)|omega|decide) only [e, ha.ix, ha.ld, ↓wA,wB,wL,resOf,Nat.reduceBEq,Int.reduceBEq,Int.reduceBNe,Int.reduceLT,Int.reduceLE,Int.reduceAdd,Int.reduceSub,Int.reduceMul,Int.reduceToNat]
    refine ⟨_, ?_, i + 1, _, _, _, _, rfl, ?_, rfl⟩
    · omega
    exact ⟨by omega, by omega, by rw [mxL_snoc eq hp, hm]⟩
  · simp (disch := first|(simp only [Nat.reduceBEq,wE];done)|((repeat' (first|assumption|exact mAx _|refine mBx ?_ ?_|exact mCx (by assumption)|refine mDx ?_|refine mEx ?_ ?_ ?_|exact mFx|refine mGx ?_ ?_ ?_|exact mHx|exact mIx _|(simp only [wM,Nat.reduceAdd,Nat.reduceLT,Nat.reduceLeDiff];done)));done)|omega|decide) only [e, ↓wA,wB,wL,resOf,Nat.reduceBEq,Int.reduceBEq,Int.reduceBNe,Int.reduceLT,Int.reduceLE,Int.reduceAdd,Int.reduceSub,Int.reduceMul,Int.reduceToNat]
    refine ⟨_, rfl, ?_, by (repeat' (first|assumption|exact mAx _|refine mBx ?_ ?_|exact mCx (by assumption)|refine mDx ?_|refine mEx ?_ ?_ ?_|exact mFx|refine mGx ?_ ?_ ?_|exact mHx|exact mIx _|(simp only [wM,Nat.reduceAdd,Nat.reduceLT,Nat.reduceLeDiff];done)))⟩
    rw [hm, List.take_of_length_le (by omega)]

theorem f39 (a : AV) (E : List (Int × Int)) (p : Int → Int) (hp : Pos8 p) (h : Hp) (hk : Hok h) (ha : Pairs h.blks a E) (hE : E.length ≤ 100) (h8 : In8 E) :
    Evals Try.prog tab false (.func 39) [a, .ag (ints .i64 (pArr p))] h (.int .i64 (width p E), h) := by
  refine evals_pure c39 rfl hk ?_
  simp only [sf39, initS_cons, initS_nil]
  have g1 : Grown h (h.en.pu (ints .i64 (pArr p))) := Grown.pu Grown.en refsOK_ints
  have k1 := g1.ok hk
  have l1 : aggB (h.en.pu (ints .i64 (pArr p))).blks h.next 0 8 = some (.ag (ints .i64 (pArr p))) := ArrB.all (lim := 0) ⟨lkB_top, Nat.zero_le _⟩
  have ec := f41 a E p hp (h.en.pu (ints .i64 (pArr p))) k1 (ha.sub (g1.sub hk)) hE h8
  have g2 : Grown h ((h.en.pu (ints .i64 (pArr p))).pu (ints .i64 (tabF 8 fun q : Nat => cut p q E))) := Grown.pu g1 refsOK_ints
  have B2 : ArrB h.next ((h.en.pu (ints .i64 (pArr p))).pu (ints .i64 (tabF 8 fun q : Nat => cut p q E))).blks (h.next + 1) (tabF 8 fun q : Nat => cut p q E) := ⟨lkB_top, by omega⟩
  have iz := B2.ints (n := 8) (m := 8) (by rw [tabF_len]; omega) (by omega)
  rw [List.take_of_length_le (by rw [tabF_len]; omega)] at iz
  have mx := f58 _ _ _ (g2.ok hk) iz (by rw [tabF_len]; omega) (by rw [tabF_len]; omega) (fun z hz => by
    obtain ⟨q, _, rfl⟩ := List.mem_map.1 hz
    exact cut_nonneg)
  have ew : mxL (tabF 8 fun q : Nat => cut p q E) = width p E := rfl
  have bn : ∀ d, bndV d none = some d := fun d => rfl
  have st := fun (hk : HokR (h.next + 1) ((h.next, { cells := ints .i64 (pArr p), ch := h.next, wr := true }) :: h.blks) h.loops) => sStore_ag (n := 8) (m := h.next + 2) (base := h.next) (esc := false) (cs := ints .i64 (tabF 8 fun _ => 0)) (vs := ints .i64 (tabF 8 fun q : Nat => cut p q E)) hk (by rw [ints_len, tabF_len]) (by rw [ints_len, tabF_len]) ints_cells.1 ints_cells.2
  rw [zero8]
  simp (disch := first|(simp only [Nat.reduceBEq,wE];done)|((repeat' (first|assumption|exact mAx _|refine mBx ?_ ?_|exact mCx (by assumption)|refine mDx ?_|refine mEx ?_ ?_ ?_|exact mFx|refine mGx ?_ ?_ ?_|exact mHx|exact mIx _|(simp only [wM,Nat.reduceAdd,Nat.reduceLT,Nat.reduceLeDiff];done)));done)|omega|decide) only [l1, callT ec, st k1, bn, sArr_ptr, callT mx, ew, ↓wA,wB,wL,resOf,Nat.reduceBEq,Int.reduceBEq,Int.reduceBNe,Int.reduceLT,Int.reduceLE,Int.reduceAdd,Int.reduceSub,Int.reduceMul,Int.reduceToNat]
  exact ⟨_, rfl, rfl, g2⟩
end Go.Proofs.Ytihadgkgogfhcaa
