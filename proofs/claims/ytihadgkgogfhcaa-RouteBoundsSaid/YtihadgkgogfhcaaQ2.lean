/- Arrays of numbers; the positions of vertices; the measures of positions. -/
import Derived.Test.YtihadgkgogfhcaaQ1
set_option linter.unusedSimpArgs false
set_option linter.unusedVariables false
set_option maxHeartbeats 4000000
set_option maxRecDepth 20000
namespace Go.Abs
/-- A list by its elements. -/
def tabF (n : Nat) (f : Nat → Int) : List Int := (List.range n).map f
theorem tabF_len {n : Nat} {f : Nat → Int} : (tabF n f).length = n := by simp [tabF]
theorem tabF_at {n i : Nat} {f : Nat → Int} (h : i < n) : (tabF n f).getD i 0 = f i := by simp [tabF, List.getD_eq_getElem?_getD, h]
theorem tabF_congr {n : Nat} {f g : Nat → Int} (h : ∀ i, i < n → f i = g i) : tabF n f = tabF n g := List.map_congr_left fun i hi => h i (List.mem_range.1 hi)
theorem tabF_set {n x : Nat} {f : Nat → Int} {v : Int} (h : x < n) : (tabF n f).set x v = tabF n fun i => if i = x then v else f i := by
  refine List.ext_getElem (by simp [tabF]) fun i h1 h2 => ?_
  rw [List.getElem_set]
  simp only [tabF, List.getElem_map, List.getElem_range]
  by_cases e : x = i
  · subst e; simp
  · rw [if_neg e, if_neg (Ne.symm e)]
theorem tab_get {n i : Nat} {f : Nat → Int} (h : i < n) : (ints .i64 (tabF n f))[i]? = some (.int .i64 (f i)) := by
  rw [ints_get (by rw [tabF_len]; exact h), tabF_at h]
theorem tab_slice {n : Nat} {f : Nat → Int} : slice? (ints .i64 (tabF n f)) 0 n = some (ints .i64 (tabF n f)) := by
  have h : 0 + n ≤ (ints .i64 (tabF n f)).length := by rw [ints_len, tabF_len]; omega
  simp only [slice?, Nat.ble_eq_true_of_le h, cond_true, List.drop_zero]
  rw [List.take_of_length_le (by rw [ints_len, tabF_len]; omega)]
theorem ints_cells {zs : List Int} : (ints .i64 zs).all AV.isCell = true ∧ (ints .i64 zs).any AV.hasRef = false := by
  constructor
  · exact all_cell_ints
  · simp [ints, AV.hasRef]
/-- An array of numbers, a variable of one's own. -/
def ArrB (lim : Nat) (bs : List (Nat × Blk)) (id : Nat) (zs : List Int) : Prop := lkB bs id = some { cells := ints .i64 zs, ch := id, wr := true } ∧ lim ≤ id
theorem ArrB.ld {lim : Nat} {bs : List (Nat × Blk)} {id : Nat} {zs : List Int} (A : ArrB lim bs id zs) {i : Nat} (hi : i < zs.length) : cellB bs id i = some (.int .i64 (zs.getD i 0)) := by
  simp only [cellB, A.1, Option.bind_some]
  exact ints_get hi
theorem ArrB.sub {lim : Nat} {bs bs' : List (Nat × Blk)} {id : Nat} {zs : List Int} (A : ArrB lim bs id zs) (s : Sub bs bs') : ArrB lim bs' id zs := ⟨s _ _ A.1, A.2⟩
theorem ArrB.ints {lim : Nat} {bs : List (Nat × Blk)} {id n m : Nat} {zs : List Int} (A : ArrB lim bs id zs) (hn : n ≤ zs.length) (hm : n ≤ m) : Ints bs .i64 (.sl id 0 n (some m) 1) (zs.take n) := by
  have hl : (zs.take n).length = n := by simp; omega
  refine ⟨by simp [ints_len], .inr ⟨id, 0, some m, by rw [hl], by rw [hl]; exact hm, fun j hj => ?_⟩⟩
  rw [hl, Nat.mul_one] at hj
  simp only [cellB, A.1, Option.bind_some, Nat.zero_add]
  rw [← ints_take, List.getElem?_take_of_lt hj]
theorem ArrB.tab {lim : Nat} {bs : List (Nat × Blk)} {id n i : Nat} {f : Nat → Int} (A : ArrB lim bs id (tabF n f)) (hi : i < n) : cellB bs id i = some (.int .i64 (f i)) := by
  rw [A.ld (by rw [tabF_len]; exact hi), tabF_at hi]
theorem ArrB.all {lim : Nat} {bs : List (Nat × Blk)} {id n : Nat} {f : Nat → Int} (A : ArrB lim bs id (tabF n f)) : aggB bs id 0 n = some (.ag (Abs.ints .i64 (tabF n f))) := by
  simp only [aggB, A.1, Option.bind_some, tab_slice, Option.map_some]
theorem arr_set {h0 h : Hp} {id i : Nat} {zs : List Int} {v : Int} (ho : Hok h0) (g : Grown h0 h) (A : ArrB h0.next h.blks id zs) (hi : i < zs.length) :
    ∃ h', sStore 1 h (.int .i64 v) (.ptr id i) = some (.any, h') ∧ ArrB h0.next h'.blks id (zs.set i v) ∧ Grown h0 h' ∧ h'.next = h.next ∧ (∀ j d, j ≠ id → d.ch ≠ id → Abs.lkB h.blks j = some d → Abs.lkB h'.blks j = some d) := by
  obtain ⟨h', e, l1, o, k, n, ls, r⟩ := write_old (off := i) (vs := [.int .i64 v]) (g.ok ho) g.blks (fun x hx => (ho.blk hx).1) A.1 A.2 A.2 rfl (by simp [ints_len]; omega) rfl rfl
  refine ⟨h', ?_, ⟨?_, A.2⟩, ⟨o, by rw [n]; exact g.next, fun _ => k, by rw [ls]; exact g.loops⟩, n, fun j d hj hd hl => r j d hj hl hd⟩
  · simp only [sStore, AV.parts, List.length_singleton, Nat.beq_refl, cond_true, e, Option.map_some]
  · rw [l1]
    congr 2
    simp only [splice, Abs.ints, List.length_singleton, ← List.map_take, ← List.map_drop]
    rw [List.set_eq_take_append_cons_drop, if_pos hi]
    simp
theorem arr_all {h0 h : Hp} {id n : Nat} {zs : List Int} {f : Nat → Int} (ho : Hok h0) (g : Grown h0 h) (A : ArrB h0.next h.blks id zs) (hi : zs.length = n) :
    ∃ h', sStore n h (.ag (Abs.ints .i64 (tabF n f))) (.ptr id 0) = some (.any, h') ∧ ArrB h0.next h'.blks id (tabF n f) ∧ Grown h0 h' ∧ h'.next = h.next ∧ (∀ j d, j ≠ id → d.ch ≠ id → Abs.lkB h.blks j = some d → Abs.lkB h'.blks j = some d) := by
  obtain ⟨h', e, l1, o, k, n', ls, r⟩ := write_old (off := 0) (vs := Abs.ints .i64 (tabF n f)) (g.ok ho) g.blks (fun x hx => (ho.blk hx).1) A.1 A.2 A.2 rfl (by rw [ints_len, ints_len, tabF_len]; omega) ints_cells.1 refsOK_ints
  refine ⟨h', ?_, ⟨?_, A.2⟩, ⟨o, by rw [n']; exact g.next, fun _ => k, by rw [ls]; exact g.loops⟩, n', fun j d hj hd hl => r j d hj hl hd⟩
  · simp only [sStore, AV.parts, ints_len, tabF_len, Nat.beq_refl, cond_true, e, Option.map_some]
  · rw [l1]
    congr 2
    simp only [splice, List.take_zero, List.nil_append]
    rw [List.drop_of_length_le (by simp only [ints_len, tabF_len]; omega), List.append_nil]
theorem zero8 : [AV.int .i64 0, .int .i64 0, .int .i64 0, .int .i64 0, .int .i64 0, .int .i64 0, .int .i64 0, .int .i64 0] = ints .i64 (tabF 8 fun _ => 0) := rfl
end Go.Abs
namespace Go.Ro
open Go.Abs
def pArr (p : Int → Int) : List Int := tabF 8 fun v : Nat => p v
def In8 (E : List (Int × Int)) : Prop := ∀ e ∈ E, (0 ≤ e.1 ∧ e.1 < 8) ∧ (0 ≤ e.2 ∧ e.2 < 8)
def Pos8 (p : Int → Int) : Prop := ∀ v, 0 ≤ p v ∧ p v ≤ 8
theorem pos8 {zs : List Int} (h : zs.length ≤ 8) : Pos8 (pos zs) := fun v => by have := pos_le (zs := zs) (v := v); omega
theorem In8.nat {E : List (Int × Int)} (h : In8 E) {i : Nat} (hi : i < E.length) : ∃ x y : Nat, E.getD i (0, 0) = ((x : Int), (y : Int)) ∧ x < 8 ∧ y < 8 := by
  have hm : E.getD i (0, 0) ∈ E := by simp [List.getD_eq_getElem?_getD, List.getElem?_eq_getElem hi]
  have h1 := h _ hm
  exact ⟨(E.getD i (0, 0)).1.toNat, (E.getD i (0, 0)).2.toNat, Prod.ext (by simp only; omega) (by simp only; omega), by omega, by omega⟩
theorem take_snoc {E : List (Int × Int)} {i : Nat} (hi : i < E.length) : E.take (i + 1) = E.take i ++ [E.getD i (0, 0)] := by
  rw [List.take_succ_eq_append_getElem hi]
  simp [List.getD_eq_getElem?_getD, List.getElem?_eq_getElem hi]
theorem band_snoc {p : Int → Int} {E : List (Int × Int)} {i : Nat} (hi : i < E.length) : band p (E.take (i + 1)) = max (band p (E.take i)) (len p (E.getD i (0, 0))) := by
  rw [take_snoc hi, band_app]
  have := len_nonneg (p := p) (e := E.getD i (0, 0))
  simp only [band]; omega
theorem total_snoc {p : Int → Int} {E : List (Int × Int)} {i : Nat} (hi : i < E.length) : total p (E.take (i + 1)) = total p (E.take i) + len p (E.getD i (0, 0)) := by
  rw [take_snoc hi, total_app]
  simp only [total]; omega
theorem len_le8 {p : Int → Int} (hp : Pos8 p) (e : Int × Int) : len p e ≤ 8 := by
  have := hp e.1
  have := hp e.2
  simp only [len, Ro.lo, Ro.hi]; omega
theorem band_le8 {p : Int → Int} (hp : Pos8 p) : ∀ {E : List (Int × Int)}, 0 ≤ band p E ∧ band p E ≤ 8
  | [] => by simp [band]
  | e :: E => by have := band_le8 hp (E := E); have := len_le8 hp e; simp only [band]; omega
theorem total_le8 {p : Int → Int} (hp : Pos8 p) : ∀ {E : List (Int × Int)}, 0 ≤ total p E ∧ total p E ≤ 8 * E.length
  | [] => by simp [total]
  | e :: E => by have := total_le8 hp (E := E); have := len_le8 hp e; have := len_nonneg (p := p) (e := e); simp only [total, List.length_cons]; omega
theorem cut_snoc {p : Int → Int} {q : Int} {E : List (Int × Int)} {i : Nat} (hi : i < E.length) : cut p q (E.take (i + 1)) = cut p q (E.take i) + (if Ro.lo p (E.getD i (0, 0)) ≤ q ∧ q < Ro.hi p (E.getD i (0, 0)) then 1 else 0) := by
  rw [take_snoc hi, cut_app]
  simp only [cut]; omega
end Go.Ro
namespace Go.Proofs.Ytihadgkgogfhcaa
open Go Go.Abs Go.Pa Go.Ro

theorem f57 (x y : Nat) (p : Int → Int) (hx : x < 8) (hy : y < 8) (h : Hp) (hk : Hok h) :
    Evals Try.prog tab false (.func 57) [.ag [.int .i64 x, .int .i64 y], .ag (ints .i64 (pArr p))] h (.tu [.int .i64 (min (p x) (p y)), .int .i64 (max (p x) (p y))], h) := by
  unfold pArr
  refine evals_pure c57 rfl hk ?_ rfl
  simp only [sf57, initS_cons, initS_nil]
  have g : Grown h (((h.en.pu [.int .i64 x, .int .i64 y]).pu (ints .i64 (tabF 8 fun v : Nat => p v)))) := Grown.pu (Grown.pu Grown.en rfl) refsOK_ints
  simp (disch := first|(simp only [Nat.reduceBEq,wE];done)|((repeat' (first|assumption|exact mAx _|refine mBx ?_ ?_|exact mCx (by assumption)|refine mDx ?_|refine mEx ?_ ?_ ?_|exact mFx|refine mGx ?_ ?_ ?_|exact mHx|exact mIx _|(simp only [wM,Nat.reduceAdd,Nat.reduceLT,Nat.reduceLeDiff];done)));done)|omega|decide) only [sIxA_ptr, tab_get, Nat.add_zero, ↓wA,wB,wL,resOf,Nat.reduceBEq,Int.reduceBEq,Int.reduceBNe,Int.reduceLT,Int.reduceLE,Int.reduceAdd,Int.reduceSub,Int.reduceMul,Int.reduceToNat]
  exact ⟨_, rfl, rfl, g⟩

theorem f38 (a : AV) (E : List (Int × Int)) (p : Int → Int) (hp : Pos8 p) (h : Hp) (hk : Hok h) (ha : Pairs h.blks a E) (hE : E.length ≤ 100) (h8 : In8 E) :
    Evals Try.prog tab false (.func 38) [a, .ag (ints .i64 (pArr p))] h (.int .i64 (band p E), h) := by
  refine evals_pure c38 rfl hk ?_
  simp only [sf38, initS_cons, initS_nil]
  have g1 : Grown h (h.en.pu (ints .i64 (pArr p))) := Grown.pu Grown.en refsOK_ints
  have a1 := ha.sub (g1.sub hk)
  have A0 : ArrB h.next (h.en.pu (ints .i64 (pArr p))).blks h.next (pArr p) := ⟨lkB_top, Nat.le_refl _⟩
  simp (disch := first|(simp only [Nat.reduceBEq,wE];done)|((repeat' (first|assumption|exact mAx _|refine mBx ?_ ?_|exact mCx (by assumption)|refine mDx ?_|refine mEx ?_ ?_ ?_|exact mFx|refine mGx ?_ ?_ ?_|exact mHx|exact mIx _|(simp only [wM,Nat.reduceAdd,Nat.reduceLT,Nat.reduceLeDiff];done)));done)|omega|decide) only [a1.len, ↓wA,wB,wL,resOf,Nat.reduceBEq,Int.reduceBEq,Int.reduceBNe,Int.reduceLT,Int.reduceLE,Int.reduceAdd,Int.reduceSub,Int.reduceMul,Int.reduceToNat]
  refine wloop (fun mm ss => ∃ (i : Nat) (h1 : Hp) (u1 u4 u7 u8 u9 u13 : AV), (mm = E.length - i) ∧ (i ≤ E.length ∧ Grown h h1 ∧ ArrB h.next h1.blks h.next (pArr p)) ∧ ss = { fr := [(0, a), (1, u1), (3, .ptr h.next 0), (4, u4), (5, .int .i64 (band p (E.take i))), (7, u7), (8, u8), (9, u9), (10, a), (11, .int .i64 E.length), (12, .int .i64 i), (13, u13)], hp := h1 }) (E.length) ?_ ?_
  ·
    refine ⟨0, _, _, _, _, _, _, _, by omega, ⟨by omega, g1, A0⟩, rfl⟩
  rintro nA sA ⟨i, h1, u1, u4, u7, u8, u9, u13, hnA, ⟨hi, g2, A2⟩, rfl⟩
  have k2 := g2.ok hk
  have a2 := ha.sub (g2.sub hk)
  simp (disch := first|(simp only [Nat.reduceBEq,wE];done)|((repeat' (first|assumption|exact mAx _|refine mBx ?_ ?_|exact mCx (by assumption)|refine mDx ?_|refine mEx ?_ ?_ ?_|exact mFx|refine mGx ?_ ?_ ?_|exact mHx|exact mIx _|(simp only [wM,Nat.reduceAdd,Nat.reduceLT,Nat.reduceLeDiff];done)));done)|omega|decide) only [↓wA,wB,wL,resOf,Nat.reduceBEq,Int.reduceBEq,Int.reduceBNe,Int.reduceLT,Int.reduceLE,Int.reduceAdd,Int.reduceSub,Int.reduceMul,Int.reduceToNat]
  refine ifThen_intro (fun e => ?_) (fun e => ?_) <;> have eq := e <;> try simp [-List.getD_eq_getElem?_getD] at eq
  · obtain ⟨x, y, exy, hx, hy⟩ := h8.nat eq
    have bs := band_snoc (p := p) eq
    rw [exy] at bs
    have hlt : h.next < h1.next := (k2.get A2.1).1
    have e1 : (E.getD i (0, 0)).1 = (x : Int) := by rw [exy]
    have e2 : (E.getD i (0, 0)).2 = (y : Int) := by rw [exy]
    have l1 : aggB h1.blks h.next 0 8 = some (.ag (ints .i64 (pArr p))) := A2.all
    have b1 := hp x
    have b2 := hp y
    have ee : max (p x) (p y) - min (p x) (p y) = len p ((x : Int), (y : Int)) := rfl
    have ge : Grown h { next := h1.next + 1, blks := (h1.next, { cells := [AV.int .i64 x, AV.int .i64 y], ch := h1.next, wr := true }) :: h1.blks, loops := h1.loops, base := h1.base, esc := h1.esc } := GrownR.push g2 rfl (Nat.le_refl _)
    have be := band_le8 hp (E := E.take i)
    simp (disch := first|(simp only [Nat.reduceBEq,wE];done)|((repeat' (first|assumption|exact mAx _|refine mBx ?_ ?_|exact mCx (by assumption)|refine mDx ?_|refine mEx ?_ ?_ ?_|exact mFx|refine mGx ?_ ?_ ?_|exact mHx|exact mIx _|(simp only [wM,Nat.reduceAdd,Nat.reduceLT,Nat.reduceLeDiff];done)));done)|omega|decide) only [e, a2.ix, a2.lda, e1, e2, l1, callT (f57 x y p hx hy _ _), ee, bs.symm, ↓wA,wB,wL,resOf,Nat.reduceBEq,Int.reduceBEq,Int.reduceBNe,Int.reduceLT,Int.reduceLE,Int.reduceAdd,Int.reduceSub,Int.reduceMul,Int.reduceToNat]
    refine ⟨_, ?_, i + 1, _, _, _, _, _, _, _, rfl, ?_, rfl⟩
    · omega
    exact ⟨by omega, ge, A2.sub (Sub.push (Sub.refl _) (HokR.fresh k2))⟩
  · simp (disch := first|(simp only [Nat.reduceBEq,wE];done)|((repeat' (first|assumption|exact mAx _|refine mBx ?_ ?_|exact mCx (by assumption)|refine mDx ?_|refine mEx ?_ ?_ ?_|exact mFx|refine mGx ?_ ?_ ?_|exact mHx|exact mIx _|(simp only [wM,Nat.reduceAdd,Nat.reduceLT,Nat.reduceLeDiff];done)));done)|omega|decide) only [e, ↓wA,wB,wL,resOf,Nat.reduceBEq,Int.reduceBEq,Int.reduceBNe,Int.reduceLT,Int.reduceLE,Int.reduceAdd,Int.reduceSub,Int.reduceMul,Int.reduceToNat]
    refine ⟨_, rfl, ?_, g2⟩
    rw [List.take_of_length_le (by omega)]
theorem f40 (a : AV) (E : List (Int × Int)) (p : Int → Int) (hp : Pos8 p) (h : Hp) (hk : Hok h) (ha : Pairs h.blks a E) (hE : E.length ≤ 100) (h8 : In8 E) :
    Evals Try.prog tab false (.func 40) [a, .ag (ints .i64 (pArr p))] h (.int .i64 (total p E), h) := by
  refine evals_pure c40 rfl hk ?_
  simp only [sf40, initS_cons, initS_nil]
  have g1 : Grown h (h.en.pu (ints .i64 (pArr p))) := Grown.pu Grown.en refsOK_ints
  have a1 := ha.sub (g1.sub hk)
  have A0 : ArrB h.next (h.en.pu (ints .i64 (pArr p))).blks h.next (pArr p) := ⟨lkB_top, Nat.le_refl _⟩
  simp (disch := first|(simp only [Nat.reduceBEq,wE];done)|((repeat' (first|assumption|exact mAx _|refine mBx ?_ ?_|exact mCx (by assumption)|refine mDx ?_|refine mEx ?_ ?_ ?_|exact mFx|refine mGx ?_ ?_ ?_|exact mHx|exact mIx _|(simp only [wM,Nat.reduceAdd,Nat.reduceLT,Nat.reduceLeDiff];done)));done)|omega|decide) only [a1.len, ↓wA,wB,wL,resOf,Nat.reduceBEq,Int.reduceBEq,Int.reduceBNe,Int.reduceLT,Int.reduceLE,Int.reduceAdd,Int.reduceSub,Int.reduceMul,Int.reduceToNat]
  refine wloop (fun mm ss => ∃ (i : Nat) (h1 : Hp) (u1 u4 u7 u8 u9 u13 : AV), (mm = E.length - i) ∧ (i ≤ E.length ∧ Grown h h1 ∧ ArrB h.next h1.blks h.next (pArr p)) ∧ ss = { fr := [(0, a), (1, u1), (3, .ptr h.next 0), (4, u4), (5, .int .i64 (total p (E.take i))), (7, u7), (8, u8), (9, u9), (10, a), (11, .int .i64 E.length), (12, .int .i64 i), (13, u13)], hp := h1 }) (E.length) ?_ ?_
  ·
    refine ⟨0, _, _, _, _, _, _, _, by omega, ⟨by omega, g1, A0⟩, rfl⟩
  rintro nA sA ⟨i, h1, u1, u4, u7, u8, u9, u13, hnA, ⟨hi, g2, A2⟩, rfl⟩
  have k2 := g2.ok hk
  have a2 := ha.sub (g2.sub hk)
  simp (disch := first|(simp only [Nat.reduceBEq,wE];done)|((repeat' (first|assumption|exact mAx _|refine mBx ?_ ?_|exact mCx (by assumption)|refine mDx ?_|refine mEx ?_ ?_ ?_|exact mFx|refine mGx ?_ ?_ ?_|exact mHx|exact mIx _|(simp only [wM,Nat.reduceAdd,Nat.reduceLT,Nat.reduceLeDiff];done)));done)|omega|decide) only [↓wA,wB,wL,resOf,Nat.reduceBEq,Int.reduceBEq,Int.reduceBNe,Int.reduceLT,Int.reduceLE,Int.reduceAdd,Int.reduceSub,Int.reduceMul,Int.reduceToNat]
  refine ifThen_intro (fun e => ?_) (fun e => ?_) <;> have eq := e <;> try simp [-List.getD_eq_getElem?_getD] at eq
  · obtain ⟨x, y, exy, hx, hy⟩ := h8.nat eq
    have bs := total_snoc (p := p) eq
    rw [exy] at bs
    have hlt : h.next < h1.next := (k2.get A2.1).1
    have e1 : (E.getD i (0, 0)).1 = (x : Int) := by rw [exy]
    have e2 : (E.getD i (0, 0)).2 = (y : Int) := by rw [exy]
    have l1 : aggB h1.blks h.next 0 8 = some (.ag (ints .i64 (pArr p))) := A2.all
    have b1 := hp x
    have b2 := hp y
    have ee : max (p x) (p y) - min (p x) (p y) = len p ((x : Int), (y : Int)) := rfl
    have ge : Grown h { next := h1.next + 1, blks := (h1.next, { cells := [AV.int .i64 x, AV.int .i64 y], ch := h1.next, wr := true }) :: h1.blks, loops := h1.loops, base := h1.base, esc := h1.esc } := GrownR.push g2 rfl (Nat.le_refl _)
    have be := total_le8 hp (E := E.take i)
    have bt := List.length_take_le i E
    have bl := len_le8 hp ((x : Int), (y : Int))
    have bm := len_nonneg (p := p) (e := ((x : Int), (y : Int)))
    simp (disch := first|(simp only [Nat.reduceBEq,wE];done)|((repeat' (first|assumption|exact mAx _|refine mBx ?_ ?_|exact mCx (by assumption)|refine mDx ?_|refine mEx ?_ ?_ ?_|exact mFx|refine mGx ?_ ?_ ?_|exact mHx|exact mIx _|(simp only [wM,Nat.reduceAdd,Nat.reduceLT,Nat.reduceLeDiff];done)));done)|omega|decide) only [e, a2.ix, a2.lda, e1, e2, l1, callT (f57 x y p hx hy _ _), ee, bs.symm, ↓wA,wB,wL,resOf,Nat.reduceBEq,Int.reduceBEq,Int.reduceBNe,Int.reduceLT,Int.reduceLE,Int.reduceAdd,Int.reduceSub,Int.reduceMul,Int.reduceToNat]
    refine ⟨_, ?_, i + 1, _, _, _, _, _, _, _, rfl, ?_, rfl⟩
    · omega
    exact ⟨by omega, ge, A2.sub (Sub.push (Sub.refl _) (HokR.fresh k2))⟩
  · simp (disch := first|(simp only [Nat.reduceBEq,wE];done)|((repeat' (first|assumption|exact mAx _|refine mBx ?_ ?_|exact mCx (by assumption)|refine mDx ?_|refine mEx ?_ ?_ ?_|exact mFx|refine mGx ?_ ?_ ?_|exact mHx|exact mIx _|(simp only [wM,Nat.reduceAdd,Nat.reduceLT,Nat.reduceLeDiff];done)));done)|omega|decide) only [e, ↓wA,wB,wL,resOf,Nat.reduceBEq,Int.reduceBEq,Int.reduceBNe,Int.reduceLT,Int.reduceLE,Int.reduceAdd,Int.reduceSub,Int.reduceMul,Int.reduceToNat]
    refine ⟨_, rfl, ?_, g2⟩
    rw [List.take_of_length_le (by omega)]

end Go.Proofs.Ytihadgkgogfhcaa
