/- Proper; what Best's colouring is. -/
import Derived.Test.YtgpdimkgfhgffaaS23
import Derived.Test.YtgpdimkgfhgffaaS12
import Derived.Test.YtgpdimkgfhgffaaS15
set_option linter.unusedSimpArgs false
set_option linter.unusedVariables false
set_option maxHeartbeats 4000000
set_option maxRecDepth 20000

namespace Go.Sh

/-- Are the first ones coloured properly? -/
def propU (l : List Span) (c : List Int) : Nat → Bool
  | 0 => true
  | i + 1 => propU l c i && !decide (c.getD i 0 ∈ takenU (sg l i) l c i)
theorem propU_le {l : List Span} {c : List Int} : ∀ {n m : Nat}, m ≤ n → propU l c n = true → propU l c m = true
  | 0, m, h, e => by
    have : m = 0 := by omega
    subst this
    exact e
  | n + 1, m, h, e => by
    by_cases hm : m = n + 1
    · subst hm; exact e
    · simp only [propU, Bool.and_eq_true] at e
      exact propU_le (by omega) e.1
theorem propU_at {l : List Span} {c : List Int} {n i : Nat} (h : i < n) (e : c.getD i 0 ∈ takenU (sg l i) l c i) : propU l c n = false := by
  cases hp : propU l c n
  · rfl
  · have := propU_le (m := i + 1) (by omega) hp
    simp only [propU, Bool.and_eq_true, Bool.not_eq_true', decide_eq_false_iff_not] at this
    exact absurd e this.2
theorem propU_iff {l : List Span} {c : List Int} : propU l c l.length = true ↔ IsProper l c := by
  constructor
  · intro h i j hi hj ho he
    rw [propU_at hi (mem_takenU.2 ⟨j, hj, ho, he⟩)] at h
    cases h
  · intro h
    have : ∀ m, m ≤ l.length → propU l c m = true := fun m => by
      induction m with
      | zero => intro _; rfl
      | succ m ih =>
        intro hm
        simp only [propU, ih (by omega), Bool.true_and, Bool.not_eq_true', decide_eq_false_iff_not]
        intro hx
        obtain ⟨j, hj, ho, he⟩ := mem_takenU.1 hx
        exact h m j (by omega) hj ho he
    exact this _ (Nat.le_refl _)

theorem ov_symm (s t : Span) : ov s t = ov t s := by simp only [ov, Int.max_comm, Int.min_comm]
section
variable {l : List Span} {ord C : List Int}
theorem BestOK.inj (B : BestOK l ord C) {x y : Nat} (h1 : x < y) (h2 : y < l.length) : gz ord x ≠ gz ord y := fun he => by
  have := B.srt x y (Nat.zero_le _) h1 h2
  rw [he] at this
  exact this.irrefl
theorem nodup_gz {zs : List Int} {n : Nat} (hn : zs.length = n) (h : ∀ x y, x < y → y < n → gz zs x ≠ gz zs y) : zs.Nodup := by
  rw [List.nodup_iff_pairwise_ne, List.pairwise_iff_getElem]
  intro i j hi hj hij he
  refine h i j hij (by omega) ?_
  simp only [gz, List.getD_eq_getElem?_getD, List.getElem?_eq_getElem hi, List.getElem?_eq_getElem hj, Option.getD_some]
  exact he
theorem BestOK.cover (B : BestOK l ord C) {j : Nat} (hj : j < l.length) : ∃ t, t < l.length ∧ gz ord t = j := by
  by_cases hm : (j : Int) ∈ ord
  · obtain ⟨t, ht, e⟩ := List.getElem_of_mem hm
    have := B.len
    exact ⟨t, by omega, by simp only [gz, List.getD_eq_getElem?_getD, List.getElem?_eq_getElem ht, Option.getD_some]; exact e⟩
  · exfalso
    have hnd : ((j : Int) :: ord).Nodup := List.nodup_cons.2 ⟨hm, nodup_gz B.len fun x y h1 h2 => B.inj h1 h2⟩
    have := nodup_sub hnd (M := upN l.length) fun x hx => by
      rcases List.mem_cons.1 hx with rfl | hx
      · exact mem_upN.2 ⟨by omega, by omega⟩
      · obtain ⟨t, ht, e⟩ := List.getElem_of_mem hx
        have hr := B.rng t (by have := B.len; omega)
        simp only [gz, List.getD_eq_getElem?_getD, List.getElem?_eq_getElem ht, Option.getD_some] at hr
        rw [e] at hr
        exact mem_upN.2 hr
    rw [upN_len, List.length_cons, B.len] at this
    omega
abbrev srtd (l : List Span) (ord : List Int) : List Span := ord.map fun z => sg l z.toNat
theorem srtd_sg (B : BestOK l ord C) {t : Nat} (ht : t < l.length) : sg (srtd l ord) t = sg l (gz ord t).toNat := by
  have := B.len
  simp only [sg, srtd, gz, List.getD_eq_getElem?_getD, List.getElem?_map, List.getElem?_eq_getElem (show t < ord.length by omega), Option.map_some, Option.getD_some]
theorem BestOK.color (B : BestOK l ord C) {j : Nat} (hj : j < l.length) : ∃ t, t < l.length ∧ gz ord t = j ∧ sg (srtd l ord) t = sg l j ∧ gz C j = fc (srtd l ord) t := by
  obtain ⟨t, ht, e⟩ := B.cover hj
  refine ⟨t, ht, e, ?_, ?_⟩
  · rw [srtd_sg B ht, e]; rfl
  · have := B.col t ht
    rw [e] at this
    exact this
theorem best_proper (B : BestOK l ord C) : IsProper l C := fun i j hi hj ho he => by
  have hL : (srtd l ord).length = l.length := by simp [B.len]
  obtain ⟨s, hs, es, s1, s2⟩ := B.color hi
  obtain ⟨t, ht, et, t1, t2⟩ := B.color (show j < l.length by omega)
  have hst : s ≠ t := fun h => by subst h; omega
  rw [← s1, ← t1] at ho
  have he' : fc (srtd l ord) t = fc (srtd l ord) s := by rw [← s2, ← t2]; exact he
  rcases Nat.lt_or_ge t s with h | h
  · exact fit_proper _ s t (by omega) h ho he'
  · rw [ov_symm] at ho
    exact fit_proper _ t s (by omega) (by omega) ho he'.symm
theorem best_nn (B : BestOK l ord C) {j : Nat} (hj : j < l.length) : 0 ≤ gz C j ∧ gz C j ≤ l.length := by
  obtain ⟨t, ht, _, _, e⟩ := B.color hj
  have hL : (srtd l ord).length = l.length := by simp [B.len]
  have := fc_nn (l := srtd l ord) (i := t) (by omega)
  rw [e]
  omega
theorem mem_colU' {L : List Span} {F : List Int} {p : Int} : ∀ {n j : Nat}, j < n → ins (sg L j) p = true → F.getD j 0 ∈ colU L F p n
  | 0, j, h, _ => by omega
  | n + 1, j, h, e => by
    rw [colU]
    by_cases ej : j = n
    · subst ej; rw [if_pos e]; exact List.mem_cons_self ..
    · have := mem_colU' (F := F) (n := n) (show j < n by omega) e
      split
      · exact List.mem_cons_of_mem _ this
      · exact this
/-- The indices at a place, in the order of the beginnings. -/
theorem cnt_srtd (B : BestOK l ord C) (p : Int) : cnt (srtd l ord) p ≤ cnt l p := by
  have hL : (srtd l ord).length = l.length := by simp [B.len]
  have h1 := colU_len (srtd l ord) ord p l.length
  have hnd : ∀ n, n ≤ l.length → (colU (srtd l ord) ord p n).Nodup := fun n => by
    induction n with
    | zero => intro _; simp [colU]
    | succ n ih =>
      intro hn
      rw [colU]
      split
      · rw [List.nodup_cons]
        refine ⟨fun hm => ?_, ih (by omega)⟩
        obtain ⟨j, hj, _, e⟩ := mem_colU hm
        exact B.inj hj (by omega) e
      · exact ih (by omega)
  have h2 := nodup_sub (hnd l.length (Nat.le_refl _)) (M := arU p l l.length) fun x hx => by
    obtain ⟨t, ht, e1, e2⟩ := mem_colU hx
    rw [srtd_sg B ht] at e1
    have hr := B.rng t ht
    have e2' : gz ord t = x := e2
    rw [e2'] at hr e1
    have key : ∀ n : Nat, x.toNat < n → x ∈ arU p l n := fun n => by
      induction n with
      | zero => intro h; omega
      | succ n ih =>
        intro h
        rw [arU]
        by_cases ex : x.toNat = n
        · rw [← ex, if_pos e1]
          exact List.mem_append.2 (.inr (List.mem_singleton.2 (by omega)))
        · have := ih (by omega)
          split
          · exact List.mem_append.2 (.inl this)
          · exact this
    exact key _ (by omega)
  have h3 := arU_cnt p l l.length
  unfold cnt
  rw [hL]
  omega
/-- Best uses as many numbers as the depth says. -/
theorem best_top (hok : ∀ s ∈ l, s.1 < s.2) (B : BestOK l ord C) : topU C l.length = (deep l).2 ∧ ((seenU C l.length).length : Int) = (deep l).2 := by
  have hL : (srtd l ord).length = l.length := by simp [B.len]
  have hseen : ((seenU C l.length).length : Int) = topU C l.length := seen_top (fun j hj => (best_nn B hj).1) fun i hi c h0 hc => by
    obtain ⟨t, ht, _, _, e⟩ := B.color hi
    have hc' : c < gz C i := hc
    rw [e] at hc'
    obtain ⟨s, hs, _, e2⟩ := fc_lt (l := srtd l ord) (i := t) (by omega) h0 hc'
    have hr := B.rng s (by omega)
    refine ⟨(gz ord s).toNat, by omega, ?_⟩
    have := B.col s (by omega)
    exact this.trans e2
  have hge := depth_seen (best_proper B)
  have hle : topU C l.length ≤ (deep l).2 := by
    rcases topU_at C l.length with e | ⟨j, hj, e⟩
    · have := deep_nn l; omega
    · obtain ⟨t, ht, et, e1, e2⟩ := B.color hj
      have e' : topU C l.length = fc (srtd l ord) t + 1 := by rw [e]; show gz C j + 1 = _; rw [e2]
      have hf := (fc_nn (l := srtd l ord) (i := t) (by omega)).1
      have hsj := hok _ (sg_mem hj)
      have hmem : ∀ c : Int, 0 ≤ c → c ≤ fc (srtd l ord) t → c ∈ colU (srtd l ord) (fit (srtd l ord)) (sg l j).1 l.length := fun c h0 hc => by
        by_cases ec : c = fc (srtd l ord) t
        · rw [ec]
          exact mem_colU' ht (by rw [e1]; simp [ins]; omega)
        · obtain ⟨s, hs, ho, e3⟩ := fc_lt (l := srtd l ord) (i := t) (by omega) h0 (by omega)
          rw [← e3]
          refine mem_colU' (by omega) ?_
          have hs1 := B.srt s t (Nat.zero_le _) hs ht
          unfold Bef at hs1
          simp only at hs1
          rw [← srtd_sg B (show s < l.length by omega), ← srtd_sg B ht, e1] at hs1
          rw [e1] at ho
          simp only [ov, ins, decide_eq_true_eq] at ho ⊢
          omega
      have h1 := nodup_sub (upN_nodup (fc (srtd l ord) t + 1).toNat) (M := colU (srtd l ord) (fit (srtd l ord)) (sg l j).1 l.length) fun x hx => by
        have := mem_upN.1 hx
        exact hmem x this.1 (by omega)
      rw [upN_len] at h1
      have h2 := colU_len (srtd l ord) (fit (srtd l ord)) (sg l j).1 l.length
      have h3 := cnt_srtd B (sg l j).1
      have h4 := deep_ge l (sg l j).1
      unfold cnt at h3
      rw [hL] at h3
      unfold cnt at h4
      omega
  omega
end

end Go.Sh


namespace Go.Proofs.Ytgpdimkgfhgffaa

open Go Go.Abs Go.Sh

theorem f17 (x : Int) (h : Hp) (hk : Hok h) : Evals Try.prog tab false (.func 17) [.int .i64 x] h (.bool (decide (x < 0)), h) := by
  refine evals_pure c17 rfl hk ?_
  simp only [sf17, initS_cons, initS_nil]
  simp (disch := first|(simp only [Nat.reduceBEq,wE];done)|((repeat' (first|assumption|exact mAx _|refine mBx ?_ ?_|exact mCx (by assumption)|refine mDx ?_|refine mEx ?_ ?_ ?_|exact mFx|refine mGx ?_ ?_ ?_|exact mHx|exact mIx _|(simp only [wM,Nat.reduceAdd,Nat.reduceLT,Nat.reduceLeDiff];done)));done)|omega|decide) only [↓wA,wB,wL,resOf,Nat.reduceBEq,Int.reduceBEq,Int.reduceBNe,Int.reduceLT,Int.reduceLE,Int.reduceAdd,Int.reduceSub,Int.reduceMul,Int.reduceToNat]
  exact ⟨_, rfl, rfl, by (repeat' (first|assumption|exact mAx _|refine mBx ?_ ?_|exact mCx (by assumption)|refine mDx ?_|refine mEx ?_ ?_ ?_|exact mFx|refine mGx ?_ ?_ ?_|exact mHx|exact mIx _|(simp only [wM,Nat.reduceAdd,Nat.reduceLT,Nat.reduceLeDiff];done)))⟩

theorem f31 (b : AV) (zs : List Int) (h : Hp) (hk : Hok h) (hb : Ints h.blks .i64 b zs) (hl : zs.length ≤ 1000) (hz : ∀ i, i < zs.length → 0 ≤ zs.getD i 0) :
    Evals Try.prog tab false (.func 31) [b, .fn (.func 17) [] []] h (.int .i64 (-1), h) := by
  refine evals_pure c31 rfl hk ?_
  simp only [sf31, initS_cons, initS_nil]
  simp (disch := first|(simp only [Nat.reduceBEq,wE];done)|((repeat' (first|assumption|exact mAx _|refine mBx ?_ ?_|exact mCx (by assumption)|refine mDx ?_|refine mEx ?_ ?_ ?_|exact mFx|refine mGx ?_ ?_ ?_|exact mHx|exact mIx _|(simp only [wM,Nat.reduceAdd,Nat.reduceLT,Nat.reduceLeDiff];done)));done)|omega|decide) only [hb.len, ↓wA,wB,wL,resOf,Nat.reduceBEq,Int.reduceBEq,Int.reduceBNe,Int.reduceLT,Int.reduceLE,Int.reduceAdd,Int.reduceSub,Int.reduceMul,Int.reduceToNat]
  refine wloop (fun mm ss => ∃ (i : Nat) (u4 u5 u9 u16 : AV), (mm = zs.length - i) ∧ (i ≤ zs.length) ∧ ss = { fr := [(0, b), (1, .fn (.func 17) [] []), (4, u4), (5, u5), (7, .int .i64 zs.length), (8, .int .i64 i), (9, u9), (16, u16)], hp := h.en }) (zs.length) ?_ ?_
  ·
    refine ⟨0, _, _, _, _, by omega, by omega, rfl⟩
  rintro nA sA ⟨i, u4, u5, u9, u16, hnA, hi, rfl⟩
  simp (disch := first|(simp only [Nat.reduceBEq,wE];done)|((repeat' (first|assumption|exact mAx _|refine mBx ?_ ?_|exact mCx (by assumption)|refine mDx ?_|refine mEx ?_ ?_ ?_|exact mFx|refine mGx ?_ ?_ ?_|exact mHx|exact mIx _|(simp only [wM,Nat.reduceAdd,Nat.reduceLT,Nat.reduceLeDiff];done)));done)|omega|decide) only [↓wA,wB,wL,resOf,Nat.reduceBEq,Int.reduceBEq,Int.reduceBNe,Int.reduceLT,Int.reduceLE,Int.reduceAdd,Int.reduceSub,Int.reduceMul,Int.reduceToNat]
  refine ifThen_intro (fun e => ?_) (fun e => ?_) <;> have eq := e <;> try simp [-List.getD_eq_getElem?_getD] at eq
  · have hzi := hz i eq
    simp (disch := first|(simp only [Nat.reduceBEq,wE];done)|((repeat' (first|assumption|exact mAx _|refine mBx ?_ ?_|exact mCx (by assumption)|refine mDx ?_|refine mEx ?_ ?_ ?_|exact mFx|refine mGx ?_ ?_ ?_|exact mHx|exact mIx _|(simp only [wM,Nat.reduceAdd,Nat.reduceLT,Nat.reduceLeDiff];done)));done)|omega|decide) only [e, hb.ix, hb.ld, callT (f17 _ _ _), decide_eq_false (show ¬ (zs.getD i 0 < 0) by omega), ↓wA,wB,wL,resOf,Nat.reduceBEq,Int.reduceBEq,Int.reduceBNe,Int.reduceLT,Int.reduceLE,Int.reduceAdd,Int.reduceSub,Int.reduceMul,Int.reduceToNat]
    refine ⟨_, ?_, i + 1, _, _, _, _, rfl, ?_, rfl⟩
    · omega
    omega
  · simp (disch := first|(simp only [Nat.reduceBEq,wE];done)|((repeat' (first|assumption|exact mAx _|refine mBx ?_ ?_|exact mCx (by assumption)|refine mDx ?_|refine mEx ?_ ?_ ?_|exact mFx|refine mGx ?_ ?_ ?_|exact mHx|exact mIx _|(simp only [wM,Nat.reduceAdd,Nat.reduceLT,Nat.reduceLeDiff];done)));done)|omega|decide) only [e, ↓wA,wB,wL,resOf,Nat.reduceBEq,Int.reduceBEq,Int.reduceBNe,Int.reduceLT,Int.reduceLE,Int.reduceAdd,Int.reduceSub,Int.reduceMul,Int.reduceToNat]
    exact ⟨_, rfl, rfl, by (repeat' (first|assumption|exact mAx _|refine mBx ?_ ?_|exact mCx (by assumption)|refine mDx ?_|refine mEx ?_ ?_ ?_|exact mFx|refine mGx ?_ ?_ ?_|exact mHx|exact mIx _|(simp only [wM,Nat.reduceAdd,Nat.reduceLT,Nat.reduceLeDiff];done)))⟩

theorem f16 (b : AV) (zs : List Int) (h : Hp) (hk : Hok h) (hb : Ints h.blks .i64 b zs) (hl : zs.length ≤ 1000) (hz : ∀ i, i < zs.length → 0 ≤ zs.getD i 0) :
    Evals Try.prog tab false (.func 16) [b, .fn (.func 17) [] []] h (.bool false, h) := by
  refine evals_pure c16 rfl hk ?_
  simp only [sf16, initS_cons, initS_nil]
  simp (disch := first|(simp only [Nat.reduceBEq,wE];done)|((repeat' (first|assumption|exact mAx _|refine mBx ?_ ?_|exact mCx (by assumption)|refine mDx ?_|refine mEx ?_ ?_ ?_|exact mFx|refine mGx ?_ ?_ ?_|exact mHx|exact mIx _|(simp only [wM,Nat.reduceAdd,Nat.reduceLT,Nat.reduceLeDiff];done)));done)|omega|decide) only [callT (f31 b zs h.en hk hb hl hz), ↓wA,wB,wL,resOf,Nat.reduceBEq,Int.reduceBEq,Int.reduceBNe,Int.reduceLT,Int.reduceLE,Int.reduceAdd,Int.reduceSub,Int.reduceMul,Int.reduceToNat]
  exact ⟨_, rfl, rfl, by (repeat' (first|assumption|exact mAx _|refine mBx ?_ ?_|exact mCx (by assumption)|refine mDx ?_|refine mEx ?_ ?_ ?_|exact mFx|refine mGx ?_ ?_ ?_|exact mHx|exact mIx _|(simp only [wM,Nat.reduceAdd,Nat.reduceLT,Nat.reduceLeDiff];done)))⟩

theorem f6 (a b : AV) (l : List Span) (c : List Int) (h : Hp) (hk : Hok h) (ha : Pairs h.blks a l) (hc : Ints h.blks .i64 b c) (hb : bad l = 0) (hlen : c.length = l.length) (hz : ∀ i, i < c.length → 0 ≤ c.getD i 0) :
    Evals Try.prog tab false (.func 6) [a, b] h (.tu [.bool (propU l c l.length), .int .i64 0], h) := by
  refine evals_pure c6 rfl hk ?_
  simp only [sf6, initS_cons, initS_nil]
  have hl := (bad_0 hb).1
  simp (disch := first|(simp only [Nat.reduceBEq,wE];done)|((repeat' (first|assumption|exact mAx _|refine mBx ?_ ?_|exact mCx (by assumption)|refine mDx ?_|refine mEx ?_ ?_ ?_|exact mFx|refine mGx ?_ ?_ ?_|exact mHx|exact mIx _|(simp only [wM,Nat.reduceAdd,Nat.reduceLT,Nat.reduceLeDiff];done)));done)|omega|decide) only [callT (f15 a l h.en hk ha (by omega)), hb, hc.len, ha.len, hlen, callT (f16 b c h.en hk hc (by omega) hz), ↓wA,wB,wL,resOf,Nat.reduceBEq,Int.reduceBEq,Int.reduceBNe,Int.reduceLT,Int.reduceLE,Int.reduceAdd,Int.reduceSub,Int.reduceMul,Int.reduceToNat]
  refine wloop (fun mm ss => ∃ (i : Nat) (h1 : Hp) (u4 u5 u6 u7 u8 u12 u22 u26 u40 : AV), (mm = l.length - i) ∧ (i ≤ l.length ∧ Grown h h1 ∧ propU l c i = true) ∧ ss = { fr := [(0, a), (1, b), (4, u4), (5, u5), (6, u6), (7, u7), (8, u8), (12, u12), (22, u22), (23, a), (24, .int .i64 l.length), (25, .int .i64 i), (26, u26), (40, u40)], hp := h1 }) (l.length) ?_ ?_
  ·
    refine ⟨0, h.en, _, _, _, _, _, _, _, _, _, by omega, ⟨by omega, Grown.en, rfl⟩, rfl⟩
  rintro nA sA ⟨i, h1, u4, u5, u6, u7, u8, u12, u22, u26, u40, hnA, ⟨hi, g1, hp⟩, rfl⟩
  have k1 := g1.ok hk
  have a1 := ha.sub (g1.sub hk)
  have c1 := hc.sub (g1.sub hk)
  simp (disch := first|(simp only [Nat.reduceBEq,wE];done)|((repeat' (first|assumption|exact mAx _|refine mBx ?_ ?_|exact mCx (by assumption)|refine mDx ?_|refine mEx ?_ ?_ ?_|exact mFx|refine mGx ?_ ?_ ?_|exact mHx|exact mIx _|(simp only [wM,Nat.reduceAdd,Nat.reduceLT,Nat.reduceLeDiff];done)));done)|omega|decide) only [↓wA,wB,wL,resOf,Nat.reduceBEq,Int.reduceBEq,Int.reduceBNe,Int.reduceLT,Int.reduceLE,Int.reduceAdd,Int.reduceSub,Int.reduceMul,Int.reduceToNat]
  refine ifThen_intro (fun e => ?_) (fun e => ?_) <;> have eq := e <;> try simp [-List.getD_eq_getElem?_getD] at eq
  · have hd : l.getD i (0, 0) = sg l i := rfl
    have hlt : (l.take i).length = i := by simp; omega
    have k2 : Hok (h1.pu [.int .i64 (sg l i).1, .int .i64 (sg l i).2]) := Hok.pu k1 rfl
    obtain ⟨a', ea, ia⟩ := (a1.sub (Sub.pu (cs := [.int .i64 (sg l i).1, .int .i64 (sg l i).2]) k1)).upto (m := i) (by omega) (h1.pu [.int .i64 (sg l i).1, .int .i64 (sg l i).2])
    have c2 := c1.sub (Sub.pu (cs := [.int .i64 (sg l i).1, .int .i64 (sg l i).2]) k1)
    obtain ⟨v, h3, ev, g3, o3⟩ := f19 (sg l i) a' b (l.take i) c (h1.pu [.int .i64 (sg l i).1, .int .i64 (sg l i).2]) k2 ia c2 (by omega) (by omega)
    have k3 := g3.ok k2
    have c3 := c2.sub (g3.sub k2)
    have ht : Sh.taken (sg l i) (l.take i) c = takenU (sg l i) l c i := by rw [Sh.taken, hlt, takenU_take _ _ _ _ (Nat.le_refl _)]
    have htl := takenU_len (sg l i) l c i
    rw [ht] at o3
    have s23 := g3.sub k2
    have s13 := (Sub.pu (cs := [.int .i64 (sg l i).1, .int .i64 (sg l i).2]) k1).trans (g3.sub k2)
    have bx3 := (Box.top (bs := h1.blks) (id := h1.next) (c := h1.next) (w := true) (cs := [.int .i64 (sg l i).1, .int .i64 (sg l i).2])).sub (g3.sub k2)
    have G13 : Grown h h3 := GrownR.trans (g1.pu rfl) g3
    by_cases hm : c.getD i 0 ∈ takenU (sg l i) l c i
    · simp (disch := first|(simp only [Nat.reduceBEq,wE];done)|((repeat' (first|assumption|exact mAx _|refine mBx ?_ ?_|exact mCx (by assumption)|refine mDx ?_|refine mEx ?_ ?_ ?_|exact mFx|refine mGx ?_ ?_ ?_|exact mHx|exact mIx _|(simp only [wM,Nat.reduceAdd,Nat.reduceLT,Nat.reduceLeDiff];done)));done)|omega|decide) only [e, a1.ix, a1.lda, hd, ea, callT ev, c2.ix, c2.ld, bx3.lda, callT (f18 v _ (c.getD i 0) h3 k3 o3.ints (by omega)), decide_eq_true hm, ↓wA,wB,wL,resOf,Nat.reduceBEq,Int.reduceBEq,Int.reduceBNe,Int.reduceLT,Int.reduceLE,Int.reduceAdd,Int.reduceSub,Int.reduceMul,Int.reduceToNat]
      exact ⟨_, rfl, by rw [propU_at eq hm], G13⟩
    · simp (disch := first|(simp only [Nat.reduceBEq,wE];done)|((repeat' (first|assumption|exact mAx _|refine mBx ?_ ?_|exact mCx (by assumption)|refine mDx ?_|refine mEx ?_ ?_ ?_|exact mFx|refine mGx ?_ ?_ ?_|exact mHx|exact mIx _|(simp only [wM,Nat.reduceAdd,Nat.reduceLT,Nat.reduceLeDiff];done)));done)|omega|decide) only [e, a1.ix, a1.lda, hd, ea, callT ev, c2.ix, c2.ld, bx3.lda, callT (f18 v _ (c.getD i 0) h3 k3 o3.ints (by omega)), decide_eq_false hm, ↓wA,wB,wL,resOf,Nat.reduceBEq,Int.reduceBEq,Int.reduceBNe,Int.reduceLT,Int.reduceLE,Int.reduceAdd,Int.reduceSub,Int.reduceMul,Int.reduceToNat]
      refine ⟨_, ?_, i + 1, h3, _, _, _, _, _, _, _, _, _, rfl, ?_, rfl⟩
      · omega
      exact ⟨by omega, G13, by simp only [propU, hp, hm, decide_false, Bool.not_false, Bool.and_self]⟩
  · have hil : i = l.length := by omega
    rw [hil] at hp
    simp (disch := first|(simp only [Nat.reduceBEq,wE];done)|((repeat' (first|assumption|exact mAx _|refine mBx ?_ ?_|exact mCx (by assumption)|refine mDx ?_|refine mEx ?_ ?_ ?_|exact mFx|refine mGx ?_ ?_ ?_|exact mHx|exact mIx _|(simp only [wM,Nat.reduceAdd,Nat.reduceLT,Nat.reduceLeDiff];done)));done)|omega|decide) only [e, ↓wA,wB,wL,resOf,Nat.reduceBEq,Int.reduceBEq,Int.reduceBNe,Int.reduceLT,Int.reduceLE,Int.reduceAdd,Int.reduceSub,Int.reduceMul,Int.reduceToNat]
    exact ⟨_, rfl, by rw [hp], g1⟩

theorem f9 (a b : AV) (l : List Span) (c : List Int) (h : Hp) (hk : Hok h) (ha : Pairs h.blks a l) (hc : Ints h.blks .i64 b c) (hl : l.length ≤ 1000) (hlen : c.length = l.length) :
    Evals Try.prog tab false (.func 9) [a, b] h (.bool (propU l c l.length), h) := by
  refine evals_pure c9 rfl hk ?_
  simp only [sf9, initS_cons, initS_nil]
  simp (disch := first|(simp only [Nat.reduceBEq,wE];done)|((repeat' (first|assumption|exact mAx _|refine mBx ?_ ?_|exact mCx (by assumption)|refine mDx ?_|refine mEx ?_ ?_ ?_|exact mFx|refine mGx ?_ ?_ ?_|exact mHx|exact mIx _|(simp only [wM,Nat.reduceAdd,Nat.reduceLT,Nat.reduceLeDiff];done)));done)|omega|decide) only [↓wA,wB,wL,resOf,Nat.reduceBEq,Int.reduceBEq,Int.reduceBNe,Int.reduceLT,Int.reduceLE,Int.reduceAdd,Int.reduceSub,Int.reduceMul,Int.reduceToNat]
  refine wloop (fun mm ss => ∃ (i : Nat) (u4 u6 u10 u15 u37 : AV), (mm = l.length - i) ∧ (i ≤ l.length ∧ propU l c i = true) ∧ ss = { fr := [(0, a), (1, b), (4, u4), (5, .int .i64 i), (6, u6), (10, u10), (15, u15), (37, u37)], hp := h.en }) (l.length) ?_ ?_
  ·
    refine ⟨0, _, _, _, _, _, by omega, ⟨by omega, rfl⟩, rfl⟩
  rintro nA sA ⟨i, u4, u6, u10, u15, u37, hnA, ⟨hi, hp⟩, rfl⟩
  simp (disch := first|(simp only [Nat.reduceBEq,wE];done)|((repeat' (first|assumption|exact mAx _|refine mBx ?_ ?_|exact mCx (by assumption)|refine mDx ?_|refine mEx ?_ ?_ ?_|exact mFx|refine mGx ?_ ?_ ?_|exact mHx|exact mIx _|(simp only [wM,Nat.reduceAdd,Nat.reduceLT,Nat.reduceLeDiff];done)));done)|omega|decide) only [ha.len, ↓wA,wB,wL,resOf,Nat.reduceBEq,Int.reduceBEq,Int.reduceBNe,Int.reduceLT,Int.reduceLE,Int.reduceAdd,Int.reduceSub,Int.reduceMul,Int.reduceToNat]
  refine ifThen_intro (fun e => ?_) (fun e => ?_) <;> have eq := e <;> try simp [-List.getD_eq_getElem?_getD] at eq
  · simp (disch := first|(simp only [Nat.reduceBEq,wE];done)|((repeat' (first|assumption|exact mAx _|refine mBx ?_ ?_|exact mCx (by assumption)|refine mDx ?_|refine mEx ?_ ?_ ?_|exact mFx|refine mGx ?_ ?_ ?_|exact mHx|exact mIx _|(simp only [wM,Nat.reduceAdd,Nat.reduceLT,Nat.reduceLeDiff];done)));done)|omega|decide) only [e, ↓wA,wB,wL,resOf,Nat.reduceBEq,Int.reduceBEq,Int.reduceBNe,Int.reduceLT,Int.reduceLE,Int.reduceAdd,Int.reduceSub,Int.reduceMul,Int.reduceToNat]
    refine wloop (fun mm ss => ∃ (k : Nat) (u4 u10 u15 u37 : AV), (mm = i - k) ∧ (k ≤ i ∧ ∀ j, j < k → ¬ (ov (sg l i) (sg l j) = true ∧ c.getD j 0 = c.getD i 0)) ∧ ss = { fr := [(0, a), (1, b), (4, u4), (5, .int .i64 i), (6, .int .i64 k), (10, u10), (15, u15), (37, u37)], hp := h.en }) (i) ?_ ?_
    ·
      refine ⟨0, _, _, _, _, by omega, ⟨by omega, fun j hj => by omega⟩, rfl⟩
    rintro nB sB ⟨k, u4, u10, u15, u37, hnB, ⟨hk2, hall⟩, rfl⟩
    simp (disch := first|(simp only [Nat.reduceBEq,wE];done)|((repeat' (first|assumption|exact mAx _|refine mBx ?_ ?_|exact mCx (by assumption)|refine mDx ?_|refine mEx ?_ ?_ ?_|exact mFx|refine mGx ?_ ?_ ?_|exact mHx|exact mIx _|(simp only [wM,Nat.reduceAdd,Nat.reduceLT,Nat.reduceLeDiff];done)));done)|omega|decide) only [e, ↓wA,wB,wL,resOf,Nat.reduceBEq,Int.reduceBEq,Int.reduceBNe,Int.reduceLT,Int.reduceLE,Int.reduceAdd,Int.reduceSub,Int.reduceMul,Int.reduceToNat]
    refine ifThen_intro (fun e2 => ?_) (fun e2 => ?_) <;> have e2q := e2 <;> try simp [-List.getD_eq_getElem?_getD] at e2q
    · have hdi : l.getD i (0, 0) = sg l i := rfl
      have hdk : l.getD k (0, 0) = sg l k := rfl
      have e1 : ov ((sg l i).1, (sg l i).2) ((sg l k).1, (sg l k).2) = ov (sg l i) (sg l k) := rfl
      by_cases e4 : ov (sg l i) (sg l k) = true
      · by_cases e5 : c.getD i 0 = c.getD k 0
        · have e5b : (c.getD i 0 == c.getD k 0) = true := by simpa using e5
          simp (disch := first|(simp only [Nat.reduceBEq,wE];done)|((repeat' (first|assumption|exact mAx _|refine mBx ?_ ?_|exact mCx (by assumption)|refine mDx ?_|refine mEx ?_ ?_ ?_|exact mFx|refine mGx ?_ ?_ ?_|exact mHx|exact mIx _|(simp only [wM,Nat.reduceAdd,Nat.reduceLT,Nat.reduceLeDiff];done)));done)|omega|decide) only [e, e2, ha.ix, ha.lda, hdi, hdk, callT (f24 _ _ _ _ _ _), e1, e4, hc.ix, hc.ld, e5b, ↓wA,wB,wL,resOf,Nat.reduceBEq,Int.reduceBEq,Int.reduceBNe,Int.reduceLT,Int.reduceLE,Int.reduceAdd,Int.reduceSub,Int.reduceMul,Int.reduceToNat]
          exact ⟨_, rfl, by rw [propU_at eq (mem_takenU.2 ⟨k, by omega, e4, e5.symm⟩)], by (repeat' (first|assumption|exact mAx _|refine mBx ?_ ?_|exact mCx (by assumption)|refine mDx ?_|refine mEx ?_ ?_ ?_|exact mFx|refine mGx ?_ ?_ ?_|exact mHx|exact mIx _|(simp only [wM,Nat.reduceAdd,Nat.reduceLT,Nat.reduceLeDiff];done)))⟩
        · have e5b : (c.getD i 0 == c.getD k 0) = false := by simpa using e5
          simp (disch := first|(simp only [Nat.reduceBEq,wE];done)|((repeat' (first|assumption|exact mAx _|refine mBx ?_ ?_|exact mCx (by assumption)|refine mDx ?_|refine mEx ?_ ?_ ?_|exact mFx|refine mGx ?_ ?_ ?_|exact mHx|exact mIx _|(simp only [wM,Nat.reduceAdd,Nat.reduceLT,Nat.reduceLeDiff];done)));done)|omega|decide) only [e, e2, ha.ix, ha.lda, hdi, hdk, callT (f24 _ _ _ _ _ _), e1, e4, hc.ix, hc.ld, e5b, ↓wA,wB,wL,resOf,Nat.reduceBEq,Int.reduceBEq,Int.reduceBNe,Int.reduceLT,Int.reduceLE,Int.reduceAdd,Int.reduceSub,Int.reduceMul,Int.reduceToNat]
          refine ⟨_, ?_, k + 1, _, _, _, _, rfl, ?_, rfl⟩
          · omega
          refine ⟨by omega, fun j hj hx => ?_⟩
          by_cases ej : j = k
          · subst ej; exact e5 hx.2.symm
          · exact hall j (by omega) hx
      · have e4b : ov (sg l i) (sg l k) = false := by simpa using e4
        simp (disch := first|(simp only [Nat.reduceBEq,wE];done)|((repeat' (first|assumption|exact mAx _|refine mBx ?_ ?_|exact mCx (by assumption)|refine mDx ?_|refine mEx ?_ ?_ ?_|exact mFx|refine mGx ?_ ?_ ?_|exact mHx|exact mIx _|(simp only [wM,Nat.reduceAdd,Nat.reduceLT,Nat.reduceLeDiff];done)));done)|omega|decide) only [e, e2, ha.ix, ha.lda, hdi, hdk, callT (f24 _ _ _ _ _ _), e1, e4b, ↓wA,wB,wL,resOf,Nat.reduceBEq,Int.reduceBEq,Int.reduceBNe,Int.reduceLT,Int.reduceLE,Int.reduceAdd,Int.reduceSub,Int.reduceMul,Int.reduceToNat]
        refine ⟨_, ?_, k + 1, _, _, _, _, rfl, ?_, rfl⟩
        · omega
        refine ⟨by omega, fun j hj hx => ?_⟩
        by_cases ej : j = k
        · subst ej; exact e4 hx.1
        · exact hall j (by omega) hx
    · have hm : ¬ c.getD i 0 ∈ takenU (sg l i) l c i := fun hx => by
        obtain ⟨j, hj, ho, he⟩ := mem_takenU.1 hx
        exact hall j (by omega) ⟨ho, he⟩
      simp (disch := first|(simp only [Nat.reduceBEq,wE];done)|((repeat' (first|assumption|exact mAx _|refine mBx ?_ ?_|exact mCx (by assumption)|refine mDx ?_|refine mEx ?_ ?_ ?_|exact mFx|refine mGx ?_ ?_ ?_|exact mHx|exact mIx _|(simp only [wM,Nat.reduceAdd,Nat.reduceLT,Nat.reduceLeDiff];done)));done)|omega|decide) only [e, e2, ↓wA,wB,wL,resOf,Nat.reduceBEq,Int.reduceBEq,Int.reduceBNe,Int.reduceLT,Int.reduceLE,Int.reduceAdd,Int.reduceSub,Int.reduceMul,Int.reduceToNat]
      refine ⟨_, ?_, i + 1, _, _, _, _, _, rfl, ?_, rfl⟩
      · omega
      exact ⟨by omega, by simp only [propU, hp, hm, decide_false, Bool.not_false, Bool.and_self]⟩
  · have hil : i = l.length := by omega
    rw [hil] at hp
    simp (disch := first|(simp only [Nat.reduceBEq,wE];done)|((repeat' (first|assumption|exact mAx _|refine mBx ?_ ?_|exact mCx (by assumption)|refine mDx ?_|refine mEx ?_ ?_ ?_|exact mFx|refine mGx ?_ ?_ ?_|exact mHx|exact mIx _|(simp only [wM,Nat.reduceAdd,Nat.reduceLT,Nat.reduceLeDiff];done)));done)|omega|decide) only [e, ↓wA,wB,wL,resOf,Nat.reduceBEq,Int.reduceBEq,Int.reduceBNe,Int.reduceLT,Int.reduceLE,Int.reduceAdd,Int.reduceSub,Int.reduceMul,Int.reduceToNat]
    exact ⟨_, rfl, by rw [hp], by (repeat' (first|assumption|exact mAx _|refine mBx ?_ ?_|exact mCx (by assumption)|refine mDx ?_|refine mEx ?_ ?_ ?_|exact mFx|refine mGx ?_ ?_ ?_|exact mHx|exact mIx _|(simp only [wM,Nat.reduceAdd,Nat.reduceLT,Nat.reduceLeDiff];done)))⟩

end Go.Proofs.Ytgpdimkgfhgffaa

