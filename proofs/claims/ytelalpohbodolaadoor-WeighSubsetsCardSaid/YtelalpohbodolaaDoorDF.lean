/- Subset, the program's and the reference's. -/
import Derived.Test.YtelalpohbodolaaDoorDE
set_option linter.unusedSimpArgs false
set_option linter.unusedVariables false
set_option maxHeartbeats 4000000
set_option maxRecDepth 20000
namespace Go.Wg
def sbP (zs : List Int) (total : Int) (s : Nat) : Bool := decide (msum zs s = total)
def sbF (zs : List Int) (total : Int) : Option Nat := (LL zs.length).find? (sbP zs total)
def sbE (zs : List Int) (total : Int) : Int := if errW zs 12 total = 0 then (if (sbF zs total).isSome = true then 0 else 5) else errW zs 12 total
def sbL (zs : List Int) (total : Int) : List Int := if errW zs 12 total = 0 ∧ (sbF zs total).isSome = true then fl zs.length ((sbF zs total).getD 0) else []
theorem errW_good {zs : List Int} {total : Int} (e0 : errW zs 12 total = 0) : zs.length ≤ 12 ∧ WF zs ∧ 0 ≤ total := by
  have tp : 0 ≤ total := by
    rcases Int.lt_or_le total 0 with h1 | h1
    · rcases errW_neg (zs := zs) h1 with h2 | h2 <;> rw [h2] at e0 <;> cases e0
    · exact h1
  rcases errW_cases zs total tp with ⟨h1, _⟩ | ⟨h1, _⟩ | ⟨_, h2, h3⟩
  · rw [h1] at e0; cases e0
  · rw [h1] at e0; cases e0
  · exact ⟨h2, h3, tp⟩
theorem least_step {n k : Nat} {P : Nat → Bool} {o : Option (List Int)} (H : leastI n P k o) : 
    (P k = false → leastI n P (k + 1) o) ∧ (P k = true → o = none → leastI n P (k + 1) (some (fl n k))) ∧
    (P k = true → ∀ x, o = some x → (fl n k < x → leastI n P (k + 1) (some (fl n k))) ∧ (¬ fl n k < x → leastI n P (k + 1) o)) := by
  refine ⟨fun hp => ?_, fun hp ho => ?_, fun hp x ho => ⟨fun hl => ?_, fun hl => ?_⟩⟩
  · cases o with
    | none =>
      intro s hs
      rcases Nat.lt_or_ge s k with h | h
      · exact H s h
      · rw [show s = k by omega]; exact hp
    | some x =>
      obtain ⟨s, h1, h2, h3, h4⟩ := H
      refine ⟨s, by omega, h2, h3, fun t ht hpt => ?_⟩
      rcases Nat.lt_or_ge t k with h | h
      · exact h4 t h hpt
      · rw [show t = k by omega, hp] at hpt; cases hpt
  · subst ho
    refine ⟨k, by omega, hp, rfl, fun t ht hpt => ?_⟩
    rcases Nat.lt_or_ge t k with h | h
    · rw [H t h] at hpt; cases hpt
    · rw [show t = k by omega]; exact List.lt_irrefl _
  · subst ho
    obtain ⟨s, h1, h2, h3, h4⟩ := H
    refine ⟨k, by omega, hp, rfl, fun t ht hpt => ?_⟩
    rcases Nat.lt_or_ge t k with h | h
    · exact fun hh => h4 t h hpt (List.lt_trans hh hl)
    · rw [show t = k by omega]; exact List.lt_irrefl _
  · subst ho
    obtain ⟨s, h1, h2, h3, h4⟩ := H
    refine ⟨s, by omega, h2, h3, fun t ht hpt => ?_⟩
    rcases Nat.lt_or_ge t k with h | h
    · exact h4 t h hpt
    · rw [show t = k by omega]; exact hl
theorem least_find {n : Nat} {P : Nat → Bool} {o : Option (List Int)} (H : leastI n P (2 ^ n) o) : o = ((LL n).find? P).map (fl n) := by
  cases e : (LL n).find? P with
  | none =>
    have hn := find_none e
    cases o with
    | none => rfl
    | some x =>
      obtain ⟨s, h1, h2, _⟩ := H
      rw [hn s h1] at h2; cases h2
  | some s1 =>
    obtain ⟨p1, p2, p3⟩ := first_least e
    cases o with
    | none => rw [H s1 p2] at p1; cases p1
    | some x =>
      obtain ⟨s, h1, h2, h3, h4⟩ := H
      rcases p3 s h1 h2 with rfl | hl
      · rw [h3]; rfl
      · rw [← h3] at hl; exact absurd hl (h4 s1 p2 p1)
end Go.Wg
namespace Go.Proofs.YtelalpohbodolaaDoor
open Go Go.Abs Go.Wg

theorem f48 (s p q : Nat) (a : AV) (zs : List Int) (total : Int) (h : Hp) (hk : Hok h) (bp : Box h.blks p [a]) (bq : Box h.blks q [.int .i64 total]) (ha : Ints h.blks .i64 a zs) (hz : zs.length ≤ 16) (hs : s < 65536) (hb : ∀ z ∈ zs, 0 ≤ z ∧ z ≤ 100000) :
    Evals Tryd.prog tab false (.func 48) [.int .u64 s, .ptr p 0, .ptr q 0] h (.bool (sbP zs total s), h) := by
  refine evals_pure c48 rfl hk ?_
  simp only [sf48, initS_cons, initS_nil]
  have x1 := bp.ld (Sub.refl _) (j := 0)
  have x2 := bq.ld (Sub.refl _) (j := 0)
  have su := f49 s a zs h.en hk ha hz hs hb
  simp (disch := first|(simp only [Nat.reduceBEq,wE];done)|((repeat' (first|assumption|exact mAx _|refine mBx ?_ ?_|exact mCx (by assumption)|refine mDx ?_|refine mEx ?_ ?_ ?_|exact mFx|refine mGx ?_ ?_ ?_|exact mHx|exact mIx _|(simp only [wM,Nat.reduceAdd,Nat.reduceLT,Nat.reduceLeDiff];done)));done)|omega|decide) only [x1, x2, callT su, ↓wA,wB,wL,resOf,Nat.reduceBEq,Int.reduceBEq,Int.reduceBNe,Int.reduceLT,Int.reduceLE,Int.reduceAdd,Int.reduceSub,Int.reduceMul,Int.reduceToNat]
  refine ⟨_, rfl, congrArg AV.bool ?_, Grown.en⟩
  unfold sbP
  rw [Bool.eq_iff_iff]
  simp only [beq_iff_eq, decide_eq_true_eq]

theorem f20 (a : AV) (zs : List Int) (total : Int) (h : Hp) (hk : Hok h) (ha : Ints h.blks .i64 a zs) (hz : zs.length ≤ 1000) (ra : refOK h.next a = true) :
    ∃ v h', Evals Tryd.prog tab false (.func 20) [a, .int .i64 total] h (v, h') ∧ Grown h h' ∧ ∃ q, v = .tu [q, .int .i64 (sbE zs total)] ∧ Own h.next h'.blks .i64 q (sbL zs total) := by
  refine evals_q c20 (fun v h' => ∃ q, v = .tu [q, .int .i64 (sbE zs total)] ∧ Own h.next h'.blks .i64 q (sbL zs total)) rfl hk ?_ (fun v h1 g q => by
    obtain ⟨s, rfl, q⟩ := q
    have e : refOK h.next (.tu [s, .int .i64 (sbE zs total)]) = refOK h.next s := by simp [refOK, refsOK]
    rw [e]
    exact ⟨fun hr => ⟨s, rfl, q.leave.1 hr⟩, fun hr => ⟨s, rfl, q.leave.2 hr⟩⟩)
  simp only [sf20, initS_cons, initS_nil]
  have ca := Arr.cell ha
  have k1 : Hok (h.en.pu [a]) := Hok.pu hk (by simp only [refsOK_cons, refsOK_nil, Bool.and_true]; exact refOK_mono (Nat.le_succ _) ra)
  have k2 : Hok ((h.en.pu [a]).pu [.int .i64 total]) := Hok.pu k1 rfl
  have g2 : Grown h ((h.en.pu [a]).pu [.int .i64 total]) := Grown.pu (Grown.pu Grown.en (by simp only [refsOK_cons, refsOK_nil, Bool.and_true]; exact refOK_mono (Nat.le_succ _) ra)) rfl
  have a2 : Ints ((h.en.pu [a]).pu [.int .i64 total]).blks .i64 a zs := (ha.sub (Sub.pu (h := h.en) hk)).sub (Sub.pu k1)
  have C := f45 a zs 12 total ((h.en.pu [a]).pu [.int .i64 total]) k2 a2 hz (by omega)
  replace C : Evals Tryd.prog tab false (.func 45) [a, .int .i64 12, .int .i64 total] ((h.en.pu [a]).pu [.int .i64 total]) (.int .i64 (errW zs 12 total), (h.en.pu [a]).pu [.int .i64 total]) := C
  have n1 : h.next ≠ h.next + 1 := by omega
  have n2 : h.next ≠ h.next + 1 + 1 := by omega
  have n3 : h.next + 1 ≠ h.next + 1 + 1 := by omega
  have c0 : cellB ((h.en.pu [a]).pu [.int .i64 total]).blks h.next 0 = some a := by
    show cellB (_ :: _ :: h.blks) h.next 0 = _
    rw [cellB_miss (Ne.symm n1)]; exact cellB_hit
  have c1 : cellB ((h.en.pu [a]).pu [.int .i64 total]).blks (h.next + 1) 0 = some (.int .i64 total) := cellB_hit
  by_cases e0 : errW zs 12 total = 0
  · obtain ⟨wl, wf, tp⟩ := errW_good e0
    have hz0 := wf.2
    have hb := wf.1.bd
    have p12 : 2 ^ zs.length ≤ 2 ^ 12 := Nat.pow_le_pow_right (by omega) wl
    rw [e0] at C
    obtain ⟨h3, eh3⟩ : ∃ h3 : Hp, h3 = ((h.en.pu [a]).pu [.int .i64 total]).pu [.int .i64 zs.length] := ⟨_, rfl⟩
    have su := f47 zs.length ((h.en.pu [a]).pu [.int .i64 total])
    rw [← eh3] at su
    have k3 : Hok h3 := by rw [eh3]; exact Hok.pu k2 rfl
    have g3 : Grown h h3 := by rw [eh3]; exact Grown.pu g2 rfl
    have a3 : Ints h3.blks .i64 a zs := by rw [eh3]; exact a2.sub (Sub.pu k2)
    have b0 : Box h3.blks h.next [a] := ⟨h.next, true, by
      rw [eh3]; show lkB (_ :: _ :: _ :: h.blks) h.next = _
      rw [lkB_push n2, lkB_push n1]; exact lkB_top⟩
    have b1 : Box h3.blks (h.next + 1) [.int .i64 total] := ⟨h.next + 1, true, by
      rw [eh3]; show lkB (_ :: _ :: _ :: h.blks) (h.next + 1) = _
      rw [lkB_push n3]; exact lkB_top⟩
    have b2 : lkB h3.blks (h.next + 1 + 1) = some { cells := [.int .i64 zs.length], ch := h.next + 1 + 1, wr := true } := by
      rw [eh3]; show lkB (_ :: _ :: _ :: h.blks) (h.next + 1 + 1) = _
      exact lkB_top
    have n3' : h3.next = h.next + 1 + 1 + 1 := by rw [eh3]
    have F := f46 zs.length (h.next + 1 + 1) 48 hz0 (by omega) [.ptr h.next 0, .ptr (h.next + 1) 0] (sbP zs total) _ h3 k3 b2 rfl
      (by simp only [refsOK_cons, refsOK_nil, refOK, Bool.and_true, Bool.and_eq_true, Nat.blt_eq]; omega)
      (fun s h' hs hk' sb => f48 s h.next (h.next + 1) a zs total h' hk' (b0.sub sb) (b1.sub sb) (a3.sub sb) (by omega) (by omega) hb)
    have x1 := b0.ld (Sub.refl _) (j := 0)
    cases ef : (LL zs.length).find? (sbP zs total) with
    | none =>
      rw [ef] at F
      have eE : sbE zs total = 5 := by unfold sbE sbF; rw [if_pos e0, ef]; rfl
      have eL : sbL zs total = [] := by unfold sbL sbF; rw [ef]; simp
      rw [eE, eL]
      replace F : Evals Tryd.prog tab false (.func 46) [.fn (.func 66) [] [.ptr (h.next + 1 + 1) 0], .fn (.func 48) [] [.ptr h.next 0, .ptr (h.next + 1) 0]] h3 (.tu [.int .u64 0, .bool false], h3) := F
      simp (disch := first|(simp only [Nat.reduceBEq,wE];done)|((repeat' (first|assumption|exact mAx _|refine mBx ?_ ?_|exact mCx (by assumption)|refine mDx ?_|refine mEx ?_ ?_ ?_|exact mFx|refine mGx ?_ ?_ ?_|exact mHx|exact mIx _|(simp only [wM,Nat.reduceAdd,Nat.reduceLT,Nat.reduceLeDiff];done)));done)|omega|decide) only [sBox_v ca, sBox_int, c0, c1, callT C, ha.len, callT su, callT F, ↓wA,wB,wL,resOf,Nat.reduceBEq,Int.reduceBEq,Int.reduceBNe,Int.reduceLT,Int.reduceLE,Int.reduceAdd,Int.reduceSub,Int.reduceMul,Int.reduceToNat]
      exact ⟨_, rfl, g3, .nilsl, rfl, Own.nil⟩
    | some s =>
      rw [ef] at F
      have hs := (first_least ef).2.1
      have eE : sbE zs total = 0 := by unfold sbE sbF; rw [if_pos e0, ef]; rfl
      have eL : sbL zs total = fl zs.length s := by unfold sbL sbF; rw [ef, if_pos ⟨e0, rfl⟩]; rfl
      rw [eE, eL]
      replace F : Evals Tryd.prog tab false (.func 46) [.fn (.func 66) [] [.ptr (h.next + 1 + 1) 0], .fn (.func 48) [] [.ptr h.next 0, .ptr (h.next + 1) 0]] h3 (.tu [.int .u64 s, .bool true], h3) := F
      obtain ⟨q, h4, eI, g4, o4⟩ := f41 s h3 k3 (by omega)
      rw [fl_blen hs] at o4
      simp (disch := first|(simp only [Nat.reduceBEq,wE];done)|((repeat' (first|assumption|exact mAx _|refine mBx ?_ ?_|exact mCx (by assumption)|refine mDx ?_|refine mEx ?_ ?_ ?_|exact mFx|refine mGx ?_ ?_ ?_|exact mHx|exact mIx _|(simp only [wM,Nat.reduceAdd,Nat.reduceLT,Nat.reduceLeDiff];done)));done)|omega|decide) only [sBox_v ca, sBox_int, c0, c1, callT C, ha.len, callT su, callT F, callT eI, ↓wA,wB,wL,resOf,Nat.reduceBEq,Int.reduceBEq,Int.reduceBNe,Int.reduceLT,Int.reduceLE,Int.reduceAdd,Int.reduceSub,Int.reduceMul,Int.reduceToNat]
      exact ⟨_, rfl, GrownR.trans g3 g4, q, rfl, o4.le (by omega)⟩
  · have d0 : (errW zs 12 total != 0) = true := bne_iff_ne.2 e0
    have eE : sbE zs total = errW zs 12 total := by unfold sbE; rw [if_neg e0]
    have eL : sbL zs total = [] := by unfold sbL; rw [if_neg (fun hh => e0 hh.1)]
    rw [eE, eL]
    simp (disch := first|(simp only [Nat.reduceBEq,wE];done)|((repeat' (first|assumption|exact mAx _|refine mBx ?_ ?_|exact mCx (by assumption)|refine mDx ?_|refine mEx ?_ ?_ ?_|exact mFx|refine mGx ?_ ?_ ?_|exact mHx|exact mIx _|(simp only [wM,Nat.reduceAdd,Nat.reduceLT,Nat.reduceLeDiff];done)));done)|omega|decide) only [sBox_v ca, sBox_int, c0, c1, callT C, d0, ↓wA,wB,wL,resOf,Nat.reduceBEq,Int.reduceBEq,Int.reduceBNe,Int.reduceLT,Int.reduceLE,Int.reduceAdd,Int.reduceSub,Int.reduceMul,Int.reduceToNat]
    exact ⟨_, rfl, g2, .nilsl, rfl, Own.nil⟩

theorem own_nn {c : Nat} {bs : List (Nat × Blk)} {k : IntKind} {q : AV} {zs : List Int} (O : Own c bs k q zs) (h : q ≠ .nilsl) : sBin .eql .slice q .nilsl = some (.bool false) := by
  obtain ⟨hl', ⟨_, h1⟩ | ⟨id, b, cap, rfl, _⟩⟩ := O
  · exact absurd h1 h
  · rfl

theorem f22 (a : AV) (zs : List Int) (total : Int) (h : Hp) (hk : Hok h) (ha : Ints h.blks .i64 a zs) (hz : zs.length ≤ 12) (hb : ∀ z ∈ zs, 0 ≤ z ∧ z ≤ 100000) :
    ∃ v h', Evals Tryd.prog tab false (.func 22) [a, .int .i64 total] h (v, h') ∧ Grown h h' ∧ ∃ q, v = .tu [q, .int .i64 ((SS zs).count total : Nat)] ∧ (((sbF zs total) = none ∧ q = .nilsl) ∨ ∃ s, sbF zs total = some s ∧ Own h.next h'.blks .i64 q (fl zs.length s)) := by
  refine evals_q c22 (fun v h' => ∃ q, v = .tu [q, .int .i64 ((SS zs).count total : Nat)] ∧ (((sbF zs total) = none ∧ q = .nilsl) ∨ ∃ s, sbF zs total = some s ∧ Own h.next h'.blks .i64 q (fl zs.length s))) rfl hk ?_ (fun v h1 g q => by
    obtain ⟨s, rfl, q⟩ := q
    have e : refOK h.next (.tu [s, .int .i64 ((SS zs).count total : Nat)]) = refOK h.next s := by simp [refOK, refsOK]
    rw [e]
    rcases q with ⟨q1, q2⟩ | ⟨x, q1, q2⟩
    · exact ⟨fun hr => ⟨s, rfl, .inl ⟨q1, q2⟩⟩, fun hr => ⟨s, rfl, .inl ⟨q1, q2⟩⟩⟩
    · exact ⟨fun hr => ⟨s, rfl, .inr ⟨x, q1, q2.leave.1 hr⟩⟩, fun hr => ⟨s, rfl, .inr ⟨x, q1, q2.leave.2 hr⟩⟩⟩)
  simp only [sf22, initS_cons, initS_nil]
  obtain ⟨u, h2, eu, g2, o2⟩ := f43 a zs h.en hk ha hz hb
  have k2 := g2.ok hk
  have gh2 : Grown h h2 := GrownR.of_en g2
  have ul := SU_len zs
  have p12 : 2 ^ zs.length ≤ 2 ^ 12 := Nat.pow_le_pow_right (by omega) hz
  have p12 : 2 ^ zs.length ≤ 4096 := p12
  simp (disch := first|(simp only [Nat.reduceBEq,wE];done)|((repeat' (first|assumption|exact mAx _|refine mBx ?_ ?_|exact mCx (by assumption)|refine mDx ?_|refine mEx ?_ ?_ ?_|exact mFx|refine mGx ?_ ?_ ?_|exact mHx|exact mIx _|(simp only [wM,Nat.reduceAdd,Nat.reduceLT,Nat.reduceLeDiff];done)));done)|omega|decide) only [callT eu, ↓wA,wB,wL,resOf,Nat.reduceBEq,Int.reduceBEq,Int.reduceBNe,Int.reduceLT,Int.reduceLE,Int.reduceAdd,Int.reduceSub,Int.reduceMul,Int.reduceToNat]
  refine wloop (fun mm ss => ∃ (k : Nat) (q : AV) (h3 : Hp) (u4 u5 u10 u16 u24 u35 : AV), (mm = 2 ^ zs.length - k) ∧ (k ≤ 2 ^ zs.length ∧ Grown h2 h3 ∧ ∃ o, leastI zs.length (sbP zs total) k o ∧ ((o = none ∧ q = .nilsl) ∨ ∃ x, o = some x ∧ Own h2.next h3.blks .i64 q x ∧ q ≠ .nilsl)) ∧ ss = { fr := [(0, a), (1, .int .i64 total), (4, u4), (5, u5), (6, u), (7, .int .i64 (((List.range k).countP (fun s => decide (msum zs s = total)) : Nat) : Int)), (8, q), (9, .int .i64 k), (10, u10), (16, u16), (24, u24), (35, u35)], hp := h3 }) (2 ^ zs.length) ?_ ?_
  ·
    refine ⟨0, _, _, _, _, _, _, _, _, by omega, ⟨by omega, Grown.refl, none, fun s hs => by omega, .inl ⟨rfl, rfl⟩⟩, rfl⟩
  rintro nA sA ⟨k, q, h3, u4, u5, u10, u16, u24, u35, hnA, ⟨hi, g3, o, le, ho⟩, rfl⟩
  have k3 := g3.ok k2
  have u3 : Ints h3.blks .i64 u (SU zs) := o2.ints.sub (g3.sub k2)
  have ol := u3.len
  rw [ul] at ol
  have cl : (List.range k).countP (fun s => decide (msum zs s = total)) ≤ k := by
    have := List.countP_le_length (p := fun s => decide (msum zs s = total)) (l := List.range k)
    rw [List.length_range] at this
    exact this
  have cs : (List.range (k + 1)).countP (fun s => decide (msum zs s = total)) = (List.range k).countP (fun s => decide (msum zs s = total)) + if msum zs k = total then 1 else 0 := by
    rw [List.range_succ, List.countP_append]
    simp [List.countP_cons]
  obtain ⟨T, hT⟩ : ∃ T, T = 2 ^ zs.length := ⟨_, rfl⟩
  by_cases ek : k < 2 ^ zs.length
  · have d1 : decide ((k : Int) < ((2 ^ zs.length : Nat) : Int)) = true := decide_eq_true (by omega)
    have sg := SU_get ek
    by_cases em : msum zs k = total
    · have d2 : (msum zs k != total) = false := by rw [bne_eq_false_iff_eq]; exact em
      have pk : sbP zs total k = true := decide_eq_true em
      rw [if_pos em] at cs
      obtain ⟨x, h4, eI, g4, o4, nx⟩ := f44 k h3 k3 (by omega)
      rw [fl_blen ek] at o4
      have k4 := g4.ok k3
      have g34 := GrownR.trans g3 g4
      have cc : (((List.range k).countP (fun s => decide (msum zs s = total)) : Nat) : Int) + 1 = (((List.range (k + 1)).countP (fun s => decide (msum zs s = total)) : Nat) : Int) := by omega
      have fll : ∀ s, s < 2 ^ zs.length → (fl zs.length s).length ≤ 12 := fun s _ => by
        unfold fl
        rw [List.length_map]
        have := List.length_filter_le (fun j => bt s j) (List.range zs.length)
        rw [List.length_range] at this
        omega
      rcases ho with ⟨rfl, rfl⟩ | ⟨x0, rfl, oq, nq⟩
      · have nn : sBin .eql .slice .nilsl .nilsl = some (.bool true) := rfl
        simp (disch := first|(simp only [Nat.reduceBEq,wE];done)|((repeat' (first|assumption|exact mAx _|refine mBx ?_ ?_|exact mCx (by assumption)|refine mDx ?_|refine mEx ?_ ?_ ?_|exact mFx|refine mGx ?_ ?_ ?_|exact mHx|exact mIx _|(simp only [wM,Nat.reduceAdd,Nat.reduceLT,Nat.reduceLeDiff];done)));done)|omega|decide) only [ol, d1, u3.ix, u3.ld, sg, d2, cc, callT eI, nn, ↓wA,wB,wL,resOf,Nat.reduceBEq,Int.reduceBEq,Int.reduceBNe,Int.reduceLT,Int.reduceLE,Int.reduceAdd,Int.reduceSub,Int.reduceMul,Int.reduceToNat]
        refine ⟨_, ?_, k + 1, _, _, _, _, _, _, _, _, rfl, ?_, rfl⟩
        · omega
        exact ⟨by omega, g34, some (fl zs.length k), (least_step le).2.1 pk rfl, .inr ⟨_, rfl, o4.le g3.next, nx⟩⟩
      · have nn := own_nn oq nq
        have oq4 := oq.sub (g4.sub k3)
        obtain ⟨s0, q1, q2, q3, q4⟩ := le
        have BF := f33 x q (fl zs.length k) x0 h4 k4 o4.ints oq4.ints (by have := fll k ek; omega) (by rw [q3]; have := fll s0 (by omega); omega)
        have st := (least_step (n := zs.length) (k := k) (P := sbP zs total) (o := some x0) ⟨s0, q1, q2, q3, q4⟩).2.2 pk x0 rfl
        by_cases eb : fl zs.length k < x0
        · rw [decide_eq_true eb] at BF
          simp (disch := first|(simp only [Nat.reduceBEq,wE];done)|((repeat' (first|assumption|exact mAx _|refine mBx ?_ ?_|exact mCx (by assumption)|refine mDx ?_|refine mEx ?_ ?_ ?_|exact mFx|refine mGx ?_ ?_ ?_|exact mHx|exact mIx _|(simp only [wM,Nat.reduceAdd,Nat.reduceLT,Nat.reduceLeDiff];done)));done)|omega|decide) only [ol, d1, u3.ix, u3.ld, sg, d2, cc, callT eI, nn, callT BF, ↓wA,wB,wL,resOf,Nat.reduceBEq,Int.reduceBEq,Int.reduceBNe,Int.reduceLT,Int.reduceLE,Int.reduceAdd,Int.reduceSub,Int.reduceMul,Int.reduceToNat]
          refine ⟨_, ?_, k + 1, _, _, _, _, _, _, _, _, rfl, ?_, rfl⟩
          · omega
          exact ⟨by omega, g34, some (fl zs.length k), st.1 eb, .inr ⟨_, rfl, o4.le g3.next, nx⟩⟩
        · rw [decide_eq_false eb] at BF
          simp (disch := first|(simp only [Nat.reduceBEq,wE];done)|((repeat' (first|assumption|exact mAx _|refine mBx ?_ ?_|exact mCx (by assumption)|refine mDx ?_|refine mEx ?_ ?_ ?_|exact mFx|refine mGx ?_ ?_ ?_|exact mHx|exact mIx _|(simp only [wM,Nat.reduceAdd,Nat.reduceLT,Nat.reduceLeDiff];done)));done)|omega|decide) only [ol, d1, u3.ix, u3.ld, sg, d2, cc, callT eI, nn, callT BF, ↓wA,wB,wL,resOf,Nat.reduceBEq,Int.reduceBEq,Int.reduceBNe,Int.reduceLT,Int.reduceLE,Int.reduceAdd,Int.reduceSub,Int.reduceMul,Int.reduceToNat]
          refine ⟨_, ?_, k + 1, _, _, _, _, _, _, _, _, rfl, ?_, rfl⟩
          · omega
          exact ⟨by omega, g34, some x0, st.2 eb, .inr ⟨_, rfl, oq4, nq⟩⟩
    · have d2 : (msum zs k != total) = true := bne_iff_ne.2 em
      have pk : sbP zs total k = false := decide_eq_false em
      rw [if_neg em] at cs
      replace cs : (List.range (k + 1)).countP (fun s => decide (msum zs s = total)) = (List.range k).countP (fun s => decide (msum zs s = total)) := cs
      simp (disch := first|(simp only [Nat.reduceBEq,wE];done)|((repeat' (first|assumption|exact mAx _|refine mBx ?_ ?_|exact mCx (by assumption)|refine mDx ?_|refine mEx ?_ ?_ ?_|exact mFx|refine mGx ?_ ?_ ?_|exact mHx|exact mIx _|(simp only [wM,Nat.reduceAdd,Nat.reduceLT,Nat.reduceLeDiff];done)));done)|omega|decide) only [ol, d1, u3.ix, u3.ld, sg, d2, ↓wA,wB,wL,resOf,Nat.reduceBEq,Int.reduceBEq,Int.reduceBNe,Int.reduceLT,Int.reduceLE,Int.reduceAdd,Int.reduceSub,Int.reduceMul,Int.reduceToNat]
      rw [← cs]
      refine ⟨_, ?_, k + 1, _, _, _, _, _, _, _, _, rfl, ?_, rfl⟩
      · omega
      exact ⟨by omega, g3, o, (least_step le).1 pk, ho⟩
  · have d1 : decide ((k : Int) < ((2 ^ zs.length : Nat) : Int)) = false := decide_eq_false (by omega)
    have ke : k = 2 ^ zs.length := by omega
    have lf := least_find (by rw [ke] at le; exact le)
    have ce : (List.range k).countP (fun s => decide (msum zs s = total)) = (SS zs).count total := by rw [ke, count_range, count_perm]
    rw [← ce]
    simp (disch := first|(simp only [Nat.reduceBEq,wE];done)|((repeat' (first|assumption|exact mAx _|refine mBx ?_ ?_|exact mCx (by assumption)|refine mDx ?_|refine mEx ?_ ?_ ?_|exact mFx|refine mGx ?_ ?_ ?_|exact mHx|exact mIx _|(simp only [wM,Nat.reduceAdd,Nat.reduceLT,Nat.reduceLeDiff];done)));done)|omega|decide) only [ol, d1, ↓wA,wB,wL,resOf,Nat.reduceBEq,Int.reduceBEq,Int.reduceBNe,Int.reduceLT,Int.reduceLE,Int.reduceAdd,Int.reduceSub,Int.reduceMul,Int.reduceToNat]
    refine ⟨_, rfl, GrownR.trans gh2 g3, q, rfl, ?_⟩
    rcases ho with ⟨rfl, rfl⟩ | ⟨x0, rfl, oq, nq⟩
    · refine .inl ⟨?_, rfl⟩
      unfold sbF
      cases e : (LL zs.length).find? (sbP zs total) with
      | none => rfl
      | some s => rw [e] at lf; cases lf
    · right
      unfold sbF
      cases e : (LL zs.length).find? (sbP zs total) with
      | none => rw [e] at lf; cases lf
      | some s =>
        rw [e] at lf
        simp only [Option.map_some, Option.some.injEq] at lf
        exact ⟨s, rfl, by rw [← lf]; exact oq.le gh2.next⟩
end Go.Proofs.YtelalpohbodolaaDoor
