/- Calls and rounds: the interpreter, whole, is sound. From a call's contract to a law's statement: the parts that all laws share; arguments as abstract values. -/
import Derived.Test.YtelalpohbodolaaDoorO
import Derived.ChangeSame
import Derived.Carry
import Derived.ProofKit
import Derived.OpenShut
set_option linter.unusedSimpArgs false
set_option linter.unusedVariables false
namespace Go.Abs
open Go Go.RowKit

section
variable {P : Program} {base : Prot} {call : CallF} {g : Bool} {m : Nat}

theorem HR.same {σ : Env} {h h' : Hp} {w : World} (H : HR σ base h w) (h1 : h'.next = h.next) (h2 : h'.blks = h.blks) (h3 : h'.loops = h.loops) : HR σ base h' w := by
  obtain ⟨n', b', l', ba', es'⟩ := h'
  simp only at h1 h2 h3
  subst h1 h2 h3
  exact ⟨H.dom, H.srt, H.chn, H.cel, H.al, H.lps⟩

theorem keepB_sub (base : Nat) (ids : List Nat) : ∀ (l : List (Nat × Blk)) (x : Nat × Blk), x ∈ keepB base ids l → x ∈ l
  | [], x, h => by simp [keepB] at h
  | (j, b) :: r, x, h => by
    simp only [keepB] at h
    cases h1 : Nat.blt j base
    · cases h2 : ids.elem j
      · simp only [h1, h2, cond_false] at h
        exact List.mem_cons_of_mem _ (keepB_sub base ids r x h)
      · simp only [h1, h2, cond_false, cond_true, List.mem_cons] at h
        rcases h with rfl | h
        · simp
        · exact List.mem_cons_of_mem _ (keepB_sub base ids r x h)
    · simpa only [h1, cond_true] using h

theorem keepB_Srt (base : Nat) (ids : List Nat) : ∀ (l : List (Nat × Blk)), Srt l → Srt (keepB base ids l)
  | [], h => by simpa [keepB] using h
  | (j, b) :: r, h => by
    simp only [Srt, List.pairwise_cons] at h
    simp only [keepB]
    cases h1 : Nat.blt j base
    · cases h2 : ids.elem j
      · simp only [cond_false]
        exact keepB_Srt base ids r h.2
      · simp only [cond_false, cond_true, Srt, List.pairwise_cons]
        exact ⟨fun x hx => h.1 x (keepB_sub base ids r x hx), keepB_Srt base ids r h.2⟩
    · simp only [cond_true, Srt, List.pairwise_cons]
      exact h

theorem lkB_keepB (base : Nat) (ids : List Nat) : ∀ (l : List (Nat × Blk)), Srt l → ∀ {i : Nat} {b : Blk}, lkB (keepB base ids l) i = some b → lkB l i = some b
  | [], _, i, b, h => by simp [keepB, lkB] at h
  | (j, d) :: r, hs, i, b, h => by
    simp only [Srt, List.pairwise_cons] at hs
    simp only [keepB] at h
    cases h1 : Nat.blt j base
    · have tail : lkB (keepB base ids r) i = some b → lkB ((j, d) :: r) i = some b := fun h => by
        have h3 := lkB_keepB base ids r hs.2 h
        have h4 := hs.1 _ (lkB_mem h3)
        simp only at h4
        simp only [lkB, nb (show j ≠ i by omega), cond_false]
        exact h3
      cases h2 : ids.elem j
      · simp only [h1, h2, cond_false] at h
        exact tail h
      · simp only [h1, h2, cond_false, cond_true] at h
        by_cases e : j = i
        · subst e
          simp only [lkB, Nat.beq_refl, cond_true] at h ⊢
          exact h
        · simp only [lkB, nb e, cond_false] at h
          exact tail h
    · simpa only [h1, cond_true] using h

theorem HR.gc {σ : Env} {h0 h : Hp} {w : World} (H : HR σ base h w) (v : AV) : HR σ base (gc h0 v h) w := by
  unfold Abs.gc
  split
  · exact H.same rfl rfl rfl
  · simp only
    refine HR.same (H.sub (keepB_Srt _ _ _ H.srt) (fun x hx => H.chn x (keepB_sub _ _ _ x hx)) fun i d hd => ⟨d, lkB_keepB _ _ _ H.srt hd, rfl, rfl, d.cells.length, by simp⟩) rfl rfl rfl

/-- What the environment says of the first numbers. -/
def cutE (n : Nat) (σ : Env) : Env := fun i => if i < n then σ i else none

theorem blt_lt {a b : Nat} (h : Nat.blt a b = true) : a < b := Nat.le_of_ble_eq_true h

mutual
theorem R.cut {σ : Env} {n : Nat} : ∀ {a : AV} {v : Value}, refOK n a = true → R σ a v → R (cutE n σ) a v
  | .any, _, _, _ => by simp [R]
  | .bool x, v, _, hr => by simpa [R] using hr
  | .int k n, v, _, hr => by simpa [R] using hr
  | .str l, v, _, hr => by simpa [R] using hr
  | .ptr id off, v, ho, hr => by
    simp only [R] at hr ⊢
    obtain ⟨c, h1, h2⟩ := hr
    exact ⟨c, by simp only [cutE, if_pos (blt_lt (by simpa [refOK] using ho : Nat.blt id n = true))]; exact h1, h2⟩
  | .nilptr, v, _, hr => by simpa [R] using hr
  | .sl id off len cap sz, v, ho, hr => by
    simp only [R] at hr ⊢
    obtain ⟨c, k, h1, h2⟩ := hr
    exact ⟨c, k, by simp only [cutE, if_pos (blt_lt (by simpa [refOK] using ho : Nat.blt id n = true))]; exact h1, h2⟩
  | .nilsl, v, _, hr => by simpa [R] using hr
  | .esl, v, _, hr => by simpa [R] using hr
  | .mp id, v, ho, hr => by
    simp only [R] at hr ⊢
    obtain ⟨c, h1, h2⟩ := hr
    exact ⟨c, by simp only [cutE, if_pos (blt_lt (by simpa [refOK] using ho : Nat.blt id n = true))]; exact h1, h2⟩
  | .nilmp, v, _, hr => by simpa [R] using hr
  | .fn f a c, v, ho, hr => by
    simp only [refOK, Bool.and_eq_true] at ho
    simp only [R] at hr ⊢
    obtain ⟨x, y, h1, h2, h3⟩ := hr
    exact ⟨x, y, h1, Rs.cut ho.1 h2, Rs.cut ho.2 h3⟩
  | .yld id, v, ho, hr => by
    simp only [R] at hr ⊢
    obtain ⟨c, h1, h2⟩ := hr
    exact ⟨c, by simp only [cutE, if_pos (blt_lt (by simpa [refOK] using ho : Nat.blt id n = true))]; exact h1, h2⟩
  | .nilfn, v, _, hr => by simpa [R] using hr
  | .ifc t a, v, ho, hr => by
    simp only [refOK] at ho
    simp only [R] at hr ⊢
    obtain ⟨x, h1, h2⟩ := hr
    exact ⟨x, h1, R.cut ho h2⟩
  | .nilifc, v, _, hr => by simpa [R] using hr
  | .ag cs, v, ho, hr => by
    simp only [refOK] at ho
    simp only [R] at hr ⊢
    obtain ⟨x, h1, h2⟩ := hr
    exact ⟨x, h1, Rs.cut ho h2⟩
  | .tu cs, v, ho, hr => by
    simp only [refOK] at ho
    simp only [R] at hr ⊢
    obtain ⟨x, h1, h2⟩ := hr
    exact ⟨x, h1, Rs.cut ho h2⟩
theorem Rs.cut {σ : Env} {n : Nat} : ∀ {l : List AV} {m : List Value}, refsOK n l = true → Rs σ l m → Rs (cutE n σ) l m
  | [], m, _, hr => by simpa [Rs] using hr
  | a :: r, m, ho, hr => by
    simp only [refsOK, Bool.and_eq_true] at ho
    simp only [Rs] at hr ⊢
    obtain ⟨v, m', h1, h2, h3⟩ := hr
    exact ⟨v, m', h1, R.cut ho.1 h2, Rs.cut ho.2 h3⟩
end

theorem refsOK_get {n : Nat} : ∀ {l : List AV}, refsOK n l = true → ∀ {j : Nat} {a : AV}, l[j]? = some a → refOK n a = true
  | [], _, j, a, h => by simp at h
  | b :: r, ho, 0, a, h => by
    simp only [refsOK, Bool.and_eq_true] at ho
    simp at h
    subst h
    exact ho.1
  | b :: r, ho, j + 1, a, h => by
    simp only [refsOK, Bool.and_eq_true] at ho
    simp at h
    exact refsOK_get ho.2 h

theorem lkF_refOK {n : Nat} : ∀ {fr : Fr}, refsOK n (fr.map (·.2)) = true → ∀ t, refOK n (lkF fr t) = true
  | [], _, t => rfl
  | (j, v) :: r, ho, t => by
    simp only [List.map_cons, refsOK, Bool.and_eq_true] at ho
    simp only [lkF]
    cases Nat.beq j t
    · exact lkF_refOK ho.2 t
    · exact ho.1

theorem lkB_drop : ∀ {l : List (Nat × Blk)} (k : Nat), Srt l → ∀ {i : Nat} {b : Blk}, lkB (l.drop k) i = some b → lkB l i = some b
  | l, 0, _, i, b, h => by simpa using h
  | [], k + 1, _, i, b, h => by simp [lkB] at h
  | (j, d) :: r, k + 1, hs, i, b, h => by
    simp only [Srt, List.pairwise_cons] at hs
    have h3 := lkB_drop k hs.2 (by simpa using h)
    have h4 := hs.1 _ (lkB_mem h3)
    simp only at h4
    simp only [lkB, nb (show j ≠ i by omega), cond_false]
    exact h3

theorem lkL_mem : ∀ {l : List (Nat × LoopA)} {i : Nat} {b : LoopA}, lkL l i = some b → (i, b) ∈ l
  | [], i, b, h => by simp [lkL] at h
  | (j, d) :: r, i, b, h => by
    simp only [lkL] at h
    by_cases e : j = i
    · subst e
      simp only [Nat.beq_refl, cond_true, Option.some.injEq] at h
      subst h
      simp
    · simp only [nb e, cond_false] at h
      exact List.mem_cons_of_mem _ (lkL_mem h)

theorem lkL_lowL {n : Nat} : ∀ {ls : List (Nat × LoopA)} {i : Nat}, lkL (lowL n ls) i = if i < n then (lkL ls i).map (fun b => bif Nat.beq b.st 5 && !Nat.blt b.n n then deadObj else b) else none
  | [], i => by simp [lowL, lkL]
  | (j, b) :: ls, i => by
    simp only [lowL]
    cases hb : Nat.blt j n
    · simp only [cond_false, lkL_lowL, lkL_cons]
      by_cases e : i = j
      · subst e
        have : ¬ i < n := fun h => by rw [show Nat.blt i n = true by simpa using h] at hb; cases hb
        simp [this]
      · simp [e]
    · simp only [cond_true, lkL_cons, lkL_lowL]
      by_cases e : i = j
      · subst e
        simp [blt_lt hb]
      · simp [e]

theorem EntsR.cut {σ : Env} {n : Nat} : ∀ {l : List (AV × AV)} {es : List MapEntry}, (∀ e ∈ l, plainKey e.1 = true ∧ refOK n e.2 = true) → EntsR σ l es → EntsR (cutE n σ) l es
  | [], [], _, _ => trivial
  | a :: l, e :: es, h, ⟨h1, h2, h3⟩ => ⟨R_plain_any (h a (by simp)).1 h1, R.cut (h a (by simp)).2 h2, EntsR.cut (fun e he => h e (by simp [he])) h3⟩

theorem refsOK_mem {n : Nat} : ∀ {l : List AV}, refsOK n l = true → ∀ a ∈ l, refOK n a = true
  | [], _, a, h => by simp at h
  | b :: r, ho, a, h => by
    simp only [refsOK, Bool.and_eq_true] at ho
    rcases List.mem_cons.1 h with rfl | h
    · exact ho.1
    · exact refsOK_mem ho.2 a h

theorem LPS.low {τ : Env} {n : Nat} {ls : List (Nat × LoopA)} {w : World} (L : LPS τ base ls w) (hr : ∀ x ∈ lowL n ls, refsOK n (x.2.fr.map (·.2)) = true) : LPS (cutE n τ) base (lowL n ls) w := by
  have get : ∀ {i : Nat} {r : LoopA}, lkL (lowL n ls) i = some r → i < n ∧ ∃ b, lkL ls i = some b ∧ r = (bif Nat.beq b.st 5 && !Nat.blt b.n n then deadObj else b) ∧ refsOK n (r.fr.map (·.2)) = true := fun {i r} h => by
    have hm := hr _ (lkL_mem h)
    rw [lkL_lowL] at h
    split at h
    · rw [Option.map_eq_some_iff] at h
      obtain ⟨b, h1, h2⟩ := h
      exact ⟨‹_›, b, h1, h2.symm, hm⟩
    · cases h
  have cut : ∀ {i c}, i < n → cutE n τ i = some c → τ i = some c := fun {i c} hi h => by simpa only [cutE, if_pos hi] using h
  refine ⟨fun l r h => ?_, fun l l' r r' c c' hne h1 h2 h3 h4 => ?_, fun l m seen ents c cm h1 h2 h3 h4 => ?_, L.glo⟩
  · obtain ⟨hi, b, h1, h2, h3⟩ := get h
    obtain ⟨c, o, a1, a2, a3, a4⟩ := L.lps l b h1
    refine ⟨c, o, by simp only [cutE, if_pos hi]; exact a1, a2, a3, ?_⟩
    rcases a4 with ⟨q0, x, q1, q2⟩ | ⟨ents, es, clock, rfl, q2, q3⟩ | ⟨m, seen, mb, since, sn, last, rfl, q1, q2, q3⟩ | ⟨rfl, q1⟩
    · have : (Nat.beq b.st 5 && !Nat.blt b.n n) = false := by rw [nb (by omega : b.st ≠ 5)]; rfl
      rw [this] at h2
      simp only [cond_false] at h2
      subst h2
      exact .inl ⟨q0, x, q1, q2.1, q2.2.1, q2.2.2.1, q2.2.2.2.1, q2.2.2.2.2.1, ⟨q2.2.2.2.2.2.1.1, fun t => R.cut (lkF_refOK h3 t) (q2.2.2.2.2.2.1.2 t)⟩, q2.2.2.2.2.2.2⟩
    · have : (Nat.beq (mapObj ents).st 5 && !Nat.blt (mapObj ents).n n) = false := rfl
      rw [this] at h2
      simp only [cond_false] at h2
      subst h2
      have hv : ∀ e ∈ ents, refOK n e.2 = true := fun e he => refsOK_mem h3 e.2 (by simp only [mapObj, List.map_map, List.mem_map, Function.comp_apply]; exact ⟨e, he, rfl⟩)
      refine .inr (.inl ⟨ents, es, clock, rfl, q2, q3.keys, q3.nodup, q3.born, q3.old, ?_⟩)
      obtain ⟨l0, p1, p2⟩ := q3.ents
      exact ⟨l0, p1, EntsR.cut (fun e he => ⟨q3.keys e (p1.mem_iff.1 he), hv e (p1.mem_iff.1 he)⟩) p2⟩
    · cases hb : (Nat.beq (itObj m seen).st 5 && !Nat.blt (itObj m seen).n n)
      · rw [hb] at h2
        simp only [cond_false] at h2
        subst h2
        have hm : m < n := by
          simp only [itObj, Nat.beq_refl, Bool.true_and, Bool.not_eq_false'] at hb
          exact blt_lt hb
        exact .inr (.inr (.inl ⟨m, seen, mb, since, sn, last, rfl, q1, by simp only [cutE, if_pos hm]; exact q2, q3⟩))
      · rw [hb] at h2
        simp only [cond_true] at h2
        subst h2
        exact .inr (.inr (.inr ⟨rfl, _, _, _, _, q3⟩))
    · have : (Nat.beq deadObj.st 5 && !Nat.blt deadObj.n n) = false := rfl
      rw [this] at h2
      simp only [cond_false] at h2
      subst h2
      exact .inr (.inr (.inr ⟨rfl, q1⟩))
  · obtain ⟨i1, b1, g1, _⟩ := get h1
    obtain ⟨i2, b2, g2, _⟩ := get h2
    exact L.lal l l' b1 b2 c c' hne g1 g2 (cut i1 h3) (cut i2 h4)
  · obtain ⟨i1, b1, g1, g2, _⟩ := get h1
    obtain ⟨i2, b2, g3, g4, _⟩ := get h2
    have e1 : b1 = itObj m seen := by
      revert g2
      cases (Nat.beq b1.st 5 && !Nat.blt b1.n n)
      · simp only [cond_false]; exact fun h => h.symm
      · simp only [cond_true]; intro h; have := congrArg LoopA.st h; simp [itObj, deadObj] at this
    have e2 : b2 = mapObj ents := by
      revert g4
      cases (Nat.beq b2.st 5 && !Nat.blt b2.n n)
      · simp only [cond_false]; exact fun h => h.symm
      · simp only [cond_true]; intro h; have := congrArg LoopA.st h; simp [mapObj, deadObj] at this
    subst e1 e2
    obtain ⟨since, sn, last, es, clock, q1, q2, q3⟩ := L.its l m seen ents c cm g1 g3 (cut i1 h3) (cut i2 h4)
    obtain ⟨c2, o2, b1, b2, b3, b4⟩ := L.lps m _ g3
    obtain ⟨_, _, _, M⟩ := b4.map
    exact ⟨since, sn, last, es, clock, q1, q2, q3.esince, q3.elast, fun e he a ha hr => q3.sees e he a ha (R_plain_any (M.keys a ha) hr), fun x r hs => let ⟨s, s1, s2⟩ := q3.top x r hs; ⟨s, s1, fun e he a ha hr => s2 e he a ha (R_plain_any (M.keys a ha) hr)⟩⟩

theorem HR.leave {σ τ : Env} {g : Bool} {h0 h : Hp} {w : World} (H : HR τ base h w) (v : AV) {u : Value} (hv : R τ v u) (hx : Ext σ τ) (hd : ∀ i, h0.next ≤ i → σ i = none) :
    ∃ τ', R τ' v u ∧ Ext σ τ' ∧ HR τ' base (leave g h0 v h) w := by
  unfold Abs.leave
  cases g
  · simp only [cond_false]
    cases hc : (refOK h0.next v && selfOK h0.next (h.blks.drop (h.blks.length - h0.blks.length)) (lowL h0.next h.loops))
    · exact ⟨τ, hv, hx, H.same rfl rfl rfl⟩
    · simp only [Bool.and_eq_true, selfOK, List.all_eq_true] at hc
      obtain ⟨c1, c2, c3⟩ := hc
      simp only [cond_true]
      have hl : ∀ {i b}, lkB (h.blks.drop (h.blks.length - h0.blks.length)) i = some b → i < h0.next ∧ refsOK h0.next b.cells = true := fun hb => by
        have := c2 _ (lkB_mem hb)
        exact ⟨blt_lt this.1.1, this.2⟩
      refine ⟨cutE h0.next τ, R.cut c1 hv, fun i c hc => ?_, ?_⟩
      · by_cases hi : i < h0.next
        · simp only [cutE, if_pos hi]
          exact hx i c hc
        · rw [hd i (by omega)] at hc
          cases hc
      · refine ⟨fun i hi => by simp only [cutE]; rw [if_neg (by have : h0.next ≤ i := hi; omega)], H.srt.sublist (List.drop_sublist _ _), fun x hx => ?_, fun i b hb => ?_, fun i j b d c c' hij hi hj hc hc' => ?_, H.lps.low fun x hx => by have := (c3 x hx).2; simp only [refL, Bool.and_eq_true] at this; exact this.1⟩
        · exact ⟨(H.chn x (List.mem_of_mem_drop hx)).1, blt_lt (c2 x hx).1.1⟩
        · obtain ⟨c, cs, e, fz, a1, a2, a3, a4, a5, a6⟩ := H.cel i b (lkB_drop _ H.srt hb)
          have k := hl hb
          refine ⟨c, cs, e, fz, by simp only [cutE, if_pos k.1]; exact a1, a2, a3, a4, fun j a ha => ?_, a6⟩
          obtain ⟨v, hv1, hv2⟩ := a5 j a ha
          exact ⟨v, hv1, R.cut (refsOK_get k.2 ha) hv2⟩
        · have k := hl hi
          have k' := hl hj
          simp only [cutE, if_pos k.1, if_pos k'.1] at hc hc'
          exact H.al i j b d c c' hij (lkB_drop _ H.srt hi) (lkB_drop _ H.srt hj) hc hc'
  · exact ⟨τ, hv, hx, H.gc v⟩

theorem argFr_spec (keep : Nat) : ∀ (n : Nat) (args : List AV) (i t : Nat), lkF (argFr keep n args i) t = if keep.testBit t = true ∧ i ≤ t ∧ t < i + n then (args[t - i]?).getD .any else .any
  | 0, args, i, t => by
    rw [if_neg (by omega)]
    rfl
  | n + 1, args, i, t => by
    simp only [argFr]
    have ih := argFr_spec keep n args.tail (i + 1) t
    have step : ∀ (h : t ≠ i), (if keep.testBit t = true ∧ i + 1 ≤ t ∧ t < i + 1 + n then (args.tail[t - (i + 1)]?).getD AV.any else .any) = if keep.testBit t = true ∧ i ≤ t ∧ t < i + (n + 1) then (args[t - i]?).getD .any else .any := fun h => by
      by_cases h1 : keep.testBit t = true ∧ i ≤ t ∧ t < i + (n + 1)
      · rw [if_pos h1, if_pos ⟨h1.1, by omega, by omega⟩]
        cases args with
        | nil => simp
        | cons v r => rw [show t - i = (t - (i + 1)) + 1 by omega, List.getElem?_cons_succ, List.tail_cons]
      · rw [if_neg h1, if_neg (fun h2 => h1 ⟨h2.1, by omega, by omega⟩)]
    cases hk : keep.testBit i
    · simp only [cond_false]
      rw [ih]
      by_cases e : t = i
      · rw [if_neg (by omega), if_neg (fun h => by rw [e, hk] at h; cases h.1)]
      · exact step e
    · simp only [cond_true]
      by_cases e : t = i
      · subst e
        rw [if_pos ⟨hk, by omega, by omega⟩]
        cases args <;> simp [lkF]
      · have : lkF ((i, args.headD .any) :: argFr keep n args.tail (i + 1)) t = lkF (argFr keep n args.tail (i + 1)) t := by simp [lkF, nb (show i ≠ t by omega)]
        rw [this, ih]
        exact step e

theorem FR_args {σ : Env} {keep n k : Nat} {args : List AV} {vs : Array Value} (hv : Rs σ args vs.toList) (hn : args.length ≤ n) : FR σ n (lkF (argFr keep k args 0)) (vs ++ Array.replicate (n - vs.size) undef) := by
  have hl := hv.length
  simp only [Array.length_toList] at hl
  refine ⟨by simp; omega, fun t => ?_⟩
  rw [argFr_spec]
  split
  · rw [Nat.sub_zero]
    cases ha : args[t]? with
    | none => exact R_any
    | some a =>
      obtain ⟨u, hu, hr⟩ := hv.get ha
      have hlt : t < vs.size := by
        rcases Nat.lt_or_ge t vs.size with h | h
        · exact h
        · rw [List.getElem?_eq_none (by omega)] at ha; cases ha
      rw [Array.getD_eq_getD_getElem?, Array.getElem?_append_left hlt]
      simp only [Array.getElem?_toList] at hu
      rw [hu]
      exact hr
  · exact R_any

theorem KP_args {keep k : Nat} {args : List AV} : KP keep (argFr keep k args 0) := fun t ht => by
  rw [argFr_spec, ht]
  simp

theorem resV_sound {σ : Env} {n : Nat} {fr : Fr} {h : Hp} {w : World} {tmps : Array Value} (H : HR σ base h w) (hf : FR σ n (lkF fr) tmps) {rv : ResultVar} {v : AV} (hs : resV P fr h rv = some v) :
    ∃ u, ((match rv with | .tmp t => pure (tmps.getD t undef) | .cell a t => do loadVar t (← asAddr (tmps.getD a undef)) : Sem Value)).run P w = .ok u w ∧ R σ v u := by
  cases rv with
  | tmp t =>
    simp only [resV, Option.some.injEq] at hs
    subst hs
    exact ⟨_, rfl, hf.2 t⟩
  | cell a t =>
    simp only [resV] at hs
    split at hs
    · rename_i id off ha
      split at hs
      · rename_i b hb
        have hv := hf.2 a
        rw [ha] at hv
        simp only [R] at hv
        obtain ⟨c, hc, hv⟩ := hv
        obtain ⟨u, h1, h2⟩ := run_loadVar' (P := P) H hb hc hs
        exact ⟨u, by simp only [hv, asAddr, Sem.run_bind, Sem.run_pure, Result.andThen_ok]; exact h1, h2⟩
      · cases hs
    · cases hs

theorem resVs_sound {σ : Env} {n : Nat} {fr : Fr} {h : Hp} {w : World} {tmps : Array Value} (H : HR σ base h w) (hf : FR σ n (lkF fr) tmps) : ∀ {l : List ResultVar} {vs : List AV}, resVs P fr h l = some vs →
    ∃ us, (l.mapM (fun rv => match rv with | .tmp t => pure (tmps.getD t undef) | .cell a t => do loadVar t (← asAddr (tmps.getD a undef)) : ResultVar → Sem Value)).run P w = .ok us w ∧ Rs σ vs us
  | [], vs, hs => by
    simp only [resVs, Option.some.injEq] at hs
    subst hs
    exact ⟨[], by simp, Rs.nil⟩
  | rv :: l, vs, hs => by
    simp only [resVs] at hs
    split at hs
    · rename_i v vs' h1 h2
      simp only [Option.some.injEq] at hs
      subst hs
      obtain ⟨u, g1, g2⟩ := resV_sound (P := P) H hf h1
      obtain ⟨us, g3, g4⟩ := resVs_sound H hf h2
      refine ⟨u :: us, ?_, by simp only [Rs]; exact ⟨u, us, rfl, g2, g4⟩⟩
      simp only [List.mapM_cons, Sem.run_bind, g1, Result.andThen_ok]
      rw [g3]
      rfl
    · cases hs

theorem results_sound {σ : Env} {n : Nat} {fr : Fr} {h : Hp} {w : World} {tmps : Array Value} (H : HR σ base h w) (hf : FR σ n (lkF fr) tmps) {fn : Func} {vs : List AV} (hs : resVs P fr h fn.results.toList = some vs) :
    ∃ u, (results fn tmps).run P w = .ok u w ∧ R σ (resOf vs) u := by
  obtain ⟨us, h1, h2⟩ := resVs_sound (P := P) H hf hs
  have hl := h2.length
  have hrun : (results fn tmps).run P w = .ok (if h : us.toArray.size = 1 then us.toArray[0] else .tuple us.toArray) w := by
    unfold results
    rw [Array.mapM_eq_mapM_toList]
    simp only [Sem.run_bind, Sem.run_map]
    erw [h1]
    rfl
  refine ⟨_, hrun, ?_⟩
  unfold resOf
  split
  · rename_i v
    have hu : us.length = 1 := by simpa using hl
    rw [dif_pos (by simpa using hu)]
    cases us with
    | nil => simp at hu
    | cons u us =>
      simp only [Rs] at h2
      obtain ⟨v', m', e, hr, _⟩ := h2
      cases e
      simpa using hr
  · rename_i hne
    have hu : ¬ us.toArray.size = 1 := fun e => by
      have : vs.length = 1 := by simp at e; omega
      match vs, this with
      | [v], _ => exact hne v rfl
    rw [dif_neg hu]
    simp only [R]
    exact ⟨_, rfl, by simpa using h2⟩

/-- The marks are taken, one by one. -/
theorem leaves_marks {fn : Func} {tmps : Array Value} {σ τ : Env} {w0 : World} {v : AV} {fr : Fr} {n : Nat} {vs : List AV} {N : Nat} (hb0 : base.fit w0.heap.size) (hx : Ext σ τ) (hf : FR τ n (lkF fr) tmps)
    {hp hq : Hp} (hs : resVs P fr hp fn.results.toList = some vs) (hv : v = resOf vs) (hq' : ∀ w, HR τ base hp w → ∀ u, R τ v u → ∃ τ', R τ' v u ∧ Ext σ τ' ∧ HR τ' base hq w) : ∀ (ds : List Deferred) (w : World), HR τ base hp w → Fw base w0 w → Mk w0.heap.size ds w →
      LeavesInM Fence.wide N P fn tmps (Post base σ v hq w0) ds .returning w
  | [], w, H, hfw, _ => by
    obtain ⟨u, h1, h2⟩ := results_sound (P := P) H hf hs
    obtain ⟨τ', r, x, H'⟩ := hq' w H u (by rw [hv]; exact h2)
    exact ⟨u, h1, u, τ', rfl, r, x, H', hfw⟩
  | d :: ds, w, H, hfw, hm => by
    obtain ⟨b, e1, e2, e3⟩ := hm.1 d (by simp)
    have hlt : b < w.heap.size := (Array.getElem?_eq_some_iff.1 e3).1
    have htake : (Instr.takeDeferred b).run P w = .ok [] (World.setO w b (.deferred none)) := by
      simp [Instr.takeDeferred, getObj, setObj, Sem.run, e3, World.setO]
    refine ⟨by simp, .inl ⟨b, _, e1, htake, ?_⟩⟩
    have old : ∀ k, k ≠ b → (World.setO w b (.deferred none)).heap[k]? = w.heap[k]? := fun k hk => setO_other _ _ _ _ hk
    refine leaves_marks hb0 hx hf hs hv hq' ds _ ?_ ?_ ⟨fun d' hd' => ?_, (List.pairwise_cons.1 hm.2).2⟩
    · refine ⟨H.dom, H.srt, H.chn, fun i dd hd => ?_, H.al, H.lps.step (.refl _) (fun l r c o _ _ h1 _ _ h2 => by rw [old _ (fun e => by rw [e, e3] at h1; cases h1; exact h2 _ rfl)]; exact h1) (fun _ _ h => h) (fun k _ hk => old k (fun e => by have := hb0 k hk; have := hfw.bel.size; omega))⟩
      obtain ⟨c, cs, e, fz, a1, a2, a3⟩ := H.cel i dd hd
      exact ⟨c, cs, e, fz, a1, by rw [old _ (fun e => by rw [e, e3] at a2; cases a2)]; exact a2, a3⟩
    · have lt0 : ∀ (k : Nat) (o : Obj), w0.heap[k]? = some o → k < w0.heap.size := fun k o h => (Array.getElem?_eq_some_iff.1 h).1
      refine ⟨hfw.bel.trans ⟨rfl, rfl, rfl, by rw [setO_size]; exact Nat.le_refl _, fun k hk => old k (fun e => by have := hb0 k hk; omega)⟩, fun k x hk => ?_, fun k x hk => ?_⟩
      · rw [old k (by have := lt0 _ _ hk; omega)]
        exact hfw.dfr k x hk
      · rw [old k (by have := lt0 _ _ hk; omega)]
        exact hfw.lop k x hk
    · obtain ⟨b', g1, g2, g3⟩ := hm.1 d' (by simp [hd'])
      refine ⟨b', g1, g2, ?_⟩
      rw [old b' (fun e => (List.pairwise_cons.1 hm.2).1 d' hd' b b' e1 g1 e.symm)]
      exact g3

theorem enterF_sound (hcall : CallOK P call) (hm : P.follows .mixedOrders = true) {f : Nat} {args : List AV} {h h' : Hp} {v : AV} (hs : enterF P call g m f args h = some (v, h')) {σ : Env} {w : World} {vs : Array Value}
    (H : HR σ base h w) (hb : base.fit w.heap.size) (hv : Rs σ args vs.toList) : (callFunc f vs).run P w = .ok (.enter f vs) w ∧ Calls P f vs w (Post base σ v h' w) := by
  unfold enterF at hs
  split at hs
  · rename_i fn hfn
    split at hs
    · rename_i c hbody
      cases hc : (Nat.ble args.length fn.ntmps && !(fn.name == "runtime.NumGoroutine"))
      · simp [hc] at hs
      · simp only [hc, cond_true] at hs
        simp only [Bool.and_eq_true, Bool.not_eq_true'] at hc
        have hlen := Nat.le_of_ble_eq_true hc.1
        have hl := hv.length
        simp only [Array.length_toList] at hl
        constructor
        · have hne : fn.name ≠ "runtime.NumGoroutine" := by simpa using hc.2
          simp [callFunc, hfn, hne, hbody]
        · -- the body
          have R0 : Rel base w.heap.size (keepOf fn c) fn.ntmps σ { fr := argFr (keepOf fn c) fn.ntmps args 0, hp := { h with base := h.next, esc := false } } { tmps := vs ++ Array.replicate (fn.ntmps - vs.size) undef, defers := [] } w none :=
            ⟨H.same rfl rfl rfl, hb, FR_args hv hlen, KP_args, ⟨fun d hd => by simp at hd, by simp⟩, Nat.le_refl _, fun l hl => by cases hl⟩
          have fin : ∀ (e : Ex) (s : St), runC P call m (keepOf fn c) fn.ntmps c { fr := argFr (keepOf fn c) fn.ntmps args 0, hp := { h with base := h.next, esc := false } } = some (e, s) → (e = .normal ∨ e = .ret) →
              (match resVs P s.fr s.hp fn.results.toList with | some vs => some (resOf vs, leave g h (resOf vs) s.hp) | none => none) = some (v, h') → Calls P f vs w (Post base σ v h' w) := fun e s hrun he hs => by
            split at hs
            · rename_i rvs hrs
              simp only [Option.some.injEq, Prod.mk.injEq] at hs
              obtain ⟨rfl, rfl⟩ := hs
              refine (callsIn_wide (n := 0)).1 (callsIn_of_wp_marks hfn hbody trivial (wpIn_mono (runC_sound hcall hm c hrun (r := none) (N := 0) R0) fun ex a' w' hp => ?_))
              obtain ⟨h1, τ, h2, h3, h4, h5, h6, h7⟩ := hp
              have key := leaves_marks (P := P) (fn := fn) (N := 0) (v := resOf rvs) (hq := leave g h (resOf rvs) s.hp) hb h2 h4 hrs rfl (fun w' H' u hu => H'.leave _ hu h2 H.dom) a'.defers w' h3 h6 h7
              subst h1
              rcases he with rfl | rfl
              · exact key
              · exact key
            · cases hs
          split at hs
          · rename_i s hrun
            exact fin .normal s hrun (.inl rfl) hs
          · rename_i s hrun
            exact fin .ret s hrun (.inr rfl) hs
          · cases hs
    · cases hs
  · cases hs

theorem putPs_sound {σ : Env} {n keep : Nat} : ∀ {ps : List Nat} {args : List AV} {fr fr' : Fr} {vs : List Value} {tmps : Array Value}, putPs ps args fr = some fr' → Rs σ args vs → (∀ t ∈ ps, t < n ∧ keep.testBit t = true) → FR σ n (lkF fr) tmps → KP keep fr →
    FR σ n (lkF fr') ((ps.zip vs).foldl (fun tmps (x : Nat × Value) => tmps.setIfInBounds x.1 x.2) tmps) ∧ KP keep fr' ∧ ps.length = args.length
  | [], [], fr, fr', vs, tmps, h, hv, _, hf, hk => by
    simp only [putPs, Option.some.injEq] at h
    subst h
    exact ⟨by simpa using hf, hk, rfl⟩
  | t :: ps, v :: args, fr, fr', vs, tmps, h, hv, hp, hf, hk => by
    simp only [putPs] at h
    simp only [Rs] at hv
    obtain ⟨u, us, rfl, hu, hus⟩ := hv
    obtain ⟨h1, h2⟩ := hp t (by simp)
    have hf1 : FR σ n (lkF (setF fr t v)) (tmps.setIfInBounds t u) := by
      have := FR.put (a := { tmps := tmps, defers := [] }) hf hu h1 (g := lkF (setF fr t v)) (fun s => lkF_setF fr t v s)
      exact this
    have hk1 : KP keep (setF fr t v) := fun s hs => by
      rw [lkF_setF]
      split
      · rename_i e; rw [e, h2] at hs; cases hs
      · exact hk s hs
    obtain ⟨g1, g2, g3⟩ := putPs_sound h hus (fun s hs => hp s (by simp [hs])) hf1 hk1
    exact ⟨by simpa using g1, g2, by simp [g3]⟩
  | [], v :: args, fr, fr', vs, tmps, h, _, _, _, _ => by simp [putPs] at h
  | t :: ps, [], fr, fr', vs, tmps, h, _, _, _, _ => by simp [putPs] at h

theorem beginRound_run {w : World} {l : Nat} {x : Loop} (h : w.heap[l]? = some (Obj.loop x)) (hst : x.state = .ready) : (Instr.beginRound l).run P w = .ok () (World.setO w l (.loop { x with state := .busy })) := by
  unfold Instr.beginRound
  simp only [Sem.run_bind, getLoop_run h, Result.andThen_ok, run_setObj_loop h, hst, Sem.run_pure]

theorem endRound_run {w : World} {l : Nat} {x : Loop} (h : w.heap[l]? = some (Obj.loop x)) (j : Option Code) : (Instr.endRound l j).run P w = .ok (.bool j.isNone) (World.setO w l (.loop { x with state := if j.isNone then .ready else .done, pending := j })) := by
  unfold Instr.endRound
  simp only [Sem.run_bind, getLoop_run h, Result.andThen_ok, run_setObj_loop h, Sem.run_pure]

theorem enterY_sound (hcall : CallOK P call) (hm : P.follows .mixedOrders = true) {l : Nat} {args : List AV} {h h' : Hp} {v : AV} (hs : enterY P call m l args h = some (v, h')) {σ : Env} {w : World} {vs : Array Value} {c : Loc}
    (H : HR σ base h w) (hb : base.fit w.heap.size) (hv : Rs σ args vs.toList) (hc : σ l = some c) :
    ∃ f tmps assign body, (Instr.yield c.blk vs).run P w = .ok (.round c.blk f tmps assign body) w ∧ RoundIn Fence.wide 0 P c.blk f tmps assign body w (Post base σ v h' w) := by
  unfold enterY at hs
  split at hs
  · rename_i r hr
    cases hcond : (Nat.beq r.st 0 && r.ps.toList.all (fun t => Nat.testBit r.keep t && Nat.blt t r.n))
    · simp only [hcond, Bool.not_false, cond_true] at hs
      cases hs
    · simp only [hcond, Bool.not_true, cond_false] at hs
      simp only [Bool.and_eq_true, List.all_eq_true] at hcond
      obtain ⟨hst0, hps⟩ := hcond
      have hst0 := Nat.eq_of_beq_eq_true hst0
      split at hs
      · rename_i fr1 hput
        obtain ⟨c', x, a1, a2, a3, a4, a5, a6, a7, a8, a9, a10⟩ := H.lps.loop hr (by omega)
        rw [hc] at a1
        cases a1
        obtain ⟨p1, p2, p3⟩ := putPs_sound (keep := r.keep) hput hv (fun t ht => by
          have := hps t ht
          exact ⟨Nat.le_of_ble_eq_true this.2, this.1⟩) a8 a10
        have hvl := hv.length
        simp only [Array.length_toList] at hvl
        refine ⟨x.fn, (x.params.zip vs).foldl (fun tmps (y : Tmp × Value) => tmps.setIfInBounds y.1 y.2) x.tmps, x.assign, x.body, ?_, ?_⟩
        · unfold Instr.yield
          have hsz : ¬ vs.size ≠ x.params.size := by
            rw [a3]
            have : r.ps.size = r.ps.toList.length := by simp
            omega
          simp only [Sem.run_bind, getLoop_run a2, Result.andThen_ok, hsz, if_false, Sem.run_pure, Sem.run_ite]
        · have htm : (x.params.zip vs).foldl (fun tmps (y : Tmp × Value) => tmps.setIfInBounds y.1 y.2) x.tmps = (r.ps.toList.zip vs.toList).foldl (fun tmps (y : Nat × Value) => tmps.setIfInBounds y.1 y.2) x.tmps := by
            rw [a3, ← Array.foldl_toList, Array.toList_zip]
          rw [htm, a4, a5]
          have hin : InR (some c.blk) w := fun l' hl' => by cases hl'; exact ⟨x, a2⟩
          have R0 : Rel base w.heap.size r.keep r.n σ { fr := fr1, hp := h } { tmps := (r.ps.toList.zip vs.toList).foldl (fun tmps (y : Nat × Value) => tmps.setIfInBounds y.1 y.2) x.tmps, defers := [] } w (some c.blk) :=
            ⟨H, hb, p1, p2, ⟨fun d hd => by simp at hd, by simp⟩, Nat.le_refl _, hin⟩
          split at hs
          · rename_i s1 hrun1
            split at hs
            · rename_i r1 hr1
              cases hst1 : Nat.beq r1.st 0
              · simp only [hst1, Bool.not_false, cond_true] at hs
                cases hs
              · simp only [hst1, Bool.not_true, cond_false] at hs
                have hst1 := Nat.eq_of_beq_eq_true hst1
                split at hs
                · rename_i e s2 hrun2
                  split at hs
                  · rename_i r2 hr2
                    refine roundIn_of_wpIn trivial ?_
                    refine wpIn_mono (runC_sound hcall hm r.assign hrun1 (r := some c.blk) (N := 0) R0) fun ex a1' w1 hp1 => ?_
                    obtain ⟨rfl, τ, hx1, R1, hf1⟩ := R0.of_post hp1
                    have hc1 := hx1 _ _ hc
                    obtain ⟨c1, x1, b1, b2, b3, b4, b5, b6, b7, b8, b9, b10⟩ := R1.hr.lps.loop hr1 (by omega)
                    rw [hc1] at b1
                    cases b1
                    have hready : x1.state = .ready := by rw [b6, hst1]; rfl
                    refine ⟨_, beginRound_run b2 hready, ?_⟩
                    have hset1 := R1.hr.setLoop hr1 hc1 b2 (y := { x1 with state := .busy }) (r1 := { r1 with st := 1 }) (ls := setL s1.hp.loops l { r1 with st := 1 }) (by simp) ⟨b3, b4, b5, rfl, b7, b8, b10⟩ (fun j r' hj => by
                      rw [lkL_setL] at hj
                      split at hj
                      · rename_i e
                        rw [hr1] at hj
                        simp only [Option.isSome_some, if_true, Option.some.injEq] at hj
                        subst hj
                        exact .inr ⟨e, rfl⟩
                      · exact .inl ⟨‹_›, hj⟩)
                    have R2 : Rel base w.heap.size r.keep r.n τ { s1 with hp := { s1.hp with loops := setL s1.hp.loops l { r1 with st := 1 } } } a1' (World.setO w1 c.blk (.loop { x1 with state := .busy })) (some c.blk) :=
                      ⟨hset1.1, R1.base.le hset1.2.bel.size, R1.fr, R1.kp, R1.mks.fw hset1.2, Nat.le_trans R1.lo hset1.2.bel.size, R1.inr.fw hset1.2⟩
                    refine wpIn_mono (runC_sound hcall hm r.body hrun2 (r := some c.blk) (N := 0) R2) fun ex2 a2' w2 hp2 => ?_
                    obtain ⟨hex, υ, hx2, R3, hf2⟩ := R2.of_post hp2
                    have hc2 := hx2 _ _ hc1
                    obtain ⟨x2, d2⟩ := R3.inr c.blk rfl
                    obtain ⟨d0, ⟨d3, d4, d5, d6, d7, d8, d10⟩, d9⟩ := R3.hr.lps.loopAt hr2 hc2 d2
                    have hfin : ∀ (j : Option Code) (st : Nat) (jm : Option (Option Nat)), st < 4 → (if j.isNone then LoopState.ready else .done) = (match st with | 0 => .ready | 1 => .busy | 2 => .done | _ => .exhausted) →
                        j = jm.map (fun j => match j with | none => .ret | some id => .exit id) → ∃ u w3, (Instr.endRound c.blk j).run P w2 = .ok u w3 ∧ Post base σ (.bool j.isNone) { s2.hp with loops := setL s2.hp.loops l { r2 with st := st, jump := jm } } w (.returned u) w3 :=
                      fun j st jm hst4 hst hj => by
                        have hset2 := R3.hr.setLoop hr2 hc2 d2 (y := { x2 with state := if j.isNone then .ready else .done, pending := j }) (r1 := { r2 with st := st, jump := jm }) (ls := setL s2.hp.loops l { r2 with st := st, jump := jm }) hst4 ⟨d3, d4, d5, hst, hj, d8, d10⟩ (fun q r' hq => by
                          rw [lkL_setL] at hq
                          split at hq
                          · rename_i e
                            rw [hr2] at hq
                            simp only [Option.isSome_some, if_true, Option.some.injEq] at hq
                            subst hq
                            exact .inr ⟨e, rfl⟩
                          · exact .inl ⟨‹_›, hq⟩)
                        exact ⟨_, _, endRound_run d2 j, _, υ, rfl, by simp [R], hx1.trans hx2, hset2.1, ((hf1.trans hset1.2).trans hf2).trans hset2.2⟩
                    subst hex
                    cases e with
                    | normal =>
                      simp only [Option.some.injEq, Prod.mk.injEq] at hs
                      obtain ⟨rfl, rfl⟩ := hs
                      exact hfin none 0 none (by decide) rfl rfl
                    | ret =>
                      simp only [Option.some.injEq, Prod.mk.injEq] at hs
                      obtain ⟨rfl, rfl⟩ := hs
                      exact hfin (some .ret) 2 (some none) (by decide) rfl rfl
                    | exit id =>
                      simp only [Option.some.injEq, Prod.mk.injEq] at hs
                      obtain ⟨rfl, rfl⟩ := hs
                      exact hfin (some (.exit id)) 2 (some (some id)) (by decide) rfl rfl
                  · cases hs
                · cases hs
            · cases hs
          · cases hs
      · cases hs
  · cases hs


/-- Values without references. -/
def plain : AV → Bool
  | .bool _ | .int _ _ | .str _ => true
  | _ => false

/-- A result without references. -/
def plainR : AV → Bool
  | .tu vs => vs.all plain
  | v => plain v

theorem plain_R {σ τ : Env} {a : AV} {v : Value} (h : plain a = true) : R σ a v → R τ a v := by
  cases a <;> simp_all [plain, R]

theorem plain_Rs {σ τ : Env} : ∀ {l : List AV} {vs : List Value}, l.all plain = true → Rs σ l vs → Rs τ l vs
  | [], vs, _, h => by simpa [Rs] using h
  | a :: r, vs, hp, h => by
    simp only [List.all_cons, Bool.and_eq_true] at hp
    simp only [Rs] at h ⊢
    obtain ⟨v, m, e, h1, h2⟩ := h
    exact ⟨v, m, e, plain_R hp.1 h1, plain_Rs hp.2 h2⟩

theorem plainR_R {σ τ : Env} {a : AV} {v : Value} (h : plainR a = true) (hr : R σ a v) : R τ a v := by
  cases a <;> first | exact plain_R h hr | (simp only [plainR] at h; simp only [R] at hr ⊢; obtain ⟨x, e, h2⟩ := hr; exact ⟨x, e, plain_Rs h h2⟩)

/-- A call that is known, whatever the heap is. -/
structure Closed (P : Program) (f : Nat) (args : List AV) (v : AV) : Prop where
  pa : args.all plain = true
  pr : plainR v = true
  ends : ∀ (w : World) (vs : Array Value), GloW w → Rs (fun _ => none) args vs.toList → (callFunc f vs).run P w = .ok (.enter f vs) w ∧ Calls P f vs w fun e w' => ∃ u, e = .returned u ∧ R (fun _ => none) v u ∧ Fw (below w.heap.size) w w'

def TabOK (P : Program) (T : Tab) : Prop := ∀ f args h v h', T f args h = some (v, h') → ∀ {σ base w} {vs : Array Value}, HR σ base h w → base.fit w.heap.size → Rs σ args vs.toList →
    (callFunc f vs).run P w = .ok (.enter f vs) w ∧ Calls P f vs w (Post base σ v h' w)

theorem noTab_ok : TabOK P noTab := fun _ _ _ _ _ h => by cases h

theorem HR.keep {σ : Env} {h : Hp} {w w' : World} (H : HR σ base h w) (hb : BelowS (below w.heap.size) w w') : HR σ base h w' := by
  refine ⟨H.dom, H.srt, H.chn, fun i b hi => ?_, H.al, H.lps.step (.refl _) (fun l r c o _ _ h1 _ _ _ => by rw [hb.block _ (.inl (lt_of_heap h1))]; exact h1) (fun _ _ h => h) (fun k hk _ => hb.block k (.inl hk))⟩
  obtain ⟨c, cs, e, fz, a1, a2, a3⟩ := H.cel i b hi
  exact ⟨c, cs, e, fz, a1, by rw [hb.block _ (.inl (lt_of_heap a2))]; exact a2, a3⟩

theorem Fw.lower {w w' : World} {b : Prot} (hb : b.fit w.heap.size) (h : Fw (below w.heap.size) w w') : Fw b w w' :=
  ⟨⟨h.bel.os, h.bel.tape, h.bel.output, h.bel.size, fun k hk => h.bel.block k (.inl (hb k hk))⟩, h.dfr, h.lop⟩

theorem Closed.tab {f : Nat} {args : List AV} {v : AV} (C : Closed P f args v) {h : Hp} {σ : Env} {base : Prot} {w : World} {vs : Array Value} (H : HR σ base h w) (hb : base.fit w.heap.size) (hv : Rs σ args vs.toList) :
    (callFunc f vs).run P w = .ok (.enter f vs) w ∧ Calls P f vs w (Post base σ v h w) := by
  obtain ⟨h1, h2⟩ := C.ends w vs H.lps.glo (plain_Rs C.pa hv)
  refine ⟨h1, h2.mono fun e w' he => ?_⟩
  obtain ⟨u, rfl, hr, hf⟩ := he
  exact ⟨u, σ, rfl, plainR_R C.pr hr, Ext.refl σ, H.keep hf.bel, hf.lower hb⟩

theorem callN_sound (hm : P.follows .mixedOrders = true) {T : Tab} (hT : TabOK P T) : ∀ k, CallOK P (callN P T g m k)
  | 0 => ⟨fun h => by simp [callN] at h, fun h => by simp [callN] at h⟩
  | k + 1 => by
    have ih := callN_sound hm hT k
    refine ⟨fun {f args h v h'} e {σ base w vs} H hb hv => ?_, fun h _ _ _ _ _ H hb hv hc => enterY_sound ih hm h H hb hv hc⟩
    simp only [callN] at e
    split at e
    · rename_i r ht
      cases e
      exact hT _ _ _ _ _ ht H hb hv
    · exact enterF_sound ih hm e H hb hv

theorem Closed.run (hm : P.follows .mixedOrders = true) {T : Tab} (hT : TabOK P T) {k f : Nat} {args : List AV} {v : AV} {h' : Hp} (ha : args.all plain = true) (hv : plainR v = true)
    (e : callN P T g m k (.func f) args ⟨0, [], [], 0, false⟩ = some (v, h')) : Closed P f args v :=
  ⟨ha, hv, fun w vs hg hs => by
    have H0 : HR (fun _ => none) (below w.heap.size) ⟨0, [], [], 0, false⟩ w :=
      ⟨fun _ _ => rfl, List.Pairwise.nil, fun x hx => by simp at hx, fun i b h => by simp [lkB] at h, fun i j b d c c' _ h => by simp [lkB] at h, LPS.empty hg⟩
    obtain ⟨h1, h2⟩ := (callN_sound hm hT k).func e H0 (below_fit (Nat.le_refl _) fun _ h => hg.lt h) hs
    refine ⟨h1, h2.mono fun e w' he => ?_⟩
    obtain ⟨u, τ, rfl, hr, _, _, hf⟩ := he
    exact ⟨u, rfl, plainR_R hv hr, hf⟩⟩

end
end Go.Abs

set_option linter.unusedSimpArgs false
set_option linter.unusedVariables false
namespace Go.Abs
open Go Go.RowKit Go.WideShapes Go.ChangeShapes

section
variable {H : Type} {enc : TypeId × Value → H} {P : Program}

/-- As the guide's 'post_of_below'. -/
theorem post_below {f : Func} {s : ChangeSpec} {apart fresh handsOn again : Bool} {W W' : World} {args : Array Value} {v : Value} {ds gs : List (DataW H)} {before pa pv : List MemPlace}
    (hW : DataW.Whole enc P f.params.toList s.vars apart W args.toList ds gs before)
    (hres : ∀ (b : Nat) (sp : Nat → Bool) (hd : Bool), DataW.TrodAll enc P W' b sp hd f.resultTypes.toList (v.resultList f.resultTypes.size) (s.fn H (ds ++ gs)).results [])
    (hargs : ∀ sp : Nat → Bool, (∀ p ∈ before, sp p.block = true) → DataW.TrodAll enc P W' 0 sp true f.params.toList args.toList (s.fn H (ds ++ gs)).args pa)
    (hvars : ∀ sp : Nat → Bool, (∀ p ∈ before, sp p.block = true) → DataW.TrodVars enc P W' sp s.vars (s.fn H (ds ++ gs)).vars pv)
    (hps : before = pa ++ pv) (hb : Below W.heap.size W W')
    (hok : ∀ (j : Nat) (t : TypeId) (r : Value), f.resultTypes[j]? = some t → (v.resultList f.resultTypes.size)[j]? = some r → Value.okWide P W' .any 0 t r) :
    s.post enc P f apart fresh handsOn again W args v W' := by
  have hlt : ∀ p ∈ before, p.block < W.heap.size := fun p hp => hW.lt p hp
  have hold : ∀ p ∈ before, (fun b => decide (b < W.heap.size)) p.block = true := fun p hp => by simpa using hlt p hp
  refine ⟨ds, gs, before, [], pa, pv, hW, hres _ _ _, hargs _ hold, hvars _ hold, World.keptBut_mono (fun p hp => ⟨hp, ?_⟩) (hb.frame (· ∈ before)), fun _ => ?_⟩
  · rw [hps, List.mem_append] at hp
    exact Or.inr hp
  · obtain ⟨_, _, _, _, _, hz, hn⟩ := hW
    refine ⟨hok, _, _, ([] ++ pa) ++ pv, ⟨[] ++ pa, pv, trodAll_append (hargs _ (fun _ _ => rfl)) (hres _ _ _), hvars _ (fun _ _ => rfl), rfl, ?_, ?_⟩, ?_⟩
    · intro b off hp
      have hin : MemPlace.cell b off ∈ before := by rw [hps]; simpa using hp
      rw [hb.frozen (hlt _ hin)]
      exact hz b off hin
    · intro ha
      have := hn ha
      rw [hps] at this
      simpa using this
    · intro p hp _
      rw [hps]
      simpa using hp

/-- The arguments read as they did. -/
theorem trodAll_stays (hl : laidOutB P = true) {W W' : World} {sp : Nat → Bool} (hb : Below W.heap.size W W') : ∀ {ts : List TypeId} {vs : List Value} {ds : List (DataW H)} {ps : List MemPlace},
    (∀ t ∈ ts, P.readableRec t = true ∧ t < P.types.size) → DataW.TrodAll enc P W 0 (fun _ => true) true ts vs ds ps → (∀ p ∈ ps, p.block < W.heap.size) → (∀ p ∈ ps, sp p.block = true) →
    DataW.TrodAll enc P W' 0 sp true ts vs ds ps
  | [], [], [], _, _, h, _, _ => h
  | t :: ts, v :: vs, d :: ds, ps, ht, ⟨p, q, h1, h2, e⟩, hlt, hs => by
    obtain ⟨r1, r2⟩ := ht t (by simp)
    exact ⟨p, q, WideElems.Trod_stays hl r1 r2 h1 (fun x hx => hb.same (hlt x (by rw [e]; exact List.mem_append_left _ hx))) (fun x hx => hs x (by rw [e]; exact List.mem_append_left _ hx)),
      trodAll_stays hl hb (fun t ht' => ht t (by simp [ht'])) h2 (fun x hx => hlt x (by rw [e]; exact List.mem_append_right _ hx)) (fun x hx => hs x (by rw [e]; exact List.mem_append_right _ hx)), e⟩

/-- A law's last step: it has returned true and left all that was there as it was. -/
theorem law_post {f : Func} {s : ChangeSpec} {apart fresh handsOn again : Bool} {W W' : World} {args : Array Value} {ds gs : List (DataW H)} {before : List MemPlace} {tb : TypeId}
    (hW : DataW.Whole enc P f.params.toList s.vars apart W args.toList ds gs before) (hv : s.vars = []) (hs : s.fn H (ds ++ gs) = { results := [.lit (.bool true)], args := ds }) (hr : f.resultTypes = #[tb]) (htb : P.underlying tb = some .bool)
    (hl : laidOutB P = true) (ht : ∀ t ∈ f.params.toList, P.readableRec t = true ∧ t < P.types.size) (hb : Below W.heap.size W W') : s.post enc P f apart fresh handsOn again W args (.bool true) W' := by
  have hlt : ∀ p ∈ before, p.block < W.heap.size := fun p hp => hW.lt p hp
  obtain ⟨p, q, hA, hV, he, _, _⟩ := id hW
  rw [hv] at hV
  obtain ⟨rfl, rfl⟩ := trodVars_none hV
  refine post_below (pa := p) (pv := []) hW (fun b sp hd => ?_) (fun sp hsp => ?_) (fun sp _ => ?_) (by simpa using he) hb (ok_one hr rfl (okWide_bool_mk htb _))
  · rw [hs, hr]
    exact trodAll_cons_mk (shut_bool htb _) trodAll_mk0
  · rw [hs]
    refine trodAll_stays hl hb ht hA (fun x hx => hlt x (by rw [he]; simpa using hx)) (fun x hx => hsp x (by rw [he]; simpa using hx))
  · rw [hs, hv]
    exact rfl

/-! ### Arguments as abstract values -/
theorem HR.empty (w : World) (hg : GloW w) : HR (fun _ => none) (below w.heap.size) ⟨0, [], [], 0, false⟩ w :=
  ⟨fun _ _ => rfl, List.Pairwise.nil, fun x hx => by simp at hx, fun i b h => by simp [lkB] at h, fun i j b d c c' _ h => by simp [lkB] at h, LPS.empty hg⟩

/-- A slice of ints that came in, as a block that is only read. -/
def ints (k : IntKind) (zs : List Int) : List AV := zs.map (.int k)

theorem HR.slice {σ : Env} {base : Prot} {h : Hp} {w : World} (H : HR σ base h w) {a : Addr} {len cap : Nat} {k : IntKind} {zs : List Int} (hlen : len ≤ cap) (hz : zs.length = cap) (h0 : 0 < cap)
    (hcell : ∀ i, i < zs.length → w.cell? (a.add i) = some (.int k (zs.getD i 0))) (hb : ∀ j b, lkB h.blks j = some b → b.wr = false) (hra : ∀ k, base.ro k) :
    ∃ c, HR (upd σ h.next c) base { h with next := h.next + 1, blks := (h.next, { cells := ints k zs, ch := h.next, wr := false }) :: h.blks } w ∧ Ext σ (upd σ h.next c) ∧
      R (upd σ h.next c) (.sl h.next 0 len (some cap) 1) (.slice (some a) len cap) := by
  obtain ⟨b, o, sp⟩ := a
  have hsp : sp = none := by
    have := World.cell?_spot (hcell 0 (by omega))
    simpa [Addr.add] using this
  subst hsp
  have cell0 := hcell 0 (by omega)
  rw [add_none] at cell0
  -- the block
  obtain ⟨cs, e, fz, hg⟩ : ∃ cs e fz, w.heap[b]? = some (.cells cs e fz) := by
    simp only [World.cell?] at cell0
    split at cell0
    · rename_i cs e fz hg
      exact ⟨cs, e, _, hg⟩
    · cases cell0
  have cells : ∀ i, i < zs.length → cs[o + i]? = some (.int k (zs.getD i 0)) := fun i hi => by
    have := hcell i hi
    rw [add_none] at this
    simpa [World.cell?, hg] using this
  have hsz : o + zs.length ≤ cs.size := by
    have := cells (zs.length - 1) (by omega)
    have := (Array.getElem?_eq_some_iff.1 this).1
    omega
  have hx : Ext σ (upd σ h.next ⟨b, o, cs.size - o⟩) := .upd _ (H.dom _ (Nat.le_refl _))
  refine ⟨⟨b, o, cs.size - o⟩, ⟨fun i hi => ?_, ?_, ?_, fun i d hd => ?_, fun i j d d' c c' hij hd hd' hc hc' hbk hw => ?_, H.lps.step hx (fun _ _ _ _ _ _ h _ _ _ => h) (fun _ _ h => h) (fun _ _ _ => rfl)⟩, hx, ?_⟩
  · have hi' : h.next + 1 ≤ i := hi
    rw [upd_other _ _ _ _ (by omega)]; exact H.dom i (by omega)
  · simp only [Srt, List.pairwise_cons]
    exact ⟨fun x hx => (H.chn x hx).2, H.srt⟩
  · intro x hx
    simp only [List.mem_cons] at hx
    rcases hx with rfl | hx
    · exact ⟨Nat.le_refl _, Nat.lt_succ_self _⟩
    · have := H.chn x hx; exact ⟨this.1, Nat.lt_succ_of_lt this.2⟩
  · by_cases hi : h.next = i
    · subst hi
      simp only [lkB, Nat.beq_refl, cond_true, Option.some.injEq] at hd
      subst hd
      refine ⟨_, cs, e, fz, upd_same _ _ _, hg, by simp only; omega, by simp [ints]; omega, fun j x hj => ?_, ⟨fun hw => (by cases hw), fun _ => .inl (hra _)⟩⟩
      simp only [ints, List.getElem?_map, Option.map_eq_some_iff] at hj
      obtain ⟨z, hz', rfl⟩ := hj
      have hjl : j < zs.length := (List.getElem?_eq_some_iff.1 hz').1
      refine ⟨_, cells j hjl, ?_⟩
      simp only [R]
      rw [List.getD_eq_getElem?_getD, hz']
      rfl
    · simp only [lkB, nb hi, cond_false] at hd
      obtain ⟨c', cs', e', fz', b1, b2, b3, b4, b5, b6⟩ := H.cel i d hd
      refine ⟨c', cs', e', fz', hx _ _ b1, b2, b3, b4, fun j a ha => ?_, b6⟩
      obtain ⟨v, h1, h2⟩ := b5 j a ha
      exact ⟨v, h1, h2.ext hx⟩
  · by_cases hi : h.next = i
    · subst hi
      simp only [lkB, Nat.beq_refl, cond_true, Option.some.injEq] at hd
      subst hd
      cases hw
    · simp only [lkB, nb hi, cond_false] at hd
      rw [hb i d hd] at hw
      cases hw
  · simp only [R]
    exact ⟨_, cap, upd_same _ _ _, by simp, hlen, rfl⟩

end
end Go.Abs
