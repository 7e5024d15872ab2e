/- Maps in the heap: a new one, an entry, an entry less; iterators. -/
import Derived.Test.YtbomimhfldmlbaaDoorIM
set_option linter.unusedSimpArgs false
set_option linter.unusedVariables false
namespace Go.Abs
open Go Go.RowKit

theorem lkL_cons {l : List (Nat × LoopA)} {i j : Nat} {b : LoopA} : lkL ((i, b) :: l) j = if j = i then some b else lkL l j := by
  by_cases e : i = j
  · subst e; simp [lkL]
  · rw [if_neg (fun h => e h.symm)]
    simp [lkL, nb e]

theorem lkL_setL : ∀ (l : List (Nat × LoopA)) (i : Nat) (b : LoopA) (j : Nat), lkL (setL l i b) j = if j = i then (if (lkL l i).isSome then some b else none) else lkL l j
  | [], i, b, j => by simp [setL, lkL]
  | (k, x) :: r, i, b, j => by
    by_cases hk : k = i
    · subst hk
      simp only [setL, Nat.beq_refl, cond_true, lkL_cons]
      by_cases hj : j = k
      · simp [hj]
      · simp [hj]
    · simp only [setL, nb hk, cond_false, lkL_cons, lkL_setL r i b j]
      by_cases hj : j = k
      · subst hj; simp [hk]
      · by_cases hji : j = i
        · subst hji; simp [hj]
        · simp [hj, hji]

/-- The world with another object in a block. -/
def World.setO (w : World) (b : Nat) (o : Obj) : World := { w with heap := w.heap.setIfInBounds b o }

theorem setO_size (w : World) (b : Nat) (o : Obj) : (World.setO w b o).heap.size = w.heap.size := by simp [World.setO]
theorem setO_same (w : World) (b : Nat) (o : Obj) (h : b < w.heap.size) : (World.setO w b o).heap[b]? = some o := by simp [World.setO, Array.getElem?_setIfInBounds_self_of_lt h]
theorem setO_other (w : World) (b k : Nat) (o : Obj) (h : k ≠ b) : (World.setO w b o).heap[k]? = w.heap[k]? := by simp [World.setO, Array.getElem?_setIfInBounds_ne (fun e => h e.symm)]

theorem map_ne_it {ents : List (AV × AV)} {m : Nat} {seen : List AV} : mapObj ents ≠ itObj m seen := fun h => by
  have := congrArg LoopA.st h
  simp [mapObj, itObj] at this

theorem itObj_inj {m m' : Nat} {s s' : List AV} (h : itObj m s = itObj m' s') : m = m' ∧ s = s' := ⟨congrArg LoopA.n h, congrArg LoopA.dat h⟩

theorem asMap_obj {ents : List (AV × AV)} : asMap (mapObj ents) = some ents := by
  simp only [asMap, mapObj, Nat.beq_refl, cond_true, List.map_map, Function.comp_def, Option.some.injEq]
  induction ents with
  | nil => rfl
  | cons x r ih => simp [ih]

theorem asIt_obj {m : Nat} {s : List AV} : asIt (itObj m s) = some (m, s) := rfl

theorem getM_of {h : Hp} {id : Nat} {ents : List (AV × AV)} (e : lkL h.loops id = some (mapObj ents)) : getM h id = some ents := by simp [getM, e, asMap_obj]

section
variable {P : Program} {base : Prot} {σ : Env} {w : World} {h : Hp}

/-- What stands for a map is a map. -/
theorem LPS.map {ls : List (Nat × LoopA)} (L : LPS σ base ls w) {id : Nat} {ents : List (AV × AV)} (hg : (lkL ls id).bind asMap = some ents) :
    lkL ls id = some (mapObj ents) ∧ ∃ c es clock, σ id = some c ∧ w.heap[c.blk]? = some (.map es clock) ∧ base.fr c.blk ∧ MapR σ ents es clock := by
  cases hl : lkL ls id with
  | none => simp [hl] at hg
  | some r =>
    rw [hl] at hg
    simp only [Option.bind_some] at hg
    obtain ⟨c, o, a1, a2, a3, a4⟩ := L.lps id r hl
    have h4 : r.st = 4 := by
      unfold asMap at hg
      cases hb : Nat.beq r.st 4
      · simp [hb] at hg
      · exact Nat.eq_of_beq_eq_true hb
    rcases a4 with ⟨h0, _⟩ | ⟨ents', es, clock, rfl, h2, h3⟩ | ⟨m, seen, mb, since, sn, last, rfl, _⟩ | ⟨rfl, _⟩
    · omega
    · rw [asMap_obj] at hg
      cases hg
      exact ⟨rfl, c, es, clock, a1, by rw [a2, h2], a3, h3⟩
    · simp [itObj] at h4
    · simp [deadObj] at h4

theorem LPS.it {ls : List (Nat × LoopA)} (L : LPS σ base ls w) {id m : Nat} {seen : List AV} (hg : (lkL ls id).bind asIt = some (m, seen)) :
    lkL ls id = some (itObj m seen) ∧ ∃ c cm since sn last, σ id = some c ∧ σ m = some cm ∧ w.heap[c.blk]? = some (.mapIter (some cm.blk) since sn last) ∧ base.fr c.blk ∧ c.off = 0 := by
  cases hl : lkL ls id with
  | none => simp [hl] at hg
  | some r =>
    rw [hl] at hg
    simp only [Option.bind_some] at hg
    obtain ⟨c, o, a1, a2, a3, a4⟩ := L.lps id r hl
    have h4 : r.st = 5 := by
      unfold asIt at hg
      cases hb : Nat.beq r.st 5
      · simp [hb] at hg
      · exact Nat.eq_of_beq_eq_true hb
    rcases a4 with ⟨h0, _⟩ | ⟨ents', es, clock, rfl, h2, h3⟩ | ⟨m', seen', mb, since, sn, last, rfl, h0, h2, h3⟩ | ⟨rfl, _⟩
    · omega
    · simp [mapObj] at h4
    · rw [asIt_obj] at hg
      cases hg
      exact ⟨rfl, c, mb, since, sn, last, a1, h2, by rw [a2, h3], a3, h0⟩
    · simp [deadObj] at h4

/-- An object more. -/
theorem HR.addObj (H : HR σ base h w) (hb : base.fit w.heap.size) {rc : LoopA} {o : Obj} (hO : ∀ τ, Ext σ τ → ObR τ ⟨w.heap.size, 0, 0⟩ rc o)
    (hit : ∀ m seen ents cm, rc = itObj m seen → lkL h.loops m = some (mapObj ents) → σ m = some cm → ∃ since sn last es clock, o = .mapIter (some cm.blk) since sn last ∧ w.heap[cm.blk]? = some (.map es clock) ∧ ItR σ ents seen since sn last es clock) :
    HR (upd σ h.next ⟨w.heap.size, 0, 0⟩) base { h with next := h.next + 1, loops := (h.next, rc) :: h.loops } (w.alloc o) ∧ Ext σ (upd σ h.next ⟨w.heap.size, 0, 0⟩) := by
  have hx : Ext σ (upd σ h.next ⟨w.heap.size, 0, 0⟩) := .upd _ (H.dom _ (Nat.le_refl _))
  have old : ∀ k, k < w.heap.size → (w.alloc o).heap[k]? = w.heap[k]? := fun k hk => Below.heap_alloc _ _ _ hk
  have σold : ∀ i c c', σ i = some c → upd σ h.next ⟨w.heap.size, 0, 0⟩ i = some c' → c' = c := fun i c c' h1 h2 => by
    rw [hx _ _ h1] at h2
    cases h2
    rfl
  have L := H.lps
  have has : ∀ l r, lkL h.loops l = some r → l ≠ h.next := fun l r hl e => by
    obtain ⟨c, _, a1, _⟩ := L.lps l r hl
    rw [e, H.dom _ (Nat.le_refl _)] at a1
    cases a1
  refine ⟨⟨fun i hi => ?_, H.srt, fun y hy => ?_, fun i d hd => ?_, fun i j d d' c c' hij hd hd' hc hc' hbk hw => ?_, fun l r hlr => ?_, fun l l' r r' c c' hne hl hl' hc hc' => ?_, fun l m seen ents c cm h1 h2 h3 h4 => ?_⟩, hx⟩
  · have hi' : h.next + 1 ≤ i := hi
    rw [upd_other _ _ _ _ (by omega)]; exact H.dom i (by omega)
  · have := H.chn y hy
    exact ⟨this.1, Nat.lt_succ_of_lt this.2⟩
  · obtain ⟨c, cs, e, fz, a1, a2, a3, a4, a5, a6⟩ := H.cel i d hd
    refine ⟨c, cs, e, fz, hx _ _ a1, by rw [old _ (lt_of_heap a2)]; exact a2, a3, a4, fun j a ha => ?_, a6⟩
    obtain ⟨v, g1, g2⟩ := a5 j a ha
    exact ⟨v, g1, g2.ext hx⟩
  · obtain ⟨c1, _, _, _, a1, _⟩ := H.cel i d hd
    obtain ⟨c2, _, _, _, b1, _⟩ := H.cel j d' hd'
    obtain rfl := σold _ _ _ a1 hc
    obtain rfl := σold _ _ _ b1 hc'
    exact H.al i j d d' _ _ hij hd hd' a1 b1 hbk hw
  · have hlr' := hlr
    rw [lkL_cons] at hlr'
    split at hlr'
    · rename_i e
      subst e
      cases hlr'
      exact ⟨_, o, upd_same _ _ _, heap_alloc_new w _, hb.fr, hO _ hx⟩
    · obtain ⟨c, y, a1, a2, a3, a4⟩ := L.lps l r hlr'
      exact ⟨c, y, hx _ _ a1, by rw [old _ (lt_of_heap a2)]; exact a2, a3, a4.ext hx⟩
  · have g1 := hl
    have g2 := hl'
    rw [lkL_cons] at g1 g2
    split at g1
    · rename_i e
      subst e
      rw [if_neg (fun e => hne e.symm)] at g2
      obtain ⟨c2, _, b1, b2, _⟩ := L.lps l' r' g2
      obtain rfl := σold _ _ _ b1 hc'
      rw [upd_same] at hc
      cases hc
      have := lt_of_heap b2
      simp only
      omega
    · obtain ⟨c1, _, a1, a2, _⟩ := L.lps l r g1
      obtain rfl := σold _ _ _ a1 hc
      split at g2
      · rename_i e
        subst e
        rw [upd_same] at hc'
        cases hc'
        have := lt_of_heap a2
        simp only
        omega
      · obtain ⟨c2, _, b1, _⟩ := L.lps l' r' g2
        obtain rfl := σold _ _ _ b1 hc'
        exact L.lal l l' r r' _ _ hne g1 g2 a1 b1
  · rw [lkL_cons] at h1 h2
    split at h2
    · -- the map is new: no elder iterator knows it
      rename_i e
      subst e
      split at h1
      · rename_i e
        rw [h1] at h2
        exact absurd (Option.some.inj h2).symm map_ne_it
      · obtain ⟨c', o', a1, a2, a3, a4⟩ := L.lps l _ h1
        obtain ⟨mb, _, _, _, _, b1, _⟩ := a4.it
        rw [H.dom _ (Nat.le_refl _)] at b1
        cases b1
    · obtain ⟨c2, o2, b1, b2, b3, b4⟩ := L.lps m _ h2
      obtain rfl := σold _ _ _ b1 h4
      obtain ⟨es2, clock2, e1, e2⟩ := b4.map
      split at h1
      · rename_i e
        subst e
        have hrc := Option.some.inj h1
        obtain ⟨since, sn, last, es, clock, g1, g2, g3⟩ := hit m seen ents _ hrc h2 b1
        rw [upd_same] at h3
        cases h3
        exact ⟨since, sn, last, es, clock, by rw [heap_alloc_new w, g1], by rw [old _ (lt_of_heap g2)]; exact g2, g3.ext hx e2.keys⟩
      · obtain ⟨c1, _, a1, a2, _⟩ := L.lps l _ h1
        obtain rfl := σold _ _ _ a1 h3
        obtain ⟨since, sn, last, es, clock, g1, g2, g3⟩ := L.its l m seen ents _ _ h1 h2 a1 b1
        exact ⟨since, sn, last, es, clock, by rw [old _ (lt_of_heap g1)]; exact g1, by rw [old _ (lt_of_heap g2)]; exact g2, g3.ext hx e2.keys⟩

/-- An object turns. -/
theorem HR.setObj (H : HR σ base h w) {l : Nat} {r0 r : LoopA} (hl : lkL h.loops l = some r0) {c : Loc} (hc : σ l = some c) {o0 o : Obj} (hg : w.heap[c.blk]? = some o0) (hO : ObR σ c r o) {ls : List (Nat × LoopA)}
    (hk : (∀ d, o0 ≠ .deferred d)) (hlo : ∀ x, o0 = .loop x → ∃ y, o = .loop y)
    (hls : ∀ j r', lkL ls j = some r' → (j ≠ l ∧ lkL h.loops j = some r') ∨ (j = l ∧ r' = r) ∨ (j ≠ l ∧ r' = deadObj ∧ ∃ m seen, lkL h.loops j = some (itObj m seen)))
    (h1 : ∀ i seen ents ci, r = mapObj ents → i ≠ l → lkL ls i = some (itObj l seen) → σ i = some ci → ∃ since sn last es clock, w.heap[ci.blk]? = some (.mapIter (some c.blk) since sn last) ∧ o = .map es clock ∧ ItR σ ents seen since sn last es clock)
    (h2 : ∀ m seen ents cm, r = itObj m seen → m ≠ l → lkL ls m = some (mapObj ents) → σ m = some cm → ∃ since sn last es clock, o = .mapIter (some cm.blk) since sn last ∧ w.heap[cm.blk]? = some (.map es clock) ∧ ItR σ ents seen since sn last es clock) :
    HR σ base { h with loops := ls } (World.setO w c.blk o) ∧ Fw base w (World.setO w c.blk o) := by
  have L := H.lps
  obtain ⟨c0, x0, b1, b2, b3, b4⟩ := L.lps l r0 hl
  rw [hc] at b1
  cases b1
  rw [hg] at b2
  cases b2
  have hlt := lt_of_heap hg
  have away : ∀ j r' c', j ≠ l → lkL h.loops j = some r' → σ j = some c' → c'.blk ≠ c.blk := fun j r' c' hj h1 h2 => L.lal j l r' r0 c' c hj h1 hl h2 hc
  have has : ∀ j r', lkL ls j = some r' → ∃ q, lkL h.loops j = some q := fun j r' hj => by
    rcases hls j r' hj with ⟨_, h⟩ | ⟨rfl, _⟩ | ⟨_, _, m, seen, h⟩
    · exact ⟨_, h⟩
    · exact ⟨_, hl⟩
    · exact ⟨_, h⟩
  refine ⟨⟨H.dom, H.srt, H.chn, fun i d hd => ?_, H.al, fun j r' hj => ?_, fun j j' r1 r2 c1 c2 hne g1 g2 hc1 hc2 => ?_, fun i m seen ents ci cm g1 g2 g3 g4 => ?_⟩,
    ⟨rfl, rfl, rfl, by rw [setO_size]; exact Nat.le_refl _, fun k hk => setO_other _ _ _ _ (fun e => b3 (e ▸ hk))⟩, fun k ds hkk => ?_, fun k z hkk => ?_⟩
  · obtain ⟨c1, cs, e, fz, a1, a2, a3⟩ := H.cel i d hd
    exact ⟨c1, cs, e, fz, a1, by rw [setO_other _ _ _ _ (fun e => by rw [e, hg] at a2; cases a2; exact b4.kind.1 _ _ _ rfl)]; exact a2, a3⟩
  · rcases hls j r' hj with ⟨g1, g2⟩ | ⟨rfl, rfl⟩ | ⟨g1, rfl, m, seen, g2⟩
    · obtain ⟨c1, x1, a1, a2, a3, a4⟩ := L.lps j r' g2
      exact ⟨c1, x1, a1, by rw [setO_other _ _ _ _ (away j r' c1 g1 g2 a1)]; exact a2, a3, a4⟩
    · exact ⟨c, o, hc, setO_same _ _ _ hlt, b3, hO⟩
    · obtain ⟨c1, x1, a1, a2, a3, a4⟩ := L.lps j _ g2
      obtain ⟨mb, since, sn, last, _, _, rfl⟩ := a4.it
      exact ⟨c1, _, a1, by rw [setO_other _ _ _ _ (away j _ c1 g1 g2 a1)]; exact a2, a3, .inr (.inr (.inr ⟨rfl, _, _, _, _, rfl⟩))⟩
  · obtain ⟨q1, g1⟩ := has _ _ g1
    obtain ⟨q2, g2⟩ := has _ _ g2
    exact L.lal j j' q1 q2 c1 c2 hne g1 g2 hc1 hc2
  · have nd : ∀ m seen, itObj m seen ≠ deadObj := fun m seen e => by have := congrArg LoopA.st e; simp [itObj, deadObj] at this
    have nd' : ∀ ents, mapObj ents ≠ deadObj := fun ents e => by have := congrArg LoopA.st e; simp [mapObj, deadObj] at this
    rcases hls i _ g1 with ⟨e1, e2⟩ | ⟨rfl, e2⟩ | ⟨_, e2, _⟩
    rotate_left 2
    · exact absurd e2 (nd _ _)
    · rcases hls m _ g2 with ⟨e3, e4⟩ | ⟨rfl, e4⟩ | ⟨_, e4, _⟩
      rotate_left 2
      · exact absurd e4 (nd' _)
      · obtain ⟨since, sn, last, es, clock, q1, q2, q3⟩ := L.its i m seen ents ci cm e2 e4 g3 g4
        exact ⟨since, sn, last, es, clock, by rw [setO_other _ _ _ _ (away i _ ci e1 e2 g3)]; exact q1, by rw [setO_other _ _ _ _ (away m _ cm e3 e4 g4)]; exact q2, q3⟩
      · rw [hc] at g4
        cases g4
        obtain ⟨since, sn, last, es, clock, q1, q2, q3⟩ := h1 i seen ents ci e4.symm e1 g1 g3
        exact ⟨since, sn, last, es, clock, by rw [setO_other _ _ _ _ (away i _ ci e1 e2 g3)]; exact q1, by rw [setO_same _ _ _ hlt, q2], q3⟩
    · rw [hc] at g3
      cases g3
      rcases hls m _ g2 with ⟨e3, e4⟩ | ⟨rfl, e4⟩ | ⟨_, e4, _⟩
      rotate_left 2
      · exact absurd e4 (nd' _)
      · obtain ⟨since, sn, last, es, clock, q1, q2, q3⟩ := h2 m seen ents cm e2.symm e3 g2 g4
        exact ⟨since, sn, last, es, clock, by rw [setO_same _ _ _ hlt, q1], by rw [setO_other _ _ _ _ (away m _ cm e3 e4 g4)]; exact q2, q3⟩
      · rw [← e2] at e4
        exact absurd e4 map_ne_it
  · rw [setO_other _ _ _ _ (fun e => by rw [e, hg] at hkk; cases hkk; exact hk _ rfl)]
    exact hkk
  · by_cases e : k = c.blk
    · subst e
      rw [hg] at hkk
      obtain ⟨y, rfl⟩ := hlo z (Option.some.inj hkk)
      exact ⟨y, setO_same _ _ _ hlt⟩
    · exact ⟨z, by rw [setO_other _ _ _ _ e]; exact hkk⟩

/-! ### Entries -/
theorem EntsR.mem {l : List (AV × AV)} {es : List MapEntry} (h : EntsR σ l es) : ∀ e ∈ es, ∃ a ∈ l, R σ a.1 e.key ∧ R σ a.2 e.val := by
  induction l generalizing es with
  | nil => cases es with | nil => intro e he; simp at he | cons => exact h.elim
  | cons x r ih =>
    cases es with
    | nil => exact h.elim
    | cons y es =>
      intro e he
      rcases List.mem_cons.1 he with rfl | he
      · exact ⟨x, by simp, h.1, h.2.1⟩
      · obtain ⟨a, h1, h2⟩ := ih h.2.2 e he
        exact ⟨a, by simp [h1], h2⟩

theorem EntsR.mem' {l : List (AV × AV)} {es : List MapEntry} (h : EntsR σ l es) : ∀ a ∈ l, ∃ e ∈ es, R σ a.1 e.key ∧ R σ a.2 e.val := by
  induction l generalizing es with
  | nil => intro a ha; simp at ha
  | cons x r ih =>
    cases es with
    | nil => exact h.elim
    | cons y es =>
      intro a ha
      rcases List.mem_cons.1 ha with rfl | ha
      · exact ⟨y, by simp, h.1, h.2.1⟩
      · obtain ⟨e, h1, h2⟩ := ih h.2.2 a ha
        exact ⟨e, by simp [h1], h2⟩

theorem EntsR.length {l : List (AV × AV)} {es : List MapEntry} (h : EntsR σ l es) : l.length = es.length := by
  induction l generalizing es with
  | nil => cases es with | nil => rfl | cons => exact h.elim
  | cons x r ih => cases es with | nil => exact h.elim | cons y es => simp [ih h.2.2]

theorem EntsR.app {l m : List (AV × AV)} {es fs : List MapEntry} (h : EntsR σ l es) (h' : EntsR σ m fs) : EntsR σ (l ++ m) (es ++ fs) := by
  induction l generalizing es with
  | nil => cases es with | nil => exact h' | cons => exact h.elim
  | cons x r ih => cases es with | nil => exact h.elim | cons y es => exact ⟨h.1, h.2.1, ih h.2.2⟩

def putF (a v : AV) (e : AV × AV) : AV × AV := bif AV.beq a e.1 then (e.1, v) else e

theorem map_putF_miss {a v : AV} {l : List (AV × AV)} (h : a ∉ l.map (·.1)) : l.map (putF a v) = l := by
  induction l with
  | nil => rfl
  | cons x r ih =>
    simp only [List.map_cons, List.mem_cons, not_or] at h
    have : AV.beq a x.1 = false := by
      cases hb : AV.beq a x.1
      · rfl
      · exact absurd (AV.beq_eq hb) h.1
    simp [putF, this, ih h.2]

theorem filter_miss {a : AV} {l : List (AV × AV)} (h : a ∉ l.map (·.1)) : l.filter (fun e => !AV.beq a e.1) = l := by
  induction l with
  | nil => rfl
  | cons x r ih =>
    simp only [List.map_cons, List.mem_cons, not_or] at h
    have : AV.beq a x.1 = false := by
      cases hb : AV.beq a x.1
      · rfl
      · exact absurd (AV.beq_eq hb) h.1
    rw [List.filter_cons, this, ih h.2]
    rfl

theorem EntsR.put {a v : AV} {k u x : Value} (hk : R σ a k) (hv : R σ v u) : ∀ {l : List (AV × AV)} {es : List MapEntry} {i j : Nat}, EntsR σ l es → (l.map (·.1)).Nodup → fIx a l es i = some (i + j, x) →
    EntsR σ (l.map (putF a v)) (es.modify j fun e => { e with key := k, val := u })
  | [], es, i, j, h, _, hf => by simp [fIx] at hf
  | y :: l, [], i, j, h, _, hf => h.elim
  | y :: l, e :: es, i, j, ⟨h1, h2, h3⟩, hn, hf => by
    simp only [List.map_cons, List.nodup_cons] at hn
    simp only [fIx] at hf
    cases hb : AV.beq a y.1
    · simp only [hb, cond_false] at hf
      have hj : ∃ j', j = j' + 1 := by
        cases j with
        | succ j' => exact ⟨j', rfl⟩
        | zero =>
          exfalso
          have : ∀ {l : List (AV × AV)} {es : List MapEntry} {i q : Nat} {x : Value}, fIx a l es i = some (q, x) → i ≤ q := by
            intro l
            induction l with
            | nil => intro es i q x h; simp [fIx] at h
            | cons z l ih =>
              intro es i q x h
              cases es with
              | nil => simp [fIx] at h
              | cons f es =>
                simp only [fIx] at h
                cases hz : AV.beq a z.1
                · simp only [hz, cond_false] at h
                  have := ih h
                  omega
                · simp only [hz, cond_true, Option.some.injEq, Prod.mk.injEq] at h
                  omega
          have := this hf
          omega
      obtain ⟨j', rfl⟩ := hj
      have hf' : fIx a l es (i + 1) = some (i + 1 + j', x) := by rw [hf]; congr 2; omega
      have ih := EntsR.put hk hv h3 hn.2 hf'
      simp only [List.map_cons, putF, hb, cond_false, List.modify_succ_cons]
      exact ⟨h1, h2, ih⟩
    · simp only [hb, cond_true, Option.some.injEq, Prod.mk.injEq] at hf
      obtain ⟨e1, rfl⟩ := hf
      have : j = 0 := by omega
      subst this
      have e2 := AV.beq_eq hb
      subst e2
      simp only [List.map_cons, putF, hb, cond_true, List.modify_zero_cons]
      refine ⟨hk, hv, ?_⟩
      have := map_putF_miss (v := v) hn.1
      rw [this]
      exact h3

theorem EntsR.del {a : AV} {x : Value} : ∀ {l : List (AV × AV)} {es : List MapEntry} {i j : Nat}, EntsR σ l es → (l.map (·.1)).Nodup → fIx a l es i = some (i + j, x) →
    EntsR σ (l.filter fun e => !AV.beq a e.1) (es.eraseIdx j)
  | [], es, i, j, h, _, hf => by simp [fIx] at hf
  | y :: l, [], i, j, h, _, hf => h.elim
  | y :: l, e :: es, i, j, ⟨h1, h2, h3⟩, hn, hf => by
    simp only [List.map_cons, List.nodup_cons] at hn
    simp only [fIx] at hf
    cases hb : AV.beq a y.1
    · simp only [hb, cond_false] at hf
      have hj : ∃ j', j = j' + 1 := by
        cases j with
        | succ j' => exact ⟨j', rfl⟩
        | zero =>
          exfalso
          have : ∀ {l : List (AV × AV)} {es : List MapEntry} {i q : Nat} {x : Value}, fIx a l es i = some (q, x) → i ≤ q := by
            intro l
            induction l with
            | nil => intro es i q x h; simp [fIx] at h
            | cons z l ih =>
              intro es i q x h
              cases es with
              | nil => simp [fIx] at h
              | cons f es =>
                simp only [fIx] at h
                cases hz : AV.beq a z.1
                · simp only [hz, cond_false] at h
                  have := ih h
                  omega
                · simp only [hz, cond_true, Option.some.injEq, Prod.mk.injEq] at h
                  omega
          have := this hf
          omega
      obtain ⟨j', rfl⟩ := hj
      have hf' : fIx a l es (i + 1) = some (i + 1 + j', x) := by rw [hf]; congr 2; omega
      have ih := EntsR.del h3 hn.2 hf'
      rw [List.filter_cons, hb]
      exact ⟨h1, h2, ih⟩
    · simp only [hb, cond_true, Option.some.injEq, Prod.mk.injEq] at hf
      obtain ⟨e1, rfl⟩ := hf
      have : j = 0 := by omega
      subst this
      have e2 := AV.beq_eq hb
      subst e2
      rw [List.filter_cons, hb]
      simp only [Bool.not_true, Bool.false_eq_true, if_false, List.eraseIdx_zero, List.tail_cons]
      rw [filter_miss hn.1]
      exact h3

theorem hasK_iff {a : AV} {ents : List (AV × AV)} (hp : plainKey a = true) : hasK a ents = true ↔ a ∈ ents.map (·.1) := by
  unfold hasK
  rw [List.any_eq_true, List.mem_map]
  constructor
  · rintro ⟨e, h1, h2⟩
    exact ⟨e, h1, (AV.beq_eq h2).symm⟩
  · rintro ⟨e, h1, rfl⟩
    exact ⟨e, h1, (beq_plain hp).2 rfl⟩

theorem valK_some {a v : AV} {ents : List (AV × AV)} (hn : (ents.map (·.1)).Nodup) (hp : plainKey a = true) (h : (a, v) ∈ ents) : valK a ents = some v := by
  unfold valK
  induction ents with
  | nil => simp at h
  | cons x r ih =>
    simp only [List.map_cons, List.nodup_cons] at hn
    rcases List.mem_cons.1 h with rfl | h
    · simp [(beq_plain hp).2]
    · have : AV.beq a x.1 = false := (beq_ne hp).2 fun e => hn.1 (by rw [← e]; exact List.mem_map.2 ⟨(a, v), h, rfl⟩)
      rw [List.find?_cons, this]
      exact ih hn.2 h

theorem valK_none {a : AV} {ents : List (AV × AV)} (h : a ∉ ents.map (·.1)) : valK a ents = none := by
  unfold valK
  rw [Option.map_eq_none_iff, List.find?_eq_none]
  intro x hx hb
  exact h (List.mem_map.2 ⟨x, hx, (AV.beq_eq hb).symm⟩)

/-- What is at a key. -/
theorem MapR.find {ents : List (AV × AV)} {es : Array MapEntry} {clock : Nat} (M : MapR σ ents es clock) {kt : TypeId} {a : AV} {k : Value} (ha : keyFit (ktOf P kt) a = true) (hk : R σ a k)
    (hf : ∀ e ∈ ents, keyFit (ktOf P kt) e.1 = true) (w : World) :
    (hasK a ents = false ∧ valK a ents = none ∧ (Instr.findKey kt k es.toList).run P w = .ok none w) ∨
    ∃ j e v l, hasK a ents = true ∧ valK a ents = some v ∧ (a, v) ∈ ents ∧ (Instr.findKey kt k es.toList).run P w = .ok (some (j, e.val)) w ∧ es[j]? = some e ∧ e.key = k ∧ R σ v e.val ∧
      l.Perm ents ∧ EntsR σ l es.toList ∧ fIx a l es.toList 0 = some (0 + j, e.val) := by
  obtain ⟨l, hp, he⟩ := M.ents
  have hpl := keyFit_plain ha
  have hn : (l.map (·.1)).Nodup := (hp.map _).nodup_iff.2 M.nodup
  have run := findKey_sound (P := P) ha hk he (fun e h => hf e (hp.mem_iff.1 h)) w
  rcases fIx_spec (i := 0) hpl he hn with ⟨g1, g2⟩ | ⟨j, e, v, g1, g2, g3, g4, g5⟩
  · left
    have hm : a ∉ ents.map (·.1) := fun h => g2 ((hp.map _).mem_iff.2 h)
    refine ⟨?_, valK_none hm, by rw [run, g1]⟩
    cases hh : hasK a ents
    · rfl
    · exact absurd ((hasK_iff hpl).1 hh) hm
  · right
    have hmem : (a, v) ∈ ents := hp.mem_iff.1 (List.mem_of_getElem? g3)
    refine ⟨j, e, v, l, (hasK_iff hpl).2 (List.mem_map.2 ⟨_, hmem, rfl⟩), valK_some M.nodup hpl hmem, hmem, by rw [run, g1, Nat.zero_add], by simpa using g2, R_plain hpl g4 hk, g5, hp, he, g1⟩

end
end Go.Abs
