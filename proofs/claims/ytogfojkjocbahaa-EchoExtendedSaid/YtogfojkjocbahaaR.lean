/- Statements, calls, rounds: the interpreter is sound. -/
import Derived.Test.YtogfojkjocbahaaQ
namespace Go.Abs
open Go Go.RowKit

section
variable {P : Program} {base : Nat} {σ : Env} {w : World} {h : Hp}

/-- Only the slots that are kept are spoken of. -/
def KP (keep : Nat) (fr : Fr) : Prop := ∀ t, keep.testBit t = false → lkF fr t = .any

theorem commit_spec (keep : Nat) : ∀ (tm fr : Fr), KP keep fr → KP keep (commit keep tm fr) ∧ ∀ t, lkF (commit keep tm fr) t = if keep.testBit t = true then look tm fr t else .any
  | [], fr, h => ⟨h, fun t => by
      simp only [commit, look, lkO]
      cases ht : keep.testBit t
      · simp [h t ht]
      · simp⟩
  | (d, v) :: r, fr, h => by
    obtain ⟨h1, h2⟩ := commit_spec keep r fr h
    simp only [commit]
    cases hd : keep.testBit d
    · simp only [cond_false]
      refine ⟨h1, fun t => ?_⟩
      rw [h2, look_cons]
      by_cases e : t = d
      · subst e; simp [hd]
      · rw [if_neg e]
    · simp only [cond_true]
      have key : ∀ t, lkF (setF (commit keep r fr) d v) t = if keep.testBit t = true then look ((d, v) :: r) fr t else .any := fun t => by
        rw [lkF_setF, look_cons]
        by_cases e : t = d
        · subst e; simp [hd]
        · rw [if_neg e, if_neg e, h2]
      refine ⟨fun t ht => ?_, key⟩
      rw [key, ht]
      simp

theorem FR.commit {n keep : Nat} {tm fr : Fr} {tmps : Array Value} (hk : KP keep fr) (hf : FR σ n (look tm fr) tmps) : FR σ n (lkF (commit keep tm fr)) tmps := by
  refine ⟨hf.1, fun t => ?_⟩
  rw [(commit_spec keep tm fr hk).2]
  split
  · exact hf.2 t
  · exact R_any

def Ex.out : Ex → Exit
  | .normal => .normal
  | .exit id => .exit id
  | .ret => .ret

/-- The marks of loops over functions among the deferred calls: each its own block, from lo on, with no call. -/
def Mk (lo : Nat) (ds : List Deferred) (w : World) : Prop :=
  (∀ d ∈ ds, ∃ b, d.target = .collected b ∧ lo ≤ b ∧ w.heap[b]? = some (.deferred (some []))) ∧ ds.Pairwise fun x y => ∀ a b, x.target = .collected a → y.target = .collected b → a ≠ b

theorem Mk.fw {lo : Nat} {ds : List Deferred} {w' : World} (h : Mk lo ds w) (hf : Fw base w w') : Mk lo ds w' :=
  ⟨fun d hd => let ⟨b, h1, h2, h3⟩ := h.1 d hd; ⟨b, h1, h2, hf.dfr b _ h3⟩, h.2⟩

/-- What a statement leaves. -/
def PostC (base lo : Nat) (σ : Env) (keep n : Nat) (e : Ex) (s : St) (w : World) : Exit → Act → World → Prop :=
  fun x a' w' => x = e.out ∧ ∃ τ, Ext σ τ ∧ HR τ base s.hp w' ∧ FR τ n (lkF s.fr) a'.tmps ∧ KP keep s.fr ∧ Fw base w w' ∧ Mk lo a'.defers w'

theorem PostC.trans {lo keep n : Nat} {τ : Env} {e : Ex} {s : St} {w1 : World} (hx : Ext σ τ) (hf : Fw base w w1) {x : Exit} {a : Act} {w2 : World} (h : PostC base lo τ keep n e s w1 x a w2) : PostC base lo σ keep n e s w x a w2 := by
  obtain ⟨h1, υ, h2, h3, h4, h5, h6, h7⟩ := h
  exact ⟨h1, υ, hx.trans h2, h3, h4, h5, hf.trans h6, h7⟩

/-- In a round: its loop is there. -/
def InR (r : Option Nat) (w : World) : Prop := ∀ l, r = some l → ∃ x, w.heap[l]? = some (Obj.loop x)

theorem InR.fw {r : Option Nat} {w' : World} (h : InR r w) (hf : Fw base w w') : InR r w' := fun l hl => let ⟨x, hx⟩ := h l hl; hf.lop l x hx

theorem lkL_cons {l : List (Nat × LoopA)} {i j : Nat} {b : LoopA} : lkL ((i, b) :: l) j = if j = i then some b else lkL l j := by
  by_cases e : i = j
  · subst e; simp [lkL]
  · rw [if_neg (fun h => e h.symm)]
    simp [lkL, nb e]

/-- A loop is entered. -/
theorem HR.addLoop (H : HR σ base h w) (hb : base ≤ w.heap.size) {rc : LoopA} {x : Loop} (h1 : x.params = rc.ps) (h2 : x.assign = rc.assign) (h3 : x.body = rc.body) (h4 : x.state = (match rc.st with | 0 => .ready | 1 => .busy | 2 => .done | _ => .exhausted))
    (h5 : x.pending = rc.jump.map (fun j => match j with | none => .ret | some id => .exit id)) (h6 : FR σ rc.n (lkF rc.fr) x.tmps) (h7 : KP rc.keep rc.fr) :
    HR (upd σ h.next ⟨w.heap.size, 0, 0⟩) base { h with next := h.next + 1, loops := (h.next, rc) :: h.loops } (w.alloc (.loop x)) ∧ Ext σ (upd σ h.next ⟨w.heap.size, 0, 0⟩) := by
  have hx : Ext σ (upd σ h.next ⟨w.heap.size, 0, 0⟩) := .upd _ (H.dom _ (Nat.le_refl _))
  have old : ∀ k, k < w.heap.size → (w.alloc (.loop x)).heap[k]? = w.heap[k]? := fun k hk => Below.heap_alloc _ _ _ hk
  have σold : ∀ i c c', σ i = some c → upd σ h.next ⟨w.heap.size, 0, 0⟩ i = some c' → c' = c := fun i c c' h1 h2 => by
    rw [hx _ _ h1] at h2
    cases h2
    rfl
  refine ⟨⟨fun i hi => ?_, H.srt, fun y hy => ?_, fun i d hd => ?_, fun i j d d' c c' hij hd hd' hc hc' hbk hw => ?_, fun l r hlr => ?_, fun l l' r r' c c' hne hl hl' hc hc' => ?_⟩, hx⟩
  · have hi' : h.next + 1 ≤ i := hi
    rw [upd_other _ _ _ _ (by omega)]; exact H.dom i (by omega)
  · have := H.chn y hy
    exact ⟨this.1, Nat.lt_succ_of_lt this.2⟩
  · obtain ⟨c, cs, e, fz, a1, a2, a3, a4, a5, a6⟩ := H.cel i d hd
    refine ⟨c, cs, e, fz, hx _ _ a1, by rw [old _ (lt_of_heap a2)]; exact a2, a3, a4, fun j a ha => ?_, a6⟩
    obtain ⟨v, g1, g2⟩ := a5 j a ha
    exact ⟨v, g1, g2.ext hx⟩
  · obtain ⟨c1, _, _, _, a1, _⟩ := H.cel i d hd
    obtain ⟨c2, _, _, _, b1, _⟩ := H.cel j d' hd'
    obtain rfl := σold _ _ _ a1 hc
    obtain rfl := σold _ _ _ b1 hc'
    exact H.al i j d d' _ _ hij hd hd' a1 b1 hbk hw
  · have hlr' := hlr
    rw [lkL_cons] at hlr'
    split at hlr'
    · rename_i e
      subst e
      cases hlr'
      exact ⟨_, x, upd_same _ _ _, heap_alloc_new w _, h1, h2, h3, h4, h5, h6.ext hx, hb, h7⟩
    · obtain ⟨c, y, a1, a2, a3, a4, a5, a6, a7, a8, a9, a10⟩ := H.lps l r hlr'
      exact ⟨c, y, hx _ _ a1, by rw [old _ (lt_of_heap a2)]; exact a2, a3, a4, a5, a6, a7, a8.ext hx, a9, a10⟩
  · have g1 := hl
    have g2 := hl'
    rw [lkL_cons] at g1 g2
    split at g1
    · rename_i e
      subst e
      rw [if_neg (fun e => hne e.symm)] at g2
      obtain ⟨c2, _, b1, b2, _⟩ := H.lps l' r' g2
      obtain rfl := σold _ _ _ b1 hc'
      rw [upd_same] at hc
      cases hc
      have := lt_of_heap b2
      simp only
      omega
    · obtain ⟨c1, _, a1, a2, _⟩ := H.lps l r g1
      obtain rfl := σold _ _ _ a1 hc
      split at g2
      · rename_i e
        subst e
        rw [upd_same] at hc'
        cases hc'
        have := lt_of_heap a2
        simp only
        omega
      · obtain ⟨c2, _, b1, _⟩ := H.lps l' r' g2
        obtain rfl := σold _ _ _ b1 hc'
        exact H.lal l l' r r' _ _ hne g1 g2 a1 b1

/-- The world with another object in a block. -/
def World.setO (w : World) (b : Nat) (o : Obj) : World := { w with heap := w.heap.setIfInBounds b o }

theorem setO_size (w : World) (b : Nat) (o : Obj) : (World.setO w b o).heap.size = w.heap.size := by simp [World.setO]
theorem setO_same (w : World) (b : Nat) (o : Obj) (h : b < w.heap.size) : (World.setO w b o).heap[b]? = some o := by simp [World.setO, Array.getElem?_setIfInBounds_self_of_lt h]
theorem setO_other (w : World) (b k : Nat) (o : Obj) (h : k ≠ b) : (World.setO w b o).heap[k]? = w.heap[k]? := by simp [World.setO, Array.getElem?_setIfInBounds_ne (fun e => h e.symm)]

theorem lkL_setL : ∀ (l : List (Nat × LoopA)) (i : Nat) (b : LoopA) (j : Nat), lkL (setL l i b) j = if j = i then (if (lkL l i).isSome then some b else none) else lkL l j
  | [], i, b, j => by simp [setL, lkL]
  | (k, x) :: r, i, b, j => by
    by_cases hk : k = i
    · subst hk
      simp only [setL, Nat.beq_refl, cond_true, lkL_cons]
      by_cases hj : j = k
      · simp [hj]
      · simp [hj]
    · simp only [setL, nb hk, cond_false, lkL_cons, lkL_setL r i b j]
      by_cases hj : j = k
      · subst hj; simp [hk]
      · by_cases hji : j = i
        · subst hji; simp [hj]
        · simp [hj, hji]

theorem lkL_delL : ∀ (l : List (Nat × LoopA)) (i j : Nat), lkL (delL l i) j = if j = i then none else lkL l j
  | [], i, j => by simp [delL, lkL]
  | (k, x) :: r, i, j => by
    by_cases hk : k = i
    · subst hk
      simp only [delL, Nat.beq_refl, cond_true, lkL_cons, lkL_delL r k j]
      by_cases hj : j = k <;> simp [hj]
    · simp only [delL, nb hk, cond_false, lkL_cons, lkL_delL r i j]
      by_cases hj : j = k
      · subst hj; simp [hk]
      · rw [if_neg hj, if_neg hj]

/-- A loop's record turns; or it is forgotten. -/
theorem HR.setLoop (H : HR σ base h w) {l : Nat} {r : LoopA} (hl : lkL h.loops l = some r) {c : Loc} (hc : σ l = some c) {x : Loop} (hx : w.heap[c.blk]? = some (.loop x)) {y : Loop} {ls : List (Nat × LoopA)}
    (hls : ∀ j r', lkL ls j = some r' → (j ≠ l ∧ lkL h.loops j = some r') ∨ (j = l ∧ y.params = r'.ps ∧ y.assign = r'.assign ∧ y.body = r'.body ∧ y.state = (match r'.st with | 0 => .ready | 1 => .busy | 2 => .done | _ => .exhausted) ∧
      y.pending = r'.jump.map (fun j => match j with | none => .ret | some id => .exit id) ∧ FR σ r'.n (lkF r'.fr) y.tmps ∧ KP r'.keep r'.fr)) :
    HR σ base { h with loops := ls } (World.setO w c.blk (.loop y)) ∧ Fw base w (World.setO w c.blk (.loop y)) := by
  obtain ⟨c0, x0, b1, b2, _, _, _, _, _, _, b9, _⟩ := H.lps l r hl
  rw [hc] at b1
  cases b1
  have hlt := lt_of_heap hx
  refine ⟨⟨H.dom, H.srt, H.chn, fun i d hd => ?_, H.al, fun j r' hj => ?_, fun j j' r1 r2 c1 c2 hne h1 h2 hc1 hc2 => ?_⟩, ⟨rfl, rfl, rfl, by rw [setO_size]; exact Nat.le_refl _, fun k hk => setO_other _ _ _ _ (by omega)⟩, fun k ds hk => ?_, fun k z hk => ?_⟩
  · obtain ⟨c1, cs, e, fz, a1, a2, a3⟩ := H.cel i d hd
    exact ⟨c1, cs, e, fz, a1, by rw [setO_other _ _ _ _ (fun e => by rw [e, hx] at a2; cases a2)]; exact a2, a3⟩
  · rcases hls j r' hj with ⟨h1, h2⟩ | ⟨rfl, h1, h2, h3, h4, h5, h6, h7⟩
    · obtain ⟨c1, x1, a1, a2, a3⟩ := H.lps j r' h2
      refine ⟨c1, x1, a1, ?_, a3⟩
      rw [setO_other _ _ _ _ (H.lal j l r' r c1 c h1 h2 hl a1 hc)]
      exact a2
    · exact ⟨c, y, hc, setO_same _ _ _ hlt, h1, h2, h3, h4, h5, h6, b9, h7⟩
  · have g1 : ∃ q, lkL h.loops j = some q := by
      rcases hls j r1 h1 with ⟨_, h⟩ | ⟨rfl, _⟩
      · exact ⟨_, h⟩
      · exact ⟨_, hl⟩
    have g2 : ∃ q, lkL h.loops j' = some q := by
      rcases hls j' r2 h2 with ⟨_, h⟩ | ⟨rfl, _⟩
      · exact ⟨_, h⟩
      · exact ⟨_, hl⟩
    obtain ⟨q1, g1⟩ := g1
    obtain ⟨q2, g2⟩ := g2
    exact H.lal j j' q1 q2 c1 c2 hne g1 g2 hc1 hc2
  · rw [setO_other _ _ _ _ (fun e => by rw [e, hx] at hk; cases hk)]
    exact hk
  · by_cases e : k = c.blk
    · subst e; exact ⟨y, setO_same _ _ _ hlt⟩
    · exact ⟨z, by rw [setO_other _ _ _ _ e]; exact hk⟩

end
end Go.Abs
