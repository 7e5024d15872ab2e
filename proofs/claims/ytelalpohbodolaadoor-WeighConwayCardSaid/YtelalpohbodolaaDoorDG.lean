/- A map of one's own whose keys are numbers. -/
import Derived.Test.YtelalpohbodolaaDoorDD
import Derived.Test.YtelalpohbodolaaDoorMV
set_option linter.unusedSimpArgs false
set_option linter.unusedVariables false
set_option maxHeartbeats 4000000
set_option maxRecDepth 20000
namespace Go.Abs
open Go
def IntK (ents : List (AV × AV)) : Prop := ∀ e ∈ ents, ∃ t : Int, e.1 = .int .i64 t
theorem beq_int {a b : Int} : AV.beq (.int .i64 a) (.int .i64 b) = decide (a = b) := by
  simp only [AV.beq, decide_true, Bool.true_and]
  rw [Bool.eq_iff_iff]
  simp
theorem IntK.fit {ents : List (AV × AV)} (H : IntK ents) : ents.all (fun e => keyFit (.int .i64) e.1) = true := by
  rw [List.all_eq_true]
  intro e he
  obtain ⟨t, ht⟩ := H e he
  rw [ht]; rfl
theorem IntK.put {ents : List (AV × AV)} (H : IntK ents) {t : Int} {v : AV} : IntK (putK (.int .i64 t) v ents) := by
  unfold putK
  cases hasK (.int .i64 t) ents
  · intro e he
    rcases List.mem_cons.1 he with rfl | he
    · exact ⟨t, rfl⟩
    · exact H e he
  · intro e he
    obtain ⟨x, hx, rfl⟩ := List.mem_map.1 he
    obtain ⟨u, hu⟩ := H x hx
    refine ⟨u, ?_⟩
    cases AV.beq (.int .i64 t) x.1 <;> exact hu
theorem valK_cons {a : AV} {e : AV × AV} {ents : List (AV × AV)} : valK a (e :: ents) = bif AV.beq a e.1 then some e.2 else valK a ents := by
  simp only [valK, List.find?_cons]
  cases AV.beq a e.1 <;> rfl
theorem hasK_cons {a : AV} {e : AV × AV} {ents : List (AV × AV)} : hasK a (e :: ents) = (AV.beq a e.1 || hasK a ents) := rfl
theorem valK_put {t u : Int} {v : AV} : ∀ {ents : List (AV × AV)}, IntK ents → valK (.int .i64 u) (putK (.int .i64 t) v ents) = if u = t then some v else valK (.int .i64 u) ents := fun {ents} H => by
  have A : ∀ {l : List (AV × AV)}, IntK l → valK (.int .i64 u) (l.map fun e => bif AV.beq (.int .i64 t) e.1 then (e.1, v) else e) = if u = t ∧ hasK (.int .i64 t) l = true then some v else valK (.int .i64 u) l := by
    intro l
    induction l with
    | nil =>
      intro _
      rw [if_neg (by rintro ⟨_, h⟩; cases h)]; rfl
    | cons e l ih =>
      intro H
      have ih := ih fun x hx => H x (List.mem_cons_of_mem _ hx)
      obtain ⟨k, hk⟩ := H e (by simp)
      rw [List.map_cons, valK_cons, valK_cons, hasK_cons, ih, hk, beq_int]
      by_cases e1 : t = k
      · subst e1
        simp only [decide_true, cond_true, hk, beq_int, Bool.true_or, and_true]
        by_cases e2 : u = t
        · simp [e2]
        · simp [e2]
      · simp only [decide_eq_false e1, cond_false, hk, beq_int, Bool.false_or]
        by_cases e2 : u = k
        · subst e2
          have : ¬ (u = t ∧ hasK (.int .i64 t) l = true) := fun hh => e1 hh.1.symm
          simp [this]
        · simp [e2]
  unfold putK
  cases hh : hasK (.int .i64 t) ents
  · rw [cond_false, valK_cons, beq_int]
    by_cases e : u = t <;> simp [e]
  · rw [cond_true, A H]
    by_cases e : u = t <;> simp [e, hh]
theorem refs_put {n : Nat} {a v : AV} {ents : List (AV × AV)} (hv : refOK n v = true) (H : ∀ e ∈ ents, refOK n e.2 = true) : ∀ e ∈ putK a v ents, refOK n e.2 = true := by
  unfold putK
  cases hasK a ents
  · intro e he
    rcases List.mem_cons.1 he with rfl | he
    · exact hv
    · exact H e he
  · intro e he
    obtain ⟨x, hx, rfl⟩ := List.mem_map.1 he
    cases AV.beq a x.1
    · exact H x hx
    · exact hv
theorem refL_map {n : Nat} {ents : List (AV × AV)} : refL n (mapObj ents) = true ↔ ∀ e ∈ ents, refOK n e.2 = true := by
  have e : refL n (mapObj ents) = refsOK n (ents.map (·.2)) := by
    simp only [refL, mapObj, List.map_map]
    rw [show ((!Nat.beq 4 5) || Nat.blt 0 n) = true from rfl, Bool.and_true]
    rfl
  rw [e, refsOK_iff]
  constructor
  · exact fun hh x hx => hh _ (List.mem_map_of_mem hx)
  · intro hh a ha
    obtain ⟨x, hx, rfl⟩ := List.mem_map.1 ha
    exact hh x hx
/-- A map of one's own, over the heap of the beginning. -/
structure MI (h : Hp) (m : Nat) (ents : List (AV × AV)) (h1 : Hp) : Prop where
  blks : ∃ new, h1.blks = new ++ h.blks ∧ ∀ x ∈ new, h.next ≤ x.1
  mh : h.next ≤ m
  nx : m < h1.next
  ok : Hok h1
  lps : h1.loops = (m, mapObj ents) :: h.loops
theorem MI.grow {h h1 h2 : Hp} {m : Nat} {ents : List (AV × AV)} (M : MI h m ents h1) (g : Grown h1 h2) : MI h m ents h2 := by
  obtain ⟨N, eN, fN⟩ := M.blks
  obtain ⟨K, eK, fK⟩ := g.blks
  have := M.mh
  have := M.nx
  refine ⟨⟨K ++ N, by rw [eK, eN, List.append_assoc], fun x hx => ?_⟩, M.mh, Nat.lt_of_lt_of_le M.nx g.next, g.ok M.ok, by rw [g.loops, M.lps]⟩
  rcases List.mem_append.1 hx with hx | hx
  · have := fK x hx; omega
  · exact fN x hx
theorem MI.lk {h h1 : Hp} {m : Nat} {ents : List (AV × AV)} (M : MI h m ents h1) : lkL h1.loops m = some (mapObj ents) := by
  rw [M.lps]; exact lkL_top
theorem MI.ref {h h1 : Hp} {m : Nat} {ents : List (AV × AV)} (M : MI h m ents h1) : ∀ e ∈ ents, refOK h1.next e.2 = true := by
  have := M.ok.lps (x := (m, mapObj ents)) (by rw [M.lps]; simp)
  exact refL_map.1 this.2
theorem dropIts_old {n m : Nat} : ∀ {ls : List (Nat × LoopA)}, (∀ x ∈ ls, refL n x.2 = true) → n ≤ m → dropIts m ls = ls
  | [], _, _ => rfl
  | (j, b) :: r, H, hm => by
    have ih := dropIts_old (n := n) (m := m) (ls := r) (fun x hx => H x (List.mem_cons_of_mem _ hx)) hm
    have h1 := H (j, b) (by simp)
    have hd : dropF m b = b := by
      unfold dropF
      cases hc : (Nat.beq b.st 5 && Nat.beq b.n m)
      · rfl
      · rw [Bool.and_eq_true] at hc
        simp only [refL, Bool.and_eq_true, Bool.or_eq_true, Bool.not_eq_true', hc.1] at h1
        have e1 := Nat.eq_of_beq_eq_true hc.2
        rcases h1.2 with h2 | h2
        · cases h2
        · rw [Nat.blt_eq] at h2; omega
    simp only [dropIts, hd, ih]
theorem MI.mup {h h1 : Hp} {m : Nat} {ents : List (AV × AV)} {t : Int} {v : AV} (hk : Hok h) (M : MI h m ents h1) (hi : IntK ents) :
    aMup (.int .i64) h1 (.int .i64 t) v (.mp m) = some (.any, { h1 with loops := (m, mapObj (putK (.int .i64 t) v ents)) :: h.loops }) := by
  have hd : dropIts m h1.loops = h1.loops := by
    rw [M.lps]
    have e1 : dropF m (mapObj ents) = mapObj ents := rfl
    simp only [dropIts, e1]
    rw [dropIts_old (fun x hx => (hk.lps hx).2) M.mh]
  have hs : ∀ e, setL h1.loops m e = (m, e) :: h.loops := fun e => by rw [M.lps, setL_top]
  have hg : getM h1 m = some ents := getM_of M.lk
  simp only [aMup, hg, hi.fit, hd, hs]
  have hf : keyFit (.int .i64) (.int .i64 t) = true := rfl
  simp only [hf, Bool.and_self, cond_true]
  cases hasK (.int .i64 t) ents <;> simp only [cond_true, cond_false, hs]
theorem MI.lkp {h h1 : Hp} {m : Nat} {ents : List (AV × AV)} {t : Int} {z : AV} (M : MI h m ents h1) (hi : IntK ents) :
    aLkp (.int .i64) z false h1 (.int .i64 t) (.mp m) = some ((valK (.int .i64 t) ents).getD z, h1) := mLkp M.lk rfl hi.fit
theorem MI.put {h h1 : Hp} {m : Nat} {ents : List (AV × AV)} {a v : AV} (hk : Hok h) (M : MI h m ents h1) (hv : refOK h1.next v = true) :
    MI h m (putK a v ents) { h1 with loops := (m, mapObj (putK a v ents)) :: h.loops } := by
  refine ⟨M.blks, M.mh, M.nx, ?_, rfl⟩
  have h0 : h.next ≤ h1.next := by have := M.mh; have := M.nx; omega
  refine HokR.mk' (fun x hx => M.ok.blk hx) fun x hx => ?_
  rcases List.mem_cons.1 hx with rfl | hx
  · exact ⟨M.nx, refL_map.2 (refs_put hv M.ref)⟩
  · exact (HokR.up hk h0).lps hx
theorem MI.new {h h1 : Hp} (hk : Hok h) (g : Grown h h1) : MI h h1.next [] { h1 with next := h1.next + 1, loops := (h1.next, mapObj []) :: h1.loops } := by
  refine ⟨g.blks, g.next, Nat.lt_succ_self _, ?_, by rw [← g.loops]⟩
  have k1 := g.ok hk
  refine HokR.mk' (fun x hx => (HokR.up k1 (Nat.le_succ _)).blk hx) fun x hx => ?_
  rcases List.mem_cons.1 hx with rfl | hx
  · exact ⟨Nat.lt_succ_self _, refL_map.2 (by simp)⟩
  · exact (HokR.up k1 (Nat.le_succ _)).lps hx
theorem leave_map {h h1 : Hp} {m : Nat} {ents : List (AV × AV)} {v : AV} (hk : Hok h) (M : MI h m ents h1) (hr : refOK h.next v = true) : leave false h v h1 = h := by
  obtain ⟨N, eN, fN⟩ := M.blks
  have hd : h1.blks.drop (h1.blks.length - h.blks.length) = h.blks := by rw [eN, List.length_append, Nat.add_sub_cancel, List.drop_left]
  have e : lowL h.next h.loops = h.loops := lowL_same fun x hx => HokR.lps hk hx
  have e2 : lowL h.next h1.loops = h.loops := by
    rw [M.lps]
    have : Nat.blt m h.next = false := by
      cases hb : Nat.blt m h.next
      · rfl
      · rw [Nat.blt_eq] at hb; have := M.mh; omega
    simp only [lowL, this, cond_false, e]
  have hs : selfOK h.next h.blks h.loops = true := hk
  simp only [leave, cond_false, hd, e2, hr, hs, Bool.and_self, cond_true]
section
variable {P : Program} {T : Tab}
/-- A call that makes a map and whose result names nothing new. -/
theorem evals_pureM {f : Nat} {sf : SFun} (hc : compF P f = some sf) {args : List AV} {h : Hp} {v : AV} (hlen : Nat.ble args.length sf.nt = true) (hk : Hok h)
    (H : wp (Evals P T false) sf.body { fr := initS sf.slots args, hp := { next := h.next, blks := h.blks, loops := h.loops, base := h.next, esc := false } } fun e s => (match e with | .exit _ => False | _ => True) ∧ ∃ vs, sresVs s.fr s.hp sf.res = some vs ∧ resOf vs = v ∧ ∃ m ents, MI h m ents s.hp)
    (hr : refOK h.next v = true := by rfl) (hT : T f args h = none := by rfl) : Evals P T false (.func f) args h (v, h) := by
  obtain ⟨v', h', e, rfl, rfl⟩ := evals_func (Q := fun v' h' => v' = v ∧ h' = h) hc hlen (wp_mono (fun e s Hs => by
    obtain ⟨h1, vs, h2, h3, m, ents, M⟩ := Hs
    refine ⟨h1, vs, h2, h3, ?_⟩
    rw [h3]
    exact leave_map hk M hr) H) hT
  exact e
end
end Go.Abs
