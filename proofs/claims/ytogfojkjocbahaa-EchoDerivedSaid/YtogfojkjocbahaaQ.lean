/- Regions whose order is drawn (4): the whole region. -/
import Derived.Test.YtogfojkjocbahaaP
namespace Go.Abs
open Go Go.RowKit

section
variable {P : Program} {call : CallF} {n : Nat} {ops : Array Oper} {fr : Fr} {rs : List Rec} {tm' : Fr} {h' h0 : Hp} {cl : List Nat} {base : Nat} {σ0 : Env} {w0 : World} {df : List Deferred}

theorem Inv.congr {L L' : Nat → Bool} {σ : Env} {a : Act} {w : World} (hL : ∀ d, d < ops.size → L d = L' d) (hcl : ∀ i, i < ops.size → ∀ j, Nat.testBit (cl.getD i 0) j = true → j < ops.size) (hlen : rs.length = ops.size)
    (I : Inv base σ0 n ops cl fr rs h' w0 df L σ a w) : Inv base σ0 n ops cl fr rs h' w0 df L' σ a w := by
  have lt : ∀ d (r : Rec), rs[d]? = some r → d < ops.size := fun d r h => by
    rw [← hlen]
    exact (List.getElem?_eq_some_iff.1 h).1
  refine ⟨fun i hi hLi j hj => ?_, I.size, fun t v hv => I.val t v ?_, ?_, I.ext, I.fw, I.dfs⟩
  · rw [← hL j (hcl i hi j hj)]
    exact I.clo i hi (by rw [hL i hi]; exact hLi) j hj
  · rcases hv with ⟨d, r, h1, h2, h3, h4⟩ | ⟨h1, h2⟩
    · exact .inl ⟨d, r, h1, by rw [hL d (lt d r h1)]; exact h2, h3, h4⟩
    · exact .inr ⟨fun d r g1 g2 => by rw [hL d (lt d r g1)]; exact h1 d r g1 g2, h2⟩
  · obtain ⟨j, hj, h1, h2⟩ := I.stage
    exact ⟨j, hj, fun d r hd he => by rw [← hL d (lt d r hd)]; exact h1 d r hd he, h2⟩

theorem ready_of {listed : Array Bool} {i : Nat} (h : i ∈ Region.ready .any ops listed) : i < ops.size ∧ listed.getD i true = false ∧ ∀ o, ops[i]? = some o → ∀ e ∈ o.after.toList, Region.binds .any e = true → listed.getD e.on false = true := by
  unfold Region.ready at h
  rw [List.mem_filter, List.mem_range] at h
  obtain ⟨h1, h2⟩ := h
  simp only [Bool.and_eq_true, Bool.not_eq_true'] at h2
  refine ⟨h1, h2.1, fun o ho e he hb => ?_⟩
  have h3 := h2.2
  simp only [ho, Option.map_some, Option.getD_some, Array.all_eq_true', Bool.or_eq_true, Bool.not_eq_true'] at h3
  rcases h3 e (by simpa using he) with h | h
  · rw [hb] at h; cases h
  · exact h

theorem all_listed (O : Ord ops cl) {listed : Array Bool} (hs : listed.size = ops.size) (hr : Region.ready .any ops listed = []) : ∀ i, i < ops.size → listed.getD i false = true := by
  intro i
  induction i using Nat.strongRecOn with
  | _ i ih =>
    intro hi
    cases hl : listed.getD i false
    · exfalso
      have : i ∈ Region.ready .any ops listed := by
        unfold Region.ready
        rw [List.mem_filter, List.mem_range]
        refine ⟨hi, ?_⟩
        have h1 : listed.getD i true = false := by
          rw [Array.getD_eq_getD_getElem?] at hl ⊢
          rw [Array.getElem?_eq_getElem (by omega)] at hl ⊢
          simpa using hl
        simp only [h1, Bool.not_false, Bool.true_and, Array.getElem?_eq_getElem hi, Option.map_some, Option.getD_some, Array.all_eq_true', Bool.or_eq_true, Bool.not_eq_true']
        intro e he
        cases hb : Region.binds .any e
        · exact .inl rfl
        · have := O.edge (Array.getElem?_eq_getElem hi) e (by simpa using he) hb
          exact .inr (ih e.on this (by omega))
      rw [hr] at this
      cases this
    · rfl

theorem draw_all (hcall : CallOK P call) (O : Ord ops cl) (T : Tr P call n ops fr h0 rs tm' h') (hro : (∀ (d : Nat) (r : Rec), rs[d]? = some r → isEff r.o = false) ∨ readsOK P call ops fr cl (effHeaps rs 0 ++ [(ops.size, h')]) rs 0 = true)
    (hb : base ≤ w0.heap.size) {r : Option Nat} {N : Nat} {Q : Exit → Act → World → Prop}
    (hQ : ∀ a' w' τ, a'.defers = df → Ext σ0 τ → HR τ base h' w' → FR τ n (look tm' fr) a'.tmps → Fw base w0 w' → Q .normal a' w') :
    ∀ (fuel : Nat) (listed : Array Bool) (σ : Env) (a : Act) (w : World), listed.size = ops.size → listed.toList.countP (!·) ≤ fuel →
      Inv base σ0 n ops cl fr rs h' w0 df (fun d => listed.getD d false) σ a w → wpAnyIn (Wd r) N P .any ops Q fuel listed a w := by
  have fin : ∀ (listed : Array Bool) (σ : Env) (a : Act) (w : World), (∀ i, i < ops.size → listed.getD i false = true) →
      Inv base σ0 n ops cl fr rs h' w0 df (fun d => listed.getD d false) σ a w → Q .normal a w := fun listed σ a w hall I => by
    have lt : ∀ d (r : Rec), rs[d]? = some r → d < ops.size := fun d r h => by
      rw [← T.len]
      exact (List.getElem?_eq_some_iff.1 h).1
    have hTM : TM rs tm' ops.size = tm' := by simp [TM, List.getElem?_eq_none (show rs.length ≤ ops.size by rw [T.len]; exact Nat.le_refl _)]
    have hHA : HA rs h' ops.size = h' := by simp [HA, List.getElem?_eq_none (show rs.length ≤ ops.size by rw [T.len]; exact Nat.le_refl _)]
    obtain ⟨j, hj, hst, hH⟩ := I.stage
    have e : HA rs h' ops.size = HA rs h' j := T.calm' hj (Nat.le_refl _) fun d rd g1 g2 hd => by
      cases he : isEff rd.o
      · rfl
      · have := (hst d rd hd he).1 (hall d g2)
        omega
    rw [hHA] at e
    rw [← e] at hH
    refine hQ a w σ I.dfs I.ext hH ⟨I.size, fun t => I.val t _ ?_⟩ I.fw
    have := T.text t ops.size (Nat.le_refl _)
    rw [hTM] at this
    rcases this with ⟨d, rd, h1, h2, h3, h4⟩ | ⟨h1, h2⟩
    · exact .inl ⟨d, rd, h2, hall d h1, h3, h4⟩
    · exact .inr ⟨fun d rd g1 g2 => absurd g2 (h1 d rd (lt d rd g1) g1), h2⟩
  have hcl : ∀ i, i < ops.size → ∀ j, Nat.testBit (cl.getD i 0) j = true → j < ops.size := fun i hi j hj => by
    have := O.lt i (Array.getElem?_eq_getElem hi) hj
    omega
  intro fuel
  induction fuel with
  | zero =>
    intro listed σ a w hs hc I
    have hall : ∀ i, i < ops.size → listed.getD i false = true := fun i hi => by
      have h1 : listed.toList.countP (!·) = 0 := by omega
      rw [List.countP_eq_zero] at h1
      have hlt : i < listed.size := by omega
      have := h1 listed[i] (by simp)
      rw [Array.getD_eq_getD_getElem?, Array.getElem?_eq_getElem hlt]
      simpa using this
    have hrd : Region.ready .any ops listed = [] := by
      cases hr : Region.ready .any ops listed with
      | nil => rfl
      | cons i l =>
        obtain ⟨h1, h2, _⟩ := ready_of (ops := ops) (listed := listed) (i := i) (by rw [hr]; simp)
        have := hall i h1
        rw [Array.getD_eq_getD_getElem?, Array.getElem?_eq_getElem (by omega)] at this h2
        simp at this h2
        rw [this] at h2
        cases h2
    exact ⟨hrd, fin listed σ a w hall I⟩
  | succ fuel ih =>
    intro listed σ a w hs hc I
    refine ⟨fun hr => fin listed σ a w (all_listed O hs hr) I, fun i hi => ?_⟩
    obtain ⟨h1, h2, h3⟩ := ready_of hi
    have hLi : listed.getD i false = false := by
      rw [Array.getD_eq_getD_getElem?, Array.getElem?_eq_getElem (by omega)] at h2 ⊢
      simpa using h2
    refine draw_step hcall O T hro hb I h1 hLi (fun o ho e he hbd => h3 o ho e he hbd) fun τ a' w' I' => ?_
    refine ih _ τ a' w' (by simp [hs]) ?_ (I'.congr (fun d hd => ?_) hcl T.len)
    · have hlt : i < listed.toList.length := by simp; omega
      rw [Array.toList_setIfInBounds, List.countP_set hlt]
      have : (!listed.toList[i]) = true := by
        rw [Array.getD_eq_getD_getElem?, Array.getElem?_eq_getElem (by omega)] at h2
        simpa using h2
      simp only [this, if_true, Bool.not_true, Bool.false_eq_true, if_false]
      omega
    · simp only [Array.getD_eq_getD_getElem?, Array.getElem?_setIfInBounds]
      by_cases hdi : i = d
      · subst hdi
        simp [show i < listed.size by omega]
      · have : (d == i) = false := by simp; omega
        simp [hdi, this]

theorem effHeaps_empty : ∀ (l : List Rec) (i : Nat), (effHeaps l i).isEmpty = true → ∀ (d : Nat) (r : Rec), l[d]? = some r → isEff r.o = false
  | [], i, _, d, r, h => by simp at h
  | x :: l, i, he, d, r, h => by
    cases hx : isEff x.o
    · simp only [effHeaps, hx, cond_false] at he
      cases d with
      | zero => simp at h; subst h; exact hx
      | succ d => simp at h; exact effHeaps_empty l (i + 1) he d r h
    · simp [effHeaps, hx] at he

/-- **A region whose order is drawn.** -/
theorem runDraw_sound (hcall : CallOK P call) (hm : P.follows .mixedOrders = true) {σ : Env} {w : World} {a : Act} {h : Hp} {tm : Fr} {h1 : Hp} (hs : runDraw P call n ops fr h = some (tm, h1)) (H : HR σ base h w) (hb : base ≤ w.heap.size)
    (hf : FR σ n (lkF fr) a.tmps) {r : Option Nat} {N id : Nat} {Q : Exit → Act → World → Prop}
    (hQ : ∀ a' w' τ, a'.defers = a.defers → Ext σ τ → HR τ base h1 w' → FR τ n (look tm fr) a'.tmps → Fw base w w' → Q .normal a' w') : (Code.region id ops true).wpIn (Wd r) N P Q a w := by
  unfold runDraw at hs
  split at hs
  · rename_i rs tm2 h2 ht
    cases hc : (orderOK ops (clos ops.toList []) && ((effHeaps rs 0).isEmpty || readsOK P call ops fr (clos ops.toList []) (effHeaps rs 0 ++ [(ops.size, h2)]) rs 0))
    · simp only [hc, cond_false] at hs
      cases hs
    · simp only [hc, cond_true, Option.some.injEq, Prod.mk.injEq] at hs
      obtain ⟨rfl, rfl⟩ := hs
      simp only [Bool.and_eq_true, Bool.or_eq_true] at hc
      have O := orderOK_spec hc.1
      have T := Tr.mk' ht
      refine wpIn_region_any hm ?_
      have hro := hc.2.imp (effHeaps_empty rs 0) fun h => h
      refine draw_all hcall O T hro (w0 := w.drew) hb (fun a' w' τ q1 q2 q3 q4 q5 => hQ a' w' τ q1 q2 q3 q4 ((Fw.drew _ _).trans q5)) ops.size _ σ a w.drew (by simp) ?_ ?_
      · refine Nat.le_trans (List.countP_le_length) (by simp)
      · have hfalse : ∀ d, (Array.replicate ops.size false).getD d false = false := fun d => by
          rw [Array.getD_eq_getD_getElem?, Array.getElem?_replicate]
          split <;> rfl
        refine ⟨fun i _ hL => (by rw [hfalse] at hL; cases hL), hf.1, fun t v hv => ?_, ⟨0, Nat.zero_le _, fun d r _ _ => by rw [hfalse]; simp, by rw [T.ha0]; exact H.drew⟩, .refl _, .refl _ _, rfl⟩
        rcases hv with ⟨d, rd, h1, h2, h3, h4⟩ | ⟨_, rfl⟩
        · have h2' := h2
          simp only [hfalse] at h2'
          cases h2'
        · exact hf.2 t
  · cases hs

end
end Go.Abs
