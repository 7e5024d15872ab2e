/- From a call's contract to a law's statement: the parts that all laws share; arguments as abstract values. -/
import Derived.Test.YtbomimhfldmlbaaDoorU
import Derived.ChangeSame
import Derived.Carry
import Derived.ProofKit
import Derived.OpenShut
set_option linter.unusedSimpArgs false
set_option linter.unusedVariables false
namespace Go.Abs
open Go Go.RowKit Go.WideShapes Go.ChangeShapes

section
variable {H : Type} {enc : TypeId × Value → H} {P : Program}

/-- As the guide's 'post_of_below'. -/
theorem post_below {f : Func} {s : ChangeSpec} {apart fresh handsOn again : Bool} {W W' : World} {args : Array Value} {v : Value} {ds gs : List (DataW H)} {before pa pv : List MemPlace}
    (hW : DataW.Whole enc P f.params.toList s.vars apart W args.toList ds gs before)
    (hres : ∀ (b : Nat) (sp : Nat → Bool) (hd : Bool), DataW.TrodAll enc P W' b sp hd f.resultTypes.toList (v.resultList f.resultTypes.size) (s.fn H (ds ++ gs)).results [])
    (hargs : ∀ sp : Nat → Bool, (∀ p ∈ before, sp p.block = true) → DataW.TrodAll enc P W' 0 sp true f.params.toList args.toList (s.fn H (ds ++ gs)).args pa)
    (hvars : ∀ sp : Nat → Bool, (∀ p ∈ before, sp p.block = true) → DataW.TrodVars enc P W' sp s.vars (s.fn H (ds ++ gs)).vars pv)
    (hps : before = pa ++ pv) (hb : Below W.heap.size W W')
    (hok : ∀ (j : Nat) (t : TypeId) (r : Value), f.resultTypes[j]? = some t → (v.resultList f.resultTypes.size)[j]? = some r → Value.okWide P W' .any 0 t r) :
    s.post enc P f apart fresh handsOn again W args v W' := by
  have hlt : ∀ p ∈ before, p.block < W.heap.size := fun p hp => hW.lt p hp
  have hold : ∀ p ∈ before, (fun b => decide (b < W.heap.size)) p.block = true := fun p hp => by simpa using hlt p hp
  refine ⟨ds, gs, before, [], pa, pv, hW, hres _ _ _, hargs _ hold, hvars _ hold, World.keptBut_mono (fun p hp => ⟨hp, ?_⟩) (hb.frame (· ∈ before)), fun _ => ?_⟩
  · rw [hps, List.mem_append] at hp
    exact Or.inr hp
  · obtain ⟨_, _, _, _, _, hz, hn⟩ := hW
    refine ⟨hok, _, _, ([] ++ pa) ++ pv, ⟨[] ++ pa, pv, trodAll_append (hargs _ (fun _ _ => rfl)) (hres _ _ _), hvars _ (fun _ _ => rfl), rfl, ?_, ?_⟩, ?_⟩
    · intro b off hp
      have hin : MemPlace.cell b off ∈ before := by rw [hps]; simpa using hp
      rw [hb.frozen (hlt _ hin)]
      exact hz b off hin
    · intro ha
      have := hn ha
      rw [hps] at this
      simpa using this
    · intro p hp _
      rw [hps]
      simpa using hp

/-- The arguments read as they did. -/
theorem trodAll_stays (hl : laidOutB P = true) {W W' : World} {sp : Nat → Bool} (hb : Below W.heap.size W W') : ∀ {ts : List TypeId} {vs : List Value} {ds : List (DataW H)} {ps : List MemPlace},
    (∀ t ∈ ts, P.readableRec t = true ∧ t < P.types.size) → DataW.TrodAll enc P W 0 (fun _ => true) true ts vs ds ps → (∀ p ∈ ps, p.block < W.heap.size) → (∀ p ∈ ps, sp p.block = true) →
    DataW.TrodAll enc P W' 0 sp true ts vs ds ps
  | [], [], [], _, _, h, _, _ => h
  | t :: ts, v :: vs, d :: ds, ps, ht, ⟨p, q, h1, h2, e⟩, hlt, hs => by
    obtain ⟨r1, r2⟩ := ht t (by simp)
    exact ⟨p, q, WideElems.Trod_stays hl r1 r2 h1 (fun x hx => hb.same (hlt x (by rw [e]; exact List.mem_append_left _ hx))) (fun x hx => hs x (by rw [e]; exact List.mem_append_left _ hx)),
      trodAll_stays hl hb (fun t ht' => ht t (by simp [ht'])) h2 (fun x hx => hlt x (by rw [e]; exact List.mem_append_right _ hx)) (fun x hx => hs x (by rw [e]; exact List.mem_append_right _ hx)), e⟩

/-- A law's last step: it has returned true and left all that was there as it was. -/
theorem law_post {f : Func} {s : ChangeSpec} {apart fresh handsOn again : Bool} {W W' : World} {args : Array Value} {ds gs : List (DataW H)} {before : List MemPlace} {tb : TypeId}
    (hW : DataW.Whole enc P f.params.toList s.vars apart W args.toList ds gs before) (hv : s.vars = []) (hs : s.fn H (ds ++ gs) = { results := [.lit (.bool true)], args := ds }) (hr : f.resultTypes = #[tb]) (htb : P.underlying tb = some .bool)
    (hl : laidOutB P = true) (ht : ∀ t ∈ f.params.toList, P.readableRec t = true ∧ t < P.types.size) (hb : Below W.heap.size W W') : s.post enc P f apart fresh handsOn again W args (.bool true) W' := by
  have hlt : ∀ p ∈ before, p.block < W.heap.size := fun p hp => hW.lt p hp
  obtain ⟨p, q, hA, hV, he, _, _⟩ := id hW
  rw [hv] at hV
  obtain ⟨rfl, rfl⟩ := trodVars_none hV
  refine post_below (pa := p) (pv := []) hW (fun b sp hd => ?_) (fun sp hsp => ?_) (fun sp _ => ?_) (by simpa using he) hb (ok_one hr rfl (okWide_bool_mk htb _))
  · rw [hs, hr]
    exact trodAll_cons_mk (shut_bool htb _) trodAll_mk0
  · rw [hs]
    refine trodAll_stays hl hb ht hA (fun x hx => hlt x (by rw [he]; simpa using hx)) (fun x hx => hsp x (by rw [he]; simpa using hx))
  · rw [hs, hv]
    exact rfl

/-! ### Arguments as abstract values -/
theorem HR.empty (w : World) : HR (fun _ => none) (below w.heap.size) ⟨0, [], [], 0, false⟩ w :=
  ⟨fun _ _ => rfl, List.Pairwise.nil, fun x hx => by simp at hx, fun i b h => by simp [lkB] at h, fun i j b d c c' _ h => by simp [lkB] at h, LPS.empty⟩

/-- A slice of ints that came in, as a block that is only read. -/
def ints (k : IntKind) (zs : List Int) : List AV := zs.map (.int k)

theorem HR.slice {σ : Env} {base : Prot} {h : Hp} {w : World} (H : HR σ base h w) {a : Addr} {len cap : Nat} {k : IntKind} {zs : List Int} (hlen : len ≤ cap) (hz : zs.length = cap) (h0 : 0 < cap)
    (hcell : ∀ i, i < zs.length → w.cell? (a.add i) = some (.int k (zs.getD i 0))) (hb : ∀ j b, lkB h.blks j = some b → b.wr = false) (hra : ∀ k, base.ro k) :
    ∃ c, HR (upd σ h.next c) base { h with next := h.next + 1, blks := (h.next, { cells := ints k zs, ch := h.next, wr := false }) :: h.blks } w ∧ Ext σ (upd σ h.next c) ∧
      R (upd σ h.next c) (.sl h.next 0 len (some cap) 1) (.slice (some a) len cap) := by
  obtain ⟨b, o, sp⟩ := a
  have hsp : sp = none := by
    have := World.cell?_spot (hcell 0 (by omega))
    simpa [Addr.add] using this
  subst hsp
  have cell0 := hcell 0 (by omega)
  rw [add_none] at cell0
  -- the block
  obtain ⟨cs, e, fz, hg⟩ : ∃ cs e fz, w.heap[b]? = some (.cells cs e fz) := by
    simp only [World.cell?] at cell0
    split at cell0
    · rename_i cs e fz hg
      exact ⟨cs, e, _, hg⟩
    · cases cell0
  have cells : ∀ i, i < zs.length → cs[o + i]? = some (.int k (zs.getD i 0)) := fun i hi => by
    have := hcell i hi
    rw [add_none] at this
    simpa [World.cell?, hg] using this
  have hsz : o + zs.length ≤ cs.size := by
    have := cells (zs.length - 1) (by omega)
    have := (Array.getElem?_eq_some_iff.1 this).1
    omega
  have hx : Ext σ (upd σ h.next ⟨b, o, cs.size - o⟩) := .upd _ (H.dom _ (Nat.le_refl _))
  refine ⟨⟨b, o, cs.size - o⟩, ⟨fun i hi => ?_, ?_, ?_, fun i d hd => ?_, fun i j d d' c c' hij hd hd' hc hc' hbk hw => ?_, H.lps.step hx (fun _ _ _ _ _ _ h _ _ _ => h) (fun _ _ h => h)⟩, hx, ?_⟩
  · have hi' : h.next + 1 ≤ i := hi
    rw [upd_other _ _ _ _ (by omega)]; exact H.dom i (by omega)
  · simp only [Srt, List.pairwise_cons]
    exact ⟨fun x hx => (H.chn x hx).2, H.srt⟩
  · intro x hx
    simp only [List.mem_cons] at hx
    rcases hx with rfl | hx
    · exact ⟨Nat.le_refl _, Nat.lt_succ_self _⟩
    · have := H.chn x hx; exact ⟨this.1, Nat.lt_succ_of_lt this.2⟩
  · by_cases hi : h.next = i
    · subst hi
      simp only [lkB, Nat.beq_refl, cond_true, Option.some.injEq] at hd
      subst hd
      refine ⟨_, cs, e, fz, upd_same _ _ _, hg, by simp only; omega, by simp [ints]; omega, fun j x hj => ?_, ⟨fun hw => (by cases hw), fun _ => .inl (hra _)⟩⟩
      simp only [ints, List.getElem?_map, Option.map_eq_some_iff] at hj
      obtain ⟨z, hz', rfl⟩ := hj
      have hjl : j < zs.length := (List.getElem?_eq_some_iff.1 hz').1
      refine ⟨_, cells j hjl, ?_⟩
      simp only [R]
      rw [List.getD_eq_getElem?_getD, hz']
      rfl
    · simp only [lkB, nb hi, cond_false] at hd
      obtain ⟨c', cs', e', fz', b1, b2, b3, b4, b5, b6⟩ := H.cel i d hd
      refine ⟨c', cs', e', fz', hx _ _ b1, b2, b3, b4, fun j a ha => ?_, b6⟩
      obtain ⟨v, h1, h2⟩ := b5 j a ha
      exact ⟨v, h1, h2.ext hx⟩
  · by_cases hi : h.next = i
    · subst hi
      simp only [lkB, Nat.beq_refl, cond_true, Option.some.injEq] at hd
      subst hd
      cases hw
    · simp only [lkB, nb hi, cond_false] at hd
      rw [hb i d hd] at hw
      cases hw
  · simp only [R]
    exact ⟨_, cap, upd_same _ _ _, by simp, hlen, rfl⟩

end
end Go.Abs
