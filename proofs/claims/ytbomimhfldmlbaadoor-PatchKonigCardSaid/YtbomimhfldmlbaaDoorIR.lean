/- A map is written: an entry more, another value, an entry less; an iterator's step. -/
import Derived.Test.YtbomimhfldmlbaaDoorIQ
set_option linter.unusedSimpArgs false
set_option linter.unusedVariables false
namespace Go.Abs
open Go Go.RowKit

section
variable {P : Program} {base : Prot} {σ : Env} {w : World} {h : Hp}

theorem putF_fst {a v : AV} {e : AV × AV} : (putF a v e).1 = e.1 := by
  unfold putF
  cases AV.beq a e.1 <;> rfl

theorem map_putF_fst {a v : AV} {l : List (AV × AV)} : (l.map (putF a v)).map (·.1) = l.map (·.1) := by
  rw [List.map_map]
  exact List.map_congr_left fun e _ => putF_fst

theorem putK_hit {a v : AV} {ents : List (AV × AV)} (h : hasK a ents = true) : putK a v ents = ents.map (putF a v) := by
  unfold putK
  rw [h]
  rfl

theorem putK_miss {a v : AV} {ents : List (AV × AV)} (h : hasK a ents = false) : putK a v ents = (a, v) :: ents := by
  unfold putK
  rw [h]
  rfl

theorem mem_modify {es : List MapEntry} {f : MapEntry → MapEntry} : ∀ {j : Nat} {x : MapEntry}, x ∈ es.modify j f → x ∈ es ∨ ∃ e, es[j]? = some e ∧ x = f e := by
  induction es with
  | nil => intro j x h; cases j <;> simp at h
  | cons y r ih =>
    intro j x h
    cases j with
    | zero =>
      rw [List.modify_zero_cons] at h
      rcases List.mem_cons.1 h with rfl | h
      · exact .inr ⟨y, rfl, rfl⟩
      · exact .inl (by simp [h])
    | succ j =>
      rw [List.modify_succ_cons] at h
      rcases List.mem_cons.1 h with rfl | h
      · exact .inl (by simp)
      · rcases ih h with h | ⟨e, h1, h2⟩
        · exact .inl (by simp [h])
        · exact .inr ⟨e, by simpa using h1, h2⟩

theorem map_modify_same {es : List MapEntry} {f : MapEntry → MapEntry} (hf : ∀ e, (f e).born = e.born) : ∀ {j : Nat}, (es.modify j f).map (·.born) = es.map (·.born) := by
  induction es with
  | nil => intro j; cases j <;> simp
  | cons y r ih =>
    intro j
    cases j with
    | zero => simp [List.modify_zero_cons, hf]
    | succ j => simp [List.modify_succ_cons, ih]

theorem MapR.put {ents l : List (AV × AV)} {es : Array MapEntry} {clock j : Nat} {a v : AV} {k u x : Value} {e : MapEntry} (M : MapR σ ents es clock) (hk : R σ a k) (hv : R σ v u) (hh : hasK a ents = true) (he : es[j]? = some e)
    (hp : l.Perm ents) (hE : EntsR σ l es.toList) (hf : fIx a l es.toList 0 = some (0 + j, x)) :
    MapR σ (putK a v ents) (es.modify j fun e => { e with key := k, val := u }) clock := by
  rw [putK_hit hh]
  have hn : (l.map (·.1)).Nodup := (hp.map _).nodup_iff.2 M.nodup
  refine ⟨fun y hy => ?_, by rw [map_putF_fst]; exact M.nodup, ?_, fun y hy => ?_, l.map (putF a v), hp.map _, ?_⟩
  · obtain ⟨z, hz, rfl⟩ := List.mem_map.1 hy
    rw [putF_fst]
    exact M.keys z hz
  · rw [Array.toList_modify]
    have := map_modify_same (es := es.toList) (f := fun e => { e with key := k, val := u }) (fun _ => rfl) (j := j)
    rw [this]
    exact M.born
  · rw [Array.toList_modify] at hy
    rcases mem_modify hy with hy | ⟨z, hz, rfl⟩
    · exact M.old y hy
    · exact M.old z (List.mem_of_getElem? hz)
  · rw [Array.toList_modify]
    exact EntsR.put hk hv hE hn hf

theorem MapR.new {ents : List (AV × AV)} {es : Array MapEntry} {clock : Nat} {a v : AV} {k u : Value} (M : MapR σ ents es clock) (hpl : plainKey a = true) (hk : R σ a k) (hv : R σ v u) (hh : hasK a ents = false) :
    MapR σ (putK a v ents) (es.push { key := k, val := u, born := clock }) (clock + 1) := by
  rw [putK_miss hh]
  obtain ⟨l, hp, hE⟩ := M.ents
  refine ⟨fun y hy => ?_, ?_, ?_, fun y hy => ?_, l ++ [(a, v)], ?_, ?_⟩
  · rcases List.mem_cons.1 hy with rfl | hy
    · exact hpl
    · exact M.keys y hy
  · rw [List.map_cons, List.nodup_cons]
    refine ⟨fun hm => ?_, M.nodup⟩
    rw [(hasK_iff hpl).2 hm] at hh
    cases hh
  · rw [Array.toList_push, List.map_append, List.nodup_append]
    refine ⟨M.born, by simp, fun x hx y hy => ?_⟩
    obtain ⟨e, he, rfl⟩ := List.mem_map.1 hx
    simp only [List.map_cons, List.map_nil, List.mem_singleton] at hy
    have := M.old e he
    omega
  · rw [Array.toList_push] at hy
    rcases List.mem_append.1 hy with hy | hy
    · have := M.old y hy; omega
    · rw [List.mem_singleton.1 hy]; exact Nat.lt_succ_self _
  · exact (List.perm_append_comm).trans (hp.cons _)
  · rw [Array.toList_push]
    exact hE.app ⟨hk, hv, trivial⟩

theorem eraseIdx_toList {es : Array MapEntry} {j : Nat} : (es.eraseIdxIfInBounds j).toList = es.toList.eraseIdx j := by
  unfold Array.eraseIdxIfInBounds
  split
  · simp
  · rename_i h
    rw [List.eraseIdx_of_length_le (by simpa using h)]

theorem MapR.del {ents l : List (AV × AV)} {es : Array MapEntry} {clock j : Nat} {a : AV} {x : Value} (M : MapR σ ents es clock)
    (hp : l.Perm ents) (hE : EntsR σ l es.toList) (hf : fIx a l es.toList 0 = some (0 + j, x)) :
    MapR σ (delK a ents) (es.eraseIdxIfInBounds j) clock := by
  have hn : (l.map (·.1)).Nodup := (hp.map _).nodup_iff.2 M.nodup
  refine ⟨fun y hy => M.keys y (List.mem_filter.1 hy).1, ?_, ?_, fun y hy => ?_, l.filter fun e => !AV.beq a e.1, hp.filter _, ?_⟩
  · exact M.nodup.sublist (List.Sublist.map _ List.filter_sublist)
  · rw [eraseIdx_toList]
    exact M.born.sublist (List.Sublist.map _ (List.eraseIdx_sublist ..))
  · rw [eraseIdx_toList] at hy
    exact M.old y (List.mem_of_mem_eraseIdx hy)
  · rw [eraseIdx_toList]
    exact EntsR.del hE hn hf

/-- The same keys, the same stamps: an iterator goes on. -/
theorem ItR.same {ents ents' : List (AV × AV)} {seen : List AV} {since last clock : Nat} {sn : Array Nat} {es es' : Array MapEntry} (I : ItR σ ents seen since sn last es clock)
    (h1 : ∀ e ∈ es'.toList, ∃ e0 ∈ es.toList, e.born = e0.born ∧ e.key = e0.key) (h2 : ∀ a ∈ ents', ∃ a0 ∈ ents, a.1 = a0.1) : ItR σ ents' seen since sn last es' clock :=
  ⟨I.esince, I.elast, fun e he a ha hr => by
    obtain ⟨e0, q1, q2, q3⟩ := h1 e he
    obtain ⟨a0, r1, r2⟩ := h2 a ha
    rw [q2, r2]
    exact I.sees e0 q1 a0 r1 (by rw [← q3, ← r2]; exact hr),
   fun x r hs => by
    obtain ⟨s, s1, s2⟩ := I.top x r hs
    refine ⟨s, s1, fun e he a ha hr => ?_⟩
    obtain ⟨e0, q1, q2, q3⟩ := h1 e he
    obtain ⟨a0, r1, r2⟩ := h2 a ha
    rw [q2, r2]
    exact s2 e0 q1 a0 r1 (by rw [← q3, ← r2]; exact hr)⟩

theorem LPS.st5 {ls : List (Nat × LoopA)} (L : LPS σ base ls w) {i : Nat} {r : LoopA} (h : lkL ls i = some r) (h5 : r.st = 5) : ∃ m seen, r = itObj m seen := by
  obtain ⟨c, o, a1, a2, a3, a4⟩ := L.lps i r h
  rcases a4 with ⟨h0, _⟩ | ⟨_, _, _, rfl, _⟩ | ⟨m, seen, _, _, _, _, rfl, _⟩ | ⟨rfl, _⟩
  · omega
  · simp [mapObj] at h5
  · exact ⟨m, seen, rfl⟩
  · simp [deadObj] at h5

theorem run_setObj' {c : Nat} {o0 : Obj} (o : Obj) (hg : w.heap[c]? = some o0) (hk : ∀ cs e fz, o0 ≠ .cells cs e fz) : (setObj c o).run P w = .ok () (World.setO w c o) := by
  simp only [setObj, Sem.run, hg]
  cases o0 <;> first | rfl | exact absurd rfl (hk _ _ _)

theorem lkL_set_cases {ls : List (Nat × LoopA)} {id j : Nat} {r r' : LoopA} (h : lkL (setL ls id r) j = some r') : (j ≠ id ∧ lkL ls j = some r') ∨ (j = id ∧ r' = r) := by
  rw [lkL_setL] at h
  split at h
  · rename_i e
    split at h
    · cases h; exact .inr ⟨e, rfl⟩
    · cases h
  · exact .inl ⟨‹_›, h⟩

theorem mapUpdate_sound (H : HR σ base h w) {t k e : TypeId} (hu : P.underlying t = some (.map k e)) {a v m x : AV} {h' : Hp} (hs : aMup (ktOf P k) h a v m = some (x, h')) {ua uv um : Value} (ha : R σ a ua) (hv : R σ v uv) (hm : R σ m um) :
    x = .any ∧ ∃ w', (Instr.mapUpdate t um ua uv).run P w = .ok () w' ∧ HR σ base h' w' ∧ Fw base w w' := by
  cases m <;> simp only [aMup] at hs <;> try (cases hs; done)
  rename_i id
  split at hs
  · rename_i ents hg
    cases hf : (keyFit (ktOf P k) a && ents.all fun e => keyFit (ktOf P k) e.1)
    · simp [hf] at hs
    · simp only [hf, cond_true, Option.some.injEq, Prod.mk.injEq] at hs
      obtain ⟨rfl, rfl⟩ := hs
      refine ⟨rfl, ?_⟩
      simp only [Bool.and_eq_true, List.all_eq_true] at hf
      obtain ⟨hl, c, es, clock, c1, c2, c3, M⟩ := H.lps.map hg
      rw [R_mp hm c1]
      have hc := checkKey_sound (P := P) hf.1 ha false w
      have hpl := keyFit_plain hf.1
      have hob : (getObj c.blk).run P w = .ok (.map es clock) w := by simp [getObj, Sem.run, c2]
      rcases M.find hf.1 ha hf.2 w with ⟨g1, g2, g3⟩ | ⟨j, e', v', l, g1, g2, g3, g4, g5, g6, g7, g8, g9, g10⟩
      · have M' := M.new hpl ha hv g1
        obtain ⟨H', F'⟩ := H.setObj hl c1 c2 (r := mapObj (putK a v ents)) (o := .map (es.push { key := ua, val := uv, born := clock }) (clock + 1)) (.inr (.inl ⟨_, _, _, rfl, rfl, M'⟩))
          (ls := setL (dropIts id h.loops) id (mapObj (putK a v ents))) (fun d e => by cases e) (fun x e => by cases e)
          (fun j r' hj => by
            rcases lkL_set_cases hj with ⟨h1, h2⟩ | h1
            · rw [lkL_dropIts, Option.map_eq_some_iff] at h2
              obtain ⟨b, hb, rfl⟩ := h2
              unfold dropF
              cases hbb : (Nat.beq b.st 5 && Nat.beq b.n id)
              · exact .inl ⟨h1, hb⟩
              · simp only [Bool.and_eq_true] at hbb
                obtain ⟨m, seen, rfl⟩ := H.lps.st5 hb (Nat.eq_of_beq_eq_true hbb.1)
                exact .inr (.inr ⟨h1, rfl, m, seen, hb⟩)
            · exact .inr (.inl h1))
          (fun i seen ents' ci e hne hi hci => by
            exfalso
            rcases lkL_set_cases hi with ⟨h1, h2⟩ | ⟨h1, _⟩
            · rw [lkL_dropIts, Option.map_eq_some_iff] at h2
              obtain ⟨b, hb, h3⟩ := h2
              unfold dropF at h3
              cases hbb : (Nat.beq b.st 5 && Nat.beq b.n id)
              · simp only [hbb, cond_false] at h3
                subst h3
                simp [itObj] at hbb
              · simp only [hbb, cond_true] at h3
                have := congrArg LoopA.st h3
                simp [itObj, deadObj] at this
            · exact hne h1)
          (fun m seen ents' cm e => absurd e map_ne_it)
        refine ⟨World.setO w c.blk (.map (es.push { key := ua, val := uv, born := clock }) (clock + 1)), ?_, ?_, F'⟩
        · unfold Instr.mapUpdate
          simp only [Sem.run_bind, run_underlying hu, Result.andThen_ok, hob, hc, g3, run_setObj' _ c2 (fun _ _ _ h => by cases h)]
        · rw [g1]
          exact H'
      · have M' := M.put ha hv g1 g5 g8 g9 g10
        obtain ⟨H', F'⟩ := H.setObj hl c1 c2 (r := mapObj (putK a v ents)) (o := .map (es.modify j fun e => { e with key := ua, val := uv }) clock) (.inr (.inl ⟨_, _, _, rfl, rfl, M'⟩))
          (ls := setL h.loops id (mapObj (putK a v ents))) (fun d e => by cases e) (fun x e => by cases e)
          (fun j r' hj => by
            rcases lkL_set_cases hj with h1 | h1
            · exact .inl h1
            · exact .inr (.inl h1))
          (fun i seen ents' ci e hne hi hci => by
            have he := mapObj_inj e
            subst he
            rcases lkL_set_cases hi with ⟨h1, h2⟩ | ⟨h1, _⟩
            · obtain ⟨since, sn, last, es0, clock0, q1, q2, q3⟩ := H.lps.its i id seen ents ci c h2 hl hci c1
              rw [c2] at q2
              cases q2
              refine ⟨since, sn, last, _, _, q1, rfl, q3.same (fun y hy => ?_) (fun y hy => ?_)⟩
              · rw [Array.toList_modify] at hy
                rcases mem_modify hy with hy | ⟨z, hz, rfl⟩
                · exact ⟨y, hy, rfl, rfl⟩
                · have hz' : es[j]? = some z := by simpa using hz
                  rw [g5] at hz'
                  cases hz'
                  exact ⟨e', List.mem_of_getElem? hz, rfl, g6.symm⟩
              · rw [putK_hit g1] at hy
                obtain ⟨z, hz, rfl⟩ := List.mem_map.1 hy
                exact ⟨z, hz, putF_fst⟩
            · exact absurd h1 hne)
          (fun m seen ents' cm e => absurd e map_ne_it)
        refine ⟨World.setO w c.blk (.map (es.modify j fun e => { e with key := ua, val := uv }) clock), ?_, ?_, F'⟩
        · have hst : (Instr.keyThatStays (((es[j]?).map (·.key)).getD ua) ua).run P w = .ok ua w := by
            rw [g5]
            simp only [Option.map_some, Option.getD_some, g6]
            unfold Instr.keyThatStays
            have : Instr.sameBits 10000 ua ua = true := by
              have hself : ∀ {b : AV} {n : Nat} {u : Value}, isIntA b = true → R σ b u → Instr.sameBits n u u = true := by
                intro b n u hb hr
                obtain ⟨q, z, rfl⟩ := isIntA_spec hb
                simp only [R] at hr
                subst hr
                cases n <;> simp [Instr.sameBits]
              cases a <;> simp only [plainKey] at hpl <;> try (cases hpl; done)
              case bool => simp only [R] at ha; subst ha; simp [Instr.sameBits]
              case int => simp only [R] at ha; subst ha; simp [Instr.sameBits]
              case str => simp only [R] at ha; subst ha; simp only [Instr.sameBits]; exact (MapKept.bytes_beq _ _).2 rfl
              case ag cs =>
                simp only [R] at ha
                obtain ⟨q, rfl, hq⟩ := ha
                show (q.size == q.size && (q.toList.zip q.toList).all fun (x, y) => Instr.sameBits 9999 x y) = true
                simp only [beq_self_eq_true, Bool.true_and, List.all_eq_true]
                have key : ∀ {cs : List AV} {q : List Value}, cs.all isIntA = true → Rs σ cs q → ∀ x ∈ q.zip q, Instr.sameBits 9999 x.1 x.2 = true := by
                  intro cs
                  induction cs with
                  | nil => intro q _ hq x hx; simp only [Rs] at hq; subst hq; simp at hx
                  | cons b r ih =>
                    intro q hp hq x hx
                    simp only [List.all_cons, Bool.and_eq_true] at hp
                    simp only [Rs] at hq
                    obtain ⟨y, q', rfl, hy, hq'⟩ := hq
                    simp only [List.zip_cons_cons, List.mem_cons] at hx
                    rcases hx with rfl | hx
                    · exact hself hp.1 hy
                    · exact ih hp.2 hq' x hx
                exact key hpl hq
            rw [this]
            simp
          unfold Instr.mapUpdate
          simp only [Sem.run_bind, run_underlying hu, Result.andThen_ok, hob, hc, g4, hst, run_setObj' _ c2 (fun _ _ _ h => by cases h)]
        · rw [g1]
          exact H'
  · cases hs

theorem setO_self {c : Nat} {o : Obj} (hg : w.heap[c]? = some o) : World.setO w c o = w := by
  unfold World.setO
  have : w.heap.setIfInBounds c o = w.heap := by
    apply Array.ext
    · simp
    · intro i h1 h2
      have hlt := lt_of_heap hg
      by_cases e : c = i
      · subst e
        rw [Array.getElem_setIfInBounds_self]
        rw [Array.getElem?_eq_getElem hlt] at hg
        exact (Option.some.inj hg).symm
      · rw [Array.getElem_setIfInBounds_ne _ e]
  rw [this]

theorem delete_sound (H : HR σ base h w) {ts : Array TypeId} {t k e : TypeId} (h0 : ts[0]? = some t) (hu : P.underlying t = some (.map k e)) {a m x : AV} {h' : Hp} (hs : aMdel (ktOf P k) h a m = some (x, h')) {ua um : Value} (ha : R σ a ua) (hm : R σ m um) (ty : TypeId) :
    x = .any ∧ ∃ w', (Builtin.delete_ ts ty #[um, ua]).run P w = .ok (.tuple #[]) w' ∧ HR σ base h' w' ∧ Fw base w w' := by
  cases m <;> simp only [aMdel] at hs <;> try (cases hs; done)
  rename_i id
  split at hs
  · rename_i ents hg
    cases hf : (keyFit (ktOf P k) a && ents.all fun e => keyFit (ktOf P k) e.1)
    · simp [hf] at hs
    · simp only [hf, cond_true, Option.some.injEq, Prod.mk.injEq] at hs
      obtain ⟨rfl, rfl⟩ := hs
      refine ⟨rfl, ?_⟩
      simp only [Bool.and_eq_true, List.all_eq_true] at hf
      obtain ⟨hl, c, es, clock, c1, c2, c3, M⟩ := H.lps.map hg
      rw [R_mp hm c1]
      have hc := checkKey_sound (P := P) hf.1 ha es.isEmpty w
      have hpl := keyFit_plain hf.1
      have hob : (getObj c.blk).run P w = .ok (.map es clock) w := by simp [getObj, Sem.run, c2]
      -- what the map is then
      have fin : ∀ es' : Array MapEntry, MapR σ (delK a ents) es' clock → (∀ e ∈ es'.toList, e ∈ es.toList) → HR σ base { h with loops := setL h.loops id (mapObj (delK a ents)) } (World.setO w c.blk (.map es' clock)) ∧ Fw base w (World.setO w c.blk (.map es' clock)) := fun es' M' hsub =>
        H.setObj hl c1 c2 (r := mapObj (delK a ents)) (o := .map es' clock) (.inr (.inl ⟨_, _, _, rfl, rfl, M'⟩))
          (ls := setL h.loops id (mapObj (delK a ents))) (fun d e => by cases e) (fun x e => by cases e)
          (fun j r' hj => by
            rcases lkL_set_cases hj with h1 | h1
            · exact .inl h1
            · exact .inr (.inl h1))
          (fun i seen ents' ci e hne hi hci => by
            have he := mapObj_inj e
            subst he
            rcases lkL_set_cases hi with ⟨h1, h2⟩ | ⟨h1, _⟩
            · obtain ⟨since, sn, last, es0, clock0, q1, q2, q3⟩ := H.lps.its i id seen ents ci c h2 hl hci c1
              rw [c2] at q2
              cases q2
              exact ⟨since, sn, last, _, _, q1, rfl, q3.same (fun y hy => ⟨y, hsub y hy, rfl, rfl⟩) (fun y hy => ⟨y, (List.mem_filter.1 hy).1, rfl⟩)⟩
            · exact absurd h1 hne)
          (fun m seen ents' cm e => absurd e map_ne_it)
      rcases M.find hf.1 ha hf.2 w with ⟨g1, g2, g3⟩ | ⟨j, e', v', l, g1, g2, g3, g4, g5, g6, g7, g8, g9, g10⟩
      · have hd : delK a ents = ents := filter_miss fun hmm => by rw [(hasK_iff hpl).2 hmm] at g1; cases g1
        obtain ⟨H', F'⟩ := fin es (by rw [hd]; exact M) (fun _ h => h)
        refine ⟨_, ?_, H', F'⟩
        unfold Builtin.delete_
        simp only [h0, Sem.run_bind, Result.andThen_ok, run_underlying hu, hob, hc, g3, run_setObj' _ c2 (fun _ _ _ h => by cases h), Sem.run_pure, List.getElem?_toArray, List.getElem?_cons_zero, List.getElem?_cons_succ]
      · obtain ⟨H', F'⟩ := fin _ (M.del g8 g9 g10) (fun e he => by rw [eraseIdx_toList] at he; exact List.mem_of_mem_eraseIdx he)
        refine ⟨_, ?_, H', F'⟩
        unfold Builtin.delete_
        simp only [h0, Sem.run_bind, Result.andThen_ok, run_underlying hu, hob, hc, g4, run_setObj' _ c2 (fun _ _ _ h => by cases h), Sem.run_pure, List.getElem?_toArray, List.getElem?_cons_zero, List.getElem?_cons_succ]
  · cases hs

/-- An iterator's step: it is over, or some entry that it has not handed out. -/
theorem next_sound (H : HR σ base h w) {i m : Nat} {seen : List AV} {ents : List (AV × AV)} (hi : lkL h.loops i = some (itObj m seen)) (hm : lkL h.loops m = some (mapObj ents)) {u : Value} (hx : R σ (.ptr i 0) u) (ty : TypeId) :
    (∃ w', (Instr.next u false ty).run P w = .ok (.tuple #[.bool false]) w' ∧ HR σ base h w' ∧ Fw base w w' ∧ ∀ e ∈ ents, e.1 ∈ seen) ∨
    ∃ a v ua uv w', (a, v) ∈ ents ∧ a ∉ seen ∧ R σ a ua ∧ R σ v uv ∧ (Instr.next u false ty).run P w = .ok (.tuple #[.bool true, ua, uv]) w' ∧ HR σ base { h with loops := setL h.loops i (itObj m (a :: seen)) } w' ∧ Fw base w w' := by
  have gm : (lkL h.loops m).bind asMap = some ents := by rw [hm]; exact asMap_obj
  have gi : (lkL h.loops i).bind asIt = some (m, seen) := by rw [hi]; rfl
  obtain ⟨_, c, es, clock, c1, c2, c3, M⟩ := H.lps.map gm
  obtain ⟨_, ci, cm, since, sn, last, d1, d2, d3, d4, d5⟩ := H.lps.it gi
  rw [c1] at d2
  cases d2
  obtain ⟨since', sn', last', es', clock', q1, q2, I⟩ := H.lps.its i m seen ents ci c hi hm d1 c1
  rw [d3] at q1
  cases q1
  rw [c2] at q2
  cases q2
  obtain ⟨l, hp, he⟩ := M.ents
  simp only [R] at hx
  obtain ⟨c', e1, rfl⟩ := hx
  rw [d1] at e1
  cases e1
  have hpt : (Value.pointer (some ⟨ci.blk, ci.off + 0, none⟩)) = .pointer (some ⟨ci.blk, 0, none⟩) := by rw [d5]
  rw [hpt]
  have hob : ∀ w1 : World, w1.heap = w.heap → (getObj ci.blk).run P w1 = .ok (.mapIter (some c.blk) since sn last) w1 := fun w1 hw => by simp [getObj, Sem.run, hw, d3]
  have hom : ∀ w1 : World, w1.heap = w.heap → (getObj c.blk).run P w1 = .ok (.map es clock) w1 := fun w1 hw => by simp [getObj, Sem.run, hw, c2]
  have hold : ∀ x ∈ es.toList, x.born < since := fun x hx => by rw [I.esince]; exact M.old x hx
  have hsc : since ≤ last := by rw [I.esince, I.elast]; exact Nat.le_refl _
  have htest := next_test_false sn es since last hold hsc
  have e1 : ∀ L : Array MapEntry, (∀ x ∈ L.toList, x.born < since) → L.filter (fun x => decide (x.born < since)) = L ∧ L.filter (fun x => decide (x.born ≥ since)) = #[] := fun L hL => by
    refine ⟨Array.filter_eq_self.2 (fun x hx => by simpa using hL x (by simpa using hx)), ?_⟩
    rw [Array.filter_eq_empty_iff]
    intro x hx
    have := hL x (by simpa using hx)
    simp
    omega
  have hL : ∀ x ∈ (es.filter (fun e => !sn.contains e.born)).toList, x.born < since := fun x hx => hold x (by simp at hx ⊢; exact hx.1)
  obtain ⟨f1, f2⟩ := e1 _ hL
  have hmemL : ∀ x, x ∈ (es.filter (fun e => !sn.contains e.born)).toList → x ∈ es.toList ∧ sn.contains x.born = false := fun x hx => by
    have := Array.mem_filter.1 (Array.mem_toList_iff.1 hx)
    exact ⟨Array.mem_toList_iff.2 this.1, by simpa using this.2⟩
  have hinL : ∀ x, x ∈ es.toList → sn.contains x.born = false → x ∈ (es.filter (fun e => !sn.contains e.born)).toList := fun x h1 h2 => Array.mem_toList_iff.2 (Array.mem_filter.2 ⟨Array.mem_toList_iff.1 h1, by rw [h2]; rfl⟩)
  generalize hLL : es.filter (fun e => !sn.contains e.born) = L at f1 f2 hmemL hinL
  by_cases h0 : L.size = 0
  · left
    have hE : L = #[] := Array.eq_empty_of_size_eq_zero h0
    refine ⟨w, ?_, H, .refl _ _, fun a ha => ?_⟩
    · subst hE
      simp only [Instr.next, Sem.run_bind, hob w rfl, hom w rfl, Result.andThen_ok, htest, Bool.false_eq_true, if_false, hLL]
      simp [choose, Sem.run, Question.forced]
    · obtain ⟨x, x1, x2, x3⟩ := he.mem' a (hp.mem_iff.2 ha)
      cases hs : sn.contains x.born
      · have := hinL x x1 hs
        rw [hE] at this
        simp at this
      · exact (I.sees x x1 a ha x2).1 hs
  · right
    have hne : L.isEmpty = false := by simp [Array.isEmpty, h0]
    have hch : ∃ (j : Nat) (w1 : World), j < L.size ∧ (w1 = w ∨ w1 = w.drew) ∧ (choose (Question.mapNext L.size)).run P w = .ok j w1 := by
      by_cases hf : L.size ≤ 1
      · exact ⟨0, w, by omega, .inl rfl, by simp [choose, Sem.run, Question.forced, hf]⟩
      · exact ⟨_, w.drew, Nat.mod_lt _ (by omega), .inr rfl, by
          simp only [choose, Sem.run, Question.forced, decide_eq_true_eq, hf, if_false, Question.cut]
          rfl⟩
    obtain ⟨j, w1, hj, hw1, hrun⟩ := hch
    obtain ⟨m1, m2⟩ := hmemL L[j] (by simp)
    obtain ⟨a, ha, ha1, ha2⟩ := he.mem L[j] m1
    have ha' := hp.mem_iff.1 ha
    have hns : a.1 ∉ seen := fun hh => by
      have := (I.sees L[j] m1 a ha' ha1).2 hh
      rw [m2] at this
      cases this
    have H1 : HR σ base h w1 := by rcases hw1 with rfl | rfl; exact H; exact H.drew
    have F1 : Fw base w w1 := by rcases hw1 with rfl | rfl; exact .refl _ _; exact .drew _ _
    have hh1 : w1.heap = w.heap := by rcases hw1 with rfl | rfl <;> rfl
    -- two entries with the key are one
    have uniq : ∀ e ∈ es.toList, ∀ b ∈ ents, R σ b.1 e.key → b.1 = a.1 → e.born = (L[j]).born := fun e he1 b hb hr hba => by
      have hk : e.key = (L[j]).key := R_plain (M.keys a ha') (by rw [← hba]; exact hr) ha1
      have uq : ∀ {l : List (AV × AV)} {es : List MapEntry}, EntsR σ l es → (l.map (·.1)).Nodup → (∀ p ∈ l, plainKey p.1 = true) → ∀ x ∈ es, ∀ y ∈ es, x.key = y.key → R σ a.1 x.key → x = y := by
        intro l
        induction l with
        | nil => intro es h _ _ x hx; cases es with | nil => simp at hx | cons => exact h.elim
        | cons p r ih =>
          intro es h hn hpp x hx y hy hxy hra
          cases es with
          | nil => exact h.elim
          | cons z es =>
            obtain ⟨z1, z2, z3⟩ := h
            simp only [List.map_cons, List.nodup_cons] at hn
            have notin : ∀ t ∈ es, t.key = z.key → False := fun t ht hk => by
              obtain ⟨p', hp', hp1, _⟩ := z3.mem t ht
              have : p'.1 = p.1 := by
                have b1 := hpp p (by simp)
                have b2 := hpp p' (by simp [hp'])
                have e2 : R σ p'.1 z.key := by rw [← hk]; exact hp1
                exact R_inj b2 b1 e2 z1
              exact hn.1 (List.mem_map.2 ⟨p', hp', this⟩)
            rcases List.mem_cons.1 hx with ex | hx1
            · rcases List.mem_cons.1 hy with ey | hy1
              · rw [ex, ey]
              · exact (notin y hy1 (by rw [← ex, hxy])).elim
            · rcases List.mem_cons.1 hy with ey | hy1
              · exact (notin x hx1 (by rw [← ey, hxy])).elim
              · exact ih z3 hn.2 (fun p hp => hpp p (by simp [hp])) x hx1 y hy1 hxy hra
      have hn : (l.map (·.1)).Nodup := (hp.map _).nodup_iff.2 M.nodup
      rw [uq he hn (fun p hp' => M.keys p (hp.mem_iff.1 hp')) e he1 L[j] m1 hk (by rw [hk]; exact ha1)]
    have I' : ItR σ ents (a.1 :: seen) since (sn.push (L[j]).born) clock es clock := by
      refine ⟨I.esince, rfl, fun e he1 b hb hr => ?_, fun x r hs => ?_⟩
      · rw [Array.contains_push, Bool.or_eq_true, I.sees e he1 b hb hr, List.mem_cons]
        constructor
        · rintro (h1 | h1)
          · exact .inr h1
          · left
            have hb' := beq_iff_eq.1 h1
            have : e = L[j] := born_inj M.born he1 m1 hb'
            rw [this] at hr
            exact R_inj (M.keys b hb) (M.keys a ha') hr ha1
        · rintro (h1 | h1)
          · exact .inr (beq_iff_eq.2 (uniq e he1 b hb hr h1))
          · exact .inl h1
      · cases hs
        refine ⟨_, Array.back?_push .., fun e he1 b hb hr => ⟨fun hb' => ?_, fun h1 => uniq e he1 b hb hr h1⟩⟩
        have : e = L[j] := born_inj M.born he1 m1 hb'
        rw [this] at hr
        exact R_inj (M.keys b hb) (M.keys a ha') hr ha1
    obtain ⟨H', F'⟩ := H1.setObj hi d1 (by rw [hh1]; exact d3) (r := itObj m (a.1 :: seen)) (o := .mapIter (some c.blk) since (sn.push (L[j]).born) clock)
      (.inr (.inr (.inl ⟨m, _, c, since, _, clock, rfl, d5, c1, rfl⟩))) (ls := setL h.loops i (itObj m (a.1 :: seen))) (fun d e => by cases e) (fun x e => by cases e)
      (fun j r' hj => by
        rcases lkL_set_cases hj with h1 | h1
        · exact .inl h1
        · exact .inr (.inl h1))
      (fun i' seen' ents' ci' e => absurd e.symm map_ne_it)
      (fun m' seen' ents' cm e hne hm' hcm => by
        obtain ⟨rfl, rfl⟩ := itObj_inj e
        rcases lkL_set_cases hm' with ⟨_, h2⟩ | ⟨h1, _⟩
        · rw [hm] at h2
          have := mapObj_inj (Option.some.inj h2)
          subst this
          rw [c1] at hcm
          cases hcm
          exact ⟨since, _, clock, es, clock, rfl, by rw [hh1]; exact c2, I'⟩
        · exact absurd h1 hne)
    refine ⟨a.1, a.2, (L[j]).key, (L[j]).val, _, ha', hns, ha1, ha2, ?_, H', F1.trans F'⟩
    simp only [Instr.next, Sem.run_bind, hob w rfl, hom w rfl, Result.andThen_ok, htest, Bool.false_eq_true, if_false, hLL, f1, f2, Array.append_empty, hne, Array.empty_append, Array.size_map, hrun, Array.getElem?_map, Array.getElem?_eq_getElem hj, Option.map_some,
      run_setObj' _ (show w1.heap[ci.blk]? = some _ by rw [hh1]; exact d3) (fun _ _ _ h => by cases h), Sem.run_pure]

end
end Go.Abs
