/- Each operation on maps does to a world what the abstract operation says. -/
import Derived.Test.YtbomimhfldmlbaaDoorIN
set_option linter.unusedSimpArgs false
set_option linter.unusedVariables false
namespace Go.Abs
open Go Go.RowKit

section
variable {P : Program} {base : Prot} {σ : Env} {w : World} {h : Hp}

theorem R_mp {id : Nat} {u : Value} {c : Loc} (h : R σ (.mp id) u) (hc : σ id = some c) : u = .map (some c.blk) := by
  simp only [R] at h
  obtain ⟨c', h1, h2⟩ := h
  rw [hc] at h1
  cases h1
  exact h2

theorem zeroAV_spec {t : TypeId} {z : AV} (hz : zeroAV P t = some z) : ∃ v, (∀ w, (zeroValue t).run P w = .ok v w) ∧ ∀ σ, R σ z v := by
  unfold zeroAV at hz
  cases hi : P.info? t with
  | none => simp [hi] at hz
  | some i =>
    cases hv : i.zero with
    | none => simp [hi, hv] at hz
    | some v =>
      simp only [hi, hv, Option.bind_some, Option.map_some, Option.some.injEq] at hz
      subst hz
      exact ⟨v, fun w => run_zeroValue' hi hv w, fun σ => R_ofV σ v⟩

theorem R_pair {x : AV} {v : Value} {b : Bool} (h : R σ x v) : R σ (.tu [x, .bool b]) (.tuple #[v, .bool b]) := by
  simp only [R]
  refine ⟨_, rfl, ?_⟩
  simp only [Rs, R]
  exact ⟨v, _, rfl, h, _, _, rfl, rfl, rfl⟩

theorem lookup_sound (H : HR σ base h w) {t k e : TypeId} (hu : P.underlying t = some (.map k e)) {z : AV} (hz : zeroAV P e = some z) {ok : Bool} {a m v : AV} {h' : Hp} (hs : aLkp (ktOf P k) z ok h a m = some (v, h')) {ua um : Value}
    (ha : R σ a ua) (hm : R σ m um) : OkV P base σ w (Instr.lookup t um ua ok) v h' := by
  obtain ⟨zv, hz1, hz2⟩ := zeroAV_spec hz
  cases m <;> simp only [aLkp] at hs <;> try (cases hs; done)
  case nilmp =>
    simp only [R] at hm
    subst hm
    cases hf : keyFit (ktOf P k) a
    · simp [hf] at hs
    · simp only [hf, cond_true, Option.some.injEq, Prod.mk.injEq] at hs
      obtain ⟨rfl, rfl⟩ := hs
      have hc := checkKey_sound (P := P) hf ha true w
      have hfind := findKey_sound (P := P) hf ha (l := []) (es := []) trivial (fun e he => by simp at he) w
      refine .pure H (u := if ok then .tuple #[zv, .bool false] else zv) ?_ ?_
      · unfold Instr.lookup
        simp only [Sem.run_bind, run_underlying hu, Result.andThen_ok, Sem.run_pure]
        have e1 : (#[] : Array MapEntry).isEmpty = true := rfl
        rw [e1, hc]
        simp only [Result.andThen_ok]
        rw [hfind]
        simp only [fIx, Result.andThen_ok, Sem.run_bind, hz1, Sem.run_pure]
      · cases ok
        · exact hz2 σ
        · exact R_pair (hz2 σ)
  case mp id =>
    split at hs
    · rename_i ents hg
      cases hf : (keyFit (ktOf P k) a && ents.all fun e => keyFit (ktOf P k) e.1)
      · simp [hf] at hs
      · simp only [hf, cond_true, Option.some.injEq, Prod.mk.injEq] at hs
        obtain ⟨rfl, rfl⟩ := hs
        simp only [Bool.and_eq_true, List.all_eq_true] at hf
        obtain ⟨hl, c, es, clock, c1, c2, c3, M⟩ := H.lps.map hg
        rw [R_mp hm c1]
        have hc := checkKey_sound (P := P) hf.1 ha es.isEmpty w
        have hob : (getObj c.blk).run P w = .ok (.map es clock) w := by simp [getObj, Sem.run, c2]
        rcases M.find hf.1 ha hf.2 w with ⟨g1, g2, g3⟩ | ⟨j, e', v, l, g1, g2, g3, g4, g5, g6, g7, _⟩
        · refine .pure H (u := if ok then .tuple #[zv, .bool false] else zv) ?_ ?_
          · unfold Instr.lookup
            simp only [Sem.run_bind, run_underlying hu, Result.andThen_ok, Sem.run_pure, hob, hc, g3, hz1]
          · rw [g2]
            cases ok
            · exact hz2 σ
            · exact R_pair (hz2 σ)
        · refine .pure H (u := if ok then .tuple #[e'.val, .bool true] else e'.val) ?_ ?_
          · unfold Instr.lookup
            simp only [Sem.run_bind, run_underlying hu, Result.andThen_ok, Sem.run_pure, hob, hc, g4]
          · rw [g2]
            cases ok
            · exact g7
            · exact R_pair g7
    · cases hs

theorem makeMap_sound (H : HR σ base h w) (hb : base.fit w.heap.size) {t : TypeId} {r : Option Value} {k e : TypeId} (hu : P.underlying t = some (.map k e)) (hr : ∀ v, r = some v → ∃ q n, v = .int q n) :
    OkV P base σ w (Instr.makeMap t r) (.mp h.next) { h with next := h.next + 1, loops := (h.next, mapObj []) :: h.loops } := by
  obtain ⟨k1, k2⟩ := H.addObj hb (rc := mapObj []) (o := .map #[] 0)
    (fun τ _ => .inr (.inl ⟨[], #[], 0, rfl, rfl, ⟨fun e he => by simp at he, by simp, by simp, fun e he => by simp at he, [], .refl _, trivial⟩⟩))
    (fun m seen ents cm e => absurd e map_ne_it)
  refine ⟨.map (some w.heap.size), _, _, ?_, ?_, k2, k1, Fw.alloc hb _⟩
  · unfold Instr.makeMap
    cases r with
    | none => simp [Sem.run_bind, newObj, Sem.run]
    | some v =>
      obtain ⟨q, n, rfl⟩ := hr v rfl
      simp [Sem.run_bind, newObj, Sem.run, run_underlying hu, asInt, asIntOf, Result.andThen]
  · simp only [R]
    exact ⟨_, upd_same _ _ _, rfl⟩

theorem range_sound (H : HR σ base h w) (hb : base.fit w.heap.size) {t k e : TypeId} (hu : P.underlying t = some (.map k e)) {m v : AV} {h' : Hp} (hs : aRng h m = some (v, h')) {um : Value} (hm : R σ m um) :
    OkV P base σ w (Instr.range t um) v h' := by
  cases m <;> simp only [aRng] at hs <;> try (cases hs; done)
  rename_i id
  split at hs
  · rename_i ents hg
    cases hs
    obtain ⟨hl, c, es, clock, c1, c2, c3, M⟩ := H.lps.map hg
    rw [R_mp hm c1]
    obtain ⟨k1, k2⟩ := H.addObj hb (rc := itObj id []) (o := .mapIter (some c.blk) clock #[] clock)
      (fun τ hx => .inr (.inr (.inl ⟨id, [], c, clock, #[], clock, rfl, rfl, hx _ _ c1, rfl⟩)))
      (fun m seen ents' cm e h1 h2 => by
        obtain ⟨rfl, rfl⟩ := itObj_inj e
        rw [c1] at h2
        cases h2
        exact ⟨clock, #[], clock, es, clock, rfl, c2, ⟨rfl, rfl, fun e he a ha hr => by simp, fun x r hr => by cases hr⟩⟩)
    refine ⟨.pointer (some ⟨w.heap.size, 0, none⟩), _, _, run_range_map w t k e c.blk es clock hu c2, ?_, k2, k1, Fw.alloc hb _⟩
    simp only [R]
    exact ⟨_, upd_same _ _ _, rfl⟩
  · cases hs

theorem len_sound (H : HR σ base h w) {ts : Array TypeId} {t k e : TypeId} (h0 : ts[0]? = some t) (hu : P.underlying t = some (.map k e)) {m v : AV} {h' : Hp} (hs : aLenM h m = some (v, h')) {um : Value} (hm : R σ m um) (ty : TypeId) :
    OkV P base σ w (Builtin.len_ ts ty #[um]) v h' := by
  cases m <;> simp only [aLenM] at hs <;> try (cases hs; done)
  case nilmp =>
    cases hs
    simp only [R] at hm
    subst hm
    exact .pure H (u := .int .i64 0) (by simp [Builtin.len_, h0, run_underlying hu, goInt]) (by simp [R])
  case mp id =>
    cases hg : getM h id with
    | none => simp [hg] at hs
    | some ents =>
      simp only [hg, Option.map_some, Option.some.injEq, Prod.mk.injEq] at hs
      obtain ⟨rfl, rfl⟩ := hs
      obtain ⟨hl, c, es, clock, c1, c2, c3, M⟩ := H.lps.map hg
      rw [R_mp hm c1]
      obtain ⟨l, hp, he⟩ := M.ents
      have hlen : es.size = ents.length := by
        rw [← Array.length_toList, ← he.length, hp.length_eq]
      have hob : (getObj c.blk).run P w = .ok (.map es clock) w := by simp [getObj, Sem.run, c2]
      exact .pure H (u := .int .i64 ents.length) (by simp [Builtin.len_, h0, run_underlying hu, goInt, hob, hlen]) (by simp [R])

theorem entry_sound (H : HR σ base h w) {x v : AV} {h' : Hp} (hs : aEnt h x = some (v, h')) {u : Value} (hx : R σ x u) : OkV P base σ w (Instr.entry u) v h' := by
  unfold aEnt at hs
  split at hs
  · rename_i i
    split at hs
    · rename_i m a r hit
      split at hs
      · rename_i ents hg
        cases hv : valK a ents with
        | none => simp [hv] at hs
        | some y =>
          simp only [hv, Option.map_some, Option.some.injEq, Prod.mk.injEq] at hs
          obtain ⟨rfl, rfl⟩ := hs
          obtain ⟨hl, c, es, clock, c1, c2, c3, M⟩ := H.lps.map hg
          obtain ⟨hli, ci, cm, since, sn, last, d1, d2, d3, d4, d5⟩ := H.lps.it hit
          rw [c1] at d2
          cases d2
          obtain ⟨since', sn', last', es', clock', q1, q2, I⟩ := H.lps.its i m (a :: r) ents ci c hli hl d1 c1
          rw [d3] at q1
          cases q1
          rw [c2] at q2
          cases q2
          obtain ⟨stamp, s1, s2⟩ := I.top a r rfl
          simp only [R] at hx
          obtain ⟨c', e1, rfl⟩ := hx
          rw [d1] at e1
          cases e1
          -- the entry
          have hmem : (a, y) ∈ ents := by
            unfold valK at hv
            rw [Option.map_eq_some_iff] at hv
            obtain ⟨p, hp1, hp2⟩ := hv
            have := List.mem_of_find?_eq_some hp1
            have hb := List.find?_some hp1
            have := AV.beq_eq hb
            rw [this, ← hp2]
            exact List.mem_of_find?_eq_some hp1
          obtain ⟨l, hp, he⟩ := M.ents
          obtain ⟨en, en1, en2, en3⟩ := he.mem' (a, y) (hp.mem_iff.2 hmem)
          have hst : en.born = stamp := (s2 en en1 (a, y) hmem en2).2 rfl
          have hf : es.find? (·.born == stamp) = some en := by
            rw [← Array.find?_toList, ← hst]
            exact find_born en es.toList M.born en1
          have hob : (getObj ci.blk).run P w = .ok (.mapIter (some c.blk) since sn last) w := by simp [getObj, Sem.run, d3]
          have hom : (getObj c.blk).run P w = .ok (.map es clock) w := by simp [getObj, Sem.run, c2]
          have hcl : (clock != last) = false := by rw [I.elast]; simp
          refine .pure H (u := .tuple #[en.key, en.val]) ?_ ?_
          · have hp : (Value.pointer (some ⟨ci.blk, ci.off + 0, none⟩)) = .pointer (some ⟨ci.blk, 0, none⟩) := by rw [d5]
            rw [hp]
            simp only [Instr.entry, Sem.run_bind, hob, Result.andThen_ok, s1, hom, hcl, Bool.false_eq_true, if_false, hf, Sem.run_pure]
          · simp only [R]
            refine ⟨_, rfl, ?_⟩
            simp only [Rs]
            exact ⟨_, _, rfl, en2, _, _, rfl, en3, rfl⟩
      · cases hs
    · cases hs
  · cases hs

theorem lkL_dropIts {m : Nat} : ∀ {ls : List (Nat × LoopA)} {i : Nat}, lkL (dropIts m ls) i = (lkL ls i).map (dropF m)
  | [], i => by simp [dropIts, lkL]
  | (j, b) :: ls, i => by
    simp only [dropIts, lkL_cons]
    split
    · rfl
    · exact lkL_dropIts

end
end Go.Abs
