/- The interpreter of statements is sound. -/
import Derived.Test.YtbomimhfldmlbaaDoorR
set_option linter.unusedSimpArgs false
set_option linter.unusedVariables false
namespace Go.Abs
open Go Go.RowKit

section
variable {P : Program} {base : Prot} {call : CallF} {m keep n : Nat}

/-- A loop whose rounds are counted down. -/
theorem wpIn_loop_count {F : Fence} {N : Nat} {c : Code} {Q : Exit → Act → World → Prop} (J : Nat → Act → World → Prop) (h0 : ∀ a w, ¬ J 0 a w)
    (round : ∀ k a w, J (k + 1) a w → c.wpIn F N P (Exit.then (J k) Q) a w) {k : Nat} {a : Act} {w : World} (h : J k a w) : (Code.loop c).wpIn F N P Q a w := by
  intro b ks cs hro hb hr
  have key : ∀ j a w, J j a w → ∃ e a' w', Q e a' w' ∧ ArrivesIn (Machine.fenced P F) P (lone (b.atR a (.code c :: .inLoop c :: ks)) cs w) b ks cs e a' w' := by
    intro j
    induction j with
    | zero => intro a w h; exact absurd h (h0 a w)
    | succ j ih =>
      intro a w hJ
      obtain ⟨e, a₁, w₁, hq, harr⟩ := round j a w hJ b (.inLoop c :: ks) cs hro hb hr
      cases e with
      | normal =>
        obtain ⟨e₂, a₂, w₂, hq₂, harr₂⟩ := ih a₁ w₁ hq
        exact ⟨e₂, a₂, w₂, hq₂, .of_steps (StepsIn.trans harr (.one (fenced_calm hb hr rfl) stepR_inLoop)) harr₂⟩
      | exit id => exact ⟨_, a₁, w₁, hq, .pass (x := .inLoop c) rfl (fun _ _ => .inl (by simp)) harr⟩
      | goto l => exact ⟨_, a₁, w₁, hq, .pass (x := .inLoop c) rfl (fun _ _ => .inl (by simp)) harr⟩
      | ret => exact ⟨_, a₁, w₁, hq, .pass (x := .inLoop c) rfl (fun _ _ => .inl (by simp)) harr⟩
      | panic ch => exact ⟨_, a₁, w₁, hq, .pass (x := .inLoop c) rfl (fun _ _ => .inl (by simp)) harr⟩
      | outgrown => exact ⟨_, a₁, w₁, hq, .pass (x := .inLoop c) rfl (fun _ _ => .inl (by simp)) harr⟩
  obtain ⟨e, a', w', hq, harr⟩ := key k a w h
  exact ⟨e, a', w', hq, .of_steps (.one (fenced_calm hb hr rfl) stepR_loop) harr⟩

/-- How the abstract state stands to the machine's. -/
structure Rel (base : Prot) (lo keep n : Nat) (σ : Env) (s : St) (a : Act) (w : World) (r : Option Nat) : Prop where
  hr : HR σ base s.hp w
  base : base.fit w.heap.size
  fr : FR σ n (lkF s.fr) a.tmps
  kp : KP keep s.fr
  mks : Mk lo a.defers w
  lo : lo ≤ w.heap.size
  inr : InR r w

theorem Rel.of_post {base : Prot} {lo keep n : Nat} {σ : Env} {e : Ex} {s0 s : St} {a0 a : Act} {w w' : World} {r : Option Nat} (R0 : Rel base lo keep n σ s0 a0 w r) {x : Exit} (h : PostC base lo σ keep n e s w x a w') :
    x = e.out ∧ ∃ τ, Ext σ τ ∧ Rel base lo keep n τ s a w' r ∧ Fw base w w' := by
  obtain ⟨h1, τ, h2, h3, h4, h5, h6, h7⟩ := h
  exact ⟨h1, τ, h2, ⟨h3, R0.base.le h6.bel.size, h4, h5, h7, Nat.le_trans R0.lo h6.bel.size, R0.inr.fw h6⟩, h6⟩

theorem getLoop_run {w : World} {l : Nat} {x : Loop} (h : w.heap[l]? = some (Obj.loop x)) : (Instr.getLoop l).run P w = .ok x w := by
  simp [Instr.getLoop, getObj, Sem.run, h, Sem.run_bind]

theorem run_setObj_loop {w : World} {l : Nat} {x y : Loop} (h : w.heap[l]? = some (Obj.loop x)) : (setObj l (.loop y)).run P w = .ok () (World.setO w l (.loop y)) := by
  simp [setObj, Sem.run, h, World.setO]

theorem enterLoop_none {w : World} (fn : FuncId) (tmps : Array Value) (ps : Array Tmp) (assign body : Code) :
    (Instr.enterLoop fn tmps ps assign body none).run P w = .ok (w.heap.size + 1, [{ target := .collected w.heap.size, args := #[] }])
      ((w.alloc (.deferred (some []))).alloc (.loop { state := .ready, pending := none, fn, tmps, params := ps, assign, body, defers := w.heap.size })) := by
  simp [Instr.enterLoop, Sem.run_bind, newObj, Sem.run]

theorem enterLoop_some {w : World} {l : Nat} {x : Loop} (h : w.heap[l]? = some (Obj.loop x)) (fn : FuncId) (tmps : Array Value) (ps : Array Tmp) (assign body : Code) :
    (Instr.enterLoop fn tmps ps assign body (some l)).run P w = .ok (w.heap.size, [])
      (w.alloc (.loop { state := .ready, pending := none, fn, tmps, params := ps, assign, body, defers := x.defers })) := by
  simp [Instr.enterLoop, Sem.run_bind, getLoop_run h, newObj, Sem.run]

theorem Wd_fn (r : Option Nat) (f : FuncId) : (Wd r).fn f := trivial
theorem Wd_depth (r : Option Nat) (N : Nat) : (Wd r).depth.isSome = true → 1 ≤ N := fun h => by simp [Wd, Fence.wide] at h

theorem runC_sound (hcall : CallOK P call) (hm : P.follows .mixedOrders = true) : ∀ (c : Code) {s : St} {e : Ex} {s' : St}, runC P call m keep n c s = some (e, s') →
    ∀ {r : Option Nat} {N : Nat} {σ : Env} {w : World} {a : Act} {lo : Nat}, Rel base lo keep n σ s a w r → c.wpIn (Wd r) N P (PostC base lo σ keep n e s' w) a w
  | .skip, s, e, s', hs, r, N, σ, w, a, lo, R0 => by
    simp only [runC, Option.some.injEq, Prod.mk.injEq] at hs
    obtain ⟨rfl, rfl⟩ := hs
    exact wpIn_skip ⟨rfl, σ, .refl _, R0.hr, R0.fr, R0.kp, .refl _ _, R0.mks⟩
  | .label l, s, e, s', hs, r, N, σ, w, a, lo, R0 => by
    simp only [runC, Option.some.injEq, Prod.mk.injEq] at hs
    obtain ⟨rfl, rfl⟩ := hs
    exact wpIn_label ⟨rfl, σ, .refl _, R0.hr, R0.fr, R0.kp, .refl _ _, R0.mks⟩
  | .region id ops false, s, e, s', hs, r, N, σ, w, a, lo, R0 => by
    simp only [runC] at hs
    split at hs
    · rename_i tm h1 hrun
      simp only [Option.some.injEq, Prod.mk.injEq] at hs
      obtain ⟨rfl, rfl⟩ := hs
      refine wpIn_region ?_
      have := runOps_sound hcall (r := r) (N := N) (Q := PostC base lo σ keep n .normal { fr := commit keep tm s.fr, hp := h1 } w) ops.toList 0 [] s.hp σ w a (by simp) R0.hr R0.base R0.fr hrun
        (fun a' w' τ q1 q2 q3 q4 q5 => ⟨rfl, τ, q2, q3, FR.commit R0.kp q4, (commit_spec keep tm s.fr R0.kp).1, q5, by rw [q1]; exact R0.mks.fw q5⟩)
      rw [List.range_eq_range']
      simpa using this
    · cases hs
  | .region id ops true, s, e, s', hs, r, N, σ, w, a, lo, R0 => by
    simp only [runC] at hs
    split at hs
    · rename_i tm h1 hrun
      simp only [Option.some.injEq, Prod.mk.injEq] at hs
      obtain ⟨rfl, rfl⟩ := hs
      exact runDraw_sound hcall hm hrun R0.hr R0.base R0.fr fun a' w' τ q1 q2 q3 q4 q5 =>
        ⟨rfl, τ, q2, q3, FR.commit R0.kp q4, (commit_spec keep tm s.fr R0.kp).1, q5, by rw [q1]; exact R0.mks.fw q5⟩
    · cases hs
  | .seq x y, s, e, s', hs, r, N, σ, w, a, lo, R0 => by
    simp only [runC] at hs
    split at hs
    · rename_i s1 h1
      refine wpIn_seq (wpIn_mono (runC_sound hcall hm x h1 R0) fun ex a' w' hp => ?_)
      obtain ⟨rfl, τ, hx, R1, hf⟩ := R0.of_post hp
      exact wpIn_mono (runC_sound hcall hm y hs R1) fun ex2 a2 w2 hp2 => hp2.trans hx hf
    · rename_i hnn
      refine wpIn_seq (wpIn_mono (runC_sound hcall hm x hs R0) fun ex a' w' hp => ?_)
      have h1 := hp.1
      cases e with
      | normal => exact absurd hs (hnn s')
      | exit id => subst h1; exact hp
      | ret => subst h1; exact hp
  | .cond c x y, s, e, s', hs, r, N, σ, w, a, lo, R0 => by
    simp only [runC] at hs
    split at hs
    · rename_i t ht
      have hc := ev_sound R0.fr c
      rw [ht] at hc
      refine wpIn_cond (R_bool hc) ?_
      cases t
      · exact runC_sound hcall hm y hs R0
      · exact runC_sound hcall hm x hs R0
    · cases hs
  | .block id b, s, e, s', hs, r, N, σ, w, a, lo, R0 => by
    simp only [runC] at hs
    refine wpIn_block ?_
    split at hs
    · rename_i j s1 h1
      refine wpIn_mono (runC_sound hcall hm b h1 R0) fun ex a' w' hp => ?_
      have h2 := hp.1
      subst h2
      cases hj : Nat.beq j id
      · simp only [hj, cond_false, Option.some.injEq, Prod.mk.injEq] at hs
        obtain ⟨rfl, rfl⟩ := hs
        have hne : ¬ j = id := fun e => by rw [e] at hj; simp at hj
        simp only [Ex.out, Exit.inBlock, hne, if_false]
        exact hp
      · simp only [hj, cond_true, Option.some.injEq, Prod.mk.injEq] at hs
        obtain ⟨rfl, rfl⟩ := hs
        have he := Nat.eq_of_beq_eq_true hj
        simp only [Ex.out, Exit.inBlock, he, if_true]
        exact ⟨rfl, hp.2⟩
    · rename_i hnn
      refine wpIn_mono (runC_sound hcall hm b hs R0) fun ex a' w' hp => ?_
      have h2 := hp.1
      subst h2
      cases e with
      | normal => exact hp
      | exit j => exact absurd hs (hnn j s')
      | ret => exact hp
  | .loop b, s, e, s', hs, r, N, σ, w, a, lo, R0 => by
    simp only [runC] at hs
    refine wpIn_loop_count (J := fun k a1 w1 => ∃ s1 τ, iter (runC P call m keep n b) k s1 = some (e, s') ∧ Ext σ τ ∧ Rel base lo keep n τ s1 a1 w1 r ∧ Fw base w w1) ?_ ?_ (k := m) ⟨s, σ, hs, .refl _, R0, .refl _ _⟩
    · rintro a1 w1 ⟨s1, τ, h1, _⟩
      simp [iter] at h1
    · rintro k a1 w1 ⟨s1, τ, h1, hx, R1, hf⟩
      simp only [iter] at h1
      split at h1
      · rename_i s2 h2
        refine wpIn_mono (runC_sound hcall hm b h2 R1) fun ex a' w' hp => ?_
        obtain ⟨rfl, υ, hx2, R2, hf2⟩ := R1.of_post hp
        exact ⟨s2, υ, h1, hx.trans hx2, R2, hf.trans hf2⟩
      · rename_i hnn
        refine wpIn_mono (runC_sound hcall hm b h1 R1) fun ex a' w' hp => ?_
        have h2 := hp.1
        subst h2
        cases e with
        | normal => exact absurd h1 (hnn s')
        | exit j => exact hp.trans hx hf
        | ret => exact hp.trans hx hf
  | .exit id, s, e, s', hs, r, N, σ, w, a, lo, R0 => by
    simp only [runC, Option.some.injEq, Prod.mk.injEq] at hs
    obtain ⟨rfl, rfl⟩ := hs
    exact wpIn_exit ⟨rfl, σ, .refl _, R0.hr, R0.fr, R0.kp, .refl _ _, R0.mks⟩
  | .ret, s, e, s', hs, r, N, σ, w, a, lo, R0 => by
    simp only [runC, Option.some.injEq, Prod.mk.injEq] at hs
    obtain ⟨rfl, rfl⟩ := hs
    exact wpIn_ret ⟨rfl, σ, .refl _, R0.hr, R0.fr, R0.kp, .refl _ _, R0.mks⟩
  | .rangeFunc f ps assign body, s, e, s', hs, r, N, σ, w, a, lo, R0 => by
    simp only [runC] at hs
    split at hs
    · rename_i g fs cs hev
      split at hs
      · rename_i v h2 hc
        split at hs
        · rename_i rc hrc
          cases hst : Nat.beq rc.st 1
          · simp only [hst, cond_false] at hs
            have hst' : rc.st ≠ 1 := fun e => by rw [e] at hst; simp at hst
            have hfv := ev_sound R0.fr f
            rw [hev] at hfv
            simp only [R] at hfv
            obtain ⟨xs, ys, hfv, hxs, hys⟩ := hfv
            -- the world when the function is called, and what of it is known
            have enter : ∀ fn, ∃ (b : Nat) (mark : List Deferred) (w1 : World), (Instr.enterLoop fn a.tmps ps assign body (Wd r).round).run P w = .ok (b, mark) w1 ∧
                HR (upd σ s.hp.next ⟨b, 0, 0⟩) base { s.hp with next := s.hp.next + 1, loops := (s.hp.next, { st := 0, jump := none, ps, assign, body, keep, n, fr := s.fr }) :: s.hp.loops } w1 ∧ Ext σ (upd σ s.hp.next ⟨b, 0, 0⟩) ∧
                Fw base w w1 ∧ Mk lo (mark ++ a.defers) w1 := fun fn => by
              cases r with
              | none =>
                have H1 := R0.hr.other (.deferred (some []))
                have hb1 : base.fit (w.alloc (.deferred (some []))).heap.size := R0.base.le (by simp)
                obtain ⟨k1, k2⟩ := H1.addLoop hb1 (rc := { st := 0, jump := none, ps, assign, body, keep, n, fr := s.fr }) (x := { state := .ready, pending := none, fn, tmps := a.tmps, params := ps, assign, body, defers := w.heap.size }) (by simp) rfl rfl rfl rfl rfl R0.fr R0.kp
                have hf1 : Fw base w ((w.alloc (.deferred (some []))).alloc (.loop { state := .ready, pending := none, fn, tmps := a.tmps, params := ps, assign, body, defers := w.heap.size })) := (Fw.alloc R0.base _).trans (Fw.alloc hb1 _)
                have hsz : (w.alloc (.deferred (some []))).heap.size = w.heap.size + 1 := by simp
                rw [hsz] at k1 k2
                refine ⟨w.heap.size + 1, _, _, enterLoop_none (P := P) fn a.tmps ps assign body, k1, k2, hf1, ?_, ?_⟩
                · intro d hd
                  simp only [List.cons_append, List.nil_append, List.mem_cons] at hd
                  rcases hd with rfl | hd
                  · refine ⟨w.heap.size, rfl, R0.lo, ?_⟩
                    rw [Below.heap_alloc _ _ _ (by simp)]
                    exact heap_alloc_new w _
                  · exact (R0.mks.fw hf1).1 d hd
                · simp only [List.cons_append, List.nil_append, List.pairwise_cons]
                  refine ⟨fun d hd x y hx hy => ?_, R0.mks.2⟩
                  obtain ⟨b, g1, g2, g3⟩ := R0.mks.1 d hd
                  rw [hy] at g1
                  cases g1
                  cases hx
                  intro e
                  subst e
                  rw [Array.getElem?_eq_none (Nat.le_refl _)] at g3
                  cases g3
              | some l =>
                obtain ⟨x, hx⟩ := R0.inr l rfl
                obtain ⟨k1, k2⟩ := R0.hr.addLoop R0.base (rc := { st := 0, jump := none, ps, assign, body, keep, n, fr := s.fr }) (x := { state := .ready, pending := none, fn, tmps := a.tmps, params := ps, assign, body, defers := x.defers }) (by simp) rfl rfl rfl rfl rfl R0.fr R0.kp
                have hf1 : Fw base w (w.alloc (.loop { state := .ready, pending := none, fn, tmps := a.tmps, params := ps, assign, body, defers := x.defers })) := Fw.alloc R0.base _
                exact ⟨w.heap.size, [], _, enterLoop_some (P := P) hx fn a.tmps ps assign body, k1, k2, hf1, R0.mks.fw hf1⟩
            refine wpIn_rangeFunc fun fn _ => ?_
            obtain ⟨b, mark, w1, e1, e2, e3, e4, e5⟩ := enter fn
            have hb1 : base.fit w1.heap.size := R0.base.le e4.bel.size
            have hyl : R (upd σ s.hp.next ⟨b, 0, 0⟩) (.yld s.hp.next) (.func (.yield b) #[] #[]) := by
              simp only [R]
              exact ⟨_, upd_same _ _ _, rfl⟩
            have hall : Rs (upd σ s.hp.next ⟨b, 0, 0⟩) (fs ++ [.yld s.hp.next] ++ cs) ((xs ++ #[Value.func (.yield b) #[] #[]]) ++ ys).toList := by
              rw [Array.toList_append, Array.toList_append]
              exact ((hxs.ext e3).append (Rs.one hyl)).append (hys.ext e3)
            obtain ⟨c1, c2⟩ := hcall.func hc e2 hb1 hall
            have hres : (resolve a.eval (rangeCall f b) 0).run P w1 = .ok { target := .fn (.func g) ys, args := xs ++ #[Value.func (.yield b) #[] #[]] } w1 := by
              have hm1 : (#[Operand.const (Value.func (.yield b) #[] #[])] : Array Operand).map a.eval = #[Value.func (.yield b) #[] #[]] := by simp [Act.eval]
              simp only [resolve, hfv, Deferred.ofValue, hm1, Sem.run_pure]
            refine ⟨b, mark, w1, _, w1, g, _, w1, e1, hres, fun _ _ => trivial, c1, Wd_depth r N, ?_⟩
            have k3 : CallsIn (Wd r) (N - 1) P g ((xs ++ #[Value.func (.yield b) #[] #[]]) ++ ys) w1 (Post base (upd σ s.hp.next ⟨b, 0, 0⟩) v h2 w1) := (callsIn_wide (n := N - 1)).2 c2
            refine k3.mono fun en w3 hen => ?_
            obtain ⟨u, τ, rfl, q1, q2, q3, q4⟩ := hen
            have hσb := q2 _ _ (upd_same σ s.hp.next ⟨b, 0, 0⟩)
            obtain ⟨x, a2⟩ : ∃ x, w3.heap[b]? = some (Obj.loop x) := by
              obtain ⟨c', x', b1, b2, _⟩ := e2.lps.loop (lkL_cons.trans (if_pos rfl)) (by decide : (0 : Nat) < 4)
              rw [upd_same] at b1
              cases b1
              exact q4.lop b x' b2
            obtain ⟨rst, ⟨a3, a4, a5, a6, a7, a8, a10⟩, a9⟩ := q3.lps.loopAt hrc hσb a2
            have hnb : (x.state == LoopState.busy) = false := by
              rw [a6]
              split <;> first | rfl | (rename_i e; exact absurd e hst')
            have hend : (Instr.endLoop b).run P w3 = .ok x.pending (World.setO w3 b (.loop { x with state := .exhausted })) := by
              unfold Instr.endLoop
              simp only [Sem.run_bind, getLoop_run a2, Result.andThen_ok, hnb, Bool.false_eq_true, if_false, run_setObj_loop a2, Sem.run_pure, Sem.run_ite]
            obtain ⟨s1, s2⟩ := q3.setLoop hrc hσb a2 (y := { x with state := .exhausted }) (r1 := { rc with st := 3 }) (ls := delL h2.loops s.hp.next) (by simp) ⟨a3, a4, a5, rfl, a7, a8, a10⟩ (fun j r' hj => by
              rw [lkL_delL] at hj
              split at hj
              · cases hj
              · exact .inl ⟨‹_›, hj⟩)
            have fin : ∀ ex, PostC base lo σ keep n ex { s with hp := { h2 with loops := delL h2.loops s.hp.next } } w ex.out { a with defers := mark ++ a.defers } (World.setO w3 b (.loop { x with state := .exhausted })) := fun ex =>
              ⟨rfl, τ, e3.trans q2, s1, R0.fr.ext (e3.trans q2), R0.kp, (e4.trans q4).trans s2, e5.fw (q4.trans s2)⟩
            have ends : ∀ q, x.pending = q → (Instr.endLoop b).run P w3 = .ok q (World.setO w3 b (.loop { x with state := .exhausted })) := fun q hq =>
              hend.trans (congrArg (fun p => Result.ok p (World.setO w3 b (.loop { x with state := .exhausted }))) hq)
            cases hj : rc.jump with
            | none =>
              simp only [hj, Option.some.injEq, Prod.mk.injEq] at hs
              obtain ⟨rfl, rfl⟩ := hs
              exact ⟨none, _, ends none (by rw [a7, hj]; rfl), fin .normal⟩
            | some j =>
              cases j with
              | none =>
                simp only [hj, Option.some.injEq, Prod.mk.injEq] at hs
                obtain ⟨rfl, rfl⟩ := hs
                exact ⟨some .ret, _, ends (some .ret) (by rw [a7, hj]; rfl), wpIn_ret (fin .ret)⟩
              | some id =>
                simp only [hj, Option.some.injEq, Prod.mk.injEq] at hs
                obtain ⟨rfl, rfl⟩ := hs
                exact ⟨some (.exit id), _, ends (some (.exit id)) (by rw [a7, hj]; rfl), wpIn_exit (fin (.exit id))⟩
          · simp only [hst, cond_true] at hs
            cases hs
        · cases hs
      · cases hs
    · cases hs
  | .scope _, s, e, s', hs, _, _, _, _, _, _, _ => by simp [runC] at hs
  | .goto _, s, e, s', hs, _, _, _, _, _, _, _ => by simp [runC] at hs
  | .refuse _, s, e, s', hs, _, _, _, _, _, _, _ => by simp [runC] at hs

end
end Go.Abs
