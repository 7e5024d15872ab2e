/- More fuel, same answer. -/
import Derived.Test.YtogfojkjocbahaaSE
namespace Go.Abs
open Go

def Le (call call' : CallF) : Prop := ∀ t a h r, call t a h = some r → call' t a h = some r

section
variable {P : Program} {call call' : CallF} {n m m' keep : Nat} {ops : Array Oper} {fr : Fr}

theorem exec1_mono (hl : Le call call') {f : Nat → AV} {h : Hp} {o : Oper} {r : AV × Hp} (e : exec1 P call f h o = some r) : exec1 P call' f h o = some r := by
  unfold exec1 at e ⊢
  split at e
  · rename_i c hc
    try simp only [hc]
    split at e
    · rename_i b hb
      try simp only [hb]
      exact e
    · rename_i g hg
      try simp only [hg]
      split at e
      · rename_i hf
        try simp only [hf]
        exact hl _ _ _ _ e
      · rename_i hf
        try simp only [hf]
        exact hl _ _ _ _ e
      · cases e
    · cases e
  · rename_i hne
    exact e

theorem runOps_mono (hl : Le call call') : ∀ {os : List Oper} {tm : Fr} {h : Hp} {r : Fr × Hp}, runOps P call n ops fr os tm h = some r → runOps P call' n ops fr os tm h = some r
  | [], tm, h, r, e => e
  | o :: os, tm, h, r, e => by
    simp only [runOps] at e ⊢
    split at e
    · rename_i hw
      split at e
      · rename_i v h' he
        simp only [hw, exec1_mono hl he]
        split at e
        · rename_i tm' ht
          try simp only [ht]
          exact runOps_mono hl e
        · cases e
      · cases e
    · rename_i hw
      try simp only [hw]
      split at e
      · rename_i tm' ht
        try simp only [ht]
        exact runOps_mono hl e
      · cases e
    · cases e

theorem traceOps_mono (hl : Le call call') : ∀ {os : List Oper} {tm : Fr} {h : Hp} {r : List Rec × Fr × Hp}, traceOps P call n ops fr os tm h = some r → traceOps P call' n ops fr os tm h = some r
  | [], tm, h, r, e => e
  | o :: os, tm, h, r, e => by
    simp only [traceOps] at e ⊢
    split at e
    · rename_i hw
      split at e
      · rename_i v h' he
        simp only [hw, exec1_mono hl he]
        split at e
        · rename_i tm' ht
          try simp only [ht]
          split at e
          · rename_i hx
            simp only [traceOps_mono hl hx]
            exact e
          · cases e
        · cases e
      · cases e
    · rename_i hw
      try simp only [hw]
      split at e
      · rename_i tm' ht
        try simp only [ht]
        split at e
        · rename_i hx
          simp only [traceOps_mono hl hx]
          exact e
        · cases e
      · cases e
    · cases e

theorem readsOK_mono (hl : Le call call') {cl : List Nat} {hs : List (Nat × Hp)} : ∀ {rs : List Rec} {i : Nat}, readsOK P call ops fr cl hs rs i = true → readsOK P call' ops fr cl hs rs i = true
  | [], i, e => e
  | r :: rs, i, e => by
    simp only [readsOK, Bool.and_eq_true, Bool.or_eq_true, List.all_eq_true] at e ⊢
    refine ⟨?_, readsOK_mono hl e.2⟩
    rcases e.1 with h | h
    · exact .inl h
    · refine .inr fun x hx => ?_
      rcases h x hx with h | h
      · exact .inl h
      · right
        split at h
        · rename_i he
          simp only [exec1_mono hl he]
          exact h
        · cases h

theorem runDraw_mono (hl : Le call call') {h : Hp} {r : Fr × Hp} (e : runDraw P call n ops fr h = some r) : runDraw P call' n ops fr h = some r := by
  unfold runDraw at e ⊢
  split at e
  · rename_i rs tm h' ht
    simp only [traceOps_mono hl ht]
    cases hc : (orderOK ops (clos ops.toList []) && ((effHeaps rs 0).isEmpty || readsOK P call ops fr (clos ops.toList []) (effHeaps rs 0 ++ [(ops.size, h')]) rs 0))
    · simp [hc] at e
    · simp only [hc, cond_true] at e
      have : (orderOK ops (clos ops.toList []) && ((effHeaps rs 0).isEmpty || readsOK P call' ops fr (clos ops.toList []) (effHeaps rs 0 ++ [(ops.size, h')]) rs 0)) = true := by
        simp only [Bool.and_eq_true, Bool.or_eq_true] at hc ⊢
        exact ⟨hc.1, hc.2.imp id (readsOK_mono hl)⟩
      simp only [this, cond_true]
      exact e
  · cases e

theorem iter_mono {b b' : St → Option (Ex × St)} (hb : ∀ s r, b s = some r → b' s = some r) : ∀ {m m' : Nat} {s : St} {r : Ex × St}, m ≤ m' → iter b m s = some r → iter b' m' s = some r
  | 0, m', s, r, _, e => by cases e
  | m + 1, 0, s, r, h, _ => absurd h (by omega)
  | m + 1, m' + 1, s, r, h, e => by
    simp only [iter] at e ⊢
    cases hs : b s with
    | none => rw [hs] at e; cases e
    | some y =>
      rw [hs] at e
      rw [hb _ _ hs]
      obtain ⟨x, s'⟩ := y
      cases x with
      | normal => exact iter_mono hb (by omega) e
      | exit _ => exact e
      | ret => exact e

theorem runC_mono (hl : Le call call') (hm : m ≤ m') : ∀ {c : Code} {s : St} {r : Ex × St}, runC P call m keep n c s = some r → runC P call' m' keep n c s = some r
  | .skip, s, r, e => e
  | .label _, s, r, e => e
  | .region _ ops false, s, r, e => by
    simp only [runC] at e ⊢
    split at e
    · rename_i h
      simp only [runOps_mono hl h]
      exact e
    · cases e
  | .region _ ops true, s, r, e => by
    simp only [runC] at e ⊢
    split at e
    · rename_i h
      simp only [runDraw_mono hl h]
      exact e
    · cases e
  | .rangeFunc f ps assign body, s, r, e => by
    simp only [runC] at e ⊢
    split at e
    · rename_i hf
      try simp only [hf]
      split at e
      · rename_i h
        simp only [hl _ _ _ _ h]
        exact e
      · cases e
    · cases e
  | .seq a b, s, r, e => by
    simp only [runC] at e ⊢
    cases h : runC P call m keep n a s with
    | none => rw [h] at e; cases e
    | some y =>
      rw [h] at e
      rw [runC_mono hl hm h]
      obtain ⟨x, s'⟩ := y
      cases x with
      | normal => exact runC_mono hl hm e
      | exit _ => exact e
      | ret => exact e
  | .cond c a b, s, r, e => by
    simp only [runC] at e ⊢
    split at e
    · rename_i t ht
      try simp only [ht]
      cases t
      · exact runC_mono hl hm e
      · exact runC_mono hl hm e
    · cases e
  | .block id b, s, r, e => by
    simp only [runC] at e ⊢
    cases h : runC P call m keep n b s with
    | none => rw [h] at e; cases e
    | some y =>
      rw [h] at e
      rw [runC_mono hl hm h]
      exact e
  | .loop b, s, r, e => by
    simp only [runC] at e ⊢
    exact iter_mono (fun s r => runC_mono hl hm) hm e
  | .exit id, s, r, e => e
  | .ret, s, r, e => e
  | .scope _, s, r, e => by cases e
  | .goto _, s, r, e => by cases e

theorem enterF_mono (hl : Le call call') (hm : m ≤ m') {g : Bool} {f : Nat} {args : List AV} {h : Hp} {r : AV × Hp} (e : enterF P call g m f args h = some r) : enterF P call' g m' f args h = some r := by
  unfold enterF at e ⊢
  split at e
  · rename_i fn h1
    split at e
    · rename_i c h2
      try simp only [h1, h2]
      cases h3 : (Nat.ble args.length fn.ntmps && !(fn.name == "runtime.NumGoroutine"))
      · rw [h3] at e; cases e
      · rw [h3] at e
        simp only [cond_true] at e ⊢
        split at e
        · rename_i h4
          simp only [runC_mono hl hm h4]
          exact e
        · rename_i h4
          simp only [runC_mono hl hm h4]
          exact e
        · cases e
    · cases e
  · cases e

theorem enterY_mono (hl : Le call call') (hm : m ≤ m') {l : Nat} {args : List AV} {h : Hp} {r : AV × Hp} (e : enterY P call m l args h = some r) : enterY P call' m' l args h = some r := by
  unfold enterY at e ⊢
  split at e
  · rename_i x h1
    try simp only [h1]
    cases h2 : (Nat.beq x.st 0 && x.ps.toList.all (fun t => Nat.testBit x.keep t && Nat.blt t x.n))
    · rw [h2] at e; cases e
    · rw [h2] at e
      simp only [Bool.not_true, cond_false] at e ⊢
      split at e
      · rename_i fr h3
        try simp only [h3]
        split at e
        · rename_i s h4
          simp only [runC_mono hl hm h4]
          split at e
          · rename_i r1 h5
            try simp only [h5]
            cases h6 : Nat.beq r1.st 0
            · rw [h6] at e; cases e
            · rw [h6] at e
              simp only [Bool.not_true, cond_false] at e ⊢
              split at e
              · rename_i h7
                simp only [runC_mono hl hm h7]
                exact e
              · cases e
          · cases e
        · cases e
      · cases e
  · cases e

theorem callN_mono {T : Tab} {g : Bool} : ∀ {n n' m m' : Nat}, n ≤ n' → m ≤ m' → Le (callN P T g m n) (callN P T g m' n')
  | 0, _, _, _, _, _ => fun t a h r e => by cases e
  | n + 1, 0, _, _, h, _ => absurd h (by omega)
  | n + 1, n' + 1, m, m', hn, hm => fun t a h r e => by
    have ih : Le (callN P T g m n) (callN P T g m' n') := callN_mono (by omega) hm
    cases t with
    | func f =>
      simp only [callN] at e ⊢
      split at e
      · exact e
      · exact enterF_mono ih hm e
    | yield l => exact enterY_mono ih hm e

end
end Go.Abs
