import Derived.Test.YtpfkmdbdafpadaaDoorKA
/- Requests served first fit: what is invariant; when nothing is blocked. -/
set_option linter.unusedSimpArgs false
set_option linter.unusedVariables false
namespace Go.Pa

def eOf (n : Nat) (p : Int × Int) : Int × Int := (p.1 / (n : Int), p.2 / (n : Int))
/- The least number below m that the edges let e have. -/
def least (E : List (Int × Int)) (zs : List Int) (e : Int × Int) (m : Nat) : Option Nat := firstS (fun k => if Fr E zs (k : Int) e then some k else none) m 0
abbrev Bd := List (Int × Int) × List Int
def stepC (n m : Nat) (b : Bd) (p : Int × Int) : Int × Bd :=
  if p.2 = -1 then
    match b.1.findIdx? (fun c => decide (c.1 = p.1)) with
    | none => (-2, b)
    | some i => (cl b.2 i, (b.1.eraseIdx i, b.2.eraseIdx i))
  else if b.1.any (fun c => decide (c.1 = p.1) || decide (c.2 = p.2)) = true then (-2, b)
  else match least (b.1.map (eOf n)) b.2 (eOf n p) m with
    | some k => ((k : Int), (b.1 ++ [p], b.2 ++ [(k : Int)]))
    | none => (-1, b)
def serveC (n m : Nat) : Bd → List (Int × Int) → List Int
  | _, [] => []
  | b, p :: l => (stepC n m b p).1 :: serveC n m (stepC n m b p).2 l
def runB (n m : Nat) : Bd → List (Int × Int) → Bd
  | b, [] => b
  | b, p :: l => runB n m (stepC n m b p).2 l
theorem serveC_app {n m : Nat} : ∀ {l l' : List (Int × Int)} {b : Bd}, serveC n m b (l ++ l') = serveC n m b l ++ serveC n m (runB n m b l) l'
  | [], l', b => rfl
  | p :: l, l', b => by simp only [List.cons_append, serveC, runB, serveC_app (l := l)]
theorem serveC_len {n m : Nat} : ∀ {l : List (Int × Int)} {b : Bd}, (serveC n m b l).length = l.length
  | [], b => rfl
  | p :: l, b => by simp only [serveC, List.length_cons, serveC_len (l := l)]
theorem runB_app {n m : Nat} : ∀ {l l' : List (Int × Int)} {b : Bd}, runB n m b (l ++ l') = runB n m (runB n m b l) l'
  | [], l', b => rfl
  | p :: l, l', b => by simp only [List.cons_append, runB, runB_app (l := l)]

structure Inv (n w m : Nat) (b : Bd) : Prop where
  len : b.2.length = b.1.length
  inA : (b.1.map (·.1)).Nodup
  inB : (b.1.map (·.2)).Nodup
  rng : ∀ c ∈ b.1, 0 ≤ c.1 ∧ c.1 < w ∧ 0 ≤ c.2 ∧ c.2 < w
  mid : ∀ z ∈ b.2, 0 ≤ z ∧ z < m
theorem Inv.nil {n w m : Nat} : Inv n w m ([], []) := ⟨rfl, List.nodup_nil, List.nodup_nil, by simp, by simp⟩

theorem least_some {E : List (Int × Int)} {zs : List Int} {e : Int × Int} {m k : Nat} (h : least E zs e m = some k) : k < m ∧ Fr E zs (k : Int) e := by
  obtain ⟨j, h1, h2, h3⟩ := firstS_some h
  by_cases hF : Fr E zs (j : Int) e
  · rw [if_pos hF] at h3
    cases h3
    exact ⟨by omega, hF⟩
  · rw [if_neg hF] at h3
    cases h3
theorem least_none {E : List (Int × Int)} {zs : List Int} {e : Int × Int} {m : Nat} (h : least E zs e m = none) : ∀ k, k < m → ¬ Fr E zs (k : Int) e := fun k hk hF =>
  firstS_ex (g := fun k => if Fr E zs (k : Int) e then some k else none) (k := 0) (n := m) (j := k) (by omega) (by omega) (by simp [hF]) h

theorem nodup_eraseIdx {α : Type} {l : List α} (h : l.Nodup) (i : Nat) : (l.eraseIdx i).Nodup := h.sublist (List.eraseIdx_sublist l i)

theorem Inv.step {n w m : Nat} {b : Bd} {p : Int × Int} (I : Inv n w m b) (h1 : 0 ≤ p.1 ∧ p.1 < w) (h2 : -1 ≤ p.2 ∧ p.2 < w) : Inv n w m (stepC n m b p).2 := by
  unfold stepC
  by_cases e : p.2 = -1
  · rw [if_pos e]
    split
    · exact I
    · rename_i i hi
      refine ⟨?_, ?_, ?_, fun c hc => I.rng c (List.mem_of_mem_eraseIdx hc), fun z hz => I.mid z (List.mem_of_mem_eraseIdx hz)⟩
      · simp only [List.length_eraseIdx, I.len]
      · exact I.inA.sublist ((List.eraseIdx_sublist _ _).map _)
      · exact I.inB.sublist ((List.eraseIdx_sublist _ _).map _)
  · rw [if_neg e]
    by_cases ea : b.1.any (fun c => decide (c.1 = p.1) || decide (c.2 = p.2)) = true
    · rw [if_pos ea]
      exact I
    · rw [if_neg ea]
      have hna : ∀ c ∈ b.1, c.1 ≠ p.1 ∧ c.2 ≠ p.2 := fun c hc => by
        refine Classical.byContradiction fun hx => ea ?_
        rw [List.any_eq_true]
        refine ⟨c, hc, ?_⟩
        simp only [Bool.or_eq_true, decide_eq_true_eq]
        omega
      split
      · rename_i k hk
        have := least_some hk
        refine ⟨by simp [I.len], ?_, ?_, fun c hc => ?_, fun z hz => ?_⟩
        · rw [List.map_append, List.nodup_append]
          refine ⟨I.inA, by simp, fun x hx y hy => ?_⟩
          simp only [List.map_cons, List.map_nil, List.mem_singleton] at hy
          obtain ⟨c, hc, rfl⟩ := List.mem_map.1 hx
          rw [hy]
          exact (hna c hc).1
        · rw [List.map_append, List.nodup_append]
          refine ⟨I.inB, by simp, fun x hx y hy => ?_⟩
          simp only [List.map_cons, List.map_nil, List.mem_singleton] at hy
          obtain ⟨c, hc, rfl⟩ := List.mem_map.1 hx
          rw [hy]
          exact (hna c hc).2
        · simp only [List.mem_append, List.mem_singleton] at hc
          rcases hc with hc | rfl
          · exact I.rng c hc
          · omega
        · simp only [List.mem_append, List.mem_singleton] at hz
          rcases hz with hz | rfl
          · exact I.mid z hz
          · omega
      · exact I
theorem Inv.run {n w m : Nat} : ∀ {l : List (Int × Int)} {b : Bd}, Inv n w m b → (∀ p ∈ l, 0 ≤ p.1 ∧ p.1 < w ∧ -1 ≤ p.2 ∧ p.2 < w) → Inv n w m (runB n m b l)
  | [], b, I, _ => I
  | p :: l, b, I, h => by
    have hp := h p (by simp)
    have := Inv.run (l := l) (I.step ⟨hp.1, hp.2.1⟩ hp.2.2) fun q hq => h q (by simp [hq])
    exact this

/- Different numbers of a range are not too many. -/
theorem few : ∀ (k : Nat) (a : Int) (L : List Int), L.Nodup → (∀ x ∈ L, a ≤ x ∧ x < a + k) → L.length ≤ k
  | 0, a, L, _, h => by
    match L, h with
    | [], _ => simp
    | x :: r, h => have := h x (by simp); omega
  | k + 1, a, L, hn, h => by
    have := few k a (L.erase (a + k)) (hn.erase _) fun x hx => by
      have hm := (List.Nodup.mem_erase_iff hn).1 hx
      have := h x hm.2
      omega
    rw [List.length_erase] at this
    split at this <;> omega

/- At a switch there are less connections than inputs, if one of these is free. -/
theorem at_switch {n w m : Nat} {b : Bd} {x : Int} (L : List Int) (hn : 0 < n) (hL : L.Nodup) (hx : x ∉ L) : (L.filter fun y => decide (y / (n : Int) = x / n)).length + 1 ≤ n := by
  have h := few n (x / n * n) (x :: (L.filter fun y => decide (y / (n : Int) = x / n))) (List.nodup_cons.2 ⟨fun h => hx (List.mem_filter.1 h).1, hL.filter _⟩) fun y hy => by
    have e : y / (n : Int) = x / n := by
      rcases List.mem_cons.1 hy with rfl | hy
      · rfl
      · simpa using (List.mem_filter.1 hy).2
    have h1 := Int.emod_add_mul_ediv y n
    have h2 := Int.emod_nonneg y (show (n : Int) ≠ 0 by omega)
    have h3 := Int.emod_lt_of_pos y (show (0 : Int) < n by omega)
    rw [e] at h1
    rw [Int.mul_comm]
    constructor <;> omega
  simpa using h

theorem filt_len (p : Int × Int → Bool) (g : Int × Int → Int) (q : Int → Bool) : ∀ (l : List (Int × Int)), (∀ c ∈ l, p c = q (g c)) → (l.filter p).length = ((l.map g).filter q).length
  | [], _ => rfl
  | c :: l, h => by
    have ih := filt_len p g q l fun c hc => h c (by simp [hc])
    have := h c (by simp)
    simp only [List.filter_cons, List.map_cons, this]
    split <;> simp [ih]

/- Numbers that are taken. -/
theorem taken_le {E : List (Int × Int)} {zs : List Int} {e : Int × Int} {m : Nat} (hl : zs.length = E.length) (h : least E zs e m = none) : m ≤ (E.filter fun f => decide (adj f e)).length := by
  have key : ∀ (E : List (Int × Int)) (zs : List Int), zs.length = E.length → ∀ k : Nat, ¬ Fr E zs (k : Int) e → (k : Int) ∈ ((E.zip zs).filter fun q => decide (adj q.1 e)).map (·.2) := by
    intro E zs hl k hk
    refine Classical.byContradiction fun hn => hk fun i hi ⟨h1, h2⟩ => hn ?_
    refine List.mem_map.2 ⟨(eg E i, cl zs i), List.mem_filter.2 ⟨?_, by simpa using h2⟩, h1⟩
    have : (E.zip zs)[i]? = some (eg E i, cl zs i) := by
      rw [List.getElem?_zip_eq_some]
      simp [eg, cl, List.getD_eq_getElem?_getD, List.getElem?_eq_getElem hi, List.getElem?_eq_getElem (show i < E.length by omega)]
    exact List.mem_of_getElem? this
  have cnt : ∀ (E : List (Int × Int)) (zs : List Int), zs.length = E.length → ((E.zip zs).filter fun q => decide (adj q.1 e)).length = (E.filter fun f => decide (adj f e)).length := by
    intro E
    induction E with
    | nil => intro zs h; simp
    | cons f E ih =>
      intro zs h
      match zs, h with
      | z :: zs, h =>
        have := ih zs (by simpa using h)
        simp only [List.zip_cons_cons, List.filter_cons]
        split <;> simp [this]
  have hp := pigeon m ((((E.zip zs).filter fun q => decide (adj q.1 e)).map (·.2)).map Int.toNat) fun a ha => by
    have := key E zs hl a (least_none h a ha)
    exact List.mem_map.2 ⟨_, this, by simp⟩
  rw [List.length_map, List.length_map, cnt E zs hl] at hp
  exact hp

theorem or_len (p q r : Int × Int → Bool) : ∀ l : List (Int × Int), (∀ c ∈ l, r c = true → p c = true ∨ q c = true) → (l.filter r).length ≤ (l.filter p).length + (l.filter q).length
  | [], _ => by simp
  | c :: l, h => by
    have ih := or_len p q r l fun c hc => h c (by simp [hc])
    have hc := h c (by simp)
    simp only [List.filter_cons]
    cases hr : r c <;> cases hp : p c <;> cases hq : q c <;> simp_all <;> omega

/- A connection whose input and output are free finds a middle switch, if there are 2n - 1, or one ingress switch and n. -/
theorem strict_free {n r m : Nat} {b : Bd} {p : Int × Int} (hn : 0 < n) (I : Inv n (n * r) m b) (hs : 2 * n - 1 ≤ m ∨ (r = 1 ∧ n ≤ m)) (hp : 0 ≤ p.1 ∧ p.1 < n * r ∧ 0 ≤ p.2 ∧ p.2 < n * r)
    (h1 : ∀ c ∈ b.1, c.1 ≠ p.1 ∧ c.2 ≠ p.2) : least (b.1.map (eOf n)) b.2 (eOf n p) m ≠ none := fun h => by
  have t := taken_le (by rw [List.length_map, I.len]) h
  have ea : ((b.1.map (eOf n)).filter fun f => decide (adj f (eOf n p))).length = (b.1.filter fun c => decide (adj (eOf n c) (eOf n p))).length := by
    rw [List.filter_map, List.length_map]
    rfl
  rw [ea] at t
  have A := at_switch (n := n) (w := 0) (m := 0) (b := ([], [])) (x := p.1) (b.1.map (·.1)) hn I.inA fun hx => by
    obtain ⟨c, hc, e⟩ := List.mem_map.1 hx
    exact (h1 c hc).1 e
  have B := at_switch (n := n) (w := 0) (m := 0) (b := ([], [])) (x := p.2) (b.1.map (·.2)) hn I.inB fun hx => by
    obtain ⟨c, hc, e⟩ := List.mem_map.1 hx
    exact (h1 c hc).2 e
  rw [← filt_len (fun c => decide (c.1 / (n : Int) = p.1 / n)) (·.1) _ b.1 fun c _ => rfl] at A
  rw [← filt_len (fun c => decide (c.2 / (n : Int) = p.2 / n)) (·.2) _ b.1 fun c _ => rfl] at B
  rcases hs with hs | ⟨hr, hs⟩
  · have := or_len (fun c => decide (c.1 / (n : Int) = p.1 / n)) (fun c => decide (c.2 / (n : Int) = p.2 / n)) (fun c => decide (adj (eOf n c) (eOf n p))) b.1 fun c _ hc => by
      have := of_decide_eq_true hc
      simpa [adj, eOf] using this
    omega
  · subst hr
    have : (b.1.filter fun c => decide (adj (eOf n c) (eOf n p))).length ≤ (b.1.filter fun c => decide (c.1 / (n : Int) = p.1 / n)).length + (b.1.filter fun _ => false).length := or_len _ _ _ b.1 fun c hc _ => by
      left
      have := I.rng c hc
      have e1 : c.1 / (n : Int) = 0 := Int.ediv_eq_zero_of_lt this.1 (by have := this.2.1; rw [Nat.mul_one] at this; exact this)
      have e2 : p.1 / (n : Int) = 0 := Int.ediv_eq_zero_of_lt hp.1 (by have := hp.2.1; simpa using this)
      simp [e1, e2]
    have z : (b.1.filter fun _ => false) = [] := by simp
    rw [z, List.length_nil] at this
    omega

theorem stepC_ok {n r m : Nat} {b : Bd} {p : Int × Int} (hn : 0 < n) (I : Inv n (n * r) m b) (hs : 2 * n - 1 ≤ m ∨ (r = 1 ∧ n ≤ m)) (hp : 0 ≤ p.1 ∧ p.1 < n * r ∧ -1 ≤ p.2 ∧ p.2 < n * r) : (stepC n m b p).1 ≠ -1 := by
  unfold stepC
  by_cases e : p.2 = -1
  · rw [if_pos e]
    split
    · simp
    · rename_i i hi
      have hlt : i < b.2.length := by
        rw [I.len]
        exact (List.findIdx?_eq_some_iff_getElem.1 hi).1
      have := I.mid (cl b.2 i) (by simp [cl, List.getD_eq_getElem?_getD, List.getElem?_eq_getElem hlt])
      simp only [ne_eq]
      omega
  · rw [if_neg e]
    by_cases ea : b.1.any (fun c => decide (c.1 = p.1) || decide (c.2 = p.2)) = true
    · rw [if_pos ea]
      simp
    · rw [if_neg ea]
      have hna : ∀ c ∈ b.1, c.1 ≠ p.1 ∧ c.2 ≠ p.2 := fun c hc => by
        refine Classical.byContradiction fun hx => ea ?_
        rw [List.any_eq_true]
        refine ⟨c, hc, ?_⟩
        simp only [Bool.or_eq_true, decide_eq_true_eq]
        omega
      have := strict_free hn I hs ⟨hp.1, hp.2.1, by omega, hp.2.2.2⟩ hna
      split
      · simp only [ne_eq]
        omega
      · rename_i h
        exact absurd h this

/- Nothing is blocked. -/
theorem serveC_strict {n r m : Nat} (hn : 0 < n) (hs : 2 * n - 1 ≤ m ∨ (r = 1 ∧ n ≤ m)) : ∀ {l : List (Int × Int)} {b : Bd}, Inv n (n * r) m b → (∀ p ∈ l, 0 ≤ p.1 ∧ p.1 < n * r ∧ -1 ≤ p.2 ∧ p.2 < n * r) → (-1 : Int) ∉ serveC n m b l
  | [], b, I, _ => by simp [serveC]
  | p :: l, b, I, h => by
    have hp := h p (by simp)
    simp only [serveC, List.mem_cons, not_or]
    refine ⟨fun e => stepC_ok hn I hs hp e.symm, ?_⟩
    refine serveC_strict hn hs (I.step ⟨hp.1, by exact_mod_cast hp.2.1⟩ ⟨hp.2.2.1, by exact_mod_cast hp.2.2.2⟩) fun q hq => h q (by simp [hq])

theorem firstS_hit {α : Type} {g : Nat → Option α} {x : α} : ∀ {n k j}, k ≤ j → j < k + n → (∀ i, k ≤ i → i < j → g i = none) → g j = some x → firstS g n k = some x
  | 0, k, j, h1, h2, _, _ => by omega
  | n + 1, k, j, h1, h2, h3, h4 => by
    simp only [firstS]
    by_cases e : k = j
    · subst e
      rw [h4]
    · rw [h3 k (Nat.le_refl _) (by omega)]
      exact firstS_hit (by omega) (by omega) (fun i hi hj => h3 i (by omega) hj) h4
theorem firstS_none {α : Type} {g : Nat → Option α} : ∀ {n k}, (∀ i, k ≤ i → i < k + n → g i = none) → firstS g n k = none
  | 0, k, _ => rfl
  | n + 1, k, h => by
    simp only [firstS]
    rw [h k (Nat.le_refl _) (by omega)]
    exact firstS_none fun i hi hj => h i (by omega) (by omega)
end Go.Pa
