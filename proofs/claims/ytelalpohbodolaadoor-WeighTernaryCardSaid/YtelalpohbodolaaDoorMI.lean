/- Powers of three with signs. -/
import Derived.Test.YtelalpohbodolaaDoorDN
set_option linter.unusedVariables false
set_option linter.unusedSimpArgs false
namespace Go.Wg
def p3 (n : Nat) : List Int := (List.range n).map fun i => ((3 ^ i : Nat) : Int)
theorem p3_len (n : Nat) : (p3 n).length = n := by simp [p3]
theorem p3_suc (n : Nat) : p3 (n + 1) = p3 n ++ [((3 ^ n : Nat) : Int)] := by simp [p3, List.range_succ]
theorem p3_get {n i : Nat} (h : i < n) : (p3 n).getD i 0 = ((3 ^ i : Nat) : Int) := by
  simp [p3, List.getD_eq_getElem?_getD, h]
def hs : Nat → Nat
  | 0 => 0
  | n + 1 => hs n + 3 ^ n
theorem hs_eq : ∀ n, 2 * hs n + 1 = 3 ^ n
  | 0 => rfl
  | n + 1 => by have := hs_eq n; rw [hs, Nat.pow_succ]; omega
def val : List Int → Int
  | [] => 0
  | d :: l => d + 3 * val l
def tri (l : List Int) : Prop := ∀ x ∈ l, -1 ≤ x ∧ x ≤ 1
theorem val_snoc : ∀ (l : List Int) (x : Int), val (l ++ [x]) = val l + ((3 ^ l.length : Nat) : Int) * x
  | [], x => by simp [val]
  | d :: l, x => by
    have ih := val_snoc l x
    rw [List.cons_append, val, val, ih, List.length_cons]
    have e : ((3 ^ (l.length + 1) : Nat) : Int) = 3 * ((3 ^ l.length : Nat) : Int) := by rw [Nat.pow_succ]; omega
    rw [e]
    generalize ((3 ^ l.length : Nat) : Int) = T
    grind
theorem val_inj : ∀ {l m : List Int}, tri l → tri m → l.length = m.length → val l = val m → l = m
  | [], [], _, _, _, _ => rfl
  | [], _ :: _, _, _, h, _ => by simp at h
  | _ :: _, [], _, _, h, _ => by simp at h
  | a :: l, b :: m, hl, hm, h, e => by
    have ha := hl a (by simp)
    have hb := hm b (by simp)
    rw [val, val] at e
    have e1 : a = b := by omega
    have e2 : val l = val m := by omega
    rw [e1, val_inj (fun x hx => hl x (List.mem_cons_of_mem _ hx)) (fun x hx => hm x (List.mem_cons_of_mem _ hx)) (by simpa using h) e2]
theorem val_bd : ∀ {l : List Int}, tri l → -(hs l.length : Int) ≤ val l ∧ val l ≤ hs l.length
  | [], _ => by simp [val, hs]
  | a :: l, hl => by
    have ha := hl a (by simp)
    have ih := val_bd (l := l) fun x hx => hl x (List.mem_cons_of_mem _ hx)
    have h1 := hs_eq l.length
    rw [val, List.length_cons, hs]
    omega
theorem wg_tri (n k : Nat) : tri (wg n k) := wg_bd n k
theorem wg_sur : ∀ {n : Nat} {l : List Int}, tri l → l.length = n → ∃ s, s < 3 ^ n ∧ wg n s = l
  | 0, l, _, h => ⟨0, by simp, by rw [List.length_eq_zero_iff.1 h]; rfl⟩
  | n + 1, l, ht, h => by
    have hne : l ≠ [] := fun e => by rw [e] at h; simp at h
    have e := List.dropLast_concat_getLast hne
    obtain ⟨s, hs, ih⟩ := wg_sur (n := n) (l := l.dropLast) (fun x hx => ht x (List.dropLast_subset l hx)) (by rw [List.length_dropLast]; omega)
    have hx := ht (l.getLast hne) (List.getLast_mem hne)
    obtain ⟨d, hd⟩ : ∃ d : Nat, (d : Int) = 1 - l.getLast hne := ⟨(1 - l.getLast hne).toNat, by omega⟩
    refine ⟨s * 3 + d, by rw [Nat.pow_succ]; omega, ?_⟩
    rw [wg, show (s * 3 + d) / 3 = s by omega, show (s * 3 + d) % 3 = d by omega, ih, hd]
    rw [show 1 - (1 - l.getLast hne) = l.getLast hne by omega]
    exact e
theorem wsum_val {n : Nat} {l Z : List Int} (h : l.length = n) : ∀ i, i ≤ n → wsum (l ++ Z) (p3 n) i = val (l.take i)
  | 0, _ => by simp [wsum, val]
  | i + 1, hi => by
    have ih := wsum_val (l := l) (Z := Z) h i (by omega)
    have e1 : (l ++ Z).getD i 0 = l.getD i 0 := by
      rw [List.getD_eq_getElem?_getD, List.getElem?_append_left (by omega), ← List.getD_eq_getElem?_getD]
    have e2 : l.take (i + 1) = l.take i ++ [l.getD i 0] := by
      rw [List.take_succ_eq_append_getElem (by omega), List.getD_eq_getElem?_getD, List.getElem?_eq_getElem (by omega), Option.getD_some]
    rw [wsum, ih, e1, p3_get (by omega), e2, val_snoc, List.length_take, show min i l.length = i by omega, Int.mul_comm]
theorem wP_val {n : Nat} {t : Int} {s : Nat} : wP (p3 n) t s = decide (val (wg n s) = t) := by
  unfold wP
  rw [p3_len]
  have e : cw n s 0 = wg n s ++ List.replicate (9 - n) 0 := by unfold cw; simp
  rw [e, wsum_val (wg_len n s) n (Nat.le_refl _), List.take_of_length_le (by rw [wg_len]; exact Nat.le_refl _)]
/- Balanced digits. -/
def dg (t : Int) : Int := if t % 3 = 2 then -1 else t % 3
theorem dg_bd (t : Int) : -1 ≤ dg t ∧ dg t ≤ 1 := by unfold dg; split <;> omega
def rst (t : Int) : Nat → Int
  | 0 => t
  | i + 1 => (rst t i - dg (rst t i)) / 3
def bts (t : Int) : Nat → List Int
  | 0 => []
  | i + 1 => bts t i ++ [dg (rst t i)]
theorem bts_len (t : Int) : ∀ i, (bts t i).length = i
  | 0 => rfl
  | i + 1 => by rw [bts, List.length_append, bts_len t i]; rfl
theorem bts_tri (t : Int) : ∀ i, tri (bts t i)
  | 0 => fun x hx => by simp [bts] at hx
  | i + 1 => fun x hx => by
    rw [bts, List.mem_append, List.mem_singleton] at hx
    rcases hx with hx | rfl
    · exact bts_tri t i x hx
    · exact dg_bd _
theorem bts_val (t : Int) : ∀ i, val (bts t i) + ((3 ^ i : Nat) : Int) * rst t i = t
  | 0 => by simp [bts, val, rst]
  | i + 1 => by
    have ih := bts_val t i
    have e : rst t i = dg (rst t i) + 3 * rst t (i + 1) := by
      rw [rst]
      generalize rst t i = r
      unfold dg
      split <;> omega
    rw [bts, val_snoc, bts_len]
    have e2 : ((3 ^ (i + 1) : Nat) : Int) = 3 * ((3 ^ i : Nat) : Int) := by rw [Nat.pow_succ]; omega
    rw [e2]
    rw [e] at ih
    generalize ((3 ^ i : Nat) : Int) = T at *
    rw [show dg (rst t i) + 3 * rst t (i + 1) = dg (rst t i) + 3 * rst t (i + 1) from rfl] at ih
    have e3 : dg (dg (rst t i) + 3 * rst t (i + 1)) = dg (rst t i) := by rw [← e]
    rw [← ih]
    grind
theorem rst_bd {t B : Int} (h : 0 ≤ t ∧ t ≤ B) : ∀ i, 0 ≤ rst t i ∧ rst t i ≤ B
  | 0 => h
  | i + 1 => by
    have ih := rst_bd h i
    rw [rst]
    generalize rst t i = r at *
    unfold dg
    split <;> omega
theorem rst_zero {t : Int} {n : Nat} (h : 0 ≤ t ∧ t ≤ hs n) : val (bts t n) = t := by
  have h1 := bts_val t n
  have h2 := val_bd (bts_tri t n)
  rw [bts_len] at h2
  have h3 := hs_eq n
  have h4 := rst_bd (B := t) ⟨h.1, Int.le_refl _⟩ n
  have h5 : rst t n = 0 := by
    rcases Int.lt_or_le 0 (rst t n) with h6 | h6
    · exfalso
      have h7 : ((3 ^ n : Nat) : Int) * 1 ≤ ((3 ^ n : Nat) : Int) * rst t n := Int.mul_le_mul_of_nonneg_left (by omega) (by omega)
      generalize ((3 ^ n : Nat) : Int) * rst t n = M at *
      omega
    · omega
  rw [h5, Int.mul_zero] at h1
  omega
/- What Pans finds among powers of three. -/
theorem tern_some {n : Nat} {t : Int} (h : 0 ≤ t ∧ t ≤ hs n) : ∃ s, wfst n (wP (p3 n) t) = some s ∧ wg n s = bts t n := by
  obtain ⟨s, h1, h2⟩ := wg_sur (bts_tri t n) (bts_len t n)
  cases e : wfst n (wP (p3 n) t) with
  | none =>
    unfold wfst at e
    rw [List.find?_eq_none] at e
    have := e s (List.mem_range.2 h1)
    rw [wP_val, h2, rst_zero h] at this
    simp at this
  | some s' =>
    refine ⟨s', rfl, val_inj (wg_tri _ _) (bts_tri _ _) (by rw [wg_len, bts_len]) ?_⟩
    unfold wfst at e
    have := List.find?_some e
    rw [wP_val, decide_eq_true_eq] at this
    rw [this, rst_zero h]
theorem tern_none {n : Nat} : wfst n (wP (p3 n) (hs n + 1)) = none := by
  unfold wfst
  rw [List.find?_eq_none]
  intro s _
  have := val_bd (wg_tri n s)
  rw [wg_len] at this
  rw [wP_val]
  simp
  omega
end Go.Wg
