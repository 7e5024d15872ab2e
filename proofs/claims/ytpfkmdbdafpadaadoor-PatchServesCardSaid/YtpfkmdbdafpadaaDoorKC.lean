import Derived.Test.YtpfkmdbdafpadaaDoorKA
/- Benes networks: what their settings do, and how settings are put together. -/
set_option linter.unusedSimpArgs false
set_option linter.unusedVariables false
namespace Go.Pa

def swc : Nat → Nat
  | 0 => 0
  | 1 => 1
  | k + 2 => 2 ^ (k + 2) + 2 * swc (k + 1)
def nt (l : List Nat) (i : Nat) : Nat := l.getD i 0
/- The outputs of settings. -/
def outs : Nat → List Nat → List Nat
  | 0, _ => []
  | 1, S => [(0 + nt S 0) % 2, (1 + nt S 0) % 2]
  | k + 2, S =>
    let U := outs (k + 1) ((S.drop (2 ^ (k + 1))).take (swc (k + 1)))
    let L := outs (k + 1) ((S.drop (2 ^ (k + 1) + swc (k + 1))).take (swc (k + 1)))
    (List.range (2 ^ (k + 2))).map fun i =>
      let net := (i % 2 + nt S (i / 2)) % 2
      let at' := nt (if net = 0 then U else L) (i / 2)
      2 * at' + (net + nt S (2 ^ (k + 1) + 2 * swc (k + 1) + at')) % 2
structure IsPerm (n : Nat) (l : List Nat) : Prop where
  len : l.length = n
  lt : ∀ i, i < n → nt l i < n
  inj : ∀ i j, i < n → j < n → nt l i = nt l j → i = j
structure IsSet (k : Nat) (perm S : List Nat) : Prop where
  len : S.length = swc k
  bit : ∀ b ∈ S, b < 2
  out : outs k S = perm

theorem nt_eq {l : List Nat} {i : Nat} (h : i < l.length) : nt l i = l[i] := by simp [nt, List.getD_eq_getElem?_getD, List.getElem?_eq_getElem h]
theorem nt_app_l {l m : List Nat} {i : Nat} (h : i < l.length) : nt (l ++ m) i = nt l i := by simp [nt, List.getD_eq_getElem?_getD, List.getElem?_append_left h]
theorem nt_app_r {l m : List Nat} {i : Nat} : nt (l ++ m) (l.length + i) = nt m i := by
  simp [nt, List.getD_eq_getElem?_getD, List.getElem?_append_right (Nat.le_add_right l.length i)]

/- A switch's two inputs, or outputs, go to different networks. -/
structure Split (k : Nat) (perm : List Nat) (z : Nat → Nat) : Prop where
  bit : ∀ i, i < 2 ^ (k + 1) → z i < 2
  ins : ∀ i j, i < 2 ^ (k + 1) → j < 2 ^ (k + 1) → i ≠ j → i / 2 = j / 2 → z i ≠ z j
  out : ∀ i j, i < 2 ^ (k + 1) → j < 2 ^ (k + 1) → i ≠ j → nt perm i / 2 = nt perm j / 2 → z i ≠ z j

/- What the parts of settings are. -/
structure Parts (k : Nat) (perm : List Nat) (z : Nat → Nat) (F La N0 N1 : List Nat) : Prop where
  lf : F.length = 2 ^ k
  ll : La.length = 2 ^ k
  l0 : N0.length = 2 ^ k
  l1 : N1.length = 2 ^ k
  f : ∀ i, i < 2 ^ (k + 1) → nt F (i / 2) = (i % 2 + z i) % 2
  l : ∀ i, i < 2 ^ (k + 1) → nt La (nt perm i / 2) = (z i + nt perm i % 2) % 2
  n : ∀ i, i < 2 ^ (k + 1) → nt (if z i = 0 then N0 else N1) (i / 2) = nt perm i / 2

theorem Split.at {k : Nat} {perm : List Nat} {z : Nat → Nat} (S : Split k perm z) {a b : Nat} (ha : a < 2 ^ k) (hb : b < 2) : ∃ i, i < 2 ^ (k + 1) ∧ i / 2 = a ∧ z i = b := by
  have e : 2 ^ (k + 1) = 2 * 2 ^ k := by rw [Nat.pow_succ]; omega
  have h0 := S.bit (2 * a) (by omega)
  have h1 := S.bit (2 * a + 1) (by omega)
  have hn := S.ins (2 * a) (2 * a + 1) (by omega) (by omega) (by omega) (by omega)
  by_cases h : z (2 * a) = b
  · exact ⟨2 * a, by omega, by omega, h⟩
  · exact ⟨2 * a + 1, by omega, by omega, by omega⟩

theorem Parts.perm0 {k : Nat} {perm : List Nat} {z : Nat → Nat} {F La N0 N1 : List Nat} (P : IsPerm (2 ^ (k + 1)) perm) (S : Split k perm z) (H : Parts k perm z F La N0 N1) (b : Nat) (hb : b < 2) : IsPerm (2 ^ k) (if b = 0 then N0 else N1) := by
  have e : 2 ^ (k + 1) = 2 * 2 ^ k := by rw [Nat.pow_succ]; omega
  have get : ∀ a, a < 2 ^ k → ∃ i, i < 2 ^ (k + 1) ∧ i / 2 = a ∧ z i = b ∧ nt (if b = 0 then N0 else N1) a = nt perm i / 2 := fun a ha => by
    obtain ⟨i, h1, h2, h3⟩ := S.at ha hb
    have := H.n i h1
    rw [h3, h2] at this
    exact ⟨i, h1, h2, h3, this⟩
  refine ⟨by split; exact H.l0; exact H.l1, fun a ha => ?_, fun a c ha hc h => ?_⟩
  · obtain ⟨i, h1, h2, h3, h4⟩ := get a ha
    have := P.lt i h1
    omega
  · obtain ⟨i, h1, h2, h3, h4⟩ := get a ha
    obtain ⟨j, g1, g2, g3, g4⟩ := get c hc
    by_cases hij : i = j
    · omega
    · have := S.out i j h1 g1 hij (by omega)
      omega

/- Settings for both inner networks make settings for the whole. -/
theorem join {k : Nat} {perm : List Nat} {z : Nat → Nat} {F La N0 N1 U L : List Nat} (hk : 0 < k) (P : IsPerm (2 ^ (k + 1)) perm) (S : Split k perm z) (H : Parts k perm z F La N0 N1)
    (hF : ∀ b ∈ F, b < 2) (hLa : ∀ b ∈ La, b < 2) (hU : IsSet k N0 U) (hL : IsSet k N1 L) : IsSet (k + 1) perm (F ++ (U ++ (L ++ La))) := by
  obtain ⟨j, rfl⟩ : ∃ j, k = j + 1 := ⟨k - 1, by omega⟩
  refine ⟨?_, fun b hb => ?_, ?_⟩
  · simp only [List.length_append, H.lf, H.ll, hU.len, hL.len, swc]
    rw [Nat.pow_succ 2 (j + 1)]
    omega
  · simp only [List.mem_append] at hb
    rcases hb with h | h | h | h
    · exact hF b h
    · exact hU.bit b h
    · exact hL.bit b h
    · exact hLa b h
  · have e1 : ((F ++ (U ++ (L ++ La))).drop (2 ^ (j + 1))).take (swc (j + 1)) = U := by
      rw [← H.lf, List.drop_left, ← hU.len, List.take_left]
    have e2 : ((F ++ (U ++ (L ++ La))).drop (2 ^ (j + 1) + swc (j + 1))).take (swc (j + 1)) = L := by
      rw [← H.lf, ← List.drop_drop, List.drop_left, ← hU.len, List.drop_left, hU.len, ← hL.len, List.take_left]
    simp only [outs, e1, e2, hU.out, hL.out]
    refine List.ext_getElem (by simp [P.len]) fun i h1 h2 => ?_
    rw [P.len] at h2
    simp only [List.getElem_map, List.getElem_range]
    have e3 : nt (F ++ (U ++ (L ++ La))) (i / 2) = (i % 2 + z i) % 2 := by
      rw [nt_app_l (by rw [H.lf]; rw [Nat.pow_succ] at h2; omega), H.f i h2]
    have hz := S.bit i h2
    have e4 : (i % 2 + (i % 2 + z i) % 2) % 2 = z i := by omega
    rw [e3, e4, H.n i h2]
    have e5 : nt (F ++ (U ++ (L ++ La))) (2 ^ (j + 1) + 2 * swc (j + 1) + nt perm i / 2) = nt La (nt perm i / 2) := by
      rw [show 2 ^ (j + 1) + 2 * swc (j + 1) + nt perm i / 2 = F.length + (U.length + (L.length + nt perm i / 2)) by rw [H.lf, hU.len, hL.len]; omega, nt_app_r, nt_app_r, nt_app_r]
    rw [e5, H.l i h2]
    rw [← nt_eq (l := perm)]
    omega

theorem base {perm : List Nat} (P : IsPerm 2 perm) : IsSet 1 perm [nt perm 0] := by
  have h0 := P.lt 0 (by omega)
  have h1 := P.lt 1 (by omega)
  have hi := fun h => P.inj 0 1 (by omega) (by omega) h
  refine ⟨rfl, by simpa using h0, ?_⟩
  have hl := P.len
  match perm, hl with
  | [a, b], _ =>
    simp only [nt, List.getD_eq_getElem?_getD, List.getElem?_cons_zero, List.getElem?_cons_succ, Option.getD_some] at h0 h1 hi
    simp only [outs, nt, List.getD_eq_getElem?_getD, List.getElem?_cons_zero, Option.getD_some]
    congr 1
    · omega
    · congr 1
      omega
end Go.Pa
