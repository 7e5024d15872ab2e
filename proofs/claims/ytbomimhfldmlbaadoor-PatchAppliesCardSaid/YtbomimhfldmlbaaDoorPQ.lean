/- Benes networks: the mathematics of making settings out of colours. -/
import Derived.Test.YtbomimhfldmlbaaDoorPO
import Derived.Test.YtbomimhfldmlbaaDoorPF
set_option linter.unusedSimpArgs false
set_option linter.unusedVariables false
set_option maxHeartbeats 4000000
set_option maxRecDepth 20000
namespace Go.Pa
open Go Go.Abs
theorem getD_set' {l : List Int} {i x : Nat} {v : Int} (h : i < l.length) : (l.set i v).getD x 0 = if i = x then v else l.getD x 0 := by
  simp only [List.getD_eq_getElem?_getD, List.getElem?_set]
  by_cases e : i = x
  · subst e; simp [h]
  · simp [e]
theorem sB_at {S : List Nat} {x : Nat} (h : x < S.length) : (sB S).getD x 0 = ((48 + nt S x : Nat) : Int) := by
  rw [nt_eq h]
  simp [sB, List.getD_eq_getElem?_getD, List.getElem?_eq_getElem h]
theorem sB_len {S : List Nat} : (sB S).length = S.length := by simp [sB]
theorem ofN_nt {l : List Nat} {x : Nat} : (ofN l).getD x 0 = ((nt l x : Nat) : Int) := ofN_at
theorem nt_rng {f : Nat → Nat} {n x : Nat} (h : x < n) : nt ((List.range n).map f) x = f x := by
  simp [nt, List.getD_eq_getElem?_getD, h]
theorem IsPerm.nodup {n : Nat} {P : List Nat} (h : IsPerm n P) : (ofN P).Nodup := by
  unfold ofN
  rw [List.Nodup, List.pairwise_map]
  refine List.pairwise_iff_getElem.2 fun i j hi hj hij e => ?_
  have hl := h.len
  have := h.inj i j (by omega) (by omega) (by rw [nt_eq hi, nt_eq hj]; omega)
  omega
theorem IsPerm.onto {n : Nat} {P : List Nat} (h : IsPerm n P) {v : Nat} (hv : v < n) : ∃ i, i < n ∧ nt P i = v := by
  refine Classical.byContradiction fun H => ?_
  have hl := h.len
  have := few n 0 ((v : Int) :: ofN P) (List.nodup_cons.2 ⟨fun hm => ?_, h.nodup⟩) ?_
  · simp [ofN_len] at this
    omega
  · obtain ⟨x, hx, e⟩ := List.mem_map.1 hm
    obtain ⟨i, hi, rfl⟩ := List.getElem_of_mem hx
    exact H ⟨i, by omega, by rw [nt_eq hi]; omega⟩
  · intro x hx
    rcases List.mem_cons.1 hx with rfl | hx
    · omega
    · obtain ⟨y, hy, rfl⟩ := List.mem_map.1 hx
      obtain ⟨i, hi, rfl⟩ := List.getElem_of_mem hy
      have := h.lt i (by omega)
      rw [nt_eq hi] at this
      omega
theorem split_of {k : Nat} {P : List Nat} {ys : List Int} (hP : IsPerm (2 ^ (k + 1)) P) (hp : Prp (edgs 2 (ofN P)) ys) (hl : ys.length = 2 ^ (k + 1)) (hb : ∀ z ∈ ys, 0 ≤ z ∧ z < (2 : Nat)) : Split k P (fun i => (ys.getD i 0).toNat) := by
  have bd : ∀ i, i < 2 ^ (k + 1) → 0 ≤ ys.getD i 0 ∧ ys.getD i 0 < 2 := fun i hi => by
    rw [getD_at (by omega)]
    have := hb _ (List.getElem_mem (show i < ys.length by omega))
    omega
  have hPl := hP.len
  have main : ∀ i j, i < 2 ^ (k + 1) → j < i → (i / 2 = j / 2 ∨ nt P i / 2 = nt P j / 2) → (ys.getD i 0).toNat ≠ (ys.getD j 0).toNat := fun i j hi hj h e => by
    have b1 := bd i hi
    have b2 := bd j (by omega)
    refine hp i (by omega) j hj ⟨show ys.getD i 0 = ys.getD j 0 by omega, ?_⟩
    rw [edgs_at (by rw [ofN_len]; omega), edgs_at (by rw [ofN_len]; omega), ofN_nt, ofN_nt]
    rcases h with h | h
    · left; simp only; omega
    · right; simp only; omega
  have both : ∀ i j, i < 2 ^ (k + 1) → j < 2 ^ (k + 1) → i ≠ j → (i / 2 = j / 2 ∨ nt P i / 2 = nt P j / 2) → (ys.getD i 0).toNat ≠ (ys.getD j 0).toNat := fun i j hi hj hne h => by
    by_cases hij : j < i
    · exact main i j hi hij h
    · exact fun e => main j i hj (by omega) (h.elim (fun h => .inl h.symm) fun h => .inr h.symm) e.symm
  exact ⟨fun i hi => by have := bd i hi; omega, fun i j hi hj hne h => both i j hi hj hne (.inl h), fun i j hi hj hne h => both i j hi hj hne (.inr h)⟩

structure BI (col n : Nat) (P : List Nat) (z : Nat → Nat) (i : Nat) (Z L0 L1 : List Int) : Prop where
  lz : Z.length = 2 * col + 2 * n
  l0 : L0.length = col
  l1 : L1.length = col
  f : ∀ x, x < i → Z.getD (x / 2) 0 = ((48 + (x % 2 + z x) % 2 : Nat) : Int)
  l : ∀ x, x < i → Z.getD (col + 2 * n + nt P x / 2) 0 = ((48 + (z x + nt P x % 2) % 2 : Nat) : Int)
  u : ∀ x, x < i → z x = 0 → L0.getD (x / 2) 0 = ((nt P x / 2 : Nat) : Int)
  w : ∀ x, x < i → z x ≠ 0 → L1.getD (x / 2) 0 = ((nt P x / 2 : Nat) : Int)
theorem BI.zero {col n : Nat} {P : List Nat} {z : Nat → Nat} {Z L0 L1 : List Int} (h1 : Z.length = 2 * col + 2 * n) (h2 : L0.length = col) (h3 : L1.length = col) : BI col n P z 0 Z L0 L1 :=
  ⟨h1, h2, h3, fun x h => absurd h (by omega), fun x h => absurd h (by omega), fun x h => absurd h (by omega), fun x h => absurd h (by omega)⟩
theorem BI.step {col n k i : Nat} {P : List Nat} {z : Nat → Nat} {Z L0 L1 : List Int} (B : BI col n P z i Z L0 L1) (hP : IsPerm (2 ^ (k + 1)) P) (S : Split k P z) (hi : i < 2 ^ (k + 1)) (hc : 2 ^ (k + 1) = 2 * col) :
    BI col n P z (i + 1) ((Z.set (i / 2) ((48 + (i % 2 + z i) % 2 : Nat) : Int)).set (col + 2 * n + nt P i / 2) ((48 + (z i + nt P i % 2) % 2 : Nat) : Int))
      (if z i = 0 then L0.set (i / 2) ((nt P i / 2 : Nat) : Int) else L0) (if z i = 0 then L1 else L1.set (i / 2) ((nt P i / 2 : Nat) : Int)) := by
  have pi := hP.lt i hi
  have zi := S.bit i hi
  have lz := B.lz
  have l0 := B.l0
  have l1 := B.l1
  have s1 : i / 2 < Z.length := by omega
  have s2 : col + 2 * n + nt P i / 2 < (Z.set (i / 2) ((48 + (i % 2 + z i) % 2 : Nat) : Int)).length := by rw [List.length_set]; omega
  refine ⟨by simp [lz], by split <;> simp [l0], by split <;> simp [l1], fun x hx => ?_, fun x hx => ?_, fun x hx zx => ?_, fun x hx zx => ?_⟩
  · rw [getD_set' s2, if_neg (by omega), getD_set' s1]
    by_cases e : x = i
    · subst e; rw [if_pos rfl]
    · by_cases e2 : i / 2 = x / 2
      · rw [if_pos e2]
        have := S.ins x i (by omega) hi e e2.symm
        have := S.bit x (by omega)
        congr 2
        omega
      · rw [if_neg e2]; exact B.f x (by omega)
  · rw [getD_set' s2]
    by_cases e : x = i
    · subst e; rw [if_pos rfl]
    · by_cases e2 : nt P i / 2 = nt P x / 2
      · rw [if_pos (by omega)]
        have h1 := S.out x i (by omega) hi e e2.symm
        have h2 := S.bit x (by omega)
        have h3 : nt P x ≠ nt P i := fun h => e (hP.inj x i (by omega) hi h)
        congr 2
        omega
      · rw [if_neg (by omega), getD_set' s1, if_neg (by omega)]; exact B.l x (by omega)
  · by_cases e : x = i
    · subst e
      rw [if_pos zx, getD_set' (by omega), if_pos rfl]
    · by_cases e3 : z i = 0
      · have : i / 2 ≠ x / 2 := fun e2 => S.ins x i (by omega) hi e e2.symm (by omega)
        rw [if_pos e3, getD_set' (by omega), if_neg this]; exact B.u x (by omega) zx
      · rw [if_neg e3]; exact B.u x (by omega) zx
  · by_cases e : x = i
    · subst e
      rw [if_neg zx, getD_set' (by omega), if_pos rfl]
    · by_cases e3 : z i = 0
      · rw [if_pos e3]; exact B.w x (by omega) zx
      · have hzx := S.bit x (by omega)
        have : i / 2 ≠ x / 2 := fun e2 => S.ins x i (by omega) hi e e2.symm (by omega)
        rw [if_neg e3, getD_set' (by omega), if_neg this]; exact B.w x (by omega) zx
theorem ofN_rng {L : List Int} (h : ∀ x, x < L.length → 0 ≤ L.getD x 0) : L = ofN ((List.range L.length).map fun x => (L.getD x 0).toNat) := by
  refine List.ext_getElem (by simp [ofN]) fun i h1 h2 => ?_
  have := h i h1
  rw [getD_at h1] at this
  simp [ofN, List.getD_eq_getElem?_getD, List.getElem?_eq_getElem h1]
  omega
theorem BI.done {col n k : Nat} {P : List Nat} {z : Nat → Nat} {Z L0 L1 : List Int} (B : BI col n P z (2 ^ (k + 1)) Z L0 L1) (hP : IsPerm (2 ^ (k + 1)) P) (S : Split k P z) (hc : col = 2 ^ k) :
    ∃ F La N0 N1, Parts k P z F La N0 N1 ∧ Bits F ∧ Bits La ∧ L0 = ofN N0 ∧ L1 = ofN N1 ∧ (∀ x, x < col → Z.getD x 0 = ((48 + nt F x : Nat) : Int)) ∧ (∀ x, x < col → Z.getD (col + 2 * n + x) 0 = ((48 + nt La x : Nat) : Int)) := by
  have e : 2 ^ (k + 1) = 2 * 2 ^ k := by rw [Nat.pow_succ]; omega
  have l0 := B.l0
  have l1 := B.l1
  have zF : ∀ a, a < col → ∃ b, b < 2 ∧ Z.getD a 0 = ((48 + b : Nat) : Int) := fun a ha => by
    have := B.f (2 * a) (by omega)
    rw [show 2 * a / 2 = a by omega] at this
    exact ⟨_, Nat.mod_lt _ (by omega), this⟩
  have zL : ∀ a, a < col → ∃ b, b < 2 ∧ Z.getD (col + 2 * n + a) 0 = ((48 + b : Nat) : Int) := fun a ha => by
    obtain ⟨i, hi, hv⟩ := hP.onto (v := 2 * a) (by omega)
    have := B.l i hi
    rw [hv, show 2 * a / 2 = a by omega] at this
    exact ⟨_, Nat.mod_lt _ (by omega), this⟩
  obtain ⟨F, eF⟩ : ∃ F, F = (List.range col).map fun x => (Z.getD x 0 - 48).toNat := ⟨_, rfl⟩
  obtain ⟨La, eL⟩ : ∃ F, F = (List.range col).map fun x => (Z.getD (col + 2 * n + x) 0 - 48).toNat := ⟨_, rfl⟩
  have nF : ∀ x, x < col → nt F x = (Z.getD x 0 - 48).toNat := fun x hx => by rw [eF, nt_rng hx]
  have nL : ∀ x, x < col → nt La x = (Z.getD (col + 2 * n + x) 0 - 48).toNat := fun x hx => by rw [eL, nt_rng hx]
  have g0 : ∀ x, x < L0.length → 0 ≤ L0.getD x 0 := fun a ha => by
    obtain ⟨i, h1, h2, h3⟩ := S.at (a := a) (b := 0) (by omega) (by omega)
    have := B.u i h1 h3
    rw [h2] at this
    omega
  have g1 : ∀ x, x < L1.length → 0 ≤ L1.getD x 0 := fun a ha => by
    obtain ⟨i, h1, h2, h3⟩ := S.at (a := a) (b := 1) (by omega) (by omega)
    have := B.w i h1 (by omega)
    rw [h2] at this
    omega
  refine ⟨F, La, (List.range L0.length).map fun x => (L0.getD x 0).toNat, (List.range L1.length).map fun x => (L1.getD x 0).toNat, ⟨by simp [eF, hc], by simp [eL, hc], by simp; omega, by simp; omega, fun i hi => ?_, fun i hi => ?_, fun i hi => ?_⟩, ?_, ?_, ofN_rng g0, ofN_rng g1, fun x hx => ?_, fun x hx => ?_⟩
  · rw [nF _ (by omega), B.f i hi]; omega
  · have := hP.lt i hi
    rw [nL _ (by omega), B.l i hi]; omega
  · by_cases hz : z i = 0
    · rw [if_pos hz, nt_rng (by omega), B.u i hi hz]; omega
    · rw [if_neg hz, nt_rng (by omega), B.w i hi hz]; omega
  · intro b hb
    rw [eF] at hb
    obtain ⟨x, hx, rfl⟩ := List.mem_map.1 hb
    obtain ⟨b, h1, h2⟩ := zF x (List.mem_range.1 hx)
    rw [h2]; omega
  · intro b hb
    rw [eL] at hb
    obtain ⟨x, hx, rfl⟩ := List.mem_map.1 hb
    obtain ⟨b, h1, h2⟩ := zL x (List.mem_range.1 hx)
    rw [h2]; omega
  · obtain ⟨b, h1, h2⟩ := zF x hx
    rw [nF x hx, h2]; omega
  · obtain ⟨b, h1, h2⟩ := zL x hx
    rw [nL x hx, h2]; omega

structure CI (col n j : Nat) (F La N0 N1 : List Nat) (i : Nat) (Z : List Int) : Prop where
  lz : Z.length = 2 * col + 2 * n
  f : ∀ x, x < col → Z.getD x 0 = ((48 + nt F x : Nat) : Int)
  l : ∀ x, x < col → Z.getD (col + 2 * n + x) 0 = ((48 + nt La x : Nat) : Int)
  u : 0 < i → ∃ U, IsSet j N0 U ∧ ∀ x, x < n → Z.getD (col + x) 0 = ((48 + nt U x : Nat) : Int)
  w : 1 < i → ∃ U, IsSet j N1 U ∧ ∀ x, x < n → Z.getD (col + n + x) 0 = ((48 + nt U x : Nat) : Int)
theorem getD_put {Z W : List Int} {p q : Nat} (h : p + W.length ≤ Z.length) : (Z.take p ++ W ++ Z.drop (p + W.length)).getD q 0 = if p ≤ q ∧ q < p + W.length then W.getD (q - p) 0 else Z.getD q 0 := by
  simp only [List.getD_eq_getElem?_getD]
  have lt : (Z.take p).length = p := by simp; omega
  by_cases h1 : q < p
  · rw [if_neg (by omega), List.append_assoc, List.getElem?_append_left (by omega), List.getElem?_take_of_lt h1]
  · by_cases h2 : q < p + W.length
    · rw [if_pos (by omega), List.append_assoc, List.getElem?_append_right (by omega), lt, List.getElem?_append_left (by omega)]
    · rw [if_neg (by omega), List.getElem?_append_right (by simp; omega), List.getElem?_drop]
      congr 2
      simp
      omega
theorem CI.step {col n j i : Nat} {F La N0 N1 S : List Nat} {Z : List Int} (C : CI col n j F La N0 N1 i Z) (hi : i < 2) (hn : swc j = n) (hS : IsSet j (if i = 0 then N0 else N1) S) :
    CI col n j F La N0 N1 (i + 1) (Z.take (col + i * n) ++ sB S ++ Z.drop (col + i * n + n)) := by
  have lz := C.lz
  have lS : (sB S).length = n := by rw [sB_len, hS.len, hn]
  have lS' : S.length = n := by rw [hS.len, hn]
  have key : ∀ q, (Z.take (col + i * n) ++ sB S ++ Z.drop (col + i * n + n)).getD q 0 = if col + i * n ≤ q ∧ q < col + i * n + n then (sB S).getD (q - (col + i * n)) 0 else Z.getD q 0 := fun q => by
    have hin : i * n ≤ 1 * n := Nat.mul_le_mul_right _ (by omega)
    have := getD_put (Z := Z) (W := sB S) (p := col + i * n) (q := q) (by omega)
    rw [lS] at this
    exact this
  have h01 : i = 0 ∨ i = 1 := by omega
  rcases h01 with rfl | rfl
  · rw [if_pos rfl] at hS
    simp only [Nat.zero_mul, Nat.add_zero] at key ⊢
    refine ⟨by simp [lS]; omega, fun x hx => ?_, fun x hx => ?_, fun _ => ⟨S, hS, fun x hx => ?_⟩, fun h => absurd h (by omega)⟩
    · rw [key, if_neg (by omega)]; exact C.f x hx
    · rw [key, if_neg (by omega)]; exact C.l x hx
    · rw [key, if_pos (by omega), show col + x - col = x by omega, sB_at (by omega)]
  · rw [if_neg (by omega)] at hS
    simp only [Nat.one_mul] at key ⊢
    obtain ⟨U, u1, u2⟩ := C.u (by omega)
    refine ⟨by simp [lS]; omega, fun x hx => ?_, fun x hx => ?_, fun _ => ⟨U, u1, fun x hx => ?_⟩, fun _ => ⟨S, hS, fun x hx => ?_⟩⟩
    · rw [key, if_neg (by omega)]; exact C.f x hx
    · rw [key, if_neg (by omega)]; exact C.l x hx
    · rw [key, if_neg (by omega)]; exact u2 x hx
    · rw [key, if_pos (by omega), show col + n + x - (col + n) = x by omega, sB_at (by omega)]
theorem CI.done {col n j : Nat} {P F La N0 N1 : List Nat} {z : Nat → Nat} {Z : List Int} (C : CI col n (j + 1) F La N0 N1 2 Z) (hn : swc (j + 1) = n) (hc : col = 2 ^ (j + 1)) (hP : IsPerm (2 ^ (j + 2)) P) (S : Split (j + 1) P z) (H : Parts (j + 1) P z F La N0 N1) (hF : Bits F) (hL : Bits La) :
    ∃ T, IsSet (j + 2) P T ∧ Z = sB T := by
  obtain ⟨U, u1, u2⟩ := C.u (by omega)
  obtain ⟨V, w1, w2⟩ := C.w (by omega)
  refine ⟨_, join (by omega) hP S H hF hL u1 w1, ?_⟩
  have lz := C.lz
  have a1 := H.lf
  have a2 := H.ll
  have a3 := u1.len
  have a4 := w1.len
  rw [hn] at a3 a4
  rw [← hc] at a1 a2
  refine List.ext_getElem (by rw [sB_len]; simp only [List.length_append]; omega) fun x h1 h2 => ?_
  rw [sB_len] at h2
  rw [← getD_at h1, ← getD_at (by rw [sB_len]; exact h2), sB_at h2]
  simp only [List.length_append] at h2
  by_cases c1 : x < col
  · rw [C.f x c1, nt_app_l (by omega)]
  · by_cases c2 : x < col + n
    · obtain ⟨y, rfl⟩ : ∃ y, x = col + y := ⟨x - col, by omega⟩
      have := @nt_app_r F (U ++ (V ++ La)) y
      rw [a1] at this
      rw [u2 y (by omega), this, nt_app_l (by omega)]
    · by_cases c3 : x < col + 2 * n
      · obtain ⟨y, rfl⟩ : ∃ y, x = col + n + y := ⟨x - (col + n), by omega⟩
        have e1 := @nt_app_r F (U ++ (V ++ La)) (n + y)
        have e2 := @nt_app_r U (V ++ La) y
        rw [a1, ← Nat.add_assoc] at e1
        rw [a3] at e2
        rw [w2 y (by omega), e1, e2, nt_app_l (by omega)]
      · obtain ⟨y, rfl⟩ : ∃ y, x = col + 2 * n + y := ⟨x - (col + 2 * n), by omega⟩
        have e1 := @nt_app_r F (U ++ (V ++ La)) (n + (n + y))
        have e2 := @nt_app_r U (V ++ La) (n + y)
        have e3 := @nt_app_r V La y
        rw [a1, show col + (n + (n + y)) = col + 2 * n + y by omega] at e1
        rw [a3] at e2
        rw [a4] at e3
        rw [C.l y (by omega), e1, e2, e3]
end Go.Pa
