/- Smooth words: beginnings and extensions. -/
import Derived.Test.YtogfojkjocbahaaE11
set_option linter.unusedSimpArgs false
set_option linter.unusedVariables false
set_option maxHeartbeats 4000000
namespace Go.Proofs.Ytogfojkjocbahaa
open Go Go.Abs

abbrev rl (zs : List Int) : List Int := runsUpto zs zs.length

theorem rl_snoc {zs : List Int} {v : Int} : rl (zs ++ [v]) = if zs = [] ∨ zs.getD (zs.length - 1) 0 ≠ v then rl zs ++ [1] else (rl zs).set ((rl zs).length - 1) ((rl zs).getD ((rl zs).length - 1) 0 + 1) := by
  unfold rl
  have e0 : runsUpto (zs ++ [v]) zs.length = runsUpto zs zs.length := runs_same fun j hj => getD_left hj
  have e1 : (zs ++ [v]).getD zs.length 0 = v := by simp [List.getD_eq_getElem?_getD]
  rw [show (zs ++ [v]).length = zs.length + 1 by simp, runsUpto, e0, e1]
  by_cases hz : zs = []
  · subst hz
    simp
  · have hl := List.length_pos_iff.2 hz
    have e2 : (zs ++ [v]).getD (zs.length - 1) 0 = zs.getD (zs.length - 1) 0 := getD_left (by omega)
    rw [e2]
    by_cases hv : zs.getD (zs.length - 1) 0 = v
    · rw [if_neg (by rintro (h | h); omega; exact h hv.symm), if_neg (by rintro (h | h); exact hz h; exact h hv)]
    · rw [if_pos (.inr (fun h => hv h.symm)), if_pos (.inr hv)]

theorem rl_new {zs : List Int} {v : Int} (h : zs = [] ∨ zs.getD (zs.length - 1) 0 ≠ v) : rl (zs ++ [v]) = rl zs ++ [1] := by
  rw [rl_snoc, if_pos h]

theorem rl_more {zs : List Int} {v : Int} {r : List Int} {k : Int} (hz : zs ≠ []) (h : zs.getD (zs.length - 1) 0 = v) (hr : rl zs = r ++ [k]) : rl (zs ++ [v]) = r ++ [k + 1] := by
  rw [rl_snoc, if_neg (by rintro (e | e); exact hz e; exact e h), hr]
  simp

theorem rl_split {zs : List Int} (hz : zs ≠ []) : ∃ r k, rl zs = r ++ [k] ∧ (∀ x ∈ r, 1 ≤ x) ∧ 1 ≤ k ∧ r.length < zs.length := by
  have h1 := runs_len zs zs.length
  have h2 := h1.2 (List.length_pos_iff.2 hz)
  have h3 := (runs_isRuns zs zs.length).1
  have hne : rl zs ≠ [] := List.ne_nil_of_length_pos h2
  refine ⟨(rl zs).dropLast, (rl zs).getLast hne, (List.dropLast_concat_getLast hne).symm, fun x hx => h3 x ((List.dropLast_sublist _).mem hx), h3 _ (List.getLast_mem hne), ?_⟩
  rw [List.length_dropLast]
  have : (rl zs).length ≤ zs.length := h1.1
  have : 0 < (rl zs).length := h2
  omega

theorem rl_nil {zs : List Int} (h : rl zs = []) : zs = [] := by
  rcases List.eq_nil_or_concat zs with e | ⟨l, a, e⟩
  · exact e
  · have := (runs_len zs zs.length).2 (by rw [e]; simp)
    rw [show runsUpto zs zs.length = rl zs from rfl, h] at this
    simp at this

theorem trimL_app {s : List Int} {x : Int} (hs : s ≠ []) : trimL (s ++ [x]) = trimL s ++ [x] := by
  cases s with
  | nil => exact absurd rfl hs
  | cons a l =>
    unfold trimL
    by_cases ha : a = 1
    · subst ha; simp
    · simp [ha]

theorem trimR_app {u : List Int} {x : Int} : trimR (u ++ [x]) = if x = 1 then u else u ++ [x] := by
  unfold trimR
  by_cases hx : x = 1
  · subst hx
    simp [List.getD_eq_getElem?_getD]
  · rw [if_neg hx, if_neg]
    simp [List.getD_eq_getElem?_getD, hx]

theorem trimR_nil : trimR [] = [] := by simp [trimR]

theorem trimR_or (u : List Int) : trimR u = u ∨ u = trimR u ++ [1] := by
  rcases List.eq_nil_or_concat u with e | ⟨l, a, e⟩
  · subst e; exact .inl trimR_nil
  · subst e
    rw [List.concat_eq_append, trimR_app]
    split
    · rename_i h; subst h; exact .inr rfl
    · exact .inl rfl

/-- No run longer than two. -/
abbrev le2 (r : List Int) : Prop := r.all (fun z => decide (z ≤ 2)) = true

theorem deriv_some {zs : List Int} (h : le2 (rl zs)) : deriv zs = some (trimR (trimL (rl zs))) := if_pos h
theorem deriv_none {zs : List Int} (h : ¬ le2 (rl zs)) : deriv zs = none := if_neg h

def sm (zs : List Int) : Prop := (height zs).isSome = true

theorem height_nil : height [] = some 0 := by simp [height, hgt]
theorem height_none {zs : List Int} (hz : zs ≠ []) (hd : deriv zs = none) : height zs = none := by
  obtain ⟨g, _, h⟩ := hgt_step (f := zs.length) (List.length_pos_iff.2 hz) (Nat.le_refl _)
  rw [height, h, hd]
theorem height_some {zs d : List Int} (hz : zs ≠ []) (hd : deriv zs = some d) : height zs = (height d).map (· + 1) := by
  obtain ⟨g, e, h⟩ := hgt_step (f := zs.length) (List.length_pos_iff.2 hz) (Nat.le_refl _)
  have := deriv_len hz hd
  rw [height, h, hd]
  simp only
  rw [hgt_fuel g d.length d (by omega) (Nat.le_refl _)]
  rfl

theorem sm_nil : sm [] := by simp [sm, height_nil]
theorem sm_iff {zs : List Int} (hz : zs ≠ []) : sm zs ↔ le2 (rl zs) ∧ sm (trimR (trimL (rl zs))) := by
  by_cases h : le2 (rl zs)
  · rw [sm, height_some hz (deriv_some h), Option.isSome_map]
    exact ⟨fun e => ⟨h, e⟩, fun e => e.2⟩
  · rw [sm, height_none hz (deriv_none h)]
    simp [h]

theorem le2_app {r : List Int} {k : Int} : le2 (r ++ [k]) ↔ le2 r ∧ k ≤ 2 := by
  simp [le2, List.all_append]

theorem sm_one (c : Int) : sm [c] := by
  rw [sm_iff (by simp)]
  have : rl [c] = [1] := by simp [rl, runsUpto]
  rw [this]
  have h2 : trimR (trimL [1]) = [] := by simp [trimL, trimR]
  rw [h2]
  exact ⟨by simp [le2], sm_nil⟩

theorem sm_two (c : Int) : sm [c, c] := by
  have : rl [c, c] = [2] := by simp [rl, runsUpto]
  rw [sm_iff (by simp), this]
  have h2 : trimR (trimL [2]) = [2] := by simp [trimL, trimR]
  rw [h2]
  exact ⟨by simp [le2], sm_one 2⟩

/-- Beginnings of smooth words are smooth. -/
theorem sm_pre1 : ∀ (n : Nat) (zs : List Int) (v : Int), zs.length ≤ n → sm (zs ++ [v]) → sm zs
  | 0, zs, v, hn, h => by
    have : zs = [] := List.length_eq_zero_iff.1 (by omega)
    subst this
    exact sm_nil
  | n + 1, zs, v, hn, h => by
    by_cases hz : zs = []
    · subst hz; exact sm_nil
    · rw [sm_iff (by simp)] at h
      obtain ⟨r, k, hr, h1, h2, h3⟩ := rl_split hz
      rw [sm_iff hz]
      by_cases hv : zs.getD (zs.length - 1) 0 = v
      · rw [rl_more hz hv hr, le2_app] at h
        rw [hr, le2_app]
        have hk : k = 1 := by have := h.1.2; omega
        subst hk
        refine ⟨⟨h.1.1, by omega⟩, ?_⟩
        by_cases he : r = []
        · subst he
          have : trimR (trimL ([] ++ [1])) = [] := by simp [trimL, trimR]
          rw [this]
          exact sm_nil
        · have h4 := h.2
          rw [trimL_app he, trimR_app, if_neg (by decide)] at h4
          rw [trimL_app he, trimR_app, if_pos rfl]
          have := trimL_len r
          exact sm_pre1 n _ _ (by omega) h4
      · have hne : rl zs ≠ [] := by rw [hr]; simp
        rw [rl_new (.inr hv), trimL_app hne, trimR_app, if_pos rfl, le2_app] at h
        refine ⟨h.1.1, ?_⟩
        rcases trimR_or (trimL (rl zs)) with e | e
        · rw [e]; exact h.2
        · have h4 := h.2
          rw [e] at h4
          have h5 := trimL_len (rl zs)
          rw [e, hr] at h5
          simp only [List.length_append, List.length_singleton] at h5
          exact sm_pre1 n _ _ (by rw [hr]; omega) h4

theorem snoc_ind {P : List Int → Prop} (h0 : P []) (h1 : ∀ l a, P l → P (l ++ [a])) : ∀ l, P l := fun l => by
  have : ∀ l : List Int, P l.reverse := fun l => by
    induction l with
    | nil => exact h0
    | cons a l ih => rw [List.reverse_cons]; exact h1 _ _ ih
  have := this l.reverse
  rwa [List.reverse_reverse] at this

theorem sm_pre {zs ys : List Int} (h : sm (zs ++ ys)) : sm zs := by
  refine snoc_ind (P := fun ys => sm (zs ++ ys) → sm zs) (by simp) (fun l a ih h => ?_) ys h
  rw [← List.append_assoc] at h
  exact ih (sm_pre1 _ _ _ (Nat.le_refl _) h)

def ot (zs : List Int) : Prop := ∀ z ∈ zs, z = 1 ∨ z = 2

theorem ot_trim {r : List Int} (h : ∀ x ∈ r, 1 ≤ x) (h2 : le2 r) : ot r := fun z hz => by
  have := h z hz
  have : z ≤ 2 := by simpa using (List.all_eq_true.1 h2) z hz
  omega

theorem ot_trimL {r : List Int} (h : ot r) : ot (trimL r) := by
  unfold trimL
  split
  · exact fun z hz => h z (List.mem_of_mem_drop hz)
  · exact h

/-- A smooth word can be extended. -/
theorem sm_ext : ∀ (n : Nat) (zs : List Int), zs.length ≤ n → ot zs → sm zs → sm (zs ++ [1]) ∨ sm (zs ++ [2])
  | 0, zs, hn, ho, h => by
    have : zs = [] := List.length_eq_zero_iff.1 (by omega)
    subst this
    exact .inl (sm_one 1)
  | n + 1, zs, hn, ho, h => by
    by_cases hz : zs = []
    · subst hz; exact .inl (sm_one 1)
    · obtain ⟨r, k, hr, h1, h2, h3⟩ := rl_split hz
      rw [sm_iff hz] at h
      have hle := h.1
      rw [hr, le2_app] at hle
      have hl := ho _ (getD_mem (show zs.length - 1 < zs.length by have := List.length_pos_iff.2 hz; omega))
      have hne : rl zs ≠ [] := by rw [hr]; simp
      -- the other number
      have other : ∀ v, zs.getD (zs.length - 1) 0 ≠ v → sm (trimL (rl zs)) → sm (zs ++ [v]) := fun v hv hs => by
        rw [sm_iff (by simp), rl_new (.inr hv), trimL_app hne, trimR_app, if_pos rfl, le2_app]
        exact ⟨⟨h.1, by omega⟩, hs⟩
      have pick : ∀ a : Int, (zs.getD (zs.length - 1) 0 ≠ 1 → sm (zs ++ [1])) → (zs.getD (zs.length - 1) 0 ≠ 2 → sm (zs ++ [2])) → sm (zs ++ [1]) ∨ sm (zs ++ [2]) := fun _ p1 p2 => by
        rcases hl with e | e
        · exact .inr (p2 (by rw [e]; decide))
        · exact .inl (p1 (by rw [e]; decide))
      have same : ∀ v, zs.getD (zs.length - 1) 0 = v → k = 1 → r ≠ [] → sm (trimL r ++ [2]) → sm (zs ++ [v]) := fun v hv hk he hs => by
        rw [sm_iff (by simp), rl_more hz hv hr, hk, trimL_app he, trimR_app, if_neg (by decide), le2_app]
        exact ⟨⟨hle.1, by omega⟩, hs⟩
      by_cases hk : k = 1
      · by_cases he : r = []
        · -- a single run of length 1
          subst he
          refine pick 0 (fun hv => other 1 hv ?_) (fun hv => other 2 hv ?_)
          all_goals
            rw [hr, hk]
            have : trimL ([] ++ [1]) = [] := by simp [trimL]
            rw [this]
            exact sm_nil
        · have hd := h.2
          rw [hr, hk, trimL_app he, trimR_app, if_pos rfl] at hd
          have hlen := trimL_len r
          rcases sm_ext n (trimL r) (by omega) (ot_trimL (ot_trim h1 hle.1)) hd with hx | hx
          · refine pick 0 (fun hv => other 1 hv ?_) (fun hv => other 2 hv ?_)
            all_goals
              rw [hr, hk, trimL_app he]
              exact hx
          · rcases hl with e | e
            · exact .inl (same 1 e hk he hx)
            · exact .inr (same 2 e hk he hx)
      · have hd := h.2
        have hk2 : k = 2 := by omega
        have hs : sm (trimL (rl zs)) := by
          rcases trimR_or (trimL (rl zs)) with e | e
          · rw [e] at hd; exact hd
          · exfalso
            rw [hr, hk2] at e
            by_cases he : r = []
            · subst he
              simp [trimL, trimR] at e
            · rw [trimL_app he, trimR_app, if_neg (by decide)] at e
              have := congrArg List.length e
              simp at this
        exact pick 0 (fun hv => other 1 hv hs) (fun hv => other 2 hv hs)

end Go.Proofs.Ytogfojkjocbahaa
