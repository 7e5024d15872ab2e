/- Each operation does to a world what the abstract operation says (7): the builtins, whole. -/
import Derived.Test.YtogfojkjocbahaaK
namespace Go.Abs
open Go Go.RowKit

section
variable {P : Program} {base : Nat} {σ : Env} {w : World} {h : Hp}

theorem bind_some {α β : Type} {x : Option α} {f : α → Option β} {y : β} (h : x.bind f = some y) : ∃ z, x = some z ∧ f z = some y := by
  cases x with
  | none => simp at h
  | some z => exact ⟨z, rfl, by simpa using h⟩

theorem copy_sound (H : HR σ base h w) {ts : Array TypeId} {t e : TypeId} {size n id off len sz : Nat} {cap : Option Nat} {x : AV} {vs : List AV} {h' : Hp} (ty : TypeId) (h0 : ts[0]? = some t) (ht : P.underlying t = some (.slice e))
    (hm : szOf P e = some size) (hsrc : srcCells h size x = some (vs, n)) (hw : h.write id off (vs.take (Nat.min n len * size)) = some h') {us ux : Value} (hus : R σ (.sl id off len cap sz) us) (hux : R σ x ux) :
    OkV P base σ w (Builtin.copy_ ts ty #[us, ux]) (.int .i64 (Nat.min n len : Nat)) h' := by
  obtain ⟨ms, hms, hml, hcase⟩ := src_spec H hsrc hux
  simp only [R] at hus
  obtain ⟨c, k, hc, rfl, _⟩ := hus
  obtain ⟨cur, e', g1, g2, g3, g4, g5, g6⟩ := H.write hw (hms.take _) hc
  have hle : Nat.min n len * size ≤ ms.length := by rw [hml]; exact Nat.mul_le_mul_right _ (Nat.min_le_left _ _)
  have hf : (Builtin.firstCells size (Nat.min n len) ux).run P w = .ok (ms.take (Nat.min n len * size)).toArray w := by
    rcases hcase with ⟨rfl, rfl⟩ | ⟨a, q, rfl, hcell⟩
    · have : ms = [] := List.eq_nil_of_length_eq_zero (by rw [hml]; simp)
      subst this
      simp [Builtin.firstCells]
    · exact run_firstCells_some (P := P) w size _ a _ q _ (by rw [List.length_take]; omega) fun j m hj => by
        rw [List.getElem?_take] at hj
        split at hj
        · exact hcell j m hj
        · cases hj
  have hlen : (Builtin.lenOf ux).run P w = .ok n w := by
    rcases hcase with ⟨rfl, rfl⟩ | ⟨a, q, rfl, hcell⟩ <;> simp [Builtin.lenOf]
  have hst := run_storeCells_at P c.blk (c.off + off) e' (ms.take (Nat.min n len * size)) 0 cur w g1 (by simpa using g2) g4
  simp only [Nat.add_zero] at hst
  refine ⟨.int .i64 (Nat.min n len : Nat), _, σ, ?_, by simp [R], .refl _, g5, g6⟩
  unfold Builtin.copy_
  simp only [h0, List.getElem?_toArray, List.getElem?_cons_zero, List.getElem?_cons_succ, Sem.run_bind, run_underlying ht, Result.andThen_ok, hlen, run_sizeOf' hm, hf, hst, Sem.run_pure, goInt, putRow]

theorem builtin1_sound (H : HR σ base h w) (hb : base ≤ w.heap.size) {b : Builtin} {ts : Array TypeId} {args : List AV} {v : AV} {h' : Hp} {vs : Array Value} (hv : Rs σ args vs.toList)
    (hs : builtin1 P h b ts args = some (v, h')) (ty : TypeId) (consts : Array Bool) : OkS P base σ w (builtin b ts ty consts vs) v h' := by
  unfold builtin
  cases b <;> simp only [builtin1] at hs ⊢
  case len =>
    split at hs
    · rename_i e id off len cap sz ht
      cases hs
      obtain ⟨t, h0, ht⟩ := bind_some ht
      have hv' := hv
      simp only [Rs, R] at hv'
      obtain ⟨u, m, he, ⟨c, k, hc, rfl, _⟩, rfl⟩ := hv'
      have hvs : vs = #[.slice (some ⟨c.blk, c.off + off, none⟩) len k] := by cases vs; simp_all
      subst hvs
      refine (OkV.pure H (u := .int .i64 len) ?_ (by simp [R])).toS
      simp [Builtin.len_, h0, run_underlying ht, goInt]
    · rename_i e ht
      cases hs
      obtain ⟨t, h0, ht⟩ := bind_some ht
      have hv' := hv
      simp only [Rs, R] at hv'
      obtain ⟨u, m, he, rfl, rfl⟩ := hv'
      have hvs : vs = #[.slice none 0 0] := by cases vs; simp_all
      subst hvs
      refine (OkV.pure H (u := .int .i64 0) ?_ (by simp [R])).toS
      simp [Builtin.len_, h0, run_underlying ht, goInt]
    · rename_i e ht
      cases hs
      obtain ⟨t, h0, ht⟩ := bind_some ht
      have hv' := hv
      simp only [Rs, R] at hv'
      obtain ⟨u, m, he, ⟨b0, q0, rfl⟩, rfl⟩ := hv'
      have hvs : vs = #[.slice (some b0) 0 q0] := by cases vs; simp_all
      subst hvs
      refine (OkV.pure H (u := .int .i64 0) ?_ (by simp [R])).toS
      simp [Builtin.len_, h0, run_underlying ht, goInt]
    · rename_i l ht
      cases hs
      obtain ⟨t, h0, ht⟩ := bind_some ht
      have hv' := hv
      simp only [Rs, R] at hv'
      obtain ⟨u, m, he, rfl, rfl⟩ := hv'
      have hvs : vs = #[.string ⟨l.toArray⟩] := by cases vs; simp_all
      subst hvs
      refine (OkV.pure H (u := .int .i64 l.length) ?_ (by simp [R])).toS
      have hsz : (⟨l.toArray⟩ : ByteArray).size = l.length := by show l.toArray.size = _; simp
      simp only [Builtin.len_, h0, List.getElem?_toArray, List.getElem?_cons_zero, Sem.run_bind, run_underlying ht, Result.andThen_ok, Sem.run_pure, goInt, hsz]
    · rename_i n e x ht
      cases hs
      obtain ⟨t, h0, ht⟩ := bind_some ht
      have hv' := hv
      simp only [Rs] at hv'
      obtain ⟨u, m, he, hu, rfl⟩ := hv'
      have hvs : vs = #[u] := by cases vs; simp_all
      subst hvs
      refine (OkV.pure H (u := .int .i64 n) ?_ (by simp [R])).toS
      simp [Builtin.len_, h0, run_underlying ht, goInt]
    · cases hs
  case min =>
    split at hs
    · rename_i k a k' b
      by_cases hk : k = k'
      · subst hk
        simp only [if_true, Option.some.injEq, Prod.mk.injEq] at hs
        obtain ⟨rfl, rfl⟩ := hs
        simp only [Rs, R] at hv
        obtain ⟨u, m, he, rfl, u', m', rfl, rfl, rfl⟩ := hv
        refine (OkV.pure H (u := .int k (if b < a then b else a)) ?_ (by simp [R])).toS
        simp [Builtin.min_, he, Builtin.min2]
      · simp [hk] at hs
    · cases hs
  case max =>
    split at hs
    · rename_i k a k' b
      by_cases hk : k = k'
      · subst hk
        simp only [if_true, Option.some.injEq, Prod.mk.injEq] at hs
        obtain ⟨rfl, rfl⟩ := hs
        simp only [Rs, R] at hv
        obtain ⟨u, m, he, rfl, u', m', rfl, rfl, rfl⟩ := hv
        refine (OkV.pure H (u := .int k (if a < b then b else a)) ?_ (by simp [R])).toS
        simp [Builtin.max_, he, Builtin.max2]
      · simp [hk] at hs
    · cases hs
  case append =>
    split at hs
    · rename_i t t' s x hts
      by_cases htt : t = t'
      · subst htt
        simp only [Nat.beq_refl, Bool.not_true, cond_false] at hs
        split at hs
        · rename_i e ht
          split at hs
          · rename_i size hm
            split at hs
            · rename_i ws n hsrc
              simp only [Rs] at hv
              obtain ⟨u, m, he, hu, u', m', rfl, hu', rfl⟩ := hv
              have hvs : vs = #[u, u'] := by cases vs; simp_all
              have hts' : ts = #[t, t] := by cases ts; simp_all
              subst hvs hts'
              exact (append1_sound H hb ty ht hm hsrc hs hu hu').toS
            · cases hs
          · cases hs
        · cases hs
      · rw [nb htt] at hs
        simp at hs
    · cases hs
  case copy =>
    split at hs
    · rename_i e id off len cap sz x ht
      split at hs
      · rename_i size hm
        split at hs
        · rename_i ws n hsrc
          cases hsz : Nat.beq sz size
          · simp [hsz] at hs
          · simp only [hsz, cond_true] at hs
            cases hw : h.write id off (ws.take (Nat.min n len * size)) with
            | none => simp [hw] at hs
            | some h1 =>
              simp only [hw, Option.map_some, Option.some.injEq, Prod.mk.injEq] at hs
              obtain ⟨rfl, rfl⟩ := hs
              obtain ⟨t, h0, ht⟩ := bind_some ht
              simp only [Rs] at hv
              obtain ⟨u, m, he, hu, u', m', rfl, hu', rfl⟩ := hv
              have hvs : vs = #[u, u'] := by cases vs; simp_all
              subst hvs
              exact (copy_sound H ty h0 ht hm hsrc hw hu hu').toS
        · cases hs
      · cases hs
    · cases hs
  all_goals cases hs

end
end Go.Abs
