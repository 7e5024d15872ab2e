/- Each operation does to a world what the abstract operation says (5): addresses, parts, slices; step1 whole. Each operation does to a world what the abstract operation says (6): len, min, max, append, copy. Each operation does to a world what the abstract operation says (7): the builtins, whole. Regions in the order of their text. -/
import Derived.Test.YtelalpohbodolaaDoorIM
set_option linter.unusedSimpArgs false
set_option linter.unusedVariables false
namespace Go.Abs
open Go Go.RowKit

section
variable {P : Program} {base : Prot} {σ : Env} {w : World} {h : Hp} {n : Nat} {f : Nat → AV} {a : Act}

theorem indexAt_slice_sound (H : HR σ base h w) {t e : TypeId} {id off len sz m k : Nat} {cap : Option Nat} {x : AV} {u v : Value} (hu : P.underlying t = some (.slice e)) (hm : szOf P e = some m)
    (hx : R σ (.sl id off len cap sz) u) (hi : idx? x = some k) (hv : R σ x v) (hk : k < len) : OkV P base σ w (Instr.indexAt t u v) (.ptr id (off + k * m)) h := by
  obtain ⟨kd, i, rfl, h0, rfl⟩ := idx?_spec hi hv
  simp only [R] at hx
  obtain ⟨c, q, hc, rfl, _⟩ := hx
  have h1 : 0 ≤ i ∧ i < (len : Int) := ⟨h0, by omega⟩
  refine .pure H (u := .pointer (some ⟨c.blk, c.off + off + i.toNat * m, none⟩)) ?_ ?_
  · simp only [Instr.indexAt, Sem.run_bind, asIntOf, Sem.run_pure, Result.andThen_ok, run_underlying hu, h1, and_self, if_true, run_sizeOf' hm, add_none, Sem.run_ite]
  · simp only [R]
    exact ⟨c, hc, by rw [Nat.add_assoc]⟩

theorem indexAt_array_sound (H : HR σ base h w) {t e : TypeId} {id off len m k : Nat} {x : AV} {u v : Value} (hu : P.underlying t = some (.array len e)) (hm : szOf P e = some m)
    (hx : R σ (.ptr id off) u) (hi : idx? x = some k) (hv : R σ x v) (hk : k < len) : OkV P base σ w (Instr.indexAt t u v) (.ptr id (off + k * m)) h := by
  obtain ⟨kd, i, rfl, h0, rfl⟩ := idx?_spec hi hv
  simp only [R] at hx
  obtain ⟨c, hc, rfl⟩ := hx
  have h1 : 0 ≤ i ∧ i < (len : Int) := ⟨h0, by omega⟩
  refine .pure H (u := .pointer (some ⟨c.blk, c.off + off + i.toNat * m, none⟩)) ?_ ?_
  · simp only [Instr.indexAt, Sem.run_bind, asIntOf, Sem.run_pure, Result.andThen_ok, run_underlying hu, Instr.sureAddr, h1, and_self, if_true, run_sizeOf' hm, add_none, Sem.run_ite]
  · simp only [R]
    exact ⟨c, hc, by rw [Nat.add_assoc]⟩

theorem index_array_sound (H : HR σ base h w) {t e : TypeId} {len m k : Nat} {cs : List AV} {x y : AV} {u v : Value} (hu : P.underlying t = some (.array len e)) (hm : szOf P e = some m)
    (hx : R σ (.ag cs) u) (hi : idx? x = some k) (hv : R σ x v) (hk : k < len) (hr : rdVar P cs e (k * m) = some y) : OkV P base σ w (Instr.index t u v) y h := by
  obtain ⟨kd, i, rfl, h0, rfl⟩ := idx?_spec hi hv
  simp only [R] at hx
  obtain ⟨xs, rfl, hxs⟩ := hx
  have h1 : 0 ≤ i ∧ i < (len : Int) := ⟨h0, by omega⟩
  obtain ⟨r, hr1, hr2⟩ := run_part' (P := P) (w := w) hr hxs
  refine .pure H (u := r) ?_ hr2
  simp only [Instr.index, Sem.run_bind, asIntOf, Sem.run_pure, Result.andThen_ok, run_underlying hu, h1, and_self, if_true, run_sizeOf' hm, hr1, Sem.run_ite]

theorem field_sound (H : HR σ base h w) {t : TypeId} {fs : Array Field} {i : Nat} {fd : Field} {cs : List AV} {y : AV} {u : Value} (hu : P.underlying t = some (.struct fs)) (hfd : fs[i]? = some fd)
    (hx : R σ (.ag cs) u) (hr : rdVar P cs fd.type fd.offset = some y) : OkV P base σ w (Instr.field t u i) y h := by
  simp only [R] at hx
  obtain ⟨xs, rfl, hxs⟩ := hx
  obtain ⟨r, hr1, hr2⟩ := run_part' (P := P) (w := w) hr hxs
  refine .pure H (u := r) ?_ hr2
  simp only [Instr.field, Sem.run_bind, Result.andThen_ok, run_underlying hu, hfd, asAgg, Sem.run_pure, hr1]

theorem fieldAt_sound (H : HR σ base h w) {t : TypeId} {fs : Array Field} {i : Nat} {fd : Field} {id off m : Nat} {u : Value} (hu : P.underlying t = some (.struct fs)) (hfd : fs[i]? = some fd)
    (hm : szOf P fd.type = some m) (h0 : m ≠ 0) (hx : R σ (.ptr id off) u) : OkV P base σ w (Instr.fieldAt t u i) (.ptr id (off + fd.offset)) h := by
  simp only [R] at hx
  obtain ⟨c, hc, rfl⟩ := hx
  refine .pure H (u := .pointer (some ⟨c.blk, c.off + off + fd.offset, none⟩)) ?_ ?_
  · simp only [Instr.fieldAt, Sem.run_bind, Result.andThen_ok, run_underlying hu, hfd, Instr.sureAddr, Sem.run_pure, fieldPlace, run_sizeOf' hm, h0, if_false, Sem.run_ite, add_none]
  · simp only [R]
    exact ⟨c, hc, by rw [Nat.add_assoc]⟩

theorem extract_sound (H : HR σ base h w) {vs : List AV} {i : Nat} {y : AV} {u : Value} (hx : R σ (.tu vs) u) (hy : vs[i]? = some y) : OkV P base σ w (Instr.extract u i) y h := by
  simp only [R] at hx
  obtain ⟨xs, rfl, hxs⟩ := hx
  obtain ⟨r, hr1, hr2⟩ := hxs.get hy
  refine .pure H (u := r) ?_ hr2
  have : xs[i]? = some r := by simpa using hr1
  simp [Instr.extract, this]

theorem sliceBound_ok {x : AV} {v : Value} {k y : Nat} {code : BoundsCode} (hi : idx? x = some k) (hv : R σ x v) (hk : k ≤ y) : (Instr.sliceBound v y code).run P w = .ok k w := by
  obtain ⟨kd, i, rfl, h0, rfl⟩ := idx?_spec hi hv
  have h1 : 0 ≤ i ∧ i ≤ (y : Int) := ⟨h0, by omega⟩
  simp only [Instr.sliceBound, Sem.run_bind, asIntOf, Sem.run_pure, Result.andThen_ok, h1, and_self, if_true, Sem.run_ite]

theorem sliceBounds_ok (hf : FR σ n f a.tmps) {len cap hv lv : Nat} {lo hi : Option Operand} (hh : bnd f len hi = some hv) (hl : bnd f 0 lo = some lv) (h1 : lv ≤ hv) (h2 : hv ≤ cap) :
    (Instr.sliceBounds true len cap (lo.map a.eval) (hi.map a.eval) none).run P w = .ok (lv, hv, cap) w := by
  unfold Instr.sliceBounds
  cases hi with
  | none =>
    simp only [bnd, Option.some.injEq] at hh
    subst hh
    cases lo with
    | none =>
      simp only [bnd, Option.some.injEq] at hl
      subst hl
      simp
    | some e =>
      simp only [bnd] at hl
      simp [sliceBound_ok hl (ev_sound hf e) h1]
  | some d =>
    simp only [bnd] at hh
    cases lo with
    | none =>
      simp only [bnd, Option.some.injEq] at hl
      subst hl
      simp [sliceBound_ok hh (ev_sound hf d) h2]
    | some e =>
      simp only [bnd] at hl
      simp [sliceBound_ok hh (ev_sound hf d) h2, sliceBound_ok hl (ev_sound hf e) h1]

theorem szOf_run {t : TypeId} {n m : Nat} (hm : szOf P t = some m) (w : World) : (sizeOf t).run P w = .ok m w := run_sizeOf' hm w

theorem sliceAt_run (hf : FR σ n f a.tmps) {t e : TypeId} {m : Nat} (hu : P.underlying t = some (.slice e)) (hm : szOf P e = some m) {b : Option Addr} {len k hv lv : Nat} {lo hi : Option Operand}
    (hh : bnd f len hi = some hv) (hl : bnd f 0 lo = some lv) (h1 : lv ≤ hv) (h2 : hv ≤ k) :
    (Instr.sliceAt t (.slice b len k) (lo.map a.eval) (hi.map a.eval) none).run P w = .ok (.slice (if k = lv then b else b.map (·.add (lv * m))) (hv - lv) (k - lv)) w := by
  simp only [Instr.sliceAt, Sem.run_bind, run_underlying hu, Result.andThen_ok, Instr.slice, sliceBounds_ok hf hh hl h1 h2, run_sizeOf' hm, Sem.run_pure]

theorem convert_sound (H : HR σ base h w) {src dst : TypeId} {k k' : IntKind} {i : Int} {u : Value} {d : TypeDesc} (hs : P.underlying src = some d) (hu : P.underlying dst = some (.int k)) (hx : R σ (.int k' i) u) :
    OkV P base σ w (convert src dst u) (.int k (k.wrap i)) h := by
  have := R_int hx
  subst this
  refine .pure H (u := .int k (k.wrap i)) ?_ (by simp [R])
  simp only [convert, Sem.run_bind, run_underlying hs, run_underlying hu, Result.andThen_ok, Conv.intToInt, Sem.run_pure]

theorem slice_sound (H : HR σ base h w) (hf : FR σ n f a.tmps) {t e : TypeId} {id off len sz hv lv : Nat} {cap : Option Nat} {lo hi : Option Operand} {u : Value} {y : AV}
    (hu : P.underlying t = some (.slice e)) (hm : szOf P e = some sz) (hh : bnd f len hi = some hv) (hl : bnd f 0 lo = some lv) (h1 : lv ≤ hv)
    (hy : (match cap with
          | some c => bif Nat.ble hv c then
              bif Nat.beq c lv then some (AV.sl id off (hv - lv) (some 0) sz, h) else some (.sl id (off + lv * sz) (hv - lv) (some (c - lv)) sz, h)
            else none
          | none => bif Nat.ble hv len then bif Nat.blt lv len then some (.sl id (off + lv * sz) (hv - lv) none sz, h) else some (.esl, h) else none) = some (y, h)) (hx : R σ (.sl id off len cap sz) u) :
    OkV P base σ w (Instr.sliceAt t u (lo.map a.eval) (hi.map a.eval) none) y h := by
  simp only [R] at hx
  obtain ⟨c, k, hc, rfl, hk, hcap⟩ := hx
  cases cap with
  | some cc =>
    simp only at hcap
    subst hcap
    simp only at hy
    cases hb : Nat.ble hv k
    · simp [hb] at hy
    · simp only [hb, cond_true] at hy
      have h2 := Nat.le_of_ble_eq_true hb
      have hrun := sliceAt_run (P := P) (w := w) hf hu hm (b := some ⟨c.blk, c.off + off, none⟩) (len := len) (k := k) hh hl h1 h2
      by_cases hkl : k = lv
      · subst hkl
        simp only [Nat.beq_refl, cond_true, Option.some.injEq, Prod.mk.injEq, and_true] at hy
        subst hy
        refine .pure H hrun ?_
        simp only [if_true, R]
        exact ⟨c, 0, hc, by simp, by omega, rfl⟩
      · rw [nb hkl] at hy
        simp only [cond_false, Option.some.injEq, Prod.mk.injEq, and_true] at hy
        subst hy
        refine .pure H hrun ?_
        rw [if_neg hkl]
        simp only [R, Option.map_some, add_none]
        exact ⟨c, k - lv, hc, by rw [Nat.add_assoc], by omega, rfl⟩
  | none =>
    simp only at hcap hy
    cases hb2 : Nat.ble hv len
    · simp [hb2] at hy
    have h2 := Nat.le_of_ble_eq_true hb2
    have hrun := sliceAt_run (P := P) (w := w) hf hu hm (b := some ⟨c.blk, c.off + off, none⟩) (len := len) (k := k) hh hl h1 (by omega)
    cases hb : Nat.blt lv len
    · simp only [hb2, hb, cond_true, cond_false, Option.some.injEq, Prod.mk.injEq, and_true] at hy
      subst hy
      have h3 : ¬ lv + 1 ≤ len := fun h => by rw [show Nat.blt lv len = true from Nat.ble_eq_true_of_le h] at hb; cases hb
      refine .pure H hrun ?_
      simp only [R, show hv - lv = 0 by omega]
      split
      · exact ⟨_, _, rfl⟩
      · exact ⟨_, _, rfl⟩
    · simp only [hb2, hb, cond_true, Option.some.injEq, Prod.mk.injEq, and_true] at hy
      subst hy
      have h3 : lv + 1 ≤ len := Nat.le_of_ble_eq_true hb
      refine .pure H hrun ?_
      rw [if_neg (by omega)]
      simp only [R, Option.map_some, add_none]
      refine ⟨c, k - lv, hc, by rw [Nat.add_assoc], by omega, ?_, Nat.le_trans (Nat.sub_le _ _) hcap.2⟩
      show off + lv * sz + (k - lv) * sz = c.tot
      rw [← hcap.1, Nat.add_assoc, ← Nat.add_mul]
      congr 2
      omega

theorem slice_nil_sound (H : HR σ base h w) (hf : FR σ n f a.tmps) {t e : TypeId} {sz : Nat} {lo hi : Option Operand} {u : Value}
    (hu : P.underlying t = some (.slice e)) (hm : szOf P e = some sz) (hx : R σ .nilsl u) (hh : bnd f 0 hi = some 0) (hl : bnd f 0 lo = some 0) :
    OkV P base σ w (Instr.sliceAt t u (lo.map a.eval) (hi.map a.eval) none) .nilsl h := by
  simp only [R] at hx
  subst hx
  have hrun := sliceAt_run (P := P) (w := w) hf hu hm (b := none) (len := 0) (k := 0) hh hl (Nat.le_refl _) (Nat.le_refl _)
  exact .pure H hrun (by simp [R])

theorem slice_esl_sound (H : HR σ base h w) (hf : FR σ n f a.tmps) {t e : TypeId} {sz : Nat} {lo hi : Option Operand} {u : Value}
    (hu : P.underlying t = some (.slice e)) (hm : szOf P e = some sz) (hx : R σ .esl u) (hh : bnd f 0 hi = some 0) (hl : bnd f 0 lo = some 0) :
    OkV P base σ w (Instr.sliceAt t u (lo.map a.eval) (hi.map a.eval) none) .esl h := by
  simp only [R] at hx
  obtain ⟨b, k, rfl⟩ := hx
  have hrun := sliceAt_run (P := P) (w := w) hf hu hm (b := some b) (len := 0) (k := k) hh hl (Nat.le_refl _) (Nat.zero_le _)
  refine .pure H hrun ?_
  simp only [R]
  by_cases hk : k = 0
  · exact ⟨b, 0, by simp [hk]⟩
  · exact ⟨_, k, by rw [if_neg hk]; rfl⟩

/-- x[:] of an array. -/
theorem sliceBounds_ok' (hf : FR σ n f a.tmps) {q : Bool} {len cap hv lv : Nat} {lo hi : Option Operand} (hh : bnd f len hi = some hv) (hl : bnd f 0 lo = some lv) (h1 : lv ≤ hv) (h2 : hv ≤ cap) :
    (Instr.sliceBounds q len cap (lo.map a.eval) (hi.map a.eval) none).run P w = .ok (lv, hv, cap) w := by
  unfold Instr.sliceBounds
  cases hi with
  | none =>
    simp only [bnd, Option.some.injEq] at hh
    subst hh
    cases lo with
    | none =>
      simp only [bnd, Option.some.injEq] at hl
      subst hl
      simp
    | some e =>
      simp only [bnd] at hl
      simp [sliceBound_ok hl (ev_sound hf e) h1]
  | some d =>
    simp only [bnd] at hh
    cases lo with
    | none =>
      simp only [bnd, Option.some.injEq] at hl
      subst hl
      simp [sliceBound_ok hh (ev_sound hf d) h2]
    | some e =>
      simp only [bnd] at hl
      simp [sliceBound_ok hh (ev_sound hf d) h2, sliceBound_ok hl (ev_sound hf e) h1]

theorem slice_arr_sound (H : HR σ base h w) (hf : FR σ n f a.tmps) {t e : TypeId} {id off len m hv lv : Nat} {lo hi : Option Operand} {u : Value} (hu : P.underlying t = some (.array len e)) (hm : szOf P e = some m)
    (hh : bnd f len hi = some hv) (hl : bnd f 0 lo = some lv) (h1 : lv ≤ hv) (h2 : hv ≤ len) (hx : R σ (.ptr id off) u) :
    OkV P base σ w (Instr.sliceAt t u (lo.map a.eval) (hi.map a.eval) none) (bif Nat.beq len lv then .sl id off (hv - lv) (some 0) m else .sl id (off + lv * m) (hv - lv) (some (len - lv)) m) h := by
  simp only [R] at hx
  obtain ⟨c, hc, rfl⟩ := hx
  have hrun : (Instr.sliceAt t (.pointer (some ⟨c.blk, c.off + off, none⟩)) (lo.map a.eval) (hi.map a.eval) none).run P w = .ok (.slice (some (if len = lv then ⟨c.blk, c.off + off, none⟩ else ⟨c.blk, c.off + off + lv * m, none⟩)) (hv - lv) (len - lv)) w := by
    simp [Instr.sliceAt, run_underlying hu, Instr.sureAddr, sliceBounds_ok' hf hh hl h1 h2, run_sizeOf' hm, add_none]
  by_cases hkl : len = lv
  · subst hkl
    rw [Nat.beq_refl]
    refine .pure H hrun ?_
    simp only [if_true, R, cond_true]
    exact ⟨c, 0, hc, by simp, by omega, rfl⟩
  · rw [nb hkl]
    refine .pure H hrun ?_
    rw [if_neg hkl]
    simp only [R, cond_false]
    exact ⟨c, len - lv, hc, by rw [Nat.add_assoc], by omega, rfl⟩

theorem bytes_extract {l : List UInt8} {a b : Nat} : (⟨l.toArray⟩ : ByteArray).extract a b = ⟨((l.drop a).take (b - a)).toArray⟩ := by
  apply ByteArray.ext
  apply Array.ext'
  simp [ByteArray.extract, ByteArray.copySlice, List.extract]

theorem slice_str_sound (H : HR σ base h w) (hf : FR σ n f a.tmps) {t : TypeId} {l : List UInt8} {hv lv : Nat} {lo hi : Option Operand} {u : Value} (hu : P.underlying t = some .string)
    (hh : bnd f l.length hi = some hv) (hl : bnd f 0 lo = some lv) (h1 : lv ≤ hv) (h2 : hv ≤ l.length) (hx : R σ (.str l) u) :
    OkV P base σ w (Instr.sliceAt t u (lo.map a.eval) (hi.map a.eval) none) (.str ((l.drop lv).take (hv - lv))) h := by
  simp only [R] at hx
  subst hx
  have hsz : (⟨l.toArray⟩ : ByteArray).size = l.length := rfl
  refine .pure H (u := .string ((⟨l.toArray⟩ : ByteArray).extract lv hv)) ?_ ?_
  · simp only [Instr.sliceAt, Sem.run_bind, run_underlying hu, Result.andThen_ok, Instr.slice, hsz, sliceBounds_ok' hf hh hl h1 h2, Sem.run_pure, Option.isSome_none, Bool.false_eq_true, if_false]
  · simp only [R, bytes_extract]

theorem index_str_sound (H : HR σ base h w) {t : TypeId} {l : List UInt8} {k : Nat} {x : AV} {b : UInt8} {u v : Value} (hu : P.underlying t = some .string)
    (hx : R σ (.str l) u) (hi : idx? x = some k) (hv : R σ x v) (hb : l[k]? = some b) : OkV P base σ w (Instr.index t u v) (.int .u8 b.toNat) h := by
  obtain ⟨kd, i, rfl, h0, rfl⟩ := idx?_spec hi hv
  simp only [R] at hx
  subst hx
  have hg : (⟨l.toArray⟩ : ByteArray)[i.toNat]? = some b := by
    have hlt : i.toNat < l.length := by
      rcases Nat.lt_or_ge i.toNat l.length with h | h
      · exact h
      · rw [List.getElem?_eq_none h] at hb; cases hb
    have hlt' : i.toNat < (⟨l.toArray⟩ : ByteArray).size := hlt
    rw [getElem?_pos (⟨l.toArray⟩ : ByteArray) i.toNat hlt']
    rw [List.getElem?_eq_getElem hlt] at hb
    cases hb
    rfl
  refine .pure H (u := .int .u8 b.toNat) ?_ (by simp [R])
  simp only [Instr.index, Sem.run_bind, asIntOf, Sem.run_pure, Result.andThen_ok, run_underlying hu, h0, if_true, hg]

theorem sliceBounds3_ok (hf : FR σ n f a.tmps) {len cap hv lv mv : Nat} {lo : Option Operand} {hi mx : Operand} (hm : idx? (ev f mx) = some mv) (hh : idx? (ev f hi) = some hv) (hl : bnd f 0 lo = some lv) (h1 : lv ≤ hv) (h2 : hv ≤ mv) (h3 : mv ≤ cap) :
    (Instr.sliceBounds true len cap (lo.map a.eval) (some (a.eval hi)) (some (a.eval mx))).run P w = .ok (lv, hv, mv) w := by
  unfold Instr.sliceBounds
  cases lo with
  | none =>
    simp only [bnd, Option.some.injEq] at hl
    subst hl
    simp [sliceBound_ok hm (ev_sound hf mx) h3, sliceBound_ok hh (ev_sound hf hi) h2]
  | some e =>
    simp only [bnd] at hl
    simp [sliceBound_ok hm (ev_sound hf mx) h3, sliceBound_ok hh (ev_sound hf hi) h2, sliceBound_ok hl (ev_sound hf e) h1]

theorem sliceAt3_run (hf : FR σ n f a.tmps) {t e : TypeId} {m : Nat} (hu : P.underlying t = some (.slice e)) (hm : szOf P e = some m) {b : Option Addr} {len k hv lv mv : Nat} {lo : Option Operand} {hi mx : Operand}
    (hx : idx? (ev f mx) = some mv) (hh : idx? (ev f hi) = some hv) (hl : bnd f 0 lo = some lv) (h1 : lv ≤ hv) (h2 : hv ≤ mv) (h3 : mv ≤ k) :
    (Instr.sliceAt t (.slice b len k) (lo.map a.eval) (some (a.eval hi)) (some (a.eval mx))).run P w = .ok (.slice (if mv = lv then b else b.map (·.add (lv * m))) (hv - lv) (mv - lv)) w := by
  simp only [Instr.sliceAt, Sem.run_bind, run_underlying hu, Result.andThen_ok, Instr.slice, sliceBounds3_ok hf hx hh hl h1 h2 h3, run_sizeOf' hm, Sem.run_pure]

theorem slice3_sound (H : HR σ base h w) (hf : FR σ n f a.tmps) {t e : TypeId} {id off len sz hv lv mv : Nat} {cap : Option Nat} {lo : Option Operand} {hi mx : Operand} {u : Value}
    (hu : P.underlying t = some (.slice e)) (hm : szOf P e = some sz) (hxm : idx? (ev f mx) = some mv) (hh : idx? (ev f hi) = some hv) (hl : bnd f 0 lo = some lv) (h1 : lv ≤ hv) (h2 : hv ≤ mv) (h3 : mv ≤ cap.getD len)
    (hx : R σ (.sl id off len cap sz) u) :
    OkV P base σ w (Instr.sliceAt t u (lo.map a.eval) (some (a.eval hi)) (some (a.eval mx))) (bif Nat.beq mv lv then .sl id off (hv - lv) (some 0) sz else .sl id (off + lv * sz) (hv - lv) (some (mv - lv)) sz) h := by
  simp only [R] at hx
  obtain ⟨c, k, hc, rfl, hk, hcap⟩ := hx
  have h4 : mv ≤ k := by
    cases cap with
    | none => simp only [Option.getD_none] at h3; omega
    | some cc => simp only at hcap; subst hcap; simpa using h3
  have hrun := sliceAt3_run (P := P) (w := w) hf hu hm (b := some ⟨c.blk, c.off + off, none⟩) (len := len) (k := k) hxm hh hl h1 h2 h4
  by_cases hkl : mv = lv
  · subst hkl
    rw [Nat.beq_refl]
    refine .pure H hrun ?_
    simp only [if_true, R, cond_true]
    exact ⟨c, 0, hc, by simp, by omega, rfl⟩
  · rw [nb hkl]
    refine .pure H hrun ?_
    rw [if_neg hkl]
    simp only [R, Option.map_some, add_none, cond_false]
    exact ⟨c, mv - lv, hc, by rw [Nat.add_assoc], by omega, rfl⟩

theorem slice3_nil_sound (H : HR σ base h w) (hf : FR σ n f a.tmps) {t e : TypeId} {sz : Nat} {lo : Option Operand} {hi mx : Operand} {u : Value}
    (hu : P.underlying t = some (.slice e)) (hm : szOf P e = some sz) (hx : R σ .nilsl u) (hxm : idx? (ev f mx) = some 0) (hh : idx? (ev f hi) = some 0) (hl : bnd f 0 lo = some 0) :
    OkV P base σ w (Instr.sliceAt t u (lo.map a.eval) (some (a.eval hi)) (some (a.eval mx))) .nilsl h := by
  simp only [R] at hx
  subst hx
  have hrun := sliceAt3_run (P := P) (w := w) hf hu hm (b := none) (len := 0) (k := 0) hxm hh hl (Nat.le_refl _) (Nat.le_refl _) (Nat.le_refl _)
  exact .pure H hrun (by simp [R])

/-- **The operations that make no call.** -/
theorem step1_sound (H : HR σ base h w) (hb : base.fit w.heap.size) (hf : FR σ n f a.tmps) (o : Oper) {v : AV} {h' : Hp} (hs : step1 P f h o.op = some (v, h')) : OkS P base σ w (execOp a.eval o) v h' := by
  unfold execOp
  generalize o.op = op at hs
  have E : ∀ x, R σ (ev f x) (a.eval x) := ev_sound hf
  cases op <;> simp only [step1] at hs ⊢
  case move x =>
    cases hs
    exact move_sound H hf x
  case assign x =>
    cases hs
    exact move_sound H hf x
  case pick c x y =>
    split at hs
    · rename_i t ht
      cases hs
      have := E c
      rw [ht] at this
      rw [R_bool this]
      cases t
      · exact .pure H (by simp [asBool]) (E y)
      · exact .pure H (by simp [asBool]) (E x)
    · cases hs
  case alloc t =>
    split at hs
    · rename_i cs hz
      cases hs
      exact (alloc_sound H hb hz).toS
    · cases hs
  case box t x =>
    split at hs
    · rename_i cs hp
      cases hs
      exact (box_sound H hb hp (E x)).toS
    · cases hs
  case build t ps =>
    split at hs
    · rename_i fs z hu hz
      split at hs
      · rename_i pl hpl
        cases hc : fillA (pl[·]?) z (ps.toList.map fun p => (p.1, ev f p.2)) with
        | none => simp [hc] at hs
        | some cs =>
          simp only [hc, Option.map_some, Option.some.injEq, Prod.mk.injEq] at hs
          obtain ⟨rfl, rfl⟩ := hs
          exact (build_struct_sound H hf hu hz hpl hc).toS
      · cases hs
    · rename_i len e z hu hz
      split at hs
      · rename_i m hm
        cases hc : fillA (fun i => some (i * m, m)) z (ps.toList.map fun p => (p.1, ev f p.2)) with
        | none => simp [hc] at hs
        | some cs =>
          simp only [hc, Option.map_some, Option.some.injEq, Prod.mk.injEq] at hs
          obtain ⟨rfl, rfl⟩ := hs
          exact (build_array_sound H hf hu hz hm hc).toS
      · cases hs
    · cases hs
  case buildSlice t len ps =>
    split at hs
    · rename_i e hu
      split at hs
      · rename_i m z hm hz
        cases hcc : (Nat.ble (len * m) 16777216 && Nat.beq z.length m)
        · simp [hcc] at hs
        · simp only [hcc, cond_true] at hs
          simp only [Bool.and_eq_true] at hcc
          split at hs
          · rename_i cs hc
            cases hs
            exact (buildSlice_sound H hb hf hu hz hm (Nat.le_of_ble_eq_true hcc.1) (Nat.eq_of_beq_eq_true hcc.2) hc).toS
          · cases hs
      · cases hs
    · cases hs
  case load t x =>
    split at hs
    · rename_i id off hx
      split at hs
      · rename_i b hbk
        cases hr : rdVar P b.cells t off with
        | none => simp [hr] at hs
        | some y =>
          simp only [hr, Option.map_some, Option.some.injEq, Prod.mk.injEq] at hs
          obtain ⟨rfl, rfl⟩ := hs
          have := E x
          rw [hx] at this
          exact (load_sound H hbk hr this).toS
      · cases hs
    · cases hs
  case store t x y =>
    split at hs
    · rename_i id off vs m hx hy hm
      cases hc : Nat.beq vs.length m
      · simp [hc] at hs
      · simp only [hc, cond_true] at hs
        cases hw : h.write id off vs with
        | none => simp [hw] at hs
        | some h1 =>
          simp only [hw, Option.map_some, Option.some.injEq, Prod.mk.injEq] at hs
          obtain ⟨rfl, rfl⟩ := hs
          have := E x
          rw [hx] at this
          exact store_sound H hy hm (Nat.eq_of_beq_eq_true hc) hw this (E y)
    · cases hs
  case nilCheck x =>
    split at hs
    · rename_i i o hx
      cases hs
      have := E x
      rw [hx] at this
      have h2 := this
      simp only [R] at h2
      obtain ⟨c, hc, he⟩ := h2
      rw [he] at this ⊢
      exact .pure H (by simp) this
    · cases hs
  case binOp op t x y ty =>
    cases hv : abBin P op t (ev f x) (ev f y) with
    | none => simp [hv] at hs
    | some r =>
      simp only [hv, Option.map_some, Option.some.injEq, Prod.mk.injEq] at hs
      obtain ⟨rfl, rfl⟩ := hs
      obtain ⟨u, h1, h2⟩ := abBin_sound (P := P) (w := w) hv (E x) (E y) x y
      exact (OkV.pure H h1 h2).toS
  case unOp op t x =>
    split at hs
    · rename_i b hx
      cases hs
      have := E x
      rw [hx] at this
      rw [R_bool this]
      exact (OkV.pure H (u := .bool (!b)) (by simp [Op.unary]) (by simp [R])).toS
    · rename_i k i hx
      cases hs
      have := E x
      rw [hx] at this
      rw [R_int this]
      exact (OkV.pure H (u := .int k (k.wrap (0 - i))) (by simp [Op.unary, Op.intArith]) (by simp [R])).toS
    · cases hs
  case convert src dst x =>
    split at hs
    · rename_i d k k' i h1 h2 hx
      cases hs
      have := E x
      rw [hx] at this
      exact (convert_sound H h1 h2 this).toS
    · cases hs
  case makeFunc fn x y =>
    split at hs
    · rename_i g
      cases hs
      refine (OkV.pure H (u := .func (.func g) (x.map a.eval) (y.map a.eval)) (by simp [Instr.makeFunc]) ?_).toS
      simp only [R]
      refine ⟨_, _, rfl, ?_, ?_⟩
      · rw [Array.toList_map]
        exact Rs.map _ _ fun z _ => E z
      · rw [Array.toList_map]
        exact Rs.map _ _ fun z _ => E z
    · cases hs
  case makeSlice t l c =>
    split at hs
    · rename_i e lv cv hu hl hc
      split at hs
      · rename_i m z hm hz
        split at hs
        · rename_i hcond
          cases hs
          obtain ⟨h0, h1, h2, h3, h4⟩ := hcond
          obtain ⟨kl, el⟩ := int?_spec hl (E l)
          obtain ⟨kc, ec⟩ := int?_spec hc (E c)
          rw [el, ec]
          exact (makeSlice_sound H hb hu hz hm h0 h1 h2 h3 h4).toS
        · cases hs
      · cases hs
    · cases hs
  case slice t x lo hi mx =>
    cases mx with
    | some m =>
      cases hi with
      | none => simp only at hs; cases hs
      | some hi =>
        simp only at hs
        split at hs
        · rename_i e id off len cap sz mv hu hx hmx
          split at hs
          · rename_i hv lv m h1 h2 hm
            cases hcc : (Nat.ble lv hv && Nat.beq m sz && Nat.ble hv mv && Nat.ble mv (cap.getD len))
            · simp [hcc] at hs
            · simp only [hcc, cond_true] at hs
              simp only [Bool.and_eq_true] at hcc
              have hms := Nat.eq_of_beq_eq_true hcc.1.1.2
              subst hms
              have := E x
              rw [hx] at this
              have key := slice3_sound H hf hu hm hmx h1 h2 (Nat.le_of_ble_eq_true hcc.1.1.1) (Nat.le_of_ble_eq_true hcc.1.2) (Nat.le_of_ble_eq_true hcc.2) this
              cases hbb : Nat.beq mv lv
              · simp only [hbb, cond_false, Option.some.injEq, Prod.mk.injEq] at hs key
                obtain ⟨rfl, rfl⟩ := hs
                exact key.toS
              · simp only [hbb, cond_true, Option.some.injEq, Prod.mk.injEq] at hs key
                obtain ⟨rfl, rfl⟩ := hs
                exact key.toS
          · cases hs
        · rename_i e hu hx hmx
          split at hs
          · rename_i h1 h2 hm
            cases hs
            have := E x
            rw [hx] at this
            exact (slice3_nil_sound H hf hu hm this hmx h1 h2).toS
          · cases hs
        · cases hs
    | none =>
      simp only at hs
      split at hs
      · rename_i e id off len cap sz hu hx
        split at hs
        · rename_i hv lv m h1 h2 hm
          cases hcc : (Nat.ble lv hv && Nat.beq m sz)
          · simp [hcc] at hs
          · simp only [hcc, cond_true] at hs
            simp only [Bool.and_eq_true] at hcc
            have hms := Nat.eq_of_beq_eq_true hcc.2
            subst hms
            have := E x
            rw [hx] at this
            have hh : h' = h := by
              revert hs
              cases cap with
              | some c => simp only; cases Nat.ble hv c <;> cases Nat.beq c lv <;> simp <;> intros <;> simp_all
              | none => simp only; cases Nat.ble hv len <;> cases Nat.blt lv len <;> simp <;> intros <;> simp_all
            subst hh
            exact (slice_sound H hf hu hm h1 h2 (Nat.le_of_ble_eq_true hcc.1) hs this).toS
        · cases hs
      · rename_i e hu hx
        split at hs
        · rename_i h1 h2 hm
          cases hs
          have := E x
          rw [hx] at this
          exact (slice_nil_sound H hf hu hm this h1 h2).toS
        · cases hs
      · rename_i e hu hx
        split at hs
        · rename_i h1 h2 hm
          cases hs
          have := E x
          rw [hx] at this
          exact (slice_esl_sound H hf hu hm this h1 h2).toS
        · cases hs
      · rename_i n e id off hu hx
        split at hs
        · rename_i hv lv m h1 h2 hm
          cases hcc : (Nat.ble lv hv && Nat.ble hv n)
          · simp [hcc] at hs
          · simp only [hcc, cond_true] at hs
            simp only [Bool.and_eq_true] at hcc
            have := E x
            rw [hx] at this
            have key := slice_arr_sound H hf hu hm h1 h2 (Nat.le_of_ble_eq_true hcc.1) (Nat.le_of_ble_eq_true hcc.2) this
            cases hbb : Nat.beq n lv
            · simp only [hbb, cond_false, Option.some.injEq, Prod.mk.injEq] at hs key
              obtain ⟨rfl, rfl⟩ := hs
              exact key.toS
            · simp only [hbb, cond_true, Option.some.injEq, Prod.mk.injEq] at hs key
              obtain ⟨rfl, rfl⟩ := hs
              exact key.toS
        · cases hs
      · rename_i l hu hx
        split at hs
        · rename_i hv lv h1 h2
          cases hcc : (Nat.ble lv hv && Nat.ble hv l.length)
          · simp [hcc] at hs
          · simp only [hcc, cond_true, Option.some.injEq, Prod.mk.injEq] at hs
            obtain ⟨rfl, rfl⟩ := hs
            simp only [Bool.and_eq_true] at hcc
            have := E x
            rw [hx] at this
            exact (slice_str_sound H hf hu h1 h2 (Nat.le_of_ble_eq_true hcc.1) (Nat.le_of_ble_eq_true hcc.2) this).toS
        · cases hs
      · cases hs
  case fieldAddr t x i =>
    split at hs
    · rename_i fs id off hu hx
      split at hs
      · rename_i fd hfd
        split at hs
        · rename_i m hm
          by_cases h0 : m = 0
          · subst h0; simp at hs
          · rw [nb h0] at hs
            cases hs
            have := E x
            rw [hx] at this
            exact (fieldAt_sound H hu hfd hm h0 this).toS
        · cases hs
      · cases hs
    · cases hs
  case field t x i =>
    split at hs
    · rename_i fs cs hu hx
      split at hs
      · rename_i fd hfd
        cases hr : rdVar P cs fd.type fd.offset with
        | none => simp [hr] at hs
        | some y =>
          simp only [hr, Option.map_some, Option.some.injEq, Prod.mk.injEq] at hs
          obtain ⟨rfl, rfl⟩ := hs
          have := E x
          rw [hx] at this
          exact (field_sound H hu hfd this hr).toS
      · cases hs
    · cases hs
  case indexAddr t x i =>
    split at hs
    · rename_i e id off len cap sz k hu hx hi
      split at hs
      · rename_i m hm
        cases hk : Nat.blt k len
        · simp [hk] at hs
        · simp only [hk, cond_true, Option.some.injEq, Prod.mk.injEq] at hs
          obtain ⟨rfl, rfl⟩ := hs
          have := E x
          rw [hx] at this
          exact (indexAt_slice_sound H hu hm this hi (E i) (Nat.le_of_ble_eq_true hk)).toS
      · cases hs
    · rename_i len e id off k hu hx hi
      split at hs
      · rename_i m hm
        cases hk : Nat.blt k len
        · simp [hk] at hs
        · simp only [hk, cond_true, Option.some.injEq, Prod.mk.injEq] at hs
          obtain ⟨rfl, rfl⟩ := hs
          have := E x
          rw [hx] at this
          exact (indexAt_array_sound H hu hm this hi (E i) (Nat.le_of_ble_eq_true hk)).toS
      · cases hs
    · cases hs
  case index t x i =>
    split at hs
    · rename_i len e cs k hu hx hi
      split at hs
      · rename_i m hm
        cases hk : Nat.blt k len
        · simp [hk] at hs
        · simp only [hk, cond_true] at hs
          cases hr : rdVar P cs e (k * m) with
          | none => simp [hr] at hs
          | some y =>
            simp only [hr, Option.map_some, Option.some.injEq, Prod.mk.injEq] at hs
            obtain ⟨rfl, rfl⟩ := hs
            have := E x
            rw [hx] at this
            exact (index_array_sound H hu hm this hi (E i) (Nat.le_of_ble_eq_true hk) hr).toS
      · cases hs
    · rename_i l k hu hx hi
      cases hb : l[k]? with
      | none => simp [hb] at hs
      | some b =>
        simp only [hb, Option.map_some, Option.some.injEq, Prod.mk.injEq] at hs
        obtain ⟨rfl, rfl⟩ := hs
        have := E x
        rw [hx] at this
        exact (index_str_sound H hu this hi (E i) hb).toS
    · cases hs
  case makeMap t r =>
    split at hs
    · rename_i k e hu
      cases hs
      exact (makeMap_sound H hb hu (r := none) (fun v e => by cases e)).toS
    · rename_i k e x hu
      split at hs
      · rename_i q n hx
        cases hs
        have := E x
        rw [hx] at this
        exact (makeMap_sound H hb hu (r := some (a.eval x)) (fun v e => by cases e; exact ⟨q, n, R_int this⟩)).toS
      · cases hs
    · cases hs
  case lookup t x i ok =>
    split at hs
    · rename_i k e hu
      split at hs
      · rename_i z hz
        exact (lookup_sound H hu hz hs (E i) (E x)).toS
      · cases hs
    · cases hs
  case mapUpdate t m k v =>
    split at hs
    · rename_i kt e hu
      obtain ⟨rfl, w', h1, h2, h3⟩ := mapUpdate_sound H hu hs (E k) (E v) (E m)
      exact ⟨.skip, undef, w', σ, by simp [h1], rfl, R_any, .refl _, h2, h3⟩
    · cases hs
  case range t x =>
    split at hs
    · rename_i k e hu
      exact (range_sound H hb hu hs (E x)).toS
    · cases hs
  case entry x => exact (entry_sound H hs (E x)).toS
  case extract x i =>
    split at hs
    · rename_i vs hx
      cases hy : vs[i]? with
      | none => simp [hy] at hs
      | some y =>
        simp only [hy, Option.map_some, Option.some.injEq, Prod.mk.injEq] at hs
        obtain ⟨rfl, rfl⟩ := hs
        have := E x
        rw [hx] at this
        exact (extract_sound H this hy).toS
    · cases hs
  all_goals cases hs

end
end Go.Abs

set_option linter.unusedSimpArgs false
set_option linter.unusedVariables false
namespace Go.Abs
open Go Go.RowKit

section
variable {P : Program} {base : Prot} {σ : Env} {w : World} {h : Hp}

/-- A second block over the same memory as a block of the call's own. -/
theorem HR.alias (H : HR σ base h w) {id : Nat} {b b' : Blk} (hb : lkB h.blks id = some b) (hw : b.wr = true) {c : Loc} (hc : σ id = some c) (hch : b'.ch = b.ch) (hbw : b'.wr = true)
    {cs : Array Value} {e : TypeId} {fz : Nat × Nat} (hg : w.heap[c.blk]? = some (.cells cs e fz)) (hl : b'.cells.length ≤ c.tot)
    (hr : ∀ (j : Nat) (a : AV), b'.cells[j]? = some a → ∃ v : Value, cs[c.off + j]? = some v ∧ R σ a v) :
    HR (upd σ h.next c) base { h with next := h.next + 1, blks := (h.next, b') :: h.blks } w ∧ Ext σ (upd σ h.next c) := by
  have hx : Ext σ (upd σ h.next c) := .upd _ (H.dom _ (Nat.le_refl _))
  obtain ⟨c0, cs0, e0, fz0, a1, a2, a3, a4, a5, a6⟩ := H.cel id b hb
  rw [hc] at a1
  cases a1
  rw [hg] at a2
  cases a2
  have same : ∀ j d c', lkB h.blks j = some d → σ j = some c' → c.blk = c'.blk → b.ch = d.ch ∧ c = c' := fun j d c' hd hc' hbk => by
    by_cases hj : id = j
    · subst hj
      rw [hb] at hd
      rw [hc] at hc'
      cases hd
      cases hc'
      exact ⟨rfl, rfl⟩
    · exact H.al id j b d c c' hj hb hd hc hc' hbk hw
  refine ⟨⟨fun i hi => ?_, ?_, ?_, fun i d hd => ?_, fun i j d d' c1 c2 hij hd hd' hc1 hc2 hbk hw' => ?_, H.lps.step hx (fun _ _ _ _ _ _ h _ _ _ => h) (fun _ _ h => h) (fun _ _ _ => rfl)⟩, hx⟩
  · have hi' : h.next + 1 ≤ i := hi
    rw [upd_other _ _ _ _ (by omega)]; exact H.dom i (by omega)
  · simp only [Srt, List.pairwise_cons]
    exact ⟨fun x hx => (H.chn x hx).2, H.srt⟩
  · intro x hx
    simp only [List.mem_cons] at hx
    rcases hx with rfl | hx
    · have := H.chn _ (lkB_mem hb)
      simp only at this ⊢
      exact ⟨by rw [hch]; omega, Nat.lt_succ_self _⟩
    · have := H.chn x hx; exact ⟨this.1, Nat.lt_succ_of_lt this.2⟩
  · by_cases hi : h.next = i
    · subst hi
      simp only [lkB, Nat.beq_refl, cond_true, Option.some.injEq] at hd
      subst hd
      refine ⟨c, cs, e, fz, upd_same _ _ _, hg, a3, hl, fun j a ha => ?_, ⟨fun _ => a6.1 hw, fun hw' => by rw [hbw] at hw'; cases hw'⟩⟩
      obtain ⟨v, h1, h2⟩ := hr j a ha
      exact ⟨v, h1, h2.ext hx⟩
    · simp only [lkB, nb hi, cond_false] at hd
      obtain ⟨c', cs', e', fz', b1, b2, b3, b4, b5, b6⟩ := H.cel i d hd
      refine ⟨c', cs', e', fz', hx _ _ b1, b2, b3, b4, fun j a ha => ?_, b6⟩
      obtain ⟨v, h1, h2⟩ := b5 j a ha
      exact ⟨v, h1, h2.ext hx⟩
  · by_cases hi : h.next = i
    · subst hi
      have hj : h.next ≠ j := fun e => hij e
      simp only [lkB, Nat.beq_refl, cond_true, Option.some.injEq] at hd
      subst hd
      simp only [lkB, nb hj, cond_false] at hd'
      rw [upd_same] at hc1
      rw [upd_other _ _ _ _ (by omega)] at hc2
      cases hc1
      rw [hch]
      exact same j d' c2 hd' hc2 hbk
    · simp only [lkB, nb hi, cond_false] at hd
      rw [upd_other _ _ _ _ (by omega)] at hc1
      by_cases hj : h.next = j
      · subst hj
        simp only [lkB, Nat.beq_refl, cond_true, Option.some.injEq] at hd'
        subst hd'
        rw [upd_same] at hc2
        cases hc2
        have := same i d c1 hd hc1 hbk.symm
        exact ⟨by rw [hch]; exact this.1.symm, this.2.symm⟩
      · simp only [lkB, nb hj, cond_false] at hd'
        rw [upd_other _ _ _ _ (by omega)] at hc2
        exact H.al i j d d' c1 c2 hij hd hd' hc1 hc2 hbk hw'

theorem HR.trunc (H : HR σ base h w) (c s n : Nat) : HR σ base { h with blks := trunc h.blks c s n } w :=
  H.sub (trunc_Srt _ _ _ H.srt) (trunc_Chn H.chn) fun _ _ hd => lkB_trunc_take H.srt H.chn hd

/-- The cells that a slice brings. -/
theorem src_spec (H : HR σ base h w) {size n : Nat} {x : AV} {vs : List AV} (hs : srcCells h size x = some (vs, n)) {u : Value} (hu : R σ x u) :
    ∃ ms, Rs σ vs ms ∧ ms.length = n * size ∧ ((u = .slice none 0 0 ∧ n = 0) ∨ ∃ a k, u = .slice (some a) n k ∧ ∀ j m, ms[j]? = some m → w.cell? (a.add j) = some m) := by
  cases x <;> simp only [srcCells] at hs
  case nilsl =>
    cases hs
    simp only [R] at hu
    exact ⟨[], Rs.nil, by simp, .inl ⟨hu, rfl⟩⟩
  case esl =>
    cases hs
    simp only [R] at hu
    obtain ⟨b, q, rfl⟩ := hu
    exact ⟨[], Rs.nil, by simp, .inr ⟨b, q, rfl, fun j m hm => by simp at hm⟩⟩
  case sl id off len cap sz =>
    by_cases hl0 : len = 0
    · subst hl0
      simp only [Nat.beq_refl, cond_true, Option.some.injEq, Prod.mk.injEq] at hs
      obtain ⟨rfl, rfl⟩ := hs
      simp only [R] at hu
      obtain ⟨c, k, hc, rfl, _⟩ := hu
      exact ⟨[], Rs.nil, by simp, .inr ⟨_, k, rfl, fun j m hm => by simp at hm⟩⟩
    rw [nb hl0] at hs
    simp only [cond_false] at hs
    split at hs
    · rename_i b hb
      simp only [slice?] at hs
      cases hle : Nat.ble (off + len * size) b.cells.length
      · simp [hle] at hs
      · simp only [hle, cond_true, Option.map_some, Option.some.injEq, Prod.mk.injEq] at hs
        obtain ⟨rfl, rfl⟩ := hs
        have hle' := Nat.le_of_ble_eq_true hle
        simp only [R] at hu
        obtain ⟨c, k, hc, rfl, hk, _⟩ := hu
        obtain ⟨c', cs, e, fz, a1, a2, a3, a4, a5, a6⟩ := H.cel id b hb
        rw [hc] at a1
        cases a1
        refine ⟨(cs.toList.drop (c.off + off)).take (len * size), Rs.mk (by simp; omega) fun j a v ha hv => ?_, by simp; omega, .inr ⟨_, k, rfl, fun j m hm => ?_⟩⟩
        · rw [List.getElem?_take] at ha hv
          split at ha
          · rw [if_pos ‹_›, List.getElem?_drop] at hv
            rw [List.getElem?_drop] at ha
            obtain ⟨u', hu', hru⟩ := a5 _ _ ha
            rw [show c.off + (off + j) = c.off + off + j by omega] at hu'
            simp only [Array.getElem?_toList] at hv
            rw [hu'] at hv
            cases hv
            exact hru
          · cases ha
        · rw [add_none]
          rw [List.getElem?_take] at hm
          split at hm
          · rw [List.getElem?_drop] at hm
            simp only [Array.getElem?_toList] at hm
            simp [World.cell?, a2, hm]
          · cases hm
    · cases hs
  all_goals cases hs

theorem lkB_trunc_has : ∀ {l : List (Nat × Blk)} (c s n : Nat) {i : Nat} {b : Blk}, lkB l i = some b → b.wr = true → ∃ d, lkB (Abs.trunc l c s n) i = some d ∧ d.ch = b.ch ∧ d.wr = true
  | [], c, s, n, i, b, h, _ => by simp [lkB] at h
  | (j, d) :: r, c, s, n, i, b, h, hw => by
    simp only [Abs.trunc]
    cases hb : Nat.blt j c
    · simp only [cond_false]
      by_cases hj : j = i
      · subst hj
        simp only [lkB, Nat.beq_refl, cond_true, Option.some.injEq] at h ⊢
        subst h
        refine ⟨_, rfl, ?_⟩
        cases (Nat.beq d.ch c && !Nat.beq j s) <;> simp [hw]
      · simp only [lkB, nb hj, cond_false] at h ⊢
        exact lkB_trunc_has c s n h hw
    · exact ⟨b, by simpa only [cond_true] using h, rfl, hw⟩

theorem run_append_zero {t e : TypeId} {i : TypeInfo} (ty : TypeId) (ht : P.underlying t = some (.slice e)) (hi : P.info? e = some i) (b : Option Addr) {len k : Nat} (hk : len ≤ k) (x : Option Addr) (c : Nat) :
    (Builtin.append_ #[t, t] ty #[.slice b len k, .slice x 0 c]).run P w = .ok (.slice b len k) w := by
  have hf : (Builtin.firstCells i.size 0 (.slice x 0 c)).run P w = .ok #[] w := by
    cases x with
    | none => simp [Builtin.firstCells]
    | some a => simp [Builtin.firstCells, loadCells, loadCellsFrom]
  cases b with
  | none => simp [Builtin.append_, run_underlying ht, sizeOf, typeInfo, hi, Builtin.lenOf, hk, hf]
  | some a => simp [Builtin.append_, run_underlying ht, sizeOf, typeInfo, hi, Builtin.lenOf, hk, hf, storeCells]

theorem run_append_room' {t e e' : TypeId} {i : TypeInfo} (ty : TypeId) (ht : P.underlying t = some (.slice e)) (hi : P.info? e = some i)
    (g o sLen sCap : Nat) (cur : Array Value) (hg : w.heap[g]? = some (.cells cur e' (0, 0)))
    (a : Addr) (m c : Nat) (news : List Value) (hl : news.length = m * i.size) (hnews : ∀ j u, news[j]? = some u → w.cell? (a.add j) = some u) (h1 : ∀ u ∈ news, u.oneCell' = true)
    (hroom : sLen + m ≤ sCap) (hfit : o + sLen * i.size + news.length ≤ cur.size) :
    (Builtin.append_ #[t, t] ty #[.slice (some ⟨g, o, none⟩) sLen sCap, .slice (some a) m c]).run P w =
      .ok (.slice (some ⟨g, o, none⟩) (sLen + m) sCap) (w.setRow g (cur.toList.take (o + sLen * i.size) ++ news ++ cur.toList.drop (o + sLen * i.size + news.length)).toArray) := by
  have hf := run_firstCells_some (P := P) w i.size m a m c news hl hnews
  have hst := run_storeCells_at P g (o + sLen * i.size) e' news 0 cur w hg (by simpa using hfit) h1
  simp only [Nat.add_zero] at hst
  simp [Builtin.append_, run_underlying ht, sizeOf, typeInfo, hi, Builtin.lenOf, hroom, hf, add_none, hst]

theorem okGrow_spec {e size need : Nat} (hg : okGrow P e size need = true) : need ≤ 1073741824 ∧ (∃ i z, P.info? e = some i ∧ i.zero = some z ∧ z.cells.size = size ∧ i.bytes ≤ 4096) := by
  simp only [okGrow, Bool.and_eq_true] at hg
  obtain ⟨⟨h1, h2⟩, h3⟩ := hg
  refine ⟨Nat.le_of_ble_eq_true h1, ?_⟩
  split at h3
  · rename_i zc hz
    obtain ⟨i, z, hi, hz', hr⟩ := zeroCells_spec hz
    refine ⟨i, z, hi, hz', ?_, ?_⟩
    · have := (hr (fun _ => none)).length
      simp only [Array.length_toList] at this
      rw [this]
      exact Nat.eq_of_beq_eq_true h3
    · simp only [bytesOf, hi, Option.map_some, Option.any_some] at h2
      exact Nat.le_of_ble_eq_true h2
  · cases h3

/-- A grown block, as the model makes it. -/
theorem HR.grown (H : HR σ base h w) (hb : base.fit w.heap.size) {old vs : List AV} {os ms : List Value} (ho : Rs σ old os) (hm : Rs σ vs ms) {z : Array Value} {size need cap : Nat} (e : TypeId) (ch : Nat) (hch : ch ≤ h.next)
    (hz : z.size = size) (hl : os.length + ms.length = need * size) (hcap : need ≤ cap) :
    ∃ cs : Array Value, cs = os.toArray ++ ms.toArray ++ Builtin.zeroCells z (cap - need) ∧ cs.size = cap * size ∧
      HR (upd σ h.next ⟨w.heap.size, 0, cs.size⟩) base { h with next := h.next + 1, blks := (h.next, { cells := old ++ vs, ch := ch, wr := true }) :: h.blks } (w.drew.alloc (.cells cs e)) ∧
      Ext σ (upd σ h.next ⟨w.heap.size, 0, cs.size⟩) ∧ Fw base w (w.drew.alloc (.cells cs e)) := by
  refine ⟨_, rfl, ?_, ?_⟩
  · simp only [Array.size_append, List.size_toArray, size_zeroCells, hz]
    rw [hl, ← Nat.add_mul]
    congr 1
    omega
  · have hap := ho.append hm
    have hlen := hap.length
    have key := HR.add (H := H.drew) (w := w.drew) hb (b := { cells := old ++ vs, ch := ch, wr := true }) (cs := os.toArray ++ ms.toArray ++ Builtin.zeroCells z (cap - need)) e
      (by simp only [Array.size_append, List.size_toArray]; simp only [List.length_append] at hlen ⊢; omega)
      (fun j a ha => by
        obtain ⟨v, hv, hr⟩ := hap.get ha
        refine ⟨v, ?_, hr⟩
        have hj : j < (os ++ ms).length := by
          rcases Nat.lt_or_ge j (os ++ ms).length with h | h
          · exact h
          · rw [List.getElem?_eq_none h] at hv; cases hv
        rw [Array.getElem?_append_left (by simpa using hj)]
        simpa using hv) hch rfl
    exact ⟨key.1, key.2, (Fw.drew _ _).trans (Fw.alloc (w := w.drew) hb _)⟩

theorem append1_sound (H : HR σ base h w) (hb : base.fit w.heap.size) {t e : TypeId} {size n : Nat} {s x v : AV} {vs : List AV} {h' : Hp} (ty : TypeId) (ht : P.underlying t = some (.slice e))
    (hm : szOf P e = some size) (hsrc : srcCells h size x = some (vs, n)) (ha : append1 P h e size vs n s = some (v, h')) {us ux : Value} (hus : R σ s us) (hux : R σ x ux) :
    OkV P base σ w (Builtin.append_ #[t, t] ty #[us, ux]) v h' := by
  obtain ⟨i, hi, rfl⟩ := szOf_spec hm
  obtain ⟨ms, hms, hml, hcase⟩ := src_spec H hsrc hux
  -- nothing to append
  have zero : n = 0 → ∃ a c, ux = .slice a 0 c := fun h0 => by
    rcases hcase with ⟨rfl, _⟩ | ⟨a, k, rfl, _⟩
    · exact ⟨none, 0, rfl⟩
    · exact ⟨some a, k, by rw [h0]⟩
  have some' : n ≠ 0 → ∃ a k, ux = .slice (some a) n k ∧ ∀ j m, ms[j]? = some m → w.cell? (a.add j) = some m := fun h0 => by
    rcases hcase with ⟨_, h1⟩ | h1
    · exact absurd h1 h0
    · exact h1
  cases s <;> simp only [append1] at ha
  case nilsl =>
    simp only [R] at hus
    subst hus
    by_cases h0 : n = 0
    · obtain ⟨a, c, rfl⟩ := zero h0
      subst h0
      simp only [Nat.beq_refl, cond_true, Option.some.injEq, Prod.mk.injEq] at ha
      obtain ⟨rfl, rfl⟩ := ha
      exact .pure H (run_append_zero ty ht hi none (Nat.le_refl _) a c) (by simp [R])
    · rw [nb h0] at ha
      simp only [cond_false] at ha
      cases hg : (okGrow P e i.size n && vs.all AV.isCell)
      · simp [hg] at ha
      · simp only [hg, cond_true, Option.some.injEq, Prod.mk.injEq] at ha
        obtain ⟨rfl, rfl⟩ := ha
        simp only [Bool.and_eq_true] at hg
        obtain ⟨hneed, i', z, hi', hz, hzs, hby⟩ := okGrow_spec hg.1
        rw [hi] at hi'
        cases hi'
        obtain ⟨a, k, rfl, hcell⟩ := some' h0
        have hbytes : n * i.bytes ≤ 281474976710656 := by
          have := Nat.mul_le_mul hneed hby
          omega
        have hrun := run_append_nil (P := P) w t ty e i z ht hi hz a n k ms hml hcell (by omega) (by omega) hbytes
        obtain ⟨cs, hcs, hsz, k1, k2, k3⟩ := H.grown hb Rs.nil hms (z := z.cells) (need := n) (cap := grownCap w n 0 e) e h.next (Nat.le_refl _) hzs (by simpa using hml) (grownCap_ge _ _ _ _)
        have hcs' : cs = ms.toArray ++ Builtin.zeroCells z.cells (grownCap w n 0 e - n) := by rw [hcs]; simp
        rw [← hcs'] at hrun
        refine ⟨_, _, _, hrun, ?_, k2, k1, k3⟩
        simp only [R]
        exact ⟨_, grownCap w n 0 e, upd_same _ _ _, by simp, grownCap_ge _ _ _ _, by simp [hsz], grownCap_le_maxLen _ _ _ _ (by unfold maxLen; omega)⟩
  case esl =>
    simp only [R] at hus
    obtain ⟨b0, q0, rfl⟩ := hus
    by_cases h0 : n = 0
    · obtain ⟨a, c, rfl⟩ := zero h0
      subst h0
      simp only [Nat.beq_refl, cond_true, Option.some.injEq, Prod.mk.injEq] at ha
      obtain ⟨rfl, rfl⟩ := ha
      exact .pure H (run_append_zero ty ht hi (some b0) (Nat.zero_le _) a c) (by simp only [R]; exact ⟨b0, q0, rfl⟩)
    · rw [nb h0] at ha
      simp only [cond_false] at ha
      cases ha
  case sl id off len cap sz =>
    by_cases hsz : sz = i.size
    · subst hsz
      simp only [Nat.beq_refl, Bool.not_true, cond_false] at ha
      have hus' := hus
      simp only [R] at hus
      obtain ⟨c, k, hc, rfl, hk, hcap⟩ := hus
      by_cases h0 : n = 0
      · obtain ⟨a, q, rfl⟩ := zero h0
        subst h0
        simp only [Nat.beq_refl, cond_true, Option.some.injEq, Prod.mk.injEq] at ha
        obtain ⟨rfl, rfl⟩ := ha
        exact .pure H (run_append_zero ty ht hi _ hk a q) hus'
      · rw [nb h0] at ha
        simp only [cond_false] at ha
        cases hg : (okGrow P e i.size (len + n) && vs.all AV.isCell)
        · simp [hg] at ha
        · simp only [hg, Bool.not_true, cond_false] at ha
          simp only [Bool.and_eq_true] at hg
          obtain ⟨hneed, i', z, hi', hz, hzs, hby⟩ := okGrow_spec hg.1
          rw [hi] at hi'
          cases hi'
          obtain ⟨a, q, rfl, hcell⟩ := some' h0
          have hmul : (len + n) * i.bytes ≤ 140737488355328 := by
            have := Nat.mul_le_mul hneed hby
            omega
          have h63 : ((len + n : Nat) : Int) ≤ 9223372036854775807 := by omega
          -- within the capacity
          have room : ∀ {h1 : Hp}, h.write id (off + len * i.size) vs = some h1 → len + n ≤ k →
              (Builtin.append_ #[t, t] ty #[.slice (some ⟨c.blk, c.off + off, none⟩) len k, .slice (some a) n q]).run P w =
                .ok (.slice (some ⟨c.blk, c.off + off, none⟩) (len + n) k) (putRow w c ((w.heap[c.blk]?).elim #[] fun | .cells x _ _ => x | _ => #[]) (off + len * i.size) ms) ∧
              HR σ base h1 (putRow w c ((w.heap[c.blk]?).elim #[] fun | .cells x _ _ => x | _ => #[]) (off + len * i.size) ms) ∧
              Fw base w (putRow w c ((w.heap[c.blk]?).elim #[] fun | .cells x _ _ => x | _ => #[]) (off + len * i.size) ms) := fun hw hle => by
            obtain ⟨cur, e', g1, g2, g3, g4, g5, g6⟩ := H.write hw hms hc
            rw [g1]
            refine ⟨?_, g5, g6⟩
            have := run_append_room' (P := P) ty ht hi c.blk (c.off + off) len k cur g1 a n q ms hml hcell g4 hle (by omega)
            simpa [putRow, Nat.add_assoc] using this
          -- beyond it
          have grow : ∀ {old : List AV} {os : List Value}, Rs σ old os → os.length = len * i.size → (∀ j u, os[j]? = some u → w.cell? (⟨c.blk, c.off + off + j, none⟩) = some u) → ¬ (len + n ≤ k) →
              ∀ (h0 : Hp), HR σ base h0 w → ∀ ch, ch ≤ h0.next →
              OkV P base σ w (Builtin.append_ #[t, t] ty #[.slice (some ⟨c.blk, c.off + off, none⟩) len k, .slice (some a) n q]) (.sl h0.next 0 (len + n) none i.size)
                { h0 with next := h0.next + 1, blks := (h0.next, { cells := old ++ vs, ch := ch, wr := true }) :: h0.blks } := fun ho hol hoc hlt h0 H0 ch hch => by
            have hrun := run_append_grow (P := P) w t ty e i z ht hi hz ⟨c.blk, c.off + off, none⟩ len k _ hol (fun j u hu => by rw [add_none]; exact hoc j u hu) a n q ms hml hcell (by omega) h63
              (growslice_fits (by omega) hmul)
            obtain ⟨cs, hcs, hsz, k1, k2, k3⟩ := H0.grown hb ho hms (z := z.cells) (need := len + n) (cap := grownCap w (len + n) k e) e ch hch hzs (by rw [hol, hml, ← Nat.add_mul]) (grownCap_ge _ _ _ _)
            rw [← hcs] at hrun
            refine ⟨_, _, _, hrun, ?_, k2, k1, k3⟩
            simp only [R]
            exact ⟨_, grownCap w (len + n) k e, upd_same _ _ _, by simp, grownCap_ge _ _ _ _, by simp [hsz], grownCap_le_maxLen _ _ _ _ (by unfold maxLen; omega)⟩
          -- the old cells
          have olds : ∀ {b : Blk}, lkB h.blks id = some b → off + len * i.size ≤ b.cells.length →
              ∃ os, Rs σ ((b.cells.drop off).take (len * i.size)) os ∧ os.length = len * i.size ∧ (∀ j u, os[j]? = some u → w.cell? (⟨c.blk, c.off + off + j, none⟩) = some u) := fun {b} hbk hle => by
            have hs2 : srcCells h i.size (.sl id off len cap i.size) = some ((b.cells.drop off).take (len * i.size), len) := by
              by_cases hl0 : len = 0
              · subst hl0
                simp [srcCells]
              · simp only [srcCells, hbk, slice?, nb hl0, cond_false]
                have : Nat.ble (off + len * i.size) b.cells.length = true := Nat.ble_eq_true_of_le hle
                simp [this]
            obtain ⟨os, o1, o2, o3⟩ := src_spec H hs2 hus'
            refine ⟨os, o1, o2, fun j u hu => ?_⟩
            rcases o3 with ⟨o3, _⟩ | ⟨a', k', o3, o4⟩
            · cases o3
            · cases o3
              have := o4 j u hu
              rwa [add_none] at this
          cases hbk : lkB h.blks id with
          | none => simp [hbk] at ha
          | some b =>
            cases cap with
            | some cc =>
              simp only at hcap
              subst hcap
              simp only [hbk] at ha
              cases hle : Nat.ble (len + n) k
              · simp only [hle, cond_false] at ha
                simp only [slice?] at ha
                cases hle2 : Nat.ble (off + len * i.size) b.cells.length
                · simp [hle2] at ha
                · simp only [hle2, cond_true, Option.some.injEq, Prod.mk.injEq] at ha
                  obtain ⟨rfl, rfl⟩ := ha
                  obtain ⟨os, o1, o2, o3⟩ := olds hbk (Nat.le_of_ble_eq_true hle2)
                  exact grow o1 o2 o3 (fun hh => by rw [Nat.ble_eq_true_of_le hh] at hle; cases hle) h H h.next (Nat.le_refl _)
              · simp only [hle, cond_true] at ha
                cases hw : h.write id (off + len * i.size) vs with
                | none => simp [hw] at ha
                | some h1 =>
                  simp only [hw, Option.map_some, Option.some.injEq, Prod.mk.injEq] at ha
                  obtain ⟨rfl, rfl⟩ := ha
                  obtain ⟨r1, r2, r3⟩ := room hw (Nat.le_of_ble_eq_true hle)
                  refine ⟨_, _, σ, r1, ?_, .refl _, r2, r3⟩
                  simp only [R]
                  exact ⟨c, k, hc, rfl, Nat.le_of_ble_eq_true hle, rfl⟩
            | none =>
              simp only at hcap
              have hcap2 := hcap.2
              replace hcap := hcap.1
              simp only [hbk] at ha
              obtain ⟨c', cs, e', fz, a1, a2, a3, a4, a5, a6⟩ := H.cel id b hbk
              rw [hc] at a1
              cases a1
              cases hle : (Nat.blt 0 i.size && Nat.ble (off + (len + n) * i.size) b.cells.length)
              · simp only [hle, cond_false] at ha
                cases hcd : (Nat.beq off 0 && b.wr && Nat.ble (len * i.size) b.cells.length)
                · simp [hcd] at ha
                · simp only [hcd, cond_true, Option.some.injEq, Prod.mk.injEq] at ha
                  obtain ⟨rfl, rfl⟩ := ha
                  simp only [Bool.and_eq_true] at hcd
                  obtain ⟨⟨ho0, hwr⟩, hlen⟩ := hcd
                  have ho0 := Nat.eq_of_beq_eq_true ho0
                  subst ho0
                  have hlen := Nat.le_of_ble_eq_true hlen
                  obtain ⟨rfl, hbase⟩ := a6.1 hwr
                  obtain ⟨os, o1, o2, o3⟩ := olds hbk (by omega)
                  have o1' : Rs σ (b.cells.take (len * i.size)) os := by simpa using o1
                  have hchl : b.ch ≤ h.next := by have := H.chn _ (lkB_mem hbk); simp only at this; omega
                  by_cases hin : len + n ≤ k
                  · -- in place: the new block lies over the old one
                    have hfit : c.off + len * i.size + ms.length ≤ cs.size := by
                      have h5 := Nat.mul_le_mul_right i.size hin
                      rw [Nat.add_mul] at h5
                      omega
                    have hone : ∀ m ∈ ms, m.oneCell' = true := by
                      intro m hmem
                      obtain ⟨j, hj⟩ := List.getElem?_of_mem hmem
                      have hl := hms.length
                      have hlt : j < vs.length := by
                        rcases Nat.lt_or_ge j ms.length with h | h
                        · omega
                        · rw [List.getElem?_eq_none h] at hj; cases hj
                      obtain ⟨u, hu, hru⟩ := hms.get (List.getElem?_eq_getElem hlt)
                      rw [hj] at hu
                      cases hu
                      exact R.oneCell (List.all_eq_true.1 hg.2 _ (List.getElem_mem hlt)) hru
                    have hrun := run_append_room' (P := P) ty ht hi c.blk (c.off + 0) len k cs a2 a n q ms hml hcell hone hin (by simpa using hfit)
                    have hrun' : (Builtin.append_ #[t, t] ty #[.slice (some ⟨c.blk, c.off + 0, none⟩) len k, .slice (some a) n q]).run P w = .ok (.slice (some ⟨c.blk, c.off + 0, none⟩) (len + n) k) (putRow w c cs (len * i.size) ms) := by
                      simpa [putRow] using hrun
                    have hT := H.put hbk hwr hc a2 (ms := ms) (off := len * i.size) hfit (l := trunc h.blks b.ch h.next (len * i.size)) (trunc_Srt _ _ _ H.srt) (trunc_Chn H.chn) (fun j d hd => by
                      obtain ⟨b0, t1, t2, t3, t4⟩ := lkB_trunc H.srt H.chn hd
                      have hne : j ≠ h.next := by have := lkB_lt H.chn t1; omega
                      refine ⟨b0, t1, t2, t3, ?_, fun _ => ?_, fun ej j' a' ha' => ?_⟩
                      · rcases t4 with ⟨_, rfl⟩ | ⟨_, t4⟩
                        · exact Nat.le_refl _
                        · rw [t4, List.length_take]; omega
                      · rcases t4 with ⟨t4, rfl⟩ | ⟨_, t4⟩
                        · refine ⟨⟨d.cells.length, by simp⟩, fun ech => ?_⟩
                          rcases t4 with t4 | t4
                          · exact absurd ech t4
                          · exact absurd t4 hne
                        · exact ⟨⟨_, t4⟩, fun _ => by rw [t4, List.length_take]; omega⟩
                      · subst ej
                        rw [hbk] at t1
                        cases t1
                        rcases t4 with ⟨t4, _⟩ | ⟨_, t4⟩
                        · rcases t4 with t4 | t4
                          · exact absurd rfl t4
                          · exact absurd t4 hne
                        · rw [t4, List.getElem?_take] at ha'
                          split at ha'
                          · rw [if_pos ‹_›]; exact ha'
                          · cases ha')
                    have hid : ∃ b1, lkB (trunc h.blks b.ch h.next (len * i.size)) id = some b1 ∧ b1.ch = b.ch ∧ b1.wr = true := by
                      have hne : id ≠ h.next := by have := lkB_lt H.chn hbk; omega
                      exact lkB_trunc_has _ _ _ hbk hwr
                    obtain ⟨b1, i1, i2, i3⟩ := hid
                    have hrow := setRow_heap w c.blk cs (cs.toList.take (c.off + len * i.size) ++ ms ++ cs.toList.drop (c.off + len * i.size + ms.length)).toArray e' (0, 0) a2
                    obtain ⟨k1, k2⟩ := hT.alias i1 i3 hc (b' := { cells := b.cells.take (len * i.size) ++ vs, ch := b.ch, wr := true }) i2.symm rfl (cs := _) hrow
                      (by
                        have h5 := Nat.mul_le_mul_right i.size hin
                        rw [Nat.add_mul] at h5
                        have hl := hms.length
                        simp only [List.length_append, List.length_take]
                        omega)
                      (fun j a' ha' => by
                        have hl := hms.length
                        have hol := o1'.length
                        simp only [List.getElem?_toArray]
                        rw [vsplice_get cs.toList ms (c.off + len * i.size) (by simpa using hfit)]
                        have htl : (b.cells.take (len * i.size)).length = len * i.size := by simp; omega
                        by_cases hj : j < len * i.size
                        · rw [if_pos (by omega)]
                          rw [List.getElem?_append_left (by omega), List.getElem?_take, if_pos hj] at ha'
                          obtain ⟨u, hu, hru⟩ := a5 j a' ha'
                          exact ⟨u, by simpa using hu, hru⟩
                        · rw [List.getElem?_append_right (by omega), htl] at ha'
                          obtain ⟨u, hu, hru⟩ := hms.get ha'
                          have hlt : j - len * i.size < ms.length := by
                            rcases Nat.lt_or_ge (j - len * i.size) ms.length with h | h
                            · exact h
                            · rw [List.getElem?_eq_none h] at hu; cases hu
                          rw [if_neg (by omega), if_pos (by omega)]
                          exact ⟨u, by rw [show c.off + j - (c.off + len * i.size) = j - len * i.size by omega]; exact hu, hru⟩)
                    refine ⟨_, _, _, hrun', ?_, k2, k1, Fw.row a2 hbase _⟩
                    simp only [R]
                    exact ⟨c, k, upd_same _ _ _, by simp, hin, hcap, hcap2⟩
                  · exact grow o1' o2 (fun j u hu => o3 j u hu) hin { h with blks := trunc h.blks b.ch h.next (len * i.size) } (H.trunc _ _ _) b.ch hchl
              · simp only [hle, cond_true] at ha
                cases hw : h.write id (off + len * i.size) vs with
                | none => simp [hw] at ha
                | some h1 =>
                  simp only [hw, Option.map_some, Option.some.injEq, Prod.mk.injEq] at ha
                  obtain ⟨rfl, rfl⟩ := ha
                  simp only [Bool.and_eq_true] at hle
                  have hpos : 0 < i.size := Nat.le_of_ble_eq_true hle.1
                  have hle' := Nat.le_of_ble_eq_true hle.2
                  have hin : len + n ≤ k := Nat.le_of_mul_le_mul_right (by omega) hpos
                  obtain ⟨r1, r2, r3⟩ := room hw hin
                  refine ⟨_, _, σ, r1, ?_, .refl _, r2, r3⟩
                  simp only [R]
                  exact ⟨c, k, hc, rfl, hin, hcap, hcap2⟩
    · rw [nb hsz] at ha
      simp at ha
  all_goals cases ha

end
end Go.Abs

namespace Go.Abs
open Go Go.RowKit

section
variable {P : Program} {base : Prot} {σ : Env} {w : World} {h : Hp}

theorem bind_some {α β : Type} {x : Option α} {f : α → Option β} {y : β} (h : x.bind f = some y) : ∃ z, x = some z ∧ f z = some y := by
  cases x with
  | none => simp at h
  | some z => exact ⟨z, rfl, by simpa using h⟩

theorem copy_sound (H : HR σ base h w) {ts : Array TypeId} {t e : TypeId} {size n id off len sz : Nat} {cap : Option Nat} {x : AV} {vs : List AV} {h' : Hp} (ty : TypeId) (h0 : ts[0]? = some t) (ht : P.underlying t = some (.slice e))
    (hm : szOf P e = some size) (hsrc : srcCells h size x = some (vs, n)) (hw : h.write id off (vs.take (Nat.min n len * size)) = some h') {us ux : Value} (hus : R σ (.sl id off len cap sz) us) (hux : R σ x ux) :
    OkV P base σ w (Builtin.copy_ ts ty #[us, ux]) (.int .i64 (Nat.min n len : Nat)) h' := by
  obtain ⟨ms, hms, hml, hcase⟩ := src_spec H hsrc hux
  simp only [R] at hus
  obtain ⟨c, k, hc, rfl, _⟩ := hus
  obtain ⟨cur, e', g1, g2, g3, g4, g5, g6⟩ := H.write hw (hms.take _) hc
  have hle : Nat.min n len * size ≤ ms.length := by rw [hml]; exact Nat.mul_le_mul_right _ (Nat.min_le_left _ _)
  have hf : (Builtin.firstCells size (Nat.min n len) ux).run P w = .ok (ms.take (Nat.min n len * size)).toArray w := by
    rcases hcase with ⟨rfl, rfl⟩ | ⟨a, q, rfl, hcell⟩
    · have : ms = [] := List.eq_nil_of_length_eq_zero (by rw [hml]; simp)
      subst this
      simp [Builtin.firstCells]
    · exact run_firstCells_some (P := P) w size _ a _ q _ (by rw [List.length_take]; omega) fun j m hj => by
        rw [List.getElem?_take] at hj
        split at hj
        · exact hcell j m hj
        · cases hj
  have hlen : (Builtin.lenOf ux).run P w = .ok n w := by
    rcases hcase with ⟨rfl, rfl⟩ | ⟨a, q, rfl, hcell⟩ <;> simp [Builtin.lenOf]
  have hst := run_storeCells_at P c.blk (c.off + off) e' (ms.take (Nat.min n len * size)) 0 cur w g1 (by simpa using g2) g4
  simp only [Nat.add_zero] at hst
  refine ⟨.int .i64 (Nat.min n len : Nat), _, σ, ?_, by simp [R], .refl _, g5, g6⟩
  unfold Builtin.copy_
  simp only [h0, List.getElem?_toArray, List.getElem?_cons_zero, List.getElem?_cons_succ, Sem.run_bind, run_underlying ht, Result.andThen_ok, hlen, run_sizeOf' hm, hf, hst, Sem.run_pure, goInt, putRow]

theorem clear_sound (H : HR σ base h w) {ts : Array TypeId} {t e : TypeId} {id off len sz : Nat} {cap : Option Nat} {z : List AV} {h' : Hp} (ty : TypeId) (h0 : ts[0]? = some t) (ht : P.underlying t = some (.slice e))
    (hz : zeroCells P e = some z) (hw : h.write id off (repl z len) = some h') (hl : 0 < len) {us : Value} (hus : R σ (.sl id off len cap sz) us) :
    OkV P base σ w (Builtin.clear_ ts ty #[us]) .any h' := by
  obtain ⟨i, zv, hi, hz', hr⟩ := zeroCells_spec hz
  have hms : Rs σ (repl z len) (Builtin.zeroCells zv.cells len).toList := by
    unfold Builtin.zeroCells
    have := (hr σ).length
    exact repl_sound (hr σ) len _ (by have := (hr σ).length; simp only [Array.length_toList] at this; rw [this])
  simp only [R] at hus
  obtain ⟨c, k, hc, rfl, _⟩ := hus
  obtain ⟨cur, e', g1, g2, g3, g4, g5, g6⟩ := H.write hw hms hc
  have hst := run_storeCells_at P c.blk (c.off + off) e' (Builtin.zeroCells zv.cells len).toList 0 cur w g1 (by simpa using g2) g4
  simp only [Nat.add_zero] at hst
  obtain ⟨n, rfl⟩ : ∃ n, len = n + 1 := ⟨len - 1, by omega⟩
  refine ⟨.tuple #[], _, σ, ?_, R_any, .refl _, g5, g6⟩
  unfold Builtin.clear_
  simp only [h0, List.getElem?_toArray, List.getElem?_cons_zero, Sem.run_bind, run_underlying ht, Result.andThen_ok, run_zeroValue' hi hz', hst, Sem.run_pure, putRow]

theorem builtin1_sound (H : HR σ base h w) (hb : base.fit w.heap.size) {b : Builtin} {ts : Array TypeId} {args : List AV} {v : AV} {h' : Hp} {vs : Array Value} (hv : Rs σ args vs.toList)
    (hs : builtin1 P h b ts args = some (v, h')) (ty : TypeId) (consts : Array Bool) : OkS P base σ w (builtin b ts ty consts vs) v h' := by
  unfold builtin
  cases b <;> simp only [builtin1] at hs ⊢
  case len =>
    split at hs
    · rename_i e id off len cap sz ht
      cases hs
      obtain ⟨t, h0, ht⟩ := bind_some ht
      have hv' := hv
      simp only [Rs, R] at hv'
      obtain ⟨u, m, he, ⟨c, k, hc, rfl, _⟩, rfl⟩ := hv'
      have hvs : vs = #[.slice (some ⟨c.blk, c.off + off, none⟩) len k] := by cases vs; simp_all
      subst hvs
      refine (OkV.pure H (u := .int .i64 len) ?_ (by simp [R])).toS
      simp [Builtin.len_, h0, run_underlying ht, goInt]
    · rename_i e ht
      cases hs
      obtain ⟨t, h0, ht⟩ := bind_some ht
      have hv' := hv
      simp only [Rs, R] at hv'
      obtain ⟨u, m, he, rfl, rfl⟩ := hv'
      have hvs : vs = #[.slice none 0 0] := by cases vs; simp_all
      subst hvs
      refine (OkV.pure H (u := .int .i64 0) ?_ (by simp [R])).toS
      simp [Builtin.len_, h0, run_underlying ht, goInt]
    · rename_i e ht
      cases hs
      obtain ⟨t, h0, ht⟩ := bind_some ht
      have hv' := hv
      simp only [Rs, R] at hv'
      obtain ⟨u, m, he, ⟨b0, q0, rfl⟩, rfl⟩ := hv'
      have hvs : vs = #[.slice (some b0) 0 q0] := by cases vs; simp_all
      subst hvs
      refine (OkV.pure H (u := .int .i64 0) ?_ (by simp [R])).toS
      simp [Builtin.len_, h0, run_underlying ht, goInt]
    · rename_i l ht
      cases hs
      obtain ⟨t, h0, ht⟩ := bind_some ht
      have hv' := hv
      simp only [Rs, R] at hv'
      obtain ⟨u, m, he, rfl, rfl⟩ := hv'
      have hvs : vs = #[.string ⟨l.toArray⟩] := by cases vs; simp_all
      subst hvs
      refine (OkV.pure H (u := .int .i64 l.length) ?_ (by simp [R])).toS
      have hsz : (⟨l.toArray⟩ : ByteArray).size = l.length := by show l.toArray.size = _; simp
      simp only [Builtin.len_, h0, List.getElem?_toArray, List.getElem?_cons_zero, Sem.run_bind, run_underlying ht, Result.andThen_ok, Sem.run_pure, goInt, hsz]
    · rename_i n e x ht
      cases hs
      obtain ⟨t, h0, ht⟩ := bind_some ht
      have hv' := hv
      simp only [Rs] at hv'
      obtain ⟨u, m, he, hu, rfl⟩ := hv'
      have hvs : vs = #[u] := by cases vs; simp_all
      subst hvs
      refine (OkV.pure H (u := .int .i64 n) ?_ (by simp [R])).toS
      simp [Builtin.len_, h0, run_underlying ht, goInt]
    · rename_i k e x ht
      obtain ⟨t, h0, ht⟩ := bind_some ht
      have hv' := hv
      simp only [Rs] at hv'
      obtain ⟨u, m, he, hu, rfl⟩ := hv'
      have hvs : vs = #[u] := by cases vs; simp_all
      subst hvs
      exact (len_sound H h0 ht hs hu ty).toS
    · cases hs
  case cap =>
    split at hs
    · rename_i e id off len c0 sz ht
      cases hs
      obtain ⟨t, h0, ht⟩ := bind_some ht
      have hv' := hv
      simp only [Rs, R] at hv'
      obtain ⟨u, m, he, ⟨c, k, hc, rfl, _, hk⟩, rfl⟩ := hv'
      subst hk
      have hvs : vs = #[.slice (some ⟨c.blk, c.off + off, none⟩) len k] := by cases vs; simp_all
      subst hvs
      refine (OkV.pure H (u := .int .i64 k) ?_ (by simp [R])).toS
      simp [Builtin.cap_, h0, run_underlying ht, goInt]
    · rename_i e ht
      cases hs
      obtain ⟨t, h0, ht⟩ := bind_some ht
      have hv' := hv
      simp only [Rs, R] at hv'
      obtain ⟨u, m, he, rfl, rfl⟩ := hv'
      have hvs : vs = #[.slice none 0 0] := by cases vs; simp_all
      subst hvs
      refine (OkV.pure H (u := .int .i64 0) ?_ (by simp [R])).toS
      simp [Builtin.cap_, h0, run_underlying ht, goInt]
    · cases hs
  case delete =>
    split at hs
    · rename_i k e m a ht
      obtain ⟨t, h0, ht⟩ := bind_some ht
      have hv' := hv
      simp only [Rs] at hv'
      obtain ⟨u1, l1, he, hu1, u2, l2, rfl, hu2, rfl⟩ := hv'
      have hvs : vs = #[u1, u2] := by cases vs; simp_all
      subst hvs
      obtain ⟨rfl, w', h1, h2, h3⟩ := delete_sound H h0 ht hs hu2 hu1 ty
      exact ⟨.value (.tuple #[]), _, w', σ, by simp [h1], rfl, R_any, .refl _, h2, h3⟩
    · cases hs
  case min =>
    split at hs
    · rename_i k a k' b
      by_cases hk : k = k'
      · subst hk
        simp only [if_true, Option.some.injEq, Prod.mk.injEq] at hs
        obtain ⟨rfl, rfl⟩ := hs
        simp only [Rs, R] at hv
        obtain ⟨u, m, he, rfl, u', m', rfl, rfl, rfl⟩ := hv
        refine (OkV.pure H (u := .int k (if b < a then b else a)) ?_ (by simp [R])).toS
        simp [Builtin.min_, he, Builtin.min2]
      · simp [hk] at hs
    · cases hs
  case max =>
    split at hs
    · rename_i k a k' b
      by_cases hk : k = k'
      · subst hk
        simp only [if_true, Option.some.injEq, Prod.mk.injEq] at hs
        obtain ⟨rfl, rfl⟩ := hs
        simp only [Rs, R] at hv
        obtain ⟨u, m, he, rfl, u', m', rfl, rfl, rfl⟩ := hv
        refine (OkV.pure H (u := .int k (if a < b then b else a)) ?_ (by simp [R])).toS
        simp [Builtin.max_, he, Builtin.max2]
      · simp [hk] at hs
    · rename_i k a k' b k'' c
      by_cases hk : k = k' ∧ k = k''
      · obtain ⟨rfl, rfl⟩ := hk
        simp only [and_self, if_true, Option.some.injEq, Prod.mk.injEq] at hs
        obtain ⟨rfl, rfl⟩ := hs
        simp only [Rs, R] at hv
        obtain ⟨u, m, he, rfl, u', m', rfl, rfl, u'', m'', rfl, rfl, rfl⟩ := hv
        refine (OkV.pure H (u := .int k (if (if a < b then b else a) < c then c else (if a < b then b else a))) ?_ (by simp [R])).toS
        simp [Builtin.max_, he, Builtin.max2]
      · simp [hk] at hs
    · cases hs
  case clear =>
    split at hs
    · rename_i e id off len cap sz ht
      split at hs
      · rename_i size z hm hz
        cases hb3 : (Nat.beq sz size && Nat.beq z.length size && Nat.blt 0 len)
        · simp [hb3] at hs
        · simp only [hb3, cond_true] at hs
          cases hw : h.write id off (repl z len) with
          | none => simp [hw] at hs
          | some h1 =>
            simp only [hw, Option.map_some, Option.some.injEq, Prod.mk.injEq] at hs
            obtain ⟨rfl, rfl⟩ := hs
            simp only [Bool.and_eq_true, Nat.blt_eq] at hb3
            obtain ⟨t, h0, ht⟩ := bind_some ht
            simp only [Rs] at hv
            obtain ⟨u, m, he, hu, rfl⟩ := hv
            have hvs : vs = #[u] := by cases vs; simp_all
            subst hvs
            exact (clear_sound H ty h0 ht hz hw hb3.2 hu).toS
      · cases hs
    · cases hs
  case append =>
    split at hs
    · rename_i t t' s x hts
      by_cases htt : t = t'
      · subst htt
        simp only [Nat.beq_refl, Bool.not_true, cond_false] at hs
        split at hs
        · rename_i e ht
          split at hs
          · rename_i size hm
            split at hs
            · rename_i ws n hsrc
              simp only [Rs] at hv
              obtain ⟨u, m, he, hu, u', m', rfl, hu', rfl⟩ := hv
              have hvs : vs = #[u, u'] := by cases vs; simp_all
              have hts' : ts = #[t, t] := by cases ts; simp_all
              subst hvs hts'
              exact (append1_sound H hb ty ht hm hsrc hs hu hu').toS
            · cases hs
          · cases hs
        · cases hs
      · rw [nb htt] at hs
        simp at hs
    · cases hs
  case copy =>
    split at hs
    · rename_i e id off len cap sz x ht
      split at hs
      · rename_i size hm
        split at hs
        · rename_i ws n hsrc
          cases hsz : Nat.beq sz size
          · simp [hsz] at hs
          · simp only [hsz, cond_true] at hs
            cases hw : h.write id off (ws.take (Nat.min n len * size)) with
            | none => simp [hw] at hs
            | some h1 =>
              simp only [hw, Option.map_some, Option.some.injEq, Prod.mk.injEq] at hs
              obtain ⟨rfl, rfl⟩ := hs
              obtain ⟨t, h0, ht⟩ := bind_some ht
              simp only [Rs] at hv
              obtain ⟨u, m, he, hu, u', m', rfl, hu', rfl⟩ := hv
              have hvs : vs = #[u, u'] := by cases vs; simp_all
              subst hvs
              exact (copy_sound H ty h0 ht hm hsrc hw hu hu').toS
        · cases hs
      · cases hs
    · cases hs
  all_goals cases hs

end
end Go.Abs

set_option linter.unusedSimpArgs false
set_option linter.unusedVariables false
namespace Go.Abs
open Go Go.RowKit

/-- No bound on functions or depth; in a round of loop r, or in none. -/
def Wd (r : Option Nat) : Fence := { Fence.wide with round := r }

/-- What a call leaves. -/
def Post (base : Prot) (σ : Env) (v : AV) (h' : Hp) (w : World) : Ending → World → Prop :=
  fun e w' => ∃ u τ, e = .returned u ∧ R τ v u ∧ Ext σ τ ∧ HR τ base h' w' ∧ Fw base w w'

/-- The calls are what the abstract calls say. -/
structure CallOK (P : Program) (call : CallF) : Prop where
  func : ∀ {f args h v h'}, call (.func f) args h = some (v, h') → ∀ {σ base w} {vs : Array Value}, HR σ base h w → base.fit w.heap.size → Rs σ args vs.toList →
    (callFunc f vs).run P w = .ok (.enter f vs) w ∧ Calls P f vs w (Post base σ v h' w)
  yield : ∀ {l args h v h'}, call (.yield l) args h = some (v, h') → ∀ {σ base w} {vs : Array Value} {c : Loc}, HR σ base h w → base.fit w.heap.size → Rs σ args vs.toList → σ l = some c →
    ∃ f tmps assign body, (Instr.yield c.blk vs).run P w = .ok (.round c.blk f tmps assign body) w ∧ RoundIn Fence.wide 0 P c.blk f tmps assign body w (Post base σ v h' w)

section
variable {P : Program} {base : Prot} {σ : Env} {w : World} {h : Hp}

theorem look_cons (d : Nat) (v : AV) (tm fr : Fr) (t : Nat) : look ((d, v) :: tm) fr t = if t = d then v else look tm fr t := by
  unfold look
  by_cases e : d = t
  · subst e; simp [lkO]
  · rw [if_neg (fun h => e h.symm)]
    simp only [lkO, nb e, cond_false]

theorem FR.put {n d : Nat} {f g : Nat → AV} {a : Act} (hf : FR σ n f a.tmps) {v : AV} {u : Value} (hu : R σ v u) (hd : d < n) (hg : ∀ t, g t = if t = d then v else f t) : FR σ n g (a.put (some d) u).tmps := by
  refine ⟨by simp [Act.put, hf.1], fun t => ?_⟩
  rw [hg]
  by_cases e : t = d
  · subst e
    rw [if_pos rfl]
    simp only [Act.put, Array.getD_eq_getD_getElem?]
    rw [Array.getElem?_setIfInBounds_self_of_lt (by rw [hf.1]; exact hd)]
    simpa using hu
  · rw [if_neg e]
    simp only [Act.put, Array.getD_eq_getD_getElem?]
    rw [Array.getElem?_setIfInBounds_ne (by omega)]
    have := hf.2 t
    simpa [Array.getD_eq_getD_getElem?] using this

theorem putT_spec {n : Nat} {d : Option Nat} {v : AV} {tm tm' fr : Fr} (h : putT n d v tm = some tm') {a : Act} (hf : FR σ n (look tm fr) a.tmps) {u : Value} (hu : R σ v u) :
    FR σ n (look tm' fr) (a.put d u).tmps := by
  unfold putT at h
  cases d with
  | none => cases h; exact hf
  | some d =>
    simp only at h
    cases hd : Nat.blt d n
    · simp [hd] at h
    · simp only [hd, cond_true, Option.some.injEq] at h
      subst h
      exact hf.put hu (Nat.le_of_ble_eq_true hd) (look_cons d v tm fr)

theorem Act.put_defers (a : Act) (d : Option Nat) (u : Value) : (a.put d u).defers = a.defers := by cases d <;> rfl

theorem R_undef {σ : Env} : R σ (.tu []) undef := by simp only [R]; exact ⟨#[], rfl, by simp [Rs]⟩

theorem want_spec {n : Nat} {ops : Array Oper} {f : Nat → AV} {o : Oper} {b : Bool} (h : want? ops f o = some b) {tmps : Array Value} (hf : FR σ n f tmps) : Region.wanted o (yielded ops tmps) = b := by
  unfold want? at h
  unfold Region.wanted
  split at h
  · rename_i hg
    cases h
    simp [hg]
  · rename_i j q hg
    simp only [hg]
    split at h
    · rename_i d hd
      split at h
      · rename_i t ht
        cases h
        have hr := hf.2 d
        rw [ht] at hr
        have hv := R_bool hr
        have hlt : d < tmps.size := by
          rcases Nat.lt_or_ge d tmps.size with h | h
          · exact h
          · simp [Array.getD, Nat.not_lt.2 h, undef] at hv
        have hy : yielded ops tmps j = some t := by
          unfold yielded
          have : tmps[d]? = some (.bool t) := by
            rw [Array.getElem?_eq_getElem hlt]
            simp only [Array.getD, hlt, dif_pos, Array.getInternal_eq_getElem] at hv
            rw [hv]
          simp [hd, this]
        rw [hy]
        cases t <;> cases q <;> rfl
      · rename_i l ht
        cases h
        have hr := hf.2 d
        rw [ht] at hr
        simp only [R] at hr
        obtain ⟨x, hv, _⟩ := hr
        have hy : yielded ops tmps j = none := by
          unfold yielded
          simp only [hd, Option.bind_some]
          rcases Nat.lt_or_ge d tmps.size with h | h
          · simp only [Array.getD, h, dif_pos, Array.getInternal_eq_getElem] at hv
            rw [Array.getElem?_eq_getElem h, hv]
          · rw [Array.getElem?_eq_none h]
        rw [hy]
        cases q <;> rfl
      · cases h
    · cases h

/-- One operation, carried out. -/
theorem exec1_sound {call : CallF} (hcall : CallOK P call) {n : Nat} {f : Nat → AV} {a : Act} (H : HR σ base h w) (hb : base.fit w.heap.size) (hf : FR σ n f a.tmps) {o : Oper} {v : AV} {h' : Hp}
    (hs : exec1 P call f h o = some (v, h')) {r : Option Nat} {N : Nat} {K : Act → World → Prop} {Q : Exit → Act → World → Prop}
    (hK : ∀ u w' τ, R τ v u → Ext σ τ → HR τ base h' w' → Fw base w w' → K (a.put o.dst u) w') : o.wpIn (Wd r) N P a w K Q := by
  refine ⟨fun _ _ => trivial, ?_⟩
  have ofS : (∀ c, o.op ≠ .defer c) → OkS P base σ w (execOp a.eval o) v h' → o.uponIn (Wd r) N P a K Q ((o.semAt (Wd r).round a.eval).run P w) := fun hd k => by
    obtain ⟨x, u, w', τ, h1, h2, h3, h4, h5, h6⟩ := k
    rw [Oper.semAt_eq _ _ _ hd, h1]
    cases x <;> simp only [nextVal, Option.some.injEq] at h2
    case value y => subst h2; exact hK _ _ _ h3 h4 h5 h6
    case skip => subst h2; exact hK _ _ _ h3 h4 h5 h6
    all_goals cases h2
  unfold exec1 at hs
  split at hs
  · rename_i c hop
    have hd : ∀ d, o.op ≠ .defer d := fun d e => by rw [hop] at e; cases e
    have hex : execOp a.eval o = (do let d ← resolve a.eval c o.type; invoke d.target d.args) := by unfold execOp; rw [hop]
    have hargs : Rs σ (c.args.toList.map (ev f)) (c.args.map a.eval).toList := by
      rw [Array.toList_map]
      exact Rs.map _ _ fun x _ => ev_sound hf x
    split at hs
    · rename_i b hcal
      refine ofS hd ?_
      have hk := builtin1_sound H hb hargs hs o.type (c.args.map fun | .const _ => true | _ => false)
      obtain ⟨x, u, w', τ, h1, h2⟩ := hk
      refine ⟨x, u, w', τ, ?_, h2⟩
      rw [hex]
      simp only [resolve, hcal, Sem.run_bind, Sem.run_pure, Result.andThen_ok, invoke]
      exact h1
    · rename_i g hcal
      have hg := ev_sound hf g
      split at hs
      · rename_i gf fs cs hev
        rw [hev] at hg
        simp only [R] at hg
        obtain ⟨x, y, hgv, hx, hy⟩ := hg
        have hall : Rs σ (fs ++ c.args.toList.map (ev f) ++ cs) ((x ++ c.args.map a.eval) ++ y).toList := by
          rw [Array.toList_append, Array.toList_append]
          exact (hx.append hargs).append hy
        obtain ⟨k1, k2⟩ := hcall.func hs H hb hall
        rw [Oper.semAt_eq _ _ _ hd, hex]
        simp only [resolve, hcal, hgv, Deferred.ofValue, Sem.run_bind, Sem.run_pure, Result.andThen_ok, invoke, k1, Oper.uponIn]
        refine ⟨fun hh => by simp [Wd, Fence.wide] at hh, ?_⟩
        have k3 : CallsIn (Wd r) (N - 1) P gf ((x ++ c.args.map a.eval) ++ y) w (Post base σ v h' w) := (callsIn_wide (n := N - 1)).2 k2
        refine k3.mono fun e w' he => ?_
        obtain ⟨u, τ, rfl, q1, q2, q3, q4⟩ := he
        exact hK u w' τ q1 q2 q3 q4
      · rename_i l hev
        rw [hev] at hg
        simp only [R] at hg
        obtain ⟨c', hc', hgv⟩ := hg
        obtain ⟨fn, tmps, assign, body, k1, k2⟩ := hcall.yield hs H hb hargs hc'
        rw [Oper.semAt_eq _ _ _ hd, hex]
        simp only [resolve, hcal, hgv, Deferred.ofValue, Sem.run_bind, Sem.run_pure, Result.andThen_ok, invoke, Array.empty_append, k1, Oper.uponIn]
        refine ⟨fun hh => by simp [Wd, Fence.wide] at hh, ?_⟩
        have k3 : RoundIn (Wd r) (N - 1) P c'.blk fn tmps assign body w (Post base σ v h' w) := ⟨trivial, fun c cs _ => k2.2 c cs (room_wide _)⟩
        refine k3.mono fun e w' he => ?_
        obtain ⟨u, τ, rfl, q1, q2, q3, q4⟩ := he
        exact hK u w' τ q1 q2 q3 q4
      · cases hs
    · cases hs
  · rename_i hnc
    refine ofS (fun c e => ?_) (step1_sound H hb hf o hs)
    rw [e] at hs
    simp [step1] at hs

theorem bytesC_spec : ∀ {cs : List AV} {l : List UInt8} {ms : List Value}, bytesC cs = some l → Rs σ cs ms → ∃ ns : List Int, ms = ns.map (Value.int .u8) ∧ ns.map (fun n => UInt8.ofNat n.toNat) = l
  | [], l, ms, h, hr => by
    simp only [bytesC, Option.some.injEq] at h
    simp only [Rs] at hr
    subst h hr
    exact ⟨[], rfl, rfl⟩
  | a :: r, l, ms, h, hr => by
    have hx : ∃ n l', a = .int .u8 n ∧ bytesC r = some l' ∧ l = UInt8.ofNat n.toNat :: l' := by
      unfold bytesC at h
      split at h
      · rename_i e; cases e
      · rename_i n r' e
        cases e
        rw [Option.map_eq_some_iff] at h
        obtain ⟨l', h1, rfl⟩ := h
        exact ⟨_, l', rfl, h1, rfl⟩
      · cases h
    obtain ⟨n, l', rfl, h1, rfl⟩ := hx
    simp only [Rs, R] at hr
    obtain ⟨v, m, rfl, rfl, hm⟩ := hr
    obtain ⟨ns, h2, h3⟩ := bytesC_spec h1 hm
    exact ⟨n :: ns, by rw [h2]; rfl, by rw [List.map_cons, h3]⟩

theorem foldl_bytes : ∀ (ns : List Int) (s : ByteArray), ns.foldl (fun r n => r.push (UInt8.ofNat n.toNat)) s = ⟨s.data ++ (ns.map fun n => UInt8.ofNat n.toNat).toArray⟩
  | [], s => by simp
  | n :: ns, s => by
    rw [List.foldl_cons, foldl_bytes ns]
    simp [ByteArray.push]

/-- A block that the program does not change, newly made. -/
theorem HR.addRO (H : HR σ base h w) (hb : base.fit w.heap.size) {cells : List AV} {cs : Array Value} (e : TypeId) (fz : Nat × Nat) (hl : cells.length ≤ cs.size)
    (hr : ∀ (j : Nat) (a : AV), cells[j]? = some a → ∃ v : Value, cs[j]? = some v ∧ R σ a v) :
    HR (upd σ h.next ⟨w.heap.size, 0, cs.size⟩) base { h with next := h.next + 1, blks := (h.next, { cells, ch := h.next, wr := false }) :: h.blks } (w.alloc (.cells cs e fz)) ∧ Ext σ (upd σ h.next ⟨w.heap.size, 0, cs.size⟩) := by
  have hx : Ext σ (upd σ h.next ⟨w.heap.size, 0, cs.size⟩) := .upd _ (H.dom _ (Nat.le_refl _))
  have old : ∀ k, k < w.heap.size → (w.alloc (.cells cs e fz)).heap[k]? = w.heap[k]? := fun k hk => Below.heap_alloc _ _ _ hk
  refine ⟨⟨fun i hi => ?_, ?_, ?_, fun i d hd => ?_, fun i j d d' c c' hij hd hd' hc hc' hbk hw => ?_, H.lps.step hx (fun l r c o _ _ h1 _ _ _ => by rw [old _ (lt_of_heap h1)]; exact h1) (fun _ _ h => h) (fun k hk _ => old k hk)⟩, hx⟩
  · have hi' : h.next + 1 ≤ i := hi
    rw [upd_other _ _ _ _ (by omega)]; exact H.dom i (by omega)
  · simp only [Srt, List.pairwise_cons]
    exact ⟨fun x hx => (H.chn x hx).2, H.srt⟩
  · intro x hx
    simp only [List.mem_cons] at hx
    rcases hx with rfl | hx
    · exact ⟨Nat.le_refl _, Nat.lt_succ_self _⟩
    · have := H.chn x hx; exact ⟨this.1, Nat.lt_succ_of_lt this.2⟩
  · by_cases hi : h.next = i
    · subst hi
      simp only [lkB, Nat.beq_refl, cond_true, Option.some.injEq] at hd
      subst hd
      refine ⟨_, cs, e, fz, upd_same _ _ _, heap_alloc_new w _, by simp, by simpa using hl, fun j a ha => ?_, fun hw => (by cases hw), fun _ => .inr hb.fr⟩
      obtain ⟨v, h1, h2⟩ := hr j a ha
      exact ⟨v, by simpa using h1, h2.ext hx⟩
    · simp only [lkB, nb hi, cond_false] at hd
      obtain ⟨c, cs', e', fz', a1, a2, a3, a4, a5, a6⟩ := H.cel i d hd
      refine ⟨c, cs', e', fz', hx _ _ a1, by rw [old _ (lt_of_heap a2)]; exact a2, a3, a4, fun j a ha => ?_, a6⟩
      obtain ⟨v, h1, h2⟩ := a5 j a ha
      exact ⟨v, h1, h2.ext hx⟩
  · by_cases hi : h.next = i
    · subst hi
      simp only [lkB, Nat.beq_refl, cond_true, Option.some.injEq] at hd
      subst hd
      cases hw
    · simp only [lkB, nb hi, cond_false] at hd
      rw [upd_other _ _ _ _ (by omega)] at hc
      by_cases hj : h.next = j
      · subst hj
        rw [upd_same] at hc'
        cases hc'
        have := H.inb hd hc
        simp at hbk
        omega
      · simp only [lkB, nb hj, cond_false] at hd'
        rw [upd_other _ _ _ _ (by omega)] at hc'
        exact H.al i j d d' c c' hij hd hd' hc hc' hbk hw

theorem s2b_sound (H : HR σ base h w) (hb : base.fit w.heap.size) {src dst : TypeId} (hc : cvOf P src dst = .s2b) {x v : AV} {h' : Hp} (hs : aS2B h x = some (v, h')) {u : Value} (hx : R σ x u) : OkV P base σ w (convert src dst u) v h' := by
  unfold cvOf at hc
  split at hc
  · rename_i e h1 h2
    split at hc
    · rename_i h3
      cases x <;> simp only [aS2B] at hs <;> try (cases hs; done)
      rename_i l
      cases hll : Nat.ble l.length 1073741824
      · simp [hll] at hs
      simp only [hll, cond_true, Option.some.injEq, Prod.mk.injEq] at hs
      obtain ⟨rfl, rfl⟩ := hs
      have hll := Nat.le_of_ble_eq_true hll
      simp only [R] at hx
      subst hx
      have run := run_bytes_of_string (P := P) w src dst e ⟨l.toArray⟩ h1 h2 h3
      have hsz : (⟨l.toArray⟩ : ByteArray).size = l.length := rfl
      rw [hsz] at run
      obtain ⟨G, hG⟩ : ∃ G, G = grownCap w l.length 0 e := ⟨_, rfl⟩
      rw [← hG] at run
      have hge : l.length ≤ G := by rw [hG]; exact grownCap_ge _ _ _ _
      have hrs : (bytesRow ⟨l.toArray⟩ G).size = G := by
        simp only [bytesRow, Array.size_append, Array.size_map, Array.size_replicate, List.size_toArray, hsz]
        omega
      have key := HR.addRO (H := H.drew) (w := w.drew) hb (cells := l.map fun b => .int .u8 b.toNat) (cs := bytesRow ⟨l.toArray⟩ G) e ((bytesRow ⟨l.toArray⟩ G).size, (bytesRow ⟨l.toArray⟩ G).size + 1) (by simp; omega) (fun j a ha => by
        rw [List.getElem?_map, Option.map_eq_some_iff] at ha
        obtain ⟨b, hb1, rfl⟩ := ha
        have hlt : j < l.length := by
          rcases Nat.lt_or_ge j l.length with h | h
          · exact h
          · rw [List.getElem?_eq_none h] at hb1; cases hb1
        refine ⟨.int .u8 b.toNat, ?_, by simp [R]⟩
        unfold bytesRow
        rw [Array.getElem?_append_left (by simpa using hlt)]
        simp [hb1])
      refine ⟨_, _, _, run, ?_, key.2, key.1, (Fw.drew _ _).trans (Fw.alloc (w := w.drew) hb _)⟩
      simp only [R]
      refine ⟨_, G, upd_same _ _ _, rfl, hge, ?_, ?_⟩
      · simp only [hrs]; omega
      · rw [hG]
        exact grownCap_le_maxLen _ _ _ _ (by unfold maxLen; omega)
    · cases hc
  · split at hc <;> cases hc
  · cases hc

theorem b2s_sound (H : HR σ base h w) {src dst : TypeId} (hc : cvOf P src dst = .b2s) {x v : AV} {h' : Hp} (hs : aB2S h x = some (v, h')) {u : Value} (hx : R σ x u) : OkV P base σ w (convert src dst u) v h' := by
  unfold cvOf at hc
  split at hc
  · split at hc <;> cases hc
  · rename_i e h1 h2
    split at hc
    · rename_i h3
      cases x <;> simp only [aB2S] at hs <;> try (cases hs; done)
      · rename_i id off len cap sz
        split at hs
        · rename_i cs q hsrc
          cases hz : Nat.beq sz 1
          · simp [hz] at hs
          · simp only [hz, cond_true] at hs
            rw [Option.map_eq_some_iff] at hs
            obtain ⟨l, hl, hs⟩ := hs
            cases hs
            obtain ⟨ms, hms, hml, hcase⟩ := src_spec H hsrc hx
            obtain ⟨ns, hn1, hn2⟩ := bytesC_spec hl hms
            rcases hcase with ⟨hu, _⟩ | ⟨a, k, rfl, hcell⟩
            · exfalso
              simp only [R] at hx
              obtain ⟨c, k, hc, he, _⟩ := hx
              rw [hu] at he
              cases he
            · have run := run_convert_bytes_string (P := P) w src dst e (some a) q k h1 h3 h2
              have hload : (loadCells a q).run P w = .ok (ns.map (Value.int .u8)).toArray w := by
                have := run_loadCells_list (P := P) w a ms hcell
                rw [hml, Nat.mul_one] at this
                rw [this, hn1]
              have run2 := run_bytesToString (P := P) w a q k ns hload
              refine .pure H (run.trans run2) ?_
              simp only [R]
              rw [foldl_bytes, hn2]
              congr 2
              apply Array.ext'
              simp
        · cases hs
      · cases hs
        simp only [R] at hx
        subst hx
        refine .pure H (u := .string .empty) ?_ (by simp only [R]; rfl)
        rw [run_convert_bytes_string (P := P) w src dst e none 0 0 h1 h3 h2]
        simp [Conv.bytesToString]
    · cases hc
  · cases hc

/-- One operation where the order is that of the text. -/
theorem execS_sound {call : CallF} (hcall : CallOK P call) {n : Nat} {f : Nat → AV} {a : Act} (H : HR σ base h w) (hb : base.fit w.heap.size) (hf : FR σ n f a.tmps) {o : Oper} {v : AV} {h' : Hp}
    (hs : execS P call f h o = some (v, h')) {r : Option Nat} {N : Nat} {K : Act → World → Prop} {Q : Exit → Act → World → Prop}
    (hK : ∀ u w' τ, R τ v u → Ext σ τ → HR τ base h' w' → Fw base w w' → K (a.put o.dst u) w') : o.wpIn (Wd r) N P a w K Q := by
  unfold execS at hs
  split at hs
  · rename_i src dst x hop
    have ofV : OkV P base σ w (convert src dst (a.eval x)) v h' → o.wpIn (Wd r) N P a w K Q := fun k => by
      refine ⟨fun _ _ => trivial, ?_⟩
      obtain ⟨u, w', τ, h1, h3, h4, h5, h6⟩ := k
      have hex : (execOp a.eval o).run P w = .ok (.value u) w' := by
        unfold execOp
        rw [hop]
        simp [h1]
      rw [Oper.semAt_eq _ _ _ (fun c e => by rw [hop] at e; cases e), hex]
      exact hK _ _ _ h3 h4 h5 h6
    split at hs
    · rename_i hc
      exact ofV (s2b_sound H hb hc hs (ev_sound hf x))
    · rename_i hc
      exact ofV (b2s_sound H hc hs (ev_sound hf x))
    · exact exec1_sound hcall H hb hf hs hK
  · exact exec1_sound hcall H hb hf hs hK

theorem runOps_sound {call : CallF} (hcall : CallOK P call) {n : Nat} {ops : Array Oper} {fr : Fr} {r : Option Nat} {N : Nat} {tm' : Fr} {h' : Hp} {Q : Exit → Act → World → Prop} :
    ∀ (l : List Oper) (i : Nat) (tm : Fr) (h : Hp) (σ : Env) (w : World) (a : Act), l = ops.toList.drop i →
    HR σ base h w → base.fit w.heap.size → FR σ n (look tm fr) a.tmps → runOps P call n ops fr l tm h = some (tm', h') →
    (∀ a' w' τ, a'.defers = a.defers → Ext σ τ → HR τ base h' w' → FR τ n (look tm' fr) a'.tmps → Fw base w w' → Q .normal a' w') →
    wpOpsIn (Wd r) N P ops Q (List.range' i l.length) a w
  | [], i, tm, h, σ, w, a, _, H, _, hf, hs, hQ => by
    simp only [runOps, Option.some.injEq, Prod.mk.injEq] at hs
    obtain ⟨rfl, rfl⟩ := hs
    simp only [List.length_nil, List.range'_zero, wpOpsIn]
    exact hQ a w σ rfl (.refl _) H hf (.refl _ _)
  | o :: rest, i, tm, h, σ, w, a, hl, H, hb, hf, hs, hQ => by
    have ho : ops[i]? = some o := by
      have := congrArg List.head? hl
      simpa [List.head?_drop] using this.symm
    have hrest : rest = ops.toList.drop (i + 1) := by
      have := congrArg List.tail hl
      simpa [List.tail_drop] using this
    simp only [List.length_cons, List.range'_succ, wpOpsIn, ho]
    -- what comes behind this operation
    have next : ∀ tm1 h1 u w' τ, Ext σ τ → HR τ base h1 w' → Fw base w w' → FR τ n (look tm1 fr) (a.put o.dst u).tmps → runOps P call n ops fr rest tm1 h1 = some (tm', h') →
        wpOpsIn (Wd r) N P ops Q (List.range' (i + 1) rest.length) (a.put o.dst u) w' := fun tm1 h1 u w' τ e1 e2 e3 e4 e5 =>
      runOps_sound hcall rest (i + 1) tm1 h1 τ w' (a.put o.dst u) hrest e2 (hb.le e3.bel.size) e4 e5 fun a' w'' τ' q1 q2 q3 q4 q5 =>
        hQ a' w'' τ' (by rw [q1, Act.put_defers]) (e1.trans q2) q3 q4 (e3.trans q5)
    simp only [runOps] at hs
    split at hs
    · rename_i hw
      rw [if_pos (want_spec hw hf)]
      split at hs
      · rename_i v h1 hex
        split at hs
        · rename_i tm1 hp
          exact execS_sound hcall H hb hf hex fun u w' τ q1 q2 q3 q4 => next tm1 h1 u w' τ q2 q3 q4 (putT_spec hp (hf.ext q2) q1) hs
        · cases hs
      · cases hs
    · rename_i hw
      rw [if_neg (by rw [want_spec hw hf]; simp)]
      split at hs
      · rename_i tm1 hp
        exact ⟨fun _ _ => trivial, next tm1 h undef w σ (.refl _) H (.refl _ _) (putT_spec hp hf R_undef) hs⟩
      · cases hs
    · cases hs

end
end Go.Abs
