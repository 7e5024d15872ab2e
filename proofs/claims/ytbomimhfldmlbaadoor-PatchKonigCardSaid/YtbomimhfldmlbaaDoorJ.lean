/- Each operation does to a world what the abstract operation says (5): addresses, parts, slices; step1 whole. -/
import Derived.Test.YtbomimhfldmlbaaDoorIR
set_option linter.unusedSimpArgs false
set_option linter.unusedVariables false
namespace Go.Abs
open Go Go.RowKit

section
variable {P : Program} {base : Prot} {σ : Env} {w : World} {h : Hp} {n : Nat} {f : Nat → AV} {a : Act}

theorem indexAt_slice_sound (H : HR σ base h w) {t e : TypeId} {id off len sz m k : Nat} {cap : Option Nat} {x : AV} {u v : Value} (hu : P.underlying t = some (.slice e)) (hm : szOf P e = some m)
    (hx : R σ (.sl id off len cap sz) u) (hi : idx? x = some k) (hv : R σ x v) (hk : k < len) : OkV P base σ w (Instr.indexAt t u v) (.ptr id (off + k * m)) h := by
  obtain ⟨kd, i, rfl, h0, rfl⟩ := idx?_spec hi hv
  simp only [R] at hx
  obtain ⟨c, q, hc, rfl, _⟩ := hx
  have h1 : 0 ≤ i ∧ i < (len : Int) := ⟨h0, by omega⟩
  refine .pure H (u := .pointer (some ⟨c.blk, c.off + off + i.toNat * m, none⟩)) ?_ ?_
  · simp only [Instr.indexAt, Sem.run_bind, asIntOf, Sem.run_pure, Result.andThen_ok, run_underlying hu, h1, and_self, if_true, run_sizeOf' hm, add_none, Sem.run_ite]
  · simp only [R]
    exact ⟨c, hc, by rw [Nat.add_assoc]⟩

theorem indexAt_array_sound (H : HR σ base h w) {t e : TypeId} {id off len m k : Nat} {x : AV} {u v : Value} (hu : P.underlying t = some (.array len e)) (hm : szOf P e = some m)
    (hx : R σ (.ptr id off) u) (hi : idx? x = some k) (hv : R σ x v) (hk : k < len) : OkV P base σ w (Instr.indexAt t u v) (.ptr id (off + k * m)) h := by
  obtain ⟨kd, i, rfl, h0, rfl⟩ := idx?_spec hi hv
  simp only [R] at hx
  obtain ⟨c, hc, rfl⟩ := hx
  have h1 : 0 ≤ i ∧ i < (len : Int) := ⟨h0, by omega⟩
  refine .pure H (u := .pointer (some ⟨c.blk, c.off + off + i.toNat * m, none⟩)) ?_ ?_
  · simp only [Instr.indexAt, Sem.run_bind, asIntOf, Sem.run_pure, Result.andThen_ok, run_underlying hu, Instr.sureAddr, h1, and_self, if_true, run_sizeOf' hm, add_none, Sem.run_ite]
  · simp only [R]
    exact ⟨c, hc, by rw [Nat.add_assoc]⟩

theorem index_array_sound (H : HR σ base h w) {t e : TypeId} {len m k : Nat} {cs : List AV} {x y : AV} {u v : Value} (hu : P.underlying t = some (.array len e)) (hm : szOf P e = some m)
    (hx : R σ (.ag cs) u) (hi : idx? x = some k) (hv : R σ x v) (hk : k < len) (hr : rdVar P cs e (k * m) = some y) : OkV P base σ w (Instr.index t u v) y h := by
  obtain ⟨kd, i, rfl, h0, rfl⟩ := idx?_spec hi hv
  simp only [R] at hx
  obtain ⟨xs, rfl, hxs⟩ := hx
  have h1 : 0 ≤ i ∧ i < (len : Int) := ⟨h0, by omega⟩
  obtain ⟨r, hr1, hr2⟩ := run_part' (P := P) (w := w) hr hxs
  refine .pure H (u := r) ?_ hr2
  simp only [Instr.index, Sem.run_bind, asIntOf, Sem.run_pure, Result.andThen_ok, run_underlying hu, h1, and_self, if_true, run_sizeOf' hm, hr1, Sem.run_ite]

theorem field_sound (H : HR σ base h w) {t : TypeId} {fs : Array Field} {i : Nat} {fd : Field} {cs : List AV} {y : AV} {u : Value} (hu : P.underlying t = some (.struct fs)) (hfd : fs[i]? = some fd)
    (hx : R σ (.ag cs) u) (hr : rdVar P cs fd.type fd.offset = some y) : OkV P base σ w (Instr.field t u i) y h := by
  simp only [R] at hx
  obtain ⟨xs, rfl, hxs⟩ := hx
  obtain ⟨r, hr1, hr2⟩ := run_part' (P := P) (w := w) hr hxs
  refine .pure H (u := r) ?_ hr2
  simp only [Instr.field, Sem.run_bind, Result.andThen_ok, run_underlying hu, hfd, asAgg, Sem.run_pure, hr1]

theorem fieldAt_sound (H : HR σ base h w) {t : TypeId} {fs : Array Field} {i : Nat} {fd : Field} {id off m : Nat} {u : Value} (hu : P.underlying t = some (.struct fs)) (hfd : fs[i]? = some fd)
    (hm : szOf P fd.type = some m) (h0 : m ≠ 0) (hx : R σ (.ptr id off) u) : OkV P base σ w (Instr.fieldAt t u i) (.ptr id (off + fd.offset)) h := by
  simp only [R] at hx
  obtain ⟨c, hc, rfl⟩ := hx
  refine .pure H (u := .pointer (some ⟨c.blk, c.off + off + fd.offset, none⟩)) ?_ ?_
  · simp only [Instr.fieldAt, Sem.run_bind, Result.andThen_ok, run_underlying hu, hfd, Instr.sureAddr, Sem.run_pure, fieldPlace, run_sizeOf' hm, h0, if_false, Sem.run_ite, add_none]
  · simp only [R]
    exact ⟨c, hc, by rw [Nat.add_assoc]⟩

theorem extract_sound (H : HR σ base h w) {vs : List AV} {i : Nat} {y : AV} {u : Value} (hx : R σ (.tu vs) u) (hy : vs[i]? = some y) : OkV P base σ w (Instr.extract u i) y h := by
  simp only [R] at hx
  obtain ⟨xs, rfl, hxs⟩ := hx
  obtain ⟨r, hr1, hr2⟩ := hxs.get hy
  refine .pure H (u := r) ?_ hr2
  have : xs[i]? = some r := by simpa using hr1
  simp [Instr.extract, this]

theorem sliceBound_ok {x : AV} {v : Value} {k y : Nat} {code : BoundsCode} (hi : idx? x = some k) (hv : R σ x v) (hk : k ≤ y) : (Instr.sliceBound v y code).run P w = .ok k w := by
  obtain ⟨kd, i, rfl, h0, rfl⟩ := idx?_spec hi hv
  have h1 : 0 ≤ i ∧ i ≤ (y : Int) := ⟨h0, by omega⟩
  simp only [Instr.sliceBound, Sem.run_bind, asIntOf, Sem.run_pure, Result.andThen_ok, h1, and_self, if_true, Sem.run_ite]

theorem sliceBounds_ok (hf : FR σ n f a.tmps) {len cap hv lv : Nat} {lo hi : Option Operand} (hh : bnd f len hi = some hv) (hl : bnd f 0 lo = some lv) (h1 : lv ≤ hv) (h2 : hv ≤ cap) :
    (Instr.sliceBounds true len cap (lo.map a.eval) (hi.map a.eval) none).run P w = .ok (lv, hv, cap) w := by
  unfold Instr.sliceBounds
  cases hi with
  | none =>
    simp only [bnd, Option.some.injEq] at hh
    subst hh
    cases lo with
    | none =>
      simp only [bnd, Option.some.injEq] at hl
      subst hl
      simp
    | some e =>
      simp only [bnd] at hl
      simp [sliceBound_ok hl (ev_sound hf e) h1]
  | some d =>
    simp only [bnd] at hh
    cases lo with
    | none =>
      simp only [bnd, Option.some.injEq] at hl
      subst hl
      simp [sliceBound_ok hh (ev_sound hf d) h2]
    | some e =>
      simp only [bnd] at hl
      simp [sliceBound_ok hh (ev_sound hf d) h2, sliceBound_ok hl (ev_sound hf e) h1]

theorem szOf_run {t : TypeId} {n m : Nat} (hm : szOf P t = some m) (w : World) : (sizeOf t).run P w = .ok m w := run_sizeOf' hm w

theorem sliceAt_run (hf : FR σ n f a.tmps) {t e : TypeId} {m : Nat} (hu : P.underlying t = some (.slice e)) (hm : szOf P e = some m) {b : Option Addr} {len k hv lv : Nat} {lo hi : Option Operand}
    (hh : bnd f len hi = some hv) (hl : bnd f 0 lo = some lv) (h1 : lv ≤ hv) (h2 : hv ≤ k) :
    (Instr.sliceAt t (.slice b len k) (lo.map a.eval) (hi.map a.eval) none).run P w = .ok (.slice (if k = lv then b else b.map (·.add (lv * m))) (hv - lv) (k - lv)) w := by
  simp only [Instr.sliceAt, Sem.run_bind, run_underlying hu, Result.andThen_ok, Instr.slice, sliceBounds_ok hf hh hl h1 h2, run_sizeOf' hm, Sem.run_pure]

theorem convert_sound (H : HR σ base h w) {src dst : TypeId} {k k' : IntKind} {i : Int} {u : Value} {d : TypeDesc} (hs : P.underlying src = some d) (hu : P.underlying dst = some (.int k)) (hx : R σ (.int k' i) u) :
    OkV P base σ w (convert src dst u) (.int k (k.wrap i)) h := by
  have := R_int hx
  subst this
  refine .pure H (u := .int k (k.wrap i)) ?_ (by simp [R])
  simp only [convert, Sem.run_bind, run_underlying hs, run_underlying hu, Result.andThen_ok, Conv.intToInt, Sem.run_pure]

theorem slice_sound (H : HR σ base h w) (hf : FR σ n f a.tmps) {t e : TypeId} {id off len sz hv lv : Nat} {cap : Option Nat} {lo hi : Option Operand} {u : Value} {y : AV}
    (hu : P.underlying t = some (.slice e)) (hm : szOf P e = some sz) (hh : bnd f len hi = some hv) (hl : bnd f 0 lo = some lv) (h1 : lv ≤ hv)
    (hy : (match cap with
          | some c => bif Nat.ble hv c then
              bif Nat.beq c lv then some (AV.sl id off (hv - lv) (some 0) sz, h) else some (.sl id (off + lv * sz) (hv - lv) (some (c - lv)) sz, h)
            else none
          | none => bif Nat.ble hv len then bif Nat.blt lv len then some (.sl id (off + lv * sz) (hv - lv) none sz, h) else some (.esl, h) else none) = some (y, h)) (hx : R σ (.sl id off len cap sz) u) :
    OkV P base σ w (Instr.sliceAt t u (lo.map a.eval) (hi.map a.eval) none) y h := by
  simp only [R] at hx
  obtain ⟨c, k, hc, rfl, hk, hcap⟩ := hx
  cases cap with
  | some cc =>
    simp only at hcap
    subst hcap
    simp only at hy
    cases hb : Nat.ble hv k
    · simp [hb] at hy
    · simp only [hb, cond_true] at hy
      have h2 := Nat.le_of_ble_eq_true hb
      have hrun := sliceAt_run (P := P) (w := w) hf hu hm (b := some ⟨c.blk, c.off + off, none⟩) (len := len) (k := k) hh hl h1 h2
      by_cases hkl : k = lv
      · subst hkl
        simp only [Nat.beq_refl, cond_true, Option.some.injEq, Prod.mk.injEq, and_true] at hy
        subst hy
        refine .pure H hrun ?_
        simp only [if_true, R]
        exact ⟨c, 0, hc, by simp, by omega, rfl⟩
      · rw [nb hkl] at hy
        simp only [cond_false, Option.some.injEq, Prod.mk.injEq, and_true] at hy
        subst hy
        refine .pure H hrun ?_
        rw [if_neg hkl]
        simp only [R, Option.map_some, add_none]
        exact ⟨c, k - lv, hc, by rw [Nat.add_assoc], by omega, rfl⟩
  | none =>
    simp only at hcap hy
    cases hb2 : Nat.ble hv len
    · simp [hb2] at hy
    have h2 := Nat.le_of_ble_eq_true hb2
    have hrun := sliceAt_run (P := P) (w := w) hf hu hm (b := some ⟨c.blk, c.off + off, none⟩) (len := len) (k := k) hh hl h1 (by omega)
    cases hb : Nat.blt lv len
    · simp only [hb2, hb, cond_true, cond_false, Option.some.injEq, Prod.mk.injEq, and_true] at hy
      subst hy
      have h3 : ¬ lv + 1 ≤ len := fun h => by rw [show Nat.blt lv len = true from Nat.ble_eq_true_of_le h] at hb; cases hb
      refine .pure H hrun ?_
      simp only [R, show hv - lv = 0 by omega]
      split
      · exact ⟨_, _, rfl⟩
      · exact ⟨_, _, rfl⟩
    · simp only [hb2, hb, cond_true, Option.some.injEq, Prod.mk.injEq, and_true] at hy
      subst hy
      have h3 : lv + 1 ≤ len := Nat.le_of_ble_eq_true hb
      refine .pure H hrun ?_
      rw [if_neg (by omega)]
      simp only [R, Option.map_some, add_none]
      refine ⟨c, k - lv, hc, by rw [Nat.add_assoc], by omega, ?_, Nat.le_trans (Nat.sub_le _ _) hcap.2⟩
      show off + lv * sz + (k - lv) * sz = c.tot
      rw [← hcap.1, Nat.add_assoc, ← Nat.add_mul]
      congr 2
      omega

theorem slice_nil_sound (H : HR σ base h w) (hf : FR σ n f a.tmps) {t e : TypeId} {sz : Nat} {lo hi : Option Operand} {u : Value}
    (hu : P.underlying t = some (.slice e)) (hm : szOf P e = some sz) (hx : R σ .nilsl u) (hh : bnd f 0 hi = some 0) (hl : bnd f 0 lo = some 0) :
    OkV P base σ w (Instr.sliceAt t u (lo.map a.eval) (hi.map a.eval) none) .nilsl h := by
  simp only [R] at hx
  subst hx
  have hrun := sliceAt_run (P := P) (w := w) hf hu hm (b := none) (len := 0) (k := 0) hh hl (Nat.le_refl _) (Nat.le_refl _)
  exact .pure H hrun (by simp [R])

theorem slice_esl_sound (H : HR σ base h w) (hf : FR σ n f a.tmps) {t e : TypeId} {sz : Nat} {lo hi : Option Operand} {u : Value}
    (hu : P.underlying t = some (.slice e)) (hm : szOf P e = some sz) (hx : R σ .esl u) (hh : bnd f 0 hi = some 0) (hl : bnd f 0 lo = some 0) :
    OkV P base σ w (Instr.sliceAt t u (lo.map a.eval) (hi.map a.eval) none) .esl h := by
  simp only [R] at hx
  obtain ⟨b, k, rfl⟩ := hx
  have hrun := sliceAt_run (P := P) (w := w) hf hu hm (b := some b) (len := 0) (k := k) hh hl (Nat.le_refl _) (Nat.zero_le _)
  refine .pure H hrun ?_
  simp only [R]
  by_cases hk : k = 0
  · exact ⟨b, 0, by simp [hk]⟩
  · exact ⟨_, k, by rw [if_neg hk]; rfl⟩

/-- x[:] of an array. -/
theorem sliceBounds_ok' (hf : FR σ n f a.tmps) {q : Bool} {len cap hv lv : Nat} {lo hi : Option Operand} (hh : bnd f len hi = some hv) (hl : bnd f 0 lo = some lv) (h1 : lv ≤ hv) (h2 : hv ≤ cap) :
    (Instr.sliceBounds q len cap (lo.map a.eval) (hi.map a.eval) none).run P w = .ok (lv, hv, cap) w := by
  unfold Instr.sliceBounds
  cases hi with
  | none =>
    simp only [bnd, Option.some.injEq] at hh
    subst hh
    cases lo with
    | none =>
      simp only [bnd, Option.some.injEq] at hl
      subst hl
      simp
    | some e =>
      simp only [bnd] at hl
      simp [sliceBound_ok hl (ev_sound hf e) h1]
  | some d =>
    simp only [bnd] at hh
    cases lo with
    | none =>
      simp only [bnd, Option.some.injEq] at hl
      subst hl
      simp [sliceBound_ok hh (ev_sound hf d) h2]
    | some e =>
      simp only [bnd] at hl
      simp [sliceBound_ok hh (ev_sound hf d) h2, sliceBound_ok hl (ev_sound hf e) h1]

theorem slice_arr_sound (H : HR σ base h w) (hf : FR σ n f a.tmps) {t e : TypeId} {id off len m hv lv : Nat} {lo hi : Option Operand} {u : Value} (hu : P.underlying t = some (.array len e)) (hm : szOf P e = some m)
    (hh : bnd f len hi = some hv) (hl : bnd f 0 lo = some lv) (h1 : lv ≤ hv) (h2 : hv ≤ len) (hx : R σ (.ptr id off) u) :
    OkV P base σ w (Instr.sliceAt t u (lo.map a.eval) (hi.map a.eval) none) (bif Nat.beq len lv then .sl id off (hv - lv) (some 0) m else .sl id (off + lv * m) (hv - lv) (some (len - lv)) m) h := by
  simp only [R] at hx
  obtain ⟨c, hc, rfl⟩ := hx
  have hrun : (Instr.sliceAt t (.pointer (some ⟨c.blk, c.off + off, none⟩)) (lo.map a.eval) (hi.map a.eval) none).run P w = .ok (.slice (some (if len = lv then ⟨c.blk, c.off + off, none⟩ else ⟨c.blk, c.off + off + lv * m, none⟩)) (hv - lv) (len - lv)) w := by
    simp [Instr.sliceAt, run_underlying hu, Instr.sureAddr, sliceBounds_ok' hf hh hl h1 h2, run_sizeOf' hm, add_none]
  by_cases hkl : len = lv
  · subst hkl
    rw [Nat.beq_refl]
    refine .pure H hrun ?_
    simp only [if_true, R, cond_true]
    exact ⟨c, 0, hc, by simp, by omega, rfl⟩
  · rw [nb hkl]
    refine .pure H hrun ?_
    rw [if_neg hkl]
    simp only [R, cond_false]
    exact ⟨c, len - lv, hc, by rw [Nat.add_assoc], by omega, rfl⟩

theorem bytes_extract {l : List UInt8} {a b : Nat} : (⟨l.toArray⟩ : ByteArray).extract a b = ⟨((l.drop a).take (b - a)).toArray⟩ := by
  apply ByteArray.ext
  apply Array.ext'
  simp [ByteArray.extract, ByteArray.copySlice, List.extract]

theorem slice_str_sound (H : HR σ base h w) (hf : FR σ n f a.tmps) {t : TypeId} {l : List UInt8} {hv lv : Nat} {lo hi : Option Operand} {u : Value} (hu : P.underlying t = some .string)
    (hh : bnd f l.length hi = some hv) (hl : bnd f 0 lo = some lv) (h1 : lv ≤ hv) (h2 : hv ≤ l.length) (hx : R σ (.str l) u) :
    OkV P base σ w (Instr.sliceAt t u (lo.map a.eval) (hi.map a.eval) none) (.str ((l.drop lv).take (hv - lv))) h := by
  simp only [R] at hx
  subst hx
  have hsz : (⟨l.toArray⟩ : ByteArray).size = l.length := rfl
  refine .pure H (u := .string ((⟨l.toArray⟩ : ByteArray).extract lv hv)) ?_ ?_
  · simp only [Instr.sliceAt, Sem.run_bind, run_underlying hu, Result.andThen_ok, Instr.slice, hsz, sliceBounds_ok' hf hh hl h1 h2, Sem.run_pure, Option.isSome_none, Bool.false_eq_true, if_false]
  · simp only [R, bytes_extract]

theorem index_str_sound (H : HR σ base h w) {t : TypeId} {l : List UInt8} {k : Nat} {x : AV} {b : UInt8} {u v : Value} (hu : P.underlying t = some .string)
    (hx : R σ (.str l) u) (hi : idx? x = some k) (hv : R σ x v) (hb : l[k]? = some b) : OkV P base σ w (Instr.index t u v) (.int .u8 b.toNat) h := by
  obtain ⟨kd, i, rfl, h0, rfl⟩ := idx?_spec hi hv
  simp only [R] at hx
  subst hx
  have hg : (⟨l.toArray⟩ : ByteArray)[i.toNat]? = some b := by
    have hlt : i.toNat < l.length := by
      rcases Nat.lt_or_ge i.toNat l.length with h | h
      · exact h
      · rw [List.getElem?_eq_none h] at hb; cases hb
    have hlt' : i.toNat < (⟨l.toArray⟩ : ByteArray).size := hlt
    rw [getElem?_pos (⟨l.toArray⟩ : ByteArray) i.toNat hlt']
    rw [List.getElem?_eq_getElem hlt] at hb
    cases hb
    rfl
  refine .pure H (u := .int .u8 b.toNat) ?_ (by simp [R])
  simp only [Instr.index, Sem.run_bind, asIntOf, Sem.run_pure, Result.andThen_ok, run_underlying hu, h0, if_true, hg]

theorem sliceBounds3_ok (hf : FR σ n f a.tmps) {len cap hv lv mv : Nat} {lo : Option Operand} {hi mx : Operand} (hm : idx? (ev f mx) = some mv) (hh : idx? (ev f hi) = some hv) (hl : bnd f 0 lo = some lv) (h1 : lv ≤ hv) (h2 : hv ≤ mv) (h3 : mv ≤ cap) :
    (Instr.sliceBounds true len cap (lo.map a.eval) (some (a.eval hi)) (some (a.eval mx))).run P w = .ok (lv, hv, mv) w := by
  unfold Instr.sliceBounds
  cases lo with
  | none =>
    simp only [bnd, Option.some.injEq] at hl
    subst hl
    simp [sliceBound_ok hm (ev_sound hf mx) h3, sliceBound_ok hh (ev_sound hf hi) h2]
  | some e =>
    simp only [bnd] at hl
    simp [sliceBound_ok hm (ev_sound hf mx) h3, sliceBound_ok hh (ev_sound hf hi) h2, sliceBound_ok hl (ev_sound hf e) h1]

theorem sliceAt3_run (hf : FR σ n f a.tmps) {t e : TypeId} {m : Nat} (hu : P.underlying t = some (.slice e)) (hm : szOf P e = some m) {b : Option Addr} {len k hv lv mv : Nat} {lo : Option Operand} {hi mx : Operand}
    (hx : idx? (ev f mx) = some mv) (hh : idx? (ev f hi) = some hv) (hl : bnd f 0 lo = some lv) (h1 : lv ≤ hv) (h2 : hv ≤ mv) (h3 : mv ≤ k) :
    (Instr.sliceAt t (.slice b len k) (lo.map a.eval) (some (a.eval hi)) (some (a.eval mx))).run P w = .ok (.slice (if mv = lv then b else b.map (·.add (lv * m))) (hv - lv) (mv - lv)) w := by
  simp only [Instr.sliceAt, Sem.run_bind, run_underlying hu, Result.andThen_ok, Instr.slice, sliceBounds3_ok hf hx hh hl h1 h2 h3, run_sizeOf' hm, Sem.run_pure]

theorem slice3_sound (H : HR σ base h w) (hf : FR σ n f a.tmps) {t e : TypeId} {id off len sz hv lv mv : Nat} {cap : Option Nat} {lo : Option Operand} {hi mx : Operand} {u : Value}
    (hu : P.underlying t = some (.slice e)) (hm : szOf P e = some sz) (hxm : idx? (ev f mx) = some mv) (hh : idx? (ev f hi) = some hv) (hl : bnd f 0 lo = some lv) (h1 : lv ≤ hv) (h2 : hv ≤ mv) (h3 : mv ≤ cap.getD len)
    (hx : R σ (.sl id off len cap sz) u) :
    OkV P base σ w (Instr.sliceAt t u (lo.map a.eval) (some (a.eval hi)) (some (a.eval mx))) (bif Nat.beq mv lv then .sl id off (hv - lv) (some 0) sz else .sl id (off + lv * sz) (hv - lv) (some (mv - lv)) sz) h := by
  simp only [R] at hx
  obtain ⟨c, k, hc, rfl, hk, hcap⟩ := hx
  have h4 : mv ≤ k := by
    cases cap with
    | none => simp only [Option.getD_none] at h3; omega
    | some cc => simp only at hcap; subst hcap; simpa using h3
  have hrun := sliceAt3_run (P := P) (w := w) hf hu hm (b := some ⟨c.blk, c.off + off, none⟩) (len := len) (k := k) hxm hh hl h1 h2 h4
  by_cases hkl : mv = lv
  · subst hkl
    rw [Nat.beq_refl]
    refine .pure H hrun ?_
    simp only [if_true, R, cond_true]
    exact ⟨c, 0, hc, by simp, by omega, rfl⟩
  · rw [nb hkl]
    refine .pure H hrun ?_
    rw [if_neg hkl]
    simp only [R, Option.map_some, add_none, cond_false]
    exact ⟨c, mv - lv, hc, by rw [Nat.add_assoc], by omega, rfl⟩

theorem slice3_nil_sound (H : HR σ base h w) (hf : FR σ n f a.tmps) {t e : TypeId} {sz : Nat} {lo : Option Operand} {hi mx : Operand} {u : Value}
    (hu : P.underlying t = some (.slice e)) (hm : szOf P e = some sz) (hx : R σ .nilsl u) (hxm : idx? (ev f mx) = some 0) (hh : idx? (ev f hi) = some 0) (hl : bnd f 0 lo = some 0) :
    OkV P base σ w (Instr.sliceAt t u (lo.map a.eval) (some (a.eval hi)) (some (a.eval mx))) .nilsl h := by
  simp only [R] at hx
  subst hx
  have hrun := sliceAt3_run (P := P) (w := w) hf hu hm (b := none) (len := 0) (k := 0) hxm hh hl (Nat.le_refl _) (Nat.le_refl _) (Nat.le_refl _)
  exact .pure H hrun (by simp [R])

/-- **The operations that make no call.** -/
theorem step1_sound (H : HR σ base h w) (hb : base.fit w.heap.size) (hf : FR σ n f a.tmps) (o : Oper) {v : AV} {h' : Hp} (hs : step1 P f h o.op = some (v, h')) : OkS P base σ w (execOp a.eval o) v h' := by
  unfold execOp
  generalize o.op = op at hs
  have E : ∀ x, R σ (ev f x) (a.eval x) := ev_sound hf
  cases op <;> simp only [step1] at hs ⊢
  case move x =>
    cases hs
    exact move_sound H hf x
  case assign x =>
    cases hs
    exact move_sound H hf x
  case pick c x y =>
    split at hs
    · rename_i t ht
      cases hs
      have := E c
      rw [ht] at this
      rw [R_bool this]
      cases t
      · exact .pure H (by simp [asBool]) (E y)
      · exact .pure H (by simp [asBool]) (E x)
    · cases hs
  case alloc t =>
    split at hs
    · rename_i cs hz
      cases hs
      exact (alloc_sound H hb hz).toS
    · cases hs
  case box t x =>
    split at hs
    · rename_i cs hp
      cases hs
      exact (box_sound H hb hp (E x)).toS
    · cases hs
  case build t ps =>
    split at hs
    · rename_i fs z hu hz
      split at hs
      · rename_i pl hpl
        cases hc : fillA (pl[·]?) z (ps.toList.map fun p => (p.1, ev f p.2)) with
        | none => simp [hc] at hs
        | some cs =>
          simp only [hc, Option.map_some, Option.some.injEq, Prod.mk.injEq] at hs
          obtain ⟨rfl, rfl⟩ := hs
          exact (build_struct_sound H hf hu hz hpl hc).toS
      · cases hs
    · rename_i len e z hu hz
      split at hs
      · rename_i m hm
        cases hc : fillA (fun i => some (i * m, m)) z (ps.toList.map fun p => (p.1, ev f p.2)) with
        | none => simp [hc] at hs
        | some cs =>
          simp only [hc, Option.map_some, Option.some.injEq, Prod.mk.injEq] at hs
          obtain ⟨rfl, rfl⟩ := hs
          exact (build_array_sound H hf hu hz hm hc).toS
      · cases hs
    · cases hs
  case buildSlice t len ps =>
    split at hs
    · rename_i e hu
      split at hs
      · rename_i m z hm hz
        cases hcc : (Nat.ble (len * m) 16777216 && Nat.beq z.length m)
        · simp [hcc] at hs
        · simp only [hcc, cond_true] at hs
          simp only [Bool.and_eq_true] at hcc
          split at hs
          · rename_i cs hc
            cases hs
            exact (buildSlice_sound H hb hf hu hz hm (Nat.le_of_ble_eq_true hcc.1) (Nat.eq_of_beq_eq_true hcc.2) hc).toS
          · cases hs
      · cases hs
    · cases hs
  case load t x =>
    split at hs
    · rename_i id off hx
      split at hs
      · rename_i b hbk
        cases hr : rdVar P b.cells t off with
        | none => simp [hr] at hs
        | some y =>
          simp only [hr, Option.map_some, Option.some.injEq, Prod.mk.injEq] at hs
          obtain ⟨rfl, rfl⟩ := hs
          have := E x
          rw [hx] at this
          exact (load_sound H hbk hr this).toS
      · cases hs
    · cases hs
  case store t x y =>
    split at hs
    · rename_i id off vs m hx hy hm
      cases hc : Nat.beq vs.length m
      · simp [hc] at hs
      · simp only [hc, cond_true] at hs
        cases hw : h.write id off vs with
        | none => simp [hw] at hs
        | some h1 =>
          simp only [hw, Option.map_some, Option.some.injEq, Prod.mk.injEq] at hs
          obtain ⟨rfl, rfl⟩ := hs
          have := E x
          rw [hx] at this
          exact store_sound H hy hm (Nat.eq_of_beq_eq_true hc) hw this (E y)
    · cases hs
  case nilCheck x =>
    split at hs
    · rename_i i o hx
      cases hs
      have := E x
      rw [hx] at this
      have h2 := this
      simp only [R] at h2
      obtain ⟨c, hc, he⟩ := h2
      rw [he] at this ⊢
      exact .pure H (by simp) this
    · cases hs
  case binOp op t x y ty =>
    cases hv : abBin P op t (ev f x) (ev f y) with
    | none => simp [hv] at hs
    | some r =>
      simp only [hv, Option.map_some, Option.some.injEq, Prod.mk.injEq] at hs
      obtain ⟨rfl, rfl⟩ := hs
      obtain ⟨u, h1, h2⟩ := abBin_sound (P := P) (w := w) hv (E x) (E y) x y
      exact (OkV.pure H h1 h2).toS
  case unOp op t x =>
    split at hs
    · rename_i b hx
      cases hs
      have := E x
      rw [hx] at this
      rw [R_bool this]
      exact (OkV.pure H (u := .bool (!b)) (by simp [Op.unary]) (by simp [R])).toS
    · rename_i k i hx
      cases hs
      have := E x
      rw [hx] at this
      rw [R_int this]
      exact (OkV.pure H (u := .int k (k.wrap (0 - i))) (by simp [Op.unary, Op.intArith]) (by simp [R])).toS
    · cases hs
  case convert src dst x =>
    split at hs
    · rename_i d k k' i h1 h2 hx
      cases hs
      have := E x
      rw [hx] at this
      exact (convert_sound H h1 h2 this).toS
    · cases hs
  case makeFunc fn x y =>
    split at hs
    · rename_i g
      cases hs
      refine (OkV.pure H (u := .func (.func g) (x.map a.eval) (y.map a.eval)) (by simp [Instr.makeFunc]) ?_).toS
      simp only [R]
      refine ⟨_, _, rfl, ?_, ?_⟩
      · rw [Array.toList_map]
        exact Rs.map _ _ fun z _ => E z
      · rw [Array.toList_map]
        exact Rs.map _ _ fun z _ => E z
    · cases hs
  case makeSlice t l c =>
    split at hs
    · rename_i e lv cv hu hl hc
      split at hs
      · rename_i m z hm hz
        split at hs
        · rename_i hcond
          cases hs
          obtain ⟨h0, h1, h2, h3, h4⟩ := hcond
          obtain ⟨kl, el⟩ := int?_spec hl (E l)
          obtain ⟨kc, ec⟩ := int?_spec hc (E c)
          rw [el, ec]
          exact (makeSlice_sound H hb hu hz hm h0 h1 h2 h3 h4).toS
        · cases hs
      · cases hs
    · cases hs
  case slice t x lo hi mx =>
    cases mx with
    | some m =>
      cases hi with
      | none => simp only at hs; cases hs
      | some hi =>
        simp only at hs
        split at hs
        · rename_i e id off len cap sz mv hu hx hmx
          split at hs
          · rename_i hv lv m h1 h2 hm
            cases hcc : (Nat.ble lv hv && Nat.beq m sz && Nat.ble hv mv && Nat.ble mv (cap.getD len))
            · simp [hcc] at hs
            · simp only [hcc, cond_true] at hs
              simp only [Bool.and_eq_true] at hcc
              have hms := Nat.eq_of_beq_eq_true hcc.1.1.2
              subst hms
              have := E x
              rw [hx] at this
              have key := slice3_sound H hf hu hm hmx h1 h2 (Nat.le_of_ble_eq_true hcc.1.1.1) (Nat.le_of_ble_eq_true hcc.1.2) (Nat.le_of_ble_eq_true hcc.2) this
              cases hbb : Nat.beq mv lv
              · simp only [hbb, cond_false, Option.some.injEq, Prod.mk.injEq] at hs key
                obtain ⟨rfl, rfl⟩ := hs
                exact key.toS
              · simp only [hbb, cond_true, Option.some.injEq, Prod.mk.injEq] at hs key
                obtain ⟨rfl, rfl⟩ := hs
                exact key.toS
          · cases hs
        · rename_i e hu hx hmx
          split at hs
          · rename_i h1 h2 hm
            cases hs
            have := E x
            rw [hx] at this
            exact (slice3_nil_sound H hf hu hm this hmx h1 h2).toS
          · cases hs
        · cases hs
    | none =>
      simp only at hs
      split at hs
      · rename_i e id off len cap sz hu hx
        split at hs
        · rename_i hv lv m h1 h2 hm
          cases hcc : (Nat.ble lv hv && Nat.beq m sz)
          · simp [hcc] at hs
          · simp only [hcc, cond_true] at hs
            simp only [Bool.and_eq_true] at hcc
            have hms := Nat.eq_of_beq_eq_true hcc.2
            subst hms
            have := E x
            rw [hx] at this
            have hh : h' = h := by
              revert hs
              cases cap with
              | some c => simp only; cases Nat.ble hv c <;> cases Nat.beq c lv <;> simp <;> intros <;> simp_all
              | none => simp only; cases Nat.ble hv len <;> cases Nat.blt lv len <;> simp <;> intros <;> simp_all
            subst hh
            exact (slice_sound H hf hu hm h1 h2 (Nat.le_of_ble_eq_true hcc.1) hs this).toS
        · cases hs
      · rename_i e hu hx
        split at hs
        · rename_i h1 h2 hm
          cases hs
          have := E x
          rw [hx] at this
          exact (slice_nil_sound H hf hu hm this h1 h2).toS
        · cases hs
      · rename_i e hu hx
        split at hs
        · rename_i h1 h2 hm
          cases hs
          have := E x
          rw [hx] at this
          exact (slice_esl_sound H hf hu hm this h1 h2).toS
        · cases hs
      · rename_i n e id off hu hx
        split at hs
        · rename_i hv lv m h1 h2 hm
          cases hcc : (Nat.ble lv hv && Nat.ble hv n)
          · simp [hcc] at hs
          · simp only [hcc, cond_true] at hs
            simp only [Bool.and_eq_true] at hcc
            have := E x
            rw [hx] at this
            have key := slice_arr_sound H hf hu hm h1 h2 (Nat.le_of_ble_eq_true hcc.1) (Nat.le_of_ble_eq_true hcc.2) this
            cases hbb : Nat.beq n lv
            · simp only [hbb, cond_false, Option.some.injEq, Prod.mk.injEq] at hs key
              obtain ⟨rfl, rfl⟩ := hs
              exact key.toS
            · simp only [hbb, cond_true, Option.some.injEq, Prod.mk.injEq] at hs key
              obtain ⟨rfl, rfl⟩ := hs
              exact key.toS
        · cases hs
      · rename_i l hu hx
        split at hs
        · rename_i hv lv h1 h2
          cases hcc : (Nat.ble lv hv && Nat.ble hv l.length)
          · simp [hcc] at hs
          · simp only [hcc, cond_true, Option.some.injEq, Prod.mk.injEq] at hs
            obtain ⟨rfl, rfl⟩ := hs
            simp only [Bool.and_eq_true] at hcc
            have := E x
            rw [hx] at this
            exact (slice_str_sound H hf hu h1 h2 (Nat.le_of_ble_eq_true hcc.1) (Nat.le_of_ble_eq_true hcc.2) this).toS
        · cases hs
      · cases hs
  case fieldAddr t x i =>
    split at hs
    · rename_i fs id off hu hx
      split at hs
      · rename_i fd hfd
        split at hs
        · rename_i m hm
          by_cases h0 : m = 0
          · subst h0; simp at hs
          · rw [nb h0] at hs
            cases hs
            have := E x
            rw [hx] at this
            exact (fieldAt_sound H hu hfd hm h0 this).toS
        · cases hs
      · cases hs
    · cases hs
  case field t x i =>
    split at hs
    · rename_i fs cs hu hx
      split at hs
      · rename_i fd hfd
        cases hr : rdVar P cs fd.type fd.offset with
        | none => simp [hr] at hs
        | some y =>
          simp only [hr, Option.map_some, Option.some.injEq, Prod.mk.injEq] at hs
          obtain ⟨rfl, rfl⟩ := hs
          have := E x
          rw [hx] at this
          exact (field_sound H hu hfd this hr).toS
      · cases hs
    · cases hs
  case indexAddr t x i =>
    split at hs
    · rename_i e id off len cap sz k hu hx hi
      split at hs
      · rename_i m hm
        cases hk : Nat.blt k len
        · simp [hk] at hs
        · simp only [hk, cond_true, Option.some.injEq, Prod.mk.injEq] at hs
          obtain ⟨rfl, rfl⟩ := hs
          have := E x
          rw [hx] at this
          exact (indexAt_slice_sound H hu hm this hi (E i) (Nat.le_of_ble_eq_true hk)).toS
      · cases hs
    · rename_i len e id off k hu hx hi
      split at hs
      · rename_i m hm
        cases hk : Nat.blt k len
        · simp [hk] at hs
        · simp only [hk, cond_true, Option.some.injEq, Prod.mk.injEq] at hs
          obtain ⟨rfl, rfl⟩ := hs
          have := E x
          rw [hx] at this
          exact (indexAt_array_sound H hu hm this hi (E i) (Nat.le_of_ble_eq_true hk)).toS
      · cases hs
    · cases hs
  case index t x i =>
    split at hs
    · rename_i len e cs k hu hx hi
      split at hs
      · rename_i m hm
        cases hk : Nat.blt k len
        · simp [hk] at hs
        · simp only [hk, cond_true] at hs
          cases hr : rdVar P cs e (k * m) with
          | none => simp [hr] at hs
          | some y =>
            simp only [hr, Option.map_some, Option.some.injEq, Prod.mk.injEq] at hs
            obtain ⟨rfl, rfl⟩ := hs
            have := E x
            rw [hx] at this
            exact (index_array_sound H hu hm this hi (E i) (Nat.le_of_ble_eq_true hk) hr).toS
      · cases hs
    · rename_i l k hu hx hi
      cases hb : l[k]? with
      | none => simp [hb] at hs
      | some b =>
        simp only [hb, Option.map_some, Option.some.injEq, Prod.mk.injEq] at hs
        obtain ⟨rfl, rfl⟩ := hs
        have := E x
        rw [hx] at this
        exact (index_str_sound H hu this hi (E i) hb).toS
    · cases hs
  case makeMap t r =>
    split at hs
    · rename_i k e hu
      cases hs
      exact (makeMap_sound H hb hu (r := none) (fun v e => by cases e)).toS
    · rename_i k e x hu
      split at hs
      · rename_i q n hx
        cases hs
        have := E x
        rw [hx] at this
        exact (makeMap_sound H hb hu (r := some (a.eval x)) (fun v e => by cases e; exact ⟨q, n, R_int this⟩)).toS
      · cases hs
    · cases hs
  case lookup t x i ok =>
    split at hs
    · rename_i k e hu
      split at hs
      · rename_i z hz
        exact (lookup_sound H hu hz hs (E i) (E x)).toS
      · cases hs
    · cases hs
  case mapUpdate t m k v =>
    split at hs
    · rename_i kt e hu
      obtain ⟨rfl, w', h1, h2, h3⟩ := mapUpdate_sound H hu hs (E k) (E v) (E m)
      exact ⟨.skip, undef, w', σ, by simp [h1], rfl, R_any, .refl _, h2, h3⟩
    · cases hs
  case range t x =>
    split at hs
    · rename_i k e hu
      exact (range_sound H hb hu hs (E x)).toS
    · cases hs
  case entry x => exact (entry_sound H hs (E x)).toS
  case extract x i =>
    split at hs
    · rename_i vs hx
      cases hy : vs[i]? with
      | none => simp [hy] at hs
      | some y =>
        simp only [hy, Option.map_some, Option.some.injEq, Prod.mk.injEq] at hs
        obtain ⟨rfl, rfl⟩ := hs
        have := E x
        rw [hx] at this
        exact (extract_sound H this hy).toS
    · cases hs
  all_goals cases hs

end
end Go.Abs
