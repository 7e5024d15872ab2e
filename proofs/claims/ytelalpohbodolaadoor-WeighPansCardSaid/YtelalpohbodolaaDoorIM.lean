/- Keys, and what is found in a map. Each operation does to a world what the abstract operation says: maps. Maps in the heap: a new one, an entry, an entry less; iterators. Each operation on maps does to a world what the abstract operation says. A map is written: an entry more, another value, an entry less; an iterator's step. -/
import Derived.Test.YtelalpohbodolaaDoorI
set_option linter.unusedSimpArgs false
set_option linter.unusedVariables false
namespace Go.Abs
open Go Go.RowKit

theorem fitKs_len : ∀ {ks : List IntKind} {cs : List AV}, fitKs ks cs = true → cs.length = ks.length
  | [], [], _ => rfl
  | k :: r, .int k' n :: s, h => by
    simp only [fitKs, Bool.and_eq_true] at h
    simp [fitKs_len h.2]
  | [], a :: s, h => by simp [fitKs] at h
  | k :: r, [], h => by simp [fitKs] at h
  | k :: r, .any :: s, h | k :: r, .bool _ :: s, h | k :: r, .str _ :: s, h | k :: r, .ptr _ _ :: s, h | k :: r, .nilptr :: s, h | k :: r, .sl _ _ _ _ _ :: s, h | k :: r, .nilsl :: s, h | k :: r, .esl :: s, h
  | k :: r, .mp _ :: s, h | k :: r, .nilmp :: s, h | k :: r, .fn _ _ _ :: s, h | k :: r, .yld _ :: s, h | k :: r, .nilfn :: s, h | k :: r, .ifc _ _ :: s, h | k :: r, .nilifc :: s, h | k :: r, .ag _ :: s, h | k :: r, .tu _ :: s, h => by simp [fitKs] at h

theorem fitKs_int : ∀ {ks : List IntKind} {cs : List AV}, fitKs ks cs = true → cs.all isIntA = true
  | [], [], _ => rfl
  | k :: r, a :: s, h => by
    cases a <;> simp only [fitKs] at h <;> try (cases h; done)
    simp only [Bool.and_eq_true] at h
    simp only [List.all_cons, isIntA, Bool.true_and]
    exact fitKs_int h.2
  | [], a :: s, h => by simp [fitKs] at h
  | k :: r, [], h => by simp [fitKs] at h

theorem fitKs_cons {k : IntKind} {r : List IntKind} {a : AV} {s : List AV} (h : fitKs (k :: r) (a :: s) = true) : (∃ n, a = .int k n) ∧ fitKs r s = true := by
  cases a <;> simp only [fitKs] at h <;> try (cases h; done)
  simp only [Bool.and_eq_true, decide_eq_true_eq] at h
  exact ⟨⟨_, by rw [h.1]⟩, h.2⟩

theorem agEq_fit : ∀ {ks : List IntKind} {xs ys : List AV}, fitKs ks xs = true → fitKs ks ys = true → agEq xs ys = some (AV.beqs xs ys)
  | [], [], [], _, _ => rfl
  | k :: r, a :: xs, b :: ys, h1, h2 => by
    obtain ⟨⟨n, rfl⟩, h3⟩ := fitKs_cons h1
    obtain ⟨⟨m, rfl⟩, h4⟩ := fitKs_cons h2
    simp [agEq, agEq_fit h3 h4, AV.beqs, AV.beq]
  | [], a :: s, _, h, _ => by simp [fitKs] at h
  | [], [], a :: s, _, h => by simp [fitKs] at h
  | k :: r, [], _, h, _ => by simp [fitKs] at h
  | k :: r, a :: s, [], _, h => by simp [fitKs] at h

theorem keyFit_plain {kt : KT} {a : AV} (h : keyFit kt a = true) : plainKey a = true := by
  cases kt <;> cases a <;> simp only [keyFit] at h <;> first | (cases h; done) | rfl | exact fitKs_int h

mutual
theorem AV.beq_eq : ∀ {a b : AV}, AV.beq a b = true → a = b
  | .any, b, h => by cases b <;> simp [AV.beq] at h; rfl
  | .bool x, b, h => by cases b <;> simp [AV.beq] at h; rw [h]
  | .int k n, b, h => by cases b <;> simp [AV.beq] at h; rw [h.1, h.2]
  | .str l, b, h => by cases b <;> simp [AV.beq] at h; rw [h]
  | .ptr i o, b, h => by cases b <;> simp [AV.beq] at h; rw [h.1, h.2]
  | .nilptr, b, h => by cases b <;> simp [AV.beq] at h; rfl
  | .sl i o l c s, b, h => by cases b <;> simp [AV.beq] at h; rw [h.1.1.1.1, h.1.1.1.2, h.1.1.2, h.1.2, h.2]
  | .nilsl, b, h => by cases b <;> simp [AV.beq] at h; rfl
  | .esl, b, h => by cases b <;> simp [AV.beq] at h; rfl
  | .mp i, b, h => by cases b <;> simp [AV.beq] at h; rw [h]
  | .nilmp, b, h => by cases b <;> simp [AV.beq] at h; rfl
  | .fn f a c, b, h => by
    cases b <;> simp [AV.beq] at h
    rw [h.1.1, AV.beqs_eq h.1.2, AV.beqs_eq h.2]
  | .yld i, b, h => by cases b <;> simp [AV.beq] at h; rw [h]
  | .nilfn, b, h => by cases b <;> simp [AV.beq] at h; rfl
  | .ifc t v, b, h => by
    cases b <;> simp [AV.beq] at h
    rw [h.1, AV.beq_eq h.2]
  | .nilifc, b, h => by cases b <;> simp [AV.beq] at h; rfl
  | .ag l, b, h => by
    cases b <;> simp [AV.beq] at h
    rw [AV.beqs_eq h]
  | .tu l, b, h => by
    cases b <;> simp [AV.beq] at h
    rw [AV.beqs_eq h]
theorem AV.beqs_eq : ∀ {a b : List AV}, AV.beqs a b = true → a = b
  | [], b, h => by cases b <;> simp [AV.beqs] at h; rfl
  | x :: r, b, h => by
    cases b <;> simp [AV.beqs] at h
    rw [AV.beq_eq h.1, AV.beqs_eq h.2]
end

theorem beqs_refl : ∀ {l : List AV}, l.all isIntA = true → AV.beqs l l = true
  | [], _ => rfl
  | a :: r, h => by
    simp only [List.all_cons, Bool.and_eq_true] at h
    obtain ⟨k, n, rfl⟩ := isIntA_spec h.1
    simp [AV.beqs, AV.beq, beqs_refl h.2]

theorem beq_plain {a b : AV} (h : plainKey a = true) : AV.beq a b = true ↔ a = b := by
  refine ⟨AV.beq_eq, ?_⟩
  rintro rfl
  cases a <;> simp only [plainKey] at h <;> first | (cases h; done) | simp [AV.beq]
  exact beqs_refl h

theorem beq_ne {a b : AV} (h : plainKey a = true) : AV.beq a b = false ↔ a ≠ b := by
  rw [← Bool.not_eq_true, not_congr (beq_plain h)]

/-! ### What is found -/
def fIx (a : AV) : List (AV × AV) → List MapEntry → Nat → Option (Nat × Value)
  | x :: l, e :: es, i => bif AV.beq a x.1 then some (i, e.val) else fIx a l es (i + 1)
  | _, _, _ => none

theorem fIx_spec {σ : Env} {a : AV} (hp : plainKey a = true) : ∀ {l : List (AV × AV)} {es : List MapEntry} {i : Nat}, EntsR σ l es → (l.map (·.1)).Nodup →
    (fIx a l es i = none ∧ a ∉ l.map (·.1)) ∨ ∃ j e v, fIx a l es i = some (i + j, e.val) ∧ es[j]? = some e ∧ l[j]? = some (a, v) ∧ R σ a e.key ∧ R σ v e.val
  | [], [], i, _, _ => .inl ⟨rfl, by simp⟩
  | x :: l, e :: es, i, ⟨h1, h2, h3⟩, hn => by
    simp only [List.map_cons, List.nodup_cons] at hn
    simp only [fIx]
    cases hb : AV.beq a x.1
    · simp only [cond_false]
      rcases fIx_spec hp (i := i + 1) h3 hn.2 with ⟨g1, g2⟩ | ⟨j, e', v, g1, g2, g3, g4, g5⟩
      · exact .inl ⟨g1, by simp only [List.map_cons, List.mem_cons, not_or]; exact ⟨(beq_ne hp).1 hb, g2⟩⟩
      · exact .inr ⟨j + 1, e', v, by rw [g1]; congr 2; omega, by simpa using g2, by simpa using g3, g4, g5⟩
    · have := AV.beq_eq hb
      subst this
      exact .inr ⟨0, e, x.2, rfl, rfl, rfl, h1, h2⟩
  | [], e :: es, i, h, _ => h.elim
  | x :: l, [], i, h, _ => h.elim

section
variable {P : Program} {base : Prot} {σ : Env} {w : World} {h : Hp}

theorem beq_str {a b : List UInt8} : ((⟨a.toArray⟩ : ByteArray) == ⟨b.toArray⟩) = (a == b) := by
  by_cases h : a = b
  · subst h
    exact ((MapKept.bytes_beq _ _).2 rfl).trans (beq_self_eq_true a).symm
  · have h1 : (a == b) = false := by simpa using h
    rw [h1, Bool.eq_false_iff]
    intro h2
    have := (MapKept.bytes_beq _ _).1 h2
    simp at this
    exact h this

def ktD : TypeDesc → KT
  | .bool => .bool
  | .int k => .int k
  | .string => .str
  | _ => .no

theorem findNow_sound {kd : TypeDesc} {a : AV} {k : Value} (ha : R σ a k) (hs : ∀ (b : AV) (u : Value), R σ b u → keyFit (ktD kd) b = true →
    Instr.sameNow kd k u = some (AV.beq a b)) : ∀ {l : List (AV × AV)} {es : List MapEntry} {i : Nat}, EntsR σ l es →
    (∀ e ∈ l, keyFit (ktD kd) e.1 = true) → Instr.findNow kd k es i = some (fIx a l es i)
  | [], [], i, _, _ => rfl
  | x :: l, e :: es, i, ⟨h1, h2, h3⟩, hf => by
    simp only [Instr.findNow, hs x.1 e.key h1 (hf x (by simp)), fIx]
    cases AV.beq a x.1
    · simp only [cond_false]
      exact findNow_sound ha hs h3 fun e he => hf e (by simp [he])
    · rfl
  | [], e :: es, i, h, _ => h.elim
  | x :: l, [], i, h, _ => h.elim

theorem findAsking_sound {kt : TypeId} {a : AV} {k : Value} (hs : ∀ (b : AV) (u : Value), R σ b u → keyFit (ktOf P kt) b = true → (Op.equal kt k u).run P w = .ok (AV.beq a b) w) :
    ∀ {l : List (AV × AV)} {es : List MapEntry} {i : Nat}, EntsR σ l es → (∀ e ∈ l, keyFit (ktOf P kt) e.1 = true) → (Instr.findAsking kt k es i).run P w = .ok (fIx a l es i) w
  | [], [], i, _, _ => by simp [Instr.findAsking, fIx]
  | x :: l, e :: es, i, ⟨h1, h2, h3⟩, hf => by
    simp only [Instr.findAsking, Sem.run_bind, hs x.1 e.key h1 (hf x (by simp)), Result.andThen_ok, fIx]
    cases AV.beq a x.1
    · simp only [Bool.false_eq_true, if_false, cond_false]
      exact findAsking_sound hs h3 fun e he => hf e (by simp [he])
    · simp
  | [], e :: es, i, h, _ => h.elim
  | x :: l, [], i, h, _ => h.elim

/-- A key of an array's or a struct's type. -/
theorem ktOf_flat {kt : TypeId} {ks : List IntKind} (h : ktOf P kt = .flat ks) : ∃ n, flatN P kt = some n ∧ n = ks.length ∧ ((∃ m e k, P.underlying kt = some (.array m e) ∧ P.underlying e = some (.int k) ∧ szOf P e = some 1 ∧ m = n) ∨
    (∃ fs : Array Field, P.underlying kt = some (.struct fs) ∧ intKinds P fs.toList = some ks ∧ fs.toList.zipIdx.all (flatF P) = true)) := by
  unfold ktOf at h
  split at h
  · cases h
  · cases h
  · cases h
  · rename_i n e hu
    split at h
    · rename_i m k h1 h2
      cases h
      have hf := h1
      unfold flatN at h1
      rw [hu] at h1
      simp only [h2, Bool.and_true] at h1
      cases hsz : szOf P e with
      | none => simp [hsz] at h1
      | some sz =>
        simp only [hsz] at h1
        cases hb : (!P.eqGuardType P.depth kt && Nat.beq sz 1)
        · simp [hb] at h1
        · simp only [hb, cond_true, Option.some.injEq] at h1
          simp only [Bool.and_eq_true] at hb
          have := Nat.eq_of_beq_eq_true hb.2
          subst this
          exact ⟨m, hf, by rw [List.length_replicate, h1], .inl ⟨n, e, k, hu, h2, hsz, h1⟩⟩
    · cases h
  · rename_i fs hu
    split at h
    · rename_i m l h1 h2
      cases h
      have hf := h1
      unfold flatN at h1
      rw [hu] at h1
      simp only at h1
      cases hb : (!P.stoodInHeld kt && !P.eqGuardType P.depth kt && fs.toList.zipIdx.all (flatF P))
      · rw [hb] at h1; cases h1
      · rw [hb] at h1
        simp only [cond_true, Option.some.injEq] at h1
        simp only [Bool.and_eq_true] at hb
        have hl : ∀ {fs : List Field} {l : List IntKind}, intKinds P fs = some l → fs.length = l.length := by
          intro fs
          induction fs with
          | nil => intro l h; simp only [intKinds, Option.some.injEq] at h; subst h; rfl
          | cons f r ih =>
            intro l h
            simp only [intKinds] at h
            split at h
            · rename_i h3
              cases h
              simp [ih h3]
            · cases h
        exact ⟨m, hf, by rw [← h1, ← Array.length_toList, hl h2], .inr ⟨fs, hu, h2, hb.2⟩⟩
    · cases h
  · cases h

theorem findKey_sound {kt : TypeId} {a : AV} {k : Value} (ha : keyFit (ktOf P kt) a = true) (hk : R σ a k) {l : List (AV × AV)} {es : List MapEntry} (he : EntsR σ l es) (hf : ∀ e ∈ l, keyFit (ktOf P kt) e.1 = true) (w : World) :
    (Instr.findKey kt k es).run P w = .ok (fIx a l es 0) w := by
  have now : ∀ {kd : TypeDesc}, P.underlying kt = some kd → ktOf P kt = (ktD kd) →
      (∀ (b : AV) (u : Value), R σ b u → keyFit (ktD kd) b = true → Instr.sameNow kd k u = some (AV.beq a b)) →
      (Instr.findKey kt k es).run P w = .ok (fIx a l es 0) w := fun {kd} hu hkt hs => by
    have := findNow_sound (i := 0) hk hs he (fun e h => by rw [← hkt]; exact hf e h)
    unfold Instr.findKey
    simp only [Sem.run_bind, run_underlying hu, Result.andThen_ok, this, Sem.run_pure]
  cases hu : P.underlying kt with
  | none => simp [ktOf, hu, keyFit] at ha
  | some kd =>
    cases kd
    case bool =>
      have hkt : ktOf P kt = .bool := by simp [ktOf, hu]
      rw [hkt] at ha
      cases a <;> simp only [keyFit] at ha <;> try (cases ha; done)
      refine now hu hkt fun b u hb hfb => ?_
      cases b <;> simp only [ktD, keyFit] at hfb <;> try (cases hfb; done)
      simp only [R] at hk hb
      subst hk hb
      rfl
    case int q =>
      have hkt : ktOf P kt = .int q := by simp [ktOf, hu]
      rw [hkt] at ha
      cases a <;> simp only [keyFit] at ha <;> try (cases ha; done)
      refine now hu hkt fun b u hb hfb => ?_
      cases b <;> simp only [ktD, keyFit] at hfb <;> try (cases hfb; done)
      simp only [decide_eq_true_eq] at ha hfb
      subst ha
      subst hfb
      simp only [R] at hk hb
      subst hk hb
      simp [Instr.sameNow, AV.beq]
    case string =>
      have hkt : ktOf P kt = .str := by simp [ktOf, hu]
      rw [hkt] at ha
      cases a <;> simp only [keyFit] at ha <;> try (cases ha; done)
      refine now hu hkt fun b u hb hfb => ?_
      cases b <;> simp only [ktD, keyFit] at hfb <;> try (cases hfb; done)
      simp only [R] at hk hb
      subst hk hb
      simp only [Instr.sameNow, AV.beq, beq_str]
    case array n e =>
      have wide : (match P.underlying kt with | some (.array _ _) | some (.struct _) => true | _ => false) = true := by rw [hu]
      rw [run_findKey_eq w wide]
      refine findAsking_sound (fun b u hb hfb => ?_) he hf
      cases hkt : ktOf P kt with
      | flat ks =>
        rw [hkt] at ha hfb
        cases a <;> simp only [keyFit] at ha <;> try (cases ha; done)
        cases b <;> simp only [keyFit] at hfb <;> try (cases hfb; done)
        rename_i xs ys
        obtain ⟨m, h1, h2, _⟩ := ktOf_flat hkt
        refine (abEq_sound (P := P) (w := w) (t := kt) (x := .ag xs) (y := .ag ys) ?_ ?_ hk hb).1
        · simp only [eqFits, hu, h1]
          rw [fitKs_len ha, h2, Nat.beq_refl]
        · simp only [abEq, agEq_fit ha hfb, AV.beq]
      | _ => rw [hkt] at ha; cases a <;> first | (simp [keyFit] at ha; done) | (exfalso; revert hkt; unfold ktOf; rw [hu]; simp only; split <;> simp)
    case struct fs =>
      have wide : (match P.underlying kt with | some (.array _ _) | some (.struct _) => true | _ => false) = true := by rw [hu]
      rw [run_findKey_eq w wide]
      refine findAsking_sound (fun b u hb hfb => ?_) he hf
      cases hkt : ktOf P kt with
      | flat ks =>
        rw [hkt] at ha hfb
        cases a <;> simp only [keyFit] at ha <;> try (cases ha; done)
        cases b <;> simp only [keyFit] at hfb <;> try (cases hfb; done)
        rename_i xs ys
        obtain ⟨m, h1, h2, _⟩ := ktOf_flat hkt
        refine (abEq_sound (P := P) (w := w) (t := kt) (x := .ag xs) (y := .ag ys) ?_ ?_ hk hb).1
        · simp only [eqFits, hu, h1]
          rw [fitKs_len ha, h2, Nat.beq_refl]
        · simp only [abEq, agEq_fit ha hfb, AV.beq]
      | _ => rw [hkt] at ha; cases a <;> first | (simp [keyFit] at ha; done) | (exfalso; revert hkt; unfold ktOf; rw [hu]; simp only; split <;> simp)
    all_goals (simp [ktOf, hu, keyFit] at ha; done)

theorem checkKey_int {t : TypeId} {k : IntKind} (hu : P.underlying t = some (.int k)) (em : Bool) (n : Nat) (v : Value) (w : World) : (Instr.checkKey em (n + 1) t v).run P w = .ok () w := by
  unfold Instr.checkKey
  simp only [Sem.run_bind, run_underlying hu, Result.andThen_ok]
  cases v <;> simp

theorem checkKey_sound {kt : TypeId} {a : AV} {k : Value} (ha : keyFit (ktOf P kt) a = true) (hk : R σ a k) (em : Bool) (w : World) : (Instr.checkKey em 10000 kt k).run P w = .ok () w := by
  show (Instr.checkKey em (9999 + 1) kt k).run P w = .ok () w
  have simple : ∀ {kd : TypeDesc}, P.underlying kt = some kd → (kd = .bool ∨ (∃ q, kd = .int q) ∨ kd = .string) → (Instr.checkKey em (9999 + 1) kt k).run P w = .ok () w := fun {kd} hu hd => by
    unfold Instr.checkKey
    simp only [Sem.run_bind, run_underlying hu, Result.andThen_ok]
    rcases hd with rfl | ⟨q, rfl⟩ | rfl <;> cases k <;> simp
  cases hu : P.underlying kt with
  | none => simp [ktOf, hu, keyFit] at ha
  | some kd =>
    cases kd
    case bool => exact simple hu (.inl rfl)
    case int q => exact simple hu (.inr (.inl ⟨q, rfl⟩))
    case string => exact simple hu (.inr (.inr rfl))
    case array n e =>
      cases hkt : ktOf P kt with
      | flat ks =>
        rw [hkt] at ha
        cases a <;> simp only [keyFit] at ha <;> try (cases ha; done)
        rename_i xs
        obtain ⟨m, h1, h2, h3⟩ := ktOf_flat hkt
        rcases h3 with ⟨m', e', k0, g1, g2, g3, g4⟩ | ⟨fs, g1, _⟩
        · rw [hu] at g1
          cases g1
          simp only [R] at hk
          obtain ⟨x, rfl, hx⟩ := hk
          have hlen : x.size = n := by
            have := hx.length
            rw [Array.length_toList] at this
            rw [this, fitKs_len ha, ← h2, g4]
          unfold Instr.checkKey
          simp only [Sem.run_bind, run_underlying hu, Result.andThen_ok]
          simp only [Std.Legacy.Range.forIn_eq_forIn_range', Std.Legacy.Range.size, Nat.sub_zero, Nat.add_one_sub_one, Nat.div_one]
          have each : ∀ j ∈ List.range' 0 n, j < x.size := fun j hj => by
            have := List.mem_range'_1.1 hj
            omega
          generalize List.range' 0 n = is at each
          have hagg : isAggT P e = some false := by simp [isAggT, g2]
          induction is with
          | nil => simp
          | cons j is ih =>
            have hj := each j (by simp)
            have hp : (part e x (j * 1)).run P w = .ok x[j] w := by
              unfold part
              simp [run_isAgg' hagg, hj]
            simp only [List.forIn_cons, Sem.run_bind, run_sizeOf' g3, Result.andThen_ok, hp, checkKey_int g2, Sem.run_pure]
            exact ih fun y hy => each y (by simp [hy])
        · rw [hu] at g1; cases g1
      | _ => rw [hkt] at ha; cases a <;> first | (simp [keyFit] at ha; done) | (exfalso; revert hkt; unfold ktOf; rw [hu]; simp only; split <;> simp)
    case struct fs =>
      cases hkt : ktOf P kt with
      | flat ks =>
        rw [hkt] at ha
        cases a <;> simp only [keyFit] at ha <;> try (cases ha; done)
        rename_i xs
        obtain ⟨m, h1, h2, h3⟩ := ktOf_flat hkt
        rcases h3 with ⟨m', e', k0, g1, g2, g3, g4⟩ | ⟨fs', g1, g2, g3⟩
        · rw [hu] at g1; cases g1
        · rw [hu] at g1
          cases g1
          simp only [R] at hk
          obtain ⟨x, rfl, hx⟩ := hk
          have hl : ∀ {fs : List Field} {l : List IntKind}, intKinds P fs = some l → fs.length = l.length := by
            intro fs
            induction fs with
            | nil => intro l h; simp only [intKinds, Option.some.injEq] at h; subst h; rfl
            | cons f r ih =>
              intro l h
              simp only [intKinds] at h
              split at h
              · rename_i h3
                cases h
                simp [ih h3]
              · cases h
          have hlen : x.size = fs.toList.length := by
            have := hx.length
            rw [Array.length_toList] at this
            rw [this, fitKs_len ha, hl g2]
          unfold Instr.checkKey
          simp only [Sem.run_bind, run_underlying hu, Result.andThen_ok]
          rw [← Array.forIn_toList]
          have each : ∀ (L : List Field) (i : Nat), i + L.length = x.size → (L.zipIdx i).all (flatF P) = true → (forIn L PUnit.unit (fun f (_ : PUnit) => (if f.name ≠ "_" then do
                let a ← part f.type x f.offset
                Instr.checkKey em 9999 f.type a
                pure (ForInStep.yield PUnit.unit)
              else pure (ForInStep.yield PUnit.unit) : Sem (ForInStep PUnit)))).run P w = .ok PUnit.unit w := by
            intro L
            induction L with
            | nil => intro i _ _; simp
            | cons f L ih =>
              intro i hi hL
              simp only [List.zipIdx_cons, List.all_cons, Bool.and_eq_true, flatF] at hL
              obtain ⟨⟨⟨q1, q2⟩, q3⟩, q4⟩ := hL
              have q1 : f.name ≠ "_" := by simpa using q1
              have q2 := Nat.eq_of_beq_eq_true q2
              split at q3
              · rename_i k2 hty
                have hagg : isAggT P f.type = some false := by simp [isAggT, hty]
                simp only [List.length_cons] at hi
                have hj : i < x.size := by omega
                have hp : (part f.type x f.offset).run P w = .ok x[i] w := by
                  rw [q2]
                  unfold part
                  simp [run_isAgg' hagg, hj]
                have hc := checkKey_int hty em 9998 x[i] w
                simp only [List.forIn_cons, Sem.run_bind, q1, ne_eq, not_false_eq_true, if_true, Result.andThen_ok, hp, hc, Sem.run_pure]
                exact ih (i + 1) (by omega) q4
              · cases q3
          have := each fs.toList 0 (by omega) g3
          rw [this]
          rfl
      | _ => rw [hkt] at ha; cases a <;> first | (simp [keyFit] at ha; done) | (exfalso; revert hkt; unfold ktOf; rw [hu]; simp only; split <;> simp)
    all_goals (simp [ktOf, hu, keyFit] at ha; done)

end
end Go.Abs

set_option linter.unusedSimpArgs false
set_option linter.unusedVariables false
namespace Go.Abs
open Go Go.RowKit

theorem lkL_cons {l : List (Nat × LoopA)} {i j : Nat} {b : LoopA} : lkL ((i, b) :: l) j = if j = i then some b else lkL l j := by
  by_cases e : i = j
  · subst e; simp [lkL]
  · rw [if_neg (fun h => e h.symm)]
    simp [lkL, nb e]

theorem lkL_setL : ∀ (l : List (Nat × LoopA)) (i : Nat) (b : LoopA) (j : Nat), lkL (setL l i b) j = if j = i then (if (lkL l i).isSome then some b else none) else lkL l j
  | [], i, b, j => by simp [setL, lkL]
  | (k, x) :: r, i, b, j => by
    by_cases hk : k = i
    · subst hk
      simp only [setL, Nat.beq_refl, cond_true, lkL_cons]
      by_cases hj : j = k
      · simp [hj]
      · simp [hj]
    · simp only [setL, nb hk, cond_false, lkL_cons, lkL_setL r i b j]
      by_cases hj : j = k
      · subst hj; simp [hk]
      · by_cases hji : j = i
        · subst hji; simp [hj]
        · simp [hj, hji]

/-- The world with another object in a block. -/
def World.setO (w : World) (b : Nat) (o : Obj) : World := { w with heap := w.heap.setIfInBounds b o }

theorem setO_size (w : World) (b : Nat) (o : Obj) : (World.setO w b o).heap.size = w.heap.size := by simp [World.setO]
theorem setO_same (w : World) (b : Nat) (o : Obj) (h : b < w.heap.size) : (World.setO w b o).heap[b]? = some o := by simp [World.setO, Array.getElem?_setIfInBounds_self_of_lt h]
theorem setO_other (w : World) (b k : Nat) (o : Obj) (h : k ≠ b) : (World.setO w b o).heap[k]? = w.heap[k]? := by simp [World.setO, Array.getElem?_setIfInBounds_ne (fun e => h e.symm)]

theorem map_ne_it {ents : List (AV × AV)} {m : Nat} {seen : List AV} : mapObj ents ≠ itObj m seen := fun h => by
  have := congrArg LoopA.st h
  simp [mapObj, itObj] at this

theorem itObj_inj {m m' : Nat} {s s' : List AV} (h : itObj m s = itObj m' s') : m = m' ∧ s = s' := ⟨congrArg LoopA.n h, congrArg LoopA.dat h⟩

theorem asMap_obj {ents : List (AV × AV)} : asMap (mapObj ents) = some ents := by
  simp only [asMap, mapObj, Nat.beq_refl, cond_true, List.map_map, Function.comp_def, Option.some.injEq]
  induction ents with
  | nil => rfl
  | cons x r ih => simp [ih]

theorem asIt_obj {m : Nat} {s : List AV} : asIt (itObj m s) = some (m, s) := rfl

theorem getM_of {h : Hp} {id : Nat} {ents : List (AV × AV)} (e : lkL h.loops id = some (mapObj ents)) : getM h id = some ents := by simp [getM, e, asMap_obj]

section
variable {P : Program} {base : Prot} {σ : Env} {w : World} {h : Hp}

/-- What stands for a map is a map. -/
theorem LPS.map {ls : List (Nat × LoopA)} (L : LPS σ base ls w) {id : Nat} {ents : List (AV × AV)} (hg : (lkL ls id).bind asMap = some ents) :
    lkL ls id = some (mapObj ents) ∧ ∃ c es clock, σ id = some c ∧ w.heap[c.blk]? = some (.map es clock) ∧ base.fr c.blk ∧ MapR σ ents es clock := by
  cases hl : lkL ls id with
  | none => simp [hl] at hg
  | some r =>
    rw [hl] at hg
    simp only [Option.bind_some] at hg
    obtain ⟨c, o, a1, a2, a3, a4⟩ := L.lps id r hl
    have h4 : r.st = 4 := by
      unfold asMap at hg
      cases hb : Nat.beq r.st 4
      · simp [hb] at hg
      · exact Nat.eq_of_beq_eq_true hb
    rcases a4 with ⟨h0, _⟩ | ⟨ents', es, clock, rfl, h2, h3⟩ | ⟨m, seen, mb, since, sn, last, rfl, _⟩ | ⟨rfl, _⟩
    · omega
    · rw [asMap_obj] at hg
      cases hg
      exact ⟨rfl, c, es, clock, a1, by rw [a2, h2], a3, h3⟩
    · simp [itObj] at h4
    · simp [deadObj] at h4

theorem LPS.it {ls : List (Nat × LoopA)} (L : LPS σ base ls w) {id m : Nat} {seen : List AV} (hg : (lkL ls id).bind asIt = some (m, seen)) :
    lkL ls id = some (itObj m seen) ∧ ∃ c cm since sn last, σ id = some c ∧ σ m = some cm ∧ w.heap[c.blk]? = some (.mapIter (some cm.blk) since sn last) ∧ base.fr c.blk ∧ c.off = 0 := by
  cases hl : lkL ls id with
  | none => simp [hl] at hg
  | some r =>
    rw [hl] at hg
    simp only [Option.bind_some] at hg
    obtain ⟨c, o, a1, a2, a3, a4⟩ := L.lps id r hl
    have h4 : r.st = 5 := by
      unfold asIt at hg
      cases hb : Nat.beq r.st 5
      · simp [hb] at hg
      · exact Nat.eq_of_beq_eq_true hb
    rcases a4 with ⟨h0, _⟩ | ⟨ents', es, clock, rfl, h2, h3⟩ | ⟨m', seen', mb, since, sn, last, rfl, h0, h2, h3⟩ | ⟨rfl, _⟩
    · omega
    · simp [mapObj] at h4
    · rw [asIt_obj] at hg
      cases hg
      exact ⟨rfl, c, mb, since, sn, last, a1, h2, by rw [a2, h3], a3, h0⟩
    · simp [deadObj] at h4

/-- An object more. -/
theorem HR.addObj (H : HR σ base h w) (hb : base.fit w.heap.size) {rc : LoopA} {o : Obj} (hO : ∀ τ, Ext σ τ → ObR τ ⟨w.heap.size, 0, 0⟩ rc o)
    (hit : ∀ m seen ents cm, rc = itObj m seen → lkL h.loops m = some (mapObj ents) → σ m = some cm → ∃ since sn last es clock, o = .mapIter (some cm.blk) since sn last ∧ w.heap[cm.blk]? = some (.map es clock) ∧ ItR σ ents seen since sn last es clock) :
    HR (upd σ h.next ⟨w.heap.size, 0, 0⟩) base { h with next := h.next + 1, loops := (h.next, rc) :: h.loops } (w.alloc o) ∧ Ext σ (upd σ h.next ⟨w.heap.size, 0, 0⟩) := by
  have hx : Ext σ (upd σ h.next ⟨w.heap.size, 0, 0⟩) := .upd _ (H.dom _ (Nat.le_refl _))
  have old : ∀ k, k < w.heap.size → (w.alloc o).heap[k]? = w.heap[k]? := fun k hk => Below.heap_alloc _ _ _ hk
  have σold : ∀ i c c', σ i = some c → upd σ h.next ⟨w.heap.size, 0, 0⟩ i = some c' → c' = c := fun i c c' h1 h2 => by
    rw [hx _ _ h1] at h2
    cases h2
    rfl
  have L := H.lps
  have has : ∀ l r, lkL h.loops l = some r → l ≠ h.next := fun l r hl e => by
    obtain ⟨c, _, a1, _⟩ := L.lps l r hl
    rw [e, H.dom _ (Nat.le_refl _)] at a1
    cases a1
  refine ⟨⟨fun i hi => ?_, H.srt, fun y hy => ?_, fun i d hd => ?_, fun i j d d' c c' hij hd hd' hc hc' hbk hw => ?_, fun l r hlr => ?_, fun l l' r r' c c' hne hl hl' hc hc' => ?_, fun l m seen ents c cm h1 h2 h3 h4 => ?_, L.glo.keep fun k hk => old k (L.glo.lt hk)⟩, hx⟩
  · have hi' : h.next + 1 ≤ i := hi
    rw [upd_other _ _ _ _ (by omega)]; exact H.dom i (by omega)
  · have := H.chn y hy
    exact ⟨this.1, Nat.lt_succ_of_lt this.2⟩
  · obtain ⟨c, cs, e, fz, a1, a2, a3, a4, a5, a6⟩ := H.cel i d hd
    refine ⟨c, cs, e, fz, hx _ _ a1, by rw [old _ (lt_of_heap a2)]; exact a2, a3, a4, fun j a ha => ?_, a6⟩
    obtain ⟨v, g1, g2⟩ := a5 j a ha
    exact ⟨v, g1, g2.ext hx⟩
  · obtain ⟨c1, _, _, _, a1, _⟩ := H.cel i d hd
    obtain ⟨c2, _, _, _, b1, _⟩ := H.cel j d' hd'
    obtain rfl := σold _ _ _ a1 hc
    obtain rfl := σold _ _ _ b1 hc'
    exact H.al i j d d' _ _ hij hd hd' a1 b1 hbk hw
  · have hlr' := hlr
    rw [lkL_cons] at hlr'
    split at hlr'
    · rename_i e
      subst e
      cases hlr'
      exact ⟨_, o, upd_same _ _ _, heap_alloc_new w _, hb.fr, hO _ hx⟩
    · obtain ⟨c, y, a1, a2, a3, a4⟩ := L.lps l r hlr'
      exact ⟨c, y, hx _ _ a1, by rw [old _ (lt_of_heap a2)]; exact a2, a3, a4.ext hx⟩
  · have g1 := hl
    have g2 := hl'
    rw [lkL_cons] at g1 g2
    split at g1
    · rename_i e
      subst e
      rw [if_neg (fun e => hne e.symm)] at g2
      obtain ⟨c2, _, b1, b2, _⟩ := L.lps l' r' g2
      obtain rfl := σold _ _ _ b1 hc'
      rw [upd_same] at hc
      cases hc
      have := lt_of_heap b2
      simp only
      omega
    · obtain ⟨c1, _, a1, a2, _⟩ := L.lps l r g1
      obtain rfl := σold _ _ _ a1 hc
      split at g2
      · rename_i e
        subst e
        rw [upd_same] at hc'
        cases hc'
        have := lt_of_heap a2
        simp only
        omega
      · obtain ⟨c2, _, b1, _⟩ := L.lps l' r' g2
        obtain rfl := σold _ _ _ b1 hc'
        exact L.lal l l' r r' _ _ hne g1 g2 a1 b1
  · rw [lkL_cons] at h1 h2
    split at h2
    · -- the map is new: no elder iterator knows it
      rename_i e
      subst e
      split at h1
      · rename_i e
        rw [h1] at h2
        exact absurd (Option.some.inj h2).symm map_ne_it
      · obtain ⟨c', o', a1, a2, a3, a4⟩ := L.lps l _ h1
        obtain ⟨mb, _, _, _, _, b1, _⟩ := a4.it
        rw [H.dom _ (Nat.le_refl _)] at b1
        cases b1
    · obtain ⟨c2, o2, b1, b2, b3, b4⟩ := L.lps m _ h2
      obtain rfl := σold _ _ _ b1 h4
      obtain ⟨es2, clock2, e1, e2⟩ := b4.map
      split at h1
      · rename_i e
        subst e
        have hrc := Option.some.inj h1
        obtain ⟨since, sn, last, es, clock, g1, g2, g3⟩ := hit m seen ents _ hrc h2 b1
        rw [upd_same] at h3
        cases h3
        exact ⟨since, sn, last, es, clock, by rw [heap_alloc_new w, g1], by rw [old _ (lt_of_heap g2)]; exact g2, g3.ext hx e2.keys⟩
      · obtain ⟨c1, _, a1, a2, _⟩ := L.lps l _ h1
        obtain rfl := σold _ _ _ a1 h3
        obtain ⟨since, sn, last, es, clock, g1, g2, g3⟩ := L.its l m seen ents _ _ h1 h2 a1 b1
        exact ⟨since, sn, last, es, clock, by rw [old _ (lt_of_heap g1)]; exact g1, by rw [old _ (lt_of_heap g2)]; exact g2, g3.ext hx e2.keys⟩

/-- An object turns. -/
theorem HR.setObj (H : HR σ base h w) {l : Nat} {r0 r : LoopA} (hl : lkL h.loops l = some r0) {c : Loc} (hc : σ l = some c) {o0 o : Obj} (hg : w.heap[c.blk]? = some o0) (hO : ObR σ c r o) {ls : List (Nat × LoopA)}
    (hk : (∀ d, o0 ≠ .deferred d)) (hlo : ∀ x, o0 = .loop x → ∃ y, o = .loop y)
    (hls : ∀ j r', lkL ls j = some r' → (j ≠ l ∧ lkL h.loops j = some r') ∨ (j = l ∧ r' = r) ∨ (j ≠ l ∧ r' = deadObj ∧ ∃ m seen, lkL h.loops j = some (itObj m seen)))
    (h1 : ∀ i seen ents ci, r = mapObj ents → i ≠ l → lkL ls i = some (itObj l seen) → σ i = some ci → ∃ since sn last es clock, w.heap[ci.blk]? = some (.mapIter (some c.blk) since sn last) ∧ o = .map es clock ∧ ItR σ ents seen since sn last es clock)
    (h2 : ∀ m seen ents cm, r = itObj m seen → m ≠ l → lkL ls m = some (mapObj ents) → σ m = some cm → ∃ since sn last es clock, o = .mapIter (some cm.blk) since sn last ∧ w.heap[cm.blk]? = some (.map es clock) ∧ ItR σ ents seen since sn last es clock) :
    HR σ base { h with loops := ls } (World.setO w c.blk o) ∧ Fw base w (World.setO w c.blk o) := by
  have L := H.lps
  obtain ⟨c0, x0, b1, b2, b3, b4⟩ := L.lps l r0 hl
  rw [hc] at b1
  cases b1
  rw [hg] at b2
  cases b2
  have hlt := lt_of_heap hg
  have away : ∀ j r' c', j ≠ l → lkL h.loops j = some r' → σ j = some c' → c'.blk ≠ c.blk := fun j r' c' hj h1 h2 => L.lal j l r' r0 c' c hj h1 hl h2 hc
  have has : ∀ j r', lkL ls j = some r' → ∃ q, lkL h.loops j = some q := fun j r' hj => by
    rcases hls j r' hj with ⟨_, h⟩ | ⟨rfl, _⟩ | ⟨_, _, m, seen, h⟩
    · exact ⟨_, h⟩
    · exact ⟨_, hl⟩
    · exact ⟨_, h⟩
  refine ⟨⟨H.dom, H.srt, H.chn, fun i d hd => ?_, H.al, fun j r' hj => ?_, fun j j' r1 r2 c1 c2 hne g1 g2 hc1 hc2 => ?_, fun i m seen ents ci cm g1 g2 g3 g4 => ?_, L.glo.keep fun k hk => setO_other _ _ _ _ (fun e => b3 (e ▸ base.gl k hk))⟩,
    ⟨rfl, rfl, rfl, by rw [setO_size]; exact Nat.le_refl _, fun k hk => setO_other _ _ _ _ (fun e => b3 (e ▸ hk))⟩, fun k ds hkk => ?_, fun k z hkk => ?_⟩
  · obtain ⟨c1, cs, e, fz, a1, a2, a3⟩ := H.cel i d hd
    exact ⟨c1, cs, e, fz, a1, by rw [setO_other _ _ _ _ (fun e => by rw [e, hg] at a2; cases a2; exact b4.kind.1 _ _ _ rfl)]; exact a2, a3⟩
  · rcases hls j r' hj with ⟨g1, g2⟩ | ⟨rfl, rfl⟩ | ⟨g1, rfl, m, seen, g2⟩
    · obtain ⟨c1, x1, a1, a2, a3, a4⟩ := L.lps j r' g2
      exact ⟨c1, x1, a1, by rw [setO_other _ _ _ _ (away j r' c1 g1 g2 a1)]; exact a2, a3, a4⟩
    · exact ⟨c, o, hc, setO_same _ _ _ hlt, b3, hO⟩
    · obtain ⟨c1, x1, a1, a2, a3, a4⟩ := L.lps j _ g2
      obtain ⟨mb, since, sn, last, _, _, rfl⟩ := a4.it
      exact ⟨c1, _, a1, by rw [setO_other _ _ _ _ (away j _ c1 g1 g2 a1)]; exact a2, a3, .inr (.inr (.inr ⟨rfl, _, _, _, _, rfl⟩))⟩
  · obtain ⟨q1, g1⟩ := has _ _ g1
    obtain ⟨q2, g2⟩ := has _ _ g2
    exact L.lal j j' q1 q2 c1 c2 hne g1 g2 hc1 hc2
  · have nd : ∀ m seen, itObj m seen ≠ deadObj := fun m seen e => by have := congrArg LoopA.st e; simp [itObj, deadObj] at this
    have nd' : ∀ ents, mapObj ents ≠ deadObj := fun ents e => by have := congrArg LoopA.st e; simp [mapObj, deadObj] at this
    rcases hls i _ g1 with ⟨e1, e2⟩ | ⟨rfl, e2⟩ | ⟨_, e2, _⟩
    rotate_left 2
    · exact absurd e2 (nd _ _)
    · rcases hls m _ g2 with ⟨e3, e4⟩ | ⟨rfl, e4⟩ | ⟨_, e4, _⟩
      rotate_left 2
      · exact absurd e4 (nd' _)
      · obtain ⟨since, sn, last, es, clock, q1, q2, q3⟩ := L.its i m seen ents ci cm e2 e4 g3 g4
        exact ⟨since, sn, last, es, clock, by rw [setO_other _ _ _ _ (away i _ ci e1 e2 g3)]; exact q1, by rw [setO_other _ _ _ _ (away m _ cm e3 e4 g4)]; exact q2, q3⟩
      · rw [hc] at g4
        cases g4
        obtain ⟨since, sn, last, es, clock, q1, q2, q3⟩ := h1 i seen ents ci e4.symm e1 g1 g3
        exact ⟨since, sn, last, es, clock, by rw [setO_other _ _ _ _ (away i _ ci e1 e2 g3)]; exact q1, by rw [setO_same _ _ _ hlt, q2], q3⟩
    · rw [hc] at g3
      cases g3
      rcases hls m _ g2 with ⟨e3, e4⟩ | ⟨rfl, e4⟩ | ⟨_, e4, _⟩
      rotate_left 2
      · exact absurd e4 (nd' _)
      · obtain ⟨since, sn, last, es, clock, q1, q2, q3⟩ := h2 m seen ents cm e2.symm e3 g2 g4
        exact ⟨since, sn, last, es, clock, by rw [setO_same _ _ _ hlt, q1], by rw [setO_other _ _ _ _ (away m _ cm e3 e4 g4)]; exact q2, q3⟩
      · rw [← e2] at e4
        exact absurd e4 map_ne_it
  · rw [setO_other _ _ _ _ (fun e => by rw [e, hg] at hkk; cases hkk; exact hk _ rfl)]
    exact hkk
  · by_cases e : k = c.blk
    · subst e
      rw [hg] at hkk
      obtain ⟨y, rfl⟩ := hlo z (Option.some.inj hkk)
      exact ⟨y, setO_same _ _ _ hlt⟩
    · exact ⟨z, by rw [setO_other _ _ _ _ e]; exact hkk⟩

/-! ### Entries -/
theorem EntsR.mem {l : List (AV × AV)} {es : List MapEntry} (h : EntsR σ l es) : ∀ e ∈ es, ∃ a ∈ l, R σ a.1 e.key ∧ R σ a.2 e.val := by
  induction l generalizing es with
  | nil => cases es with | nil => intro e he; simp at he | cons => exact h.elim
  | cons x r ih =>
    cases es with
    | nil => exact h.elim
    | cons y es =>
      intro e he
      rcases List.mem_cons.1 he with rfl | he
      · exact ⟨x, by simp, h.1, h.2.1⟩
      · obtain ⟨a, h1, h2⟩ := ih h.2.2 e he
        exact ⟨a, by simp [h1], h2⟩

theorem EntsR.mem' {l : List (AV × AV)} {es : List MapEntry} (h : EntsR σ l es) : ∀ a ∈ l, ∃ e ∈ es, R σ a.1 e.key ∧ R σ a.2 e.val := by
  induction l generalizing es with
  | nil => intro a ha; simp at ha
  | cons x r ih =>
    cases es with
    | nil => exact h.elim
    | cons y es =>
      intro a ha
      rcases List.mem_cons.1 ha with rfl | ha
      · exact ⟨y, by simp, h.1, h.2.1⟩
      · obtain ⟨e, h1, h2⟩ := ih h.2.2 a ha
        exact ⟨e, by simp [h1], h2⟩

theorem EntsR.length {l : List (AV × AV)} {es : List MapEntry} (h : EntsR σ l es) : l.length = es.length := by
  induction l generalizing es with
  | nil => cases es with | nil => rfl | cons => exact h.elim
  | cons x r ih => cases es with | nil => exact h.elim | cons y es => simp [ih h.2.2]

theorem EntsR.app {l m : List (AV × AV)} {es fs : List MapEntry} (h : EntsR σ l es) (h' : EntsR σ m fs) : EntsR σ (l ++ m) (es ++ fs) := by
  induction l generalizing es with
  | nil => cases es with | nil => exact h' | cons => exact h.elim
  | cons x r ih => cases es with | nil => exact h.elim | cons y es => exact ⟨h.1, h.2.1, ih h.2.2⟩

def putF (a v : AV) (e : AV × AV) : AV × AV := bif AV.beq a e.1 then (e.1, v) else e

theorem map_putF_miss {a v : AV} {l : List (AV × AV)} (h : a ∉ l.map (·.1)) : l.map (putF a v) = l := by
  induction l with
  | nil => rfl
  | cons x r ih =>
    simp only [List.map_cons, List.mem_cons, not_or] at h
    have : AV.beq a x.1 = false := by
      cases hb : AV.beq a x.1
      · rfl
      · exact absurd (AV.beq_eq hb) h.1
    simp [putF, this, ih h.2]

theorem filter_miss {a : AV} {l : List (AV × AV)} (h : a ∉ l.map (·.1)) : l.filter (fun e => !AV.beq a e.1) = l := by
  induction l with
  | nil => rfl
  | cons x r ih =>
    simp only [List.map_cons, List.mem_cons, not_or] at h
    have : AV.beq a x.1 = false := by
      cases hb : AV.beq a x.1
      · rfl
      · exact absurd (AV.beq_eq hb) h.1
    rw [List.filter_cons, this, ih h.2]
    rfl

theorem EntsR.put {a v : AV} {k u x : Value} (hk : R σ a k) (hv : R σ v u) : ∀ {l : List (AV × AV)} {es : List MapEntry} {i j : Nat}, EntsR σ l es → (l.map (·.1)).Nodup → fIx a l es i = some (i + j, x) →
    EntsR σ (l.map (putF a v)) (es.modify j fun e => { e with key := k, val := u })
  | [], es, i, j, h, _, hf => by simp [fIx] at hf
  | y :: l, [], i, j, h, _, hf => h.elim
  | y :: l, e :: es, i, j, ⟨h1, h2, h3⟩, hn, hf => by
    simp only [List.map_cons, List.nodup_cons] at hn
    simp only [fIx] at hf
    cases hb : AV.beq a y.1
    · simp only [hb, cond_false] at hf
      have hj : ∃ j', j = j' + 1 := by
        cases j with
        | succ j' => exact ⟨j', rfl⟩
        | zero =>
          exfalso
          have : ∀ {l : List (AV × AV)} {es : List MapEntry} {i q : Nat} {x : Value}, fIx a l es i = some (q, x) → i ≤ q := by
            intro l
            induction l with
            | nil => intro es i q x h; simp [fIx] at h
            | cons z l ih =>
              intro es i q x h
              cases es with
              | nil => simp [fIx] at h
              | cons f es =>
                simp only [fIx] at h
                cases hz : AV.beq a z.1
                · simp only [hz, cond_false] at h
                  have := ih h
                  omega
                · simp only [hz, cond_true, Option.some.injEq, Prod.mk.injEq] at h
                  omega
          have := this hf
          omega
      obtain ⟨j', rfl⟩ := hj
      have hf' : fIx a l es (i + 1) = some (i + 1 + j', x) := by rw [hf]; congr 2; omega
      have ih := EntsR.put hk hv h3 hn.2 hf'
      simp only [List.map_cons, putF, hb, cond_false, List.modify_succ_cons]
      exact ⟨h1, h2, ih⟩
    · simp only [hb, cond_true, Option.some.injEq, Prod.mk.injEq] at hf
      obtain ⟨e1, rfl⟩ := hf
      have : j = 0 := by omega
      subst this
      have e2 := AV.beq_eq hb
      subst e2
      simp only [List.map_cons, putF, hb, cond_true, List.modify_zero_cons]
      refine ⟨hk, hv, ?_⟩
      have := map_putF_miss (v := v) hn.1
      rw [this]
      exact h3

theorem EntsR.del {a : AV} {x : Value} : ∀ {l : List (AV × AV)} {es : List MapEntry} {i j : Nat}, EntsR σ l es → (l.map (·.1)).Nodup → fIx a l es i = some (i + j, x) →
    EntsR σ (l.filter fun e => !AV.beq a e.1) (es.eraseIdx j)
  | [], es, i, j, h, _, hf => by simp [fIx] at hf
  | y :: l, [], i, j, h, _, hf => h.elim
  | y :: l, e :: es, i, j, ⟨h1, h2, h3⟩, hn, hf => by
    simp only [List.map_cons, List.nodup_cons] at hn
    simp only [fIx] at hf
    cases hb : AV.beq a y.1
    · simp only [hb, cond_false] at hf
      have hj : ∃ j', j = j' + 1 := by
        cases j with
        | succ j' => exact ⟨j', rfl⟩
        | zero =>
          exfalso
          have : ∀ {l : List (AV × AV)} {es : List MapEntry} {i q : Nat} {x : Value}, fIx a l es i = some (q, x) → i ≤ q := by
            intro l
            induction l with
            | nil => intro es i q x h; simp [fIx] at h
            | cons z l ih =>
              intro es i q x h
              cases es with
              | nil => simp [fIx] at h
              | cons f es =>
                simp only [fIx] at h
                cases hz : AV.beq a z.1
                · simp only [hz, cond_false] at h
                  have := ih h
                  omega
                · simp only [hz, cond_true, Option.some.injEq, Prod.mk.injEq] at h
                  omega
          have := this hf
          omega
      obtain ⟨j', rfl⟩ := hj
      have hf' : fIx a l es (i + 1) = some (i + 1 + j', x) := by rw [hf]; congr 2; omega
      have ih := EntsR.del h3 hn.2 hf'
      rw [List.filter_cons, hb]
      exact ⟨h1, h2, ih⟩
    · simp only [hb, cond_true, Option.some.injEq, Prod.mk.injEq] at hf
      obtain ⟨e1, rfl⟩ := hf
      have : j = 0 := by omega
      subst this
      have e2 := AV.beq_eq hb
      subst e2
      rw [List.filter_cons, hb]
      simp only [Bool.not_true, Bool.false_eq_true, if_false, List.eraseIdx_zero, List.tail_cons]
      rw [filter_miss hn.1]
      exact h3

theorem hasK_iff {a : AV} {ents : List (AV × AV)} (hp : plainKey a = true) : hasK a ents = true ↔ a ∈ ents.map (·.1) := by
  unfold hasK
  rw [List.any_eq_true, List.mem_map]
  constructor
  · rintro ⟨e, h1, h2⟩
    exact ⟨e, h1, (AV.beq_eq h2).symm⟩
  · rintro ⟨e, h1, rfl⟩
    exact ⟨e, h1, (beq_plain hp).2 rfl⟩

theorem valK_some {a v : AV} {ents : List (AV × AV)} (hn : (ents.map (·.1)).Nodup) (hp : plainKey a = true) (h : (a, v) ∈ ents) : valK a ents = some v := by
  unfold valK
  induction ents with
  | nil => simp at h
  | cons x r ih =>
    simp only [List.map_cons, List.nodup_cons] at hn
    rcases List.mem_cons.1 h with rfl | h
    · simp [(beq_plain hp).2]
    · have : AV.beq a x.1 = false := (beq_ne hp).2 fun e => hn.1 (by rw [← e]; exact List.mem_map.2 ⟨(a, v), h, rfl⟩)
      rw [List.find?_cons, this]
      exact ih hn.2 h

theorem valK_none {a : AV} {ents : List (AV × AV)} (h : a ∉ ents.map (·.1)) : valK a ents = none := by
  unfold valK
  rw [Option.map_eq_none_iff, List.find?_eq_none]
  intro x hx hb
  exact h (List.mem_map.2 ⟨x, hx, (AV.beq_eq hb).symm⟩)

/-- What is at a key. -/
theorem MapR.find {ents : List (AV × AV)} {es : Array MapEntry} {clock : Nat} (M : MapR σ ents es clock) {kt : TypeId} {a : AV} {k : Value} (ha : keyFit (ktOf P kt) a = true) (hk : R σ a k)
    (hf : ∀ e ∈ ents, keyFit (ktOf P kt) e.1 = true) (w : World) :
    (hasK a ents = false ∧ valK a ents = none ∧ (Instr.findKey kt k es.toList).run P w = .ok none w) ∨
    ∃ j e v l, hasK a ents = true ∧ valK a ents = some v ∧ (a, v) ∈ ents ∧ (Instr.findKey kt k es.toList).run P w = .ok (some (j, e.val)) w ∧ es[j]? = some e ∧ e.key = k ∧ R σ v e.val ∧
      l.Perm ents ∧ EntsR σ l es.toList ∧ fIx a l es.toList 0 = some (0 + j, e.val) := by
  obtain ⟨l, hp, he⟩ := M.ents
  have hpl := keyFit_plain ha
  have hn : (l.map (·.1)).Nodup := (hp.map _).nodup_iff.2 M.nodup
  have run := findKey_sound (P := P) ha hk he (fun e h => hf e (hp.mem_iff.1 h)) w
  rcases fIx_spec (i := 0) hpl he hn with ⟨g1, g2⟩ | ⟨j, e, v, g1, g2, g3, g4, g5⟩
  · left
    have hm : a ∉ ents.map (·.1) := fun h => g2 ((hp.map _).mem_iff.2 h)
    refine ⟨?_, valK_none hm, by rw [run, g1]⟩
    cases hh : hasK a ents
    · rfl
    · exact absurd ((hasK_iff hpl).1 hh) hm
  · right
    have hmem : (a, v) ∈ ents := hp.mem_iff.1 (List.mem_of_getElem? g3)
    refine ⟨j, e, v, l, (hasK_iff hpl).2 (List.mem_map.2 ⟨_, hmem, rfl⟩), valK_some M.nodup hpl hmem, hmem, by rw [run, g1, Nat.zero_add], by simpa using g2, R_plain hpl g4 hk, g5, hp, he, g1⟩

end
end Go.Abs

set_option linter.unusedSimpArgs false
set_option linter.unusedVariables false
namespace Go.Abs
open Go Go.RowKit

section
variable {P : Program} {base : Prot} {σ : Env} {w : World} {h : Hp}

theorem R_mp {id : Nat} {u : Value} {c : Loc} (h : R σ (.mp id) u) (hc : σ id = some c) : u = .map (some c.blk) := by
  simp only [R] at h
  obtain ⟨c', h1, h2⟩ := h
  rw [hc] at h1
  cases h1
  exact h2

theorem zeroAV_spec {t : TypeId} {z : AV} (hz : zeroAV P t = some z) : ∃ v, (∀ w, (zeroValue t).run P w = .ok v w) ∧ ∀ σ, R σ z v := by
  unfold zeroAV at hz
  cases hi : P.info? t with
  | none => simp [hi] at hz
  | some i =>
    cases hv : i.zero with
    | none => simp [hi, hv] at hz
    | some v =>
      simp only [hi, hv, Option.bind_some, Option.map_some, Option.some.injEq] at hz
      subst hz
      exact ⟨v, fun w => run_zeroValue' hi hv w, fun σ => R_ofV σ v⟩

theorem R_pair {x : AV} {v : Value} {b : Bool} (h : R σ x v) : R σ (.tu [x, .bool b]) (.tuple #[v, .bool b]) := by
  simp only [R]
  refine ⟨_, rfl, ?_⟩
  simp only [Rs, R]
  exact ⟨v, _, rfl, h, _, _, rfl, rfl, rfl⟩

theorem lookup_sound (H : HR σ base h w) {t k e : TypeId} (hu : P.underlying t = some (.map k e)) {z : AV} (hz : zeroAV P e = some z) {ok : Bool} {a m v : AV} {h' : Hp} (hs : aLkp (ktOf P k) z ok h a m = some (v, h')) {ua um : Value}
    (ha : R σ a ua) (hm : R σ m um) : OkV P base σ w (Instr.lookup t um ua ok) v h' := by
  obtain ⟨zv, hz1, hz2⟩ := zeroAV_spec hz
  cases m <;> simp only [aLkp] at hs <;> try (cases hs; done)
  case nilmp =>
    simp only [R] at hm
    subst hm
    cases hf : keyFit (ktOf P k) a
    · simp [hf] at hs
    · simp only [hf, cond_true, Option.some.injEq, Prod.mk.injEq] at hs
      obtain ⟨rfl, rfl⟩ := hs
      have hc := checkKey_sound (P := P) hf ha true w
      have hfind := findKey_sound (P := P) hf ha (l := []) (es := []) trivial (fun e he => by simp at he) w
      refine .pure H (u := if ok then .tuple #[zv, .bool false] else zv) ?_ ?_
      · unfold Instr.lookup
        simp only [Sem.run_bind, run_underlying hu, Result.andThen_ok, Sem.run_pure]
        have e1 : (#[] : Array MapEntry).isEmpty = true := rfl
        rw [e1, hc]
        simp only [Result.andThen_ok]
        rw [hfind]
        simp only [fIx, Result.andThen_ok, Sem.run_bind, hz1, Sem.run_pure]
      · cases ok
        · exact hz2 σ
        · exact R_pair (hz2 σ)
  case mp id =>
    split at hs
    · rename_i ents hg
      cases hf : (keyFit (ktOf P k) a && ents.all fun e => keyFit (ktOf P k) e.1)
      · simp [hf] at hs
      · simp only [hf, cond_true, Option.some.injEq, Prod.mk.injEq] at hs
        obtain ⟨rfl, rfl⟩ := hs
        simp only [Bool.and_eq_true, List.all_eq_true] at hf
        obtain ⟨hl, c, es, clock, c1, c2, c3, M⟩ := H.lps.map hg
        rw [R_mp hm c1]
        have hc := checkKey_sound (P := P) hf.1 ha es.isEmpty w
        have hob : (getObj c.blk).run P w = .ok (.map es clock) w := by simp [getObj, Sem.run, c2]
        rcases M.find hf.1 ha hf.2 w with ⟨g1, g2, g3⟩ | ⟨j, e', v, l, g1, g2, g3, g4, g5, g6, g7, _⟩
        · refine .pure H (u := if ok then .tuple #[zv, .bool false] else zv) ?_ ?_
          · unfold Instr.lookup
            simp only [Sem.run_bind, run_underlying hu, Result.andThen_ok, Sem.run_pure, hob, hc, g3, hz1]
          · rw [g2]
            cases ok
            · exact hz2 σ
            · exact R_pair (hz2 σ)
        · refine .pure H (u := if ok then .tuple #[e'.val, .bool true] else e'.val) ?_ ?_
          · unfold Instr.lookup
            simp only [Sem.run_bind, run_underlying hu, Result.andThen_ok, Sem.run_pure, hob, hc, g4]
          · rw [g2]
            cases ok
            · exact g7
            · exact R_pair g7
    · cases hs

theorem makeMap_sound (H : HR σ base h w) (hb : base.fit w.heap.size) {t : TypeId} {r : Option Value} {k e : TypeId} (hu : P.underlying t = some (.map k e)) (hr : ∀ v, r = some v → ∃ q n, v = .int q n) :
    OkV P base σ w (Instr.makeMap t r) (.mp h.next) { h with next := h.next + 1, loops := (h.next, mapObj []) :: h.loops } := by
  obtain ⟨k1, k2⟩ := H.addObj hb (rc := mapObj []) (o := .map #[] 0)
    (fun τ _ => .inr (.inl ⟨[], #[], 0, rfl, rfl, ⟨fun e he => by simp at he, by simp, by simp, fun e he => by simp at he, [], .refl _, trivial⟩⟩))
    (fun m seen ents cm e => absurd e map_ne_it)
  refine ⟨.map (some w.heap.size), _, _, ?_, ?_, k2, k1, Fw.alloc hb _⟩
  · unfold Instr.makeMap
    cases r with
    | none => simp [Sem.run_bind, newObj, Sem.run]
    | some v =>
      obtain ⟨q, n, rfl⟩ := hr v rfl
      simp [Sem.run_bind, newObj, Sem.run, run_underlying hu, asInt, asIntOf, Result.andThen]
  · simp only [R]
    exact ⟨_, upd_same _ _ _, rfl⟩

theorem range_sound (H : HR σ base h w) (hb : base.fit w.heap.size) {t k e : TypeId} (hu : P.underlying t = some (.map k e)) {m v : AV} {h' : Hp} (hs : aRng h m = some (v, h')) {um : Value} (hm : R σ m um) :
    OkV P base σ w (Instr.range t um) v h' := by
  cases m <;> simp only [aRng] at hs <;> try (cases hs; done)
  rename_i id
  split at hs
  · rename_i ents hg
    cases hs
    obtain ⟨hl, c, es, clock, c1, c2, c3, M⟩ := H.lps.map hg
    rw [R_mp hm c1]
    obtain ⟨k1, k2⟩ := H.addObj hb (rc := itObj id []) (o := .mapIter (some c.blk) clock #[] clock)
      (fun τ hx => .inr (.inr (.inl ⟨id, [], c, clock, #[], clock, rfl, rfl, hx _ _ c1, rfl⟩)))
      (fun m seen ents' cm e h1 h2 => by
        obtain ⟨rfl, rfl⟩ := itObj_inj e
        rw [c1] at h2
        cases h2
        exact ⟨clock, #[], clock, es, clock, rfl, c2, ⟨rfl, rfl, fun e he a ha hr => by simp, fun x r hr => by cases hr⟩⟩)
    refine ⟨.pointer (some ⟨w.heap.size, 0, none⟩), _, _, run_range_map w t k e c.blk es clock hu c2, ?_, k2, k1, Fw.alloc hb _⟩
    simp only [R]
    exact ⟨_, upd_same _ _ _, rfl⟩
  · cases hs

theorem len_sound (H : HR σ base h w) {ts : Array TypeId} {t k e : TypeId} (h0 : ts[0]? = some t) (hu : P.underlying t = some (.map k e)) {m v : AV} {h' : Hp} (hs : aLenM h m = some (v, h')) {um : Value} (hm : R σ m um) (ty : TypeId) :
    OkV P base σ w (Builtin.len_ ts ty #[um]) v h' := by
  cases m <;> simp only [aLenM] at hs <;> try (cases hs; done)
  case nilmp =>
    cases hs
    simp only [R] at hm
    subst hm
    exact .pure H (u := .int .i64 0) (by simp [Builtin.len_, h0, run_underlying hu, goInt]) (by simp [R])
  case mp id =>
    cases hg : getM h id with
    | none => simp [hg] at hs
    | some ents =>
      simp only [hg, Option.map_some, Option.some.injEq, Prod.mk.injEq] at hs
      obtain ⟨rfl, rfl⟩ := hs
      obtain ⟨hl, c, es, clock, c1, c2, c3, M⟩ := H.lps.map hg
      rw [R_mp hm c1]
      obtain ⟨l, hp, he⟩ := M.ents
      have hlen : es.size = ents.length := by
        rw [← Array.length_toList, ← he.length, hp.length_eq]
      have hob : (getObj c.blk).run P w = .ok (.map es clock) w := by simp [getObj, Sem.run, c2]
      exact .pure H (u := .int .i64 ents.length) (by simp [Builtin.len_, h0, run_underlying hu, goInt, hob, hlen]) (by simp [R])

theorem entry_sound (H : HR σ base h w) {x v : AV} {h' : Hp} (hs : aEnt h x = some (v, h')) {u : Value} (hx : R σ x u) : OkV P base σ w (Instr.entry u) v h' := by
  unfold aEnt at hs
  split at hs
  · rename_i i
    split at hs
    · rename_i m a r hit
      split at hs
      · rename_i ents hg
        cases hv : valK a ents with
        | none => simp [hv] at hs
        | some y =>
          simp only [hv, Option.map_some, Option.some.injEq, Prod.mk.injEq] at hs
          obtain ⟨rfl, rfl⟩ := hs
          obtain ⟨hl, c, es, clock, c1, c2, c3, M⟩ := H.lps.map hg
          obtain ⟨hli, ci, cm, since, sn, last, d1, d2, d3, d4, d5⟩ := H.lps.it hit
          rw [c1] at d2
          cases d2
          obtain ⟨since', sn', last', es', clock', q1, q2, I⟩ := H.lps.its i m (a :: r) ents ci c hli hl d1 c1
          rw [d3] at q1
          cases q1
          rw [c2] at q2
          cases q2
          obtain ⟨stamp, s1, s2⟩ := I.top a r rfl
          simp only [R] at hx
          obtain ⟨c', e1, rfl⟩ := hx
          rw [d1] at e1
          cases e1
          -- the entry
          have hmem : (a, y) ∈ ents := by
            unfold valK at hv
            rw [Option.map_eq_some_iff] at hv
            obtain ⟨p, hp1, hp2⟩ := hv
            have := List.mem_of_find?_eq_some hp1
            have hb := List.find?_some hp1
            have := AV.beq_eq hb
            rw [this, ← hp2]
            exact List.mem_of_find?_eq_some hp1
          obtain ⟨l, hp, he⟩ := M.ents
          obtain ⟨en, en1, en2, en3⟩ := he.mem' (a, y) (hp.mem_iff.2 hmem)
          have hst : en.born = stamp := (s2 en en1 (a, y) hmem en2).2 rfl
          have hf : es.find? (·.born == stamp) = some en := by
            rw [← Array.find?_toList, ← hst]
            exact find_born en es.toList M.born en1
          have hob : (getObj ci.blk).run P w = .ok (.mapIter (some c.blk) since sn last) w := by simp [getObj, Sem.run, d3]
          have hom : (getObj c.blk).run P w = .ok (.map es clock) w := by simp [getObj, Sem.run, c2]
          have hcl : (clock != last) = false := by rw [I.elast]; simp
          refine .pure H (u := .tuple #[en.key, en.val]) ?_ ?_
          · have hp : (Value.pointer (some ⟨ci.blk, ci.off + 0, none⟩)) = .pointer (some ⟨ci.blk, 0, none⟩) := by rw [d5]
            rw [hp]
            simp only [Instr.entry, Sem.run_bind, hob, Result.andThen_ok, s1, hom, hcl, Bool.false_eq_true, if_false, hf, Sem.run_pure]
          · simp only [R]
            refine ⟨_, rfl, ?_⟩
            simp only [Rs]
            exact ⟨_, _, rfl, en2, _, _, rfl, en3, rfl⟩
      · cases hs
    · cases hs
  · cases hs

theorem lkL_dropIts {m : Nat} : ∀ {ls : List (Nat × LoopA)} {i : Nat}, lkL (dropIts m ls) i = (lkL ls i).map (dropF m)
  | [], i => by simp [dropIts, lkL]
  | (j, b) :: ls, i => by
    simp only [dropIts, lkL_cons]
    split
    · rfl
    · exact lkL_dropIts

end
end Go.Abs

set_option linter.unusedSimpArgs false
set_option linter.unusedVariables false
namespace Go.Abs
open Go Go.RowKit

section
variable {P : Program} {base : Prot} {σ : Env} {w : World} {h : Hp}

theorem putF_fst {a v : AV} {e : AV × AV} : (putF a v e).1 = e.1 := by
  unfold putF
  cases AV.beq a e.1 <;> rfl

theorem map_putF_fst {a v : AV} {l : List (AV × AV)} : (l.map (putF a v)).map (·.1) = l.map (·.1) := by
  rw [List.map_map]
  exact List.map_congr_left fun e _ => putF_fst

theorem putK_hit {a v : AV} {ents : List (AV × AV)} (h : hasK a ents = true) : putK a v ents = ents.map (putF a v) := by
  unfold putK
  rw [h]
  rfl

theorem putK_miss {a v : AV} {ents : List (AV × AV)} (h : hasK a ents = false) : putK a v ents = (a, v) :: ents := by
  unfold putK
  rw [h]
  rfl

theorem mem_modify {es : List MapEntry} {f : MapEntry → MapEntry} : ∀ {j : Nat} {x : MapEntry}, x ∈ es.modify j f → x ∈ es ∨ ∃ e, es[j]? = some e ∧ x = f e := by
  induction es with
  | nil => intro j x h; cases j <;> simp at h
  | cons y r ih =>
    intro j x h
    cases j with
    | zero =>
      rw [List.modify_zero_cons] at h
      rcases List.mem_cons.1 h with rfl | h
      · exact .inr ⟨y, rfl, rfl⟩
      · exact .inl (by simp [h])
    | succ j =>
      rw [List.modify_succ_cons] at h
      rcases List.mem_cons.1 h with rfl | h
      · exact .inl (by simp)
      · rcases ih h with h | ⟨e, h1, h2⟩
        · exact .inl (by simp [h])
        · exact .inr ⟨e, by simpa using h1, h2⟩

theorem map_modify_same {es : List MapEntry} {f : MapEntry → MapEntry} (hf : ∀ e, (f e).born = e.born) : ∀ {j : Nat}, (es.modify j f).map (·.born) = es.map (·.born) := by
  induction es with
  | nil => intro j; cases j <;> simp
  | cons y r ih =>
    intro j
    cases j with
    | zero => simp [List.modify_zero_cons, hf]
    | succ j => simp [List.modify_succ_cons, ih]

theorem MapR.put {ents l : List (AV × AV)} {es : Array MapEntry} {clock j : Nat} {a v : AV} {k u x : Value} {e : MapEntry} (M : MapR σ ents es clock) (hk : R σ a k) (hv : R σ v u) (hh : hasK a ents = true) (he : es[j]? = some e)
    (hp : l.Perm ents) (hE : EntsR σ l es.toList) (hf : fIx a l es.toList 0 = some (0 + j, x)) :
    MapR σ (putK a v ents) (es.modify j fun e => { e with key := k, val := u }) clock := by
  rw [putK_hit hh]
  have hn : (l.map (·.1)).Nodup := (hp.map _).nodup_iff.2 M.nodup
  refine ⟨fun y hy => ?_, by rw [map_putF_fst]; exact M.nodup, ?_, fun y hy => ?_, l.map (putF a v), hp.map _, ?_⟩
  · obtain ⟨z, hz, rfl⟩ := List.mem_map.1 hy
    rw [putF_fst]
    exact M.keys z hz
  · rw [Array.toList_modify]
    have := map_modify_same (es := es.toList) (f := fun e => { e with key := k, val := u }) (fun _ => rfl) (j := j)
    rw [this]
    exact M.born
  · rw [Array.toList_modify] at hy
    rcases mem_modify hy with hy | ⟨z, hz, rfl⟩
    · exact M.old y hy
    · exact M.old z (List.mem_of_getElem? hz)
  · rw [Array.toList_modify]
    exact EntsR.put hk hv hE hn hf

theorem MapR.new {ents : List (AV × AV)} {es : Array MapEntry} {clock : Nat} {a v : AV} {k u : Value} (M : MapR σ ents es clock) (hpl : plainKey a = true) (hk : R σ a k) (hv : R σ v u) (hh : hasK a ents = false) :
    MapR σ (putK a v ents) (es.push { key := k, val := u, born := clock }) (clock + 1) := by
  rw [putK_miss hh]
  obtain ⟨l, hp, hE⟩ := M.ents
  refine ⟨fun y hy => ?_, ?_, ?_, fun y hy => ?_, l ++ [(a, v)], ?_, ?_⟩
  · rcases List.mem_cons.1 hy with rfl | hy
    · exact hpl
    · exact M.keys y hy
  · rw [List.map_cons, List.nodup_cons]
    refine ⟨fun hm => ?_, M.nodup⟩
    rw [(hasK_iff hpl).2 hm] at hh
    cases hh
  · rw [Array.toList_push, List.map_append, List.nodup_append]
    refine ⟨M.born, by simp, fun x hx y hy => ?_⟩
    obtain ⟨e, he, rfl⟩ := List.mem_map.1 hx
    simp only [List.map_cons, List.map_nil, List.mem_singleton] at hy
    have := M.old e he
    omega
  · rw [Array.toList_push] at hy
    rcases List.mem_append.1 hy with hy | hy
    · have := M.old y hy; omega
    · rw [List.mem_singleton.1 hy]; exact Nat.lt_succ_self _
  · exact (List.perm_append_comm).trans (hp.cons _)
  · rw [Array.toList_push]
    exact hE.app ⟨hk, hv, trivial⟩

theorem eraseIdx_toList {es : Array MapEntry} {j : Nat} : (es.eraseIdxIfInBounds j).toList = es.toList.eraseIdx j := by
  unfold Array.eraseIdxIfInBounds
  split
  · simp
  · rename_i h
    rw [List.eraseIdx_of_length_le (by simpa using h)]

theorem MapR.del {ents l : List (AV × AV)} {es : Array MapEntry} {clock j : Nat} {a : AV} {x : Value} (M : MapR σ ents es clock)
    (hp : l.Perm ents) (hE : EntsR σ l es.toList) (hf : fIx a l es.toList 0 = some (0 + j, x)) :
    MapR σ (delK a ents) (es.eraseIdxIfInBounds j) clock := by
  have hn : (l.map (·.1)).Nodup := (hp.map _).nodup_iff.2 M.nodup
  refine ⟨fun y hy => M.keys y (List.mem_filter.1 hy).1, ?_, ?_, fun y hy => ?_, l.filter fun e => !AV.beq a e.1, hp.filter _, ?_⟩
  · exact M.nodup.sublist (List.Sublist.map _ List.filter_sublist)
  · rw [eraseIdx_toList]
    exact M.born.sublist (List.Sublist.map _ (List.eraseIdx_sublist ..))
  · rw [eraseIdx_toList] at hy
    exact M.old y (List.mem_of_mem_eraseIdx hy)
  · rw [eraseIdx_toList]
    exact EntsR.del hE hn hf

/-- The same keys, the same stamps: an iterator goes on. -/
theorem ItR.same {ents ents' : List (AV × AV)} {seen : List AV} {since last clock : Nat} {sn : Array Nat} {es es' : Array MapEntry} (I : ItR σ ents seen since sn last es clock)
    (h1 : ∀ e ∈ es'.toList, ∃ e0 ∈ es.toList, e.born = e0.born ∧ e.key = e0.key) (h2 : ∀ a ∈ ents', ∃ a0 ∈ ents, a.1 = a0.1) : ItR σ ents' seen since sn last es' clock :=
  ⟨I.esince, I.elast, fun e he a ha hr => by
    obtain ⟨e0, q1, q2, q3⟩ := h1 e he
    obtain ⟨a0, r1, r2⟩ := h2 a ha
    rw [q2, r2]
    exact I.sees e0 q1 a0 r1 (by rw [← q3, ← r2]; exact hr),
   fun x r hs => by
    obtain ⟨s, s1, s2⟩ := I.top x r hs
    refine ⟨s, s1, fun e he a ha hr => ?_⟩
    obtain ⟨e0, q1, q2, q3⟩ := h1 e he
    obtain ⟨a0, r1, r2⟩ := h2 a ha
    rw [q2, r2]
    exact s2 e0 q1 a0 r1 (by rw [← q3, ← r2]; exact hr)⟩

theorem LPS.st5 {ls : List (Nat × LoopA)} (L : LPS σ base ls w) {i : Nat} {r : LoopA} (h : lkL ls i = some r) (h5 : r.st = 5) : ∃ m seen, r = itObj m seen := by
  obtain ⟨c, o, a1, a2, a3, a4⟩ := L.lps i r h
  rcases a4 with ⟨h0, _⟩ | ⟨_, _, _, rfl, _⟩ | ⟨m, seen, _, _, _, _, rfl, _⟩ | ⟨rfl, _⟩
  · omega
  · simp [mapObj] at h5
  · exact ⟨m, seen, rfl⟩
  · simp [deadObj] at h5

theorem run_setObj' {c : Nat} {o0 : Obj} (o : Obj) (hg : w.heap[c]? = some o0) (hk : ∀ cs e fz, o0 ≠ .cells cs e fz) : (setObj c o).run P w = .ok () (World.setO w c o) := by
  simp only [setObj, Sem.run, hg]
  cases o0 <;> first | rfl | exact absurd rfl (hk _ _ _)

theorem lkL_set_cases {ls : List (Nat × LoopA)} {id j : Nat} {r r' : LoopA} (h : lkL (setL ls id r) j = some r') : (j ≠ id ∧ lkL ls j = some r') ∨ (j = id ∧ r' = r) := by
  rw [lkL_setL] at h
  split at h
  · rename_i e
    split at h
    · cases h; exact .inr ⟨e, rfl⟩
    · cases h
  · exact .inl ⟨‹_›, h⟩

theorem mapUpdate_sound (H : HR σ base h w) {t k e : TypeId} (hu : P.underlying t = some (.map k e)) {a v m x : AV} {h' : Hp} (hs : aMup (ktOf P k) h a v m = some (x, h')) {ua uv um : Value} (ha : R σ a ua) (hv : R σ v uv) (hm : R σ m um) :
    x = .any ∧ ∃ w', (Instr.mapUpdate t um ua uv).run P w = .ok () w' ∧ HR σ base h' w' ∧ Fw base w w' := by
  cases m <;> simp only [aMup] at hs <;> try (cases hs; done)
  rename_i id
  split at hs
  · rename_i ents hg
    cases hf : (keyFit (ktOf P k) a && ents.all fun e => keyFit (ktOf P k) e.1)
    · simp [hf] at hs
    · simp only [hf, cond_true, Option.some.injEq, Prod.mk.injEq] at hs
      obtain ⟨rfl, rfl⟩ := hs
      refine ⟨rfl, ?_⟩
      simp only [Bool.and_eq_true, List.all_eq_true] at hf
      obtain ⟨hl, c, es, clock, c1, c2, c3, M⟩ := H.lps.map hg
      rw [R_mp hm c1]
      have hc := checkKey_sound (P := P) hf.1 ha false w
      have hpl := keyFit_plain hf.1
      have hob : (getObj c.blk).run P w = .ok (.map es clock) w := by simp [getObj, Sem.run, c2]
      rcases M.find hf.1 ha hf.2 w with ⟨g1, g2, g3⟩ | ⟨j, e', v', l, g1, g2, g3, g4, g5, g6, g7, g8, g9, g10⟩
      · have M' := M.new hpl ha hv g1
        obtain ⟨H', F'⟩ := H.setObj hl c1 c2 (r := mapObj (putK a v ents)) (o := .map (es.push { key := ua, val := uv, born := clock }) (clock + 1)) (.inr (.inl ⟨_, _, _, rfl, rfl, M'⟩))
          (ls := setL (dropIts id h.loops) id (mapObj (putK a v ents))) (fun d e => by cases e) (fun x e => by cases e)
          (fun j r' hj => by
            rcases lkL_set_cases hj with ⟨h1, h2⟩ | h1
            · rw [lkL_dropIts, Option.map_eq_some_iff] at h2
              obtain ⟨b, hb, rfl⟩ := h2
              unfold dropF
              cases hbb : (Nat.beq b.st 5 && Nat.beq b.n id)
              · exact .inl ⟨h1, hb⟩
              · simp only [Bool.and_eq_true] at hbb
                obtain ⟨m, seen, rfl⟩ := H.lps.st5 hb (Nat.eq_of_beq_eq_true hbb.1)
                exact .inr (.inr ⟨h1, rfl, m, seen, hb⟩)
            · exact .inr (.inl h1))
          (fun i seen ents' ci e hne hi hci => by
            exfalso
            rcases lkL_set_cases hi with ⟨h1, h2⟩ | ⟨h1, _⟩
            · rw [lkL_dropIts, Option.map_eq_some_iff] at h2
              obtain ⟨b, hb, h3⟩ := h2
              unfold dropF at h3
              cases hbb : (Nat.beq b.st 5 && Nat.beq b.n id)
              · simp only [hbb, cond_false] at h3
                subst h3
                simp [itObj] at hbb
              · simp only [hbb, cond_true] at h3
                have := congrArg LoopA.st h3
                simp [itObj, deadObj] at this
            · exact hne h1)
          (fun m seen ents' cm e => absurd e map_ne_it)
        refine ⟨World.setO w c.blk (.map (es.push { key := ua, val := uv, born := clock }) (clock + 1)), ?_, ?_, F'⟩
        · unfold Instr.mapUpdate
          simp only [Sem.run_bind, run_underlying hu, Result.andThen_ok, hob, hc, g3, run_setObj' _ c2 (fun _ _ _ h => by cases h)]
        · rw [g1]
          exact H'
      · have M' := M.put ha hv g1 g5 g8 g9 g10
        obtain ⟨H', F'⟩ := H.setObj hl c1 c2 (r := mapObj (putK a v ents)) (o := .map (es.modify j fun e => { e with key := ua, val := uv }) clock) (.inr (.inl ⟨_, _, _, rfl, rfl, M'⟩))
          (ls := setL h.loops id (mapObj (putK a v ents))) (fun d e => by cases e) (fun x e => by cases e)
          (fun j r' hj => by
            rcases lkL_set_cases hj with h1 | h1
            · exact .inl h1
            · exact .inr (.inl h1))
          (fun i seen ents' ci e hne hi hci => by
            have he := mapObj_inj e
            subst he
            rcases lkL_set_cases hi with ⟨h1, h2⟩ | ⟨h1, _⟩
            · obtain ⟨since, sn, last, es0, clock0, q1, q2, q3⟩ := H.lps.its i id seen ents ci c h2 hl hci c1
              rw [c2] at q2
              cases q2
              refine ⟨since, sn, last, _, _, q1, rfl, q3.same (fun y hy => ?_) (fun y hy => ?_)⟩
              · rw [Array.toList_modify] at hy
                rcases mem_modify hy with hy | ⟨z, hz, rfl⟩
                · exact ⟨y, hy, rfl, rfl⟩
                · have hz' : es[j]? = some z := by simpa using hz
                  rw [g5] at hz'
                  cases hz'
                  exact ⟨e', List.mem_of_getElem? hz, rfl, g6.symm⟩
              · rw [putK_hit g1] at hy
                obtain ⟨z, hz, rfl⟩ := List.mem_map.1 hy
                exact ⟨z, hz, putF_fst⟩
            · exact absurd h1 hne)
          (fun m seen ents' cm e => absurd e map_ne_it)
        refine ⟨World.setO w c.blk (.map (es.modify j fun e => { e with key := ua, val := uv }) clock), ?_, ?_, F'⟩
        · have hst : (Instr.keyThatStays (((es[j]?).map (·.key)).getD ua) ua).run P w = .ok ua w := by
            rw [g5]
            simp only [Option.map_some, Option.getD_some, g6]
            unfold Instr.keyThatStays
            have : Instr.sameBits 10000 ua ua = true := by
              have hself : ∀ {b : AV} {n : Nat} {u : Value}, isIntA b = true → R σ b u → Instr.sameBits n u u = true := by
                intro b n u hb hr
                obtain ⟨q, z, rfl⟩ := isIntA_spec hb
                simp only [R] at hr
                subst hr
                cases n <;> simp [Instr.sameBits]
              cases a <;> simp only [plainKey] at hpl <;> try (cases hpl; done)
              case bool => simp only [R] at ha; subst ha; simp [Instr.sameBits]
              case int => simp only [R] at ha; subst ha; simp [Instr.sameBits]
              case str => simp only [R] at ha; subst ha; simp only [Instr.sameBits]; exact (MapKept.bytes_beq _ _).2 rfl
              case ag cs =>
                simp only [R] at ha
                obtain ⟨q, rfl, hq⟩ := ha
                show (q.size == q.size && (q.toList.zip q.toList).all fun (x, y) => Instr.sameBits 9999 x y) = true
                simp only [beq_self_eq_true, Bool.true_and, List.all_eq_true]
                have key : ∀ {cs : List AV} {q : List Value}, cs.all isIntA = true → Rs σ cs q → ∀ x ∈ q.zip q, Instr.sameBits 9999 x.1 x.2 = true := by
                  intro cs
                  induction cs with
                  | nil => intro q _ hq x hx; simp only [Rs] at hq; subst hq; simp at hx
                  | cons b r ih =>
                    intro q hp hq x hx
                    simp only [List.all_cons, Bool.and_eq_true] at hp
                    simp only [Rs] at hq
                    obtain ⟨y, q', rfl, hy, hq'⟩ := hq
                    simp only [List.zip_cons_cons, List.mem_cons] at hx
                    rcases hx with rfl | hx
                    · exact hself hp.1 hy
                    · exact ih hp.2 hq' x hx
                exact key hpl hq
            rw [this]
            simp
          unfold Instr.mapUpdate
          simp only [Sem.run_bind, run_underlying hu, Result.andThen_ok, hob, hc, g4, hst, run_setObj' _ c2 (fun _ _ _ h => by cases h)]
        · rw [g1]
          exact H'
  · cases hs

theorem setO_self {c : Nat} {o : Obj} (hg : w.heap[c]? = some o) : World.setO w c o = w := by
  unfold World.setO
  have : w.heap.setIfInBounds c o = w.heap := by
    apply Array.ext
    · simp
    · intro i h1 h2
      have hlt := lt_of_heap hg
      by_cases e : c = i
      · subst e
        rw [Array.getElem_setIfInBounds_self]
        rw [Array.getElem?_eq_getElem hlt] at hg
        exact (Option.some.inj hg).symm
      · rw [Array.getElem_setIfInBounds_ne _ e]
  rw [this]

theorem delete_sound (H : HR σ base h w) {ts : Array TypeId} {t k e : TypeId} (h0 : ts[0]? = some t) (hu : P.underlying t = some (.map k e)) {a m x : AV} {h' : Hp} (hs : aMdel (ktOf P k) h a m = some (x, h')) {ua um : Value} (ha : R σ a ua) (hm : R σ m um) (ty : TypeId) :
    x = .any ∧ ∃ w', (Builtin.delete_ ts ty #[um, ua]).run P w = .ok (.tuple #[]) w' ∧ HR σ base h' w' ∧ Fw base w w' := by
  cases m <;> simp only [aMdel] at hs <;> try (cases hs; done)
  rename_i id
  split at hs
  · rename_i ents hg
    cases hf : (keyFit (ktOf P k) a && ents.all fun e => keyFit (ktOf P k) e.1)
    · simp [hf] at hs
    · simp only [hf, cond_true, Option.some.injEq, Prod.mk.injEq] at hs
      obtain ⟨rfl, rfl⟩ := hs
      refine ⟨rfl, ?_⟩
      simp only [Bool.and_eq_true, List.all_eq_true] at hf
      obtain ⟨hl, c, es, clock, c1, c2, c3, M⟩ := H.lps.map hg
      rw [R_mp hm c1]
      have hc := checkKey_sound (P := P) hf.1 ha es.isEmpty w
      have hpl := keyFit_plain hf.1
      have hob : (getObj c.blk).run P w = .ok (.map es clock) w := by simp [getObj, Sem.run, c2]
      -- what the map is then
      have fin : ∀ es' : Array MapEntry, MapR σ (delK a ents) es' clock → (∀ e ∈ es'.toList, e ∈ es.toList) → HR σ base { h with loops := setL h.loops id (mapObj (delK a ents)) } (World.setO w c.blk (.map es' clock)) ∧ Fw base w (World.setO w c.blk (.map es' clock)) := fun es' M' hsub =>
        H.setObj hl c1 c2 (r := mapObj (delK a ents)) (o := .map es' clock) (.inr (.inl ⟨_, _, _, rfl, rfl, M'⟩))
          (ls := setL h.loops id (mapObj (delK a ents))) (fun d e => by cases e) (fun x e => by cases e)
          (fun j r' hj => by
            rcases lkL_set_cases hj with h1 | h1
            · exact .inl h1
            · exact .inr (.inl h1))
          (fun i seen ents' ci e hne hi hci => by
            have he := mapObj_inj e
            subst he
            rcases lkL_set_cases hi with ⟨h1, h2⟩ | ⟨h1, _⟩
            · obtain ⟨since, sn, last, es0, clock0, q1, q2, q3⟩ := H.lps.its i id seen ents ci c h2 hl hci c1
              rw [c2] at q2
              cases q2
              exact ⟨since, sn, last, _, _, q1, rfl, q3.same (fun y hy => ⟨y, hsub y hy, rfl, rfl⟩) (fun y hy => ⟨y, (List.mem_filter.1 hy).1, rfl⟩)⟩
            · exact absurd h1 hne)
          (fun m seen ents' cm e => absurd e map_ne_it)
      rcases M.find hf.1 ha hf.2 w with ⟨g1, g2, g3⟩ | ⟨j, e', v', l, g1, g2, g3, g4, g5, g6, g7, g8, g9, g10⟩
      · have hd : delK a ents = ents := filter_miss fun hmm => by rw [(hasK_iff hpl).2 hmm] at g1; cases g1
        obtain ⟨H', F'⟩ := fin es (by rw [hd]; exact M) (fun _ h => h)
        refine ⟨_, ?_, H', F'⟩
        unfold Builtin.delete_
        simp only [h0, Sem.run_bind, Result.andThen_ok, run_underlying hu, hob, hc, g3, run_setObj' _ c2 (fun _ _ _ h => by cases h), Sem.run_pure, List.getElem?_toArray, List.getElem?_cons_zero, List.getElem?_cons_succ]
      · obtain ⟨H', F'⟩ := fin _ (M.del g8 g9 g10) (fun e he => by rw [eraseIdx_toList] at he; exact List.mem_of_mem_eraseIdx he)
        refine ⟨_, ?_, H', F'⟩
        unfold Builtin.delete_
        simp only [h0, Sem.run_bind, Result.andThen_ok, run_underlying hu, hob, hc, g4, run_setObj' _ c2 (fun _ _ _ h => by cases h), Sem.run_pure, List.getElem?_toArray, List.getElem?_cons_zero, List.getElem?_cons_succ]
  · cases hs

/-- An iterator's step: it is over, or some entry that it has not handed out. -/
theorem next_sound (H : HR σ base h w) {i m : Nat} {seen : List AV} {ents : List (AV × AV)} (hi : lkL h.loops i = some (itObj m seen)) (hm : lkL h.loops m = some (mapObj ents)) {u : Value} (hx : R σ (.ptr i 0) u) (ty : TypeId) :
    (∃ w', (Instr.next u false ty).run P w = .ok (.tuple #[.bool false]) w' ∧ HR σ base h w' ∧ Fw base w w' ∧ ∀ e ∈ ents, e.1 ∈ seen) ∨
    ∃ a v ua uv w', (a, v) ∈ ents ∧ a ∉ seen ∧ R σ a ua ∧ R σ v uv ∧ (Instr.next u false ty).run P w = .ok (.tuple #[.bool true, ua, uv]) w' ∧ HR σ base { h with loops := setL h.loops i (itObj m (a :: seen)) } w' ∧ Fw base w w' := by
  have gm : (lkL h.loops m).bind asMap = some ents := by rw [hm]; exact asMap_obj
  have gi : (lkL h.loops i).bind asIt = some (m, seen) := by rw [hi]; rfl
  obtain ⟨_, c, es, clock, c1, c2, c3, M⟩ := H.lps.map gm
  obtain ⟨_, ci, cm, since, sn, last, d1, d2, d3, d4, d5⟩ := H.lps.it gi
  rw [c1] at d2
  cases d2
  obtain ⟨since', sn', last', es', clock', q1, q2, I⟩ := H.lps.its i m seen ents ci c hi hm d1 c1
  rw [d3] at q1
  cases q1
  rw [c2] at q2
  cases q2
  obtain ⟨l, hp, he⟩ := M.ents
  simp only [R] at hx
  obtain ⟨c', e1, rfl⟩ := hx
  rw [d1] at e1
  cases e1
  have hpt : (Value.pointer (some ⟨ci.blk, ci.off + 0, none⟩)) = .pointer (some ⟨ci.blk, 0, none⟩) := by rw [d5]
  rw [hpt]
  have hob : ∀ w1 : World, w1.heap = w.heap → (getObj ci.blk).run P w1 = .ok (.mapIter (some c.blk) since sn last) w1 := fun w1 hw => by simp [getObj, Sem.run, hw, d3]
  have hom : ∀ w1 : World, w1.heap = w.heap → (getObj c.blk).run P w1 = .ok (.map es clock) w1 := fun w1 hw => by simp [getObj, Sem.run, hw, c2]
  have hold : ∀ x ∈ es.toList, x.born < since := fun x hx => by rw [I.esince]; exact M.old x hx
  have hsc : since ≤ last := by rw [I.esince, I.elast]; exact Nat.le_refl _
  have htest := next_test_false sn es since last hold hsc
  have e1 : ∀ L : Array MapEntry, (∀ x ∈ L.toList, x.born < since) → L.filter (fun x => decide (x.born < since)) = L ∧ L.filter (fun x => decide (x.born ≥ since)) = #[] := fun L hL => by
    refine ⟨Array.filter_eq_self.2 (fun x hx => by simpa using hL x (by simpa using hx)), ?_⟩
    rw [Array.filter_eq_empty_iff]
    intro x hx
    have := hL x (by simpa using hx)
    simp
    omega
  have hL : ∀ x ∈ (es.filter (fun e => !sn.contains e.born)).toList, x.born < since := fun x hx => hold x (by simp at hx ⊢; exact hx.1)
  obtain ⟨f1, f2⟩ := e1 _ hL
  have hmemL : ∀ x, x ∈ (es.filter (fun e => !sn.contains e.born)).toList → x ∈ es.toList ∧ sn.contains x.born = false := fun x hx => by
    have := Array.mem_filter.1 (Array.mem_toList_iff.1 hx)
    exact ⟨Array.mem_toList_iff.2 this.1, by simpa using this.2⟩
  have hinL : ∀ x, x ∈ es.toList → sn.contains x.born = false → x ∈ (es.filter (fun e => !sn.contains e.born)).toList := fun x h1 h2 => Array.mem_toList_iff.2 (Array.mem_filter.2 ⟨Array.mem_toList_iff.1 h1, by rw [h2]; rfl⟩)
  generalize hLL : es.filter (fun e => !sn.contains e.born) = L at f1 f2 hmemL hinL
  by_cases h0 : L.size = 0
  · left
    have hE : L = #[] := Array.eq_empty_of_size_eq_zero h0
    refine ⟨w, ?_, H, .refl _ _, fun a ha => ?_⟩
    · subst hE
      simp only [Instr.next, Sem.run_bind, hob w rfl, hom w rfl, Result.andThen_ok, htest, Bool.false_eq_true, if_false, hLL]
      simp [choose, Sem.run, Question.forced]
    · obtain ⟨x, x1, x2, x3⟩ := he.mem' a (hp.mem_iff.2 ha)
      cases hs : sn.contains x.born
      · have := hinL x x1 hs
        rw [hE] at this
        simp at this
      · exact (I.sees x x1 a ha x2).1 hs
  · right
    have hne : L.isEmpty = false := by simp [Array.isEmpty, h0]
    have hch : ∃ (j : Nat) (w1 : World), j < L.size ∧ (w1 = w ∨ w1 = w.drew) ∧ (choose (Question.mapNext L.size)).run P w = .ok j w1 := by
      by_cases hf : L.size ≤ 1
      · exact ⟨0, w, by omega, .inl rfl, by simp [choose, Sem.run, Question.forced, hf]⟩
      · exact ⟨_, w.drew, Nat.mod_lt _ (by omega), .inr rfl, by
          simp only [choose, Sem.run, Question.forced, decide_eq_true_eq, hf, if_false, Question.cut]
          rfl⟩
    obtain ⟨j, w1, hj, hw1, hrun⟩ := hch
    obtain ⟨m1, m2⟩ := hmemL L[j] (by simp)
    obtain ⟨a, ha, ha1, ha2⟩ := he.mem L[j] m1
    have ha' := hp.mem_iff.1 ha
    have hns : a.1 ∉ seen := fun hh => by
      have := (I.sees L[j] m1 a ha' ha1).2 hh
      rw [m2] at this
      cases this
    have H1 : HR σ base h w1 := by rcases hw1 with rfl | rfl; exact H; exact H.drew
    have F1 : Fw base w w1 := by rcases hw1 with rfl | rfl; exact .refl _ _; exact .drew _ _
    have hh1 : w1.heap = w.heap := by rcases hw1 with rfl | rfl <;> rfl
    -- two entries with the key are one
    have uniq : ∀ e ∈ es.toList, ∀ b ∈ ents, R σ b.1 e.key → b.1 = a.1 → e.born = (L[j]).born := fun e he1 b hb hr hba => by
      have hk : e.key = (L[j]).key := R_plain (M.keys a ha') (by rw [← hba]; exact hr) ha1
      have uq : ∀ {l : List (AV × AV)} {es : List MapEntry}, EntsR σ l es → (l.map (·.1)).Nodup → (∀ p ∈ l, plainKey p.1 = true) → ∀ x ∈ es, ∀ y ∈ es, x.key = y.key → R σ a.1 x.key → x = y := by
        intro l
        induction l with
        | nil => intro es h _ _ x hx; cases es with | nil => simp at hx | cons => exact h.elim
        | cons p r ih =>
          intro es h hn hpp x hx y hy hxy hra
          cases es with
          | nil => exact h.elim
          | cons z es =>
            obtain ⟨z1, z2, z3⟩ := h
            simp only [List.map_cons, List.nodup_cons] at hn
            have notin : ∀ t ∈ es, t.key = z.key → False := fun t ht hk => by
              obtain ⟨p', hp', hp1, _⟩ := z3.mem t ht
              have : p'.1 = p.1 := by
                have b1 := hpp p (by simp)
                have b2 := hpp p' (by simp [hp'])
                have e2 : R σ p'.1 z.key := by rw [← hk]; exact hp1
                exact R_inj b2 b1 e2 z1
              exact hn.1 (List.mem_map.2 ⟨p', hp', this⟩)
            rcases List.mem_cons.1 hx with ex | hx1
            · rcases List.mem_cons.1 hy with ey | hy1
              · rw [ex, ey]
              · exact (notin y hy1 (by rw [← ex, hxy])).elim
            · rcases List.mem_cons.1 hy with ey | hy1
              · exact (notin x hx1 (by rw [← ey, hxy])).elim
              · exact ih z3 hn.2 (fun p hp => hpp p (by simp [hp])) x hx1 y hy1 hxy hra
      have hn : (l.map (·.1)).Nodup := (hp.map _).nodup_iff.2 M.nodup
      rw [uq he hn (fun p hp' => M.keys p (hp.mem_iff.1 hp')) e he1 L[j] m1 hk (by rw [hk]; exact ha1)]
    have I' : ItR σ ents (a.1 :: seen) since (sn.push (L[j]).born) clock es clock := by
      refine ⟨I.esince, rfl, fun e he1 b hb hr => ?_, fun x r hs => ?_⟩
      · rw [Array.contains_push, Bool.or_eq_true, I.sees e he1 b hb hr, List.mem_cons]
        constructor
        · rintro (h1 | h1)
          · exact .inr h1
          · left
            have hb' := beq_iff_eq.1 h1
            have : e = L[j] := born_inj M.born he1 m1 hb'
            rw [this] at hr
            exact R_inj (M.keys b hb) (M.keys a ha') hr ha1
        · rintro (h1 | h1)
          · exact .inr (beq_iff_eq.2 (uniq e he1 b hb hr h1))
          · exact .inl h1
      · cases hs
        refine ⟨_, Array.back?_push .., fun e he1 b hb hr => ⟨fun hb' => ?_, fun h1 => uniq e he1 b hb hr h1⟩⟩
        have : e = L[j] := born_inj M.born he1 m1 hb'
        rw [this] at hr
        exact R_inj (M.keys b hb) (M.keys a ha') hr ha1
    obtain ⟨H', F'⟩ := H1.setObj hi d1 (by rw [hh1]; exact d3) (r := itObj m (a.1 :: seen)) (o := .mapIter (some c.blk) since (sn.push (L[j]).born) clock)
      (.inr (.inr (.inl ⟨m, _, c, since, _, clock, rfl, d5, c1, rfl⟩))) (ls := setL h.loops i (itObj m (a.1 :: seen))) (fun d e => by cases e) (fun x e => by cases e)
      (fun j r' hj => by
        rcases lkL_set_cases hj with h1 | h1
        · exact .inl h1
        · exact .inr (.inl h1))
      (fun i' seen' ents' ci' e => absurd e.symm map_ne_it)
      (fun m' seen' ents' cm e hne hm' hcm => by
        obtain ⟨rfl, rfl⟩ := itObj_inj e
        rcases lkL_set_cases hm' with ⟨_, h2⟩ | ⟨h1, _⟩
        · rw [hm] at h2
          have := mapObj_inj (Option.some.inj h2)
          subst this
          rw [c1] at hcm
          cases hcm
          exact ⟨since, _, clock, es, clock, rfl, by rw [hh1]; exact c2, I'⟩
        · exact absurd h1 hne)
    refine ⟨a.1, a.2, (L[j]).key, (L[j]).val, _, ha', hns, ha1, ha2, ?_, H', F1.trans F'⟩
    simp only [Instr.next, Sem.run_bind, hob w rfl, hom w rfl, Result.andThen_ok, htest, Bool.false_eq_true, if_false, hLL, f1, f2, Array.append_empty, hne, Array.empty_append, Array.size_map, hrun, Array.getElem?_map, Array.getElem?_eq_getElem hj, Option.map_some,
      run_setObj' _ (show w1.heap[ci.blk]? = some _ by rw [hh1]; exact d3) (fun _ _ _ h => by cases h), Sem.run_pure]

end
end Go.Abs
