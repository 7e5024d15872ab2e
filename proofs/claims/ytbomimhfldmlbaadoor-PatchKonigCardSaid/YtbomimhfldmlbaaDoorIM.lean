/- Keys, and what is found in a map. Each operation does to a world what the abstract operation says: maps. -/
import Derived.Test.YtbomimhfldmlbaaDoorI
set_option linter.unusedSimpArgs false
set_option linter.unusedVariables false
namespace Go.Abs
open Go Go.RowKit

theorem fitKs_len : ∀ {ks : List IntKind} {cs : List AV}, fitKs ks cs = true → cs.length = ks.length
  | [], [], _ => rfl
  | k :: r, .int k' n :: s, h => by
    simp only [fitKs, Bool.and_eq_true] at h
    simp [fitKs_len h.2]
  | [], a :: s, h => by simp [fitKs] at h
  | k :: r, [], h => by simp [fitKs] at h
  | k :: r, .any :: s, h | k :: r, .bool _ :: s, h | k :: r, .str _ :: s, h | k :: r, .ptr _ _ :: s, h | k :: r, .nilptr :: s, h | k :: r, .sl _ _ _ _ _ :: s, h | k :: r, .nilsl :: s, h | k :: r, .esl :: s, h
  | k :: r, .mp _ :: s, h | k :: r, .nilmp :: s, h | k :: r, .fn _ _ _ :: s, h | k :: r, .yld _ :: s, h | k :: r, .nilfn :: s, h | k :: r, .ifc _ _ :: s, h | k :: r, .nilifc :: s, h | k :: r, .ag _ :: s, h | k :: r, .tu _ :: s, h => by simp [fitKs] at h

theorem fitKs_int : ∀ {ks : List IntKind} {cs : List AV}, fitKs ks cs = true → cs.all isIntA = true
  | [], [], _ => rfl
  | k :: r, a :: s, h => by
    cases a <;> simp only [fitKs] at h <;> try (cases h; done)
    simp only [Bool.and_eq_true] at h
    simp only [List.all_cons, isIntA, Bool.true_and]
    exact fitKs_int h.2
  | [], a :: s, h => by simp [fitKs] at h
  | k :: r, [], h => by simp [fitKs] at h

theorem fitKs_cons {k : IntKind} {r : List IntKind} {a : AV} {s : List AV} (h : fitKs (k :: r) (a :: s) = true) : (∃ n, a = .int k n) ∧ fitKs r s = true := by
  cases a <;> simp only [fitKs] at h <;> try (cases h; done)
  simp only [Bool.and_eq_true, decide_eq_true_eq] at h
  exact ⟨⟨_, by rw [h.1]⟩, h.2⟩

theorem agEq_fit : ∀ {ks : List IntKind} {xs ys : List AV}, fitKs ks xs = true → fitKs ks ys = true → agEq xs ys = some (AV.beqs xs ys)
  | [], [], [], _, _ => rfl
  | k :: r, a :: xs, b :: ys, h1, h2 => by
    obtain ⟨⟨n, rfl⟩, h3⟩ := fitKs_cons h1
    obtain ⟨⟨m, rfl⟩, h4⟩ := fitKs_cons h2
    simp [agEq, agEq_fit h3 h4, AV.beqs, AV.beq]
  | [], a :: s, _, h, _ => by simp [fitKs] at h
  | [], [], a :: s, _, h => by simp [fitKs] at h
  | k :: r, [], _, h, _ => by simp [fitKs] at h
  | k :: r, a :: s, [], _, h => by simp [fitKs] at h

theorem keyFit_plain {kt : KT} {a : AV} (h : keyFit kt a = true) : plainKey a = true := by
  cases kt <;> cases a <;> simp only [keyFit] at h <;> first | (cases h; done) | rfl | exact fitKs_int h

mutual
theorem AV.beq_eq : ∀ {a b : AV}, AV.beq a b = true → a = b
  | .any, b, h => by cases b <;> simp [AV.beq] at h; rfl
  | .bool x, b, h => by cases b <;> simp [AV.beq] at h; rw [h]
  | .int k n, b, h => by cases b <;> simp [AV.beq] at h; rw [h.1, h.2]
  | .str l, b, h => by cases b <;> simp [AV.beq] at h; rw [h]
  | .ptr i o, b, h => by cases b <;> simp [AV.beq] at h; rw [h.1, h.2]
  | .nilptr, b, h => by cases b <;> simp [AV.beq] at h; rfl
  | .sl i o l c s, b, h => by cases b <;> simp [AV.beq] at h; rw [h.1.1.1.1, h.1.1.1.2, h.1.1.2, h.1.2, h.2]
  | .nilsl, b, h => by cases b <;> simp [AV.beq] at h; rfl
  | .esl, b, h => by cases b <;> simp [AV.beq] at h; rfl
  | .mp i, b, h => by cases b <;> simp [AV.beq] at h; rw [h]
  | .nilmp, b, h => by cases b <;> simp [AV.beq] at h; rfl
  | .fn f a c, b, h => by
    cases b <;> simp [AV.beq] at h
    rw [h.1.1, AV.beqs_eq h.1.2, AV.beqs_eq h.2]
  | .yld i, b, h => by cases b <;> simp [AV.beq] at h; rw [h]
  | .nilfn, b, h => by cases b <;> simp [AV.beq] at h; rfl
  | .ifc t v, b, h => by
    cases b <;> simp [AV.beq] at h
    rw [h.1, AV.beq_eq h.2]
  | .nilifc, b, h => by cases b <;> simp [AV.beq] at h; rfl
  | .ag l, b, h => by
    cases b <;> simp [AV.beq] at h
    rw [AV.beqs_eq h]
  | .tu l, b, h => by
    cases b <;> simp [AV.beq] at h
    rw [AV.beqs_eq h]
theorem AV.beqs_eq : ∀ {a b : List AV}, AV.beqs a b = true → a = b
  | [], b, h => by cases b <;> simp [AV.beqs] at h; rfl
  | x :: r, b, h => by
    cases b <;> simp [AV.beqs] at h
    rw [AV.beq_eq h.1, AV.beqs_eq h.2]
end

theorem beqs_refl : ∀ {l : List AV}, l.all isIntA = true → AV.beqs l l = true
  | [], _ => rfl
  | a :: r, h => by
    simp only [List.all_cons, Bool.and_eq_true] at h
    obtain ⟨k, n, rfl⟩ := isIntA_spec h.1
    simp [AV.beqs, AV.beq, beqs_refl h.2]

theorem beq_plain {a b : AV} (h : plainKey a = true) : AV.beq a b = true ↔ a = b := by
  refine ⟨AV.beq_eq, ?_⟩
  rintro rfl
  cases a <;> simp only [plainKey] at h <;> first | (cases h; done) | simp [AV.beq]
  exact beqs_refl h

theorem beq_ne {a b : AV} (h : plainKey a = true) : AV.beq a b = false ↔ a ≠ b := by
  rw [← Bool.not_eq_true, not_congr (beq_plain h)]

/-! ### What is found -/
def fIx (a : AV) : List (AV × AV) → List MapEntry → Nat → Option (Nat × Value)
  | x :: l, e :: es, i => bif AV.beq a x.1 then some (i, e.val) else fIx a l es (i + 1)
  | _, _, _ => none

theorem fIx_spec {σ : Env} {a : AV} (hp : plainKey a = true) : ∀ {l : List (AV × AV)} {es : List MapEntry} {i : Nat}, EntsR σ l es → (l.map (·.1)).Nodup →
    (fIx a l es i = none ∧ a ∉ l.map (·.1)) ∨ ∃ j e v, fIx a l es i = some (i + j, e.val) ∧ es[j]? = some e ∧ l[j]? = some (a, v) ∧ R σ a e.key ∧ R σ v e.val
  | [], [], i, _, _ => .inl ⟨rfl, by simp⟩
  | x :: l, e :: es, i, ⟨h1, h2, h3⟩, hn => by
    simp only [List.map_cons, List.nodup_cons] at hn
    simp only [fIx]
    cases hb : AV.beq a x.1
    · simp only [cond_false]
      rcases fIx_spec hp (i := i + 1) h3 hn.2 with ⟨g1, g2⟩ | ⟨j, e', v, g1, g2, g3, g4, g5⟩
      · exact .inl ⟨g1, by simp only [List.map_cons, List.mem_cons, not_or]; exact ⟨(beq_ne hp).1 hb, g2⟩⟩
      · exact .inr ⟨j + 1, e', v, by rw [g1]; congr 2; omega, by simpa using g2, by simpa using g3, g4, g5⟩
    · have := AV.beq_eq hb
      subst this
      exact .inr ⟨0, e, x.2, rfl, rfl, rfl, h1, h2⟩
  | [], e :: es, i, h, _ => h.elim
  | x :: l, [], i, h, _ => h.elim

section
variable {P : Program} {base : Prot} {σ : Env} {w : World} {h : Hp}

theorem beq_str {a b : List UInt8} : ((⟨a.toArray⟩ : ByteArray) == ⟨b.toArray⟩) = (a == b) := by
  by_cases h : a = b
  · subst h
    exact ((MapKept.bytes_beq _ _).2 rfl).trans (beq_self_eq_true a).symm
  · have h1 : (a == b) = false := by simpa using h
    rw [h1, Bool.eq_false_iff]
    intro h2
    have := (MapKept.bytes_beq _ _).1 h2
    simp at this
    exact h this

def ktD : TypeDesc → KT
  | .bool => .bool
  | .int k => .int k
  | .string => .str
  | _ => .no

theorem findNow_sound {kd : TypeDesc} {a : AV} {k : Value} (ha : R σ a k) (hs : ∀ (b : AV) (u : Value), R σ b u → keyFit (ktD kd) b = true →
    Instr.sameNow kd k u = some (AV.beq a b)) : ∀ {l : List (AV × AV)} {es : List MapEntry} {i : Nat}, EntsR σ l es →
    (∀ e ∈ l, keyFit (ktD kd) e.1 = true) → Instr.findNow kd k es i = some (fIx a l es i)
  | [], [], i, _, _ => rfl
  | x :: l, e :: es, i, ⟨h1, h2, h3⟩, hf => by
    simp only [Instr.findNow, hs x.1 e.key h1 (hf x (by simp)), fIx]
    cases AV.beq a x.1
    · simp only [cond_false]
      exact findNow_sound ha hs h3 fun e he => hf e (by simp [he])
    · rfl
  | [], e :: es, i, h, _ => h.elim
  | x :: l, [], i, h, _ => h.elim

theorem findAsking_sound {kt : TypeId} {a : AV} {k : Value} (hs : ∀ (b : AV) (u : Value), R σ b u → keyFit (ktOf P kt) b = true → (Op.equal kt k u).run P w = .ok (AV.beq a b) w) :
    ∀ {l : List (AV × AV)} {es : List MapEntry} {i : Nat}, EntsR σ l es → (∀ e ∈ l, keyFit (ktOf P kt) e.1 = true) → (Instr.findAsking kt k es i).run P w = .ok (fIx a l es i) w
  | [], [], i, _, _ => by simp [Instr.findAsking, fIx]
  | x :: l, e :: es, i, ⟨h1, h2, h3⟩, hf => by
    simp only [Instr.findAsking, Sem.run_bind, hs x.1 e.key h1 (hf x (by simp)), Result.andThen_ok, fIx]
    cases AV.beq a x.1
    · simp only [Bool.false_eq_true, if_false, cond_false]
      exact findAsking_sound hs h3 fun e he => hf e (by simp [he])
    · simp
  | [], e :: es, i, h, _ => h.elim
  | x :: l, [], i, h, _ => h.elim

/-- A key of an array's or a struct's type. -/
theorem ktOf_flat {kt : TypeId} {ks : List IntKind} (h : ktOf P kt = .flat ks) : ∃ n, flatN P kt = some n ∧ n = ks.length ∧ ((∃ m e k, P.underlying kt = some (.array m e) ∧ P.underlying e = some (.int k) ∧ szOf P e = some 1 ∧ m = n) ∨
    (∃ fs : Array Field, P.underlying kt = some (.struct fs) ∧ intKinds P fs.toList = some ks ∧ fs.toList.zipIdx.all (flatF P) = true)) := by
  unfold ktOf at h
  split at h
  · cases h
  · cases h
  · cases h
  · rename_i n e hu
    split at h
    · rename_i m k h1 h2
      cases h
      have hf := h1
      unfold flatN at h1
      rw [hu] at h1
      simp only [h2, Bool.and_true] at h1
      cases hsz : szOf P e with
      | none => simp [hsz] at h1
      | some sz =>
        simp only [hsz] at h1
        cases hb : (!P.eqGuardType P.depth kt && Nat.beq sz 1)
        · simp [hb] at h1
        · simp only [hb, cond_true, Option.some.injEq] at h1
          simp only [Bool.and_eq_true] at hb
          have := Nat.eq_of_beq_eq_true hb.2
          subst this
          exact ⟨m, hf, by rw [List.length_replicate, h1], .inl ⟨n, e, k, hu, h2, hsz, h1⟩⟩
    · cases h
  · rename_i fs hu
    split at h
    · rename_i m l h1 h2
      cases h
      have hf := h1
      unfold flatN at h1
      rw [hu] at h1
      simp only at h1
      cases hb : (!P.stoodInHeld kt && !P.eqGuardType P.depth kt && fs.toList.zipIdx.all (flatF P))
      · rw [hb] at h1; cases h1
      · rw [hb] at h1
        simp only [cond_true, Option.some.injEq] at h1
        simp only [Bool.and_eq_true] at hb
        have hl : ∀ {fs : List Field} {l : List IntKind}, intKinds P fs = some l → fs.length = l.length := by
          intro fs
          induction fs with
          | nil => intro l h; simp only [intKinds, Option.some.injEq] at h; subst h; rfl
          | cons f r ih =>
            intro l h
            simp only [intKinds] at h
            split at h
            · rename_i h3
              cases h
              simp [ih h3]
            · cases h
        exact ⟨m, hf, by rw [← h1, ← Array.length_toList, hl h2], .inr ⟨fs, hu, h2, hb.2⟩⟩
    · cases h
  · cases h

theorem findKey_sound {kt : TypeId} {a : AV} {k : Value} (ha : keyFit (ktOf P kt) a = true) (hk : R σ a k) {l : List (AV × AV)} {es : List MapEntry} (he : EntsR σ l es) (hf : ∀ e ∈ l, keyFit (ktOf P kt) e.1 = true) (w : World) :
    (Instr.findKey kt k es).run P w = .ok (fIx a l es 0) w := by
  have now : ∀ {kd : TypeDesc}, P.underlying kt = some kd → ktOf P kt = (ktD kd) →
      (∀ (b : AV) (u : Value), R σ b u → keyFit (ktD kd) b = true → Instr.sameNow kd k u = some (AV.beq a b)) →
      (Instr.findKey kt k es).run P w = .ok (fIx a l es 0) w := fun {kd} hu hkt hs => by
    have := findNow_sound (i := 0) hk hs he (fun e h => by rw [← hkt]; exact hf e h)
    unfold Instr.findKey
    simp only [Sem.run_bind, run_underlying hu, Result.andThen_ok, this, Sem.run_pure]
  cases hu : P.underlying kt with
  | none => simp [ktOf, hu, keyFit] at ha
  | some kd =>
    cases kd
    case bool =>
      have hkt : ktOf P kt = .bool := by simp [ktOf, hu]
      rw [hkt] at ha
      cases a <;> simp only [keyFit] at ha <;> try (cases ha; done)
      refine now hu hkt fun b u hb hfb => ?_
      cases b <;> simp only [ktD, keyFit] at hfb <;> try (cases hfb; done)
      simp only [R] at hk hb
      subst hk hb
      rfl
    case int q =>
      have hkt : ktOf P kt = .int q := by simp [ktOf, hu]
      rw [hkt] at ha
      cases a <;> simp only [keyFit] at ha <;> try (cases ha; done)
      refine now hu hkt fun b u hb hfb => ?_
      cases b <;> simp only [ktD, keyFit] at hfb <;> try (cases hfb; done)
      simp only [decide_eq_true_eq] at ha hfb
      subst ha
      subst hfb
      simp only [R] at hk hb
      subst hk hb
      simp [Instr.sameNow, AV.beq]
    case string =>
      have hkt : ktOf P kt = .str := by simp [ktOf, hu]
      rw [hkt] at ha
      cases a <;> simp only [keyFit] at ha <;> try (cases ha; done)
      refine now hu hkt fun b u hb hfb => ?_
      cases b <;> simp only [ktD, keyFit] at hfb <;> try (cases hfb; done)
      simp only [R] at hk hb
      subst hk hb
      simp only [Instr.sameNow, AV.beq, beq_str]
    case array n e =>
      have wide : (match P.underlying kt with | some (.array _ _) | some (.struct _) => true | _ => false) = true := by rw [hu]
      rw [run_findKey_eq w wide]
      refine findAsking_sound (fun b u hb hfb => ?_) he hf
      cases hkt : ktOf P kt with
      | flat ks =>
        rw [hkt] at ha hfb
        cases a <;> simp only [keyFit] at ha <;> try (cases ha; done)
        cases b <;> simp only [keyFit] at hfb <;> try (cases hfb; done)
        rename_i xs ys
        obtain ⟨m, h1, h2, _⟩ := ktOf_flat hkt
        refine (abEq_sound (P := P) (w := w) (t := kt) (x := .ag xs) (y := .ag ys) ?_ ?_ hk hb).1
        · simp only [eqFits, hu, h1]
          rw [fitKs_len ha, h2, Nat.beq_refl]
        · simp only [abEq, agEq_fit ha hfb, AV.beq]
      | _ => rw [hkt] at ha; cases a <;> first | (simp [keyFit] at ha; done) | (exfalso; revert hkt; unfold ktOf; rw [hu]; simp only; split <;> simp)
    case struct fs =>
      have wide : (match P.underlying kt with | some (.array _ _) | some (.struct _) => true | _ => false) = true := by rw [hu]
      rw [run_findKey_eq w wide]
      refine findAsking_sound (fun b u hb hfb => ?_) he hf
      cases hkt : ktOf P kt with
      | flat ks =>
        rw [hkt] at ha hfb
        cases a <;> simp only [keyFit] at ha <;> try (cases ha; done)
        cases b <;> simp only [keyFit] at hfb <;> try (cases hfb; done)
        rename_i xs ys
        obtain ⟨m, h1, h2, _⟩ := ktOf_flat hkt
        refine (abEq_sound (P := P) (w := w) (t := kt) (x := .ag xs) (y := .ag ys) ?_ ?_ hk hb).1
        · simp only [eqFits, hu, h1]
          rw [fitKs_len ha, h2, Nat.beq_refl]
        · simp only [abEq, agEq_fit ha hfb, AV.beq]
      | _ => rw [hkt] at ha; cases a <;> first | (simp [keyFit] at ha; done) | (exfalso; revert hkt; unfold ktOf; rw [hu]; simp only; split <;> simp)
    all_goals (simp [ktOf, hu, keyFit] at ha; done)

theorem checkKey_int {t : TypeId} {k : IntKind} (hu : P.underlying t = some (.int k)) (em : Bool) (n : Nat) (v : Value) (w : World) : (Instr.checkKey em (n + 1) t v).run P w = .ok () w := by
  unfold Instr.checkKey
  simp only [Sem.run_bind, run_underlying hu, Result.andThen_ok]
  cases v <;> simp

theorem checkKey_sound {kt : TypeId} {a : AV} {k : Value} (ha : keyFit (ktOf P kt) a = true) (hk : R σ a k) (em : Bool) (w : World) : (Instr.checkKey em 10000 kt k).run P w = .ok () w := by
  show (Instr.checkKey em (9999 + 1) kt k).run P w = .ok () w
  have simple : ∀ {kd : TypeDesc}, P.underlying kt = some kd → (kd = .bool ∨ (∃ q, kd = .int q) ∨ kd = .string) → (Instr.checkKey em (9999 + 1) kt k).run P w = .ok () w := fun {kd} hu hd => by
    unfold Instr.checkKey
    simp only [Sem.run_bind, run_underlying hu, Result.andThen_ok]
    rcases hd with rfl | ⟨q, rfl⟩ | rfl <;> cases k <;> simp
  cases hu : P.underlying kt with
  | none => simp [ktOf, hu, keyFit] at ha
  | some kd =>
    cases kd
    case bool => exact simple hu (.inl rfl)
    case int q => exact simple hu (.inr (.inl ⟨q, rfl⟩))
    case string => exact simple hu (.inr (.inr rfl))
    case array n e =>
      cases hkt : ktOf P kt with
      | flat ks =>
        rw [hkt] at ha
        cases a <;> simp only [keyFit] at ha <;> try (cases ha; done)
        rename_i xs
        obtain ⟨m, h1, h2, h3⟩ := ktOf_flat hkt
        rcases h3 with ⟨m', e', k0, g1, g2, g3, g4⟩ | ⟨fs, g1, _⟩
        · rw [hu] at g1
          cases g1
          simp only [R] at hk
          obtain ⟨x, rfl, hx⟩ := hk
          have hlen : x.size = n := by
            have := hx.length
            rw [Array.length_toList] at this
            rw [this, fitKs_len ha, ← h2, g4]
          unfold Instr.checkKey
          simp only [Sem.run_bind, run_underlying hu, Result.andThen_ok]
          simp only [Std.Legacy.Range.forIn_eq_forIn_range', Std.Legacy.Range.size, Nat.sub_zero, Nat.add_one_sub_one, Nat.div_one]
          have each : ∀ j ∈ List.range' 0 n, j < x.size := fun j hj => by
            have := List.mem_range'_1.1 hj
            omega
          generalize List.range' 0 n = is at each
          have hagg : isAggT P e = some false := by simp [isAggT, g2]
          induction is with
          | nil => simp
          | cons j is ih =>
            have hj := each j (by simp)
            have hp : (part e x (j * 1)).run P w = .ok x[j] w := by
              unfold part
              simp [run_isAgg' hagg, hj]
            simp only [List.forIn_cons, Sem.run_bind, run_sizeOf' g3, Result.andThen_ok, hp, checkKey_int g2, Sem.run_pure]
            exact ih fun y hy => each y (by simp [hy])
        · rw [hu] at g1; cases g1
      | _ => rw [hkt] at ha; cases a <;> first | (simp [keyFit] at ha; done) | (exfalso; revert hkt; unfold ktOf; rw [hu]; simp only; split <;> simp)
    case struct fs =>
      cases hkt : ktOf P kt with
      | flat ks =>
        rw [hkt] at ha
        cases a <;> simp only [keyFit] at ha <;> try (cases ha; done)
        rename_i xs
        obtain ⟨m, h1, h2, h3⟩ := ktOf_flat hkt
        rcases h3 with ⟨m', e', k0, g1, g2, g3, g4⟩ | ⟨fs', g1, g2, g3⟩
        · rw [hu] at g1; cases g1
        · rw [hu] at g1
          cases g1
          simp only [R] at hk
          obtain ⟨x, rfl, hx⟩ := hk
          have hl : ∀ {fs : List Field} {l : List IntKind}, intKinds P fs = some l → fs.length = l.length := by
            intro fs
            induction fs with
            | nil => intro l h; simp only [intKinds, Option.some.injEq] at h; subst h; rfl
            | cons f r ih =>
              intro l h
              simp only [intKinds] at h
              split at h
              · rename_i h3
                cases h
                simp [ih h3]
              · cases h
          have hlen : x.size = fs.toList.length := by
            have := hx.length
            rw [Array.length_toList] at this
            rw [this, fitKs_len ha, hl g2]
          unfold Instr.checkKey
          simp only [Sem.run_bind, run_underlying hu, Result.andThen_ok]
          rw [← Array.forIn_toList]
          have each : ∀ (L : List Field) (i : Nat), i + L.length = x.size → (L.zipIdx i).all (flatF P) = true → (forIn L PUnit.unit (fun f (_ : PUnit) => (if f.name ≠ "_" then do
                let a ← part f.type x f.offset
                Instr.checkKey em 9999 f.type a
                pure (ForInStep.yield PUnit.unit)
              else pure (ForInStep.yield PUnit.unit) : Sem (ForInStep PUnit)))).run P w = .ok PUnit.unit w := by
            intro L
            induction L with
            | nil => intro i _ _; simp
            | cons f L ih =>
              intro i hi hL
              simp only [List.zipIdx_cons, List.all_cons, Bool.and_eq_true, flatF] at hL
              obtain ⟨⟨⟨q1, q2⟩, q3⟩, q4⟩ := hL
              have q1 : f.name ≠ "_" := by simpa using q1
              have q2 := Nat.eq_of_beq_eq_true q2
              split at q3
              · rename_i k2 hty
                have hagg : isAggT P f.type = some false := by simp [isAggT, hty]
                simp only [List.length_cons] at hi
                have hj : i < x.size := by omega
                have hp : (part f.type x f.offset).run P w = .ok x[i] w := by
                  rw [q2]
                  unfold part
                  simp [run_isAgg' hagg, hj]
                have hc := checkKey_int hty em 9998 x[i] w
                simp only [List.forIn_cons, Sem.run_bind, q1, ne_eq, not_false_eq_true, if_true, Result.andThen_ok, hp, hc, Sem.run_pure]
                exact ih (i + 1) (by omega) q4
              · cases q3
          have := each fs.toList 0 (by omega) g3
          rw [this]
          rfl
      | _ => rw [hkt] at ha; cases a <;> first | (simp [keyFit] at ha; done) | (exfalso; revert hkt; unfold ktOf; rw [hu]; simp only; split <;> simp)
    all_goals (simp [ktOf, hu, keyFit] at ha; done)

end
end Go.Abs
