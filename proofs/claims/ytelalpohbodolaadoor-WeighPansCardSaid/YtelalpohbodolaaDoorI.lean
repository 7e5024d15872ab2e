/- Each operation does to a world what the abstract operation says (3): all that make no call. Each operation does to a world what the abstract operation says (4): step1. -/
import Derived.Test.YtelalpohbodolaaDoorG
import Derived.Laws.StructEq
set_option linter.unusedSimpArgs false
set_option linter.unusedVariables false
namespace Go.Abs
open Go Go.RowKit

section
variable {P : Program} {base : Prot} {σ : Env} {w : World} {h : Hp}

theorem isAggT_of_struct {t : TypeId} {fs : Array Field} (hu : P.underlying t = some (.struct fs)) : isAggT P t = some true := by simp [isAggT, hu]

theorem run_zeroValue' {t : TypeId} {i : TypeInfo} {z : Value} (hi : P.info? t = some i) (hz : i.zero = some z) (w : World) : (zeroValue t).run P w = .ok z w := by
  simp [zeroValue, run_typeInfo w hi, hz]

theorem abInt_sound {op : BinOp} {k : IntKind} {a b : Int} {v : AV} (hv : abInt op k a b = some v) : ∃ u, ((match op with
    | .add | .sub | .mul => Op.intArith op k a b
    | .quo | .rem => Op.intDiv op k a b
    | .and | .or | .xor | .andNot => Op.intBits op k a b
    | _ => Op.intCmp op a b : Sem Value)).run P w = .ok u w ∧ R σ v u := by
  cases op <;> simp only [abInt, Option.some.injEq] at hv
  case quo | rem =>
    by_cases hb : b = 0
    · simp [hb] at hv
    · simp only [hb, if_false, Option.some.injEq] at hv
      subst hv
      exact ⟨_, by simp [Op.intDiv, hb]; rfl, by simp [R]⟩
  all_goals first
    | (cases hv; done)
    | (subst hv; exact ⟨_, by simp [Op.intArith, Op.intBits, Op.intCmp]; rfl, by simp [R]⟩)

theorem abShift_sound {op : BinOp} {k k' : IntKind} {a b : Int} {v : AV} (hv : abShift op k a b = some v) : ∃ u, (Op.shift op k a k' b).run P w = .ok u w ∧ R σ v u := by
  unfold abShift at hv
  by_cases hb : b < 0
  · simp [hb] at hv
  · rw [if_neg hb] at hv
    cases op <;> simp only at hv
    case shl => cases hv; exact ⟨_, by simp [Op.shift, hb]; rfl, by simp [R]⟩
    case shr => cases hv; exact ⟨_, by simp [Op.shift, hb]; rfl, by simp [R]⟩
    all_goals cases hv

/-- Neither a number, a text, an interface's value nor an aggregate. -/
def refKind : Value → Bool
  | .bool _ | .slice .. | .map _ | .pointer _ | .func .. | .nilFunc => true
  | _ => false

theorem binOp_eql {t : TypeId} {u v : Value} (h : refKind u = true) : binOp .eql t u v = (do pure (.bool (← Op.equal t u v))) := by
  cases u <;> simp only [refKind] at h <;> first | (cases h; done) | rfl

theorem binOp_neq {t : TypeId} {u v : Value} (h : refKind u = true) : binOp .neq t u v = (do pure (.bool (!(← Op.equal t u v)))) := by
  cases u <;> simp only [refKind] at h <;> first | (cases h; done) | rfl

theorem eqGuard_ok {op : BinOp} {t : TypeId} {u v : Value} (h : refKind u = true) (x y : Operand) : (eqGuard op t x y u v).run P w = .ok () w := by
  unfold eqGuard
  cases u <;> simp only [refKind] at h <;> first | (cases h; done) | (cases op <;> simp)

/-- The comparison is made by 'equal'. -/
def EqOK (P : Program) (w : World) (t : TypeId) (u v : Value) : Prop :=
  (∀ op x y, (eqGuard op t x y u v).run P w = .ok () w) ∧ (binOp .eql t u v = (do pure (.bool (← Op.equal t u v)))) ∧ (binOp .neq t u v = (do pure (.bool (!(← Op.equal t u v)))))

theorem EqOK.ref {t : TypeId} {u v : Value} (h : refKind u = true) : EqOK P w t u v := ⟨fun _ x y => eqGuard_ok h x y, binOp_eql h, binOp_neq h⟩

theorem agEq_sound {d : Nat} : ∀ {xs ys : List AV} {r : Bool} {a b : Array Value} {fs : List Field} {i : Nat}, agEq xs ys = some r → Rs σ xs (a.toList.drop i) → Rs σ ys (b.toList.drop i) → fs.length = xs.length →
    ((fs.zipIdx i).all (flatF P) = true) → (Op.eqFields (d + 1) a b fs).run P w = .ok r w
  | [], [], r, a, b, fs, i, he, _, _, hl, _ => by
    simp only [agEq, Option.some.injEq] at he
    subst he
    have : fs = [] := List.length_eq_zero_iff.1 hl
    subst this
    simp [Op.eqFields]
  | x :: xs, y :: ys, r, a, b, [], i, he, _, _, hl, _ => by simp at hl
  | x :: xs, y :: ys, r, a, b, f :: fs, i, he, hx, hy, hl, hf => by
    cases x <;> cases y <;> simp only [agEq] at he <;> try (cases he; done)
    rename_i k n k' n'
    by_cases hk : k = k'
    · subst hk
      simp only [if_true] at he
      cases hr : agEq xs ys with
      | none => simp [hr] at he
      | some e =>
        simp only [hr, Option.some.injEq] at he
        subst he
        simp only [Rs] at hx hy
        obtain ⟨v, m, hv, hv1, hv2⟩ := hx
        obtain ⟨u, l, hu, hu1, hu2⟩ := hy
        have e1 := R_int hv1
        have e2 := R_int hu1
        subst e1 e2
        simp only [List.zipIdx_cons, List.all_cons, Bool.and_eq_true, flatF] at hf
        obtain ⟨⟨⟨h1, h2⟩, h3⟩, h4⟩ := hf
        have h2' := Nat.eq_of_beq_eq_true h2
        have g1 : a[i]? = some (.int k n) := by
          have := congrArg (fun l => l[0]?) hv
          simpa [List.getElem?_drop] using this
        have g2 : b[i]? = some (.int k n') := by
          have := congrArg (fun l => l[0]?) hu
          simpa [List.getElem?_drop] using this
        have ih := agEq_sound (d := d) (a := a) (b := b) (fs := fs) (i := i + 1) hr (by
          have := congrArg List.tail hv
          rw [List.tail_drop] at this
          rw [this]; exact hv2) (by
          have := congrArg List.tail hu
          rw [List.tail_drop] at this
          rw [this]; exact hu2) (by simpa using hl) h4
        have hname : f.name ≠ "_" := by simpa using h1
        split at h3
        · rename_i k2 hty
          have ha : isAggT P f.type = some false := by simp [isAggT, hty]
          have part1 : ∀ (a : Array Value) (v : Value), a[i]? = some v → (part f.type a f.offset).run P w = .ok v w := fun a v hv => by
            rw [h2']
            unfold part
            simp [run_isAgg' ha, hv]
          simp only [Op.eqFields, hname, ne_eq, not_false_eq_true, if_true, Sem.run_bind, part1 _ _ g1, part1 _ _ g2, Result.andThen_ok, run_equalIn_int w d f.type k k2 n n' hty]
          cases hb : (n == n')
          · simp
          · simp only [Bool.true_and, Bool.not_true, Bool.false_eq_true, if_false]
            exact ih
        · cases h3
    · simp [hk] at he
  | [], y :: ys, r, a, b, fs, i, he, _, _, _, _ => by simp [agEq] at he
  | x :: xs, [], r, a, b, fs, i, he, _, _, _, _ => by cases x <;> simp [agEq] at he

theorem agEqA_sound {d : Nat} {e : TypeId} {k0 : IntKind} (hty : P.underlying e = some (.int k0)) : ∀ {xs ys : List AV} {r : Bool} {a b : Array Value} {i : Nat}, agEq xs ys = some r → Rs σ xs (a.toList.drop i) → Rs σ ys (b.toList.drop i) →
    (Op.eqItems (d + 1) e 1 a b (List.range' i xs.length)).run P w = .ok r w
  | [], [], r, a, b, i, he, _, _ => by
    simp only [agEq, Option.some.injEq] at he
    subst he
    simp [Op.eqItems]
  | x :: xs, y :: ys, r, a, b, i, he, hx, hy => by
    cases x <;> cases y <;> simp only [agEq] at he <;> try (cases he; done)
    rename_i k n k' n'
    by_cases hk : k = k'
    · subst hk
      simp only [if_true] at he
      cases hr : agEq xs ys with
      | none => simp [hr] at he
      | some e' =>
        simp only [hr, Option.some.injEq] at he
        subst he
        simp only [Rs] at hx hy
        obtain ⟨v, m, hv, hv1, hv2⟩ := hx
        obtain ⟨u, l, hu, hu1, hu2⟩ := hy
        have e1 := R_int hv1
        have e2 := R_int hu1
        subst e1 e2
        have g1 : a[i]? = some (.int k n) := by
          have := congrArg (fun l => l[0]?) hv
          simpa [List.getElem?_drop] using this
        have g2 : b[i]? = some (.int k n') := by
          have := congrArg (fun l => l[0]?) hu
          simpa [List.getElem?_drop] using this
        have ih := agEqA_sound (d := d) hty (a := a) (b := b) (i := i + 1) hr (by
          have := congrArg List.tail hv
          rw [List.tail_drop] at this
          rw [this]; exact hv2) (by
          have := congrArg List.tail hu
          rw [List.tail_drop] at this
          rw [this]; exact hu2)
        have ha : isAggT P e = some false := by simp [isAggT, hty]
        have part1 : ∀ (a : Array Value) (v : Value), a[i]? = some v → (part e a (i * 1)).run P w = .ok v w := fun a v hv => by
          rw [Nat.mul_one]
          unfold part
          simp [run_isAgg' ha, hv]
        simp only [List.length_cons, List.range'_succ, Op.eqItems, Sem.run_bind, part1 _ _ g1, part1 _ _ g2, Result.andThen_ok, run_equalIn_int w d e k k0 n n' hty]
        cases hb : (n == n')
        · simp
        · simp only [Bool.true_and, Bool.not_true, Bool.false_eq_true, if_false]
          exact ih
    · simp [hk] at he
  | [], y :: ys, r, a, b, i, he, _, _ => by simp [agEq] at he
  | x :: xs, [], r, a, b, i, he, _, _ => by cases x <;> simp [agEq] at he

set_option maxHeartbeats 1000000 in
theorem abEq_sound {t : TypeId} {x y : AV} {r : Bool} (hf : eqFits P t x = true) (he : abEq x y = some r) {u v : Value} (hu : R σ x u) (hv : R σ y v) :
    (Op.equal t u v).run P w = .ok r w ∧ EqOK P w t u v := by
  unfold eqFits at hf
  split at hf
  all_goals first | (cases hf; done) | skip
  case h_11 =>
    rename_i fs cs hd
    cases hn : flatN P t with
    | none => simp [hn] at hf
    | some n =>
      simp only [hn] at hf
      have hf := Nat.eq_of_beq_eq_true hf
      unfold flatN at hn
      rw [hd] at hn
      simp only at hn
      cases hb : (!P.stoodInHeld t && !P.eqGuardType P.depth t && fs.toList.zipIdx.all (flatF P))
      · rw [hb] at hn; cases hn
      · rw [hb] at hn
        simp only [cond_true, Option.some.injEq] at hn
        simp only [Bool.and_eq_true, Bool.not_eq_true'] at hb
        obtain ⟨⟨b1, b2⟩, b3⟩ := hb
        cases y <;> simp only [abEq] at he <;> try (cases he; done)
        simp only [R] at hu hv
        obtain ⟨a, rfl, ha⟩ := hu
        obtain ⟨b, rfl, hb⟩ := hv
        have hfs : P.fieldsOf t = fs := by simp [Program.fieldsOf, hd]
        refine ⟨?_, fun op x y => run_eqGuard_agg w op t x y a b b2, rfl, rfl⟩
        show (Op.equalIn (9999 + 1) t (.agg a) (.agg b)).run P w = _
        rw [run_equalIn_struct w 9999 t a b (by rw [hfs]; exact hd) b1, hfs]
        exact agEq_sound (d := 9998) (i := 0) he (by simpa using ha) (by simpa using hb) (by simp; omega) b3
  case h_12 =>
    rename_i m e cs hd
    cases hn : flatN P t with
    | none => simp [hn] at hf
    | some n =>
      simp only [hn] at hf
      have hf := Nat.eq_of_beq_eq_true hf
      unfold flatN at hn
      rw [hd] at hn
      simp only at hn
      cases hty : P.underlying e with
      | none => simp [hty] at hn
      | some td =>
        cases td <;> simp only [hty, Bool.and_false, Bool.false_and, cond_false] at hn <;> try (cases hn; done)
        rename_i k0
        cases hsz : szOf P e with
        | none => simp [hsz] at hn
        | some sz =>
          simp only [hsz] at hn
          cases hb : (!P.eqGuardType P.depth t && true && Nat.beq sz 1)
          · rw [hb] at hn; cases hn
          · rw [hb] at hn
            simp only [cond_true, Option.some.injEq] at hn
            simp only [Bool.and_eq_true, Bool.not_eq_true', and_true] at hb
            obtain ⟨b2, b3⟩ := hb
            have b3 := Nat.eq_of_beq_eq_true b3
            subst b3
            cases y <;> simp only [abEq] at he <;> try (cases he; done)
            simp only [R] at hu hv
            obtain ⟨a, rfl, ha⟩ := hu
            obtain ⟨b, rfl, hb⟩ := hv
            obtain ⟨i, hi, hsi⟩ : ∃ i, P.info? e = some i ∧ i.size = 1 := by
              simpa [szOf] using hsz
            refine ⟨?_, fun op x y => run_eqGuard_agg w op t x y a b b2, rfl, rfl⟩
            show (Op.equalIn (9999 + 1) t (.agg a) (.agg b)).run P w = _
            rw [run_equalIn_array w 9999 a b hd hi]
            have hc : P.cellsOf e = 1 := by simp [Program.cellsOf, hi, hsi]
            rw [hc, List.range_eq_range', hn, hf]
            exact agEqA_sound (d := 9998) (i := 0) hty he (by simpa using ha) (by simpa using hb)
  all_goals
    rename_i hd
    cases y <;> simp only [abEq, Option.some.injEq] at he
  all_goals first | (cases he; done) | skip
  all_goals
    subst he
    simp only [R] at hu hv
    have fin : ∀ {u v : Value} {r : Bool}, (∀ d, (Op.equalIn (d + 1) t u v).run P w = .ok r w) → refKind u = true → (Op.equal t u v).run P w = .ok r w ∧ EqOK P w t u v := fun a b => ⟨a 9999, EqOK.ref b⟩
    first
      | subst hu
      | (obtain ⟨c, k, hc, rfl, hk⟩ := hu)
      | (obtain ⟨xx, yy, rfl, hk⟩ := hu)
      | (obtain ⟨c, hc, rfl⟩ := hu)
      | (obtain ⟨a0, rfl⟩ := hu)
    first
      | subst hv
      | (obtain ⟨c, k, hc, rfl, hk⟩ := hv)
      | (obtain ⟨xx, yy, rfl, hk⟩ := hv)
      | (obtain ⟨c, hc, rfl⟩ := hv)
      | (obtain ⟨a0, rfl⟩ := hv)
    refine fin ?_ rfl
    intro d
    simp only [Op.equalIn]
    simp [run_underlying hd]

theorem abBin_sound {op : BinOp} {t : TypeId} {x y : AV} {v : AV} (hv : abBin P op t x y = some v) {u u' : Value} (hu : R σ x u) (hu' : R σ y u') (xo yo : Operand) :
    ∃ r, (do eqGuard op t xo yo u u'; binOp op t u u' : Sem Value).run P w = .ok r w ∧ R σ v r := by
  unfold abBin at hv
  split at hv
  · rename_i k a k' b
    have e1 := R_int hu
    have e2 := R_int hu'
    subst e1 e2
    have hg : (eqGuard op t xo yo (.int k a) (.int k' b)).run P w = .ok () w := by
      unfold eqGuard
      cases op <;> simp
    simp only [Sem.run_bind, hg, Result.andThen_ok]
    split at hv
    · obtain ⟨r, h1, h2⟩ := abShift_sound (P := P) (w := w) (σ := σ) (k' := k') hv
      exact ⟨r, by simpa [binOp] using h1, h2⟩
    · obtain ⟨r, h1, h2⟩ := abShift_sound (P := P) (w := w) (σ := σ) (k' := k') hv
      exact ⟨r, by simpa [binOp] using h1, h2⟩
    · rename_i hne1 hne2
      by_cases hk : k = k'
      · subst hk
        simp only [if_true] at hv
        obtain ⟨r, h1, h2⟩ := abInt_sound (P := P) (w := w) (σ := σ) hv
        refine ⟨r, ?_, h2⟩
        rw [← h1]
        cases op <;> simp_all [binOp]
      · simp [hk] at hv
  · rename_i a b
    cases ht : strT P t
    · simp [ht] at hv
    · simp only [ht, cond_true] at hv
      simp only [R] at hu hu'
      subst hu hu'
      have hg : (eqGuard op t xo yo (.string ⟨a.toArray⟩) (.string ⟨b.toArray⟩)).run P w = .ok () w := by
        unfold eqGuard
        cases op <;> simp
      simp only [Sem.run_bind, hg, Result.andThen_ok]
      have hb : binOp op t (.string ⟨a.toArray⟩) (.string ⟨b.toArray⟩) = Op.stringOp op ⟨a.toArray⟩ ⟨b.toArray⟩ := by cases op <;> rfl
      rw [hb]
      have e1 : (⟨a.toArray⟩ : ByteArray).toList = a := by rw [ByteArray.toList_eq]
      have e2 : (⟨b.toArray⟩ : ByteArray).toList = b := by rw [ByteArray.toList_eq]
      cases op <;> simp only [strBin] at hv <;> try (cases hv; done)
      case add =>
        cases hl : Nat.ble (a.length + b.length) 1073741824
        · simp [hl] at hv
        · simp only [hl, cond_true, Option.some.injEq] at hv
          subst hv
          have hl := Nat.le_of_ble_eq_true hl
          have hs : ¬ (((⟨a.toArray⟩ : ByteArray).size + (⟨b.toArray⟩ : ByteArray).size : Nat) : Int) > IntKind.i64.max := by
            have h1 : (⟨a.toArray⟩ : ByteArray).size = a.length := rfl
            have h2 : (⟨b.toArray⟩ : ByteArray).size = b.length := rfl
            rw [h1, h2]
            have : IntKind.i64.max = 9223372036854775807 := by decide
            omega
          refine ⟨.string (⟨a.toArray⟩ ++ ⟨b.toArray⟩), ?_, ?_⟩
          · unfold Op.stringOp
            simp only [hs, if_false, Sem.run_pure]
          · simp only [R]
            congr 1
      all_goals
        cases hv
        refine ⟨_, by unfold Op.stringOp; simp only [Sem.run_pure]; rfl, ?_⟩
        simp only [R, e1, e2]
  · split at hv
    · cases hf : eqFits P t x
      · simp [hf] at hv
      · simp only [hf, cond_true] at hv
        cases he : abEq x y with
        | none => simp [he] at hv
        | some r =>
          simp only [he, Option.map_some, Option.some.injEq] at hv
          subst hv
          obtain ⟨h1, h2⟩ := abEq_sound (P := P) (w := w) hf he hu hu'
          exact ⟨.bool r, by simp only [Sem.run_bind, h2.1, Result.andThen_ok, h2.2.1, h1, Sem.run_pure], by simp [R]⟩
    · cases hf : eqFits P t x
      · simp [hf] at hv
      · simp only [hf, cond_true] at hv
        cases he : abEq x y with
        | none => simp [he] at hv
        | some r =>
          simp only [he, Option.map_some, Option.some.injEq] at hv
          subst hv
          obtain ⟨h1, h2⟩ := abEq_sound (P := P) (w := w) hf he hu hu'
          exact ⟨.bool (!r), by simp only [Sem.run_bind, h2.1, Result.andThen_ok, h2.2.2, h1, Sem.run_pure], by simp [R]⟩
    · cases hv

end
end Go.Abs

namespace Go.Abs
open Go Go.RowKit

section
variable {P : Program} {base : Prot} {σ : Env} {w : World} {h : Hp} {n : Nat} {f : Nat → AV} {a : Act}

theorem idx?_spec {x : AV} {k : Nat} (hk : idx? x = some k) {v : Value} (hv : R σ x v) : ∃ kd i, v = .int kd i ∧ 0 ≤ i ∧ i.toNat = k := by
  cases x <;> simp only [idx?] at hk
  case int kd i =>
    by_cases hi : 0 ≤ i
    · simp only [hi, if_true, Option.some.injEq] at hk
      exact ⟨kd, i, R_int hv, hi, hk⟩
    · simp [hi] at hk
  all_goals cases hk

theorem int?_spec {x : AV} {k : Int} (hk : int? x = some k) {v : Value} (hv : R σ x v) : ∃ kd, v = .int kd k := by
  cases x <;> simp only [int?] at hk
  case int kd i =>
    simp only [Option.some.injEq] at hk
    exact ⟨kd, by rw [R_int hv, hk]⟩
  all_goals cases hk

theorem fieldPlaces_spec : ∀ {fs : List Field} {pl : List (Nat × Nat)}, fieldPlaces P fs = some pl → ∀ (w : World), ∃ qs : List (Nat × Nat),
    (fs.mapM (fun f => do pure (f.offset, ← sizeOf f.type) : Field → Sem (Nat × Nat))).run P w = .ok qs w ∧ qs = pl
  | [], pl, hp, w => by
    simp only [fieldPlaces, Option.some.injEq] at hp
    exact ⟨[], by simp, hp⟩
  | f :: r, pl, hp, w => by
    simp only [fieldPlaces] at hp
    split at hp
    · rename_i n l hn hl
      cases hp
      obtain ⟨qs, h1, rfl⟩ := fieldPlaces_spec hl w
      refine ⟨(f.offset, n) :: qs, ?_, rfl⟩
      simp only [List.mapM_cons, Sem.run_bind, run_sizeOf' hn, Result.andThen_ok, Sem.run_pure]
      rw [h1]
      rfl
    · cases hp

theorem parts_eval' (hf : FR σ n f a.tmps) (ps : Array (Nat × Operand)) :
    (ps.toList.map fun p => (p.1, ev f p.2)).map (·.1) = (ps.map fun (x : Nat × Operand) => (x.1, a.eval x.2)).toList.map (·.1) ∧
    Rs σ ((ps.toList.map fun p => (p.1, ev f p.2)).map (·.2)) ((ps.map fun (x : Nat × Operand) => (x.1, a.eval x.2)).toList.map (·.2)) := by
  refine ⟨by simp, ?_⟩
  simp only [Array.toList_map, List.map_map]
  exact Rs.map _ _ fun x _ => ev_sound hf x.2

theorem move_sound (H : HR σ base h w) (hf : FR σ n f a.tmps) (x : Operand) : OkS P base σ w (pure (.value (a.eval x))) (ev f x) h :=
  .pure H (by simp) (ev_sound hf x)

theorem alloc_sound (H : HR σ base h w) (hb : base.fit w.heap.size) {t : TypeId} {cs : List AV} (hz : zeroCells P t = some cs) :
    OkV P base σ w (Instr.alloc t true (.tuple #[])) (.ptr (h.new cs).1 0) (h.new cs).2 := by
  obtain ⟨i, z, hi, hz', hr⟩ := zeroCells_spec hz
  obtain ⟨k1, k2⟩ := H.new hb t (hr σ)
  refine ⟨.pointer (some ⟨w.heap.size, 0, none⟩), w.alloc (.cells z.cells t), _, ?_, ?_, k2, k1, Fw.alloc hb _⟩
  · simp [Instr.alloc, run_zeroValue' hi hz', newVar, newRow]
  · simp only [R]
    exact ⟨_, upd_same _ _ _, by simp⟩

theorem box_sound (H : HR σ base h w) (hb : base.fit w.heap.size) {t : TypeId} {x : AV} {cs : List AV} (hp : x.parts = some cs) {v : Value} (hv : R σ x v) :
    OkV P base σ w (Instr.box t v) (.ptr (h.new cs).1 0) (h.new cs).2 := by
  obtain ⟨k1, k2⟩ := H.new hb t (R.parts hp hv)
  refine ⟨.pointer (some ⟨w.heap.size, 0, none⟩), w.alloc (.cells v.cells t), _, ?_, ?_, k2, k1, Fw.alloc hb _⟩
  · simp [Instr.box, newVar, newRow]
  · simp only [R]
    exact ⟨_, upd_same _ _ _, by simp⟩

theorem build_struct_sound (H : HR σ base h w) (hf : FR σ n f a.tmps) {t : TypeId} {fs : Array Field} {z : List AV} {pl : List (Nat × Nat)} {ps : Array (Nat × Operand)} {cs : List AV}
    (hu : P.underlying t = some (.struct fs)) (hz : zeroCells P t = some z) (hp : fieldPlaces P fs.toList = some pl)
    (hc : fillA (pl[·]?) z (ps.toList.map fun p => (p.1, ev f p.2)) = some cs) :
    OkV P base σ w (Instr.build t (ps.map fun (i, x) => (i, a.eval x))) (.ag cs) h := by
  obtain ⟨i, zv, hi, hz', hr⟩ := zeroCells_spec hz
  obtain ⟨qs, h1, rfl⟩ := fieldPlaces_spec (P := P) hp w
  obtain ⟨e1, e2⟩ := parts_eval' (σ := σ) hf ps
  obtain ⟨r, h2, h3⟩ := fill_sound (pa := (qs[·]?)) (pl := (qs.toArray[·]?)) (fun i x hx => by simpa using hx) e1 e2 (hr σ) hc
  refine .pure H (u := .agg r) ?_ (by simp only [R]; exact ⟨r, rfl, h3⟩)
  have h1' : (fs.mapM (fun f => do pure (f.offset, ← sizeOf f.type) : Field → Sem (Nat × Nat))).run P w = .ok qs.toArray w := by
    rw [Array.mapM_eq_mapM_toList]
    simp only [Sem.run_map, h1, Result.andThen_ok]
  simp only [Instr.build, Sem.run_bind, run_zeroValue' hi hz', Result.andThen_ok, run_underlying hu, h1']
  rw [h2]
  simp

theorem build_array_sound (H : HR σ base h w) (hf : FR σ n f a.tmps) {t e : TypeId} {len m : Nat} {z : List AV} {ps : Array (Nat × Operand)} {cs : List AV}
    (hu : P.underlying t = some (.array len e)) (hz : zeroCells P t = some z) (hm : szOf P e = some m)
    (hc : fillA (fun i => some (i * m, m)) z (ps.toList.map fun p => (p.1, ev f p.2)) = some cs) :
    OkV P base σ w (Instr.build t (ps.map fun (i, x) => (i, a.eval x))) (.ag cs) h := by
  obtain ⟨i, zv, hi, hz', hr⟩ := zeroCells_spec hz
  obtain ⟨e1, e2⟩ := parts_eval' (σ := σ) hf ps
  obtain ⟨r, h2, h3⟩ := fill_sound (pa := fun i => some (i * m, m)) (pl := fun i => some (i * m, m)) (fun i x hx => hx) e1 e2 (hr σ) hc
  refine .pure H (u := .agg r) ?_ (by simp only [R]; exact ⟨r, rfl, h3⟩)
  simp only [Instr.build, Sem.run_bind, run_zeroValue' hi hz', Result.andThen_ok, run_underlying hu, run_sizeOf' hm]
  rw [h2]
  simp

theorem buildSlice_sound (H : HR σ base h w) (hb : base.fit w.heap.size) (hf : FR σ n f a.tmps) {t e : TypeId} {len m : Nat} {z : List AV} {ps : Array (Nat × Operand)} {cs : List AV}
    (hu : P.underlying t = some (.slice e)) (hz : zeroCells P e = some z) (hm : szOf P e = some m) (hle : len * m ≤ 16777216) (hl : z.length = m)
    (hc : fillA (fun i => some (i * m, m)) (repl z len) (ps.toList.map fun p => (p.1, ev f p.2)) = some cs) :
    OkV P base σ w (Instr.buildSlice t len (ps.map fun (i, x) => (i, a.eval x))) (.sl (h.new cs).1 0 len (some len) m) (h.new cs).2 := by
  obtain ⟨i, zv, hi, hz', hr⟩ := zeroCells_spec hz
  obtain ⟨e1, e2⟩ := parts_eval' (σ := σ) hf ps
  have hz0 : Rs σ (repl z len) ((Array.range (len * m)).map ((if len * m = 0 then #[] else zv.cells)[· % (if len * m = 0 then #[] else zv.cells).size]!)).toList := by
    by_cases h0 : len * m = 0
    · have : repl z len = [] := List.eq_nil_of_length_eq_zero (by rw [repl_length, hl, h0])
      rw [this, h0]
      simp [Rs]
    · simp only [h0, if_false]
      exact repl_sound (hr σ) len (len * m) (by rw [hl])
  obtain ⟨r, h2, h3⟩ := fill_sound (pa := fun i => some (i * m, m)) (pl := fun i => some (i * m, m)) (fun i x hx => hx) e1 e2 hz0 hc
  obtain ⟨k1, k2⟩ := H.new hb e h3
  refine ⟨.slice (some ⟨w.heap.size, 0, none⟩) len len, w.alloc (.cells r e), _, ?_, ?_, k2, k1, Fw.alloc hb _⟩
  · have hng : ¬ (len * m > 2 ^ 24) := by omega
    by_cases h0 : len * m = 0
    · have hng0 : ¬ (0 > 2 ^ 24) := by omega
      simp only [h0, if_true] at h2
      simp only [Instr.buildSlice, Sem.run_bind, run_underlying hu, Result.andThen_ok, run_sizeOf' hm, h0, hng0, if_false, Sem.run_pure, newRow, run_newObj, if_true, h2]
      rfl
    · simp only [h0, if_false] at h2
      simp only [Instr.buildSlice, Sem.run_bind, run_underlying hu, Result.andThen_ok, run_sizeOf' hm, hng, if_false, Sem.run_pure, newRow, run_newObj, h0, run_zeroValue' hi hz', h2]
      rfl
  · simp only [R]
    exact ⟨_, len, upd_same _ _ _, by simp, Nat.le_refl _, rfl⟩

theorem load_sound (H : HR σ base h w) {t : TypeId} {id off : Nat} {b : Blk} {v : AV} (hb : lkB h.blks id = some b) (hr : rdVar P b.cells t off = some v) {u : Value} (hu : R σ (.ptr id off) u) :
    OkV P base σ w (Instr.loadAt t u) v h := by
  simp only [R] at hu
  obtain ⟨c, hc, rfl⟩ := hu
  obtain ⟨x, h1, h2⟩ := run_loadVar' (P := P) H hb hc hr
  exact .pure H (by simpa [Instr.loadAt, Instr.sureAddr] using h1) h2

theorem store_sound (H : HR σ base h w) {t : TypeId} {id off m : Nat} {x : AV} {vs : List AV} {h' : Hp} (hp : x.parts = some vs) (hm : szOf P t = some m) (hl : vs.length = m)
    (hw : h.write id off vs = some h') {u v : Value} (hu : R σ (.ptr id off) u) (hv : R σ x v) :
    OkS P base σ w (do Instr.storeAt t u v; pure .skip) .any h' := by
  simp only [R] at hu
  obtain ⟨c, hc, rfl⟩ := hu
  obtain ⟨w', h1, h2, h3⟩ := run_storeVar' (P := P) H hp hm hl hw hc hv
  exact ⟨.skip, undef, w', σ, by simp [Instr.storeAt, Instr.sureAddr, h1], rfl, R_any, .refl _, h2, h3⟩

theorem makeSlice_sound (H : HR σ base h w) (hb : base.fit w.heap.size) {t e : TypeId} {m : Nat} {z : List AV} {l c : Int} {kl kc : IntKind}
    (hu : P.underlying t = some (.slice e)) (hz : zeroCells P e = some z) (hm : szOf P e = some m) (h0 : 0 ≤ l) (h1 : l ≤ c) (h2 : c ≤ 1048576) (hl : z.length = m) (hby : (bytesOf P e).any (· ≤ 1048576) = true) :
    OkV P base σ w (Instr.makeSlice t (.int kl l) (.int kc c)) (.sl (h.new (repl z c.toNat)).1 0 l.toNat (some c.toNat) m) (h.new (repl z c.toNat)).2 := by
  obtain ⟨i, zv, hi, hz', hr⟩ := zeroCells_spec hz
  obtain ⟨i', hi', rfl⟩ := szOf_spec hm
  rw [hi] at hi'
  cases hi'
  have hby' : i.bytes ≤ 1048576 := by simpa [bytesOf, hi] using hby
  have hwl : IntKind.i64.wrap l = l := by simp [IntKind.wrap, IntKind.bits, IntKind.signed]; omega
  have hwc : IntKind.i64.wrap c = c := by simp [IntKind.wrap, IntKind.bits, IntKind.signed]; omega
  have hz0 : Rs σ (repl z c.toNat) ((Array.range (c.toNat * i.size)).map ((if c.toNat * i.size = 0 then #[] else zv.cells)[· % (if c.toNat * i.size = 0 then #[] else zv.cells).size]!)).toList := by
    by_cases h0 : c.toNat * i.size = 0
    · have : repl z c.toNat = [] := List.eq_nil_of_length_eq_zero (by rw [repl_length, hl, h0])
      rw [this, h0]
      simp [Rs]
    · simp only [h0, if_false]
      exact repl_sound (hr σ) c.toNat _ (by rw [hl])
  obtain ⟨k1, k2⟩ := H.new hb e hz0
  refine ⟨.slice (some ⟨w.heap.size, 0, none⟩) l.toNat c.toNat, _, _, ?_, ?_, k2, k1, Fw.alloc hb _⟩
  · skip
    have hbig : ¬ ((i.bytes : Int) * c > 281474976710656) := by
      have hcc : c = (c.toNat : Int) := by omega
      have h3 : i.bytes * c.toNat ≤ 1048576 * 1048576 := Nat.mul_le_mul hby' (by omega)
      rw [hcc, ← Int.natCast_mul]
      omega
    have hneg : ¬ (c < 0) := by omega
    have hl0 : ¬ (l < 0) := by omega
    have hlc : ¬ (l > c) := by omega
    have ht : ((decide (c < 0) || decide ((i.bytes : Int) * c > 2 ^ 48)) || decide (l < 0) || decide (l > c)) = false := by
      simp [hneg, hl0]
      omega
    by_cases h0 : c.toNat * i.size = 0
    · simp only [Instr.makeSlice, Sem.run_bind, run_underlying hu, Result.andThen_ok, asInt, asIntOf, Sem.run_pure, run_typeInfo w hi, hwl, hwc, ht, Bool.false_eq_true, if_false, run_askRoom,
        run_sizeOf' hm, h0, if_true, newRow, run_newObj]
      rfl
    · simp only [Instr.makeSlice, Sem.run_bind, run_underlying hu, Result.andThen_ok, asInt, asIntOf, Sem.run_pure, run_typeInfo w hi, hwl, hwc, ht, Bool.false_eq_true, if_false, run_askRoom,
        run_sizeOf' hm, h0, run_zeroValue' hi hz', newRow, run_newObj]
      rfl
  · simp only [R]
    exact ⟨_, c.toNat, upd_same _ _ _, by simp, by omega, rfl⟩

end
end Go.Abs
