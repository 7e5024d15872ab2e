/- Regions whose order is drawn (1): what the checks say. Regions whose order is drawn (2): operations that leave the heap alone. New variables that come up early: what is needed of the heap. Regions whose order is drawn (3): whatever the order, the outcome is that of the text. Regions whose order is drawn (4): the whole region. Statements, calls, rounds: the interpreter is sound. The interpreter of statements is sound. -/
import Derived.Test.YtelalpohbodolaaDoorJ
set_option linter.unusedSimpArgs false
set_option linter.unusedVariables false
namespace Go.Abs
open Go Go.RowKit


/-! ### The sets of what comes before -/
theorem fold_bits {b : Edge → Bool} {acc : List Nat} {j : Nat} : ∀ (l : List Edge) (s : Nat), Nat.testBit (l.foldl (fun s e => bif b e then s ||| 2 ^ e.on ||| acc.getD e.on 0 else s) s) j = true →
    Nat.testBit s j = true ∨ ∃ e ∈ l, b e = true ∧ (e.on = j ∨ Nat.testBit (acc.getD e.on 0) j = true)
  | [], s, h => .inl h
  | e :: l, s, h => by
    simp only [List.foldl_cons] at h
    rcases fold_bits l _ h with h1 | ⟨e', h1, h2⟩
    · cases hb : b e
      · simp only [hb, cond_false] at h1
        exact .inl h1
      · simp only [hb, cond_true, Nat.testBit_or, Bool.or_eq_true, Nat.testBit_two_pow, decide_eq_true_eq] at h1
        rcases h1 with (h1 | h1) | h1
        · exact .inl h1
        · exact .inr ⟨e, by simp, hb, .inl h1⟩
        · exact .inr ⟨e, by simp, hb, .inr h1⟩
    · exact .inr ⟨e', by simp [h1], h2⟩

theorem clos_prefix : ∀ (l : List Oper) (acc : List Nat), ∃ s, clos l acc = acc ++ s
  | [], acc => ⟨[], by simp [clos]⟩
  | o :: l, acc => by
    simp only [clos]
    obtain ⟨s, hs⟩ := clos_prefix l (acc ++ [o.after.toList.foldl (fun s e => bif Region.binds .any e then s ||| 2 ^ e.on ||| acc.getD e.on 0 else s) 0])
    exact ⟨_ :: s, by rw [hs, List.append_assoc]; rfl⟩

theorem clos_spec : ∀ (l : List Oper) (acc : List Nat) (k : Nat) (o : Oper), l[k]? = some o → ∀ j, Nat.testBit ((clos l acc).getD (acc.length + k) 0) j = true →
    ∃ e ∈ o.after.toList, Region.binds .any e = true ∧ (e.on = j ∨ Nat.testBit ((clos l acc).getD e.on 0) j = true)
  | [], acc, k, o, h, _, _ => by simp at h
  | o' :: l, acc, k, o, h, j, hj => by
    simp only [clos] at hj ⊢
    generalize hx : o'.after.toList.foldl (fun s e => bif Region.binds .any e then s ||| 2 ^ e.on ||| acc.getD e.on 0 else s) 0 = x at hj ⊢
    cases k with
    | zero =>
      simp only [List.getElem?_cons_zero, Option.some.injEq] at h
      subst h
      obtain ⟨s, hs⟩ := clos_prefix l (acc ++ [x])
      rw [hs] at hj ⊢
      have h0 : (acc ++ [x] ++ s).getD (acc.length + 0) 0 = x := by simp [List.getD]
      rw [h0] at hj
      rw [← hx] at hj
      rcases fold_bits _ _ hj with h1 | ⟨e, h1, h2, h3⟩
      · simp at h1
      · refine ⟨e, h1, h2, h3.imp id fun h4 => ?_⟩
        have hlt : e.on < acc.length := by
          rcases Nat.lt_or_ge e.on acc.length with h5 | h5
          · exact h5
          · simp [List.getD, List.getElem?_eq_none h5] at h4
        have : (acc ++ [x] ++ s).getD e.on 0 = acc.getD e.on 0 := by
          simp only [List.getD, List.append_assoc]
          rw [List.getElem?_append_left hlt]
        rw [this]
        exact h4
    | succ k =>
      simp only [List.getElem?_cons_succ] at h
      have := clos_spec l (acc ++ [x]) k o h j (by simpa [Nat.add_assoc, Nat.add_comm 1 k] using hj)
      exact this

structure Ord (ops : Array Oper) (cl : List Nat) : Prop where
  edge : ∀ {i : Nat} {o : Oper}, ops[i]? = some o → ∀ e ∈ o.after.toList, Region.binds .any e = true → e.on < i
  clo : ∀ {i : Nat} {o : Oper}, ops[i]? = some o → ∀ {j}, Nat.testBit (cl.getD i 0) j = true → ∃ e ∈ o.after.toList, Region.binds .any e = true ∧ (e.on = j ∨ Nat.testBit (cl.getD e.on 0) j = true)
  one : ∀ {i j : Nat} {o d : Oper} {t : Nat}, ops[i]? = some o → ops[j]? = some d → i ≠ j → d.dst = some t → o.dst ≠ some t ∧ (t ∈ reads ops o → Nat.testBit (cl.getD i 0) j = true ∨ Nat.testBit (cl.getD j 0) i = true)
  eff : ∀ {i j : Nat} {o d : Oper}, ops[i]? = some o → ops[j]? = some d → isEff o = true → isEff d = true → j < i → isFloat o = false → Nat.testBit (cl.getD i 0) j = true
  flo : ∀ {i j k : Nat} {d e o : Oper} {t : Nat}, ops[i]? = some d → ops[j]? = some e → ops[k]? = some o → isFloat d = true → d.dst = some t → t ∈ reads ops o → isEff e = true → j < i → Nat.testBit (cl.getD k 0) j = true

theorem all_zipIdx {α : Type} {l : List α} {p : α × Nat → Bool} (h : l.zipIdx.all p = true) {i : Nat} {x : α} (hx : l[i]? = some x) : p (x, i) = true := by
  have := List.all_eq_true.1 h (x, i) (by
    rw [List.mem_zipIdx_iff_getElem?]
    simpa using hx)
  exact this

theorem orderOK_spec {ops : Array Oper} (h : orderOK ops (clos ops.toList []) = true) : Ord ops (clos ops.toList []) := by
  simp only [orderOK, Bool.and_eq_true] at h
  obtain ⟨⟨⟨h1, h2⟩, h3⟩, h0⟩ := h
  refine ⟨fun {i o} ho e he hb => ?_, fun {i o} ho {j} hj => ?_, fun {i j o d t} ho hd hij ht => ?_, fun {i j o d} ho hd heo hed hji hfl => ?_, fun {i j k d e o t} hd he ho hfl ht hm hee hji => ?_⟩
  · have := all_zipIdx h1 (i := i) (x := o) (by simpa using ho)
    simp only [List.all_eq_true, Bool.or_eq_true, Bool.not_eq_true'] at this
    rcases this e he with h | h
    · rw [hb] at h; cases h
    · exact Nat.le_of_ble_eq_true h
  · have := clos_spec ops.toList [] i o (by simpa using ho) j (by simpa using hj)
    exact this
  · have h4 := all_zipIdx h2 (i := j) (x := d) (by simpa using hd)
    simp only [ht] at h4
    have h5 := all_zipIdx h4 (i := i) (x := o) (by simpa using ho)
    simp only [nb hij, Bool.false_or, Bool.and_eq_true, Bool.or_eq_true, Bool.not_eq_true', beq_eq_false_iff_ne, ne_eq] at h5
    refine ⟨h5.1, fun hm => ?_⟩
    rcases h5.2 with (h6 | h6) | h6
    · have : (reads ops o).elem t = true := List.elem_eq_true_of_mem hm
      rw [this] at h6
      cases h6
    · exact .inl h6
    · exact .inr h6
  · have h4 := all_zipIdx h3 (i := j) (x := d) (by simpa using hd)
    simp only [hed, Bool.not_true, Bool.false_or] at h4
    have h5 := all_zipIdx h4 (i := i) (x := o) (by simpa using ho)
    simp only [heo, hfl, Bool.not_true, Bool.false_or, Bool.or_false, Bool.or_eq_true] at h5
    rcases h5 with h5 | h5
    · have := Nat.le_of_ble_eq_true h5; omega
    · exact h5
  · have h4 := all_zipIdx h0 (i := i) (x := d) (by simpa using hd)
    simp only [hfl, ht, Bool.not_true, Bool.false_or] at h4
    have h5 := all_zipIdx h4 (i := k) (x := o) (by simpa using ho)
    simp only [List.elem_eq_true_of_mem hm, Bool.not_true, Bool.false_or] at h5
    have h6 := all_zipIdx h5 (i := j) (x := e) (by simpa using he)
    simp only [hee, Bool.not_true, Bool.false_or, Bool.or_eq_true] at h6
    rcases h6 with h6 | h6
    · have := Nat.le_of_ble_eq_true h6; omega
    · exact h6

theorem Ord.lt {ops : Array Oper} {cl : List Nat} (O : Ord ops cl) : ∀ (i : Nat) {o : Oper}, ops[i]? = some o → ∀ {j}, Nat.testBit (cl.getD i 0) j = true → j < i := by
  intro i
  induction i using Nat.strongRecOn with
  | _ i ih =>
    intro o ho j hj
    obtain ⟨e, he, hb, h⟩ := O.clo ho hj
    have hlt := O.edge ho e he hb
    rcases h with h | h
    · omega
    · have hs : i < ops.size := (Array.getElem?_eq_some_iff.1 ho).1
      have := ih e.on hlt (Array.getElem?_eq_getElem (by omega)) h
      omega

/-! ### The record of the order of the text -/
section
variable {P : Program} {call : CallF} {n : Nat} {ops : Array Oper} {fr : Fr}

def TM (rs : List Rec) (tm' : Fr) (k : Nat) : Fr := ((rs[k]?).map (·.tm)).getD tm'
def HA (rs : List Rec) (h' : Hp) (k : Nat) : Hp := ((rs[k]?).map (·.h)).getD h'

structure Step1 (P : Program) (call : CallF) (n : Nat) (ops : Array Oper) (fr : Fr) (rs : List Rec) (tm' : Fr) (h' : Hp) (i k : Nat) (r : Rec) : Prop where
  op : ops[i + k]? = some r.o
  dst : ∀ d, r.o.dst = some d → d < n
  yes : r.w = true → want? ops (msk (reads ops r.o) (look r.tm fr)) r.o = some true ∧ exec1 P call (msk (reads ops r.o) (look r.tm fr)) r.h r.o = some (r.v, HA rs h' (k + 1))
  no : r.w = false → want? ops (msk (reads ops r.o) (look r.tm fr)) r.o = some false ∧ r.v = .tu [] ∧ HA rs h' (k + 1) = r.h
  tm : ∀ t, look (TM rs tm' (k + 1)) fr t = if r.o.dst = some t then r.v else look r.tm fr t

theorem putT_look {d : Option Nat} {v : AV} {tm tm1 : Fr} (h : putT n d v tm = some tm1) : (∀ x, d = some x → x < n) ∧ ∀ t, look tm1 fr t = if d = some t then v else look tm fr t := by
  unfold putT at h
  cases d with
  | none =>
    simp only [Option.some.injEq] at h
    subst h
    exact ⟨fun x hx => (nomatch hx), fun t => by rw [if_neg (fun h => (nomatch h))]⟩
  | some d =>
    simp only at h
    cases hd : Nat.blt d n
    · simp [hd] at h
    · simp only [hd, cond_true, Option.some.injEq] at h
      subst h
      refine ⟨fun x hx => by cases hx; exact Nat.le_of_ble_eq_true hd, fun t => ?_⟩
      rw [look_cons]
      by_cases e : t = d
      · subst e; simp
      · rw [if_neg e, if_neg (fun h => e (by cases h; rfl))]

theorem trace_spec : ∀ (l : List Oper) (i : Nat) (tm : Fr) (h : Hp) (rs : List Rec) (tm' : Fr) (h' : Hp), l = ops.toList.drop i → traceOps P call n ops fr l tm h = some (rs, tm', h') →
    rs.length = l.length ∧ TM rs tm' 0 = tm ∧ HA rs h' 0 = h ∧ ∀ (k : Nat) (r : Rec), rs[k]? = some r → Step1 P call n ops fr rs tm' h' i k r
  | [], i, tm, h, rs, tm', h', _, hs => by
    simp only [traceOps, Option.some.injEq, Prod.mk.injEq] at hs
    obtain ⟨rfl, rfl, rfl⟩ := hs
    exact ⟨rfl, rfl, rfl, fun k r hk => by simp at hk⟩
  | o :: rest, i, tm, h, rs, tm', h', hl, hs => by
    have ho : ops[i]? = some o := by
      have := congrArg List.head? hl
      simpa [List.head?_drop] using this.symm
    have hrest : rest = ops.toList.drop (i + 1) := by
      have := congrArg List.tail hl
      simpa [List.tail_drop] using this
    simp only [traceOps] at hs
    -- both ways end alike
    have fin : ∀ (wb : Bool) (v : AV) (tm1 : Fr) (h1 : Hp) (rs1 : List Rec), putT n o.dst v tm = some tm1 → traceOps P call n ops fr rest tm1 h1 = some (rs1, tm', h') →
        rs = { o, w := wb, v, tm, h } :: rs1 → (wb = true → want? ops (msk (reads ops o) (look tm fr)) o = some true ∧ exec1 P call (msk (reads ops o) (look tm fr)) h o = some (v, h1)) →
        (wb = false → want? ops (msk (reads ops o) (look tm fr)) o = some false ∧ v = .tu [] ∧ h1 = h) →
        rs.length = (o :: rest).length ∧ TM rs tm' 0 = tm ∧ HA rs h' 0 = h ∧ ∀ (k : Nat) (r : Rec), rs[k]? = some r → Step1 P call n ops fr rs tm' h' i k r := fun wb v tm1 h1 rs1 hp ht he hy hn => by
      obtain ⟨i1, i2, i3, i4⟩ := trace_spec rest (i + 1) tm1 h1 rs1 tm' h' hrest ht
      subst he
      refine ⟨by simp [i1], by simp [TM], by simp [HA], fun k r hk => ?_⟩
      obtain ⟨p1, p2⟩ := putT_look (fr := fr) hp
      cases k with
      | zero =>
        simp only [List.getElem?_cons_zero, Option.some.injEq] at hk
        subst hk
        have e1 : HA ({ o, w := wb, v, tm, h } :: rs1) h' (0 + 1) = h1 := by rw [← i3]; simp [HA]
        have e2 : TM ({ o, w := wb, v, tm, h } :: rs1) tm' (0 + 1) = tm1 := by rw [← i2]; simp [TM]
        exact ⟨by simpa using ho, p1, fun hw => by rw [e1]; exact hy hw, fun hw => by rw [e1]; exact hn hw, fun t => by rw [e2]; exact p2 t⟩
      | succ k =>
        simp only [List.getElem?_cons_succ] at hk
        obtain ⟨s1, s2, s3, s4, s5⟩ := i4 k r hk
        have e1 : HA ({ o, w := wb, v, tm, h } :: rs1) h' (k + 1 + 1) = HA rs1 h' (k + 1) := by simp [HA]
        have e2 : TM ({ o, w := wb, v, tm, h } :: rs1) tm' (k + 1 + 1) = TM rs1 tm' (k + 1) := by simp [TM]
        exact ⟨by rw [show i + (k + 1) = i + 1 + k by omega]; exact s1, s2, fun hw => by rw [e1]; exact s3 hw, fun hw => by rw [e1]; exact s4 hw, fun t => by rw [e2]; exact s5 t⟩
    split at hs
    · rename_i hw
      split at hs
      · rename_i v h1 hex
        split at hs
        · rename_i tm1 hp
          split at hs
          · rename_i rs1 x ht
            obtain ⟨tmx, hx⟩ := x
            simp only [Option.some.injEq, Prod.mk.injEq] at hs
            obtain ⟨hs1, rfl, rfl⟩ := hs
            exact fin true v tm1 h1 rs1 hp ht hs1.symm (fun _ => ⟨hw, hex⟩) (fun h => by cases h)
          · cases hs
        · cases hs
      · cases hs
    · rename_i hw
      split at hs
      · rename_i tm1 hp
        split at hs
        · rename_i rs1 x ht
          obtain ⟨tmx, hx⟩ := x
          simp only [Option.some.injEq, Prod.mk.injEq] at hs
          obtain ⟨hs1, rfl, rfl⟩ := hs
          exact fin false (.tu []) tm1 h rs1 hp ht hs1.symm (fun h => by cases h) (fun _ => ⟨hw, rfl, rfl⟩)
        · cases hs
      · cases hs
    · cases hs

end
end Go.Abs

namespace Go.Abs
open Go Go.RowKit

section
variable {P : Program} {call : CallF} {f : Nat → AV}

theorem map_snd {x : Option AV} {h h2 : Hp} : (x.map fun v => (v, h2)) = (x.map fun v => (v, h)).map fun p => (p.1, h2) := by cases x <;> rfl

theorem aLkp_heap {kt : KT} {z : AV} {ok : Bool} {h h' : Hp} {a m v : AV} (hs : aLkp kt z ok h a m = some (v, h')) : h' = h := by
  cases m <;> simp only [aLkp] at hs <;> try (cases hs; done)
  · split at hs
    · rename_i ents hg
      cases hf : (keyFit kt a && ents.all fun e => keyFit kt e.1)
      · simp [hf] at hs
      · simp only [hf, cond_true, Option.some.injEq, Prod.mk.injEq] at hs
        exact hs.2.symm
    · cases hs
  · cases hf : keyFit kt a
    · simp [hf] at hs
    · simp only [hf, cond_true, Option.some.injEq, Prod.mk.injEq] at hs
      exact hs.2.symm

theorem aLenM_heap {h h' : Hp} {m v : AV} (hs : aLenM h m = some (v, h')) : h' = h := by
  cases m <;> simp only [aLenM] at hs <;> try (cases hs; done)
  · rename_i id
    cases hg : getM h id with
    | none => simp [hg] at hs
    | some ents =>
      simp only [hg, Option.map_some, Option.some.injEq, Prod.mk.injEq] at hs
      exact hs.2.symm
  · cases hs; rfl

theorem step1_indep (h h2 : Hp) (o : Oper) (he : isEff o = false) (hr : isRead o = false) : step1 P f h2 o.op = (step1 P f h o.op).map fun p => (p.1, h2) := by
  unfold isEff at he
  unfold isRead at hr
  generalize o.op = op at he hr ⊢
  cases op <;> simp only at he hr <;> first | (cases he; done) | (cases hr; done) | skip
  case slice t x lo hi mx =>
    cases mx with
    | some m =>
      cases hi with
      | none => rfl
      | some hi =>
        simp only [step1, Bool.cond_eq_ite]
        repeat' split
        all_goals first | rfl | simp_all
    | none =>
      simp only [step1, Bool.cond_eq_ite]
      repeat' split
      all_goals first | rfl | simp_all
  all_goals
    simp only [step1, Bool.cond_eq_ite]
    repeat' split
    all_goals first | rfl | exact map_snd | (simp only [Option.map_map]; rfl) | simp_all

theorem step1_quiet {h h1 : Hp} {v : AV} (o : Oper) (he : isEff o = false) (hs : step1 P f h o.op = some (v, h1)) : h1 = h := by
  cases hr : isRead o
  · have := step1_indep (P := P) (f := f) h h o he hr
    rw [hs] at this
    simp only [Option.map_some, Option.some.injEq, Prod.mk.injEq, true_and] at this
    exact this
  · unfold isEff at he
    unfold isRead at hr
    generalize o.op = op at he hr hs
    cases op <;> simp only at he hr <;> first | (cases he; done) | (cases hr; done) | skip
    case load =>
      simp only [step1] at hs
      split at hs
      · split at hs
        · simp only [Option.map_eq_some_iff, Prod.mk.injEq] at hs
          obtain ⟨_, _, _, e⟩ := hs
          exact e.symm
        · cases hs
      · cases hs
    case lookup =>
      simp only [step1] at hs
      split at hs
      · split at hs
        · exact aLkp_heap hs
        · cases hs
      · cases hs
    all_goals (simp only [step1] at hs; cases hs)

theorem exec1_quiet {h h1 : Hp} {v : AV} (o : Oper) (he : isEff o = false) (hs : exec1 P call f h o = some (v, h1)) : h1 = h := by
  unfold exec1 at hs
  split at hs
  · rename_i c hop
    simp only [isEff, hop] at he
    split at hs
    · rename_i b hb
      rw [hb] at he
      cases b <;> simp only at he <;> first | (cases he; done) | skip
      all_goals
        simp only [builtin1] at hs
        repeat' split at hs
        all_goals first | (cases hs; done) | (simp only [Option.some.injEq, Prod.mk.injEq] at hs; exact hs.2.symm) | exact aLenM_heap hs
    · rename_i g hg
      rw [hg] at he
      cases he
    · cases hs
  · exact step1_quiet o he hs

theorem exec1_indep {h h1 : Hp} {v : AV} (o : Oper) (he : isEff o = false) (hr : isRead o = false) (hs : exec1 P call f h o = some (v, h1)) (h2 : Hp) : exec1 P call f h2 o = some (v, h2) := by
  unfold exec1 at hs ⊢
  split at hs
  · rename_i c hop
    simp only [isEff, isRead, hop] at he hr
    split at hs
    · rename_i b hb
      rw [hb] at he hr
      cases b <;> simp only at he hr <;> first | (cases he; done) | (cases hr; done) | skip
      all_goals
        simp only [builtin1] at hs ⊢
        repeat' split at hs
        all_goals first | (cases hs; done) | skip
        all_goals
          first
            | (simp only [Option.some.injEq, Prod.mk.injEq] at hs; simp_all; done)
            | (rename_i hk _ _; obtain ⟨rfl, rfl⟩ := hk; simp only [Option.some.injEq, Prod.mk.injEq] at hs; obtain ⟨rfl, rfl⟩ := hs; simp_all; done)
            | (rename_i hk _ _; obtain ⟨rfl, rfl⟩ := hk; simp only [Option.some.injEq, Prod.mk.injEq] at hs; obtain ⟨rfl, rfl⟩ := hs; simp only [and_self, if_true]; simp; omega)
            | (simp at hs; simp_all; done)
            | (simp at hs; simp_all; rw [if_neg (by omega)]; exact hs.1)
    · rename_i g hg
      rw [hg] at he
      cases he
    · cases hs
  · have := step1_indep (P := P) (f := f) h h2 o he hr
    rw [hs] at this
    exact this

end
end Go.Abs

set_option linter.unusedSimpArgs false
set_option linter.unusedVariables false
namespace Go.Abs
open Go Go.RowKit

section
variable {P : Program} {base : Prot} {σ : Env} {w : World} {h : Hp}

/-- Other blocks that nobody may change. -/
theorem HR.prot {base' : Prot} (H : HR σ base h w) (hf : ∀ k, k < w.heap.size → base.fr k → base'.fr k) (hr : ∀ k, k < w.heap.size → base.ro k → base'.ro k) : HR σ base' h w := by
  refine ⟨H.dom, H.srt, H.chn, fun i d hd => ?_, H.al, H.lps.step (.refl _) (fun _ _ _ _ _ _ h _ _ _ => h) hf (fun _ _ _ => rfl)⟩
  obtain ⟨c, cs, e, fz, a1, a2, a3, a4, a5, a6⟩ := H.cel i d hd
  exact ⟨c, cs, e, fz, a1, a2, a3, a4, a5, fun hw => ⟨(a6.1 hw).1, hf _ (lt_of_heap a2) (a6.1 hw).2⟩, fun hw => (a6.2 hw).imp (hr _ (lt_of_heap a2)) (hf _ (lt_of_heap a2))⟩

/-- A block that was made before joins. -/
theorem HR.adopt {base' : Prot} (H : HR σ base h w) {k : Nat} {vs : Array Value} {e : TypeId} (hg : w.heap[k]? = some (.cells vs e (0, 0))) (hk : base'.fr k) (hp : base.s k) (hnr : ¬ base.ro k)
    (hsub : ∀ x, base.fr x → base'.fr x) (hro : ∀ x, base.ro x → base'.ro x) {cells : List AV} (hr : Rs σ cells vs.toList) :
    HR (upd σ h.next ⟨k, 0, vs.size⟩) base' (h.new cells).2 w ∧ Ext σ (upd σ h.next ⟨k, 0, vs.size⟩) := by
  have hx : Ext σ (upd σ h.next ⟨k, 0, vs.size⟩) := .upd _ (H.dom _ (Nat.le_refl _))
  have hl := hr.length
  have away : ∀ i d c, lkB h.blks i = some d → σ i = some c → c.blk ≠ k := fun i d c hd hc e => by
    obtain ⟨c', _, _, _, a1, _, _, _, _, a6⟩ := H.cel i d hd
    rw [hc] at a1
    cases a1
    cases hw : d.wr
    · rcases a6.2 hw with h1 | h1
      · exact hnr (e ▸ h1)
      · exact h1 (e ▸ hp)
    · exact (a6.1 hw).2 (e ▸ hp)
  refine ⟨⟨fun i hi => ?_, ?_, ?_, fun i d hd => ?_, fun i j d d' c c' hij hd hd' hc hc' hbk hw => ?_, H.lps.step hx (fun _ _ _ _ _ _ h _ _ _ => h) (fun k _ h => hsub k h) (fun _ _ _ => rfl)⟩, hx⟩
  · have hi' : h.next + 1 ≤ i := hi
    rw [upd_other _ _ _ _ (by omega)]; exact H.dom i (by omega)
  · simp only [Hp.new, Srt, List.pairwise_cons]
    exact ⟨fun x hx => (H.chn x hx).2, H.srt⟩
  · intro x hx
    simp only [Hp.new, List.mem_cons] at hx
    rcases hx with rfl | hx
    · exact ⟨Nat.le_refl _, Nat.lt_succ_self _⟩
    · have := H.chn x hx; exact ⟨this.1, Nat.lt_succ_of_lt this.2⟩
  · by_cases hi : h.next = i
    · subst hi
      simp only [Hp.new, lkB, Nat.beq_refl, cond_true, Option.some.injEq] at hd
      subst hd
      refine ⟨_, vs, e, (0, 0), upd_same _ _ _, hg, by simp, by simp at hl ⊢; omega, fun j a ha => ?_, fun _ => ⟨rfl, hk⟩, fun hw => by cases hw⟩
      obtain ⟨v, h1, h2⟩ := hr.get ha
      exact ⟨v, by simpa using h1, h2.ext hx⟩
    · simp only [Hp.new, lkB, nb hi, cond_false] at hd
      obtain ⟨c, cs', e', fz, a1, a2, a3, a4, a5, a6⟩ := H.cel i d hd
      refine ⟨c, cs', e', fz, hx _ _ a1, a2, a3, a4, fun j a ha => ?_, fun hw => ⟨(a6.1 hw).1, hsub _ (a6.1 hw).2⟩, fun hw => (a6.2 hw).imp (hro _) (hsub _)⟩
      obtain ⟨v, h1, h2⟩ := a5 j a ha
      exact ⟨v, h1, h2.ext hx⟩
  · by_cases hi : h.next = i
    · subst hi
      have hj : h.next ≠ j := fun e => hij e
      simp only [Hp.new, lkB, nb hj, cond_false] at hd'
      rw [upd_same] at hc
      rw [upd_other _ _ _ _ (by omega)] at hc'
      cases hc
      exact absurd hbk.symm (away _ _ _ hd' hc')
    · simp only [Hp.new, lkB, nb hi, cond_false] at hd
      rw [upd_other _ _ _ _ (by omega)] at hc
      by_cases hj : h.next = j
      · subst hj
        rw [upd_same] at hc'
        cases hc'
        exact absurd hbk (away _ _ _ hd hc)
      · simp only [Hp.new, lkB, nb hj, cond_false] at hd'
        rw [upd_other _ _ _ _ (by omega)] at hc'
        exact H.al i j d d' c c' hij hd hd' hc hc' hbk hw

/-- What a new variable does, whatever the heap. -/
theorem float_sound {call : CallF} {n : Nat} {f : Nat → AV} {a : Act} (hf : FR σ n f a.tmps) {o : Oper} {v : AV} {h' : Hp} (hfl : isFloat o = true) (hs : exec1 P call f h o = some (v, h')) (w : World) :
    ∃ (cells : List AV) (vs : Array Value) (u : Value) (e : TypeId), h' = (h.new cells).2 ∧ Rs σ cells vs.toList ∧ (execOp a.eval o).run P w = .ok (.value u) (w.alloc (.cells vs e)) ∧
      ∀ τ : Env, τ h.next = some ⟨w.heap.size, 0, vs.size⟩ → R τ v u := by
  have ptr : ∀ (τ : Env) (k : Nat), τ h.next = some ⟨w.heap.size, 0, k⟩ → R τ (.ptr h.next 0) (.pointer (some ⟨w.heap.size, 0, none⟩)) := fun τ k h => by
    simp only [R]
    exact ⟨_, h, by simp⟩
  unfold isFloat at hfl
  unfold execOp
  cases hop : o.op <;> rw [hop] at hfl <;> simp only at hfl <;> first | (cases hfl; done) | skip
  case alloc t =>
    simp only [exec1, hop, step1] at hs
    split at hs
    · rename_i cs hz
      cases hs
      obtain ⟨i, z, hi, hz', hr⟩ := zeroCells_spec hz
      exact ⟨cs, z.cells, _, t, rfl, hr σ, by simp [Instr.alloc, run_zeroValue' hi hz', newVar, newRow], fun τ => ptr τ _⟩
    · cases hs
  case box t x =>
    simp only [exec1, hop, step1] at hs
    split at hs
    · rename_i cs hp
      cases hs
      exact ⟨cs, (a.eval x).cells, _, t, rfl, R.parts hp (ev_sound hf x), by simp [Instr.box, newVar, newRow], fun τ => ptr τ _⟩
    · cases hs
  case buildSlice t len ps =>
    simp only [exec1, hop, step1] at hs
    split at hs
    · rename_i e hu
      split at hs
      · rename_i m z hm hz
        cases hcc : (Nat.ble (len * m) 16777216 && Nat.beq z.length m)
        · simp [hcc] at hs
        · simp only [hcc, cond_true] at hs
          simp only [Bool.and_eq_true] at hcc
          split at hs
          · rename_i cs hc
            cases hs
            have hle := Nat.le_of_ble_eq_true hcc.1
            have hl := Nat.eq_of_beq_eq_true hcc.2
            obtain ⟨i, zv, hi, hz', hr⟩ := zeroCells_spec hz
            obtain ⟨e1, e2⟩ := parts_eval' (σ := σ) hf ps
            have hz0 : Rs σ (repl z len) ((Array.range (len * m)).map ((if len * m = 0 then #[] else zv.cells)[· % (if len * m = 0 then #[] else zv.cells).size]!)).toList := by
              by_cases h0 : len * m = 0
              · have : repl z len = [] := List.eq_nil_of_length_eq_zero (by rw [repl_length, hl, h0])
                rw [this, h0]
                simp [Rs]
              · simp only [h0, if_false]
                exact repl_sound (hr σ) len (len * m) (by rw [hl])
            obtain ⟨r, h2, h3⟩ := fill_sound (pa := fun i => some (i * m, m)) (pl := fun i => some (i * m, m)) (fun i x hx => hx) e1 e2 hz0 hc
            refine ⟨cs, r, .slice (some ⟨w.heap.size, 0, none⟩) len len, e, rfl, h3, ?_, fun τ hτ => ?_⟩
            · have hng : ¬ (len * m > 2 ^ 24) := by omega
              have key : (Instr.buildSlice t len (ps.map fun (i, x) => (i, a.eval x))).run P w = .ok (.slice (some ⟨w.heap.size, 0, none⟩) len len) (w.alloc (.cells r e)) := by
                by_cases h0 : len * m = 0
                · have hng0 : ¬ (0 > 2 ^ 24) := by omega
                  simp only [h0, if_true] at h2
                  simp only [Instr.buildSlice, Sem.run_bind, run_underlying hu, Result.andThen_ok, run_sizeOf' hm, h0, hng0, if_false, Sem.run_pure, newRow, run_newObj, if_true, h2]
                  rfl
                · simp only [h0, if_false] at h2
                  simp only [Instr.buildSlice, Sem.run_bind, run_underlying hu, Result.andThen_ok, run_sizeOf' hm, hng, if_false, Sem.run_pure, newRow, run_newObj, h0, run_zeroValue' hi hz', h2]
                  rfl
              simp [key]
            · simp only [R]
              exact ⟨_, len, hτ, by simp, Nat.le_refl _, rfl⟩
          · cases hs
      · cases hs
    · cases hs
  case makeSlice t l c =>
    simp only [exec1, hop, step1] at hs
    split at hs
    · rename_i e lv cv hu hl hc
      split at hs
      · rename_i m z hm hz
        split at hs
        · rename_i hcond
          cases hs
          obtain ⟨h0, h1, h2, hlz, hby⟩ := hcond
          obtain ⟨kl, el⟩ := int?_spec hl (ev_sound hf l)
          obtain ⟨kc, ec⟩ := int?_spec hc (ev_sound hf c)
          obtain ⟨i, zv, hi, hz', hr⟩ := zeroCells_spec hz
          obtain ⟨i', hi', rfl⟩ := szOf_spec hm
          rw [hi] at hi'
          cases hi'
          have hby' : i.bytes ≤ 1048576 := by simpa [bytesOf, hi] using hby
          have hwl : IntKind.i64.wrap lv = lv := by simp [IntKind.wrap, IntKind.bits, IntKind.signed]; omega
          have hwc : IntKind.i64.wrap cv = cv := by simp [IntKind.wrap, IntKind.bits, IntKind.signed]; omega
          have hz0 : Rs σ (repl z cv.toNat) ((Array.range (cv.toNat * i.size)).map ((if cv.toNat * i.size = 0 then #[] else zv.cells)[· % (if cv.toNat * i.size = 0 then #[] else zv.cells).size]!)).toList := by
            by_cases h0 : cv.toNat * i.size = 0
            · have : repl z cv.toNat = [] := List.eq_nil_of_length_eq_zero (by rw [repl_length, hlz, h0])
              rw [this, h0]
              simp [Rs]
            · simp only [h0, if_false]
              exact repl_sound (hr σ) cv.toNat _ (by rw [hlz])
          refine ⟨repl z cv.toNat, _, .slice (some ⟨w.heap.size, 0, none⟩) lv.toNat cv.toNat, e, rfl, hz0, ?_, fun τ hτ => ?_⟩
          · have hbig : ¬ ((i.bytes : Int) * cv > 281474976710656) := by
              have hcc : cv = (cv.toNat : Int) := by omega
              have h3 : i.bytes * cv.toNat ≤ 1048576 * 1048576 := Nat.mul_le_mul hby' (by omega)
              rw [hcc, ← Int.natCast_mul]
              omega
            have hneg : ¬ (cv < 0) := by omega
            have hl0 : ¬ (lv < 0) := by omega
            have hlc : ¬ (lv > cv) := by omega
            have ht : ((decide (cv < 0) || decide ((i.bytes : Int) * cv > 2 ^ 48)) || decide (lv < 0) || decide (lv > cv)) = false := by
              simp [hneg, hl0]
              omega
            have key : (Instr.makeSlice t (a.eval l) (a.eval c)).run P w = .ok (.slice (some ⟨w.heap.size, 0, none⟩) lv.toNat cv.toNat) (w.alloc (.cells ((Array.range (cv.toNat * i.size)).map ((if cv.toNat * i.size = 0 then #[] else zv.cells)[· % (if cv.toNat * i.size = 0 then #[] else zv.cells).size]!)) e)) := by
              rw [el, ec]
              by_cases h0 : cv.toNat * i.size = 0
              · simp only [Instr.makeSlice, Sem.run_bind, run_underlying hu, Result.andThen_ok, asInt, asIntOf, Sem.run_pure, run_typeInfo w hi, hwl, hwc, ht, Bool.false_eq_true, if_false, run_askRoom,
                  run_sizeOf' hm, h0, if_true, newRow, run_newObj]
                rfl
              · simp only [Instr.makeSlice, Sem.run_bind, run_underlying hu, Result.andThen_ok, asInt, asIntOf, Sem.run_pure, run_typeInfo w hi, hwl, hwc, ht, Bool.false_eq_true, if_false, run_askRoom,
                  run_sizeOf' hm, h0, run_zeroValue' hi hz', newRow, run_newObj]
                rfl
            simp [key]
          · simp only [R]
            exact ⟨_, cv.toNat, hτ, by simp, by omega, rfl⟩
        · cases hs
      · cases hs
    · cases hs

theorem float_eff {o : Oper} (hf : isFloat o = true) : isEff o = true := by
  unfold isFloat at hf
  unfold isEff
  cases hop : o.op <;> rw [hop] at hf <;> simp only at hf <;> first | (cases hf; done) | rfl

/-- What it does to the world. -/
theorem float_run {a : Act} {o : Oper} {u : Value} {w' : World} (hfl : isFloat o = true) (he : (execOp a.eval o).run P w = .ok (.value u) w') {r : Option Nat} {N : Nat} {K : Act → World → Prop} {Q : Exit → Act → World → Prop}
    (hK : K (a.put o.dst u) w') : o.wpIn (Wd r) N P a w K Q := by
  refine ⟨fun _ _ => trivial, ?_⟩
  rw [Oper.semAt_eq _ _ _ (fun c e => by simp [isFloat, e] at hfl), he]
  exact hK

/-- An object of no concern is made. -/
theorem HR.other {σ : Env} {h : Hp} {w : World} (H : HR σ base h w) (o : Obj) : HR σ base h (w.alloc o) := by
  have old : ∀ k, k < w.heap.size → (w.alloc o).heap[k]? = w.heap[k]? := fun k hk => Below.heap_alloc _ _ _ hk
  refine ⟨H.dom, H.srt, H.chn, fun i d hd => ?_, H.al, H.lps.step (.refl _) (fun l r c o _ _ h1 _ _ _ => by rw [old _ (lt_of_heap h1)]; exact h1) (fun _ _ h => h) (fun k hk _ => old k hk)⟩
  obtain ⟨c, cs, e, fz, a1, a2, a3⟩ := H.cel i d hd
  exact ⟨c, cs, e, fz, a1, by rw [old _ (lt_of_heap a2)]; exact a2, a3⟩

end
end Go.Abs

set_option linter.unusedSimpArgs false
set_option linter.unusedVariables false
namespace Go.Abs
open Go Go.RowKit

section
variable {P : Program} {call : CallF} {n : Nat} {ops : Array Oper} {fr : Fr} {rs : List Rec} {tm' : Fr} {h' : Hp}

/-- The order of the text, recorded. -/
structure Tr (P : Program) (call : CallF) (n : Nat) (ops : Array Oper) (fr : Fr) (h0 : Hp) (rs : List Rec) (tm' : Fr) (h' : Hp) : Prop where
  len : rs.length = ops.size
  tm0 : TM rs tm' 0 = []
  ha0 : HA rs h' 0 = h0
  step : ∀ (k : Nat) (r : Rec), rs[k]? = some r → Step1 P call n ops fr rs tm' h' 0 k r

theorem Tr.mk' {h0 : Hp} (hs : traceOps P call n ops fr ops.toList [] h0 = some (rs, tm', h')) : Tr P call n ops fr h0 rs tm' h' := by
  obtain ⟨h1, h2, h3, h4⟩ := trace_spec ops.toList 0 [] h0 rs tm' h' (by simp) hs
  exact ⟨by simpa using h1, h2, h3, h4⟩

variable {h0 : Hp}

theorem Tr.get (T : Tr P call n ops fr h0 rs tm' h') {i : Nat} (hi : i < ops.size) : ∃ r, rs[i]? = some r ∧ ops[i]? = some r.o := by
  have hl : i < rs.length := by rw [T.len]; exact hi
  refine ⟨rs[i], List.getElem?_eq_getElem hl, ?_⟩
  have := (T.step i rs[i] (List.getElem?_eq_getElem hl)).op
  simpa using this

theorem Tr.op (T : Tr P call n ops fr h0 rs tm' h') {i : Nat} {r : Rec} (hr : rs[i]? = some r) : ops[i]? = some r.o := by
  simpa using (T.step i r hr).op

theorem HA_of {i : Nat} {r : Rec} (hr : rs[i]? = some r) : HA rs h' i = r.h := by simp [HA, hr]
theorem TM_of {i : Nat} {r : Rec} (hr : rs[i]? = some r) : TM rs tm' i = r.tm := by simp [TM, hr]

theorem Tr.quiet (T : Tr P call n ops fr h0 rs tm' h') {i : Nat} {r : Rec} (hr : rs[i]? = some r) (he : isEff r.o = false) : HA rs h' (i + 1) = HA rs h' i := by
  rw [HA_of hr]
  cases hw : r.w
  · exact ((T.step i r hr).no hw).2.2
  · exact exec1_quiet r.o he ((T.step i r hr).yes hw).2

/-- No operation that may change the heap between a and b. -/
def Calm (rs : List Rec) (a b : Nat) : Prop := ∀ d r, a ≤ d → d < b → rs[d]? = some r → isEff r.o = false

theorem Tr.calm (T : Tr P call n ops fr h0 rs tm' h') : ∀ (k a : Nat), a + k ≤ ops.size → Calm rs a (a + k) → HA rs h' (a + k) = HA rs h' a
  | 0, a, _, _ => rfl
  | k + 1, a, hk, hc => by
    have ih := T.calm k a (by omega) (fun d r h1 h2 => hc d r h1 (by omega))
    obtain ⟨r, hr, _⟩ := T.get (i := a + k) (by omega)
    rw [← ih, ← T.quiet hr (hc _ r (by omega) (by omega) hr)]
    rfl

theorem Tr.calm' (T : Tr P call n ops fr h0 rs tm' h') {a b : Nat} (h1 : a ≤ b) (h2 : b ≤ ops.size) (hc : Calm rs a b) : HA rs h' b = HA rs h' a := by
  have := T.calm (b - a) a (by omega) (by rw [show a + (b - a) = b by omega]; exact hc)
  rw [show a + (b - a) = b by omega] at this
  exact this

/-- The next operation that may change the heap, from j on, or the end. -/
theorem next_eff (hl : rs.length = ops.size) : ∀ (k j : Nat), j + k = ops.size → ∃ q, j ≤ q ∧ q ≤ ops.size ∧ Calm rs j q ∧ (q = ops.size ∨ ∃ r, rs[q]? = some r ∧ isEff r.o = true)
  | 0, j, h => ⟨j, Nat.le_refl _, by omega, fun d r h1 h2 => by omega, .inl (by omega)⟩
  | k + 1, j, h => by
    have hj : j < rs.length := by omega
    cases he : isEff rs[j].o
    · obtain ⟨q, h1, h2, h3, h4⟩ := next_eff hl k (j + 1) (by omega)
      refine ⟨q, by omega, h2, fun d r g1 g2 hr => ?_, h4⟩
      by_cases hd : d = j
      · subst hd
        rw [List.getElem?_eq_getElem hj] at hr
        cases hr
        exact he
      · exact h3 d r (by omega) g2 hr
    · exact ⟨j, Nat.le_refl _, by omega, fun d r h1 h2 => by omega, .inr ⟨_, List.getElem?_eq_getElem hj, he⟩⟩

theorem effHeaps_mem : ∀ (l : List Rec) (i k : Nat) (r : Rec), l[k]? = some r → isEff r.o = true → (i + k, r.h) ∈ effHeaps l i
  | [], i, k, r, h, _ => by simp at h
  | x :: l, i, k, r, h, he => by
    cases k with
    | zero =>
      simp only [List.getElem?_cons_zero, Option.some.injEq] at h
      subst h
      simp [effHeaps, he]
    | succ k =>
      simp only [List.getElem?_cons_succ] at h
      have := effHeaps_mem l (i + 1) k r h he
      rw [show i + 1 + k = i + (k + 1) by omega] at this
      cases hx : isEff x.o <;> simp [effHeaps, hx, this]

theorem effHeaps_of : ∀ (l : List Rec) (i : Nat) (x : Nat × Hp), x ∈ effHeaps l i → ∃ k r, x.1 = i + k ∧ l[k]? = some r ∧ isEff r.o = true
  | [], i, x, h => by simp [effHeaps] at h
  | y :: l, i, x, h => by
    simp only [effHeaps] at h
    cases hy : isEff y.o
    · simp only [hy, cond_false] at h
      obtain ⟨k, r, e1, e2, e3⟩ := effHeaps_of l (i + 1) x h
      exact ⟨k + 1, r, by omega, by simpa using e2, e3⟩
    · simp only [hy, cond_true] at h
      rcases List.mem_cons.1 h with rfl | h
      · exact ⟨0, y, rfl, rfl, hy⟩
      · obtain ⟨k, r, e1, e2, e3⟩ := effHeaps_of l (i + 1) x h
        exact ⟨k + 1, r, by omega, by simpa using e2, e3⟩

theorem readsOK_at {cl : List Nat} {hs : List (Nat × Hp)} : ∀ (l : List Rec) (i k : Nat) (r : Rec), readsOK P call ops fr cl hs l i = true → l[k]? = some r → r.w = true → isRead r.o = true →
    ∀ x ∈ hs, rdSkip cl (hs.map (·.1)) (i + k) x.1 = true ∨ ∃ h1, exec1 P call (msk (reads ops r.o) (look r.tm fr)) x.2 r.o = some (r.v, h1)
  | [], i, k, r, _, h, _, _ => by simp at h
  | y :: l, i, k, r, hok, h, hw, hr => by
    simp only [readsOK, Bool.and_eq_true] at hok
    cases k with
    | zero =>
      simp only [List.getElem?_cons_zero, Option.some.injEq] at h
      subst h
      intro x hx
      have h1 := hok.1
      simp only [hw, hr, Bool.and_self, Bool.not_true, Bool.false_or, List.all_eq_true] at h1
      have h2 := h1 x hx
      simp only [Bool.or_eq_true] at h2
      rcases h2 with h2 | h2
      · exact .inl h2
      · right
        split at h2
        · rename_i v h3 he
          rw [AV.beq_eq h2] at he
          exact ⟨h3, he⟩
        · cases h2
    | succ k =>
      simp only [List.getElem?_cons_succ] at h
      have := readsOK_at l (i + 1) k r hok.2 h hw hr
      rw [show i + 1 + k = i + (k + 1) by omega] at this
      exact this

/-- What a slot holds in the order of the text before operation k. -/
theorem Tr.text (T : Tr P call n ops fr h0 rs tm' h') (t : Nat) : ∀ k, k ≤ ops.size →
    (∃ d r, d < k ∧ rs[d]? = some r ∧ r.o.dst = some t ∧ look (TM rs tm' k) fr t = r.v) ∨ ((∀ d r, d < k → rs[d]? = some r → r.o.dst ≠ some t) ∧ look (TM rs tm' k) fr t = lkF fr t)
  | 0, _ => .inr ⟨fun d r h => by omega, by rw [T.tm0]; rfl⟩
  | k + 1, hk => by
    obtain ⟨r, hr, _⟩ := T.get (i := k) (by omega)
    have hs := (T.step k r hr).tm t
    have ht := TM_of (tm' := tm') hr
    by_cases hd : r.o.dst = some t
    · rw [if_pos hd] at hs
      exact .inl ⟨k, r, by omega, hr, hd, hs⟩
    · rw [if_neg hd, ← ht] at hs
      rcases T.text t k (by omega) with ⟨d, r', h1, h2, h3, h4⟩ | ⟨h1, h2⟩
      · exact .inl ⟨d, r', by omega, h2, h3, by rw [hs, h4]⟩
      · refine .inr ⟨fun d r' hlt hr' => ?_, by rw [hs, h2]⟩
        by_cases e : d = k
        · subst e
          rw [hr] at hr'
          cases hr'
          exact hd
        · exact h1 d r' (by omega) hr'

/-- What a slot holds when the operations in L have been carried out. -/
def Val (rs : List Rec) (fr : Fr) (L : Nat → Bool) (t : Nat) (v : AV) : Prop :=
  (∃ d r, rs[d]? = some r ∧ L d = true ∧ r.o.dst = some t ∧ v = r.v) ∨ ((∀ d r, rs[d]? = some r → r.o.dst = some t → L d = false) ∧ v = lkF fr t)

/-- A new variable that has come up before its place in the text. -/
def Pd (rs : List Rec) (L : Nat → Bool) (j d : Nat) (r : Rec) : Prop := rs[d]? = some r ∧ r.w = true ∧ isEff r.o = true ∧ j ≤ d ∧ L d = true

/-- Nobody may change it. -/
def pend (base : Prot) (rs : List Rec) (L : Nat → Bool) (A : Nat → Nat) (j : Nat) : Prot := ⟨fun k => base.s k ∨ ∃ d r, Pd rs L j d r ∧ A d = k, base.ro, fun k h => .inl (base.gl k h)⟩

/-- Of those that may change the heap, the ones before j have been carried out; behind it only new variables. -/
structure Stg (base : Prot) (fr : Fr) (rs : List Rec) (h' : Hp) (b0 : Nat) (L : Nat → Bool) (σ : Env) (a : Act) (w : World) (sz j : Nat) (A : Nat → Nat) : Prop where
  le : j ≤ sz
  bef : ∀ d r, rs[d]? = some r → isEff r.o = true → d < j → L d = true
  aft : ∀ d r, rs[d]? = some r → isEff r.o = true → j ≤ d → L d = true → isFloat r.o = true
  hr : HR σ (pend base rs L A j) (HA rs h' j) w
  pen : ∀ d r, Pd rs L j d r → b0 ≤ A d ∧ ∃ vs e cells, w.heap[A d]? = some (.cells vs e (0, 0)) ∧ Rs σ cells vs.toList ∧ HA rs h' (d + 1) = ((HA rs h' d).new cells).2 ∧
    ∀ t, r.o.dst = some t → ∀ τ : Env, τ (HA rs h' d).next = some ⟨A d, 0, vs.size⟩ → R τ r.v (a.tmps.getD t undef)
  inj : ∀ d r d' r', Pd rs L j d r → Pd rs L j d' r' → A d = A d' → d = d'
  val : ∀ t v, (∀ d r, Pd rs L j d r → r.o.dst ≠ some t) → Val rs fr L t v → R σ v (a.tmps.getD t undef)

/-- The state of affairs when the operations in L have been carried out. -/
structure Inv (base : Prot) (σ0 : Env) (n : Nat) (ops : Array Oper) (cl : List Nat) (fr : Fr) (rs : List Rec) (h' : Hp) (w0 : World) (df : List Deferred) (L : Nat → Bool) (σ : Env) (a : Act) (w : World) : Prop where
  clo : ∀ i, i < ops.size → L i = true → ∀ j, Nat.testBit (cl.getD i 0) j = true → L j = true
  size : a.tmps.size = n
  stage : ∃ j A, Stg base fr rs h' w0.heap.size L σ a w ops.size j A
  ext : Ext σ0 σ
  fw : Fw base w0 w
  dfs : a.defers = df

theorem Pd.up {L : Nat → Bool} {j d : Nat} {r : Rec} (h : Pd rs L (j + 1) d r) : Pd rs L j d r := ⟨h.1, h.2.1, h.2.2.1, by have := h.2.2.2.1; omega, h.2.2.2.2⟩

theorem pend_fr {base : Prot} {L : Nat → Bool} {A : Nat → Nat} {j k : Nat} (h : (pend base rs L A j).fr k) : (pend base rs L A (j + 1)).fr k := fun hs => h (hs.imp id fun ⟨d, r, hp, e⟩ => ⟨d, r, hp.up, e⟩)

/-- The new variables whose turn has come join, up to the first operation that may change the heap and hasn't been carried out. -/
theorem Stg.adv {cl : List Nat} {base : Prot} {b0 : Nat} {L : Nat → Bool} {a : Act} {w : World} {A : Nat → Nat} (O : Ord ops cl) (T : Tr P call n ops fr h0 rs tm' h') (hbr : ∀ k, base.ro k → k < b0) (hbf : base.fit b0) :
    ∀ (k j : Nat) (σ : Env), j + k = ops.size → Stg base fr rs h' b0 L σ a w ops.size j A →
    ∃ q τ, Ext σ τ ∧ Stg base fr rs h' b0 L τ a w ops.size q A ∧ (q = ops.size ∨ ∃ r, rs[q]? = some r ∧ isEff r.o = true ∧ L q = false)
  | 0, j, σ, hj, S => ⟨j, σ, .refl _, S, .inl (by omega)⟩
  | k + 1, j, σ, hj, S => by
    obtain ⟨r, hr, ho⟩ := T.get (i := j) (by omega)
    -- nothing happens here
    have pass : (∀ d rd, Pd rs L j d rd → d ≠ j) → HA rs h' (j + 1) = HA rs h' j → (isEff r.o = true → L j = true) →
        ∃ q τ, Ext σ τ ∧ Stg base fr rs h' b0 L τ a w ops.size q A ∧ (q = ops.size ∨ ∃ r, rs[q]? = some r ∧ isEff r.o = true ∧ L q = false) := fun ne hq hLj => by
      have S' : Stg base fr rs h' b0 L σ a w ops.size (j + 1) A := {
        le := by omega
        bef := fun d rd hd hed hlt => by
          by_cases e : d = j
          · subst e; rw [hr] at hd; cases hd; exact hLj hed
          · exact S.bef d rd hd hed (by omega)
        aft := fun d rd h1 h2 h3 h4 => S.aft d rd h1 h2 (by omega) h4
        hr := by rw [hq]; exact S.hr.prot (fun _ _ h => pend_fr h) (fun _ _ h => h)
        pen := fun d rd hp => S.pen d rd hp.up
        inj := fun d rd d' rd' hp hp' => S.inj d rd d' rd' hp.up hp'.up
        val := fun t v hno hv => S.val t v (fun d rd hp => hno d rd ⟨hp.1, hp.2.1, hp.2.2.1, by have := hp.2.2.2.1; have := ne d rd hp; omega, hp.2.2.2.2⟩) hv }
      exact S'.adv O T hbr hbf k (j + 1) σ (by omega)
    cases he : isEff r.o
    · refine pass (fun d rd hp e => ?_) (T.quiet hr he) (fun h => by rw [he] at h; cases h)
      subst e
      have := hp.1
      rw [hr] at this
      cases this
      have h2 := hp.2.2.1
      rw [he] at h2
      cases h2
    · cases hL : L j
      · exact ⟨j, σ, .refl _, S, .inr ⟨r, hr, he, hL⟩⟩
      · cases hw : r.w
        · refine pass (fun d rd hp e => ?_) (by rw [HA_of hr]; exact ((T.step j r hr).no hw).2.2) (fun _ => hL)
          subst e
          have := hp.1
          rw [hr] at this
          cases this
          have h2 := hp.2.1
          rw [hw] at h2
          cases h2
        have hp : Pd rs L j j r := ⟨hr, hw, he, Nat.le_refl _, hL⟩
        obtain ⟨hb, vs, e, cells, hg, hrs, hh, htm⟩ := S.pen j r hp
        obtain ⟨H', hx⟩ := S.hr.adopt (base' := pend base rs L A (j + 1)) hg (fun hs => by
          rcases hs with hs | ⟨d, rd, hd, e⟩
          · have := hbf _ hs; omega
          · have := S.inj d rd j r hd.up hp e
            have := hd.2.2.2.1
            omega) (.inr ⟨j, r, hp, rfl⟩) (fun h => by have := hbr _ h; omega) (fun _ h => pend_fr h) (fun _ h => h) hrs
        rw [← hh] at H'
        have S' : Stg base fr rs h' b0 L (upd σ (HA rs h' j).next ⟨A j, 0, vs.size⟩) a w ops.size (j + 1) A := {
          le := by omega
          bef := fun d rd hd hed hlt => by
            by_cases e : d = j
            · subst e; exact hL
            · exact S.bef d rd hd hed (by omega)
          aft := fun d rd h1 h2 h3 h4 => S.aft d rd h1 h2 (by omega) h4
          hr := H'
          pen := fun d rd hp => by
            obtain ⟨p1, vs', e', cells', p2, p3, p4⟩ := S.pen d rd hp.up
            exact ⟨p1, vs', e', cells', p2, p3.ext hx, p4⟩
          inj := fun d rd d' rd' hp hp' => S.inj d rd d' rd' hp.up hp'.up
          val := fun t v hno hvv => by
            by_cases hd : r.o.dst = some t
            · have : v = r.v := by
                rcases hvv with ⟨d, rd, h1, h2, h3, h4⟩ | ⟨h1, _⟩
                · by_cases hdj : d = j
                  · subst hdj; rw [hr] at h1; cases h1; exact h4
                  · exact absurd hd (O.one ho (T.op h1) (fun e => hdj e.symm) h3).1
                · have := h1 j r hr hd
                  rw [hL] at this
                  cases this
              rw [this]
              exact htm t hd _ (upd_same _ _ _)
            · refine (S.val t v (fun d rd hpd => ?_) hvv).ext hx
              by_cases hdj : d = j
              · subst hdj
                have := hpd.1
                rw [hr] at this
                cases this
                exact hd
              · exact hno d rd ⟨hpd.1, hpd.2.1, hpd.2.2.1, by have := hpd.2.2.2.1; omega, hpd.2.2.2.2⟩ }
        obtain ⟨q, τ, h1, h2, h3⟩ := S'.adv O T hbr hbf k (j + 1) _ (by omega)
        exact ⟨q, τ, hx.trans h1, h2, h3⟩

theorem FR_msk {σ : Env} {l : List Nat} {f : Nat → AV} {tmps : Array Value} (hs : tmps.size = n) (h : ∀ t ∈ l, R σ (f t) (tmps.getD t undef)) : FR σ n (msk l f) tmps := by
  refine ⟨hs, fun t => ?_⟩
  unfold msk
  cases he : l.elem t
  · simp [R_any]
  · simp only [cond_true]
    exact h t (List.mem_of_elem_eq_true he)

section
variable {cl : List Nat} {base : Prot} {σ0 : Env} {w0 : World} {df : List Deferred}

/-- One operation in some order. -/
theorem draw_step (hcall : CallOK P call) (O : Ord ops cl) (T : Tr P call n ops fr h0 rs tm' h') (hro : (∀ (d : Nat) (r : Rec), rs[d]? = some r → isEff r.o = false) ∨ readsOK P call ops fr cl (effHeaps rs 0 ++ [(ops.size, h')]) rs 0 = true)
    {L : Nat → Bool} {σ : Env} {a : Act} {w : World} (hb : base.fit w0.heap.size) (hbr : ∀ k, base.ro k → k < w0.heap.size) (I : Inv base σ0 n ops cl fr rs h' w0 df L σ a w) {i : Nat} (hi : i < ops.size) (hL : L i = false)
    (hready : ∀ o, ops[i]? = some o → ∀ e ∈ o.after.toList, Region.binds .any e = true → L e.on = true) {r : Option Nat} {N : Nat} {K : Act → World → Prop} {Q : Exit → Act → World → Prop}
    (hK : ∀ τ a' w', Inv base σ0 n ops cl fr rs h' w0 df (fun d => L d || d == i) τ a' w' → K a' w') : wpOpIn (Wd r) N P ops Q i K a w := by
  obtain ⟨rc, hrc, ho⟩ := T.get hi
  have S := T.step i rc hrc
  have lts : ∀ d (rd : Rec), rs[d]? = some rd → d < ops.size := fun d rd h => by
    rw [← T.len]
    exact (List.getElem?_eq_some_iff.1 h).1
  -- all that must come before has come
  have before : ∀ j, Nat.testBit (cl.getD i 0) j = true → L j = true := fun j hj => by
    obtain ⟨e, he, hbd, h⟩ := O.clo ho hj
    have h1 := hready rc.o ho e he hbd
    rcases h with h | h
    · rw [← h]; exact h1
    · exact I.clo e.on (by have := O.edge ho e he hbd; omega) h1 j h
  have notBefore : ∀ d rd, rs[d]? = some rd → Nat.testBit (cl.getD d 0) i = true → L d = false := fun d rd hd hbit => by
    cases hLd : L d
    · rfl
    · rw [I.clo d (lts d rd hd) hLd i hbit] at hL
      cases hL
  obtain ⟨j0, A, Sg0⟩ := I.stage
  obtain ⟨q, σ1, hx1, Sg, hq⟩ := Sg0.adv O T hbr hb (ops.size - j0) j0 σ (by have := Sg0.le; omega)
  -- no slot that it reads is pending
  have nopend : ∀ t ∈ reads ops rc.o, ∀ d rd, Pd rs L q d rd → rd.o.dst ≠ some t := fun t ht d rd hp hdst => by
    rcases hq with rfl | ⟨rq, g1, g2, g3⟩
    · have := lts d rd hp.1
      have := hp.2.2.2.1
      omega
    · have hne : q ≠ d := fun e => by
        rw [e, hp.2.2.2.2] at g3
        cases g3
      have := before q (O.flo (T.op hp.1) (T.op g1) ho (Sg.aft d rd hp.1 hp.2.2.1 hp.2.2.2.1 hp.2.2.2.2) hdst ht g2 (by have := hp.2.2.2.1; omega))
      rw [g3] at this
      cases this
  -- what it reads is there
  have hval : ∀ t ∈ reads ops rc.o, R σ1 (look rc.tm fr t) (a.tmps.getD t undef) := fun t ht => by
    refine Sg.val t _ (nopend t ht) ?_
    have htx := T.text t i (by omega)
    rw [TM_of hrc] at htx
    rcases htx with ⟨d, rd, h1, h2, h3, h4⟩ | ⟨h1, h2⟩
    · refine .inl ⟨d, rd, h2, ?_, h3, h4⟩
      have hone := (O.one ho (T.op h2) (by omega) h3).2 ht
      rcases hone with h5 | h5
      · exact before d h5
      · have := O.lt d (T.op h2) h5
        omega
    · refine .inr ⟨fun d rd hd hdst => ?_, h2⟩
      by_cases hdi : d = i
      · subst hdi; exact hL
      · have hge : ¬ d < i := fun hlt => h1 d rd hlt hd hdst
        have hone := (O.one ho (T.op hd) (fun e => hdi e.symm) hdst).2 ht
        rcases hone with h5 | h5
        · have := O.lt i ho h5
          omega
        · exact notBefore d rd hd h5
  have hf : FR σ1 n (msk (reads ops rc.o) (look rc.tm fr)) a.tmps := FR_msk I.size hval
  -- what comes behind
  have go : ∀ u τ w' j' A', Ext σ1 τ → Fw base w w' → Stg base fr rs h' w0.heap.size (fun d => L d || d == i) τ (a.put rc.o.dst u) w' ops.size j' A' → K (a.put rc.o.dst u) w' :=
    fun u τ w' j' A' hx hfw hS => hK τ _ w' {
      clo := fun k hk hLk j hj => by
        simp only [Bool.or_eq_true, beq_iff_eq] at hLk ⊢
        rcases hLk with hLk | rfl
        · exact .inl (I.clo k hk hLk j hj)
        · exact .inl (before j hj)
      size := by
        cases hd : rc.o.dst with
        | none => exact I.size
        | some d => simp [Act.put, I.size]
      stage := ⟨j', A', hS⟩
      ext := (I.ext.trans hx1).trans hx
      fw := I.fw.trans hfw
      dfs := by rw [Act.put_defers]; exact I.dfs }
  have putval : ∀ u τ, Ext σ1 τ → ∀ t v, (rc.o.dst = some t → R τ rc.v u) → (∀ d rd, Pd rs L q d rd → rd.o.dst ≠ some t) → Val rs fr (fun d => L d || d == i) t v → R τ v ((a.put rc.o.dst u).tmps.getD t undef) :=
    fun u τ hx t v hu hno hv => by
        by_cases hd : rc.o.dst = some t
        · -- the slot that it writes
          have htn := S.dst t hd
          have hv' : v = rc.v := by
            rcases hv with ⟨d, rd, h1, h2, h3, h4⟩ | ⟨h1, _⟩
            · by_cases hdi : d = i
              · subst hdi
                rw [hrc] at h1
                cases h1
                exact h4
              · exact absurd hd (O.one ho (T.op h1) (fun e => hdi e.symm) h3).1
            · have := h1 i rc hrc hd
              simp at this
          subst hv'
          have hu := hu hd
          rw [hd]
          simp only [Act.put, Array.getD_eq_getD_getElem?]
          rw [Array.getElem?_setIfInBounds_self_of_lt (by rw [I.size]; exact htn)]
          simpa using hu
        · have hold : Val rs fr L t v := by
            rcases hv with ⟨d, rd, h1, h2, h3, h4⟩ | ⟨h1, h2⟩
            · refine .inl ⟨d, rd, h1, ?_, h3, h4⟩
              simp only [Bool.or_eq_true, beq_iff_eq] at h2
              rcases h2 with h2 | rfl
              · exact h2
              · rw [hrc] at h1
                cases h1
                exact absurd h3 hd
            · refine .inr ⟨fun d rd g1 g2 => ?_, h2⟩
              have := h1 d rd g1 g2
              simp only [Bool.or_eq_false_iff] at this
              exact this.1
          have := (Sg.val t v hno hold).ext hx
          cases hdd : rc.o.dst with
          | none => exact this
          | some d =>
            have hne : d ≠ t := fun e => hd (by rw [hdd, e])
            simp only [Act.put, Array.getD_eq_getD_getElem?]
            rw [Array.getElem?_setIfInBounds_ne hne]
            simpa [Array.getD_eq_getD_getElem?] using this
  have pdi : ∀ d rd, Pd rs L q d rd → d ≠ i := fun d rd hp e => by
    have := hp.2.2.2.2
    rw [e, hL] at this
    cases this
  have putpen : ∀ u d rd, Pd rs L q d rd → ∀ t, rd.o.dst = some t → (a.put rc.o.dst u).tmps.getD t undef = a.tmps.getD t undef := fun u d rd hp t ht => by
    have h1 := (O.one ho (T.op hp.1) (fun e => pdi d rd hp e.symm) ht).1
    cases hdd : rc.o.dst with
    | none => rfl
    | some x =>
      have hne : x ≠ t := fun e => h1 (by rw [hdd, e])
      simp only [Act.put, Array.getD_eq_getD_getElem?]
      rw [Array.getElem?_setIfInBounds_ne hne]
  have hbw : base.fit w.heap.size := hb.le I.fw.bel.size
  have hpw : (pend base rs L A q).fit w.heap.size := fun k hk => by
    rcases hk with hk | ⟨d, rd, hp, rfl⟩
    · exact hbw k hk
    · obtain ⟨_, vs, e, cells, hg, _⟩ := Sg.pen d rd hp
      exact lt_of_heap hg
  have down : ∀ {w'}, Fw (pend base rs L A q) w w' → Fw base w w' := fun h => ⟨h.bel.mono fun _ h => .inl h, h.dfr, h.lop⟩
  -- when nothing becomes pending
  have stay : ∀ u τ w' j', R τ rc.v u → Ext σ1 τ → Fw (pend base rs L A q) w w' → j' ≤ ops.size → (∀ d rd, Pd rs (fun d => L d || d == i) j' d rd ↔ Pd rs L q d rd) →
      (∀ d rd, rs[d]? = some rd → isEff rd.o = true → d < j' → (L d || d == i) = true) → (∀ d rd, rs[d]? = some rd → isEff rd.o = true → j' ≤ d → (L d || d == i) = true → isFloat rd.o = true) →
      HR τ (pend base rs L A q) (HA rs h' j') w' → K (a.put rc.o.dst u) w' := fun u τ w' j' hu hx hfw hj hiff hbef haft hH =>
    go u τ w' j' A hx (down hfw) {
      le := hj
      bef := hbef
      aft := haft
      hr := hH.prot (fun k _ h hs => h (hs.imp id fun ⟨d, rd, hp, e⟩ => ⟨d, rd, (hiff d rd).1 hp, e⟩)) (fun _ _ h => h)
      pen := fun d rd hp => by
        have hp := (hiff d rd).1 hp
        obtain ⟨p1, vs, e, cells, p2, p3, p4, p6⟩ := Sg.pen d rd hp
        exact ⟨p1, vs, e, cells, by rw [hfw.bel.block _ (.inr ⟨d, rd, hp, rfl⟩)]; exact p2, p3.ext hx, p4, fun t ht => by rw [putpen u d rd hp t ht]; exact p6 t ht⟩
      inj := fun d rd d' rd' hp hp' => Sg.inj d rd d' rd' ((hiff d rd).1 hp) ((hiff d' rd').1 hp')
      val := fun t v hno hv => putval u τ hx t v (fun _ => hu) (fun d rd hp => hno d rd ((hiff d rd).2 hp)) hv }
  unfold wpOpIn
  rw [ho]
  simp only
  cases heff : isEff rc.o
  · -- it leaves the heap alone
    have hiff : ∀ d rd, Pd rs (fun d => L d || d == i) q d rd ↔ Pd rs L q d rd := fun d rd => by
      constructor
      · rintro ⟨p1, p0, p2, p3, p4⟩
        have hdi : d ≠ i := fun e => by subst e; rw [hrc] at p1; cases p1; rw [heff] at p2; cases p2
        exact ⟨p1, p0, p2, p3, by simpa [hdi] using p4⟩
      · rintro ⟨p1, p0, p2, p3, p4⟩
        exact ⟨p1, p0, p2, p3, by simp [p4]⟩
    have haft : ∀ d rd, rs[d]? = some rd → isEff rd.o = true → q ≤ d → (L d || d == i) = true → isFloat rd.o = true := fun d rd p1 p2 p3 p4 => by
      have hdi : d ≠ i := fun e => by subst e; rw [hrc] at p1; cases p1; rw [heff] at p2; cases p2
      exact Sg.aft d rd p1 p2 p3 (by simpa [hdi] using p4)
    have hbef : ∀ d rd, rs[d]? = some rd → isEff rd.o = true → d < q → (L d || d == i) = true := fun d rd h1 h2 h3 => by simp [Sg.bef d rd h1 h2 h3]
    cases hw : rc.w
    · obtain ⟨h1, h2, h3⟩ := S.no hw
      rw [if_neg (by rw [want_spec h1 hf]; simp)]
      exact ⟨fun _ _ => trivial, stay undef σ1 w q (by rw [h2]; exact R_undef) (.refl _) (.refl _ _) Sg.le hiff hbef haft Sg.hr⟩
    · obtain ⟨h1, h2⟩ := S.yes hw
      rw [if_pos (want_spec h1 hf)]
      -- its value at the heap that lies there now
      have hex : exec1 P call (msk (reads ops rc.o) (look rc.tm fr)) (HA rs h' q) rc.o = some (rc.v, HA rs h' q) := by
        rcases hro with hno | hok
        · have e1 : HA rs h' q = rc.h := by
            rw [← HA_of (h' := h') hrc]
            rcases Nat.le_total i q with h | h
            · exact T.calm' h Sg.le fun d rd _ _ hd => hno d rd hd
            · exact (T.calm' h (by omega) fun d rd _ _ hd => hno d rd hd).symm
          rw [e1]
          have h2' : exec1 P call (msk (reads ops rc.o) (look rc.tm fr)) rc.h rc.o = some (rc.v, HA rs h' (i + 1)) := h2
          rw [T.quiet hrc heff, HA_of hrc] at h2'
          exact h2'
        · cases hrd : isRead rc.o
          · exact exec1_indep rc.o heff hrd h2 _
          · have hmem : (q, HA rs h' q) ∈ effHeaps rs 0 ++ [(ops.size, h')] := by
              rcases hq with rfl | ⟨rq, g1, g2, _⟩
              · have : HA rs h' ops.size = h' := by simp [HA, List.getElem?_eq_none (show rs.length ≤ ops.size by rw [T.len]; exact Nat.le_refl _)]
                rw [this]
                simp
              · rw [HA_of g1]
                have := effHeaps_mem rs 0 q rq g1 g2
                rw [Nat.zero_add] at this
                simp [this]
            have hnb : ¬ Nat.testBit (cl.getD (0 + i) 0) q = true := fun hbit => by
              rw [Nat.zero_add] at hbit
              rcases hq with rfl | ⟨rq, g1, g2, g3⟩
              · have := O.lt i ho hbit
                omega
              · rw [before q hbit] at g3
                cases g3
            rcases readsOK_at rs 0 i rc hok hrc hw hrd _ hmem with h3 | ⟨h1', h3⟩
            · simp only [rdSkip, Bool.or_eq_true] at h3
              rcases h3 with h3 | h3
              · exact absurd h3 hnb
              · exfalso
                rw [Nat.zero_add] at h3
                obtain ⟨d, hd, hd2⟩ := List.any_eq_true.1 h3
                simp only [Bool.and_eq_true, Nat.blt_eq] at hd2
                obtain ⟨x, hx, rfl⟩ := List.mem_map.1 hd
                rcases List.mem_append.1 hx with hx | hx
                · obtain ⟨k, rk, k1, k2, k3⟩ := effHeaps_of rs 0 x hx
                  rw [Nat.zero_add] at k1
                  rw [k1] at hd2
                  have := Sg.bef k rk k2 k3 hd2.1
                  rw [notBefore k rk k2 hd2.2] at this
                  cases this
                · simp only [List.mem_singleton] at hx
                  subst hx
                  have := hd2.1
                  have := Sg.le
                  simp only at this hd2
                  omega
            · have := exec1_quiet rc.o heff h3
              subst this
              exact h3
      exact exec1_sound hcall Sg.hr hpw hf hex fun u w' τ q1 q2 q3 q4 => stay u τ w' q q1 q2 q4 Sg.le hiff hbef haft q3
  · -- it may change the heap
    have hqi : q ≤ i := by
      rcases Nat.lt_or_ge i q with h | h
      · have := Sg.bef i rc hrc heff h
        rw [hL] at this
        cases this
      · exact h
    cases hfl : isFloat rc.o
    · -- those before it have come, and those behind it have not, but for new variables
      have hiq : q = i := by
        rcases hq with rfl | ⟨rq, g1, g2, g3⟩
        · omega
        · rcases Nat.lt_or_ge q i with h | h
          · have := before q (O.eff ho (T.op g1) heff g2 h hfl)
            rw [g3] at this
            cases this
          · omega
      have e1 : HA rs h' q = rc.h := by rw [hiq]; exact HA_of hrc
      have hH := Sg.hr
      rw [e1] at hH
      have hiff : ∀ d rd, Pd rs (fun d => L d || d == i) (i + 1) d rd ↔ Pd rs L q d rd := fun d rd => by
        constructor
        · rintro ⟨p1, p0, p2, p3, p4⟩
          have hdi : d ≠ i := by omega
          exact ⟨p1, p0, p2, by omega, by simpa [hdi] using p4⟩
        · intro hp
          have := pdi d rd hp
          have := hp.2.2.2.1
          exact ⟨hp.1, hp.2.1, hp.2.2.1, by omega, by simp [hp.2.2.2.2]⟩
      have haft : ∀ d rd, rs[d]? = some rd → isEff rd.o = true → i + 1 ≤ d → (L d || d == i) = true → isFloat rd.o = true := fun d rd p1 p2 p3 p4 => by
        have hdi : d ≠ i := by omega
        exact Sg.aft d rd p1 p2 (by omega) (by simpa [hdi] using p4)
      have hbef : ∀ d rd, rs[d]? = some rd → isEff rd.o = true → d < i + 1 → (L d || d == i) = true := fun d rd h1 h2 h3 => by
        by_cases e : d = i
        · simp [e]
        · simp [Sg.bef d rd h1 h2 (by omega)]
      cases hw : rc.w
      · obtain ⟨h1, h2, h3⟩ := S.no hw
        rw [if_neg (by rw [want_spec h1 hf]; simp)]
        refine ⟨fun _ _ => trivial, stay undef σ1 w (i + 1) (by rw [h2]; exact R_undef) (.refl _) (.refl _ _) (by omega) hiff hbef haft ?_⟩
        rw [h3]
        exact hH
      · obtain ⟨h1, h2⟩ := S.yes hw
        rw [if_pos (want_spec h1 hf)]
        exact exec1_sound hcall hH hpw hf h2 fun u w' τ q1 q2 q3 q4 => stay u τ w' (i + 1) q1 q2 q4 (by omega) hiff hbef haft q3
    · -- a new variable: it waits
      have hbef : ∀ d rd, rs[d]? = some rd → isEff rd.o = true → d < q → (L d || d == i) = true := fun d rd h1 h2 h3 => by simp [Sg.bef d rd h1 h2 h3]
      have haft : ∀ d rd, rs[d]? = some rd → isEff rd.o = true → q ≤ d → (L d || d == i) = true → isFloat rd.o = true := fun d rd p1 p2 p3 p4 => by
        by_cases e : d = i
        · subst e
          rw [hrc] at p1
          cases p1
          exact hfl
        · exact Sg.aft d rd p1 p2 p3 (by simpa [e] using p4)
      cases hw : rc.w
      · obtain ⟨h1, h2, h3⟩ := S.no hw
        rw [if_neg (by rw [want_spec h1 hf]; simp)]
        refine ⟨fun _ _ => trivial, stay undef σ1 w q (by rw [h2]; exact R_undef) (.refl _) (.refl _ _) Sg.le (fun d rd => ?_) hbef haft Sg.hr⟩
        constructor
        · rintro ⟨p1, p0, p2, p3, p4⟩
          have hdi : d ≠ i := fun e => by subst e; rw [hrc] at p1; cases p1; rw [hw] at p0; cases p0
          exact ⟨p1, p0, p2, p3, by simpa [hdi] using p4⟩
        · rintro ⟨p1, p0, p2, p3, p4⟩
          exact ⟨p1, p0, p2, p3, by simp [p4]⟩
      obtain ⟨h1, h2⟩ := S.yes hw
      rw [if_pos (want_spec h1 hf)]
      obtain ⟨cells, vs, u, ty, hh, hvs, hrun, hu⟩ := float_sound hf hfl h2 w
      have hsp : ∀ d rd, Pd rs (fun d => L d || d == i) q d rd → (d = i ∧ rd = rc) ∨ (d ≠ i ∧ Pd rs L q d rd) := fun d rd ⟨p1, p0, p2, p3, p4⟩ => by
        by_cases e : d = i
        · subst e
          rw [hrc] at p1
          cases p1
          exact .inl ⟨rfl, rfl⟩
        · exact .inr ⟨e, p1, p0, p2, p3, by simpa [e] using p4⟩
      have hin : ∀ d rd, Pd rs L q d rd → A d < w.heap.size := fun d rd hp => by
        obtain ⟨_, vs, e, cells, hg, _⟩ := Sg.pen d rd hp
        exact lt_of_heap hg
      refine float_run hfl hrun <| go u σ1 (w.alloc (.cells vs ty)) q (fun d => if d = i then w.heap.size else A d) (.refl _) (Fw.alloc hbw _) {
        le := Sg.le
        bef := hbef
        aft := haft
        hr := (Sg.hr.prot (base' := pend base rs (fun d => L d || d == i) (fun d => if d = i then w.heap.size else A d) q) (fun k hk h hs => by
          rcases hs with hs | ⟨d, rd, hp, e⟩
          · exact h (.inl hs)
          · rcases hsp d rd hp with ⟨rfl, rfl⟩ | ⟨hne, hp⟩
            · simp only [if_true] at e
              omega
            · simp only [if_neg hne] at e
              exact h (.inr ⟨d, rd, hp, e⟩)) (fun _ _ h => h)).other _
        pen := fun d rd hp => by
          rcases hsp d rd hp with ⟨rfl, rfl⟩ | ⟨hne, hp⟩
          · simp only [if_true]
            refine ⟨I.fw.bel.size, vs, ty, cells, heap_alloc_new w _, hvs, by rw [HA_of hrc]; exact (by simpa using hh), fun t ht τ hτ => ?_⟩
            rw [HA_of hrc] at hτ
            have hu := hu τ hτ
            rw [ht]
            simp only [Act.put, Array.getD_eq_getD_getElem?]
            rw [Array.getElem?_setIfInBounds_self_of_lt (by rw [I.size]; exact S.dst t ht)]
            exact hu
          · simp only [if_neg hne]
            obtain ⟨p1, vs', e, cells', p2, p3, p4, p6⟩ := Sg.pen d rd hp
            exact ⟨p1, vs', e, cells', by rw [Below.heap_alloc _ _ _ (lt_of_heap p2)]; exact p2, p3, p4, fun t ht => by rw [putpen _ d rd hp t ht]; exact p6 t ht⟩
        inj := fun d rd d' rd' hp hp' e => by
          rcases hsp d rd hp with ⟨rfl, rfl⟩ | ⟨hne, hp2⟩
          · rcases hsp d' rd' hp' with ⟨rfl, rfl⟩ | ⟨hne', hp3⟩
            · rfl
            · simp only [if_true, if_neg hne'] at e
              have := hin d' rd' hp3
              omega
          · rcases hsp d' rd' hp' with ⟨rfl, rfl⟩ | ⟨hne', hp3⟩
            · simp only [if_true, if_neg hne] at e
              have := hin d rd hp2
              omega
            · simp only [if_neg hne, if_neg hne'] at e
              exact Sg.inj d rd d' rd' hp2 hp3 e
        val := fun t v hno hv => putval _ σ1 (.refl _) t v (fun e => absurd e (hno i rc ⟨hrc, hw, heff, hqi, by simp⟩)) (fun d rd hp => hno d rd ⟨hp.1, hp.2.1, hp.2.2.1, hp.2.2.2.1, by simp [hp.2.2.2.2]⟩) hv }

end
end
end Go.Abs

namespace Go.Abs
open Go Go.RowKit

section
variable {P : Program} {call : CallF} {n : Nat} {ops : Array Oper} {fr : Fr} {rs : List Rec} {tm' : Fr} {h' h0 : Hp} {cl : List Nat} {base : Prot} {σ0 : Env} {w0 : World} {df : List Deferred}

theorem Inv.congr {L L' : Nat → Bool} {σ : Env} {a : Act} {w : World} (hL : ∀ d, d < ops.size → L d = L' d) (hcl : ∀ i, i < ops.size → ∀ j, Nat.testBit (cl.getD i 0) j = true → j < ops.size) (hlen : rs.length = ops.size)
    (I : Inv base σ0 n ops cl fr rs h' w0 df L σ a w) : Inv base σ0 n ops cl fr rs h' w0 df L' σ a w := by
  have lt : ∀ d (r : Rec), rs[d]? = some r → d < ops.size := fun d r h => by
    rw [← hlen]
    exact (List.getElem?_eq_some_iff.1 h).1
  refine ⟨fun i hi hLi j hj => ?_, I.size, ?_, I.ext, I.fw, I.dfs⟩
  · rw [← hL j (hcl i hi j hj)]
    exact I.clo i hi (by rw [hL i hi]; exact hLi) j hj
  · obtain ⟨j, A, S⟩ := I.stage
    have pd : ∀ d r, Pd rs L' j d r ↔ Pd rs L j d r := fun d r => by
      unfold Pd
      constructor
      · rintro ⟨h1, h0, h2, h3, h4⟩
        exact ⟨h1, h0, h2, h3, by rw [hL d (lt d r h1)]; exact h4⟩
      · rintro ⟨h1, h0, h2, h3, h4⟩
        exact ⟨h1, h0, h2, h3, by rw [← hL d (lt d r h1)]; exact h4⟩
    exact ⟨j, A, {
      le := S.le
      bef := fun d r h1 h2 h3 => by rw [← hL d (lt d r h1)]; exact S.bef d r h1 h2 h3
      aft := fun d r h1 h2 h3 h4 => S.aft d r h1 h2 h3 (by rw [hL d (lt d r h1)]; exact h4)
      hr := S.hr.prot (fun k _ h hs => h (hs.imp id fun ⟨d, r, hp, e⟩ => ⟨d, r, (pd d r).1 hp, e⟩)) (fun _ _ h => h)
      pen := fun d r hp => S.pen d r ((pd d r).1 hp)
      inj := fun d r d' r' hp hp' => S.inj d r d' r' ((pd d r).1 hp) ((pd d' r').1 hp')
      val := fun t v hno hv => S.val t v (fun d r hp => hno d r ((pd d r).2 hp)) (by
        rcases hv with ⟨d, r, h1, h2, h3, h4⟩ | ⟨h1, h2⟩
        · exact .inl ⟨d, r, h1, by rw [hL d (lt d r h1)]; exact h2, h3, h4⟩
        · exact .inr ⟨fun d r g1 g2 => by rw [hL d (lt d r g1)]; exact h1 d r g1 g2, h2⟩) }⟩

theorem ready_of {listed : Array Bool} {i : Nat} (h : i ∈ Region.ready .any ops listed) : i < ops.size ∧ listed.getD i true = false ∧ ∀ o, ops[i]? = some o → ∀ e ∈ o.after.toList, Region.binds .any e = true → listed.getD e.on false = true := by
  unfold Region.ready at h
  rw [List.mem_filter, List.mem_range] at h
  obtain ⟨h1, h2⟩ := h
  simp only [Bool.and_eq_true, Bool.not_eq_true'] at h2
  refine ⟨h1, h2.1, fun o ho e he hb => ?_⟩
  have h3 := h2.2
  simp only [ho, Option.map_some, Option.getD_some, Array.all_eq_true', Bool.or_eq_true, Bool.not_eq_true'] at h3
  rcases h3 e (by simpa using he) with h | h
  · rw [hb] at h; cases h
  · exact h

theorem all_listed (O : Ord ops cl) {listed : Array Bool} (hs : listed.size = ops.size) (hr : Region.ready .any ops listed = []) : ∀ i, i < ops.size → listed.getD i false = true := by
  intro i
  induction i using Nat.strongRecOn with
  | _ i ih =>
    intro hi
    cases hl : listed.getD i false
    · exfalso
      have : i ∈ Region.ready .any ops listed := by
        unfold Region.ready
        rw [List.mem_filter, List.mem_range]
        refine ⟨hi, ?_⟩
        have h1 : listed.getD i true = false := by
          rw [Array.getD_eq_getD_getElem?] at hl ⊢
          rw [Array.getElem?_eq_getElem (by omega)] at hl ⊢
          simpa using hl
        simp only [h1, Bool.not_false, Bool.true_and, Array.getElem?_eq_getElem hi, Option.map_some, Option.getD_some, Array.all_eq_true', Bool.or_eq_true, Bool.not_eq_true']
        intro e he
        cases hb : Region.binds .any e
        · exact .inl rfl
        · have := O.edge (Array.getElem?_eq_getElem hi) e (by simpa using he) hb
          exact .inr (ih e.on this (by omega))
      rw [hr] at this
      cases this
    · rfl

theorem draw_all (hcall : CallOK P call) (O : Ord ops cl) (T : Tr P call n ops fr h0 rs tm' h') (hro : (∀ (d : Nat) (r : Rec), rs[d]? = some r → isEff r.o = false) ∨ readsOK P call ops fr cl (effHeaps rs 0 ++ [(ops.size, h')]) rs 0 = true)
    (hb : base.fit w0.heap.size) (hbr : ∀ k, base.ro k → k < w0.heap.size) {r : Option Nat} {N : Nat} {Q : Exit → Act → World → Prop}
    (hQ : ∀ a' w' τ, a'.defers = df → Ext σ0 τ → HR τ base h' w' → FR τ n (look tm' fr) a'.tmps → Fw base w0 w' → Q .normal a' w') :
    ∀ (fuel : Nat) (listed : Array Bool) (σ : Env) (a : Act) (w : World), listed.size = ops.size → listed.toList.countP (!·) ≤ fuel →
      Inv base σ0 n ops cl fr rs h' w0 df (fun d => listed.getD d false) σ a w → wpAnyIn (Wd r) N P .any ops Q fuel listed a w := by
  have fin : ∀ (listed : Array Bool) (σ : Env) (a : Act) (w : World), (∀ i, i < ops.size → listed.getD i false = true) →
      Inv base σ0 n ops cl fr rs h' w0 df (fun d => listed.getD d false) σ a w → Q .normal a w := fun listed σ a w hall I => by
    have lt : ∀ d (r : Rec), rs[d]? = some r → d < ops.size := fun d r h => by
      rw [← T.len]
      exact (List.getElem?_eq_some_iff.1 h).1
    have hTM : TM rs tm' ops.size = tm' := by simp [TM, List.getElem?_eq_none (show rs.length ≤ ops.size by rw [T.len]; exact Nat.le_refl _)]
    have hHA : HA rs h' ops.size = h' := by simp [HA, List.getElem?_eq_none (show rs.length ≤ ops.size by rw [T.len]; exact Nat.le_refl _)]
    obtain ⟨j, A, S0⟩ := I.stage
    obtain ⟨q, τ, hx, S, hq⟩ := S0.adv O T hbr hb (ops.size - j) j σ (by have := S0.le; omega)
    have e : q = ops.size := by
      rcases hq with h | ⟨rq, g1, g2, g3⟩
      · exact h
      · have := hall q (lt q rq g1)
        rw [this] at g3
        cases g3
    subst e
    have hH := S.hr
    rw [hHA] at hH
    have none' : ∀ d rd, ¬ Pd rs (fun d => listed.getD d false) ops.size d rd := fun d rd hp => by
      have := lt d rd hp.1
      have := hp.2.2.2.1
      omega
    refine hQ a w τ I.dfs (I.ext.trans hx) (hH.prot (fun k _ h hs => h (.inl hs)) (fun _ _ h => h)) ⟨I.size, fun t => S.val t _ (fun d rd hp => absurd hp (none' d rd)) ?_⟩ I.fw
    have := T.text t ops.size (Nat.le_refl _)
    rw [hTM] at this
    rcases this with ⟨d, rd, h1, h2, h3, h4⟩ | ⟨h1, h2⟩
    · exact .inl ⟨d, rd, h2, hall d h1, h3, h4⟩
    · exact .inr ⟨fun d rd g1 g2 => absurd g2 (h1 d rd (lt d rd g1) g1), h2⟩
  have hcl : ∀ i, i < ops.size → ∀ j, Nat.testBit (cl.getD i 0) j = true → j < ops.size := fun i hi j hj => by
    have := O.lt i (Array.getElem?_eq_getElem hi) hj
    omega
  intro fuel
  induction fuel with
  | zero =>
    intro listed σ a w hs hc I
    have hall : ∀ i, i < ops.size → listed.getD i false = true := fun i hi => by
      have h1 : listed.toList.countP (!·) = 0 := by omega
      rw [List.countP_eq_zero] at h1
      have hlt : i < listed.size := by omega
      have := h1 listed[i] (by simp)
      rw [Array.getD_eq_getD_getElem?, Array.getElem?_eq_getElem hlt]
      simpa using this
    have hrd : Region.ready .any ops listed = [] := by
      cases hr : Region.ready .any ops listed with
      | nil => rfl
      | cons i l =>
        obtain ⟨h1, h2, _⟩ := ready_of (ops := ops) (listed := listed) (i := i) (by rw [hr]; simp)
        have := hall i h1
        rw [Array.getD_eq_getD_getElem?, Array.getElem?_eq_getElem (by omega)] at this h2
        simp at this h2
        rw [this] at h2
        cases h2
    exact ⟨hrd, fin listed σ a w hall I⟩
  | succ fuel ih =>
    intro listed σ a w hs hc I
    refine ⟨fun hr => fin listed σ a w (all_listed O hs hr) I, fun i hi => ?_⟩
    obtain ⟨h1, h2, h3⟩ := ready_of hi
    have hLi : listed.getD i false = false := by
      rw [Array.getD_eq_getD_getElem?, Array.getElem?_eq_getElem (by omega)] at h2 ⊢
      simpa using h2
    refine draw_step hcall O T hro hb hbr I h1 hLi (fun o ho e he hbd => h3 o ho e he hbd) fun τ a' w' I' => ?_
    refine ih _ τ a' w' (by simp [hs]) ?_ (I'.congr (fun d hd => ?_) hcl T.len)
    · have hlt : i < listed.toList.length := by simp; omega
      rw [Array.toList_setIfInBounds, List.countP_set hlt]
      have : (!listed.toList[i]) = true := by
        rw [Array.getD_eq_getD_getElem?, Array.getElem?_eq_getElem (by omega)] at h2
        simpa using h2
      simp only [this, if_true, Bool.not_true, Bool.false_eq_true, if_false]
      omega
    · simp only [Array.getD_eq_getD_getElem?, Array.getElem?_setIfInBounds]
      by_cases hdi : i = d
      · subst hdi
        simp [show i < listed.size by omega]
      · have : (d == i) = false := by simp; omega
        simp [hdi, this]

theorem effHeaps_empty : ∀ (l : List Rec) (i : Nat), (effHeaps l i).isEmpty = true → ∀ (d : Nat) (r : Rec), l[d]? = some r → isEff r.o = false
  | [], i, _, d, r, h => by simp at h
  | x :: l, i, he, d, r, h => by
    cases hx : isEff x.o
    · simp only [effHeaps, hx, cond_false] at he
      cases d with
      | zero => simp at h; subst h; exact hx
      | succ d => simp at h; exact effHeaps_empty l (i + 1) he d r h
    · simp [effHeaps, hx] at he

/-- **A region whose order is drawn.** -/
theorem runDraw_sound (hcall : CallOK P call) (hm : P.follows .mixedOrders = true) {σ : Env} {w : World} {a : Act} {h : Hp} {tm : Fr} {h1 : Hp} (hs : runDraw P call n ops fr h = some (tm, h1)) (H : HR σ base h w) (hb : base.fit w.heap.size)
    (hf : FR σ n (lkF fr) a.tmps) {r : Option Nat} {N id : Nat} {Q : Exit → Act → World → Prop}
    (hQ : ∀ a' w' τ, a'.defers = a.defers → Ext σ τ → HR τ base h1 w' → FR τ n (look tm fr) a'.tmps → Fw base w w' → Q .normal a' w') : (Code.region id ops true).wpIn (Wd r) N P Q a w := by
  unfold runDraw at hs
  split at hs
  · rename_i rs tm2 h2 ht
    cases hc : (orderOK ops (clos ops.toList []) && ((effHeaps rs 0).isEmpty || readsOK P call ops fr (clos ops.toList []) (effHeaps rs 0 ++ [(ops.size, h2)]) rs 0))
    · simp only [hc, cond_false] at hs
      cases hs
    · simp only [hc, cond_true, Option.some.injEq, Prod.mk.injEq] at hs
      obtain ⟨rfl, rfl⟩ := hs
      simp only [Bool.and_eq_true, Bool.or_eq_true] at hc
      have O := orderOK_spec hc.1
      have T := Tr.mk' ht
      refine wpIn_region_any hm ?_
      have hro := hc.2.imp (effHeaps_empty rs 0) fun h => h
      have back : ∀ {w'}, Fw (Prot.mk base.s (fun k => base.ro k ∧ k < w.heap.size) base.gl) w.drew w' → Fw base w.drew w' := fun h => ⟨h.bel.mono fun _ h => h, h.dfr, h.lop⟩
      refine draw_all (base := ⟨base.s, fun k => base.ro k ∧ k < w.heap.size, base.gl⟩) hcall O T hro (w0 := w.drew) hb (fun k h => h.2) (fun a' w' τ q1 q2 q3 q4 q5 => hQ a' w' τ q1 q2 (q3.prot (fun _ _ h => h) (fun _ _ h => h.1)) q4 ((Fw.drew _ _).trans (back q5))) ops.size _ σ a w.drew (by simp) ?_ ?_
      · refine Nat.le_trans (List.countP_le_length) (by simp)
      · have hfalse : ∀ d, (Array.replicate ops.size false).getD d false = false := fun d => by
          rw [Array.getD_eq_getD_getElem?, Array.getElem?_replicate]
          split <;> rfl
        have none' : ∀ d rd, ¬ Pd rs (fun d => (Array.replicate ops.size false).getD d false) 0 d rd := fun d rd hp => by
          have := hp.2.2.2.2
          simp only [hfalse] at this
          cases this
        refine ⟨fun i _ hL => (by rw [hfalse] at hL; cases hL), hf.1, ⟨0, fun _ => 0, ?_⟩, .refl _, .refl _ _, rfl⟩
        exact {
          le := Nat.zero_le _
          bef := fun d r _ _ h => absurd h (Nat.not_lt_zero _)
          aft := fun d r _ _ _ h => by
            simp only [hfalse] at h
            cases h
          hr := by
            rw [T.ha0]
            exact H.drew.prot (fun k _ h hs => by
              rcases hs with hs | ⟨d, r, hp, _⟩
              · exact h hs
              · exact none' d r hp) (fun k hk h => ⟨h, hk⟩)
          pen := fun d r hp => absurd hp (none' d r)
          inj := fun d r d' r' hp => absurd hp (none' d r)
          val := fun t v _ hv => by
            rcases hv with ⟨d, rd, h1, h2, h3, h4⟩ | ⟨_, rfl⟩
            · have h2' := h2
              simp only [hfalse] at h2'
              cases h2'
            · exact hf.2 t }
  · cases hs

end
end Go.Abs

namespace Go.Abs
open Go Go.RowKit

section
variable {P : Program} {base : Prot} {σ : Env} {w : World} {h : Hp}

/-- Only the slots that are kept are spoken of. -/
def KP (keep : Nat) (fr : Fr) : Prop := ∀ t, keep.testBit t = false → lkF fr t = .any

theorem commit_spec (keep : Nat) : ∀ (tm fr : Fr), KP keep fr → KP keep (commit keep tm fr) ∧ ∀ t, lkF (commit keep tm fr) t = if keep.testBit t = true then look tm fr t else .any
  | [], fr, h => ⟨h, fun t => by
      simp only [commit, look, lkO]
      cases ht : keep.testBit t
      · simp [h t ht]
      · simp⟩
  | (d, v) :: r, fr, h => by
    obtain ⟨h1, h2⟩ := commit_spec keep r fr h
    simp only [commit]
    cases hd : keep.testBit d
    · simp only [cond_false]
      refine ⟨h1, fun t => ?_⟩
      rw [h2, look_cons]
      by_cases e : t = d
      · subst e; simp [hd]
      · rw [if_neg e]
    · simp only [cond_true]
      have key : ∀ t, lkF (setF (commit keep r fr) d v) t = if keep.testBit t = true then look ((d, v) :: r) fr t else .any := fun t => by
        rw [lkF_setF, look_cons]
        by_cases e : t = d
        · subst e; simp [hd]
        · rw [if_neg e, if_neg e, h2]
      refine ⟨fun t ht => ?_, key⟩
      rw [key, ht]
      simp

theorem FR.commit {n keep : Nat} {tm fr : Fr} {tmps : Array Value} (hk : KP keep fr) (hf : FR σ n (look tm fr) tmps) : FR σ n (lkF (commit keep tm fr)) tmps := by
  refine ⟨hf.1, fun t => ?_⟩
  rw [(commit_spec keep tm fr hk).2]
  split
  · exact hf.2 t
  · exact R_any

def Ex.out : Ex → Exit
  | .normal => .normal
  | .exit id => .exit id
  | .ret => .ret

/-- The marks of loops over functions among the deferred calls: each its own block, from lo on, with no call. -/
def Mk (lo : Nat) (ds : List Deferred) (w : World) : Prop :=
  (∀ d ∈ ds, ∃ b, d.target = .collected b ∧ lo ≤ b ∧ w.heap[b]? = some (.deferred (some []))) ∧ ds.Pairwise fun x y => ∀ a b, x.target = .collected a → y.target = .collected b → a ≠ b

theorem Mk.fw {lo : Nat} {ds : List Deferred} {w' : World} (h : Mk lo ds w) (hf : Fw base w w') : Mk lo ds w' :=
  ⟨fun d hd => let ⟨b, h1, h2, h3⟩ := h.1 d hd; ⟨b, h1, h2, hf.dfr b _ h3⟩, h.2⟩

/-- What a statement leaves. -/
def PostC (base : Prot) (lo : Nat) (σ : Env) (keep n : Nat) (e : Ex) (s : St) (w : World) : Exit → Act → World → Prop :=
  fun x a' w' => x = e.out ∧ ∃ τ, Ext σ τ ∧ HR τ base s.hp w' ∧ FR τ n (lkF s.fr) a'.tmps ∧ KP keep s.fr ∧ Fw base w w' ∧ Mk lo a'.defers w'

theorem PostC.trans {lo keep n : Nat} {τ : Env} {e : Ex} {s : St} {w1 : World} (hx : Ext σ τ) (hf : Fw base w w1) {x : Exit} {a : Act} {w2 : World} (h : PostC base lo τ keep n e s w1 x a w2) : PostC base lo σ keep n e s w x a w2 := by
  obtain ⟨h1, υ, h2, h3, h4, h5, h6, h7⟩ := h
  exact ⟨h1, υ, hx.trans h2, h3, h4, h5, hf.trans h6, h7⟩

/-- In a round: its loop is there. -/
def InR (r : Option Nat) (w : World) : Prop := ∀ l, r = some l → ∃ x, w.heap[l]? = some (Obj.loop x)

theorem InR.fw {r : Option Nat} {w' : World} (h : InR r w) (hf : Fw base w w') : InR r w' := fun l hl => let ⟨x, hx⟩ := h l hl; hf.lop l x hx

/-- A loop is entered. -/
theorem HR.addLoop (H : HR σ base h w) (hb : base.fit w.heap.size) {rc : LoopA} {x : Loop} (h0 : rc.st < 4) (h1 : x.params = rc.ps) (h2 : x.assign = rc.assign) (h3 : x.body = rc.body) (h4 : x.state = (match rc.st with | 0 => .ready | 1 => .busy | 2 => .done | _ => .exhausted))
    (h5 : x.pending = rc.jump.map (fun j => match j with | none => .ret | some id => .exit id)) (h6 : FR σ rc.n (lkF rc.fr) x.tmps) (h7 : KP rc.keep rc.fr) :
    HR (upd σ h.next ⟨w.heap.size, 0, 0⟩) base { h with next := h.next + 1, loops := (h.next, rc) :: h.loops } (w.alloc (.loop x)) ∧ Ext σ (upd σ h.next ⟨w.heap.size, 0, 0⟩) :=
  H.addObj hb (fun τ hx => .inl ⟨h0, x, rfl, h1, h2, h3, h4, h5, h6.ext hx, h7⟩) (fun m seen ents cm e => by rw [e] at h0; simp [itObj] at h0)

theorem lkL_delL : ∀ (l : List (Nat × LoopA)) (i j : Nat), lkL (delL l i) j = if j = i then none else lkL l j
  | [], i, j => by simp [delL, lkL]
  | (k, x) :: r, i, j => by
    by_cases hk : k = i
    · subst hk
      simp only [delL, Nat.beq_refl, cond_true, lkL_cons, lkL_delL r k j]
      by_cases hj : j = k <;> simp [hj]
    · simp only [delL, nb hk, cond_false, lkL_cons, lkL_delL r i j]
      by_cases hj : j = k
      · subst hj; simp [hk]
      · rw [if_neg hj, if_neg hj]

/-- A loop's record turns. -/
theorem HR.setLoop (H : HR σ base h w) {l : Nat} {r r1 : LoopA} (hl : lkL h.loops l = some r) {c : Loc} (hc : σ l = some c) {x : Loop} (hx : w.heap[c.blk]? = some (.loop x)) {y : Loop} {ls : List (Nat × LoopA)} (h0 : r1.st < 4) (hL : LoopR σ r1 y)
    (hls : ∀ j r', lkL ls j = some r' → (j ≠ l ∧ lkL h.loops j = some r') ∨ (j = l ∧ r' = r1)) :
    HR σ base { h with loops := ls } (World.setO w c.blk (.loop y)) ∧ Fw base w (World.setO w c.blk (.loop y)) :=
  H.setObj hl hc hx (r := r1) (.inl ⟨h0, y, rfl, hL⟩) (fun d e => by cases e) (fun _ _ => ⟨y, rfl⟩) (fun j r' hj => (hls j r' hj).imp id .inl)
    (fun i seen ents ci e => by rw [e] at h0; simp [mapObj] at h0) (fun m seen ents cm e => by rw [e] at h0; simp [itObj] at h0)

end
end Go.Abs

set_option linter.unusedSimpArgs false
set_option linter.unusedVariables false
namespace Go.Abs
open Go Go.RowKit

section
variable {P : Program} {base : Prot} {call : CallF} {m keep n : Nat}

/-- A scope without a jump to its labels. -/
theorem stepR_scope' {b : Frame} {a : Act} {k : List Item} {cs : List Frame} {w : World} {c : Code} : step P (lone (b.atR a (.code (.scope c) :: k)) cs w) = .next (lone (b.atR a (.code c :: .inScope c :: k)) cs w) :=
  step_lone_go (by simp [stepG, stepG.exec, Frame.atR])
theorem stepR_inScope' {b : Frame} {a : Act} {k : List Item} {cs : List Frame} {w : World} {c : Code} : step P (lone (b.atR a (.inScope c :: k)) cs w) = .next (lone (b.atR a k) cs w) :=
  step_lone_go (by simp [stepG, stepG.exec, Frame.atR])
def noGoto' (Q : Exit → Act → World → Prop) : Exit → Act → World → Prop
  | .goto _, _, _ => False
  | e, a, w => Q e a w
theorem wpIn_scope_straight {F : Fence} {N : Nat} {c : Code} {Q : Exit → Act → World → Prop} {a : Act} {w : World} (h : c.wpIn F N P (noGoto' Q) a w) : (Code.scope c).wpIn F N P Q a w := by
  intro b k cs hro hb hr
  have h0 : (lone (b.atR a (.code (.scope c) :: k)) cs w).fenced P F := fenced_calm hb hr rfl
  obtain ⟨e, a₁, w₁, hq, harr⟩ := h b (.inScope c :: k) cs hro hb hr
  cases e with
  | normal => exact ⟨.normal, a₁, w₁, hq, .head h0 stepR_scope' (StepsIn.trans harr (.one (fenced_calm hb hr rfl) stepR_inScope'))⟩
  | exit id =>
    have hx : exitTo id (.inScope c :: k) = exitTo id k := by simp [exitTo]
    exact ⟨.exit id, a₁, w₁, hq, fun k' hk => .head h0 stepR_scope' (harr.1 k' (by rw [hx]; exact hk)),
      fun hr' hk => let ⟨k₁, h1, h2⟩ := harr.2 hr' (by rw [hx]; exact hk); ⟨k₁, h1, .head h0 stepR_scope' h2⟩⟩
  | goto l => exact hq.elim
  | ret => exact ⟨_, a₁, w₁, hq, .of_steps (.one h0 stepR_scope') harr⟩
  | panic ch => exact ⟨_, a₁, w₁, hq, .of_steps (.one h0 stepR_scope') harr⟩
  | outgrown => exact ⟨_, a₁, w₁, hq, .of_steps (.one h0 stepR_scope') harr⟩

/-- A loop whose rounds are counted down. -/
theorem wpIn_loop_count {F : Fence} {N : Nat} {c : Code} {Q : Exit → Act → World → Prop} (J : Nat → Act → World → Prop) (h0 : ∀ a w, ¬ J 0 a w)
    (round : ∀ k a w, J (k + 1) a w → c.wpIn F N P (Exit.then (J k) Q) a w) {k : Nat} {a : Act} {w : World} (h : J k a w) : (Code.loop c).wpIn F N P Q a w := by
  intro b ks cs hro hb hr
  have key : ∀ j a w, J j a w → ∃ e a' w', Q e a' w' ∧ ArrivesIn (Machine.fenced P F) P (lone (b.atR a (.code c :: .inLoop c :: ks)) cs w) b ks cs e a' w' := by
    intro j
    induction j with
    | zero => intro a w h; exact absurd h (h0 a w)
    | succ j ih =>
      intro a w hJ
      obtain ⟨e, a₁, w₁, hq, harr⟩ := round j a w hJ b (.inLoop c :: ks) cs hro hb hr
      cases e with
      | normal =>
        obtain ⟨e₂, a₂, w₂, hq₂, harr₂⟩ := ih a₁ w₁ hq
        exact ⟨e₂, a₂, w₂, hq₂, .of_steps (StepsIn.trans harr (.one (fenced_calm hb hr rfl) stepR_inLoop)) harr₂⟩
      | exit id => exact ⟨_, a₁, w₁, hq, .pass (x := .inLoop c) rfl (fun _ _ => .inl (by simp)) harr⟩
      | goto l => exact ⟨_, a₁, w₁, hq, .pass (x := .inLoop c) rfl (fun _ _ => .inl (by simp)) harr⟩
      | ret => exact ⟨_, a₁, w₁, hq, .pass (x := .inLoop c) rfl (fun _ _ => .inl (by simp)) harr⟩
      | panic ch => exact ⟨_, a₁, w₁, hq, .pass (x := .inLoop c) rfl (fun _ _ => .inl (by simp)) harr⟩
      | outgrown => exact ⟨_, a₁, w₁, hq, .pass (x := .inLoop c) rfl (fun _ _ => .inl (by simp)) harr⟩
  obtain ⟨e, a', w', hq, harr⟩ := key k a w h
  exact ⟨e, a', w', hq, .of_steps (.one (fenced_calm hb hr rfl) stepR_loop) harr⟩

/-- How the abstract state stands to the machine's. -/
structure Rel (base : Prot) (lo keep n : Nat) (σ : Env) (s : St) (a : Act) (w : World) (r : Option Nat) : Prop where
  hr : HR σ base s.hp w
  base : base.fit w.heap.size
  fr : FR σ n (lkF s.fr) a.tmps
  kp : KP keep s.fr
  mks : Mk lo a.defers w
  lo : lo ≤ w.heap.size
  inr : InR r w

theorem Rel.of_post {base : Prot} {lo keep n : Nat} {σ : Env} {e : Ex} {s0 s : St} {a0 a : Act} {w w' : World} {r : Option Nat} (R0 : Rel base lo keep n σ s0 a0 w r) {x : Exit} (h : PostC base lo σ keep n e s w x a w') :
    x = e.out ∧ ∃ τ, Ext σ τ ∧ Rel base lo keep n τ s a w' r ∧ Fw base w w' := by
  obtain ⟨h1, τ, h2, h3, h4, h5, h6, h7⟩ := h
  exact ⟨h1, τ, h2, ⟨h3, R0.base.le h6.bel.size, h4, h5, h7, Nat.le_trans R0.lo h6.bel.size, R0.inr.fw h6⟩, h6⟩

theorem getLoop_run {w : World} {l : Nat} {x : Loop} (h : w.heap[l]? = some (Obj.loop x)) : (Instr.getLoop l).run P w = .ok x w := by
  simp [Instr.getLoop, getObj, Sem.run, h, Sem.run_bind]

theorem run_setObj_loop {w : World} {l : Nat} {x y : Loop} (h : w.heap[l]? = some (Obj.loop x)) : (setObj l (.loop y)).run P w = .ok () (World.setO w l (.loop y)) := by
  simp [setObj, Sem.run, h, World.setO]

theorem enterLoop_none {w : World} (fn : FuncId) (tmps : Array Value) (ps : Array Tmp) (assign body : Code) :
    (Instr.enterLoop fn tmps ps assign body none).run P w = .ok (w.heap.size + 1, [{ target := .collected w.heap.size, args := #[] }])
      ((w.alloc (.deferred (some []))).alloc (.loop { state := .ready, pending := none, fn, tmps, params := ps, assign, body, defers := w.heap.size })) := by
  simp [Instr.enterLoop, Sem.run_bind, newObj, Sem.run]

theorem enterLoop_some {w : World} {l : Nat} {x : Loop} (h : w.heap[l]? = some (Obj.loop x)) (fn : FuncId) (tmps : Array Value) (ps : Array Tmp) (assign body : Code) :
    (Instr.enterLoop fn tmps ps assign body (some l)).run P w = .ok (w.heap.size, [])
      (w.alloc (.loop { state := .ready, pending := none, fn, tmps, params := ps, assign, body, defers := x.defers })) := by
  simp [Instr.enterLoop, Sem.run_bind, getLoop_run h, newObj, Sem.run]

theorem Wd_fn (r : Option Nat) (f : FuncId) : (Wd r).fn f := trivial
theorem Wd_depth (r : Option Nat) (N : Nat) : (Wd r).depth.isSome = true → 1 ≤ N := fun h => by simp [Wd, Fence.wide] at h

theorem runC_sound (hcall : CallOK P call) (hm : P.follows .mixedOrders = true) : ∀ (c : Code) {s : St} {e : Ex} {s' : St}, runC P call m keep n c s = some (e, s') →
    ∀ {r : Option Nat} {N : Nat} {σ : Env} {w : World} {a : Act} {lo : Nat}, Rel base lo keep n σ s a w r → c.wpIn (Wd r) N P (PostC base lo σ keep n e s' w) a w
  | .skip, s, e, s', hs, r, N, σ, w, a, lo, R0 => by
    simp only [runC, Option.some.injEq, Prod.mk.injEq] at hs
    obtain ⟨rfl, rfl⟩ := hs
    exact wpIn_skip ⟨rfl, σ, .refl _, R0.hr, R0.fr, R0.kp, .refl _ _, R0.mks⟩
  | .label l, s, e, s', hs, r, N, σ, w, a, lo, R0 => by
    simp only [runC, Option.some.injEq, Prod.mk.injEq] at hs
    obtain ⟨rfl, rfl⟩ := hs
    exact wpIn_label ⟨rfl, σ, .refl _, R0.hr, R0.fr, R0.kp, .refl _ _, R0.mks⟩
  | .region id ops false, s, e, s', hs, r, N, σ, w, a, lo, R0 => by
    simp only [runC] at hs
    split at hs
    · rename_i tm h1 hrun
      simp only [Option.some.injEq, Prod.mk.injEq] at hs
      obtain ⟨rfl, rfl⟩ := hs
      refine wpIn_region ?_
      have := runOps_sound hcall (r := r) (N := N) (Q := PostC base lo σ keep n .normal { fr := commit keep tm s.fr, hp := h1 } w) ops.toList 0 [] s.hp σ w a (by simp) R0.hr R0.base R0.fr hrun
        (fun a' w' τ q1 q2 q3 q4 q5 => ⟨rfl, τ, q2, q3, FR.commit R0.kp q4, (commit_spec keep tm s.fr R0.kp).1, q5, by rw [q1]; exact R0.mks.fw q5⟩)
      rw [List.range_eq_range']
      simpa using this
    · cases hs
  | .region id ops true, s, e, s', hs, r, N, σ, w, a, lo, R0 => by
    simp only [runC] at hs
    split at hs
    · rename_i tm h1 hrun
      simp only [Option.some.injEq, Prod.mk.injEq] at hs
      obtain ⟨rfl, rfl⟩ := hs
      exact runDraw_sound hcall hm hrun R0.hr R0.base R0.fr fun a' w' τ q1 q2 q3 q4 q5 =>
        ⟨rfl, τ, q2, q3, FR.commit R0.kp q4, (commit_spec keep tm s.fr R0.kp).1, q5, by rw [q1]; exact R0.mks.fw q5⟩
    · cases hs
  | .seq x y, s, e, s', hs, r, N, σ, w, a, lo, R0 => by
    simp only [runC] at hs
    split at hs
    · rename_i s1 h1
      refine wpIn_seq (wpIn_mono (runC_sound hcall hm x h1 R0) fun ex a' w' hp => ?_)
      obtain ⟨rfl, τ, hx, R1, hf⟩ := R0.of_post hp
      exact wpIn_mono (runC_sound hcall hm y hs R1) fun ex2 a2 w2 hp2 => hp2.trans hx hf
    · rename_i hnn
      refine wpIn_seq (wpIn_mono (runC_sound hcall hm x hs R0) fun ex a' w' hp => ?_)
      have h1 := hp.1
      cases e with
      | normal => exact absurd hs (hnn s')
      | exit id => subst h1; exact hp
      | ret => subst h1; exact hp
  | .cond c x y, s, e, s', hs, r, N, σ, w, a, lo, R0 => by
    simp only [runC] at hs
    split at hs
    · rename_i t ht
      have hc := ev_sound R0.fr c
      rw [ht] at hc
      refine wpIn_cond (R_bool hc) ?_
      cases t
      · exact runC_sound hcall hm y hs R0
      · exact runC_sound hcall hm x hs R0
    · cases hs
  | .block id b, s, e, s', hs, r, N, σ, w, a, lo, R0 => by
    simp only [runC] at hs
    refine wpIn_block ?_
    split at hs
    · rename_i j s1 h1
      refine wpIn_mono (runC_sound hcall hm b h1 R0) fun ex a' w' hp => ?_
      have h2 := hp.1
      subst h2
      cases hj : Nat.beq j id
      · simp only [hj, cond_false, Option.some.injEq, Prod.mk.injEq] at hs
        obtain ⟨rfl, rfl⟩ := hs
        have hne : ¬ j = id := fun e => by rw [e] at hj; simp at hj
        simp only [Ex.out, Exit.inBlock, hne, if_false]
        exact hp
      · simp only [hj, cond_true, Option.some.injEq, Prod.mk.injEq] at hs
        obtain ⟨rfl, rfl⟩ := hs
        have he := Nat.eq_of_beq_eq_true hj
        simp only [Ex.out, Exit.inBlock, he, if_true]
        exact ⟨rfl, hp.2⟩
    · rename_i hnn
      refine wpIn_mono (runC_sound hcall hm b hs R0) fun ex a' w' hp => ?_
      have h2 := hp.1
      subst h2
      cases e with
      | normal => exact hp
      | exit j => exact absurd hs (hnn j s')
      | ret => exact hp
  | .loop b, s, e, s', hs, r, N, σ, w, a, lo, R0 => by
    simp only [runC] at hs
    refine wpIn_loop_count (J := fun k a1 w1 => ∃ s1 τ, iter (runC P call m keep n b) k s1 = some (e, s') ∧ Ext σ τ ∧ Rel base lo keep n τ s1 a1 w1 r ∧ Fw base w w1) ?_ ?_ (k := m) ⟨s, σ, hs, .refl _, R0, .refl _ _⟩
    · rintro a1 w1 ⟨s1, τ, h1, _⟩
      simp [iter] at h1
    · rintro k a1 w1 ⟨s1, τ, h1, hx, R1, hf⟩
      simp only [iter] at h1
      split at h1
      · rename_i s2 h2
        refine wpIn_mono (runC_sound hcall hm b h2 R1) fun ex a' w' hp => ?_
        obtain ⟨rfl, υ, hx2, R2, hf2⟩ := R1.of_post hp
        exact ⟨s2, υ, h1, hx.trans hx2, R2, hf.trans hf2⟩
      · rename_i hnn
        refine wpIn_mono (runC_sound hcall hm b h1 R1) fun ex a' w' hp => ?_
        have h2 := hp.1
        subst h2
        cases e with
        | normal => exact absurd h1 (hnn s')
        | exit j => exact hp.trans hx hf
        | ret => exact hp.trans hx hf
  | .exit id, s, e, s', hs, r, N, σ, w, a, lo, R0 => by
    simp only [runC, Option.some.injEq, Prod.mk.injEq] at hs
    obtain ⟨rfl, rfl⟩ := hs
    exact wpIn_exit ⟨rfl, σ, .refl _, R0.hr, R0.fr, R0.kp, .refl _ _, R0.mks⟩
  | .ret, s, e, s', hs, r, N, σ, w, a, lo, R0 => by
    simp only [runC, Option.some.injEq, Prod.mk.injEq] at hs
    obtain ⟨rfl, rfl⟩ := hs
    exact wpIn_ret ⟨rfl, σ, .refl _, R0.hr, R0.fr, R0.kp, .refl _ _, R0.mks⟩
  | .rangeFunc f ps assign body, s, e, s', hs, r, N, σ, w, a, lo, R0 => by
    simp only [runC] at hs
    split at hs
    · rename_i g fs cs hev
      split at hs
      · rename_i v h2 hc
        split at hs
        · rename_i rc hrc
          cases hst : Nat.beq rc.st 1
          · simp only [hst, cond_false] at hs
            have hst' : rc.st ≠ 1 := fun e => by rw [e] at hst; simp at hst
            have hfv := ev_sound R0.fr f
            rw [hev] at hfv
            simp only [R] at hfv
            obtain ⟨xs, ys, hfv, hxs, hys⟩ := hfv
            -- the world when the function is called, and what of it is known
            have enter : ∀ fn, ∃ (b : Nat) (mark : List Deferred) (w1 : World), (Instr.enterLoop fn a.tmps ps assign body (Wd r).round).run P w = .ok (b, mark) w1 ∧
                HR (upd σ s.hp.next ⟨b, 0, 0⟩) base { s.hp with next := s.hp.next + 1, loops := (s.hp.next, { st := 0, jump := none, ps, assign, body, keep, n, fr := s.fr }) :: s.hp.loops } w1 ∧ Ext σ (upd σ s.hp.next ⟨b, 0, 0⟩) ∧
                Fw base w w1 ∧ Mk lo (mark ++ a.defers) w1 := fun fn => by
              cases r with
              | none =>
                have H1 := R0.hr.other (.deferred (some []))
                have hb1 : base.fit (w.alloc (.deferred (some []))).heap.size := R0.base.le (by simp)
                obtain ⟨k1, k2⟩ := H1.addLoop hb1 (rc := { st := 0, jump := none, ps, assign, body, keep, n, fr := s.fr }) (x := { state := .ready, pending := none, fn, tmps := a.tmps, params := ps, assign, body, defers := w.heap.size }) (by simp) rfl rfl rfl rfl rfl R0.fr R0.kp
                have hf1 : Fw base w ((w.alloc (.deferred (some []))).alloc (.loop { state := .ready, pending := none, fn, tmps := a.tmps, params := ps, assign, body, defers := w.heap.size })) := (Fw.alloc R0.base _).trans (Fw.alloc hb1 _)
                have hsz : (w.alloc (.deferred (some []))).heap.size = w.heap.size + 1 := by simp
                rw [hsz] at k1 k2
                refine ⟨w.heap.size + 1, _, _, enterLoop_none (P := P) fn a.tmps ps assign body, k1, k2, hf1, ?_, ?_⟩
                · intro d hd
                  simp only [List.cons_append, List.nil_append, List.mem_cons] at hd
                  rcases hd with rfl | hd
                  · refine ⟨w.heap.size, rfl, R0.lo, ?_⟩
                    rw [Below.heap_alloc _ _ _ (by simp)]
                    exact heap_alloc_new w _
                  · exact (R0.mks.fw hf1).1 d hd
                · simp only [List.cons_append, List.nil_append, List.pairwise_cons]
                  refine ⟨fun d hd x y hx hy => ?_, R0.mks.2⟩
                  obtain ⟨b, g1, g2, g3⟩ := R0.mks.1 d hd
                  rw [hy] at g1
                  cases g1
                  cases hx
                  intro e
                  subst e
                  rw [Array.getElem?_eq_none (Nat.le_refl _)] at g3
                  cases g3
              | some l =>
                obtain ⟨x, hx⟩ := R0.inr l rfl
                obtain ⟨k1, k2⟩ := R0.hr.addLoop R0.base (rc := { st := 0, jump := none, ps, assign, body, keep, n, fr := s.fr }) (x := { state := .ready, pending := none, fn, tmps := a.tmps, params := ps, assign, body, defers := x.defers }) (by simp) rfl rfl rfl rfl rfl R0.fr R0.kp
                have hf1 : Fw base w (w.alloc (.loop { state := .ready, pending := none, fn, tmps := a.tmps, params := ps, assign, body, defers := x.defers })) := Fw.alloc R0.base _
                exact ⟨w.heap.size, [], _, enterLoop_some (P := P) hx fn a.tmps ps assign body, k1, k2, hf1, R0.mks.fw hf1⟩
            refine wpIn_rangeFunc fun fn _ => ?_
            obtain ⟨b, mark, w1, e1, e2, e3, e4, e5⟩ := enter fn
            have hb1 : base.fit w1.heap.size := R0.base.le e4.bel.size
            have hyl : R (upd σ s.hp.next ⟨b, 0, 0⟩) (.yld s.hp.next) (.func (.yield b) #[] #[]) := by
              simp only [R]
              exact ⟨_, upd_same _ _ _, rfl⟩
            have hall : Rs (upd σ s.hp.next ⟨b, 0, 0⟩) (fs ++ [.yld s.hp.next] ++ cs) ((xs ++ #[Value.func (.yield b) #[] #[]]) ++ ys).toList := by
              rw [Array.toList_append, Array.toList_append]
              exact ((hxs.ext e3).append (Rs.one hyl)).append (hys.ext e3)
            obtain ⟨c1, c2⟩ := hcall.func hc e2 hb1 hall
            have hres : (resolve a.eval (rangeCall f b) 0).run P w1 = .ok { target := .fn (.func g) ys, args := xs ++ #[Value.func (.yield b) #[] #[]] } w1 := by
              have hm1 : (#[Operand.const (Value.func (.yield b) #[] #[])] : Array Operand).map a.eval = #[Value.func (.yield b) #[] #[]] := by simp [Act.eval]
              simp only [resolve, hfv, Deferred.ofValue, hm1, Sem.run_pure]
            refine ⟨b, mark, w1, _, w1, g, _, w1, e1, hres, fun _ _ => trivial, c1, Wd_depth r N, ?_⟩
            have k3 : CallsIn (Wd r) (N - 1) P g ((xs ++ #[Value.func (.yield b) #[] #[]]) ++ ys) w1 (Post base (upd σ s.hp.next ⟨b, 0, 0⟩) v h2 w1) := (callsIn_wide (n := N - 1)).2 c2
            refine k3.mono fun en w3 hen => ?_
            obtain ⟨u, τ, rfl, q1, q2, q3, q4⟩ := hen
            have hσb := q2 _ _ (upd_same σ s.hp.next ⟨b, 0, 0⟩)
            obtain ⟨x, a2⟩ : ∃ x, w3.heap[b]? = some (Obj.loop x) := by
              obtain ⟨c', x', b1, b2, _⟩ := e2.lps.loop (lkL_cons.trans (if_pos rfl)) (by decide : (0 : Nat) < 4)
              rw [upd_same] at b1
              cases b1
              exact q4.lop b x' b2
            obtain ⟨rst, ⟨a3, a4, a5, a6, a7, a8, a10⟩, a9⟩ := q3.lps.loopAt hrc hσb a2
            have hnb : (x.state == LoopState.busy) = false := by
              rw [a6]
              split <;> first | rfl | (rename_i e; exact absurd e hst')
            have hend : (Instr.endLoop b).run P w3 = .ok x.pending (World.setO w3 b (.loop { x with state := .exhausted })) := by
              unfold Instr.endLoop
              simp only [Sem.run_bind, getLoop_run a2, Result.andThen_ok, hnb, Bool.false_eq_true, if_false, run_setObj_loop a2, Sem.run_pure, Sem.run_ite]
            obtain ⟨s1, s2⟩ := q3.setLoop hrc hσb a2 (y := { x with state := .exhausted }) (r1 := { rc with st := 3 }) (ls := delL h2.loops s.hp.next) (by simp) ⟨a3, a4, a5, rfl, a7, a8, a10⟩ (fun j r' hj => by
              rw [lkL_delL] at hj
              split at hj
              · cases hj
              · exact .inl ⟨‹_›, hj⟩)
            have fin : ∀ ex, PostC base lo σ keep n ex { s with hp := { h2 with loops := delL h2.loops s.hp.next } } w ex.out { a with defers := mark ++ a.defers } (World.setO w3 b (.loop { x with state := .exhausted })) := fun ex =>
              ⟨rfl, τ, e3.trans q2, s1, R0.fr.ext (e3.trans q2), R0.kp, (e4.trans q4).trans s2, e5.fw (q4.trans s2)⟩
            have ends : ∀ q, x.pending = q → (Instr.endLoop b).run P w3 = .ok q (World.setO w3 b (.loop { x with state := .exhausted })) := fun q hq =>
              hend.trans (congrArg (fun p => Result.ok p (World.setO w3 b (.loop { x with state := .exhausted }))) hq)
            cases hj : rc.jump with
            | none =>
              simp only [hj, Option.some.injEq, Prod.mk.injEq] at hs
              obtain ⟨rfl, rfl⟩ := hs
              exact ⟨none, _, ends none (by rw [a7, hj]; rfl), fin .normal⟩
            | some j =>
              cases j with
              | none =>
                simp only [hj, Option.some.injEq, Prod.mk.injEq] at hs
                obtain ⟨rfl, rfl⟩ := hs
                exact ⟨some .ret, _, ends (some .ret) (by rw [a7, hj]; rfl), wpIn_ret (fin .ret)⟩
              | some id =>
                simp only [hj, Option.some.injEq, Prod.mk.injEq] at hs
                obtain ⟨rfl, rfl⟩ := hs
                exact ⟨some (.exit id), _, ends (some (.exit id)) (by rw [a7, hj]; rfl), wpIn_exit (fin (.exit id))⟩
          · simp only [hst, cond_true] at hs
            cases hs
        · cases hs
      · cases hs
    · cases hs
  | .scope b, s, e, s', hs, r, N, σ, w, a, lo, R0 => by
    simp only [runC] at hs
    refine wpIn_scope_straight (wpIn_mono (runC_sound hcall hm b hs R0) fun ex a' w' hp => ?_)
    have h2 := hp.1
    subst h2
    cases e with
    | normal => exact hp
    | exit j => exact hp
    | ret => exact hp
  | .goto _, s, e, s', hs, _, _, _, _, _, _, _ => by simp [runC] at hs
  | .refuse _, s, e, s', hs, _, _, _, _, _, _, _ => by simp [runC] at hs

end
end Go.Abs
