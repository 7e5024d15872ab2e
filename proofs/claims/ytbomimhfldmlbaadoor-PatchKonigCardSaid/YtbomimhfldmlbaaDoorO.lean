/- Regions whose order is drawn (1): what the checks say. Regions whose order is drawn (2): operations that leave the heap alone. -/
import Derived.Test.YtbomimhfldmlbaaDoorM
set_option linter.unusedSimpArgs false
set_option linter.unusedVariables false
namespace Go.Abs
open Go Go.RowKit


/-! ### The sets of what comes before -/
theorem fold_bits {b : Edge → Bool} {acc : List Nat} {j : Nat} : ∀ (l : List Edge) (s : Nat), Nat.testBit (l.foldl (fun s e => bif b e then s ||| 2 ^ e.on ||| acc.getD e.on 0 else s) s) j = true →
    Nat.testBit s j = true ∨ ∃ e ∈ l, b e = true ∧ (e.on = j ∨ Nat.testBit (acc.getD e.on 0) j = true)
  | [], s, h => .inl h
  | e :: l, s, h => by
    simp only [List.foldl_cons] at h
    rcases fold_bits l _ h with h1 | ⟨e', h1, h2⟩
    · cases hb : b e
      · simp only [hb, cond_false] at h1
        exact .inl h1
      · simp only [hb, cond_true, Nat.testBit_or, Bool.or_eq_true, Nat.testBit_two_pow, decide_eq_true_eq] at h1
        rcases h1 with (h1 | h1) | h1
        · exact .inl h1
        · exact .inr ⟨e, by simp, hb, .inl h1⟩
        · exact .inr ⟨e, by simp, hb, .inr h1⟩
    · exact .inr ⟨e', by simp [h1], h2⟩

theorem clos_prefix : ∀ (l : List Oper) (acc : List Nat), ∃ s, clos l acc = acc ++ s
  | [], acc => ⟨[], by simp [clos]⟩
  | o :: l, acc => by
    simp only [clos]
    obtain ⟨s, hs⟩ := clos_prefix l (acc ++ [o.after.toList.foldl (fun s e => bif Region.binds .any e then s ||| 2 ^ e.on ||| acc.getD e.on 0 else s) 0])
    exact ⟨_ :: s, by rw [hs, List.append_assoc]; rfl⟩

theorem clos_spec : ∀ (l : List Oper) (acc : List Nat) (k : Nat) (o : Oper), l[k]? = some o → ∀ j, Nat.testBit ((clos l acc).getD (acc.length + k) 0) j = true →
    ∃ e ∈ o.after.toList, Region.binds .any e = true ∧ (e.on = j ∨ Nat.testBit ((clos l acc).getD e.on 0) j = true)
  | [], acc, k, o, h, _, _ => by simp at h
  | o' :: l, acc, k, o, h, j, hj => by
    simp only [clos] at hj ⊢
    generalize hx : o'.after.toList.foldl (fun s e => bif Region.binds .any e then s ||| 2 ^ e.on ||| acc.getD e.on 0 else s) 0 = x at hj ⊢
    cases k with
    | zero =>
      simp only [List.getElem?_cons_zero, Option.some.injEq] at h
      subst h
      obtain ⟨s, hs⟩ := clos_prefix l (acc ++ [x])
      rw [hs] at hj ⊢
      have h0 : (acc ++ [x] ++ s).getD (acc.length + 0) 0 = x := by simp [List.getD]
      rw [h0] at hj
      rw [← hx] at hj
      rcases fold_bits _ _ hj with h1 | ⟨e, h1, h2, h3⟩
      · simp at h1
      · refine ⟨e, h1, h2, h3.imp id fun h4 => ?_⟩
        have hlt : e.on < acc.length := by
          rcases Nat.lt_or_ge e.on acc.length with h5 | h5
          · exact h5
          · simp [List.getD, List.getElem?_eq_none h5] at h4
        have : (acc ++ [x] ++ s).getD e.on 0 = acc.getD e.on 0 := by
          simp only [List.getD, List.append_assoc]
          rw [List.getElem?_append_left hlt]
        rw [this]
        exact h4
    | succ k =>
      simp only [List.getElem?_cons_succ] at h
      have := clos_spec l (acc ++ [x]) k o h j (by simpa [Nat.add_assoc, Nat.add_comm 1 k] using hj)
      exact this

structure Ord (ops : Array Oper) (cl : List Nat) : Prop where
  edge : ∀ {i : Nat} {o : Oper}, ops[i]? = some o → ∀ e ∈ o.after.toList, Region.binds .any e = true → e.on < i
  clo : ∀ {i : Nat} {o : Oper}, ops[i]? = some o → ∀ {j}, Nat.testBit (cl.getD i 0) j = true → ∃ e ∈ o.after.toList, Region.binds .any e = true ∧ (e.on = j ∨ Nat.testBit (cl.getD e.on 0) j = true)
  one : ∀ {i j : Nat} {o d : Oper} {t : Nat}, ops[i]? = some o → ops[j]? = some d → i ≠ j → d.dst = some t → o.dst ≠ some t ∧ (t ∈ reads ops o → Nat.testBit (cl.getD i 0) j = true ∨ Nat.testBit (cl.getD j 0) i = true)
  eff : ∀ {i j : Nat} {o d : Oper}, ops[i]? = some o → ops[j]? = some d → isEff o = true → isEff d = true → j < i → isFloat o = false → Nat.testBit (cl.getD i 0) j = true
  flo : ∀ {i j k : Nat} {d e o : Oper} {t : Nat}, ops[i]? = some d → ops[j]? = some e → ops[k]? = some o → isFloat d = true → d.dst = some t → t ∈ reads ops o → isEff e = true → j < i → Nat.testBit (cl.getD k 0) j = true

theorem all_zipIdx {α : Type} {l : List α} {p : α × Nat → Bool} (h : l.zipIdx.all p = true) {i : Nat} {x : α} (hx : l[i]? = some x) : p (x, i) = true := by
  have := List.all_eq_true.1 h (x, i) (by
    rw [List.mem_zipIdx_iff_getElem?]
    simpa using hx)
  exact this

theorem orderOK_spec {ops : Array Oper} (h : orderOK ops (clos ops.toList []) = true) : Ord ops (clos ops.toList []) := by
  simp only [orderOK, Bool.and_eq_true] at h
  obtain ⟨⟨⟨h1, h2⟩, h3⟩, h0⟩ := h
  refine ⟨fun {i o} ho e he hb => ?_, fun {i o} ho {j} hj => ?_, fun {i j o d t} ho hd hij ht => ?_, fun {i j o d} ho hd heo hed hji hfl => ?_, fun {i j k d e o t} hd he ho hfl ht hm hee hji => ?_⟩
  · have := all_zipIdx h1 (i := i) (x := o) (by simpa using ho)
    simp only [List.all_eq_true, Bool.or_eq_true, Bool.not_eq_true'] at this
    rcases this e he with h | h
    · rw [hb] at h; cases h
    · exact Nat.le_of_ble_eq_true h
  · have := clos_spec ops.toList [] i o (by simpa using ho) j (by simpa using hj)
    exact this
  · have h4 := all_zipIdx h2 (i := j) (x := d) (by simpa using hd)
    simp only [ht] at h4
    have h5 := all_zipIdx h4 (i := i) (x := o) (by simpa using ho)
    simp only [nb hij, Bool.false_or, Bool.and_eq_true, Bool.or_eq_true, Bool.not_eq_true', beq_eq_false_iff_ne, ne_eq] at h5
    refine ⟨h5.1, fun hm => ?_⟩
    rcases h5.2 with (h6 | h6) | h6
    · have : (reads ops o).elem t = true := List.elem_eq_true_of_mem hm
      rw [this] at h6
      cases h6
    · exact .inl h6
    · exact .inr h6
  · have h4 := all_zipIdx h3 (i := j) (x := d) (by simpa using hd)
    simp only [hed, Bool.not_true, Bool.false_or] at h4
    have h5 := all_zipIdx h4 (i := i) (x := o) (by simpa using ho)
    simp only [heo, hfl, Bool.not_true, Bool.false_or, Bool.or_false, Bool.or_eq_true] at h5
    rcases h5 with h5 | h5
    · have := Nat.le_of_ble_eq_true h5; omega
    · exact h5
  · have h4 := all_zipIdx h0 (i := i) (x := d) (by simpa using hd)
    simp only [hfl, ht, Bool.not_true, Bool.false_or] at h4
    have h5 := all_zipIdx h4 (i := k) (x := o) (by simpa using ho)
    simp only [List.elem_eq_true_of_mem hm, Bool.not_true, Bool.false_or] at h5
    have h6 := all_zipIdx h5 (i := j) (x := e) (by simpa using he)
    simp only [hee, Bool.not_true, Bool.false_or, Bool.or_eq_true] at h6
    rcases h6 with h6 | h6
    · have := Nat.le_of_ble_eq_true h6; omega
    · exact h6

theorem Ord.lt {ops : Array Oper} {cl : List Nat} (O : Ord ops cl) : ∀ (i : Nat) {o : Oper}, ops[i]? = some o → ∀ {j}, Nat.testBit (cl.getD i 0) j = true → j < i := by
  intro i
  induction i using Nat.strongRecOn with
  | _ i ih =>
    intro o ho j hj
    obtain ⟨e, he, hb, h⟩ := O.clo ho hj
    have hlt := O.edge ho e he hb
    rcases h with h | h
    · omega
    · have hs : i < ops.size := (Array.getElem?_eq_some_iff.1 ho).1
      have := ih e.on hlt (Array.getElem?_eq_getElem (by omega)) h
      omega

/-! ### The record of the order of the text -/
section
variable {P : Program} {call : CallF} {n : Nat} {ops : Array Oper} {fr : Fr}

def TM (rs : List Rec) (tm' : Fr) (k : Nat) : Fr := ((rs[k]?).map (·.tm)).getD tm'
def HA (rs : List Rec) (h' : Hp) (k : Nat) : Hp := ((rs[k]?).map (·.h)).getD h'

structure Step1 (P : Program) (call : CallF) (n : Nat) (ops : Array Oper) (fr : Fr) (rs : List Rec) (tm' : Fr) (h' : Hp) (i k : Nat) (r : Rec) : Prop where
  op : ops[i + k]? = some r.o
  dst : ∀ d, r.o.dst = some d → d < n
  yes : r.w = true → want? ops (msk (reads ops r.o) (look r.tm fr)) r.o = some true ∧ exec1 P call (msk (reads ops r.o) (look r.tm fr)) r.h r.o = some (r.v, HA rs h' (k + 1))
  no : r.w = false → want? ops (msk (reads ops r.o) (look r.tm fr)) r.o = some false ∧ r.v = .tu [] ∧ HA rs h' (k + 1) = r.h
  tm : ∀ t, look (TM rs tm' (k + 1)) fr t = if r.o.dst = some t then r.v else look r.tm fr t

theorem putT_look {d : Option Nat} {v : AV} {tm tm1 : Fr} (h : putT n d v tm = some tm1) : (∀ x, d = some x → x < n) ∧ ∀ t, look tm1 fr t = if d = some t then v else look tm fr t := by
  unfold putT at h
  cases d with
  | none =>
    simp only [Option.some.injEq] at h
    subst h
    exact ⟨fun x hx => (nomatch hx), fun t => by rw [if_neg (fun h => (nomatch h))]⟩
  | some d =>
    simp only at h
    cases hd : Nat.blt d n
    · simp [hd] at h
    · simp only [hd, cond_true, Option.some.injEq] at h
      subst h
      refine ⟨fun x hx => by cases hx; exact Nat.le_of_ble_eq_true hd, fun t => ?_⟩
      rw [look_cons]
      by_cases e : t = d
      · subst e; simp
      · rw [if_neg e, if_neg (fun h => e (by cases h; rfl))]

theorem trace_spec : ∀ (l : List Oper) (i : Nat) (tm : Fr) (h : Hp) (rs : List Rec) (tm' : Fr) (h' : Hp), l = ops.toList.drop i → traceOps P call n ops fr l tm h = some (rs, tm', h') →
    rs.length = l.length ∧ TM rs tm' 0 = tm ∧ HA rs h' 0 = h ∧ ∀ (k : Nat) (r : Rec), rs[k]? = some r → Step1 P call n ops fr rs tm' h' i k r
  | [], i, tm, h, rs, tm', h', _, hs => by
    simp only [traceOps, Option.some.injEq, Prod.mk.injEq] at hs
    obtain ⟨rfl, rfl, rfl⟩ := hs
    exact ⟨rfl, rfl, rfl, fun k r hk => by simp at hk⟩
  | o :: rest, i, tm, h, rs, tm', h', hl, hs => by
    have ho : ops[i]? = some o := by
      have := congrArg List.head? hl
      simpa [List.head?_drop] using this.symm
    have hrest : rest = ops.toList.drop (i + 1) := by
      have := congrArg List.tail hl
      simpa [List.tail_drop] using this
    simp only [traceOps] at hs
    -- both ways end alike
    have fin : ∀ (wb : Bool) (v : AV) (tm1 : Fr) (h1 : Hp) (rs1 : List Rec), putT n o.dst v tm = some tm1 → traceOps P call n ops fr rest tm1 h1 = some (rs1, tm', h') →
        rs = { o, w := wb, v, tm, h } :: rs1 → (wb = true → want? ops (msk (reads ops o) (look tm fr)) o = some true ∧ exec1 P call (msk (reads ops o) (look tm fr)) h o = some (v, h1)) →
        (wb = false → want? ops (msk (reads ops o) (look tm fr)) o = some false ∧ v = .tu [] ∧ h1 = h) →
        rs.length = (o :: rest).length ∧ TM rs tm' 0 = tm ∧ HA rs h' 0 = h ∧ ∀ (k : Nat) (r : Rec), rs[k]? = some r → Step1 P call n ops fr rs tm' h' i k r := fun wb v tm1 h1 rs1 hp ht he hy hn => by
      obtain ⟨i1, i2, i3, i4⟩ := trace_spec rest (i + 1) tm1 h1 rs1 tm' h' hrest ht
      subst he
      refine ⟨by simp [i1], by simp [TM], by simp [HA], fun k r hk => ?_⟩
      obtain ⟨p1, p2⟩ := putT_look (fr := fr) hp
      cases k with
      | zero =>
        simp only [List.getElem?_cons_zero, Option.some.injEq] at hk
        subst hk
        have e1 : HA ({ o, w := wb, v, tm, h } :: rs1) h' (0 + 1) = h1 := by rw [← i3]; simp [HA]
        have e2 : TM ({ o, w := wb, v, tm, h } :: rs1) tm' (0 + 1) = tm1 := by rw [← i2]; simp [TM]
        exact ⟨by simpa using ho, p1, fun hw => by rw [e1]; exact hy hw, fun hw => by rw [e1]; exact hn hw, fun t => by rw [e2]; exact p2 t⟩
      | succ k =>
        simp only [List.getElem?_cons_succ] at hk
        obtain ⟨s1, s2, s3, s4, s5⟩ := i4 k r hk
        have e1 : HA ({ o, w := wb, v, tm, h } :: rs1) h' (k + 1 + 1) = HA rs1 h' (k + 1) := by simp [HA]
        have e2 : TM ({ o, w := wb, v, tm, h } :: rs1) tm' (k + 1 + 1) = TM rs1 tm' (k + 1) := by simp [TM]
        exact ⟨by rw [show i + (k + 1) = i + 1 + k by omega]; exact s1, s2, fun hw => by rw [e1]; exact s3 hw, fun hw => by rw [e1]; exact s4 hw, fun t => by rw [e2]; exact s5 t⟩
    split at hs
    · rename_i hw
      split at hs
      · rename_i v h1 hex
        split at hs
        · rename_i tm1 hp
          split at hs
          · rename_i rs1 x ht
            obtain ⟨tmx, hx⟩ := x
            simp only [Option.some.injEq, Prod.mk.injEq] at hs
            obtain ⟨hs1, rfl, rfl⟩ := hs
            exact fin true v tm1 h1 rs1 hp ht hs1.symm (fun _ => ⟨hw, hex⟩) (fun h => by cases h)
          · cases hs
        · cases hs
      · cases hs
    · rename_i hw
      split at hs
      · rename_i tm1 hp
        split at hs
        · rename_i rs1 x ht
          obtain ⟨tmx, hx⟩ := x
          simp only [Option.some.injEq, Prod.mk.injEq] at hs
          obtain ⟨hs1, rfl, rfl⟩ := hs
          exact fin false (.tu []) tm1 h rs1 hp ht hs1.symm (fun h => by cases h) (fun _ => ⟨hw, rfl, rfl⟩)
        · cases hs
      · cases hs
    · cases hs

end
end Go.Abs

namespace Go.Abs
open Go Go.RowKit

section
variable {P : Program} {call : CallF} {f : Nat → AV}

theorem map_snd {x : Option AV} {h h2 : Hp} : (x.map fun v => (v, h2)) = (x.map fun v => (v, h)).map fun p => (p.1, h2) := by cases x <;> rfl

theorem aLkp_heap {kt : KT} {z : AV} {ok : Bool} {h h' : Hp} {a m v : AV} (hs : aLkp kt z ok h a m = some (v, h')) : h' = h := by
  cases m <;> simp only [aLkp] at hs <;> try (cases hs; done)
  · split at hs
    · rename_i ents hg
      cases hf : (keyFit kt a && ents.all fun e => keyFit kt e.1)
      · simp [hf] at hs
      · simp only [hf, cond_true, Option.some.injEq, Prod.mk.injEq] at hs
        exact hs.2.symm
    · cases hs
  · cases hf : keyFit kt a
    · simp [hf] at hs
    · simp only [hf, cond_true, Option.some.injEq, Prod.mk.injEq] at hs
      exact hs.2.symm

theorem aLenM_heap {h h' : Hp} {m v : AV} (hs : aLenM h m = some (v, h')) : h' = h := by
  cases m <;> simp only [aLenM] at hs <;> try (cases hs; done)
  · rename_i id
    cases hg : getM h id with
    | none => simp [hg] at hs
    | some ents =>
      simp only [hg, Option.map_some, Option.some.injEq, Prod.mk.injEq] at hs
      exact hs.2.symm
  · cases hs; rfl

theorem step1_indep (h h2 : Hp) (o : Oper) (he : isEff o = false) (hr : isRead o = false) : step1 P f h2 o.op = (step1 P f h o.op).map fun p => (p.1, h2) := by
  unfold isEff at he
  unfold isRead at hr
  generalize o.op = op at he hr ⊢
  cases op <;> simp only at he hr <;> first | (cases he; done) | (cases hr; done) | skip
  case slice t x lo hi mx =>
    cases mx with
    | some m =>
      cases hi with
      | none => rfl
      | some hi =>
        simp only [step1, Bool.cond_eq_ite]
        repeat' split
        all_goals first | rfl | simp_all
    | none =>
      simp only [step1, Bool.cond_eq_ite]
      repeat' split
      all_goals first | rfl | simp_all
  all_goals
    simp only [step1, Bool.cond_eq_ite]
    repeat' split
    all_goals first | rfl | exact map_snd | (simp only [Option.map_map]; rfl) | simp_all

theorem step1_quiet {h h1 : Hp} {v : AV} (o : Oper) (he : isEff o = false) (hs : step1 P f h o.op = some (v, h1)) : h1 = h := by
  cases hr : isRead o
  · have := step1_indep (P := P) (f := f) h h o he hr
    rw [hs] at this
    simp only [Option.map_some, Option.some.injEq, Prod.mk.injEq, true_and] at this
    exact this
  · unfold isEff at he
    unfold isRead at hr
    generalize o.op = op at he hr hs
    cases op <;> simp only at he hr <;> first | (cases he; done) | (cases hr; done) | skip
    case load =>
      simp only [step1] at hs
      split at hs
      · split at hs
        · simp only [Option.map_eq_some_iff, Prod.mk.injEq] at hs
          obtain ⟨_, _, _, e⟩ := hs
          exact e.symm
        · cases hs
      · cases hs
    case lookup =>
      simp only [step1] at hs
      split at hs
      · split at hs
        · exact aLkp_heap hs
        · cases hs
      · cases hs
    all_goals (simp only [step1] at hs; cases hs)

theorem exec1_quiet {h h1 : Hp} {v : AV} (o : Oper) (he : isEff o = false) (hs : exec1 P call f h o = some (v, h1)) : h1 = h := by
  unfold exec1 at hs
  split at hs
  · rename_i c hop
    simp only [isEff, hop] at he
    split at hs
    · rename_i b hb
      rw [hb] at he
      cases b <;> simp only at he <;> first | (cases he; done) | skip
      all_goals
        simp only [builtin1] at hs
        repeat' split at hs
        all_goals first | (cases hs; done) | (simp only [Option.some.injEq, Prod.mk.injEq] at hs; exact hs.2.symm) | exact aLenM_heap hs
    · rename_i g hg
      rw [hg] at he
      cases he
    · cases hs
  · exact step1_quiet o he hs

theorem exec1_indep {h h1 : Hp} {v : AV} (o : Oper) (he : isEff o = false) (hr : isRead o = false) (hs : exec1 P call f h o = some (v, h1)) (h2 : Hp) : exec1 P call f h2 o = some (v, h2) := by
  unfold exec1 at hs ⊢
  split at hs
  · rename_i c hop
    simp only [isEff, isRead, hop] at he hr
    split at hs
    · rename_i b hb
      rw [hb] at he hr
      cases b <;> simp only at he hr <;> first | (cases he; done) | (cases hr; done) | skip
      all_goals
        simp only [builtin1] at hs ⊢
        repeat' split at hs
        all_goals first | (cases hs; done) | skip
        all_goals
          first
            | (simp only [Option.some.injEq, Prod.mk.injEq] at hs; simp_all; done)
            | (rename_i hk _ _; obtain ⟨rfl, rfl⟩ := hk; simp only [Option.some.injEq, Prod.mk.injEq] at hs; obtain ⟨rfl, rfl⟩ := hs; simp_all; done)
            | (rename_i hk _ _; obtain ⟨rfl, rfl⟩ := hk; simp only [Option.some.injEq, Prod.mk.injEq] at hs; obtain ⟨rfl, rfl⟩ := hs; simp only [and_self, if_true]; simp; omega)
            | (simp at hs; simp_all; done)
            | (simp at hs; simp_all; rw [if_neg (by omega)]; exact hs.1)
    · rename_i g hg
      rw [hg] at he
      cases he
    · cases hs
  · have := step1_indep (P := P) (f := f) h h2 o he hr
    rw [hs] at this
    exact this

end
end Go.Abs
