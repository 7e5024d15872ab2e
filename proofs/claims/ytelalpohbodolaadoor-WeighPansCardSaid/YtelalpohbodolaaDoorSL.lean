/- Rules for running compiled code by 'simp'. Loops, reads and indices. Blocks that a function has made, and writes to the newest one. -/
import Derived.Test.YtelalpohbodolaaDoorSI
set_option linter.unusedSimpArgs false
set_option linter.unusedVariables false
namespace Go.Abs
open Go

universe u

/-- A tag that keeps simp out of what it names. -/
inductive Tag {α : Sort u} (a : α) : Type
  | mk

def andT (x : Option (AV × Hp)) (K : AV → Hp → Prop) (_ : Tag K) : Prop := andThen x K
def gT (b : AV) (w : Bool) (A B : Prop) (_ : Tag A) (_ : Tag B) : Prop := gIf b w A B
def ifT (b : AV) (A B : Prop) (_ : Tag A) (_ : Tag B) : Prop := ifThen b A B
def callT' (C : Spec) (f : AV) (args : List AV) (h : Hp) (K : AV → Hp → Prop) (_ : Tag K) : Prop := callThen C f args h K
def loopT (C : Spec) (b : SC) (s : St) (Q : Ex → St → Prop) (_ : Tag b) (_ : Tag Q) : Prop := wp C (.loop b) s Q

section
variable {C : Spec} {fr tm : Fr} {h : Hp} {s : St} {Q : Ex → St → Prop} {K : AV → Hp → Prop} {f : Nat → AV}

theorem andThen_congr {x y : Option (AV × Hp)} (e : x = y) : andThen x K = andThen y K := by rw [e]
@[simp] theorem andThen_some {v : AV} : andThen (some (v, h)) K = K v h := (Eq.refl _).trans rfl
theorem andT_some {v : AV} {tk : Tag K} : andT (some (v, h)) K tk = K v h := (Eq.refl _).trans rfl
@[simp] theorem andThen_none : andThen none K = False := (Eq.refl _).trans rfl
theorem ifThen_congr {x y : AV} {A B : Prop} (e : x = y) : ifThen x A B = ifThen y A B := by rw [e]
@[simp] theorem ifThen_bool {t : Bool} {A B : Prop} : ifThen (.bool t) A B = ((t = true → A) ∧ (t = false → B)) := (Eq.refl _).trans rfl
theorem ifThen_true {A B : Prop} {ta : Tag A} {tb : Tag B} : ifT (.bool true) A B ta tb = A := by simp [ifT, ifThen]
theorem ifThen_false {A B : Prop} {ta : Tag A} {tb : Tag B} : ifT (.bool false) A B ta tb = B := by simp [ifT, ifThen]
theorem ifThen_intro {t : Bool} {A B : Prop} (a : t = true → A) (b : t = false → B) {ta : Tag A} {tb : Tag B} : ifT (.bool t) A B ta tb := ⟨a, b⟩
theorem callThen_congr {C : Spec} {x y : AV} {a b : List AV} (e : x = y) (e' : a = b) : callThen C x a h K = callThen C y b h K := by rw [e, e']

@[simp ↓] theorem wpG_none {A B : Prop} : wpG f none A B = A := (Eq.refl _).trans rfl
@[simp ↓] theorem wpG_true {d : Nat} {A B : Prop} : wpG f (some (d, true)) A B = gT (f d) true A B .mk .mk := (Eq.refl _).trans rfl
@[simp ↓] theorem wpG_false {d : Nat} {A B : Prop} : wpG f (some (d, false)) A B = gT (f d) false A B .mk .mk := (Eq.refl _).trans rfl
theorem gT_t {t : Bool} {A B : Prop} {ta : Tag A} {tb : Tag B} : gT (.bool t) true A B ta tb = ifT (.bool t) A B ta tb := (Eq.refl _).trans rfl
theorem gT_f {t : Bool} {A B : Prop} {ta : Tag A} {tb : Tag B} : gT (.bool t) false A B ta tb = ifT (.bool t) B A tb ta := by
  unfold gT gIf ifT ifThen
  exact propext ⟨fun h => ⟨h.2, h.1⟩, fun h => ⟨h.2, h.1⟩⟩
theorem gT_u {w : Bool} {l : List AV} {A B : Prop} {ta : Tag A} {tb : Tag B} : gT (.tu l) w A B ta tb = B := (Eq.refl _).trans rfl

@[simp ↓] theorem wpOps_nil {Q : Fr → Hp → Prop} : wpOps C fr [] tm h Q = Q tm h := (Eq.refl _).trans rfl
@[simp ↓] theorem wpOps_cons {d : Option Nat} {g : Option (Nat × Bool)} {o : SOp} {r : List SOper} {Q : Fr → Hp → Prop} :
    wpOps C fr (⟨d, g, o⟩ :: r) tm h Q = wpG (look tm fr) g (wpOp C (look tm fr) h o fun v h' => wpOps C fr r (sput d v tm) h' Q) (wpOps C fr r (sput d (.tu []) tm) h Q) := (Eq.refl _).trans rfl

@[simp ↓] theorem sput_some {d : Nat} {v : AV} : sput (some d) v tm = (d, v) :: tm := (Eq.refl _).trans rfl
@[simp ↓] theorem sput_none {v : AV} : sput none v tm = tm := (Eq.refl _).trans rfl

@[simp ↓] theorem sev_t {i : Nat} : sev f (.t i) = f i := (Eq.refl _).trans rfl
@[simp ↓] theorem sev_c {v : AV} : sev f (.c v) = v := (Eq.refl _).trans rfl
@[simp ↓] theorem look_nil {i : Nat} : look [] fr i = lkF fr i := (Eq.refl _).trans rfl
@[simp ↓ high] theorem look_hit {i : Nat} {v : AV} : look ((i, v) :: tm) fr i = v := by simp [look, lkO]
@[simp ↓] theorem look_miss {i j : Nat} {v : AV} (e : (j == i) = false) : look ((j, v) :: tm) fr i = look tm fr i := by
  have : j ≠ i := by simpa using e
  simp [look, lkO, nb this]
@[simp ↓ high] theorem lkF_hit {i : Nat} {v : AV} : lkF ((i, v) :: fr) i = v := by simp [lkF]
@[simp ↓] theorem lkF_miss {i j : Nat} {v : AV} (e : (j == i) = false) : lkF ((j, v) :: fr) i = lkF fr i := by
  have : j ≠ i := by simpa using e
  simp [lkF, nb this]
@[simp ↓] theorem lkF_nil {i : Nat} : lkF [] i = .any := (Eq.refl _).trans rfl
@[simp ↓ high] theorem setF_hit {i : Nat} {u v : AV} : setF ((i, u) :: fr) i v = (i, v) :: fr := by simp [setF]
@[simp ↓] theorem setF_miss {i j : Nat} {u v : AV} (e : (j == i) = false) : setF ((j, u) :: fr) i v = (j, u) :: setF fr i v := by
  have : j ≠ i := by simpa using e
  simp [setF, nb this]
@[simp] theorem setF_nil {i : Nat} {v : AV} : setF [] i v = [(i, v)] := (Eq.refl _).trans rfl
@[simp ↓] theorem commitS_nil {ks : List Nat} : commitS ks [] fr = fr := (Eq.refl _).trans rfl
@[simp ↓] theorem commitS_in {ks : List Nat} {t : Nat} {v : AV} {r : Fr} (e : ks.elem t = true) : commitS ks ((t, v) :: r) fr = setF (commitS ks r fr) t v := by simp only [commitS, e, cond_true]
@[simp ↓] theorem commitS_out {ks : List Nat} {t : Nat} {v : AV} {r : Fr} (e : ks.elem t = false) : commitS ks ((t, v) :: r) fr = commitS ks r fr := by simp only [commitS, e, cond_false]

theorem elem_hit {i : Nat} {l : List Nat} : (i :: l).elem i = true := by simp
theorem elem_miss {i j : Nat} {l : List Nat} (e : (j == i) = false) : (i :: l).elem j = l.elem j := by simp only [List.elem, e]
theorem elem_nil {j : Nat} : ([] : List Nat).elem j = false := (Eq.refl _).trans rfl
theorem initS_nil {args : List AV} : initS [] args = [] := (Eq.refl _).trans rfl
theorem initS_cons {t : Nat} {r : List Nat} {args : List AV} : initS (t :: r) args = (t, (args[t]?).getD .any) :: initS r args := (Eq.refl _).trans rfl

@[simp ↓] theorem wp_skip : wp C .skip s Q = Q .normal s := (Eq.refl _).trans rfl
@[simp ↓] theorem wp_ops {l : List SOper} {ks : List Nat} : wp C (.ops l ks) { fr, hp := h } Q = wpOps C fr l [] h fun tm h => Q .normal { fr := commitS ks tm fr, hp := h } := (Eq.refl _).trans rfl
@[simp ↓] theorem wp_seq {a b : SC} : wp C (.seq a b) s Q = wp C a s fun e s' => onEx e s' (fun s' => wp C b s' Q) Q := (Eq.refl _).trans rfl
@[simp ↓] theorem wp_cond {c : SX} {a b : SC} : wp C (.cond c a b) { fr, hp := h } Q = ifT (sev (lkF fr) c) (wp C a { fr, hp := h } Q) (wp C b { fr, hp := h } Q) .mk .mk := (Eq.refl _).trans rfl
@[simp ↓] theorem wp_block {id : Nat} {b : SC} : wp C (.block id b) s Q = wp C b s fun e s' => onBlk id e s' Q := (Eq.refl _).trans rfl
@[simp ↓] theorem wp_exit {id : Nat} : wp C (.exit id) s Q = Q (.exit id) s := (Eq.refl _).trans rfl
@[simp ↓] theorem wp_loopT {b : SC} : wp C (.loop b) s Q = loopT C b s Q .mk .mk := (Eq.refl _).trans rfl
@[simp ↓] theorem wp_ret : wp C .ret s Q = Q .ret s := (Eq.refl _).trans rfl
@[simp ↓] theorem onEx_normal {N : St → Prop} : onEx .normal s N Q = N s := (Eq.refl _).trans rfl
@[simp ↓] theorem onEx_exit {id : Nat} {N : St → Prop} : onEx (.exit id) s N Q = Q (.exit id) s := (Eq.refl _).trans rfl
@[simp ↓] theorem onEx_ret {N : St → Prop} : onEx .ret s N Q = Q .ret s := (Eq.refl _).trans rfl
@[simp ↓] theorem onBlk_normal {id : Nat} : onBlk id .normal s Q = Q .normal s := (Eq.refl _).trans rfl
@[simp ↓] theorem onBlk_ret {id : Nat} : onBlk id .ret s Q = Q .ret s := (Eq.refl _).trans rfl
@[simp ↓ high] theorem onBlk_hit {id : Nat} : onBlk id (.exit id) s Q = Q .normal s := by simp [onBlk]
@[simp ↓] theorem onBlk_miss {id j : Nat} (e : (j == id) = false) : onBlk id (.exit j) s Q = Q (.exit j) s := by
  have : j ≠ id := by simpa using e
  simp [onBlk, this]

@[simp ↓] theorem wpOp_call {x : SX} {args : List SX} : wpOp C f h (.call x args) K = callT' C (sev f x) (args.map (sev f)) h K .mk := (Eq.refl _).trans rfl
@[simp ↓] theorem wpOp_mov {x : SX} : wpOp C f h (.mov x) K = andT (some (sev f x, h)) K .mk := (Eq.refl _).trans rfl
@[simp ↓] theorem wpOp_pick {c a b : SX} : wpOp C f h (.pick c a b) K = ifT (sev f c) (andThen (some (sev f a, h)) K) (andThen (some (sev f b, h)) K) .mk .mk := by
  unfold ifT
  simp only [wpOp, sexec, ifThen]
  cases sev f c <;> simp only [andThen]
  rename_i t
  cases t <;> simp
@[simp ↓] theorem wpOp_new {cs : List AV} : wpOp C f h (.new cs) K = andT (some (.ptr h.next 0, { h with next := h.next + 1, blks := (h.next, { cells := cs, ch := h.next, wr := true }) :: h.blks })) K .mk := (Eq.refl _).trans rfl
@[simp ↓] theorem wpOp_bin {op : BinOp} {c : EqC} {x y : SX} : wpOp C f h (.bin op c x y) K = andT ((sBin op c (sev f x) (sev f y)).map fun v => (v, h)) K .mk := (Eq.refl _).trans rfl

def sNot (a : AV) : Option AV := match a with | .bool b => some (.bool (!b)) | _ => none
@[simp] theorem sNot_bool {b : Bool} : sNot (.bool b) = some (.bool (!b)) := (Eq.refl _).trans rfl
@[simp ↓] theorem wpOp_not {x : SX} : wpOp C f h (.not x) K = andT ((sNot (sev f x)).map fun v => (v, h)) K .mk := by
  unfold andT
  simp only [wpOp, sexec, sNot]
  cases sev f x <;> rfl
def sNeg (a : AV) : Option AV := match a with | .int k n => some (.int k (k.wrap (0 - n))) | _ => none
@[simp] theorem sNeg_int {k : IntKind} {n : Int} : sNeg (.int k n) = some (.int k (k.wrap (0 - n))) := (Eq.refl _).trans rfl
@[simp ↓] theorem wpOp_neg {x : SX} : wpOp C f h (.neg x) K = andT ((sNeg (sev f x)).map fun v => (v, h)) K .mk := by
  unfold andT
  simp only [wpOp, sexec, sNeg]
  cases sev f x <;> rfl
def sConv (k : IntKind) (a : AV) : Option AV := match a with | .int _ n => some (.int k (k.wrap n)) | _ => none
@[simp] theorem sConv_int {k k' : IntKind} {n : Int} : sConv k (.int k' n) = some (.int k (k.wrap n)) := (Eq.refl _).trans rfl
@[simp ↓] theorem wpOp_conv {k : IntKind} {x : SX} : wpOp C f h (.conv k x) K = andT ((sConv k (sev f x)).map fun v => (v, h)) K .mk := by
  unfold andT
  simp only [wpOp, sexec, sConv]
  cases sev f x <;> rfl
def sExt (i : Nat) (a : AV) : Option AV := match a with | .tu vs => vs[i]? | _ => none
@[simp] theorem sExt_tu {i : Nat} {vs : List AV} : sExt i (.tu vs) = vs[i]? := (Eq.refl _).trans rfl
@[simp ↓] theorem wpOp_ext {x : SX} {i : Nat} : wpOp C f h (.ext x i) K = andT ((sExt i (sev f x)).map fun v => (v, h)) K .mk := by
  unfold andT
  simp only [wpOp, sexec, sExt]
  cases sev f x <;> rfl
@[simp ↓] theorem wpOp_lenS {x : SX} : wpOp C f h (.lenS x) K = andT (sLen h (sev f x)) K .mk := (Eq.refl _).trans rfl
@[simp] theorem sLen_sl {id off len sz : Nat} {cap : Option Nat} : sLen h (.sl id off len cap sz) = some (.int .i64 len, h) := (Eq.refl _).trans rfl
@[simp] theorem sLen_nil : sLen h .nilsl = some (.int .i64 0, h) := (Eq.refl _).trans rfl
@[simp] theorem sLen_esl : sLen h .esl = some (.int .i64 0, h) := (Eq.refl _).trans rfl

@[simp] theorem sBin_lss {c : EqC} {k : IntKind} {a b : Int} : sBin .lss c (.int k a) (.int k b) = some (.bool (decide (a < b))) := by simp [sBin, abInt]
@[simp] theorem sBin_leq {c : EqC} {k : IntKind} {a b : Int} : sBin .leq c (.int k a) (.int k b) = some (.bool (decide (a ≤ b))) := by simp [sBin, abInt]
@[simp] theorem sBin_gtr {c : EqC} {k : IntKind} {a b : Int} : sBin .gtr c (.int k a) (.int k b) = some (.bool (decide (b < a))) := by simp [sBin, abInt]
@[simp] theorem sBin_geq {c : EqC} {k : IntKind} {a b : Int} : sBin .geq c (.int k a) (.int k b) = some (.bool (decide (b ≤ a))) := by simp [sBin, abInt]
@[simp] theorem sBin_eql {c : EqC} {k : IntKind} {a b : Int} : sBin .eql c (.int k a) (.int k b) = some (.bool (a == b)) := by simp [sBin, abInt]
@[simp] theorem sBin_neq {c : EqC} {k : IntKind} {a b : Int} : sBin .neq c (.int k a) (.int k b) = some (.bool (a != b)) := by simp [sBin, abInt]
@[simp] theorem sBin_add {c : EqC} {k : IntKind} {a b : Int} : sBin .add c (.int k a) (.int k b) = some (.int k (k.wrap (a + b))) := by simp [sBin, abInt]
@[simp] theorem sBin_sub {c : EqC} {k : IntKind} {a b : Int} : sBin .sub c (.int k a) (.int k b) = some (.int k (k.wrap (a - b))) := by simp [sBin, abInt]
@[simp] theorem sBin_mul {c : EqC} {k : IntKind} {a b : Int} : sBin .mul c (.int k a) (.int k b) = some (.int k (k.wrap (a * b))) := by simp [sBin, abInt]

@[simp] theorem sresVs_nil : sresVs fr h [] = some [] := (Eq.refl _).trans rfl
@[simp] theorem sresVs_tmp {t : Nat} {r : List SRes} : sresVs fr h (.tmp t :: r) = (sresVs fr h r).map (lkF fr t :: ·) := by
  simp only [sresVs, sresV]
  cases sresVs fr h r <;> rfl

end

/-- Evals are one. -/
theorem Evals.eq {P : Program} {T : Tab} {g : Bool} {t : Tgt} {args : List AV} {h : Hp} {r r' : AV × Hp} (e : Evals P T g t args h r) (e' : Evals P T g t args h r') : r = r' := by
  obtain ⟨N, hN⟩ := e
  obtain ⟨N', hN'⟩ := e'
  have := hN (max N N') (by omega)
  rw [hN' (max N N') (by omega)] at this
  exact (Option.some.inj this).symm

theorem callThen_eq {P : Program} {T : Tab} {g : Bool} {f : Nat} {fs cs args : List AV} {h h' : Hp} {v : AV} {K : AV → Hp → Prop} (e : Evals P T g (.func f) (fs ++ args ++ cs) h (v, h')) :
    callThen (Evals P T g) (.fn (.func f) fs cs) args h K = K v h' := by
  refine propext ⟨fun ⟨u, h2, e2, hk⟩ => ?_, fun hk => ⟨v, h', e, hk⟩⟩
  cases e.eq e2
  exact hk

end Go.Abs

namespace Go.Abs
open Go

section
variable {C : Spec}

theorem andThen_mono {x : Option (AV × Hp)} {K K' : AV → Hp → Prop} (hk : ∀ v h, K v h → K' v h) (H : andThen x K) : andThen x K' := by
  unfold andThen at H ⊢
  split at H
  · exact hk _ _ H
  · exact H.elim

theorem callThen_mono {f : AV} {args : List AV} {h : Hp} {K K' : AV → Hp → Prop} (hk : ∀ v h, K v h → K' v h) (H : callThen C f args h K) : callThen C f args h K' := by
  unfold callThen at H ⊢
  split at H
  · obtain ⟨v, h', a, b⟩ := H
    exact ⟨v, h', a, hk _ _ b⟩
  · obtain ⟨v, h', a, b⟩ := H
    exact ⟨v, h', a, hk _ _ b⟩
  · exact H.elim

theorem wpOp_mono {f : Nat → AV} {h : Hp} {o : SOp} {K K' : AV → Hp → Prop} (hk : ∀ v h, K v h → K' v h) (H : wpOp C f h o K) : wpOp C f h o K' := by
  have plain : ∀ o, andThen (sexec noCall f h o) K → andThen (sexec noCall f h o) K' := fun _ => andThen_mono hk
  cases o
  case call x args => exact callThen_mono hk H
  all_goals (simp only [wpOp] at H ⊢; exact plain _ H)

theorem ifThen_mono {b : AV} {A A' B B' : Prop} (ha : A → A') (hb : B → B') (H : ifThen b A B) : ifThen b A' B' := by
  unfold ifThen at H ⊢
  split at H
  · exact ⟨fun e => ha (H.1 e), fun e => hb (H.2 e)⟩
  · exact H.elim

theorem wpG_mono {f : Nat → AV} {g : Option (Nat × Bool)} {A A' B B' : Prop} (ha : A → A') (hb : B → B') (H : wpG f g A B) : wpG f g A' B' := by
  unfold wpG at H ⊢
  split at H
  · exact ha H
  · unfold gIf at H ⊢
    split at H
    · exact ⟨fun e => ha (H.1 e), fun e => hb (H.2 e)⟩
    · exact hb H
    · exact H.elim

theorem wpOps_mono {fr : Fr} : ∀ {l : List SOper} {tm : Fr} {h : Hp} {Q Q' : Fr → Hp → Prop}, (∀ tm h, Q tm h → Q' tm h) → wpOps C fr l tm h Q → wpOps C fr l tm h Q'
  | [], tm, h, Q, Q', hq, H => hq _ _ H
  | o :: r, tm, h, Q, Q', hq, H => wpG_mono (wpOp_mono fun _ _ => wpOps_mono hq) (wpOps_mono hq) H

theorem wpTrace_mono {fr : Fr} : ∀ {l : List DOper} {tm : Fr} {h : Hp} {Q Q' : List SRec → Fr → Hp → Prop}, (∀ rs tm h, Q rs tm h → Q' rs tm h) → wpTrace C fr l tm h Q → wpTrace C fr l tm h Q'
  | [], tm, h, Q, Q', hq, H => hq _ _ _ H
  | o :: r, tm, h, Q, Q', hq, H => wpG_mono (wpOp_mono fun _ _ => wpTrace_mono fun _ => hq _) (wpTrace_mono fun _ => hq _) H

theorem wpLoop_mono {W : St → (Ex → St → Prop) → Prop} (hW : ∀ (s : St) (Q Q' : Ex → St → Prop), (∀ e s, Q e s → Q' e s) → W s Q → W s Q') {Q Q' : Ex → St → Prop} (hq : ∀ e s, Q e s → Q' e s) :
    ∀ {n n' : Nat} {s : St}, n ≤ n' → wpLoop W Q n s → wpLoop W Q' n' s
  | 0, _, s, _, H => H.elim
  | n + 1, 0, s, h, _ => absurd h (by omega)
  | n + 1, n' + 1, s, h, H => by
    simp only [wpLoop] at H ⊢
    refine hW _ _ _ (fun e s' He => ?_) H
    cases e with
    | normal => exact wpLoop_mono hW hq (by omega) He
    | exit _ => exact hq _ _ He
    | ret => exact hq _ _ He

theorem wp_mono : ∀ {c : SC} {s : St} {Q Q' : Ex → St → Prop}, (∀ e s, Q e s → Q' e s) → wp C c s Q → wp C c s Q'
  | .skip, s, Q, Q', hq, H => hq _ _ H
  | .ops l ks, s, Q, Q', hq, H => wpOps_mono (fun _ _ => hq _ _) H
  | .draw l cl ks, s, Q, Q', hq, H => wpTrace_mono (fun _ _ _ h => ⟨h.1, hq _ _ h.2⟩) H
  | .rangeF f ps a b keep n, s, Q, Q', hq, H => by
    simp only [wp] at H ⊢
    split at H
    · obtain ⟨v, h, e, r, a1, a2, a3⟩ := H
      refine ⟨v, h, e, r, a1, a2, ?_⟩
      rcases hj : r.jump with _ | _ | id
      · rw [hj] at a3; exact hq _ _ a3
      · rw [hj] at a3; exact hq _ _ a3
      · rw [hj] at a3; exact hq _ _ a3
    · exact H.elim
  | .seq a b, s, Q, Q', hq, H => by
    refine wp_mono (c := a) (fun e s' He => ?_) H
    cases e with
    | normal => exact wp_mono (c := b) hq He
    | exit _ => exact hq _ _ He
    | ret => exact hq _ _ He
  | .cond c a b, s, Q, Q', hq, H => ifThen_mono (wp_mono (c := a) hq) (wp_mono (c := b) hq) H
  | .block id b, s, Q, Q', hq, H => by
    refine wp_mono (c := b) (fun e s' He => ?_) H
    cases e with
    | normal => exact hq _ _ He
    | ret => exact hq _ _ He
    | exit j =>
      simp only [onBlk] at He ⊢
      split at He
      · rename_i h; rw [if_pos h]; exact hq _ _ He
      · rename_i h; rw [if_neg h]; exact hq _ _ He
  | .loop b, s, Q, Q', hq, H => by
    obtain ⟨n, H⟩ := H
    exact ⟨n, wpLoop_mono (W := wp C b) (fun _ _ _ h => wp_mono (c := b) h) hq (Nat.le_refl n) H⟩
  | .exit id, s, Q, Q', hq, H => hq _ _ H
  | .ret, s, Q, Q', hq, H => hq _ _ H

/-- Loops end: an invariant with a number that falls. -/
theorem wloop {b : SC} {s : St} {Q : Ex → St → Prop} (I : Nat → St → Prop) (n : Nat) (h0 : I n s)
    (step : ∀ n s, I n s → wp C b s fun e s' => onEx e s' (fun s' => ∃ k, k < n ∧ I k s') Q) {tb : Tag b} {tq : Tag Q} : loopT C b s Q tb tq := by
  refine ⟨n + 1, ?_⟩
  induction n using Nat.strongRecOn generalizing s with
  | _ n ih =>
    simp only [wpLoop]
    refine wp_mono (fun e s' He => ?_) (step n s h0)
    cases e with
    | normal =>
      obtain ⟨k, hk, hi⟩ := He
      exact wpLoop_mono (W := wp C b) (n := k + 1) (n' := n) (fun _ _ _ h => wp_mono h) (fun _ _ h => h) (Nat.succ_le_of_lt hk) (ih k hk hi)
    | exit _ => exact He
    | ret => exact He

/-- One cell. -/
def cellB (bs : List (Nat × Blk)) (id off : Nat) : Option AV := (lkB bs id).bind (·.cells[off]?)

theorem sLoad_ptr {h : Hp} {id off : Nat} : sLoad none h (.ptr id off) = (cellB h.blks id off).map fun v => (v, h) := by
  simp only [sLoad, cellB, rdC]
  cases lkB h.blks id <;> simp

theorem wpOp_load {f : Nat → AV} {h : Hp} {k : Option Nat} {x : SX} {K : AV → Hp → Prop} : wpOp C f h (.load k x) K = andT (sLoad k h (sev f x)) K .mk := (Eq.refl _).trans rfl
theorem wpOp_ixS {f : Nat → AV} {h : Hp} {n : Nat} {x i : SX} {K : AV → Hp → Prop} : wpOp C f h (.ixS n x i) K = andT (sIxS n h (idx? (sev f i)) (sev f x)) K .mk := (Eq.refl _).trans rfl
theorem idx?_nat {k : IntKind} {i : Nat} : idx? (.int k (i : Int)) = some i := by simp [idx?]
theorem idx?_pos {k : IntKind} {i : Int} (h : 0 ≤ i) : idx? (.int k i) = some i.toNat := by simp [idx?, h]
theorem sIxS_sl {h : Hp} {n i id off len sz : Nat} {cap : Option Nat} (hi : i < len) : sIxS n h (some i) (.sl id off len cap sz) = some (.ptr id (off + i * n), h) := by
  have : Nat.blt i len = true := by simpa [Nat.blt_eq] using hi
  simp only [sIxS, this, cond_true]

theorem wrap_i64 {n : Int} (h1 : -9223372036854775808 ≤ n) (h2 : n ≤ 9223372036854775807) : IntKind.wrap .i64 n = n := by
  simp only [IntKind.wrap, IntKind.bits, IntKind.signed]
  simp
  omega

end
end Go.Abs

namespace Go.Abs
open Go

/- Numbers of blocks that are named. -/

mutual
theorem refOK_mono {n m : Nat} (h : n ≤ m) : ∀ {a : AV}, refOK n a = true → refOK m a = true
  | .any, _ => rfl
  | .bool _, _ => rfl
  | .int _ _, _ => rfl
  | .str _, _ => rfl
  | .ptr i _, ho => by simp only [refOK, Nat.blt_eq] at ho ⊢; omega
  | .nilptr, _ => rfl
  | .sl i _ _ _ _, ho => by simp only [refOK, Nat.blt_eq] at ho ⊢; omega
  | .nilsl, _ => rfl
  | .esl, _ => rfl
  | .mp i, ho => by simp only [refOK, Nat.blt_eq] at ho ⊢; omega
  | .nilmp, _ => rfl
  | .fn _ a c, ho => by
    simp only [refOK, Bool.and_eq_true] at ho ⊢
    exact ⟨refsOK_mono h ho.1, refsOK_mono h ho.2⟩
  | .yld i, ho => by simp only [refOK, Nat.blt_eq] at ho ⊢; omega
  | .nilfn, _ => rfl
  | .ifc _ v, ho => by
    simp only [refOK] at ho ⊢
    exact refOK_mono h ho
  | .nilifc, _ => rfl
  | .ag cs, ho => by
    simp only [refOK] at ho ⊢
    exact refsOK_mono h ho
  | .tu cs, ho => by
    simp only [refOK] at ho ⊢
    exact refsOK_mono h ho
theorem refsOK_mono {n m : Nat} (h : n ≤ m) : ∀ {l : List AV}, refsOK n l = true → refsOK m l = true
  | [], _ => rfl
  | a :: r, ho => by
    simp only [refsOK, Bool.and_eq_true] at ho ⊢
    exact ⟨refOK_mono h ho.1, refsOK_mono h ho.2⟩
end

theorem refsOK_iff {n : Nat} : ∀ {l : List AV}, refsOK n l = true ↔ ∀ a ∈ l, refOK n a = true
  | [] => by simp [refsOK]
  | a :: r => by simp only [refsOK, Bool.and_eq_true, refsOK_iff (l := r), List.mem_cons, forall_eq_or_imp]

theorem refsOK_ints {n : Nat} {k : IntKind} {zs : List Int} : refsOK n (ints k zs) = true := refsOK_iff.2 fun a ha => by
  simp only [ints, List.mem_map] at ha
  obtain ⟨z, _, rfl⟩ := ha
  rfl

theorem refsOK_append {n : Nat} {l m : List AV} (h : refsOK n l = true) (h' : refsOK n m = true) : refsOK n (l ++ m) = true := refsOK_iff.2 fun a ha => by
  rcases List.mem_append.1 ha with ha | ha
  · exact refsOK_iff.1 h a ha
  · exact refsOK_iff.1 h' a ha

theorem refsOK_sub {n : Nat} {l m : List AV} (h : refsOK n l = true) (hs : ∀ a ∈ m, a ∈ l) : refsOK n m = true := refsOK_iff.2 fun a ha => refsOK_iff.1 h a (hs a ha)

section
variable {k : IntKind} {n m : Nat} {z : Int} {b : Bool} {l : List UInt8}
theorem isCell_int : AV.isCell (.int k z) = true := (Eq.refl _).trans rfl
theorem isCell_bool : AV.isCell (.bool b) = true := (Eq.refl _).trans rfl
theorem isCell_str : AV.isCell (.str l) = true := (Eq.refl _).trans rfl
theorem hasRef_int : AV.hasRef (.int k z) = false := (Eq.refl _).trans rfl
theorem hasRef_bool : AV.hasRef (.bool b) = false := (Eq.refl _).trans rfl
theorem hasRef_str : AV.hasRef (.str l) = false := (Eq.refl _).trans rfl
theorem refOK_int : refOK n (.int k z) = true := (Eq.refl _).trans rfl
theorem refOK_bool : refOK n (.bool b) = true := (Eq.refl _).trans rfl
theorem refOK_str : refOK n (.str l) = true := (Eq.refl _).trans rfl
theorem refOK_nilsl : refOK n .nilsl = true := (Eq.refl _).trans rfl
theorem refsOK_nil : refsOK n [] = true := (Eq.refl _).trans rfl
theorem refsOK_cons {a : AV} {r : List AV} : refsOK n (a :: r) = (refOK n a && refsOK n r) := (Eq.refl _).trans rfl
theorem refOK_ag {r : List AV} : refOK n (.ag r) = refsOK n r := (Eq.refl _).trans rfl
theorem refOK_tu {r : List AV} : refOK n (.tu r) = refsOK n r := (Eq.refl _).trans rfl
end

/- Heaps whose blocks are numbered well. -/

def HokR (n : Nat) (bs : List (Nat × Blk)) (ls : List (Nat × LoopA)) : Prop := selfOK n bs ls = true
@[reducible] def Hok (h : Hp) : Prop := HokR h.next h.blks h.loops

theorem HokR.blk {n : Nat} {bs : List (Nat × Blk)} {ls : List (Nat × LoopA)} (H : HokR n bs ls) {x : Nat × Blk} (hx : x ∈ bs) : x.1 < n ∧ x.2.ch ≤ x.1 ∧ refsOK n x.2.cells = true := by
  simp only [HokR, selfOK, Bool.and_eq_true, List.all_eq_true] at H
  have := H.1 x hx
  exact ⟨by simpa [Nat.blt_eq] using this.1.1, Nat.le_of_ble_eq_true this.1.2, this.2⟩

theorem HokR.mk' {n : Nat} {bs : List (Nat × Blk)} {ls : List (Nat × LoopA)} (h1 : ∀ x ∈ bs, x.1 < n ∧ x.2.ch ≤ x.1 ∧ refsOK n x.2.cells = true)
    (h2 : ∀ x ∈ ls, x.1 < n ∧ refL n x.2 = true) : HokR n bs ls := by
  simp only [HokR, selfOK, Bool.and_eq_true, List.all_eq_true]
  exact ⟨fun x hx => ⟨⟨by simpa [Nat.blt_eq] using (h1 x hx).1, Nat.ble_eq_true_of_le (h1 x hx).2.1⟩, (h1 x hx).2.2⟩, fun x hx => ⟨by simpa [Nat.blt_eq] using (h2 x hx).1, (h2 x hx).2⟩⟩

theorem HokR.lps {n : Nat} {bs : List (Nat × Blk)} {ls : List (Nat × LoopA)} (H : HokR n bs ls) {x : Nat × LoopA} (hx : x ∈ ls) : x.1 < n ∧ refL n x.2 = true := by
  simp only [HokR, selfOK, Bool.and_eq_true, List.all_eq_true] at H
  have := H.2 x hx
  exact ⟨by simpa [Nat.blt_eq] using this.1, this.2⟩

theorem refL_mono {n m : Nat} (h : n ≤ m) {r : LoopA} (e : refL n r = true) : refL m r = true := by
  simp only [refL, Bool.and_eq_true, Bool.or_eq_true] at e ⊢
  exact ⟨refsOK_mono h e.1, e.2.imp id fun hb => by simp [Nat.blt_eq] at hb ⊢; omega⟩

theorem HokR.up {n m : Nat} {bs : List (Nat × Blk)} {ls : List (Nat × LoopA)} (H : HokR n bs ls) (h : n ≤ m) : HokR m bs ls :=
  .mk' (fun x hx => by have := H.blk hx; exact ⟨by omega, this.2.1, refsOK_mono h this.2.2⟩) fun x hx => by have := H.lps hx; exact ⟨by omega, refL_mono h this.2⟩

theorem HokR.push {n c : Nat} {cs : List AV} {w : Bool} {bs : List (Nat × Blk)} {ls : List (Nat × LoopA)} (H : HokR n bs ls) (hc : refsOK (n + 1) cs = true) (hch : c ≤ n) : HokR (n + 1) ((n, { cells := cs, ch := c, wr := w }) :: bs) ls := by
  refine .mk' (fun x hx => ?_) fun x hx => by have := H.lps hx; exact ⟨by omega, refL_mono (Nat.le_succ n) this.2⟩
  rcases List.mem_cons.1 hx with rfl | hx
  · exact ⟨Nat.lt_succ_self _, hch, hc⟩
  · have := H.blk hx
    exact ⟨by omega, this.2.1, refsOK_mono (Nat.le_succ n) this.2.2⟩

theorem lkB_mem' {bs : List (Nat × Blk)} {id : Nat} {b : Blk} : Abs.lkB bs id = some b → (id, b) ∈ bs := fun h => lkB_mem h

theorem HokR.get {n : Nat} {bs : List (Nat × Blk)} {ls : List (Nat × LoopA)} (H : HokR n bs ls) {id : Nat} {b : Blk} (hb : lkB bs id = some b) : id < n ∧ b.ch ≤ id ∧ refsOK n b.cells = true := H.blk (lkB_mem' hb)

/- Blocks that stay. -/

def Sub (bs bs' : List (Nat × Blk)) : Prop := ∀ id b, lkB bs id = some b → lkB bs' id = some b
theorem Sub.refl (bs : List (Nat × Blk)) : Sub bs bs := fun _ _ h => h
theorem Sub.trans {a b c : List (Nat × Blk)} (h : Sub a b) (h' : Sub b c) : Sub a c := fun i b hb => h' i b (h i b hb)
theorem lkB_push {bs : List (Nat × Blk)} {n id : Nat} {b : Blk} (h : id ≠ n) : lkB ((n, b) :: bs) id = lkB bs id := by
  simp only [lkB, nb (fun e => h e.symm), cond_false]
theorem lkB_top {bs : List (Nat × Blk)} {n : Nat} {b : Blk} : lkB ((n, b) :: bs) n = some b := by simp only [lkB, Nat.beq_refl, cond_true]
/-- Numbers from n on are free. -/
def Fresh (n : Nat) (bs : List (Nat × Blk)) : Prop := ∀ i b, lkB bs i = some b → i < n
theorem HokR.fresh {n : Nat} {bs : List (Nat × Blk)} {ls : List (Nat × LoopA)} (H : HokR n bs ls) : Fresh n bs := fun i b h => (H.get h).1
theorem Fresh.push {n : Nat} {bs : List (Nat × Blk)} {b : Blk} (H : Fresh n bs) : Fresh (n + 1) ((n, b) :: bs) := fun i d h => by
  by_cases e : i = n
  · omega
  · rw [lkB_push e] at h
    have := H i d h
    omega
theorem Sub.push {n : Nat} {bs0 bs : List (Nat × Blk)} {b : Blk} (h : Sub bs0 bs) (H : Fresh n bs) : Sub bs0 ((n, b) :: bs) := fun i d hd => by
  have := h i d hd
  rw [lkB_push (Nat.ne_of_lt (H i d this))]
  exact this

theorem cellB_sub {bs bs' : List (Nat × Blk)} (s : Sub bs bs') {id off : Nat} {v : AV} (h : cellB bs id off = some v) : cellB bs' id off = some v := by
  unfold cellB at h ⊢
  cases hb : lkB bs id with
  | none => simp [hb] at h
  | some b => rw [s id b hb, ← hb]; exact h

/-- A heap with new blocks on top. -/
structure GrownR (h : Hp) (n : Nat) (bs : List (Nat × Blk)) (ls : List (Nat × LoopA)) : Prop where
  blks : ∃ new, bs = new ++ h.blks ∧ ∀ x ∈ new, h.next ≤ x.1
  next : h.next ≤ n
  ok : Hok h → HokR n bs ls
  loops : ls = h.loops
@[reducible] def Grown (h h' : Hp) : Prop := GrownR h h'.next h'.blks h'.loops

theorem Grown.refl {h : Hp} : Grown h h := ⟨⟨[], rfl, by simp⟩, Nat.le_refl _, id, rfl⟩

theorem GrownR.trans {a b : Hp} {n : Nat} {bs : List (Nat × Blk)} {ls : List (Nat × LoopA)} (h : Grown a b) (h' : GrownR b n bs ls) : GrownR a n bs ls := by
  obtain ⟨n1, e1, f1⟩ := h.blks
  obtain ⟨n2, e2, f2⟩ := h'.blks
  refine ⟨⟨n2 ++ n1, by rw [e2, e1, List.append_assoc], fun x hx => ?_⟩, Nat.le_trans h.next h'.next, fun ho => h'.ok (h.ok ho), by rw [h'.loops, h.loops]⟩
  rcases List.mem_append.1 hx with hx | hx
  · exact Nat.le_trans h.next (f2 x hx)
  · exact f1 x hx

theorem GrownR.push {h : Hp} {n c : Nat} {cs : List AV} {w : Bool} {bs : List (Nat × Blk)} {ls : List (Nat × LoopA)} (g : GrownR h n bs ls) (hc : refsOK (n + 1) cs = true) (hch : c ≤ n) :
    GrownR h (n + 1) ((n, { cells := cs, ch := c, wr := w }) :: bs) ls := by
  obtain ⟨new, e, f⟩ := g.blks
  refine ⟨⟨(n, { cells := cs, ch := c, wr := w }) :: new, by rw [e]; rfl, fun x hx => ?_⟩, Nat.le_succ_of_le g.next, fun ho => (g.ok ho).push hc hch, g.loops⟩
  rcases List.mem_cons.1 hx with rfl | hx
  · exact g.next
  · exact f x hx

theorem lkB_app {bs : List (Nat × Blk)} {id : Nat} : ∀ {new : List (Nat × Blk)}, (∀ x ∈ new, x.1 ≠ id) → lkB (new ++ bs) id = lkB bs id
  | [], _ => rfl
  | (j, b) :: r, h => by
    have := h (j, b) (by simp)
    simp only [List.cons_append, lkB, nb this, cond_false]
    exact lkB_app fun x hx => h x (by simp [hx])

theorem GrownR.lkB {h : Hp} {n : Nat} {bs : List (Nat × Blk)} {ls : List (Nat × LoopA)} (g : GrownR h n bs ls) {id : Nat} (hid : id < h.next) : Abs.lkB bs id = Abs.lkB h.blks id := by
  obtain ⟨new, e, f⟩ := g.blks
  rw [e]
  exact lkB_app fun x hx => by have := f x hx; omega

theorem GrownR.sub {h : Hp} {n : Nat} {bs : List (Nat × Blk)} {ls : List (Nat × LoopA)} (g : GrownR h n bs ls) (ho : Hok h) : Sub h.blks bs := fun i b hb => by
  rw [g.lkB (ho.get hb).1]
  exact hb

/-- A block on top; a function's begin. -/
@[reducible] def Hp.pu (h : Hp) (cs : List AV) : Hp := { next := h.next + 1, blks := (h.next, { cells := cs, ch := h.next, wr := true }) :: h.blks, loops := h.loops, base := h.base, esc := h.esc }
@[reducible] def Hp.en (h : Hp) : Hp := { next := h.next, blks := h.blks, loops := h.loops, base := h.next, esc := false }
theorem Grown.en {h : Hp} : Grown h h.en := Grown.refl
theorem GrownR.of_en {h : Hp} {n : Nat} {bs : List (Nat × Blk)} {ls : List (Nat × LoopA)} (g : GrownR h.en n bs ls) : GrownR h n bs ls := GrownR.trans Grown.en g
theorem GrownR.base {h h' : Hp} {n : Nat} {bs : List (Nat × Blk)} {ls : List (Nat × LoopA)} (g : GrownR h n bs ls) (e1 : h.next = h'.next) (e2 : h.blks = h'.blks) (e3 : h.loops = h'.loops) : GrownR h' n bs ls := by
  refine ⟨by rw [← e1, ← e2]; exact g.blks, by rw [← e1]; exact g.next, fun hk => g.ok (by show HokR h.next h.blks h.loops; rw [e1, e2, e3]; exact hk), by rw [← e3]; exact g.loops⟩
theorem Hok.pu {h : Hp} {cs : List AV} (hk : Hok h) (hc : refsOK (h.next + 1) cs = true) : Hok (h.pu cs) := HokR.push hk hc (Nat.le_refl _)
theorem Grown.pu {h0 h : Hp} {cs : List AV} (g : Grown h0 h) (hc : refsOK (h.next + 1) cs = true) : Grown h0 (h.pu cs) := GrownR.push g hc (Nat.le_refl _)
theorem Sub.pu {h : Hp} {cs : List AV} (hk : Hok h) : Sub h.blks (h.pu cs).blks := Sub.push (Sub.refl _) (HokR.fresh hk)

/- What calls leave. -/

theorem GrownR.drop {h : Hp} {n : Nat} {bs : List (Nat × Blk)} {ls : List (Nat × LoopA)} (g : GrownR h n bs ls) : bs.drop (bs.length - h.blks.length) = h.blks := by
  obtain ⟨new, e, _⟩ := g.blks
  rw [e, List.length_append, Nat.add_sub_cancel, List.drop_left]

theorem lowL_same {n : Nat} : ∀ {ls : List (Nat × LoopA)}, (∀ x ∈ ls, x.1 < n ∧ refL n x.2 = true) → lowL n ls = ls
  | [], _ => rfl
  | (j, b) :: ls, h => by
    obtain ⟨h1, h2⟩ := h (j, b) (by simp)
    simp only [refL, Bool.and_eq_true, Bool.or_eq_true] at h2
    have e1 : Nat.blt j n = true := by simpa [Nat.blt_eq] using h1
    have e2 : (Nat.beq b.st 5 && !Nat.blt b.n n) = false := by
      rcases h2.2 with h3 | h3
      · simp only [Bool.not_eq_true'] at h3; rw [h3]; rfl
      · rw [h3]; simp
    have ih : lowL n ls = ls := lowL_same fun x hx => h x (List.mem_cons_of_mem _ hx)
    simp only [lowL, e1, cond_true, e2, cond_false, ih]

theorem leave_eq {h h1 : Hp} {v : AV} (hk : Hok h) (g : Grown h h1) (hr : refOK h.next v = true) : leave false h v h1 = h := by
  simp only [leave, cond_false, g.drop]
  have : selfOK h.next h.blks h.loops = true := hk
  have e : lowL h.next h.loops = h.loops := lowL_same fun x hx => HokR.lps hk hx
  simp only [hr, g.loops, e, this, Bool.and_self, cond_true]

theorem leave_new {h h1 : Hp} {v : AV} (hr : refOK h.next v = false) : leave false h v h1 = { h1 with base := h.base, esc := h.esc } := by
  simp only [leave, cond_false, hr, Bool.false_and]

theorem leave_or {h h1 : Hp} {v : AV} (hk : Hok h) (g : Grown h h1) : (refOK h.next v = true ∧ leave false h v h1 = h) ∨ (refOK h.next v = false ∧ leave false h v h1 = { h1 with base := h.base, esc := h.esc }) := by
  cases hr : refOK h.next v
  · exact .inr ⟨rfl, leave_new hr⟩
  · exact .inl ⟨rfl, leave_eq hk g hr⟩

theorem leave_grown {h h1 : Hp} {v : AV} (hk : Hok h) (g : Grown h h1) : Grown h (leave false h v h1) := by
  rcases leave_or (v := v) hk g with ⟨_, e⟩ | ⟨_, e⟩ <;> rw [e]
  · exact Grown.refl
  · exact g

section
variable {P : Program} {T : Tab}

/-- A call whose result names nothing new leaves the heap as it was. -/
theorem evals_pure {f : Nat} {sf : SFun} (hc : compF P f = some sf) {args : List AV} {h : Hp} {v : AV} (hlen : Nat.ble args.length sf.nt = true) (hk : Hok h)
    (H : wp (Evals P T false) sf.body { fr := initS sf.slots args, hp := { next := h.next, blks := h.blks, loops := h.loops, base := h.next, esc := false } } fun e s => (match e with | .exit _ => False | _ => True) ∧ ∃ vs, sresVs s.fr s.hp sf.res = some vs ∧ resOf vs = v ∧ Grown h s.hp)
    (hr : refOK h.next v = true := by rfl) (hT : T f args h = none := by rfl) : Evals P T false (.func f) args h (v, h) := by
  obtain ⟨v', h', e, rfl, rfl⟩ := evals_func (Q := fun v' h' => v' = v ∧ h' = h) hc hlen (wp_mono (fun e s Hs => by
    obtain ⟨h1, vs, h2, h3, h4⟩ := Hs
    refine ⟨h1, vs, h2, h3, ?_⟩
    rw [h3]
    exact leave_eq hk h4 hr) H) hT
  exact e

/-- A call whose results and new blocks are as Q says, which must not hang on garbage. -/
theorem evals_q {f : Nat} {sf : SFun} (hc : compF P f = some sf) {args : List AV} {h : Hp} (Q : AV → Hp → Prop) (hlen : Nat.ble args.length sf.nt = true) (hk : Hok h)
    (H : wp (Evals P T false) sf.body { fr := initS sf.slots args, hp := { next := h.next, blks := h.blks, loops := h.loops, base := h.next, esc := false } } fun e s => (match e with | .exit _ => False | _ => True) ∧ ∃ vs, sresVs s.fr s.hp sf.res = some vs ∧ Grown h s.hp ∧ Q (resOf vs) s.hp)
    (hq : ∀ v h1, Grown h h1 → Q v h1 → (refOK h.next v = true → Q v h) ∧ (refOK h.next v = false → Q v { h1 with base := h.base, esc := h.esc })) (hT : T f args h = none := by rfl) :
    ∃ v h', Evals P T false (.func f) args h (v, h') ∧ Grown h h' ∧ Q v h' :=
  evals_func (Q := fun v' h' => Grown h h' ∧ Q v' h') hc hlen (wp_mono (fun e s Hs => by
    obtain ⟨h1, vs, h2, h4, h5⟩ := Hs
    refine ⟨h1, vs, h2, leave_grown hk h4, ?_⟩
    rcases leave_or (v := resOf vs) hk h4 with ⟨r, e⟩ | ⟨r, e⟩ <;> rw [e]
    · exact (hq _ _ h4 h5).1 r
    · exact (hq _ _ h4 h5).2 r) H) hT

theorem callT {g : Bool} {f : Nat} {args : List AV} {h h' : Hp} {v : AV} {K : AV → Hp → Prop} (e : Evals P T g (.func f) args h (v, h')) {tk : Tag K} :
    callT' (Evals P T g) (.fn (.func f) [] []) args h K tk = K v h' := by
  unfold callT'
  rw [callThen_eq (by simpa using e)]

/-- A call of a closure. -/
theorem callC {g : Bool} {f : Nat} {cs args : List AV} {h h' : Hp} {v : AV} {K : AV → Hp → Prop} (e : Evals P T g (.func f) (args ++ cs) h (v, h')) {tk : Tag K} :
    callT' (Evals P T g) (.fn (.func f) [] cs) args h K tk = K v h' := by
  unfold callT'
  rw [callThen_eq (by simpa using e)]

/-- A call that makes blocks. -/
theorem callE {g : Bool} {f : Nat} {args : List AV} {h : Hp} {Q : AV → Hp → Prop} {K : AV → Hp → Prop} (e : ∃ v h', Evals P T g (.func f) args h (v, h') ∧ Q v h') (hk : ∀ v h', Q v h' → K v h') {tk : Tag K} :
    callT' (Evals P T g) (.fn (.func f) [] []) args h K tk := by
  obtain ⟨v, h', e, q⟩ := e
  rw [callT e]
  exact hk v h' q

theorem callCE {g : Bool} {f : Nat} {cs args : List AV} {h : Hp} {Q : AV → Hp → Prop} {K : AV → Hp → Prop} (e : ∃ v h', Evals P T g (.func f) (args ++ cs) h (v, h') ∧ Q v h') (hk : ∀ v h', Q v h' → K v h') {tk : Tag K} :
    callT' (Evals P T g) (.fn (.func f) [] cs) args h K tk := by
  obtain ⟨v, h', e, q⟩ := e
  rw [callC e]
  exact hk v h' q

end

theorem trunc_old {c s n : Nat} : ∀ {bs : List (Nat × Blk)}, (∀ x ∈ bs, x.1 < c) → trunc bs c s n = bs
  | [], _ => rfl
  | (j, b) :: r, h => by
    have hj : Nat.blt j c = true := by have := h (j, b) (by simp); simpa [Nat.blt_eq] using this
    simp only [trunc, hj, cond_true]

theorem write_top {n m off : Nat} {cs vs : List AV} {bs : List (Nat × Blk)} {ls : List (Nat × LoopA)} {base : Nat} {esc : Bool} (hbs : ∀ x ∈ bs, x.1 < n) (hoff : off + vs.length ≤ cs.length) (hc : vs.all AV.isCell = true) (hr : vs.any AV.hasRef = false) :
    Hp.write { next := m, blks := (n, { cells := cs, ch := n, wr := true }) :: bs, loops := ls, base, esc } n off vs = some { next := m, blks := (n, { cells := splice cs off vs, ch := n, wr := true }) :: bs, loops := ls, base, esc } := by
  have h1 : lkB ((n, { cells := cs, ch := n, wr := true }) :: bs) n = some { cells := cs, ch := n, wr := true } := by simp [lkB]
  have h2 : Nat.ble (off + vs.length) cs.length = true := Nat.ble_eq_true_of_le hoff
  have h3 : trunc ((n, { cells := cs, ch := n, wr := true }) :: bs) n n off = (n, { cells := cs, ch := n, wr := true }) :: bs := by
    have : Nat.blt n n = false := by
      cases hb : Nat.blt n n
      · rfl
      · exact absurd (Nat.le_of_ble_eq_true hb) (by omega)
    simp [trunc, this, trunc_old hbs]
  simp only [Hp.write, h1, h2, hc, Bool.and_self, cond_true, h3, hr, Bool.and_false, Bool.or_false, setB, Nat.beq_refl]

section
variable {C : Spec} {f : Nat → AV} {h : Hp} {K : AV → Hp → Prop}

theorem wpOp_mks {z : List AV} {n : Nat} {l c : SX} : wpOp C f h (.mks z n l c) K = andT (sMks z n h (int? (sev f l)) (int? (sev f c))) K .mk := (Eq.refl _).trans rfl
theorem int?_int {k : IntKind} {n : Int} : int? (.int k n) = some n := (Eq.refl _).trans rfl
theorem sMks_ok {z : List AV} {n l c : Nat} (h1 : l ≤ c) (h2 : c ≤ 1048576) : sMks z n h (some (l : Int)) (some (c : Int)) =
    some (.sl h.next 0 l (some c) n, { next := h.next + 1, blks := (h.next, { cells := repl z c, ch := h.next, wr := true }) :: h.blks, loops := h.loops, base := h.base, esc := h.esc }) := by
  have : (0 : Int) ≤ l ∧ (l : Int) ≤ c ∧ (c : Int) ≤ 1048576 := ⟨by omega, by omega, by omega⟩
  simp only [sMks, this, and_self, if_true, Hp.new, Int.toNat_natCast]
theorem sMks_0 {z : List AV} {n c : Nat} (h2 : c ≤ 1048576) : sMks z n h (some 0) (some (c : Int)) =
    some (.sl h.next 0 0 (some c) n, { next := h.next + 1, blks := (h.next, { cells := repl z c, ch := h.next, wr := true }) :: h.blks, loops := h.loops, base := h.base, esc := h.esc }) := by
  have := sMks_ok (h := h) (z := z) (n := n) (l := 0) (c := c) (by omega) h2
  simpa using this
theorem wpOp_store {n : Nat} {a x : SX} : wpOp C f h (.store n a x) K = andT (sStore n h (sev f x) (sev f a)) K .mk := (Eq.refl _).trans rfl

def sBox (h : Hp) (v : AV) : Option (AV × Hp) := match v.parts with
  | some cs => some (.ptr h.next 0, { next := h.next + 1, blks := (h.next, { cells := cs, ch := h.next, wr := true }) :: h.blks, loops := h.loops, base := h.base, esc := h.esc })
  | none => none
theorem sBox_ag {cs : List AV} : sBox h (.ag cs) = some (.ptr h.next 0, { next := h.next + 1, blks := (h.next, { cells := cs, ch := h.next, wr := true }) :: h.blks, loops := h.loops, base := h.base, esc := h.esc }) := (Eq.refl _).trans rfl
theorem sBox_int {k : IntKind} {n : Int} : sBox h (.int k n) = some (.ptr h.next 0, { next := h.next + 1, blks := (h.next, { cells := [.int k n], ch := h.next, wr := true }) :: h.blks, loops := h.loops, base := h.base, esc := h.esc }) := (Eq.refl _).trans rfl
theorem wpOp_box {x : SX} : wpOp C f h (.box x) K = andT (sBox h (sev f x)) K .mk := by
  unfold andT
  simp only [wpOp, sexec, sBox]
  cases (sev f x).parts <;> rfl

def sBS (z : List AV) (len n : Nat) (h : Hp) (ps : List (Nat × AV)) : Option (AV × Hp) :=
  match fillA (fun i => some (i * n, n)) (repl z len) ps with
  | some cs => some (.sl h.next 0 len (some len) n, { next := h.next + 1, blks := (h.next, { cells := cs, ch := h.next, wr := true }) :: h.blks, loops := h.loops, base := h.base, esc := h.esc })
  | none => none

theorem wpOp_buildS {z : List AV} {len n : Nat} {ps : List (Nat × SX)} : wpOp C f h (.buildS z len n ps) K = andT (sBS z len n h (ps.map fun p => (p.1, sev f p.2))) K .mk := by
  unfold andT
  simp only [wpOp, sexec, sBS, Hp.new]
  cases fillA (fun i => some (i * n, n)) (repl z len) (ps.map fun p => (p.1, sev f p.2)) <;> rfl

theorem sBS_0 {z : List AV} {n : Nat} : sBS z 0 n h [] = some (.sl h.next 0 0 (some 0) n, { next := h.next + 1, blks := (h.next, { cells := [], ch := h.next, wr := true }) :: h.blks, loops := h.loops, base := h.base, esc := h.esc }) := (Eq.refl _).trans rfl
theorem sBS_1 {k : IntKind} {a : Int} : sBS [.int k 0] 1 1 h [(0, .int k a)] =
    some (.sl h.next 0 1 (some 1) 1, { next := h.next + 1, blks := (h.next, { cells := ints k [a], ch := h.next, wr := true }) :: h.blks, loops := h.loops, base := h.base, esc := h.esc }) := (Eq.refl _).trans rfl
theorem sBS_2 {k : IntKind} {a b : Int} : sBS [.int k 0] 2 1 h [(0, .int k a), (1, .int k b)] =
    some (.sl h.next 0 2 (some 2) 1, { next := h.next + 1, blks := (h.next, { cells := ints k [a, b], ch := h.next, wr := true }) :: h.blks, loops := h.loops, base := h.base, esc := h.esc }) := (Eq.refl _).trans rfl
theorem sBS_ag2 {k k' : IntKind} {a b : AV} (ha : a.isCell = true) (hb : b.isCell = true) : sBS [.int k 0, .int k' 0] 1 2 h [(0, .ag [a, b])] =
    some (.sl h.next 0 1 (some 1) 2, { next := h.next + 1, blks := (h.next, { cells := [a, b], ch := h.next, wr := true }) :: h.blks, loops := h.loops, base := h.base, esc := h.esc }) := (Eq.refl _).trans rfl

def sFa (off : Nat) (a : AV) : Option AV := match a with
  | .ptr id o => some (.ptr id (o + off))
  | _ => none
theorem sFa_ptr {off id o : Nat} : sFa off (.ptr id o) = some (.ptr id (o + off)) := (Eq.refl _).trans rfl
theorem wpOp_fa {off : Nat} {x : SX} : wpOp C f h (.fa off x) K = andT ((sFa off (sev f x)).map fun v => (v, h)) K .mk := by
  unfold andT
  simp only [wpOp, sexec, sFa]
  cases sev f x <;> rfl
def sFld (k : Option Nat) (off : Nat) (a : AV) : Option AV := match a with
  | .ag cs => rdC k cs off
  | _ => none
theorem sFld_ag {off : Nat} {cs : List AV} : sFld none off (.ag cs) = cs[off]? := (Eq.refl _).trans rfl
theorem wpOp_fld {k : Option Nat} {off : Nat} {x : SX} : wpOp C f h (.fld k off x) K = andT ((sFld k off (sev f x)).map fun v => (v, h)) K .mk := by
  unfold andT
  simp only [wpOp, sexec, sFld]
  cases sev f x <;> rfl
def sBuild (z : List AV) (pl : List (Nat × Nat)) (ps : List (Nat × AV)) : Option AV := (fillA (pl[·]?) z ps).map .ag
theorem wpOp_build {z : List AV} {pl : List (Nat × Nat)} {ps : List (Nat × SX)} : wpOp C f h (.build z pl ps) K = andT ((sBuild z pl (ps.map fun p => (p.1, sev f p.2))).map fun v => (v, h)) K .mk := by
  unfold andT
  simp only [wpOp, sexec, sBuild]
  cases fillA (pl[·]?) z (ps.map fun p => (p.1, sev f p.2)) <;> rfl
theorem sBuild_0 {z : List AV} {pl : List (Nat × Nat)} : sBuild z pl [] = some (.ag z) := (Eq.refl _).trans rfl
theorem sBuild_2 {k k' : IntKind} {a b : Int} {x y : AV} : sBuild [x, y] [(0, 1), (1, 1)] [(0, .int k a), (1, .int k' b)] = some (.ag [.int k a, .int k' b]) := (Eq.refl _).trans rfl

theorem sStore_ag {n m i base : Nat} {esc : Bool} {cs vs : List AV} {bs : List (Nat × Blk)} {ls : List (Nat × LoopA)} (hk : HokR i bs ls) (h1 : vs.length = n) (h2 : cs.length = n) (hc : vs.all AV.isCell = true) (hr : vs.any AV.hasRef = false) :
    sStore n { next := m, blks := (i, { cells := cs, ch := i, wr := true }) :: bs, loops := ls, base, esc } (.ag vs) (.ptr i 0) = some (.any, { next := m, blks := (i, { cells := vs, ch := i, wr := true }) :: bs, loops := ls, base, esc }) := by
  have := write_top (n := i) (m := m) (off := 0) (cs := cs) (vs := vs) (bs := bs) (ls := ls) (base := base) (esc := esc) (fun x hx => (hk.blk hx).1) (by omega) hc hr
  have hs : splice cs 0 vs = vs := by simp [splice, h1, ← h2]
  simp only [sStore, AV.parts, h1, Nat.beq_refl, cond_true, this, Option.map_some, hs]
theorem sStore_i {m i off base : Nat} {esc : Bool} {cs : List AV} {k : IntKind} {x : Int} {bs : List (Nat × Blk)} {ls : List (Nat × LoopA)} (hk : HokR i bs ls) (h2 : off < cs.length) :
    sStore 1 { next := m, blks := (i, { cells := cs, ch := i, wr := true }) :: bs, loops := ls, base, esc } (.int k x) (.ptr i off) = some (.any, { next := m, blks := (i, { cells := cs.set off (.int k x), ch := i, wr := true }) :: bs, loops := ls, base, esc }) := by
  have := write_top (n := i) (m := m) (off := off) (cs := cs) (vs := [.int k x]) (bs := bs) (ls := ls) (base := base) (esc := esc) (fun x hx => (hk.blk hx).1) (by simp; omega) rfl rfl
  have hs : splice cs off [.int k x] = cs.set off (.int k x) := by
    simp only [splice, List.length_singleton]
    rw [List.set_eq_take_append_cons_drop, if_pos h2]
    simp
  simp only [sStore, AV.parts, List.length_singleton, Nat.beq_refl, cond_true, this, Option.map_some, hs]

theorem sStore_v {m i off base : Nat} {esc : Bool} {cs : List AV} {v : AV} {bs : List (Nat × Blk)} {ls : List (Nat × LoopA)} (hp : v.parts = some [v] ∧ v.isCell = true) (hk : HokR i bs ls) (h2 : off < cs.length) :
    sStore 1 { next := m, blks := (i, { cells := cs, ch := i, wr := true }) :: bs, loops := ls, base, esc } v (.ptr i off) = some (.any, { next := m, blks := (i, { cells := cs.set off v, ch := i, wr := true }) :: bs, loops := ls, base, esc := esc || (Nat.blt i base && v.hasRef) }) := by
  have h1 : lkB ((i, { cells := cs, ch := i, wr := true }) :: bs) i = some { cells := cs, ch := i, wr := true } := lkB_top
  have h3 : Nat.ble (off + [v].length) cs.length = true := Nat.ble_eq_true_of_le (by simp; omega)
  have h4 : trunc ((i, { cells := cs, ch := i, wr := true }) :: bs) i i off = (i, { cells := cs, ch := i, wr := true }) :: bs := by
    have : Nat.blt i i = false := by
      cases hb : Nat.blt i i
      · rfl
      · exact absurd (Nat.le_of_ble_eq_true hb) (by omega)
    simp [trunc, this, trunc_old (fun x hx => (hk.blk hx).1)]
  have hs : splice cs off [v] = cs.set off v := by
    simp only [splice, List.length_singleton]
    rw [List.set_eq_take_append_cons_drop, if_pos h2]
    simp
  simp only [sStore, hp.1, List.length_singleton, Nat.beq_refl, cond_true, Hp.write, h1, List.all_cons, List.all_nil, hp.2, Bool.and_true, Bool.and_self, h4, setB, List.any_cons, List.any_nil, Bool.or_false, Option.map_some, hs]
  simp only [List.length_singleton] at h3
  simp only [h3, Bool.and_self, cond_true, Option.map_some]

/-- A block on top of what an operation leaves. -/
def pushB (x : Nat × Blk) (r : Option (AV × Hp)) : Option (AV × Hp) := r.map fun r => (r.1, { next := r.2.next, blks := x :: r.2.blks, loops := r.2.loops, base := r.2.base, esc := r.2.esc })
theorem pushB_some {x : Nat × Blk} {v : AV} {h : Hp} : pushB x (some (v, h)) = some (v, { next := h.next, blks := x :: h.blks, loops := h.loops, base := h.base, esc := h.esc }) := (Eq.refl _).trans rfl
theorem sStore_under {n m id off j base : Nat} {esc w : Bool} {cs : List AV} {v : AV} {bs : List (Nat × Blk)} {ls : List (Nat × LoopA)} (hk : HokR j bs ls) (hne : id ≠ j) :
    sStore n { next := m, blks := (j, { cells := cs, ch := j, wr := w }) :: bs, loops := ls, base, esc } v (.ptr id off) = pushB (j, { cells := cs, ch := j, wr := w }) (sStore n { next := m, blks := bs, loops := ls, base, esc } v (.ptr id off)) := by
  simp only [sStore, pushB]
  cases v.parts with
  | none => rfl
  | some vs =>
    simp only
    cases Nat.beq vs.length n
    · rfl
    · simp only [cond_true, Hp.write, lkB_push hne]
      cases hb : lkB bs id with
      | none => rfl
      | some b =>
        simp only
        have hg := hk.get hb
        have h1 : Nat.blt j b.ch = false := by
          cases hx : Nat.blt j b.ch
          · rfl
          · rw [Nat.blt_eq] at hx; omega
        have h2 : Nat.beq j b.ch = false := nb (by omega)
        cases (b.wr && Nat.ble (off + vs.length) b.cells.length && vs.all AV.isCell)
        · rfl
        · simp only [cond_true, Option.map_some, trunc, h1, cond_false, h2, Bool.false_and, setB, nb (Ne.symm hne)]

/-- A struct in memory. -/
def aggB (bs : List (Nat × Blk)) (id off k : Nat) : Option AV := ((lkB bs id).bind (slice? ·.cells off k)).map .ag
theorem sLoad_agg {k id off : Nat} : sLoad (some k) h (.ptr id off) = (aggB h.blks id off k).map fun v => (v, h) := by
  simp only [sLoad, aggB, rdC]
  cases lkB h.blks id <;> simp [Function.comp_def]
def sCellV (k : Option Nat) (bs : List (Nat × Blk)) (a : AV) : Option AV := match a, k with
  | .ptr id off, none => cellB bs id off
  | .ptr id off, some n => aggB bs id off n
  | _, _ => none
theorem sCellV_n {bs : List (Nat × Blk)} {id off : Nat} : sCellV none bs (.ptr id off) = cellB bs id off := (Eq.refl _).trans rfl
theorem sCellV_s {bs : List (Nat × Blk)} {id off n : Nat} : sCellV (some n) bs (.ptr id off) = aggB bs id off n := (Eq.refl _).trans rfl
theorem sresVs_cell {fr : Fr} {a : Nat} {k : Option Nat} {r : List SRes} : sresVs fr h (.cell a k :: r) = (sCellV k h.blks (lkF fr a)).bind fun v => (sresVs fr h r).map (v :: ·) := by
  simp only [sresVs, sresV]
  cases lkF fr a
  case ptr id off =>
    cases k <;> simp only [sCellV, cellB, aggB, rdC] <;> cases hb : lkB h.blks id <;> simp only [Option.bind_none, Option.bind_some, Option.map_none] <;> cases sresVs fr h r <;> simp only [Option.map_none, Option.map_some]
    · simp
    · rename_i b l; cases b.cells[off]? <;> rfl
    · simp
    · rename_i n b l; cases slice? b.cells off n <;> rfl
  all_goals simp [sCellV]
theorem aggB_hit {bs : List (Nat × Blk)} {n off k : Nat} {b : Blk} : aggB ((n, b) :: bs) n off k = (slice? b.cells off k).map .ag := by simp only [aggB, lkB_top, Option.bind_some]
theorem aggB_miss {bs : List (Nat × Blk)} {m n off k : Nat} {b : Blk} (e : m ≠ n) : aggB ((m, b) :: bs) n off k = aggB bs n off k := by simp only [aggB, lkB_push (Ne.symm e)]
theorem cellB_hit {bs : List (Nat × Blk)} {n j : Nat} {b : Blk} : cellB ((n, b) :: bs) n j = b.cells[j]? := by simp only [cellB, lkB_top, Option.bind_some]
theorem cellB_miss {bs : List (Nat × Blk)} {m n j : Nat} {b : Blk} (e : m ≠ n) : cellB ((m, b) :: bs) n j = cellB bs n j := by simp only [cellB, lkB_push (Ne.symm e)]
theorem slice?_2 {a b : AV} : slice? [a, b] 0 2 = some [a, b] := (Eq.refl _).trans rfl
theorem slice?_3 {a b c : AV} : slice? [a, b, c] 0 3 = some [a, b, c] := (Eq.refl _).trans rfl
theorem slice?_4 {a b c d : AV} : slice? [a, b, c, d] 0 4 = some [a, b, c, d] := (Eq.refl _).trans rfl

/-- A variable's block. -/
def Box (bs : List (Nat × Blk)) (id : Nat) (cs : List AV) : Prop := ∃ c w, lkB bs id = some { cells := cs, ch := c, wr := w }
theorem Box.sub {bs bs' : List (Nat × Blk)} {id : Nat} {cs : List AV} (B : Box bs id cs) (s : Sub bs bs') : Box bs' id cs := by
  obtain ⟨c, w, e⟩ := B
  exact ⟨c, w, s _ _ e⟩
theorem Box.top {bs : List (Nat × Blk)} {id c : Nat} {w : Bool} {cs : List AV} : Box ((id, { cells := cs, ch := c, wr := w }) :: bs) id cs := ⟨c, w, lkB_top⟩
theorem Box.ld {bs bs' : List (Nat × Blk)} {id j : Nat} {cs : List AV} (B : Box bs id cs) (s : Sub bs bs') : cellB bs' id j = cs[j]? := by
  obtain ⟨c, w, e⟩ := B
  simp only [cellB, s _ _ e, Option.bind_some]
theorem Box.lda {bs bs' : List (Nat × Blk)} {id off k : Nat} {cs : List AV} (B : Box bs id cs) (s : Sub bs bs') : aggB bs' id off k = (slice? cs off k).map .ag := by
  obtain ⟨c, w, e⟩ := B
  simp only [aggB, s _ _ e, Option.bind_some]

theorem sBin_flat_eq {xs ys : List AV} {n : Nat} (h1 : n = xs.length) : sBin .eql (.flat n) (.ag xs) (.ag ys) = (agEq xs ys).map .bool := by subst h1; simp [sBin, eqFitsC, abEq]
theorem sBin_flat_ne {xs ys : List AV} {n : Nat} (h1 : n = xs.length) : sBin .neq (.flat n) (.ag xs) (.ag ys) = (agEq xs ys).map fun b => .bool (!b) := by subst h1; simp [sBin, eqFitsC, abEq]
theorem agEq_2 {k k' : IntKind} {a b c d : Int} : agEq [.int k a, .int k' b] [.int k c, .int k' d] = some ((a == c) && ((b == d) && true)) := by simp [agEq]
theorem sBin_nil {c : EqC} (hc : c = .slice) : sBin .eql c .nilsl .nilsl = some (.bool true) := by subst hc; rfl
theorem sBin_sl {c : EqC} (hc : c = .slice) {id off len sz : Nat} {cap : Option Nat} : sBin .eql c (.sl id off len cap sz) .nilsl = some (.bool false) := by subst hc; rfl
theorem sBin_nil' {c : EqC} (hc : c = .slice) : sBin .neq c .nilsl .nilsl = some (.bool false) := by subst hc; rfl
theorem sBin_sl' {c : EqC} (hc : c = .slice) {id off len sz : Nat} {cap : Option Nat} : sBin .neq c (.sl id off len cap sz) .nilsl = some (.bool true) := by subst hc; rfl

theorem wpOp_mkf {g : Nat} {a c : List SX} : wpOp C f h (.mkf g a c) K = andT (some (.fn (.func g) (a.map (sev f)) (c.map (sev f)), h)) K .mk := (Eq.refl _).trans rfl

theorem wpOp_app {z : Bool} {n : Nat} {s x : SX} : wpOp C f h (.app z n s x) K = andT (sApp z n h (sev f s) (sev f x)) K .mk := (Eq.refl _).trans rfl
/-- A bound of a slice expression. -/
def sb (f : Nat → AV) : Option SX → Option (Option Nat)
  | some e => some (idx? (sev f e))
  | none => none
theorem sb_none : sb f none = none := (Eq.refl _).trans rfl
theorem sb_some {e : SX} : sb f (some e) = some (idx? (sev f e)) := (Eq.refl _).trans rfl

def bndV (d : Nat) : Option (Option Nat) → Option Nat
  | some e => e
  | none => some d
theorem bndV_none {d : Nat} : bndV d none = some d := (Eq.refl _).trans rfl
theorem bndV_some {d : Nat} {e : Option Nat} : bndV d (some e) = e := (Eq.refl _).trans rfl

def sSl (m : Nat) (h : Hp) (lo hi : Option (Option Nat)) : AV → Option (AV × Hp)
  | .sl id off len cap sz =>
    match bndV len hi, bndV 0 lo with
    | some hv, some lv =>
      bif Nat.ble lv hv && Nat.beq m sz then
        match cap with
        | some c => bif Nat.ble hv c then
            bif Nat.beq c lv then some (.sl id off (hv - lv) (some 0) sz, h) else some (.sl id (off + lv * sz) (hv - lv) (some (c - lv)) sz, h)
          else none
        | none => bif Nat.ble hv len then bif Nat.blt lv len then some (.sl id (off + lv * sz) (hv - lv) none sz, h) else some (.esl, h) else none
      else none
    | _, _ => none
  | .nilsl =>
    match bndV 0 hi, bndV 0 lo with
    | some 0, some 0 => some (.nilsl, h)
    | _, _ => none
  | .esl =>
    match bndV 0 hi, bndV 0 lo with
    | some 0, some 0 => some (.esl, h)
    | _, _ => none
  | _ => none

theorem wpOp_slice {n : Nat} {x : SX} {lo hi : Option SX} : wpOp C f h (.slice n x lo hi) K = andT (sSl n h (sb f lo) (sb f hi) (sev f x)) K .mk := by
  unfold andT
  simp only [wpOp, sexec]
  congr 1
  cases lo <;> cases hi <;> cases sev f x <;> rfl

theorem wpOp_slice3 {n : Nat} {x hi mx : SX} {lo : Option SX} : wpOp C f h (.slice3 n x lo hi mx) K = andT (sSl3 n h (idx? (sev f mx)) (idx? (sev f hi)) (bndV 0 (sb f lo)) (sev f x)) K .mk := by
  unfold andT
  simp only [wpOp, sexec]
  congr 1
  cases lo <;> rfl

theorem wpOp_mn {x y : SX} : wpOp C f h (.mn x y) K = andT ((sMin (sev f x) (sev f y)).map fun v => (v, h)) K .mk := (Eq.refl _).trans rfl
theorem wpOp_mx {x y : SX} : wpOp C f h (.mx x y) K = andT ((sMax (sev f x) (sev f y)).map fun v => (v, h)) K .mk := (Eq.refl _).trans rfl
theorem sMin_int {k : IntKind} {a b : Int} : sMin (.int k a) (.int k b) = some (.int k (min a b)) := by
  simp only [sMin, if_true, Option.some.injEq, AV.int.injEq, true_and]
  split <;> omega
theorem sMax_int {k : IntKind} {a b : Int} : sMax (.int k a) (.int k b) = some (.int k (max a b)) := by
  simp only [sMax, if_true, Option.some.injEq, AV.int.injEq, true_and]
  split <;> omega
end

end Go.Abs
