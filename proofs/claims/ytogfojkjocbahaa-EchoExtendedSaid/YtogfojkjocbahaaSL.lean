/- Rules for running compiled code by 'simp'. Loops, reads and indices. Blocks that a function has made, and writes to the newest one. -/
import Derived.Test.YtogfojkjocbahaaSI
set_option linter.unusedSimpArgs false
set_option linter.unusedVariables false
namespace Go.Abs
open Go

universe u

/-- A tag that keeps simp out of what it names. -/
inductive Tag {α : Sort u} (a : α) : Type
  | mk

def andT (x : Option (AV × Hp)) (K : AV → Hp → Prop) (_ : Tag K) : Prop := andThen x K
def gT (b : AV) (w : Bool) (A B : Prop) (_ : Tag A) (_ : Tag B) : Prop := gIf b w A B
def ifT (b : AV) (A B : Prop) (_ : Tag A) (_ : Tag B) : Prop := ifThen b A B
def callT' (C : Spec) (f : AV) (args : List AV) (h : Hp) (K : AV → Hp → Prop) (_ : Tag K) : Prop := callThen C f args h K
def loopT (C : Spec) (b : SC) (s : St) (Q : Ex → St → Prop) (_ : Tag b) (_ : Tag Q) : Prop := wp C (.loop b) s Q

section
variable {C : Spec} {fr tm : Fr} {h : Hp} {s : St} {Q : Ex → St → Prop} {K : AV → Hp → Prop} {f : Nat → AV}

theorem andThen_congr {x y : Option (AV × Hp)} (e : x = y) : andThen x K = andThen y K := by rw [e]
@[simp] theorem andThen_some {v : AV} : andThen (some (v, h)) K = K v h := (Eq.refl _).trans rfl
theorem andT_some {v : AV} {tk : Tag K} : andT (some (v, h)) K tk = K v h := (Eq.refl _).trans rfl
@[simp] theorem andThen_none : andThen none K = False := (Eq.refl _).trans rfl
theorem ifThen_congr {x y : AV} {A B : Prop} (e : x = y) : ifThen x A B = ifThen y A B := by rw [e]
@[simp] theorem ifThen_bool {t : Bool} {A B : Prop} : ifThen (.bool t) A B = ((t = true → A) ∧ (t = false → B)) := (Eq.refl _).trans rfl
theorem ifThen_true {A B : Prop} {ta : Tag A} {tb : Tag B} : ifT (.bool true) A B ta tb = A := by simp [ifT, ifThen]
theorem ifThen_false {A B : Prop} {ta : Tag A} {tb : Tag B} : ifT (.bool false) A B ta tb = B := by simp [ifT, ifThen]
theorem ifThen_intro {t : Bool} {A B : Prop} (a : t = true → A) (b : t = false → B) {ta : Tag A} {tb : Tag B} : ifT (.bool t) A B ta tb := ⟨a, b⟩
theorem callThen_congr {C : Spec} {x y : AV} {a b : List AV} (e : x = y) (e' : a = b) : callThen C x a h K = callThen C y b h K := by rw [e, e']

@[simp ↓] theorem wpG_none {A B : Prop} : wpG f none A B = A := (Eq.refl _).trans rfl
@[simp ↓] theorem wpG_true {d : Nat} {A B : Prop} : wpG f (some (d, true)) A B = gT (f d) true A B .mk .mk := (Eq.refl _).trans rfl
@[simp ↓] theorem wpG_false {d : Nat} {A B : Prop} : wpG f (some (d, false)) A B = gT (f d) false A B .mk .mk := (Eq.refl _).trans rfl
theorem gT_t {t : Bool} {A B : Prop} {ta : Tag A} {tb : Tag B} : gT (.bool t) true A B ta tb = ifT (.bool t) A B ta tb := (Eq.refl _).trans rfl
theorem gT_f {t : Bool} {A B : Prop} {ta : Tag A} {tb : Tag B} : gT (.bool t) false A B ta tb = ifT (.bool t) B A tb ta := by
  unfold gT gIf ifT ifThen
  exact propext ⟨fun h => ⟨h.2, h.1⟩, fun h => ⟨h.2, h.1⟩⟩
theorem gT_u {w : Bool} {l : List AV} {A B : Prop} {ta : Tag A} {tb : Tag B} : gT (.tu l) w A B ta tb = B := (Eq.refl _).trans rfl

@[simp ↓] theorem wpOps_nil {Q : Fr → Hp → Prop} : wpOps C fr [] tm h Q = Q tm h := (Eq.refl _).trans rfl
@[simp ↓] theorem wpOps_cons {d : Option Nat} {g : Option (Nat × Bool)} {o : SOp} {r : List SOper} {Q : Fr → Hp → Prop} :
    wpOps C fr (⟨d, g, o⟩ :: r) tm h Q = wpG (look tm fr) g (wpOp C (look tm fr) h o fun v h' => wpOps C fr r (sput d v tm) h' Q) (wpOps C fr r (sput d (.tu []) tm) h Q) := (Eq.refl _).trans rfl

@[simp ↓] theorem sput_some {d : Nat} {v : AV} : sput (some d) v tm = (d, v) :: tm := (Eq.refl _).trans rfl
@[simp ↓] theorem sput_none {v : AV} : sput none v tm = tm := (Eq.refl _).trans rfl

@[simp ↓] theorem sev_t {i : Nat} : sev f (.t i) = f i := (Eq.refl _).trans rfl
@[simp ↓] theorem sev_c {v : AV} : sev f (.c v) = v := (Eq.refl _).trans rfl
@[simp ↓] theorem look_nil {i : Nat} : look [] fr i = lkF fr i := (Eq.refl _).trans rfl
@[simp ↓ high] theorem look_hit {i : Nat} {v : AV} : look ((i, v) :: tm) fr i = v := by simp [look, lkO]
@[simp ↓] theorem look_miss {i j : Nat} {v : AV} (e : (j == i) = false) : look ((j, v) :: tm) fr i = look tm fr i := by
  have : j ≠ i := by simpa using e
  simp [look, lkO, nb this]
@[simp ↓ high] theorem lkF_hit {i : Nat} {v : AV} : lkF ((i, v) :: fr) i = v := by simp [lkF]
@[simp ↓] theorem lkF_miss {i j : Nat} {v : AV} (e : (j == i) = false) : lkF ((j, v) :: fr) i = lkF fr i := by
  have : j ≠ i := by simpa using e
  simp [lkF, nb this]
@[simp ↓] theorem lkF_nil {i : Nat} : lkF [] i = .any := (Eq.refl _).trans rfl
@[simp ↓ high] theorem setF_hit {i : Nat} {u v : AV} : setF ((i, u) :: fr) i v = (i, v) :: fr := by simp [setF]
@[simp ↓] theorem setF_miss {i j : Nat} {u v : AV} (e : (j == i) = false) : setF ((j, u) :: fr) i v = (j, u) :: setF fr i v := by
  have : j ≠ i := by simpa using e
  simp [setF, nb this]
@[simp] theorem setF_nil {i : Nat} {v : AV} : setF [] i v = [(i, v)] := (Eq.refl _).trans rfl
@[simp ↓] theorem commitS_nil {ks : List Nat} : commitS ks [] fr = fr := (Eq.refl _).trans rfl
@[simp ↓] theorem commitS_in {ks : List Nat} {t : Nat} {v : AV} {r : Fr} (e : ks.elem t = true) : commitS ks ((t, v) :: r) fr = setF (commitS ks r fr) t v := by simp only [commitS, e, cond_true]
@[simp ↓] theorem commitS_out {ks : List Nat} {t : Nat} {v : AV} {r : Fr} (e : ks.elem t = false) : commitS ks ((t, v) :: r) fr = commitS ks r fr := by simp only [commitS, e, cond_false]

theorem elem_hit {i : Nat} {l : List Nat} : (i :: l).elem i = true := by simp
theorem elem_miss {i j : Nat} {l : List Nat} (e : (j == i) = false) : (i :: l).elem j = l.elem j := by simp only [List.elem, e]
theorem elem_nil {j : Nat} : ([] : List Nat).elem j = false := (Eq.refl _).trans rfl
theorem initS_nil {args : List AV} : initS [] args = [] := (Eq.refl _).trans rfl
theorem initS_cons {t : Nat} {r : List Nat} {args : List AV} : initS (t :: r) args = (t, (args[t]?).getD .any) :: initS r args := (Eq.refl _).trans rfl

@[simp ↓] theorem wp_skip : wp C .skip s Q = Q .normal s := (Eq.refl _).trans rfl
@[simp ↓] theorem wp_ops {l : List SOper} {ks : List Nat} : wp C (.ops l ks) { fr, hp := h } Q = wpOps C fr l [] h fun tm h => Q .normal { fr := commitS ks tm fr, hp := h } := (Eq.refl _).trans rfl
@[simp ↓] theorem wp_seq {a b : SC} : wp C (.seq a b) s Q = wp C a s fun e s' => onEx e s' (fun s' => wp C b s' Q) Q := (Eq.refl _).trans rfl
@[simp ↓] theorem wp_cond {c : SX} {a b : SC} : wp C (.cond c a b) { fr, hp := h } Q = ifT (sev (lkF fr) c) (wp C a { fr, hp := h } Q) (wp C b { fr, hp := h } Q) .mk .mk := (Eq.refl _).trans rfl
@[simp ↓] theorem wp_block {id : Nat} {b : SC} : wp C (.block id b) s Q = wp C b s fun e s' => onBlk id e s' Q := (Eq.refl _).trans rfl
@[simp ↓] theorem wp_exit {id : Nat} : wp C (.exit id) s Q = Q (.exit id) s := (Eq.refl _).trans rfl
@[simp ↓] theorem wp_loopT {b : SC} : wp C (.loop b) s Q = loopT C b s Q .mk .mk := (Eq.refl _).trans rfl
@[simp ↓] theorem wp_ret : wp C .ret s Q = Q .ret s := (Eq.refl _).trans rfl
@[simp ↓] theorem onEx_normal {N : St → Prop} : onEx .normal s N Q = N s := (Eq.refl _).trans rfl
@[simp ↓] theorem onEx_exit {id : Nat} {N : St → Prop} : onEx (.exit id) s N Q = Q (.exit id) s := (Eq.refl _).trans rfl
@[simp ↓] theorem onEx_ret {N : St → Prop} : onEx .ret s N Q = Q .ret s := (Eq.refl _).trans rfl
@[simp ↓] theorem onBlk_normal {id : Nat} : onBlk id .normal s Q = Q .normal s := (Eq.refl _).trans rfl
@[simp ↓] theorem onBlk_ret {id : Nat} : onBlk id .ret s Q = Q .ret s := (Eq.refl _).trans rfl
@[simp ↓ high] theorem onBlk_hit {id : Nat} : onBlk id (.exit id) s Q = Q .normal s := by simp [onBlk]
@[simp ↓] theorem onBlk_miss {id j : Nat} (e : (j == id) = false) : onBlk id (.exit j) s Q = Q (.exit j) s := by
  have : j ≠ id := by simpa using e
  simp [onBlk, this]

@[simp ↓] theorem wpOp_call {x : SX} {args : List SX} : wpOp C f h (.call x args) K = callT' C (sev f x) (args.map (sev f)) h K .mk := (Eq.refl _).trans rfl
@[simp ↓] theorem wpOp_mov {x : SX} : wpOp C f h (.mov x) K = andT (some (sev f x, h)) K .mk := (Eq.refl _).trans rfl
@[simp ↓] theorem wpOp_pick {c a b : SX} : wpOp C f h (.pick c a b) K = ifT (sev f c) (andThen (some (sev f a, h)) K) (andThen (some (sev f b, h)) K) .mk .mk := by
  unfold ifT
  simp only [wpOp, sexec, ifThen]
  cases sev f c <;> simp only [andThen]
  rename_i t
  cases t <;> simp
@[simp ↓] theorem wpOp_new {cs : List AV} : wpOp C f h (.new cs) K = andT (some (.ptr h.next 0, { h with next := h.next + 1, blks := (h.next, { cells := cs, ch := h.next, wr := true }) :: h.blks })) K .mk := (Eq.refl _).trans rfl
@[simp ↓] theorem wpOp_bin {op : BinOp} {c : EqC} {x y : SX} : wpOp C f h (.bin op c x y) K = andT ((sBin op c (sev f x) (sev f y)).map fun v => (v, h)) K .mk := (Eq.refl _).trans rfl

def sNot (a : AV) : Option AV := match a with | .bool b => some (.bool (!b)) | _ => none
@[simp] theorem sNot_bool {b : Bool} : sNot (.bool b) = some (.bool (!b)) := (Eq.refl _).trans rfl
@[simp ↓] theorem wpOp_not {x : SX} : wpOp C f h (.not x) K = andT ((sNot (sev f x)).map fun v => (v, h)) K .mk := by
  unfold andT
  simp only [wpOp, sexec, sNot]
  cases sev f x <;> rfl
def sNeg (a : AV) : Option AV := match a with | .int k n => some (.int k (k.wrap (0 - n))) | _ => none
@[simp] theorem sNeg_int {k : IntKind} {n : Int} : sNeg (.int k n) = some (.int k (k.wrap (0 - n))) := (Eq.refl _).trans rfl
@[simp ↓] theorem wpOp_neg {x : SX} : wpOp C f h (.neg x) K = andT ((sNeg (sev f x)).map fun v => (v, h)) K .mk := by
  unfold andT
  simp only [wpOp, sexec, sNeg]
  cases sev f x <;> rfl
def sConv (k : IntKind) (a : AV) : Option AV := match a with | .int _ n => some (.int k (k.wrap n)) | _ => none
@[simp] theorem sConv_int {k k' : IntKind} {n : Int} : sConv k (.int k' n) = some (.int k (k.wrap n)) := (Eq.refl _).trans rfl
@[simp ↓] theorem wpOp_conv {k : IntKind} {x : SX} : wpOp C f h (.conv k x) K = andT ((sConv k (sev f x)).map fun v => (v, h)) K .mk := by
  unfold andT
  simp only [wpOp, sexec, sConv]
  cases sev f x <;> rfl
def sExt (i : Nat) (a : AV) : Option AV := match a with | .tu vs => vs[i]? | _ => none
@[simp] theorem sExt_tu {i : Nat} {vs : List AV} : sExt i (.tu vs) = vs[i]? := (Eq.refl _).trans rfl
@[simp ↓] theorem wpOp_ext {x : SX} {i : Nat} : wpOp C f h (.ext x i) K = andT ((sExt i (sev f x)).map fun v => (v, h)) K .mk := by
  unfold andT
  simp only [wpOp, sexec, sExt]
  cases sev f x <;> rfl
@[simp ↓] theorem wpOp_lenS {x : SX} : wpOp C f h (.lenS x) K = andT (sLen h (sev f x)) K .mk := (Eq.refl _).trans rfl
@[simp] theorem sLen_sl {id off len sz : Nat} {cap : Option Nat} : sLen h (.sl id off len cap sz) = some (.int .i64 len, h) := (Eq.refl _).trans rfl
@[simp] theorem sLen_nil : sLen h .nilsl = some (.int .i64 0, h) := (Eq.refl _).trans rfl
@[simp] theorem sLen_esl : sLen h .esl = some (.int .i64 0, h) := (Eq.refl _).trans rfl

@[simp] theorem sBin_lss {c : EqC} {k : IntKind} {a b : Int} : sBin .lss c (.int k a) (.int k b) = some (.bool (decide (a < b))) := by simp [sBin, abInt]
@[simp] theorem sBin_leq {c : EqC} {k : IntKind} {a b : Int} : sBin .leq c (.int k a) (.int k b) = some (.bool (decide (a ≤ b))) := by simp [sBin, abInt]
@[simp] theorem sBin_gtr {c : EqC} {k : IntKind} {a b : Int} : sBin .gtr c (.int k a) (.int k b) = some (.bool (decide (b < a))) := by simp [sBin, abInt]
@[simp] theorem sBin_geq {c : EqC} {k : IntKind} {a b : Int} : sBin .geq c (.int k a) (.int k b) = some (.bool (decide (b ≤ a))) := by simp [sBin, abInt]
@[simp] theorem sBin_eql {c : EqC} {k : IntKind} {a b : Int} : sBin .eql c (.int k a) (.int k b) = some (.bool (a == b)) := by simp [sBin, abInt]
@[simp] theorem sBin_neq {c : EqC} {k : IntKind} {a b : Int} : sBin .neq c (.int k a) (.int k b) = some (.bool (a != b)) := by simp [sBin, abInt]
@[simp] theorem sBin_add {c : EqC} {k : IntKind} {a b : Int} : sBin .add c (.int k a) (.int k b) = some (.int k (k.wrap (a + b))) := by simp [sBin, abInt]
@[simp] theorem sBin_sub {c : EqC} {k : IntKind} {a b : Int} : sBin .sub c (.int k a) (.int k b) = some (.int k (k.wrap (a - b))) := by simp [sBin, abInt]
@[simp] theorem sBin_mul {c : EqC} {k : IntKind} {a b : Int} : sBin .mul c (.int k a) (.int k b) = some (.int k (k.wrap (a * b))) := by simp [sBin, abInt]

@[simp] theorem sresVs_nil : sresVs fr h [] = some [] := (Eq.refl _).trans rfl
@[simp] theorem sresVs_tmp {t : Nat} {r : List SRes} : sresVs fr h (.tmp t :: r) = (sresVs fr h r).map (lkF fr t :: ·) := by
  simp only [sresVs, sresV]
  cases sresVs fr h r <;> rfl

end

/-- Evals are one. -/
theorem Evals.eq {P : Program} {T : Tab} {g : Bool} {t : Tgt} {args : List AV} {h : Hp} {r r' : AV × Hp} (e : Evals P T g t args h r) (e' : Evals P T g t args h r') : r = r' := by
  obtain ⟨N, hN⟩ := e
  obtain ⟨N', hN'⟩ := e'
  have := hN (max N N') (by omega)
  rw [hN' (max N N') (by omega)] at this
  exact (Option.some.inj this).symm

theorem callThen_eq {P : Program} {T : Tab} {g : Bool} {f : Nat} {fs cs args : List AV} {h h' : Hp} {v : AV} {K : AV → Hp → Prop} (e : Evals P T g (.func f) (fs ++ args ++ cs) h (v, h')) :
    callThen (Evals P T g) (.fn (.func f) fs cs) args h K = K v h' := by
  refine propext ⟨fun ⟨u, h2, e2, hk⟩ => ?_, fun hk => ⟨v, h', e, hk⟩⟩
  cases e.eq e2
  exact hk

end Go.Abs

namespace Go.Abs
open Go

section
variable {C : Spec}

theorem andThen_mono {x : Option (AV × Hp)} {K K' : AV → Hp → Prop} (hk : ∀ v h, K v h → K' v h) (H : andThen x K) : andThen x K' := by
  unfold andThen at H ⊢
  split at H
  · exact hk _ _ H
  · exact H.elim

theorem callThen_mono {f : AV} {args : List AV} {h : Hp} {K K' : AV → Hp → Prop} (hk : ∀ v h, K v h → K' v h) (H : callThen C f args h K) : callThen C f args h K' := by
  unfold callThen at H ⊢
  split at H
  · obtain ⟨v, h', a, b⟩ := H
    exact ⟨v, h', a, hk _ _ b⟩
  · obtain ⟨v, h', a, b⟩ := H
    exact ⟨v, h', a, hk _ _ b⟩
  · exact H.elim

theorem wpOp_mono {f : Nat → AV} {h : Hp} {o : SOp} {K K' : AV → Hp → Prop} (hk : ∀ v h, K v h → K' v h) (H : wpOp C f h o K) : wpOp C f h o K' := by
  have plain : ∀ o, andThen (sexec noCall f h o) K → andThen (sexec noCall f h o) K' := fun _ => andThen_mono hk
  cases o
  case call x args => exact callThen_mono hk H
  all_goals (simp only [wpOp] at H ⊢; exact plain _ H)

theorem ifThen_mono {b : AV} {A A' B B' : Prop} (ha : A → A') (hb : B → B') (H : ifThen b A B) : ifThen b A' B' := by
  unfold ifThen at H ⊢
  split at H
  · exact ⟨fun e => ha (H.1 e), fun e => hb (H.2 e)⟩
  · exact H.elim

theorem wpG_mono {f : Nat → AV} {g : Option (Nat × Bool)} {A A' B B' : Prop} (ha : A → A') (hb : B → B') (H : wpG f g A B) : wpG f g A' B' := by
  unfold wpG at H ⊢
  split at H
  · exact ha H
  · unfold gIf at H ⊢
    split at H
    · exact ⟨fun e => ha (H.1 e), fun e => hb (H.2 e)⟩
    · exact hb H
    · exact H.elim

theorem wpOps_mono {fr : Fr} : ∀ {l : List SOper} {tm : Fr} {h : Hp} {Q Q' : Fr → Hp → Prop}, (∀ tm h, Q tm h → Q' tm h) → wpOps C fr l tm h Q → wpOps C fr l tm h Q'
  | [], tm, h, Q, Q', hq, H => hq _ _ H
  | o :: r, tm, h, Q, Q', hq, H => wpG_mono (wpOp_mono fun _ _ => wpOps_mono hq) (wpOps_mono hq) H

theorem wpTrace_mono {fr : Fr} : ∀ {l : List DOper} {tm : Fr} {h : Hp} {Q Q' : List SRec → Fr → Hp → Prop}, (∀ rs tm h, Q rs tm h → Q' rs tm h) → wpTrace C fr l tm h Q → wpTrace C fr l tm h Q'
  | [], tm, h, Q, Q', hq, H => hq _ _ _ H
  | o :: r, tm, h, Q, Q', hq, H => wpG_mono (wpOp_mono fun _ _ => wpTrace_mono fun _ => hq _) (wpTrace_mono fun _ => hq _) H

theorem wpLoop_mono {W : St → (Ex → St → Prop) → Prop} (hW : ∀ (s : St) (Q Q' : Ex → St → Prop), (∀ e s, Q e s → Q' e s) → W s Q → W s Q') {Q Q' : Ex → St → Prop} (hq : ∀ e s, Q e s → Q' e s) :
    ∀ {n n' : Nat} {s : St}, n ≤ n' → wpLoop W Q n s → wpLoop W Q' n' s
  | 0, _, s, _, H => H.elim
  | n + 1, 0, s, h, _ => absurd h (by omega)
  | n + 1, n' + 1, s, h, H => by
    simp only [wpLoop] at H ⊢
    refine hW _ _ _ (fun e s' He => ?_) H
    cases e with
    | normal => exact wpLoop_mono hW hq (by omega) He
    | exit _ => exact hq _ _ He
    | ret => exact hq _ _ He

theorem wp_mono : ∀ {c : SC} {s : St} {Q Q' : Ex → St → Prop}, (∀ e s, Q e s → Q' e s) → wp C c s Q → wp C c s Q'
  | .skip, s, Q, Q', hq, H => hq _ _ H
  | .ops l ks, s, Q, Q', hq, H => wpOps_mono (fun _ _ => hq _ _) H
  | .draw l cl ks, s, Q, Q', hq, H => wpTrace_mono (fun _ _ _ h => ⟨h.1, hq _ _ h.2⟩) H
  | .rangeF f ps a b keep n, s, Q, Q', hq, H => by
    simp only [wp] at H ⊢
    split at H
    · obtain ⟨v, h, e, r, a1, a2, a3⟩ := H
      refine ⟨v, h, e, r, a1, a2, ?_⟩
      rcases hj : r.jump with _ | _ | id
      · rw [hj] at a3; exact hq _ _ a3
      · rw [hj] at a3; exact hq _ _ a3
      · rw [hj] at a3; exact hq _ _ a3
    · exact H.elim
  | .seq a b, s, Q, Q', hq, H => by
    refine wp_mono (c := a) (fun e s' He => ?_) H
    cases e with
    | normal => exact wp_mono (c := b) hq He
    | exit _ => exact hq _ _ He
    | ret => exact hq _ _ He
  | .cond c a b, s, Q, Q', hq, H => ifThen_mono (wp_mono (c := a) hq) (wp_mono (c := b) hq) H
  | .block id b, s, Q, Q', hq, H => by
    refine wp_mono (c := b) (fun e s' He => ?_) H
    cases e with
    | normal => exact hq _ _ He
    | ret => exact hq _ _ He
    | exit j =>
      simp only [onBlk] at He ⊢
      split at He
      · rename_i h; rw [if_pos h]; exact hq _ _ He
      · rename_i h; rw [if_neg h]; exact hq _ _ He
  | .loop b, s, Q, Q', hq, H => by
    obtain ⟨n, H⟩ := H
    exact ⟨n, wpLoop_mono (W := wp C b) (fun _ _ _ h => wp_mono (c := b) h) hq (Nat.le_refl n) H⟩
  | .exit id, s, Q, Q', hq, H => hq _ _ H
  | .ret, s, Q, Q', hq, H => hq _ _ H

/-- Loops end: an invariant with a number that falls. -/
theorem wloop {b : SC} {s : St} {Q : Ex → St → Prop} (I : Nat → St → Prop) (n : Nat) (h0 : I n s)
    (step : ∀ n s, I n s → wp C b s fun e s' => onEx e s' (fun s' => ∃ k, k < n ∧ I k s') Q) {tb : Tag b} {tq : Tag Q} : loopT C b s Q tb tq := by
  refine ⟨n + 1, ?_⟩
  induction n using Nat.strongRecOn generalizing s with
  | _ n ih =>
    simp only [wpLoop]
    refine wp_mono (fun e s' He => ?_) (step n s h0)
    cases e with
    | normal =>
      obtain ⟨k, hk, hi⟩ := He
      exact wpLoop_mono (W := wp C b) (n := k + 1) (n' := n) (fun _ _ _ h => wp_mono h) (fun _ _ h => h) (Nat.succ_le_of_lt hk) (ih k hk hi)
    | exit _ => exact He
    | ret => exact He

/-- One cell. -/
def cellB (bs : List (Nat × Blk)) (id off : Nat) : Option AV := (lkB bs id).bind (·.cells[off]?)

theorem sLoad_ptr {h : Hp} {id off : Nat} : sLoad none h (.ptr id off) = (cellB h.blks id off).map fun v => (v, h) := by
  simp only [sLoad, cellB, rdC]
  cases lkB h.blks id <;> simp

theorem wpOp_load {f : Nat → AV} {h : Hp} {k : Option Nat} {x : SX} {K : AV → Hp → Prop} : wpOp C f h (.load k x) K = andT (sLoad k h (sev f x)) K .mk := (Eq.refl _).trans rfl
theorem wpOp_ixS {f : Nat → AV} {h : Hp} {n : Nat} {x i : SX} {K : AV → Hp → Prop} : wpOp C f h (.ixS n x i) K = andT (sIxS n h (idx? (sev f i)) (sev f x)) K .mk := (Eq.refl _).trans rfl
theorem idx?_nat {k : IntKind} {i : Nat} : idx? (.int k (i : Int)) = some i := by simp [idx?]
theorem idx?_pos {k : IntKind} {i : Int} (h : 0 ≤ i) : idx? (.int k i) = some i.toNat := by simp [idx?, h]
theorem sIxS_sl {h : Hp} {n i id off len sz : Nat} {cap : Option Nat} (hi : i < len) : sIxS n h (some i) (.sl id off len cap sz) = some (.ptr id (off + i * n), h) := by
  have : Nat.blt i len = true := by simpa [Nat.blt_eq] using hi
  simp only [sIxS, this, cond_true]

/-- A slice of ints whose elements are known. -/
structure IsInts (bs : List (Nat × Blk)) (k : IntKind) (a : AV) (zs : List Int) : Prop where
  len : ∀ h, sLen h a = some (.int .i64 zs.length, h)
  get : ∀ i, i < zs.length → ∃ id off, (∀ h, sIxS 1 h (some i) a = some (.ptr id off, h)) ∧ cellB bs id off = some (.int k (zs.getD i 0))

theorem IsInts.nil {bs : List (Nat × Blk)} {k : IntKind} : IsInts bs k .nilsl [] := ⟨fun _ => rfl, fun i h => by simp at h⟩
theorem IsInts.esl {bs : List (Nat × Blk)} {k : IntKind} : IsInts bs k .esl [] := ⟨fun _ => rfl, fun i h => by simp at h⟩

theorem IsInts.sl {bs : List (Nat × Blk)} {k : IntKind} {id off len : Nat} {cap : Option Nat} {b : Blk} {zs : List Int} (hb : lkB bs id = some b) (hl : zs.length = len) (hc : ∀ i, i < len → b.cells[off + i]? = some (.int k (zs.getD i 0))) :
    IsInts bs k (.sl id off len cap 1) zs :=
  ⟨fun _ => by simp [sLen, hl], fun i hi => ⟨id, off + i * 1, fun h => sIxS_sl (by omega), by simp only [cellB, hb, Nat.mul_one]; exact hc i (by omega)⟩⟩

theorem wrap_i64 {n : Int} (h1 : -9223372036854775808 ≤ n) (h2 : n ≤ 9223372036854775807) : IntKind.wrap .i64 n = n := by
  simp only [IntKind.wrap, IntKind.bits, IntKind.signed]
  simp
  omega

end
end Go.Abs

namespace Go.Abs
open Go

/-- All blocks have numbers below the next. -/
def Hok (h : Hp) : Prop := ∀ x ∈ h.blks, x.1 < h.next

theorem trunc_old {c s n : Nat} : ∀ {bs : List (Nat × Blk)}, (∀ x ∈ bs, x.1 < c) → trunc bs c s n = bs
  | [], _ => rfl
  | (j, b) :: r, h => by
    have hj : Nat.blt j c = true := by have := h (j, b) (by simp); simpa [Nat.blt_eq] using this
    simp only [trunc, hj, cond_true]

theorem write_top {n m off : Nat} {cs vs : List AV} {bs : List (Nat × Blk)} {ls : List (Nat × LoopA)} {base : Nat} {esc : Bool} (hbs : ∀ x ∈ bs, x.1 < n) (hoff : off + vs.length ≤ cs.length) (hc : vs.all AV.isCell = true) (hr : vs.any AV.hasRef = false) :
    Hp.write { next := m, blks := (n, { cells := cs, ch := n, wr := true }) :: bs, loops := ls, base, esc } n off vs = some { next := m, blks := (n, { cells := splice cs off vs, ch := n, wr := true }) :: bs, loops := ls, base, esc } := by
  have h1 : lkB ((n, { cells := cs, ch := n, wr := true }) :: bs) n = some { cells := cs, ch := n, wr := true } := by simp [lkB]
  have h2 : Nat.ble (off + vs.length) cs.length = true := Nat.ble_eq_true_of_le hoff
  have h3 : trunc ((n, { cells := cs, ch := n, wr := true }) :: bs) n n off = (n, { cells := cs, ch := n, wr := true }) :: bs := by
    have : Nat.blt n n = false := by
      cases hb : Nat.blt n n
      · rfl
      · exact absurd (Nat.le_of_ble_eq_true hb) (by omega)
    simp [trunc, this, trunc_old hbs]
  simp only [Hp.write, h1, h2, hc, Bool.and_self, cond_true, h3, hr, Bool.and_false, Bool.or_false, setB, Nat.beq_refl]

theorem splice_ints {k : IntKind} {zs : List Int} {i : Nat} {v : Int} (h : i < zs.length) : splice (ints k zs) i [.int k v] = ints k (zs.set i v) := by
  simp only [splice, ints, List.length_singleton, ← List.map_take, ← List.map_drop]
  rw [List.set_eq_take_append_cons_drop, if_pos h]
  simp

theorem repl_ints {k : IntKind} {z : Int} : ∀ n : Nat, repl [.int k z] n = ints k (List.replicate n z)
  | 0 => rfl
  | n + 1 => by simp [repl, ints, repl_ints n, List.replicate_succ]

theorem IsInts.top {n len : Nat} {cap : Option Nat} {k : IntKind} {zs : List Int} {c : Nat} {w : Bool} {bs : List (Nat × Blk)} (hl : zs.length = len) : IsInts ((n, { cells := ints k zs, ch := c, wr := w }) :: bs) k (.sl n 0 len cap 1) zs :=
  IsInts.sl (b := { cells := ints k zs, ch := c, wr := w }) (by simp [lkB]) hl fun i hi => by
    have : i < zs.length := by omega
    simp [ints, this]

theorem wpOp_mks {C : Spec} {f : Nat → AV} {h : Hp} {z : List AV} {n : Nat} {l c : SX} {K : AV → Hp → Prop} : wpOp C f h (.mks z n l c) K = andT (sMks z n h (int? (sev f l)) (int? (sev f c))) K .mk := (Eq.refl _).trans rfl
theorem int?_int {k : IntKind} {n : Int} : int? (.int k n) = some n := (Eq.refl _).trans rfl
theorem sMks_ok {z : List AV} {n : Nat} {h : Hp} {l c : Nat} (h1 : l ≤ c) (h2 : c ≤ 1048576) : sMks z n h (some (l : Int)) (some (c : Int)) =
    some (.sl h.next 0 l (some c) n, { next := h.next + 1, blks := (h.next, { cells := repl z c, ch := h.next, wr := true }) :: h.blks, loops := h.loops, base := h.base, esc := h.esc }) := by
  have : (0 : Int) ≤ l ∧ (l : Int) ≤ c ∧ (c : Int) ≤ 1048576 := ⟨by omega, by omega, by omega⟩
  simp only [sMks, this, and_self, if_true, Hp.new, Int.toNat_natCast]
theorem wpOp_store {C : Spec} {f : Nat → AV} {h : Hp} {n : Nat} {a x : SX} {K : AV → Hp → Prop} : wpOp C f h (.store n a x) K = andT (sStore n h (sev f x) (sev f a)) K .mk := (Eq.refl _).trans rfl
theorem sStore_int {h : Hp} {k : IntKind} {v : Int} {id off : Nat} : sStore 1 h (.int k v) (.ptr id off) = (h.write id off [.int k v]).map fun h' => (.any, h') := by
  simp [sStore, AV.parts]

def sBS (z : List AV) (len n : Nat) (h : Hp) (ps : List (Nat × AV)) : Option (AV × Hp) :=
  match fillA (fun i => some (i * n, n)) (repl z len) ps with
  | some cs => some (.sl h.next 0 len (some len) n, { next := h.next + 1, blks := (h.next, { cells := cs, ch := h.next, wr := true }) :: h.blks, loops := h.loops, base := h.base, esc := h.esc })
  | none => none

theorem wpOp_buildS {C : Spec} {f : Nat → AV} {h : Hp} {z : List AV} {len n : Nat} {ps : List (Nat × SX)} {K : AV → Hp → Prop} : wpOp C f h (.buildS z len n ps) K = andT (sBS z len n h (ps.map fun p => (p.1, sev f p.2))) K .mk := by
  unfold andT
  simp only [wpOp, sexec, sBS, Hp.new]
  cases fillA (fun i => some (i * n, n)) (repl z len) (ps.map fun p => (p.1, sev f p.2)) <;> rfl

theorem sBS_2 {h : Hp} {k : IntKind} {a b : Int} : sBS [.int k 0] 2 1 h [(0, .int k a), (1, .int k b)] =
    some (.sl h.next 0 2 (some 2) 1, { next := h.next + 1, blks := (h.next, { cells := ints k [a, b], ch := h.next, wr := true }) :: h.blks, loops := h.loops, base := h.base, esc := h.esc }) := (Eq.refl _).trans rfl

/-- A heap with new blocks on top. -/
structure Grown (h h' : Hp) : Prop where
  blks : ∃ new, h'.blks = new ++ h.blks ∧ ∀ x ∈ new, h.next ≤ x.1
  next : h.next ≤ h'.next
  ok : Hok h → Hok h'
  loops : h'.loops = h.loops

theorem Grown.refl {h : Hp} : Grown h h := ⟨⟨[], rfl, by simp⟩, Nat.le_refl _, id, rfl⟩

theorem Grown.trans {a b c : Hp} (h : Grown a b) (h' : Grown b c) : Grown a c := by
  obtain ⟨n1, e1, f1⟩ := h.blks
  obtain ⟨n2, e2, f2⟩ := h'.blks
  refine ⟨⟨n2 ++ n1, by rw [e2, e1, List.append_assoc], fun x hx => ?_⟩, Nat.le_trans h.next h'.next, fun ho => h'.ok (h.ok ho), by rw [h'.loops, h.loops]⟩
  rcases List.mem_append.1 hx with hx | hx
  · exact Nat.le_trans h.next (f2 x hx)
  · exact f1 x hx

theorem Grown.fields {h h' h1 h2 : Hp} (g : Grown h h') (a1 : h1.next = h.next) (a2 : h1.blks = h.blks) (a3 : h1.loops = h.loops) (b1 : h2.next = h'.next) (b2 : h2.blks = h'.blks) (b3 : h2.loops = h'.loops) : Grown h1 h2 := by
  obtain ⟨n1, k1, l1, _, _⟩ := h1
  obtain ⟨n2, k2, l2, _, _⟩ := h2
  simp only at a1 a2 a3 b1 b2 b3
  subst a1 a2 a3 b1 b2 b3
  exact ⟨g.blks, g.next, g.ok, g.loops⟩

theorem Grown.push {h : Hp} {cs : List AV} {c : Nat} {w : Bool} {ba : Nat} {es : Bool} : Grown h { next := h.next + 1, blks := (h.next, { cells := cs, ch := c, wr := w }) :: h.blks, loops := h.loops, base := ba, esc := es } :=
  ⟨⟨[_], rfl, by simp⟩, by simp, fun ho x hx => by
    rcases List.mem_cons.1 hx with rfl | hx
    · simp
    · exact Nat.lt_succ_of_lt (ho x hx), rfl⟩

theorem lkB_app {bs : List (Nat × Blk)} {id : Nat} : ∀ {new : List (Nat × Blk)}, (∀ x ∈ new, x.1 ≠ id) → lkB (new ++ bs) id = lkB bs id
  | [], _ => rfl
  | (j, b) :: r, h => by
    have := h (j, b) (by simp)
    simp only [List.cons_append, lkB, nb this, cond_false]
    exact lkB_app fun x hx => h x (by simp [hx])

theorem Grown.lkB {h h' : Hp} (g : Grown h h') {id : Nat} (hid : id < h.next) : Abs.lkB h'.blks id = Abs.lkB h.blks id := by
  obtain ⟨new, e, f⟩ := g.blks
  rw [e]
  exact lkB_app fun x hx => by have := f x hx; omega

theorem lkB_mem' {bs : List (Nat × Blk)} {id : Nat} {b : Blk} : Abs.lkB bs id = some b → (id, b) ∈ bs := fun h => lkB_mem h

theorem IsInts.grown {h h' : Hp} {k : IntKind} {a : AV} {zs : List Int} (H : IsInts h.blks k a zs) (hok : Hok h) (g : Grown h h') : IsInts h'.blks k a zs :=
  ⟨H.len, fun i hi => by
    obtain ⟨id, off, h1, h2⟩ := H.get i hi
    refine ⟨id, off, h1, ?_⟩
    unfold cellB at h2 ⊢
    cases hb : Abs.lkB h.blks id with
    | none => simp [hb] at h2
    | some b => rw [g.lkB (hok _ (lkB_mem' hb)), ← h2]⟩

end Go.Abs
