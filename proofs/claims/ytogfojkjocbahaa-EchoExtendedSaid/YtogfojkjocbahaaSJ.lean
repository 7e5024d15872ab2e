/- Rules for running compiled code by 'simp'. -/
import Derived.Test.YtogfojkjocbahaaSI
namespace Go.Abs
open Go

universe u

/-- A tag that keeps simp out of what it names. -/
inductive Tag {α : Sort u} (a : α) : Type
  | mk

def andT (x : Option (AV × Hp)) (K : AV → Hp → Prop) (_ : Tag K) : Prop := andThen x K
def gT (b : AV) (w : Bool) (A B : Prop) (_ : Tag A) (_ : Tag B) : Prop := gIf b w A B
def ifT (b : AV) (A B : Prop) (_ : Tag A) (_ : Tag B) : Prop := ifThen b A B
def callT' (C : Spec) (f : AV) (args : List AV) (h : Hp) (K : AV → Hp → Prop) (_ : Tag K) : Prop := callThen C f args h K
def loopT (C : Spec) (b : SC) (s : St) (Q : Ex → St → Prop) (_ : Tag b) (_ : Tag Q) : Prop := wp C (.loop b) s Q

section
variable {C : Spec} {fr tm : Fr} {h : Hp} {s : St} {Q : Ex → St → Prop} {K : AV → Hp → Prop} {f : Nat → AV}

theorem andThen_congr {x y : Option (AV × Hp)} (e : x = y) : andThen x K = andThen y K := by rw [e]
@[simp] theorem andThen_some {v : AV} : andThen (some (v, h)) K = K v h := (Eq.refl _).trans rfl
theorem andT_some {v : AV} {tk : Tag K} : andT (some (v, h)) K tk = K v h := (Eq.refl _).trans rfl
@[simp] theorem andThen_none : andThen none K = False := (Eq.refl _).trans rfl
theorem ifThen_congr {x y : AV} {A B : Prop} (e : x = y) : ifThen x A B = ifThen y A B := by rw [e]
@[simp] theorem ifThen_bool {t : Bool} {A B : Prop} : ifThen (.bool t) A B = ((t = true → A) ∧ (t = false → B)) := (Eq.refl _).trans rfl
theorem ifThen_true {A B : Prop} {ta : Tag A} {tb : Tag B} : ifT (.bool true) A B ta tb = A := by simp [ifT, ifThen]
theorem ifThen_false {A B : Prop} {ta : Tag A} {tb : Tag B} : ifT (.bool false) A B ta tb = B := by simp [ifT, ifThen]
theorem ifThen_intro {t : Bool} {A B : Prop} (a : t = true → A) (b : t = false → B) {ta : Tag A} {tb : Tag B} : ifT (.bool t) A B ta tb := ⟨a, b⟩
theorem callThen_congr {C : Spec} {x y : AV} {a b : List AV} (e : x = y) (e' : a = b) : callThen C x a h K = callThen C y b h K := by rw [e, e']

@[simp ↓] theorem wpG_none {A B : Prop} : wpG f none A B = A := (Eq.refl _).trans rfl
@[simp ↓] theorem wpG_true {d : Nat} {A B : Prop} : wpG f (some (d, true)) A B = gT (f d) true A B .mk .mk := (Eq.refl _).trans rfl
@[simp ↓] theorem wpG_false {d : Nat} {A B : Prop} : wpG f (some (d, false)) A B = gT (f d) false A B .mk .mk := (Eq.refl _).trans rfl
theorem gT_t {t : Bool} {A B : Prop} {ta : Tag A} {tb : Tag B} : gT (.bool t) true A B ta tb = ifT (.bool t) A B ta tb := (Eq.refl _).trans rfl
theorem gT_f {t : Bool} {A B : Prop} {ta : Tag A} {tb : Tag B} : gT (.bool t) false A B ta tb = ifT (.bool t) B A tb ta := by
  unfold gT gIf ifT ifThen
  exact propext ⟨fun h => ⟨h.2, h.1⟩, fun h => ⟨h.2, h.1⟩⟩
theorem gT_u {w : Bool} {l : List AV} {A B : Prop} {ta : Tag A} {tb : Tag B} : gT (.tu l) w A B ta tb = B := (Eq.refl _).trans rfl

@[simp ↓] theorem wpOps_nil {Q : Fr → Hp → Prop} : wpOps C fr [] tm h Q = Q tm h := (Eq.refl _).trans rfl
@[simp ↓] theorem wpOps_cons {d : Option Nat} {g : Option (Nat × Bool)} {o : SOp} {r : List SOper} {Q : Fr → Hp → Prop} :
    wpOps C fr (⟨d, g, o⟩ :: r) tm h Q = wpG (look tm fr) g (wpOp C (look tm fr) h o fun v h' => wpOps C fr r (sput d v tm) h' Q) (wpOps C fr r (sput d (.tu []) tm) h Q) := (Eq.refl _).trans rfl

@[simp ↓] theorem sput_some {d : Nat} {v : AV} : sput (some d) v tm = (d, v) :: tm := (Eq.refl _).trans rfl
@[simp ↓] theorem sput_none {v : AV} : sput none v tm = tm := (Eq.refl _).trans rfl

@[simp ↓] theorem sev_t {i : Nat} : sev f (.t i) = f i := (Eq.refl _).trans rfl
@[simp ↓] theorem sev_c {v : AV} : sev f (.c v) = v := (Eq.refl _).trans rfl
@[simp ↓] theorem look_nil {i : Nat} : look [] fr i = lkF fr i := (Eq.refl _).trans rfl
@[simp ↓ high] theorem look_hit {i : Nat} {v : AV} : look ((i, v) :: tm) fr i = v := by simp [look, lkO]
@[simp ↓] theorem look_miss {i j : Nat} {v : AV} (e : (j == i) = false) : look ((j, v) :: tm) fr i = look tm fr i := by
  have : j ≠ i := by simpa using e
  simp [look, lkO, nb this]
@[simp ↓ high] theorem lkF_hit {i : Nat} {v : AV} : lkF ((i, v) :: fr) i = v := by simp [lkF]
@[simp ↓] theorem lkF_miss {i j : Nat} {v : AV} (e : (j == i) = false) : lkF ((j, v) :: fr) i = lkF fr i := by
  have : j ≠ i := by simpa using e
  simp [lkF, nb this]
@[simp ↓] theorem lkF_nil {i : Nat} : lkF [] i = .any := (Eq.refl _).trans rfl
@[simp ↓ high] theorem setF_hit {i : Nat} {u v : AV} : setF ((i, u) :: fr) i v = (i, v) :: fr := by simp [setF]
@[simp ↓] theorem setF_miss {i j : Nat} {u v : AV} (e : (j == i) = false) : setF ((j, u) :: fr) i v = (j, u) :: setF fr i v := by
  have : j ≠ i := by simpa using e
  simp [setF, nb this]
@[simp] theorem setF_nil {i : Nat} {v : AV} : setF [] i v = [(i, v)] := (Eq.refl _).trans rfl
@[simp ↓] theorem commitS_nil {ks : List Nat} : commitS ks [] fr = fr := (Eq.refl _).trans rfl
@[simp ↓] theorem commitS_in {ks : List Nat} {t : Nat} {v : AV} {r : Fr} (e : ks.elem t = true) : commitS ks ((t, v) :: r) fr = setF (commitS ks r fr) t v := by simp only [commitS, e, cond_true]
@[simp ↓] theorem commitS_out {ks : List Nat} {t : Nat} {v : AV} {r : Fr} (e : ks.elem t = false) : commitS ks ((t, v) :: r) fr = commitS ks r fr := by simp only [commitS, e, cond_false]

theorem elem_hit {i : Nat} {l : List Nat} : (i :: l).elem i = true := by simp
theorem elem_miss {i j : Nat} {l : List Nat} (e : (j == i) = false) : (i :: l).elem j = l.elem j := by simp only [List.elem, e]
theorem elem_nil {j : Nat} : ([] : List Nat).elem j = false := (Eq.refl _).trans rfl
theorem initS_nil {args : List AV} : initS [] args = [] := (Eq.refl _).trans rfl
theorem initS_cons {t : Nat} {r : List Nat} {args : List AV} : initS (t :: r) args = (t, (args[t]?).getD .any) :: initS r args := (Eq.refl _).trans rfl

@[simp ↓] theorem wp_skip : wp C .skip s Q = Q .normal s := (Eq.refl _).trans rfl
@[simp ↓] theorem wp_ops {l : List SOper} {ks : List Nat} : wp C (.ops l ks) { fr, hp := h } Q = wpOps C fr l [] h fun tm h => Q .normal { fr := commitS ks tm fr, hp := h } := (Eq.refl _).trans rfl
@[simp ↓] theorem wp_seq {a b : SC} : wp C (.seq a b) s Q = wp C a s fun e s' => onEx e s' (fun s' => wp C b s' Q) Q := (Eq.refl _).trans rfl
@[simp ↓] theorem wp_cond {c : SX} {a b : SC} : wp C (.cond c a b) { fr, hp := h } Q = ifT (sev (lkF fr) c) (wp C a { fr, hp := h } Q) (wp C b { fr, hp := h } Q) .mk .mk := (Eq.refl _).trans rfl
@[simp ↓] theorem wp_block {id : Nat} {b : SC} : wp C (.block id b) s Q = wp C b s fun e s' => onBlk id e s' Q := (Eq.refl _).trans rfl
@[simp ↓] theorem wp_exit {id : Nat} : wp C (.exit id) s Q = Q (.exit id) s := (Eq.refl _).trans rfl
@[simp ↓] theorem wp_loopT {b : SC} : wp C (.loop b) s Q = loopT C b s Q .mk .mk := (Eq.refl _).trans rfl
@[simp ↓] theorem wp_ret : wp C .ret s Q = Q .ret s := (Eq.refl _).trans rfl
@[simp ↓] theorem onEx_normal {N : St → Prop} : onEx .normal s N Q = N s := (Eq.refl _).trans rfl
@[simp ↓] theorem onEx_exit {id : Nat} {N : St → Prop} : onEx (.exit id) s N Q = Q (.exit id) s := (Eq.refl _).trans rfl
@[simp ↓] theorem onEx_ret {N : St → Prop} : onEx .ret s N Q = Q .ret s := (Eq.refl _).trans rfl
@[simp ↓] theorem onBlk_normal {id : Nat} : onBlk id .normal s Q = Q .normal s := (Eq.refl _).trans rfl
@[simp ↓] theorem onBlk_ret {id : Nat} : onBlk id .ret s Q = Q .ret s := (Eq.refl _).trans rfl
@[simp ↓ high] theorem onBlk_hit {id : Nat} : onBlk id (.exit id) s Q = Q .normal s := by simp [onBlk]
@[simp ↓] theorem onBlk_miss {id j : Nat} (e : (j == id) = false) : onBlk id (.exit j) s Q = Q (.exit j) s := by
  have : j ≠ id := by simpa using e
  simp [onBlk, this]

@[simp ↓] theorem wpOp_call {x : SX} {args : List SX} : wpOp C f h (.call x args) K = callT' C (sev f x) (args.map (sev f)) h K .mk := (Eq.refl _).trans rfl
@[simp ↓] theorem wpOp_mov {x : SX} : wpOp C f h (.mov x) K = andT (some (sev f x, h)) K .mk := (Eq.refl _).trans rfl
@[simp ↓] theorem wpOp_pick {c a b : SX} : wpOp C f h (.pick c a b) K = ifT (sev f c) (andThen (some (sev f a, h)) K) (andThen (some (sev f b, h)) K) .mk .mk := by
  unfold ifT
  simp only [wpOp, sexec, ifThen]
  cases sev f c <;> simp only [andThen]
  rename_i t
  cases t <;> simp
@[simp ↓] theorem wpOp_new {cs : List AV} : wpOp C f h (.new cs) K = andT (some (.ptr h.next 0, { h with next := h.next + 1, blks := (h.next, { cells := cs, ch := h.next, wr := true }) :: h.blks })) K .mk := (Eq.refl _).trans rfl
@[simp ↓] theorem wpOp_bin {op : BinOp} {c : EqC} {x y : SX} : wpOp C f h (.bin op c x y) K = andT ((sBin op c (sev f x) (sev f y)).map fun v => (v, h)) K .mk := (Eq.refl _).trans rfl

def sNot (a : AV) : Option AV := match a with | .bool b => some (.bool (!b)) | _ => none
@[simp] theorem sNot_bool {b : Bool} : sNot (.bool b) = some (.bool (!b)) := (Eq.refl _).trans rfl
@[simp ↓] theorem wpOp_not {x : SX} : wpOp C f h (.not x) K = andT ((sNot (sev f x)).map fun v => (v, h)) K .mk := by
  unfold andT
  simp only [wpOp, sexec, sNot]
  cases sev f x <;> rfl
def sNeg (a : AV) : Option AV := match a with | .int k n => some (.int k (k.wrap (0 - n))) | _ => none
@[simp] theorem sNeg_int {k : IntKind} {n : Int} : sNeg (.int k n) = some (.int k (k.wrap (0 - n))) := (Eq.refl _).trans rfl
@[simp ↓] theorem wpOp_neg {x : SX} : wpOp C f h (.neg x) K = andT ((sNeg (sev f x)).map fun v => (v, h)) K .mk := by
  unfold andT
  simp only [wpOp, sexec, sNeg]
  cases sev f x <;> rfl
def sConv (k : IntKind) (a : AV) : Option AV := match a with | .int _ n => some (.int k (k.wrap n)) | _ => none
@[simp] theorem sConv_int {k k' : IntKind} {n : Int} : sConv k (.int k' n) = some (.int k (k.wrap n)) := (Eq.refl _).trans rfl
@[simp ↓] theorem wpOp_conv {k : IntKind} {x : SX} : wpOp C f h (.conv k x) K = andT ((sConv k (sev f x)).map fun v => (v, h)) K .mk := by
  unfold andT
  simp only [wpOp, sexec, sConv]
  cases sev f x <;> rfl
def sExt (i : Nat) (a : AV) : Option AV := match a with | .tu vs => vs[i]? | _ => none
@[simp] theorem sExt_tu {i : Nat} {vs : List AV} : sExt i (.tu vs) = vs[i]? := (Eq.refl _).trans rfl
@[simp ↓] theorem wpOp_ext {x : SX} {i : Nat} : wpOp C f h (.ext x i) K = andT ((sExt i (sev f x)).map fun v => (v, h)) K .mk := by
  unfold andT
  simp only [wpOp, sexec, sExt]
  cases sev f x <;> rfl
@[simp ↓] theorem wpOp_lenS {x : SX} : wpOp C f h (.lenS x) K = andT (sLen h (sev f x)) K .mk := (Eq.refl _).trans rfl
@[simp] theorem sLen_sl {id off len sz : Nat} {cap : Option Nat} : sLen h (.sl id off len cap sz) = some (.int .i64 len, h) := (Eq.refl _).trans rfl
@[simp] theorem sLen_nil : sLen h .nilsl = some (.int .i64 0, h) := (Eq.refl _).trans rfl
@[simp] theorem sLen_esl : sLen h .esl = some (.int .i64 0, h) := (Eq.refl _).trans rfl

@[simp] theorem sBin_lss {c : EqC} {k : IntKind} {a b : Int} : sBin .lss c (.int k a) (.int k b) = some (.bool (decide (a < b))) := by simp [sBin, abInt]
@[simp] theorem sBin_leq {c : EqC} {k : IntKind} {a b : Int} : sBin .leq c (.int k a) (.int k b) = some (.bool (decide (a ≤ b))) := by simp [sBin, abInt]
@[simp] theorem sBin_gtr {c : EqC} {k : IntKind} {a b : Int} : sBin .gtr c (.int k a) (.int k b) = some (.bool (decide (b < a))) := by simp [sBin, abInt]
@[simp] theorem sBin_geq {c : EqC} {k : IntKind} {a b : Int} : sBin .geq c (.int k a) (.int k b) = some (.bool (decide (b ≤ a))) := by simp [sBin, abInt]
@[simp] theorem sBin_eql {c : EqC} {k : IntKind} {a b : Int} : sBin .eql c (.int k a) (.int k b) = some (.bool (a == b)) := by simp [sBin, abInt]
@[simp] theorem sBin_neq {c : EqC} {k : IntKind} {a b : Int} : sBin .neq c (.int k a) (.int k b) = some (.bool (a != b)) := by simp [sBin, abInt]
@[simp] theorem sBin_add {c : EqC} {k : IntKind} {a b : Int} : sBin .add c (.int k a) (.int k b) = some (.int k (k.wrap (a + b))) := by simp [sBin, abInt]
@[simp] theorem sBin_sub {c : EqC} {k : IntKind} {a b : Int} : sBin .sub c (.int k a) (.int k b) = some (.int k (k.wrap (a - b))) := by simp [sBin, abInt]
@[simp] theorem sBin_mul {c : EqC} {k : IntKind} {a b : Int} : sBin .mul c (.int k a) (.int k b) = some (.int k (k.wrap (a * b))) := by simp [sBin, abInt]

@[simp] theorem sresVs_nil : sresVs fr h [] = some [] := (Eq.refl _).trans rfl
@[simp] theorem sresVs_tmp {t : Nat} {r : List SRes} : sresVs fr h (.tmp t :: r) = (sresVs fr h r).map (lkF fr t :: ·) := by
  simp only [sresVs, sresV]
  cases sresVs fr h r <;> rfl

end

/-- Evals are one. -/
theorem Evals.eq {P : Program} {T : Tab} {g : Bool} {t : Tgt} {args : List AV} {h : Hp} {r r' : AV × Hp} (e : Evals P T g t args h r) (e' : Evals P T g t args h r') : r = r' := by
  obtain ⟨N, hN⟩ := e
  obtain ⟨N', hN'⟩ := e'
  have := hN (max N N') (by omega)
  rw [hN' (max N N') (by omega)] at this
  exact (Option.some.inj this).symm

theorem callThen_eq {P : Program} {T : Tab} {g : Bool} {f : Nat} {fs cs args : List AV} {h h' : Hp} {v : AV} {K : AV → Hp → Prop} (e : Evals P T g (.func f) (fs ++ args ++ cs) h (v, h')) :
    callThen (Evals P T g) (.fn (.func f) fs cs) args h K = K v h' := by
  refine propext ⟨fun ⟨u, h2, e2, hk⟩ => ?_, fun hk => ⟨v, h', e, hk⟩⟩
  cases e.eq e2
  exact hk

end Go.Abs
