/- Rules for maps, texts, and for what follows an iterator. -/
import Derived.Test.YtelalpohbodolaaDoorSV
import Derived.Test.YtelalpohbodolaaDoorUN
set_option linter.unusedSimpArgs false
set_option linter.unusedVariables false
namespace Go.Abs
open Go
section
variable {C : Spec} {f : Nat → AV} {h : Hp} {K : AV → Hp → Prop} {s : St} {Q : Ex → St → Prop}
def sMkmV (h : Hp) : AV → Option (AV × Hp)
  | .int _ _ => some (.mp h.next, { h with next := h.next + 1, loops := (h.next, mapObj []) :: h.loops })
  | _ => none
theorem wpOp_mkm0 : wpOp C f h (.mkm none) K = andT (some (.mp h.next, { h with next := h.next + 1, loops := (h.next, mapObj []) :: h.loops })) K .mk := (Eq.refl _).trans rfl
theorem wpOp_mkm {x : SX} : wpOp C f h (.mkm (some x)) K = andT (sMkmV h (sev f x)) K .mk := by
  unfold andT
  simp only [wpOp, sexec, sMkm]
  congr 1
theorem sMkmV_int {k : IntKind} {z : Int} : sMkmV h (.int k z) = some (.mp h.next, { h with next := h.next + 1, loops := (h.next, mapObj []) :: h.loops }) := (Eq.refl _).trans rfl
theorem wpOp_lkp {kt : KT} {z : AV} {ok : Bool} {x i : SX} : wpOp C f h (.lkp kt z ok x i) K = andT (aLkp kt z ok h (sev f i) (sev f x)) K .mk := (Eq.refl _).trans rfl
theorem wpOp_mup {kt : KT} {m k v : SX} : wpOp C f h (.mup kt m k v) K = andT (aMup kt h (sev f k) (sev f v) (sev f m)) K .mk := (Eq.refl _).trans rfl
theorem wpOp_mdel {kt : KT} {m k : SX} : wpOp C f h (.mdel kt m k) K = andT (aMdel kt h (sev f k) (sev f m)) K .mk := (Eq.refl _).trans rfl
theorem wpOp_lenM {x : SX} : wpOp C f h (.lenM x) K = andT (aLenM h (sev f x)) K .mk := (Eq.refl _).trans rfl
theorem wpOp_capS {x : SX} : wpOp C f h (.capS x) K = andT (sCap h (sev f x)) K .mk := (Eq.refl _).trans rfl
theorem wpOp_rng {x : SX} : wpOp C f h (.rng x) K = andT (aRng h (sev f x)) K .mk := (Eq.refl _).trans rfl
theorem wpOp_ent {x : SX} : wpOp C f h (.ent x) K = andT (aEnt h (sev f x)) K .mk := (Eq.refl _).trans rfl
theorem wpOp_s2b {x : SX} : wpOp C f h (.s2b x) K = andT (aS2B h (sev f x)) K .mk := (Eq.refl _).trans rfl
theorem wpOp_b2s {x : SX} : wpOp C f h (.b2s x) K = andT (aB2S h (sev f x)) K .mk := (Eq.refl _).trans rfl
theorem wpOp_ixT {x i : SX} : wpOp C f h (.ixT x i) K = andT (sIxT h (idx? (sev f i)) (sev f x)) K .mk := (Eq.refl _).trans rfl
def sSlTV (h : Hp) (lo hi : Option (Option Nat)) : AV → Option (AV × Hp)
  | .str l =>
    match bndV l.length hi, bndV 0 lo with
    | some hv, some lv => bif Nat.ble lv hv && Nat.ble hv l.length then some (.str ((l.drop lv).take (hv - lv)), h) else none
    | _, _ => none
  | _ => none
theorem wpOp_slT {x : SX} {lo hi : Option SX} : wpOp C f h (.slT x lo hi) K = andT (sSlTV h (sb f lo) (sb f hi) (sev f x)) K .mk := by
  have e : ∀ (d : Nat) (x : Option SX), sbnd f d x = bndV d (sb f x) := fun d x => by cases x <;> rfl
  unfold andT
  simp only [wpOp, sexec, sSlT, e]
  congr 1
def sLenTV (h : Hp) : AV → Option (AV × Hp)
  | .str l => some (.int .i64 l.length, h)
  | _ => none
theorem wpOp_lenT {x : SX} : wpOp C f h (.lenT x) K = andT (sLenTV h (sev f x)) K .mk := by
  unfold andT
  simp only [wpOp, sexec]
  congr 1
theorem sLenTV_str {l : List UInt8} : sLenTV h (.str l) = some (.int .i64 l.length, h) := (Eq.refl _).trans rfl
theorem sIxT_ok {l : List UInt8} {i : Nat} (hi : i < l.length) : sIxT h (some i) (.str l) = some (.int .u8 (l.getD i 0).toNat, h) := by
  simp only [sIxT, List.getElem?_eq_getElem hi, Option.map_some, List.getD_eq_getElem?_getD, Option.getD_some]
theorem wpOp_mx3 {x y z : SX} : wpOp C f h (.mx3 x y z) K = andT ((sMax3 (sev f x) (sev f y) (sev f z)).map fun v => (v, h)) K .mk := (Eq.refl _).trans rfl
theorem sMax3_int {k : IntKind} {a b c : Int} : sMax3 (.int k a) (.int k b) (.int k c) = some (.int k (max (max a b) c)) := by
  simp only [sMax3, and_self, if_true, Option.some.injEq, AV.int.injEq, true_and]
  split <;> split <;> omega
theorem wpOp_clr {size : Nat} {z : List AV} {x : SX} : wpOp C f h (.clr size z x) K = andT (sClr size z h (sev f x)) K .mk := (Eq.refl _).trans rfl
theorem sBin_strE {a b : List UInt8} : sBin .eql .str (.str a) (.str b) = some (.bool (a == b)) := (Eq.refl _).trans rfl
theorem sBin_strN {a b : List UInt8} : sBin .neq .str (.str a) (.str b) = some (.bool (!(a == b))) := (Eq.refl _).trans rfl
theorem sBin_strA {a b : List UInt8} (hl : a.length + b.length ≤ 1073741824) : sBin .add .str (.str a) (.str b) = some (.str (a ++ b)) := by
  have : ((EqC.str == EqC.str) : Bool) = true := rfl
  simp only [sBin, this, cond_true, strBin, Nat.ble_eq_true_of_le hl]
theorem sSlTV_ok {l : List UInt8} {lo hi : Option (Option Nat)} {a b : Nat} (ha : bndV 0 lo = some a) (hb : bndV l.length hi = some b) (h1 : a ≤ b) (h2 : b ≤ l.length) : sSlTV h lo hi (.str l) = some (.str ((l.drop a).take (b - a)), h) := by
  simp only [sSlTV, ha, hb, Nat.ble_eq_true_of_le h1, Nat.ble_eq_true_of_le h2, Bool.and_self, cond_true]
theorem sBin_bool {a b : Bool} : sBin .eql .bool (.bool a) (.bool b) = some (.bool (decide (a = b))) := by
  cases a <;> cases b <;> rfl
theorem sBin_boolN {a b : Bool} : sBin .neq .bool (.bool a) (.bool b) = some (.bool (!decide (a = b))) := by
  cases a <;> cases b <;> rfl

/- What the operations on maps give. -/
variable {id : Nat} {ents : List (AV × AV)} {kt : KT} {z a v : AV} {ok : Bool}
theorem mLkp (hm : lkL h.loops id = some (mapObj ents)) (hk : keyFit kt a = true) (he : ents.all (fun e => keyFit kt e.1) = true) : aLkp kt z false h a (.mp id) = some ((valK a ents).getD z, h) := by
  simp only [aLkp, getM_of hm, hk, he, Bool.and_self, cond_true, cond_false]
theorem mLkpOk (hm : lkL h.loops id = some (mapObj ents)) (hk : keyFit kt a = true) (he : ents.all (fun e => keyFit kt e.1) = true) : aLkp kt z true h a (.mp id) = some (.tu [(valK a ents).getD z, .bool (valK a ents).isSome], h) := by
  simp only [aLkp, getM_of hm, hk, he, Bool.and_self, cond_true]
theorem mLkpNil (hk : keyFit kt a = true) : aLkp kt z false h a .nilmp = some (z, h) := by
  simp only [aLkp, hk, cond_true, cond_false]
theorem mLkpOkNil (hk : keyFit kt a = true) : aLkp kt z true h a .nilmp = some (.tu [z, .bool false], h) := by
  simp only [aLkp, hk, cond_true]
theorem mMupNew (hm : lkL h.loops id = some (mapObj ents)) (hk : keyFit kt a = true) (he : ents.all (fun e => keyFit kt e.1) = true) (hn : hasK a ents = false) : aMup kt h a v (.mp id) = some (.any, { h with loops := setL (dropIts id h.loops) id (mapObj ((a, v) :: ents)) }) := by
  simp only [aMup, getM_of hm, hk, he, Bool.and_self, cond_true, hn, cond_false, putK]
theorem mMupOld (hm : lkL h.loops id = some (mapObj ents)) (hk : keyFit kt a = true) (he : ents.all (fun e => keyFit kt e.1) = true) (hn : hasK a ents = true) : aMup kt h a v (.mp id) = some (.any, { h with loops := setL h.loops id (mapObj (putK a v ents)) }) := by
  simp only [aMup, getM_of hm, hk, he, Bool.and_self, cond_true, hn]
theorem mMdel (hm : lkL h.loops id = some (mapObj ents)) (hk : keyFit kt a = true) (he : ents.all (fun e => keyFit kt e.1) = true) : aMdel kt h a (.mp id) = some (.any, { h with loops := setL h.loops id (mapObj (delK a ents)) }) := by
  simp only [aMdel, getM_of hm, hk, he, Bool.and_self, cond_true]
theorem mLen (hm : lkL h.loops id = some (mapObj ents)) : aLenM h (.mp id) = some (.int .i64 ents.length, h) := by
  simp only [aLenM, getM_of hm, Option.map_some]
theorem mLenNil : aLenM h .nilmp = some (.int .i64 0, h) := (Eq.refl _).trans rfl
theorem mRng (hm : lkL h.loops id = some (mapObj ents)) : aRng h (.mp id) = some (.ptr h.next 0, { h with next := h.next + 1, loops := (h.next, itObj id []) :: h.loops }) := by
  simp only [aRng, getM_of hm]
theorem mEnt {i : Nat} {seen : List AV} (hi : lkL h.loops i = some (itObj id (a :: seen))) (hm : lkL h.loops id = some (mapObj ents)) (hv : valK a ents = some v) : aEnt h (.ptr i 0) = some (.tu [a, v], h) := by
  simp only [aEnt, hi, Option.bind_some, asIt_obj, getM_of hm, hv, Option.map_some]

/- The precondition with iterators. -/
theorem wpN_skip : wpN C .skip s Q = Q .normal s := (Eq.refl _).trans rfl
theorem wpN_exit {id : Nat} : wpN C (.exit id) s Q = Q (.exit id) s := (Eq.refl _).trans rfl
theorem wpN_ret : wpN C .ret s Q = Q .ret s := (Eq.refl _).trans rfl
theorem wpN_seq {a b : SC} : wpN C (.seq a b) s Q = wpN C a s fun e s' => onEx e s' (fun s' => wpN C b s' Q) Q := (Eq.refl _).trans rfl
theorem wpN_cond {fr : Fr} {c : SX} {a b : SC} : wpN C (.cond c a b) { fr, hp := h } Q = ifT (sev (lkF fr) c) (wpN C a { fr, hp := h } Q) (wpN C b { fr, hp := h } Q) .mk .mk := (Eq.refl _).trans rfl
theorem wpN_block {id : Nat} {b : SC} : wpN C (.block id b) s Q = wpN C b s fun e s' => onBlk id e s' Q := (Eq.refl _).trans rfl
theorem wpN_draw {l : List DOper} {cl ks : List Nat} : wpN C (.draw l cl ks) s Q = wp C (.draw l cl ks) s Q := (Eq.refl _).trans rfl
theorem wpN_ops {l : List SOper} {ks : List Nat} (hn : isNx l = false) : wpN C (.ops l ks) s Q = wp C (.ops l ks) s Q := by
  simp only [wpN, hn, cond_false]
theorem wpN_nx {a b : Nat} {x : SX} {ks : List Nat} : wpN C (.ops [⟨some a, none, .nxt x⟩, ⟨some b, none, .ext (.t a) 0⟩] ks) s Q = nxtC ks a b x s Q := by
  simp only [wpN, isNx, cond_true, wpNx, true_and]
def loopN (C : Spec) (b : SC) (s : St) (Q : Ex → St → Prop) (_ : Tag b) (_ : Tag Q) : Prop := wpN C (.loop b) s Q
theorem wpN_loop {b : SC} : wpN C (.loop b) s Q = loopN C b s Q .mk .mk := (Eq.refl _).trans rfl
theorem wloopN {b : SC} (J : Nat → St → Prop) (k : Nat) (h0 : J k s) (step : ∀ k s, J k s → wpN C b s fun e t => onEx e t (fun t => ∃ j, j < k ∧ J j t) Q) {tb : Tag b} {tq : Tag Q} : loopN C b s Q tb tq := ⟨J, ⟨k, h0⟩, step⟩
end
end Go.Abs
