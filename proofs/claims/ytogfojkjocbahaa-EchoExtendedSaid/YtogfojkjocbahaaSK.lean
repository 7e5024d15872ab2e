/- Loops, reads and indices. -/
import Derived.Test.YtogfojkjocbahaaSJ
set_option linter.unusedVariables false
namespace Go.Abs
open Go

section
variable {C : Spec}

theorem andThen_mono {x : Option (AV × Hp)} {K K' : AV → Hp → Prop} (hk : ∀ v h, K v h → K' v h) (H : andThen x K) : andThen x K' := by
  unfold andThen at H ⊢
  split at H
  · exact hk _ _ H
  · exact H.elim

theorem callThen_mono {f : AV} {args : List AV} {h : Hp} {K K' : AV → Hp → Prop} (hk : ∀ v h, K v h → K' v h) (H : callThen C f args h K) : callThen C f args h K' := by
  unfold callThen at H ⊢
  split at H
  · obtain ⟨v, h', a, b⟩ := H
    exact ⟨v, h', a, hk _ _ b⟩
  · obtain ⟨v, h', a, b⟩ := H
    exact ⟨v, h', a, hk _ _ b⟩
  · exact H.elim

theorem wpOp_mono {f : Nat → AV} {h : Hp} {o : SOp} {K K' : AV → Hp → Prop} (hk : ∀ v h, K v h → K' v h) (H : wpOp C f h o K) : wpOp C f h o K' := by
  have plain : ∀ o, andThen (sexec noCall f h o) K → andThen (sexec noCall f h o) K' := fun _ => andThen_mono hk
  cases o
  case call x args => exact callThen_mono hk H
  all_goals (simp only [wpOp] at H ⊢; exact plain _ H)

theorem ifThen_mono {b : AV} {A A' B B' : Prop} (ha : A → A') (hb : B → B') (H : ifThen b A B) : ifThen b A' B' := by
  unfold ifThen at H ⊢
  split at H
  · exact ⟨fun e => ha (H.1 e), fun e => hb (H.2 e)⟩
  · exact H.elim

theorem wpG_mono {f : Nat → AV} {g : Option (Nat × Bool)} {A A' B B' : Prop} (ha : A → A') (hb : B → B') (H : wpG f g A B) : wpG f g A' B' := by
  unfold wpG at H ⊢
  split at H
  · exact ha H
  · unfold gIf at H ⊢
    split at H
    · exact ⟨fun e => ha (H.1 e), fun e => hb (H.2 e)⟩
    · exact hb H
    · exact H.elim

theorem wpOps_mono {fr : Fr} : ∀ {l : List SOper} {tm : Fr} {h : Hp} {Q Q' : Fr → Hp → Prop}, (∀ tm h, Q tm h → Q' tm h) → wpOps C fr l tm h Q → wpOps C fr l tm h Q'
  | [], tm, h, Q, Q', hq, H => hq _ _ H
  | o :: r, tm, h, Q, Q', hq, H => wpG_mono (wpOp_mono fun _ _ => wpOps_mono hq) (wpOps_mono hq) H

theorem wpTrace_mono {fr : Fr} : ∀ {l : List DOper} {tm : Fr} {h : Hp} {Q Q' : List SRec → Fr → Hp → Prop}, (∀ rs tm h, Q rs tm h → Q' rs tm h) → wpTrace C fr l tm h Q → wpTrace C fr l tm h Q'
  | [], tm, h, Q, Q', hq, H => hq _ _ _ H
  | o :: r, tm, h, Q, Q', hq, H => wpG_mono (wpOp_mono fun _ _ => wpTrace_mono fun _ => hq _) (wpTrace_mono fun _ => hq _) H

theorem wpLoop_mono {W : St → (Ex → St → Prop) → Prop} (hW : ∀ (s : St) (Q Q' : Ex → St → Prop), (∀ e s, Q e s → Q' e s) → W s Q → W s Q') {Q Q' : Ex → St → Prop} (hq : ∀ e s, Q e s → Q' e s) :
    ∀ {n n' : Nat} {s : St}, n ≤ n' → wpLoop W Q n s → wpLoop W Q' n' s
  | 0, _, s, _, H => H.elim
  | n + 1, 0, s, h, _ => absurd h (by omega)
  | n + 1, n' + 1, s, h, H => by
    simp only [wpLoop] at H ⊢
    refine hW _ _ _ (fun e s' He => ?_) H
    cases e with
    | normal => exact wpLoop_mono hW hq (by omega) He
    | exit _ => exact hq _ _ He
    | ret => exact hq _ _ He

theorem wp_mono : ∀ {c : SC} {s : St} {Q Q' : Ex → St → Prop}, (∀ e s, Q e s → Q' e s) → wp C c s Q → wp C c s Q'
  | .skip, s, Q, Q', hq, H => hq _ _ H
  | .ops l ks, s, Q, Q', hq, H => wpOps_mono (fun _ _ => hq _ _) H
  | .draw l cl ks, s, Q, Q', hq, H => wpTrace_mono (fun _ _ _ h => ⟨h.1, hq _ _ h.2⟩) H
  | .rangeF f ps a b keep n, s, Q, Q', hq, H => by
    simp only [wp] at H ⊢
    split at H
    · obtain ⟨v, h, e, r, a1, a2, a3⟩ := H
      refine ⟨v, h, e, r, a1, a2, ?_⟩
      rcases hj : r.jump with _ | _ | id
      · rw [hj] at a3; exact hq _ _ a3
      · rw [hj] at a3; exact hq _ _ a3
      · rw [hj] at a3; exact hq _ _ a3
    · exact H.elim
  | .seq a b, s, Q, Q', hq, H => by
    refine wp_mono (c := a) (fun e s' He => ?_) H
    cases e with
    | normal => exact wp_mono (c := b) hq He
    | exit _ => exact hq _ _ He
    | ret => exact hq _ _ He
  | .cond c a b, s, Q, Q', hq, H => ifThen_mono (wp_mono (c := a) hq) (wp_mono (c := b) hq) H
  | .block id b, s, Q, Q', hq, H => by
    refine wp_mono (c := b) (fun e s' He => ?_) H
    cases e with
    | normal => exact hq _ _ He
    | ret => exact hq _ _ He
    | exit j =>
      simp only [onBlk] at He ⊢
      split at He
      · rename_i h; rw [if_pos h]; exact hq _ _ He
      · rename_i h; rw [if_neg h]; exact hq _ _ He
  | .loop b, s, Q, Q', hq, H => by
    obtain ⟨n, H⟩ := H
    exact ⟨n, wpLoop_mono (W := wp C b) (fun _ _ _ h => wp_mono (c := b) h) hq (Nat.le_refl n) H⟩
  | .exit id, s, Q, Q', hq, H => hq _ _ H
  | .ret, s, Q, Q', hq, H => hq _ _ H

/-- Loops end: an invariant with a number that falls. -/
theorem wloop {b : SC} {s : St} {Q : Ex → St → Prop} (I : Nat → St → Prop) (n : Nat) (h0 : I n s)
    (step : ∀ n s, I n s → wp C b s fun e s' => onEx e s' (fun s' => ∃ k, k < n ∧ I k s') Q) {tb : Tag b} {tq : Tag Q} : loopT C b s Q tb tq := by
  refine ⟨n + 1, ?_⟩
  induction n using Nat.strongRecOn generalizing s with
  | _ n ih =>
    simp only [wpLoop]
    refine wp_mono (fun e s' He => ?_) (step n s h0)
    cases e with
    | normal =>
      obtain ⟨k, hk, hi⟩ := He
      exact wpLoop_mono (W := wp C b) (n := k + 1) (n' := n) (fun _ _ _ h => wp_mono h) (fun _ _ h => h) (Nat.succ_le_of_lt hk) (ih k hk hi)
    | exit _ => exact He
    | ret => exact He

/-- One cell. -/
def cellB (bs : List (Nat × Blk)) (id off : Nat) : Option AV := (lkB bs id).bind (·.cells[off]?)

theorem sLoad_ptr {h : Hp} {id off : Nat} : sLoad none h (.ptr id off) = (cellB h.blks id off).map fun v => (v, h) := by
  simp only [sLoad, cellB, rdC]
  cases lkB h.blks id <;> simp

theorem wpOp_load {f : Nat → AV} {h : Hp} {k : Option Nat} {x : SX} {K : AV → Hp → Prop} : wpOp C f h (.load k x) K = andT (sLoad k h (sev f x)) K .mk := (Eq.refl _).trans rfl
theorem wpOp_ixS {f : Nat → AV} {h : Hp} {n : Nat} {x i : SX} {K : AV → Hp → Prop} : wpOp C f h (.ixS n x i) K = andT (sIxS n h (idx? (sev f i)) (sev f x)) K .mk := (Eq.refl _).trans rfl
theorem idx?_nat {k : IntKind} {i : Nat} : idx? (.int k (i : Int)) = some i := by simp [idx?]
theorem idx?_pos {k : IntKind} {i : Int} (h : 0 ≤ i) : idx? (.int k i) = some i.toNat := by simp [idx?, h]
theorem sIxS_sl {h : Hp} {n i id off len sz : Nat} {cap : Option Nat} (hi : i < len) : sIxS n h (some i) (.sl id off len cap sz) = some (.ptr id (off + i * n), h) := by
  have : Nat.blt i len = true := by simpa [Nat.blt_eq] using hi
  simp only [sIxS, this, cond_true]

/-- A slice of ints whose elements are known. -/
structure IsInts (bs : List (Nat × Blk)) (k : IntKind) (a : AV) (zs : List Int) : Prop where
  len : ∀ h, sLen h a = some (.int .i64 zs.length, h)
  get : ∀ i, i < zs.length → ∃ id off, (∀ h, sIxS 1 h (some i) a = some (.ptr id off, h)) ∧ cellB bs id off = some (.int k (zs.getD i 0))

theorem IsInts.nil {bs : List (Nat × Blk)} {k : IntKind} : IsInts bs k .nilsl [] := ⟨fun _ => rfl, fun i h => by simp at h⟩
theorem IsInts.esl {bs : List (Nat × Blk)} {k : IntKind} : IsInts bs k .esl [] := ⟨fun _ => rfl, fun i h => by simp at h⟩

theorem IsInts.sl {bs : List (Nat × Blk)} {k : IntKind} {id off len : Nat} {cap : Option Nat} {b : Blk} {zs : List Int} (hb : lkB bs id = some b) (hl : zs.length = len) (hc : ∀ i, i < len → b.cells[off + i]? = some (.int k (zs.getD i 0))) :
    IsInts bs k (.sl id off len cap 1) zs :=
  ⟨fun _ => by simp [sLen, hl], fun i hi => ⟨id, off + i * 1, fun h => sIxS_sl (by omega), by simp only [cellB, hb, Nat.mul_one]; exact hc i (by omega)⟩⟩

theorem wrap_i64 {n : Int} (h1 : -9223372036854775808 ≤ n) (h2 : n ≤ 9223372036854775807) : IntKind.wrap .i64 n = n := by
  simp only [IntKind.wrap, IntKind.bits, IntKind.signed]
  simp
  omega

end
end Go.Abs
