/- slices.Delete on a slice of pairs. -/
import Derived.Test.YtpfkmdbdafpadaaDoorDT
set_option linter.unusedSimpArgs false
set_option linter.unusedVariables false
set_option maxHeartbeats 4000000
set_option maxRecDepth 20000
namespace Go.Proofs.YtpfkmdbdafpadaaDoor
open Go Go.Abs
theorem delP_ev {T : Tab} (hT : ∀ a h, T 45 a h = none) {id off n k i : Nat} {h h' : Hp} (hi : i < n) (hn : n ≤ k) (h30 : n ≤ 1073741824) (hL : ∀ x ∈ h.loops, x.1 < h.next ∧ refL h.next x.2 = true) (e : delA 2 [.int .i64 0, .int .i64 0] h id off n i = some h') :
    Evals Tryd.prog T false (.func 45) [.sl id off n (some k) 2, .int .i64 i, .int .i64 (i + 1 : Nat)] h (.sl id off (n - 1) (some k) 2, h') := by
  unfold delA at e
  cases es : srcCells h.en 2 (.sl id (off + (i + 1) * 2) (n - (i + 1)) none 2) with
  | none => rw [es] at e; cases e
  | some p =>
  obtain ⟨vs, q⟩ := p
  have hq := src_n es
  rw [es] at e
  simp only at e
  cases e1 : (bif Nat.beq (i + 1) n then some h.en else h.en.write id (off + i * 2) vs) with
  | none => rw [e1] at e; cases e
  | some h1 =>
  rw [e1] at e
  simp only [Option.map_eq_some_iff] at e
  obtain ⟨h2, e2, rfl⟩ := e
  have H : ∃ v h', Evals Tryd.prog T false (.func 45) [.sl id off n (some k) 2, .int .i64 i, .int .i64 (i + 1 : Nat)] h (v, h') ∧ (v = .sl id off (n - 1) (some k) 2 ∧ h' = { h2 with base := h.base, esc := h.esc }) := by
    refine evals_func (Q := fun v h' => v = .sl id off (n - 1) (some k) 2 ∧ h' = { h2 with base := h.base, esc := h.esc }) c45 rfl ?_ (hT _ _)
    simp only [sf45, initS_cons, initS_nil]
    obtain ⟨w1, w2, w3, w4, _⟩ := write_some e2
    have hl : ∀ h' : Hp, sLen h' (.sl id off n (some k) 2) = some (.int .i64 (n : Nat), h') := fun _ => rfl
    have hl2 : ∀ h' : Hp, sLen h' (.sl id off (n - 1) (some k) 2) = some (.int .i64 ((n - 1 : Nat) : Int), h') := fun _ => rfl
    obtain ⟨y, ey⟩ : ∃ y : AV, ∀ h' : Hp, sSl3 2 h' (some n) (some (i + 1)) (bndV 0 (some (some i))) (.sl id off n (some k) 2) = some (y, h') := by
      refine ⟨.sl id (off + i * 2) (i + 1 - i) (some (n - i)) 2, fun h' => ?_⟩
      have hb : (Nat.ble i (i + 1) && Nat.beq 2 2 && Nat.ble (i + 1) n && Nat.ble n ((some k).getD n)) = true := by
        rw [Nat.ble_eq_true_of_le (Nat.le_succ i), Nat.ble_eq_true_of_le hi, show (some k).getD n = k from rfl, Nat.ble_eq_true_of_le hn]; rfl
      show sSl3 2 h' (some n) (some (i + 1)) (some i) _ = _
      simp only [sSl3, hb, cond_true, nb (show n ≠ i by omega), cond_false]
    have ne1 : ((i : Int) == ((i + 1 : Nat) : Int)) = false := by simp; omega
    have c1 : ∀ h' : Hp, sSl 2 h' none (some (some i)) (.sl id off n (some k) 2) = some (.sl id off i (some k) 2, h') := fun h' => sSlKz (l := 0) (u := i) rfl rfl (by omega) (by omega) (by omega) (by omega) (by omega) (by omega)
    have c3 : ∀ h' : Hp, sSl 2 h' (some (some (n - 1))) (some (some n)) (.sl id off (n - 1) (some k) 2) = some (.sl id (off + (n - 1) * 2) 1 (some (k - (n - 1))) 2, h') := fun h' => sSlKz (l := n - 1) (u := n) rfl rfl (by omega) (by omega) (by omega) (by omega) (by omega) rfl
    have cl : sClr 2 [.int .i64 0, .int .i64 0] h1 (.sl id (off + (n - 1) * 2) 1 (some (k - (n - 1))) 2) = some (.any, h2) := by
      have : repl [AV.int .i64 0, AV.int .i64 0] 1 = [.int .i64 0, .int .i64 0] := rfl
      have hb : (Nat.beq 2 2 && Nat.beq [AV.int .i64 0, AV.int .i64 0].length 2 && Nat.blt 0 1) = true := rfl
      simp only [sClr, hb, cond_true, this, e2, Option.map_some]
    obtain ⟨s2, c2, ap⟩ : ∃ s2, (∀ h' : Hp, sSl 2 h' (some (some (i + 1))) none (.sl id off n (some k) 2) = some (s2, h')) ∧ sApp true 2 h.en (.sl id off i (some k) 2) s2 = some (.sl id off (n - 1) (some k) 2, h1) := by
      by_cases hin : i + 1 = n
      · rw [show Nat.beq (i + 1) n = true by rw [hin, Nat.beq_refl]] at e1
        simp only [cond_true, Option.some.injEq] at e1
        subst e1
        have key : ∀ s2 : AV, srcCells h.en 2 s2 = some ([], 0) → sApp true 2 h.en (.sl id off i (some k) 2) s2 = some (.sl id off (n - 1) (some k) 2, h.en) := fun s2 hs => by
          simp only [sApp, hs, sAppend, Nat.beq_refl, Bool.not_true, cond_false, cond_true, show n - 1 = i by omega]
        by_cases hk : k = i + 1
        · refine ⟨.sl id off 0 (some 0) 2, fun h' => ?_, key _ rfl⟩
          have hb : (Nat.ble (i + 1) n && Nat.beq 2 2) = true := by rw [Nat.ble_eq_true_of_le (by omega)]; rfl
          have hb2 : Nat.ble n k = true := Nat.ble_eq_true_of_le hn
          have hb3 : Nat.beq k (i + 1) = true := by rw [hk, Nat.beq_refl]
          simp only [sSl, bndV, hb, cond_true, hb2, hb3, show n - (i + 1) = 0 by omega]
        · exact ⟨.sl id (off + (i + 1) * 2) 0 (some (k - (i + 1))) 2, fun h' => sSlKz (l := i + 1) (u := n) rfl rfl (by omega) hn (by omega) rfl (by omega) rfl, key _ rfl⟩
      · rw [nb hin] at e1
        simp only [cond_false] at e1
        refine ⟨.sl id (off + (i + 1) * 2) (n - (i + 1)) (some (k - (i + 1))) 2, fun h' => sSlKz (l := i + 1) (u := n) rfl rfl (by omega) hn (by omega) rfl rfl rfl, ?_⟩
        have hs : srcCells h.en 2 (.sl id (off + (i + 1) * 2) (n - (i + 1)) (some (k - (i + 1))) 2) = some (vs, n - (i + 1)) := by
          rw [src_cap (c' := none), es, hq]
        obtain ⟨v1, v2, v3, v4, b, v5⟩ := write_some e1
        have n0 : Nat.beq (n - (i + 1)) 0 = false := nb (by omega)
        have l1 : Nat.ble (n - 1) 1073741824 = true := Nat.ble_eq_true_of_le (by omega)
        have l2 : Nat.ble (n - 1) k = true := Nat.ble_eq_true_of_le (by omega)
        simp only [sApp, hs, sAppend, Nat.beq_refl, Bool.not_true, cond_false, n0, l1, v4, Bool.and_self, Bool.and_true, v5, l2, cond_true, e1, Option.map_some, show i + (n - (i + 1)) = n - 1 by omega]
    simp (disch := first|(simp only [Nat.reduceBEq,wE];done)|((repeat' (first|assumption|exact mAx _|refine mBx ?_ ?_|exact mCx (by assumption)|refine mDx ?_|refine mEx ?_ ?_ ?_|exact mFx|refine mGx ?_ ?_ ?_|exact mHx|exact mIx _|(simp only [wM,Nat.reduceAdd,Nat.reduceLT,Nat.reduceLeDiff];done)));done)|omega|decide) only [hl, ey, ne1, c1, c2, ap, hl2, c3, cl, ↓wA,wB,wL,resOf,Nat.reduceBEq,Int.reduceBEq,Int.reduceBNe,Int.reduceLT,Int.reduceLE,Int.reduceAdd,Int.reduceSub,Int.reduceMul,Int.reduceToNat]
    refine ⟨_, rfl, rfl, ?_⟩
    have hlen : h2.blks.length = h.blks.length := by
      rw [w2]
      by_cases hin : i + 1 = n
      · rw [show Nat.beq (i + 1) n = true by rw [hin, Nat.beq_refl]] at e1
        simp only [cond_true, Option.some.injEq] at e1
        rw [← e1]
      · rw [nb hin] at e1
        exact (write_some e1).2.1
    have hnext : h2.next = h.next := by
      rw [w1]
      by_cases hin : i + 1 = n
      · rw [show Nat.beq (i + 1) n = true by rw [hin, Nat.beq_refl]] at e1
        simp only [cond_true, Option.some.injEq] at e1
        rw [← e1]
      · rw [nb hin] at e1
        exact (write_some e1).1
    have hd : h2.blks.drop (h2.blks.length - h.blks.length) = h2.blks := by rw [hlen, Nat.sub_self, List.drop_zero]
    have hloop : h2.loops = h.loops := by
      rw [w3]
      by_cases hin : i + 1 = n
      · rw [show Nat.beq (i + 1) n = true by rw [hin, Nat.beq_refl]] at e1
        simp only [cond_true, Option.some.injEq] at e1
        rw [← e1]
      · rw [nb hin] at e1
        exact (write_some e1).2.2.1
    have hll : lowL h.next h2.loops = h2.loops := by rw [hloop]; exact lowL_same hL
    simp only [leave, cond_false, hd, hll]
    cases hb : (refOK h.next (.sl id off (n - 1) (some k) 2) && selfOK h.next h2.blks h2.loops)
    · rfl
    · simp only [cond_true, hnext]
  obtain ⟨v, h', ev, rfl, rfl⟩ := H
  exact ev

/-- What an entry of the table asks. -/
theorem delP_sem {id off n i : Nat} {h h' : Hp} (hi : i < n) (h30 : n ≤ 1073741824) (hL : ∀ x ∈ h.loops, x.1 < h.next ∧ refL h.next x.2 = true) (e : delA 2 [.int .i64 0, .int .i64 0] h id off n i = some h')
    {σ : Env} {base : Prot} {w : World} {vs : Array Value} (H : HR σ base h w) (hb : base.fit w.heap.size) (hv : Rs σ [.sl id off n none 2, .int .i64 i, .int .i64 (i + 1 : Nat)] vs.toList) :
    (callFunc 45 vs).run Tryd.prog w = .ok (.enter 45 vs) w ∧ Calls Tryd.prog 45 vs w (Post base σ (.sl id off (n - 1) none 2) h' w) := by
  have hv' := hv
  simp only [Rs] at hv
  obtain ⟨u, us, e1, r0, rest⟩ := hv
  simp only [R] at r0
  obtain ⟨c, k, hc, hu, hk, hcap⟩ := r0
  have hvk : Rs σ [.sl id off n (some k) 2, .int .i64 i, .int .i64 (i + 1 : Nat)] vs.toList := by
    simp only [Rs]
    exact ⟨u, us, e1, by simp only [R]; exact ⟨c, k, hc, hu, hk, rfl⟩, rest⟩
  obtain ⟨N, hN⟩ := delP_ev (T := noTab) (fun _ _ => rfl) hi hk h30 hL e
  have S := (callN_sound mixed noTab_ok N).func (hN N (Nat.le_refl N)) H hb hvk
  refine ⟨S.1, S.2.mono fun x w' hx => ?_⟩
  obtain ⟨y, τ, rfl, hy, ex, hh, fw⟩ := hx
  refine ⟨y, τ, rfl, ?_, ex, hh, fw⟩
  simp only [R] at hy ⊢
  obtain ⟨c', k', h1, h2, h3, h4⟩ := hy
  subst h4
  have : τ id = some c := ex _ _ hc
  rw [this] at h1
  cases h1
  exact ⟨c, k', this, h2, h3, hcap⟩
end Go.Proofs.YtpfkmdbdafpadaaDoor
