/- Slices of slices; networks and permutations that the laws make. -/
import Derived.Test.YtpfkmdbdafpadaaDoorPF
import Derived.Test.YtpfkmdbdafpadaaDoorKD
set_option linter.unusedSimpArgs false
set_option linter.unusedVariables false
set_option maxHeartbeats 4000000
set_option maxRecDepth 20000
namespace Go.Abs
theorem Arr.sl {bs : List (Nat × Blk)} {sz n : Nat} {a : AV} {cs : List AV} (H : Arr bs sz a n cs) {lo hi : Option (Option Nat)} {l u : Nat} (el : bndV 0 lo = some l) (eu : bndV n hi = some u) (h1 : l ≤ u) (h2 : u ≤ n) (h : Hp) :
    ∃ a', sSl sz h lo hi a = some (a', h) ∧ Arr bs sz a' (u - l) ((cs.drop (l * sz)).take ((u - l) * sz)) := by
  obtain ⟨hl, H | ⟨id, off, cap, rfl, hcap, hc⟩⟩ := H
  · obtain ⟨rfl, ha⟩ := H
    have hu : u = 0 := by omega
    subst hu
    have hl0 : l = 0 := by omega
    subst hl0
    have hcs : cs = [] := List.length_eq_zero_iff.1 (by simpa using hl)
    subst hcs
    rcases ha with rfl | rfl
    · refine ⟨.nilsl, ?_, by simpa using Arr.nil⟩
      simp only [sSl, el, eu]
    · refine ⟨.esl, ?_, by simpa using Arr.esl⟩
      simp only [sSl, el, eu]
  · have hb : (Nat.ble l u && Nat.beq sz sz) = true := by rw [Nat.ble_eq_true_of_le h1, Nat.beq_refl]; rfl
    have hm : (u - l) * sz + l * sz = u * sz := by rw [← Nat.add_mul]; congr 1; omega
    have hun : u * sz ≤ n * sz := Nat.mul_le_mul_right _ h2
    have key : ∀ j, j < (u - l) * sz → cellB bs id (off + l * sz + j) = ((cs.drop (l * sz)).take ((u - l) * sz))[j]? := fun j hj => by
      rw [List.getElem?_take_of_lt hj, List.getElem?_drop, Nat.add_assoc]
      exact hc _ (by omega)
    have len : ((cs.drop (l * sz)).take ((u - l) * sz)).length = (u - l) * sz := by
      rw [List.length_take, List.length_drop, hl]
      omega
    cases cap with
    | none =>
      simp only [sSl, el, eu, hb, cond_true, Nat.ble_eq_true_of_le h2]
      cases hq : Nat.blt l n
      · have : ¬ l < n := fun h => by rw [show Nat.blt l n = true from by simpa [Nat.blt_eq] using h] at hq; cases hq
        have e : u - l = 0 := by omega
        refine ⟨.esl, rfl, ?_⟩
        rw [e]
        simpa using Arr.esl
      · exact ⟨_, rfl, len, .inr ⟨id, off + l * sz, none, rfl, trivial, key⟩⟩
    | some c =>
      have hcap' : n ≤ c := hcap
      simp only [sSl, el, eu, hb, cond_true, Nat.ble_eq_true_of_le (show u ≤ c by omega)]
      cases hq : Nat.beq c l
      · exact ⟨_, rfl, len, .inr ⟨id, off + l * sz, some (c - l), rfl, show u - l ≤ c - l by omega, key⟩⟩
      · have := Nat.eq_of_beq_eq_true hq
        have e : u - l = 0 := by omega
        refine ⟨_, rfl, len, .inr ⟨id, off, some 0, rfl, show u - l ≤ 0 by omega, fun j hj => ?_⟩⟩
        rw [e] at hj
        omega
theorem Ints.sl {bs : List (Nat × Blk)} {k : IntKind} {a : AV} {zs : List Int} (H : Ints bs k a zs) {lo hi : Option (Option Nat)} {l u : Nat} (el : bndV 0 lo = some l) (eu : bndV zs.length hi = some u) (h1 : l ≤ u) (h2 : u ≤ zs.length) (h : Hp) :
    ∃ a', sSl 1 h lo hi a = some (a', h) ∧ Ints bs k a' ((zs.drop l).take (u - l)) := by
  obtain ⟨a', e, i⟩ := Arr.sl H el eu h1 h2 h
  refine ⟨a', e, ?_⟩
  unfold Ints
  have : (((zs.drop l).take (u - l)).length) = u - l := by simp; omega
  rw [this]
  have e2 : ((ints k zs).drop (l * 1)).take ((u - l) * 1) = ints k ((zs.drop l).take (u - l)) := by simp [ints, Nat.mul_one]
  rw [← e2]
  exact i
theorem Pairs.sl {bs : List (Nat × Blk)} {a : AV} {ps : List (Int × Int)} (H : Pairs bs a ps) {lo hi : Option (Option Nat)} {l u : Nat} (el : bndV 0 lo = some l) (eu : bndV ps.length hi = some u) (h1 : l ≤ u) (h2 : u ≤ ps.length) (h : Hp) :
    ∃ a', sSl 2 h lo hi a = some (a', h) ∧ Pairs bs a' ((ps.drop l).take (u - l)) := by
  obtain ⟨a', e, i⟩ := Arr.sl H el eu h1 h2 h
  refine ⟨a', e, ?_⟩
  unfold Pairs
  have : (((ps.drop l).take (u - l)).length) = u - l := by simp; omega
  rw [this]
  have hd : ∀ (l : List (Int × Int)) (k : Nat), (Abs.pairs l).drop (k * 2) = Abs.pairs (l.drop k) := fun l => by
    induction l with
    | nil => intro k; simp [Abs.pairs]
    | cons p r ih =>
      intro k
      cases k with
      | zero => rfl
      | succ k =>
        rw [pairs_cons, Nat.succ_mul, List.drop_succ_cons]
        simp only [List.drop_succ_cons]
        exact ih k
  rw [← pairs_take, ← hd]
  exact i
end Go.Abs
namespace Go.Pa
def ofN (l : List Nat) : List Int := l.map fun x : Nat => (x : Int)
theorem ofN_len {l : List Nat} : (ofN l).length = l.length := by simp [ofN]
theorem ofN_at {l : List Nat} {i : Nat} : (ofN l).getD i 0 = ((l.getD i 0 : Nat) : Int) := by
  simp only [ofN, List.getD_eq_getElem?_getD, List.getElem?_map]
  cases l[i]? <;> simp
theorem nth_perm {code : List Nat} {n : Nat} : PermI n (ofN (nthC code n)) := by
  refine ⟨by rw [ofN_len, nthC_len], fun z hz => ?_, ?_⟩
  · obtain ⟨x, hx, rfl⟩ := List.mem_map.1 hz
    have := nthC_lt n x hx
    omega
  · unfold ofN
    rw [List.Nodup, List.pairwise_map]
    exact List.Pairwise.imp (fun h e => h (by omega)) (nthC_nodup n)
def netN (x : Nat) : Nat := x % 12 + 1
def netR (x y : Nat) : Nat := y % (12 / netN x) + 1
theorem net_ok (x y : Nat) : 0 < netN x ∧ netN x ≤ 12 ∧ 0 < netR x y ∧ netR x y ≤ 12 ∧ netN x * netR x y ≤ 12 := by
  have h1 : netN x ≤ 12 := by unfold netN; omega
  have h0 : 0 < netN x := by unfold netN; omega
  have h2 : 0 < 12 / netN x := Nat.div_pos h1 h0
  have h3 : netR x y ≤ 12 / netN x := by unfold netR; have := Nat.mod_lt y h2; omega
  have h4 : netN x * (12 / netN x) ≤ 12 := Nat.mul_div_le 12 _
  have h5 : netN x * netR x y ≤ netN x * (12 / netN x) := Nat.mul_le_mul_left _ h3
  have h6 : 12 / netN x ≤ 12 := Nat.div_le_self _ _
  refine ⟨h0, h1, by unfold netR; omega, by omega, by omega⟩
end Go.Pa
namespace Go.Proofs.YtpfkmdbdafpadaaDoor
open Go Go.Abs Go.Pa

theorem f12 (x y z : Nat) (h : Hp) (hk : Hok h) (hx : x ≤ 255) (hy : y ≤ 255) (hz : z ≤ 255) :
    Evals Tryd.prog tab false (.func 12) [.ag [.int .u8 x, .int .u8 y, .int .u8 z]] h (.tu [.int .i64 (netN x), .int .i64 (netR x y), .int .i64 (netN z)], h) := by
  refine evals_pure c12 rfl hk ?_ rfl
  simp only [sf12, initS_cons, initS_nil]
  have w : ∀ t : Nat, t ≤ 255 → IntKind.wrap .i64 (t : Int) = t := fun t ht => wrap_i64 (by omega) (by omega)
  have e1 : ∀ t : Nat, (t : Int) % 12 + 1 = ((netN t : Nat) : Int) := fun t => by unfold netN; omega
  obtain ⟨n0, n1, r0, r1, _⟩ := net_ok x y
  have zb := (net_ok z 0).2.1
  have q1 : sBin .quo .no (.int .i64 12) (.int .i64 (netN x : Nat)) = some (.int .i64 ((12 / netN x : Nat) : Int)) := by
    rw [sBin_quo (by omega) (by omega) (by omega)]; rfl
  have p1 : 0 < 12 / netN x := Nat.div_pos n1 n0
  have q2 : sBin .rem .no (.int .i64 (y : Int)) (.int .i64 ((12 / netN x : Nat) : Int)) = some (.int .i64 ((y % (12 / netN x) : Nat) : Int)) := by
    rw [sBin_rem (by omega) (by omega)]; rfl
  have q3 : ((y % (12 / netN x) : Nat) : Int) + 1 = ((netR x y : Nat) : Int) := by unfold netR; omega
  have q4 : ∀ t : Nat, sBin .rem .no (.int .i64 (t : Int)) (.int .i64 12) = some (.int .i64 ((t : Int) % 12)) := fun t => sBin_rem (by omega) (by omega)
  have b1 : y % (12 / netN x) ≤ 12 := by unfold netR at r1; omega
  simp (disch := first|(simp only [Nat.reduceBEq,wE];done)|((repeat' (first|assumption|exact mAx _|refine mBx ?_ ?_|exact mCx (by assumption)|refine mDx ?_|refine mEx ?_ ?_ ?_|exact mFx|refine mGx ?_ ?_ ?_|exact mHx|exact mIx _|(simp only [wM,Nat.reduceAdd,Nat.reduceLT,Nat.reduceLeDiff];done)));done)|omega|decide) only [w x hx, w y hy, w z hz, q4, e1, q1, q2, q3, ↓wA,wB,wL,resOf,Nat.reduceBEq,Int.reduceBEq,Int.reduceBNe,Int.reduceLT,Int.reduceLE,Int.reduceAdd,Int.reduceSub,Int.reduceMul,Int.reduceToNat]
  exact ⟨_, rfl, rfl, by (repeat' (first|assumption|exact mAx _|refine mBx ?_ ?_|exact mCx (by assumption)|refine mDx ?_|refine mEx ?_ ?_ ?_|exact mFx|refine mGx ?_ ?_ ?_|exact mHx|exact mIx _|(simp only [wM,Nat.reduceAdd,Nat.reduceLT,Nat.reduceLeDiff];done)))⟩

end Go.Proofs.YtpfkmdbdafpadaaDoor
