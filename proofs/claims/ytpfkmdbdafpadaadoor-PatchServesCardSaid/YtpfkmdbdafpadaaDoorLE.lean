/- PatchServes: Serve answers as the reference, or the errors. -/
import Derived.Test.YtpfkmdbdafpadaaDoorRows
import Derived.Test.YtpfkmdbdafpadaaDoorSA
import Derived.KernelRfl
import Derived.Test.YtpfkmdbdafpadaaDoorDZ
import Derived.Test.YtpfkmdbdafpadaaDoorDS
section
/- The law PatchServes, compiled. -/
set_option linter.unusedVariables false
set_option maxRecDepth 100000
namespace Go.Proofs.YtpfkmdbdafpadaaDoor
open Go Go.Abs
/-- bellpull/bellpulllaw06.PatchServes -/
noncomputable def sf3 : SFun := ⟨[0, 1, 2, 4, 5, 6, 7, 8, 9, 10, 11, 12, 38, 46, 72, 75, 77], 102,
 (.seq
 (.ops [
 ⟨(some 2), none, .box (.t 0)⟩,
 ⟨(some 4), none, .mov (.c (.bool false))⟩] [2, 4])
 (.seq
 (.ops [
 ⟨(some 13), none, .ixA 3 1 (.t 2) (.c (.int .i64 0))⟩,
 ⟨(some 14), none, .load none (.t 13)⟩,
 ⟨(some 15), none, .ixA 3 1 (.t 2) (.c (.int .i64 1))⟩,
 ⟨(some 16), none, .load none (.t 15)⟩,
 ⟨(some 17), none, .ixA 3 1 (.t 2) (.c (.int .i64 2))⟩,
 ⟨(some 18), none, .load none (.t 17)⟩,
 ⟨(some 5), none, .mov (.t 14)⟩,
 ⟨(some 6), none, .mov (.t 16)⟩,
 ⟨(some 7), none, .mov (.t 18)⟩] [5, 6, 7])
 (.seq
 (.ops [
 ⟨(some 19), none, .buildS [(.int .i64 0), (.int .i64 0)] 0 2 []⟩,
 ⟨(some 20), none, .mov (.t 1)⟩,
 ⟨(some 21), none, .mov (.t 1)⟩,
 ⟨(some 22), none, .lenS (.t 21)⟩,
 ⟨(some 23), none, .mn (.t 22) (.c (.int .i64 101))⟩,
 ⟨(some 24), none, .slice 2 (.t 20) none (some (.t 23))⟩,
 ⟨(some 25), none, .app true 2 (.t 19) (.t 24)⟩,
 ⟨(some 8), none, .mov (.t 25)⟩] [8])
 (.seq
 (.ops [
 ⟨(some 27), none, .mov (.t 5)⟩,
 ⟨(some 28), none, .mov (.t 6)⟩,
 ⟨(some 29), none, .mov (.t 7)⟩,
 ⟨(some 30), none, .mov (.t 8)⟩,
 ⟨(some 31), none, .call (.c (.fn (.func 6) [] [])) [(.t 27), (.t 28), (.t 29), (.t 30)]⟩,
 ⟨(some 26), none, .mov (.t 31)⟩,
 ⟨(some 32), none, .ext (.t 26) 0⟩,
 ⟨(some 33), none, .ext (.t 26) 1⟩,
 ⟨(some 9), none, .mov (.t 32)⟩,
 ⟨(some 10), none, .mov (.t 33)⟩] [9, 10])
 (.seq
 (.ops [
 ⟨(some 11), none, .mov (.c (.int .i64 0))⟩] [11])
 (.seq
 (.seq
 (.ops [
 ⟨(some 34), none, .mov (.t 5)⟩,
 ⟨(some 35), none, .mov (.t 6)⟩,
 ⟨(some 36), none, .mov (.t 7)⟩,
 ⟨(some 37), none, .call (.c (.fn (.func 7) [] [])) [(.t 34), (.t 35), (.t 36)]⟩,
 ⟨(some 38), none, .not (.t 37)⟩] [38])
 (.cond (.t 38)
 (.ops [
 ⟨(some 11), none, .mov (.c (.int .i64 1))⟩] [11])
 .skip))
 (.seq
 (.seq
 (.ops [
 ⟨(some 12), none, .mov (.c (.int .i64 0))⟩] [12])
 (.block 0
 (.loop
 (.seq
 (.seq
 (.ops [
 ⟨(some 39), none, .mov (.t 12)⟩,
 ⟨(some 40), none, .mov (.t 8)⟩,
 ⟨(some 41), none, .lenS (.t 40)⟩,
 ⟨(some 42), none, .bin .lss .no (.t 39) (.t 41)⟩,
 ⟨(some 43), none, .mov (.t 42)⟩,
 ⟨(some 44), (some (43, true)), .mov (.t 11)⟩,
 ⟨(some 45), (some (43, true)), .bin .eql .no (.t 44) (.c (.int .i64 0))⟩,
 ⟨(some 46), none, .pick (.t 43) (.t 45) (.c (.bool false))⟩] [46])
 (.cond (.t 46)
 .skip
 (.exit 0)))
 (.seq
 (.block 1
 (.seq
 (.ops [
 ⟨(some 49), none, .mov (.t 8)⟩,
 ⟨(some 50), none, .mov (.t 12)⟩,
 ⟨(some 51), none, .ixS 2 (.t 49) (.t 50)⟩,
 ⟨(some 52), none, .fa 0 (.t 51)⟩,
 ⟨(some 53), none, .load none (.t 52)⟩,
 ⟨(some 54), none, .mov (.t 5)⟩,
 ⟨(some 55), none, .mov (.t 6)⟩,
 ⟨(some 56), none, .bin .mul .no (.t 54) (.t 55)⟩,
 ⟨(some 57), none, .bin .sub .no (.t 56) (.c (.int .i64 1))⟩,
 ⟨(some 58), none, .call (.c (.fn (.func 8) [] [])) [(.t 53), (.c (.int .i64 0)), (.t 57)]⟩,
 ⟨(some 59), none, .not (.t 58)⟩,
 ⟨(some 60), none, .mov (.t 59)⟩,
 ⟨(some 61), (some (60, false)), .mov (.t 8)⟩,
 ⟨(some 62), (some (60, false)), .mov (.t 12)⟩,
 ⟨(some 63), (some (60, false)), .ixS 2 (.t 61) (.t 62)⟩,
 ⟨(some 64), (some (60, false)), .fa 1 (.t 63)⟩,
 ⟨(some 65), (some (60, false)), .load none (.t 64)⟩,
 ⟨(some 66), (some (60, false)), .mov (.t 5)⟩,
 ⟨(some 67), (some (60, false)), .mov (.t 6)⟩,
 ⟨(some 68), (some (60, false)), .bin .mul .no (.t 66) (.t 67)⟩,
 ⟨(some 69), (some (60, false)), .bin .sub .no (.t 68) (.c (.int .i64 1))⟩,
 ⟨(some 70), (some (60, false)), .call (.c (.fn (.func 8) [] [])) [(.t 65), (.c (.int .i64 (-1))), (.t 69)]⟩,
 ⟨(some 71), (some (60, false)), .not (.t 70)⟩,
 ⟨(some 72), none, .pick (.t 60) (.c (.bool true)) (.t 71)⟩] [72])
 (.cond (.t 72)
 (.ops [
 ⟨(some 11), none, .mov (.c (.int .i64 2))⟩] [11])
 .skip)))
 (.ops [
 ⟨(some 47), none, .mov (.t 12)⟩,
 ⟨(some 48), none, .bin .add .no (.t 47) (.c (.int .i64 1))⟩,
 ⟨(some 12), none, .mov (.t 48)⟩] [12]))))))
 (.seq
 (.seq
 (.ops [
 ⟨(some 73), none, .mov (.t 8)⟩,
 ⟨(some 74), none, .lenS (.t 73)⟩,
 ⟨(some 75), none, .bin .gtr .no (.t 74) (.c (.int .i64 100))⟩] [75])
 (.cond (.t 75)
 (.ops [
 ⟨(some 11), none, .mov (.c (.int .i64 3))⟩] [11])
 .skip))
 (.seq
 (.seq
 (.ops [
 ⟨(some 76), none, .mov (.t 11)⟩,
 ⟨(some 77), none, .bin .neq .no (.t 76) (.c (.int .i64 0))⟩] [77])
 (.cond (.t 77)
 (.seq
 (.ops [
 ⟨(some 78), none, .mov (.t 9)⟩,
 ⟨(some 79), none, .lenS (.t 78)⟩,
 ⟨(some 80), none, .bin .eql .no (.t 79) (.c (.int .i64 0))⟩,
 ⟨(some 81), none, .mov (.t 80)⟩,
 ⟨(some 82), (some (81, true)), .mov (.t 10)⟩,
 ⟨(some 83), (some (81, true)), .mov (.t 11)⟩,
 ⟨(some 84), (some (81, true)), .bin .eql .no (.t 82) (.t 83)⟩,
 ⟨(some 85), none, .pick (.t 81) (.t 84) (.c (.bool false))⟩,
 ⟨(some 86), none, .mov (.t 85)⟩,
 ⟨(some 87), (some (86, true)), .call (.c (.fn (.func 9) [] [])) []⟩,
 ⟨(some 88), none, .pick (.t 86) (.t 87) (.c (.bool false))⟩,
 ⟨(some 4), none, .mov (.t 88)⟩] [4])
 .ret)
 .skip))
 (.seq
 (.ops [
 ⟨(some 89), none, .mov (.t 9)⟩,
 ⟨(some 90), none, .mov (.t 5)⟩,
 ⟨(some 91), none, .mov (.t 7)⟩,
 ⟨(some 92), none, .mov (.t 8)⟩,
 ⟨(some 93), none, .call (.c (.fn (.func 11) [] [])) [(.t 90), (.t 91), (.t 92)]⟩,
 ⟨(some 94), none, .call (.c (.fn (.func 10) [] [])) [(.t 89), (.t 93)]⟩,
 ⟨(some 95), none, .mov (.t 94)⟩,
 ⟨(some 96), (some (95, true)), .mov (.t 10)⟩,
 ⟨(some 97), (some (95, true)), .bin .eql .no (.t 96) (.c (.int .i64 0))⟩,
 ⟨(some 98), none, .pick (.t 95) (.t 97) (.c (.bool false))⟩,
 ⟨(some 99), none, .mov (.t 98)⟩,
 ⟨(some 100), (some (99, true)), .call (.c (.fn (.func 9) [] [])) []⟩,
 ⟨(some 101), none, .pick (.t 99) (.t 100) (.c (.bool false))⟩,
 ⟨(some 4), none, .mov (.t 101)⟩] [4])
 .ret)))))))))),
 [.tmp 4]⟩

theorem c3 : compF Tryd.prog 3 = some sf3 := by kernel_rfl
end Go.Proofs.YtpfkmdbdafpadaaDoor
end
section
/- What Serve refuses. -/
set_option linter.unusedSimpArgs false
set_option linter.unusedVariables false
set_option maxHeartbeats 4000000
set_option maxRecDepth 20000
namespace Go.Proofs.YtpfkmdbdafpadaaDoor
open Go Go.Abs Go.Pa

theorem Serve_bad (n r m : Int) (a : AV) (l : List (Int × Int)) (h : Hp) (hk : Hok h) (ha : Pairs h.blks a l) (hl : l.length ≤ 101) (b : Int)
    (he : (100 < l.length ∧ b = 3) ∨ (l.length ≤ 100 ∧ ¬ Clos n r m ∧ b = 1) ∨ (l.length ≤ 100 ∧ Clos n r m ∧ (¬ ∀ p ∈ l, ReqOK (n * r).toNat p) ∧ b = 2)) :
    ∃ v h', Evals Tryd.prog tab false (.func 6) [.int .i64 n, .int .i64 r, .int .i64 m, a] h (v, h') ∧ Grown h h' ∧ v = .tu [.nilsl, .int .i64 b] := by
  refine evals_q c6 (fun v h' => v = .tu [.nilsl, .int .i64 b]) rfl hk ?_ (fun v h1 g q => by
    subst q
    exact ⟨fun _ => rfl, fun _ => rfl⟩)
  simp only [sf6, initS_cons, initS_nil]
  obtain ⟨h1, eh1⟩ : ∃ h1 : Hp, h1 = (h.en.pu [.int .i64 n]).pu [.int .i64 r] := ⟨_, rfl⟩
  have g1 : Grown h h1 := by rw [eh1]; exact Grown.pu (Grown.pu Grown.en rfl) rfl
  have k1 := g1.ok hk
  have a1 := ha.sub (g1.sub hk)
  have b0 : Box h1.blks h.next [.int .i64 n] := by rw [eh1]; exact Box.top.sub (Sub.pu (h := h.en.pu [.int .i64 n]) (Hok.pu hk rfl))
  have b1 : Box h1.blks (h.next + 1) [.int .i64 r] := by rw [eh1]; exact Box.top
  have x1 : sBox (h.en.pu [.int .i64 n]) (.int .i64 r) = some (.ptr (h.next + 1) 0, h1) := by rw [eh1]; rfl
  have CL := f15 n r m h1 k1
  have lr0 : cellB h1.blks h.next 0 = some (.int .i64 n) := b0.ld (Sub.refl _)
  have lr1 : cellB h1.blks (h.next + 1) 0 = some (.int .i64 r) := b1.ld (Sub.refl _)
  clear eh1
  rcases he with ⟨d, rfl⟩ | ⟨d, c, rfl⟩ | ⟨d, c, q, rfl⟩
  · have d1 : decide ((100 : Int) < l.length) = true := decide_eq_true (by omega)
    simp (disch := first|(simp only [Nat.reduceBEq,wE];done)|((repeat' (first|assumption|exact mAx _|refine mBx ?_ ?_|exact mCx (by assumption)|refine mDx ?_|refine mEx ?_ ?_ ?_|exact mFx|refine mGx ?_ ?_ ?_|exact mHx|exact mIx _|(simp only [wM,Nat.reduceAdd,Nat.reduceLT,Nat.reduceLeDiff];done)));done)|omega|decide) only [x1, a1.len, d1, ↓wA,wB,wL,resOf,Nat.reduceBEq,Int.reduceBEq,Int.reduceBNe,Int.reduceLT,Int.reduceLE,Int.reduceAdd,Int.reduceSub,Int.reduceMul,Int.reduceToNat]
    exact ⟨_, rfl, g1, rfl⟩
  · have d1 : decide ((100 : Int) < l.length) = false := decide_eq_false (by omega)
    rw [decide_eq_false c] at CL
    simp (disch := first|(simp only [Nat.reduceBEq,wE];done)|((repeat' (first|assumption|exact mAx _|refine mBx ?_ ?_|exact mCx (by assumption)|refine mDx ?_|refine mEx ?_ ?_ ?_|exact mFx|refine mGx ?_ ?_ ?_|exact mHx|exact mIx _|(simp only [wM,Nat.reduceAdd,Nat.reduceLT,Nat.reduceLeDiff];done)));done)|omega|decide) only [x1, a1.len, d1, lr0, lr1, callT CL, ↓wA,wB,wL,resOf,Nat.reduceBEq,Int.reduceBEq,Int.reduceBNe,Int.reduceLT,Int.reduceLE,Int.reduceAdd,Int.reduceSub,Int.reduceMul,Int.reduceToNat]
    exact ⟨_, rfl, g1, rfl⟩
  · have d1 : decide ((100 : Int) < l.length) = false := decide_eq_false (by omega)
    rw [decide_eq_true c] at CL
    obtain ⟨⟨n0, n1⟩, ⟨r0, r1⟩, w1, m0, m1⟩ := c
    obtain ⟨n, rfl⟩ : ∃ t : Nat, n = t := ⟨n.toNat, by omega⟩
    obtain ⟨r, rfl⟩ : ∃ t : Nat, r = t := ⟨r.toNat, by omega⟩
    have ew : ((n : Int) * (r : Int)) = ((n * r : Nat) : Int) := by simp
    rw [ew] at w1 q
    rw [Int.toNat_natCast] at q
    have cf := f16 a l 17 [.ptr h.next 0, .ptr (h.next + 1) 0] (fun p => !decide (ReqOK (n * r : Nat) p)) h1 k1 a1 (by omega) (fun z _ => f17 z n r h.next (h.next + 1) h1.en k1 (by omega) (by omega) (by omega) b0 b1)
    have any1 : (l.any fun p => !decide (ReqOK (n * r : Nat) p)) = true := by
      rw [List.any_eq_true]
      refine Classical.byContradiction fun hn => q fun p hp => ?_
      refine Classical.byContradiction fun hc => hn ⟨p, hp, ?_⟩
      have hc' : ¬ ReqOK ((n * r : Nat) : Int) p := hc
      rw [decide_eq_false hc']; rfl
    rw [any1] at cf
    simp (disch := first|(simp only [Nat.reduceBEq,wE];done)|((repeat' (first|assumption|exact mAx _|refine mBx ?_ ?_|exact mCx (by assumption)|refine mDx ?_|refine mEx ?_ ?_ ?_|exact mFx|refine mGx ?_ ?_ ?_|exact mHx|exact mIx _|(simp only [wM,Nat.reduceAdd,Nat.reduceLT,Nat.reduceLeDiff];done)));done)|omega|decide) only [x1, a1.len, d1, lr0, lr1, callT CL, callT cf, ↓wA,wB,wL,resOf,Nat.reduceBEq,Int.reduceBEq,Int.reduceBNe,Int.reduceLT,Int.reduceLE,Int.reduceAdd,Int.reduceSub,Int.reduceMul,Int.reduceToNat]
    exact ⟨_, rfl, g1, rfl⟩
end Go.Proofs.YtpfkmdbdafpadaaDoor
end
/- PatchServes: Serve answers as the reference, or the errors. -/
set_option linter.unusedSimpArgs false
set_option linter.unusedVariables false
set_option maxHeartbeats 4000000
set_option maxRecDepth 20000
namespace Go.Pa
open Go Go.Abs
/- What is wrong with the first i requests. -/
def badF (n r m : Int) (E : List (Int × Int)) : Int := if Clos n r m then (if ∀ p ∈ E, ReqOK (n * r) p then 0 else 2) else 1
theorem badF_step {n r m : Int} {E : List (Int × Int)} {i : Nat} (hi : i < E.length) (h0 : badF n r m (E.take i) = 0) : Clos n r m ∧ badF n r m (E.take (i + 1)) = if ReqOK (n * r) (E.getD i (0, 0)) then 0 else 2 := by
  unfold badF at h0 ⊢
  by_cases c : Clos n r m
  · rw [if_pos c] at h0
    refine ⟨c, ?_⟩
    rw [if_pos c]
    by_cases a : ∀ p ∈ E.take i, ReqOK (n * r) p
    · by_cases q : ReqOK (n * r) (E.getD i (0, 0))
      · rw [if_pos q, if_pos]
        rw [take_snocP hi]
        intro p hp
        rcases List.mem_append.1 hp with hp | hp
        · exact a p hp
        · rw [List.mem_singleton.1 hp]; exact q
      · rw [if_neg q, if_neg]
        intro hh
        refine q (hh _ ?_)
        rw [take_snocP hi]
        simp
    · rw [if_neg a] at h0
      omega
  · rw [if_neg c] at h0
    omega
theorem badF_end {n r m : Int} {E : List (Int × Int)} {i : Nat} (h0 : badF n r m (E.take i) ≠ 0) : badF n r m (E.take i) = badF n r m E := by
  unfold badF at h0 ⊢
  by_cases c : Clos n r m
  · rw [if_pos c] at h0
    rw [if_pos c, if_pos c]
    by_cases a : ∀ p ∈ E.take i, ReqOK (n * r) p
    · rw [if_pos a] at h0
      exact absurd rfl h0
    · rw [if_neg a, if_neg fun hh => a fun p hp => hh p (List.mem_of_mem_take hp)]
  · rw [if_neg c, if_neg c]
end Go.Pa
namespace Go.Proofs.YtpfkmdbdafpadaaDoor
open Go Go.Abs Go.Pa

theorem f3 (n r m : Int) (a : AV) (l : List (Int × Int)) (h : Hp) (hk : Hok h)
    (bn : -9223372036854775808 ≤ n ∧ n ≤ 9223372036854775807) (br : -9223372036854775808 ≤ r ∧ r ≤ 9223372036854775807) (bm : -9223372036854775808 ≤ m ∧ m ≤ 9223372036854775807)
    (hx : Pairs h.blks a l) (Sx : l.length ≤ maxLen) :
    ∃ h', Evals Tryd.prog tab false (.func 3) [.ag [.int .i64 n, .int .i64 r, .int .i64 m], a] h (.bool true, h') := by
  have Sx' : l.length < 2 ^ 63 := by have : maxLen = 2 ^ 63 - 1 := rfl; omega
  suffices H : ∃ v h', Evals Tryd.prog tab false (.func 3) [.ag [.int .i64 n, .int .i64 r, .int .i64 m], a] h (v, h') ∧ v = .bool true by
    obtain ⟨v, h', e, rfl⟩ := H
    exact ⟨h', e⟩
  refine evals_func (Q := fun v _ => v = .bool true) c3 rfl ?_
  simp only [sf3, initS_cons, initS_nil]
  obtain ⟨h1, eh1⟩ : ∃ h1 : Hp, h1 = h.en.pu [.int .i64 n, .int .i64 r, .int .i64 m] := ⟨_, rfl⟩
  have g1 : Grown h h1 := by rw [eh1]; exact Grown.pu Grown.en rfl
  have k1 := g1.ok hk
  have bx : Box h1.blks h.next [.int .i64 n, .int .i64 r, .int .i64 m] := by rw [eh1]; exact Box.top
  have x1 : sBox h.en (.ag [.int .i64 n, .int .i64 r, .int .i64 m]) = some (.ptr h.next 0, h1) := by rw [eh1]; rfl
  clear eh1
  have l0 : cellB h1.blks h.next 0 = some (.int .i64 n) := bx.ld (Sub.refl _)
  have l1 : cellB h1.blks h.next 1 = some (.int .i64 r) := bx.ld (Sub.refl _)
  have l2 : cellB h1.blks h.next 2 = some (.int .i64 m) := bx.ld (Sub.refl _)
  have i0 : ∀ h' : Hp, sIxA 3 1 h' (some 0) (.ptr h.next 0) = some (.ptr h.next 0, h') := fun h' => sIxA_ptr (by omega)
  have i1 : ∀ h' : Hp, sIxA 3 1 h' (some 1) (.ptr h.next 0) = some (.ptr h.next 1, h') := fun h' => sIxA_ptr (by omega)
  have i2 : ∀ h' : Hp, sIxA 3 1 h' (some 2) (.ptr h.next 0) = some (.ptr h.next 2, h') := fun h' => sIxA_ptr (by omega)
  have a1 : Pairs h1.blks a l := hx.sub (g1.sub hk)
  have gp : Grown h (h1.pu []) := Grown.pu g1 rfl
  obtain ⟨x', ea, ia⟩ := (a1.sub (Sub.pu k1)).upto (m := min l.length 101) (by omega) (h1.pu [])
  have em : min (l.length : Int) 101 = ((min l.length 101 : Nat) : Int) := by omega
  obtain ⟨E, eE⟩ : ∃ E, E = l.take (min l.length 101) := ⟨_, rfl⟩
  rw [← eE] at ia
  have lE : E.length ≤ 101 := by rw [eE]; simp; omega
  have O : OwnP h.next (h1.pu []).blks (.sl h1.next 0 0 (some 0) 2) [] := OwnP.fresh g1.next rfl rfl rfl (Nat.le_refl _)
  obtain ⟨s1, h2, e2, o2, g2, _⟩ := own_appP (h0 := h) (h := h1.pu []) hk gp O ia (by rw [List.length_nil]; omega)
  rw [List.nil_append] at o2
  have k2 := g2.ok hk
  have SV : ∃ (t : AV) (e : Int) (h3 : Hp), Evals Tryd.prog tab false (.func 6) [.int .i64 n, .int .i64 r, .int .i64 m, s1] h2 (.tu [t, .int .i64 e], h3) ∧ Grown h2 h3 ∧
      ((100 < E.length ∧ e = 3 ∧ t = .nilsl) ∨ (E.length ≤ 100 ∧ e = badF n r m E ∧ ((e ≠ 0 ∧ t = .nilsl) ∨ (e = 0 ∧ ∃ N M w : Nat, n = N ∧ m = M ∧ 0 < N ∧ N ≤ 12 ∧ M ≤ 12 ∧ w ≤ 12 ∧ ReqIn w E ∧ Own h2.next h3.blks .i64 t (serveC N M ([], []) E))))) := by
    by_cases c0 : 100 < E.length
    · obtain ⟨v, h3, e3, g3, rfl⟩ := Serve_bad n r m s1 E h2 k2 o2.pairs lE 3 (.inl ⟨c0, rfl⟩)
      exact ⟨_, _, h3, e3, g3, .inl ⟨c0, rfl, rfl⟩⟩
    · by_cases c1 : Clos n r m
      · have c1' := c1
        obtain ⟨⟨n0, n1⟩, ⟨r0, r1⟩, w1, m0, m1⟩ := c1'
        obtain ⟨N, rfl⟩ : ∃ t : Nat, n = t := ⟨n.toNat, by omega⟩
        obtain ⟨R, rfl⟩ : ∃ t : Nat, r = t := ⟨r.toNat, by omega⟩
        obtain ⟨M, rfl⟩ : ∃ t : Nat, m = t := ⟨m.toNat, by omega⟩
        have ew : ((N : Int) * (R : Int)) = ((N * R : Nat) : Int) := by simp
        by_cases c2 : ∀ p ∈ E, ReqOK ((N : Int) * (R : Int)) p
        · have hin : ReqIn (N * R) E := fun p hp => by
            have := c2 p hp
            rw [ew] at this
            unfold ReqOK at this
            omega
          rw [ew] at w1
          obtain ⟨v, h3, e3, g3, t, rfl, o3⟩ := Serve_ok N R M s1 E h2 k2 o2.pairs (by omega) c1 (by omega) (by omega) (by omega) (by omega) hin
          exact ⟨_, _, h3, e3, g3, .inr ⟨by omega, by unfold badF; rw [if_pos c1, if_pos c2], .inr ⟨rfl, N, M, N * R, rfl, rfl, by omega, by omega, by omega, by omega, hin, o3⟩⟩⟩
        · obtain ⟨v, h3, e3, g3, rfl⟩ := Serve_bad N R M s1 E h2 k2 o2.pairs lE 2 (.inr (.inr ⟨by omega, c1, by rw [Int.toNat_of_nonneg (by omega)]; exact c2, rfl⟩))
          exact ⟨_, _, h3, e3, g3, .inr ⟨by omega, by unfold badF; rw [if_pos c1, if_neg c2], .inl ⟨by omega, rfl⟩⟩⟩
      · obtain ⟨v, h3, e3, g3, rfl⟩ := Serve_bad n r m s1 E h2 k2 o2.pairs lE 1 (.inr (.inl ⟨by omega, c1, rfl⟩))
        exact ⟨_, _, h3, e3, g3, .inr ⟨by omega, by unfold badF; rw [if_neg c1], .inl ⟨by omega, rfl⟩⟩⟩
  obtain ⟨t, e, h3, e3, g3, hS⟩ := SV
  have k3 := g3.ok k2
  have o3 := o2.pairs.sub (g3.sub k2)
  have CL := f7 n r m h3 k3
  have bz : badF n r m [] = (if Clos n r m then 0 else 1) := by
    unfold badF
    by_cases c : Clos n r m <;> simp [c]
  rw [wseq, wseq, wseq, wseq, wseq]
  refine wcut (fun ss => ∃ (z : Int) (u0 u1 u2 u4 u12 u38 u46 u72 u75 u77 : AV), (z = badF n r m (E.take 0)) ∧ ss = { fr := [(0, u0), (1, u1), (2, u2), (4, u4), (5, .int .i64 n), (6, .int .i64 r), (7, .int .i64 m), (8, s1), (9, t), (10, .int .i64 e), (11, .int .i64 z), (12, u12), (38, u38), (46, u46), (72, u72), (75, u75), (77, u77)], hp := h3 }) ?_ ?_
  · by_cases c1 : Clos n r m
    · rw [decide_eq_true c1] at CL
      simp (disch := first|(simp only [Nat.reduceBEq,wE];done)|((repeat' (first|assumption|exact mAx _|refine mBx ?_ ?_|exact mCx (by assumption)|refine mDx ?_|refine mEx ?_ ?_ ?_|exact mFx|refine mGx ?_ ?_ ?_|exact mHx|exact mIx _|(simp only [wM,Nat.reduceAdd,Nat.reduceLT,Nat.reduceLeDiff];done)));done)|omega|decide) only [x1, i0, i1, i2, idx?_lit0, idx?_lit1, l0, l1, l2, a1.len, em, ea, e2, callT e3, callT CL, cutEx_n, ↓wA,wB,wL,resOf,Nat.reduceBEq,Int.reduceBEq,Int.reduceBNe,Int.reduceLT,Int.reduceLE,Int.reduceAdd,Int.reduceSub,Int.reduceMul,Int.reduceToNat]
      exact ⟨0, _, _, _, _, _, _, _, _, _, _, by rw [List.take_zero, bz, if_pos c1], rfl⟩
    · rw [decide_eq_false c1] at CL
      simp (disch := first|(simp only [Nat.reduceBEq,wE];done)|((repeat' (first|assumption|exact mAx _|refine mBx ?_ ?_|exact mCx (by assumption)|refine mDx ?_|refine mEx ?_ ?_ ?_|exact mFx|refine mGx ?_ ?_ ?_|exact mHx|exact mIx _|(simp only [wM,Nat.reduceAdd,Nat.reduceLT,Nat.reduceLeDiff];done)));done)|omega|decide) only [x1, i0, i1, i2, idx?_lit0, idx?_lit1, l0, l1, l2, a1.len, em, ea, e2, callT e3, callT CL, cutEx_n, ↓wA,wB,wL,resOf,Nat.reduceBEq,Int.reduceBEq,Int.reduceBNe,Int.reduceLT,Int.reduceLE,Int.reduceAdd,Int.reduceSub,Int.reduceMul,Int.reduceToNat]
      exact ⟨1, _, _, _, _, _, _, _, _, _, _, by rw [List.take_zero, bz, if_neg c1], rfl⟩
  rintro sK0 ⟨z, u0, u1, u2, u4, u12, u38, u46, u72, u75, u77, ez, rfl⟩
  refine wcut (fun ss => ∃ (z : Int) (u0 u1 u2 u4 u12 u38 u46 u72 u75 u77 : AV), (z = badF n r m E) ∧ ss = { fr := [(0, u0), (1, u1), (2, u2), (4, u4), (5, .int .i64 n), (6, .int .i64 r), (7, .int .i64 m), (8, s1), (9, t), (10, .int .i64 e), (11, .int .i64 z), (12, u12), (38, u38), (46, u46), (72, u72), (75, u75), (77, u77)], hp := h3 }) ?_ ?_
  · simp (disch := first|(simp only [Nat.reduceBEq,wE];done)|((repeat' (first|assumption|exact mAx _|refine mBx ?_ ?_|exact mCx (by assumption)|refine mDx ?_|refine mEx ?_ ?_ ?_|exact mFx|refine mGx ?_ ?_ ?_|exact mHx|exact mIx _|(simp only [wM,Nat.reduceAdd,Nat.reduceLT,Nat.reduceLeDiff];done)));done)|omega|decide) only [↓wA,wB,wL,resOf,Nat.reduceBEq,Int.reduceBEq,Int.reduceBNe,Int.reduceLT,Int.reduceLE,Int.reduceAdd,Int.reduceSub,Int.reduceMul,Int.reduceToNat]
    refine wloop (fun mm ss => ∃ (i : Nat) (z : Int) (u0 u1 u2 u4 u38 u46 u72 u75 u77 : AV), (mm = E.length - i) ∧ (i ≤ E.length ∧ z = badF n r m (E.take i)) ∧ ss = { fr := [(0, u0), (1, u1), (2, u2), (4, u4), (5, .int .i64 n), (6, .int .i64 r), (7, .int .i64 m), (8, s1), (9, t), (10, .int .i64 e), (11, .int .i64 z), (12, .int .i64 i), (38, u38), (46, u46), (72, u72), (75, u75), (77, u77)], hp := h3 }) (E.length) ?_ ?_
    ·
      refine ⟨0, _, _, _, _, _, _, _, _, _, _, by omega, ⟨by omega, ez⟩, rfl⟩
    rintro nA sA ⟨i, z, u0, u1, u2, u4, u38, u46, u72, u75, u77, hnA, ⟨hi, ez2⟩, rfl⟩
    by_cases ci : i < E.length
    · have c1 : decide ((i : Int) < (E.length : Int)) = true := decide_eq_true (by omega)
      by_cases z0 : z = 0
      · have zb : (z == 0) = true := by simpa using z0
        obtain ⟨cc, st⟩ := badF_step ci (by rw [← ez2]; exact z0)
        obtain ⟨⟨n0, n1⟩, ⟨r0, r1⟩, w1, m0, m1⟩ := cc
        obtain ⟨w, ew⟩ : ∃ w, n * r = w := ⟨_, rfl⟩
        have w0 : 0 ≤ w := by rw [← ew]; exact Int.mul_nonneg (by omega) (by omega)
        rw [ew] at w1 st
        have IN1 := f8 (E.getD i (0, 0)).1 0 (w - 1) h3 k3
        have IN2 := f8 (E.getD i (0, 0)).2 (-1) (w - 1) h3 k3
        by_cases q1 : 0 ≤ (E.getD i (0, 0)).1 ∧ (E.getD i (0, 0)).1 ≤ w - 1
        · rw [decide_eq_true q1] at IN1
          by_cases q2 : -1 ≤ (E.getD i (0, 0)).2 ∧ (E.getD i (0, 0)).2 ≤ w - 1
          · rw [decide_eq_true q2] at IN2
            simp (disch := first|(simp only [Nat.reduceBEq,wE];done)|((repeat' (first|assumption|exact mAx _|refine mBx ?_ ?_|exact mCx (by assumption)|refine mDx ?_|refine mEx ?_ ?_ ?_|exact mFx|refine mGx ?_ ?_ ?_|exact mHx|exact mIx _|(simp only [wM,Nat.reduceAdd,Nat.reduceLT,Nat.reduceLeDiff];done)));done)|omega|decide) only [o3.len, c1, zb, o3.ix, o3.fa, o3.ld0, o3.ld1, ew, callT IN1, callT IN2, ↓wA,wB,wL,resOf,Nat.reduceBEq,Int.reduceBEq,Int.reduceBNe,Int.reduceLT,Int.reduceLE,Int.reduceAdd,Int.reduceSub,Int.reduceMul,Int.reduceToNat]
            refine ⟨_, ?_, i + 1, z, _, _, _, _, _, _, _, _, _, rfl, ?_, rfl⟩
            · omega
            refine ⟨by omega, ?_⟩
            rw [st, if_pos (by unfold ReqOK; omega), z0]
          · rw [decide_eq_false q2] at IN2
            simp (disch := first|(simp only [Nat.reduceBEq,wE];done)|((repeat' (first|assumption|exact mAx _|refine mBx ?_ ?_|exact mCx (by assumption)|refine mDx ?_|refine mEx ?_ ?_ ?_|exact mFx|refine mGx ?_ ?_ ?_|exact mHx|exact mIx _|(simp only [wM,Nat.reduceAdd,Nat.reduceLT,Nat.reduceLeDiff];done)));done)|omega|decide) only [o3.len, c1, zb, o3.ix, o3.fa, o3.ld0, o3.ld1, ew, callT IN1, callT IN2, ↓wA,wB,wL,resOf,Nat.reduceBEq,Int.reduceBEq,Int.reduceBNe,Int.reduceLT,Int.reduceLE,Int.reduceAdd,Int.reduceSub,Int.reduceMul,Int.reduceToNat]
            refine ⟨_, ?_, i + 1, 2, _, _, _, _, _, _, _, _, _, rfl, ?_, rfl⟩
            · omega
            refine ⟨by omega, ?_⟩
            rw [st, if_neg (by unfold ReqOK; omega)]
        · rw [decide_eq_false q1] at IN1
          simp (disch := first|(simp only [Nat.reduceBEq,wE];done)|((repeat' (first|assumption|exact mAx _|refine mBx ?_ ?_|exact mCx (by assumption)|refine mDx ?_|refine mEx ?_ ?_ ?_|exact mFx|refine mGx ?_ ?_ ?_|exact mHx|exact mIx _|(simp only [wM,Nat.reduceAdd,Nat.reduceLT,Nat.reduceLeDiff];done)));done)|omega|decide) only [o3.len, c1, zb, o3.ix, o3.fa, o3.ld0, o3.ld1, ew, callT IN1, ↓wA,wB,wL,resOf,Nat.reduceBEq,Int.reduceBEq,Int.reduceBNe,Int.reduceLT,Int.reduceLE,Int.reduceAdd,Int.reduceSub,Int.reduceMul,Int.reduceToNat]
          refine ⟨_, ?_, i + 1, 2, _, _, _, _, _, _, _, _, _, rfl, ?_, rfl⟩
          · omega
          refine ⟨by omega, ?_⟩
          rw [st, if_neg (by unfold ReqOK; omega)]
      · have zb : (z == 0) = false := by simpa using z0
        simp (disch := first|(simp only [Nat.reduceBEq,wE];done)|((repeat' (first|assumption|exact mAx _|refine mBx ?_ ?_|exact mCx (by assumption)|refine mDx ?_|refine mEx ?_ ?_ ?_|exact mFx|refine mGx ?_ ?_ ?_|exact mHx|exact mIx _|(simp only [wM,Nat.reduceAdd,Nat.reduceLT,Nat.reduceLeDiff];done)));done)|omega|decide) only [o3.len, c1, zb, cutEx_n, ↓wA,wB,wL,resOf,Nat.reduceBEq,Int.reduceBEq,Int.reduceBNe,Int.reduceLT,Int.reduceLE,Int.reduceAdd,Int.reduceSub,Int.reduceMul,Int.reduceToNat]
        exact ⟨z, _, _, _, _, _, _, _, _, _, _, by rw [ez2, badF_end (by rw [← ez2]; exact z0)], rfl⟩
    · have c1 : decide ((i : Int) < (E.length : Int)) = false := decide_eq_false (by omega)
      simp (disch := first|(simp only [Nat.reduceBEq,wE];done)|((repeat' (first|assumption|exact mAx _|refine mBx ?_ ?_|exact mCx (by assumption)|refine mDx ?_|refine mEx ?_ ?_ ?_|exact mFx|refine mGx ?_ ?_ ?_|exact mHx|exact mIx _|(simp only [wM,Nat.reduceAdd,Nat.reduceLT,Nat.reduceLeDiff];done)));done)|omega|decide) only [o3.len, c1, cutEx_n, ↓wA,wB,wL,resOf,Nat.reduceBEq,Int.reduceBEq,Int.reduceBNe,Int.reduceLT,Int.reduceLE,Int.reduceAdd,Int.reduceSub,Int.reduceMul,Int.reduceToNat]
      exact ⟨z, _, _, _, _, _, _, _, _, _, _, by rw [ez2, List.take_of_length_le (by omega)], rfl⟩
  rintro sK1 ⟨z, u0, u1, u2, u4, u12, u38, u46, u72, u75, u77, ez1, rfl⟩
  rcases hS with ⟨c0, rfl, rfl⟩ | ⟨c0, ee, ⟨e0, rfl⟩ | ⟨rfl, N, M, w, rfl, rfl, n0, n1, m1, hw, hin, o4⟩⟩
  · have d1 : decide ((100 : Int) < (E.length : Int)) = true := decide_eq_true (by omega)
    simp (disch := first|(simp only [Nat.reduceBEq,wE];done)|((repeat' (first|assumption|exact mAx _|refine mBx ?_ ?_|exact mCx (by assumption)|refine mDx ?_|refine mEx ?_ ?_ ?_|exact mFx|refine mGx ?_ ?_ ?_|exact mHx|exact mIx _|(simp only [wM,Nat.reduceAdd,Nat.reduceLT,Nat.reduceLeDiff];done)));done)|omega|decide) only [o3.len, d1, callT (lives_ev _), ↓wA,wB,wL,resOf,Nat.reduceBEq,Int.reduceBEq,Int.reduceBNe,Int.reduceLT,Int.reduceLE,Int.reduceAdd,Int.reduceSub,Int.reduceMul,Int.reduceToNat]
    exact ⟨_, rfl, rfl⟩
  · have d1 : decide ((100 : Int) < (E.length : Int)) = false := decide_eq_false (by omega)
    have ze : z = e := by rw [ez1, ee]
    rw [ze]
    have zb : (e != 0) = true := by simpa using e0
    simp (disch := first|(simp only [Nat.reduceBEq,wE];done)|((repeat' (first|assumption|exact mAx _|refine mBx ?_ ?_|exact mCx (by assumption)|refine mDx ?_|refine mEx ?_ ?_ ?_|exact mFx|refine mGx ?_ ?_ ?_|exact mHx|exact mIx _|(simp only [wM,Nat.reduceAdd,Nat.reduceLT,Nat.reduceLeDiff];done)));done)|omega|decide) only [o3.len, d1, zb, callT (lives_ev _), ↓wA,wB,wL,resOf,Nat.reduceBEq,Int.reduceBEq,Int.reduceBNe,Int.reduceLT,Int.reduceLE,Int.reduceAdd,Int.reduceSub,Int.reduceMul,Int.reduceToNat]
    exact ⟨_, rfl, rfl⟩
  · have d1 : decide ((100 : Int) < (E.length : Int)) = false := decide_eq_false (by omega)
    have ze : z = 0 := by rw [ez1, ← ee]
    rw [ze]
    obtain ⟨v, h4, e4, g4, o5⟩ := f11 N M w s1 E h3 k3 o3 c0 ⟨n0, n1⟩ m1 hw hin
    have k4 := g4.ok k3
    have SM := f10 t v _ _ h4 k4 (o4.ints.sub (g4.sub k3)) o5.ints (by rw [serveC_len]; omega) (by rw [serveC_len]; omega)
    rw [decide_eq_true rfl] at SM
    simp (disch := first|(simp only [Nat.reduceBEq,wE];done)|((repeat' (first|assumption|exact mAx _|refine mBx ?_ ?_|exact mCx (by assumption)|refine mDx ?_|refine mEx ?_ ?_ ?_|exact mFx|refine mGx ?_ ?_ ?_|exact mHx|exact mIx _|(simp only [wM,Nat.reduceAdd,Nat.reduceLT,Nat.reduceLeDiff];done)));done)|omega|decide) only [o3.len, d1, callT e4, callT SM, callT (lives_ev _), ↓wA,wB,wL,resOf,Nat.reduceBEq,Int.reduceBEq,Int.reduceBNe,Int.reduceLT,Int.reduceLE,Int.reduceAdd,Int.reduceSub,Int.reduceMul,Int.reduceToNat]
    exact ⟨_, rfl, rfl⟩
end Go.Proofs.YtpfkmdbdafpadaaDoor
