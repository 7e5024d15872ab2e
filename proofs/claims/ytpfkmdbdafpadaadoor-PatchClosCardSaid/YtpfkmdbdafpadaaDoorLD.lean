/- PatchClos: a strict network never blocks; with fewer middle switches than inputs of a switch the last of its requests is blocked. -/
import Derived.Test.YtpfkmdbdafpadaaDoorRows
import Derived.Test.YtpfkmdbdafpadaaDoorSA
import Derived.KernelRfl
import Derived.Test.YtpfkmdbdafpadaaDoorDZ
import Derived.Test.YtpfkmdbdafpadaaDoorPK
import Derived.Test.YtpfkmdbdafpadaaDoorPP
set_option linter.unusedSimpArgs false
set_option linter.unusedVariables false
set_option maxHeartbeats 4000000
set_option maxRecDepth 20000
section
set_option maxRecDepth 100000
namespace Go.Proofs.YtpfkmdbdafpadaaDoor
open Go Go.Abs
/-- bellpull/bellpulllaw06.PatchClos -/
noncomputable def sf4 : SFun := ⟨[0, 1, 2, 4, 5, 6, 7, 8, 9, 10, 11, 12, 13, 14, 15, 16, 17, 39, 99, 103], 145,
 (.seq
 (.ops [
 ⟨(some 2), none, .box (.t 0)⟩,
 ⟨(some 4), none, .mov (.c (.bool false))⟩] [2, 4])
 (.seq
 (.ops [
 ⟨(some 19), none, .load (some 3) (.t 2)⟩,
 ⟨(some 20), none, .call (.c (.fn (.func 12) [] [])) [(.t 19)]⟩,
 ⟨(some 18), none, .mov (.t 20)⟩,
 ⟨(some 21), none, .ext (.t 18) 0⟩,
 ⟨(some 22), none, .ext (.t 18) 1⟩,
 ⟨(some 23), none, .ext (.t 18) 2⟩,
 ⟨(some 5), none, .mov (.t 21)⟩,
 ⟨(some 6), none, .mov (.t 22)⟩,
 ⟨(some 7), none, .mov (.t 23)⟩] [5, 6, 7])
 (.seq
 (.ops [
 ⟨(some 25), none, .mov (.t 5)⟩,
 ⟨(some 26), none, .mov (.t 6)⟩,
 ⟨(some 27), none, .mov (.t 7)⟩,
 ⟨(some 28), none, .call (.c (.fn (.func 13) [] [])) [(.t 25), (.t 26), (.t 27)]⟩,
 ⟨(some 24), none, .mov (.t 28)⟩,
 ⟨(some 29), none, .ext (.t 24) 0⟩,
 ⟨(some 30), none, .ext (.t 24) 1⟩,
 ⟨(some 8), none, .mov (.t 29)⟩,
 ⟨(some 9), none, .mov (.t 30)⟩] [8, 9])
 (.seq
 (.ops [
 ⟨(some 31), none, .buildS [(.int .i64 0), (.int .i64 0)] 0 2 []⟩,
 ⟨(some 10), none, .mov (.t 31)⟩] [10])
 (.seq
 (.seq
 (.ops [
 ⟨(some 11), none, .mov (.c (.int .i64 0))⟩] [11])
 (.block 0
 (.loop
 (.seq
 (.seq
 (.ops [
 ⟨(some 32), none, .mov (.t 11)⟩,
 ⟨(some 33), none, .mov (.t 1)⟩,
 ⟨(some 34), none, .lenS (.t 33)⟩,
 ⟨(some 35), none, .bin .lss .no (.t 32) (.t 34)⟩,
 ⟨(some 36), none, .mov (.t 35)⟩,
 ⟨(some 37), (some (36, true)), .mov (.t 11)⟩,
 ⟨(some 38), (some (36, true)), .bin .lss .no (.t 37) (.c (.int .i64 100))⟩,
 ⟨(some 39), none, .pick (.t 36) (.t 38) (.c (.bool false))⟩] [39])
 (.cond (.t 39)
 .skip
 (.exit 0)))
 (.seq
 (.block 1
 (.draw [
 ⟨⟨(some 42), none, .mov (.t 10)⟩, false, false⟩,
 ⟨⟨(some 43), none, .mov (.t 1)⟩, false, false⟩,
 ⟨⟨(some 44), none, .mov (.t 11)⟩, false, false⟩,
 ⟨⟨(some 45), none, .ixS 2 (.t 43) (.t 44)⟩, false, false⟩,
 ⟨⟨(some 46), none, .ixA 2 1 (.t 45) (.c (.int .i64 0))⟩, false, false⟩,
 ⟨⟨(some 47), none, .load none (.t 46)⟩, true, false⟩,
 ⟨⟨(some 48), none, .conv .i64 (.t 47)⟩, false, false⟩,
 ⟨⟨(some 49), none, .mov (.t 5)⟩, false, false⟩,
 ⟨⟨(some 50), none, .mov (.t 6)⟩, false, false⟩,
 ⟨⟨(some 51), none, .bin .mul .no (.t 49) (.t 50)⟩, false, false⟩,
 ⟨⟨(some 52), none, .bin .rem .no (.t 48) (.t 51)⟩, false, false⟩,
 ⟨⟨(some 53), none, .mov (.t 1)⟩, false, false⟩,
 ⟨⟨(some 54), none, .mov (.t 11)⟩, false, false⟩,
 ⟨⟨(some 55), none, .ixS 2 (.t 53) (.t 54)⟩, false, false⟩,
 ⟨⟨(some 56), none, .ixA 2 1 (.t 55) (.c (.int .i64 1))⟩, false, false⟩,
 ⟨⟨(some 57), none, .load none (.t 56)⟩, true, false⟩,
 ⟨⟨(some 58), none, .conv .i64 (.t 57)⟩, false, false⟩,
 ⟨⟨(some 59), none, .mov (.t 5)⟩, false, false⟩,
 ⟨⟨(some 60), none, .mov (.t 6)⟩, false, false⟩,
 ⟨⟨(some 61), none, .bin .mul .no (.t 59) (.t 60)⟩, false, false⟩,
 ⟨⟨(some 62), none, .bin .add .no (.t 61) (.c (.int .i64 1))⟩, false, false⟩,
 ⟨⟨(some 63), none, .bin .rem .no (.t 58) (.t 62)⟩, false, false⟩,
 ⟨⟨(some 64), none, .bin .sub .no (.t 63) (.c (.int .i64 1))⟩, false, false⟩,
 ⟨⟨(some 65), none, .build [(.int .i64 0), (.int .i64 0)] [(0, 1), (1, 1)] [(0, (.t 52)), (1, (.t 64))]⟩, false, false⟩,
 ⟨⟨(some 66), none, .buildS [(.int .i64 0), (.int .i64 0)] 1 2 [(0, (.t 65))]⟩, false, true⟩,
 ⟨⟨(some 67), none, .app true 2 (.t 42) (.t 66)⟩, false, true⟩,
 ⟨⟨(some 10), none, .mov (.t 67)⟩, false, false⟩] [0, 0, 0, 6, 14, 30, 62, 0, 0, 384, 1022, 0, 0, 6144, 14336, 30720, 63488, 0, 0, 393216, 917504, 2095104, 4192256, 8388606, 16777214, 33554431, 67108863] [10]))
 (.ops [
 ⟨(some 40), none, .mov (.t 11)⟩,
 ⟨(some 41), none, .bin .add .no (.t 40) (.c (.int .i64 1))⟩,
 ⟨(some 11), none, .mov (.t 41)⟩] [11]))))))
 (.seq
 (.ops [
 ⟨(some 69), none, .mov (.t 5)⟩,
 ⟨(some 70), none, .mov (.t 6)⟩,
 ⟨(some 71), none, .mov (.t 7)⟩,
 ⟨(some 72), none, .mov (.t 10)⟩,
 ⟨(some 73), none, .call (.c (.fn (.func 6) [] [])) [(.t 69), (.t 70), (.t 71), (.t 72)]⟩,
 ⟨(some 68), none, .mov (.t 73)⟩,
 ⟨(some 74), none, .ext (.t 68) 0⟩,
 ⟨(some 75), none, .ext (.t 68) 1⟩,
 ⟨(some 12), none, .mov (.t 74)⟩,
 ⟨(some 13), none, .mov (.t 75)⟩] [12, 13])
 (.seq
 (.seq
 (.ops [
 ⟨(some 76), none, .mov (.t 9)⟩,
 ⟨(some 77), none, .bin .neq .no (.t 76) (.c (.int .i64 0))⟩,
 ⟨(some 78), none, .mov (.t 77)⟩,
 ⟨(some 79), (some (78, false)), .mov (.t 13)⟩,
 ⟨(some 80), (some (78, false)), .bin .neq .no (.t 79) (.c (.int .i64 0))⟩,
 ⟨(some 81), none, .pick (.t 78) (.c (.bool true)) (.t 80)⟩,
 ⟨(some 82), none, .mov (.t 81)⟩,
 ⟨(some 83), (some (82, false)), .mov (.t 12)⟩,
 ⟨(some 84), (some (82, false)), .lenS (.t 83)⟩,
 ⟨(some 85), (some (82, false)), .mov (.t 10)⟩,
 ⟨(some 86), (some (82, false)), .lenS (.t 85)⟩,
 ⟨(some 87), (some (82, false)), .bin .neq .no (.t 84) (.t 86)⟩,
 ⟨(some 88), none, .pick (.t 82) (.c (.bool true)) (.t 87)⟩,
 ⟨(some 89), none, .mov (.t 88)⟩,
 ⟨(some 90), (some (89, false)), .mov (.t 8)⟩,
 ⟨(some 91), (some (89, false)), .mov (.t 90)⟩,
 ⟨(some 92), (some (91, true)), .mov (.t 12)⟩,
 ⟨(some 93), (some (91, true)), .call (.c (.fn (.func 14) [] [])) [(.t 92), (.c (.int .i64 (-1)))]⟩,
 ⟨(some 94), (some (89, false)), .pick (.t 91) (.t 93) (.c (.bool false))⟩,
 ⟨(some 95), none, .pick (.t 89) (.c (.bool true)) (.t 94)⟩,
 ⟨(some 96), none, .mov (.t 95)⟩,
 ⟨(some 97), (some (96, false)), .call (.c (.fn (.func 9) [] [])) []⟩,
 ⟨(some 98), (some (96, false)), .not (.t 97)⟩,
 ⟨(some 99), none, .pick (.t 96) (.c (.bool true)) (.t 98)⟩] [99])
 (.cond (.t 99)
 (.seq
 (.ops [
 ⟨(some 4), none, .mov (.c (.bool false))⟩] [4])
 .ret)
 .skip))
 (.seq
 (.ops [
 ⟨(some 100), none, .buildS [(.int .i64 0), (.int .i64 0)] 0 2 []⟩,
 ⟨(some 14), none, .mov (.t 100)⟩] [14])
 (.seq
 (.seq
 (.ops [
 ⟨(some 15), none, .mov (.c (.int .i64 0))⟩] [15])
 (.block 2
 (.loop
 (.seq
 (.seq
 (.ops [
 ⟨(some 101), none, .mov (.t 15)⟩,
 ⟨(some 102), none, .mov (.t 5)⟩,
 ⟨(some 103), none, .bin .lss .no (.t 101) (.t 102)⟩] [103])
 (.cond (.t 103)
 .skip
 (.exit 2)))
 (.seq
 (.block 3
 (.ops [
 ⟨(some 106), none, .mov (.t 14)⟩,
 ⟨(some 107), none, .mov (.t 15)⟩,
 ⟨(some 108), none, .mov (.t 5)⟩,
 ⟨(some 109), none, .mov (.t 6)⟩,
 ⟨(some 110), none, .bin .mul .no (.t 108) (.t 109)⟩,
 ⟨(some 111), none, .bin .sub .no (.t 110) (.c (.int .i64 1))⟩,
 ⟨(some 112), none, .mov (.t 15)⟩,
 ⟨(some 113), none, .bin .sub .no (.t 111) (.t 112)⟩,
 ⟨(some 114), none, .build [(.int .i64 0), (.int .i64 0)] [(0, 1), (1, 1)] [(0, (.t 107)), (1, (.t 113))]⟩,
 ⟨(some 115), none, .buildS [(.int .i64 0), (.int .i64 0)] 1 2 [(0, (.t 114))]⟩,
 ⟨(some 116), none, .app true 2 (.t 106) (.t 115)⟩,
 ⟨(some 14), none, .mov (.t 116)⟩] [14]))
 (.ops [
 ⟨(some 104), none, .mov (.t 15)⟩,
 ⟨(some 105), none, .bin .add .no (.t 104) (.c (.int .i64 1))⟩,
 ⟨(some 15), none, .mov (.t 105)⟩] [15]))))))
 (.seq
 (.ops [
 ⟨(some 118), none, .mov (.t 5)⟩,
 ⟨(some 119), none, .mov (.t 6)⟩,
 ⟨(some 120), none, .mov (.t 7)⟩,
 ⟨(some 121), none, .mov (.t 14)⟩,
 ⟨(some 122), none, .call (.c (.fn (.func 6) [] [])) [(.t 118), (.t 119), (.t 120), (.t 121)]⟩,
 ⟨(some 117), none, .mov (.t 122)⟩,
 ⟨(some 123), none, .ext (.t 117) 0⟩,
 ⟨(some 124), none, .ext (.t 117) 1⟩,
 ⟨(some 16), none, .mov (.t 123)⟩,
 ⟨(some 17), none, .mov (.t 124)⟩] [16, 17])
 (.seq
 (.ops [
 ⟨(some 125), none, .mov (.t 17)⟩,
 ⟨(some 126), none, .bin .eql .no (.t 125) (.c (.int .i64 0))⟩,
 ⟨(some 127), none, .mov (.t 126)⟩,
 ⟨(some 128), (some (127, true)), .mov (.t 16)⟩,
 ⟨(some 129), (some (127, true)), .lenS (.t 128)⟩,
 ⟨(some 130), (some (127, true)), .mov (.t 5)⟩,
 ⟨(some 131), (some (127, true)), .bin .eql .no (.t 129) (.t 130)⟩,
 ⟨(some 132), none, .pick (.t 127) (.t 131) (.c (.bool false))⟩,
 ⟨(some 133), none, .mov (.t 132)⟩,
 ⟨(some 134), (some (133, true)), .mov (.t 16)⟩,
 ⟨(some 135), (some (133, true)), .mov (.t 5)⟩,
 ⟨(some 136), (some (133, true)), .bin .sub .no (.t 135) (.c (.int .i64 1))⟩,
 ⟨(some 137), (some (133, true)), .ixS 1 (.t 134) (.t 136)⟩,
 ⟨(some 138), (some (133, true)), .load none (.t 137)⟩,
 ⟨(some 139), (some (133, true)), .bin .eql .no (.t 138) (.c (.int .i64 (-1)))⟩,
 ⟨(some 140), (some (133, true)), .mov (.t 7)⟩,
 ⟨(some 141), (some (133, true)), .mov (.t 5)⟩,
 ⟨(some 142), (some (133, true)), .bin .lss .no (.t 140) (.t 141)⟩,
 ⟨(some 143), (some (133, true)), .bin .eql .bool (.t 139) (.t 142)⟩,
 ⟨(some 144), none, .pick (.t 133) (.t 143) (.c (.bool false))⟩,
 ⟨(some 4), none, .mov (.t 144)⟩] [4])
 .ret))))))))))),
 [.tmp 4]⟩

theorem c4 : compF Tryd.prog 4 = some sf4 := by kernel_rfl
end Go.Proofs.YtpfkmdbdafpadaaDoor
end
namespace Go.Pa
open Go Go.Abs
/- Requests out of pairs of bytes. -/
def mkR (w : Nat) (p : Int × Int) : Int × Int := (p.1 % (w : Int), p.2 % ((w : Int) + 1) - 1)
theorem mkR_in {w : Nat} (hw : 0 < w) {l : List (Int × Int)} : ReqIn w (l.map (mkR w)) := fun p hp => by
  obtain ⟨q, _, rfl⟩ := List.mem_map.1 hp
  have h1 := Int.emod_nonneg q.1 (show (w : Int) ≠ 0 by omega)
  have h2 := Int.emod_lt_of_pos q.1 (show (0 : Int) < w by omega)
  have h3 := Int.emod_nonneg q.2 (show (w : Int) + 1 ≠ 0 by omega)
  have h4 := Int.emod_lt_of_pos q.2 (show (0 : Int) < (w : Int) + 1 by omega)
  simp only [mkR]
  omega
/- The requests of one ingress switch. -/
def fstR (w i : Nat) : Int × Int := ((i : Int), ((w - 1 - i : Nat) : Int))
def fstL (w n : Nat) : List (Int × Int) := (List.range n).map (fstR w)
theorem fstL_len {w n : Nat} : (fstL w n).length = n := by simp [fstL]
theorem fstL_succ {w n : Nat} : fstL w (n + 1) = fstL w n ++ [fstR w n] := by simp [fstL, List.range_succ]
theorem fstL_in {w n : Nat} (h : n ≤ w) : ReqIn w (fstL w n) := fun p hp => by
  obtain ⟨i, hi, rfl⟩ := List.mem_map.1 hp
  have := List.mem_range.1 hi
  simp only [fstR]
  omega
/- The board after the first ones. -/
def fstB (w k : Nat) : Bd := (fstL w k, ofN (List.range k))
theorem fst_step {n w m i : Nat} (hn : n ≤ w) (hi : i < n) : stepC n m (fstB w (min i m)) (fstR w i) = ((if i < m then (i : Int) else -1), fstB w (min (i + 1) m)) := by
  have hne : (fstR w i).2 ≠ -1 := by simp only [fstR]; omega
  have lk : (fstL w (min i m)).length = min i m := fstL_len
  have no : ¬ (fstB w (min i m)).1.any (fun c => decide (c.1 = (fstR w i).1) || decide (c.2 = (fstR w i).2)) = true := fun h => by
    obtain ⟨c, hc, h⟩ := List.any_eq_true.1 h
    obtain ⟨j, hj, rfl⟩ := List.mem_map.1 hc
    have := List.mem_range.1 hj
    simp only [fstR, Bool.or_eq_true] at h
    rcases h with h | h
    · have := of_decide_eq_true h; omega
    · have := of_decide_eq_true h; omega
  have zat : ∀ j, j < min i m → cl (ofN (List.range (min i m))) j = (j : Int) := fun j hj => by
    simp [cl, ofN, List.getD_eq_getElem?_getD, hj]
  have eat : ∀ j, j < min i m → (eg ((fstL w (min i m)).map (eOf n)) j).1 = 0 := fun j hj => by
    have : eg ((fstL w (min i m)).map (eOf n)) j = eOf n (fstR w j) := by
      simp [eg, fstL, List.getD_eq_getElem?_getD, hj]
    rw [this]
    simp only [eOf, fstR]
    exact Int.ediv_eq_zero_of_lt (by omega) (by omega)
  have ep : (eOf n (fstR w i)).1 = 0 := by
    simp only [eOf, fstR]
    exact Int.ediv_eq_zero_of_lt (by omega) (by omega)
  have fr : ∀ k : Nat, Fr ((fstL w (min i m)).map (eOf n)) (ofN (List.range (min i m))) (k : Int) (eOf n (fstR w i)) ↔ min i m ≤ k := fun k => by
    have lz : (ofN (List.range (min i m))).length = min i m := by rw [ofN_len, List.length_range]
    constructor
    · intro h
      refine Classical.byContradiction fun hk => h k (by omega) ⟨zat k (by omega), .inl ?_⟩
      rw [eat k (by omega), ep]
    · intro hk j hj
      rw [lz] at hj
      rw [zat j hj]
      intro h
      omega
  have ls : least ((fstL w (min i m)).map (eOf n)) (ofN (List.range (min i m))) (eOf n (fstR w i)) m = if i < m then some i else none := by
    by_cases c : i < m
    · rw [if_pos c]
      refine firstS_hit (j := i) (by omega) (by omega) (fun k _ hk => ?_) ?_
      · rw [if_neg fun h => by have := (fr k).1 h; omega]
      · rw [if_pos ((fr i).2 (by omega))]
    · rw [if_neg c]
      refine firstS_none fun k _ hk => ?_
      rw [if_neg fun h => by have := (fr k).1 h; omega]
  unfold stepC
  rw [if_neg hne, if_neg no]
  simp only [fstB] at ls ⊢
  rw [ls]
  by_cases c : i < m
  · rw [if_pos c, if_pos c, show min i m = i by omega, show min (i + 1) m = i + 1 by omega]
    simp only
    rw [fstL_succ, List.range_succ]
    simp [ofN]
  · rw [if_neg c, if_neg c, show min i m = m by omega, show min (i + 1) m = m by omega]
theorem fst_run {n w m : Nat} (hn : n ≤ w) : ∀ i, i ≤ n → runB n m ([], []) (fstL w i) = fstB w (min i m) ∧ serveC n m ([], []) (fstL w i) = (List.range i).map fun j : Nat => if j < m then (j : Int) else -1
  | 0, _ => by
    have : min 0 m = 0 := by omega
    rw [this]
    exact ⟨rfl, rfl⟩
  | i + 1, hi => by
    obtain ⟨h1, h2⟩ := fst_run (m := m) hn i (by omega)
    have st := fst_step (m := m) hn (show i < n by omega)
    rw [fstL_succ, runB_app, serveC_app, h1, h2, List.range_succ, List.map_append]
    simp only [runB, serveC, st]
    constructor <;> first | trivial | rfl | simp
end Go.Pa
namespace Go.Proofs.YtpfkmdbdafpadaaDoor
open Go Go.Abs Go.Pa

theorem f4 (x y z : Int) (a : AV) (l : List (Int × Int)) (h : Hp) (hk : Hok h) (bx : 0 ≤ x ∧ x ≤ 255) (by' : 0 ≤ y ∧ y ≤ 255) (bz : 0 ≤ z ∧ z ≤ 255)
    (ha : Pairs8 h.blks a l) (Ba : ∀ p ∈ l, 0 ≤ p.1 ∧ p.1 ≤ 255 ∧ 0 ≤ p.2 ∧ p.2 ≤ 255) (Sa : l.length ≤ maxLen) :
    ∃ h', Evals Tryd.prog tab false (.func 4) [.ag [.int .u8 x, .int .u8 y, .int .u8 z], a] h (.bool true, h') := by
  have Sa' : l.length < 2 ^ 63 := by have : maxLen = 2 ^ 63 - 1 := rfl; omega
  obtain ⟨x, rfl⟩ : ∃ t : Nat, x = t := ⟨x.toNat, by omega⟩
  obtain ⟨y, rfl⟩ : ∃ t : Nat, y = t := ⟨y.toNat, by omega⟩
  obtain ⟨z, rfl⟩ : ∃ t : Nat, z = t := ⟨z.toNat, by omega⟩
  suffices H : ∃ v h', Evals Tryd.prog tab false (.func 4) [.ag [.int .u8 x, .int .u8 y, .int .u8 z], a] h (v, h') ∧ v = .bool true by
    obtain ⟨v, h', e, rfl⟩ := H
    exact ⟨h', e⟩
  refine evals_func (Q := fun v _ => v = .bool true) c4 rfl ?_
  simp only [sf4, initS_cons, initS_nil]
  obtain ⟨h1, eh1⟩ : ∃ h1 : Hp, h1 = h.en.pu [.int .u8 x, .int .u8 y, .int .u8 z] := ⟨_, rfl⟩
  have g1 : Grown h h1 := by rw [eh1]; exact Grown.pu Grown.en rfl
  have k1 := g1.ok hk
  have a1 : aggB h1.blks h.next 0 3 = some (.ag [.int .u8 x, .int .u8 y, .int .u8 z]) := by rw [eh1]; exact aggB_hit
  have x1 : sBox h.en (.ag [.int .u8 x, .int .u8 y, .int .u8 z]) = some (.ptr h.next 0, h1) := by rw [eh1]; rfl
  clear eh1
  have N := f12 x y z h1 k1 (by omega) (by omega) (by omega)
  obtain ⟨n0, n1, r0, r1, hw⟩ := net_ok x y
  obtain ⟨m0, m1, _⟩ := net_ok z 0
  generalize netN x = n at *
  generalize netR x y = r at *
  generalize netN z = m at *
  have hc : Clos n r m := clos_of n0 n1 r0 r1 hw m0 m1
  have ST := Strict_ok n r m h1 k1 hc
  have w0 : 0 < n * r := Nat.mul_pos n0 r0
  have nw : n ≤ n * r := Nat.le_mul_of_pos_right n r0
  have e : (n : Int) * (r : Int) = ((n * r : Nat) : Int) := by simp
  obtain ⟨w, ew⟩ : ∃ w, w = n * r := ⟨_, rfl⟩
  rw [← ew] at e w0 hw nw
  have O : OwnP h1.next (h1.pu []).blks (.sl h1.next 0 0 (some 0) 2) [] := OwnP.fresh (Nat.le_refl _) rfl rfl rfl (Nat.le_refl _)
  rw [wseq, wseq, wseq, wseq]
  refine wcut (fun ss => ∃ (q : AV) (L : List (Int × Int)) (h2 : Hp) (u0 u1 u2 u4 u11 u12 u13 u14 u15 u16 u17 u39 u99 u103 : AV), (Grown h1 h2 ∧ OwnP h1.next h2.blks q L ∧ ReqIn w L ∧ L.length ≤ 100) ∧ ss = { fr := [(0, u0), (1, u1), (2, u2), (4, u4), (5, .int .i64 n), (6, .int .i64 r), (7, .int .i64 m), (8, .bool (decide (StrictP n r m))), (9, .int .i64 0), (10, q), (11, u11), (12, u12), (13, u13), (14, u14), (15, u15), (16, u16), (17, u17), (39, u39), (99, u99), (103, u103)], hp := h2 }) ?_ ?_
  · simp (disch := first|(simp only [Nat.reduceBEq,wE];done)|((repeat' (first|assumption|exact mAx _|refine mBx ?_ ?_|exact mCx (by assumption)|refine mDx ?_|refine mEx ?_ ?_ ?_|exact mFx|refine mGx ?_ ?_ ?_|exact mHx|exact mIx _|(simp only [wM,Nat.reduceAdd,Nat.reduceLT,Nat.reduceLeDiff];done)));done)|omega|decide) only [x1, a1, callT N, callT ST, ↓wA,wB,wL,resOf,Nat.reduceBEq,Int.reduceBEq,Int.reduceBNe,Int.reduceLT,Int.reduceLE,Int.reduceAdd,Int.reduceSub,Int.reduceMul,Int.reduceToNat]
    refine wloop (fun mm ss => ∃ (i : Nat) (q : AV) (h2 : Hp) (u0 u2 u4 u12 u13 u14 u15 u16 u17 u39 u99 u103 : AV), (mm = 100 - i) ∧ (i ≤ 100 ∧ i ≤ l.length ∧ Grown h1 h2 ∧ OwnP h1.next h2.blks q ((l.take i).map (mkR w))) ∧ ss = { fr := [(0, u0), (1, a), (2, u2), (4, u4), (5, .int .i64 n), (6, .int .i64 r), (7, .int .i64 m), (8, .bool (decide (StrictP n r m))), (9, .int .i64 0), (10, q), (11, .int .i64 i), (12, u12), (13, u13), (14, u14), (15, u15), (16, u16), (17, u17), (39, u39), (99, u99), (103, u103)], hp := h2 }) (100) ?_ ?_
    ·
      refine ⟨0, _, _, _, _, _, _, _, _, _, _, _, _, _, _, by omega, ⟨by omega, by omega, Grown.pu Grown.refl rfl, by simpa using O⟩, rfl⟩
    rintro nA sA ⟨i, q, h2, u0, u2, u4, u12, u13, u14, u15, u16, u17, u39, u99, u103, hnA, ⟨hi, hi2, g2, o2⟩, rfl⟩
    have k2 := g2.ok k1
    have g02 := GrownR.trans g1 g2
    have a2 := ha.sub (g02.sub hk)
    by_cases c : i < l.length
    · have c1 : decide ((i : Int) < (l.length : Int)) = true := decide_eq_true (by omega)
      by_cases c2 : i < 100
      · have c2t : decide ((i : Int) < 100) = true := decide_eq_true (by omega)
        have ge : l.getD i (0, 0) = l[i] := by simp [List.getD_eq_getElem?_getD, List.getElem?_eq_getElem c]
        have bd := Ba _ (List.getElem_mem c)
        rw [← ge] at bd
        have wa : IntKind.wrap .i64 (l.getD i (0, 0)).1 = (l.getD i (0, 0)).1 := wrap_i64 (by omega) (by omega)
        have wb : IntKind.wrap .i64 (l.getD i (0, 0)).2 = (l.getD i (0, 0)).2 := wrap_i64 (by omega) (by omega)
        have ra : ∀ c, sBin .rem c (.int .i64 (l.getD i (0, 0)).1) (.int .i64 (w : Int)) = some (.int .i64 ((l.getD i (0, 0)).1 % (w : Int))) := fun c => sBin_rem bd.1 (by omega)
        have rb : ∀ c, sBin .rem c (.int .i64 (l.getD i (0, 0)).2) (.int .i64 ((w : Int) + 1)) = some (.int .i64 ((l.getD i (0, 0)).2 % ((w : Int) + 1))) := fun c => sBin_rem bd.2.2.1 (by omega)
        have m4 := Int.emod_nonneg (l.getD i (0, 0)).2 (show (w : Int) + 1 ≠ 0 by omega)
        have m5 := Int.emod_lt_of_pos (l.getD i (0, 0)).2 (show (0 : Int) < (w : Int) + 1 by omega)
        have jx0 : ∀ h', sIxA 2 1 h' (some 0) (cellAt a i) = some (cellF a i 0, h') := fun h' => a2.ixA h' c (by omega)
        have jx1 : ∀ h', sIxA 2 1 h' (some 1) (cellAt a i) = some (cellF a i 1, h') := fun h' => a2.ixA h' c (by omega)
        obtain ⟨s5, h5, v1, v2, v3, v4⟩ := own_appP1 (a := (mkR w (l.getD i (0, 0))).1) (b := (mkR w (l.getD i (0, 0))).2) k1 g2 o2 (by simp; omega)
        simp only [mkR] at v1
        simp (disch := first|(simp only [Nat.reduceBEq,wE];done)|((repeat' (first|assumption|exact mAx _|refine mBx ?_ ?_|exact mCx (by assumption)|refine mDx ?_|refine mEx ?_ ?_ ?_|exact mFx|refine mGx ?_ ?_ ?_|exact mHx|exact mIx _|(simp only [wM,Nat.reduceAdd,Nat.reduceLT,Nat.reduceLeDiff];done)));done)|omega|decide) only [a2.len, c1, c2t, a2.ix, jx0, jx1, idx?_lit0, idx?_lit1, a2.ld0, a2.ld1, wa, wb, e, ra, rb, v1, ↓wA,wB,wL,resOf,Nat.reduceBEq,Int.reduceBEq,Int.reduceBNe,Int.reduceLT,Int.reduceLE,Int.reduceAdd,Int.reduceSub,Int.reduceMul,Int.reduceToNat]
        refine ⟨_, ?_, i + 1, s5, h5, _, _, _, _, _, _, _, _, _, _, _, _, rfl, ?_, rfl⟩
        · omega
        refine ⟨by omega, by omega, v3, ?_⟩
        rw [List.take_succ_eq_append_getElem c, List.map_append, ← ge]
        exact v2
      · have c2t : decide ((i : Int) < 100) = false := decide_eq_false (by omega)
        simp (disch := first|(simp only [Nat.reduceBEq,wE];done)|((repeat' (first|assumption|exact mAx _|refine mBx ?_ ?_|exact mCx (by assumption)|refine mDx ?_|refine mEx ?_ ?_ ?_|exact mFx|refine mGx ?_ ?_ ?_|exact mHx|exact mIx _|(simp only [wM,Nat.reduceAdd,Nat.reduceLT,Nat.reduceLeDiff];done)));done)|omega|decide) only [a2.len, c1, c2t, cutEx_n, ↓wA,wB,wL,resOf,Nat.reduceBEq,Int.reduceBEq,Int.reduceBNe,Int.reduceLT,Int.reduceLE,Int.reduceAdd,Int.reduceSub,Int.reduceMul,Int.reduceToNat]
        exact ⟨q, _, h2, _, _, _, _, _, _, _, _, _, _, _, _, _, _, ⟨g2, o2, mkR_in w0, by simp; omega⟩, rfl⟩
    · have c1 : decide ((i : Int) < (l.length : Int)) = false := decide_eq_false (by omega)
      simp (disch := first|(simp only [Nat.reduceBEq,wE];done)|((repeat' (first|assumption|exact mAx _|refine mBx ?_ ?_|exact mCx (by assumption)|refine mDx ?_|refine mEx ?_ ?_ ?_|exact mFx|refine mGx ?_ ?_ ?_|exact mHx|exact mIx _|(simp only [wM,Nat.reduceAdd,Nat.reduceLT,Nat.reduceLeDiff];done)));done)|omega|decide) only [a2.len, c1, cutEx_n, ↓wA,wB,wL,resOf,Nat.reduceBEq,Int.reduceBEq,Int.reduceBNe,Int.reduceLT,Int.reduceLE,Int.reduceAdd,Int.reduceSub,Int.reduceMul,Int.reduceToNat]
      exact ⟨q, _, h2, _, _, _, _, _, _, _, _, _, _, _, _, _, _, ⟨g2, o2, mkR_in w0, by simp; omega⟩, rfl⟩
  rintro sK0 ⟨q, L, h2, u0, u1, u2, u4, u11, u12, u13, u14, u15, u16, u17, u39, u99, u103, ⟨g2, o2, hL, ll⟩, rfl⟩
  have k2 := g2.ok k1
  -- behind the loop
  have rest : ∃ (t : AV) (h3 : Hp) (tt : Bool), Evals Tryd.prog tab false (.func 6) [.int .i64 n, .int .i64 r, .int .i64 m, q] h2 (.tu [t, .int .i64 0], h3) ∧ Grown h2 h3 ∧ (∀ h', sLen h' t = some (.int .i64 ((L.length : Nat) : Int), h')) ∧ Evals Tryd.prog tab false (.func 14) [t, .int .i64 (-1)] h3 (.bool tt, h3) ∧ (decide (StrictP n r m) = true → tt = false) := by
    have hin : ReqIn (n * r) L := by rw [← ew]; exact hL
    obtain ⟨v, h3, e3, g3, t, rfl, o3⟩ := Serve_ok n r m q _ h2 k2 o2.pairs (by omega) hc ⟨n0, n1⟩ (by rw [← ew]; exact hw) m1 r1 hin
    have k3 := g3.ok k2
    have H := f14 t _ (-1) h3 k3 o3.ints (by rw [serveC_len]; omega)
    have lt := o3.len
    rw [serveC_len] at lt
    refine ⟨t, h3, _, e3, g3, lt, H, fun hs => ?_⟩
    have hs' : StrictP n r m := of_decide_eq_true hs
    exact decide_eq_false (serveC_strict n0 hs' Inv.nil fun p hp => by
      have := hin p hp
      refine ⟨this.1, ?_, this.2.2.1, ?_⟩ <;> omega)
  obtain ⟨t, h3, tt, e3, g3, lt, H, hst⟩ := rest
  have k3 := g3.ok k2
  have O3 : OwnP h3.next (h3.pu []).blks (.sl h3.next 0 0 (some 0) 2) (fstL w 0) := OwnP.fresh (Nat.le_refl _) rfl rfl rfl (Nat.le_refl _)
  have last : ∀ (h4 : Hp) (s : AV), Hok h4 → Pairs h4.blks s (fstL w n) → ∃ t2 h5, Evals Tryd.prog tab false (.func 6) [.int .i64 n, .int .i64 r, .int .i64 m, s] h4 (.tu [t2, .int .i64 0], h5) ∧ (∀ h', sLen h' t2 = some (.int .i64 n, h')) ∧ (∀ h', sIxS 1 h' (some (n - 1)) t2 = some (cellAt t2 (n - 1), h')) ∧ cellV h5.blks t2 (n - 1) 0 = some (.int .i64 (if n - 1 < m then ((n - 1 : Nat) : Int) else -1)) := fun h4 s k4 p4 => by
    obtain ⟨v, h5, e5, g5, t2, rfl, o5⟩ := Serve_ok n r m s _ h4 k4 p4 (by rw [fstL_len]; omega) hc ⟨n0, n1⟩ (by rw [← ew]; exact hw) m1 r1 (by rw [← ew]; exact fstL_in nw)
    have sv := (fst_run (n := n) (m := m) nw n (Nat.le_refl _)).2
    rw [sv] at o5
    have it := o5.ints
    have l5 : ((List.range n).map fun j : Nat => if j < m then (j : Int) else -1).length = n := by simp
    have lt := it.len
    rw [l5] at lt
    refine ⟨t2, h5, e5, lt, fun h' => it.ix h' (by omega), ?_⟩
    rw [it.ld (Sub.refl _) (by omega)]
    simp [List.getD_eq_getElem?_getD, show n - 1 < n by omega]
  cases hs : decide (StrictP n r m)
  · rw [hs] at ST
    simp (disch := first|(simp only [Nat.reduceBEq,wE];done)|((repeat' (first|assumption|exact mAx _|refine mBx ?_ ?_|exact mCx (by assumption)|refine mDx ?_|refine mEx ?_ ?_ ?_|exact mFx|refine mGx ?_ ?_ ?_|exact mHx|exact mIx _|(simp only [wM,Nat.reduceAdd,Nat.reduceLT,Nat.reduceLeDiff];done)));done)|omega|decide) only [callT e3, o2.pairs.len, lt, callT (lives_ev _), hs, ↓wA,wB,wL,resOf,Nat.reduceBEq,Int.reduceBEq,Int.reduceBNe,Int.reduceLT,Int.reduceLE,Int.reduceAdd,Int.reduceSub,Int.reduceMul,Int.reduceToNat]
    refine wloop (fun mm ss => ∃ (j : Nat) (s : AV) (h4 : Hp) (u0 u1 u2 u4 u8 u9 u10 u11 u12 u13 u16 u17 u39 u99 u103 : AV), (mm = n - j) ∧ (j ≤ n ∧ Grown h3 h4 ∧ OwnP h3.next h4.blks s (fstL w j)) ∧ ss = { fr := [(0, u0), (1, u1), (2, u2), (4, u4), (5, .int .i64 n), (6, .int .i64 r), (7, .int .i64 m), (8, u8), (9, u9), (10, u10), (11, u11), (12, u12), (13, u13), (14, s), (15, .int .i64 j), (16, u16), (17, u17), (39, u39), (99, u99), (103, u103)], hp := h4 }) (n) ?_ ?_
    ·
      refine ⟨0, _, _, _, _, _, _, _, _, _, _, _, _, _, _, _, _, _, by omega, ⟨by omega, Grown.pu Grown.refl rfl, O3⟩, rfl⟩
    rintro nC1 sC1 ⟨j, s, h4, u0, u1, u2, u4, u8, u9, u10, u11, u12, u13, u16, u17, u39, u99, u103, hnC1, ⟨hj, g4, o4⟩, rfl⟩
    have k4 := g4.ok k3
    simp (disch := first|(simp only [Nat.reduceBEq,wE];done)|((repeat' (first|assumption|exact mAx _|refine mBx ?_ ?_|exact mCx (by assumption)|refine mDx ?_|refine mEx ?_ ?_ ?_|exact mFx|refine mGx ?_ ?_ ?_|exact mHx|exact mIx _|(simp only [wM,Nat.reduceAdd,Nat.reduceLT,Nat.reduceLeDiff];done)));done)|omega|decide) only [↓wA,wB,wL,resOf,Nat.reduceBEq,Int.reduceBEq,Int.reduceBNe,Int.reduceLT,Int.reduceLE,Int.reduceAdd,Int.reduceSub,Int.reduceMul,Int.reduceToNat]
    refine ifThen_intro (fun c5 => ?_) (fun c5 => ?_) <;> have c5q := c5 <;> try simp [-List.getD_eq_getElem?_getD] at c5q
    · have ej : (w : Int) - 1 - j = ((w - 1 - j : Nat) : Int) := by omega
      obtain ⟨s5, h5, v1, v2, v3, v4⟩ := own_appP1 (a := (j : Int)) (b := ((w - 1 - j : Nat) : Int)) k3 g4 o4 (by rw [fstL_len]; omega)
      simp (disch := first|(simp only [Nat.reduceBEq,wE];done)|((repeat' (first|assumption|exact mAx _|refine mBx ?_ ?_|exact mCx (by assumption)|refine mDx ?_|refine mEx ?_ ?_ ?_|exact mFx|refine mGx ?_ ?_ ?_|exact mHx|exact mIx _|(simp only [wM,Nat.reduceAdd,Nat.reduceLT,Nat.reduceLeDiff];done)));done)|omega|decide) only [c5, e, ej, v1, ↓wA,wB,wL,resOf,Nat.reduceBEq,Int.reduceBEq,Int.reduceBNe,Int.reduceLT,Int.reduceLE,Int.reduceAdd,Int.reduceSub,Int.reduceMul,Int.reduceToNat]
      refine ⟨_, ?_, j + 1, s5, h5, _, _, _, _, _, _, _, _, _, _, _, _, _, _, _, rfl, ?_, rfl⟩
      · omega
      refine ⟨by omega, v3, ?_⟩
      rw [fstL_succ]
      exact v2
    · have o5 : OwnP h3.next h4.blks s (fstL w n) := by rw [show n = j by omega]; exact o4
      obtain ⟨t2, h5, e5, lt2, i2, d2⟩ := last h4 s k4 o5.pairs
      have en : (n : Int) - 1 = ((n - 1 : Nat) : Int) := by omega
      by_cases c6 : n - 1 < m
      · rw [if_pos c6] at d2
        have b1 : (((n - 1 : Nat) : Int) == -1) = false := by simp
        have b2 : decide ((m : Int) < n) = false := decide_eq_false (by omega)
        have b3 : sBin .eql .bool (.bool false) (.bool false) = some (.bool true) := rfl
        simp (disch := first|(simp only [Nat.reduceBEq,wE];done)|((repeat' (first|assumption|exact mAx _|refine mBx ?_ ?_|exact mCx (by assumption)|refine mDx ?_|refine mEx ?_ ?_ ?_|exact mFx|refine mGx ?_ ?_ ?_|exact mHx|exact mIx _|(simp only [wM,Nat.reduceAdd,Nat.reduceLT,Nat.reduceLeDiff];done)));done)|omega|decide) only [c5, callT e5, lt2, en, i2, d2, b1, b2, b3, ↓wA,wB,wL,resOf,Nat.reduceBEq,Int.reduceBEq,Int.reduceBNe,Int.reduceLT,Int.reduceLE,Int.reduceAdd,Int.reduceSub,Int.reduceMul,Int.reduceToNat]
        exact ⟨_, rfl, rfl⟩
      · rw [if_neg c6] at d2
        have b1 : ((-1 : Int) == -1) = true := rfl
        have b2 : decide ((m : Int) < n) = true := decide_eq_true (by omega)
        have b3 : sBin .eql .bool (.bool true) (.bool true) = some (.bool true) := rfl
        simp (disch := first|(simp only [Nat.reduceBEq,wE];done)|((repeat' (first|assumption|exact mAx _|refine mBx ?_ ?_|exact mCx (by assumption)|refine mDx ?_|refine mEx ?_ ?_ ?_|exact mFx|refine mGx ?_ ?_ ?_|exact mHx|exact mIx _|(simp only [wM,Nat.reduceAdd,Nat.reduceLT,Nat.reduceLeDiff];done)));done)|omega|decide) only [c5, callT e5, lt2, en, i2, d2, b1, b2, b3, ↓wA,wB,wL,resOf,Nat.reduceBEq,Int.reduceBEq,Int.reduceBNe,Int.reduceLT,Int.reduceLE,Int.reduceAdd,Int.reduceSub,Int.reduceMul,Int.reduceToNat]
        exact ⟨_, rfl, rfl⟩
  · rw [hst hs] at H
    simp (disch := first|(simp only [Nat.reduceBEq,wE];done)|((repeat' (first|assumption|exact mAx _|refine mBx ?_ ?_|exact mCx (by assumption)|refine mDx ?_|refine mEx ?_ ?_ ?_|exact mFx|refine mGx ?_ ?_ ?_|exact mHx|exact mIx _|(simp only [wM,Nat.reduceAdd,Nat.reduceLT,Nat.reduceLeDiff];done)));done)|omega|decide) only [callT e3, o2.pairs.len, lt, callT (lives_ev _), hs, callT H, ↓wA,wB,wL,resOf,Nat.reduceBEq,Int.reduceBEq,Int.reduceBNe,Int.reduceLT,Int.reduceLE,Int.reduceAdd,Int.reduceSub,Int.reduceMul,Int.reduceToNat]
    refine wloop (fun mm ss => ∃ (j : Nat) (s : AV) (h4 : Hp) (u0 u1 u2 u4 u8 u9 u10 u11 u12 u13 u16 u17 u39 u99 u103 : AV), (mm = n - j) ∧ (j ≤ n ∧ Grown h3 h4 ∧ OwnP h3.next h4.blks s (fstL w j)) ∧ ss = { fr := [(0, u0), (1, u1), (2, u2), (4, u4), (5, .int .i64 n), (6, .int .i64 r), (7, .int .i64 m), (8, u8), (9, u9), (10, u10), (11, u11), (12, u12), (13, u13), (14, s), (15, .int .i64 j), (16, u16), (17, u17), (39, u39), (99, u99), (103, u103)], hp := h4 }) (n) ?_ ?_
    ·
      refine ⟨0, _, _, _, _, _, _, _, _, _, _, _, _, _, _, _, _, _, by omega, ⟨by omega, Grown.pu Grown.refl rfl, O3⟩, rfl⟩
    rintro nC2 sC2 ⟨j, s, h4, u0, u1, u2, u4, u8, u9, u10, u11, u12, u13, u16, u17, u39, u99, u103, hnC2, ⟨hj, g4, o4⟩, rfl⟩
    have k4 := g4.ok k3
    simp (disch := first|(simp only [Nat.reduceBEq,wE];done)|((repeat' (first|assumption|exact mAx _|refine mBx ?_ ?_|exact mCx (by assumption)|refine mDx ?_|refine mEx ?_ ?_ ?_|exact mFx|refine mGx ?_ ?_ ?_|exact mHx|exact mIx _|(simp only [wM,Nat.reduceAdd,Nat.reduceLT,Nat.reduceLeDiff];done)));done)|omega|decide) only [↓wA,wB,wL,resOf,Nat.reduceBEq,Int.reduceBEq,Int.reduceBNe,Int.reduceLT,Int.reduceLE,Int.reduceAdd,Int.reduceSub,Int.reduceMul,Int.reduceToNat]
    refine ifThen_intro (fun c5 => ?_) (fun c5 => ?_) <;> have c5q := c5 <;> try simp [-List.getD_eq_getElem?_getD] at c5q
    · have ej : (w : Int) - 1 - j = ((w - 1 - j : Nat) : Int) := by omega
      obtain ⟨s5, h5, v1, v2, v3, v4⟩ := own_appP1 (a := (j : Int)) (b := ((w - 1 - j : Nat) : Int)) k3 g4 o4 (by rw [fstL_len]; omega)
      simp (disch := first|(simp only [Nat.reduceBEq,wE];done)|((repeat' (first|assumption|exact mAx _|refine mBx ?_ ?_|exact mCx (by assumption)|refine mDx ?_|refine mEx ?_ ?_ ?_|exact mFx|refine mGx ?_ ?_ ?_|exact mHx|exact mIx _|(simp only [wM,Nat.reduceAdd,Nat.reduceLT,Nat.reduceLeDiff];done)));done)|omega|decide) only [c5, e, ej, v1, ↓wA,wB,wL,resOf,Nat.reduceBEq,Int.reduceBEq,Int.reduceBNe,Int.reduceLT,Int.reduceLE,Int.reduceAdd,Int.reduceSub,Int.reduceMul,Int.reduceToNat]
      refine ⟨_, ?_, j + 1, s5, h5, _, _, _, _, _, _, _, _, _, _, _, _, _, _, _, rfl, ?_, rfl⟩
      · omega
      refine ⟨by omega, v3, ?_⟩
      rw [fstL_succ]
      exact v2
    · have o5 : OwnP h3.next h4.blks s (fstL w n) := by rw [show n = j by omega]; exact o4
      obtain ⟨t2, h5, e5, lt2, i2, d2⟩ := last h4 s k4 o5.pairs
      have en : (n : Int) - 1 = ((n - 1 : Nat) : Int) := by omega
      by_cases c6 : n - 1 < m
      · rw [if_pos c6] at d2
        have b1 : (((n - 1 : Nat) : Int) == -1) = false := by simp
        have b2 : decide ((m : Int) < n) = false := decide_eq_false (by omega)
        have b3 : sBin .eql .bool (.bool false) (.bool false) = some (.bool true) := rfl
        simp (disch := first|(simp only [Nat.reduceBEq,wE];done)|((repeat' (first|assumption|exact mAx _|refine mBx ?_ ?_|exact mCx (by assumption)|refine mDx ?_|refine mEx ?_ ?_ ?_|exact mFx|refine mGx ?_ ?_ ?_|exact mHx|exact mIx _|(simp only [wM,Nat.reduceAdd,Nat.reduceLT,Nat.reduceLeDiff];done)));done)|omega|decide) only [c5, callT e5, lt2, en, i2, d2, b1, b2, b3, ↓wA,wB,wL,resOf,Nat.reduceBEq,Int.reduceBEq,Int.reduceBNe,Int.reduceLT,Int.reduceLE,Int.reduceAdd,Int.reduceSub,Int.reduceMul,Int.reduceToNat]
        exact ⟨_, rfl, rfl⟩
      · rw [if_neg c6] at d2
        have b1 : ((-1 : Int) == -1) = true := rfl
        have b2 : decide ((m : Int) < n) = true := decide_eq_true (by omega)
        have b3 : sBin .eql .bool (.bool true) (.bool true) = some (.bool true) := rfl
        simp (disch := first|(simp only [Nat.reduceBEq,wE];done)|((repeat' (first|assumption|exact mAx _|refine mBx ?_ ?_|exact mCx (by assumption)|refine mDx ?_|refine mEx ?_ ?_ ?_|exact mFx|refine mGx ?_ ?_ ?_|exact mHx|exact mIx _|(simp only [wM,Nat.reduceAdd,Nat.reduceLT,Nat.reduceLeDiff];done)));done)|omega|decide) only [c5, callT e5, lt2, en, i2, d2, b1, b2, b3, ↓wA,wB,wL,resOf,Nat.reduceBEq,Int.reduceBEq,Int.reduceBNe,Int.reduceLT,Int.reduceLE,Int.reduceAdd,Int.reduceSub,Int.reduceMul,Int.reduceToNat]
        exact ⟨_, rfl, rfl⟩
end Go.Proofs.YtpfkmdbdafpadaaDoor
