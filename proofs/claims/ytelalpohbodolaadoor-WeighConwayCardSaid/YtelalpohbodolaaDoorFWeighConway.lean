/- The law WeighConway, compiled. -/
import Derived.Test.YtelalpohbodolaaDoorRows
import Derived.Test.YtelalpohbodolaaDoorSA
import Derived.KernelRfl
set_option linter.unusedVariables false
set_option maxRecDepth 100000
namespace Go.Proofs.YtelalpohbodolaaDoor
open Go Go.Abs
/-- bellpull/bellpulllaw08.WeighConway -/
noncomputable def sf8 : SFun := ⟨[0, 2, 3, 4, 5, 6, 7, 8, 9], 71,
 (.seq
 (.ops [
 ⟨(some 2), none, .mov (.c (.bool false))⟩] [2])
 (.seq
 (.ops [
 ⟨(some 10), none, .mov (.t 0)⟩,
 ⟨(some 11), none, .conv .i64 (.t 10)⟩,
 ⟨(some 12), none, .bin .rem .no (.t 11) (.c (.int .i64 12))⟩,
 ⟨(some 13), none, .bin .add .no (.t 12) (.c (.int .i64 1))⟩,
 ⟨(some 3), none, .mov (.t 13)⟩] [3])
 (.seq
 (.ops [
 ⟨(some 15), none, .mov (.t 3)⟩,
 ⟨(some 16), none, .call (.c (.fn (.func 26) [] [])) [(.t 15)]⟩,
 ⟨(some 14), none, .mov (.t 16)⟩,
 ⟨(some 17), none, .ext (.t 14) 0⟩,
 ⟨(some 18), none, .ext (.t 14) 1⟩,
 ⟨(some 4), none, .mov (.t 17)⟩,
 ⟨(some 5), none, .mov (.t 18)⟩] [4, 5])
 (.seq
 (.ops [
 ⟨(some 20), none, .mov (.t 3)⟩,
 ⟨(some 21), none, .call (.c (.fn (.func 25) [] [])) [(.t 20)]⟩,
 ⟨(some 19), none, .mov (.t 21)⟩,
 ⟨(some 22), none, .ext (.t 19) 0⟩,
 ⟨(some 23), none, .ext (.t 19) 1⟩,
 ⟨(some 6), none, .mov (.t 22)⟩,
 ⟨(some 7), none, .mov (.t 23)⟩] [6, 7])
 (.seq
 (.ops [
 ⟨(some 25), none, .mov (.t 4)⟩,
 ⟨(some 26), none, .call (.c (.fn (.func 14) [] [])) [(.t 25)]⟩,
 ⟨(some 24), none, .mov (.t 26)⟩,
 ⟨(some 27), none, .ext (.t 24) 0⟩,
 ⟨(some 28), none, .ext (.t 24) 1⟩,
 ⟨(some 8), none, .mov (.t 27)⟩,
 ⟨(some 9), none, .mov (.t 28)⟩] [8, 9])
 (.seq
 (.ops [
 ⟨(some 29), none, .mov (.t 5)⟩,
 ⟨(some 30), none, .bin .eql .no (.t 29) (.c (.int .i64 0))⟩,
 ⟨(some 31), none, .mov (.t 30)⟩,
 ⟨(some 32), (some (31, true)), .mov (.t 7)⟩,
 ⟨(some 33), (some (31, true)), .bin .eql .no (.t 32) (.c (.int .i64 0))⟩,
 ⟨(some 34), none, .pick (.t 31) (.t 33) (.c (.bool false))⟩,
 ⟨(some 35), none, .mov (.t 34)⟩,
 ⟨(some 36), (some (35, true)), .mov (.t 9)⟩,
 ⟨(some 37), (some (35, true)), .bin .eql .no (.t 36) (.c (.int .i64 0))⟩,
 ⟨(some 38), none, .pick (.t 35) (.t 37) (.c (.bool false))⟩,
 ⟨(some 39), none, .mov (.t 38)⟩,
 ⟨(some 40), (some (39, true)), .mov (.t 8)⟩,
 ⟨(some 41), none, .pick (.t 39) (.t 40) (.c (.bool false))⟩,
 ⟨(some 42), none, .mov (.t 41)⟩,
 ⟨(some 43), (some (42, true)), .mov (.t 4)⟩,
 ⟨(some 44), (some (42, true)), .lenS (.t 43)⟩,
 ⟨(some 45), (some (42, true)), .mov (.t 3)⟩,
 ⟨(some 46), (some (42, true)), .bin .eql .no (.t 44) (.t 45)⟩,
 ⟨(some 47), none, .pick (.t 42) (.t 46) (.c (.bool false))⟩,
 ⟨(some 48), none, .mov (.t 47)⟩,
 ⟨(some 49), (some (48, true)), .mov (.t 4)⟩,
 ⟨(some 50), (some (48, true)), .mov (.t 3)⟩,
 ⟨(some 51), (some (48, true)), .bin .sub .no (.t 50) (.c (.int .i64 1))⟩,
 ⟨(some 52), (some (48, true)), .ixS 1 (.t 49) (.t 51)⟩,
 ⟨(some 53), (some (48, true)), .load none (.t 52)⟩,
 ⟨(some 54), (some (48, true)), .mov (.t 6)⟩,
 ⟨(some 55), (some (48, true)), .bin .eql .no (.t 53) (.t 54)⟩,
 ⟨(some 56), none, .pick (.t 48) (.t 55) (.c (.bool false))⟩,
 ⟨(some 57), none, .mov (.t 56)⟩,
 ⟨(some 58), (some (57, true)), .mov (.t 6)⟩,
 ⟨(some 59), (some (57, true)), .mov (.t 3)⟩,
 ⟨(some 60), (some (57, true)), .bin .sub .no (.t 59) (.c (.int .i64 1))⟩,
 ⟨(some 61), (some (57, true)), .bin .shl .no (.c (.int .i64 1)) (.t 60)⟩,
 ⟨(some 62), (some (57, true)), .bin .leq .no (.t 58) (.t 61)⟩,
 ⟨(some 63), none, .pick (.t 57) (.t 62) (.c (.bool false))⟩,
 ⟨(some 64), none, .mov (.t 63)⟩,
 ⟨(some 65), (some (64, true)), .mov (.t 4)⟩,
 ⟨(some 66), (some (64, true)), .call (.c (.fn (.func 34) [] [])) [(.t 65)]⟩,
 ⟨(some 67), none, .pick (.t 64) (.t 66) (.c (.bool false))⟩,
 ⟨(some 68), none, .mov (.t 67)⟩,
 ⟨(some 69), (some (68, true)), .call (.c (.fn (.func 17) [] [])) []⟩,
 ⟨(some 70), none, .pick (.t 68) (.t 69) (.c (.bool false))⟩,
 ⟨(some 2), none, .mov (.t 70)⟩] [2])
 .ret)))))),
 [.tmp 2]⟩

theorem c8 : compF Tryd.prog 8 = some sf8 := by kernel_rfl
end Go.Proofs.YtelalpohbodolaaDoor
