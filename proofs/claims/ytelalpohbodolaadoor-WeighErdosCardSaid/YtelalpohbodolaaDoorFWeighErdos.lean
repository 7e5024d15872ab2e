/- The law WeighErdos, compiled. -/
import Derived.Test.YtelalpohbodolaaDoorRows
import Derived.Test.YtelalpohbodolaaDoorSA
import Derived.KernelRfl
set_option linter.unusedVariables false
set_option maxRecDepth 100000
namespace Go.Proofs.YtelalpohbodolaaDoor
open Go Go.Abs
/-- bellpull/bellpulllaw08.WeighErdos -/
noncomputable def sf9 : SFun := ⟨[0, 1, 4, 5, 6, 7, 8, 9, 14, 22, 32], 73,
 (.seq
 (.ops [
 ⟨(some 4), none, .mov (.c (.bool false))⟩] [4])
 (.seq
 (.ops [
 ⟨(some 10), none, .mov (.t 0)⟩,
 ⟨(some 11), none, .call (.c (.fn (.func 30) [] [])) [(.t 10), (.c (.int .i64 12))]⟩,
 ⟨(some 5), none, .mov (.t 11)⟩] [5])
 (.seq
 (.seq
 (.ops [
 ⟨(some 12), none, .mov (.t 1)⟩,
 ⟨(some 13), none, .bin .rem .no (.t 12) (.c (.int .u8 3))⟩,
 ⟨(some 14), none, .bin .gtr .no (.t 13) (.c (.int .u8 0))⟩] [14])
 (.cond (.t 14)
 (.ops [
 ⟨(some 15), none, .mov (.t 0)⟩,
 ⟨(some 16), none, .mov (.t 1)⟩,
 ⟨(some 17), none, .bin .rem .no (.t 16) (.c (.int .u8 3))⟩,
 ⟨(some 18), none, .bin .eql .no (.t 17) (.c (.int .u8 1))⟩,
 ⟨(some 19), none, .call (.c (.fn (.func 35) [] [])) [(.t 15), (.t 18)]⟩,
 ⟨(some 5), none, .mov (.t 19)⟩] [5])
 .skip))
 (.seq
 (.seq
 (.ops [
 ⟨(some 20), none, .mov (.t 5)⟩,
 ⟨(some 21), none, .call (.c (.fn (.func 16) [] [])) [(.t 20)]⟩,
 ⟨(some 22), none, .bin .neq .no (.t 21) (.c (.int .i64 0))⟩] [22])
 (.cond (.t 22)
 (.seq
 (.ops [
 ⟨(some 23), none, .call (.c (.fn (.func 17) [] [])) []⟩,
 ⟨(some 4), none, .mov (.t 23)⟩] [4])
 .ret)
 .skip))
 (.seq
 (.ops [
 ⟨(some 25), none, .mov (.t 5)⟩,
 ⟨(some 26), none, .call (.c (.fn (.func 14) [] [])) [(.t 25)]⟩,
 ⟨(some 24), none, .mov (.t 26)⟩,
 ⟨(some 27), none, .ext (.t 24) 0⟩,
 ⟨(some 28), none, .ext (.t 24) 1⟩,
 ⟨(some 6), none, .mov (.t 27)⟩,
 ⟨(some 7), none, .mov (.t 28)⟩] [6, 7])
 (.seq
 (.ops [
 ⟨(some 8), none, .mov (.c (.int .i64 0))⟩] [8])
 (.seq
 (.seq
 (.ops [
 ⟨(some 9), none, .mov (.c (.int .i64 0))⟩] [9])
 (.block 0
 (.loop
 (.seq
 (.seq
 (.ops [
 ⟨(some 29), none, .mov (.t 9)⟩,
 ⟨(some 30), none, .mov (.t 5)⟩,
 ⟨(some 31), none, .lenS (.t 30)⟩,
 ⟨(some 32), none, .bin .lss .no (.t 29) (.t 31)⟩] [32])
 (.cond (.t 32)
 .skip
 (.exit 0)))
 (.seq
 (.block 1
 (.ops [
 ⟨(some 35), none, .mov (.t 8)⟩,
 ⟨(some 36), none, .mov (.t 5)⟩,
 ⟨(some 37), none, .mov (.t 9)⟩,
 ⟨(some 38), none, .ixS 1 (.t 36) (.t 37)⟩,
 ⟨(some 39), none, .load none (.t 38)⟩,
 ⟨(some 40), none, .mov (.t 5)⟩,
 ⟨(some 41), none, .mov (.t 9)⟩,
 ⟨(some 42), none, .ixS 1 (.t 40) (.t 41)⟩,
 ⟨(some 43), none, .load none (.t 42)⟩,
 ⟨(some 44), none, .bin .mul .no (.t 39) (.t 43)⟩,
 ⟨(some 45), none, .bin .add .no (.t 35) (.t 44)⟩,
 ⟨(some 8), none, .mov (.t 45)⟩] [8]))
 (.ops [
 ⟨(some 33), none, .mov (.t 9)⟩,
 ⟨(some 34), none, .bin .add .no (.t 33) (.c (.int .i64 1))⟩,
 ⟨(some 9), none, .mov (.t 34)⟩] [9]))))))
 (.seq
 (.ops [
 ⟨(some 46), none, .mov (.t 7)⟩,
 ⟨(some 47), none, .bin .eql .no (.t 46) (.c (.int .i64 0))⟩,
 ⟨(some 48), none, .mov (.t 47)⟩,
 ⟨(some 49), (some (48, true)), .mov (.t 1)⟩,
 ⟨(some 50), (some (48, true)), .bin .rem .no (.t 49) (.c (.int .u8 3))⟩,
 ⟨(some 51), (some (48, true)), .bin .eql .no (.t 50) (.c (.int .u8 0))⟩,
 ⟨(some 52), (some (48, true)), .mov (.t 51)⟩,
 ⟨(some 53), (some (52, false)), .mov (.t 6)⟩,
 ⟨(some 54), (some (48, true)), .pick (.t 52) (.c (.bool true)) (.t 53)⟩,
 ⟨(some 55), none, .pick (.t 48) (.t 54) (.c (.bool false))⟩,
 ⟨(some 56), none, .mov (.t 55)⟩,
 ⟨(some 57), (some (56, true)), .mov (.t 6)⟩,
 ⟨(some 58), (some (56, true)), .not (.t 57)⟩,
 ⟨(some 59), (some (56, true)), .mov (.t 58)⟩,
 ⟨(some 60), (some (59, false)), .mov (.t 8)⟩,
 ⟨(some 61), (some (59, false)), .bin .mul .no (.c (.int .i64 3)) (.t 60)⟩,
 ⟨(some 62), (some (59, false)), .mov (.t 5)⟩,
 ⟨(some 63), (some (59, false)), .lenS (.t 62)⟩,
 ⟨(some 64), (some (59, false)), .bin .mul .no (.c (.int .i64 2)) (.t 63)⟩,
 ⟨(some 65), (some (59, false)), .bin .shl .no (.c (.int .i64 1)) (.t 64)⟩,
 ⟨(some 66), (some (59, false)), .bin .sub .no (.t 65) (.c (.int .i64 1))⟩,
 ⟨(some 67), (some (59, false)), .bin .geq .no (.t 61) (.t 66)⟩,
 ⟨(some 68), (some (56, true)), .pick (.t 59) (.c (.bool true)) (.t 67)⟩,
 ⟨(some 69), none, .pick (.t 56) (.t 68) (.c (.bool false))⟩,
 ⟨(some 70), none, .mov (.t 69)⟩,
 ⟨(some 71), (some (70, true)), .call (.c (.fn (.func 17) [] [])) []⟩,
 ⟨(some 72), none, .pick (.t 70) (.t 71) (.c (.bool false))⟩,
 ⟨(some 4), none, .mov (.t 72)⟩] [4])
 .ret)))))))),
 [.tmp 4]⟩

theorem c9 : compF Tryd.prog 9 = some sf9 := by kernel_rfl
end Go.Proofs.YtelalpohbodolaaDoor
