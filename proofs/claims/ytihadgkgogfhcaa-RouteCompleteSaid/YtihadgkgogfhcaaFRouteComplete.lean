/- The law RouteComplete, compiled. -/
import Derived.Test.YtihadgkgogfhcaaRows
import Derived.Test.YtihadgkgogfhcaaSA
import Derived.KernelRfl
set_option linter.unusedVariables false
set_option maxRecDepth 100000
namespace Go.Proofs.Ytihadgkgogfhcaa
open Go Go.Abs
/-- bellpull/bellpulllaw07.RouteComplete -/
noncomputable def sf10 : SFun := ⟨[0, 1, 4, 5, 6, 7, 8, 9, 10, 11, 22, 27], 84,
 (.seq
 (.ops [
 ⟨(some 4), none, .mov (.c (.bool false))⟩] [4])
 (.seq
 (.ops [
 ⟨(some 12), none, .mov (.t 0)⟩,
 ⟨(some 13), none, .conv .i64 (.t 12)⟩,
 ⟨(some 14), none, .bin .rem .no (.t 13) (.c (.int .i64 8))⟩,
 ⟨(some 15), none, .bin .add .no (.t 14) (.c (.int .i64 1))⟩,
 ⟨(some 16), none, .buildS [(.int .i64 0), (.int .i64 0)] 0 2 []⟩,
 ⟨(some 5), none, .mov (.t 15)⟩,
 ⟨(some 6), none, .mov (.t 16)⟩] [5, 6])
 (.seq
 (.ops [
 ⟨(some 17), none, .mov (.t 5)⟩,
 ⟨(some 18), none, .mov (.t 1)⟩,
 ⟨(some 19), none, .call (.c (.fn (.func 34) [] [])) [(.t 17), (.t 18)]⟩,
 ⟨(some 7), none, .mov (.t 19)⟩] [7])
 (.seq
 (.seq
 (.ops [
 ⟨(some 8), none, .mov (.c (.int .i64 0))⟩] [8])
 (.block 0
 (.loop
 (.seq
 (.seq
 (.ops [
 ⟨(some 20), none, .mov (.t 8)⟩,
 ⟨(some 21), none, .mov (.t 5)⟩,
 ⟨(some 22), none, .bin .lss .no (.t 20) (.t 21)⟩] [22])
 (.cond (.t 22)
 .skip
 (.exit 0)))
 (.seq
 (.block 1
 (.seq
 (.ops [
 ⟨(some 9), none, .mov (.c (.int .i64 0))⟩] [9])
 (.block 2
 (.loop
 (.seq
 (.seq
 (.ops [
 ⟨(some 25), none, .mov (.t 9)⟩,
 ⟨(some 26), none, .mov (.t 8)⟩,
 ⟨(some 27), none, .bin .lss .no (.t 25) (.t 26)⟩] [27])
 (.cond (.t 27)
 .skip
 (.exit 2)))
 (.seq
 (.block 3
 (.draw [
 ⟨⟨(some 30), none, .mov (.t 6)⟩, false, false⟩,
 ⟨⟨(some 31), none, .mov (.t 7)⟩, false, false⟩,
 ⟨⟨(some 32), none, .mov (.t 8)⟩, false, false⟩,
 ⟨⟨(some 33), none, .ixS 1 (.t 31) (.t 32)⟩, false, false⟩,
 ⟨⟨(some 34), none, .load none (.t 33)⟩, true, false⟩,
 ⟨⟨(some 35), none, .mov (.t 7)⟩, false, false⟩,
 ⟨⟨(some 36), none, .mov (.t 9)⟩, false, false⟩,
 ⟨⟨(some 37), none, .ixS 1 (.t 35) (.t 36)⟩, false, false⟩,
 ⟨⟨(some 38), none, .load none (.t 37)⟩, true, false⟩,
 ⟨⟨(some 39), none, .build [(.int .i64 0), (.int .i64 0)] [(0, 1), (1, 1)] [(0, (.t 34)), (1, (.t 38))]⟩, false, false⟩,
 ⟨⟨(some 40), none, .buildS [(.int .i64 0), (.int .i64 0)] 1 2 [(0, (.t 39))]⟩, false, true⟩,
 ⟨⟨(some 41), none, .app true 2 (.t 30) (.t 40)⟩, false, true⟩,
 ⟨⟨(some 6), none, .mov (.t 41)⟩, false, false⟩] [0, 0, 0, 6, 14, 0, 0, 96, 224, 510, 1022, 2047, 4095] [6]))
 (.ops [
 ⟨(some 28), none, .mov (.t 9)⟩,
 ⟨(some 29), none, .bin .add .no (.t 28) (.c (.int .i64 1))⟩,
 ⟨(some 9), none, .mov (.t 29)⟩] [9])))))))
 (.ops [
 ⟨(some 23), none, .mov (.t 8)⟩,
 ⟨(some 24), none, .bin .add .no (.t 23) (.c (.int .i64 1))⟩,
 ⟨(some 8), none, .mov (.t 24)⟩] [8]))))))
 (.seq
 (.ops [
 ⟨(some 43), none, .mov (.t 5)⟩,
 ⟨(some 44), none, .mov (.t 6)⟩,
 ⟨(some 45), none, .call (.c (.fn (.func 35) [] [])) [(.t 43), (.t 44)]⟩,
 ⟨(some 42), none, .mov (.t 45)⟩,
 ⟨(some 46), none, .ext (.t 42) 0⟩,
 ⟨(some 47), none, .ext (.t 42) 1⟩,
 ⟨(some 10), none, .mov (.t 46)⟩,
 ⟨(some 11), none, .mov (.t 47)⟩] [10, 11])
 (.seq
 (.ops [
 ⟨(some 48), none, .mov (.t 11)⟩,
 ⟨(some 49), none, .mov (.t 48)⟩,
 ⟨(some 50), (some (49, true)), .mov (.t 10)⟩,
 ⟨(some 51), (some (49, true)), .ixS 1 (.t 50) (.c (.int .i64 0))⟩,
 ⟨(some 52), (some (49, true)), .load none (.t 51)⟩,
 ⟨(some 53), (some (49, true)), .mov (.t 5)⟩,
 ⟨(some 54), (some (49, true)), .bin .sub .no (.t 53) (.c (.int .i64 1))⟩,
 ⟨(some 55), (some (49, true)), .bin .eql .no (.t 52) (.t 54)⟩,
 ⟨(some 56), none, .pick (.t 49) (.t 55) (.c (.bool false))⟩,
 ⟨(some 57), none, .mov (.t 56)⟩,
 ⟨(some 58), (some (57, true)), .mov (.t 10)⟩,
 ⟨(some 59), (some (57, true)), .ixS 1 (.t 58) (.c (.int .i64 1))⟩,
 ⟨(some 60), (some (57, true)), .load none (.t 59)⟩,
 ⟨(some 61), (some (57, true)), .mov (.t 5)⟩,
 ⟨(some 62), (some (57, true)), .mov (.t 5)⟩,
 ⟨(some 63), (some (57, true)), .bin .mul .no (.t 61) (.t 62)⟩,
 ⟨(some 64), (some (57, true)), .bin .quo .no (.t 63) (.c (.int .i64 4))⟩,
 ⟨(some 65), (some (57, true)), .bin .eql .no (.t 60) (.t 64)⟩,
 ⟨(some 66), none, .pick (.t 57) (.t 65) (.c (.bool false))⟩,
 ⟨(some 67), none, .mov (.t 66)⟩,
 ⟨(some 68), (some (67, true)), .mov (.t 10)⟩,
 ⟨(some 69), (some (67, true)), .ixS 1 (.t 68) (.c (.int .i64 2))⟩,
 ⟨(some 70), (some (67, true)), .load none (.t 69)⟩,
 ⟨(some 71), (some (67, true)), .mov (.t 5)⟩,
 ⟨(some 72), (some (67, true)), .bin .add .no (.t 71) (.c (.int .i64 1))⟩,
 ⟨(some 73), (some (67, true)), .mov (.t 5)⟩,
 ⟨(some 74), (some (67, true)), .bin .mul .no (.t 72) (.t 73)⟩,
 ⟨(some 75), (some (67, true)), .mov (.t 5)⟩,
 ⟨(some 76), (some (67, true)), .bin .sub .no (.t 75) (.c (.int .i64 1))⟩,
 ⟨(some 77), (some (67, true)), .bin .mul .no (.t 74) (.t 76)⟩,
 ⟨(some 78), (some (67, true)), .bin .quo .no (.t 77) (.c (.int .i64 6))⟩,
 ⟨(some 79), (some (67, true)), .bin .eql .no (.t 70) (.t 78)⟩,
 ⟨(some 80), none, .pick (.t 67) (.t 79) (.c (.bool false))⟩,
 ⟨(some 81), none, .mov (.t 80)⟩,
 ⟨(some 82), (some (81, true)), .call (.c (.fn (.func 20) [] [])) []⟩,
 ⟨(some 83), none, .pick (.t 81) (.t 82) (.c (.bool false))⟩,
 ⟨(some 4), none, .mov (.t 83)⟩] [4])
 .ret)))))),
 [.tmp 4]⟩

theorem c10 : compF Try.prog 10 = some sf10 := by kernel_rfl
end Go.Proofs.Ytihadgkgogfhcaa
