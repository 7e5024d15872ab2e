/- The law RouteMeasures, compiled. -/
import Derived.Test.YtihadgkgogfhcaaRows
import Derived.Test.YtihadgkgogfhcaaSA
import Derived.KernelRfl
set_option linter.unusedVariables false
set_option maxRecDepth 100000
namespace Go.Proofs.Ytihadgkgogfhcaa
open Go Go.Abs
/-- bellpull/bellpulllaw07.RouteMeasures -/
noncomputable def sf3 : SFun := ⟨[0, 1, 2, 6, 7, 8, 9, 10, 11, 12, 13, 14, 15, 16, 17, 18, 49, 51], 118,
 (.seq
 (.ops [
 ⟨(some 6), none, .mov (.c (.bool false))⟩] [6])
 (.seq
 (.ops [
 ⟨(some 19), none, .mov (.t 1)⟩,
 ⟨(some 20), none, .call (.c (.fn (.func 14) [] [])) [(.t 19)]⟩,
 ⟨(some 21), none, .mov (.t 2)⟩,
 ⟨(some 22), none, .call (.c (.fn (.func 15) [] [])) [(.t 21)]⟩,
 ⟨(some 7), none, .mov (.t 20)⟩,
 ⟨(some 8), none, .mov (.t 22)⟩] [7, 8])
 (.seq
 (.ops [
 ⟨(some 24), none, .mov (.t 0)⟩,
 ⟨(some 25), none, .mov (.t 7)⟩,
 ⟨(some 26), none, .mov (.t 8)⟩,
 ⟨(some 27), none, .call (.c (.fn (.func 16) [] [])) [(.t 24), (.t 25), (.t 26)]⟩,
 ⟨(some 23), none, .mov (.t 27)⟩,
 ⟨(some 28), none, .ext (.t 23) 0⟩,
 ⟨(some 29), none, .ext (.t 23) 1⟩,
 ⟨(some 30), none, .ext (.t 23) 2⟩,
 ⟨(some 31), none, .ext (.t 23) 3⟩,
 ⟨(some 9), none, .mov (.t 28)⟩,
 ⟨(some 10), none, .mov (.t 29)⟩,
 ⟨(some 11), none, .mov (.t 30)⟩,
 ⟨(some 12), none, .mov (.t 31)⟩] [9, 10, 11, 12])
 (.seq
 (.ops [
 ⟨(some 33), none, .mov (.t 0)⟩,
 ⟨(some 34), none, .mov (.t 7)⟩,
 ⟨(some 35), none, .mov (.t 8)⟩,
 ⟨(some 36), none, .call (.c (.fn (.func 17) [] [])) [(.t 33), (.t 34), (.t 35)]⟩,
 ⟨(some 32), none, .mov (.t 36)⟩,
 ⟨(some 37), none, .ext (.t 32) 0⟩,
 ⟨(some 38), none, .ext (.t 32) 1⟩,
 ⟨(some 13), none, .mov (.t 37)⟩,
 ⟨(some 14), none, .mov (.t 38)⟩] [13, 14])
 (.seq
 (.ops [
 ⟨(some 39), none, .mov (.t 0)⟩,
 ⟨(some 40), none, .mov (.t 7)⟩,
 ⟨(some 41), none, .call (.c (.fn (.func 18) [] [])) [(.t 39), (.t 40)]⟩,
 ⟨(some 15), none, .mov (.t 41)⟩] [15])
 (.seq
 (.seq
 (.ops [
 ⟨(some 42), none, .mov (.t 15)⟩,
 ⟨(some 43), none, .bin .eql .no (.t 42) (.c (.int .i64 0))⟩,
 ⟨(some 44), none, .mov (.t 43)⟩,
 ⟨(some 45), (some (44, true)), .mov (.t 0)⟩,
 ⟨(some 46), (some (44, true)), .mov (.t 8)⟩,
 ⟨(some 47), (some (44, true)), .call (.c (.fn (.func 19) [] [])) [(.t 45), (.t 46)]⟩,
 ⟨(some 48), (some (44, true)), .not (.t 47)⟩,
 ⟨(some 49), none, .pick (.t 44) (.t 48) (.c (.bool false))⟩] [49])
 (.cond (.t 49)
 (.ops [
 ⟨(some 15), none, .mov (.c (.int .i64 2))⟩] [15])
 .skip))
 (.seq
 (.seq
 (.ops [
 ⟨(some 50), none, .mov (.t 15)⟩,
 ⟨(some 51), none, .bin .neq .no (.t 50) (.c (.int .i64 0))⟩] [51])
 (.cond (.t 51)
 (.seq
 (.ops [
 ⟨(some 52), none, .mov (.t 9)⟩,
 ⟨(some 53), none, .bin .eql .no (.t 52) (.c (.int .i64 0))⟩,
 ⟨(some 54), none, .mov (.t 53)⟩,
 ⟨(some 55), (some (54, true)), .mov (.t 10)⟩,
 ⟨(some 56), (some (54, true)), .bin .eql .no (.t 55) (.c (.int .i64 0))⟩,
 ⟨(some 57), none, .pick (.t 54) (.t 56) (.c (.bool false))⟩,
 ⟨(some 58), none, .mov (.t 57)⟩,
 ⟨(some 59), (some (58, true)), .mov (.t 11)⟩,
 ⟨(some 60), (some (58, true)), .bin .eql .no (.t 59) (.c (.int .i64 0))⟩,
 ⟨(some 61), none, .pick (.t 58) (.t 60) (.c (.bool false))⟩,
 ⟨(some 62), none, .mov (.t 61)⟩,
 ⟨(some 63), (some (62, true)), .mov (.t 12)⟩,
 ⟨(some 64), (some (62, true)), .mov (.t 15)⟩,
 ⟨(some 65), (some (62, true)), .bin .eql .no (.t 63) (.t 64)⟩,
 ⟨(some 66), none, .pick (.t 62) (.t 65) (.c (.bool false))⟩,
 ⟨(some 67), none, .mov (.t 66)⟩,
 ⟨(some 68), (some (67, true)), .mov (.t 13)⟩,
 ⟨(some 69), (some (67, true)), .lenS (.t 68)⟩,
 ⟨(some 70), (some (67, true)), .bin .eql .no (.t 69) (.c (.int .i64 0))⟩,
 ⟨(some 71), none, .pick (.t 67) (.t 70) (.c (.bool false))⟩,
 ⟨(some 72), none, .mov (.t 71)⟩,
 ⟨(some 73), (some (72, true)), .mov (.t 14)⟩,
 ⟨(some 74), (some (72, true)), .mov (.t 15)⟩,
 ⟨(some 75), (some (72, true)), .bin .eql .no (.t 73) (.t 74)⟩,
 ⟨(some 76), none, .pick (.t 72) (.t 75) (.c (.bool false))⟩,
 ⟨(some 77), none, .mov (.t 76)⟩,
 ⟨(some 78), (some (77, true)), .call (.c (.fn (.func 20) [] [])) []⟩,
 ⟨(some 79), none, .pick (.t 77) (.t 78) (.c (.bool false))⟩,
 ⟨(some 6), none, .mov (.t 79)⟩] [6])
 .ret)
 .skip))
 (.seq
 (.ops [
 ⟨(some 81), none, .mov (.t 7)⟩,
 ⟨(some 82), none, .mov (.t 8)⟩,
 ⟨(some 83), none, .call (.c (.fn (.func 21) [] [])) [(.t 81), (.t 82)]⟩,
 ⟨(some 80), none, .mov (.t 83)⟩,
 ⟨(some 84), none, .ext (.t 80) 0⟩,
 ⟨(some 85), none, .ext (.t 80) 1⟩,
 ⟨(some 86), none, .ext (.t 80) 2⟩,
 ⟨(some 16), none, .mov (.t 84)⟩,
 ⟨(some 17), none, .mov (.t 85)⟩,
 ⟨(some 18), none, .mov (.t 86)⟩] [16, 17, 18])
 (.seq
 (.ops [
 ⟨(some 87), none, .mov (.t 9)⟩,
 ⟨(some 88), none, .mov (.t 16)⟩,
 ⟨(some 89), none, .bin .eql .no (.t 87) (.t 88)⟩,
 ⟨(some 90), none, .mov (.t 89)⟩,
 ⟨(some 91), (some (90, true)), .mov (.t 10)⟩,
 ⟨(some 92), (some (90, true)), .mov (.t 17)⟩,
 ⟨(some 93), (some (90, true)), .bin .eql .no (.t 91) (.t 92)⟩,
 ⟨(some 94), none, .pick (.t 90) (.t 93) (.c (.bool false))⟩,
 ⟨(some 95), none, .mov (.t 94)⟩,
 ⟨(some 96), (some (95, true)), .mov (.t 11)⟩,
 ⟨(some 97), (some (95, true)), .mov (.t 18)⟩,
 ⟨(some 98), (some (95, true)), .bin .eql .no (.t 96) (.t 97)⟩,
 ⟨(some 99), none, .pick (.t 95) (.t 98) (.c (.bool false))⟩,
 ⟨(some 100), none, .mov (.t 99)⟩,
 ⟨(some 101), (some (100, true)), .mov (.t 12)⟩,
 ⟨(some 102), (some (100, true)), .bin .eql .no (.t 101) (.c (.int .i64 0))⟩,
 ⟨(some 103), none, .pick (.t 100) (.t 102) (.c (.bool false))⟩,
 ⟨(some 104), none, .mov (.t 103)⟩,
 ⟨(some 105), (some (104, true)), .mov (.t 13)⟩,
 ⟨(some 106), (some (104, true)), .mov (.t 7)⟩,
 ⟨(some 107), (some (104, true)), .mov (.t 8)⟩,
 ⟨(some 108), (some (104, true)), .call (.c (.fn (.func 23) [] [])) [(.t 106), (.t 107)]⟩,
 ⟨(some 109), (some (104, true)), .call (.c (.fn (.func 22) [] [])) [(.t 105), (.t 108)]⟩,
 ⟨(some 110), none, .pick (.t 104) (.t 109) (.c (.bool false))⟩,
 ⟨(some 111), none, .mov (.t 110)⟩,
 ⟨(some 112), (some (111, true)), .mov (.t 14)⟩,
 ⟨(some 113), (some (111, true)), .bin .eql .no (.t 112) (.c (.int .i64 0))⟩,
 ⟨(some 114), none, .pick (.t 111) (.t 113) (.c (.bool false))⟩,
 ⟨(some 115), none, .mov (.t 114)⟩,
 ⟨(some 116), (some (115, true)), .call (.c (.fn (.func 20) [] [])) []⟩,
 ⟨(some 117), none, .pick (.t 115) (.t 116) (.c (.bool false))⟩,
 ⟨(some 6), none, .mov (.t 117)⟩] [6])
 .ret))))))))),
 [.tmp 6]⟩

theorem c3 : compF Try.prog 3 = some sf3 := by kernel_rfl
end Go.Proofs.Ytihadgkgogfhcaa
