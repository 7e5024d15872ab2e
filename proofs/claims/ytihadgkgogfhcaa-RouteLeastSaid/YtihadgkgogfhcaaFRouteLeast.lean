/- The law RouteLeast, compiled. -/
import Derived.Test.YtihadgkgogfhcaaRows
import Derived.Test.YtihadgkgogfhcaaSA
import Derived.KernelRfl
set_option linter.unusedVariables false
set_option maxRecDepth 100000
namespace Go.Proofs.Ytihadgkgogfhcaa
open Go Go.Abs
/-- bellpull/bellpulllaw07.RouteLeast -/
noncomputable def sf4 : SFun := ⟨[0, 1, 4, 5, 6, 7, 8, 9, 10, 11, 12, 13, 14, 15, 16, 27, 51], 129,
 (.seq
 (.ops [
 ⟨(some 4), none, .mov (.c (.bool false))⟩] [4])
 (.seq
 (.ops [
 ⟨(some 17), none, .mov (.t 1)⟩,
 ⟨(some 18), none, .call (.c (.fn (.func 14) [] [])) [(.t 17)]⟩,
 ⟨(some 5), none, .mov (.t 18)⟩] [5])
 (.seq
 (.ops [
 ⟨(some 19), none, .mov (.t 0)⟩,
 ⟨(some 20), none, .mov (.t 5)⟩,
 ⟨(some 21), none, .call (.c (.fn (.func 18) [] [])) [(.t 19), (.t 20)]⟩,
 ⟨(some 6), none, .mov (.t 21)⟩] [6])
 (.seq
 (.seq
 (.ops [
 ⟨(some 22), none, .mov (.t 6)⟩,
 ⟨(some 23), none, .bin .eql .no (.t 22) (.c (.int .i64 0))⟩,
 ⟨(some 24), none, .mov (.t 23)⟩,
 ⟨(some 25), (some (24, true)), .mov (.t 0)⟩,
 ⟨(some 26), (some (24, true)), .bin .gtr .no (.t 25) (.c (.int .i64 7))⟩,
 ⟨(some 27), none, .pick (.t 24) (.t 26) (.c (.bool false))⟩] [27])
 (.cond (.t 27)
 (.seq
 (.ops [
 ⟨(some 28), none, .call (.c (.fn (.func 20) [] [])) []⟩,
 ⟨(some 4), none, .mov (.t 28)⟩] [4])
 .ret)
 .skip))
 (.seq
 (.ops [
 ⟨(some 30), none, .mov (.t 0)⟩,
 ⟨(some 31), none, .mov (.t 5)⟩,
 ⟨(some 32), none, .call (.c (.fn (.func 24) [] [])) [(.t 30), (.t 31)]⟩,
 ⟨(some 29), none, .mov (.t 32)⟩,
 ⟨(some 33), none, .ext (.t 29) 0⟩,
 ⟨(some 34), none, .ext (.t 29) 1⟩,
 ⟨(some 35), none, .ext (.t 29) 2⟩,
 ⟨(some 7), none, .mov (.t 33)⟩,
 ⟨(some 8), none, .mov (.t 34)⟩,
 ⟨(some 9), none, .mov (.t 35)⟩] [7, 8, 9])
 (.seq
 (.ops [
 ⟨(some 37), none, .mov (.t 0)⟩,
 ⟨(some 38), none, .mov (.t 5)⟩,
 ⟨(some 39), none, .call (.c (.fn (.func 25) [] [])) [(.t 37), (.t 38)]⟩,
 ⟨(some 36), none, .mov (.t 39)⟩,
 ⟨(some 40), none, .ext (.t 36) 0⟩,
 ⟨(some 41), none, .ext (.t 36) 1⟩,
 ⟨(some 42), none, .ext (.t 36) 2⟩,
 ⟨(some 10), none, .mov (.t 40)⟩,
 ⟨(some 11), none, .mov (.t 41)⟩,
 ⟨(some 12), none, .mov (.t 42)⟩] [10, 11, 12])
 (.seq
 (.ops [
 ⟨(some 44), none, .mov (.t 0)⟩,
 ⟨(some 45), none, .mov (.t 5)⟩,
 ⟨(some 46), none, .call (.c (.fn (.func 26) [] [])) [(.t 44), (.t 45)]⟩,
 ⟨(some 43), none, .mov (.t 46)⟩,
 ⟨(some 47), none, .ext (.t 43) 0⟩,
 ⟨(some 48), none, .ext (.t 43) 1⟩,
 ⟨(some 49), none, .ext (.t 43) 2⟩,
 ⟨(some 13), none, .mov (.t 47)⟩,
 ⟨(some 14), none, .mov (.t 48)⟩,
 ⟨(some 15), none, .mov (.t 49)⟩] [13, 14, 15])
 (.seq
 (.seq
 (.ops [
 ⟨(some 50), none, .mov (.t 6)⟩,
 ⟨(some 51), none, .bin .neq .no (.t 50) (.c (.int .i64 0))⟩] [51])
 (.cond (.t 51)
 (.seq
 (.ops [
 ⟨(some 52), none, .mov (.t 7)⟩,
 ⟨(some 53), none, .bin .eql .no (.t 52) (.c (.int .i64 0))⟩,
 ⟨(some 54), none, .mov (.t 53)⟩,
 ⟨(some 55), (some (54, true)), .mov (.t 10)⟩,
 ⟨(some 56), (some (54, true)), .bin .eql .no (.t 55) (.c (.int .i64 0))⟩,
 ⟨(some 57), none, .pick (.t 54) (.t 56) (.c (.bool false))⟩,
 ⟨(some 58), none, .mov (.t 57)⟩,
 ⟨(some 59), (some (58, true)), .mov (.t 13)⟩,
 ⟨(some 60), (some (58, true)), .bin .eql .no (.t 59) (.c (.int .i64 0))⟩,
 ⟨(some 61), none, .pick (.t 58) (.t 60) (.c (.bool false))⟩,
 ⟨(some 62), none, .mov (.t 61)⟩,
 ⟨(some 63), (some (62, true)), .mov (.t 8)⟩,
 ⟨(some 64), (some (62, true)), .lenS (.t 63)⟩,
 ⟨(some 65), (some (62, true)), .mov (.t 11)⟩,
 ⟨(some 66), (some (62, true)), .lenS (.t 65)⟩,
 ⟨(some 67), (some (62, true)), .bin .add .no (.t 64) (.t 66)⟩,
 ⟨(some 68), (some (62, true)), .mov (.t 14)⟩,
 ⟨(some 69), (some (62, true)), .lenS (.t 68)⟩,
 ⟨(some 70), (some (62, true)), .bin .add .no (.t 67) (.t 69)⟩,
 ⟨(some 71), (some (62, true)), .bin .eql .no (.t 70) (.c (.int .i64 0))⟩,
 ⟨(some 72), none, .pick (.t 62) (.t 71) (.c (.bool false))⟩,
 ⟨(some 73), none, .mov (.t 72)⟩,
 ⟨(some 74), (some (73, true)), .mov (.t 9)⟩,
 ⟨(some 75), (some (73, true)), .mov (.t 6)⟩,
 ⟨(some 76), (some (73, true)), .bin .eql .no (.t 74) (.t 75)⟩,
 ⟨(some 77), none, .pick (.t 73) (.t 76) (.c (.bool false))⟩,
 ⟨(some 78), none, .mov (.t 77)⟩,
 ⟨(some 79), (some (78, true)), .mov (.t 12)⟩,
 ⟨(some 80), (some (78, true)), .mov (.t 6)⟩,
 ⟨(some 81), (some (78, true)), .bin .eql .no (.t 79) (.t 80)⟩,
 ⟨(some 82), none, .pick (.t 78) (.t 81) (.c (.bool false))⟩,
 ⟨(some 83), none, .mov (.t 82)⟩,
 ⟨(some 84), (some (83, true)), .mov (.t 15)⟩,
 ⟨(some 85), (some (83, true)), .mov (.t 6)⟩,
 ⟨(some 86), (some (83, true)), .bin .eql .no (.t 84) (.t 85)⟩,
 ⟨(some 87), none, .pick (.t 83) (.t 86) (.c (.bool false))⟩,
 ⟨(some 88), none, .mov (.t 87)⟩,
 ⟨(some 89), (some (88, true)), .call (.c (.fn (.func 20) [] [])) []⟩,
 ⟨(some 90), none, .pick (.t 88) (.t 89) (.c (.bool false))⟩,
 ⟨(some 4), none, .mov (.t 90)⟩] [4])
 .ret)
 .skip))
 (.seq
 (.ops [
 ⟨(some 91), none, .mov (.t 0)⟩,
 ⟨(some 92), none, .mov (.t 5)⟩,
 ⟨(some 93), none, .call (.c (.fn (.func 27) [] [])) [(.t 91), (.t 92)]⟩,
 ⟨(some 16), none, .mov (.t 93)⟩] [16])
 (.seq
 (.ops [
 ⟨(some 94), none, .mov (.t 9)⟩,
 ⟨(some 95), none, .bin .eql .no (.t 94) (.c (.int .i64 0))⟩,
 ⟨(some 96), none, .mov (.t 95)⟩,
 ⟨(some 97), (some (96, true)), .mov (.t 12)⟩,
 ⟨(some 98), (some (96, true)), .bin .eql .no (.t 97) (.c (.int .i64 0))⟩,
 ⟨(some 99), none, .pick (.t 96) (.t 98) (.c (.bool false))⟩,
 ⟨(some 100), none, .mov (.t 99)⟩,
 ⟨(some 101), (some (100, true)), .mov (.t 15)⟩,
 ⟨(some 102), (some (100, true)), .bin .eql .no (.t 101) (.c (.int .i64 0))⟩,
 ⟨(some 103), none, .pick (.t 100) (.t 102) (.c (.bool false))⟩,
 ⟨(some 104), none, .mov (.t 103)⟩,
 ⟨(some 105), (some (104, true)), .mov (.t 7)⟩,
 ⟨(some 106), (some (104, true)), .mov (.t 10)⟩,
 ⟨(some 107), (some (104, true)), .mov (.t 13)⟩,
 ⟨(some 108), (some (104, true)), .buildS [(.int .i64 0)] 3 1 [(0, (.t 105)), (1, (.t 106)), (2, (.t 107))]⟩,
 ⟨(some 109), (some (104, true)), .mov (.t 16)⟩,
 ⟨(some 110), (some (104, true)), .nilCheck (.t 109)⟩,
 ⟨(some 111), (some (104, true)), .fa 0 (.t 110)⟩,
 ⟨(some 112), (some (104, true)), .load none (.t 111)⟩,
 ⟨(some 113), (some (104, true)), .call (.c (.fn (.func 22) [] [])) [(.t 108), (.t 112)]⟩,
 ⟨(some 114), none, .pick (.t 104) (.t 113) (.c (.bool false))⟩,
 ⟨(some 115), none, .mov (.t 114)⟩,
 ⟨(some 116), (some (115, true)), .mov (.t 8)⟩,
 ⟨(some 117), (some (115, true)), .mov (.t 11)⟩,
 ⟨(some 118), (some (115, true)), .mov (.t 14)⟩,
 ⟨(some 119), (some (115, true)), .buildS [.nilsl] 3 1 [(0, (.t 116)), (1, (.t 117)), (2, (.t 118))]⟩,
 ⟨(some 120), (some (115, true)), .mov (.t 16)⟩,
 ⟨(some 121), (some (115, true)), .nilCheck (.t 120)⟩,
 ⟨(some 122), (some (115, true)), .fa 1 (.t 121)⟩,
 ⟨(some 123), (some (115, true)), .load none (.t 122)⟩,
 ⟨(some 124), (some (115, true)), .call (.c (.fn (.func 28) [] [])) [(.t 119), (.t 123)]⟩,
 ⟨(some 125), none, .pick (.t 115) (.t 124) (.c (.bool false))⟩,
 ⟨(some 126), none, .mov (.t 125)⟩,
 ⟨(some 127), (some (126, true)), .call (.c (.fn (.func 20) [] [])) []⟩,
 ⟨(some 128), none, .pick (.t 126) (.t 127) (.c (.bool false))⟩,
 ⟨(some 4), none, .mov (.t 128)⟩] [4])
 .ret)))))))))),
 [.tmp 4]⟩

theorem c4 : compF Try.prog 4 = some sf4 := by kernel_rfl
end Go.Proofs.Ytihadgkgogfhcaa
