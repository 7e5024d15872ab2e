/- The law RouteBounds, compiled. -/
import Derived.Test.YtihadgkgogfhcaaRows
import Derived.Test.YtihadgkgogfhcaaSA
import Derived.KernelRfl
set_option linter.unusedVariables false
set_option maxRecDepth 100000
namespace Go.Proofs.Ytihadgkgogfhcaa
open Go Go.Abs
/-- bellpull/bellpulllaw07.RouteBounds -/
noncomputable def sf5 : SFun := ⟨[0, 1, 2, 6, 7, 8, 9, 10, 11, 12, 13, 14, 44, 51, 60, 65, 80], 100,
 (.seq
 (.ops [
 ⟨(some 6), none, .mov (.c (.bool false))⟩] [6])
 (.seq
 (.ops [
 ⟨(some 15), none, .mov (.t 1)⟩,
 ⟨(some 16), none, .call (.c (.fn (.func 14) [] [])) [(.t 15)]⟩,
 ⟨(some 17), none, .mov (.t 2)⟩,
 ⟨(some 18), none, .call (.c (.fn (.func 15) [] [])) [(.t 17)]⟩,
 ⟨(some 7), none, .mov (.t 16)⟩,
 ⟨(some 8), none, .mov (.t 18)⟩] [7, 8])
 (.seq
 (.ops [
 ⟨(some 20), none, .mov (.t 0)⟩,
 ⟨(some 21), none, .mov (.t 7)⟩,
 ⟨(some 22), none, .call (.c (.fn (.func 29) [] [])) [(.t 20), (.t 21)]⟩,
 ⟨(some 19), none, .mov (.t 22)⟩,
 ⟨(some 23), none, .ext (.t 19) 0⟩,
 ⟨(some 24), none, .ext (.t 19) 1⟩,
 ⟨(some 9), none, .mov (.t 23)⟩,
 ⟨(some 10), none, .mov (.t 24)⟩] [9, 10])
 (.seq
 (.ops [
 ⟨(some 26), none, .mov (.t 8)⟩,
 ⟨(some 27), none, .call (.c (.fn (.func 30) [] [])) [(.t 26)]⟩,
 ⟨(some 25), none, .mov (.t 27)⟩,
 ⟨(some 28), none, .ext (.t 25) 0⟩,
 ⟨(some 29), none, .ext (.t 25) 1⟩,
 ⟨(some 11), none, .mov (.t 28)⟩,
 ⟨(some 12), none, .mov (.t 29)⟩] [11, 12])
 (.seq
 (.seq
 (.ops [
 ⟨(some 30), none, .mov (.t 8)⟩,
 ⟨(some 31), none, .lenS (.t 30)⟩,
 ⟨(some 32), none, .bin .lss .no (.t 31) (.c (.int .i64 1))⟩,
 ⟨(some 33), none, .mov (.t 32)⟩,
 ⟨(some 34), (some (33, false)), .mov (.t 8)⟩,
 ⟨(some 35), (some (33, false)), .lenS (.t 34)⟩,
 ⟨(some 36), (some (33, false)), .bin .gtr .no (.t 35) (.c (.int .i64 8))⟩,
 ⟨(some 37), none, .pick (.t 33) (.c (.bool true)) (.t 36)⟩,
 ⟨(some 38), none, .mov (.t 37)⟩,
 ⟨(some 39), (some (38, false)), .mov (.t 8)⟩,
 ⟨(some 40), (some (38, false)), .lenS (.t 39)⟩,
 ⟨(some 41), (some (38, false)), .mov (.t 8)⟩,
 ⟨(some 42), (some (38, false)), .call (.c (.fn (.func 19) [] [])) [(.t 40), (.t 41)]⟩,
 ⟨(some 43), (some (38, false)), .not (.t 42)⟩,
 ⟨(some 44), none, .pick (.t 38) (.c (.bool true)) (.t 43)⟩] [44])
 (.cond (.t 44)
 (.seq
 (.ops [
 ⟨(some 45), none, .mov (.t 11)⟩,
 ⟨(some 46), none, .lenS (.t 45)⟩,
 ⟨(some 47), none, .bin .neq .no (.t 46) (.c (.int .i64 0))⟩,
 ⟨(some 48), none, .mov (.t 47)⟩,
 ⟨(some 49), (some (48, false)), .mov (.t 12)⟩,
 ⟨(some 50), (some (48, false)), .bin .neq .no (.t 49) (.c (.int .i64 2))⟩,
 ⟨(some 51), none, .pick (.t 48) (.c (.bool true)) (.t 50)⟩] [51])
 (.cond (.t 51)
 (.seq
 (.ops [
 ⟨(some 6), none, .mov (.c (.bool false))⟩] [6])
 .ret)
 .skip))
 (.seq
 (.ops [
 ⟨(some 52), none, .mov (.t 11)⟩,
 ⟨(some 53), none, .mov (.t 8)⟩,
 ⟨(some 54), none, .call (.c (.fn (.func 31) [] [])) [(.t 53)]⟩,
 ⟨(some 55), none, .call (.c (.fn (.func 22) [] [])) [(.t 52), (.t 54)]⟩,
 ⟨(some 56), none, .not (.t 55)⟩,
 ⟨(some 57), none, .mov (.t 56)⟩,
 ⟨(some 58), (some (57, false)), .mov (.t 12)⟩,
 ⟨(some 59), (some (57, false)), .bin .neq .no (.t 58) (.c (.int .i64 0))⟩,
 ⟨(some 60), none, .pick (.t 57) (.c (.bool true)) (.t 59)⟩] [60])
 (.cond (.t 60)
 (.seq
 (.ops [
 ⟨(some 6), none, .mov (.c (.bool false))⟩] [6])
 .ret)
 .skip))))
 (.seq
 (.seq
 (.ops [
 ⟨(some 61), none, .mov (.t 0)⟩,
 ⟨(some 62), none, .mov (.t 7)⟩,
 ⟨(some 63), none, .call (.c (.fn (.func 18) [] [])) [(.t 61), (.t 62)]⟩,
 ⟨(some 13), none, .mov (.t 63)⟩] [13])
 (.seq
 (.ops [
 ⟨(some 64), none, .mov (.t 13)⟩,
 ⟨(some 65), none, .bin .neq .no (.t 64) (.c (.int .i64 0))⟩] [65])
 (.cond (.t 65)
 (.seq
 (.ops [
 ⟨(some 66), none, .mov (.t 9)⟩,
 ⟨(some 67), none, .bin .eql .no (.t 66) (.c (.int .i64 0))⟩,
 ⟨(some 68), none, .mov (.t 67)⟩,
 ⟨(some 69), (some (68, true)), .mov (.t 10)⟩,
 ⟨(some 70), (some (68, true)), .mov (.t 13)⟩,
 ⟨(some 71), (some (68, true)), .bin .eql .no (.t 69) (.t 70)⟩,
 ⟨(some 72), none, .pick (.t 68) (.t 71) (.c (.bool false))⟩,
 ⟨(some 73), none, .mov (.t 72)⟩,
 ⟨(some 74), (some (73, true)), .call (.c (.fn (.func 20) [] [])) []⟩,
 ⟨(some 75), none, .pick (.t 73) (.t 74) (.c (.bool false))⟩,
 ⟨(some 6), none, .mov (.t 75)⟩] [6])
 .ret)
 .skip)))
 (.seq
 (.seq
 (.ops [
 ⟨(some 76), none, .mov (.t 0)⟩,
 ⟨(some 77), none, .mov (.t 7)⟩,
 ⟨(some 78), none, .call (.c (.fn (.func 32) [] [])) [(.t 76), (.t 77)]⟩,
 ⟨(some 14), none, .mov (.t 78)⟩] [14])
 (.seq
 (.ops [
 ⟨(some 79), none, .mov (.t 14)⟩,
 ⟨(some 80), none, .bin .geq .no (.t 79) (.c (.int .i64 0))⟩] [80])
 (.cond (.t 80)
 (.seq
 (.ops [
 ⟨(some 81), none, .mov (.t 9)⟩,
 ⟨(some 82), none, .mov (.t 14)⟩,
 ⟨(some 83), none, .bin .eql .no (.t 81) (.t 82)⟩,
 ⟨(some 84), none, .mov (.t 83)⟩,
 ⟨(some 85), (some (84, true)), .mov (.t 10)⟩,
 ⟨(some 86), (some (84, true)), .bin .eql .no (.t 85) (.c (.int .i64 0))⟩,
 ⟨(some 87), none, .pick (.t 84) (.t 86) (.c (.bool false))⟩,
 ⟨(some 88), none, .mov (.t 87)⟩,
 ⟨(some 89), (some (88, true)), .call (.c (.fn (.func 20) [] [])) []⟩,
 ⟨(some 90), none, .pick (.t 88) (.t 89) (.c (.bool false))⟩,
 ⟨(some 6), none, .mov (.t 90)⟩] [6])
 .ret)
 .skip)))
 (.seq
 (.ops [
 ⟨(some 91), none, .mov (.t 9)⟩,
 ⟨(some 92), none, .bin .eql .no (.t 91) (.c (.int .i64 0))⟩,
 ⟨(some 93), none, .mov (.t 92)⟩,
 ⟨(some 94), (some (93, true)), .mov (.t 10)⟩,
 ⟨(some 95), (some (93, true)), .bin .eql .no (.t 94) (.c (.int .i64 5))⟩,
 ⟨(some 96), none, .pick (.t 93) (.t 95) (.c (.bool false))⟩,
 ⟨(some 97), none, .mov (.t 96)⟩,
 ⟨(some 98), (some (97, true)), .call (.c (.fn (.func 20) [] [])) []⟩,
 ⟨(some 99), none, .pick (.t 97) (.t 98) (.c (.bool false))⟩,
 ⟨(some 6), none, .mov (.t 99)⟩] [6])
 .ret)))))))),
 [.tmp 6]⟩

theorem c5 : compF Try.prog 5 = some sf5 := by kernel_rfl
end Go.Proofs.Ytihadgkgogfhcaa
