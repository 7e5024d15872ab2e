/- The law RouteReversed, compiled. -/
import Derived.Test.YtihadgkgogfhcaaRows
import Derived.Test.YtihadgkgogfhcaaSA
import Derived.KernelRfl
set_option linter.unusedVariables false
set_option maxRecDepth 100000
namespace Go.Proofs.Ytihadgkgogfhcaa
open Go Go.Abs
/-- bellpull/bellpulllaw07.RouteReversed -/
noncomputable def sf12 : SFun := ⟨[0, 1, 2, 6, 7, 8, 9, 10, 11, 12, 13, 14, 15, 16, 17, 18, 19, 20, 21, 22, 23], 112,
 (.seq
 (.ops [
 ⟨(some 6), none, .mov (.c (.bool false))⟩] [6])
 (.seq
 (.ops [
 ⟨(some 25), none, .mov (.t 0)⟩,
 ⟨(some 26), none, .mov (.t 1)⟩,
 ⟨(some 27), none, .call (.c (.fn (.func 33) [] [])) [(.t 25), (.t 26), (.c (.int .i64 8))]⟩,
 ⟨(some 24), none, .mov (.t 27)⟩,
 ⟨(some 28), none, .ext (.t 24) 0⟩,
 ⟨(some 29), none, .ext (.t 24) 1⟩,
 ⟨(some 7), none, .mov (.t 28)⟩,
 ⟨(some 8), none, .mov (.t 29)⟩] [7, 8])
 (.seq
 (.ops [
 ⟨(some 30), none, .mov (.t 7)⟩,
 ⟨(some 31), none, .mov (.t 2)⟩,
 ⟨(some 32), none, .call (.c (.fn (.func 34) [] [])) [(.t 30), (.t 31)]⟩,
 ⟨(some 9), none, .mov (.t 32)⟩] [9])
 (.seq
 (.ops [
 ⟨(some 34), none, .mov (.t 9)⟩,
 ⟨(some 35), none, .call (.c (.fn (.func 30) [] [])) [(.t 34)]⟩,
 ⟨(some 33), none, .mov (.t 35)⟩,
 ⟨(some 36), none, .ext (.t 33) 0⟩,
 ⟨(some 37), none, .ext (.t 33) 1⟩,
 ⟨(some 10), none, .mov (.t 36)⟩,
 ⟨(some 11), none, .mov (.t 37)⟩] [10, 11])
 (.seq
 (.ops [
 ⟨(some 39), none, .mov (.t 7)⟩,
 ⟨(some 40), none, .mov (.t 8)⟩,
 ⟨(some 41), none, .mov (.t 9)⟩,
 ⟨(some 42), none, .call (.c (.fn (.func 16) [] [])) [(.t 39), (.t 40), (.t 41)]⟩,
 ⟨(some 38), none, .mov (.t 42)⟩,
 ⟨(some 43), none, .ext (.t 38) 0⟩,
 ⟨(some 44), none, .ext (.t 38) 1⟩,
 ⟨(some 45), none, .ext (.t 38) 2⟩,
 ⟨(some 46), none, .ext (.t 38) 3⟩,
 ⟨(some 12), none, .mov (.t 43)⟩,
 ⟨(some 13), none, .mov (.t 44)⟩,
 ⟨(some 14), none, .mov (.t 45)⟩,
 ⟨(some 15), none, .mov (.t 46)⟩] [12, 13, 14, 15])
 (.seq
 (.ops [
 ⟨(some 48), none, .mov (.t 7)⟩,
 ⟨(some 49), none, .mov (.t 8)⟩,
 ⟨(some 50), none, .mov (.t 10)⟩,
 ⟨(some 51), none, .call (.c (.fn (.func 16) [] [])) [(.t 48), (.t 49), (.t 50)]⟩,
 ⟨(some 47), none, .mov (.t 51)⟩,
 ⟨(some 52), none, .ext (.t 47) 0⟩,
 ⟨(some 53), none, .ext (.t 47) 1⟩,
 ⟨(some 54), none, .ext (.t 47) 2⟩,
 ⟨(some 55), none, .ext (.t 47) 3⟩,
 ⟨(some 16), none, .mov (.t 52)⟩,
 ⟨(some 17), none, .mov (.t 53)⟩,
 ⟨(some 18), none, .mov (.t 54)⟩,
 ⟨(some 19), none, .mov (.t 55)⟩] [16, 17, 18, 19])
 (.seq
 (.ops [
 ⟨(some 57), none, .mov (.t 7)⟩,
 ⟨(some 58), none, .mov (.t 8)⟩,
 ⟨(some 59), none, .mov (.t 9)⟩,
 ⟨(some 60), none, .call (.c (.fn (.func 17) [] [])) [(.t 57), (.t 58), (.t 59)]⟩,
 ⟨(some 56), none, .mov (.t 60)⟩,
 ⟨(some 61), none, .ext (.t 56) 0⟩,
 ⟨(some 62), none, .ext (.t 56) 1⟩,
 ⟨(some 20), none, .mov (.t 61)⟩,
 ⟨(some 21), none, .mov (.t 62)⟩] [20, 21])
 (.seq
 (.ops [
 ⟨(some 64), none, .mov (.t 7)⟩,
 ⟨(some 65), none, .mov (.t 8)⟩,
 ⟨(some 66), none, .mov (.t 10)⟩,
 ⟨(some 67), none, .call (.c (.fn (.func 17) [] [])) [(.t 64), (.t 65), (.t 66)]⟩,
 ⟨(some 63), none, .mov (.t 67)⟩,
 ⟨(some 68), none, .ext (.t 63) 0⟩,
 ⟨(some 69), none, .ext (.t 63) 1⟩,
 ⟨(some 22), none, .mov (.t 68)⟩,
 ⟨(some 23), none, .mov (.t 69)⟩] [22, 23])
 (.seq
 (.ops [
 ⟨(some 70), none, .mov (.t 11)⟩,
 ⟨(some 71), none, .bin .eql .no (.t 70) (.c (.int .i64 0))⟩,
 ⟨(some 72), none, .mov (.t 71)⟩,
 ⟨(some 73), (some (72, true)), .mov (.t 15)⟩,
 ⟨(some 74), (some (72, true)), .bin .eql .no (.t 73) (.c (.int .i64 0))⟩,
 ⟨(some 75), none, .pick (.t 72) (.t 74) (.c (.bool false))⟩,
 ⟨(some 76), none, .mov (.t 75)⟩,
 ⟨(some 77), (some (76, true)), .mov (.t 19)⟩,
 ⟨(some 78), (some (76, true)), .bin .eql .no (.t 77) (.c (.int .i64 0))⟩,
 ⟨(some 79), none, .pick (.t 76) (.t 78) (.c (.bool false))⟩,
 ⟨(some 80), none, .mov (.t 79)⟩,
 ⟨(some 81), (some (80, true)), .mov (.t 21)⟩,
 ⟨(some 82), (some (80, true)), .bin .eql .no (.t 81) (.c (.int .i64 0))⟩,
 ⟨(some 83), none, .pick (.t 80) (.t 82) (.c (.bool false))⟩,
 ⟨(some 84), none, .mov (.t 83)⟩,
 ⟨(some 85), (some (84, true)), .mov (.t 23)⟩,
 ⟨(some 86), (some (84, true)), .bin .eql .no (.t 85) (.c (.int .i64 0))⟩,
 ⟨(some 87), none, .pick (.t 84) (.t 86) (.c (.bool false))⟩,
 ⟨(some 88), none, .mov (.t 87)⟩,
 ⟨(some 89), (some (88, true)), .mov (.t 12)⟩,
 ⟨(some 90), (some (88, true)), .mov (.t 16)⟩,
 ⟨(some 91), (some (88, true)), .bin .eql .no (.t 89) (.t 90)⟩,
 ⟨(some 92), none, .pick (.t 88) (.t 91) (.c (.bool false))⟩,
 ⟨(some 93), none, .mov (.t 92)⟩,
 ⟨(some 94), (some (93, true)), .mov (.t 13)⟩,
 ⟨(some 95), (some (93, true)), .mov (.t 17)⟩,
 ⟨(some 96), (some (93, true)), .bin .eql .no (.t 94) (.t 95)⟩,
 ⟨(some 97), none, .pick (.t 93) (.t 96) (.c (.bool false))⟩,
 ⟨(some 98), none, .mov (.t 97)⟩,
 ⟨(some 99), (some (98, true)), .mov (.t 14)⟩,
 ⟨(some 100), (some (98, true)), .mov (.t 18)⟩,
 ⟨(some 101), (some (98, true)), .bin .eql .no (.t 99) (.t 100)⟩,
 ⟨(some 102), none, .pick (.t 98) (.t 101) (.c (.bool false))⟩,
 ⟨(some 103), none, .mov (.t 102)⟩,
 ⟨(some 104), (some (103, true)), .mov (.t 20)⟩,
 ⟨(some 105), (some (103, true)), .mov (.t 22)⟩,
 ⟨(some 106), (some (103, true)), .call (.c (.fn (.func 31) [] [])) [(.t 105)]⟩,
 ⟨(some 107), (some (103, true)), .call (.c (.fn (.func 22) [] [])) [(.t 104), (.t 106)]⟩,
 ⟨(some 108), none, .pick (.t 103) (.t 107) (.c (.bool false))⟩,
 ⟨(some 109), none, .mov (.t 108)⟩,
 ⟨(some 110), (some (109, true)), .call (.c (.fn (.func 20) [] [])) []⟩,
 ⟨(some 111), none, .pick (.t 109) (.t 110) (.c (.bool false))⟩,
 ⟨(some 6), none, .mov (.t 111)⟩] [6])
 .ret))))))))),
 [.tmp 6]⟩

theorem c12 : compF Try.prog 12 = some sf12 := by kernel_rfl
end Go.Proofs.Ytihadgkgogfhcaa
