/- The law RouteSum, compiled. -/
import Derived.Test.YtihadgkgogfhcaaRows
import Derived.Test.YtihadgkgogfhcaaSA
import Derived.KernelRfl
set_option linter.unusedVariables false
set_option maxRecDepth 100000
namespace Go.Proofs.Ytihadgkgogfhcaa
open Go Go.Abs
/-- bellpull/bellpulllaw07.RouteSum -/
noncomputable def sf7 : SFun := ⟨[0, 1, 2, 6, 7, 8, 9, 11, 12, 13, 14, 15, 16, 17, 18, 47], 88,
 (.seq
 (.ops [
 ⟨(some 6), none, .mov (.c (.bool false))⟩] [6])
 (.seq
 (.ops [
 ⟨(some 20), none, .mov (.t 0)⟩,
 ⟨(some 21), none, .mov (.t 1)⟩,
 ⟨(some 22), none, .call (.c (.fn (.func 33) [] [])) [(.t 20), (.t 21), (.c (.int .i64 8))]⟩,
 ⟨(some 19), none, .mov (.t 22)⟩,
 ⟨(some 23), none, .ext (.t 19) 0⟩,
 ⟨(some 24), none, .ext (.t 19) 1⟩,
 ⟨(some 7), none, .mov (.t 23)⟩,
 ⟨(some 8), none, .mov (.t 24)⟩] [7, 8])
 (.seq
 (.ops [
 ⟨(some 25), none, .mov (.t 7)⟩,
 ⟨(some 26), none, .mov (.t 2)⟩,
 ⟨(some 27), none, .call (.c (.fn (.func 34) [] [])) [(.t 25), (.t 26)]⟩,
 ⟨(some 9), none, .mov (.t 27)⟩] [9])
 (.seq
 (.ops [
 ⟨(some 29), none, .mov (.t 7)⟩,
 ⟨(some 30), none, .mov (.t 8)⟩,
 ⟨(some 31), none, .mov (.t 9)⟩,
 ⟨(some 32), none, .call (.c (.fn (.func 16) [] [])) [(.t 29), (.t 30), (.t 31)]⟩,
 ⟨(some 28), none, .mov (.t 32)⟩,
 ⟨(some 33), none, .ext (.t 28) 0⟩,
 ⟨(some 34), none, .ext (.t 28) 1⟩,
 ⟨(some 35), none, .ext (.t 28) 2⟩,
 ⟨(some 36), none, .ext (.t 28) 3⟩,
 ⟨(some 10), none, .mov (.t 33)⟩,
 ⟨(some 11), none, .mov (.t 34)⟩,
 ⟨(some 12), none, .mov (.t 35)⟩,
 ⟨(some 13), none, .mov (.t 36)⟩] [11, 12, 13])
 (.seq
 (.ops [
 ⟨(some 38), none, .mov (.t 7)⟩,
 ⟨(some 39), none, .mov (.t 8)⟩,
 ⟨(some 40), none, .mov (.t 9)⟩,
 ⟨(some 41), none, .call (.c (.fn (.func 17) [] [])) [(.t 38), (.t 39), (.t 40)]⟩,
 ⟨(some 37), none, .mov (.t 41)⟩,
 ⟨(some 42), none, .ext (.t 37) 0⟩,
 ⟨(some 43), none, .ext (.t 37) 1⟩,
 ⟨(some 14), none, .mov (.t 42)⟩,
 ⟨(some 15), none, .mov (.t 43)⟩] [14, 15])
 (.seq
 (.ops [
 ⟨(some 16), none, .mov (.c (.int .i64 0))⟩,
 ⟨(some 17), none, .mov (.c (.int .i64 0))⟩] [16, 17])
 (.seq
 (.seq
 (.ops [
 ⟨(some 18), none, .mov (.c (.int .i64 0))⟩] [18])
 (.block 0
 (.loop
 (.seq
 (.seq
 (.ops [
 ⟨(some 44), none, .mov (.t 18)⟩,
 ⟨(some 45), none, .mov (.t 14)⟩,
 ⟨(some 46), none, .lenS (.t 45)⟩,
 ⟨(some 47), none, .bin .lss .no (.t 44) (.t 46)⟩] [47])
 (.cond (.t 47)
 .skip
 (.exit 0)))
 (.seq
 (.block 1
 (.seq
 (.ops [
 ⟨(some 50), none, .mov (.t 16)⟩,
 ⟨(some 51), none, .mov (.t 14)⟩,
 ⟨(some 52), none, .mov (.t 18)⟩,
 ⟨(some 53), none, .ixS 1 (.t 51) (.t 52)⟩,
 ⟨(some 54), none, .load none (.t 53)⟩,
 ⟨(some 55), none, .bin .add .no (.t 50) (.t 54)⟩,
 ⟨(some 16), none, .mov (.t 55)⟩] [16])
 (.ops [
 ⟨(some 56), none, .mov (.t 17)⟩,
 ⟨(some 57), none, .mov (.t 14)⟩,
 ⟨(some 58), none, .mov (.t 18)⟩,
 ⟨(some 59), none, .ixS 1 (.t 57) (.t 58)⟩,
 ⟨(some 60), none, .load none (.t 59)⟩,
 ⟨(some 61), none, .mx (.t 56) (.t 60)⟩,
 ⟨(some 17), none, .mov (.t 61)⟩] [17])))
 (.ops [
 ⟨(some 48), none, .mov (.t 18)⟩,
 ⟨(some 49), none, .bin .add .no (.t 48) (.c (.int .i64 1))⟩,
 ⟨(some 18), none, .mov (.t 49)⟩] [18]))))))
 (.seq
 (.ops [
 ⟨(some 62), none, .mov (.t 13)⟩,
 ⟨(some 63), none, .bin .eql .no (.t 62) (.c (.int .i64 0))⟩,
 ⟨(some 64), none, .mov (.t 63)⟩,
 ⟨(some 65), (some (64, true)), .mov (.t 15)⟩,
 ⟨(some 66), (some (64, true)), .bin .eql .no (.t 65) (.c (.int .i64 0))⟩,
 ⟨(some 67), none, .pick (.t 64) (.t 66) (.c (.bool false))⟩,
 ⟨(some 68), none, .mov (.t 67)⟩,
 ⟨(some 69), (some (68, true)), .mov (.t 14)⟩,
 ⟨(some 70), (some (68, true)), .lenS (.t 69)⟩,
 ⟨(some 71), (some (68, true)), .mov (.t 7)⟩,
 ⟨(some 72), (some (68, true)), .bin .sub .no (.t 71) (.c (.int .i64 1))⟩,
 ⟨(some 73), (some (68, true)), .bin .eql .no (.t 70) (.t 72)⟩,
 ⟨(some 74), none, .pick (.t 68) (.t 73) (.c (.bool false))⟩,
 ⟨(some 75), none, .mov (.t 74)⟩,
 ⟨(some 76), (some (75, true)), .mov (.t 16)⟩,
 ⟨(some 77), (some (75, true)), .mov (.t 12)⟩,
 ⟨(some 78), (some (75, true)), .bin .eql .no (.t 76) (.t 77)⟩,
 ⟨(some 79), none, .pick (.t 75) (.t 78) (.c (.bool false))⟩,
 ⟨(some 80), none, .mov (.t 79)⟩,
 ⟨(some 81), (some (80, true)), .mov (.t 17)⟩,
 ⟨(some 82), (some (80, true)), .mov (.t 11)⟩,
 ⟨(some 83), (some (80, true)), .bin .eql .no (.t 81) (.t 82)⟩,
 ⟨(some 84), none, .pick (.t 80) (.t 83) (.c (.bool false))⟩,
 ⟨(some 85), none, .mov (.t 84)⟩,
 ⟨(some 86), (some (85, true)), .call (.c (.fn (.func 20) [] [])) []⟩,
 ⟨(some 87), none, .pick (.t 85) (.t 86) (.c (.bool false))⟩,
 ⟨(some 6), none, .mov (.t 87)⟩] [6])
 .ret)))))))),
 [.tmp 6]⟩

theorem c7 : compF Try.prog 7 = some sf7 := by kernel_rfl
end Go.Proofs.Ytihadgkgogfhcaa
