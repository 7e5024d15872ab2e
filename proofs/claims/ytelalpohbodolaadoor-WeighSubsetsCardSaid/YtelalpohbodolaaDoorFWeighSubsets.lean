/- The law WeighSubsets, compiled. -/
import Derived.Test.YtelalpohbodolaaDoorRows
import Derived.Test.YtelalpohbodolaaDoorSA
import Derived.KernelRfl
set_option linter.unusedVariables false
set_option maxRecDepth 100000
namespace Go.Proofs.YtelalpohbodolaaDoor
open Go Go.Abs
/-- bellpull/bellpulllaw08.WeighSubsets -/
noncomputable def sf4 : SFun := ⟨[0, 1, 4, 5, 6, 7, 8, 9, 10, 11, 12, 34, 36, 73, 75], 90,
 (.seq
 (.ops [
 ⟨(some 4), none, .mov (.c (.bool false))⟩] [4])
 (.seq
 (.ops [
 ⟨(some 13), none, .mov (.t 0)⟩,
 ⟨(some 14), none, .call (.c (.fn (.func 13) [] [])) [(.t 13)]⟩,
 ⟨(some 5), none, .mov (.t 14)⟩] [5])
 (.seq
 (.ops [
 ⟨(some 16), none, .mov (.t 5)⟩,
 ⟨(some 17), none, .mov (.t 1)⟩,
 ⟨(some 18), none, .call (.c (.fn (.func 20) [] [])) [(.t 16), (.t 17)]⟩,
 ⟨(some 15), none, .mov (.t 18)⟩,
 ⟨(some 19), none, .ext (.t 15) 0⟩,
 ⟨(some 20), none, .ext (.t 15) 1⟩,
 ⟨(some 6), none, .mov (.t 19)⟩,
 ⟨(some 7), none, .mov (.t 20)⟩] [6, 7])
 (.seq
 (.ops [
 ⟨(some 22), none, .mov (.t 5)⟩,
 ⟨(some 23), none, .mov (.t 1)⟩,
 ⟨(some 24), none, .call (.c (.fn (.func 21) [] [])) [(.t 22), (.t 23)]⟩,
 ⟨(some 21), none, .mov (.t 24)⟩,
 ⟨(some 25), none, .ext (.t 21) 0⟩,
 ⟨(some 26), none, .ext (.t 21) 1⟩,
 ⟨(some 8), none, .mov (.t 25)⟩,
 ⟨(some 9), none, .mov (.t 26)⟩] [8, 9])
 (.seq
 (.ops [
 ⟨(some 27), none, .mov (.t 5)⟩,
 ⟨(some 28), none, .call (.c (.fn (.func 16) [] [])) [(.t 27)]⟩,
 ⟨(some 10), none, .mov (.t 28)⟩] [10])
 (.seq
 (.seq
 (.ops [
 ⟨(some 29), none, .mov (.t 10)⟩,
 ⟨(some 30), none, .bin .neq .no (.t 29) (.c (.int .i64 3))⟩,
 ⟨(some 31), none, .mov (.t 30)⟩,
 ⟨(some 32), (some (31, true)), .mov (.t 1)⟩,
 ⟨(some 33), (some (31, true)), .bin .lss .no (.t 32) (.c (.int .i64 0))⟩,
 ⟨(some 34), none, .pick (.t 31) (.t 33) (.c (.bool false))⟩] [34])
 (.cond (.t 34)
 (.ops [
 ⟨(some 10), none, .mov (.c (.int .i64 1))⟩] [10])
 .skip))
 (.seq
 (.seq
 (.ops [
 ⟨(some 35), none, .mov (.t 10)⟩,
 ⟨(some 36), none, .bin .neq .no (.t 35) (.c (.int .i64 0))⟩] [36])
 (.cond (.t 36)
 (.seq
 (.ops [
 ⟨(some 37), none, .mov (.t 6)⟩,
 ⟨(some 38), none, .lenS (.t 37)⟩,
 ⟨(some 39), none, .bin .eql .no (.t 38) (.c (.int .i64 0))⟩,
 ⟨(some 40), none, .mov (.t 39)⟩,
 ⟨(some 41), (some (40, true)), .mov (.t 7)⟩,
 ⟨(some 42), (some (40, true)), .mov (.t 10)⟩,
 ⟨(some 43), (some (40, true)), .bin .eql .no (.t 41) (.t 42)⟩,
 ⟨(some 44), none, .pick (.t 40) (.t 43) (.c (.bool false))⟩,
 ⟨(some 45), none, .mov (.t 44)⟩,
 ⟨(some 46), (some (45, true)), .mov (.t 8)⟩,
 ⟨(some 47), (some (45, true)), .bin .eql .no (.t 46) (.c (.int .i64 0))⟩,
 ⟨(some 48), none, .pick (.t 45) (.t 47) (.c (.bool false))⟩,
 ⟨(some 49), none, .mov (.t 48)⟩,
 ⟨(some 50), (some (49, true)), .mov (.t 9)⟩,
 ⟨(some 51), (some (49, true)), .mov (.t 10)⟩,
 ⟨(some 52), (some (49, true)), .bin .eql .no (.t 50) (.t 51)⟩,
 ⟨(some 53), none, .pick (.t 49) (.t 52) (.c (.bool false))⟩,
 ⟨(some 54), none, .mov (.t 53)⟩,
 ⟨(some 55), (some (54, true)), .call (.c (.fn (.func 17) [] [])) []⟩,
 ⟨(some 56), none, .pick (.t 54) (.t 55) (.c (.bool false))⟩,
 ⟨(some 4), none, .mov (.t 56)⟩] [4])
 .ret)
 .skip))
 (.seq
 (.ops [
 ⟨(some 58), none, .mov (.t 5)⟩,
 ⟨(some 59), none, .mov (.t 1)⟩,
 ⟨(some 60), none, .call (.c (.fn (.func 22) [] [])) [(.t 58), (.t 59)]⟩,
 ⟨(some 57), none, .mov (.t 60)⟩,
 ⟨(some 61), none, .ext (.t 57) 0⟩,
 ⟨(some 62), none, .ext (.t 57) 1⟩,
 ⟨(some 11), none, .mov (.t 61)⟩,
 ⟨(some 12), none, .mov (.t 62)⟩] [11, 12])
 (.seq
 (.seq
 (.ops [
 ⟨(some 63), none, .mov (.t 8)⟩,
 ⟨(some 64), none, .mov (.t 12)⟩,
 ⟨(some 65), none, .bin .neq .no (.t 63) (.t 64)⟩,
 ⟨(some 66), none, .mov (.t 65)⟩,
 ⟨(some 67), (some (66, false)), .mov (.t 9)⟩,
 ⟨(some 68), (some (66, false)), .bin .neq .no (.t 67) (.c (.int .i64 0))⟩,
 ⟨(some 69), none, .pick (.t 66) (.c (.bool true)) (.t 68)⟩,
 ⟨(some 70), none, .mov (.t 69)⟩,
 ⟨(some 71), (some (70, false)), .call (.c (.fn (.func 17) [] [])) []⟩,
 ⟨(some 72), (some (70, false)), .not (.t 71)⟩,
 ⟨(some 73), none, .pick (.t 70) (.c (.bool true)) (.t 72)⟩] [73])
 (.cond (.t 73)
 (.seq
 (.ops [
 ⟨(some 4), none, .mov (.c (.bool false))⟩] [4])
 .ret)
 .skip))
 (.seq
 (.seq
 (.ops [
 ⟨(some 74), none, .mov (.t 12)⟩,
 ⟨(some 75), none, .bin .eql .no (.t 74) (.c (.int .i64 0))⟩] [75])
 (.cond (.t 75)
 (.seq
 (.ops [
 ⟨(some 76), none, .mov (.t 6)⟩,
 ⟨(some 77), none, .lenS (.t 76)⟩,
 ⟨(some 78), none, .bin .eql .no (.t 77) (.c (.int .i64 0))⟩,
 ⟨(some 79), none, .mov (.t 78)⟩,
 ⟨(some 80), (some (79, true)), .mov (.t 7)⟩,
 ⟨(some 81), (some (79, true)), .bin .eql .no (.t 80) (.c (.int .i64 5))⟩,
 ⟨(some 82), none, .pick (.t 79) (.t 81) (.c (.bool false))⟩,
 ⟨(some 4), none, .mov (.t 82)⟩] [4])
 .ret)
 .skip))
 (.seq
 (.ops [
 ⟨(some 83), none, .mov (.t 6)⟩,
 ⟨(some 84), none, .mov (.t 11)⟩,
 ⟨(some 85), none, .call (.c (.fn (.func 19) [] [])) [(.t 83), (.t 84)]⟩,
 ⟨(some 86), none, .mov (.t 85)⟩,
 ⟨(some 87), (some (86, true)), .mov (.t 7)⟩,
 ⟨(some 88), (some (86, true)), .bin .eql .no (.t 87) (.c (.int .i64 0))⟩,
 ⟨(some 89), none, .pick (.t 86) (.t 88) (.c (.bool false))⟩,
 ⟨(some 4), none, .mov (.t 89)⟩] [4])
 .ret))))))))))),
 [.tmp 4]⟩

theorem c4 : compF Tryd.prog 4 = some sf4 := by kernel_rfl
end Go.Proofs.YtelalpohbodolaaDoor
