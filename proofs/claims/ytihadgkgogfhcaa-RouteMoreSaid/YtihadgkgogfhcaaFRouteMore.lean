/- The law RouteMore, compiled. -/
import Derived.Test.YtihadgkgogfhcaaRows
import Derived.Test.YtihadgkgogfhcaaSA
import Derived.KernelRfl
set_option linter.unusedVariables false
set_option maxRecDepth 100000
namespace Go.Proofs.Ytihadgkgogfhcaa
open Go Go.Abs
/-- bellpull/bellpulllaw07.RouteMore -/
noncomputable def sf11 : SFun := ⟨[0, 1, 2, 5, 6, 7, 8, 9, 10, 11, 12, 13, 14, 22], 93,
 (.seq
 (.ops [
 ⟨(some 5), none, .box (.t 2)⟩,
 ⟨(some 6), none, .mov (.c (.bool false))⟩] [5, 6])
 (.seq
 (.ops [
 ⟨(some 16), none, .mov (.t 0)⟩,
 ⟨(some 17), none, .mov (.t 1)⟩,
 ⟨(some 18), none, .call (.c (.fn (.func 33) [] [])) [(.t 16), (.t 17), (.c (.int .i64 7))]⟩,
 ⟨(some 15), none, .mov (.t 18)⟩,
 ⟨(some 19), none, .ext (.t 15) 0⟩,
 ⟨(some 20), none, .ext (.t 15) 1⟩,
 ⟨(some 7), none, .mov (.t 19)⟩,
 ⟨(some 8), none, .mov (.t 20)⟩] [7, 8])
 (.seq
 (.seq
 (.ops [
 ⟨(some 21), none, .mov (.t 7)⟩,
 ⟨(some 22), none, .bin .lss .no (.t 21) (.c (.int .i64 2))⟩] [22])
 (.cond (.t 22)
 (.seq
 (.ops [
 ⟨(some 23), none, .call (.c (.fn (.func 20) [] [])) []⟩,
 ⟨(some 6), none, .mov (.t 23)⟩] [6])
 .ret)
 .skip))
 (.seq
 (.ops [
 ⟨(some 24), none, .ixA 2 1 (.t 5) (.c (.int .i64 0))⟩,
 ⟨(some 25), none, .load none (.t 24)⟩,
 ⟨(some 26), none, .conv .i64 (.t 25)⟩,
 ⟨(some 27), none, .mov (.t 7)⟩,
 ⟨(some 28), none, .bin .rem .no (.t 26) (.t 27)⟩,
 ⟨(some 9), none, .mov (.t 28)⟩] [9])
 (.seq
 (.draw [
 ⟨⟨(some 29), none, .buildS [(.int .i64 0), (.int .i64 0)] 0 2 []⟩, false, true⟩,
 ⟨⟨(some 30), none, .mov (.t 8)⟩, false, false⟩,
 ⟨⟨(some 31), none, .app true 2 (.t 29) (.t 30)⟩, false, true⟩,
 ⟨⟨(some 32), none, .mov (.t 9)⟩, false, false⟩,
 ⟨⟨(some 33), none, .mov (.t 9)⟩, false, false⟩,
 ⟨⟨(some 34), none, .bin .add .no (.t 33) (.c (.int .i64 1))⟩, false, false⟩,
 ⟨⟨(some 35), none, .ixA 2 1 (.t 5) (.c (.int .i64 1))⟩, false, false⟩,
 ⟨⟨(some 36), none, .load none (.t 35)⟩, true, false⟩,
 ⟨⟨(some 37), none, .conv .i64 (.t 36)⟩, false, false⟩,
 ⟨⟨(some 38), none, .mov (.t 7)⟩, false, false⟩,
 ⟨⟨(some 39), none, .bin .sub .no (.t 38) (.c (.int .i64 1))⟩, false, false⟩,
 ⟨⟨(some 40), none, .bin .rem .no (.t 37) (.t 39)⟩, false, false⟩,
 ⟨⟨(some 41), none, .bin .add .no (.t 34) (.t 40)⟩, false, false⟩,
 ⟨⟨(some 42), none, .mov (.t 7)⟩, false, false⟩,
 ⟨⟨(some 43), none, .bin .rem .no (.t 41) (.t 42)⟩, false, false⟩,
 ⟨⟨(some 44), none, .build [(.int .i64 0), (.int .i64 0)] [(0, 1), (1, 1)] [(0, (.t 32)), (1, (.t 43))]⟩, false, false⟩,
 ⟨⟨(some 45), none, .buildS [(.int .i64 0), (.int .i64 0)] 1 2 [(0, (.t 44))]⟩, false, true⟩,
 ⟨⟨(some 46), none, .app true 2 (.t 31) (.t 45)⟩, false, true⟩,
 ⟨⟨(some 10), none, .mov (.t 46)⟩, false, false⟩] [0, 0, 3, 0, 0, 16, 0, 64, 192, 0, 512, 1984, 4080, 0, 16368, 32760, 65528, 131071, 262143] [10])
 (.seq
 (.ops [
 ⟨(some 48), none, .mov (.t 7)⟩,
 ⟨(some 49), none, .mov (.t 8)⟩,
 ⟨(some 50), none, .call (.c (.fn (.func 35) [] [])) [(.t 48), (.t 49)]⟩,
 ⟨(some 47), none, .mov (.t 50)⟩,
 ⟨(some 51), none, .ext (.t 47) 0⟩,
 ⟨(some 52), none, .ext (.t 47) 1⟩,
 ⟨(some 11), none, .mov (.t 51)⟩,
 ⟨(some 12), none, .mov (.t 52)⟩] [11, 12])
 (.seq
 (.ops [
 ⟨(some 54), none, .mov (.t 7)⟩,
 ⟨(some 55), none, .mov (.t 10)⟩,
 ⟨(some 56), none, .call (.c (.fn (.func 35) [] [])) [(.t 54), (.t 55)]⟩,
 ⟨(some 53), none, .mov (.t 56)⟩,
 ⟨(some 57), none, .ext (.t 53) 0⟩,
 ⟨(some 58), none, .ext (.t 53) 1⟩,
 ⟨(some 13), none, .mov (.t 57)⟩,
 ⟨(some 14), none, .mov (.t 58)⟩] [13, 14])
 (.seq
 (.draw [
 ⟨⟨(some 59), none, .mov (.t 12)⟩, false, false⟩,
 ⟨⟨(some 60), none, .mov (.t 59)⟩, false, false⟩,
 ⟨⟨(some 61), (some (60, true)), .mov (.t 14)⟩, false, false⟩,
 ⟨⟨(some 62), none, .pick (.t 60) (.t 61) (.c (.bool false))⟩, false, false⟩,
 ⟨⟨(some 63), none, .mov (.t 62)⟩, false, false⟩,
 ⟨⟨(some 64), (some (63, true)), .mov (.t 13)⟩, false, false⟩,
 ⟨⟨(some 65), (some (63, true)), .ixS 1 (.t 64) (.c (.int .i64 0))⟩, false, false⟩,
 ⟨⟨(some 66), (some (63, true)), .load none (.t 65)⟩, true, false⟩,
 ⟨⟨(some 67), (some (63, true)), .mov (.t 11)⟩, false, false⟩,
 ⟨⟨(some 68), (some (63, true)), .ixS 1 (.t 67) (.c (.int .i64 0))⟩, false, false⟩,
 ⟨⟨(some 69), (some (63, true)), .load none (.t 68)⟩, true, false⟩,
 ⟨⟨(some 70), (some (63, true)), .bin .geq .no (.t 66) (.t 69)⟩, false, false⟩,
 ⟨⟨(some 71), none, .pick (.t 63) (.t 70) (.c (.bool false))⟩, false, false⟩,
 ⟨⟨(some 72), none, .mov (.t 71)⟩, false, false⟩,
 ⟨⟨(some 73), (some (72, true)), .mov (.t 13)⟩, false, false⟩,
 ⟨⟨(some 74), (some (72, true)), .ixS 1 (.t 73) (.c (.int .i64 1))⟩, false, false⟩,
 ⟨⟨(some 75), (some (72, true)), .load none (.t 74)⟩, true, false⟩,
 ⟨⟨(some 76), (some (72, true)), .mov (.t 11)⟩, false, false⟩,
 ⟨⟨(some 77), (some (72, true)), .ixS 1 (.t 76) (.c (.int .i64 1))⟩, false, false⟩,
 ⟨⟨(some 78), (some (72, true)), .load none (.t 77)⟩, true, false⟩,
 ⟨⟨(some 79), (some (72, true)), .bin .geq .no (.t 75) (.t 78)⟩, false, false⟩,
 ⟨⟨(some 80), none, .pick (.t 72) (.t 79) (.c (.bool false))⟩, false, false⟩,
 ⟨⟨(some 81), none, .mov (.t 80)⟩, false, false⟩,
 ⟨⟨(some 82), (some (81, true)), .mov (.t 13)⟩, false, false⟩,
 ⟨⟨(some 83), (some (81, true)), .ixS 1 (.t 82) (.c (.int .i64 2))⟩, false, false⟩,
 ⟨⟨(some 84), (some (81, true)), .load none (.t 83)⟩, true, false⟩,
 ⟨⟨(some 85), (some (81, true)), .mov (.t 11)⟩, false, false⟩,
 ⟨⟨(some 86), (some (81, true)), .ixS 1 (.t 85) (.c (.int .i64 2))⟩, false, false⟩,
 ⟨⟨(some 87), (some (81, true)), .load none (.t 86)⟩, true, false⟩,
 ⟨⟨(some 88), (some (81, true)), .bin .gtr .no (.t 84) (.t 87)⟩, false, false⟩,
 ⟨⟨(some 89), none, .pick (.t 81) (.t 88) (.c (.bool false))⟩, false, false⟩,
 ⟨⟨(some 90), none, .mov (.t 89)⟩, false, false⟩,
 ⟨⟨(some 91), (some (90, true)), .call (.c (.fn (.func 20) [] [])) []⟩, false, true⟩,
 ⟨⟨(some 92), none, .pick (.t 90) (.t 91) (.c (.bool false))⟩, false, false⟩,
 ⟨⟨(some 6), none, .mov (.t 92)⟩, false, false⟩] [0, 1, 3, 7, 15, 31, 63, 127, 31, 287, 799, 2047, 4095, 8191, 16383, 32767, 65535, 16383, 147455, 409599, 1048575, 2097151, 4194303, 8388607, 16777215, 33554431, 8388607, 75497471, 209715199, 536870911, 1073741823, 2147483647, 4294967295, 8589934591, 17179869183] [6])
 .ret)))))))),
 [.tmp 6]⟩

theorem c11 : compF Try.prog 11 = some sf11 := by kernel_rfl
end Go.Proofs.Ytihadgkgogfhcaa
