/- The law RouteRenamed, compiled. -/
import Derived.Test.YtihadgkgogfhcaaRows
import Derived.Test.YtihadgkgogfhcaaSA
import Derived.KernelRfl
set_option linter.unusedVariables false
set_option maxRecDepth 100000
namespace Go.Proofs.Ytihadgkgogfhcaa
open Go Go.Abs
/-- bellpull/bellpulllaw07.RouteRenamed -/
noncomputable def sf13 : SFun := ⟨[0, 1, 2, 6, 7, 8, 9, 10, 11, 12, 13, 14, 15, 30], 77,
 (.seq
 (.ops [
 ⟨(some 6), none, .mov (.c (.bool false))⟩] [6])
 (.seq
 (.ops [
 ⟨(some 17), none, .mov (.t 0)⟩,
 ⟨(some 18), none, .mov (.t 1)⟩,
 ⟨(some 19), none, .call (.c (.fn (.func 33) [] [])) [(.t 17), (.t 18), (.c (.int .i64 7))]⟩,
 ⟨(some 16), none, .mov (.t 19)⟩,
 ⟨(some 20), none, .ext (.t 16) 0⟩,
 ⟨(some 21), none, .ext (.t 16) 1⟩,
 ⟨(some 7), none, .mov (.t 20)⟩,
 ⟨(some 8), none, .mov (.t 21)⟩] [7, 8])
 (.seq
 (.ops [
 ⟨(some 22), none, .mov (.t 7)⟩,
 ⟨(some 23), none, .mov (.t 2)⟩,
 ⟨(some 24), none, .call (.c (.fn (.func 34) [] [])) [(.t 22), (.t 23)]⟩,
 ⟨(some 25), none, .buildS [(.int .i64 0), (.int .i64 0)] 0 2 []⟩,
 ⟨(some 9), none, .mov (.t 24)⟩,
 ⟨(some 10), none, .mov (.t 25)⟩] [9, 10])
 (.seq
 (.seq
 (.ops [
 ⟨(some 26), none, .mov (.t 8)⟩,
 ⟨(some 27), none, .lenS (.t 26)⟩,
 ⟨(some 28), none, .bin .sub .no (.t 27) (.c (.int .i64 1))⟩,
 ⟨(some 11), none, .mov (.t 28)⟩] [11])
 (.block 0
 (.loop
 (.seq
 (.seq
 (.ops [
 ⟨(some 29), none, .mov (.t 11)⟩,
 ⟨(some 30), none, .bin .geq .no (.t 29) (.c (.int .i64 0))⟩] [30])
 (.cond (.t 30)
 .skip
 (.exit 0)))
 (.seq
 (.block 1
 (.draw [
 ⟨⟨(some 33), none, .mov (.t 10)⟩, false, false⟩,
 ⟨⟨(some 34), none, .mov (.t 9)⟩, false, false⟩,
 ⟨⟨(some 35), none, .mov (.t 8)⟩, false, false⟩,
 ⟨⟨(some 36), none, .mov (.t 11)⟩, false, false⟩,
 ⟨⟨(some 37), none, .ixS 2 (.t 35) (.t 36)⟩, false, false⟩,
 ⟨⟨(some 38), none, .fa 1 (.t 37)⟩, false, false⟩,
 ⟨⟨(some 39), none, .load none (.t 38)⟩, true, false⟩,
 ⟨⟨(some 40), none, .ixS 1 (.t 34) (.t 39)⟩, false, false⟩,
 ⟨⟨(some 41), none, .load none (.t 40)⟩, true, false⟩,
 ⟨⟨(some 42), none, .mov (.t 9)⟩, false, false⟩,
 ⟨⟨(some 43), none, .mov (.t 8)⟩, false, false⟩,
 ⟨⟨(some 44), none, .mov (.t 11)⟩, false, false⟩,
 ⟨⟨(some 45), none, .ixS 2 (.t 43) (.t 44)⟩, false, false⟩,
 ⟨⟨(some 46), none, .fa 0 (.t 45)⟩, false, false⟩,
 ⟨⟨(some 47), none, .load none (.t 46)⟩, true, false⟩,
 ⟨⟨(some 48), none, .ixS 1 (.t 42) (.t 47)⟩, false, false⟩,
 ⟨⟨(some 49), none, .load none (.t 48)⟩, true, false⟩,
 ⟨⟨(some 50), none, .build [(.int .i64 0), (.int .i64 0)] [(0, 1), (1, 1)] [(0, (.t 41)), (1, (.t 49))]⟩, false, false⟩,
 ⟨⟨(some 51), none, .buildS [(.int .i64 0), (.int .i64 0)] 1 2 [(0, (.t 50))]⟩, false, true⟩,
 ⟨⟨(some 52), none, .app true 2 (.t 33) (.t 51)⟩, false, true⟩,
 ⟨⟨(some 10), none, .mov (.t 52)⟩, false, false⟩] [0, 0, 0, 0, 12, 28, 60, 126, 254, 0, 0, 0, 3072, 7168, 15360, 32256, 65024, 131070, 262142, 524287, 1048575] [10]))
 (.ops [
 ⟨(some 31), none, .mov (.t 11)⟩,
 ⟨(some 32), none, .bin .sub .no (.t 31) (.c (.int .i64 1))⟩,
 ⟨(some 11), none, .mov (.t 32)⟩] [11]))))))
 (.seq
 (.ops [
 ⟨(some 54), none, .mov (.t 7)⟩,
 ⟨(some 55), none, .mov (.t 8)⟩,
 ⟨(some 56), none, .call (.c (.fn (.func 35) [] [])) [(.t 54), (.t 55)]⟩,
 ⟨(some 53), none, .mov (.t 56)⟩,
 ⟨(some 57), none, .ext (.t 53) 0⟩,
 ⟨(some 58), none, .ext (.t 53) 1⟩,
 ⟨(some 12), none, .mov (.t 57)⟩,
 ⟨(some 13), none, .mov (.t 58)⟩] [12, 13])
 (.seq
 (.ops [
 ⟨(some 60), none, .mov (.t 7)⟩,
 ⟨(some 61), none, .mov (.t 10)⟩,
 ⟨(some 62), none, .call (.c (.fn (.func 35) [] [])) [(.t 60), (.t 61)]⟩,
 ⟨(some 59), none, .mov (.t 62)⟩,
 ⟨(some 63), none, .ext (.t 59) 0⟩,
 ⟨(some 64), none, .ext (.t 59) 1⟩,
 ⟨(some 14), none, .mov (.t 63)⟩,
 ⟨(some 15), none, .mov (.t 64)⟩] [14, 15])
 (.seq
 (.ops [
 ⟨(some 65), none, .mov (.t 13)⟩,
 ⟨(some 66), none, .mov (.t 65)⟩,
 ⟨(some 67), (some (66, true)), .mov (.t 15)⟩,
 ⟨(some 68), none, .pick (.t 66) (.t 67) (.c (.bool false))⟩,
 ⟨(some 69), none, .mov (.t 68)⟩,
 ⟨(some 70), (some (69, true)), .mov (.t 12)⟩,
 ⟨(some 71), (some (69, true)), .mov (.t 14)⟩,
 ⟨(some 72), (some (69, true)), .call (.c (.fn (.func 22) [] [])) [(.t 70), (.t 71)]⟩,
 ⟨(some 73), none, .pick (.t 69) (.t 72) (.c (.bool false))⟩,
 ⟨(some 74), none, .mov (.t 73)⟩,
 ⟨(some 75), (some (74, true)), .call (.c (.fn (.func 20) [] [])) []⟩,
 ⟨(some 76), none, .pick (.t 74) (.t 75) (.c (.bool false))⟩,
 ⟨(some 6), none, .mov (.t 76)⟩] [6])
 .ret))))))),
 [.tmp 6]⟩

theorem c13 : compF Try.prog 13 = some sf13 := by kernel_rfl
end Go.Proofs.Ytihadgkgogfhcaa
