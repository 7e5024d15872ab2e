/- The law RouteBetween, compiled. -/
import Derived.Test.YtihadgkgogfhcaaRows
import Derived.Test.YtihadgkgogfhcaaSA
import Derived.KernelRfl
set_option linter.unusedVariables false
set_option maxRecDepth 100000
namespace Go.Proofs.Ytihadgkgogfhcaa
open Go Go.Abs
/-- bellpull/bellpulllaw07.RouteBetween -/
noncomputable def sf9 : SFun := ⟨[0, 1, 4, 5, 6, 7, 8], 61,
 (.seq
 (.ops [
 ⟨(some 4), none, .mov (.c (.bool false))⟩] [4])
 (.seq
 (.ops [
 ⟨(some 10), none, .mov (.t 0)⟩,
 ⟨(some 11), none, .mov (.t 1)⟩,
 ⟨(some 12), none, .call (.c (.fn (.func 33) [] [])) [(.t 10), (.t 11), (.c (.int .i64 8))]⟩,
 ⟨(some 9), none, .mov (.t 12)⟩,
 ⟨(some 13), none, .ext (.t 9) 0⟩,
 ⟨(some 14), none, .ext (.t 9) 1⟩,
 ⟨(some 5), none, .mov (.t 13)⟩,
 ⟨(some 6), none, .mov (.t 14)⟩] [5, 6])
 (.seq
 (.ops [
 ⟨(some 16), none, .mov (.t 5)⟩,
 ⟨(some 17), none, .mov (.t 6)⟩,
 ⟨(some 18), none, .call (.c (.fn (.func 35) [] [])) [(.t 16), (.t 17)]⟩,
 ⟨(some 15), none, .mov (.t 18)⟩,
 ⟨(some 19), none, .ext (.t 15) 0⟩,
 ⟨(some 20), none, .ext (.t 15) 1⟩,
 ⟨(some 7), none, .mov (.t 19)⟩,
 ⟨(some 8), none, .mov (.t 20)⟩] [7, 8])
 (.seq
 (.draw [
 ⟨⟨(some 21), none, .mov (.t 8)⟩, false, false⟩,
 ⟨⟨(some 22), none, .mov (.t 21)⟩, false, false⟩,
 ⟨⟨(some 23), (some (22, true)), .mov (.t 7)⟩, false, false⟩,
 ⟨⟨(some 24), (some (22, true)), .ixS 1 (.t 23) (.c (.int .i64 0))⟩, false, false⟩,
 ⟨⟨(some 25), (some (22, true)), .load none (.t 24)⟩, true, false⟩,
 ⟨⟨(some 26), (some (22, true)), .mov (.t 5)⟩, false, false⟩,
 ⟨⟨(some 27), (some (22, true)), .bin .sub .no (.t 26) (.c (.int .i64 1))⟩, false, false⟩,
 ⟨⟨(some 28), (some (22, true)), .bin .leq .no (.t 25) (.t 27)⟩, false, false⟩,
 ⟨⟨(some 29), none, .pick (.t 22) (.t 28) (.c (.bool false))⟩, false, false⟩,
 ⟨⟨(some 30), none, .mov (.t 29)⟩, false, false⟩,
 ⟨⟨(some 31), (some (30, true)), .mov (.t 7)⟩, false, false⟩,
 ⟨⟨(some 32), (some (30, true)), .ixS 1 (.t 31) (.c (.int .i64 1))⟩, false, false⟩,
 ⟨⟨(some 33), (some (30, true)), .load none (.t 32)⟩, true, false⟩,
 ⟨⟨(some 34), (some (30, true)), .mov (.t 6)⟩, false, false⟩,
 ⟨⟨(some 35), (some (30, true)), .lenS (.t 34)⟩, false, false⟩,
 ⟨⟨(some 36), (some (30, true)), .bin .leq .no (.t 33) (.t 35)⟩, false, false⟩,
 ⟨⟨(some 37), none, .pick (.t 30) (.t 36) (.c (.bool false))⟩, false, false⟩,
 ⟨⟨(some 38), none, .mov (.t 37)⟩, false, false⟩,
 ⟨⟨(some 39), (some (38, true)), .mov (.t 7)⟩, false, false⟩,
 ⟨⟨(some 40), (some (38, true)), .ixS 1 (.t 39) (.c (.int .i64 2))⟩, false, false⟩,
 ⟨⟨(some 41), (some (38, true)), .load none (.t 40)⟩, true, false⟩,
 ⟨⟨(some 42), (some (38, true)), .mov (.t 5)⟩, false, false⟩,
 ⟨⟨(some 43), (some (38, true)), .bin .sub .no (.t 42) (.c (.int .i64 1))⟩, false, false⟩,
 ⟨⟨(some 44), (some (38, true)), .mov (.t 7)⟩, false, false⟩,
 ⟨⟨(some 45), (some (38, true)), .ixS 1 (.t 44) (.c (.int .i64 1))⟩, false, false⟩,
 ⟨⟨(some 46), (some (38, true)), .load none (.t 45)⟩, true, false⟩,
 ⟨⟨(some 47), (some (38, true)), .bin .mul .no (.t 43) (.t 46)⟩, false, false⟩,
 ⟨⟨(some 48), (some (38, true)), .bin .leq .no (.t 41) (.t 47)⟩, false, false⟩,
 ⟨⟨(some 49), none, .pick (.t 38) (.t 48) (.c (.bool false))⟩, false, false⟩,
 ⟨⟨(some 50), none, .mov (.t 49)⟩, false, false⟩,
 ⟨⟨(some 51), (some (50, true)), .mov (.t 7)⟩, false, false⟩,
 ⟨⟨(some 52), (some (50, true)), .ixS 1 (.t 51) (.c (.int .i64 2))⟩, false, false⟩,
 ⟨⟨(some 53), (some (50, true)), .load none (.t 52)⟩, true, false⟩,
 ⟨⟨(some 54), (some (50, true)), .mov (.t 6)⟩, false, false⟩,
 ⟨⟨(some 55), (some (50, true)), .lenS (.t 54)⟩, false, false⟩,
 ⟨⟨(some 56), (some (50, true)), .bin .geq .no (.t 53) (.t 55)⟩, false, false⟩,
 ⟨⟨(some 57), none, .pick (.t 50) (.t 56) (.c (.bool false))⟩, false, false⟩,
 ⟨⟨(some 58), none, .mov (.t 57)⟩, false, false⟩,
 ⟨⟨(some 59), (some (58, true)), .call (.c (.fn (.func 20) [] [])) []⟩, false, true⟩,
 ⟨⟨(some 60), none, .pick (.t 58) (.t 59) (.c (.bool false))⟩, false, false⟩,
 ⟨⟨(some 4), none, .mov (.t 60)⟩, false, false⟩] [0, 1, 3, 7, 15, 3, 35, 127, 255, 511, 1023, 2047, 4095, 1023, 9215, 32767, 65535, 131071, 262143, 524287, 1048575, 262143, 2359295, 262143, 8650751, 25427967, 65273855, 134217727, 268435455, 536870911, 1073741823, 2147483647, 4294967295, 1073741823, 9663676415, 34359738367, 68719476735, 137438953471, 274877906943, 549755813887, 1099511627775] [4])
 .ret)))),
 [.tmp 4]⟩

theorem c9 : compF Try.prog 9 = some sf9 := by kernel_rfl
end Go.Proofs.Ytihadgkgogfhcaa
