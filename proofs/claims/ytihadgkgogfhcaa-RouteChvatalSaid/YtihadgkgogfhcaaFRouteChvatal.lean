/- The law RouteChvatal, compiled. -/
import Derived.Test.YtihadgkgogfhcaaRows
import Derived.Test.YtihadgkgogfhcaaSA
import Derived.KernelRfl
set_option linter.unusedVariables false
set_option maxRecDepth 100000
namespace Go.Proofs.Ytihadgkgogfhcaa
open Go Go.Abs
/-- bellpull/bellpulllaw07.RouteChvatal -/
noncomputable def sf8 : SFun := ⟨[0, 1, 4, 5, 6, 7, 8, 9, 11], 57,
 (.seq
 (.ops [
 ⟨(some 4), none, .mov (.c (.bool false))⟩] [4])
 (.seq
 (.ops [
 ⟨(some 13), none, .mov (.t 0)⟩,
 ⟨(some 14), none, .mov (.t 1)⟩,
 ⟨(some 15), none, .call (.c (.fn (.func 33) [] [])) [(.t 13), (.t 14), (.c (.int .i64 8))]⟩,
 ⟨(some 12), none, .mov (.t 15)⟩,
 ⟨(some 16), none, .ext (.t 12) 0⟩,
 ⟨(some 17), none, .ext (.t 12) 1⟩,
 ⟨(some 5), none, .mov (.t 16)⟩,
 ⟨(some 6), none, .mov (.t 17)⟩] [5, 6])
 (.seq
 (.ops [
 ⟨(some 19), none, .mov (.t 5)⟩,
 ⟨(some 20), none, .mov (.t 6)⟩,
 ⟨(some 21), none, .call (.c (.fn (.func 29) [] [])) [(.t 19), (.t 20)]⟩,
 ⟨(some 18), none, .mov (.t 21)⟩,
 ⟨(some 22), none, .ext (.t 18) 0⟩,
 ⟨(some 23), none, .ext (.t 18) 1⟩,
 ⟨(some 7), none, .mov (.t 22)⟩,
 ⟨(some 8), none, .mov (.t 23)⟩] [7, 8])
 (.seq
 (.ops [
 ⟨(some 25), none, .mov (.t 5)⟩,
 ⟨(some 26), none, .mov (.t 6)⟩,
 ⟨(some 27), none, .call (.c (.fn (.func 24) [] [])) [(.t 25), (.t 26)]⟩,
 ⟨(some 24), none, .mov (.t 27)⟩,
 ⟨(some 28), none, .ext (.t 24) 0⟩,
 ⟨(some 29), none, .ext (.t 24) 1⟩,
 ⟨(some 30), none, .ext (.t 24) 2⟩,
 ⟨(some 9), none, .mov (.t 28)⟩,
 ⟨(some 10), none, .mov (.t 29)⟩,
 ⟨(some 11), none, .mov (.t 30)⟩] [9, 11])
 (.seq
 (.ops [
 ⟨(some 31), none, .mov (.t 11)⟩,
 ⟨(some 32), none, .bin .eql .no (.t 31) (.c (.int .i64 0))⟩,
 ⟨(some 33), none, .mov (.t 32)⟩,
 ⟨(some 34), (some (33, true)), .mov (.t 8)⟩,
 ⟨(some 35), (some (33, true)), .bin .eql .no (.t 34) (.c (.int .i64 5))⟩,
 ⟨(some 36), (some (33, true)), .mov (.t 35)⟩,
 ⟨(some 37), (some (36, true)), .mov (.t 7)⟩,
 ⟨(some 38), (some (36, true)), .bin .eql .no (.t 37) (.c (.int .i64 0))⟩,
 ⟨(some 39), (some (33, true)), .pick (.t 36) (.t 38) (.c (.bool false))⟩,
 ⟨(some 40), (some (33, true)), .mov (.t 39)⟩,
 ⟨(some 41), (some (40, false)), .mov (.t 8)⟩,
 ⟨(some 42), (some (40, false)), .bin .eql .no (.t 41) (.c (.int .i64 0))⟩,
 ⟨(some 43), (some (40, false)), .mov (.t 42)⟩,
 ⟨(some 44), (some (43, true)), .mov (.t 7)⟩,
 ⟨(some 45), (some (43, true)), .bin .geq .no (.t 44) (.c (.int .i64 1))⟩,
 ⟨(some 46), (some (40, false)), .pick (.t 43) (.t 45) (.c (.bool false))⟩,
 ⟨(some 47), (some (40, false)), .mov (.t 46)⟩,
 ⟨(some 48), (some (47, true)), .mov (.t 7)⟩,
 ⟨(some 49), (some (47, true)), .mov (.t 9)⟩,
 ⟨(some 50), (some (47, true)), .bin .leq .no (.t 48) (.t 49)⟩,
 ⟨(some 51), (some (40, false)), .pick (.t 47) (.t 50) (.c (.bool false))⟩,
 ⟨(some 52), (some (33, true)), .pick (.t 40) (.c (.bool true)) (.t 51)⟩,
 ⟨(some 53), none, .pick (.t 33) (.t 52) (.c (.bool false))⟩,
 ⟨(some 54), none, .mov (.t 53)⟩,
 ⟨(some 55), (some (54, true)), .call (.c (.fn (.func 20) [] [])) []⟩,
 ⟨(some 56), none, .pick (.t 54) (.t 55) (.c (.bool false))⟩,
 ⟨(some 4), none, .mov (.t 56)⟩] [4])
 .ret))))),
 [.tmp 4]⟩

theorem c8 : compF Try.prog 8 = some sf8 := by kernel_rfl
end Go.Proofs.Ytihadgkgogfhcaa
