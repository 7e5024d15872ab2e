/- The law ShiftFits, compiled. -/
import Derived.Test.YtgpdimkgfhgffaaRows
import Derived.Test.YtgpdimkgfhgffaaSE
import Derived.KernelRfl
set_option linter.unusedVariables false
set_option maxRecDepth 100000

namespace Go.Proofs.Ytgpdimkgfhgffaa

open Go Go.Abs
/-- bellpull/bellpulllaw03.ShiftFits -/
noncomputable def sf4 : SFun := ⟨[0, 2, 3, 4, 5, 6, 7, 8, 24], 65,
 (.seq
 (.ops [
 ⟨(some 2), none, .mov (.c (.bool false))⟩] [2])
 (.seq
 (.ops [
 ⟨(some 9), none, .mov (.t 0)⟩,
 ⟨(some 10), none, .call (.c (.fn (.func 5) [] [])) [(.t 9)]⟩,
 ⟨(some 3), none, .mov (.t 10)⟩] [3])
 (.seq
 (.ops [
 ⟨(some 12), none, .mov (.t 3)⟩,
 ⟨(some 13), none, .call (.c (.fn (.func 10) [] [])) [(.t 12)]⟩,
 ⟨(some 11), none, .mov (.t 13)⟩,
 ⟨(some 14), none, .ext (.t 11) 0⟩,
 ⟨(some 15), none, .ext (.t 11) 1⟩,
 ⟨(some 4), none, .mov (.t 14)⟩,
 ⟨(some 5), none, .mov (.t 15)⟩] [4, 5])
 (.seq
 (.ops [
 ⟨(some 17), none, .mov (.t 3)⟩,
 ⟨(some 18), none, .call (.c (.fn (.func 11) [] [])) [(.t 17)]⟩,
 ⟨(some 16), none, .mov (.t 18)⟩,
 ⟨(some 19), none, .ext (.t 16) 0⟩,
 ⟨(some 20), none, .ext (.t 16) 1⟩,
 ⟨(some 6), none, .mov (.t 19)⟩,
 ⟨(some 7), none, .mov (.t 20)⟩] [6, 7])
 (.seq
 (.seq
 (.ops [
 ⟨(some 21), none, .mov (.t 3)⟩,
 ⟨(some 22), none, .call (.c (.fn (.func 7) [] [])) [(.t 21)]⟩,
 ⟨(some 8), none, .mov (.t 22)⟩] [8])
 (.seq
 (.ops [
 ⟨(some 23), none, .mov (.t 8)⟩,
 ⟨(some 24), none, .bin .neq .no (.t 23) (.c (.int .i64 0))⟩] [24])
 (.cond (.t 24)
 (.seq
 (.ops [
 ⟨(some 25), none, .mov (.t 4)⟩,
 ⟨(some 26), none, .lenS (.t 25)⟩,
 ⟨(some 27), none, .mov (.t 6)⟩,
 ⟨(some 28), none, .lenS (.t 27)⟩,
 ⟨(some 29), none, .bin .add .no (.t 26) (.t 28)⟩,
 ⟨(some 30), none, .bin .eql .no (.t 29) (.c (.int .i64 0))⟩,
 ⟨(some 31), none, .mov (.t 30)⟩,
 ⟨(some 32), (some (31, true)), .mov (.t 5)⟩,
 ⟨(some 33), (some (31, true)), .mov (.t 8)⟩,
 ⟨(some 34), (some (31, true)), .bin .eql .no (.t 32) (.t 33)⟩,
 ⟨(some 35), none, .pick (.t 31) (.t 34) (.c (.bool false))⟩,
 ⟨(some 36), none, .mov (.t 35)⟩,
 ⟨(some 37), (some (36, true)), .mov (.t 7)⟩,
 ⟨(some 38), (some (36, true)), .mov (.t 8)⟩,
 ⟨(some 39), (some (36, true)), .bin .eql .no (.t 37) (.t 38)⟩,
 ⟨(some 40), none, .pick (.t 36) (.t 39) (.c (.bool false))⟩,
 ⟨(some 41), none, .mov (.t 40)⟩,
 ⟨(some 42), (some (41, true)), .call (.c (.fn (.func 8) [] [])) []⟩,
 ⟨(some 43), none, .pick (.t 41) (.t 42) (.c (.bool false))⟩,
 ⟨(some 2), none, .mov (.t 43)⟩] [2])
 .ret)
 .skip)))
 (.seq
 (.ops [
 ⟨(some 44), none, .mov (.t 4)⟩,
 ⟨(some 45), none, .mov (.t 3)⟩,
 ⟨(some 46), none, .call (.c (.fn (.func 13) [] [])) [(.t 45)]⟩,
 ⟨(some 47), none, .call (.c (.fn (.func 12) [] [])) [(.t 44), (.t 46)]⟩,
 ⟨(some 48), none, .mov (.t 47)⟩,
 ⟨(some 49), (some (48, true)), .mov (.t 5)⟩,
 ⟨(some 50), (some (48, true)), .bin .eql .no (.t 49) (.c (.int .i64 0))⟩,
 ⟨(some 51), none, .pick (.t 48) (.t 50) (.c (.bool false))⟩,
 ⟨(some 52), none, .mov (.t 51)⟩,
 ⟨(some 53), (some (52, true)), .mov (.t 6)⟩,
 ⟨(some 54), (some (52, true)), .mov (.t 3)⟩,
 ⟨(some 55), (some (52, true)), .call (.c (.fn (.func 14) [] [])) [(.t 54)]⟩,
 ⟨(some 56), (some (52, true)), .call (.c (.fn (.func 12) [] [])) [(.t 53), (.t 55)]⟩,
 ⟨(some 57), none, .pick (.t 52) (.t 56) (.c (.bool false))⟩,
 ⟨(some 58), none, .mov (.t 57)⟩,
 ⟨(some 59), (some (58, true)), .mov (.t 7)⟩,
 ⟨(some 60), (some (58, true)), .bin .eql .no (.t 59) (.c (.int .i64 0))⟩,
 ⟨(some 61), none, .pick (.t 58) (.t 60) (.c (.bool false))⟩,
 ⟨(some 62), none, .mov (.t 61)⟩,
 ⟨(some 63), (some (62, true)), .call (.c (.fn (.func 8) [] [])) []⟩,
 ⟨(some 64), none, .pick (.t 62) (.t 63) (.c (.bool false))⟩,
 ⟨(some 2), none, .mov (.t 64)⟩] [2])
 .ret)))))),
 [.tmp 2]⟩

theorem c4 : compF Try.prog 4 = some sf4 := by kernel_rfl

end Go.Proofs.Ytgpdimkgfhgffaa

