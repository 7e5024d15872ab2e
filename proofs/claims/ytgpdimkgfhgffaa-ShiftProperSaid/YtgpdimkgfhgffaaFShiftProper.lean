/- The law ShiftProper, compiled. -/
import Derived.Test.YtgpdimkgfhgffaaRows
import Derived.Test.YtgpdimkgfhgffaaSE
import Derived.KernelRfl
set_option linter.unusedVariables false
set_option maxRecDepth 100000

namespace Go.Proofs.Ytgpdimkgfhgffaa

open Go Go.Abs
/-- bellpull/bellpulllaw03.ShiftProper -/
noncomputable def sf3 : SFun := ⟨[0, 1, 4, 5, 6, 7, 8, 9, 10, 36, 44, 51, 53], 76,
 (.seq
 (.ops [
 ⟨(some 4), none, .mov (.c (.bool false))⟩] [4])
 (.seq
 (.ops [
 ⟨(some 11), none, .mov (.t 0)⟩,
 ⟨(some 12), none, .call (.c (.fn (.func 5) [] [])) [(.t 11)]⟩,
 ⟨(some 13), none, .buildS [(.int .i64 0)] 0 1 []⟩,
 ⟨(some 14), none, .mov (.t 1)⟩,
 ⟨(some 15), none, .mov (.t 1)⟩,
 ⟨(some 16), none, .lenS (.t 15)⟩,
 ⟨(some 17), none, .mn (.t 16) (.c (.int .i64 41))⟩,
 ⟨(some 18), none, .slice 1 (.t 14) none (some (.t 17))⟩,
 ⟨(some 19), none, .app true 1 (.t 13) (.t 18)⟩,
 ⟨(some 5), none, .mov (.t 12)⟩,
 ⟨(some 6), none, .mov (.t 19)⟩] [5, 6])
 (.seq
 (.ops [
 ⟨(some 21), none, .mov (.t 5)⟩,
 ⟨(some 22), none, .mov (.t 6)⟩,
 ⟨(some 23), none, .call (.c (.fn (.func 6) [] [])) [(.t 21), (.t 22)]⟩,
 ⟨(some 20), none, .mov (.t 23)⟩,
 ⟨(some 24), none, .ext (.t 20) 0⟩,
 ⟨(some 25), none, .ext (.t 20) 1⟩,
 ⟨(some 7), none, .mov (.t 24)⟩,
 ⟨(some 8), none, .mov (.t 25)⟩] [7, 8])
 (.seq
 (.ops [
 ⟨(some 26), none, .mov (.t 5)⟩,
 ⟨(some 27), none, .call (.c (.fn (.func 7) [] [])) [(.t 26)]⟩,
 ⟨(some 9), none, .mov (.t 27)⟩] [9])
 (.seq
 (.seq
 (.ops [
 ⟨(some 28), none, .mov (.t 9)⟩,
 ⟨(some 29), none, .bin .eql .no (.t 28) (.c (.int .i64 0))⟩,
 ⟨(some 30), none, .mov (.t 29)⟩,
 ⟨(some 31), (some (30, true)), .mov (.t 6)⟩,
 ⟨(some 32), (some (30, true)), .lenS (.t 31)⟩,
 ⟨(some 33), (some (30, true)), .mov (.t 5)⟩,
 ⟨(some 34), (some (30, true)), .lenS (.t 33)⟩,
 ⟨(some 35), (some (30, true)), .bin .neq .no (.t 32) (.t 34)⟩,
 ⟨(some 36), none, .pick (.t 30) (.t 35) (.c (.bool false))⟩] [36])
 (.cond (.t 36)
 (.ops [
 ⟨(some 9), none, .mov (.c (.int .i64 1))⟩] [9])
 .skip))
 (.seq
 (.seq
 (.ops [
 ⟨(some 10), none, .mov (.c (.int .i64 0))⟩] [10])
 (.block 0
 (.loop
 (.seq
 (.seq
 (.ops [
 ⟨(some 37), none, .mov (.t 10)⟩,
 ⟨(some 38), none, .mov (.t 6)⟩,
 ⟨(some 39), none, .lenS (.t 38)⟩,
 ⟨(some 40), none, .bin .lss .no (.t 37) (.t 39)⟩,
 ⟨(some 41), none, .mov (.t 40)⟩,
 ⟨(some 42), (some (41, true)), .mov (.t 9)⟩,
 ⟨(some 43), (some (41, true)), .bin .eql .no (.t 42) (.c (.int .i64 0))⟩,
 ⟨(some 44), none, .pick (.t 41) (.t 43) (.c (.bool false))⟩] [44])
 (.cond (.t 44)
 .skip
 (.exit 0)))
 (.seq
 (.block 1
 (.seq
 (.ops [
 ⟨(some 47), none, .mov (.t 6)⟩,
 ⟨(some 48), none, .mov (.t 10)⟩,
 ⟨(some 49), none, .ixS 1 (.t 47) (.t 48)⟩,
 ⟨(some 50), none, .load none (.t 49)⟩,
 ⟨(some 51), none, .bin .lss .no (.t 50) (.c (.int .i64 0))⟩] [51])
 (.cond (.t 51)
 (.ops [
 ⟨(some 9), none, .mov (.c (.int .i64 1))⟩] [9])
 .skip)))
 (.ops [
 ⟨(some 45), none, .mov (.t 10)⟩,
 ⟨(some 46), none, .bin .add .no (.t 45) (.c (.int .i64 1))⟩,
 ⟨(some 10), none, .mov (.t 46)⟩] [10]))))))
 (.seq
 (.seq
 (.ops [
 ⟨(some 52), none, .mov (.t 9)⟩,
 ⟨(some 53), none, .bin .neq .no (.t 52) (.c (.int .i64 0))⟩] [53])
 (.cond (.t 53)
 (.seq
 (.ops [
 ⟨(some 54), none, .mov (.t 7)⟩,
 ⟨(some 55), none, .not (.t 54)⟩,
 ⟨(some 56), none, .mov (.t 55)⟩,
 ⟨(some 57), (some (56, true)), .mov (.t 8)⟩,
 ⟨(some 58), (some (56, true)), .mov (.t 9)⟩,
 ⟨(some 59), (some (56, true)), .bin .eql .no (.t 57) (.t 58)⟩,
 ⟨(some 60), none, .pick (.t 56) (.t 59) (.c (.bool false))⟩,
 ⟨(some 61), none, .mov (.t 60)⟩,
 ⟨(some 62), (some (61, true)), .call (.c (.fn (.func 8) [] [])) []⟩,
 ⟨(some 63), none, .pick (.t 61) (.t 62) (.c (.bool false))⟩,
 ⟨(some 4), none, .mov (.t 63)⟩] [4])
 .ret)
 .skip))
 (.seq
 (.ops [
 ⟨(some 64), none, .mov (.t 7)⟩,
 ⟨(some 65), none, .mov (.t 5)⟩,
 ⟨(some 66), none, .mov (.t 6)⟩,
 ⟨(some 67), none, .call (.c (.fn (.func 9) [] [])) [(.t 65), (.t 66)]⟩,
 ⟨(some 68), none, .bin .eql .bool (.t 64) (.t 67)⟩,
 ⟨(some 69), none, .mov (.t 68)⟩,
 ⟨(some 70), (some (69, true)), .mov (.t 8)⟩,
 ⟨(some 71), (some (69, true)), .bin .eql .no (.t 70) (.c (.int .i64 0))⟩,
 ⟨(some 72), none, .pick (.t 69) (.t 71) (.c (.bool false))⟩,
 ⟨(some 73), none, .mov (.t 72)⟩,
 ⟨(some 74), (some (73, true)), .call (.c (.fn (.func 8) [] [])) []⟩,
 ⟨(some 75), none, .pick (.t 73) (.t 74) (.c (.bool false))⟩,
 ⟨(some 4), none, .mov (.t 75)⟩] [4])
 .ret)))))))),
 [.tmp 4]⟩

theorem c3 : compF Try.prog 3 = some sf3 := by kernel_rfl

end Go.Proofs.Ytgpdimkgfhgffaa

