/- The law WeighPans, compiled. -/
import Derived.Test.YtelalpohbodolaaDoorRows
import Derived.Test.YtelalpohbodolaaDoorSA
import Derived.KernelRfl
set_option linter.unusedVariables false
set_option maxRecDepth 100000
namespace Go.Proofs.YtelalpohbodolaaDoor
open Go Go.Abs
/-- bellpull/bellpulllaw08.WeighPans -/
noncomputable def sf5 : SFun := ⟨[0, 1, 4, 5, 6, 7, 8, 9, 25, 28, 30, 47], 68,
 (.seq
 (.ops [
 ⟨(some 4), none, .mov (.c (.bool false))⟩] [4])
 (.seq
 (.ops [
 ⟨(some 10), none, .mov (.t 0)⟩,
 ⟨(some 11), none, .call (.c (.fn (.func 13) [] [])) [(.t 10)]⟩,
 ⟨(some 5), none, .mov (.t 11)⟩] [5])
 (.seq
 (.ops [
 ⟨(some 13), none, .mov (.t 5)⟩,
 ⟨(some 14), none, .mov (.t 1)⟩,
 ⟨(some 15), none, .call (.c (.fn (.func 23) [] [])) [(.t 13), (.t 14)]⟩,
 ⟨(some 12), none, .mov (.t 15)⟩,
 ⟨(some 16), none, .ext (.t 12) 0⟩,
 ⟨(some 17), none, .ext (.t 12) 1⟩,
 ⟨(some 6), none, .mov (.t 16)⟩,
 ⟨(some 7), none, .mov (.t 17)⟩] [6, 7])
 (.seq
 (.ops [
 ⟨(some 18), none, .mov (.t 5)⟩,
 ⟨(some 19), none, .call (.c (.fn (.func 16) [] [])) [(.t 18)]⟩,
 ⟨(some 8), none, .mov (.t 19)⟩] [8])
 (.seq
 (.seq
 (.ops [
 ⟨(some 20), none, .mov (.t 8)⟩,
 ⟨(some 21), none, .bin .neq .no (.t 20) (.c (.int .i64 3))⟩,
 ⟨(some 22), none, .mov (.t 21)⟩,
 ⟨(some 23), (some (22, true)), .mov (.t 1)⟩,
 ⟨(some 24), (some (22, true)), .bin .lss .no (.t 23) (.c (.int .i64 0))⟩,
 ⟨(some 25), none, .pick (.t 22) (.t 24) (.c (.bool false))⟩] [25])
 (.cond (.t 25)
 (.ops [
 ⟨(some 8), none, .mov (.c (.int .i64 1))⟩] [8])
 .skip))
 (.seq
 (.seq
 (.ops [
 ⟨(some 26), none, .mov (.t 5)⟩,
 ⟨(some 27), none, .lenS (.t 26)⟩,
 ⟨(some 28), none, .bin .gtr .no (.t 27) (.c (.int .i64 9))⟩] [28])
 (.cond (.t 28)
 (.ops [
 ⟨(some 8), none, .mov (.c (.int .i64 3))⟩] [8])
 .skip))
 (.seq
 (.seq
 (.ops [
 ⟨(some 29), none, .mov (.t 8)⟩,
 ⟨(some 30), none, .bin .neq .no (.t 29) (.c (.int .i64 0))⟩] [30])
 (.cond (.t 30)
 (.seq
 (.ops [
 ⟨(some 31), none, .mov (.t 6)⟩,
 ⟨(some 32), none, .lenS (.t 31)⟩,
 ⟨(some 33), none, .bin .eql .no (.t 32) (.c (.int .i64 0))⟩,
 ⟨(some 34), none, .mov (.t 33)⟩,
 ⟨(some 35), (some (34, true)), .mov (.t 7)⟩,
 ⟨(some 36), (some (34, true)), .mov (.t 8)⟩,
 ⟨(some 37), (some (34, true)), .bin .eql .no (.t 35) (.t 36)⟩,
 ⟨(some 38), none, .pick (.t 34) (.t 37) (.c (.bool false))⟩,
 ⟨(some 39), none, .mov (.t 38)⟩,
 ⟨(some 40), (some (39, true)), .call (.c (.fn (.func 17) [] [])) []⟩,
 ⟨(some 41), none, .pick (.t 39) (.t 40) (.c (.bool false))⟩,
 ⟨(some 4), none, .mov (.t 41)⟩] [4])
 .ret)
 .skip))
 (.seq
 (.seq
 (.ops [
 ⟨(some 42), none, .mov (.t 5)⟩,
 ⟨(some 43), none, .mov (.t 1)⟩,
 ⟨(some 44), none, .buildS [(.int .i64 0)] 0 1 []⟩,
 ⟨(some 45), none, .call (.c (.fn (.func 24) [] [])) [(.t 42), (.t 43), (.t 44)]⟩,
 ⟨(some 9), none, .mov (.t 45)⟩] [9])
 (.seq
 (.ops [
 ⟨(some 46), none, .mov (.t 9)⟩,
 ⟨(some 47), none, .bin .neq .slice (.t 46) (.c .nilsl)⟩] [47])
 (.cond (.t 47)
 (.seq
 (.ops [
 ⟨(some 48), none, .mov (.t 6)⟩,
 ⟨(some 49), none, .mov (.t 9)⟩,
 ⟨(some 50), none, .call (.c (.fn (.func 19) [] [])) [(.t 48), (.t 49)]⟩,
 ⟨(some 51), none, .mov (.t 50)⟩,
 ⟨(some 52), (some (51, true)), .mov (.t 7)⟩,
 ⟨(some 53), (some (51, true)), .bin .eql .no (.t 52) (.c (.int .i64 0))⟩,
 ⟨(some 54), none, .pick (.t 51) (.t 53) (.c (.bool false))⟩,
 ⟨(some 55), none, .mov (.t 54)⟩,
 ⟨(some 56), (some (55, true)), .call (.c (.fn (.func 17) [] [])) []⟩,
 ⟨(some 57), none, .pick (.t 55) (.t 56) (.c (.bool false))⟩,
 ⟨(some 4), none, .mov (.t 57)⟩] [4])
 .ret)
 .skip)))
 (.seq
 (.ops [
 ⟨(some 58), none, .mov (.t 6)⟩,
 ⟨(some 59), none, .lenS (.t 58)⟩,
 ⟨(some 60), none, .bin .eql .no (.t 59) (.c (.int .i64 0))⟩,
 ⟨(some 61), none, .mov (.t 60)⟩,
 ⟨(some 62), (some (61, true)), .mov (.t 7)⟩,
 ⟨(some 63), (some (61, true)), .bin .eql .no (.t 62) (.c (.int .i64 5))⟩,
 ⟨(some 64), none, .pick (.t 61) (.t 63) (.c (.bool false))⟩,
 ⟨(some 65), none, .mov (.t 64)⟩,
 ⟨(some 66), (some (65, true)), .call (.c (.fn (.func 17) [] [])) []⟩,
 ⟨(some 67), none, .pick (.t 65) (.t 66) (.c (.bool false))⟩,
 ⟨(some 4), none, .mov (.t 67)⟩] [4])
 .ret))))))))),
 [.tmp 4]⟩

theorem c5 : compF Tryd.prog 5 = some sf5 := by kernel_rfl
end Go.Proofs.YtelalpohbodolaaDoor
