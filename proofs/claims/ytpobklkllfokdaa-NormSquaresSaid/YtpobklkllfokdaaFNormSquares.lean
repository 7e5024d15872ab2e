/- The law NormSquares, compiled. -/
import Derived.Test.YtpobklkllfokdaaRows
import Derived.Test.YtpobklkllfokdaaSE
import Derived.KernelRfl
set_option linter.unusedVariables false
set_option maxRecDepth 100000
namespace Go.Proofs.Ytpobklkllfokdaa
open Go Go.Abs
/-- bellpull/bellpulllaw04.NormSquares -/
noncomputable def sf7 : SFun := ⟨[0, 2, 3, 4, 5, 6, 7, 20, 50, 54], 69,
 (.seq
 (.ops [
 ⟨(some 2), none, .mov (.c (.bool false))⟩] [2])
 (.seq
 (.ops [
 ⟨(some 9), none, .mov (.t 0)⟩,
 ⟨(some 10), none, .call (.c (.fn (.func 34) [] [])) [(.t 9)]⟩,
 ⟨(some 8), none, .mov (.t 10)⟩,
 ⟨(some 11), none, .ext (.t 8) 0⟩,
 ⟨(some 12), none, .ext (.t 8) 1⟩,
 ⟨(some 3), none, .mov (.t 11)⟩,
 ⟨(some 4), none, .mov (.t 12)⟩] [3, 4])
 (.seq
 (.ops [
 ⟨(some 14), none, .mov (.t 0)⟩,
 ⟨(some 15), none, .call (.c (.fn (.func 35) [] [])) [(.t 14)]⟩,
 ⟨(some 13), none, .mov (.t 15)⟩,
 ⟨(some 16), none, .ext (.t 13) 0⟩,
 ⟨(some 17), none, .ext (.t 13) 1⟩,
 ⟨(some 5), none, .mov (.t 16)⟩,
 ⟨(some 6), none, .mov (.t 17)⟩] [5, 6])
 (.seq
 (.seq
 (.ops [
 ⟨(some 18), none, .mov (.t 0)⟩,
 ⟨(some 19), none, .call (.c (.fn (.func 32) [] [])) [(.t 18), (.c (.int .i64 0)), (.c (.int .i64 10000))]⟩,
 ⟨(some 20), none, .not (.t 19)⟩] [20])
 (.cond (.t 20)
 (.seq
 (.ops [
 ⟨(some 21), none, .mov (.t 3)⟩,
 ⟨(some 22), none, .lenS (.t 21)⟩,
 ⟨(some 23), none, .mov (.t 5)⟩,
 ⟨(some 24), none, .lenS (.t 23)⟩,
 ⟨(some 25), none, .bin .add .no (.t 22) (.t 24)⟩,
 ⟨(some 26), none, .bin .eql .no (.t 25) (.c (.int .i64 0))⟩,
 ⟨(some 27), none, .mov (.t 26)⟩,
 ⟨(some 28), (some (27, true)), .mov (.t 4)⟩,
 ⟨(some 29), (some (27, true)), .bin .eql .no (.t 28) (.c (.int .i64 1))⟩,
 ⟨(some 30), none, .pick (.t 27) (.t 29) (.c (.bool false))⟩,
 ⟨(some 31), none, .mov (.t 30)⟩,
 ⟨(some 32), (some (31, true)), .mov (.t 6)⟩,
 ⟨(some 33), (some (31, true)), .bin .eql .no (.t 32) (.c (.int .i64 1))⟩,
 ⟨(some 34), none, .pick (.t 31) (.t 33) (.c (.bool false))⟩,
 ⟨(some 35), none, .mov (.t 34)⟩,
 ⟨(some 36), (some (35, true)), .call (.c (.fn (.func 23) [] [])) []⟩,
 ⟨(some 37), none, .pick (.t 35) (.t 36) (.c (.bool false))⟩,
 ⟨(some 2), none, .mov (.t 37)⟩] [2])
 .ret)
 .skip))
 (.seq
 (.seq
 (.ops [
 ⟨(some 38), none, .mov (.t 3)⟩,
 ⟨(some 39), none, .mov (.t 0)⟩,
 ⟨(some 40), none, .call (.c (.fn (.func 33) [] [])) [(.t 39), (.c (.int .i64 4)), (.c (.int .i64 100))]⟩,
 ⟨(some 41), none, .call (.c (.fn (.func 36) [] [])) [(.t 38), (.t 40)]⟩,
 ⟨(some 42), none, .not (.t 41)⟩,
 ⟨(some 43), none, .mov (.t 42)⟩,
 ⟨(some 44), (some (43, false)), .mov (.t 4)⟩,
 ⟨(some 45), (some (43, false)), .bin .neq .no (.t 44) (.c (.int .i64 0))⟩,
 ⟨(some 46), none, .pick (.t 43) (.c (.bool true)) (.t 45)⟩,
 ⟨(some 47), none, .mov (.t 46)⟩,
 ⟨(some 48), (some (47, false)), .call (.c (.fn (.func 23) [] [])) []⟩,
 ⟨(some 49), (some (47, false)), .not (.t 48)⟩,
 ⟨(some 50), none, .pick (.t 47) (.c (.bool true)) (.t 49)⟩] [50])
 (.cond (.t 50)
 (.seq
 (.ops [
 ⟨(some 2), none, .mov (.c (.bool false))⟩] [2])
 .ret)
 .skip))
 (.seq
 (.seq
 (.ops [
 ⟨(some 51), none, .mov (.t 0)⟩,
 ⟨(some 52), none, .call (.c (.fn (.func 33) [] [])) [(.t 51), (.c (.int .i64 3)), (.c (.int .i64 100))]⟩,
 ⟨(some 7), none, .mov (.t 52)⟩] [7])
 (.seq
 (.ops [
 ⟨(some 53), none, .mov (.t 7)⟩,
 ⟨(some 54), none, .bin .neq .slice (.t 53) (.c .nilsl)⟩] [54])
 (.cond (.t 54)
 (.seq
 (.ops [
 ⟨(some 55), none, .mov (.t 5)⟩,
 ⟨(some 56), none, .mov (.t 7)⟩,
 ⟨(some 57), none, .call (.c (.fn (.func 36) [] [])) [(.t 55), (.t 56)]⟩,
 ⟨(some 58), none, .mov (.t 57)⟩,
 ⟨(some 59), (some (58, true)), .mov (.t 6)⟩,
 ⟨(some 60), (some (58, true)), .bin .eql .no (.t 59) (.c (.int .i64 0))⟩,
 ⟨(some 61), none, .pick (.t 58) (.t 60) (.c (.bool false))⟩,
 ⟨(some 2), none, .mov (.t 61)⟩] [2])
 .ret)
 .skip)))
 (.seq
 (.ops [
 ⟨(some 62), none, .mov (.t 5)⟩,
 ⟨(some 63), none, .lenS (.t 62)⟩,
 ⟨(some 64), none, .bin .eql .no (.t 63) (.c (.int .i64 0))⟩,
 ⟨(some 65), none, .mov (.t 64)⟩,
 ⟨(some 66), (some (65, true)), .mov (.t 6)⟩,
 ⟨(some 67), (some (65, true)), .bin .eql .no (.t 66) (.c (.int .i64 5))⟩,
 ⟨(some 68), none, .pick (.t 65) (.t 67) (.c (.bool false))⟩,
 ⟨(some 2), none, .mov (.t 68)⟩] [2])
 .ret))))))),
 [.tmp 2]⟩

theorem c7 : compF Try.prog 7 = some sf7 := by kernel_rfl
end Go.Proofs.Ytpobklkllfokdaa
