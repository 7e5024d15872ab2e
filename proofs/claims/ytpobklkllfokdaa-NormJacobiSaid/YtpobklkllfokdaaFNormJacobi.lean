/- The law NormJacobi, compiled. -/
import Derived.Test.YtpobklkllfokdaaRows
import Derived.Test.YtpobklkllfokdaaSE
import Derived.KernelRfl
set_option linter.unusedVariables false
set_option maxRecDepth 100000
namespace Go.Proofs.Ytpobklkllfokdaa
open Go Go.Abs
/-- bellpull/bellpulllaw04.NormJacobi -/
noncomputable def sf14 : SFun := ⟨[0, 2, 3, 4, 5, 6, 7, 8, 9, 10, 27, 38, 50], 75,
 (.seq
 (.ops [
 ⟨(some 2), none, .mov (.c (.bool false))⟩] [2])
 (.seq
 (.ops [
 ⟨(some 11), none, .mov (.t 0)⟩,
 ⟨(some 12), none, .conv .i64 (.t 11)⟩,
 ⟨(some 13), none, .bin .rem .no (.t 12) (.c (.int .i64 10000))⟩,
 ⟨(some 14), none, .bin .add .no (.t 13) (.c (.int .i64 1))⟩,
 ⟨(some 3), none, .mov (.t 14)⟩] [3])
 (.seq
 (.ops [
 ⟨(some 16), none, .mov (.t 3)⟩,
 ⟨(some 17), none, .call (.c (.fn (.func 37) [] [])) [(.t 16)]⟩,
 ⟨(some 15), none, .mov (.t 17)⟩,
 ⟨(some 18), none, .ext (.t 15) 0⟩,
 ⟨(some 19), none, .ext (.t 15) 1⟩,
 ⟨(some 4), none, .mov (.t 18)⟩,
 ⟨(some 5), none, .mov (.t 19)⟩] [4, 5])
 (.seq
 (.ops [
 ⟨(some 21), none, .mov (.t 3)⟩,
 ⟨(some 22), none, .call (.c (.fn (.func 38) [] [])) [(.t 21)]⟩,
 ⟨(some 20), none, .mov (.t 22)⟩,
 ⟨(some 23), none, .ext (.t 20) 0⟩,
 ⟨(some 24), none, .ext (.t 20) 1⟩,
 ⟨(some 6), none, .mov (.t 23)⟩,
 ⟨(some 7), none, .mov (.t 24)⟩] [6, 7])
 (.seq
 (.ops [
 ⟨(some 8), none, .mov (.c (.int .i64 0))⟩,
 ⟨(some 9), none, .mov (.c (.int .i64 0))⟩] [8, 9])
 (.seq
 (.seq
 (.ops [
 ⟨(some 10), none, .mov (.c (.int .i64 1))⟩] [10])
 (.block 0
 (.loop
 (.seq
 (.seq
 (.ops [
 ⟨(some 25), none, .mov (.t 10)⟩,
 ⟨(some 26), none, .mov (.t 3)⟩,
 ⟨(some 27), none, .bin .leq .no (.t 25) (.t 26)⟩] [27])
 (.cond (.t 27)
 .skip
 (.exit 0)))
 (.seq
 (.block 1
 (.seq
 (.seq
 (.ops [
 ⟨(some 30), none, .mov (.t 3)⟩,
 ⟨(some 31), none, .mov (.t 10)⟩,
 ⟨(some 32), none, .bin .rem .no (.t 30) (.t 31)⟩,
 ⟨(some 33), none, .bin .eql .no (.t 32) (.c (.int .i64 0))⟩,
 ⟨(some 34), none, .mov (.t 33)⟩,
 ⟨(some 35), (some (34, true)), .mov (.t 10)⟩,
 ⟨(some 36), (some (34, true)), .bin .rem .no (.t 35) (.c (.int .i64 4))⟩,
 ⟨(some 37), (some (34, true)), .bin .neq .no (.t 36) (.c (.int .i64 0))⟩,
 ⟨(some 38), none, .pick (.t 34) (.t 37) (.c (.bool false))⟩] [38])
 (.cond (.t 38)
 (.ops [
 ⟨(some 39), none, .mov (.t 8)⟩,
 ⟨(some 40), none, .mov (.t 10)⟩,
 ⟨(some 41), none, .bin .add .no (.t 39) (.t 40)⟩,
 ⟨(some 8), none, .mov (.t 41)⟩] [8])
 .skip))
 (.seq
 (.ops [
 ⟨(some 42), none, .mov (.t 3)⟩,
 ⟨(some 43), none, .mov (.t 10)⟩,
 ⟨(some 44), none, .bin .rem .no (.t 42) (.t 43)⟩,
 ⟨(some 45), none, .bin .eql .no (.t 44) (.c (.int .i64 0))⟩,
 ⟨(some 46), none, .mov (.t 45)⟩,
 ⟨(some 47), (some (46, true)), .mov (.t 10)⟩,
 ⟨(some 48), (some (46, true)), .bin .rem .no (.t 47) (.c (.int .i64 2))⟩,
 ⟨(some 49), (some (46, true)), .bin .eql .no (.t 48) (.c (.int .i64 1))⟩,
 ⟨(some 50), none, .pick (.t 46) (.t 49) (.c (.bool false))⟩] [50])
 (.cond (.t 50)
 (.ops [
 ⟨(some 51), none, .mov (.t 9)⟩,
 ⟨(some 52), none, .mov (.t 10)⟩,
 ⟨(some 53), none, .bin .add .no (.t 51) (.t 52)⟩,
 ⟨(some 9), none, .mov (.t 53)⟩] [9])
 .skip))))
 (.ops [
 ⟨(some 28), none, .mov (.t 10)⟩,
 ⟨(some 29), none, .bin .add .no (.t 28) (.c (.int .i64 1))⟩,
 ⟨(some 10), none, .mov (.t 29)⟩] [10]))))))
 (.seq
 (.ops [
 ⟨(some 54), none, .mov (.t 5)⟩,
 ⟨(some 55), none, .bin .eql .no (.t 54) (.c (.int .i64 0))⟩,
 ⟨(some 56), none, .mov (.t 55)⟩,
 ⟨(some 57), (some (56, true)), .mov (.t 7)⟩,
 ⟨(some 58), (some (56, true)), .bin .eql .no (.t 57) (.c (.int .i64 0))⟩,
 ⟨(some 59), none, .pick (.t 56) (.t 58) (.c (.bool false))⟩,
 ⟨(some 60), none, .mov (.t 59)⟩,
 ⟨(some 61), (some (60, true)), .mov (.t 4)⟩,
 ⟨(some 62), (some (60, true)), .mov (.t 8)⟩,
 ⟨(some 63), (some (60, true)), .bin .mul .no (.c (.int .i64 8)) (.t 62)⟩,
 ⟨(some 64), (some (60, true)), .bin .eql .no (.t 61) (.t 63)⟩,
 ⟨(some 65), none, .pick (.t 60) (.t 64) (.c (.bool false))⟩,
 ⟨(some 66), none, .mov (.t 65)⟩,
 ⟨(some 67), (some (66, true)), .mov (.t 6)⟩,
 ⟨(some 68), (some (66, true)), .mov (.t 9)⟩,
 ⟨(some 69), (some (66, true)), .bin .mul .no (.c (.int .i64 24)) (.t 68)⟩,
 ⟨(some 70), (some (66, true)), .bin .eql .no (.t 67) (.t 69)⟩,
 ⟨(some 71), none, .pick (.t 66) (.t 70) (.c (.bool false))⟩,
 ⟨(some 72), none, .mov (.t 71)⟩,
 ⟨(some 73), (some (72, true)), .call (.c (.fn (.func 23) [] [])) []⟩,
 ⟨(some 74), none, .pick (.t 72) (.t 73) (.c (.bool false))⟩,
 ⟨(some 2), none, .mov (.t 74)⟩] [2])
 .ret))))))),
 [.tmp 2]⟩

theorem c14 : compF Try.prog 14 = some sf14 := by kernel_rfl
end Go.Proofs.Ytpobklkllfokdaa
