/- The law NormLagrange, compiled. -/
import Derived.Test.YtpobklkllfokdaaRows
import Derived.Test.YtpobklkllfokdaaSE
import Derived.KernelRfl
set_option linter.unusedVariables false
set_option maxRecDepth 100000
namespace Go.Proofs.Ytpobklkllfokdaa
open Go Go.Abs
/-- bellpull/bellpulllaw04.NormLagrange -/
noncomputable def sf13 : SFun := ⟨[0, 2, 3, 4, 5, 6, 7, 8, 29, 43, 46], 61,
 (.seq
 (.ops [
 ⟨(some 2), none, .mov (.c (.bool false))⟩] [2])
 (.seq
 (.ops [
 ⟨(some 9), none, .mov (.t 0)⟩,
 ⟨(some 10), none, .conv .i64 (.t 9)⟩,
 ⟨(some 11), none, .bin .rem .no (.t 10) (.c (.int .i64 10001))⟩,
 ⟨(some 3), none, .mov (.t 11)⟩] [3])
 (.seq
 (.ops [
 ⟨(some 13), none, .mov (.t 3)⟩,
 ⟨(some 14), none, .call (.c (.fn (.func 34) [] [])) [(.t 13)]⟩,
 ⟨(some 12), none, .mov (.t 14)⟩,
 ⟨(some 15), none, .ext (.t 12) 0⟩,
 ⟨(some 16), none, .ext (.t 12) 1⟩,
 ⟨(some 4), none, .mov (.t 15)⟩,
 ⟨(some 5), none, .mov (.t 16)⟩] [4, 5])
 (.seq
 (.ops [
 ⟨(some 18), none, .mov (.t 3)⟩,
 ⟨(some 19), none, .call (.c (.fn (.func 35) [] [])) [(.t 18)]⟩,
 ⟨(some 17), none, .mov (.t 19)⟩,
 ⟨(some 20), none, .ext (.t 17) 0⟩,
 ⟨(some 21), none, .ext (.t 17) 1⟩,
 ⟨(some 6), none, .mov (.t 20)⟩,
 ⟨(some 7), none, .mov (.t 21)⟩] [6, 7])
 (.seq
 (.ops [
 ⟨(some 22), none, .mov (.t 3)⟩,
 ⟨(some 8), none, .mov (.t 22)⟩] [8])
 (.seq
 (.block 0
 (.loop
 (.seq
 (.seq
 (.ops [
 ⟨(some 23), none, .mov (.t 8)⟩,
 ⟨(some 24), none, .bin .gtr .no (.t 23) (.c (.int .i64 0))⟩,
 ⟨(some 25), none, .mov (.t 24)⟩,
 ⟨(some 26), (some (25, true)), .mov (.t 8)⟩,
 ⟨(some 27), (some (25, true)), .bin .rem .no (.t 26) (.c (.int .i64 4))⟩,
 ⟨(some 28), (some (25, true)), .bin .eql .no (.t 27) (.c (.int .i64 0))⟩,
 ⟨(some 29), none, .pick (.t 25) (.t 28) (.c (.bool false))⟩] [29])
 (.cond (.t 29)
 .skip
 (.exit 0)))
 (.block 1
 (.ops [
 ⟨(some 30), none, .mov (.t 8)⟩,
 ⟨(some 31), none, .bin .quo .no (.t 30) (.c (.int .i64 4))⟩,
 ⟨(some 8), none, .mov (.t 31)⟩] [8])))))
 (.seq
 (.seq
 (.ops [
 ⟨(some 32), none, .mov (.t 5)⟩,
 ⟨(some 33), none, .bin .neq .no (.t 32) (.c (.int .i64 0))⟩,
 ⟨(some 34), none, .mov (.t 33)⟩,
 ⟨(some 35), (some (34, false)), .mov (.t 4)⟩,
 ⟨(some 36), (some (34, false)), .mov (.t 3)⟩,
 ⟨(some 37), (some (34, false)), .call (.c (.fn (.func 45) [] [])) [(.t 35), (.c (.int .i64 4)), (.t 36)]⟩,
 ⟨(some 38), (some (34, false)), .not (.t 37)⟩,
 ⟨(some 39), none, .pick (.t 34) (.c (.bool true)) (.t 38)⟩,
 ⟨(some 40), none, .mov (.t 39)⟩,
 ⟨(some 41), (some (40, false)), .call (.c (.fn (.func 23) [] [])) []⟩,
 ⟨(some 42), (some (40, false)), .not (.t 41)⟩,
 ⟨(some 43), none, .pick (.t 40) (.c (.bool true)) (.t 42)⟩] [43])
 (.cond (.t 43)
 (.seq
 (.ops [
 ⟨(some 2), none, .mov (.c (.bool false))⟩] [2])
 .ret)
 .skip))
 (.seq
 (.seq
 (.ops [
 ⟨(some 44), none, .mov (.t 8)⟩,
 ⟨(some 45), none, .bin .rem .no (.t 44) (.c (.int .i64 8))⟩,
 ⟨(some 46), none, .bin .eql .no (.t 45) (.c (.int .i64 7))⟩] [46])
 (.cond (.t 46)
 (.seq
 (.ops [
 ⟨(some 47), none, .mov (.t 7)⟩,
 ⟨(some 48), none, .bin .eql .no (.t 47) (.c (.int .i64 5))⟩,
 ⟨(some 49), none, .mov (.t 48)⟩,
 ⟨(some 50), (some (49, true)), .mov (.t 6)⟩,
 ⟨(some 51), (some (49, true)), .lenS (.t 50)⟩,
 ⟨(some 52), (some (49, true)), .bin .eql .no (.t 51) (.c (.int .i64 0))⟩,
 ⟨(some 53), none, .pick (.t 49) (.t 52) (.c (.bool false))⟩,
 ⟨(some 2), none, .mov (.t 53)⟩] [2])
 .ret)
 .skip))
 (.seq
 (.ops [
 ⟨(some 54), none, .mov (.t 7)⟩,
 ⟨(some 55), none, .bin .eql .no (.t 54) (.c (.int .i64 0))⟩,
 ⟨(some 56), none, .mov (.t 55)⟩,
 ⟨(some 57), (some (56, true)), .mov (.t 6)⟩,
 ⟨(some 58), (some (56, true)), .mov (.t 3)⟩,
 ⟨(some 59), (some (56, true)), .call (.c (.fn (.func 45) [] [])) [(.t 57), (.c (.int .i64 3)), (.t 58)]⟩,
 ⟨(some 60), none, .pick (.t 56) (.t 59) (.c (.bool false))⟩,
 ⟨(some 2), none, .mov (.t 60)⟩] [2])
 .ret))))))))),
 [.tmp 2]⟩

theorem c13 : compF Try.prog 13 = some sf13 := by kernel_rfl
end Go.Proofs.Ytpobklkllfokdaa
