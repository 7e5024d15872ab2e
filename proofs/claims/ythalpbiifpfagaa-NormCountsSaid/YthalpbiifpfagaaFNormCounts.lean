/- The law NormCounts, compiled. -/
import Derived.Test.YthalpbiifpfagaaRows
import Derived.Test.YthalpbiifpfagaaSE
import Derived.KernelRfl
set_option linter.unusedVariables false
set_option maxRecDepth 100000

namespace Go.Proofs.Ythalpbiifpfagaa

open Go Go.Abs
/-- bellpull/bellpulllaw04.NormCounts -/
noncomputable def sf3 : SFun := ⟨[0, 2, 3, 4, 5, 6, 19, 48, 50], 65,
 (.seq
 (.ops [
 ⟨(some 2), none, .mov (.c (.bool false))⟩] [2])
 (.seq
 (.ops [
 ⟨(some 8), none, .mov (.t 0)⟩,
 ⟨(some 9), none, .call (.c (.fn (.func 4) [] [])) [(.t 8)]⟩,
 ⟨(some 7), none, .mov (.t 9)⟩,
 ⟨(some 10), none, .ext (.t 7) 0⟩,
 ⟨(some 11), none, .ext (.t 7) 1⟩,
 ⟨(some 3), none, .mov (.t 10)⟩,
 ⟨(some 4), none, .mov (.t 11)⟩] [3, 4])
 (.seq
 (.ops [
 ⟨(some 13), none, .mov (.t 0)⟩,
 ⟨(some 14), none, .call (.c (.fn (.func 5) [] [])) [(.t 13)]⟩,
 ⟨(some 12), none, .mov (.t 14)⟩,
 ⟨(some 15), none, .ext (.t 12) 0⟩,
 ⟨(some 16), none, .ext (.t 12) 1⟩,
 ⟨(some 5), none, .mov (.t 15)⟩,
 ⟨(some 6), none, .mov (.t 16)⟩] [5, 6])
 (.seq
 (.seq
 (.ops [
 ⟨(some 17), none, .mov (.t 0)⟩,
 ⟨(some 18), none, .call (.c (.fn (.func 6) [] [])) [(.t 17), (.c (.int .i64 0)), (.c (.int .i64 10000))]⟩,
 ⟨(some 19), none, .not (.t 18)⟩] [19])
 (.cond (.t 19)
 (.seq
 (.ops [
 ⟨(some 20), none, .mov (.t 3)⟩,
 ⟨(some 21), none, .bin .eql .no (.t 20) (.c (.int .i64 0))⟩,
 ⟨(some 22), none, .mov (.t 21)⟩,
 ⟨(some 23), (some (22, true)), .mov (.t 5)⟩,
 ⟨(some 24), (some (22, true)), .bin .eql .no (.t 23) (.c (.int .i64 0))⟩,
 ⟨(some 25), none, .pick (.t 22) (.t 24) (.c (.bool false))⟩,
 ⟨(some 26), none, .mov (.t 25)⟩,
 ⟨(some 27), (some (26, true)), .mov (.t 4)⟩,
 ⟨(some 28), (some (26, true)), .bin .eql .no (.t 27) (.c (.int .i64 1))⟩,
 ⟨(some 29), none, .pick (.t 26) (.t 28) (.c (.bool false))⟩,
 ⟨(some 30), none, .mov (.t 29)⟩,
 ⟨(some 31), (some (30, true)), .mov (.t 6)⟩,
 ⟨(some 32), (some (30, true)), .bin .eql .no (.t 31) (.c (.int .i64 1))⟩,
 ⟨(some 33), none, .pick (.t 30) (.t 32) (.c (.bool false))⟩,
 ⟨(some 34), none, .mov (.t 33)⟩,
 ⟨(some 35), (some (34, true)), .call (.c (.fn (.func 7) [] [])) []⟩,
 ⟨(some 36), none, .pick (.t 34) (.t 35) (.c (.bool false))⟩,
 ⟨(some 2), none, .mov (.t 36)⟩] [2])
 .ret)
 .skip))
 (.seq
 (.seq
 (.ops [
 ⟨(some 37), none, .mov (.t 3)⟩,
 ⟨(some 38), none, .mov (.t 0)⟩,
 ⟨(some 39), none, .call (.c (.fn (.func 8) [] [])) [(.t 38)]⟩,
 ⟨(some 40), none, .bin .neq .no (.t 37) (.t 39)⟩,
 ⟨(some 41), none, .mov (.t 40)⟩,
 ⟨(some 42), (some (41, false)), .mov (.t 4)⟩,
 ⟨(some 43), (some (41, false)), .bin .neq .no (.t 42) (.c (.int .i64 0))⟩,
 ⟨(some 44), none, .pick (.t 41) (.c (.bool true)) (.t 43)⟩,
 ⟨(some 45), none, .mov (.t 44)⟩,
 ⟨(some 46), (some (45, false)), .call (.c (.fn (.func 7) [] [])) []⟩,
 ⟨(some 47), (some (45, false)), .not (.t 46)⟩,
 ⟨(some 48), none, .pick (.t 45) (.c (.bool true)) (.t 47)⟩] [48])
 (.cond (.t 48)
 (.seq
 (.ops [
 ⟨(some 2), none, .mov (.c (.bool false))⟩] [2])
 .ret)
 .skip))
 (.seq
 (.seq
 (.ops [
 ⟨(some 49), none, .mov (.t 0)⟩,
 ⟨(some 50), none, .bin .eql .no (.t 49) (.c (.int .i64 0))⟩] [50])
 (.cond (.t 50)
 (.seq
 (.ops [
 ⟨(some 51), none, .mov (.t 5)⟩,
 ⟨(some 52), none, .bin .eql .no (.t 51) (.c (.int .i64 0))⟩,
 ⟨(some 53), none, .mov (.t 52)⟩,
 ⟨(some 54), (some (53, true)), .mov (.t 6)⟩,
 ⟨(some 55), (some (53, true)), .bin .eql .no (.t 54) (.c (.int .i64 1))⟩,
 ⟨(some 56), none, .pick (.t 53) (.t 55) (.c (.bool false))⟩,
 ⟨(some 2), none, .mov (.t 56)⟩] [2])
 .ret)
 .skip))
 (.seq
 (.ops [
 ⟨(some 57), none, .mov (.t 5)⟩,
 ⟨(some 58), none, .mov (.t 0)⟩,
 ⟨(some 59), none, .call (.c (.fn (.func 9) [] [])) [(.t 58)]⟩,
 ⟨(some 60), none, .bin .eql .no (.t 57) (.t 59)⟩,
 ⟨(some 61), none, .mov (.t 60)⟩,
 ⟨(some 62), (some (61, true)), .mov (.t 6)⟩,
 ⟨(some 63), (some (61, true)), .bin .eql .no (.t 62) (.c (.int .i64 0))⟩,
 ⟨(some 64), none, .pick (.t 61) (.t 63) (.c (.bool false))⟩,
 ⟨(some 2), none, .mov (.t 64)⟩] [2])
 .ret))))))),
 [.tmp 2]⟩

theorem c3 : compF Try.prog 3 = some sf3 := by kernel_rfl

end Go.Proofs.Ythalpbiifpfagaa

