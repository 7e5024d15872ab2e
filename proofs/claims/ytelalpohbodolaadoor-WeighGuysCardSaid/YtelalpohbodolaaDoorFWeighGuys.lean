/- The law WeighGuys, compiled. -/
import Derived.Test.YtelalpohbodolaaDoorRows
import Derived.Test.YtelalpohbodolaaDoorSA
import Derived.KernelRfl
set_option linter.unusedVariables false
set_option maxRecDepth 100000
namespace Go.Proofs.YtelalpohbodolaaDoor
open Go Go.Abs
/-- bellpull/bellpulllaw08.WeighGuys -/
noncomputable def sf6 : SFun := ⟨[0, 2, 3, 4, 5, 6, 48, 51], 67,
 (.seq
 (.ops [
 ⟨(some 2), none, .mov (.c (.bool false))⟩] [2])
 (.seq
 (.ops [
 ⟨(some 8), none, .mov (.t 0)⟩,
 ⟨(some 9), none, .call (.c (.fn (.func 25) [] [])) [(.t 8)]⟩,
 ⟨(some 7), none, .mov (.t 9)⟩,
 ⟨(some 10), none, .ext (.t 7) 0⟩,
 ⟨(some 11), none, .ext (.t 7) 1⟩,
 ⟨(some 3), none, .mov (.t 10)⟩,
 ⟨(some 4), none, .mov (.t 11)⟩] [3, 4])
 (.seq
 (.ops [
 ⟨(some 13), none, .mov (.t 0)⟩,
 ⟨(some 14), none, .call (.c (.fn (.func 26) [] [])) [(.t 13)]⟩,
 ⟨(some 12), none, .mov (.t 14)⟩,
 ⟨(some 15), none, .ext (.t 12) 0⟩,
 ⟨(some 16), none, .ext (.t 12) 1⟩,
 ⟨(some 5), none, .mov (.t 15)⟩,
 ⟨(some 6), none, .mov (.t 16)⟩] [5, 6])
 (.seq
 (.seq
 (.ops [
 ⟨(some 17), none, .mov (.t 0)⟩,
 ⟨(some 18), none, .call (.c (.fn (.func 27) [] [])) [(.t 17), (.c (.int .i64 0)), (.c (.int .i64 60))]⟩,
 ⟨(some 19), none, .not (.t 18)⟩,
 ⟨(some 20), none, .mov (.t 19)⟩,
 ⟨(some 21), (some (20, true)), .mov (.t 3)⟩,
 ⟨(some 22), (some (20, true)), .bin .neq .no (.t 21) (.c (.int .i64 0))⟩,
 ⟨(some 23), (some (20, true)), .mov (.t 22)⟩,
 ⟨(some 24), (some (23, false)), .mov (.t 4)⟩,
 ⟨(some 25), (some (23, false)), .bin .neq .no (.t 24) (.c (.int .i64 1))⟩,
 ⟨(some 26), (some (20, true)), .pick (.t 23) (.c (.bool true)) (.t 25)⟩,
 ⟨(some 27), none, .pick (.t 20) (.t 26) (.c (.bool false))⟩,
 ⟨(some 28), none, .mov (.t 27)⟩,
 ⟨(some 29), (some (28, false)), .mov (.t 0)⟩,
 ⟨(some 30), (some (28, false)), .call (.c (.fn (.func 27) [] [])) [(.t 29), (.c (.int .i64 0)), (.c (.int .i64 60))]⟩,
 ⟨(some 31), (some (28, false)), .mov (.t 30)⟩,
 ⟨(some 32), (some (31, true)), .mov (.t 4)⟩,
 ⟨(some 33), (some (31, true)), .bin .neq .no (.t 32) (.c (.int .i64 0))⟩,
 ⟨(some 34), (some (31, true)), .mov (.t 33)⟩,
 ⟨(some 35), (some (34, false)), .mov (.t 3)⟩,
 ⟨(some 36), (some (34, false)), .mov (.t 0)⟩,
 ⟨(some 37), (some (34, false)), .call (.c (.fn (.func 28) [] [])) [(.t 36)]⟩,
 ⟨(some 38), (some (34, false)), .mov (.t 0)⟩,
 ⟨(some 39), (some (34, false)), .ixS 1 (.t 37) (.t 38)⟩,
 ⟨(some 40), (some (34, false)), .load none (.t 39)⟩,
 ⟨(some 41), (some (34, false)), .bin .neq .no (.t 35) (.t 40)⟩,
 ⟨(some 42), (some (31, true)), .pick (.t 34) (.c (.bool true)) (.t 41)⟩,
 ⟨(some 43), (some (28, false)), .pick (.t 31) (.t 42) (.c (.bool false))⟩,
 ⟨(some 44), none, .pick (.t 28) (.c (.bool true)) (.t 43)⟩,
 ⟨(some 45), none, .mov (.t 44)⟩,
 ⟨(some 46), (some (45, false)), .call (.c (.fn (.func 17) [] [])) []⟩,
 ⟨(some 47), (some (45, false)), .not (.t 46)⟩,
 ⟨(some 48), none, .pick (.t 45) (.c (.bool true)) (.t 47)⟩] [48])
 (.cond (.t 48)
 (.seq
 (.ops [
 ⟨(some 2), none, .mov (.c (.bool false))⟩] [2])
 .ret)
 .skip))
 (.seq
 (.seq
 (.ops [
 ⟨(some 49), none, .mov (.t 0)⟩,
 ⟨(some 50), none, .call (.c (.fn (.func 27) [] [])) [(.t 49), (.c (.int .i64 1)), (.c (.int .i64 12))]⟩,
 ⟨(some 51), none, .not (.t 50)⟩] [51])
 (.cond (.t 51)
 (.seq
 (.ops [
 ⟨(some 52), none, .mov (.t 5)⟩,
 ⟨(some 53), none, .lenS (.t 52)⟩,
 ⟨(some 54), none, .bin .eql .no (.t 53) (.c (.int .i64 0))⟩,
 ⟨(some 55), none, .mov (.t 54)⟩,
 ⟨(some 56), (some (55, true)), .mov (.t 6)⟩,
 ⟨(some 57), (some (55, true)), .bin .eql .no (.t 56) (.c (.int .i64 1))⟩,
 ⟨(some 58), none, .pick (.t 55) (.t 57) (.c (.bool false))⟩,
 ⟨(some 2), none, .mov (.t 58)⟩] [2])
 .ret)
 .skip))
 (.seq
 (.ops [
 ⟨(some 59), none, .mov (.t 5)⟩,
 ⟨(some 60), none, .mov (.t 0)⟩,
 ⟨(some 61), none, .call (.c (.fn (.func 29) [] [])) [(.t 60)]⟩,
 ⟨(some 62), none, .call (.c (.fn (.func 19) [] [])) [(.t 59), (.t 61)]⟩,
 ⟨(some 63), none, .mov (.t 62)⟩,
 ⟨(some 64), (some (63, true)), .mov (.t 6)⟩,
 ⟨(some 65), (some (63, true)), .bin .eql .no (.t 64) (.c (.int .i64 0))⟩,
 ⟨(some 66), none, .pick (.t 63) (.t 65) (.c (.bool false))⟩,
 ⟨(some 2), none, .mov (.t 66)⟩] [2])
 .ret)))))),
 [.tmp 2]⟩

theorem c6 : compF Tryd.prog 6 = some sf6 := by kernel_rfl
end Go.Proofs.YtelalpohbodolaaDoor
