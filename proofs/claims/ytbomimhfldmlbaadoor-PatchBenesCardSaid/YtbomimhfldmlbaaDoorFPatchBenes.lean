/- The law PatchBenes, compiled. -/
import Derived.Test.YtbomimhfldmlbaaDoorRows
import Derived.Test.YtbomimhfldmlbaaDoorSA
import Derived.KernelRfl
set_option linter.unusedVariables false
set_option maxRecDepth 100000
namespace Go.Proofs.YtbomimhfldmlbaaDoor
open Go Go.Abs
/-- bellpull/bellpulllaw06.PatchBenes -/
noncomputable def sf11 : SFun := ⟨[0, 1, 4, 5, 6, 7, 8, 9, 10], 52,
 (.seq
 (.ops [
 ⟨(some 4), none, .mov (.c (.bool false))⟩] [4])
 (.seq
 (.ops [
 ⟨(some 11), none, .mov (.t 0)⟩,
 ⟨(some 12), none, .conv .i64 (.t 11)⟩,
 ⟨(some 13), none, .bin .rem .no (.t 12) (.c (.int .i64 3))⟩,
 ⟨(some 14), none, .bin .add .no (.t 13) (.c (.int .i64 1))⟩,
 ⟨(some 5), none, .mov (.t 14)⟩] [5])
 (.seq
 (.ops [
 ⟨(some 15), none, .mov (.t 5)⟩,
 ⟨(some 16), none, .bin .shl .no (.c (.int .i64 1)) (.t 15)⟩,
 ⟨(some 17), none, .mov (.t 1)⟩,
 ⟨(some 18), none, .call (.c (.fn (.func 45) [] [])) [(.t 16), (.t 17)]⟩,
 ⟨(some 6), none, .mov (.t 18)⟩] [6])
 (.seq
 (.ops [
 ⟨(some 20), none, .mov (.t 5)⟩,
 ⟨(some 21), none, .mov (.t 6)⟩,
 ⟨(some 22), none, .call (.c (.fn (.func 31) [] [])) [(.t 20), (.t 21)]⟩,
 ⟨(some 19), none, .mov (.t 22)⟩,
 ⟨(some 23), none, .ext (.t 19) 0⟩,
 ⟨(some 24), none, .ext (.t 19) 1⟩,
 ⟨(some 7), none, .mov (.t 23)⟩,
 ⟨(some 8), none, .mov (.t 24)⟩] [7, 8])
 (.seq
 (.ops [
 ⟨(some 26), none, .mov (.t 5)⟩,
 ⟨(some 27), none, .mov (.t 7)⟩,
 ⟨(some 28), none, .call (.c (.fn (.func 30) [] [])) [(.t 26), (.t 27)]⟩,
 ⟨(some 25), none, .mov (.t 28)⟩,
 ⟨(some 29), none, .ext (.t 25) 0⟩,
 ⟨(some 30), none, .ext (.t 25) 1⟩,
 ⟨(some 9), none, .mov (.t 29)⟩,
 ⟨(some 10), none, .mov (.t 30)⟩] [9, 10])
 (.seq
 (.ops [
 ⟨(some 31), none, .mov (.t 8)⟩,
 ⟨(some 32), none, .bin .eql .no (.t 31) (.c (.int .i64 0))⟩,
 ⟨(some 33), none, .mov (.t 32)⟩,
 ⟨(some 34), (some (33, true)), .mov (.t 10)⟩,
 ⟨(some 35), (some (33, true)), .bin .eql .no (.t 34) (.c (.int .i64 0))⟩,
 ⟨(some 36), none, .pick (.t 33) (.t 35) (.c (.bool false))⟩,
 ⟨(some 37), none, .mov (.t 36)⟩,
 ⟨(some 38), (some (37, true)), .mov (.t 7)⟩,
 ⟨(some 39), (some (37, true)), .lenT (.t 38)⟩,
 ⟨(some 40), (some (37, true)), .mov (.t 5)⟩,
 ⟨(some 41), (some (37, true)), .call (.c (.fn (.func 47) [] [])) [(.t 40)]⟩,
 ⟨(some 42), (some (37, true)), .bin .eql .no (.t 39) (.t 41)⟩,
 ⟨(some 43), none, .pick (.t 37) (.t 42) (.c (.bool false))⟩,
 ⟨(some 44), none, .mov (.t 43)⟩,
 ⟨(some 45), (some (44, true)), .mov (.t 9)⟩,
 ⟨(some 46), (some (44, true)), .mov (.t 6)⟩,
 ⟨(some 47), (some (44, true)), .call (.c (.fn (.func 26) [] [])) [(.t 45), (.t 46)]⟩,
 ⟨(some 48), none, .pick (.t 44) (.t 47) (.c (.bool false))⟩,
 ⟨(some 49), none, .mov (.t 48)⟩,
 ⟨(some 50), (some (49, true)), .call (.c (.fn (.func 21) [] [])) []⟩,
 ⟨(some 51), none, .pick (.t 49) (.t 50) (.c (.bool false))⟩,
 ⟨(some 4), none, .mov (.t 51)⟩] [4])
 .ret)))))),
 [.tmp 4]⟩

theorem c11 : compF Tryd.prog 11 = some sf11 := by kernel_rfl
end Go.Proofs.YtbomimhfldmlbaaDoor
