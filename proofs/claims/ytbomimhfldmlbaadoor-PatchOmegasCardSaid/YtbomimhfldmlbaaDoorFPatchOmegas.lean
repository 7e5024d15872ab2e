/- The law PatchOmegas, compiled. -/
import Derived.Test.YtbomimhfldmlbaaDoorRows
import Derived.Test.YtbomimhfldmlbaaDoorSA
import Derived.KernelRfl
set_option linter.unusedVariables false
set_option maxRecDepth 100000
namespace Go.Proofs.YtbomimhfldmlbaaDoor
open Go Go.Abs
/-- bellpull/bellpulllaw06.PatchOmegas -/
noncomputable def sf7 : SFun := ⟨[0, 1, 4, 5, 6, 7, 18, 32], 54,
 (.seq
 (.ops [
 ⟨(some 4), none, .mov (.c (.bool false))⟩] [4])
 (.seq
 (.ops [
 ⟨(some 8), none, .mov (.t 1)⟩,
 ⟨(some 9), none, .call (.c (.fn (.func 17) [] [])) [(.t 8)]⟩,
 ⟨(some 5), none, .mov (.t 9)⟩] [5])
 (.seq
 (.ops [
 ⟨(some 11), none, .mov (.t 0)⟩,
 ⟨(some 12), none, .mov (.t 5)⟩,
 ⟨(some 13), none, .call (.c (.fn (.func 38) [] [])) [(.t 11), (.t 12)]⟩,
 ⟨(some 10), none, .mov (.t 13)⟩,
 ⟨(some 14), none, .ext (.t 10) 0⟩,
 ⟨(some 15), none, .ext (.t 10) 1⟩,
 ⟨(some 6), none, .mov (.t 14)⟩,
 ⟨(some 7), none, .mov (.t 15)⟩] [6, 7])
 (.seq
 (.seq
 (.ops [
 ⟨(some 16), none, .mov (.t 0)⟩,
 ⟨(some 17), none, .call (.c (.fn (.func 28) [] [])) [(.t 16), (.c (.int .i64 1)), (.c (.int .i64 3))]⟩,
 ⟨(some 18), none, .not (.t 17)⟩] [18])
 (.cond (.t 18)
 (.seq
 (.ops [
 ⟨(some 19), none, .mov (.t 6)⟩,
 ⟨(some 20), none, .not (.t 19)⟩,
 ⟨(some 21), none, .mov (.t 20)⟩,
 ⟨(some 22), (some (21, true)), .mov (.t 7)⟩,
 ⟨(some 23), (some (21, true)), .bin .eql .no (.t 22) (.c (.int .i64 1))⟩,
 ⟨(some 24), none, .pick (.t 21) (.t 23) (.c (.bool false))⟩,
 ⟨(some 25), none, .mov (.t 24)⟩,
 ⟨(some 26), (some (25, true)), .call (.c (.fn (.func 21) [] [])) []⟩,
 ⟨(some 27), none, .pick (.t 25) (.t 26) (.c (.bool false))⟩,
 ⟨(some 4), none, .mov (.t 27)⟩] [4])
 .ret)
 .skip))
 (.seq
 (.seq
 (.ops [
 ⟨(some 28), none, .mov (.t 0)⟩,
 ⟨(some 29), none, .bin .shl .no (.c (.int .i64 1)) (.t 28)⟩,
 ⟨(some 30), none, .mov (.t 5)⟩,
 ⟨(some 31), none, .call (.c (.fn (.func 22) [] [])) [(.t 29), (.t 30)]⟩,
 ⟨(some 32), none, .not (.t 31)⟩] [32])
 (.cond (.t 32)
 (.seq
 (.ops [
 ⟨(some 33), none, .mov (.t 6)⟩,
 ⟨(some 34), none, .not (.t 33)⟩,
 ⟨(some 35), none, .mov (.t 34)⟩,
 ⟨(some 36), (some (35, true)), .mov (.t 7)⟩,
 ⟨(some 37), (some (35, true)), .bin .eql .no (.t 36) (.c (.int .i64 2))⟩,
 ⟨(some 38), none, .pick (.t 35) (.t 37) (.c (.bool false))⟩,
 ⟨(some 39), none, .mov (.t 38)⟩,
 ⟨(some 40), (some (39, true)), .call (.c (.fn (.func 21) [] [])) []⟩,
 ⟨(some 41), none, .pick (.t 39) (.t 40) (.c (.bool false))⟩,
 ⟨(some 4), none, .mov (.t 41)⟩] [4])
 .ret)
 .skip))
 (.seq
 (.ops [
 ⟨(some 42), none, .mov (.t 6)⟩,
 ⟨(some 43), none, .mov (.t 0)⟩,
 ⟨(some 44), none, .mov (.t 5)⟩,
 ⟨(some 45), none, .call (.c (.fn (.func 39) [] [])) [(.t 43), (.t 44)]⟩,
 ⟨(some 46), none, .bin .eql .bool (.t 42) (.t 45)⟩,
 ⟨(some 47), none, .mov (.t 46)⟩,
 ⟨(some 48), (some (47, true)), .mov (.t 7)⟩,
 ⟨(some 49), (some (47, true)), .bin .eql .no (.t 48) (.c (.int .i64 0))⟩,
 ⟨(some 50), none, .pick (.t 47) (.t 49) (.c (.bool false))⟩,
 ⟨(some 51), none, .mov (.t 50)⟩,
 ⟨(some 52), (some (51, true)), .call (.c (.fn (.func 21) [] [])) []⟩,
 ⟨(some 53), none, .pick (.t 51) (.t 52) (.c (.bool false))⟩,
 ⟨(some 4), none, .mov (.t 53)⟩] [4])
 .ret)))))),
 [.tmp 4]⟩

theorem c7 : compF Tryd.prog 7 = some sf7 := by kernel_rfl
end Go.Proofs.YtbomimhfldmlbaaDoor
