/- The law PatchColors, compiled. -/
import Derived.Test.YtbomimhfldmlbaaDoorRows
import Derived.Test.YtbomimhfldmlbaaDoorSE
import Derived.KernelRfl
set_option linter.unusedVariables false
set_option maxRecDepth 100000
namespace Go.Proofs.YtbomimhfldmlbaaDoor
open Go Go.Abs
/-- bellpull/bellpulllaw06.PatchColors -/
noncomputable def sf8 : SFun := ⟨[0, 1, 2, 6, 7, 8, 9, 10, 30], 56,
 (.seq
 (.ops [
 ⟨(some 6), none, .mov (.c (.bool false))⟩] [6])
 (.seq
 (.ops [
 ⟨(some 11), none, .buildS [(.int .i64 0), (.int .i64 0)] 0 2 []⟩,
 ⟨(some 12), none, .mov (.t 2)⟩,
 ⟨(some 13), none, .mov (.t 2)⟩,
 ⟨(some 14), none, .lenS (.t 13)⟩,
 ⟨(some 15), none, .mn (.t 14) (.c (.int .i64 13))⟩,
 ⟨(some 16), none, .slice 2 (.t 12) none (some (.t 15))⟩,
 ⟨(some 17), none, .app true 2 (.t 11) (.t 16)⟩,
 ⟨(some 7), none, .mov (.t 17)⟩] [7])
 (.seq
 (.ops [
 ⟨(some 19), none, .mov (.t 0)⟩,
 ⟨(some 20), none, .mov (.t 1)⟩,
 ⟨(some 21), none, .mov (.t 7)⟩,
 ⟨(some 22), none, .call (.c (.fn (.func 40) [] [])) [(.t 19), (.t 20), (.t 21)]⟩,
 ⟨(some 18), none, .mov (.t 22)⟩,
 ⟨(some 23), none, .ext (.t 18) 0⟩,
 ⟨(some 24), none, .ext (.t 18) 1⟩,
 ⟨(some 8), none, .mov (.t 23)⟩,
 ⟨(some 9), none, .mov (.t 24)⟩] [8, 9])
 (.seq
 (.seq
 (.ops [
 ⟨(some 25), none, .mov (.t 0)⟩,
 ⟨(some 26), none, .mov (.t 1)⟩,
 ⟨(some 27), none, .mov (.t 7)⟩,
 ⟨(some 28), none, .call (.c (.fn (.func 41) [] [])) [(.t 25), (.t 26), (.t 27)]⟩,
 ⟨(some 10), none, .mov (.t 28)⟩] [10])
 (.seq
 (.ops [
 ⟨(some 29), none, .mov (.t 10)⟩,
 ⟨(some 30), none, .bin .neq .no (.t 29) (.c (.int .i64 0))⟩] [30])
 (.cond (.t 30)
 (.seq
 (.ops [
 ⟨(some 31), none, .mov (.t 8)⟩,
 ⟨(some 32), none, .lenS (.t 31)⟩,
 ⟨(some 33), none, .bin .eql .no (.t 32) (.c (.int .i64 0))⟩,
 ⟨(some 34), none, .mov (.t 33)⟩,
 ⟨(some 35), (some (34, true)), .mov (.t 9)⟩,
 ⟨(some 36), (some (34, true)), .mov (.t 10)⟩,
 ⟨(some 37), (some (34, true)), .bin .eql .no (.t 35) (.t 36)⟩,
 ⟨(some 38), none, .pick (.t 34) (.t 37) (.c (.bool false))⟩,
 ⟨(some 39), none, .mov (.t 38)⟩,
 ⟨(some 40), (some (39, true)), .call (.c (.fn (.func 21) [] [])) []⟩,
 ⟨(some 41), none, .pick (.t 39) (.t 40) (.c (.bool false))⟩,
 ⟨(some 6), none, .mov (.t 41)⟩] [6])
 .ret)
 .skip)))
 (.seq
 (.ops [
 ⟨(some 42), none, .mov (.t 8)⟩,
 ⟨(some 43), none, .mov (.t 7)⟩,
 ⟨(some 44), none, .mov (.t 7)⟩,
 ⟨(some 45), none, .call (.c (.fn (.func 43) [] [])) [(.t 44)]⟩,
 ⟨(some 46), none, .buildS [(.int .i64 0)] 0 1 []⟩,
 ⟨(some 47), none, .call (.c (.fn (.func 42) [] [])) [(.t 43), (.t 45), (.t 46)]⟩,
 ⟨(some 48), none, .call (.c (.fn (.func 26) [] [])) [(.t 42), (.t 47)]⟩,
 ⟨(some 49), none, .mov (.t 48)⟩,
 ⟨(some 50), (some (49, true)), .mov (.t 9)⟩,
 ⟨(some 51), (some (49, true)), .bin .eql .no (.t 50) (.c (.int .i64 0))⟩,
 ⟨(some 52), none, .pick (.t 49) (.t 51) (.c (.bool false))⟩,
 ⟨(some 53), none, .mov (.t 52)⟩,
 ⟨(some 54), (some (53, true)), .call (.c (.fn (.func 21) [] [])) []⟩,
 ⟨(some 55), none, .pick (.t 53) (.t 54) (.c (.bool false))⟩,
 ⟨(some 6), none, .mov (.t 55)⟩] [6])
 .ret))))),
 [.tmp 6]⟩

theorem c8 : compF Tryd.prog 8 = some sf8 := by kernel_rfl
end Go.Proofs.YtbomimhfldmlbaaDoor
