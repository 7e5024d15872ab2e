/- The law PatchSlepian, compiled. -/
import Derived.Test.YtbomimhfldmlbaaDoorRows
import Derived.Test.YtbomimhfldmlbaaDoorSA
import Derived.KernelRfl
set_option linter.unusedVariables false
set_option maxRecDepth 100000
namespace Go.Proofs.YtbomimhfldmlbaaDoor
open Go Go.Abs
/-- bellpull/bellpulllaw06.PatchSlepian -/
noncomputable def sf9 : SFun := ⟨[0, 1, 2, 4, 5, 6, 7, 8, 9, 10, 11, 12, 34], 80,
 (.seq
 (.ops [
 ⟨(some 2), none, .box (.t 0)⟩,
 ⟨(some 4), none, .mov (.c (.bool false))⟩] [2, 4])
 (.seq
 (.ops [
 ⟨(some 14), none, .load (some 3) (.t 2)⟩,
 ⟨(some 15), none, .call (.c (.fn (.func 44) [] [])) [(.t 14)]⟩,
 ⟨(some 13), none, .mov (.t 15)⟩,
 ⟨(some 16), none, .ext (.t 13) 0⟩,
 ⟨(some 17), none, .ext (.t 13) 1⟩,
 ⟨(some 18), none, .ext (.t 13) 2⟩,
 ⟨(some 5), none, .mov (.t 16)⟩,
 ⟨(some 6), none, .mov (.t 17)⟩,
 ⟨(some 7), none, .mov (.t 18)⟩] [5, 6, 7])
 (.seq
 (.ops [
 ⟨(some 19), none, .mov (.t 5)⟩,
 ⟨(some 20), none, .mov (.t 6)⟩,
 ⟨(some 21), none, .bin .mul .no (.t 19) (.t 20)⟩,
 ⟨(some 22), none, .mov (.t 1)⟩,
 ⟨(some 23), none, .call (.c (.fn (.func 45) [] [])) [(.t 21), (.t 22)]⟩,
 ⟨(some 8), none, .mov (.t 23)⟩] [8])
 (.seq
 (.ops [
 ⟨(some 25), none, .mov (.t 5)⟩,
 ⟨(some 26), none, .mov (.t 6)⟩,
 ⟨(some 27), none, .mov (.t 7)⟩,
 ⟨(some 28), none, .mov (.t 8)⟩,
 ⟨(some 29), none, .call (.c (.fn (.func 19) [] [])) [(.t 25), (.t 26), (.t 27), (.t 28)]⟩,
 ⟨(some 24), none, .mov (.t 29)⟩,
 ⟨(some 30), none, .ext (.t 24) 0⟩,
 ⟨(some 31), none, .ext (.t 24) 1⟩,
 ⟨(some 9), none, .mov (.t 30)⟩,
 ⟨(some 10), none, .mov (.t 31)⟩] [9, 10])
 (.seq
 (.seq
 (.ops [
 ⟨(some 32), none, .mov (.t 7)⟩,
 ⟨(some 33), none, .mov (.t 5)⟩,
 ⟨(some 34), none, .bin .lss .no (.t 32) (.t 33)⟩] [34])
 (.cond (.t 34)
 (.seq
 (.ops [
 ⟨(some 35), none, .mov (.t 10)⟩,
 ⟨(some 36), none, .bin .eql .no (.t 35) (.c (.int .i64 5))⟩,
 ⟨(some 37), none, .mov (.t 36)⟩,
 ⟨(some 38), (some (37, true)), .mov (.t 9)⟩,
 ⟨(some 39), (some (37, true)), .lenS (.t 38)⟩,
 ⟨(some 40), (some (37, true)), .bin .eql .no (.t 39) (.c (.int .i64 0))⟩,
 ⟨(some 41), none, .pick (.t 37) (.t 40) (.c (.bool false))⟩,
 ⟨(some 42), none, .mov (.t 41)⟩,
 ⟨(some 43), (some (42, true)), .call (.c (.fn (.func 21) [] [])) []⟩,
 ⟨(some 44), none, .pick (.t 42) (.t 43) (.c (.bool false))⟩,
 ⟨(some 4), none, .mov (.t 44)⟩] [4])
 .ret)
 .skip))
 (.seq
 (.ops [
 ⟨(some 46), none, .mov (.t 5)⟩,
 ⟨(some 47), none, .mov (.t 6)⟩,
 ⟨(some 48), none, .mov (.t 7)⟩,
 ⟨(some 49), none, .mov (.t 8)⟩,
 ⟨(some 50), none, .mov (.t 9)⟩,
 ⟨(some 51), none, .call (.c (.fn (.func 18) [] [])) [(.t 46), (.t 47), (.t 48), (.t 49), (.t 50)]⟩,
 ⟨(some 45), none, .mov (.t 51)⟩,
 ⟨(some 52), none, .ext (.t 45) 0⟩,
 ⟨(some 53), none, .ext (.t 45) 1⟩,
 ⟨(some 11), none, .mov (.t 52)⟩,
 ⟨(some 12), none, .mov (.t 53)⟩] [11, 12])
 (.seq
 (.ops [
 ⟨(some 54), none, .mov (.t 10)⟩,
 ⟨(some 55), none, .bin .eql .no (.t 54) (.c (.int .i64 0))⟩,
 ⟨(some 56), none, .mov (.t 55)⟩,
 ⟨(some 57), (some (56, true)), .mov (.t 11)⟩,
 ⟨(some 58), none, .pick (.t 56) (.t 57) (.c (.bool false))⟩,
 ⟨(some 59), none, .mov (.t 58)⟩,
 ⟨(some 60), (some (59, true)), .mov (.t 12)⟩,
 ⟨(some 61), (some (59, true)), .bin .eql .no (.t 60) (.c (.int .i64 0))⟩,
 ⟨(some 62), none, .pick (.t 59) (.t 61) (.c (.bool false))⟩,
 ⟨(some 63), none, .mov (.t 62)⟩,
 ⟨(some 64), (some (63, true)), .mov (.t 5)⟩,
 ⟨(some 65), (some (63, true)), .mov (.t 6)⟩,
 ⟨(some 66), (some (63, true)), .bin .mul .no (.t 64) (.t 65)⟩,
 ⟨(some 67), (some (63, true)), .mov (.t 7)⟩,
 ⟨(some 68), (some (63, true)), .mov (.t 9)⟩,
 ⟨(some 69), (some (63, true)), .call (.c (.fn (.func 23) [] [])) [(.t 66), (.t 67), (.t 68)]⟩,
 ⟨(some 70), none, .pick (.t 63) (.t 69) (.c (.bool false))⟩,
 ⟨(some 71), none, .mov (.t 70)⟩,
 ⟨(some 72), (some (71, true)), .mov (.t 5)⟩,
 ⟨(some 73), (some (71, true)), .mov (.t 8)⟩,
 ⟨(some 74), (some (71, true)), .mov (.t 9)⟩,
 ⟨(some 75), (some (71, true)), .call (.c (.fn (.func 24) [] [])) [(.t 72), (.t 73), (.t 74)]⟩,
 ⟨(some 76), none, .pick (.t 71) (.t 75) (.c (.bool false))⟩,
 ⟨(some 77), none, .mov (.t 76)⟩,
 ⟨(some 78), (some (77, true)), .call (.c (.fn (.func 21) [] [])) []⟩,
 ⟨(some 79), none, .pick (.t 77) (.t 78) (.c (.bool false))⟩,
 ⟨(some 4), none, .mov (.t 79)⟩] [4])
 .ret))))))),
 [.tmp 4]⟩

theorem c9 : compF Tryd.prog 9 = some sf9 := by kernel_rfl
end Go.Proofs.YtbomimhfldmlbaaDoor
