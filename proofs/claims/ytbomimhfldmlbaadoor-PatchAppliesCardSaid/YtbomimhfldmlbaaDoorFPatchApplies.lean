/- The law PatchApplies, compiled. -/
import Derived.Test.YtbomimhfldmlbaaDoorRows
import Derived.Test.YtbomimhfldmlbaaDoorSA
import Derived.KernelRfl
set_option linter.unusedVariables false
set_option maxRecDepth 100000
namespace Go.Proofs.YtbomimhfldmlbaaDoor
open Go Go.Abs
/-- bellpull/bellpulllaw06.PatchApplies -/
noncomputable def sf5 : SFun := ⟨[0, 1, 2, 6, 7, 8, 9, 10, 11, 12, 34, 56, 63, 73, 78], 105,
 (.seq
 (.ops [
 ⟨(some 6), none, .mov (.c (.bool false))⟩] [6])
 (.seq
 (.ops [
 ⟨(some 13), none, .mov (.t 1)⟩,
 ⟨(some 14), none, .mov (.t 1)⟩,
 ⟨(some 15), none, .lenT (.t 14)⟩,
 ⟨(some 16), none, .mn (.t 15) (.c (.int .i64 21))⟩,
 ⟨(some 17), none, .slT (.t 13) none (some (.t 16))⟩,
 ⟨(some 18), none, .mov (.t 2)⟩,
 ⟨(some 19), none, .call (.c (.fn (.func 17) [] [])) [(.t 18)]⟩,
 ⟨(some 7), none, .mov (.t 17)⟩,
 ⟨(some 8), none, .mov (.t 19)⟩] [7, 8])
 (.seq
 (.ops [
 ⟨(some 21), none, .mov (.t 0)⟩,
 ⟨(some 22), none, .mov (.t 7)⟩,
 ⟨(some 23), none, .call (.c (.fn (.func 30) [] [])) [(.t 21), (.t 22)]⟩,
 ⟨(some 20), none, .mov (.t 23)⟩,
 ⟨(some 24), none, .ext (.t 20) 0⟩,
 ⟨(some 25), none, .ext (.t 20) 1⟩,
 ⟨(some 9), none, .mov (.t 24)⟩,
 ⟨(some 10), none, .mov (.t 25)⟩] [9, 10])
 (.seq
 (.ops [
 ⟨(some 27), none, .mov (.t 0)⟩,
 ⟨(some 28), none, .mov (.t 8)⟩,
 ⟨(some 29), none, .call (.c (.fn (.func 31) [] [])) [(.t 27), (.t 28)]⟩,
 ⟨(some 26), none, .mov (.t 29)⟩,
 ⟨(some 30), none, .ext (.t 26) 0⟩,
 ⟨(some 31), none, .ext (.t 26) 1⟩,
 ⟨(some 11), none, .mov (.t 30)⟩,
 ⟨(some 12), none, .mov (.t 31)⟩] [11, 12])
 (.seq
 (.seq
 (.ops [
 ⟨(some 32), none, .mov (.t 0)⟩,
 ⟨(some 33), none, .call (.c (.fn (.func 28) [] [])) [(.t 32), (.c (.int .i64 1)), (.c (.int .i64 3))]⟩,
 ⟨(some 34), none, .not (.t 33)⟩] [34])
 (.cond (.t 34)
 (.seq
 (.ops [
 ⟨(some 35), none, .mov (.t 9)⟩,
 ⟨(some 36), none, .lenS (.t 35)⟩,
 ⟨(some 37), none, .bin .eql .no (.t 36) (.c (.int .i64 0))⟩,
 ⟨(some 38), none, .mov (.t 37)⟩,
 ⟨(some 39), (some (38, true)), .mov (.t 11)⟩,
 ⟨(some 40), (some (38, true)), .bin .eql .str (.t 39) (.c (.str []))⟩,
 ⟨(some 41), none, .pick (.t 38) (.t 40) (.c (.bool false))⟩,
 ⟨(some 42), none, .mov (.t 41)⟩,
 ⟨(some 43), (some (42, true)), .mov (.t 10)⟩,
 ⟨(some 44), (some (42, true)), .bin .eql .no (.t 43) (.c (.int .i64 1))⟩,
 ⟨(some 45), none, .pick (.t 42) (.t 44) (.c (.bool false))⟩,
 ⟨(some 46), none, .mov (.t 45)⟩,
 ⟨(some 47), (some (46, true)), .mov (.t 12)⟩,
 ⟨(some 48), (some (46, true)), .bin .eql .no (.t 47) (.c (.int .i64 1))⟩,
 ⟨(some 49), none, .pick (.t 46) (.t 48) (.c (.bool false))⟩,
 ⟨(some 50), none, .mov (.t 49)⟩,
 ⟨(some 51), (some (50, true)), .call (.c (.fn (.func 21) [] [])) []⟩,
 ⟨(some 52), none, .pick (.t 50) (.t 51) (.c (.bool false))⟩,
 ⟨(some 6), none, .mov (.t 52)⟩] [6])
 .ret)
 .skip))
 (.seq
 (.seq
 (.ops [
 ⟨(some 53), none, .mov (.t 0)⟩,
 ⟨(some 54), none, .mov (.t 7)⟩,
 ⟨(some 55), none, .call (.c (.fn (.func 32) [] [])) [(.t 53), (.t 54)]⟩,
 ⟨(some 56), none, .not (.t 55)⟩] [56])
 (.cond (.t 56)
 (.seq
 (.ops [
 ⟨(some 57), none, .mov (.t 9)⟩,
 ⟨(some 58), none, .lenS (.t 57)⟩,
 ⟨(some 59), none, .bin .neq .no (.t 58) (.c (.int .i64 0))⟩,
 ⟨(some 60), none, .mov (.t 59)⟩,
 ⟨(some 61), (some (60, false)), .mov (.t 10)⟩,
 ⟨(some 62), (some (60, false)), .bin .neq .no (.t 61) (.c (.int .i64 2))⟩,
 ⟨(some 63), none, .pick (.t 60) (.c (.bool true)) (.t 62)⟩] [63])
 (.cond (.t 63)
 (.seq
 (.ops [
 ⟨(some 6), none, .mov (.c (.bool false))⟩] [6])
 .ret)
 .skip))
 (.seq
 (.ops [
 ⟨(some 64), none, .mov (.t 9)⟩,
 ⟨(some 65), none, .mov (.t 0)⟩,
 ⟨(some 66), none, .mov (.t 7)⟩,
 ⟨(some 67), none, .call (.c (.fn (.func 33) [] [])) [(.t 65), (.t 66)]⟩,
 ⟨(some 68), none, .call (.c (.fn (.func 26) [] [])) [(.t 64), (.t 67)]⟩,
 ⟨(some 69), none, .not (.t 68)⟩,
 ⟨(some 70), none, .mov (.t 69)⟩,
 ⟨(some 71), (some (70, false)), .mov (.t 10)⟩,
 ⟨(some 72), (some (70, false)), .bin .neq .no (.t 71) (.c (.int .i64 0))⟩,
 ⟨(some 73), none, .pick (.t 70) (.c (.bool true)) (.t 72)⟩] [73])
 (.cond (.t 73)
 (.seq
 (.ops [
 ⟨(some 6), none, .mov (.c (.bool false))⟩] [6])
 .ret)
 .skip))))
 (.seq
 (.seq
 (.ops [
 ⟨(some 74), none, .mov (.t 0)⟩,
 ⟨(some 75), none, .bin .shl .no (.c (.int .i64 1)) (.t 74)⟩,
 ⟨(some 76), none, .mov (.t 8)⟩,
 ⟨(some 77), none, .call (.c (.fn (.func 22) [] [])) [(.t 75), (.t 76)]⟩,
 ⟨(some 78), none, .not (.t 77)⟩] [78])
 (.cond (.t 78)
 (.seq
 (.ops [
 ⟨(some 79), none, .mov (.t 11)⟩,
 ⟨(some 80), none, .bin .eql .str (.t 79) (.c (.str []))⟩,
 ⟨(some 81), none, .mov (.t 80)⟩,
 ⟨(some 82), (some (81, true)), .mov (.t 12)⟩,
 ⟨(some 83), (some (81, true)), .bin .eql .no (.t 82) (.c (.int .i64 2))⟩,
 ⟨(some 84), none, .pick (.t 81) (.t 83) (.c (.bool false))⟩,
 ⟨(some 85), none, .mov (.t 84)⟩,
 ⟨(some 86), (some (85, true)), .call (.c (.fn (.func 21) [] [])) []⟩,
 ⟨(some 87), none, .pick (.t 85) (.t 86) (.c (.bool false))⟩,
 ⟨(some 6), none, .mov (.t 87)⟩] [6])
 .ret)
 .skip))
 (.seq
 (.ops [
 ⟨(some 88), none, .mov (.t 0)⟩,
 ⟨(some 89), none, .mov (.t 11)⟩,
 ⟨(some 90), none, .call (.c (.fn (.func 32) [] [])) [(.t 88), (.t 89)]⟩,
 ⟨(some 91), none, .mov (.t 90)⟩,
 ⟨(some 92), (some (91, true)), .mov (.t 0)⟩,
 ⟨(some 93), (some (91, true)), .mov (.t 11)⟩,
 ⟨(some 94), (some (91, true)), .call (.c (.fn (.func 33) [] [])) [(.t 92), (.t 93)]⟩,
 ⟨(some 95), (some (91, true)), .mov (.t 8)⟩,
 ⟨(some 96), (some (91, true)), .call (.c (.fn (.func 26) [] [])) [(.t 94), (.t 95)]⟩,
 ⟨(some 97), none, .pick (.t 91) (.t 96) (.c (.bool false))⟩,
 ⟨(some 98), none, .mov (.t 97)⟩,
 ⟨(some 99), (some (98, true)), .mov (.t 12)⟩,
 ⟨(some 100), (some (98, true)), .bin .eql .no (.t 99) (.c (.int .i64 0))⟩,
 ⟨(some 101), none, .pick (.t 98) (.t 100) (.c (.bool false))⟩,
 ⟨(some 102), none, .mov (.t 101)⟩,
 ⟨(some 103), (some (102, true)), .call (.c (.fn (.func 21) [] [])) []⟩,
 ⟨(some 104), none, .pick (.t 102) (.t 103) (.c (.bool false))⟩,
 ⟨(some 6), none, .mov (.t 104)⟩] [6])
 .ret)))))))),
 [.tmp 6]⟩

theorem c5 : compF Tryd.prog 5 = some sf5 := by kernel_rfl
end Go.Proofs.YtbomimhfldmlbaaDoor
