/- The law PatchCount, compiled. -/
import Derived.Test.YtbomimhfldmlbaaDoorRows
import Derived.Test.YtbomimhfldmlbaaDoorSA
import Derived.KernelRfl
set_option linter.unusedVariables false
set_option maxRecDepth 100000
namespace Go.Proofs.YtbomimhfldmlbaaDoor
open Go Go.Abs
/-- bellpull/bellpulllaw06.PatchCount -/
noncomputable def sf12 : SFun := ⟨[0, 2, 3, 4, 5, 6, 7, 8, 9, 10, 11, 12, 13, 14, 22, 30, 38, 67], 94,
 (.seq
 (.ops [
 ⟨(some 2), none, .mov (.c (.bool false))⟩] [2])
 (.seq
 (.ops [
 ⟨(some 15), none, .mov (.t 0)⟩,
 ⟨(some 16), none, .conv .i64 (.t 15)⟩,
 ⟨(some 17), none, .bin .rem .no (.t 16) (.c (.int .i64 2))⟩,
 ⟨(some 18), none, .bin .add .no (.t 17) (.c (.int .i64 1))⟩,
 ⟨(some 3), none, .mov (.t 18)⟩,
 ⟨(some 4), none, .mov (.c (.int .i64 0))⟩,
 ⟨(some 5), none, .mov (.c (.int .i64 1))⟩] [3, 4, 5])
 (.seq
 (.seq
 (.ops [
 ⟨(some 6), none, .mov (.c (.int .i64 2))⟩] [6])
 (.block 0
 (.loop
 (.seq
 (.seq
 (.ops [
 ⟨(some 19), none, .mov (.t 6)⟩,
 ⟨(some 20), none, .mov (.t 3)⟩,
 ⟨(some 21), none, .bin .shl .no (.c (.int .i64 1)) (.t 20)⟩,
 ⟨(some 22), none, .bin .leq .no (.t 19) (.t 21)⟩] [22])
 (.cond (.t 22)
 .skip
 (.exit 0)))
 (.seq
 (.block 1
 (.ops [
 ⟨(some 25), none, .mov (.t 5)⟩,
 ⟨(some 26), none, .mov (.t 6)⟩,
 ⟨(some 27), none, .bin .mul .no (.t 25) (.t 26)⟩,
 ⟨(some 5), none, .mov (.t 27)⟩] [5]))
 (.ops [
 ⟨(some 23), none, .mov (.t 6)⟩,
 ⟨(some 24), none, .bin .add .no (.t 23) (.c (.int .i64 1))⟩,
 ⟨(some 6), none, .mov (.t 24)⟩] [6]))))))
 (.seq
 (.seq
 (.ops [
 ⟨(some 7), none, .mov (.c (.int .i64 0))⟩] [7])
 (.block 2
 (.loop
 (.seq
 (.seq
 (.ops [
 ⟨(some 28), none, .mov (.t 7)⟩,
 ⟨(some 29), none, .mov (.t 5)⟩,
 ⟨(some 30), none, .bin .lss .no (.t 28) (.t 29)⟩] [30])
 (.cond (.t 30)
 .skip
 (.exit 2)))
 (.seq
 (.block 3
 (.seq
 (.ops [
 ⟨(some 33), none, .buildS [(.int .u8 0)] 0 1 []⟩,
 ⟨(some 34), none, .mov (.t 7)⟩,
 ⟨(some 8), none, .mov (.t 33)⟩,
 ⟨(some 9), none, .mov (.t 34)⟩] [8, 9])
 (.seq
 (.seq
 (.ops [
 ⟨(some 10), none, .mov (.c (.int .i64 0))⟩] [10])
 (.block 4
 (.loop
 (.seq
 (.seq
 (.ops [
 ⟨(some 35), none, .mov (.t 10)⟩,
 ⟨(some 36), none, .mov (.t 3)⟩,
 ⟨(some 37), none, .bin .shl .no (.c (.int .i64 1)) (.t 36)⟩,
 ⟨(some 38), none, .bin .lss .no (.t 35) (.t 37)⟩] [38])
 (.cond (.t 38)
 .skip
 (.exit 4)))
 (.seq
 (.block 5
 (.seq
 (.ops [
 ⟨(some 41), none, .mov (.t 8)⟩,
 ⟨(some 42), none, .mov (.t 9)⟩,
 ⟨(some 43), none, .mov (.t 10)⟩,
 ⟨(some 44), none, .bin .add .no (.t 43) (.c (.int .i64 1))⟩,
 ⟨(some 45), none, .bin .rem .no (.t 42) (.t 44)⟩,
 ⟨(some 46), none, .conv .u8 (.t 45)⟩,
 ⟨(some 47), none, .buildS [(.int .u8 0)] 1 1 [(0, (.t 46))]⟩,
 ⟨(some 48), none, .app true 1 (.t 41) (.t 47)⟩,
 ⟨(some 8), none, .mov (.t 48)⟩] [8])
 (.ops [
 ⟨(some 49), none, .mov (.t 9)⟩,
 ⟨(some 50), none, .mov (.t 10)⟩,
 ⟨(some 51), none, .bin .add .no (.t 50) (.c (.int .i64 1))⟩,
 ⟨(some 52), none, .bin .quo .no (.t 49) (.t 51)⟩,
 ⟨(some 9), none, .mov (.t 52)⟩] [9])))
 (.ops [
 ⟨(some 39), none, .mov (.t 10)⟩,
 ⟨(some 40), none, .bin .add .no (.t 39) (.c (.int .i64 1))⟩,
 ⟨(some 10), none, .mov (.t 40)⟩] [10]))))))
 (.seq
 (.ops [
 ⟨(some 54), none, .mov (.t 3)⟩,
 ⟨(some 55), none, .mov (.t 3)⟩,
 ⟨(some 56), none, .bin .shl .no (.c (.int .i64 1)) (.t 55)⟩,
 ⟨(some 57), none, .mov (.t 8)⟩,
 ⟨(some 58), none, .call (.c (.fn (.func 45) [] [])) [(.t 56), (.t 57)]⟩,
 ⟨(some 59), none, .call (.c (.fn (.func 34) [] [])) [(.t 54), (.t 58)]⟩,
 ⟨(some 53), none, .mov (.t 59)⟩,
 ⟨(some 60), none, .ext (.t 53) 0⟩,
 ⟨(some 61), none, .ext (.t 53) 1⟩,
 ⟨(some 11), none, .mov (.t 60)⟩,
 ⟨(some 12), none, .mov (.t 61)⟩] [11, 12])
 (.seq
 (.seq
 (.ops [
 ⟨(some 62), none, .mov (.t 12)⟩,
 ⟨(some 63), none, .bin .neq .no (.t 62) (.c (.int .i64 0))⟩,
 ⟨(some 64), none, .mov (.t 63)⟩,
 ⟨(some 65), (some (64, false)), .mov (.t 11)⟩,
 ⟨(some 66), (some (64, false)), .bin .lss .no (.t 65) (.c (.int .i64 1))⟩,
 ⟨(some 67), none, .pick (.t 64) (.c (.bool true)) (.t 66)⟩] [67])
 (.cond (.t 67)
 (.seq
 (.ops [
 ⟨(some 2), none, .mov (.c (.bool false))⟩] [2])
 .ret)
 .skip))
 (.ops [
 ⟨(some 68), none, .mov (.t 4)⟩,
 ⟨(some 69), none, .mov (.t 11)⟩,
 ⟨(some 70), none, .bin .add .no (.t 68) (.t 69)⟩,
 ⟨(some 4), none, .mov (.t 70)⟩] [4]))))))
 (.ops [
 ⟨(some 31), none, .mov (.t 7)⟩,
 ⟨(some 32), none, .bin .add .no (.t 31) (.c (.int .i64 1))⟩,
 ⟨(some 7), none, .mov (.t 32)⟩] [7]))))))
 (.seq
 (.ops [
 ⟨(some 72), none, .mov (.t 3)⟩,
 ⟨(some 73), none, .call (.c (.fn (.func 35) [] [])) [(.t 72)]⟩,
 ⟨(some 71), none, .mov (.t 73)⟩,
 ⟨(some 74), none, .ext (.t 71) 0⟩,
 ⟨(some 75), none, .ext (.t 71) 1⟩,
 ⟨(some 13), none, .mov (.t 74)⟩,
 ⟨(some 14), none, .mov (.t 75)⟩] [13, 14])
 (.seq
 (.ops [
 ⟨(some 76), none, .mov (.t 4)⟩,
 ⟨(some 77), none, .mov (.t 3)⟩,
 ⟨(some 78), none, .call (.c (.fn (.func 47) [] [])) [(.t 77)]⟩,
 ⟨(some 79), none, .bin .shl .no (.c (.int .i64 1)) (.t 78)⟩,
 ⟨(some 80), none, .bin .eql .no (.t 76) (.t 79)⟩,
 ⟨(some 81), none, .mov (.t 80)⟩,
 ⟨(some 82), (some (81, true)), .mov (.t 14)⟩,
 ⟨(some 83), (some (81, true)), .bin .eql .no (.t 82) (.c (.int .i64 0))⟩,
 ⟨(some 84), none, .pick (.t 81) (.t 83) (.c (.bool false))⟩,
 ⟨(some 85), none, .mov (.t 84)⟩,
 ⟨(some 86), (some (85, true)), .mov (.t 13)⟩,
 ⟨(some 87), (some (85, true)), .bin .shl .no (.c (.int .i64 1)) (.t 86)⟩,
 ⟨(some 88), (some (85, true)), .mov (.t 5)⟩,
 ⟨(some 89), (some (85, true)), .bin .geq .no (.t 87) (.t 88)⟩,
 ⟨(some 90), none, .pick (.t 85) (.t 89) (.c (.bool false))⟩,
 ⟨(some 91), none, .mov (.t 90)⟩,
 ⟨(some 92), (some (91, true)), .call (.c (.fn (.func 21) [] [])) []⟩,
 ⟨(some 93), none, .pick (.t 91) (.t 92) (.c (.bool false))⟩,
 ⟨(some 2), none, .mov (.t 93)⟩] [2])
 .ret)))))),
 [.tmp 2]⟩

theorem c12 : compF Tryd.prog 12 = some sf12 := by kernel_rfl
end Go.Proofs.YtbomimhfldmlbaaDoor
