/- The law PatchLawrie, compiled. -/
import Derived.Test.YtbomimhfldmlbaaDoorRows
import Derived.Test.YtbomimhfldmlbaaDoorSA
import Derived.KernelRfl
set_option linter.unusedVariables false
set_option maxRecDepth 100000
namespace Go.Proofs.YtbomimhfldmlbaaDoor
open Go Go.Abs
/-- bellpull/bellpulllaw06.PatchLawrie -/
noncomputable def sf13 : SFun := ⟨[0, 2, 3, 4, 5, 6, 7, 8, 9, 10, 11, 12, 13, 14, 15, 16, 24, 32, 40, 65, 66, 73], 103,
 (.seq
 (.ops [
 ⟨(some 2), none, .mov (.c (.bool false))⟩] [2])
 (.seq
 (.ops [
 ⟨(some 17), none, .mov (.t 0)⟩,
 ⟨(some 18), none, .conv .i64 (.t 17)⟩,
 ⟨(some 19), none, .bin .rem .no (.t 18) (.c (.int .i64 3))⟩,
 ⟨(some 20), none, .bin .add .no (.t 19) (.c (.int .i64 1))⟩,
 ⟨(some 3), none, .mov (.t 20)⟩,
 ⟨(some 4), none, .mov (.c (.int .i64 0))⟩,
 ⟨(some 5), none, .mov (.c (.int .i64 1))⟩] [3, 4, 5])
 (.seq
 (.seq
 (.ops [
 ⟨(some 6), none, .mov (.c (.int .i64 2))⟩] [6])
 (.block 0
 (.loop
 (.seq
 (.seq
 (.ops [
 ⟨(some 21), none, .mov (.t 6)⟩,
 ⟨(some 22), none, .mov (.t 3)⟩,
 ⟨(some 23), none, .bin .shl .no (.c (.int .i64 1)) (.t 22)⟩,
 ⟨(some 24), none, .bin .leq .no (.t 21) (.t 23)⟩] [24])
 (.cond (.t 24)
 .skip
 (.exit 0)))
 (.seq
 (.block 1
 (.ops [
 ⟨(some 27), none, .mov (.t 5)⟩,
 ⟨(some 28), none, .mov (.t 6)⟩,
 ⟨(some 29), none, .bin .mul .no (.t 27) (.t 28)⟩,
 ⟨(some 5), none, .mov (.t 29)⟩] [5]))
 (.ops [
 ⟨(some 25), none, .mov (.t 6)⟩,
 ⟨(some 26), none, .bin .add .no (.t 25) (.c (.int .i64 1))⟩,
 ⟨(some 6), none, .mov (.t 26)⟩] [6]))))))
 (.seq
 (.seq
 (.ops [
 ⟨(some 7), none, .mov (.c (.int .i64 0))⟩] [7])
 (.block 2
 (.loop
 (.seq
 (.seq
 (.ops [
 ⟨(some 30), none, .mov (.t 7)⟩,
 ⟨(some 31), none, .mov (.t 5)⟩,
 ⟨(some 32), none, .bin .lss .no (.t 30) (.t 31)⟩] [32])
 (.cond (.t 32)
 .skip
 (.exit 2)))
 (.seq
 (.block 3
 (.seq
 (.ops [
 ⟨(some 35), none, .buildS [(.int .u8 0)] 0 1 []⟩,
 ⟨(some 36), none, .mov (.t 7)⟩,
 ⟨(some 8), none, .mov (.t 35)⟩,
 ⟨(some 9), none, .mov (.t 36)⟩] [8, 9])
 (.seq
 (.seq
 (.ops [
 ⟨(some 10), none, .mov (.c (.int .i64 0))⟩] [10])
 (.block 4
 (.loop
 (.seq
 (.seq
 (.ops [
 ⟨(some 37), none, .mov (.t 10)⟩,
 ⟨(some 38), none, .mov (.t 3)⟩,
 ⟨(some 39), none, .bin .shl .no (.c (.int .i64 1)) (.t 38)⟩,
 ⟨(some 40), none, .bin .lss .no (.t 37) (.t 39)⟩] [40])
 (.cond (.t 40)
 .skip
 (.exit 4)))
 (.seq
 (.block 5
 (.seq
 (.ops [
 ⟨(some 43), none, .mov (.t 8)⟩,
 ⟨(some 44), none, .mov (.t 9)⟩,
 ⟨(some 45), none, .mov (.t 10)⟩,
 ⟨(some 46), none, .bin .add .no (.t 45) (.c (.int .i64 1))⟩,
 ⟨(some 47), none, .bin .rem .no (.t 44) (.t 46)⟩,
 ⟨(some 48), none, .conv .u8 (.t 47)⟩,
 ⟨(some 49), none, .buildS [(.int .u8 0)] 1 1 [(0, (.t 48))]⟩,
 ⟨(some 50), none, .app true 1 (.t 43) (.t 49)⟩,
 ⟨(some 8), none, .mov (.t 50)⟩] [8])
 (.ops [
 ⟨(some 51), none, .mov (.t 9)⟩,
 ⟨(some 52), none, .mov (.t 10)⟩,
 ⟨(some 53), none, .bin .add .no (.t 52) (.c (.int .i64 1))⟩,
 ⟨(some 54), none, .bin .quo .no (.t 51) (.t 53)⟩,
 ⟨(some 9), none, .mov (.t 54)⟩] [9])))
 (.ops [
 ⟨(some 41), none, .mov (.t 10)⟩,
 ⟨(some 42), none, .bin .add .no (.t 41) (.c (.int .i64 1))⟩,
 ⟨(some 10), none, .mov (.t 42)⟩] [10]))))))
 (.seq
 (.ops [
 ⟨(some 56), none, .mov (.t 3)⟩,
 ⟨(some 57), none, .mov (.t 3)⟩,
 ⟨(some 58), none, .bin .shl .no (.c (.int .i64 1)) (.t 57)⟩,
 ⟨(some 59), none, .mov (.t 8)⟩,
 ⟨(some 60), none, .call (.c (.fn (.func 45) [] [])) [(.t 58), (.t 59)]⟩,
 ⟨(some 61), none, .call (.c (.fn (.func 38) [] [])) [(.t 56), (.t 60)]⟩,
 ⟨(some 55), none, .mov (.t 61)⟩,
 ⟨(some 62), none, .ext (.t 55) 0⟩,
 ⟨(some 63), none, .ext (.t 55) 1⟩,
 ⟨(some 11), none, .mov (.t 62)⟩,
 ⟨(some 12), none, .mov (.t 63)⟩] [11, 12])
 (.seq
 (.seq
 (.ops [
 ⟨(some 64), none, .mov (.t 12)⟩,
 ⟨(some 65), none, .bin .neq .no (.t 64) (.c (.int .i64 0))⟩] [65])
 (.cond (.t 65)
 (.seq
 (.ops [
 ⟨(some 2), none, .mov (.c (.bool false))⟩] [2])
 .ret)
 .skip))
 (.seq
 (.ops [
 ⟨(some 66), none, .mov (.t 11)⟩] [66])
 (.cond (.t 66)
 (.ops [
 ⟨(some 67), none, .mov (.t 4)⟩,
 ⟨(some 68), none, .bin .add .no (.t 67) (.c (.int .i64 1))⟩,
 ⟨(some 4), none, .mov (.t 68)⟩] [4])
 .skip)))))))
 (.ops [
 ⟨(some 33), none, .mov (.t 7)⟩,
 ⟨(some 34), none, .bin .add .no (.t 33) (.c (.int .i64 1))⟩,
 ⟨(some 7), none, .mov (.t 34)⟩] [7]))))))
 (.seq
 (.ops [
 ⟨(some 69), none, .buildS [(.int .i64 0)] 0 1 []⟩,
 ⟨(some 13), none, .mov (.t 69)⟩] [13])
 (.seq
 (.seq
 (.ops [
 ⟨(some 14), none, .mov (.c (.int .i64 0))⟩] [14])
 (.block 6
 (.loop
 (.seq
 (.seq
 (.ops [
 ⟨(some 70), none, .mov (.t 14)⟩,
 ⟨(some 71), none, .mov (.t 3)⟩,
 ⟨(some 72), none, .bin .shl .no (.c (.int .i64 1)) (.t 71)⟩,
 ⟨(some 73), none, .bin .lss .no (.t 70) (.t 72)⟩] [73])
 (.cond (.t 73)
 .skip
 (.exit 6)))
 (.seq
 (.block 7
 (.ops [
 ⟨(some 76), none, .mov (.t 13)⟩,
 ⟨(some 77), none, .mov (.t 14)⟩,
 ⟨(some 78), none, .buildS [(.int .i64 0)] 1 1 [(0, (.t 77))]⟩,
 ⟨(some 79), none, .app true 1 (.t 76) (.t 78)⟩,
 ⟨(some 13), none, .mov (.t 79)⟩] [13]))
 (.ops [
 ⟨(some 74), none, .mov (.t 14)⟩,
 ⟨(some 75), none, .bin .add .no (.t 74) (.c (.int .i64 1))⟩,
 ⟨(some 14), none, .mov (.t 75)⟩] [14]))))))
 (.seq
 (.ops [
 ⟨(some 81), none, .mov (.t 3)⟩,
 ⟨(some 82), none, .mov (.t 13)⟩,
 ⟨(some 83), none, .call (.c (.fn (.func 38) [] [])) [(.t 81), (.t 82)]⟩,
 ⟨(some 80), none, .mov (.t 83)⟩,
 ⟨(some 84), none, .ext (.t 80) 0⟩,
 ⟨(some 85), none, .ext (.t 80) 1⟩,
 ⟨(some 15), none, .mov (.t 84)⟩,
 ⟨(some 16), none, .mov (.t 85)⟩] [15, 16])
 (.seq
 (.ops [
 ⟨(some 86), none, .mov (.t 4)⟩,
 ⟨(some 87), none, .mov (.t 3)⟩,
 ⟨(some 88), none, .mov (.t 3)⟩,
 ⟨(some 89), none, .bin .sub .no (.t 88) (.c (.int .i64 1))⟩,
 ⟨(some 90), none, .bin .shl .no (.t 87) (.t 89)⟩,
 ⟨(some 91), none, .bin .shl .no (.c (.int .i64 1)) (.t 90)⟩,
 ⟨(some 92), none, .bin .eql .no (.t 86) (.t 91)⟩,
 ⟨(some 93), none, .mov (.t 92)⟩,
 ⟨(some 94), (some (93, true)), .mov (.t 15)⟩,
 ⟨(some 95), none, .pick (.t 93) (.t 94) (.c (.bool false))⟩,
 ⟨(some 96), none, .mov (.t 95)⟩,
 ⟨(some 97), (some (96, true)), .mov (.t 16)⟩,
 ⟨(some 98), (some (96, true)), .bin .eql .no (.t 97) (.c (.int .i64 0))⟩,
 ⟨(some 99), none, .pick (.t 96) (.t 98) (.c (.bool false))⟩,
 ⟨(some 100), none, .mov (.t 99)⟩,
 ⟨(some 101), (some (100, true)), .call (.c (.fn (.func 21) [] [])) []⟩,
 ⟨(some 102), none, .pick (.t 100) (.t 101) (.c (.bool false))⟩,
 ⟨(some 2), none, .mov (.t 102)⟩] [2])
 .ret)))))))),
 [.tmp 2]⟩

theorem c13 : compF Tryd.prog 13 = some sf13 := by kernel_rfl
end Go.Proofs.YtbomimhfldmlbaaDoor
