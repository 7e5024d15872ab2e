/- The law WeighWays, compiled. -/
import Derived.Test.YtelalpohbodolaaDoorRows
import Derived.Test.YtelalpohbodolaaDoorSA
import Derived.KernelRfl
set_option linter.unusedVariables false
set_option maxRecDepth 100000
namespace Go.Proofs.YtelalpohbodolaaDoor
open Go Go.Abs
/-- bellpull/bellpulllaw08.WeighWays -/
noncomputable def sf10 : SFun := ⟨[0, 2, 3, 4, 5, 6, 7, 8, 9, 10, 11, 12, 13, 14, 15, 16, 17, 26, 47, 57, 67, 80, 93], 127,
 (.seq
 (.ops [
 ⟨(some 2), none, .mov (.c (.bool false))⟩] [2])
 (.seq
 (.ops [
 ⟨(some 18), none, .buildS [(.int .i64 0)] 0 1 []⟩,
 ⟨(some 3), none, .mov (.t 18)⟩,
 ⟨(some 4), none, .mov (.c (.int .i64 0))⟩,
 ⟨(some 5), none, .mov (.c (.int .i64 0))⟩] [3, 4, 5])
 (.seq
 (.seq
 (.ops [
 ⟨(some 6), none, .mov (.c (.int .i64 0))⟩] [6])
 (.block 0
 (.loop
 (.seq
 (.seq
 (.ops [
 ⟨(some 19), none, .mov (.t 6)⟩,
 ⟨(some 20), none, .mov (.t 0)⟩,
 ⟨(some 21), none, .lenS (.t 20)⟩,
 ⟨(some 22), none, .bin .lss .no (.t 19) (.t 21)⟩,
 ⟨(some 23), none, .mov (.t 22)⟩,
 ⟨(some 24), (some (23, true)), .mov (.t 6)⟩,
 ⟨(some 25), (some (23, true)), .bin .lss .no (.t 24) (.c (.int .i64 7))⟩,
 ⟨(some 26), none, .pick (.t 23) (.t 25) (.c (.bool false))⟩] [26])
 (.cond (.t 26)
 .skip
 (.exit 0)))
 (.seq
 (.block 1
 (.seq
 (.ops [
 ⟨(some 29), none, .mov (.t 4)⟩,
 ⟨(some 30), none, .mov (.t 0)⟩,
 ⟨(some 31), none, .mov (.t 6)⟩,
 ⟨(some 32), none, .ixS 1 (.t 30) (.t 31)⟩,
 ⟨(some 33), none, .load none (.t 32)⟩,
 ⟨(some 34), none, .conv .i64 (.t 33)⟩,
 ⟨(some 35), none, .bin .rem .no (.t 34) (.c (.int .i64 9))⟩,
 ⟨(some 36), none, .bin .add .no (.t 35) (.c (.int .i64 1))⟩,
 ⟨(some 37), none, .bin .add .no (.t 29) (.t 36)⟩,
 ⟨(some 4), none, .mov (.t 37)⟩] [4])
 (.seq
 (.ops [
 ⟨(some 38), none, .mov (.t 3)⟩,
 ⟨(some 39), none, .mov (.t 4)⟩,
 ⟨(some 40), none, .buildS [(.int .i64 0)] 1 1 [(0, (.t 39))]⟩,
 ⟨(some 41), none, .app true 1 (.t 38) (.t 40)⟩,
 ⟨(some 3), none, .mov (.t 41)⟩] [3])
 (.ops [
 ⟨(some 42), none, .mov (.t 5)⟩,
 ⟨(some 43), none, .mov (.t 4)⟩,
 ⟨(some 44), none, .bin .add .no (.t 42) (.t 43)⟩,
 ⟨(some 5), none, .mov (.t 44)⟩] [5]))))
 (.ops [
 ⟨(some 27), none, .mov (.t 6)⟩,
 ⟨(some 28), none, .bin .add .no (.t 27) (.c (.int .i64 1))⟩,
 ⟨(some 6), none, .mov (.t 28)⟩] [6]))))))
 (.seq
 (.seq
 (.ops [
 ⟨(some 45), none, .mov (.t 3)⟩,
 ⟨(some 46), none, .lenS (.t 45)⟩,
 ⟨(some 47), none, .bin .eql .no (.t 46) (.c (.int .i64 0))⟩] [47])
 (.cond (.t 47)
 (.seq
 (.ops [
 ⟨(some 48), none, .call (.c (.fn (.func 17) [] [])) []⟩,
 ⟨(some 2), none, .mov (.t 48)⟩] [2])
 .ret)
 .skip))
 (.seq
 (.ops [
 ⟨(some 50), none, .mov (.t 3)⟩,
 ⟨(some 51), none, .call (.c (.fn (.func 14) [] [])) [(.t 50)]⟩,
 ⟨(some 49), none, .mov (.t 51)⟩,
 ⟨(some 52), none, .ext (.t 49) 0⟩,
 ⟨(some 53), none, .ext (.t 49) 1⟩,
 ⟨(some 7), none, .mov (.t 52)⟩,
 ⟨(some 8), none, .mov (.t 53)⟩] [7, 8])
 (.seq
 (.ops [
 ⟨(some 54), none, .buildS [(.int .i64 0)] 0 1 []⟩,
 ⟨(some 9), none, .mov (.t 54)⟩,
 ⟨(some 10), none, .mov (.c (.int .i64 0))⟩,
 ⟨(some 11), none, .mov (.c (.int .i64 0))⟩] [9, 10, 11])
 (.seq
 (.seq
 (.ops [
 ⟨(some 12), none, .mov (.c (.int .i64 0))⟩] [12])
 (.block 2
 (.loop
 (.seq
 (.seq
 (.ops [
 ⟨(some 55), none, .mov (.t 12)⟩,
 ⟨(some 56), none, .mov (.t 5)⟩,
 ⟨(some 57), none, .bin .leq .no (.t 55) (.t 56)⟩] [57])
 (.cond (.t 57)
 .skip
 (.exit 2)))
 (.seq
 (.block 3
 (.seq
 (.ops [
 ⟨(some 61), none, .mov (.t 3)⟩,
 ⟨(some 62), none, .mov (.t 12)⟩,
 ⟨(some 63), none, .call (.c (.fn (.func 21) [] [])) [(.t 61), (.t 62)]⟩,
 ⟨(some 60), none, .mov (.t 63)⟩,
 ⟨(some 64), none, .ext (.t 60) 0⟩,
 ⟨(some 65), none, .ext (.t 60) 1⟩,
 ⟨(some 13), none, .mov (.t 64)⟩,
 ⟨(some 14), none, .mov (.t 65)⟩] [13, 14])
 (.seq
 (.seq
 (.ops [
 ⟨(some 66), none, .mov (.t 14)⟩,
 ⟨(some 67), none, .bin .neq .no (.t 66) (.c (.int .i64 0))⟩] [67])
 (.cond (.t 67)
 (.seq
 (.ops [
 ⟨(some 2), none, .mov (.c (.bool false))⟩] [2])
 .ret)
 .skip))
 (.seq
 (.ops [
 ⟨(some 68), none, .mov (.t 9)⟩,
 ⟨(some 69), none, .mov (.t 13)⟩,
 ⟨(some 70), none, .buildS [(.int .i64 0)] 1 1 [(0, (.t 69))]⟩,
 ⟨(some 71), none, .app true 1 (.t 68) (.t 70)⟩,
 ⟨(some 9), none, .mov (.t 71)⟩] [9])
 (.seq
 (.ops [
 ⟨(some 72), none, .mov (.t 10)⟩,
 ⟨(some 73), none, .mov (.t 13)⟩,
 ⟨(some 74), none, .bin .add .no (.t 72) (.t 73)⟩,
 ⟨(some 10), none, .mov (.t 74)⟩] [10])
 (.ops [
 ⟨(some 75), none, .mov (.t 11)⟩,
 ⟨(some 76), none, .mov (.t 13)⟩,
 ⟨(some 77), none, .mx (.t 75) (.t 76)⟩,
 ⟨(some 11), none, .mov (.t 77)⟩] [11]))))))
 (.ops [
 ⟨(some 58), none, .mov (.t 12)⟩,
 ⟨(some 59), none, .bin .add .no (.t 58) (.c (.int .i64 1))⟩,
 ⟨(some 12), none, .mov (.t 59)⟩] [12]))))))
 (.seq
 (.seq
 (.ops [
 ⟨(some 15), none, .mov (.c (.int .i64 0))⟩] [15])
 (.block 4
 (.loop
 (.seq
 (.seq
 (.ops [
 ⟨(some 78), none, .mov (.t 15)⟩,
 ⟨(some 79), none, .mov (.t 5)⟩,
 ⟨(some 80), none, .bin .leq .no (.t 78) (.t 79)⟩] [80])
 (.cond (.t 80)
 .skip
 (.exit 4)))
 (.seq
 (.block 5
 (.seq
 (.ops [
 ⟨(some 83), none, .mov (.t 9)⟩,
 ⟨(some 84), none, .mov (.t 15)⟩,
 ⟨(some 85), none, .ixS 1 (.t 83) (.t 84)⟩,
 ⟨(some 86), none, .load none (.t 85)⟩,
 ⟨(some 87), none, .mov (.t 9)⟩,
 ⟨(some 88), none, .mov (.t 5)⟩,
 ⟨(some 89), none, .mov (.t 15)⟩,
 ⟨(some 90), none, .bin .sub .no (.t 88) (.t 89)⟩,
 ⟨(some 91), none, .ixS 1 (.t 87) (.t 90)⟩,
 ⟨(some 92), none, .load none (.t 91)⟩,
 ⟨(some 93), none, .bin .neq .no (.t 86) (.t 92)⟩] [93])
 (.cond (.t 93)
 (.seq
 (.ops [
 ⟨(some 2), none, .mov (.c (.bool false))⟩] [2])
 .ret)
 .skip)))
 (.ops [
 ⟨(some 81), none, .mov (.t 15)⟩,
 ⟨(some 82), none, .bin .add .no (.t 81) (.c (.int .i64 1))⟩,
 ⟨(some 15), none, .mov (.t 82)⟩] [15]))))))
 (.seq
 (.ops [
 ⟨(some 95), none, .mov (.t 3)⟩,
 ⟨(some 96), none, .mov (.t 5)⟩,
 ⟨(some 97), none, .bin .add .no (.t 96) (.c (.int .i64 1))⟩,
 ⟨(some 98), none, .call (.c (.fn (.func 21) [] [])) [(.t 95), (.t 97)]⟩,
 ⟨(some 94), none, .mov (.t 98)⟩,
 ⟨(some 99), none, .ext (.t 94) 0⟩,
 ⟨(some 100), none, .ext (.t 94) 1⟩,
 ⟨(some 16), none, .mov (.t 99)⟩,
 ⟨(some 17), none, .mov (.t 100)⟩] [16, 17])
 (.seq
 (.ops [
 ⟨(some 101), none, .mov (.t 8)⟩,
 ⟨(some 102), none, .bin .eql .no (.t 101) (.c (.int .i64 0))⟩,
 ⟨(some 103), none, .mov (.t 102)⟩,
 ⟨(some 104), (some (103, true)), .mov (.t 10)⟩,
 ⟨(some 105), (some (103, true)), .mov (.t 3)⟩,
 ⟨(some 106), (some (103, true)), .lenS (.t 105)⟩,
 ⟨(some 107), (some (103, true)), .bin .shl .no (.c (.int .i64 1)) (.t 106)⟩,
 ⟨(some 108), (some (103, true)), .bin .eql .no (.t 104) (.t 107)⟩,
 ⟨(some 109), none, .pick (.t 103) (.t 108) (.c (.bool false))⟩,
 ⟨(some 110), none, .mov (.t 109)⟩,
 ⟨(some 111), (some (110, true)), .mov (.t 7)⟩,
 ⟨(some 112), (some (110, true)), .mov (.t 11)⟩,
 ⟨(some 113), (some (110, true)), .bin .leq .no (.t 112) (.c (.int .i64 1))⟩,
 ⟨(some 114), (some (110, true)), .bin .eql .bool (.t 111) (.t 113)⟩,
 ⟨(some 115), none, .pick (.t 110) (.t 114) (.c (.bool false))⟩,
 ⟨(some 116), none, .mov (.t 115)⟩,
 ⟨(some 117), (some (116, true)), .mov (.t 16)⟩,
 ⟨(some 118), (some (116, true)), .bin .eql .no (.t 117) (.c (.int .i64 0))⟩,
 ⟨(some 119), none, .pick (.t 116) (.t 118) (.c (.bool false))⟩,
 ⟨(some 120), none, .mov (.t 119)⟩,
 ⟨(some 121), (some (120, true)), .mov (.t 17)⟩,
 ⟨(some 122), (some (120, true)), .bin .eql .no (.t 121) (.c (.int .i64 0))⟩,
 ⟨(some 123), none, .pick (.t 120) (.t 122) (.c (.bool false))⟩,
 ⟨(some 124), none, .mov (.t 123)⟩,
 ⟨(some 125), (some (124, true)), .call (.c (.fn (.func 17) [] [])) []⟩,
 ⟨(some 126), none, .pick (.t 124) (.t 125) (.c (.bool false))⟩,
 ⟨(some 2), none, .mov (.t 126)⟩] [2])
 .ret)))))))))),
 [.tmp 2]⟩

theorem c10 : compF Tryd.prog 10 = some sf10 := by kernel_rfl
end Go.Proofs.YtelalpohbodolaaDoor
