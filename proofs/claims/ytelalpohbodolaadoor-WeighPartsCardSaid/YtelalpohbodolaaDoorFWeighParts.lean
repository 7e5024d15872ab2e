/- The law WeighParts, compiled. -/
import Derived.Test.YtelalpohbodolaaDoorRows
import Derived.Test.YtelalpohbodolaaDoorSA
import Derived.KernelRfl
set_option linter.unusedVariables false
set_option maxRecDepth 100000
namespace Go.Proofs.YtelalpohbodolaaDoor
open Go Go.Abs
/-- bellpull/bellpulllaw08.WeighParts -/
noncomputable def sf11 : SFun := ⟨[0, 1, 2, 5, 6, 7, 8, 9, 10, 11, 12, 13, 14, 15, 16, 17, 18, 30, 38, 45, 77], 119,
 (.seq
 (.ops [
 ⟨(some 5), none, .box (.t 2)⟩,
 ⟨(some 6), none, .mov (.c (.bool false))⟩] [5, 6])
 (.seq
 (.ops [
 ⟨(some 19), none, .ixA 2 1 (.t 5) (.c (.int .i64 0))⟩,
 ⟨(some 20), none, .load none (.t 19)⟩,
 ⟨(some 21), none, .ixA 2 1 (.t 5) (.c (.int .i64 1))⟩,
 ⟨(some 22), none, .load none (.t 21)⟩,
 ⟨(some 7), none, .mov (.t 20)⟩,
 ⟨(some 8), none, .mov (.t 22)⟩] [7, 8])
 (.seq
 (.ops [
 ⟨(some 23), none, .mov (.t 0)⟩,
 ⟨(some 24), none, .mov (.t 8)⟩,
 ⟨(some 25), none, .bin .rem .no (.t 24) (.c (.int .u8 2))⟩,
 ⟨(some 26), none, .bin .eql .no (.t 25) (.c (.int .u8 0))⟩,
 ⟨(some 27), none, .call (.c (.fn (.func 35) [] [])) [(.t 23), (.t 26)]⟩,
 ⟨(some 9), none, .mov (.t 27)⟩] [9])
 (.seq
 (.seq
 (.ops [
 ⟨(some 28), none, .mov (.t 8)⟩,
 ⟨(some 29), none, .bin .rem .no (.t 28) (.c (.int .u8 3))⟩,
 ⟨(some 30), none, .bin .eql .no (.t 29) (.c (.int .u8 0))⟩] [30])
 (.cond (.t 30)
 (.ops [
 ⟨(some 31), none, .mov (.t 0)⟩,
 ⟨(some 32), none, .call (.c (.fn (.func 30) [] [])) [(.t 31), (.c (.int .i64 8))]⟩,
 ⟨(some 9), none, .mov (.t 32)⟩] [9])
 .skip))
 (.seq
 (.ops [
 ⟨(some 33), none, .buildS [(.int .i64 0)] 0 1 []⟩,
 ⟨(some 34), none, .buildS [(.int .i64 0)] 0 1 []⟩,
 ⟨(some 10), none, .mov (.t 33)⟩,
 ⟨(some 11), none, .mov (.t 34)⟩] [10, 11])
 (.seq
 (.seq
 (.ops [
 ⟨(some 12), none, .mov (.c (.int .i64 0))⟩] [12])
 (.block 0
 (.loop
 (.seq
 (.seq
 (.ops [
 ⟨(some 35), none, .mov (.t 12)⟩,
 ⟨(some 36), none, .mov (.t 9)⟩,
 ⟨(some 37), none, .lenS (.t 36)⟩,
 ⟨(some 38), none, .bin .lss .no (.t 35) (.t 37)⟩] [38])
 (.cond (.t 38)
 .skip
 (.exit 0)))
 (.seq
 (.block 1
 (.seq
 (.seq
 (.ops [
 ⟨(some 41), none, .mov (.t 1)⟩,
 ⟨(some 42), none, .mov (.t 12)⟩,
 ⟨(some 43), none, .bin .shr .no (.t 41) (.t 42)⟩,
 ⟨(some 44), none, .bin .and .no (.t 43) (.c (.int .u16 1))⟩,
 ⟨(some 45), none, .bin .eql .no (.t 44) (.c (.int .u16 1))⟩] [45])
 (.cond (.t 45)
 (.ops [
 ⟨(some 46), none, .mov (.t 10)⟩,
 ⟨(some 47), none, .mov (.t 9)⟩,
 ⟨(some 48), none, .mov (.t 12)⟩,
 ⟨(some 49), none, .ixS 1 (.t 47) (.t 48)⟩,
 ⟨(some 50), none, .load none (.t 49)⟩,
 ⟨(some 51), none, .buildS [(.int .i64 0)] 1 1 [(0, (.t 50))]⟩,
 ⟨(some 52), none, .app true 1 (.t 46) (.t 51)⟩,
 ⟨(some 10), none, .mov (.t 52)⟩] [10])
 .skip))
 (.ops [
 ⟨(some 53), none, .mov (.t 11)⟩,
 ⟨(some 54), none, .mov (.t 9)⟩,
 ⟨(some 55), none, .mov (.t 12)⟩,
 ⟨(some 56), none, .ixS 1 (.t 54) (.t 55)⟩,
 ⟨(some 57), none, .load none (.t 56)⟩,
 ⟨(some 58), none, .mov (.t 7)⟩,
 ⟨(some 59), none, .conv .i64 (.t 58)⟩,
 ⟨(some 60), none, .bin .rem .no (.t 59) (.c (.int .i64 5))⟩,
 ⟨(some 61), none, .bin .add .no (.t 60) (.c (.int .i64 1))⟩,
 ⟨(some 62), none, .bin .mul .no (.t 57) (.t 61)⟩,
 ⟨(some 63), none, .buildS [(.int .i64 0)] 1 1 [(0, (.t 62))]⟩,
 ⟨(some 64), none, .app true 1 (.t 53) (.t 63)⟩,
 ⟨(some 11), none, .mov (.t 64)⟩] [11])))
 (.ops [
 ⟨(some 39), none, .mov (.t 12)⟩,
 ⟨(some 40), none, .bin .add .no (.t 39) (.c (.int .i64 1))⟩,
 ⟨(some 12), none, .mov (.t 40)⟩] [12]))))))
 (.seq
 (.seq
 (.ops [
 ⟨(some 65), none, .mov (.t 10)⟩,
 ⟨(some 66), none, .lenS (.t 65)⟩,
 ⟨(some 67), none, .bin .eql .no (.t 66) (.c (.int .i64 0))⟩,
 ⟨(some 68), none, .mov (.t 67)⟩,
 ⟨(some 69), (some (68, false)), .mov (.t 9)⟩,
 ⟨(some 70), (some (68, false)), .call (.c (.fn (.func 16) [] [])) [(.t 69)]⟩,
 ⟨(some 71), (some (68, false)), .bin .neq .no (.t 70) (.c (.int .i64 0))⟩,
 ⟨(some 72), none, .pick (.t 68) (.c (.bool true)) (.t 71)⟩,
 ⟨(some 73), none, .mov (.t 72)⟩,
 ⟨(some 74), (some (73, false)), .mov (.t 11)⟩,
 ⟨(some 75), (some (73, false)), .call (.c (.fn (.func 16) [] [])) [(.t 74)]⟩,
 ⟨(some 76), (some (73, false)), .bin .neq .no (.t 75) (.c (.int .i64 0))⟩,
 ⟨(some 77), none, .pick (.t 73) (.c (.bool true)) (.t 76)⟩] [77])
 (.cond (.t 77)
 (.seq
 (.ops [
 ⟨(some 78), none, .call (.c (.fn (.func 17) [] [])) []⟩,
 ⟨(some 6), none, .mov (.t 78)⟩] [6])
 .ret)
 .skip))
 (.seq
 (.ops [
 ⟨(some 80), none, .mov (.t 9)⟩,
 ⟨(some 81), none, .call (.c (.fn (.func 14) [] [])) [(.t 80)]⟩,
 ⟨(some 79), none, .mov (.t 81)⟩,
 ⟨(some 82), none, .ext (.t 79) 0⟩,
 ⟨(some 83), none, .ext (.t 79) 1⟩,
 ⟨(some 13), none, .mov (.t 82)⟩,
 ⟨(some 14), none, .mov (.t 83)⟩] [13, 14])
 (.seq
 (.ops [
 ⟨(some 85), none, .mov (.t 10)⟩,
 ⟨(some 86), none, .call (.c (.fn (.func 14) [] [])) [(.t 85)]⟩,
 ⟨(some 84), none, .mov (.t 86)⟩,
 ⟨(some 87), none, .ext (.t 84) 0⟩,
 ⟨(some 88), none, .ext (.t 84) 1⟩,
 ⟨(some 15), none, .mov (.t 87)⟩,
 ⟨(some 16), none, .mov (.t 88)⟩] [15, 16])
 (.seq
 (.ops [
 ⟨(some 90), none, .mov (.t 11)⟩,
 ⟨(some 91), none, .call (.c (.fn (.func 14) [] [])) [(.t 90)]⟩,
 ⟨(some 89), none, .mov (.t 91)⟩,
 ⟨(some 92), none, .ext (.t 89) 0⟩,
 ⟨(some 93), none, .ext (.t 89) 1⟩,
 ⟨(some 17), none, .mov (.t 92)⟩,
 ⟨(some 18), none, .mov (.t 93)⟩] [17, 18])
 (.seq
 (.ops [
 ⟨(some 94), none, .mov (.t 14)⟩,
 ⟨(some 95), none, .bin .eql .no (.t 94) (.c (.int .i64 0))⟩,
 ⟨(some 96), none, .mov (.t 95)⟩,
 ⟨(some 97), (some (96, true)), .mov (.t 16)⟩,
 ⟨(some 98), (some (96, true)), .bin .eql .no (.t 97) (.c (.int .i64 0))⟩,
 ⟨(some 99), none, .pick (.t 96) (.t 98) (.c (.bool false))⟩,
 ⟨(some 100), none, .mov (.t 99)⟩,
 ⟨(some 101), (some (100, true)), .mov (.t 18)⟩,
 ⟨(some 102), (some (100, true)), .bin .eql .no (.t 101) (.c (.int .i64 0))⟩,
 ⟨(some 103), none, .pick (.t 100) (.t 102) (.c (.bool false))⟩,
 ⟨(some 104), none, .mov (.t 103)⟩,
 ⟨(some 105), (some (104, true)), .mov (.t 13)⟩,
 ⟨(some 106), (some (104, true)), .not (.t 105)⟩,
 ⟨(some 107), (some (104, true)), .mov (.t 106)⟩,
 ⟨(some 108), (some (107, false)), .mov (.t 15)⟩,
 ⟨(some 109), (some (104, true)), .pick (.t 107) (.c (.bool true)) (.t 108)⟩,
 ⟨(some 110), none, .pick (.t 104) (.t 109) (.c (.bool false))⟩,
 ⟨(some 111), none, .mov (.t 110)⟩,
 ⟨(some 112), (some (111, true)), .mov (.t 13)⟩,
 ⟨(some 113), (some (111, true)), .mov (.t 17)⟩,
 ⟨(some 114), (some (111, true)), .bin .eql .bool (.t 112) (.t 113)⟩,
 ⟨(some 115), none, .pick (.t 111) (.t 114) (.c (.bool false))⟩,
 ⟨(some 116), none, .mov (.t 115)⟩,
 ⟨(some 117), (some (116, true)), .call (.c (.fn (.func 17) [] [])) []⟩,
 ⟨(some 118), none, .pick (.t 116) (.t 117) (.c (.bool false))⟩,
 ⟨(some 6), none, .mov (.t 118)⟩] [6])
 .ret))))))))))),
 [.tmp 6]⟩

theorem c11 : compF Tryd.prog 11 = some sf11 := by kernel_rfl
end Go.Proofs.YtelalpohbodolaaDoor
