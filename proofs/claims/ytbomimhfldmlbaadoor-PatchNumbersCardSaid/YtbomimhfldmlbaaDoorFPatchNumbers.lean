/- The law PatchNumbers, compiled. -/
import Derived.Test.YtbomimhfldmlbaaDoorRows
import Derived.Test.YtbomimhfldmlbaaDoorSA
import Derived.KernelRfl
set_option linter.unusedVariables false
set_option maxRecDepth 100000
namespace Go.Proofs.YtbomimhfldmlbaaDoor
open Go Go.Abs
/-- bellpull/bellpulllaw06.PatchNumbers -/
noncomputable def sf6 : SFun := ⟨[0, 1, 2, 5, 6, 7, 8, 9, 10, 11, 12, 13, 37, 46, 47, 58, 59, 100, 108], 146,
 (.seq
 (.ops [
 ⟨(some 5), none, .box (.t 2)⟩,
 ⟨(some 6), none, .mov (.c (.bool false))⟩] [5, 6])
 (.seq
 (.ops [
 ⟨(some 14), none, .mov (.t 1)⟩,
 ⟨(some 15), none, .call (.c (.fn (.func 17) [] [])) [(.t 14)]⟩,
 ⟨(some 7), none, .mov (.t 15)⟩] [7])
 (.seq
 (.ops [
 ⟨(some 17), none, .mov (.t 0)⟩,
 ⟨(some 18), none, .mov (.t 7)⟩,
 ⟨(some 19), none, .call (.c (.fn (.func 34) [] [])) [(.t 17), (.t 18)]⟩,
 ⟨(some 16), none, .mov (.t 19)⟩,
 ⟨(some 20), none, .ext (.t 16) 0⟩,
 ⟨(some 21), none, .ext (.t 16) 1⟩,
 ⟨(some 8), none, .mov (.t 20)⟩,
 ⟨(some 9), none, .mov (.t 21)⟩] [8, 9])
 (.seq
 (.ops [
 ⟨(some 23), none, .mov (.t 0)⟩,
 ⟨(some 24), none, .call (.c (.fn (.func 35) [] [])) [(.t 23)]⟩,
 ⟨(some 22), none, .mov (.t 24)⟩,
 ⟨(some 25), none, .ext (.t 22) 0⟩,
 ⟨(some 26), none, .ext (.t 22) 1⟩,
 ⟨(some 10), none, .mov (.t 25)⟩,
 ⟨(some 11), none, .mov (.t 26)⟩] [10, 11])
 (.seq
 (.ops [
 ⟨(some 28), none, .ixA 3 1 (.t 5) (.c (.int .i64 0))⟩,
 ⟨(some 29), none, .load none (.t 28)⟩,
 ⟨(some 30), none, .ixA 3 1 (.t 5) (.c (.int .i64 1))⟩,
 ⟨(some 31), none, .load none (.t 30)⟩,
 ⟨(some 32), none, .ixA 3 1 (.t 5) (.c (.int .i64 2))⟩,
 ⟨(some 33), none, .load none (.t 32)⟩,
 ⟨(some 34), none, .call (.c (.fn (.func 36) [] [])) [(.t 29), (.t 31), (.t 33)]⟩,
 ⟨(some 27), none, .mov (.t 34)⟩,
 ⟨(some 35), none, .ext (.t 27) 0⟩,
 ⟨(some 36), none, .ext (.t 27) 1⟩,
 ⟨(some 12), none, .mov (.t 35)⟩,
 ⟨(some 13), none, .mov (.t 36)⟩] [12, 13])
 (.seq
 (.block 0
 (.seq
 (.ops [
 ⟨(some 38), none, .mov (.t 0)⟩,
 ⟨(some 39), none, .call (.c (.fn (.func 28) [] [])) [(.t 38), (.c (.int .i64 1)), (.c (.int .i64 2))]⟩,
 ⟨(some 40), none, .not (.t 39)⟩,
 ⟨(some 37), none, .mov (.t 40)⟩] [37])
 (.cond (.t 37)
 (.seq
 (.ops [
 ⟨(some 41), none, .mov (.t 8)⟩,
 ⟨(some 42), none, .bin .neq .no (.t 41) (.c (.int .i64 0))⟩,
 ⟨(some 43), none, .mov (.t 42)⟩,
 ⟨(some 44), (some (43, false)), .mov (.t 9)⟩,
 ⟨(some 45), (some (43, false)), .bin .neq .no (.t 44) (.c (.int .i64 1))⟩,
 ⟨(some 46), none, .pick (.t 43) (.c (.bool true)) (.t 45)⟩] [46])
 (.cond (.t 46)
 (.seq
 (.ops [
 ⟨(some 6), none, .mov (.c (.bool false))⟩] [6])
 .ret)
 .skip))
 (.seq
 (.ops [
 ⟨(some 48), none, .mov (.t 0)⟩,
 ⟨(some 49), none, .bin .shl .no (.c (.int .i64 1)) (.t 48)⟩,
 ⟨(some 50), none, .mov (.t 7)⟩,
 ⟨(some 51), none, .call (.c (.fn (.func 22) [] [])) [(.t 49), (.t 50)]⟩,
 ⟨(some 52), none, .not (.t 51)⟩,
 ⟨(some 47), none, .mov (.t 52)⟩] [47])
 (.cond (.t 47)
 (.seq
 (.ops [
 ⟨(some 53), none, .mov (.t 8)⟩,
 ⟨(some 54), none, .bin .neq .no (.t 53) (.c (.int .i64 0))⟩,
 ⟨(some 55), none, .mov (.t 54)⟩,
 ⟨(some 56), (some (55, false)), .mov (.t 9)⟩,
 ⟨(some 57), (some (55, false)), .bin .neq .no (.t 56) (.c (.int .i64 2))⟩,
 ⟨(some 58), none, .pick (.t 55) (.c (.bool true)) (.t 57)⟩] [58])
 (.cond (.t 58)
 (.seq
 (.ops [
 ⟨(some 6), none, .mov (.c (.bool false))⟩] [6])
 .ret)
 .skip))
 (.seq
 (.ops [
 ⟨(some 60), none, .mov (.t 8)⟩,
 ⟨(some 61), none, .mov (.t 0)⟩,
 ⟨(some 62), none, .mov (.t 7)⟩,
 ⟨(some 63), none, .call (.c (.fn (.func 37) [] [])) [(.t 61), (.t 62)]⟩,
 ⟨(some 64), none, .bin .neq .no (.t 60) (.t 63)⟩,
 ⟨(some 65), none, .mov (.t 64)⟩,
 ⟨(some 66), (some (65, false)), .mov (.t 9)⟩,
 ⟨(some 67), (some (65, false)), .bin .neq .no (.t 66) (.c (.int .i64 0))⟩,
 ⟨(some 68), none, .pick (.t 65) (.c (.bool true)) (.t 67)⟩,
 ⟨(some 59), none, .mov (.t 68)⟩] [59])
 (.cond (.t 59)
 (.seq
 (.ops [
 ⟨(some 6), none, .mov (.c (.bool false))⟩] [6])
 .ret)
 .skip)))))))
 (.seq
 (.seq
 (.ops [
 ⟨(some 69), none, .mov (.t 0)⟩,
 ⟨(some 70), none, .call (.c (.fn (.func 28) [] [])) [(.t 69), (.c (.int .i64 1)), (.c (.int .i64 20))]⟩,
 ⟨(some 71), none, .mov (.t 11)⟩,
 ⟨(some 72), none, .bin .eql .no (.t 71) (.c (.int .i64 0))⟩,
 ⟨(some 73), none, .bin .neq .bool (.t 70) (.t 72)⟩,
 ⟨(some 74), none, .mov (.t 73)⟩,
 ⟨(some 75), (some (74, false)), .mov (.t 11)⟩,
 ⟨(some 76), (some (74, false)), .bin .neq .no (.t 75) (.c (.int .i64 0))⟩,
 ⟨(some 77), (some (74, false)), .mov (.t 76)⟩,
 ⟨(some 78), (some (77, true)), .mov (.t 10)⟩,
 ⟨(some 79), (some (77, true)), .bin .neq .no (.t 78) (.c (.int .i64 0))⟩,
 ⟨(some 80), (some (77, true)), .mov (.t 79)⟩,
 ⟨(some 81), (some (80, false)), .mov (.t 11)⟩,
 ⟨(some 82), (some (80, false)), .bin .neq .no (.t 81) (.c (.int .i64 1))⟩,
 ⟨(some 83), (some (77, true)), .pick (.t 80) (.c (.bool true)) (.t 82)⟩,
 ⟨(some 84), (some (74, false)), .pick (.t 77) (.t 83) (.c (.bool false))⟩,
 ⟨(some 85), none, .pick (.t 74) (.c (.bool true)) (.t 84)⟩,
 ⟨(some 86), none, .mov (.t 85)⟩,
 ⟨(some 87), (some (86, false)), .mov (.t 11)⟩,
 ⟨(some 88), (some (86, false)), .bin .eql .no (.t 87) (.c (.int .i64 0))⟩,
 ⟨(some 89), (some (86, false)), .mov (.t 88)⟩,
 ⟨(some 90), (some (89, true)), .mov (.t 10)⟩,
 ⟨(some 91), (some (89, true)), .mov (.t 0)⟩,
 ⟨(some 92), (some (89, true)), .mov (.t 0)⟩,
 ⟨(some 93), (some (89, true)), .bin .shl .no (.t 91) (.t 92)⟩,
 ⟨(some 94), (some (89, true)), .mov (.t 0)⟩,
 ⟨(some 95), (some (89, true)), .bin .shl .no (.c (.int .i64 1)) (.t 94)⟩,
 ⟨(some 96), (some (89, true)), .bin .sub .no (.t 93) (.t 95)⟩,
 ⟨(some 97), (some (89, true)), .bin .add .no (.t 96) (.c (.int .i64 1))⟩,
 ⟨(some 98), (some (89, true)), .bin .neq .no (.t 90) (.t 97)⟩,
 ⟨(some 99), (some (86, false)), .pick (.t 89) (.t 98) (.c (.bool false))⟩,
 ⟨(some 100), none, .pick (.t 86) (.c (.bool true)) (.t 99)⟩] [100])
 (.cond (.t 100)
 (.seq
 (.ops [
 ⟨(some 6), none, .mov (.c (.bool false))⟩] [6])
 .ret)
 .skip))
 (.seq
 (.seq
 (.ops [
 ⟨(some 101), none, .ixA 3 1 (.t 5) (.c (.int .i64 0))⟩,
 ⟨(some 102), none, .load none (.t 101)⟩,
 ⟨(some 103), none, .ixA 3 1 (.t 5) (.c (.int .i64 1))⟩,
 ⟨(some 104), none, .load none (.t 103)⟩,
 ⟨(some 105), none, .ixA 3 1 (.t 5) (.c (.int .i64 2))⟩,
 ⟨(some 106), none, .load none (.t 105)⟩,
 ⟨(some 107), none, .call (.c (.fn (.func 20) [] [])) [(.t 102), (.t 104), (.t 106)]⟩,
 ⟨(some 108), none, .not (.t 107)⟩] [108])
 (.cond (.t 108)
 (.seq
 (.ops [
 ⟨(some 109), none, .mov (.t 12)⟩,
 ⟨(some 110), none, .not (.t 109)⟩,
 ⟨(some 111), none, .mov (.t 110)⟩,
 ⟨(some 112), (some (111, true)), .mov (.t 13)⟩,
 ⟨(some 113), (some (111, true)), .bin .eql .no (.t 112) (.c (.int .i64 1))⟩,
 ⟨(some 114), none, .pick (.t 111) (.t 113) (.c (.bool false))⟩,
 ⟨(some 115), none, .mov (.t 114)⟩,
 ⟨(some 116), (some (115, true)), .call (.c (.fn (.func 21) [] [])) []⟩,
 ⟨(some 117), none, .pick (.t 115) (.t 116) (.c (.bool false))⟩,
 ⟨(some 6), none, .mov (.t 117)⟩] [6])
 .ret)
 .skip))
 (.seq
 (.ops [
 ⟨(some 118), none, .mov (.t 12)⟩,
 ⟨(some 119), none, .ixA 3 1 (.t 5) (.c (.int .i64 2))⟩,
 ⟨(some 120), none, .load none (.t 119)⟩,
 ⟨(some 121), none, .ixA 3 1 (.t 5) (.c (.int .i64 0))⟩,
 ⟨(some 122), none, .load none (.t 121)⟩,
 ⟨(some 123), none, .bin .mul .no (.c (.int .i64 2)) (.t 122)⟩,
 ⟨(some 124), none, .bin .sub .no (.t 123) (.c (.int .i64 1))⟩,
 ⟨(some 125), none, .bin .geq .no (.t 120) (.t 124)⟩,
 ⟨(some 126), none, .mov (.t 125)⟩,
 ⟨(some 127), (some (126, false)), .ixA 3 1 (.t 5) (.c (.int .i64 1))⟩,
 ⟨(some 128), (some (126, false)), .load none (.t 127)⟩,
 ⟨(some 129), (some (126, false)), .bin .eql .no (.t 128) (.c (.int .i64 1))⟩,
 ⟨(some 130), (some (126, false)), .mov (.t 129)⟩,
 ⟨(some 131), (some (130, true)), .ixA 3 1 (.t 5) (.c (.int .i64 2))⟩,
 ⟨(some 132), (some (130, true)), .load none (.t 131)⟩,
 ⟨(some 133), (some (130, true)), .ixA 3 1 (.t 5) (.c (.int .i64 0))⟩,
 ⟨(some 134), (some (130, true)), .load none (.t 133)⟩,
 ⟨(some 135), (some (130, true)), .bin .geq .no (.t 132) (.t 134)⟩,
 ⟨(some 136), (some (126, false)), .pick (.t 130) (.t 135) (.c (.bool false))⟩,
 ⟨(some 137), none, .pick (.t 126) (.c (.bool true)) (.t 136)⟩,
 ⟨(some 138), none, .bin .eql .bool (.t 118) (.t 137)⟩,
 ⟨(some 139), none, .mov (.t 138)⟩,
 ⟨(some 140), (some (139, true)), .mov (.t 13)⟩,
 ⟨(some 141), (some (139, true)), .bin .eql .no (.t 140) (.c (.int .i64 0))⟩,
 ⟨(some 142), none, .pick (.t 139) (.t 141) (.c (.bool false))⟩,
 ⟨(some 143), none, .mov (.t 142)⟩,
 ⟨(some 144), (some (143, true)), .call (.c (.fn (.func 21) [] [])) []⟩,
 ⟨(some 145), none, .pick (.t 143) (.t 144) (.c (.bool false))⟩,
 ⟨(some 6), none, .mov (.t 145)⟩] [6])
 .ret))))))))),
 [.tmp 6]⟩

theorem c6 : compF Tryd.prog 6 = some sf6 := by kernel_rfl
end Go.Proofs.YtbomimhfldmlbaaDoor
