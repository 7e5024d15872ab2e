/- The law NormEuler, compiled. -/
import Derived.Test.YtpobklkllfokdaaRows
import Derived.Test.YtpobklkllfokdaaSE
import Derived.KernelRfl
set_option linter.unusedVariables false
set_option maxRecDepth 100000
namespace Go.Proofs.Ytpobklkllfokdaa
open Go Go.Abs
/-- bellpull/bellpulllaw04.NormEuler -/
noncomputable def sf15 : SFun := ⟨[0, 1, 4, 5, 6, 7, 8, 9, 10, 11, 12, 13, 14, 15, 16, 17, 18, 56, 120], 170,
 (.seq
 (.ops [
 ⟨(some 4), none, .mov (.c (.bool false))⟩] [4])
 (.seq
 (.ops [
 ⟨(some 19), none, .mov (.t 0)⟩,
 ⟨(some 20), none, .conv .i64 (.t 19)⟩,
 ⟨(some 21), none, .bin .rem .no (.t 20) (.c (.int .i64 100))⟩,
 ⟨(some 22), none, .mov (.t 1)⟩,
 ⟨(some 23), none, .conv .i64 (.t 22)⟩,
 ⟨(some 24), none, .bin .rem .no (.t 23) (.c (.int .i64 101))⟩,
 ⟨(some 5), none, .mov (.t 21)⟩,
 ⟨(some 6), none, .mov (.t 24)⟩] [5, 6])
 (.seq
 (.ops [
 ⟨(some 26), none, .mov (.t 5)⟩,
 ⟨(some 27), none, .call (.c (.fn (.func 34) [] [])) [(.t 26)]⟩,
 ⟨(some 25), none, .mov (.t 27)⟩,
 ⟨(some 28), none, .ext (.t 25) 0⟩,
 ⟨(some 29), none, .ext (.t 25) 1⟩,
 ⟨(some 7), none, .mov (.t 28)⟩,
 ⟨(some 8), none, .mov (.t 29)⟩] [7, 8])
 (.seq
 (.ops [
 ⟨(some 31), none, .mov (.t 6)⟩,
 ⟨(some 32), none, .call (.c (.fn (.func 34) [] [])) [(.t 31)]⟩,
 ⟨(some 30), none, .mov (.t 32)⟩,
 ⟨(some 33), none, .ext (.t 30) 0⟩,
 ⟨(some 34), none, .ext (.t 30) 1⟩,
 ⟨(some 9), none, .mov (.t 33)⟩,
 ⟨(some 10), none, .mov (.t 34)⟩] [9, 10])
 (.seq
 (.seq
 (.ops [
 ⟨(some 35), none, .mov (.t 8)⟩,
 ⟨(some 36), none, .bin .neq .no (.t 35) (.c (.int .i64 0))⟩,
 ⟨(some 37), none, .mov (.t 36)⟩,
 ⟨(some 38), (some (37, false)), .mov (.t 10)⟩,
 ⟨(some 39), (some (37, false)), .bin .neq .no (.t 38) (.c (.int .i64 0))⟩,
 ⟨(some 40), none, .pick (.t 37) (.c (.bool true)) (.t 39)⟩,
 ⟨(some 41), none, .mov (.t 40)⟩,
 ⟨(some 42), (some (41, false)), .mov (.t 7)⟩,
 ⟨(some 43), (some (41, false)), .mov (.t 5)⟩,
 ⟨(some 44), (some (41, false)), .call (.c (.fn (.func 45) [] [])) [(.t 42), (.c (.int .i64 4)), (.t 43)]⟩,
 ⟨(some 45), (some (41, false)), .not (.t 44)⟩,
 ⟨(some 46), none, .pick (.t 41) (.c (.bool true)) (.t 45)⟩,
 ⟨(some 47), none, .mov (.t 46)⟩,
 ⟨(some 48), (some (47, false)), .mov (.t 9)⟩,
 ⟨(some 49), (some (47, false)), .mov (.t 6)⟩,
 ⟨(some 50), (some (47, false)), .call (.c (.fn (.func 45) [] [])) [(.t 48), (.c (.int .i64 4)), (.t 49)]⟩,
 ⟨(some 51), (some (47, false)), .not (.t 50)⟩,
 ⟨(some 52), none, .pick (.t 47) (.c (.bool true)) (.t 51)⟩,
 ⟨(some 53), none, .mov (.t 52)⟩,
 ⟨(some 54), (some (53, false)), .call (.c (.fn (.func 23) [] [])) []⟩,
 ⟨(some 55), (some (53, false)), .not (.t 54)⟩,
 ⟨(some 56), none, .pick (.t 53) (.c (.bool true)) (.t 55)⟩] [56])
 (.cond (.t 56)
 (.seq
 (.ops [
 ⟨(some 4), none, .mov (.c (.bool false))⟩] [4])
 .ret)
 .skip))
 (.seq
 (.draw [
 ⟨⟨(some 58), none, .mov (.t 7)⟩, false, false⟩,
 ⟨⟨(some 59), none, .ixS 1 (.t 58) (.c (.int .i64 0))⟩, false, false⟩,
 ⟨⟨(some 60), none, .load none (.t 59)⟩, true, false⟩,
 ⟨⟨(some 61), none, .bin .mul .no (.c (.int .i64 2)) (.t 60)⟩, false, false⟩,
 ⟨⟨(some 62), none, .mov (.t 7)⟩, false, false⟩,
 ⟨⟨(some 63), none, .ixS 1 (.t 62) (.c (.int .i64 1))⟩, false, false⟩,
 ⟨⟨(some 64), none, .load none (.t 63)⟩, true, false⟩,
 ⟨⟨(some 65), none, .bin .mul .no (.c (.int .i64 2)) (.t 64)⟩, false, false⟩,
 ⟨⟨(some 66), none, .mov (.t 7)⟩, false, false⟩,
 ⟨⟨(some 67), none, .ixS 1 (.t 66) (.c (.int .i64 2))⟩, false, false⟩,
 ⟨⟨(some 68), none, .load none (.t 67)⟩, true, false⟩,
 ⟨⟨(some 69), none, .bin .mul .no (.c (.int .i64 2)) (.t 68)⟩, false, false⟩,
 ⟨⟨(some 70), none, .mov (.t 7)⟩, false, false⟩,
 ⟨⟨(some 71), none, .ixS 1 (.t 70) (.c (.int .i64 3))⟩, false, false⟩,
 ⟨⟨(some 72), none, .load none (.t 71)⟩, true, false⟩,
 ⟨⟨(some 73), none, .bin .mul .no (.c (.int .i64 2)) (.t 72)⟩, false, false⟩,
 ⟨⟨(some 74), none, .build [(.int .i64 0), (.int .i64 0), (.int .i64 0), (.int .i64 0)] [(0, 1), (1, 1), (2, 1), (3, 1)] [(0, (.t 61)), (1, (.t 65)), (2, (.t 69)), (3, (.t 73))]⟩, false, false⟩,
 ⟨⟨(some 75), none, .mov (.t 9)⟩, false, false⟩,
 ⟨⟨(some 76), none, .ixS 1 (.t 75) (.c (.int .i64 0))⟩, false, false⟩,
 ⟨⟨(some 77), none, .load none (.t 76)⟩, true, false⟩,
 ⟨⟨(some 78), none, .bin .mul .no (.c (.int .i64 2)) (.t 77)⟩, false, false⟩,
 ⟨⟨(some 79), none, .mov (.t 9)⟩, false, false⟩,
 ⟨⟨(some 80), none, .ixS 1 (.t 79) (.c (.int .i64 1))⟩, false, false⟩,
 ⟨⟨(some 81), none, .load none (.t 80)⟩, true, false⟩,
 ⟨⟨(some 82), none, .bin .mul .no (.c (.int .i64 2)) (.t 81)⟩, false, false⟩,
 ⟨⟨(some 83), none, .mov (.t 9)⟩, false, false⟩,
 ⟨⟨(some 84), none, .ixS 1 (.t 83) (.c (.int .i64 2))⟩, false, false⟩,
 ⟨⟨(some 85), none, .load none (.t 84)⟩, true, false⟩,
 ⟨⟨(some 86), none, .bin .mul .no (.c (.int .i64 2)) (.t 85)⟩, false, false⟩,
 ⟨⟨(some 87), none, .mov (.t 9)⟩, false, false⟩,
 ⟨⟨(some 88), none, .ixS 1 (.t 87) (.c (.int .i64 3))⟩, false, false⟩,
 ⟨⟨(some 89), none, .load none (.t 88)⟩, true, false⟩,
 ⟨⟨(some 90), none, .bin .mul .no (.c (.int .i64 2)) (.t 89)⟩, false, false⟩,
 ⟨⟨(some 91), none, .build [(.int .i64 0), (.int .i64 0), (.int .i64 0), (.int .i64 0)] [(0, 1), (1, 1), (2, 1), (3, 1)] [(0, (.t 78)), (1, (.t 82)), (2, (.t 86)), (3, (.t 90))]⟩, false, false⟩,
 ⟨⟨(some 92), none, .call (.c (.fn (.func 17) [] [])) [(.t 74), (.t 91)]⟩, false, true⟩,
 ⟨⟨(some 57), none, .mov (.t 92)⟩, false, false⟩,
 ⟨⟨(some 93), none, .ext (.t 57) 0⟩, false, false⟩,
 ⟨⟨(some 94), none, .ext (.t 57) 1⟩, false, false⟩,
 ⟨⟨(some 11), none, .new [(.int .i64 0), (.int .i64 0), (.int .i64 0), (.int .i64 0)]⟩, false, true⟩,
 ⟨⟨none, none, .store 4 (.t 11) (.t 93)⟩, false, true⟩,
 ⟨⟨(some 12), none, .mov (.t 94)⟩, false, false⟩] [0, 1, 3, 7, 0, 16, 48, 112, 0, 256, 768, 1792, 0, 4096, 12288, 28672, 65535, 0, 131072, 393216, 917504, 0, 2097152, 6291456, 14680064, 0, 33554432, 100663296, 234881024, 0, 536870912, 1610612736, 3758096384, 8589803520, 17179869183, 34359738367, 68719476735, 68719476735, 0, 412316860415, 1099511627775] [11, 12])
 (.seq
 (.seq
 (.ops [
 ⟨(some 95), none, .mov (.t 12)⟩,
 ⟨(some 96), none, .bin .neq .no (.t 95) (.c (.int .i64 0))⟩,
 ⟨(some 97), none, .mov (.t 96)⟩,
 ⟨(some 98), (some (97, false)), .fa 0 (.t 11)⟩,
 ⟨(some 99), (some (97, false)), .load none (.t 98)⟩,
 ⟨(some 100), (some (97, false)), .bin .and .no (.t 99) (.c (.int .i64 1))⟩,
 ⟨(some 101), (some (97, false)), .bin .neq .no (.t 100) (.c (.int .i64 0))⟩,
 ⟨(some 102), none, .pick (.t 97) (.c (.bool true)) (.t 101)⟩,
 ⟨(some 103), none, .mov (.t 102)⟩,
 ⟨(some 104), (some (103, false)), .fa 1 (.t 11)⟩,
 ⟨(some 105), (some (103, false)), .load none (.t 104)⟩,
 ⟨(some 106), (some (103, false)), .bin .and .no (.t 105) (.c (.int .i64 1))⟩,
 ⟨(some 107), (some (103, false)), .bin .neq .no (.t 106) (.c (.int .i64 0))⟩,
 ⟨(some 108), none, .pick (.t 103) (.c (.bool true)) (.t 107)⟩,
 ⟨(some 109), none, .mov (.t 108)⟩,
 ⟨(some 110), (some (109, false)), .fa 2 (.t 11)⟩,
 ⟨(some 111), (some (109, false)), .load none (.t 110)⟩,
 ⟨(some 112), (some (109, false)), .bin .and .no (.t 111) (.c (.int .i64 1))⟩,
 ⟨(some 113), (some (109, false)), .bin .neq .no (.t 112) (.c (.int .i64 0))⟩,
 ⟨(some 114), none, .pick (.t 109) (.c (.bool true)) (.t 113)⟩,
 ⟨(some 115), none, .mov (.t 114)⟩,
 ⟨(some 116), (some (115, false)), .fa 3 (.t 11)⟩,
 ⟨(some 117), (some (115, false)), .load none (.t 116)⟩,
 ⟨(some 118), (some (115, false)), .bin .and .no (.t 117) (.c (.int .i64 1))⟩,
 ⟨(some 119), (some (115, false)), .bin .neq .no (.t 118) (.c (.int .i64 0))⟩,
 ⟨(some 120), none, .pick (.t 115) (.c (.bool true)) (.t 119)⟩] [120])
 (.cond (.t 120)
 (.seq
 (.ops [
 ⟨(some 4), none, .mov (.c (.bool false))⟩] [4])
 .ret)
 .skip))
 (.seq
 (.ops [
 ⟨(some 121), none, .fa 0 (.t 11)⟩,
 ⟨(some 122), none, .load none (.t 121)⟩,
 ⟨(some 123), none, .bin .quo .no (.t 122) (.c (.int .i64 2))⟩,
 ⟨(some 124), none, .fa 1 (.t 11)⟩,
 ⟨(some 125), none, .load none (.t 124)⟩,
 ⟨(some 126), none, .bin .quo .no (.t 125) (.c (.int .i64 2))⟩,
 ⟨(some 127), none, .fa 2 (.t 11)⟩,
 ⟨(some 128), none, .load none (.t 127)⟩,
 ⟨(some 129), none, .bin .quo .no (.t 128) (.c (.int .i64 2))⟩,
 ⟨(some 130), none, .fa 3 (.t 11)⟩,
 ⟨(some 131), none, .load none (.t 130)⟩,
 ⟨(some 132), none, .bin .quo .no (.t 131) (.c (.int .i64 2))⟩,
 ⟨(some 13), none, .mov (.t 123)⟩,
 ⟨(some 14), none, .mov (.t 126)⟩,
 ⟨(some 15), none, .mov (.t 129)⟩,
 ⟨(some 16), none, .mov (.t 132)⟩] [13, 14, 15, 16])
 (.seq
 (.ops [
 ⟨(some 134), none, .mov (.t 5)⟩,
 ⟨(some 135), none, .mov (.t 6)⟩,
 ⟨(some 136), none, .bin .mul .no (.t 134) (.t 135)⟩,
 ⟨(some 137), none, .call (.c (.fn (.func 34) [] [])) [(.t 136)]⟩,
 ⟨(some 133), none, .mov (.t 137)⟩,
 ⟨(some 138), none, .ext (.t 133) 0⟩,
 ⟨(some 139), none, .ext (.t 133) 1⟩,
 ⟨(some 17), none, .mov (.t 138)⟩,
 ⟨(some 18), none, .mov (.t 139)⟩] [17, 18])
 (.seq
 (.ops [
 ⟨(some 140), none, .mov (.t 13)⟩,
 ⟨(some 141), none, .mov (.t 13)⟩,
 ⟨(some 142), none, .bin .mul .no (.t 140) (.t 141)⟩,
 ⟨(some 143), none, .mov (.t 14)⟩,
 ⟨(some 144), none, .mov (.t 14)⟩,
 ⟨(some 145), none, .bin .mul .no (.t 143) (.t 144)⟩,
 ⟨(some 146), none, .bin .add .no (.t 142) (.t 145)⟩,
 ⟨(some 147), none, .mov (.t 15)⟩,
 ⟨(some 148), none, .mov (.t 15)⟩,
 ⟨(some 149), none, .bin .mul .no (.t 147) (.t 148)⟩,
 ⟨(some 150), none, .bin .add .no (.t 146) (.t 149)⟩,
 ⟨(some 151), none, .mov (.t 16)⟩,
 ⟨(some 152), none, .mov (.t 16)⟩,
 ⟨(some 153), none, .bin .mul .no (.t 151) (.t 152)⟩,
 ⟨(some 154), none, .bin .add .no (.t 150) (.t 153)⟩,
 ⟨(some 155), none, .mov (.t 5)⟩,
 ⟨(some 156), none, .mov (.t 6)⟩,
 ⟨(some 157), none, .bin .mul .no (.t 155) (.t 156)⟩,
 ⟨(some 158), none, .bin .eql .no (.t 154) (.t 157)⟩,
 ⟨(some 159), none, .mov (.t 158)⟩,
 ⟨(some 160), (some (159, true)), .mov (.t 18)⟩,
 ⟨(some 161), (some (159, true)), .bin .eql .no (.t 160) (.c (.int .i64 0))⟩,
 ⟨(some 162), none, .pick (.t 159) (.t 161) (.c (.bool false))⟩,
 ⟨(some 163), none, .mov (.t 162)⟩,
 ⟨(some 164), (some (163, true)), .mov (.t 17)⟩,
 ⟨(some 165), (some (163, true)), .mov (.t 5)⟩,
 ⟨(some 166), (some (163, true)), .mov (.t 6)⟩,
 ⟨(some 167), (some (163, true)), .bin .mul .no (.t 165) (.t 166)⟩,
 ⟨(some 168), (some (163, true)), .call (.c (.fn (.func 45) [] [])) [(.t 164), (.c (.int .i64 4)), (.t 167)]⟩,
 ⟨(some 169), none, .pick (.t 163) (.t 168) (.c (.bool false))⟩,
 ⟨(some 4), none, .mov (.t 169)⟩] [4])
 .ret)))))))))),
 [.tmp 4]⟩

theorem c15 : compF Try.prog 15 = some sf15 := by kernel_rfl
end Go.Proofs.Ytpobklkllfokdaa
