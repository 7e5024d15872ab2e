/- The law PatchBack, compiled. -/
import Derived.Test.YtpfkmdbdafpadaaDoorRows
import Derived.Test.YtpfkmdbdafpadaaDoorSA
import Derived.KernelRfl
set_option linter.unusedVariables false
set_option maxRecDepth 100000
namespace Go.Proofs.YtpfkmdbdafpadaaDoor
open Go Go.Abs
/-- bellpull/bellpulllaw06.PatchBack -/
noncomputable def sf5 : SFun := ⟨[0, 1, 2, 3, 5, 6, 7, 8, 9, 10, 11, 12, 13, 14, 15, 30, 105], 135,
 (.seq
 (.ops [
 ⟨(some 3), none, .box (.t 0)⟩,
 ⟨(some 5), none, .box (.t 2)⟩,
 ⟨(some 6), none, .mov (.c (.bool false))⟩] [3, 5, 6])
 (.seq
 (.ops [
 ⟨(some 17), none, .load (some 3) (.t 3)⟩,
 ⟨(some 18), none, .call (.c (.fn (.func 12) [] [])) [(.t 17)]⟩,
 ⟨(some 16), none, .mov (.t 18)⟩,
 ⟨(some 19), none, .ext (.t 16) 0⟩,
 ⟨(some 20), none, .ext (.t 16) 1⟩,
 ⟨(some 21), none, .ext (.t 16) 2⟩,
 ⟨(some 7), none, .mov (.t 19)⟩,
 ⟨(some 8), none, .mov (.t 20)⟩,
 ⟨(some 9), none, .mov (.t 21)⟩] [7, 8, 9])
 (.seq
 (.ops [
 ⟨(some 22), none, .buildS [(.int .i64 0), (.int .i64 0)] 0 2 []⟩,
 ⟨(some 10), none, .mov (.t 22)⟩] [10])
 (.seq
 (.seq
 (.ops [
 ⟨(some 11), none, .mov (.c (.int .i64 0))⟩] [11])
 (.block 0
 (.loop
 (.seq
 (.seq
 (.ops [
 ⟨(some 23), none, .mov (.t 11)⟩,
 ⟨(some 24), none, .mov (.t 1)⟩,
 ⟨(some 25), none, .lenS (.t 24)⟩,
 ⟨(some 26), none, .bin .lss .no (.t 23) (.t 25)⟩,
 ⟨(some 27), none, .mov (.t 26)⟩,
 ⟨(some 28), (some (27, true)), .mov (.t 11)⟩,
 ⟨(some 29), (some (27, true)), .bin .lss .no (.t 28) (.c (.int .i64 90))⟩,
 ⟨(some 30), none, .pick (.t 27) (.t 29) (.c (.bool false))⟩] [30])
 (.cond (.t 30)
 .skip
 (.exit 0)))
 (.seq
 (.block 1
 (.draw [
 ⟨⟨(some 33), none, .mov (.t 10)⟩, false, false⟩,
 ⟨⟨(some 34), none, .mov (.t 1)⟩, false, false⟩,
 ⟨⟨(some 35), none, .mov (.t 11)⟩, false, false⟩,
 ⟨⟨(some 36), none, .ixS 2 (.t 34) (.t 35)⟩, false, false⟩,
 ⟨⟨(some 37), none, .ixA 2 1 (.t 36) (.c (.int .i64 0))⟩, false, false⟩,
 ⟨⟨(some 38), none, .load none (.t 37)⟩, true, false⟩,
 ⟨⟨(some 39), none, .conv .i64 (.t 38)⟩, false, false⟩,
 ⟨⟨(some 40), none, .mov (.t 7)⟩, false, false⟩,
 ⟨⟨(some 41), none, .mov (.t 8)⟩, false, false⟩,
 ⟨⟨(some 42), none, .bin .mul .no (.t 40) (.t 41)⟩, false, false⟩,
 ⟨⟨(some 43), none, .bin .rem .no (.t 39) (.t 42)⟩, false, false⟩,
 ⟨⟨(some 44), none, .mov (.t 1)⟩, false, false⟩,
 ⟨⟨(some 45), none, .mov (.t 11)⟩, false, false⟩,
 ⟨⟨(some 46), none, .ixS 2 (.t 44) (.t 45)⟩, false, false⟩,
 ⟨⟨(some 47), none, .ixA 2 1 (.t 46) (.c (.int .i64 1))⟩, false, false⟩,
 ⟨⟨(some 48), none, .load none (.t 47)⟩, true, false⟩,
 ⟨⟨(some 49), none, .conv .i64 (.t 48)⟩, false, false⟩,
 ⟨⟨(some 50), none, .mov (.t 7)⟩, false, false⟩,
 ⟨⟨(some 51), none, .mov (.t 8)⟩, false, false⟩,
 ⟨⟨(some 52), none, .bin .mul .no (.t 50) (.t 51)⟩, false, false⟩,
 ⟨⟨(some 53), none, .bin .add .no (.t 52) (.c (.int .i64 1))⟩, false, false⟩,
 ⟨⟨(some 54), none, .bin .rem .no (.t 49) (.t 53)⟩, false, false⟩,
 ⟨⟨(some 55), none, .bin .sub .no (.t 54) (.c (.int .i64 1))⟩, false, false⟩,
 ⟨⟨(some 56), none, .build [(.int .i64 0), (.int .i64 0)] [(0, 1), (1, 1)] [(0, (.t 43)), (1, (.t 55))]⟩, false, false⟩,
 ⟨⟨(some 57), none, .buildS [(.int .i64 0), (.int .i64 0)] 1 2 [(0, (.t 56))]⟩, false, true⟩,
 ⟨⟨(some 58), none, .app true 2 (.t 33) (.t 57)⟩, false, true⟩,
 ⟨⟨(some 10), none, .mov (.t 58)⟩, false, false⟩] [0, 0, 0, 6, 14, 30, 62, 0, 0, 384, 1022, 0, 0, 6144, 14336, 30720, 63488, 0, 0, 393216, 917504, 2095104, 4192256, 8388606, 16777214, 33554431, 67108863] [10]))
 (.ops [
 ⟨(some 31), none, .mov (.t 11)⟩,
 ⟨(some 32), none, .bin .add .no (.t 31) (.c (.int .i64 1))⟩,
 ⟨(some 11), none, .mov (.t 32)⟩] [11]))))))
 (.seq
 (.draw [
 ⟨⟨(some 59), none, .ixA 2 1 (.t 5) (.c (.int .i64 0))⟩, false, false⟩,
 ⟨⟨(some 60), none, .load none (.t 59)⟩, true, false⟩,
 ⟨⟨(some 61), none, .conv .i64 (.t 60)⟩, false, false⟩,
 ⟨⟨(some 62), none, .mov (.t 7)⟩, false, false⟩,
 ⟨⟨(some 63), none, .mov (.t 8)⟩, false, false⟩,
 ⟨⟨(some 64), none, .bin .mul .no (.t 62) (.t 63)⟩, false, false⟩,
 ⟨⟨(some 65), none, .bin .rem .no (.t 61) (.t 64)⟩, false, false⟩,
 ⟨⟨(some 66), none, .ixA 2 1 (.t 5) (.c (.int .i64 1))⟩, false, false⟩,
 ⟨⟨(some 67), none, .load none (.t 66)⟩, true, false⟩,
 ⟨⟨(some 68), none, .conv .i64 (.t 67)⟩, false, false⟩,
 ⟨⟨(some 69), none, .mov (.t 7)⟩, false, false⟩,
 ⟨⟨(some 70), none, .mov (.t 8)⟩, false, false⟩,
 ⟨⟨(some 71), none, .bin .mul .no (.t 69) (.t 70)⟩, false, false⟩,
 ⟨⟨(some 72), none, .bin .rem .no (.t 68) (.t 71)⟩, false, false⟩,
 ⟨⟨(some 73), none, .build [(.int .i64 0), (.int .i64 0)] [(0, 1), (1, 1)] [(0, (.t 65)), (1, (.t 72))]⟩, false, false⟩,
 ⟨⟨(some 12), none, .new [(.int .i64 0), (.int .i64 0)]⟩, false, true⟩,
 ⟨⟨none, none, .store 2 (.t 12) (.t 73)⟩, false, true⟩] [0, 1, 3, 0, 0, 24, 63, 0, 128, 384, 0, 0, 3072, 8064, 16383, 0, 65535] [12])
 (.seq
 (.ops [
 ⟨(some 74), none, .mov (.t 10)⟩,
 ⟨(some 75), none, .load (some 2) (.t 12)⟩,
 ⟨(some 76), none, .fa 0 (.t 12)⟩,
 ⟨(some 77), none, .load none (.t 76)⟩,
 ⟨(some 78), none, .build [(.int .i64 0), (.int .i64 0)] [(0, 1), (1, 1)] [(0, (.t 77)), (1, (.c (.int .i64 (-1))))]⟩,
 ⟨(some 79), none, .load (some 2) (.t 12)⟩,
 ⟨(some 80), none, .buildS [(.int .i64 0), (.int .i64 0)] 3 2 [(0, (.t 75)), (1, (.t 78)), (2, (.t 79))]⟩,
 ⟨(some 81), none, .app true 2 (.t 74) (.t 80)⟩,
 ⟨(some 10), none, .mov (.t 81)⟩] [10])
 (.seq
 (.ops [
 ⟨(some 83), none, .mov (.t 7)⟩,
 ⟨(some 84), none, .mov (.t 8)⟩,
 ⟨(some 85), none, .mov (.t 9)⟩,
 ⟨(some 86), none, .mov (.t 10)⟩,
 ⟨(some 87), none, .call (.c (.fn (.func 6) [] [])) [(.t 83), (.t 84), (.t 85), (.t 86)]⟩,
 ⟨(some 82), none, .mov (.t 87)⟩,
 ⟨(some 88), none, .ext (.t 82) 0⟩,
 ⟨(some 89), none, .ext (.t 82) 1⟩,
 ⟨(some 13), none, .mov (.t 88)⟩,
 ⟨(some 14), none, .mov (.t 89)⟩] [13, 14])
 (.seq
 (.ops [
 ⟨(some 90), none, .mov (.t 10)⟩,
 ⟨(some 91), none, .lenS (.t 90)⟩,
 ⟨(some 92), none, .bin .sub .no (.t 91) (.c (.int .i64 3))⟩,
 ⟨(some 15), none, .mov (.t 92)⟩] [15])
 (.seq
 (.seq
 (.ops [
 ⟨(some 93), none, .mov (.t 14)⟩,
 ⟨(some 94), none, .bin .neq .no (.t 93) (.c (.int .i64 0))⟩,
 ⟨(some 95), none, .mov (.t 94)⟩,
 ⟨(some 96), (some (95, false)), .mov (.t 13)⟩,
 ⟨(some 97), (some (95, false)), .lenS (.t 96)⟩,
 ⟨(some 98), (some (95, false)), .mov (.t 10)⟩,
 ⟨(some 99), (some (95, false)), .lenS (.t 98)⟩,
 ⟨(some 100), (some (95, false)), .bin .neq .no (.t 97) (.t 99)⟩,
 ⟨(some 101), none, .pick (.t 95) (.c (.bool true)) (.t 100)⟩,
 ⟨(some 102), none, .mov (.t 101)⟩,
 ⟨(some 103), (some (102, false)), .call (.c (.fn (.func 9) [] [])) []⟩,
 ⟨(some 104), (some (102, false)), .not (.t 103)⟩,
 ⟨(some 105), none, .pick (.t 102) (.c (.bool true)) (.t 104)⟩] [105])
 (.cond (.t 105)
 (.seq
 (.ops [
 ⟨(some 6), none, .mov (.c (.bool false))⟩] [6])
 .ret)
 .skip))
 (.seq
 (.ops [
 ⟨(some 106), none, .mov (.t 13)⟩,
 ⟨(some 107), none, .mov (.t 15)⟩,
 ⟨(some 108), none, .ixS 1 (.t 106) (.t 107)⟩,
 ⟨(some 109), none, .load none (.t 108)⟩,
 ⟨(some 110), none, .bin .lss .no (.t 109) (.c (.int .i64 0))⟩,
 ⟨(some 111), none, .mov (.t 110)⟩,
 ⟨(some 112), (some (111, false)), .mov (.t 13)⟩,
 ⟨(some 113), (some (111, false)), .mov (.t 15)⟩,
 ⟨(some 114), (some (111, false)), .bin .add .no (.t 113) (.c (.int .i64 1))⟩,
 ⟨(some 115), (some (111, false)), .ixS 1 (.t 112) (.t 114)⟩,
 ⟨(some 116), (some (111, false)), .load none (.t 115)⟩,
 ⟨(some 117), (some (111, false)), .mov (.t 13)⟩,
 ⟨(some 118), (some (111, false)), .mov (.t 15)⟩,
 ⟨(some 119), (some (111, false)), .ixS 1 (.t 117) (.t 118)⟩,
 ⟨(some 120), (some (111, false)), .load none (.t 119)⟩,
 ⟨(some 121), (some (111, false)), .bin .eql .no (.t 116) (.t 120)⟩,
 ⟨(some 122), (some (111, false)), .mov (.t 121)⟩,
 ⟨(some 123), (some (122, true)), .mov (.t 13)⟩,
 ⟨(some 124), (some (122, true)), .mov (.t 15)⟩,
 ⟨(some 125), (some (122, true)), .bin .add .no (.t 124) (.c (.int .i64 2))⟩,
 ⟨(some 126), (some (122, true)), .ixS 1 (.t 123) (.t 125)⟩,
 ⟨(some 127), (some (122, true)), .load none (.t 126)⟩,
 ⟨(some 128), (some (122, true)), .mov (.t 13)⟩,
 ⟨(some 129), (some (122, true)), .mov (.t 15)⟩,
 ⟨(some 130), (some (122, true)), .ixS 1 (.t 128) (.t 129)⟩,
 ⟨(some 131), (some (122, true)), .load none (.t 130)⟩,
 ⟨(some 132), (some (122, true)), .bin .eql .no (.t 127) (.t 131)⟩,
 ⟨(some 133), (some (111, false)), .pick (.t 122) (.t 132) (.c (.bool false))⟩,
 ⟨(some 134), none, .pick (.t 111) (.c (.bool true)) (.t 133)⟩,
 ⟨(some 6), none, .mov (.t 134)⟩] [6])
 .ret)))))))))),
 [.tmp 6]⟩

theorem c5 : compF Tryd.prog 5 = some sf5 := by kernel_rfl
end Go.Proofs.YtpfkmdbdafpadaaDoor
