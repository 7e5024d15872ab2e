/- The law NormUnits, compiled. -/
import Derived.Test.YtpobklkllfokdaaRows
import Derived.Test.YtpobklkllfokdaaSE
import Derived.KernelRfl
set_option linter.unusedVariables false
set_option maxRecDepth 100000
namespace Go.Proofs.Ytpobklkllfokdaa
open Go Go.Abs
/-- bellpull/bellpulllaw04.NormUnits -/
noncomputable def sf12 : SFun := ⟨[0, 1, 4, 5, 6, 7, 8, 9, 10, 11, 12, 13, 14, 15, 23, 25, 59, 98], 146,
 (.seq
 (.ops [
 ⟨(some 4), none, .mov (.c (.bool false))⟩] [4])
 (.seq
 (.ops [
 ⟨(some 16), none, .call (.c (.fn (.func 44) [] [])) []⟩,
 ⟨(some 5), none, .mov (.t 16)⟩] [5])
 (.seq
 (.seq
 (.ops [
 ⟨(some 17), none, .mov (.t 5)⟩,
 ⟨(some 18), none, .lenS (.t 17)⟩,
 ⟨(some 19), none, .bin .neq .no (.t 18) (.c (.int .i64 24))⟩,
 ⟨(some 20), none, .mov (.t 19)⟩,
 ⟨(some 21), (some (20, false)), .call (.c (.fn (.func 23) [] [])) []⟩,
 ⟨(some 22), (some (20, false)), .not (.t 21)⟩,
 ⟨(some 23), none, .pick (.t 20) (.c (.bool true)) (.t 22)⟩] [23])
 (.cond (.t 23)
 (.seq
 (.ops [
 ⟨(some 4), none, .mov (.c (.bool false))⟩] [4])
 .ret)
 .skip))
 (.seq
 (.seq
 (.ops [
 ⟨(some 6), none, .mov (.c (.int .i64 0))⟩] [6])
 (.block 0
 (.loop
 (.seq
 (.seq
 (.ops [
 ⟨(some 24), none, .mov (.t 6)⟩,
 ⟨(some 25), none, .bin .lss .no (.t 24) (.c (.int .i64 24))⟩] [25])
 (.cond (.t 25)
 .skip
 (.exit 0)))
 (.seq
 (.block 1
 (.seq
 (.draw [
 ⟨⟨(some 28), none, .mov (.t 5)⟩, false, false⟩,
 ⟨⟨(some 29), none, .mov (.t 6)⟩, false, false⟩,
 ⟨⟨(some 30), none, .ixS 4 (.t 28) (.t 29)⟩, false, false⟩,
 ⟨⟨(some 31), none, .load (some 4) (.t 30)⟩, true, false⟩,
 ⟨⟨(some 32), none, .buildS [(.int .i64 0), (.int .i64 0), (.int .i64 0), (.int .i64 0)] 1 4 [(0, (.t 31))]⟩, false, true⟩,
 ⟨⟨(some 33), none, .call (.c (.fn (.func 20) [] [])) [(.t 32)]⟩, false, true⟩,
 ⟨⟨(some 34), none, .bin .neq .no (.t 33) (.c (.int .i64 0))⟩, false, false⟩,
 ⟨⟨(some 35), none, .mov (.t 34)⟩, false, false⟩,
 ⟨⟨(some 36), (some (35, false)), .mov (.t 5)⟩, false, false⟩,
 ⟨⟨(some 37), (some (35, false)), .mov (.t 6)⟩, false, false⟩,
 ⟨⟨(some 38), (some (35, false)), .ixS 4 (.t 36) (.t 37)⟩, false, false⟩,
 ⟨⟨(some 39), (some (35, false)), .load (some 4) (.t 38)⟩, true, false⟩,
 ⟨⟨(some 40), (some (35, false)), .call (.c (.fn (.func 22) [] [])) [(.t 39)]⟩, false, true⟩,
 ⟨⟨(some 41), (some (35, false)), .bin .neq .no (.t 40) (.c (.int .i64 1))⟩, false, false⟩,
 ⟨⟨(some 42), none, .pick (.t 35) (.c (.bool true)) (.t 41)⟩, false, false⟩,
 ⟨⟨(some 43), none, .mov (.t 42)⟩, false, false⟩,
 ⟨⟨(some 44), (some (43, false)), .mov (.t 6)⟩, false, false⟩,
 ⟨⟨(some 45), (some (43, false)), .bin .gtr .no (.t 44) (.c (.int .i64 0))⟩, false, false⟩,
 ⟨⟨(some 46), (some (43, false)), .mov (.t 45)⟩, false, false⟩,
 ⟨⟨(some 47), (some (46, true)), .mov (.t 5)⟩, false, false⟩,
 ⟨⟨(some 48), (some (46, true)), .mov (.t 6)⟩, false, false⟩,
 ⟨⟨(some 49), (some (46, true)), .bin .sub .no (.t 48) (.c (.int .i64 1))⟩, false, false⟩,
 ⟨⟨(some 50), (some (46, true)), .ixS 4 (.t 47) (.t 49)⟩, false, false⟩,
 ⟨⟨(some 51), (some (46, true)), .load (some 4) (.t 50)⟩, true, false⟩,
 ⟨⟨(some 52), (some (46, true)), .mov (.t 5)⟩, false, false⟩,
 ⟨⟨(some 53), (some (46, true)), .mov (.t 6)⟩, false, false⟩,
 ⟨⟨(some 54), (some (46, true)), .ixS 4 (.t 52) (.t 53)⟩, false, false⟩,
 ⟨⟨(some 55), (some (46, true)), .load (some 4) (.t 54)⟩, true, false⟩,
 ⟨⟨(some 56), (some (46, true)), .call (.c (.fn (.func 43) [] [])) [(.t 51), (.t 55)]⟩, false, true⟩,
 ⟨⟨(some 57), (some (46, true)), .not (.t 56)⟩, false, false⟩,
 ⟨⟨(some 58), (some (43, false)), .pick (.t 46) (.t 57) (.c (.bool false))⟩, false, false⟩,
 ⟨⟨(some 59), none, .pick (.t 43) (.c (.bool true)) (.t 58)⟩, false, false⟩] [0, 0, 3, 7, 15, 31, 63, 127, 255, 255, 1023, 2047, 4095, 8191, 16383, 32767, 65535, 131071, 262143, 524287, 524287, 1572863, 4194303, 8388607, 524287, 524287, 50855935, 117964799, 268435455, 536870911, 1073741823, 2147483647] [59])
 (.cond (.t 59)
 (.seq
 (.ops [
 ⟨(some 4), none, .mov (.c (.bool false))⟩] [4])
 .ret)
 .skip)))
 (.ops [
 ⟨(some 26), none, .mov (.t 6)⟩,
 ⟨(some 27), none, .bin .add .no (.t 26) (.c (.int .i64 1))⟩,
 ⟨(some 6), none, .mov (.t 27)⟩] [6]))))))
 (.seq
 (.draw [
 ⟨⟨(some 61), none, .mov (.t 5)⟩, false, false⟩,
 ⟨⟨(some 62), none, .mov (.t 0)⟩, false, false⟩,
 ⟨⟨(some 63), none, .conv .i64 (.t 62)⟩, false, false⟩,
 ⟨⟨(some 64), none, .bin .rem .no (.t 63) (.c (.int .i64 24))⟩, false, false⟩,
 ⟨⟨(some 65), none, .ixS 4 (.t 61) (.t 64)⟩, false, false⟩,
 ⟨⟨(some 66), none, .load (some 4) (.t 65)⟩, true, false⟩,
 ⟨⟨(some 67), none, .mov (.t 5)⟩, false, false⟩,
 ⟨⟨(some 68), none, .mov (.t 1)⟩, false, false⟩,
 ⟨⟨(some 69), none, .conv .i64 (.t 68)⟩, false, false⟩,
 ⟨⟨(some 70), none, .bin .rem .no (.t 69) (.c (.int .i64 24))⟩, false, false⟩,
 ⟨⟨(some 71), none, .ixS 4 (.t 67) (.t 70)⟩, false, false⟩,
 ⟨⟨(some 72), none, .load (some 4) (.t 71)⟩, true, false⟩,
 ⟨⟨(some 73), none, .call (.c (.fn (.func 17) [] [])) [(.t 66), (.t 72)]⟩, false, true⟩,
 ⟨⟨(some 60), none, .mov (.t 73)⟩, false, false⟩,
 ⟨⟨(some 74), none, .ext (.t 60) 0⟩, false, false⟩,
 ⟨⟨(some 75), none, .ext (.t 60) 1⟩, false, false⟩,
 ⟨⟨(some 7), none, .new [(.int .i64 0), (.int .i64 0), (.int .i64 0), (.int .i64 0)]⟩, false, true⟩,
 ⟨⟨none, none, .store 4 (.t 7) (.t 74)⟩, false, true⟩,
 ⟨⟨(some 8), none, .mov (.t 75)⟩, false, false⟩] [0, 0, 2, 6, 15, 31, 0, 0, 128, 384, 960, 1984, 4095, 8191, 16383, 16383, 0, 98303, 262143] [7, 8])
 (.seq
 (.ops [
 ⟨(some 77), none, .mov (.t 5)⟩,
 ⟨(some 78), none, .mov (.t 0)⟩,
 ⟨(some 79), none, .conv .i64 (.t 78)⟩,
 ⟨(some 80), none, .bin .rem .no (.t 79) (.c (.int .i64 24))⟩,
 ⟨(some 81), none, .ixS 4 (.t 77) (.t 80)⟩,
 ⟨(some 82), none, .load (some 4) (.t 81)⟩,
 ⟨(some 83), none, .call (.c (.fn (.func 18) [] [])) [(.t 82)]⟩,
 ⟨(some 76), none, .mov (.t 83)⟩,
 ⟨(some 84), none, .ext (.t 76) 0⟩,
 ⟨(some 85), none, .ext (.t 76) 1⟩,
 ⟨(some 9), none, .new [(.int .i64 0), (.int .i64 0), (.int .i64 0), (.int .i64 0)]⟩,
 ⟨none, none, .store 4 (.t 9) (.t 84)⟩,
 ⟨(some 10), none, .mov (.t 85)⟩] [9, 10])
 (.seq
 (.draw [
 ⟨⟨(some 87), none, .mov (.t 5)⟩, false, false⟩,
 ⟨⟨(some 88), none, .mov (.t 0)⟩, false, false⟩,
 ⟨⟨(some 89), none, .conv .i64 (.t 88)⟩, false, false⟩,
 ⟨⟨(some 90), none, .bin .rem .no (.t 89) (.c (.int .i64 24))⟩, false, false⟩,
 ⟨⟨(some 91), none, .ixS 4 (.t 87) (.t 90)⟩, false, false⟩,
 ⟨⟨(some 92), none, .load (some 4) (.t 91)⟩, true, false⟩,
 ⟨⟨(some 93), none, .load (some 4) (.t 9)⟩, true, false⟩,
 ⟨⟨(some 94), none, .call (.c (.fn (.func 17) [] [])) [(.t 92), (.t 93)]⟩, false, true⟩,
 ⟨⟨(some 86), none, .mov (.t 94)⟩, false, false⟩,
 ⟨⟨(some 95), none, .ext (.t 86) 0⟩, false, false⟩,
 ⟨⟨(some 96), none, .ext (.t 86) 1⟩, false, false⟩,
 ⟨⟨(some 11), none, .new [(.int .i64 0), (.int .i64 0), (.int .i64 0), (.int .i64 0)]⟩, false, true⟩,
 ⟨⟨none, none, .store 4 (.t 11) (.t 95)⟩, false, true⟩,
 ⟨⟨(some 12), none, .mov (.t 96)⟩, false, false⟩] [0, 0, 2, 6, 15, 31, 0, 127, 255, 511, 511, 0, 3071, 8191] [11, 12])
 (.seq
 (.ops [
 ⟨(some 13), none, .mov (.c (.bool false))⟩] [13])
 (.seq
 (.seq
 (.ops [
 ⟨(some 14), none, .mov (.c (.int .i64 0))⟩] [14])
 (.block 2
 (.loop
 (.seq
 (.seq
 (.ops [
 ⟨(some 97), none, .mov (.t 14)⟩,
 ⟨(some 98), none, .bin .lss .no (.t 97) (.c (.int .i64 24))⟩] [98])
 (.cond (.t 98)
 .skip
 (.exit 2)))
 (.seq
 (.block 3
 (.ops [
 ⟨(some 101), none, .mov (.t 13)⟩,
 ⟨(some 102), none, .mov (.t 101)⟩,
 ⟨(some 103), (some (102, false)), .mov (.t 5)⟩,
 ⟨(some 104), (some (102, false)), .mov (.t 14)⟩,
 ⟨(some 105), (some (102, false)), .ixS 4 (.t 103) (.t 104)⟩,
 ⟨(some 106), (some (102, false)), .load (some 4) (.t 105)⟩,
 ⟨(some 107), (some (102, false)), .load (some 4) (.t 7)⟩,
 ⟨(some 108), (some (102, false)), .bin .eql (.flat 4) (.t 106) (.t 107)⟩,
 ⟨(some 109), none, .pick (.t 102) (.c (.bool true)) (.t 108)⟩,
 ⟨(some 13), none, .mov (.t 109)⟩] [13]))
 (.ops [
 ⟨(some 99), none, .mov (.t 14)⟩,
 ⟨(some 100), none, .bin .add .no (.t 99) (.c (.int .i64 1))⟩,
 ⟨(some 14), none, .mov (.t 100)⟩] [14]))))))
 (.seq
 (.ops [
 ⟨(some 110), none, .mov (.t 5)⟩,
 ⟨(some 111), none, .build [(.int .i64 0), (.int .i64 0), (.int .i64 0), (.int .i64 0)] [(0, 1), (1, 1), (2, 1), (3, 1)] []⟩,
 ⟨(some 112), none, .ixS 4 (.t 110) (.c (.int .i64 0))⟩,
 ⟨none, none, .store 4 (.t 112) (.t 111)⟩] [])
 (.seq
 (.ops [
 ⟨(some 113), none, .call (.c (.fn (.func 44) [] [])) []⟩,
 ⟨(some 15), none, .mov (.t 113)⟩] [15])
 (.seq
 (.ops [
 ⟨(some 114), none, .mov (.t 8)⟩,
 ⟨(some 115), none, .bin .eql .no (.t 114) (.c (.int .i64 0))⟩,
 ⟨(some 116), none, .mov (.t 115)⟩,
 ⟨(some 117), (some (116, true)), .mov (.t 10)⟩,
 ⟨(some 118), (some (116, true)), .bin .eql .no (.t 117) (.c (.int .i64 0))⟩,
 ⟨(some 119), none, .pick (.t 116) (.t 118) (.c (.bool false))⟩,
 ⟨(some 120), none, .mov (.t 119)⟩,
 ⟨(some 121), (some (120, true)), .mov (.t 12)⟩,
 ⟨(some 122), (some (120, true)), .bin .eql .no (.t 121) (.c (.int .i64 0))⟩,
 ⟨(some 123), none, .pick (.t 120) (.t 122) (.c (.bool false))⟩,
 ⟨(some 124), none, .mov (.t 123)⟩,
 ⟨(some 125), (some (124, true)), .mov (.t 13)⟩,
 ⟨(some 126), none, .pick (.t 124) (.t 125) (.c (.bool false))⟩,
 ⟨(some 127), none, .mov (.t 126)⟩,
 ⟨(some 128), (some (127, true)), .load (some 4) (.t 11)⟩,
 ⟨(some 129), (some (127, true)), .build [(.int .i64 0), (.int .i64 0), (.int .i64 0), (.int .i64 0)] [(0, 1), (1, 1), (2, 1), (3, 1)] [(0, (.c (.int .i64 2)))]⟩,
 ⟨(some 130), (some (127, true)), .bin .eql (.flat 4) (.t 128) (.t 129)⟩,
 ⟨(some 131), none, .pick (.t 127) (.t 130) (.c (.bool false))⟩,
 ⟨(some 132), none, .mov (.t 131)⟩,
 ⟨(some 133), (some (132, true)), .mov (.t 15)⟩,
 ⟨(some 134), (some (132, true)), .lenS (.t 133)⟩,
 ⟨(some 135), (some (132, true)), .bin .eql .no (.t 134) (.c (.int .i64 24))⟩,
 ⟨(some 136), none, .pick (.t 132) (.t 135) (.c (.bool false))⟩,
 ⟨(some 137), none, .mov (.t 136)⟩,
 ⟨(some 138), (some (137, true)), .mov (.t 15)⟩,
 ⟨(some 139), (some (137, true)), .ixS 4 (.t 138) (.c (.int .i64 0))⟩,
 ⟨(some 140), (some (137, true)), .load (some 4) (.t 139)⟩,
 ⟨(some 141), (some (137, true)), .mov (.t 5)⟩,
 ⟨(some 142), (some (137, true)), .ixS 4 (.t 141) (.c (.int .i64 0))⟩,
 ⟨(some 143), (some (137, true)), .load (some 4) (.t 142)⟩,
 ⟨(some 144), (some (137, true)), .bin .neq (.flat 4) (.t 140) (.t 143)⟩,
 ⟨(some 145), none, .pick (.t 137) (.t 144) (.c (.bool false))⟩,
 ⟨(some 4), none, .mov (.t 145)⟩] [4])
 .ret)))))))))))),
 [.tmp 4]⟩

theorem c12 : compF Try.prog 12 = some sf12 := by kernel_rfl
end Go.Proofs.Ytpobklkllfokdaa
