/- The law NormDivisor, compiled. -/
import Derived.Test.YtpobklkllfokdaaRows
import Derived.Test.YtpobklkllfokdaaSE
import Derived.KernelRfl
set_option linter.unusedVariables false
set_option maxRecDepth 100000
namespace Go.Proofs.Ytpobklkllfokdaa
open Go Go.Abs
/-- bellpull/bellpulllaw04.NormDivisor -/
noncomputable def sf11 : SFun := ⟨[0, 1, 2, 3, 4, 5, 6, 7, 8, 9, 10, 11, 13, 14, 15, 16, 17, 37, 84, 87], 114,
 (.seq
 (.ops [
 ⟨(some 3), none, .box (.t 0)⟩,
 ⟨(some 4), none, .box (.t 1)⟩,
 ⟨(some 5), none, .box (.t 2)⟩,
 ⟨(some 6), none, .mov (.c (.bool false))⟩] [3, 4, 5, 6])
 (.seq
 (.draw [
 ⟨⟨(some 18), none, .load (some 4) (.t 3)⟩, true, false⟩,
 ⟨⟨(some 19), none, .call (.c (.fn (.func 41) [] [])) [(.t 18), (.c (.int .i64 15))]⟩, false, true⟩,
 ⟨⟨(some 20), none, .load (some 4) (.t 4)⟩, true, false⟩,
 ⟨⟨(some 21), none, .call (.c (.fn (.func 41) [] [])) [(.t 20), (.c (.int .i64 15))]⟩, false, true⟩,
 ⟨⟨(some 22), none, .load (some 4) (.t 5)⟩, true, false⟩,
 ⟨⟨(some 23), none, .call (.c (.fn (.func 41) [] [])) [(.t 22), (.c (.int .i64 15))]⟩, false, true⟩,
 ⟨⟨(some 7), none, .new [(.int .i64 0), (.int .i64 0), (.int .i64 0), (.int .i64 0)]⟩, false, true⟩,
 ⟨⟨(some 8), none, .new [(.int .i64 0), (.int .i64 0), (.int .i64 0), (.int .i64 0)]⟩, false, true⟩,
 ⟨⟨(some 9), none, .new [(.int .i64 0), (.int .i64 0), (.int .i64 0), (.int .i64 0)]⟩, false, true⟩,
 ⟨⟨none, none, .store 4 (.t 7) (.t 19)⟩, false, true⟩,
 ⟨⟨none, none, .store 4 (.t 8) (.t 21)⟩, false, true⟩,
 ⟨⟨none, none, .store 4 (.t 9) (.t 23)⟩, false, true⟩] [0, 1, 0, 7, 0, 31, 0, 0, 0, 511, 1023, 2047] [7, 8, 9])
 (.seq
 (.draw [
 ⟨⟨(some 24), none, .load (some 4) (.t 7)⟩, true, false⟩,
 ⟨⟨(some 25), none, .load (some 4) (.t 9)⟩, true, false⟩,
 ⟨⟨(some 26), none, .call (.c (.fn (.func 24) [] [])) [(.t 24), (.t 25)]⟩, false, true⟩,
 ⟨⟨(some 27), none, .load (some 4) (.t 8)⟩, true, false⟩,
 ⟨⟨(some 28), none, .load (some 4) (.t 9)⟩, true, false⟩,
 ⟨⟨(some 29), none, .call (.c (.fn (.func 24) [] [])) [(.t 27), (.t 28)]⟩, false, true⟩,
 ⟨⟨(some 10), none, .new [(.int .i64 0), (.int .i64 0), (.int .i64 0), (.int .i64 0)]⟩, false, true⟩,
 ⟨⟨(some 11), none, .new [(.int .i64 0), (.int .i64 0), (.int .i64 0), (.int .i64 0)]⟩, false, true⟩,
 ⟨⟨none, none, .store 4 (.t 10) (.t 26)⟩, false, true⟩,
 ⟨⟨none, none, .store 4 (.t 11) (.t 29)⟩, false, true⟩] [0, 0, 3, 0, 0, 31, 0, 0, 255, 511] [10, 11])
 (.seq
 (.seq
 (.ops [
 ⟨(some 30), none, .load (some 4) (.t 10)⟩,
 ⟨(some 31), none, .build [(.int .i64 0), (.int .i64 0), (.int .i64 0), (.int .i64 0)] [(0, 1), (1, 1), (2, 1), (3, 1)] []⟩,
 ⟨(some 32), none, .bin .eql (.flat 4) (.t 30) (.t 31)⟩,
 ⟨(some 33), none, .mov (.t 32)⟩,
 ⟨(some 34), (some (33, true)), .load (some 4) (.t 11)⟩,
 ⟨(some 35), (some (33, true)), .build [(.int .i64 0), (.int .i64 0), (.int .i64 0), (.int .i64 0)] [(0, 1), (1, 1), (2, 1), (3, 1)] []⟩,
 ⟨(some 36), (some (33, true)), .bin .eql (.flat 4) (.t 34) (.t 35)⟩,
 ⟨(some 37), none, .pick (.t 33) (.t 36) (.c (.bool false))⟩] [37])
 (.cond (.t 37)
 (.seq
 (.ops [
 ⟨(some 39), none, .load (some 4) (.t 10)⟩,
 ⟨(some 40), none, .load (some 4) (.t 11)⟩,
 ⟨(some 41), none, .call (.c (.fn (.func 27) [] [])) [(.t 39), (.t 40)]⟩,
 ⟨(some 38), none, .mov (.t 41)⟩,
 ⟨(some 42), none, .ext (.t 38) 0⟩,
 ⟨(some 43), none, .ext (.t 38) 1⟩,
 ⟨(some 12), none, .new [(.int .i64 0), (.int .i64 0), (.int .i64 0), (.int .i64 0)]⟩,
 ⟨none, none, .store 4 (.t 12) (.t 42)⟩,
 ⟨(some 13), none, .mov (.t 43)⟩] [13])
 (.seq
 (.ops [
 ⟨(some 44), none, .mov (.t 13)⟩,
 ⟨(some 45), none, .bin .eql .no (.t 44) (.c (.int .i64 5))⟩,
 ⟨(some 46), none, .mov (.t 45)⟩,
 ⟨(some 47), (some (46, true)), .call (.c (.fn (.func 23) [] [])) []⟩,
 ⟨(some 48), none, .pick (.t 46) (.t 47) (.c (.bool false))⟩,
 ⟨(some 6), none, .mov (.t 48)⟩] [6])
 .ret))
 .skip))
 (.seq
 (.ops [
 ⟨(some 50), none, .load (some 4) (.t 10)⟩,
 ⟨(some 51), none, .load (some 4) (.t 11)⟩,
 ⟨(some 52), none, .call (.c (.fn (.func 27) [] [])) [(.t 50), (.t 51)]⟩,
 ⟨(some 49), none, .mov (.t 52)⟩,
 ⟨(some 53), none, .ext (.t 49) 0⟩,
 ⟨(some 54), none, .ext (.t 49) 1⟩,
 ⟨(some 14), none, .new [(.int .i64 0), (.int .i64 0), (.int .i64 0), (.int .i64 0)]⟩,
 ⟨none, none, .store 4 (.t 14) (.t 53)⟩,
 ⟨(some 15), none, .mov (.t 54)⟩] [14, 15])
 (.seq
 (.seq
 (.ops [
 ⟨(some 55), none, .mov (.t 15)⟩,
 ⟨(some 56), none, .bin .neq .no (.t 55) (.c (.int .i64 0))⟩,
 ⟨(some 57), none, .mov (.t 56)⟩,
 ⟨(some 58), (some (57, false)), .load (some 4) (.t 14)⟩,
 ⟨(some 59), (some (57, false)), .buildS [(.int .i64 0), (.int .i64 0), (.int .i64 0), (.int .i64 0)] 1 4 [(0, (.t 58))]⟩,
 ⟨(some 60), (some (57, false)), .call (.c (.fn (.func 20) [] [])) [(.t 59)]⟩,
 ⟨(some 61), (some (57, false)), .bin .neq .no (.t 60) (.c (.int .i64 0))⟩,
 ⟨(some 62), none, .pick (.t 57) (.c (.bool true)) (.t 61)⟩,
 ⟨(some 63), none, .mov (.t 62)⟩,
 ⟨(some 64), (some (63, false)), .load (some 4) (.t 14)⟩,
 ⟨(some 65), (some (63, false)), .load (some 4) (.t 10)⟩,
 ⟨(some 66), (some (63, false)), .call (.c (.fn (.func 42) [] [])) [(.t 64), (.t 65)]⟩,
 ⟨(some 67), (some (63, false)), .not (.t 66)⟩,
 ⟨(some 68), none, .pick (.t 63) (.c (.bool true)) (.t 67)⟩,
 ⟨(some 69), none, .mov (.t 68)⟩,
 ⟨(some 70), (some (69, false)), .load (some 4) (.t 14)⟩,
 ⟨(some 71), (some (69, false)), .load (some 4) (.t 11)⟩,
 ⟨(some 72), (some (69, false)), .call (.c (.fn (.func 42) [] [])) [(.t 70), (.t 71)]⟩,
 ⟨(some 73), (some (69, false)), .not (.t 72)⟩,
 ⟨(some 74), none, .pick (.t 69) (.c (.bool true)) (.t 73)⟩,
 ⟨(some 75), none, .mov (.t 74)⟩,
 ⟨(some 76), (some (75, false)), .load (some 4) (.t 9)⟩,
 ⟨(some 77), (some (75, false)), .load (some 4) (.t 14)⟩,
 ⟨(some 78), (some (75, false)), .call (.c (.fn (.func 42) [] [])) [(.t 76), (.t 77)]⟩,
 ⟨(some 79), (some (75, false)), .not (.t 78)⟩,
 ⟨(some 80), none, .pick (.t 75) (.c (.bool true)) (.t 79)⟩,
 ⟨(some 81), none, .mov (.t 80)⟩,
 ⟨(some 82), (some (81, false)), .call (.c (.fn (.func 23) [] [])) []⟩,
 ⟨(some 83), (some (81, false)), .not (.t 82)⟩,
 ⟨(some 84), none, .pick (.t 81) (.c (.bool true)) (.t 83)⟩] [84])
 (.cond (.t 84)
 (.seq
 (.ops [
 ⟨(some 6), none, .mov (.c (.bool false))⟩] [6])
 .ret)
 .skip))
 (.seq
 (.seq
 (.ops [
 ⟨(some 85), none, .load (some 4) (.t 10)⟩,
 ⟨(some 86), none, .build [(.int .i64 0), (.int .i64 0), (.int .i64 0), (.int .i64 0)] [(0, 1), (1, 1), (2, 1), (3, 1)] []⟩,
 ⟨(some 87), none, .bin .eql (.flat 4) (.t 85) (.t 86)⟩] [87])
 (.cond (.t 87)
 (.seq
 (.ops [
 ⟨(some 6), none, .mov (.c (.bool true))⟩] [6])
 .ret)
 .skip))
 (.seq
 (.ops [
 ⟨(some 89), none, .load (some 4) (.t 10)⟩,
 ⟨(some 90), none, .build [(.int .i64 0), (.int .i64 0), (.int .i64 0), (.int .i64 0)] [(0, 1), (1, 1), (2, 1), (3, 1)] []⟩,
 ⟨(some 91), none, .call (.c (.fn (.func 27) [] [])) [(.t 89), (.t 90)]⟩,
 ⟨(some 88), none, .mov (.t 91)⟩,
 ⟨(some 92), none, .ext (.t 88) 0⟩,
 ⟨(some 93), none, .ext (.t 88) 1⟩,
 ⟨(some 16), none, .new [(.int .i64 0), (.int .i64 0), (.int .i64 0), (.int .i64 0)]⟩,
 ⟨none, none, .store 4 (.t 16) (.t 92)⟩,
 ⟨(some 17), none, .mov (.t 93)⟩] [16, 17])
 (.seq
 (.draw [
 ⟨⟨(some 94), none, .mov (.t 17)⟩, false, false⟩,
 ⟨⟨(some 95), none, .bin .eql .no (.t 94) (.c (.int .i64 0))⟩, false, false⟩,
 ⟨⟨(some 96), none, .mov (.t 95)⟩, false, false⟩,
 ⟨⟨(some 97), (some (96, true)), .load (some 4) (.t 16)⟩, true, false⟩,
 ⟨⟨(some 98), (some (96, true)), .call (.c (.fn (.func 22) [] [])) [(.t 97)]⟩, false, true⟩,
 ⟨⟨(some 99), (some (96, true)), .load (some 4) (.t 10)⟩, true, false⟩,
 ⟨⟨(some 100), (some (96, true)), .call (.c (.fn (.func 22) [] [])) [(.t 99)]⟩, false, true⟩,
 ⟨⟨(some 101), (some (96, true)), .bin .eql .no (.t 98) (.t 100)⟩, false, false⟩,
 ⟨⟨(some 102), none, .pick (.t 96) (.t 101) (.c (.bool false))⟩, false, false⟩,
 ⟨⟨(some 103), none, .mov (.t 102)⟩, false, false⟩,
 ⟨⟨(some 104), (some (103, true)), .load (some 4) (.t 16)⟩, true, false⟩,
 ⟨⟨(some 105), (some (103, true)), .load (some 4) (.t 10)⟩, true, false⟩,
 ⟨⟨(some 106), (some (103, true)), .call (.c (.fn (.func 42) [] [])) [(.t 104), (.t 105)]⟩, false, true⟩,
 ⟨⟨(some 107), none, .pick (.t 103) (.t 106) (.c (.bool false))⟩, false, false⟩,
 ⟨⟨(some 108), none, .mov (.t 107)⟩, false, false⟩,
 ⟨⟨(some 109), (some (108, true)), .load (some 4) (.t 16)⟩, true, false⟩,
 ⟨⟨(some 110), (some (108, true)), .load (some 4) (.t 10)⟩, true, false⟩,
 ⟨⟨(some 111), (some (108, true)), .call (.c (.fn (.func 43) [] [])) [(.t 109), (.t 110)]⟩, false, true⟩,
 ⟨⟨(some 112), (some (108, true)), .not (.t 111)⟩, false, false⟩,
 ⟨⟨(some 113), none, .pick (.t 108) (.t 112) (.c (.bool false))⟩, false, false⟩,
 ⟨⟨(some 6), none, .mov (.t 113)⟩, false, false⟩] [0, 1, 3, 7, 15, 7, 63, 127, 255, 511, 1023, 1023, 4095, 8191, 16383, 32767, 32767, 131071, 262143, 524287, 1048575] [6])
 .ret))))))))),
 [.tmp 6]⟩

theorem c11 : compF Try.prog 11 = some sf11 := by kernel_rfl
end Go.Proofs.Ytpobklkllfokdaa
