/- The law NormMultiplied, compiled. -/
import Derived.Test.YtpobklkllfokdaaRows
import Derived.Test.YtpobklkllfokdaaSE
import Derived.KernelRfl
set_option linter.unusedVariables false
set_option maxRecDepth 100000
namespace Go.Proofs.Ytpobklkllfokdaa
open Go Go.Abs
/-- bellpull/bellpulllaw04.NormMultiplied -/
noncomputable def sf9 : SFun := ⟨[0, 1, 2, 3, 4, 5, 6, 7, 8, 9, 10, 11, 12, 13, 14, 15, 16, 17, 18, 19, 20, 21, 22, 23, 24], 133,
 (.seq
 (.ops [
 ⟨(some 2), none, .box (.t 0)⟩,
 ⟨(some 3), none, .box (.t 1)⟩,
 ⟨(some 4), none, .mov (.c (.bool false))⟩] [2, 3, 4])
 (.seq
 (.draw [
 ⟨⟨(some 25), none, .load (some 4) (.t 2)⟩, true, false⟩,
 ⟨⟨(some 26), none, .call (.c (.fn (.func 41) [] [])) [(.t 25), (.c (.int .i64 21))]⟩, false, true⟩,
 ⟨⟨(some 27), none, .load (some 4) (.t 3)⟩, true, false⟩,
 ⟨⟨(some 28), none, .call (.c (.fn (.func 41) [] [])) [(.t 27), (.c (.int .i64 21))]⟩, false, true⟩,
 ⟨⟨(some 5), none, .new [(.int .i64 0), (.int .i64 0), (.int .i64 0), (.int .i64 0)]⟩, false, true⟩,
 ⟨⟨(some 6), none, .new [(.int .i64 0), (.int .i64 0), (.int .i64 0), (.int .i64 0)]⟩, false, true⟩,
 ⟨⟨none, none, .store 4 (.t 5) (.t 26)⟩, false, true⟩,
 ⟨⟨none, none, .store 4 (.t 6) (.t 28)⟩, false, true⟩] [0, 1, 0, 7, 0, 0, 63, 127] [5, 6])
 (.seq
 (.ops [
 ⟨(some 30), none, .load (some 4) (.t 5)⟩,
 ⟨(some 31), none, .load (some 4) (.t 6)⟩,
 ⟨(some 32), none, .call (.c (.fn (.func 17) [] [])) [(.t 30), (.t 31)]⟩,
 ⟨(some 29), none, .mov (.t 32)⟩,
 ⟨(some 33), none, .ext (.t 29) 0⟩,
 ⟨(some 34), none, .ext (.t 29) 1⟩,
 ⟨(some 7), none, .new [(.int .i64 0), (.int .i64 0), (.int .i64 0), (.int .i64 0)]⟩,
 ⟨none, none, .store 4 (.t 7) (.t 33)⟩,
 ⟨(some 8), none, .mov (.t 34)⟩] [7, 8])
 (.seq
 (.ops [
 ⟨(some 36), none, .load (some 4) (.t 7)⟩,
 ⟨(some 37), none, .call (.c (.fn (.func 19) [] [])) [(.t 36)]⟩,
 ⟨(some 35), none, .mov (.t 37)⟩,
 ⟨(some 38), none, .ext (.t 35) 0⟩,
 ⟨(some 39), none, .ext (.t 35) 1⟩,
 ⟨(some 9), none, .mov (.t 38)⟩,
 ⟨(some 10), none, .mov (.t 39)⟩] [9, 10])
 (.seq
 (.ops [
 ⟨(some 41), none, .load (some 4) (.t 7)⟩,
 ⟨(some 42), none, .call (.c (.fn (.func 18) [] [])) [(.t 41)]⟩,
 ⟨(some 40), none, .mov (.t 42)⟩,
 ⟨(some 43), none, .ext (.t 40) 0⟩,
 ⟨(some 44), none, .ext (.t 40) 1⟩,
 ⟨(some 11), none, .new [(.int .i64 0), (.int .i64 0), (.int .i64 0), (.int .i64 0)]⟩,
 ⟨none, none, .store 4 (.t 11) (.t 43)⟩,
 ⟨(some 12), none, .mov (.t 44)⟩] [11, 12])
 (.seq
 (.ops [
 ⟨(some 46), none, .load (some 4) (.t 5)⟩,
 ⟨(some 47), none, .call (.c (.fn (.func 18) [] [])) [(.t 46)]⟩,
 ⟨(some 45), none, .mov (.t 47)⟩,
 ⟨(some 48), none, .ext (.t 45) 0⟩,
 ⟨(some 49), none, .ext (.t 45) 1⟩,
 ⟨(some 13), none, .new [(.int .i64 0), (.int .i64 0), (.int .i64 0), (.int .i64 0)]⟩,
 ⟨none, none, .store 4 (.t 13) (.t 48)⟩,
 ⟨(some 14), none, .mov (.t 49)⟩] [13, 14])
 (.seq
 (.ops [
 ⟨(some 51), none, .load (some 4) (.t 6)⟩,
 ⟨(some 52), none, .call (.c (.fn (.func 18) [] [])) [(.t 51)]⟩,
 ⟨(some 50), none, .mov (.t 52)⟩,
 ⟨(some 53), none, .ext (.t 50) 0⟩,
 ⟨(some 54), none, .ext (.t 50) 1⟩,
 ⟨(some 15), none, .new [(.int .i64 0), (.int .i64 0), (.int .i64 0), (.int .i64 0)]⟩,
 ⟨none, none, .store 4 (.t 15) (.t 53)⟩,
 ⟨(some 16), none, .mov (.t 54)⟩] [15, 16])
 (.seq
 (.ops [
 ⟨(some 56), none, .load (some 4) (.t 15)⟩,
 ⟨(some 57), none, .load (some 4) (.t 13)⟩,
 ⟨(some 58), none, .call (.c (.fn (.func 17) [] [])) [(.t 56), (.t 57)]⟩,
 ⟨(some 55), none, .mov (.t 58)⟩,
 ⟨(some 59), none, .ext (.t 55) 0⟩,
 ⟨(some 60), none, .ext (.t 55) 1⟩,
 ⟨(some 17), none, .new [(.int .i64 0), (.int .i64 0), (.int .i64 0), (.int .i64 0)]⟩,
 ⟨none, none, .store 4 (.t 17) (.t 59)⟩,
 ⟨(some 18), none, .mov (.t 60)⟩] [17, 18])
 (.seq
 (.ops [
 ⟨(some 62), none, .load (some 4) (.t 5)⟩,
 ⟨(some 63), none, .load (some 4) (.t 13)⟩,
 ⟨(some 64), none, .call (.c (.fn (.func 17) [] [])) [(.t 62), (.t 63)]⟩,
 ⟨(some 61), none, .mov (.t 64)⟩,
 ⟨(some 65), none, .ext (.t 61) 0⟩,
 ⟨(some 66), none, .ext (.t 61) 1⟩,
 ⟨(some 19), none, .new [(.int .i64 0), (.int .i64 0), (.int .i64 0), (.int .i64 0)]⟩,
 ⟨none, none, .store 4 (.t 19) (.t 65)⟩,
 ⟨(some 20), none, .mov (.t 66)⟩] [19, 20])
 (.seq
 (.ops [
 ⟨(some 68), none, .load (some 4) (.t 5)⟩,
 ⟨(some 69), none, .call (.c (.fn (.func 19) [] [])) [(.t 68)]⟩,
 ⟨(some 67), none, .mov (.t 69)⟩,
 ⟨(some 70), none, .ext (.t 67) 0⟩,
 ⟨(some 71), none, .ext (.t 67) 1⟩,
 ⟨(some 21), none, .mov (.t 70)⟩,
 ⟨(some 22), none, .mov (.t 71)⟩] [21, 22])
 (.seq
 (.ops [
 ⟨(some 73), none, .load (some 4) (.t 6)⟩,
 ⟨(some 74), none, .call (.c (.fn (.func 19) [] [])) [(.t 73)]⟩,
 ⟨(some 72), none, .mov (.t 74)⟩,
 ⟨(some 75), none, .ext (.t 72) 0⟩,
 ⟨(some 76), none, .ext (.t 72) 1⟩,
 ⟨(some 23), none, .mov (.t 75)⟩,
 ⟨(some 24), none, .mov (.t 76)⟩] [23, 24])
 (.seq
 (.ops [
 ⟨(some 77), none, .mov (.t 8)⟩,
 ⟨(some 78), none, .bin .eql .no (.t 77) (.c (.int .i64 0))⟩,
 ⟨(some 79), none, .mov (.t 78)⟩,
 ⟨(some 80), (some (79, true)), .mov (.t 10)⟩,
 ⟨(some 81), (some (79, true)), .bin .eql .no (.t 80) (.c (.int .i64 0))⟩,
 ⟨(some 82), none, .pick (.t 79) (.t 81) (.c (.bool false))⟩,
 ⟨(some 83), none, .mov (.t 82)⟩,
 ⟨(some 84), (some (83, true)), .mov (.t 12)⟩,
 ⟨(some 85), (some (83, true)), .bin .eql .no (.t 84) (.c (.int .i64 0))⟩,
 ⟨(some 86), none, .pick (.t 83) (.t 85) (.c (.bool false))⟩,
 ⟨(some 87), none, .mov (.t 86)⟩,
 ⟨(some 88), (some (87, true)), .mov (.t 14)⟩,
 ⟨(some 89), (some (87, true)), .bin .eql .no (.t 88) (.c (.int .i64 0))⟩,
 ⟨(some 90), none, .pick (.t 87) (.t 89) (.c (.bool false))⟩,
 ⟨(some 91), none, .mov (.t 90)⟩,
 ⟨(some 92), (some (91, true)), .mov (.t 16)⟩,
 ⟨(some 93), (some (91, true)), .bin .eql .no (.t 92) (.c (.int .i64 0))⟩,
 ⟨(some 94), none, .pick (.t 91) (.t 93) (.c (.bool false))⟩,
 ⟨(some 95), none, .mov (.t 94)⟩,
 ⟨(some 96), (some (95, true)), .mov (.t 18)⟩,
 ⟨(some 97), (some (95, true)), .bin .eql .no (.t 96) (.c (.int .i64 0))⟩,
 ⟨(some 98), none, .pick (.t 95) (.t 97) (.c (.bool false))⟩,
 ⟨(some 99), none, .mov (.t 98)⟩,
 ⟨(some 100), (some (99, true)), .mov (.t 20)⟩,
 ⟨(some 101), (some (99, true)), .bin .eql .no (.t 100) (.c (.int .i64 0))⟩,
 ⟨(some 102), none, .pick (.t 99) (.t 101) (.c (.bool false))⟩,
 ⟨(some 103), none, .mov (.t 102)⟩,
 ⟨(some 104), (some (103, true)), .mov (.t 22)⟩,
 ⟨(some 105), (some (103, true)), .bin .eql .no (.t 104) (.c (.int .i64 0))⟩,
 ⟨(some 106), none, .pick (.t 103) (.t 105) (.c (.bool false))⟩,
 ⟨(some 107), none, .mov (.t 106)⟩,
 ⟨(some 108), (some (107, true)), .mov (.t 24)⟩,
 ⟨(some 109), (some (107, true)), .bin .eql .no (.t 108) (.c (.int .i64 0))⟩,
 ⟨(some 110), none, .pick (.t 107) (.t 109) (.c (.bool false))⟩,
 ⟨(some 111), none, .mov (.t 110)⟩,
 ⟨(some 112), (some (111, true)), .mov (.t 9)⟩,
 ⟨(some 113), (some (111, true)), .mov (.t 21)⟩,
 ⟨(some 114), (some (111, true)), .mov (.t 23)⟩,
 ⟨(some 115), (some (111, true)), .bin .mul .no (.t 113) (.t 114)⟩,
 ⟨(some 116), (some (111, true)), .bin .eql .no (.t 112) (.t 115)⟩,
 ⟨(some 117), none, .pick (.t 111) (.t 116) (.c (.bool false))⟩,
 ⟨(some 118), none, .mov (.t 117)⟩,
 ⟨(some 119), (some (118, true)), .load (some 4) (.t 11)⟩,
 ⟨(some 120), (some (118, true)), .load (some 4) (.t 17)⟩,
 ⟨(some 121), (some (118, true)), .bin .eql (.flat 4) (.t 119) (.t 120)⟩,
 ⟨(some 122), none, .pick (.t 118) (.t 121) (.c (.bool false))⟩,
 ⟨(some 123), none, .mov (.t 122)⟩,
 ⟨(some 124), (some (123, true)), .load (some 4) (.t 19)⟩,
 ⟨(some 125), (some (123, true)), .mov (.t 21)⟩,
 ⟨(some 126), (some (123, true)), .bin .mul .no (.c (.int .i64 2)) (.t 125)⟩,
 ⟨(some 127), (some (123, true)), .build [(.int .i64 0), (.int .i64 0), (.int .i64 0), (.int .i64 0)] [(0, 1), (1, 1), (2, 1), (3, 1)] [(0, (.t 126))]⟩,
 ⟨(some 128), (some (123, true)), .bin .eql (.flat 4) (.t 124) (.t 127)⟩,
 ⟨(some 129), none, .pick (.t 123) (.t 128) (.c (.bool false))⟩,
 ⟨(some 130), none, .mov (.t 129)⟩,
 ⟨(some 131), (some (130, true)), .call (.c (.fn (.func 23) [] [])) []⟩,
 ⟨(some 132), none, .pick (.t 130) (.t 131) (.c (.bool false))⟩,
 ⟨(some 4), none, .mov (.t 132)⟩] [4])
 .ret)))))))))))),
 [.tmp 4]⟩

theorem c9 : compF Try.prog 9 = some sf9 := by kernel_rfl
end Go.Proofs.Ytpobklkllfokdaa
