/- The law NormSplit, compiled. -/
import Derived.Test.YtpobklkllfokdaaRows
import Derived.Test.YtpobklkllfokdaaSE
import Derived.KernelRfl
set_option linter.unusedVariables false
set_option maxRecDepth 100000
namespace Go.Proofs.Ytpobklkllfokdaa
open Go Go.Abs
/-- bellpull/bellpulllaw04.NormSplit -/
noncomputable def sf16 : SFun := ⟨[0, 2, 3, 4, 5, 6, 7, 8, 9, 10, 11, 12, 13, 24], 114,
 (.seq
 (.ops [
 ⟨(some 2), none, .mov (.c (.bool false))⟩] [2])
 (.seq
 (.ops [
 ⟨(some 14), none, .mov (.t 0)⟩,
 ⟨(some 15), none, .conv .i64 (.t 14)⟩,
 ⟨(some 16), none, .bin .rem .no (.t 15) (.c (.int .i64 9999))⟩,
 ⟨(some 17), none, .bin .add .no (.t 16) (.c (.int .i64 2))⟩,
 ⟨(some 3), none, .mov (.t 17)⟩] [3])
 (.seq
 (.ops [
 ⟨(some 19), none, .mov (.t 3)⟩,
 ⟨(some 20), none, .call (.c (.fn (.func 31) [] [])) [(.t 19)]⟩,
 ⟨(some 18), none, .mov (.t 20)⟩,
 ⟨(some 21), none, .ext (.t 18) 0⟩,
 ⟨(some 22), none, .ext (.t 18) 1⟩,
 ⟨(some 4), none, .new [(.int .i64 0), (.int .i64 0), (.int .i64 0), (.int .i64 0)]⟩,
 ⟨none, none, .store 4 (.t 4) (.t 21)⟩,
 ⟨(some 5), none, .mov (.t 22)⟩] [4, 5])
 (.seq
 (.seq
 (.ops [
 ⟨(some 23), none, .mov (.t 5)⟩,
 ⟨(some 24), none, .bin .neq .no (.t 23) (.c (.int .i64 0))⟩] [24])
 (.cond (.t 24)
 (.seq
 (.ops [
 ⟨(some 25), none, .mov (.t 5)⟩,
 ⟨(some 26), none, .bin .eql .no (.t 25) (.c (.int .i64 1))⟩,
 ⟨(some 27), none, .mov (.t 26)⟩,
 ⟨(some 28), (some (27, true)), .mov (.t 3)⟩,
 ⟨(some 29), (some (27, true)), .call (.c (.fn (.func 30) [] [])) [(.t 28)]⟩,
 ⟨(some 30), (some (27, true)), .not (.t 29)⟩,
 ⟨(some 31), none, .pick (.t 27) (.t 30) (.c (.bool false))⟩,
 ⟨(some 32), none, .mov (.t 31)⟩,
 ⟨(some 33), (some (32, true)), .call (.c (.fn (.func 23) [] [])) []⟩,
 ⟨(some 34), none, .pick (.t 32) (.t 33) (.c (.bool false))⟩,
 ⟨(some 2), none, .mov (.t 34)⟩] [2])
 .ret)
 .skip))
 (.seq
 (.ops [
 ⟨(some 36), none, .load (some 4) (.t 4)⟩,
 ⟨(some 37), none, .call (.c (.fn (.func 18) [] [])) [(.t 36)]⟩,
 ⟨(some 35), none, .mov (.t 37)⟩,
 ⟨(some 38), none, .ext (.t 35) 0⟩,
 ⟨(some 39), none, .ext (.t 35) 1⟩,
 ⟨(some 6), none, .new [(.int .i64 0), (.int .i64 0), (.int .i64 0), (.int .i64 0)]⟩,
 ⟨none, none, .store 4 (.t 6) (.t 38)⟩,
 ⟨(some 7), none, .mov (.t 39)⟩] [6, 7])
 (.seq
 (.ops [
 ⟨(some 41), none, .load (some 4) (.t 4)⟩,
 ⟨(some 42), none, .load (some 4) (.t 6)⟩,
 ⟨(some 43), none, .call (.c (.fn (.func 17) [] [])) [(.t 41), (.t 42)]⟩,
 ⟨(some 40), none, .mov (.t 43)⟩,
 ⟨(some 44), none, .ext (.t 40) 0⟩,
 ⟨(some 45), none, .ext (.t 40) 1⟩,
 ⟨(some 8), none, .new [(.int .i64 0), (.int .i64 0), (.int .i64 0), (.int .i64 0)]⟩,
 ⟨none, none, .store 4 (.t 8) (.t 44)⟩,
 ⟨(some 9), none, .mov (.t 45)⟩] [8, 9])
 (.seq
 (.ops [
 ⟨(some 47), none, .load (some 4) (.t 4)⟩,
 ⟨(some 48), none, .call (.c (.fn (.func 29) [] [])) [(.t 47)]⟩,
 ⟨(some 46), none, .mov (.t 48)⟩,
 ⟨(some 49), none, .ext (.t 46) 0⟩,
 ⟨(some 50), none, .ext (.t 46) 1⟩,
 ⟨(some 10), none, .mov (.t 49)⟩,
 ⟨(some 11), none, .mov (.t 50)⟩] [10, 11])
 (.seq
 (.ops [
 ⟨(some 52), none, .mov (.t 3)⟩,
 ⟨(some 53), none, .call (.c (.fn (.func 34) [] [])) [(.t 52)]⟩,
 ⟨(some 51), none, .mov (.t 53)⟩,
 ⟨(some 54), none, .ext (.t 51) 0⟩,
 ⟨(some 55), none, .ext (.t 51) 1⟩,
 ⟨(some 12), none, .mov (.t 54)⟩,
 ⟨(some 13), none, .mov (.t 55)⟩] [12, 13])
 (.seq
 (.draw [
 ⟨⟨(some 56), none, .mov (.t 7)⟩, false, false⟩,
 ⟨⟨(some 57), none, .bin .eql .no (.t 56) (.c (.int .i64 0))⟩, false, false⟩,
 ⟨⟨(some 58), none, .mov (.t 57)⟩, false, false⟩,
 ⟨⟨(some 59), (some (58, true)), .mov (.t 9)⟩, false, false⟩,
 ⟨⟨(some 60), (some (58, true)), .bin .eql .no (.t 59) (.c (.int .i64 0))⟩, false, false⟩,
 ⟨⟨(some 61), none, .pick (.t 58) (.t 60) (.c (.bool false))⟩, false, false⟩,
 ⟨⟨(some 62), none, .mov (.t 61)⟩, false, false⟩,
 ⟨⟨(some 63), (some (62, true)), .mov (.t 11)⟩, false, false⟩,
 ⟨⟨(some 64), (some (62, true)), .bin .eql .no (.t 63) (.c (.int .i64 0))⟩, false, false⟩,
 ⟨⟨(some 65), none, .pick (.t 62) (.t 64) (.c (.bool false))⟩, false, false⟩,
 ⟨⟨(some 66), none, .mov (.t 65)⟩, false, false⟩,
 ⟨⟨(some 67), (some (66, true)), .mov (.t 13)⟩, false, false⟩,
 ⟨⟨(some 68), (some (66, true)), .bin .eql .no (.t 67) (.c (.int .i64 0))⟩, false, false⟩,
 ⟨⟨(some 69), none, .pick (.t 66) (.t 68) (.c (.bool false))⟩, false, false⟩,
 ⟨⟨(some 70), none, .mov (.t 69)⟩, false, false⟩,
 ⟨⟨(some 71), (some (70, true)), .mov (.t 12)⟩, false, false⟩,
 ⟨⟨(some 72), (some (70, true)), .lenS (.t 71)⟩, false, false⟩,
 ⟨⟨(some 73), (some (70, true)), .bin .eql .no (.t 72) (.c (.int .i64 4))⟩, false, false⟩,
 ⟨⟨(some 74), none, .pick (.t 70) (.t 73) (.c (.bool false))⟩, false, false⟩,
 ⟨⟨(some 75), none, .mov (.t 74)⟩, false, false⟩,
 ⟨⟨(some 76), (some (75, true)), .mov (.t 3)⟩, false, false⟩,
 ⟨⟨(some 77), (some (75, true)), .call (.c (.fn (.func 30) [] [])) [(.t 76)]⟩, false, true⟩,
 ⟨⟨(some 78), none, .pick (.t 75) (.t 77) (.c (.bool false))⟩, false, false⟩,
 ⟨⟨(some 79), none, .mov (.t 78)⟩, false, false⟩,
 ⟨⟨(some 80), (some (79, true)), .mov (.t 10)⟩, false, false⟩,
 ⟨⟨(some 81), none, .pick (.t 79) (.t 80) (.c (.bool false))⟩, false, false⟩,
 ⟨⟨(some 82), none, .mov (.t 81)⟩, false, false⟩,
 ⟨⟨(some 83), (some (82, true)), .load (some 4) (.t 8)⟩, true, false⟩,
 ⟨⟨(some 84), (some (82, true)), .mov (.t 3)⟩, false, false⟩,
 ⟨⟨(some 85), (some (82, true)), .bin .mul .no (.c (.int .i64 2)) (.t 84)⟩, false, false⟩,
 ⟨⟨(some 86), (some (82, true)), .build [(.int .i64 0), (.int .i64 0), (.int .i64 0), (.int .i64 0)] [(0, 1), (1, 1), (2, 1), (3, 1)] [(0, (.t 85))]⟩, false, false⟩,
 ⟨⟨(some 87), (some (82, true)), .bin .eql (.flat 4) (.t 83) (.t 86)⟩, false, false⟩,
 ⟨⟨(some 88), none, .pick (.t 82) (.t 87) (.c (.bool false))⟩, false, false⟩,
 ⟨⟨(some 89), none, .mov (.t 88)⟩, false, false⟩,
 ⟨⟨(some 90), (some (89, true)), .load (some 4) (.t 4)⟩, true, false⟩,
 ⟨⟨(some 91), (some (89, true)), .call (.c (.fn (.func 46) [] [])) [(.t 90)]⟩, false, true⟩,
 ⟨⟨(some 92), (some (89, true)), .mov (.t 12)⟩, false, false⟩,
 ⟨⟨(some 93), (some (89, true)), .ixS 1 (.t 92) (.c (.int .i64 0))⟩, false, false⟩,
 ⟨⟨(some 94), (some (89, true)), .load none (.t 93)⟩, true, false⟩,
 ⟨⟨(some 95), (some (89, true)), .bin .mul .no (.c (.int .i64 2)) (.t 94)⟩, false, false⟩,
 ⟨⟨(some 96), (some (89, true)), .mov (.t 12)⟩, false, false⟩,
 ⟨⟨(some 97), (some (89, true)), .ixS 1 (.t 96) (.c (.int .i64 1))⟩, false, false⟩,
 ⟨⟨(some 98), (some (89, true)), .load none (.t 97)⟩, true, false⟩,
 ⟨⟨(some 99), (some (89, true)), .bin .mul .no (.c (.int .i64 2)) (.t 98)⟩, false, false⟩,
 ⟨⟨(some 100), (some (89, true)), .mov (.t 12)⟩, false, false⟩,
 ⟨⟨(some 101), (some (89, true)), .ixS 1 (.t 100) (.c (.int .i64 2))⟩, false, false⟩,
 ⟨⟨(some 102), (some (89, true)), .load none (.t 101)⟩, true, false⟩,
 ⟨⟨(some 103), (some (89, true)), .bin .mul .no (.c (.int .i64 2)) (.t 102)⟩, false, false⟩,
 ⟨⟨(some 104), (some (89, true)), .mov (.t 12)⟩, false, false⟩,
 ⟨⟨(some 105), (some (89, true)), .ixS 1 (.t 104) (.c (.int .i64 3))⟩, false, false⟩,
 ⟨⟨(some 106), (some (89, true)), .load none (.t 105)⟩, true, false⟩,
 ⟨⟨(some 107), (some (89, true)), .bin .mul .no (.c (.int .i64 2)) (.t 106)⟩, false, false⟩,
 ⟨⟨(some 108), (some (89, true)), .buildS [(.int .i64 0)] 4 1 [(0, (.t 95)), (1, (.t 99)), (2, (.t 103)), (3, (.t 107))]⟩, false, true⟩,
 ⟨⟨(some 109), (some (89, true)), .call (.c (.fn (.func 36) [] [])) [(.t 91), (.t 108)]⟩, false, true⟩,
 ⟨⟨(some 110), none, .pick (.t 89) (.t 109) (.c (.bool false))⟩, false, false⟩,
 ⟨⟨(some 111), none, .mov (.t 110)⟩, false, false⟩,
 ⟨⟨(some 112), (some (111, true)), .call (.c (.fn (.func 23) [] [])) []⟩, false, true⟩,
 ⟨⟨(some 113), none, .pick (.t 111) (.t 112) (.c (.bool false))⟩, false, false⟩,
 ⟨⟨(some 2), none, .mov (.t 113)⟩, false, false⟩] [0, 1, 3, 7, 15, 31, 63, 127, 255, 511, 1023, 2047, 4095, 8191, 16383, 32767, 65535, 131071, 262143, 524287, 1048575, 2097151, 4194303, 8388607, 16777215, 33554431, 67108863, 134217727, 134217727, 402653183, 939524095, 2147483647, 4294967295, 8589934591, 17179869183, 34359738367, 17179869183, 85899345919, 223338299391, 498216206335, 17179869183, 1116691496959, 3315714752511, 7713761263615, 17179869183, 17609365913599, 52793738002431, 123162482180095, 17179869183, 281492156579839, 844442110001151, 1970342016843775, 4503548087762943, 9007199254740991, 18014398509481983, 36028797018963967, 72057594037927935, 144115188075855871, 288230376151711743] [2])
 .ret))))))))),
 [.tmp 2]⟩

theorem c16 : compF Try.prog 16 = some sf16 := by kernel_rfl
end Go.Proofs.Ytpobklkllfokdaa
