/- The law NormDivision, compiled. -/
import Derived.Test.YtpobklkllfokdaaRows
import Derived.Test.YtpobklkllfokdaaSE
import Derived.KernelRfl
set_option linter.unusedVariables false
set_option maxRecDepth 100000
namespace Go.Proofs.Ytpobklkllfokdaa
open Go Go.Abs
/-- bellpull/bellpulllaw04.NormDivision -/
noncomputable def sf10 : SFun := ⟨[0, 1, 2, 3, 4, 5, 6, 9, 10, 11, 12, 13, 20, 51], 113,
 (.seq
 (.ops [
 ⟨(some 2), none, .box (.t 0)⟩,
 ⟨(some 3), none, .box (.t 1)⟩,
 ⟨(some 4), none, .mov (.c (.bool false))⟩] [2, 3, 4])
 (.seq
 (.draw [
 ⟨⟨(some 14), none, .load (some 4) (.t 2)⟩, true, false⟩,
 ⟨⟨(some 15), none, .call (.c (.fn (.func 41) [] [])) [(.t 14), (.c (.int .i64 1000))]⟩, false, true⟩,
 ⟨⟨(some 16), none, .load (some 4) (.t 3)⟩, true, false⟩,
 ⟨⟨(some 17), none, .call (.c (.fn (.func 41) [] [])) [(.t 16), (.c (.int .i64 40))]⟩, false, true⟩,
 ⟨⟨(some 5), none, .new [(.int .i64 0), (.int .i64 0), (.int .i64 0), (.int .i64 0)]⟩, false, true⟩,
 ⟨⟨(some 6), none, .new [(.int .i64 0), (.int .i64 0), (.int .i64 0), (.int .i64 0)]⟩, false, true⟩,
 ⟨⟨none, none, .store 4 (.t 5) (.t 15)⟩, false, true⟩,
 ⟨⟨none, none, .store 4 (.t 6) (.t 17)⟩, false, true⟩] [0, 1, 0, 7, 0, 0, 63, 127] [5, 6])
 (.seq
 (.seq
 (.ops [
 ⟨(some 18), none, .load (some 4) (.t 6)⟩,
 ⟨(some 19), none, .build [(.int .i64 0), (.int .i64 0), (.int .i64 0), (.int .i64 0)] [(0, 1), (1, 1), (2, 1), (3, 1)] []⟩,
 ⟨(some 20), none, .bin .eql (.flat 4) (.t 18) (.t 19)⟩] [20])
 (.cond (.t 20)
 (.seq
 (.ops [
 ⟨(some 22), none, .load (some 4) (.t 5)⟩,
 ⟨(some 23), none, .load (some 4) (.t 6)⟩,
 ⟨(some 24), none, .call (.c (.fn (.func 25) [] [])) [(.t 22), (.t 23)]⟩,
 ⟨(some 21), none, .mov (.t 24)⟩,
 ⟨(some 25), none, .ext (.t 21) 0⟩,
 ⟨(some 26), none, .ext (.t 21) 1⟩,
 ⟨(some 27), none, .ext (.t 21) 2⟩,
 ⟨(some 7), none, .new [(.int .i64 0), (.int .i64 0), (.int .i64 0), (.int .i64 0)]⟩,
 ⟨(some 8), none, .new [(.int .i64 0), (.int .i64 0), (.int .i64 0), (.int .i64 0)]⟩,
 ⟨none, none, .store 4 (.t 7) (.t 25)⟩,
 ⟨none, none, .store 4 (.t 8) (.t 26)⟩,
 ⟨(some 9), none, .mov (.t 27)⟩] [9])
 (.seq
 (.ops [
 ⟨(some 28), none, .mov (.t 9)⟩,
 ⟨(some 29), none, .bin .eql .no (.t 28) (.c (.int .i64 5))⟩,
 ⟨(some 30), none, .mov (.t 29)⟩,
 ⟨(some 31), (some (30, true)), .call (.c (.fn (.func 23) [] [])) []⟩,
 ⟨(some 32), none, .pick (.t 30) (.t 31) (.c (.bool false))⟩,
 ⟨(some 4), none, .mov (.t 32)⟩] [4])
 .ret))
 .skip))
 (.seq
 (.ops [
 ⟨(some 34), none, .load (some 4) (.t 5)⟩,
 ⟨(some 35), none, .load (some 4) (.t 6)⟩,
 ⟨(some 36), none, .call (.c (.fn (.func 25) [] [])) [(.t 34), (.t 35)]⟩,
 ⟨(some 33), none, .mov (.t 36)⟩,
 ⟨(some 37), none, .ext (.t 33) 0⟩,
 ⟨(some 38), none, .ext (.t 33) 1⟩,
 ⟨(some 39), none, .ext (.t 33) 2⟩,
 ⟨(some 10), none, .new [(.int .i64 0), (.int .i64 0), (.int .i64 0), (.int .i64 0)]⟩,
 ⟨(some 11), none, .new [(.int .i64 0), (.int .i64 0), (.int .i64 0), (.int .i64 0)]⟩,
 ⟨none, none, .store 4 (.t 10) (.t 37)⟩,
 ⟨none, none, .store 4 (.t 11) (.t 38)⟩,
 ⟨(some 12), none, .mov (.t 39)⟩] [10, 11, 12])
 (.seq
 (.seq
 (.ops [
 ⟨(some 40), none, .mov (.t 12)⟩,
 ⟨(some 41), none, .bin .neq .no (.t 40) (.c (.int .i64 0))⟩,
 ⟨(some 42), none, .mov (.t 41)⟩,
 ⟨(some 43), (some (42, false)), .load (some 4) (.t 11)⟩,
 ⟨(some 44), (some (42, false)), .buildS [(.int .i64 0), (.int .i64 0), (.int .i64 0), (.int .i64 0)] 1 4 [(0, (.t 43))]⟩,
 ⟨(some 45), (some (42, false)), .call (.c (.fn (.func 20) [] [])) [(.t 44)]⟩,
 ⟨(some 46), (some (42, false)), .bin .neq .no (.t 45) (.c (.int .i64 0))⟩,
 ⟨(some 47), none, .pick (.t 42) (.c (.bool true)) (.t 46)⟩,
 ⟨(some 48), none, .mov (.t 47)⟩,
 ⟨(some 49), (some (48, false)), .call (.c (.fn (.func 23) [] [])) []⟩,
 ⟨(some 50), (some (48, false)), .not (.t 49)⟩,
 ⟨(some 51), none, .pick (.t 48) (.c (.bool true)) (.t 50)⟩] [51])
 (.cond (.t 51)
 (.seq
 (.ops [
 ⟨(some 4), none, .mov (.c (.bool false))⟩] [4])
 .ret)
 .skip))
 (.seq
 (.ops [
 ⟨(some 52), none, .load (some 4) (.t 10)⟩,
 ⟨(some 53), none, .load (some 4) (.t 6)⟩,
 ⟨(some 54), none, .call (.c (.fn (.func 24) [] [])) [(.t 52), (.t 53)]⟩,
 ⟨(some 13), none, .new [(.int .i64 0), (.int .i64 0), (.int .i64 0), (.int .i64 0)]⟩,
 ⟨none, none, .store 4 (.t 13) (.t 54)⟩] [13])
 (.seq
 (.draw [
 ⟨⟨(some 55), none, .fa 0 (.t 10)⟩, false, false⟩,
 ⟨⟨(some 56), none, .load none (.t 55)⟩, true, false⟩,
 ⟨⟨(some 57), none, .bin .and .no (.t 56) (.c (.int .i64 1))⟩, false, false⟩,
 ⟨⟨(some 58), none, .fa 1 (.t 10)⟩, false, false⟩,
 ⟨⟨(some 59), none, .load none (.t 58)⟩, true, false⟩,
 ⟨⟨(some 60), none, .bin .and .no (.t 59) (.c (.int .i64 1))⟩, false, false⟩,
 ⟨⟨(some 61), none, .bin .eql .no (.t 57) (.t 60)⟩, false, false⟩,
 ⟨⟨(some 62), none, .mov (.t 61)⟩, false, false⟩,
 ⟨⟨(some 63), (some (62, true)), .fa 0 (.t 10)⟩, false, false⟩,
 ⟨⟨(some 64), (some (62, true)), .load none (.t 63)⟩, true, false⟩,
 ⟨⟨(some 65), (some (62, true)), .bin .and .no (.t 64) (.c (.int .i64 1))⟩, false, false⟩,
 ⟨⟨(some 66), (some (62, true)), .fa 2 (.t 10)⟩, false, false⟩,
 ⟨⟨(some 67), (some (62, true)), .load none (.t 66)⟩, true, false⟩,
 ⟨⟨(some 68), (some (62, true)), .bin .and .no (.t 67) (.c (.int .i64 1))⟩, false, false⟩,
 ⟨⟨(some 69), (some (62, true)), .bin .eql .no (.t 65) (.t 68)⟩, false, false⟩,
 ⟨⟨(some 70), none, .pick (.t 62) (.t 69) (.c (.bool false))⟩, false, false⟩,
 ⟨⟨(some 71), none, .mov (.t 70)⟩, false, false⟩,
 ⟨⟨(some 72), (some (71, true)), .fa 0 (.t 10)⟩, false, false⟩,
 ⟨⟨(some 73), (some (71, true)), .load none (.t 72)⟩, true, false⟩,
 ⟨⟨(some 74), (some (71, true)), .bin .and .no (.t 73) (.c (.int .i64 1))⟩, false, false⟩,
 ⟨⟨(some 75), (some (71, true)), .fa 3 (.t 10)⟩, false, false⟩,
 ⟨⟨(some 76), (some (71, true)), .load none (.t 75)⟩, true, false⟩,
 ⟨⟨(some 77), (some (71, true)), .bin .and .no (.t 76) (.c (.int .i64 1))⟩, false, false⟩,
 ⟨⟨(some 78), (some (71, true)), .bin .eql .no (.t 74) (.t 77)⟩, false, false⟩,
 ⟨⟨(some 79), none, .pick (.t 71) (.t 78) (.c (.bool false))⟩, false, false⟩,
 ⟨⟨(some 80), none, .mov (.t 79)⟩, false, false⟩,
 ⟨⟨(some 81), (some (80, true)), .load (some 4) (.t 5)⟩, true, false⟩,
 ⟨⟨(some 82), (some (80, true)), .fa 0 (.t 13)⟩, false, false⟩,
 ⟨⟨(some 83), (some (80, true)), .load none (.t 82)⟩, true, false⟩,
 ⟨⟨(some 84), (some (80, true)), .fa 0 (.t 11)⟩, false, false⟩,
 ⟨⟨(some 85), (some (80, true)), .load none (.t 84)⟩, true, false⟩,
 ⟨⟨(some 86), (some (80, true)), .bin .add .no (.t 83) (.t 85)⟩, false, false⟩,
 ⟨⟨(some 87), (some (80, true)), .fa 1 (.t 13)⟩, false, false⟩,
 ⟨⟨(some 88), (some (80, true)), .load none (.t 87)⟩, true, false⟩,
 ⟨⟨(some 89), (some (80, true)), .fa 1 (.t 11)⟩, false, false⟩,
 ⟨⟨(some 90), (some (80, true)), .load none (.t 89)⟩, true, false⟩,
 ⟨⟨(some 91), (some (80, true)), .bin .add .no (.t 88) (.t 90)⟩, false, false⟩,
 ⟨⟨(some 92), (some (80, true)), .fa 2 (.t 13)⟩, false, false⟩,
 ⟨⟨(some 93), (some (80, true)), .load none (.t 92)⟩, true, false⟩,
 ⟨⟨(some 94), (some (80, true)), .fa 2 (.t 11)⟩, false, false⟩,
 ⟨⟨(some 95), (some (80, true)), .load none (.t 94)⟩, true, false⟩,
 ⟨⟨(some 96), (some (80, true)), .bin .add .no (.t 93) (.t 95)⟩, false, false⟩,
 ⟨⟨(some 97), (some (80, true)), .fa 3 (.t 13)⟩, false, false⟩,
 ⟨⟨(some 98), (some (80, true)), .load none (.t 97)⟩, true, false⟩,
 ⟨⟨(some 99), (some (80, true)), .fa 3 (.t 11)⟩, false, false⟩,
 ⟨⟨(some 100), (some (80, true)), .load none (.t 99)⟩, true, false⟩,
 ⟨⟨(some 101), (some (80, true)), .bin .add .no (.t 98) (.t 100)⟩, false, false⟩,
 ⟨⟨(some 102), (some (80, true)), .build [(.int .i64 0), (.int .i64 0), (.int .i64 0), (.int .i64 0)] [(0, 1), (1, 1), (2, 1), (3, 1)] [(0, (.t 86)), (1, (.t 91)), (2, (.t 96)), (3, (.t 101))]⟩, false, false⟩,
 ⟨⟨(some 103), (some (80, true)), .bin .eql (.flat 4) (.t 81) (.t 102)⟩, false, false⟩,
 ⟨⟨(some 104), none, .pick (.t 80) (.t 103) (.c (.bool false))⟩, false, false⟩,
 ⟨⟨(some 105), none, .mov (.t 104)⟩, false, false⟩,
 ⟨⟨(some 106), (some (105, true)), .load (some 4) (.t 11)⟩, true, false⟩,
 ⟨⟨(some 107), (some (105, true)), .call (.c (.fn (.func 22) [] [])) [(.t 106)]⟩, false, true⟩,
 ⟨⟨(some 108), (some (105, true)), .bin .mul .no (.c (.int .i64 2)) (.t 107)⟩, false, false⟩,
 ⟨⟨(some 109), (some (105, true)), .load (some 4) (.t 6)⟩, true, false⟩,
 ⟨⟨(some 110), (some (105, true)), .call (.c (.fn (.func 22) [] [])) [(.t 109)]⟩, false, true⟩,
 ⟨⟨(some 111), (some (105, true)), .bin .leq .no (.t 108) (.t 110)⟩, false, false⟩,
 ⟨⟨(some 112), none, .pick (.t 105) (.t 111) (.c (.bool false))⟩, false, false⟩,
 ⟨⟨(some 4), none, .mov (.t 112)⟩, false, false⟩] [0, 1, 3, 0, 8, 24, 63, 127, 255, 511, 1023, 255, 2303, 6399, 16383, 32767, 65535, 131071, 262143, 524287, 131071, 1179647, 3276799, 8388607, 16777215, 33554431, 67108863, 67108863, 201326591, 67108863, 603979775, 2080374783, 67108863, 4362076159, 67108863, 17246978047, 64491618303, 67108863, 137506062335, 67108863, 549822922751, 2061651410943, 67108863, 4398113619967, 67108863, 17592253153279, 65970764775423, 140737421246463, 281474976710655, 562949953421311, 1125899906842623, 2251799813685247, 4503599627370495, 9007199254740991, 2251799813685247, 27021597764222975, 72057594037927935, 144115188075855871, 288230376151711743] [4])
 .ret))))))),
 [.tmp 4]⟩

theorem c10 : compF Try.prog 10 = some sf10 := by kernel_rfl
end Go.Proofs.Ytpobklkllfokdaa
