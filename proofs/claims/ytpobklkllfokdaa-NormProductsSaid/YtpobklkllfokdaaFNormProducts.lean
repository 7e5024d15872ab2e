/- The law NormProducts, compiled. -/
import Derived.Test.YtpobklkllfokdaaRows
import Derived.Test.YtpobklkllfokdaaSE
import Derived.KernelRfl
set_option linter.unusedVariables false
set_option maxRecDepth 100000
namespace Go.Proofs.Ytpobklkllfokdaa
open Go Go.Abs
/-- bellpull/bellpulllaw04.NormProducts -/
noncomputable def sf3 : SFun := ⟨[0, 1, 2, 3, 4, 5, 6, 7, 8, 9, 10, 11, 12, 33, 50, 68, 74], 98,
 (.seq
 (.ops [
 ⟨(some 2), none, .box (.t 0)⟩,
 ⟨(some 3), none, .box (.t 1)⟩,
 ⟨(some 4), none, .mov (.c (.bool false))⟩] [2, 3, 4])
 (.seq
 (.ops [
 ⟨(some 14), none, .load (some 4) (.t 2)⟩,
 ⟨(some 15), none, .load (some 4) (.t 3)⟩,
 ⟨(some 16), none, .call (.c (.fn (.func 17) [] [])) [(.t 14), (.t 15)]⟩,
 ⟨(some 13), none, .mov (.t 16)⟩,
 ⟨(some 17), none, .ext (.t 13) 0⟩,
 ⟨(some 18), none, .ext (.t 13) 1⟩,
 ⟨(some 5), none, .new [(.int .i64 0), (.int .i64 0), (.int .i64 0), (.int .i64 0)]⟩,
 ⟨none, none, .store 4 (.t 5) (.t 17)⟩,
 ⟨(some 6), none, .mov (.t 18)⟩] [5, 6])
 (.seq
 (.ops [
 ⟨(some 20), none, .load (some 4) (.t 2)⟩,
 ⟨(some 21), none, .call (.c (.fn (.func 18) [] [])) [(.t 20)]⟩,
 ⟨(some 19), none, .mov (.t 21)⟩,
 ⟨(some 22), none, .ext (.t 19) 0⟩,
 ⟨(some 23), none, .ext (.t 19) 1⟩,
 ⟨(some 7), none, .new [(.int .i64 0), (.int .i64 0), (.int .i64 0), (.int .i64 0)]⟩,
 ⟨none, none, .store 4 (.t 7) (.t 22)⟩,
 ⟨(some 8), none, .mov (.t 23)⟩] [7, 8])
 (.seq
 (.ops [
 ⟨(some 25), none, .load (some 4) (.t 2)⟩,
 ⟨(some 26), none, .call (.c (.fn (.func 19) [] [])) [(.t 25)]⟩,
 ⟨(some 24), none, .mov (.t 26)⟩,
 ⟨(some 27), none, .ext (.t 24) 0⟩,
 ⟨(some 28), none, .ext (.t 24) 1⟩,
 ⟨(some 9), none, .mov (.t 27)⟩,
 ⟨(some 10), none, .mov (.t 28)⟩] [9, 10])
 (.seq
 (.seq
 (.ops [
 ⟨(some 29), none, .load (some 4) (.t 2)⟩,
 ⟨(some 30), none, .buildS [(.int .i64 0), (.int .i64 0), (.int .i64 0), (.int .i64 0)] 1 4 [(0, (.t 29))]⟩,
 ⟨(some 31), none, .call (.c (.fn (.func 20) [] [])) [(.t 30)]⟩,
 ⟨(some 11), none, .mov (.t 31)⟩] [11])
 (.seq
 (.ops [
 ⟨(some 32), none, .mov (.t 11)⟩,
 ⟨(some 33), none, .bin .neq .no (.t 32) (.c (.int .i64 0))⟩] [33])
 (.cond (.t 33)
 (.seq
 (.ops [
 ⟨(some 34), none, .load (some 4) (.t 7)⟩,
 ⟨(some 35), none, .build [(.int .i64 0), (.int .i64 0), (.int .i64 0), (.int .i64 0)] [(0, 1), (1, 1), (2, 1), (3, 1)] []⟩,
 ⟨(some 36), none, .bin .neq (.flat 4) (.t 34) (.t 35)⟩,
 ⟨(some 37), none, .mov (.t 36)⟩,
 ⟨(some 38), (some (37, false)), .mov (.t 9)⟩,
 ⟨(some 39), (some (37, false)), .bin .neq .no (.t 38) (.c (.int .i64 0))⟩,
 ⟨(some 40), none, .pick (.t 37) (.c (.bool true)) (.t 39)⟩,
 ⟨(some 41), none, .mov (.t 40)⟩,
 ⟨(some 42), (some (41, false)), .mov (.t 8)⟩,
 ⟨(some 43), (some (41, false)), .mov (.t 11)⟩,
 ⟨(some 44), (some (41, false)), .bin .neq .no (.t 42) (.t 43)⟩,
 ⟨(some 45), none, .pick (.t 41) (.c (.bool true)) (.t 44)⟩,
 ⟨(some 46), none, .mov (.t 45)⟩,
 ⟨(some 47), (some (46, false)), .mov (.t 10)⟩,
 ⟨(some 48), (some (46, false)), .mov (.t 11)⟩,
 ⟨(some 49), (some (46, false)), .bin .neq .no (.t 47) (.t 48)⟩,
 ⟨(some 50), none, .pick (.t 46) (.c (.bool true)) (.t 49)⟩] [50])
 (.cond (.t 50)
 (.seq
 (.ops [
 ⟨(some 4), none, .mov (.c (.bool false))⟩] [4])
 .ret)
 .skip))
 (.seq
 (.draw [
 ⟨⟨(some 51), none, .load (some 4) (.t 7)⟩, true, false⟩,
 ⟨⟨(some 52), none, .load (some 4) (.t 2)⟩, true, false⟩,
 ⟨⟨(some 53), none, .call (.c (.fn (.func 21) [] [])) [(.t 52)]⟩, false, true⟩,
 ⟨⟨(some 54), none, .bin .neq (.flat 4) (.t 51) (.t 53)⟩, false, false⟩,
 ⟨⟨(some 55), none, .mov (.t 54)⟩, false, false⟩,
 ⟨⟨(some 56), (some (55, false)), .mov (.t 9)⟩, false, false⟩,
 ⟨⟨(some 57), (some (55, false)), .load (some 4) (.t 2)⟩, true, false⟩,
 ⟨⟨(some 58), (some (55, false)), .call (.c (.fn (.func 22) [] [])) [(.t 57)]⟩, false, true⟩,
 ⟨⟨(some 59), (some (55, false)), .bin .neq .no (.t 56) (.t 58)⟩, false, false⟩,
 ⟨⟨(some 60), none, .pick (.t 55) (.c (.bool true)) (.t 59)⟩, false, false⟩,
 ⟨⟨(some 61), none, .mov (.t 60)⟩, false, false⟩,
 ⟨⟨(some 62), (some (61, false)), .mov (.t 8)⟩, false, false⟩,
 ⟨⟨(some 63), (some (61, false)), .bin .neq .no (.t 62) (.c (.int .i64 0))⟩, false, false⟩,
 ⟨⟨(some 64), none, .pick (.t 61) (.c (.bool true)) (.t 63)⟩, false, false⟩,
 ⟨⟨(some 65), none, .mov (.t 64)⟩, false, false⟩,
 ⟨⟨(some 66), (some (65, false)), .mov (.t 10)⟩, false, false⟩,
 ⟨⟨(some 67), (some (65, false)), .bin .neq .no (.t 66) (.c (.int .i64 0))⟩, false, false⟩,
 ⟨⟨(some 68), none, .pick (.t 65) (.c (.bool true)) (.t 67)⟩, false, false⟩] [0, 0, 2, 7, 15, 31, 31, 95, 255, 511, 1023, 2047, 4095, 8191, 16383, 32767, 65535, 131071] [68])
 (.cond (.t 68)
 (.seq
 (.ops [
 ⟨(some 4), none, .mov (.c (.bool false))⟩] [4])
 .ret)
 .skip)))))
 (.seq
 (.seq
 (.ops [
 ⟨(some 69), none, .load (some 4) (.t 2)⟩,
 ⟨(some 70), none, .load (some 4) (.t 3)⟩,
 ⟨(some 71), none, .buildS [(.int .i64 0), (.int .i64 0), (.int .i64 0), (.int .i64 0)] 2 4 [(0, (.t 69)), (1, (.t 70))]⟩,
 ⟨(some 72), none, .call (.c (.fn (.func 20) [] [])) [(.t 71)]⟩,
 ⟨(some 12), none, .mov (.t 72)⟩] [12])
 (.seq
 (.ops [
 ⟨(some 73), none, .mov (.t 12)⟩,
 ⟨(some 74), none, .bin .neq .no (.t 73) (.c (.int .i64 0))⟩] [74])
 (.cond (.t 74)
 (.seq
 (.ops [
 ⟨(some 75), none, .load (some 4) (.t 5)⟩,
 ⟨(some 76), none, .build [(.int .i64 0), (.int .i64 0), (.int .i64 0), (.int .i64 0)] [(0, 1), (1, 1), (2, 1), (3, 1)] []⟩,
 ⟨(some 77), none, .bin .eql (.flat 4) (.t 75) (.t 76)⟩,
 ⟨(some 78), none, .mov (.t 77)⟩,
 ⟨(some 79), (some (78, true)), .mov (.t 6)⟩,
 ⟨(some 80), (some (78, true)), .mov (.t 12)⟩,
 ⟨(some 81), (some (78, true)), .bin .eql .no (.t 79) (.t 80)⟩,
 ⟨(some 82), none, .pick (.t 78) (.t 81) (.c (.bool false))⟩,
 ⟨(some 83), none, .mov (.t 82)⟩,
 ⟨(some 84), (some (83, true)), .call (.c (.fn (.func 23) [] [])) []⟩,
 ⟨(some 85), none, .pick (.t 83) (.t 84) (.c (.bool false))⟩,
 ⟨(some 4), none, .mov (.t 85)⟩] [4])
 .ret)
 .skip)))
 (.seq
 (.draw [
 ⟨⟨(some 86), none, .load (some 4) (.t 5)⟩, true, false⟩,
 ⟨⟨(some 87), none, .load (some 4) (.t 2)⟩, true, false⟩,
 ⟨⟨(some 88), none, .load (some 4) (.t 3)⟩, true, false⟩,
 ⟨⟨(some 89), none, .call (.c (.fn (.func 24) [] [])) [(.t 87), (.t 88)]⟩, false, true⟩,
 ⟨⟨(some 90), none, .bin .eql (.flat 4) (.t 86) (.t 89)⟩, false, false⟩,
 ⟨⟨(some 91), none, .mov (.t 90)⟩, false, false⟩,
 ⟨⟨(some 92), (some (91, true)), .mov (.t 6)⟩, false, false⟩,
 ⟨⟨(some 93), (some (91, true)), .bin .eql .no (.t 92) (.c (.int .i64 0))⟩, false, false⟩,
 ⟨⟨(some 94), none, .pick (.t 91) (.t 93) (.c (.bool false))⟩, false, false⟩,
 ⟨⟨(some 95), none, .mov (.t 94)⟩, false, false⟩,
 ⟨⟨(some 96), (some (95, true)), .call (.c (.fn (.func 23) [] [])) []⟩, false, true⟩,
 ⟨⟨(some 97), none, .pick (.t 95) (.t 96) (.c (.bool false))⟩, false, false⟩,
 ⟨⟨(some 4), none, .mov (.t 97)⟩, false, false⟩] [0, 0, 0, 6, 15, 31, 63, 127, 255, 511, 1023, 2047, 4095] [4])
 .ret))))))),
 [.tmp 4]⟩

theorem c3 : compF Try.prog 3 = some sf3 := by kernel_rfl
end Go.Proofs.Ytpobklkllfokdaa
