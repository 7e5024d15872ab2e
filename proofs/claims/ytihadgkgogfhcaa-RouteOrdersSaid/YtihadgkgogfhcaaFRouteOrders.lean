/- The law RouteOrders, compiled. -/
import Derived.Test.YtihadgkgogfhcaaRows
import Derived.Test.YtihadgkgogfhcaaSA
import Derived.KernelRfl
set_option linter.unusedVariables false
set_option maxRecDepth 100000
namespace Go.Proofs.Ytihadgkgogfhcaa
open Go Go.Abs
/-- bellpull/bellpulllaw07.RouteOrders -/
noncomputable def sf6 : SFun := ⟨[0, 1, 2, 6, 7, 8, 9, 10, 11, 12, 13, 14, 15, 16, 17, 18, 22, 26, 27, 28, 29, 30, 89], 154,
 (.seq
 (.ops [
 ⟨(some 6), none, .mov (.c (.bool false))⟩] [6])
 (.seq
 (.ops [
 ⟨(some 32), none, .mov (.t 0)⟩,
 ⟨(some 33), none, .mov (.t 1)⟩,
 ⟨(some 34), none, .call (.c (.fn (.func 33) [] [])) [(.t 32), (.t 33), (.c (.int .i64 8))]⟩,
 ⟨(some 31), none, .mov (.t 34)⟩,
 ⟨(some 35), none, .ext (.t 31) 0⟩,
 ⟨(some 36), none, .ext (.t 31) 1⟩,
 ⟨(some 7), none, .mov (.t 35)⟩,
 ⟨(some 8), none, .mov (.t 36)⟩] [7, 8])
 (.seq
 (.ops [
 ⟨(some 38), none, .mov (.t 7)⟩,
 ⟨(some 39), none, .mov (.t 8)⟩,
 ⟨(some 40), none, .call (.c (.fn (.func 24) [] [])) [(.t 38), (.t 39)]⟩,
 ⟨(some 37), none, .mov (.t 40)⟩,
 ⟨(some 41), none, .ext (.t 37) 0⟩,
 ⟨(some 42), none, .ext (.t 37) 1⟩,
 ⟨(some 43), none, .ext (.t 37) 2⟩,
 ⟨(some 9), none, .mov (.t 41)⟩,
 ⟨(some 10), none, .mov (.t 42)⟩,
 ⟨(some 11), none, .mov (.t 43)⟩] [9, 10, 11])
 (.seq
 (.ops [
 ⟨(some 45), none, .mov (.t 7)⟩,
 ⟨(some 46), none, .mov (.t 8)⟩,
 ⟨(some 47), none, .call (.c (.fn (.func 25) [] [])) [(.t 45), (.t 46)]⟩,
 ⟨(some 44), none, .mov (.t 47)⟩,
 ⟨(some 48), none, .ext (.t 44) 0⟩,
 ⟨(some 49), none, .ext (.t 44) 1⟩,
 ⟨(some 50), none, .ext (.t 44) 2⟩,
 ⟨(some 12), none, .mov (.t 48)⟩,
 ⟨(some 13), none, .mov (.t 49)⟩,
 ⟨(some 14), none, .mov (.t 50)⟩] [12, 13, 14])
 (.seq
 (.ops [
 ⟨(some 52), none, .mov (.t 7)⟩,
 ⟨(some 53), none, .mov (.t 8)⟩,
 ⟨(some 54), none, .call (.c (.fn (.func 26) [] [])) [(.t 52), (.t 53)]⟩,
 ⟨(some 51), none, .mov (.t 54)⟩,
 ⟨(some 55), none, .ext (.t 51) 0⟩,
 ⟨(some 56), none, .ext (.t 51) 1⟩,
 ⟨(some 57), none, .ext (.t 51) 2⟩,
 ⟨(some 15), none, .mov (.t 55)⟩,
 ⟨(some 16), none, .mov (.t 56)⟩,
 ⟨(some 17), none, .mov (.t 57)⟩] [15, 16, 17])
 (.seq
 (.seq
 (.ops [
 ⟨(some 58), none, .mov (.t 11)⟩,
 ⟨(some 59), none, .bin .neq .no (.t 58) (.c (.int .i64 0))⟩,
 ⟨(some 60), none, .mov (.t 59)⟩,
 ⟨(some 61), (some (60, false)), .mov (.t 14)⟩,
 ⟨(some 62), (some (60, false)), .bin .neq .no (.t 61) (.c (.int .i64 0))⟩,
 ⟨(some 63), none, .pick (.t 60) (.c (.bool true)) (.t 62)⟩,
 ⟨(some 64), none, .mov (.t 63)⟩,
 ⟨(some 65), (some (64, false)), .mov (.t 17)⟩,
 ⟨(some 66), (some (64, false)), .bin .neq .no (.t 65) (.c (.int .i64 0))⟩,
 ⟨(some 67), none, .pick (.t 64) (.c (.bool true)) (.t 66)⟩,
 ⟨(some 68), none, .mov (.t 67)⟩,
 ⟨(some 69), (some (68, false)), .mov (.t 7)⟩,
 ⟨(some 70), (some (68, false)), .mov (.t 10)⟩,
 ⟨(some 71), (some (68, false)), .call (.c (.fn (.func 19) [] [])) [(.t 69), (.t 70)]⟩,
 ⟨(some 72), (some (68, false)), .not (.t 71)⟩,
 ⟨(some 73), none, .pick (.t 68) (.c (.bool true)) (.t 72)⟩,
 ⟨(some 74), none, .mov (.t 73)⟩,
 ⟨(some 75), (some (74, false)), .mov (.t 7)⟩,
 ⟨(some 76), (some (74, false)), .mov (.t 13)⟩,
 ⟨(some 77), (some (74, false)), .call (.c (.fn (.func 19) [] [])) [(.t 75), (.t 76)]⟩,
 ⟨(some 78), (some (74, false)), .not (.t 77)⟩,
 ⟨(some 79), none, .pick (.t 74) (.c (.bool true)) (.t 78)⟩,
 ⟨(some 80), none, .mov (.t 79)⟩,
 ⟨(some 81), (some (80, false)), .mov (.t 7)⟩,
 ⟨(some 82), (some (80, false)), .mov (.t 16)⟩,
 ⟨(some 83), (some (80, false)), .call (.c (.fn (.func 19) [] [])) [(.t 81), (.t 82)]⟩,
 ⟨(some 84), (some (80, false)), .not (.t 83)⟩,
 ⟨(some 85), none, .pick (.t 80) (.c (.bool true)) (.t 84)⟩,
 ⟨(some 86), none, .mov (.t 85)⟩,
 ⟨(some 87), (some (86, false)), .call (.c (.fn (.func 20) [] [])) []⟩,
 ⟨(some 88), (some (86, false)), .not (.t 87)⟩,
 ⟨(some 89), none, .pick (.t 86) (.c (.bool true)) (.t 88)⟩] [89])
 (.cond (.t 89)
 (.seq
 (.ops [
 ⟨(some 6), none, .mov (.c (.bool false))⟩] [6])
 .ret)
 .skip))
 (.seq
 (.ops [
 ⟨(some 91), none, .mov (.t 8)⟩,
 ⟨(some 92), none, .mov (.t 10)⟩,
 ⟨(some 93), none, .call (.c (.fn (.func 21) [] [])) [(.t 91), (.t 92)]⟩,
 ⟨(some 90), none, .mov (.t 93)⟩,
 ⟨(some 94), none, .ext (.t 90) 0⟩,
 ⟨(some 95), none, .ext (.t 90) 1⟩,
 ⟨(some 96), none, .ext (.t 90) 2⟩,
 ⟨(some 18), none, .mov (.t 94)⟩,
 ⟨(some 19), none, .mov (.t 95)⟩,
 ⟨(some 20), none, .mov (.t 96)⟩] [18])
 (.seq
 (.ops [
 ⟨(some 98), none, .mov (.t 8)⟩,
 ⟨(some 99), none, .mov (.t 13)⟩,
 ⟨(some 100), none, .call (.c (.fn (.func 21) [] [])) [(.t 98), (.t 99)]⟩,
 ⟨(some 97), none, .mov (.t 100)⟩,
 ⟨(some 101), none, .ext (.t 97) 0⟩,
 ⟨(some 102), none, .ext (.t 97) 1⟩,
 ⟨(some 103), none, .ext (.t 97) 2⟩,
 ⟨(some 21), none, .mov (.t 101)⟩,
 ⟨(some 22), none, .mov (.t 102)⟩,
 ⟨(some 23), none, .mov (.t 103)⟩] [22])
 (.seq
 (.ops [
 ⟨(some 105), none, .mov (.t 8)⟩,
 ⟨(some 106), none, .mov (.t 16)⟩,
 ⟨(some 107), none, .call (.c (.fn (.func 21) [] [])) [(.t 105), (.t 106)]⟩,
 ⟨(some 104), none, .mov (.t 107)⟩,
 ⟨(some 108), none, .ext (.t 104) 0⟩,
 ⟨(some 109), none, .ext (.t 104) 1⟩,
 ⟨(some 110), none, .ext (.t 104) 2⟩,
 ⟨(some 24), none, .mov (.t 108)⟩,
 ⟨(some 25), none, .mov (.t 109)⟩,
 ⟨(some 26), none, .mov (.t 110)⟩] [26])
 (.seq
 (.ops [
 ⟨(some 112), none, .mov (.t 7)⟩,
 ⟨(some 113), none, .mov (.t 8)⟩,
 ⟨(some 114), none, .mov (.t 7)⟩,
 ⟨(some 115), none, .mov (.t 2)⟩,
 ⟨(some 116), none, .call (.c (.fn (.func 34) [] [])) [(.t 114), (.t 115)]⟩,
 ⟨(some 117), none, .call (.c (.fn (.func 16) [] [])) [(.t 112), (.t 113), (.t 116)]⟩,
 ⟨(some 111), none, .mov (.t 117)⟩,
 ⟨(some 118), none, .ext (.t 111) 0⟩,
 ⟨(some 119), none, .ext (.t 111) 1⟩,
 ⟨(some 120), none, .ext (.t 111) 2⟩,
 ⟨(some 121), none, .ext (.t 111) 3⟩,
 ⟨(some 27), none, .mov (.t 118)⟩,
 ⟨(some 28), none, .mov (.t 119)⟩,
 ⟨(some 29), none, .mov (.t 120)⟩,
 ⟨(some 30), none, .mov (.t 121)⟩] [27, 28, 29, 30])
 (.seq
 (.ops [
 ⟨(some 122), none, .mov (.t 30)⟩,
 ⟨(some 123), none, .bin .eql .no (.t 122) (.c (.int .i64 0))⟩,
 ⟨(some 124), none, .mov (.t 123)⟩,
 ⟨(some 125), (some (124, true)), .mov (.t 18)⟩,
 ⟨(some 126), (some (124, true)), .mov (.t 9)⟩,
 ⟨(some 127), (some (124, true)), .bin .eql .no (.t 125) (.t 126)⟩,
 ⟨(some 128), none, .pick (.t 124) (.t 127) (.c (.bool false))⟩,
 ⟨(some 129), none, .mov (.t 128)⟩,
 ⟨(some 130), (some (129, true)), .mov (.t 22)⟩,
 ⟨(some 131), (some (129, true)), .mov (.t 12)⟩,
 ⟨(some 132), (some (129, true)), .bin .eql .no (.t 130) (.t 131)⟩,
 ⟨(some 133), none, .pick (.t 129) (.t 132) (.c (.bool false))⟩,
 ⟨(some 134), none, .mov (.t 133)⟩,
 ⟨(some 135), (some (134, true)), .mov (.t 26)⟩,
 ⟨(some 136), (some (134, true)), .mov (.t 15)⟩,
 ⟨(some 137), (some (134, true)), .bin .eql .no (.t 135) (.t 136)⟩,
 ⟨(some 138), none, .pick (.t 134) (.t 137) (.c (.bool false))⟩,
 ⟨(some 139), none, .mov (.t 138)⟩,
 ⟨(some 140), (some (139, true)), .mov (.t 27)⟩,
 ⟨(some 141), (some (139, true)), .mov (.t 9)⟩,
 ⟨(some 142), (some (139, true)), .bin .geq .no (.t 140) (.t 141)⟩,
 ⟨(some 143), none, .pick (.t 139) (.t 142) (.c (.bool false))⟩,
 ⟨(some 144), none, .mov (.t 143)⟩,
 ⟨(some 145), (some (144, true)), .mov (.t 28)⟩,
 ⟨(some 146), (some (144, true)), .mov (.t 12)⟩,
 ⟨(some 147), (some (144, true)), .bin .geq .no (.t 145) (.t 146)⟩,
 ⟨(some 148), none, .pick (.t 144) (.t 147) (.c (.bool false))⟩,
 ⟨(some 149), none, .mov (.t 148)⟩,
 ⟨(some 150), (some (149, true)), .mov (.t 29)⟩,
 ⟨(some 151), (some (149, true)), .mov (.t 15)⟩,
 ⟨(some 152), (some (149, true)), .bin .geq .no (.t 150) (.t 151)⟩,
 ⟨(some 153), none, .pick (.t 149) (.t 152) (.c (.bool false))⟩,
 ⟨(some 6), none, .mov (.t 153)⟩] [6])
 .ret))))))))))),
 [.tmp 6]⟩

theorem c6 : compF Try.prog 6 = some sf6 := by kernel_rfl
end Go.Proofs.Ytihadgkgogfhcaa
