/- The law PatchRoutes, compiled. -/
import Derived.Test.YtbomimhfldmlbaaDoorRows
import Derived.Test.YtbomimhfldmlbaaDoorSE
import Derived.KernelRfl
set_option linter.unusedVariables false
set_option maxRecDepth 100000
namespace Go.Proofs.YtbomimhfldmlbaaDoor
open Go Go.Abs
/-- bellpull/bellpulllaw06.PatchRoutes -/
noncomputable def sf3 : SFun := ⟨[0, 1, 2, 3, 6, 7, 8, 9, 10, 11, 12, 13, 14, 15, 16, 48, 72, 97, 102, 112, 119], 140,
 (.seq
 (.ops [
 ⟨(some 3), none, .box (.t 0)⟩,
 ⟨(some 6), none, .mov (.c (.bool false))⟩] [3, 6])
 (.seq
 (.ops [
 ⟨(some 17), none, .ixA 3 1 (.t 3) (.c (.int .i64 0))⟩,
 ⟨(some 18), none, .load none (.t 17)⟩,
 ⟨(some 19), none, .ixA 3 1 (.t 3) (.c (.int .i64 1))⟩,
 ⟨(some 20), none, .load none (.t 19)⟩,
 ⟨(some 21), none, .ixA 3 1 (.t 3) (.c (.int .i64 2))⟩,
 ⟨(some 22), none, .load none (.t 21)⟩,
 ⟨(some 7), none, .mov (.t 18)⟩,
 ⟨(some 8), none, .mov (.t 20)⟩,
 ⟨(some 9), none, .mov (.t 22)⟩] [7, 8, 9])
 (.seq
 (.ops [
 ⟨(some 23), none, .mov (.t 1)⟩,
 ⟨(some 24), none, .call (.c (.fn (.func 17) [] [])) [(.t 23)]⟩,
 ⟨(some 25), none, .mov (.t 2)⟩,
 ⟨(some 26), none, .call (.c (.fn (.func 17) [] [])) [(.t 25)]⟩,
 ⟨(some 10), none, .mov (.t 24)⟩,
 ⟨(some 11), none, .mov (.t 26)⟩] [10, 11])
 (.seq
 (.ops [
 ⟨(some 28), none, .mov (.t 7)⟩,
 ⟨(some 29), none, .mov (.t 8)⟩,
 ⟨(some 30), none, .mov (.t 9)⟩,
 ⟨(some 31), none, .mov (.t 10)⟩,
 ⟨(some 32), none, .mov (.t 11)⟩,
 ⟨(some 33), none, .call (.c (.fn (.func 18) [] [])) [(.t 28), (.t 29), (.t 30), (.t 31), (.t 32)]⟩,
 ⟨(some 27), none, .mov (.t 33)⟩,
 ⟨(some 34), none, .ext (.t 27) 0⟩,
 ⟨(some 35), none, .ext (.t 27) 1⟩,
 ⟨(some 12), none, .mov (.t 34)⟩,
 ⟨(some 13), none, .mov (.t 35)⟩] [12, 13])
 (.seq
 (.ops [
 ⟨(some 37), none, .mov (.t 7)⟩,
 ⟨(some 38), none, .mov (.t 8)⟩,
 ⟨(some 39), none, .mov (.t 9)⟩,
 ⟨(some 40), none, .mov (.t 10)⟩,
 ⟨(some 41), none, .call (.c (.fn (.func 19) [] [])) [(.t 37), (.t 38), (.t 39), (.t 40)]⟩,
 ⟨(some 36), none, .mov (.t 41)⟩,
 ⟨(some 42), none, .ext (.t 36) 0⟩,
 ⟨(some 43), none, .ext (.t 36) 1⟩,
 ⟨(some 14), none, .mov (.t 42)⟩,
 ⟨(some 15), none, .mov (.t 43)⟩] [14, 15])
 (.seq
 (.seq
 (.ops [
 ⟨(some 44), none, .mov (.t 7)⟩,
 ⟨(some 45), none, .mov (.t 8)⟩,
 ⟨(some 46), none, .mov (.t 9)⟩,
 ⟨(some 47), none, .call (.c (.fn (.func 20) [] [])) [(.t 44), (.t 45), (.t 46)]⟩,
 ⟨(some 48), none, .not (.t 47)⟩] [48])
 (.cond (.t 48)
 (.seq
 (.ops [
 ⟨(some 49), none, .mov (.t 12)⟩,
 ⟨(some 50), none, .not (.t 49)⟩,
 ⟨(some 51), none, .mov (.t 50)⟩,
 ⟨(some 52), (some (51, true)), .mov (.t 13)⟩,
 ⟨(some 53), (some (51, true)), .bin .eql .no (.t 52) (.c (.int .i64 1))⟩,
 ⟨(some 54), none, .pick (.t 51) (.t 53) (.c (.bool false))⟩,
 ⟨(some 55), none, .mov (.t 54)⟩,
 ⟨(some 56), (some (55, true)), .mov (.t 14)⟩,
 ⟨(some 57), (some (55, true)), .lenS (.t 56)⟩,
 ⟨(some 58), (some (55, true)), .bin .eql .no (.t 57) (.c (.int .i64 0))⟩,
 ⟨(some 59), none, .pick (.t 55) (.t 58) (.c (.bool false))⟩,
 ⟨(some 60), none, .mov (.t 59)⟩,
 ⟨(some 61), (some (60, true)), .mov (.t 15)⟩,
 ⟨(some 62), (some (60, true)), .bin .eql .no (.t 61) (.c (.int .i64 1))⟩,
 ⟨(some 63), none, .pick (.t 60) (.t 62) (.c (.bool false))⟩,
 ⟨(some 64), none, .mov (.t 63)⟩,
 ⟨(some 65), (some (64, true)), .call (.c (.fn (.func 21) [] [])) []⟩,
 ⟨(some 66), none, .pick (.t 64) (.t 65) (.c (.bool false))⟩,
 ⟨(some 6), none, .mov (.t 66)⟩] [6])
 .ret)
 .skip))
 (.seq
 (.seq
 (.ops [
 ⟨(some 67), none, .mov (.t 7)⟩,
 ⟨(some 68), none, .mov (.t 8)⟩,
 ⟨(some 69), none, .bin .mul .no (.t 67) (.t 68)⟩,
 ⟨(some 70), none, .mov (.t 10)⟩,
 ⟨(some 71), none, .call (.c (.fn (.func 22) [] [])) [(.t 69), (.t 70)]⟩,
 ⟨(some 72), none, .not (.t 71)⟩] [72])
 (.cond (.t 72)
 (.seq
 (.ops [
 ⟨(some 73), none, .mov (.t 12)⟩,
 ⟨(some 74), none, .not (.t 73)⟩,
 ⟨(some 75), none, .mov (.t 74)⟩,
 ⟨(some 76), (some (75, true)), .mov (.t 13)⟩,
 ⟨(some 77), (some (75, true)), .bin .eql .no (.t 76) (.c (.int .i64 2))⟩,
 ⟨(some 78), none, .pick (.t 75) (.t 77) (.c (.bool false))⟩,
 ⟨(some 79), none, .mov (.t 78)⟩,
 ⟨(some 80), (some (79, true)), .mov (.t 14)⟩,
 ⟨(some 81), (some (79, true)), .lenS (.t 80)⟩,
 ⟨(some 82), (some (79, true)), .bin .eql .no (.t 81) (.c (.int .i64 0))⟩,
 ⟨(some 83), none, .pick (.t 79) (.t 82) (.c (.bool false))⟩,
 ⟨(some 84), none, .mov (.t 83)⟩,
 ⟨(some 85), (some (84, true)), .mov (.t 15)⟩,
 ⟨(some 86), (some (84, true)), .bin .eql .no (.t 85) (.c (.int .i64 2))⟩,
 ⟨(some 87), none, .pick (.t 84) (.t 86) (.c (.bool false))⟩,
 ⟨(some 88), none, .mov (.t 87)⟩,
 ⟨(some 89), (some (88, true)), .call (.c (.fn (.func 21) [] [])) []⟩,
 ⟨(some 90), none, .pick (.t 88) (.t 89) (.c (.bool false))⟩,
 ⟨(some 6), none, .mov (.t 90)⟩] [6])
 .ret)
 .skip))
 (.seq
 (.seq
 (.ops [
 ⟨(some 91), none, .mov (.t 7)⟩,
 ⟨(some 92), none, .mov (.t 8)⟩,
 ⟨(some 93), none, .bin .mul .no (.t 91) (.t 92)⟩,
 ⟨(some 94), none, .mov (.t 9)⟩,
 ⟨(some 95), none, .mov (.t 11)⟩,
 ⟨(some 96), none, .call (.c (.fn (.func 23) [] [])) [(.t 93), (.t 94), (.t 95)]⟩,
 ⟨(some 97), none, .not (.t 96)⟩] [97])
 (.cond (.t 97)
 (.seq
 (.ops [
 ⟨(some 98), none, .mov (.t 12)⟩,
 ⟨(some 99), none, .mov (.t 98)⟩,
 ⟨(some 100), (some (99, false)), .mov (.t 13)⟩,
 ⟨(some 101), (some (99, false)), .bin .neq .no (.t 100) (.c (.int .i64 2))⟩,
 ⟨(some 102), none, .pick (.t 99) (.c (.bool true)) (.t 101)⟩] [102])
 (.cond (.t 102)
 (.seq
 (.ops [
 ⟨(some 6), none, .mov (.c (.bool false))⟩] [6])
 .ret)
 .skip))
 (.seq
 (.ops [
 ⟨(some 103), none, .mov (.t 12)⟩,
 ⟨(some 104), none, .mov (.t 7)⟩,
 ⟨(some 105), none, .mov (.t 10)⟩,
 ⟨(some 106), none, .mov (.t 11)⟩,
 ⟨(some 107), none, .call (.c (.fn (.func 24) [] [])) [(.t 104), (.t 105), (.t 106)]⟩,
 ⟨(some 108), none, .bin .neq .bool (.t 103) (.t 107)⟩,
 ⟨(some 109), none, .mov (.t 108)⟩,
 ⟨(some 110), (some (109, false)), .mov (.t 13)⟩,
 ⟨(some 111), (some (109, false)), .bin .neq .no (.t 110) (.c (.int .i64 0))⟩,
 ⟨(some 112), none, .pick (.t 109) (.c (.bool true)) (.t 111)⟩] [112])
 (.cond (.t 112)
 (.seq
 (.ops [
 ⟨(some 6), none, .mov (.c (.bool false))⟩] [6])
 .ret)
 .skip))))
 (.seq
 (.seq
 (.ops [
 ⟨(some 113), none, .mov (.t 7)⟩,
 ⟨(some 114), none, .mov (.t 9)⟩,
 ⟨(some 115), none, .mov (.t 10)⟩,
 ⟨(some 116), none, .buildS [(.int .i64 0)] 0 1 []⟩,
 ⟨(some 117), none, .call (.c (.fn (.func 25) [] [])) [(.t 113), (.t 114), (.t 115), (.t 116)]⟩,
 ⟨(some 16), none, .mov (.t 117)⟩] [16])
 (.seq
 (.ops [
 ⟨(some 118), none, .mov (.t 16)⟩,
 ⟨(some 119), none, .bin .neq .slice (.t 118) (.c .nilsl)⟩] [119])
 (.cond (.t 119)
 (.seq
 (.ops [
 ⟨(some 120), none, .mov (.t 14)⟩,
 ⟨(some 121), none, .mov (.t 16)⟩,
 ⟨(some 122), none, .call (.c (.fn (.func 26) [] [])) [(.t 120), (.t 121)]⟩,
 ⟨(some 123), none, .mov (.t 122)⟩,
 ⟨(some 124), (some (123, true)), .mov (.t 15)⟩,
 ⟨(some 125), (some (123, true)), .bin .eql .no (.t 124) (.c (.int .i64 0))⟩,
 ⟨(some 126), none, .pick (.t 123) (.t 125) (.c (.bool false))⟩,
 ⟨(some 127), none, .mov (.t 126)⟩,
 ⟨(some 128), (some (127, true)), .call (.c (.fn (.func 21) [] [])) []⟩,
 ⟨(some 129), none, .pick (.t 127) (.t 128) (.c (.bool false))⟩,
 ⟨(some 6), none, .mov (.t 129)⟩] [6])
 .ret)
 .skip)))
 (.seq
 (.ops [
 ⟨(some 130), none, .mov (.t 14)⟩,
 ⟨(some 131), none, .lenS (.t 130)⟩,
 ⟨(some 132), none, .bin .eql .no (.t 131) (.c (.int .i64 0))⟩,
 ⟨(some 133), none, .mov (.t 132)⟩,
 ⟨(some 134), (some (133, true)), .mov (.t 15)⟩,
 ⟨(some 135), (some (133, true)), .bin .eql .no (.t 134) (.c (.int .i64 5))⟩,
 ⟨(some 136), none, .pick (.t 133) (.t 135) (.c (.bool false))⟩,
 ⟨(some 137), none, .mov (.t 136)⟩,
 ⟨(some 138), (some (137, true)), .call (.c (.fn (.func 21) [] [])) []⟩,
 ⟨(some 139), none, .pick (.t 137) (.t 138) (.c (.bool false))⟩,
 ⟨(some 6), none, .mov (.t 139)⟩] [6])
 .ret)))))))))),
 [.tmp 6]⟩

theorem c3 : compF Tryd.prog 3 = some sf3 := by kernel_rfl
end Go.Proofs.YtbomimhfldmlbaaDoor
