/- The program's functions, compiled. -/
import Derived.Test.YthalpbiifpfagaaRows
import Derived.Test.YthalpbiifpfagaaSE
import Derived.KernelRfl
set_option linter.unusedVariables false
set_option maxRecDepth 100000

namespace Go.Proofs.Ythalpbiifpfagaa

open Go Go.Abs
/-- gosem.cut.init -/
noncomputable def sf2 : SFun := ⟨[], 1,
 (.ops [
 ⟨(some 0), none, .call (.c (.fn (.func 1) [] [])) []⟩] []),
 []⟩

/-- bellpull/norm.Count -/
noncomputable def sf4 : SFun := ⟨[0, 2, 3, 6, 8], 12,
 (.seq
 (.ops [
 ⟨(some 2), none, .mov (.c (.int .i64 0))⟩,
 ⟨(some 3), none, .mov (.c (.int .i64 0))⟩] [2, 3])
 (.seq
 (.seq
 (.ops [
 ⟨(some 4), none, .mov (.t 0)⟩,
 ⟨(some 5), none, .call (.c (.fn (.func 10) [] [])) [(.t 4), (.c (.int .i64 0)), (.c (.int .i64 10000))]⟩,
 ⟨(some 6), none, .not (.t 5)⟩] [6])
 (.cond (.t 6)
 (.seq
 (.ops [
 ⟨(some 2), none, .mov (.c (.int .i64 0))⟩,
 ⟨(some 3), none, .mov (.c (.int .i64 1))⟩] [2, 3])
 .ret)
 .skip))
 (.seq
 (.seq
 (.ops [
 ⟨(some 7), none, .mov (.t 0)⟩,
 ⟨(some 8), none, .bin .eql .no (.t 7) (.c (.int .i64 0))⟩] [8])
 (.cond (.t 8)
 (.seq
 (.ops [
 ⟨(some 2), none, .mov (.c (.int .i64 1))⟩,
 ⟨(some 3), none, .mov (.c (.int .i64 0))⟩] [2, 3])
 .ret)
 .skip))
 (.seq
 (.ops [
 ⟨(some 9), none, .mov (.t 0)⟩,
 ⟨(some 10), none, .call (.c (.fn (.func 11) [] [])) [(.t 9), (.c (.int .i64 4))]⟩,
 ⟨(some 11), none, .bin .mul .no (.c (.int .i64 8)) (.t 10)⟩,
 ⟨(some 2), none, .mov (.t 11)⟩,
 ⟨(some 3), none, .mov (.c (.int .i64 0))⟩] [2, 3])
 .ret)))),
 [.tmp 2, .tmp 3]⟩

/-- bellpull/norm.Hurwitz -/
noncomputable def sf5 : SFun := ⟨[0, 2, 3, 6], 10,
 (.seq
 (.ops [
 ⟨(some 2), none, .mov (.c (.int .i64 0))⟩,
 ⟨(some 3), none, .mov (.c (.int .i64 0))⟩] [2, 3])
 (.seq
 (.seq
 (.ops [
 ⟨(some 4), none, .mov (.t 0)⟩,
 ⟨(some 5), none, .call (.c (.fn (.func 10) [] [])) [(.t 4), (.c (.int .i64 1)), (.c (.int .i64 10000))]⟩,
 ⟨(some 6), none, .not (.t 5)⟩] [6])
 (.cond (.t 6)
 (.seq
 (.ops [
 ⟨(some 2), none, .mov (.c (.int .i64 0))⟩,
 ⟨(some 3), none, .mov (.c (.int .i64 1))⟩] [2, 3])
 .ret)
 .skip))
 (.seq
 (.ops [
 ⟨(some 7), none, .mov (.t 0)⟩,
 ⟨(some 8), none, .call (.c (.fn (.func 11) [] [])) [(.t 7), (.c (.int .i64 2))]⟩,
 ⟨(some 9), none, .bin .mul .no (.c (.int .i64 24)) (.t 8)⟩,
 ⟨(some 2), none, .mov (.t 9)⟩,
 ⟨(some 3), none, .mov (.c (.int .i64 0))⟩] [2, 3])
 .ret))),
 [.tmp 2, .tmp 3]⟩

/-- bellpull/bellpullref01.In -/
noncomputable def sf6 : SFun := ⟨[0, 1, 2, 6], 15,
 (.seq
 (.ops [
 ⟨(some 6), none, .mov (.c (.bool false))⟩] [6])
 (.seq
 (.ops [
 ⟨(some 7), none, .mov (.t 0)⟩,
 ⟨(some 8), none, .mov (.t 1)⟩,
 ⟨(some 9), none, .bin .geq .no (.t 7) (.t 8)⟩,
 ⟨(some 10), none, .mov (.t 9)⟩,
 ⟨(some 11), (some (10, true)), .mov (.t 0)⟩,
 ⟨(some 12), (some (10, true)), .mov (.t 2)⟩,
 ⟨(some 13), (some (10, true)), .bin .leq .no (.t 11) (.t 12)⟩,
 ⟨(some 14), none, .pick (.t 10) (.t 13) (.c (.bool false))⟩,
 ⟨(some 6), none, .mov (.t 14)⟩] [6])
 .ret)),
 [.tmp 6]⟩

/-- bellpull/bellpulllaw04.lives -/
noncomputable def sf7 : SFun := ⟨[0, 1, 2, 3, 4, 5, 6, 8, 9, 10, 11, 12, 13, 14, 15, 16, 17, 18, 19], 140,
 (.seq
 (.ops [
 ⟨(some 0), none, .mov (.c (.bool false))⟩] [0])
 (.seq
 (.ops [
 ⟨(some 21), none, .build [(.int .i64 0), (.int .i64 0), (.int .i64 0), (.int .i64 0)] [(0, 1), (1, 1), (2, 1), (3, 1)] [(1, (.c (.int .i64 2)))]⟩,
 ⟨(some 22), none, .build [(.int .i64 0), (.int .i64 0), (.int .i64 0), (.int .i64 0)] [(0, 1), (1, 1), (2, 1), (3, 1)] [(2, (.c (.int .i64 2)))]⟩,
 ⟨(some 23), none, .call (.c (.fn (.func 12) [] [])) [(.t 21), (.t 22)]⟩,
 ⟨(some 20), none, .mov (.t 23)⟩,
 ⟨(some 24), none, .ext (.t 20) 0⟩,
 ⟨(some 25), none, .ext (.t 20) 1⟩,
 ⟨(some 1), none, .new [(.int .i64 0), (.int .i64 0), (.int .i64 0), (.int .i64 0)]⟩,
 ⟨none, none, .store 4 (.t 1) (.t 24)⟩,
 ⟨(some 2), none, .mov (.t 25)⟩] [1, 2])
 (.seq
 (.ops [
 ⟨(some 27), none, .build [(.int .i64 0), (.int .i64 0), (.int .i64 0), (.int .i64 0)] [(0, 1), (1, 1), (2, 1), (3, 1)] [(0, (.c (.int .i64 1))), (1, (.c (.int .i64 1))), (2, (.c (.int .i64 1))), (3, (.c (.int .i64 1)))]⟩,
 ⟨(some 28), none, .call (.c (.fn (.func 13) [] [])) [(.t 27)]⟩,
 ⟨(some 26), none, .mov (.t 28)⟩,
 ⟨(some 29), none, .ext (.t 26) 0⟩,
 ⟨(some 30), none, .ext (.t 26) 1⟩,
 ⟨(some 3), none, .mov (.t 29)⟩,
 ⟨(some 4), none, .mov (.t 30)⟩] [3, 4])
 (.seq
 (.ops [
 ⟨(some 32), none, .call (.c (.fn (.func 14) [] [])) [(.c (.int .i64 7))]⟩,
 ⟨(some 31), none, .mov (.t 32)⟩,
 ⟨(some 33), none, .ext (.t 31) 0⟩,
 ⟨(some 34), none, .ext (.t 31) 1⟩,
 ⟨(some 5), none, .mov (.t 33)⟩,
 ⟨(some 6), none, .mov (.t 34)⟩] [5, 6])
 (.seq
 (.ops [
 ⟨(some 36), none, .call (.c (.fn (.func 15) [] [])) [(.c (.int .i64 7))]⟩,
 ⟨(some 35), none, .mov (.t 36)⟩,
 ⟨(some 37), none, .ext (.t 35) 0⟩,
 ⟨(some 38), none, .ext (.t 35) 1⟩,
 ⟨(some 7), none, .mov (.t 37)⟩,
 ⟨(some 8), none, .mov (.t 38)⟩] [8])
 (.seq
 (.ops [
 ⟨(some 40), none, .call (.c (.fn (.func 4) [] [])) [(.c (.int .i64 4))]⟩,
 ⟨(some 39), none, .mov (.t 40)⟩,
 ⟨(some 41), none, .ext (.t 39) 0⟩,
 ⟨(some 42), none, .ext (.t 39) 1⟩,
 ⟨(some 9), none, .mov (.t 41)⟩,
 ⟨(some 10), none, .mov (.t 42)⟩] [9, 10])
 (.seq
 (.ops [
 ⟨(some 44), none, .call (.c (.fn (.func 5) [] [])) [(.c (.int .i64 2))]⟩,
 ⟨(some 43), none, .mov (.t 44)⟩,
 ⟨(some 45), none, .ext (.t 43) 0⟩,
 ⟨(some 46), none, .ext (.t 43) 1⟩,
 ⟨(some 11), none, .mov (.t 45)⟩,
 ⟨(some 12), none, .mov (.t 46)⟩] [11, 12])
 (.seq
 (.ops [
 ⟨(some 48), none, .call (.c (.fn (.func 16) [] [])) [(.c (.int .i64 5))]⟩,
 ⟨(some 47), none, .mov (.t 48)⟩,
 ⟨(some 49), none, .ext (.t 47) 0⟩,
 ⟨(some 50), none, .ext (.t 47) 1⟩,
 ⟨(some 13), none, .new [(.int .i64 0), (.int .i64 0), (.int .i64 0), (.int .i64 0)]⟩,
 ⟨none, none, .store 4 (.t 13) (.t 49)⟩,
 ⟨(some 14), none, .mov (.t 50)⟩] [13, 14])
 (.seq
 (.ops [
 ⟨(some 52), none, .build [(.int .i64 0), (.int .i64 0), (.int .i64 0), (.int .i64 0)] [(0, 1), (1, 1), (2, 1), (3, 1)] [(0, (.c (.int .i64 4)))]⟩,
 ⟨(some 53), none, .build [(.int .i64 0), (.int .i64 0), (.int .i64 0), (.int .i64 0)] [(0, 1), (1, 1), (2, 1), (3, 1)] [(0, (.c (.int .i64 2))), (1, (.c (.int .i64 2)))]⟩,
 ⟨(some 54), none, .call (.c (.fn (.func 17) [] [])) [(.t 52), (.t 53)]⟩,
 ⟨(some 51), none, .mov (.t 54)⟩,
 ⟨(some 55), none, .ext (.t 51) 0⟩,
 ⟨(some 56), none, .ext (.t 51) 1⟩,
 ⟨(some 15), none, .new [(.int .i64 0), (.int .i64 0), (.int .i64 0), (.int .i64 0)]⟩,
 ⟨none, none, .store 4 (.t 15) (.t 55)⟩,
 ⟨(some 16), none, .mov (.t 56)⟩] [15, 16])
 (.seq
 (.ops [
 ⟨(some 58), none, .build [(.int .i64 0), (.int .i64 0), (.int .i64 0), (.int .i64 0)] [(0, 1), (1, 1), (2, 1), (3, 1)] [(0, (.c (.int .i64 4)))]⟩,
 ⟨(some 59), none, .build [(.int .i64 0), (.int .i64 0), (.int .i64 0), (.int .i64 0)] [(0, 1), (1, 1), (2, 1), (3, 1)] [(0, (.c (.int .i64 2))), (1, (.c (.int .i64 2)))]⟩,
 ⟨(some 60), none, .call (.c (.fn (.func 18) [] [])) [(.t 58), (.t 59)]⟩,
 ⟨(some 57), none, .mov (.t 60)⟩,
 ⟨(some 61), none, .ext (.t 57) 0⟩,
 ⟨(some 62), none, .ext (.t 57) 1⟩,
 ⟨(some 63), none, .ext (.t 57) 2⟩,
 ⟨(some 17), none, .new [(.int .i64 0), (.int .i64 0), (.int .i64 0), (.int .i64 0)]⟩,
 ⟨(some 18), none, .new [(.int .i64 0), (.int .i64 0), (.int .i64 0), (.int .i64 0)]⟩,
 ⟨none, none, .store 4 (.t 17) (.t 61)⟩,
 ⟨none, none, .store 4 (.t 18) (.t 62)⟩,
 ⟨(some 19), none, .mov (.t 63)⟩] [17, 18, 19])
 (.seq
 (.ops [
 ⟨(some 64), none, .load (some 4) (.t 1)⟩,
 ⟨(some 65), none, .build [(.int .i64 0), (.int .i64 0), (.int .i64 0), (.int .i64 0)] [(0, 1), (1, 1), (2, 1), (3, 1)] [(3, (.c (.int .i64 2)))]⟩,
 ⟨(some 66), none, .bin .eql (.flat 4) (.t 64) (.t 65)⟩,
 ⟨(some 67), none, .mov (.t 66)⟩,
 ⟨(some 68), (some (67, true)), .mov (.t 2)⟩,
 ⟨(some 69), (some (67, true)), .bin .eql .no (.t 68) (.c (.int .i64 0))⟩,
 ⟨(some 70), none, .pick (.t 67) (.t 69) (.c (.bool false))⟩,
 ⟨(some 71), none, .mov (.t 70)⟩,
 ⟨(some 72), (some (71, true)), .mov (.t 3)⟩,
 ⟨(some 73), (some (71, true)), .bin .eql .no (.t 72) (.c (.int .i64 1))⟩,
 ⟨(some 74), none, .pick (.t 71) (.t 73) (.c (.bool false))⟩,
 ⟨(some 75), none, .mov (.t 74)⟩,
 ⟨(some 76), (some (75, true)), .mov (.t 4)⟩,
 ⟨(some 77), (some (75, true)), .bin .eql .no (.t 76) (.c (.int .i64 0))⟩,
 ⟨(some 78), none, .pick (.t 75) (.t 77) (.c (.bool false))⟩,
 ⟨(some 79), none, .mov (.t 78)⟩,
 ⟨(some 80), (some (79, true)), .mov (.t 5)⟩,
 ⟨(some 81), (some (79, true)), .buildS [(.int .i64 0)] 4 1 [(0, (.c (.int .i64 2))), (1, (.c (.int .i64 1))), (2, (.c (.int .i64 1))), (3, (.c (.int .i64 1)))]⟩,
 ⟨(some 82), (some (79, true)), .call (.c (.fn (.func 19) [] [])) [(.t 80), (.t 81)]⟩,
 ⟨(some 83), none, .pick (.t 79) (.t 82) (.c (.bool false))⟩,
 ⟨(some 84), none, .mov (.t 83)⟩,
 ⟨(some 85), (some (84, true)), .mov (.t 6)⟩,
 ⟨(some 86), (some (84, true)), .bin .eql .no (.t 85) (.c (.int .i64 0))⟩,
 ⟨(some 87), none, .pick (.t 84) (.t 86) (.c (.bool false))⟩,
 ⟨(some 88), none, .mov (.t 87)⟩,
 ⟨(some 89), (some (88, true)), .mov (.t 8)⟩,
 ⟨(some 90), (some (88, true)), .bin .eql .no (.t 89) (.c (.int .i64 5))⟩,
 ⟨(some 91), none, .pick (.t 88) (.t 90) (.c (.bool false))⟩,
 ⟨(some 92), none, .mov (.t 91)⟩,
 ⟨(some 93), (some (92, true)), .mov (.t 9)⟩,
 ⟨(some 94), (some (92, true)), .bin .eql .no (.t 93) (.c (.int .i64 24))⟩,
 ⟨(some 95), none, .pick (.t 92) (.t 94) (.c (.bool false))⟩,
 ⟨(some 96), none, .mov (.t 95)⟩,
 ⟨(some 97), (some (96, true)), .mov (.t 10)⟩,
 ⟨(some 98), (some (96, true)), .bin .eql .no (.t 97) (.c (.int .i64 0))⟩,
 ⟨(some 99), none, .pick (.t 96) (.t 98) (.c (.bool false))⟩,
 ⟨(some 100), none, .mov (.t 99)⟩,
 ⟨(some 101), (some (100, true)), .mov (.t 11)⟩,
 ⟨(some 102), (some (100, true)), .bin .eql .no (.t 101) (.c (.int .i64 24))⟩,
 ⟨(some 103), none, .pick (.t 100) (.t 102) (.c (.bool false))⟩,
 ⟨(some 104), none, .mov (.t 103)⟩,
 ⟨(some 105), (some (104, true)), .mov (.t 12)⟩,
 ⟨(some 106), (some (104, true)), .bin .eql .no (.t 105) (.c (.int .i64 0))⟩,
 ⟨(some 107), none, .pick (.t 104) (.t 106) (.c (.bool false))⟩,
 ⟨(some 108), none, .mov (.t 107)⟩,
 ⟨(some 109), (some (108, true)), .load (some 4) (.t 13)⟩,
 ⟨(some 110), (some (108, true)), .build [(.int .i64 0), (.int .i64 0), (.int .i64 0), (.int .i64 0)] [(0, 1), (1, 1), (2, 1), (3, 1)] [(0, (.c (.int .i64 4))), (1, (.c (.int .i64 2)))]⟩,
 ⟨(some 111), (some (108, true)), .bin .eql (.flat 4) (.t 109) (.t 110)⟩,
 ⟨(some 112), none, .pick (.t 108) (.t 111) (.c (.bool false))⟩,
 ⟨(some 113), none, .mov (.t 112)⟩,
 ⟨(some 114), (some (113, true)), .mov (.t 14)⟩,
 ⟨(some 115), (some (113, true)), .bin .eql .no (.t 114) (.c (.int .i64 0))⟩,
 ⟨(some 116), none, .pick (.t 113) (.t 115) (.c (.bool false))⟩,
 ⟨(some 117), none, .mov (.t 116)⟩,
 ⟨(some 118), (some (117, true)), .load (some 4) (.t 15)⟩,
 ⟨(some 119), (some (117, true)), .build [(.int .i64 0), (.int .i64 0), (.int .i64 0), (.int .i64 0)] [(0, 1), (1, 1), (2, 1), (3, 1)] [(0, (.c (.int .i64 2))), (1, (.c (.int .i64 2)))]⟩,
 ⟨(some 120), (some (117, true)), .bin .eql (.flat 4) (.t 118) (.t 119)⟩,
 ⟨(some 121), none, .pick (.t 117) (.t 120) (.c (.bool false))⟩,
 ⟨(some 122), none, .mov (.t 121)⟩,
 ⟨(some 123), (some (122, true)), .mov (.t 16)⟩,
 ⟨(some 124), (some (122, true)), .bin .eql .no (.t 123) (.c (.int .i64 0))⟩,
 ⟨(some 125), none, .pick (.t 122) (.t 124) (.c (.bool false))⟩,
 ⟨(some 126), none, .mov (.t 125)⟩,
 ⟨(some 127), (some (126, true)), .load (some 4) (.t 17)⟩,
 ⟨(some 128), (some (126, true)), .build [(.int .i64 0), (.int .i64 0), (.int .i64 0), (.int .i64 0)] [(0, 1), (1, 1), (2, 1), (3, 1)] [(0, (.c (.int .i64 2))), (1, (.c (.int .i64 (-2))))]⟩,
 ⟨(some 129), (some (126, true)), .bin .eql (.flat 4) (.t 127) (.t 128)⟩,
 ⟨(some 130), none, .pick (.t 126) (.t 129) (.c (.bool false))⟩,
 ⟨(some 131), none, .mov (.t 130)⟩,
 ⟨(some 132), (some (131, true)), .load (some 4) (.t 18)⟩,
 ⟨(some 133), (some (131, true)), .build [(.int .i64 0), (.int .i64 0), (.int .i64 0), (.int .i64 0)] [(0, 1), (1, 1), (2, 1), (3, 1)] []⟩,
 ⟨(some 134), (some (131, true)), .bin .eql (.flat 4) (.t 132) (.t 133)⟩,
 ⟨(some 135), none, .pick (.t 131) (.t 134) (.c (.bool false))⟩,
 ⟨(some 136), none, .mov (.t 135)⟩,
 ⟨(some 137), (some (136, true)), .mov (.t 19)⟩,
 ⟨(some 138), (some (136, true)), .bin .eql .no (.t 137) (.c (.int .i64 0))⟩,
 ⟨(some 139), none, .pick (.t 136) (.t 138) (.c (.bool false))⟩,
 ⟨(some 0), none, .mov (.t 139)⟩] [0])
 .ret))))))))))),
 [.tmp 0]⟩

/-- bellpull/bellpullref04.Count -/
noncomputable def sf8 : SFun := ⟨[0, 2, 3, 4, 5, 10], 27,
 (.seq
 (.ops [
 ⟨(some 2), none, .mov (.c (.int .i64 0))⟩] [2])
 (.seq
 (.ops [
 ⟨(some 6), none, .mov (.t 0)⟩,
 ⟨(some 7), none, .call (.c (.fn (.func 20) [] [])) [(.t 6), (.c (.int .i64 100)), (.c (.int .i64 2))]⟩,
 ⟨(some 3), none, .mov (.t 7)⟩,
 ⟨(some 4), none, .mov (.c (.int .i64 0))⟩] [3, 4])
 (.seq
 (.seq
 (.ops [
 ⟨(some 5), none, .mov (.c (.int .i64 0))⟩] [5])
 (.block 0
 (.loop
 (.seq
 (.seq
 (.ops [
 ⟨(some 8), none, .mov (.t 5)⟩,
 ⟨(some 9), none, .mov (.t 0)⟩,
 ⟨(some 10), none, .bin .leq .no (.t 8) (.t 9)⟩] [10])
 (.cond (.t 10)
 .skip
 (.exit 0)))
 (.seq
 (.block 1
 (.ops [
 ⟨(some 13), none, .mov (.t 4)⟩,
 ⟨(some 14), none, .mov (.t 3)⟩,
 ⟨(some 15), none, .mov (.t 5)⟩,
 ⟨(some 16), none, .ixS 1 (.t 14) (.t 15)⟩,
 ⟨(some 17), none, .load none (.t 16)⟩,
 ⟨(some 18), none, .mov (.t 3)⟩,
 ⟨(some 19), none, .mov (.t 0)⟩,
 ⟨(some 20), none, .mov (.t 5)⟩,
 ⟨(some 21), none, .bin .sub .no (.t 19) (.t 20)⟩,
 ⟨(some 22), none, .ixS 1 (.t 18) (.t 21)⟩,
 ⟨(some 23), none, .load none (.t 22)⟩,
 ⟨(some 24), none, .bin .mul .no (.t 17) (.t 23)⟩,
 ⟨(some 25), none, .bin .add .no (.t 13) (.t 24)⟩,
 ⟨(some 4), none, .mov (.t 25)⟩] [4]))
 (.ops [
 ⟨(some 11), none, .mov (.t 5)⟩,
 ⟨(some 12), none, .bin .add .no (.t 11) (.c (.int .i64 1))⟩,
 ⟨(some 5), none, .mov (.t 12)⟩] [5]))))))
 (.seq
 (.ops [
 ⟨(some 26), none, .mov (.t 4)⟩,
 ⟨(some 2), none, .mov (.t 26)⟩] [2])
 .ret)))),
 [.tmp 2]⟩

/-- bellpull/bellpullref04.Hurwitz -/
noncomputable def sf9 : SFun := ⟨[0, 2, 3, 4, 5, 14], 32,
 (.seq
 (.ops [
 ⟨(some 2), none, .mov (.c (.int .i64 0))⟩] [2])
 (.seq
 (.ops [
 ⟨(some 6), none, .mov (.t 0)⟩,
 ⟨(some 7), none, .bin .mul .no (.c (.int .i64 4)) (.t 6)⟩,
 ⟨(some 8), none, .call (.c (.fn (.func 20) [] [])) [(.t 7), (.c (.int .i64 200)), (.c (.int .i64 1))]⟩,
 ⟨(some 9), none, .mov (.t 0)⟩,
 ⟨(some 10), none, .call (.c (.fn (.func 8) [] [])) [(.t 9)]⟩,
 ⟨(some 3), none, .mov (.t 8)⟩,
 ⟨(some 4), none, .mov (.t 10)⟩] [3, 4])
 (.seq
 (.seq
 (.ops [
 ⟨(some 5), none, .mov (.c (.int .i64 0))⟩] [5])
 (.block 0
 (.loop
 (.seq
 (.seq
 (.ops [
 ⟨(some 11), none, .mov (.t 5)⟩,
 ⟨(some 12), none, .mov (.t 0)⟩,
 ⟨(some 13), none, .bin .mul .no (.c (.int .i64 4)) (.t 12)⟩,
 ⟨(some 14), none, .bin .leq .no (.t 11) (.t 13)⟩] [14])
 (.cond (.t 14)
 .skip
 (.exit 0)))
 (.seq
 (.block 1
 (.ops [
 ⟨(some 17), none, .mov (.t 4)⟩,
 ⟨(some 18), none, .mov (.t 3)⟩,
 ⟨(some 19), none, .mov (.t 5)⟩,
 ⟨(some 20), none, .ixS 1 (.t 18) (.t 19)⟩,
 ⟨(some 21), none, .load none (.t 20)⟩,
 ⟨(some 22), none, .mov (.t 3)⟩,
 ⟨(some 23), none, .mov (.t 0)⟩,
 ⟨(some 24), none, .bin .mul .no (.c (.int .i64 4)) (.t 23)⟩,
 ⟨(some 25), none, .mov (.t 5)⟩,
 ⟨(some 26), none, .bin .sub .no (.t 24) (.t 25)⟩,
 ⟨(some 27), none, .ixS 1 (.t 22) (.t 26)⟩,
 ⟨(some 28), none, .load none (.t 27)⟩,
 ⟨(some 29), none, .bin .mul .no (.t 21) (.t 28)⟩,
 ⟨(some 30), none, .bin .add .no (.t 17) (.t 29)⟩,
 ⟨(some 4), none, .mov (.t 30)⟩] [4]))
 (.ops [
 ⟨(some 15), none, .mov (.t 5)⟩,
 ⟨(some 16), none, .bin .add .no (.t 15) (.c (.int .i64 1))⟩,
 ⟨(some 5), none, .mov (.t 16)⟩] [5]))))))
 (.seq
 (.ops [
 ⟨(some 31), none, .mov (.t 4)⟩,
 ⟨(some 2), none, .mov (.t 31)⟩] [2])
 .ret)))),
 [.tmp 2]⟩

/-- bellpull/norm.within -/
noncomputable def sf10 : SFun := ⟨[0, 1, 2, 6], 15,
 (.seq
 (.ops [
 ⟨(some 6), none, .mov (.c (.bool false))⟩] [6])
 (.seq
 (.ops [
 ⟨(some 7), none, .mov (.t 1)⟩,
 ⟨(some 8), none, .mov (.t 0)⟩,
 ⟨(some 9), none, .bin .leq .no (.t 7) (.t 8)⟩,
 ⟨(some 10), none, .mov (.t 9)⟩,
 ⟨(some 11), (some (10, true)), .mov (.t 0)⟩,
 ⟨(some 12), (some (10, true)), .mov (.t 2)⟩,
 ⟨(some 13), (some (10, true)), .bin .leq .no (.t 11) (.t 12)⟩,
 ⟨(some 14), none, .pick (.t 10) (.t 13) (.c (.bool false))⟩,
 ⟨(some 6), none, .mov (.t 14)⟩] [6])
 .ret)),
 [.tmp 6]⟩

/-- bellpull/norm.sumOfDivisors -/
noncomputable def sf11 : SFun := ⟨[0, 1, 4, 5, 6, 9, 21], 26,
 (.seq
 (.ops [
 ⟨(some 4), none, .mov (.c (.int .i64 0))⟩] [4])
 (.seq
 (.ops [
 ⟨(some 5), none, .mov (.c (.int .i64 0))⟩] [5])
 (.seq
 (.seq
 (.ops [
 ⟨(some 6), none, .mov (.c (.int .i64 1))⟩] [6])
 (.block 0
 (.loop
 (.seq
 (.seq
 (.ops [
 ⟨(some 7), none, .mov (.t 6)⟩,
 ⟨(some 8), none, .mov (.t 0)⟩,
 ⟨(some 9), none, .bin .leq .no (.t 7) (.t 8)⟩] [9])
 (.cond (.t 9)
 .skip
 (.exit 0)))
 (.seq
 (.block 1
 (.seq
 (.ops [
 ⟨(some 12), none, .mov (.t 0)⟩,
 ⟨(some 13), none, .mov (.t 6)⟩,
 ⟨(some 14), none, .bin .rem .no (.t 12) (.t 13)⟩,
 ⟨(some 15), none, .bin .eql .no (.t 14) (.c (.int .i64 0))⟩,
 ⟨(some 16), none, .mov (.t 15)⟩,
 ⟨(some 17), (some (16, true)), .mov (.t 6)⟩,
 ⟨(some 18), (some (16, true)), .mov (.t 1)⟩,
 ⟨(some 19), (some (16, true)), .bin .rem .no (.t 17) (.t 18)⟩,
 ⟨(some 20), (some (16, true)), .bin .neq .no (.t 19) (.c (.int .i64 0))⟩,
 ⟨(some 21), none, .pick (.t 16) (.t 20) (.c (.bool false))⟩] [21])
 (.cond (.t 21)
 (.ops [
 ⟨(some 22), none, .mov (.t 5)⟩,
 ⟨(some 23), none, .mov (.t 6)⟩,
 ⟨(some 24), none, .bin .add .no (.t 22) (.t 23)⟩,
 ⟨(some 5), none, .mov (.t 24)⟩] [5])
 .skip)))
 (.ops [
 ⟨(some 10), none, .mov (.t 6)⟩,
 ⟨(some 11), none, .bin .add .no (.t 10) (.c (.int .i64 1))⟩,
 ⟨(some 6), none, .mov (.t 11)⟩] [6]))))))
 (.seq
 (.ops [
 ⟨(some 25), none, .mov (.t 5)⟩,
 ⟨(some 4), none, .mov (.t 25)⟩] [4])
 .ret)))),
 [.tmp 4]⟩

/-- bellpull/norm.Mul -/
noncomputable def sf12 : SFun := ⟨[0, 1, 2, 3, 4, 5, 6, 12], 22,
 (.seq
 (.ops [
 ⟨(some 2), none, .box (.t 0)⟩,
 ⟨(some 3), none, .box (.t 1)⟩,
 ⟨(some 4), none, .new [(.int .i64 0), (.int .i64 0), (.int .i64 0), (.int .i64 0)]⟩,
 ⟨(some 5), none, .mov (.c (.int .i64 0))⟩] [2, 3, 4, 5])
 (.seq
 (.seq
 (.ops [
 ⟨(some 7), none, .load (some 4) (.t 2)⟩,
 ⟨(some 8), none, .load (some 4) (.t 3)⟩,
 ⟨(some 9), none, .buildS [(.int .i64 0), (.int .i64 0), (.int .i64 0), (.int .i64 0)] 2 4 [(0, (.t 7)), (1, (.t 8))]⟩,
 ⟨(some 10), none, .call (.c (.fn (.func 21) [] [])) [(.t 9)]⟩,
 ⟨(some 6), none, .mov (.t 10)⟩] [6])
 (.seq
 (.ops [
 ⟨(some 11), none, .mov (.t 6)⟩,
 ⟨(some 12), none, .bin .neq .no (.t 11) (.c (.int .i64 0))⟩] [12])
 (.cond (.t 12)
 (.seq
 (.ops [
 ⟨(some 13), none, .build [(.int .i64 0), (.int .i64 0), (.int .i64 0), (.int .i64 0)] [(0, 1), (1, 1), (2, 1), (3, 1)] []⟩,
 ⟨(some 14), none, .mov (.t 6)⟩,
 ⟨none, none, .store 4 (.t 4) (.t 13)⟩,
 ⟨(some 5), none, .mov (.t 14)⟩] [5])
 .ret)
 .skip)))
 (.seq
 (.draw [
 ⟨⟨(some 15), none, .load (some 4) (.t 2)⟩, true, false⟩,
 ⟨⟨(some 16), none, .call (.c (.fn (.func 23) [] [])) [(.t 15)]⟩, false, true⟩,
 ⟨⟨(some 17), none, .load (some 4) (.t 3)⟩, true, false⟩,
 ⟨⟨(some 18), none, .call (.c (.fn (.func 23) [] [])) [(.t 17)]⟩, false, true⟩,
 ⟨⟨(some 19), none, .buildS [(.int .i64 0), (.int .i64 0), (.int .i64 0), (.int .i64 0)] 2 4 [(0, (.t 16)), (1, (.t 18))]⟩, false, true⟩,
 ⟨⟨(some 20), none, .call (.c (.fn (.func 22) [] [])) [(.t 19)]⟩, false, true⟩,
 ⟨⟨(some 21), none, .call (.c (.fn (.func 24) [] [])) [(.t 20)]⟩, false, true⟩,
 ⟨⟨none, none, .store 4 (.t 4) (.t 21)⟩, false, true⟩,
 ⟨⟨(some 5), none, .mov (.c (.int .i64 0))⟩, false, false⟩] [0, 1, 0, 7, 15, 31, 63, 127, 255] [5])
 .ret))),
 [.cell 4 (some 4), .tmp 5]⟩

/-- bellpull/norm.Norm -/
noncomputable def sf13 : SFun := ⟨[0, 1, 2, 3, 4, 9], 14,
 (.seq
 (.ops [
 ⟨(some 1), none, .box (.t 0)⟩,
 ⟨(some 2), none, .mov (.c (.int .i64 0))⟩,
 ⟨(some 3), none, .mov (.c (.int .i64 0))⟩] [1, 2, 3])
 (.seq
 (.seq
 (.ops [
 ⟨(some 5), none, .load (some 4) (.t 1)⟩,
 ⟨(some 6), none, .buildS [(.int .i64 0), (.int .i64 0), (.int .i64 0), (.int .i64 0)] 1 4 [(0, (.t 5))]⟩,
 ⟨(some 7), none, .call (.c (.fn (.func 21) [] [])) [(.t 6)]⟩,
 ⟨(some 4), none, .mov (.t 7)⟩] [4])
 (.seq
 (.ops [
 ⟨(some 8), none, .mov (.t 4)⟩,
 ⟨(some 9), none, .bin .neq .no (.t 8) (.c (.int .i64 0))⟩] [9])
 (.cond (.t 9)
 (.seq
 (.ops [
 ⟨(some 10), none, .mov (.t 4)⟩,
 ⟨(some 2), none, .mov (.c (.int .i64 0))⟩,
 ⟨(some 3), none, .mov (.t 10)⟩] [2, 3])
 .ret)
 .skip)))
 (.seq
 (.ops [
 ⟨(some 11), none, .load (some 4) (.t 1)⟩,
 ⟨(some 12), none, .call (.c (.fn (.func 23) [] [])) [(.t 11)]⟩,
 ⟨(some 13), none, .call (.c (.fn (.func 25) [] [])) [(.t 12)]⟩,
 ⟨(some 2), none, .mov (.t 13)⟩,
 ⟨(some 3), none, .mov (.c (.int .i64 0))⟩] [2, 3])
 .ret))),
 [.tmp 2, .tmp 3]⟩

/-- bellpull/norm.Four -/
noncomputable def sf14 : SFun := ⟨[0, 2, 3], 8,
 (.seq
 (.ops [
 ⟨(some 2), none, .mov (.c .nilsl)⟩,
 ⟨(some 3), none, .mov (.c (.int .i64 0))⟩] [2, 3])
 (.seq
 (.ops [
 ⟨(some 4), none, .mov (.t 0)⟩,
 ⟨(some 5), none, .call (.c (.fn (.func 26) [] [])) [(.c (.int .i64 4)), (.t 4)]⟩,
 ⟨(some 6), none, .ext (.t 5) 0⟩,
 ⟨(some 7), none, .ext (.t 5) 1⟩,
 ⟨(some 2), none, .mov (.t 6)⟩,
 ⟨(some 3), none, .mov (.t 7)⟩] [2, 3])
 .ret)),
 [.tmp 2, .tmp 3]⟩

/-- bellpull/norm.Three -/
noncomputable def sf15 : SFun := ⟨[0, 2, 3], 8,
 (.seq
 (.ops [
 ⟨(some 2), none, .mov (.c .nilsl)⟩,
 ⟨(some 3), none, .mov (.c (.int .i64 0))⟩] [2, 3])
 (.seq
 (.ops [
 ⟨(some 4), none, .mov (.t 0)⟩,
 ⟨(some 5), none, .call (.c (.fn (.func 26) [] [])) [(.c (.int .i64 3)), (.t 4)]⟩,
 ⟨(some 6), none, .ext (.t 5) 0⟩,
 ⟨(some 7), none, .ext (.t 5) 1⟩,
 ⟨(some 2), none, .mov (.t 6)⟩,
 ⟨(some 3), none, .mov (.t 7)⟩] [2, 3])
 .ret)),
 [.tmp 2, .tmp 3]⟩

/-- bellpull/norm.Split -/
noncomputable def sf16 : SFun := ⟨[0, 2, 3, 4, 6, 7, 8, 16, 24, 25, 26, 27], 38,
 (.seq
 (.ops [
 ⟨(some 2), none, .new [(.int .i64 0), (.int .i64 0), (.int .i64 0), (.int .i64 0)]⟩,
 ⟨(some 3), none, .mov (.c (.int .i64 0))⟩] [2, 3])
 (.seq
 (.seq
 (.ops [
 ⟨(some 9), none, .mov (.t 0)⟩,
 ⟨(some 10), none, .call (.c (.fn (.func 10) [] [])) [(.t 9), (.c (.int .i64 2)), (.c (.int .i64 10000))]⟩,
 ⟨(some 11), none, .not (.t 10)⟩,
 ⟨(some 12), none, .mov (.t 11)⟩,
 ⟨(some 13), (some (12, false)), .mov (.t 0)⟩,
 ⟨(some 14), (some (12, false)), .call (.c (.fn (.func 27) [] [])) [(.t 13)]⟩,
 ⟨(some 15), (some (12, false)), .not (.t 14)⟩,
 ⟨(some 16), none, .pick (.t 12) (.c (.bool true)) (.t 15)⟩] [16])
 (.cond (.t 16)
 (.seq
 (.ops [
 ⟨(some 17), none, .build [(.int .i64 0), (.int .i64 0), (.int .i64 0), (.int .i64 0)] [(0, 1), (1, 1), (2, 1), (3, 1)] []⟩,
 ⟨none, none, .store 4 (.t 2) (.t 17)⟩,
 ⟨(some 3), none, .mov (.c (.int .i64 1))⟩] [3])
 .ret)
 .skip))
 (.seq
 (.ops [
 ⟨(some 19), none, .mov (.t 0)⟩,
 ⟨(some 20), none, .mov (.t 0)⟩,
 ⟨(some 21), none, .call (.c (.fn (.func 28) [] [])) [(.c (.int .i64 4)), (.t 19), (.t 20)]⟩,
 ⟨(some 18), none, .mov (.t 21)⟩,
 ⟨(some 22), none, .ext (.t 18) 0⟩,
 ⟨(some 23), none, .ext (.t 18) 1⟩,
 ⟨(some 4), none, .mov (.t 22)⟩,
 ⟨(some 5), none, .mov (.t 23)⟩] [4])
 (.seq
 (.ops [
 ⟨(some 6), none, .new [(.int .i64 0), (.int .i64 0), (.int .i64 0), (.int .i64 0)]⟩] [6])
 (.seq
 (.seq
 (.ops [
 ⟨(some 24), none, .mov (.t 4)⟩,
 ⟨(some 25), none, .lenS (.t 24)⟩,
 ⟨(some 26), none, .mov (.c (.int .i64 0))⟩] [24, 25, 26])
 (.block 0
 (.loop
 (.seq
 (.ops [
 ⟨(some 27), none, .bin .lss .no (.t 26) (.t 25)⟩] [27])
 (.seq
 (.cond (.t 27)
 .skip
 (.exit 0))
 (.seq
 (.block 1
 (.seq
 (.ops [
 ⟨(some 28), none, .mov (.t 26)⟩,
 ⟨(some 29), none, .ixS 1 (.t 24) (.t 26)⟩,
 ⟨(some 30), none, .load none (.t 29)⟩,
 ⟨(some 7), none, .mov (.t 28)⟩,
 ⟨(some 8), none, .mov (.t 30)⟩] [7, 8])
 (.ops [
 ⟨(some 31), none, .mov (.t 7)⟩,
 ⟨(some 32), none, .mov (.t 8)⟩,
 ⟨(some 33), none, .bin .mul .no (.c (.int .i64 2)) (.t 32)⟩,
 ⟨(some 34), none, .ixA 4 1 (.t 6) (.t 31)⟩,
 ⟨none, none, .store 1 (.t 34) (.t 33)⟩] [])))
 (.ops [
 ⟨(some 35), none, .bin .add .no (.t 26) (.c (.int .i64 1))⟩,
 ⟨(some 26), none, .mov (.t 35)⟩] [26])))))))
 (.seq
 (.ops [
 ⟨(some 36), none, .load (some 4) (.t 6)⟩,
 ⟨(some 37), none, .call (.c (.fn (.func 24) [] [])) [(.t 36)]⟩,
 ⟨none, none, .store 4 (.t 2) (.t 37)⟩,
 ⟨(some 3), none, .mov (.c (.int .i64 0))⟩] [3])
 .ret)))))),
 [.cell 2 (some 4), .tmp 3]⟩

/-- bellpull/norm.Gcd -/
noncomputable def sf17 : SFun := ⟨[0, 1, 2, 3, 4, 5, 6, 7, 13, 23], 28,
 (.seq
 (.ops [
 ⟨(some 2), none, .box (.t 0)⟩,
 ⟨(some 3), none, .box (.t 1)⟩,
 ⟨(some 4), none, .new [(.int .i64 0), (.int .i64 0), (.int .i64 0), (.int .i64 0)]⟩,
 ⟨(some 5), none, .mov (.c (.int .i64 0))⟩] [2, 3, 4, 5])
 (.seq
 (.seq
 (.ops [
 ⟨(some 8), none, .load (some 4) (.t 2)⟩,
 ⟨(some 9), none, .load (some 4) (.t 3)⟩,
 ⟨(some 10), none, .buildS [(.int .i64 0), (.int .i64 0), (.int .i64 0), (.int .i64 0)] 2 4 [(0, (.t 8)), (1, (.t 9))]⟩,
 ⟨(some 11), none, .call (.c (.fn (.func 21) [] [])) [(.t 10)]⟩,
 ⟨(some 6), none, .mov (.t 11)⟩] [6])
 (.seq
 (.ops [
 ⟨(some 12), none, .mov (.t 6)⟩,
 ⟨(some 13), none, .bin .neq .no (.t 12) (.c (.int .i64 0))⟩] [13])
 (.cond (.t 13)
 (.seq
 (.ops [
 ⟨(some 14), none, .build [(.int .i64 0), (.int .i64 0), (.int .i64 0), (.int .i64 0)] [(0, 1), (1, 1), (2, 1), (3, 1)] []⟩,
 ⟨(some 15), none, .mov (.t 6)⟩,
 ⟨none, none, .store 4 (.t 4) (.t 14)⟩,
 ⟨(some 5), none, .mov (.t 15)⟩] [5])
 .ret)
 .skip)))
 (.seq
 (.draw [
 ⟨⟨(some 16), none, .load (some 4) (.t 2)⟩, true, false⟩,
 ⟨⟨(some 17), none, .call (.c (.fn (.func 23) [] [])) [(.t 16)]⟩, false, true⟩,
 ⟨⟨(some 18), none, .load (some 4) (.t 3)⟩, true, false⟩,
 ⟨⟨(some 19), none, .call (.c (.fn (.func 23) [] [])) [(.t 18)]⟩, false, true⟩,
 ⟨⟨(some 20), none, .call (.c (.fn (.func 29) [] [])) [(.t 17), (.t 19)]⟩, false, true⟩,
 ⟨⟨(some 7), none, .new [(.int .i64 0), (.int .i64 0), (.int .i64 0), (.int .i64 0)]⟩, false, true⟩,
 ⟨⟨none, none, .store 4 (.t 7) (.t 20)⟩, false, true⟩] [0, 1, 0, 7, 15, 0, 63] [7])
 (.seq
 (.seq
 (.ops [
 ⟨(some 21), none, .load (some 4) (.t 7)⟩,
 ⟨(some 22), none, .buildA [(.int .i64 0), (.int .i64 0), (.int .i64 0), (.int .i64 0)] 1 []⟩,
 ⟨(some 23), none, .bin .eql (.flat 4) (.t 21) (.t 22)⟩] [23])
 (.cond (.t 23)
 (.seq
 (.ops [
 ⟨(some 24), none, .build [(.int .i64 0), (.int .i64 0), (.int .i64 0), (.int .i64 0)] [(0, 1), (1, 1), (2, 1), (3, 1)] []⟩,
 ⟨none, none, .store 4 (.t 4) (.t 24)⟩,
 ⟨(some 5), none, .mov (.c (.int .i64 5))⟩] [5])
 .ret)
 .skip))
 (.seq
 (.ops [
 ⟨(some 25), none, .load (some 4) (.t 7)⟩,
 ⟨(some 26), none, .call (.c (.fn (.func 30) [] [])) [(.t 25)]⟩,
 ⟨(some 27), none, .call (.c (.fn (.func 24) [] [])) [(.t 26)]⟩,
 ⟨none, none, .store 4 (.t 4) (.t 27)⟩,
 ⟨(some 5), none, .mov (.c (.int .i64 0))⟩] [5])
 .ret))))),
 [.cell 4 (some 4), .tmp 5]⟩

/-- bellpull/norm.Divide -/
noncomputable def sf18 : SFun := ⟨[0, 1, 2, 3, 4, 5, 6, 7, 8, 9, 15, 22], 37,
 (.seq
 (.ops [
 ⟨(some 2), none, .box (.t 0)⟩,
 ⟨(some 3), none, .box (.t 1)⟩,
 ⟨(some 4), none, .new [(.int .i64 0), (.int .i64 0), (.int .i64 0), (.int .i64 0)]⟩,
 ⟨(some 5), none, .new [(.int .i64 0), (.int .i64 0), (.int .i64 0), (.int .i64 0)]⟩,
 ⟨(some 6), none, .mov (.c (.int .i64 0))⟩] [2, 3, 4, 5, 6])
 (.seq
 (.seq
 (.ops [
 ⟨(some 10), none, .load (some 4) (.t 2)⟩,
 ⟨(some 11), none, .load (some 4) (.t 3)⟩,
 ⟨(some 12), none, .buildS [(.int .i64 0), (.int .i64 0), (.int .i64 0), (.int .i64 0)] 2 4 [(0, (.t 10)), (1, (.t 11))]⟩,
 ⟨(some 13), none, .call (.c (.fn (.func 21) [] [])) [(.t 12)]⟩,
 ⟨(some 7), none, .mov (.t 13)⟩] [7])
 (.seq
 (.ops [
 ⟨(some 14), none, .mov (.t 7)⟩,
 ⟨(some 15), none, .bin .neq .no (.t 14) (.c (.int .i64 0))⟩] [15])
 (.cond (.t 15)
 (.seq
 (.ops [
 ⟨(some 16), none, .build [(.int .i64 0), (.int .i64 0), (.int .i64 0), (.int .i64 0)] [(0, 1), (1, 1), (2, 1), (3, 1)] []⟩,
 ⟨(some 17), none, .build [(.int .i64 0), (.int .i64 0), (.int .i64 0), (.int .i64 0)] [(0, 1), (1, 1), (2, 1), (3, 1)] []⟩,
 ⟨(some 18), none, .mov (.t 7)⟩,
 ⟨none, none, .store 4 (.t 4) (.t 16)⟩,
 ⟨none, none, .store 4 (.t 5) (.t 17)⟩,
 ⟨(some 6), none, .mov (.t 18)⟩] [6])
 .ret)
 .skip)))
 (.seq
 (.seq
 (.ops [
 ⟨(some 19), none, .load (some 4) (.t 3)⟩,
 ⟨(some 20), none, .call (.c (.fn (.func 23) [] [])) [(.t 19)]⟩,
 ⟨(some 21), none, .buildA [(.int .i64 0), (.int .i64 0), (.int .i64 0), (.int .i64 0)] 1 []⟩,
 ⟨(some 22), none, .bin .eql (.flat 4) (.t 20) (.t 21)⟩] [22])
 (.cond (.t 22)
 (.seq
 (.ops [
 ⟨(some 23), none, .build [(.int .i64 0), (.int .i64 0), (.int .i64 0), (.int .i64 0)] [(0, 1), (1, 1), (2, 1), (3, 1)] []⟩,
 ⟨(some 24), none, .build [(.int .i64 0), (.int .i64 0), (.int .i64 0), (.int .i64 0)] [(0, 1), (1, 1), (2, 1), (3, 1)] []⟩,
 ⟨none, none, .store 4 (.t 4) (.t 23)⟩,
 ⟨none, none, .store 4 (.t 5) (.t 24)⟩,
 ⟨(some 6), none, .mov (.c (.int .i64 5))⟩] [6])
 .ret)
 .skip))
 (.seq
 (.draw [
 ⟨⟨(some 26), none, .load (some 4) (.t 2)⟩, true, false⟩,
 ⟨⟨(some 27), none, .call (.c (.fn (.func 23) [] [])) [(.t 26)]⟩, false, true⟩,
 ⟨⟨(some 28), none, .load (some 4) (.t 3)⟩, true, false⟩,
 ⟨⟨(some 29), none, .call (.c (.fn (.func 23) [] [])) [(.t 28)]⟩, false, true⟩,
 ⟨⟨(some 30), none, .call (.c (.fn (.func 31) [] [])) [(.t 27), (.t 29)]⟩, false, true⟩,
 ⟨⟨(some 25), none, .mov (.t 30)⟩, false, false⟩,
 ⟨⟨(some 31), none, .ext (.t 25) 0⟩, false, false⟩,
 ⟨⟨(some 32), none, .ext (.t 25) 1⟩, false, false⟩,
 ⟨⟨(some 8), none, .new [(.int .i64 0), (.int .i64 0), (.int .i64 0), (.int .i64 0)]⟩, false, true⟩,
 ⟨⟨(some 9), none, .new [(.int .i64 0), (.int .i64 0), (.int .i64 0), (.int .i64 0)]⟩, false, true⟩,
 ⟨⟨none, none, .store 4 (.t 8) (.t 31)⟩, false, true⟩,
 ⟨⟨none, none, .store 4 (.t 9) (.t 32)⟩, false, true⟩] [0, 1, 0, 7, 15, 31, 63, 63, 0, 0, 895, 2047] [8, 9])
 (.seq
 (.draw [
 ⟨⟨(some 33), none, .load (some 4) (.t 8)⟩, true, false⟩,
 ⟨⟨(some 34), none, .call (.c (.fn (.func 24) [] [])) [(.t 33)]⟩, false, true⟩,
 ⟨⟨(some 35), none, .load (some 4) (.t 9)⟩, true, false⟩,
 ⟨⟨(some 36), none, .call (.c (.fn (.func 24) [] [])) [(.t 35)]⟩, false, true⟩,
 ⟨⟨none, none, .store 4 (.t 4) (.t 34)⟩, false, true⟩,
 ⟨⟨none, none, .store 4 (.t 5) (.t 36)⟩, false, true⟩,
 ⟨⟨(some 6), none, .mov (.c (.int .i64 0))⟩, false, false⟩] [0, 1, 0, 7, 15, 31, 63] [6])
 .ret))))),
 [.cell 4 (some 4), .cell 5 (some 4), .tmp 6]⟩

/-- bellpull/bellpullref01.Same -/
noncomputable def sf19 : SFun := ⟨[0, 1, 4], 15,
 (.seq
 (.ops [
 ⟨(some 4), none, .mov (.c (.bool false))⟩] [4])
 (.seq
 (.ops [
 ⟨(some 5), none, .mov (.t 0)⟩,
 ⟨(some 6), none, .mov (.t 1)⟩,
 ⟨(some 7), none, .call (.c (.fn (.func 32) [] [])) [(.t 5), (.t 6)]⟩,
 ⟨(some 8), none, .not (.t 7)⟩,
 ⟨(some 9), none, .mov (.t 8)⟩,
 ⟨(some 10), (some (9, true)), .mov (.t 1)⟩,
 ⟨(some 11), (some (9, true)), .mov (.t 0)⟩,
 ⟨(some 12), (some (9, true)), .call (.c (.fn (.func 32) [] [])) [(.t 10), (.t 11)]⟩,
 ⟨(some 13), (some (9, true)), .not (.t 12)⟩,
 ⟨(some 14), none, .pick (.t 9) (.t 13) (.c (.bool false))⟩,
 ⟨(some 4), none, .mov (.t 14)⟩] [4])
 .ret)),
 [.tmp 4]⟩

/-- bellpull/bellpullref04.Pairs -/
noncomputable def sf20 : SFun := ⟨[0, 1, 2, 6, 7, 8, 9, 10, 18, 25, 53], 61,
 (.seq
 (.ops [
 ⟨(some 6), none, .mov (.c .nilsl)⟩] [6])
 (.seq
 (.ops [
 ⟨(some 11), none, .mov (.t 0)⟩,
 ⟨(some 12), none, .bin .add .no (.t 11) (.c (.int .i64 1))⟩,
 ⟨(some 13), none, .mks [(.int .i64 0)] 1 (.t 12) (.t 12)⟩,
 ⟨(some 7), none, .mov (.t 13)⟩] [7])
 (.seq
 (.seq
 (.ops [
 ⟨(some 14), none, .mov (.t 1)⟩,
 ⟨(some 15), none, .neg (.t 14)⟩,
 ⟨(some 8), none, .mov (.t 15)⟩] [8])
 (.block 0
 (.loop
 (.seq
 (.seq
 (.ops [
 ⟨(some 16), none, .mov (.t 8)⟩,
 ⟨(some 17), none, .mov (.t 1)⟩,
 ⟨(some 18), none, .bin .leq .no (.t 16) (.t 17)⟩] [18])
 (.cond (.t 18)
 .skip
 (.exit 0)))
 (.seq
 (.block 1
 (.seq
 (.ops [
 ⟨(some 21), none, .mov (.t 1)⟩,
 ⟨(some 22), none, .neg (.t 21)⟩,
 ⟨(some 9), none, .mov (.t 22)⟩] [9])
 (.block 2
 (.loop
 (.seq
 (.seq
 (.ops [
 ⟨(some 23), none, .mov (.t 9)⟩,
 ⟨(some 24), none, .mov (.t 1)⟩,
 ⟨(some 25), none, .bin .leq .no (.t 23) (.t 24)⟩] [25])
 (.cond (.t 25)
 .skip
 (.exit 2)))
 (.seq
 (.block 3
 (.seq
 (.ops [
 ⟨(some 28), none, .mov (.t 8)⟩,
 ⟨(some 29), none, .mov (.t 8)⟩,
 ⟨(some 30), none, .bin .mul .no (.t 28) (.t 29)⟩,
 ⟨(some 31), none, .mov (.t 9)⟩,
 ⟨(some 32), none, .mov (.t 9)⟩,
 ⟨(some 33), none, .bin .mul .no (.t 31) (.t 32)⟩,
 ⟨(some 34), none, .bin .add .no (.t 30) (.t 33)⟩,
 ⟨(some 10), none, .mov (.t 34)⟩] [10])
 (.seq
 (.ops [
 ⟨(some 35), none, .mov (.t 10)⟩,
 ⟨(some 36), none, .mov (.t 0)⟩,
 ⟨(some 37), none, .bin .leq .no (.t 35) (.t 36)⟩,
 ⟨(some 38), none, .mov (.t 37)⟩,
 ⟨(some 39), (some (38, true)), .mov (.t 2)⟩,
 ⟨(some 40), (some (38, true)), .bin .eql .no (.t 39) (.c (.int .i64 2))⟩,
 ⟨(some 41), (some (38, true)), .mov (.t 40)⟩,
 ⟨(some 42), (some (41, false)), .mov (.t 8)⟩,
 ⟨(some 43), (some (41, false)), .bin .and .no (.t 42) (.c (.int .i64 1))⟩,
 ⟨(some 44), (some (41, false)), .mov (.t 2)⟩,
 ⟨(some 45), (some (41, false)), .bin .eql .no (.t 43) (.t 44)⟩,
 ⟨(some 46), (some (41, false)), .mov (.t 45)⟩,
 ⟨(some 47), (some (46, true)), .mov (.t 9)⟩,
 ⟨(some 48), (some (46, true)), .bin .and .no (.t 47) (.c (.int .i64 1))⟩,
 ⟨(some 49), (some (46, true)), .mov (.t 2)⟩,
 ⟨(some 50), (some (46, true)), .bin .eql .no (.t 48) (.t 49)⟩,
 ⟨(some 51), (some (41, false)), .pick (.t 46) (.t 50) (.c (.bool false))⟩,
 ⟨(some 52), (some (38, true)), .pick (.t 41) (.c (.bool true)) (.t 51)⟩,
 ⟨(some 53), none, .pick (.t 38) (.t 52) (.c (.bool false))⟩] [53])
 (.cond (.t 53)
 (.ops [
 ⟨(some 54), none, .mov (.t 7)⟩,
 ⟨(some 55), none, .mov (.t 10)⟩,
 ⟨(some 56), none, .ixS 1 (.t 54) (.t 55)⟩,
 ⟨(some 57), none, .load none (.t 56)⟩,
 ⟨(some 58), none, .bin .add .no (.t 57) (.c (.int .i64 1))⟩,
 ⟨(some 59), none, .ixS 1 (.t 54) (.t 55)⟩,
 ⟨none, none, .store 1 (.t 59) (.t 58)⟩] [])
 .skip))))
 (.ops [
 ⟨(some 26), none, .mov (.t 9)⟩,
 ⟨(some 27), none, .bin .add .no (.t 26) (.c (.int .i64 1))⟩,
 ⟨(some 9), none, .mov (.t 27)⟩] [9])))))))
 (.ops [
 ⟨(some 19), none, .mov (.t 8)⟩,
 ⟨(some 20), none, .bin .add .no (.t 19) (.c (.int .i64 1))⟩,
 ⟨(some 8), none, .mov (.t 20)⟩] [8]))))))
 (.seq
 (.ops [
 ⟨(some 60), none, .mov (.t 7)⟩,
 ⟨(some 6), none, .mov (.t 60)⟩] [6])
 .ret)))),
 [.tmp 6]⟩

/-- bellpull/norm.checked -/
noncomputable def sf21 : SFun := ⟨[0, 2, 4, 6, 8, 9, 10, 11, 12, 18, 20, 21, 22, 23, 27, 28, 29, 33], 36,
 (.seq
 (.ops [
 ⟨(some 2), none, .mov (.c (.int .i64 0))⟩] [2])
 (.seq
 (.seq
 (.ops [
 ⟨(some 9), none, .mov (.t 0)⟩,
 ⟨(some 10), none, .lenS (.t 9)⟩,
 ⟨(some 11), none, .mov (.c (.int .i64 0))⟩] [9, 10, 11])
 (.block 0
 (.loop
 (.seq
 (.ops [
 ⟨(some 12), none, .bin .lss .no (.t 11) (.t 10)⟩] [12])
 (.seq
 (.cond (.t 12)
 .skip
 (.exit 0))
 (.seq
 (.block 1
 (.seq
 (.ops [
 ⟨(some 13), none, .ixS 4 (.t 9) (.t 11)⟩,
 ⟨(some 14), none, .load (some 4) (.t 13)⟩,
 ⟨(some 4), none, .new [(.int .i64 0), (.int .i64 0), (.int .i64 0), (.int .i64 0)]⟩,
 ⟨none, none, .store 4 (.t 4) (.t 14)⟩] [4])
 (.seq
 (.ops [
 ⟨(some 15), none, .load (some 4) (.t 4)⟩,
 ⟨(some 16), none, .call (.c (.fn (.func 23) [] [])) [(.t 15)]⟩,
 ⟨(some 17), none, .call (.c (.fn (.func 33) [] [])) [(.t 16)]⟩,
 ⟨(some 18), none, .not (.t 17)⟩] [18])
 (.cond (.t 18)
 (.seq
 (.ops [
 ⟨(some 2), none, .mov (.c (.int .i64 2))⟩] [2])
 .ret)
 .skip))))
 (.ops [
 ⟨(some 19), none, .bin .add .no (.t 11) (.c (.int .i64 1))⟩,
 ⟨(some 11), none, .mov (.t 19)⟩] [11])))))))
 (.seq
 (.seq
 (.ops [
 ⟨(some 20), none, .mov (.t 0)⟩,
 ⟨(some 21), none, .lenS (.t 20)⟩,
 ⟨(some 22), none, .mov (.c (.int .i64 0))⟩] [20, 21, 22])
 (.block 2
 (.loop
 (.seq
 (.ops [
 ⟨(some 23), none, .bin .lss .no (.t 22) (.t 21)⟩] [23])
 (.seq
 (.cond (.t 23)
 .skip
 (.exit 2))
 (.seq
 (.block 3
 (.seq
 (.ops [
 ⟨(some 24), none, .ixS 4 (.t 20) (.t 22)⟩,
 ⟨(some 25), none, .load (some 4) (.t 24)⟩,
 ⟨(some 6), none, .new [(.int .i64 0), (.int .i64 0), (.int .i64 0), (.int .i64 0)]⟩,
 ⟨none, none, .store 4 (.t 6) (.t 25)⟩] [6])
 (.seq
 (.ops [
 ⟨(some 26), none, .load (some 4) (.t 6)⟩,
 ⟨(some 27), none, .call (.c (.fn (.func 23) [] [])) [(.t 26)]⟩,
 ⟨(some 28), none, .mov (.c (.int .i64 0))⟩] [27, 28])
 (.block 4
 (.loop
 (.seq
 (.ops [
 ⟨(some 29), none, .bin .lss .no (.t 28) (.c (.int .i64 4))⟩] [29])
 (.seq
 (.cond (.t 29)
 .skip
 (.exit 4))
 (.seq
 (.block 5
 (.seq
 (.ops [
 ⟨(some 30), none, .ix 4 1 none (.t 27) (.t 28)⟩,
 ⟨(some 8), none, .mov (.t 30)⟩] [8])
 (.seq
 (.ops [
 ⟨(some 31), none, .mov (.t 8)⟩,
 ⟨(some 32), none, .call (.c (.fn (.func 10) [] [])) [(.t 31), (.c (.int .i64 (-1000))), (.c (.int .i64 1000))]⟩,
 ⟨(some 33), none, .not (.t 32)⟩] [33])
 (.cond (.t 33)
 (.seq
 (.ops [
 ⟨(some 2), none, .mov (.c (.int .i64 1))⟩] [2])
 .ret)
 .skip))))
 (.ops [
 ⟨(some 34), none, .bin .add .no (.t 28) (.c (.int .i64 1))⟩,
 ⟨(some 28), none, .mov (.t 34)⟩] [28])))))))))
 (.ops [
 ⟨(some 35), none, .bin .add .no (.t 22) (.c (.int .i64 1))⟩,
 ⟨(some 22), none, .mov (.t 35)⟩] [22])))))))
 (.seq
 (.ops [
 ⟨(some 2), none, .mov (.c (.int .i64 0))⟩] [2])
 .ret)))),
 [.tmp 2]⟩

/-- bellpull/norm.product -/
noncomputable def sf22 : SFun := ⟨[0, 2, 3, 5, 7, 8, 9, 10], 18,
 (.seq
 (.ops [
 ⟨(some 2), none, .new [(.int .i64 0), (.int .i64 0), (.int .i64 0), (.int .i64 0)]⟩] [2])
 (.seq
 (.ops [
 ⟨(some 6), none, .buildA [(.int .i64 0), (.int .i64 0), (.int .i64 0), (.int .i64 0)] 1 [(0, (.c (.int .i64 2)))]⟩,
 ⟨(some 3), none, .new [(.int .i64 0), (.int .i64 0), (.int .i64 0), (.int .i64 0)]⟩,
 ⟨none, none, .store 4 (.t 3) (.t 6)⟩] [3])
 (.seq
 (.seq
 (.ops [
 ⟨(some 7), none, .mov (.t 0)⟩,
 ⟨(some 8), none, .lenS (.t 7)⟩,
 ⟨(some 9), none, .mov (.c (.int .i64 0))⟩] [7, 8, 9])
 (.block 0
 (.loop
 (.seq
 (.ops [
 ⟨(some 10), none, .bin .lss .no (.t 9) (.t 8)⟩] [10])
 (.seq
 (.cond (.t 10)
 .skip
 (.exit 0))
 (.seq
 (.block 1
 (.seq
 (.ops [
 ⟨(some 11), none, .ixS 4 (.t 7) (.t 9)⟩,
 ⟨(some 12), none, .load (some 4) (.t 11)⟩,
 ⟨(some 5), none, .new [(.int .i64 0), (.int .i64 0), (.int .i64 0), (.int .i64 0)]⟩,
 ⟨none, none, .store 4 (.t 5) (.t 12)⟩] [5])
 (.ops [
 ⟨(some 13), none, .load (some 4) (.t 3)⟩,
 ⟨(some 14), none, .load (some 4) (.t 5)⟩,
 ⟨(some 15), none, .call (.c (.fn (.func 34) [] [])) [(.t 13), (.t 14)]⟩,
 ⟨none, none, .store 4 (.t 3) (.t 15)⟩] [])))
 (.ops [
 ⟨(some 16), none, .bin .add .no (.t 9) (.c (.int .i64 1))⟩,
 ⟨(some 9), none, .mov (.t 16)⟩] [9])))))))
 (.seq
 (.ops [
 ⟨(some 17), none, .load (some 4) (.t 3)⟩,
 ⟨none, none, .store 4 (.t 2) (.t 17)⟩] [])
 .ret)))),
 [.cell 2 (some 4)]⟩

/-- bellpull/norm.partsOf -/
noncomputable def sf23 : SFun := ⟨[0, 1, 2], 12,
 (.seq
 (.ops [
 ⟨(some 1), none, .box (.t 0)⟩,
 ⟨(some 2), none, .new [(.int .i64 0), (.int .i64 0), (.int .i64 0), (.int .i64 0)]⟩] [1, 2])
 (.seq
 (.ops [
 ⟨(some 3), none, .fa 0 (.t 1)⟩,
 ⟨(some 4), none, .load none (.t 3)⟩,
 ⟨(some 5), none, .fa 1 (.t 1)⟩,
 ⟨(some 6), none, .load none (.t 5)⟩,
 ⟨(some 7), none, .fa 2 (.t 1)⟩,
 ⟨(some 8), none, .load none (.t 7)⟩,
 ⟨(some 9), none, .fa 3 (.t 1)⟩,
 ⟨(some 10), none, .load none (.t 9)⟩,
 ⟨(some 11), none, .buildA [(.int .i64 0), (.int .i64 0), (.int .i64 0), (.int .i64 0)] 1 [(0, (.t 4)), (1, (.t 6)), (2, (.t 8)), (3, (.t 10))]⟩,
 ⟨none, none, .store 4 (.t 2) (.t 11)⟩] [])
 .ret)),
 [.cell 2 (some 4)]⟩

/-- (bellpull/norm.parts).quat -/
noncomputable def sf24 : SFun := ⟨[0, 1, 2], 12,
 (.seq
 (.ops [
 ⟨(some 1), none, .box (.t 0)⟩,
 ⟨(some 2), none, .new [(.int .i64 0), (.int .i64 0), (.int .i64 0), (.int .i64 0)]⟩] [1, 2])
 (.seq
 (.ops [
 ⟨(some 3), none, .ixA 4 1 (.t 1) (.c (.int .i64 0))⟩,
 ⟨(some 4), none, .load none (.t 3)⟩,
 ⟨(some 5), none, .ixA 4 1 (.t 1) (.c (.int .i64 1))⟩,
 ⟨(some 6), none, .load none (.t 5)⟩,
 ⟨(some 7), none, .ixA 4 1 (.t 1) (.c (.int .i64 2))⟩,
 ⟨(some 8), none, .load none (.t 7)⟩,
 ⟨(some 9), none, .ixA 4 1 (.t 1) (.c (.int .i64 3))⟩,
 ⟨(some 10), none, .load none (.t 9)⟩,
 ⟨(some 11), none, .build [(.int .i64 0), (.int .i64 0), (.int .i64 0), (.int .i64 0)] [(0, 1), (1, 1), (2, 1), (3, 1)] [(0, (.t 4)), (1, (.t 6)), (2, (.t 8)), (3, (.t 10))]⟩,
 ⟨none, none, .store 4 (.t 2) (.t 11)⟩] [])
 .ret)),
 [.cell 2 (some 4)]⟩

/-- (bellpull/norm.parts).norm -/
noncomputable def sf25 : SFun := ⟨[0, 1, 2], 27,
 (.seq
 (.ops [
 ⟨(some 1), none, .box (.t 0)⟩,
 ⟨(some 2), none, .mov (.c (.int .i64 0))⟩] [1, 2])
 (.seq
 (.ops [
 ⟨(some 3), none, .ixA 4 1 (.t 1) (.c (.int .i64 0))⟩,
 ⟨(some 4), none, .load none (.t 3)⟩,
 ⟨(some 5), none, .ixA 4 1 (.t 1) (.c (.int .i64 0))⟩,
 ⟨(some 6), none, .load none (.t 5)⟩,
 ⟨(some 7), none, .bin .mul .no (.t 4) (.t 6)⟩,
 ⟨(some 8), none, .ixA 4 1 (.t 1) (.c (.int .i64 1))⟩,
 ⟨(some 9), none, .load none (.t 8)⟩,
 ⟨(some 10), none, .ixA 4 1 (.t 1) (.c (.int .i64 1))⟩,
 ⟨(some 11), none, .load none (.t 10)⟩,
 ⟨(some 12), none, .bin .mul .no (.t 9) (.t 11)⟩,
 ⟨(some 13), none, .bin .add .no (.t 7) (.t 12)⟩,
 ⟨(some 14), none, .ixA 4 1 (.t 1) (.c (.int .i64 2))⟩,
 ⟨(some 15), none, .load none (.t 14)⟩,
 ⟨(some 16), none, .ixA 4 1 (.t 1) (.c (.int .i64 2))⟩,
 ⟨(some 17), none, .load none (.t 16)⟩,
 ⟨(some 18), none, .bin .mul .no (.t 15) (.t 17)⟩,
 ⟨(some 19), none, .bin .add .no (.t 13) (.t 18)⟩,
 ⟨(some 20), none, .ixA 4 1 (.t 1) (.c (.int .i64 3))⟩,
 ⟨(some 21), none, .load none (.t 20)⟩,
 ⟨(some 22), none, .ixA 4 1 (.t 1) (.c (.int .i64 3))⟩,
 ⟨(some 23), none, .load none (.t 22)⟩,
 ⟨(some 24), none, .bin .mul .no (.t 21) (.t 23)⟩,
 ⟨(some 25), none, .bin .add .no (.t 19) (.t 24)⟩,
 ⟨(some 26), none, .bin .quo .no (.t 25) (.c (.int .i64 4))⟩,
 ⟨(some 2), none, .mov (.t 26)⟩] [2])
 .ret)),
 [.tmp 2]⟩

/-- bellpull/norm.sumOfSquares -/
noncomputable def sf26 : SFun := ⟨[0, 1, 4, 5, 6, 7, 10, 19], 21,
 (.seq
 (.ops [
 ⟨(some 4), none, .mov (.c .nilsl)⟩,
 ⟨(some 5), none, .mov (.c (.int .i64 0))⟩] [4, 5])
 (.seq
 (.seq
 (.ops [
 ⟨(some 8), none, .mov (.t 1)⟩,
 ⟨(some 9), none, .call (.c (.fn (.func 10) [] [])) [(.t 8), (.c (.int .i64 0)), (.c (.int .i64 10000))]⟩,
 ⟨(some 10), none, .not (.t 9)⟩] [10])
 (.cond (.t 10)
 (.seq
 (.ops [
 ⟨(some 4), none, .mov (.c .nilsl)⟩,
 ⟨(some 5), none, .mov (.c (.int .i64 1))⟩] [4, 5])
 .ret)
 .skip))
 (.seq
 (.ops [
 ⟨(some 12), none, .mov (.t 0)⟩,
 ⟨(some 13), none, .mov (.t 1)⟩,
 ⟨(some 14), none, .mov (.t 1)⟩,
 ⟨(some 15), none, .call (.c (.fn (.func 28) [] [])) [(.t 12), (.t 13), (.t 14)]⟩,
 ⟨(some 11), none, .mov (.t 15)⟩,
 ⟨(some 16), none, .ext (.t 11) 0⟩,
 ⟨(some 17), none, .ext (.t 11) 1⟩,
 ⟨(some 6), none, .mov (.t 16)⟩,
 ⟨(some 7), none, .mov (.t 17)⟩] [6, 7])
 (.seq
 (.seq
 (.ops [
 ⟨(some 18), none, .mov (.t 7)⟩,
 ⟨(some 19), none, .not (.t 18)⟩] [19])
 (.cond (.t 19)
 (.seq
 (.ops [
 ⟨(some 4), none, .mov (.c .nilsl)⟩,
 ⟨(some 5), none, .mov (.c (.int .i64 5))⟩] [4, 5])
 .ret)
 .skip))
 (.seq
 (.ops [
 ⟨(some 20), none, .mov (.t 6)⟩,
 ⟨(some 4), none, .mov (.t 20)⟩,
 ⟨(some 5), none, .mov (.c (.int .i64 0))⟩] [4, 5])
 .ret))))),
 [.tmp 4, .tmp 5]⟩

/-- bellpull/norm.isPrime -/
noncomputable def sf27 : SFun := ⟨[0, 2, 3, 8, 14], 17,
 (.seq
 (.ops [
 ⟨(some 2), none, .mov (.c (.bool false))⟩] [2])
 (.seq
 (.seq
 (.ops [
 ⟨(some 3), none, .mov (.c (.int .i64 2))⟩] [3])
 (.block 0
 (.loop
 (.seq
 (.seq
 (.ops [
 ⟨(some 4), none, .mov (.t 3)⟩,
 ⟨(some 5), none, .mov (.t 3)⟩,
 ⟨(some 6), none, .bin .mul .no (.t 4) (.t 5)⟩,
 ⟨(some 7), none, .mov (.t 0)⟩,
 ⟨(some 8), none, .bin .leq .no (.t 6) (.t 7)⟩] [8])
 (.cond (.t 8)
 .skip
 (.exit 0)))
 (.seq
 (.block 1
 (.seq
 (.ops [
 ⟨(some 11), none, .mov (.t 0)⟩,
 ⟨(some 12), none, .mov (.t 3)⟩,
 ⟨(some 13), none, .bin .rem .no (.t 11) (.t 12)⟩,
 ⟨(some 14), none, .bin .eql .no (.t 13) (.c (.int .i64 0))⟩] [14])
 (.cond (.t 14)
 (.seq
 (.ops [
 ⟨(some 2), none, .mov (.c (.bool false))⟩] [2])
 .ret)
 .skip)))
 (.ops [
 ⟨(some 9), none, .mov (.t 3)⟩,
 ⟨(some 10), none, .bin .add .no (.t 9) (.c (.int .i64 1))⟩,
 ⟨(some 3), none, .mov (.t 10)⟩] [3]))))))
 (.seq
 (.ops [
 ⟨(some 15), none, .mov (.t 0)⟩,
 ⟨(some 16), none, .bin .geq .no (.t 15) (.c (.int .i64 2))⟩,
 ⟨(some 2), none, .mov (.t 16)⟩] [2])
 .ret))),
 [.tmp 2]⟩

/-- bellpull/norm.greatestSquares -/
noncomputable def sf28 : SFun := ⟨[0, 1, 2, 6, 7, 8, 9, 10, 12, 29, 44], 49,
 (.seq
 (.ops [
 ⟨(some 6), none, .mov (.c .nilsl)⟩,
 ⟨(some 7), none, .mov (.c (.bool false))⟩] [6, 7])
 (.seq
 (.seq
 (.ops [
 ⟨(some 11), none, .mov (.t 0)⟩,
 ⟨(some 12), none, .bin .eql .no (.t 11) (.c (.int .i64 0))⟩] [12])
 (.cond (.t 12)
 (.seq
 (.ops [
 ⟨(some 13), none, .mov (.t 1)⟩,
 ⟨(some 14), none, .bin .eql .no (.t 13) (.c (.int .i64 0))⟩,
 ⟨(some 6), none, .mov (.c .nilsl)⟩,
 ⟨(some 7), none, .mov (.t 14)⟩] [6, 7])
 .ret)
 .skip))
 (.seq
 (.seq
 (.ops [
 ⟨(some 15), none, .mov (.t 2)⟩,
 ⟨(some 16), none, .mov (.t 1)⟩,
 ⟨(some 17), none, .call (.c (.fn (.func 35) [] [])) [(.t 16)]⟩,
 ⟨(some 18), none, .mn (.t 15) (.t 17)⟩,
 ⟨(some 8), none, .mov (.t 18)⟩] [8])
 (.block 0
 (.loop
 (.seq
 (.seq
 (.ops [
 ⟨(some 19), none, .mov (.t 8)⟩,
 ⟨(some 20), none, .bin .geq .no (.t 19) (.c (.int .i64 0))⟩,
 ⟨(some 21), none, .mov (.t 20)⟩,
 ⟨(some 22), (some (21, true)), .mov (.t 0)⟩,
 ⟨(some 23), (some (21, true)), .mov (.t 8)⟩,
 ⟨(some 24), (some (21, true)), .bin .mul .no (.t 22) (.t 23)⟩,
 ⟨(some 25), (some (21, true)), .mov (.t 8)⟩,
 ⟨(some 26), (some (21, true)), .bin .mul .no (.t 24) (.t 25)⟩,
 ⟨(some 27), (some (21, true)), .mov (.t 1)⟩,
 ⟨(some 28), (some (21, true)), .bin .geq .no (.t 26) (.t 27)⟩,
 ⟨(some 29), none, .pick (.t 21) (.t 28) (.c (.bool false))⟩] [29])
 (.cond (.t 29)
 .skip
 (.exit 0)))
 (.seq
 (.block 1
 (.seq
 (.ops [
 ⟨(some 33), none, .mov (.t 0)⟩,
 ⟨(some 34), none, .bin .sub .no (.t 33) (.c (.int .i64 1))⟩,
 ⟨(some 35), none, .mov (.t 1)⟩,
 ⟨(some 36), none, .mov (.t 8)⟩,
 ⟨(some 37), none, .mov (.t 8)⟩,
 ⟨(some 38), none, .bin .mul .no (.t 36) (.t 37)⟩,
 ⟨(some 39), none, .bin .sub .no (.t 35) (.t 38)⟩,
 ⟨(some 40), none, .mov (.t 8)⟩,
 ⟨(some 41), none, .call (.c (.fn (.func 28) [] [])) [(.t 34), (.t 39), (.t 40)]⟩,
 ⟨(some 32), none, .mov (.t 41)⟩,
 ⟨(some 42), none, .ext (.t 32) 0⟩,
 ⟨(some 43), none, .ext (.t 32) 1⟩,
 ⟨(some 9), none, .mov (.t 42)⟩,
 ⟨(some 10), none, .mov (.t 43)⟩] [9, 10])
 (.seq
 (.ops [
 ⟨(some 44), none, .mov (.t 10)⟩] [44])
 (.cond (.t 44)
 (.seq
 (.ops [
 ⟨(some 45), none, .mov (.t 9)⟩,
 ⟨(some 46), none, .mov (.t 8)⟩,
 ⟨(some 47), none, .buildS [(.int .i64 0)] 1 1 [(0, (.t 46))]⟩,
 ⟨(some 48), none, .call (.c (.fn (.func 36) [] [])) [(.t 45), (.c (.int .i64 0)), (.t 47)]⟩,
 ⟨(some 6), none, .mov (.t 48)⟩,
 ⟨(some 7), none, .mov (.c (.bool true))⟩] [6, 7])
 .ret)
 .skip))))
 (.ops [
 ⟨(some 30), none, .mov (.t 8)⟩,
 ⟨(some 31), none, .bin .sub .no (.t 30) (.c (.int .i64 1))⟩,
 ⟨(some 8), none, .mov (.t 31)⟩] [8]))))))
 (.seq
 (.ops [
 ⟨(some 6), none, .mov (.c .nilsl)⟩,
 ⟨(some 7), none, .mov (.c (.bool false))⟩] [6, 7])
 .ret)))),
 [.tmp 6, .tmp 7]⟩

/-- bellpull/norm.commonDivisor -/
noncomputable def sf29 : SFun := ⟨[0, 1, 2, 3, 4, 6, 9], 19,
 (.seq
 (.ops [
 ⟨(some 2), none, .box (.t 0)⟩,
 ⟨(some 3), none, .box (.t 1)⟩,
 ⟨(some 4), none, .new [(.int .i64 0), (.int .i64 0), (.int .i64 0), (.int .i64 0)]⟩] [2, 3, 4])
 (.seq
 (.block 0
 (.loop
 (.seq
 (.seq
 (.ops [
 ⟨(some 7), none, .load (some 4) (.t 3)⟩,
 ⟨(some 8), none, .buildA [(.int .i64 0), (.int .i64 0), (.int .i64 0), (.int .i64 0)] 1 []⟩,
 ⟨(some 9), none, .bin .neq (.flat 4) (.t 7) (.t 8)⟩] [9])
 (.cond (.t 9)
 .skip
 (.exit 0)))
 (.block 1
 (.seq
 (.ops [
 ⟨(some 11), none, .load (some 4) (.t 2)⟩,
 ⟨(some 12), none, .load (some 4) (.t 3)⟩,
 ⟨(some 13), none, .call (.c (.fn (.func 31) [] [])) [(.t 11), (.t 12)]⟩,
 ⟨(some 10), none, .mov (.t 13)⟩,
 ⟨(some 14), none, .ext (.t 10) 0⟩,
 ⟨(some 15), none, .ext (.t 10) 1⟩,
 ⟨(some 5), none, .new [(.int .i64 0), (.int .i64 0), (.int .i64 0), (.int .i64 0)]⟩,
 ⟨(some 6), none, .new [(.int .i64 0), (.int .i64 0), (.int .i64 0), (.int .i64 0)]⟩,
 ⟨none, none, .store 4 (.t 5) (.t 14)⟩,
 ⟨none, none, .store 4 (.t 6) (.t 15)⟩] [6])
 (.draw [
 ⟨⟨(some 16), none, .load (some 4) (.t 3)⟩, true, false⟩,
 ⟨⟨(some 17), none, .load (some 4) (.t 6)⟩, true, false⟩,
 ⟨⟨none, none, .store 4 (.t 2) (.t 16)⟩, false, true⟩,
 ⟨⟨none, none, .store 4 (.t 3) (.t 17)⟩, false, true⟩] [0, 0, 1, 7] []))))))
 (.seq
 (.ops [
 ⟨(some 18), none, .load (some 4) (.t 2)⟩,
 ⟨none, none, .store 4 (.t 4) (.t 18)⟩] [])
 .ret))),
 [.cell 4 (some 4)]⟩

/-- bellpull/norm.greatestMultiple -/
noncomputable def sf30 : SFun := ⟨[0, 1, 2, 3, 5, 6, 8, 9, 10, 11, 21], 25,
 (.seq
 (.ops [
 ⟨(some 1), none, .box (.t 0)⟩,
 ⟨(some 2), none, .new [(.int .i64 0), (.int .i64 0), (.int .i64 0), (.int .i64 0)]⟩] [1, 2])
 (.seq
 (.ops [
 ⟨(some 7), none, .load (some 4) (.t 1)⟩,
 ⟨(some 3), none, .new [(.int .i64 0), (.int .i64 0), (.int .i64 0), (.int .i64 0)]⟩,
 ⟨none, none, .store 4 (.t 3) (.t 7)⟩] [3])
 (.seq
 (.seq
 (.ops [
 ⟨(some 8), none, .call (.c (.fn (.func 37) [] [])) []⟩,
 ⟨(some 9), none, .lenS (.t 8)⟩,
 ⟨(some 10), none, .mov (.c (.int .i64 0))⟩] [8, 9, 10])
 (.block 0
 (.loop
 (.seq
 (.ops [
 ⟨(some 11), none, .bin .lss .no (.t 10) (.t 9)⟩] [11])
 (.seq
 (.cond (.t 11)
 .skip
 (.exit 0))
 (.seq
 (.block 1
 (.seq
 (.ops [
 ⟨(some 12), none, .ixS 4 (.t 8) (.t 10)⟩,
 ⟨(some 13), none, .load (some 4) (.t 12)⟩,
 ⟨(some 5), none, .new [(.int .i64 0), (.int .i64 0), (.int .i64 0), (.int .i64 0)]⟩,
 ⟨none, none, .store 4 (.t 5) (.t 13)⟩] [5])
 (.seq
 (.ops [
 ⟨(some 14), none, .load (some 4) (.t 5)⟩,
 ⟨(some 15), none, .load (some 4) (.t 1)⟩,
 ⟨(some 16), none, .buildS [(.int .i64 0), (.int .i64 0), (.int .i64 0), (.int .i64 0)] 2 4 [(0, (.t 14)), (1, (.t 15))]⟩,
 ⟨(some 17), none, .call (.c (.fn (.func 22) [] [])) [(.t 16)]⟩,
 ⟨(some 6), none, .new [(.int .i64 0), (.int .i64 0), (.int .i64 0), (.int .i64 0)]⟩,
 ⟨none, none, .store 4 (.t 6) (.t 17)⟩] [6])
 (.seq
 (.ops [
 ⟨(some 18), none, .load (some 4) (.t 6)⟩,
 ⟨(some 19), none, .load (some 4) (.t 3)⟩,
 ⟨(some 20), none, .call (.c (.fn (.func 38) [] [])) [(.t 18), (.t 19)]⟩,
 ⟨(some 21), none, .bin .gtr .no (.t 20) (.c (.int .i64 0))⟩] [21])
 (.cond (.t 21)
 (.ops [
 ⟨(some 22), none, .load (some 4) (.t 6)⟩,
 ⟨none, none, .store 4 (.t 3) (.t 22)⟩] [])
 .skip)))))
 (.ops [
 ⟨(some 23), none, .bin .add .no (.t 10) (.c (.int .i64 1))⟩,
 ⟨(some 10), none, .mov (.t 23)⟩] [10])))))))
 (.seq
 (.ops [
 ⟨(some 24), none, .load (some 4) (.t 3)⟩,
 ⟨none, none, .store 4 (.t 2) (.t 24)⟩] [])
 .ret)))),
 [.cell 2 (some 4)]⟩

/-- bellpull/norm.divided -/
noncomputable def sf31 : SFun := ⟨[0, 1, 2, 3, 4, 5, 6, 7, 8, 9, 10, 11, 44], 53,
 (.seq
 (.ops [
 ⟨(some 2), none, .box (.t 0)⟩,
 ⟨(some 3), none, .box (.t 1)⟩,
 ⟨(some 4), none, .new [(.int .i64 0), (.int .i64 0), (.int .i64 0), (.int .i64 0)]⟩,
 ⟨(some 5), none, .new [(.int .i64 0), (.int .i64 0), (.int .i64 0), (.int .i64 0)]⟩] [2, 3, 4, 5])
 (.seq
 (.ops [
 ⟨(some 12), none, .load (some 4) (.t 3)⟩,
 ⟨(some 13), none, .call (.c (.fn (.func 25) [] [])) [(.t 12)]⟩,
 ⟨(some 6), none, .mov (.t 13)⟩] [6])
 (.seq
 (.draw [
 ⟨⟨(some 14), none, .load (some 4) (.t 2)⟩, true, false⟩,
 ⟨⟨(some 15), none, .load (some 4) (.t 3)⟩, true, false⟩,
 ⟨⟨(some 16), none, .call (.c (.fn (.func 39) [] [])) [(.t 15)]⟩, false, true⟩,
 ⟨⟨(some 17), none, .buildS [(.int .i64 0), (.int .i64 0), (.int .i64 0), (.int .i64 0)] 2 4 [(0, (.t 14)), (1, (.t 16))]⟩, false, true⟩,
 ⟨⟨(some 18), none, .call (.c (.fn (.func 22) [] [])) [(.t 17)]⟩, false, true⟩,
 ⟨⟨(some 7), none, .new [(.int .i64 0), (.int .i64 0), (.int .i64 0), (.int .i64 0)]⟩, false, true⟩,
 ⟨⟨none, none, .store 4 (.t 7) (.t 18)⟩, false, true⟩] [0, 0, 2, 7, 15, 0, 63] [7])
 (.seq
 (.ops [
 ⟨(some 20), none, .load (some 4) (.t 7)⟩,
 ⟨(some 21), none, .mov (.t 6)⟩,
 ⟨(some 22), none, .call (.c (.fn (.func 40) [] [])) [(.t 20), (.t 21), (.c (.int .i64 0))]⟩,
 ⟨(some 19), none, .mov (.t 22)⟩,
 ⟨(some 23), none, .ext (.t 19) 0⟩,
 ⟨(some 24), none, .ext (.t 19) 1⟩,
 ⟨(some 8), none, .new [(.int .i64 0), (.int .i64 0), (.int .i64 0), (.int .i64 0)]⟩,
 ⟨none, none, .store 4 (.t 8) (.t 23)⟩,
 ⟨(some 9), none, .mov (.t 24)⟩] [8, 9])
 (.seq
 (.ops [
 ⟨(some 26), none, .load (some 4) (.t 7)⟩,
 ⟨(some 27), none, .mov (.t 6)⟩,
 ⟨(some 28), none, .call (.c (.fn (.func 40) [] [])) [(.t 26), (.t 27), (.c (.int .i64 1))]⟩,
 ⟨(some 25), none, .mov (.t 28)⟩,
 ⟨(some 29), none, .ext (.t 25) 0⟩,
 ⟨(some 30), none, .ext (.t 25) 1⟩,
 ⟨(some 10), none, .new [(.int .i64 0), (.int .i64 0), (.int .i64 0), (.int .i64 0)]⟩,
 ⟨none, none, .store 4 (.t 10) (.t 29)⟩,
 ⟨(some 11), none, .mov (.t 30)⟩] [10, 11])
 (.seq
 (.seq
 (.ops [
 ⟨(some 31), none, .mov (.t 11)⟩,
 ⟨(some 32), none, .mov (.t 9)⟩,
 ⟨(some 33), none, .bin .lss .no (.t 31) (.t 32)⟩,
 ⟨(some 34), none, .mov (.t 33)⟩,
 ⟨(some 35), (some (34, false)), .mov (.t 11)⟩,
 ⟨(some 36), (some (34, false)), .mov (.t 9)⟩,
 ⟨(some 37), (some (34, false)), .bin .eql .no (.t 35) (.t 36)⟩,
 ⟨(some 38), (some (34, false)), .mov (.t 37)⟩,
 ⟨(some 39), (some (38, true)), .load (some 4) (.t 10)⟩,
 ⟨(some 40), (some (38, true)), .load (some 4) (.t 8)⟩,
 ⟨(some 41), (some (38, true)), .call (.c (.fn (.func 38) [] [])) [(.t 39), (.t 40)]⟩,
 ⟨(some 42), (some (38, true)), .bin .lss .no (.t 41) (.c (.int .i64 0))⟩,
 ⟨(some 43), (some (34, false)), .pick (.t 38) (.t 42) (.c (.bool false))⟩,
 ⟨(some 44), none, .pick (.t 34) (.c (.bool true)) (.t 43)⟩] [44])
 (.cond (.t 44)
 (.ops [
 ⟨(some 45), none, .load (some 4) (.t 10)⟩,
 ⟨none, none, .store 4 (.t 8) (.t 45)⟩] [])
 .skip))
 (.seq
 (.draw [
 ⟨⟨(some 46), none, .load (some 4) (.t 8)⟩, true, false⟩,
 ⟨⟨(some 47), none, .load (some 4) (.t 2)⟩, true, false⟩,
 ⟨⟨(some 48), none, .load (some 4) (.t 8)⟩, true, false⟩,
 ⟨⟨(some 49), none, .load (some 4) (.t 3)⟩, true, false⟩,
 ⟨⟨(some 50), none, .buildS [(.int .i64 0), (.int .i64 0), (.int .i64 0), (.int .i64 0)] 2 4 [(0, (.t 48)), (1, (.t 49))]⟩, false, true⟩,
 ⟨⟨(some 51), none, .call (.c (.fn (.func 22) [] [])) [(.t 50)]⟩, false, true⟩,
 ⟨⟨(some 52), none, .call (.c (.fn (.func 41) [] [])) [(.t 47), (.t 51)]⟩, false, true⟩,
 ⟨⟨none, none, .store 4 (.t 4) (.t 46)⟩, false, true⟩,
 ⟨⟨none, none, .store 4 (.t 5) (.t 52)⟩, false, true⟩] [0, 0, 0, 0, 12, 28, 62, 127, 255] [])
 .ret))))))),
 [.cell 4 (some 4), .cell 5 (some 4)]⟩

/-- bellpull/bellpullref01.Before -/
noncomputable def sf32 : SFun := ⟨[0, 1, 4, 5, 15, 26], 41,
 (.seq
 (.ops [
 ⟨(some 4), none, .mov (.c (.bool false))⟩] [4])
 (.seq
 (.seq
 (.ops [
 ⟨(some 5), none, .mov (.c (.int .i64 0))⟩] [5])
 (.block 0
 (.loop
 (.seq
 (.seq
 (.ops [
 ⟨(some 6), none, .mov (.t 5)⟩,
 ⟨(some 7), none, .mov (.t 0)⟩,
 ⟨(some 8), none, .lenS (.t 7)⟩,
 ⟨(some 9), none, .bin .lss .no (.t 6) (.t 8)⟩,
 ⟨(some 10), none, .mov (.t 9)⟩,
 ⟨(some 11), (some (10, true)), .mov (.t 5)⟩,
 ⟨(some 12), (some (10, true)), .mov (.t 1)⟩,
 ⟨(some 13), (some (10, true)), .lenS (.t 12)⟩,
 ⟨(some 14), (some (10, true)), .bin .lss .no (.t 11) (.t 13)⟩,
 ⟨(some 15), none, .pick (.t 10) (.t 14) (.c (.bool false))⟩] [15])
 (.cond (.t 15)
 .skip
 (.exit 0)))
 (.seq
 (.block 1
 (.seq
 (.ops [
 ⟨(some 18), none, .mov (.t 0)⟩,
 ⟨(some 19), none, .mov (.t 5)⟩,
 ⟨(some 20), none, .ixS 1 (.t 18) (.t 19)⟩,
 ⟨(some 21), none, .load none (.t 20)⟩,
 ⟨(some 22), none, .mov (.t 1)⟩,
 ⟨(some 23), none, .mov (.t 5)⟩,
 ⟨(some 24), none, .ixS 1 (.t 22) (.t 23)⟩,
 ⟨(some 25), none, .load none (.t 24)⟩,
 ⟨(some 26), none, .bin .neq .no (.t 21) (.t 25)⟩] [26])
 (.cond (.t 26)
 (.seq
 (.ops [
 ⟨(some 27), none, .mov (.t 0)⟩,
 ⟨(some 28), none, .mov (.t 5)⟩,
 ⟨(some 29), none, .ixS 1 (.t 27) (.t 28)⟩,
 ⟨(some 30), none, .load none (.t 29)⟩,
 ⟨(some 31), none, .mov (.t 1)⟩,
 ⟨(some 32), none, .mov (.t 5)⟩,
 ⟨(some 33), none, .ixS 1 (.t 31) (.t 32)⟩,
 ⟨(some 34), none, .load none (.t 33)⟩,
 ⟨(some 35), none, .bin .lss .no (.t 30) (.t 34)⟩,
 ⟨(some 4), none, .mov (.t 35)⟩] [4])
 .ret)
 .skip)))
 (.ops [
 ⟨(some 16), none, .mov (.t 5)⟩,
 ⟨(some 17), none, .bin .add .no (.t 16) (.c (.int .i64 1))⟩,
 ⟨(some 5), none, .mov (.t 17)⟩] [5]))))))
 (.seq
 (.ops [
 ⟨(some 36), none, .mov (.t 0)⟩,
 ⟨(some 37), none, .lenS (.t 36)⟩,
 ⟨(some 38), none, .mov (.t 1)⟩,
 ⟨(some 39), none, .lenS (.t 38)⟩,
 ⟨(some 40), none, .bin .lss .no (.t 37) (.t 39)⟩,
 ⟨(some 4), none, .mov (.t 40)⟩] [4])
 .ret))),
 [.tmp 4]⟩

/-- (bellpull/norm.parts).integral -/
noncomputable def sf33 : SFun := ⟨[0, 1, 2, 4, 5, 6, 7, 14], 16,
 (.seq
 (.ops [
 ⟨(some 1), none, .box (.t 0)⟩,
 ⟨(some 2), none, .mov (.c (.bool false))⟩] [1, 2])
 (.seq
 (.seq
 (.ops [
 ⟨(some 5), none, .load (some 4) (.t 1)⟩,
 ⟨(some 6), none, .mov (.c (.int .i64 0))⟩] [5, 6])
 (.block 0
 (.loop
 (.seq
 (.ops [
 ⟨(some 7), none, .bin .lss .no (.t 6) (.c (.int .i64 4))⟩] [7])
 (.seq
 (.cond (.t 7)
 .skip
 (.exit 0))
 (.seq
 (.block 1
 (.seq
 (.ops [
 ⟨(some 8), none, .ix 4 1 none (.t 5) (.t 6)⟩,
 ⟨(some 4), none, .mov (.t 8)⟩] [4])
 (.seq
 (.ops [
 ⟨(some 9), none, .mov (.t 4)⟩,
 ⟨(some 10), none, .bin .and .no (.t 9) (.c (.int .i64 1))⟩,
 ⟨(some 11), none, .ixA 4 1 (.t 1) (.c (.int .i64 0))⟩,
 ⟨(some 12), none, .load none (.t 11)⟩,
 ⟨(some 13), none, .bin .and .no (.t 12) (.c (.int .i64 1))⟩,
 ⟨(some 14), none, .bin .neq .no (.t 10) (.t 13)⟩] [14])
 (.cond (.t 14)
 (.seq
 (.ops [
 ⟨(some 2), none, .mov (.c (.bool false))⟩] [2])
 .ret)
 .skip))))
 (.ops [
 ⟨(some 15), none, .bin .add .no (.t 6) (.c (.int .i64 1))⟩,
 ⟨(some 6), none, .mov (.t 15)⟩] [6])))))))
 (.seq
 (.ops [
 ⟨(some 2), none, .mov (.c (.bool true))⟩] [2])
 .ret))),
 [.tmp 2]⟩

/-- (bellpull/norm.parts).times -/
noncomputable def sf34 : SFun := ⟨[0, 1, 2, 3, 4], 102,
 (.seq
 (.ops [
 ⟨(some 2), none, .box (.t 0)⟩,
 ⟨(some 3), none, .box (.t 1)⟩,
 ⟨(some 4), none, .new [(.int .i64 0), (.int .i64 0), (.int .i64 0), (.int .i64 0)]⟩] [2, 3, 4])
 (.seq
 (.ops [
 ⟨(some 5), none, .ixA 4 1 (.t 2) (.c (.int .i64 0))⟩,
 ⟨(some 6), none, .load none (.t 5)⟩,
 ⟨(some 7), none, .ixA 4 1 (.t 3) (.c (.int .i64 0))⟩,
 ⟨(some 8), none, .load none (.t 7)⟩,
 ⟨(some 9), none, .bin .mul .no (.t 6) (.t 8)⟩,
 ⟨(some 10), none, .ixA 4 1 (.t 2) (.c (.int .i64 1))⟩,
 ⟨(some 11), none, .load none (.t 10)⟩,
 ⟨(some 12), none, .ixA 4 1 (.t 3) (.c (.int .i64 1))⟩,
 ⟨(some 13), none, .load none (.t 12)⟩,
 ⟨(some 14), none, .bin .mul .no (.t 11) (.t 13)⟩,
 ⟨(some 15), none, .bin .sub .no (.t 9) (.t 14)⟩,
 ⟨(some 16), none, .ixA 4 1 (.t 2) (.c (.int .i64 2))⟩,
 ⟨(some 17), none, .load none (.t 16)⟩,
 ⟨(some 18), none, .ixA 4 1 (.t 3) (.c (.int .i64 2))⟩,
 ⟨(some 19), none, .load none (.t 18)⟩,
 ⟨(some 20), none, .bin .mul .no (.t 17) (.t 19)⟩,
 ⟨(some 21), none, .bin .sub .no (.t 15) (.t 20)⟩,
 ⟨(some 22), none, .ixA 4 1 (.t 2) (.c (.int .i64 3))⟩,
 ⟨(some 23), none, .load none (.t 22)⟩,
 ⟨(some 24), none, .ixA 4 1 (.t 3) (.c (.int .i64 3))⟩,
 ⟨(some 25), none, .load none (.t 24)⟩,
 ⟨(some 26), none, .bin .mul .no (.t 23) (.t 25)⟩,
 ⟨(some 27), none, .bin .sub .no (.t 21) (.t 26)⟩,
 ⟨(some 28), none, .bin .quo .no (.t 27) (.c (.int .i64 2))⟩,
 ⟨(some 29), none, .ixA 4 1 (.t 2) (.c (.int .i64 0))⟩,
 ⟨(some 30), none, .load none (.t 29)⟩,
 ⟨(some 31), none, .ixA 4 1 (.t 3) (.c (.int .i64 1))⟩,
 ⟨(some 32), none, .load none (.t 31)⟩,
 ⟨(some 33), none, .bin .mul .no (.t 30) (.t 32)⟩,
 ⟨(some 34), none, .ixA 4 1 (.t 2) (.c (.int .i64 1))⟩,
 ⟨(some 35), none, .load none (.t 34)⟩,
 ⟨(some 36), none, .ixA 4 1 (.t 3) (.c (.int .i64 0))⟩,
 ⟨(some 37), none, .load none (.t 36)⟩,
 ⟨(some 38), none, .bin .mul .no (.t 35) (.t 37)⟩,
 ⟨(some 39), none, .bin .add .no (.t 33) (.t 38)⟩,
 ⟨(some 40), none, .ixA 4 1 (.t 2) (.c (.int .i64 2))⟩,
 ⟨(some 41), none, .load none (.t 40)⟩,
 ⟨(some 42), none, .ixA 4 1 (.t 3) (.c (.int .i64 3))⟩,
 ⟨(some 43), none, .load none (.t 42)⟩,
 ⟨(some 44), none, .bin .mul .no (.t 41) (.t 43)⟩,
 ⟨(some 45), none, .bin .add .no (.t 39) (.t 44)⟩,
 ⟨(some 46), none, .ixA 4 1 (.t 2) (.c (.int .i64 3))⟩,
 ⟨(some 47), none, .load none (.t 46)⟩,
 ⟨(some 48), none, .ixA 4 1 (.t 3) (.c (.int .i64 2))⟩,
 ⟨(some 49), none, .load none (.t 48)⟩,
 ⟨(some 50), none, .bin .mul .no (.t 47) (.t 49)⟩,
 ⟨(some 51), none, .bin .sub .no (.t 45) (.t 50)⟩,
 ⟨(some 52), none, .bin .quo .no (.t 51) (.c (.int .i64 2))⟩,
 ⟨(some 53), none, .ixA 4 1 (.t 2) (.c (.int .i64 0))⟩,
 ⟨(some 54), none, .load none (.t 53)⟩,
 ⟨(some 55), none, .ixA 4 1 (.t 3) (.c (.int .i64 2))⟩,
 ⟨(some 56), none, .load none (.t 55)⟩,
 ⟨(some 57), none, .bin .mul .no (.t 54) (.t 56)⟩,
 ⟨(some 58), none, .ixA 4 1 (.t 2) (.c (.int .i64 1))⟩,
 ⟨(some 59), none, .load none (.t 58)⟩,
 ⟨(some 60), none, .ixA 4 1 (.t 3) (.c (.int .i64 3))⟩,
 ⟨(some 61), none, .load none (.t 60)⟩,
 ⟨(some 62), none, .bin .mul .no (.t 59) (.t 61)⟩,
 ⟨(some 63), none, .bin .sub .no (.t 57) (.t 62)⟩,
 ⟨(some 64), none, .ixA 4 1 (.t 2) (.c (.int .i64 2))⟩,
 ⟨(some 65), none, .load none (.t 64)⟩,
 ⟨(some 66), none, .ixA 4 1 (.t 3) (.c (.int .i64 0))⟩,
 ⟨(some 67), none, .load none (.t 66)⟩,
 ⟨(some 68), none, .bin .mul .no (.t 65) (.t 67)⟩,
 ⟨(some 69), none, .bin .add .no (.t 63) (.t 68)⟩,
 ⟨(some 70), none, .ixA 4 1 (.t 2) (.c (.int .i64 3))⟩,
 ⟨(some 71), none, .load none (.t 70)⟩,
 ⟨(some 72), none, .ixA 4 1 (.t 3) (.c (.int .i64 1))⟩,
 ⟨(some 73), none, .load none (.t 72)⟩,
 ⟨(some 74), none, .bin .mul .no (.t 71) (.t 73)⟩,
 ⟨(some 75), none, .bin .add .no (.t 69) (.t 74)⟩,
 ⟨(some 76), none, .bin .quo .no (.t 75) (.c (.int .i64 2))⟩,
 ⟨(some 77), none, .ixA 4 1 (.t 2) (.c (.int .i64 0))⟩,
 ⟨(some 78), none, .load none (.t 77)⟩,
 ⟨(some 79), none, .ixA 4 1 (.t 3) (.c (.int .i64 3))⟩,
 ⟨(some 80), none, .load none (.t 79)⟩,
 ⟨(some 81), none, .bin .mul .no (.t 78) (.t 80)⟩,
 ⟨(some 82), none, .ixA 4 1 (.t 2) (.c (.int .i64 1))⟩,
 ⟨(some 83), none, .load none (.t 82)⟩,
 ⟨(some 84), none, .ixA 4 1 (.t 3) (.c (.int .i64 2))⟩,
 ⟨(some 85), none, .load none (.t 84)⟩,
 ⟨(some 86), none, .bin .mul .no (.t 83) (.t 85)⟩,
 ⟨(some 87), none, .bin .add .no (.t 81) (.t 86)⟩,
 ⟨(some 88), none, .ixA 4 1 (.t 2) (.c (.int .i64 2))⟩,
 ⟨(some 89), none, .load none (.t 88)⟩,
 ⟨(some 90), none, .ixA 4 1 (.t 3) (.c (.int .i64 1))⟩,
 ⟨(some 91), none, .load none (.t 90)⟩,
 ⟨(some 92), none, .bin .mul .no (.t 89) (.t 91)⟩,
 ⟨(some 93), none, .bin .sub .no (.t 87) (.t 92)⟩,
 ⟨(some 94), none, .ixA 4 1 (.t 2) (.c (.int .i64 3))⟩,
 ⟨(some 95), none, .load none (.t 94)⟩,
 ⟨(some 96), none, .ixA 4 1 (.t 3) (.c (.int .i64 0))⟩,
 ⟨(some 97), none, .load none (.t 96)⟩,
 ⟨(some 98), none, .bin .mul .no (.t 95) (.t 97)⟩,
 ⟨(some 99), none, .bin .add .no (.t 93) (.t 98)⟩,
 ⟨(some 100), none, .bin .quo .no (.t 99) (.c (.int .i64 2))⟩,
 ⟨(some 101), none, .buildA [(.int .i64 0), (.int .i64 0), (.int .i64 0), (.int .i64 0)] 1 [(0, (.t 28)), (1, (.t 52)), (2, (.t 76)), (3, (.t 100))]⟩,
 ⟨none, none, .store 4 (.t 4) (.t 101)⟩] [])
 .ret)),
 [.cell 4 (some 4)]⟩

/-- bellpull/norm.squareRoot -/
noncomputable def sf35 : SFun := ⟨[0, 2, 3, 10], 14,
 (.seq
 (.ops [
 ⟨(some 2), none, .mov (.c (.int .i64 0))⟩] [2])
 (.seq
 (.ops [
 ⟨(some 3), none, .mov (.c (.int .i64 0))⟩] [3])
 (.seq
 (.block 0
 (.loop
 (.seq
 (.seq
 (.ops [
 ⟨(some 4), none, .mov (.t 3)⟩,
 ⟨(some 5), none, .bin .add .no (.t 4) (.c (.int .i64 1))⟩,
 ⟨(some 6), none, .mov (.t 3)⟩,
 ⟨(some 7), none, .bin .add .no (.t 6) (.c (.int .i64 1))⟩,
 ⟨(some 8), none, .bin .mul .no (.t 5) (.t 7)⟩,
 ⟨(some 9), none, .mov (.t 0)⟩,
 ⟨(some 10), none, .bin .leq .no (.t 8) (.t 9)⟩] [10])
 (.cond (.t 10)
 .skip
 (.exit 0)))
 (.block 1
 (.ops [
 ⟨(some 11), none, .mov (.t 3)⟩,
 ⟨(some 12), none, .bin .add .no (.t 11) (.c (.int .i64 1))⟩,
 ⟨(some 3), none, .mov (.t 12)⟩] [3])))))
 (.seq
 (.ops [
 ⟨(some 13), none, .mov (.t 3)⟩,
 ⟨(some 2), none, .mov (.t 13)⟩] [2])
 .ret)))),
 [.tmp 2]⟩

/-- bellpull/norm.units -/
noncomputable def sf37 : SFun := ⟨[0, 1, 2, 3, 4, 5, 32], 39,
 (.seq
 (.ops [
 ⟨(some 0), none, .mov (.c .nilsl)⟩] [0])
 (.seq
 (.ops [
 ⟨(some 1), none, .mov (.c .nilsl)⟩] [1])
 (.seq
 (.seq
 (.ops [
 ⟨(some 4), none, .mov (.c (.int .i64 0))⟩] [4])
 (.block 0
 (.loop
 (.seq
 (.ops [
 ⟨(some 5), none, .bin .lss .no (.t 4) (.c (.int .i64 625))⟩] [5])
 (.seq
 (.cond (.t 5)
 .skip
 (.exit 0))
 (.seq
 (.block 1
 (.seq
 (.ops [
 ⟨(some 6), none, .mov (.t 4)⟩,
 ⟨(some 2), none, .mov (.t 6)⟩] [2])
 (.seq
 (.ops [
 ⟨(some 7), none, .mov (.t 2)⟩,
 ⟨(some 8), none, .bin .quo .no (.t 7) (.c (.int .i64 125))⟩,
 ⟨(some 9), none, .bin .sub .no (.t 8) (.c (.int .i64 2))⟩,
 ⟨(some 10), none, .mov (.t 2)⟩,
 ⟨(some 11), none, .bin .quo .no (.t 10) (.c (.int .i64 25))⟩,
 ⟨(some 12), none, .bin .rem .no (.t 11) (.c (.int .i64 5))⟩,
 ⟨(some 13), none, .bin .sub .no (.t 12) (.c (.int .i64 2))⟩,
 ⟨(some 14), none, .mov (.t 2)⟩,
 ⟨(some 15), none, .bin .quo .no (.t 14) (.c (.int .i64 5))⟩,
 ⟨(some 16), none, .bin .rem .no (.t 15) (.c (.int .i64 5))⟩,
 ⟨(some 17), none, .bin .sub .no (.t 16) (.c (.int .i64 2))⟩,
 ⟨(some 18), none, .mov (.t 2)⟩,
 ⟨(some 19), none, .bin .rem .no (.t 18) (.c (.int .i64 5))⟩,
 ⟨(some 20), none, .bin .sub .no (.t 19) (.c (.int .i64 2))⟩,
 ⟨(some 21), none, .buildA [(.int .i64 0), (.int .i64 0), (.int .i64 0), (.int .i64 0)] 1 [(0, (.t 9)), (1, (.t 13)), (2, (.t 17)), (3, (.t 20))]⟩,
 ⟨(some 3), none, .new [(.int .i64 0), (.int .i64 0), (.int .i64 0), (.int .i64 0)]⟩,
 ⟨none, none, .store 4 (.t 3) (.t 21)⟩] [3])
 (.seq
 (.draw [
 ⟨⟨(some 22), none, .load (some 4) (.t 3)⟩, true, false⟩,
 ⟨⟨(some 23), none, .call (.c (.fn (.func 33) [] [])) [(.t 22)]⟩, false, true⟩,
 ⟨⟨(some 24), none, .mov (.t 23)⟩, false, false⟩,
 ⟨⟨(some 25), (some (24, true)), .load (some 4) (.t 3)⟩, true, false⟩,
 ⟨⟨(some 26), (some (24, true)), .load (some 4) (.t 3)⟩, true, false⟩,
 ⟨⟨(some 27), (some (24, true)), .call (.c (.fn (.func 39) [] [])) [(.t 26)]⟩, false, true⟩,
 ⟨⟨(some 28), (some (24, true)), .buildS [(.int .i64 0), (.int .i64 0), (.int .i64 0), (.int .i64 0)] 2 4 [(0, (.t 25)), (1, (.t 27))]⟩, false, true⟩,
 ⟨⟨(some 29), (some (24, true)), .call (.c (.fn (.func 22) [] [])) [(.t 28)]⟩, false, true⟩,
 ⟨⟨(some 30), (some (24, true)), .call (.c (.fn (.func 22) [] [])) [(.c .nilsl)]⟩, false, true⟩,
 ⟨⟨(some 31), (some (24, true)), .bin .eql (.flat 4) (.t 29) (.t 30)⟩, false, false⟩,
 ⟨⟨(some 32), none, .pick (.t 24) (.t 31) (.c (.bool false))⟩, false, false⟩] [0, 1, 3, 7, 7, 23, 63, 127, 255, 511, 1023] [32])
 (.cond (.t 32)
 (.ops [
 ⟨(some 33), none, .mov (.t 1)⟩,
 ⟨(some 34), none, .load (some 4) (.t 3)⟩,
 ⟨(some 35), none, .buildS [(.int .i64 0), (.int .i64 0), (.int .i64 0), (.int .i64 0)] 1 4 [(0, (.t 34))]⟩,
 ⟨(some 36), none, .app true 4 (.t 33) (.t 35)⟩,
 ⟨(some 1), none, .mov (.t 36)⟩] [1])
 .skip)))))
 (.ops [
 ⟨(some 37), none, .bin .add .no (.t 4) (.c (.int .i64 1))⟩,
 ⟨(some 4), none, .mov (.t 37)⟩] [4])))))))
 (.seq
 (.ops [
 ⟨(some 38), none, .mov (.t 1)⟩,
 ⟨(some 0), none, .mov (.t 38)⟩] [0])
 .ret)))),
 [.tmp 0]⟩

/-- bellpull/norm.compare -/
noncomputable def sf38 : SFun := ⟨[0, 1, 2, 3, 4], 8,
 (.seq
 (.ops [
 ⟨(some 2), none, .box (.t 0)⟩,
 ⟨(some 3), none, .box (.t 1)⟩,
 ⟨(some 4), none, .mov (.c (.int .i64 0))⟩] [2, 3, 4])
 (.seq
 (.ops [
 ⟨(some 5), none, .arr 4 1 (.t 2)⟩,
 ⟨(some 6), none, .arr 4 1 (.t 3)⟩,
 ⟨(some 7), none, .call (.c (.fn (.func 44) [] [])) [(.t 5), (.t 6)]⟩,
 ⟨(some 4), none, .mov (.t 7)⟩] [4])
 .ret)),
 [.tmp 4]⟩

/-- (bellpull/norm.parts).conjugate -/
noncomputable def sf39 : SFun := ⟨[0, 1, 2], 15,
 (.seq
 (.ops [
 ⟨(some 1), none, .box (.t 0)⟩,
 ⟨(some 2), none, .new [(.int .i64 0), (.int .i64 0), (.int .i64 0), (.int .i64 0)]⟩] [1, 2])
 (.seq
 (.ops [
 ⟨(some 3), none, .ixA 4 1 (.t 1) (.c (.int .i64 0))⟩,
 ⟨(some 4), none, .load none (.t 3)⟩,
 ⟨(some 5), none, .ixA 4 1 (.t 1) (.c (.int .i64 1))⟩,
 ⟨(some 6), none, .load none (.t 5)⟩,
 ⟨(some 7), none, .neg (.t 6)⟩,
 ⟨(some 8), none, .ixA 4 1 (.t 1) (.c (.int .i64 2))⟩,
 ⟨(some 9), none, .load none (.t 8)⟩,
 ⟨(some 10), none, .neg (.t 9)⟩,
 ⟨(some 11), none, .ixA 4 1 (.t 1) (.c (.int .i64 3))⟩,
 ⟨(some 12), none, .load none (.t 11)⟩,
 ⟨(some 13), none, .neg (.t 12)⟩,
 ⟨(some 14), none, .buildA [(.int .i64 0), (.int .i64 0), (.int .i64 0), (.int .i64 0)] 1 [(0, (.t 4)), (1, (.t 7)), (2, (.t 10)), (3, (.t 13))]⟩,
 ⟨none, none, .store 4 (.t 2) (.t 14)⟩] [])
 .ret)),
 [.cell 2 (some 4)]⟩

/-- bellpull/norm.nearest -/
noncomputable def sf40 : SFun := ⟨[0, 1, 2, 3, 6, 7, 8, 9, 10, 11, 12, 13, 14, 15], 46,
 (.seq
 (.ops [
 ⟨(some 3), none, .box (.t 0)⟩,
 ⟨(some 6), none, .new [(.int .i64 0), (.int .i64 0), (.int .i64 0), (.int .i64 0)]⟩,
 ⟨(some 7), none, .mov (.c (.int .i64 0))⟩] [3, 6, 7])
 (.seq
 (.ops [
 ⟨(some 8), none, .new [(.int .i64 0), (.int .i64 0), (.int .i64 0), (.int .i64 0)]⟩] [8])
 (.seq
 (.ops [
 ⟨(some 9), none, .mov (.c (.int .i64 0))⟩] [9])
 (.seq
 (.seq
 (.ops [
 ⟨(some 13), none, .load (some 4) (.t 3)⟩,
 ⟨(some 14), none, .mov (.c (.int .i64 0))⟩] [13, 14])
 (.block 0
 (.loop
 (.seq
 (.ops [
 ⟨(some 15), none, .bin .lss .no (.t 14) (.c (.int .i64 4))⟩] [15])
 (.seq
 (.cond (.t 15)
 .skip
 (.exit 0))
 (.seq
 (.block 1
 (.seq
 (.ops [
 ⟨(some 16), none, .mov (.t 14)⟩,
 ⟨(some 17), none, .ix 4 1 none (.t 13) (.t 14)⟩,
 ⟨(some 10), none, .mov (.t 16)⟩,
 ⟨(some 11), none, .mov (.t 17)⟩] [10, 11])
 (.seq
 (.ops [
 ⟨(some 18), none, .mov (.t 10)⟩,
 ⟨(some 19), none, .mov (.t 11)⟩,
 ⟨(some 20), none, .mov (.t 2)⟩,
 ⟨(some 21), none, .mov (.t 1)⟩,
 ⟨(some 22), none, .bin .mul .no (.t 20) (.t 21)⟩,
 ⟨(some 23), none, .bin .sub .no (.t 19) (.t 22)⟩,
 ⟨(some 24), none, .mov (.t 1)⟩,
 ⟨(some 25), none, .bin .mul .no (.c (.int .i64 2)) (.t 24)⟩,
 ⟨(some 26), none, .call (.c (.fn (.func 45) [] [])) [(.t 23), (.t 25)]⟩,
 ⟨(some 27), none, .bin .mul .no (.c (.int .i64 2)) (.t 26)⟩,
 ⟨(some 28), none, .mov (.t 2)⟩,
 ⟨(some 29), none, .bin .add .no (.t 27) (.t 28)⟩,
 ⟨(some 30), none, .ixA 4 1 (.t 8) (.t 18)⟩,
 ⟨none, none, .store 1 (.t 30) (.t 29)⟩] [])
 (.seq
 (.ops [
 ⟨(some 31), none, .mov (.t 11)⟩,
 ⟨(some 32), none, .mov (.t 1)⟩,
 ⟨(some 33), none, .mov (.t 10)⟩,
 ⟨(some 34), none, .ixA 4 1 (.t 8) (.t 33)⟩,
 ⟨(some 35), none, .load none (.t 34)⟩,
 ⟨(some 36), none, .bin .mul .no (.t 32) (.t 35)⟩,
 ⟨(some 37), none, .bin .sub .no (.t 31) (.t 36)⟩,
 ⟨(some 12), none, .mov (.t 37)⟩] [12])
 (.ops [
 ⟨(some 38), none, .mov (.t 9)⟩,
 ⟨(some 39), none, .mov (.t 12)⟩,
 ⟨(some 40), none, .mov (.t 12)⟩,
 ⟨(some 41), none, .bin .mul .no (.t 39) (.t 40)⟩,
 ⟨(some 42), none, .bin .add .no (.t 38) (.t 41)⟩,
 ⟨(some 9), none, .mov (.t 42)⟩] [9])))))
 (.ops [
 ⟨(some 43), none, .bin .add .no (.t 14) (.c (.int .i64 1))⟩,
 ⟨(some 14), none, .mov (.t 43)⟩] [14])))))))
 (.seq
 (.ops [
 ⟨(some 44), none, .load (some 4) (.t 8)⟩,
 ⟨(some 45), none, .mov (.t 9)⟩,
 ⟨none, none, .store 4 (.t 6) (.t 44)⟩,
 ⟨(some 7), none, .mov (.t 45)⟩] [7])
 .ret))))),
 [.cell 6 (some 4), .tmp 7]⟩

/-- (bellpull/norm.parts).minus -/
noncomputable def sf41 : SFun := ⟨[0, 1, 2, 3, 4], 26,
 (.seq
 (.ops [
 ⟨(some 2), none, .box (.t 0)⟩,
 ⟨(some 3), none, .box (.t 1)⟩,
 ⟨(some 4), none, .new [(.int .i64 0), (.int .i64 0), (.int .i64 0), (.int .i64 0)]⟩] [2, 3, 4])
 (.seq
 (.ops [
 ⟨(some 5), none, .ixA 4 1 (.t 2) (.c (.int .i64 0))⟩,
 ⟨(some 6), none, .load none (.t 5)⟩,
 ⟨(some 7), none, .ixA 4 1 (.t 3) (.c (.int .i64 0))⟩,
 ⟨(some 8), none, .load none (.t 7)⟩,
 ⟨(some 9), none, .bin .sub .no (.t 6) (.t 8)⟩,
 ⟨(some 10), none, .ixA 4 1 (.t 2) (.c (.int .i64 1))⟩,
 ⟨(some 11), none, .load none (.t 10)⟩,
 ⟨(some 12), none, .ixA 4 1 (.t 3) (.c (.int .i64 1))⟩,
 ⟨(some 13), none, .load none (.t 12)⟩,
 ⟨(some 14), none, .bin .sub .no (.t 11) (.t 13)⟩,
 ⟨(some 15), none, .ixA 4 1 (.t 2) (.c (.int .i64 2))⟩,
 ⟨(some 16), none, .load none (.t 15)⟩,
 ⟨(some 17), none, .ixA 4 1 (.t 3) (.c (.int .i64 2))⟩,
 ⟨(some 18), none, .load none (.t 17)⟩,
 ⟨(some 19), none, .bin .sub .no (.t 16) (.t 18)⟩,
 ⟨(some 20), none, .ixA 4 1 (.t 2) (.c (.int .i64 3))⟩,
 ⟨(some 21), none, .load none (.t 20)⟩,
 ⟨(some 22), none, .ixA 4 1 (.t 3) (.c (.int .i64 3))⟩,
 ⟨(some 23), none, .load none (.t 22)⟩,
 ⟨(some 24), none, .bin .sub .no (.t 21) (.t 23)⟩,
 ⟨(some 25), none, .buildA [(.int .i64 0), (.int .i64 0), (.int .i64 0), (.int .i64 0)] 1 [(0, (.t 9)), (1, (.t 14)), (2, (.t 19)), (3, (.t 24))]⟩,
 ⟨none, none, .store 4 (.t 4) (.t 25)⟩] [])
 .ret)),
 [.cell 4 (some 4)]⟩

/-- slices.rotateRight[int] -/
noncomputable def sf43 : SFun := ⟨[0, 1], 10,
 (.ops [
 ⟨(some 4), none, .mov (.t 0)⟩,
 ⟨(some 5), none, .mov (.t 0)⟩,
 ⟨(some 6), none, .lenS (.t 5)⟩,
 ⟨(some 7), none, .mov (.t 1)⟩,
 ⟨(some 8), none, .bin .sub .no (.t 6) (.t 7)⟩,
 ⟨(some 9), none, .call (.c (.fn (.func 46) [] [])) [(.t 4), (.t 8)]⟩] []),
 []⟩

/-- slices.Compare[[]int,int] -/
noncomputable def sf44 : SFun := ⟨[0, 1, 4, 5, 6, 7, 8, 9, 10, 11, 12, 19, 28, 35], 36,
 (.seq
 (.ops [
 ⟨(some 4), none, .mov (.c (.int .i64 0))⟩] [4])
 (.seq
 (.seq
 (.ops [
 ⟨(some 9), none, .mov (.t 0)⟩,
 ⟨(some 10), none, .lenS (.t 9)⟩,
 ⟨(some 11), none, .mov (.c (.int .i64 0))⟩] [9, 10, 11])
 (.block 0
 (.loop
 (.seq
 (.ops [
 ⟨(some 12), none, .bin .lss .no (.t 11) (.t 10)⟩] [12])
 (.seq
 (.cond (.t 12)
 .skip
 (.exit 0))
 (.seq
 (.block 1
 (.seq
 (.ops [
 ⟨(some 13), none, .mov (.t 11)⟩,
 ⟨(some 14), none, .ixS 1 (.t 9) (.t 11)⟩,
 ⟨(some 15), none, .load none (.t 14)⟩,
 ⟨(some 5), none, .mov (.t 13)⟩,
 ⟨(some 6), none, .mov (.t 15)⟩] [5, 6])
 (.seq
 (.seq
 (.ops [
 ⟨(some 16), none, .mov (.t 5)⟩,
 ⟨(some 17), none, .mov (.t 1)⟩,
 ⟨(some 18), none, .lenS (.t 17)⟩,
 ⟨(some 19), none, .bin .geq .no (.t 16) (.t 18)⟩] [19])
 (.cond (.t 19)
 (.seq
 (.ops [
 ⟨(some 4), none, .mov (.c (.int .i64 1))⟩] [4])
 .ret)
 .skip))
 (.seq
 (.ops [
 ⟨(some 20), none, .mov (.t 1)⟩,
 ⟨(some 21), none, .mov (.t 5)⟩,
 ⟨(some 22), none, .ixS 1 (.t 20) (.t 21)⟩,
 ⟨(some 23), none, .load none (.t 22)⟩,
 ⟨(some 7), none, .mov (.t 23)⟩] [7])
 (.seq
 (.ops [
 ⟨(some 24), none, .mov (.t 6)⟩,
 ⟨(some 25), none, .mov (.t 7)⟩,
 ⟨(some 26), none, .call (.c (.fn (.func 47) [] [])) [(.t 24), (.t 25)]⟩,
 ⟨(some 8), none, .mov (.t 26)⟩] [8])
 (.seq
 (.ops [
 ⟨(some 27), none, .mov (.t 8)⟩,
 ⟨(some 28), none, .bin .neq .no (.t 27) (.c (.int .i64 0))⟩] [28])
 (.cond (.t 28)
 (.seq
 (.ops [
 ⟨(some 29), none, .mov (.t 8)⟩,
 ⟨(some 4), none, .mov (.t 29)⟩] [4])
 .ret)
 .skip)))))))
 (.ops [
 ⟨(some 30), none, .bin .add .no (.t 11) (.c (.int .i64 1))⟩,
 ⟨(some 11), none, .mov (.t 30)⟩] [11])))))))
 (.seq
 (.seq
 (.ops [
 ⟨(some 31), none, .mov (.t 0)⟩,
 ⟨(some 32), none, .lenS (.t 31)⟩,
 ⟨(some 33), none, .mov (.t 1)⟩,
 ⟨(some 34), none, .lenS (.t 33)⟩,
 ⟨(some 35), none, .bin .lss .no (.t 32) (.t 34)⟩] [35])
 (.cond (.t 35)
 (.seq
 (.ops [
 ⟨(some 4), none, .mov (.c (.int .i64 (-1)))⟩] [4])
 .ret)
 .skip))
 (.seq
 (.ops [
 ⟨(some 4), none, .mov (.c (.int .i64 0))⟩] [4])
 .ret)))),
 [.tmp 4]⟩

/-- bellpull/norm.rounded -/
noncomputable def sf45 : SFun := ⟨[0, 1, 4, 5, 16], 20,
 (.seq
 (.ops [
 ⟨(some 4), none, .mov (.c (.int .i64 0))⟩] [4])
 (.seq
 (.ops [
 ⟨(some 6), none, .mov (.t 0)⟩,
 ⟨(some 7), none, .mov (.t 1)⟩,
 ⟨(some 8), none, .bin .quo .no (.t 7) (.c (.int .i64 2))⟩,
 ⟨(some 9), none, .bin .sub .no (.t 6) (.t 8)⟩,
 ⟨(some 0), none, .mov (.t 9)⟩] [0])
 (.seq
 (.ops [
 ⟨(some 10), none, .mov (.t 0)⟩,
 ⟨(some 11), none, .mov (.t 1)⟩,
 ⟨(some 12), none, .bin .quo .no (.t 10) (.t 11)⟩,
 ⟨(some 5), none, .mov (.t 12)⟩] [5])
 (.seq
 (.seq
 (.ops [
 ⟨(some 13), none, .mov (.t 0)⟩,
 ⟨(some 14), none, .mov (.t 1)⟩,
 ⟨(some 15), none, .bin .rem .no (.t 13) (.t 14)⟩,
 ⟨(some 16), none, .bin .gtr .no (.t 15) (.c (.int .i64 0))⟩] [16])
 (.cond (.t 16)
 (.ops [
 ⟨(some 17), none, .mov (.t 5)⟩,
 ⟨(some 18), none, .bin .add .no (.t 17) (.c (.int .i64 1))⟩,
 ⟨(some 5), none, .mov (.t 18)⟩] [5])
 .skip))
 (.seq
 (.ops [
 ⟨(some 19), none, .mov (.t 5)⟩,
 ⟨(some 4), none, .mov (.t 19)⟩] [4])
 .ret))))),
 [.tmp 4]⟩

/-- slices.rotateLeft[int] -/
noncomputable def sf46 : SFun := ⟨[0, 1], 14,
 (.seq
 (.ops [
 ⟨(some 4), none, .mov (.t 0)⟩,
 ⟨(some 5), none, .mov (.t 1)⟩,
 ⟨(some 6), none, .slice 1 (.t 4) none (some (.t 5))⟩,
 ⟨(some 7), none, .call (.c (.fn (.func 48) [] [])) [(.t 6)]⟩] [])
 (.seq
 (.ops [
 ⟨(some 8), none, .mov (.t 0)⟩,
 ⟨(some 9), none, .mov (.t 1)⟩,
 ⟨(some 10), none, .slice 1 (.t 8) (some (.t 9)) none⟩,
 ⟨(some 11), none, .call (.c (.fn (.func 48) [] [])) [(.t 10)]⟩] [])
 (.ops [
 ⟨(some 12), none, .mov (.t 0)⟩,
 ⟨(some 13), none, .call (.c (.fn (.func 48) [] [])) [(.t 12)]⟩] []))),
 []⟩

/-- cmp.Compare[int] -/
noncomputable def sf47 : SFun := ⟨[0, 1, 4, 5, 6, 11, 12, 13, 16, 19], 20,
 (.seq
 (.ops [
 ⟨(some 4), none, .mov (.c (.int .i64 0))⟩] [4])
 (.seq
 (.ops [
 ⟨(some 7), none, .mov (.t 0)⟩,
 ⟨(some 8), none, .call (.c (.fn (.func 49) [] [])) [(.t 7)]⟩,
 ⟨(some 5), none, .mov (.t 8)⟩] [5])
 (.seq
 (.ops [
 ⟨(some 9), none, .mov (.t 1)⟩,
 ⟨(some 10), none, .call (.c (.fn (.func 49) [] [])) [(.t 9)]⟩,
 ⟨(some 6), none, .mov (.t 10)⟩] [6])
 (.seq
 (.seq
 (.ops [
 ⟨(some 11), none, .mov (.t 5)⟩] [11])
 (.cond (.t 11)
 (.seq
 (.seq
 (.ops [
 ⟨(some 12), none, .mov (.t 6)⟩] [12])
 (.cond (.t 12)
 (.seq
 (.ops [
 ⟨(some 4), none, .mov (.c (.int .i64 0))⟩] [4])
 .ret)
 .skip))
 (.seq
 (.ops [
 ⟨(some 4), none, .mov (.c (.int .i64 (-1)))⟩] [4])
 .ret))
 .skip))
 (.seq
 (.seq
 (.ops [
 ⟨(some 13), none, .mov (.t 6)⟩] [13])
 (.cond (.t 13)
 (.seq
 (.ops [
 ⟨(some 4), none, .mov (.c (.int .i64 1))⟩] [4])
 .ret)
 .skip))
 (.seq
 (.seq
 (.ops [
 ⟨(some 14), none, .mov (.t 0)⟩,
 ⟨(some 15), none, .mov (.t 1)⟩,
 ⟨(some 16), none, .bin .lss .no (.t 14) (.t 15)⟩] [16])
 (.cond (.t 16)
 (.seq
 (.ops [
 ⟨(some 4), none, .mov (.c (.int .i64 (-1)))⟩] [4])
 .ret)
 .skip))
 (.seq
 (.seq
 (.ops [
 ⟨(some 17), none, .mov (.t 0)⟩,
 ⟨(some 18), none, .mov (.t 1)⟩,
 ⟨(some 19), none, .bin .gtr .no (.t 17) (.t 18)⟩] [19])
 (.cond (.t 19)
 (.seq
 (.ops [
 ⟨(some 4), none, .mov (.c (.int .i64 1))⟩] [4])
 .ret)
 .skip))
 (.seq
 (.ops [
 ⟨(some 4), none, .mov (.c (.int .i64 0))⟩] [4])
 .ret)))))))),
 [.tmp 4]⟩

/-- slices.Reverse[[]int,int] -/
noncomputable def sf48 : SFun := ⟨[0, 2, 3, 9], 28,
 (.seq
 (.ops [
 ⟨(some 4), none, .mov (.t 0)⟩,
 ⟨(some 5), none, .lenS (.t 4)⟩,
 ⟨(some 6), none, .bin .sub .no (.t 5) (.c (.int .i64 1))⟩,
 ⟨(some 2), none, .mov (.c (.int .i64 0))⟩,
 ⟨(some 3), none, .mov (.t 6)⟩] [2, 3])
 (.block 0
 (.loop
 (.seq
 (.seq
 (.ops [
 ⟨(some 7), none, .mov (.t 2)⟩,
 ⟨(some 8), none, .mov (.t 3)⟩,
 ⟨(some 9), none, .bin .lss .no (.t 7) (.t 8)⟩] [9])
 (.cond (.t 9)
 .skip
 (.exit 0)))
 (.seq
 (.block 1
 (.draw [
 ⟨⟨(some 14), none, .mov (.t 0)⟩, false, false⟩,
 ⟨⟨(some 15), none, .mov (.t 2)⟩, false, false⟩,
 ⟨⟨(some 16), none, .mov (.t 0)⟩, false, false⟩,
 ⟨⟨(some 17), none, .mov (.t 3)⟩, false, false⟩,
 ⟨⟨(some 18), none, .mov (.t 0)⟩, false, false⟩,
 ⟨⟨(some 19), none, .mov (.t 3)⟩, false, false⟩,
 ⟨⟨(some 20), none, .ixS 1 (.t 18) (.t 19)⟩, false, false⟩,
 ⟨⟨(some 21), none, .load none (.t 20)⟩, true, false⟩,
 ⟨⟨(some 22), none, .mov (.t 0)⟩, false, false⟩,
 ⟨⟨(some 23), none, .mov (.t 2)⟩, false, false⟩,
 ⟨⟨(some 24), none, .ixS 1 (.t 22) (.t 23)⟩, false, false⟩,
 ⟨⟨(some 25), none, .load none (.t 24)⟩, true, false⟩,
 ⟨⟨(some 26), none, .ixS 1 (.t 14) (.t 15)⟩, false, false⟩,
 ⟨⟨none, none, .store 1 (.t 26) (.t 21)⟩, false, true⟩,
 ⟨⟨(some 27), none, .ixS 1 (.t 16) (.t 17)⟩, false, false⟩,
 ⟨⟨none, none, .store 1 (.t 27) (.t 25)⟩, false, true⟩] [0, 0, 0, 0, 0, 0, 48, 112, 0, 0, 768, 1792, 4083, 8179, 16383, 32767] []))
 (.ops [
 ⟨(some 10), none, .mov (.t 2)⟩,
 ⟨(some 11), none, .bin .add .no (.t 10) (.c (.int .i64 1))⟩,
 ⟨(some 12), none, .mov (.t 3)⟩,
 ⟨(some 13), none, .bin .sub .no (.t 12) (.c (.int .i64 1))⟩,
 ⟨(some 2), none, .mov (.t 11)⟩,
 ⟨(some 3), none, .mov (.t 13)⟩] [2, 3])))))),
 []⟩

/-- cmp.isNaN[int] -/
noncomputable def sf49 : SFun := ⟨[0, 2], 6,
 (.seq
 (.ops [
 ⟨(some 2), none, .mov (.c (.bool false))⟩] [2])
 (.seq
 (.ops [
 ⟨(some 3), none, .mov (.t 0)⟩,
 ⟨(some 4), none, .mov (.t 0)⟩,
 ⟨(some 5), none, .bin .neq .no (.t 3) (.t 4)⟩,
 ⟨(some 2), none, .mov (.t 5)⟩] [2])
 .ret)),
 [.tmp 2]⟩



end Go.Proofs.Ythalpbiifpfagaa

