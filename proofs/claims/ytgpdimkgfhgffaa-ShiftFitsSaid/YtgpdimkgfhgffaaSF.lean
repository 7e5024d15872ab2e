/- The program's functions, compiled. -/
import Derived.Test.YtgpdimkgfhgffaaRows
import Derived.Test.YtgpdimkgfhgffaaSE
import Derived.KernelRfl
set_option linter.unusedVariables false
set_option maxRecDepth 100000

namespace Go.Proofs.Ytgpdimkgfhgffaa

open Go Go.Abs
/-- gosem.cut.init -/
noncomputable def sf2 : SFun := ⟨[], 1,
 (.ops [
 ⟨(some 0), none, .call (.c (.fn (.func 1) [] [])) []⟩] []),
 []⟩

/-- bellpull/bellpulllaw03.cut -/
noncomputable def sf5 : SFun := ⟨[0, 2], 10,
 (.seq
 (.ops [
 ⟨(some 2), none, .mov (.c .nilsl)⟩] [2])
 (.seq
 (.ops [
 ⟨(some 3), none, .buildS [(.int .i64 0), (.int .i64 0)] 0 2 []⟩,
 ⟨(some 4), none, .mov (.t 0)⟩,
 ⟨(some 5), none, .mov (.t 0)⟩,
 ⟨(some 6), none, .lenS (.t 5)⟩,
 ⟨(some 7), none, .mn (.t 6) (.c (.int .i64 41))⟩,
 ⟨(some 8), none, .slice 2 (.t 4) none (some (.t 7))⟩,
 ⟨(some 9), none, .app true 2 (.t 3) (.t 8)⟩,
 ⟨(some 2), none, .mov (.t 9)⟩] [2])
 .ret)),
 [.tmp 2]⟩

/-- bellpull/shift.Proper -/
noncomputable def sf6 : SFun := ⟨[0, 1, 4, 5, 6, 7, 8, 12, 22, 23, 24, 25, 26, 40], 42,
 (.seq
 (.ops [
 ⟨(some 4), none, .mov (.c (.bool false))⟩,
 ⟨(some 5), none, .mov (.c (.int .i64 0))⟩] [4, 5])
 (.seq
 (.seq
 (.ops [
 ⟨(some 9), none, .mov (.t 0)⟩,
 ⟨(some 10), none, .call (.c (.fn (.func 15) [] [])) [(.t 9)]⟩,
 ⟨(some 6), none, .mov (.t 10)⟩] [6])
 (.seq
 (.ops [
 ⟨(some 11), none, .mov (.t 6)⟩,
 ⟨(some 12), none, .bin .neq .no (.t 11) (.c (.int .i64 0))⟩] [12])
 (.cond (.t 12)
 (.seq
 (.ops [
 ⟨(some 13), none, .mov (.t 6)⟩,
 ⟨(some 4), none, .mov (.c (.bool false))⟩,
 ⟨(some 5), none, .mov (.t 13)⟩] [4, 5])
 .ret)
 .skip)))
 (.seq
 (.seq
 (.ops [
 ⟨(some 14), none, .mov (.t 1)⟩,
 ⟨(some 15), none, .lenS (.t 14)⟩,
 ⟨(some 16), none, .mov (.t 0)⟩,
 ⟨(some 17), none, .lenS (.t 16)⟩,
 ⟨(some 18), none, .bin .neq .no (.t 15) (.t 17)⟩,
 ⟨(some 19), none, .mov (.t 18)⟩,
 ⟨(some 20), (some (19, false)), .mov (.t 1)⟩,
 ⟨(some 21), (some (19, false)), .call (.c (.fn (.func 16) [] [])) [(.t 20), (.c (.fn (.func 17) [] []))]⟩,
 ⟨(some 22), none, .pick (.t 19) (.c (.bool true)) (.t 21)⟩] [22])
 (.cond (.t 22)
 (.seq
 (.ops [
 ⟨(some 4), none, .mov (.c (.bool false))⟩,
 ⟨(some 5), none, .mov (.c (.int .i64 1))⟩] [4, 5])
 .ret)
 .skip))
 (.seq
 (.seq
 (.ops [
 ⟨(some 23), none, .mov (.t 0)⟩,
 ⟨(some 24), none, .lenS (.t 23)⟩,
 ⟨(some 25), none, .mov (.c (.int .i64 0))⟩] [23, 24, 25])
 (.block 0
 (.loop
 (.seq
 (.ops [
 ⟨(some 26), none, .bin .lss .no (.t 25) (.t 24)⟩] [26])
 (.seq
 (.cond (.t 26)
 .skip
 (.exit 0))
 (.seq
 (.block 1
 (.seq
 (.ops [
 ⟨(some 27), none, .mov (.t 25)⟩,
 ⟨(some 28), none, .ixS 2 (.t 23) (.t 25)⟩,
 ⟨(some 29), none, .load (some 2) (.t 28)⟩,
 ⟨(some 8), none, .new [(.int .i64 0), (.int .i64 0)]⟩,
 ⟨(some 7), none, .mov (.t 27)⟩,
 ⟨none, none, .store 2 (.t 8) (.t 29)⟩] [8, 7])
 (.seq
 (.draw [
 ⟨⟨(some 30), none, .load (some 2) (.t 8)⟩, true, false⟩,
 ⟨⟨(some 31), none, .mov (.t 0)⟩, false, false⟩,
 ⟨⟨(some 32), none, .mov (.t 7)⟩, false, false⟩,
 ⟨⟨(some 33), none, .slice 2 (.t 31) none (some (.t 32))⟩, false, false⟩,
 ⟨⟨(some 34), none, .mov (.t 1)⟩, false, false⟩,
 ⟨⟨(some 35), none, .call (.c (.fn (.func 19) [] [])) [(.t 30), (.t 33), (.t 34)]⟩, false, true⟩,
 ⟨⟨(some 36), none, .mov (.t 1)⟩, false, false⟩,
 ⟨⟨(some 37), none, .mov (.t 7)⟩, false, false⟩,
 ⟨⟨(some 38), none, .ixS 1 (.t 36) (.t 37)⟩, false, false⟩,
 ⟨⟨(some 39), none, .load none (.t 38)⟩, true, false⟩,
 ⟨⟨(some 40), none, .call (.c (.fn (.func 18) [] [])) [(.t 35), (.t 39)]⟩, false, true⟩] [0, 0, 0, 6, 0, 31, 0, 0, 192, 448, 1023] [40])
 (.cond (.t 40)
 (.seq
 (.ops [
 ⟨(some 4), none, .mov (.c (.bool false))⟩,
 ⟨(some 5), none, .mov (.c (.int .i64 0))⟩] [4, 5])
 .ret)
 .skip))))
 (.ops [
 ⟨(some 41), none, .bin .add .no (.t 25) (.c (.int .i64 1))⟩,
 ⟨(some 25), none, .mov (.t 41)⟩] [25])))))))
 (.seq
 (.ops [
 ⟨(some 4), none, .mov (.c (.bool true))⟩,
 ⟨(some 5), none, .mov (.c (.int .i64 0))⟩] [4, 5])
 .ret))))),
 [.tmp 4, .tmp 5]⟩

/-- bellpull/bellpullref03.Spans -/
noncomputable def sf7 : SFun := ⟨[0, 2, 3, 6, 10, 39], 40,
 (.seq
 (.ops [
 ⟨(some 2), none, .mov (.c (.int .i64 0))⟩] [2])
 (.seq
 (.seq
 (.ops [
 ⟨(some 4), none, .mov (.t 0)⟩,
 ⟨(some 5), none, .lenS (.t 4)⟩,
 ⟨(some 6), none, .bin .gtr .no (.t 5) (.c (.int .i64 40))⟩] [6])
 (.cond (.t 6)
 (.seq
 (.ops [
 ⟨(some 2), none, .mov (.c (.int .i64 3))⟩] [2])
 .ret)
 .skip))
 (.seq
 (.seq
 (.ops [
 ⟨(some 3), none, .mov (.c (.int .i64 0))⟩] [3])
 (.block 0
 (.loop
 (.seq
 (.seq
 (.ops [
 ⟨(some 7), none, .mov (.t 3)⟩,
 ⟨(some 8), none, .mov (.t 0)⟩,
 ⟨(some 9), none, .lenS (.t 8)⟩,
 ⟨(some 10), none, .bin .lss .no (.t 7) (.t 9)⟩] [10])
 (.cond (.t 10)
 .skip
 (.exit 0)))
 (.seq
 (.block 1
 (.seq
 (.ops [
 ⟨(some 13), none, .mov (.t 0)⟩,
 ⟨(some 14), none, .mov (.t 3)⟩,
 ⟨(some 15), none, .ixS 2 (.t 13) (.t 14)⟩,
 ⟨(some 16), none, .fa 0 (.t 15)⟩,
 ⟨(some 17), none, .load none (.t 16)⟩,
 ⟨(some 18), none, .bin .lss .no (.t 17) (.c (.int .i64 0))⟩,
 ⟨(some 19), none, .mov (.t 18)⟩,
 ⟨(some 20), (some (19, false)), .mov (.t 0)⟩,
 ⟨(some 21), (some (19, false)), .mov (.t 3)⟩,
 ⟨(some 22), (some (19, false)), .ixS 2 (.t 20) (.t 21)⟩,
 ⟨(some 23), (some (19, false)), .fa 0 (.t 22)⟩,
 ⟨(some 24), (some (19, false)), .load none (.t 23)⟩,
 ⟨(some 25), (some (19, false)), .mov (.t 0)⟩,
 ⟨(some 26), (some (19, false)), .mov (.t 3)⟩,
 ⟨(some 27), (some (19, false)), .ixS 2 (.t 25) (.t 26)⟩,
 ⟨(some 28), (some (19, false)), .fa 1 (.t 27)⟩,
 ⟨(some 29), (some (19, false)), .load none (.t 28)⟩,
 ⟨(some 30), (some (19, false)), .bin .geq .no (.t 24) (.t 29)⟩,
 ⟨(some 31), none, .pick (.t 19) (.c (.bool true)) (.t 30)⟩,
 ⟨(some 32), none, .mov (.t 31)⟩,
 ⟨(some 33), (some (32, false)), .mov (.t 0)⟩,
 ⟨(some 34), (some (32, false)), .mov (.t 3)⟩,
 ⟨(some 35), (some (32, false)), .ixS 2 (.t 33) (.t 34)⟩,
 ⟨(some 36), (some (32, false)), .fa 1 (.t 35)⟩,
 ⟨(some 37), (some (32, false)), .load none (.t 36)⟩,
 ⟨(some 38), (some (32, false)), .bin .gtr .no (.t 37) (.c (.int .i64 1000))⟩,
 ⟨(some 39), none, .pick (.t 32) (.c (.bool true)) (.t 38)⟩] [39])
 (.cond (.t 39)
 (.seq
 (.ops [
 ⟨(some 2), none, .mov (.c (.int .i64 2))⟩] [2])
 .ret)
 .skip)))
 (.ops [
 ⟨(some 11), none, .mov (.t 3)⟩,
 ⟨(some 12), none, .bin .add .no (.t 11) (.c (.int .i64 1))⟩,
 ⟨(some 3), none, .mov (.t 12)⟩] [3]))))))
 (.seq
 (.ops [
 ⟨(some 2), none, .mov (.c (.int .i64 0))⟩] [2])
 .ret)))),
 [.tmp 2]⟩

/-- bellpull/bellpulllaw03.lives -/
noncomputable def sf8 : SFun := ⟨[0, 1, 2, 3, 4, 5, 6, 7, 8, 9, 10, 11, 12, 13, 14], 108,
 (.seq
 (.ops [
 ⟨(some 0), none, .mov (.c (.bool false))⟩] [0])
 (.seq
 (.ops [
 ⟨(some 15), none, .build [(.int .i64 0), (.int .i64 0)] [(0, 1), (1, 1)] [(0, (.c (.int .i64 0))), (1, (.c (.int .i64 2)))]⟩,
 ⟨(some 16), none, .build [(.int .i64 0), (.int .i64 0)] [(0, 1), (1, 1)] [(0, (.c (.int .i64 4))), (1, (.c (.int .i64 6)))]⟩,
 ⟨(some 17), none, .build [(.int .i64 0), (.int .i64 0)] [(0, 1), (1, 1)] [(0, (.c (.int .i64 1))), (1, (.c (.int .i64 5)))]⟩,
 ⟨(some 18), none, .buildS [(.int .i64 0), (.int .i64 0)] 3 2 [(0, (.t 15)), (1, (.t 16)), (2, (.t 17))]⟩,
 ⟨(some 1), none, .mov (.t 18)⟩] [1])
 (.seq
 (.ops [
 ⟨(some 20), none, .mov (.t 1)⟩,
 ⟨(some 21), none, .call (.c (.fn (.func 10) [] [])) [(.t 20)]⟩,
 ⟨(some 19), none, .mov (.t 21)⟩,
 ⟨(some 22), none, .ext (.t 19) 0⟩,
 ⟨(some 23), none, .ext (.t 19) 1⟩,
 ⟨(some 2), none, .mov (.t 22)⟩,
 ⟨(some 3), none, .mov (.t 23)⟩] [2, 3])
 (.seq
 (.ops [
 ⟨(some 25), none, .mov (.t 1)⟩,
 ⟨(some 26), none, .call (.c (.fn (.func 20) [] [])) [(.t 25)]⟩,
 ⟨(some 24), none, .mov (.t 26)⟩,
 ⟨(some 27), none, .ext (.t 24) 0⟩,
 ⟨(some 28), none, .ext (.t 24) 1⟩,
 ⟨(some 4), none, .mov (.t 27)⟩,
 ⟨(some 5), none, .mov (.t 28)⟩] [4, 5])
 (.seq
 (.ops [
 ⟨(some 30), none, .mov (.t 1)⟩,
 ⟨(some 31), none, .call (.c (.fn (.func 21) [] [])) [(.t 30)]⟩,
 ⟨(some 29), none, .mov (.t 31)⟩,
 ⟨(some 32), none, .ext (.t 29) 0⟩,
 ⟨(some 33), none, .ext (.t 29) 1⟩,
 ⟨(some 6), none, .mov (.t 32)⟩,
 ⟨(some 7), none, .mov (.t 33)⟩] [6, 7])
 (.seq
 (.ops [
 ⟨(some 35), none, .mov (.t 1)⟩,
 ⟨(some 36), none, .call (.c (.fn (.func 22) [] [])) [(.t 35)]⟩,
 ⟨(some 34), none, .mov (.t 36)⟩,
 ⟨(some 37), none, .ext (.t 34) 0⟩,
 ⟨(some 38), none, .ext (.t 34) 1⟩,
 ⟨(some 8), none, .mov (.t 37)⟩,
 ⟨(some 9), none, .mov (.t 38)⟩] [8, 9])
 (.seq
 (.ops [
 ⟨(some 40), none, .build [(.int .i64 0), (.int .i64 0)] [(0, 1), (1, 1)] [(0, (.c (.int .i64 0))), (1, (.c (.int .i64 1)))]⟩,
 ⟨(some 41), none, .build [(.int .i64 0), (.int .i64 0)] [(0, 1), (1, 1)] [(0, (.c (.int .i64 2))), (1, (.c (.int .i64 5)))]⟩,
 ⟨(some 42), none, .build [(.int .i64 0), (.int .i64 0)] [(0, 1), (1, 1)] [(0, (.c (.int .i64 1))), (1, (.c (.int .i64 3)))]⟩,
 ⟨(some 43), none, .build [(.int .i64 0), (.int .i64 0)] [(0, 1), (1, 1)] [(0, (.c (.int .i64 0))), (1, (.c (.int .i64 3)))]⟩,
 ⟨(some 44), none, .buildS [(.int .i64 0), (.int .i64 0)] 4 2 [(0, (.t 40)), (1, (.t 41)), (2, (.t 42)), (3, (.t 43))]⟩,
 ⟨(some 45), none, .call (.c (.fn (.func 23) [] [])) [(.t 44)]⟩,
 ⟨(some 39), none, .mov (.t 45)⟩,
 ⟨(some 46), none, .ext (.t 39) 0⟩,
 ⟨(some 47), none, .ext (.t 39) 1⟩,
 ⟨(some 48), none, .ext (.t 39) 2⟩,
 ⟨(some 10), none, .mov (.t 46)⟩,
 ⟨(some 11), none, .mov (.t 47)⟩,
 ⟨(some 12), none, .mov (.t 48)⟩] [10, 11, 12])
 (.seq
 (.ops [
 ⟨(some 50), none, .mov (.t 1)⟩,
 ⟨(some 51), none, .buildS [(.int .i64 0)] 3 1 [(0, (.c (.int .i64 0))), (1, (.c (.int .i64 0))), (2, (.c (.int .i64 1)))]⟩,
 ⟨(some 52), none, .call (.c (.fn (.func 6) [] [])) [(.t 50), (.t 51)]⟩,
 ⟨(some 49), none, .mov (.t 52)⟩,
 ⟨(some 53), none, .ext (.t 49) 0⟩,
 ⟨(some 54), none, .ext (.t 49) 1⟩,
 ⟨(some 13), none, .mov (.t 53)⟩,
 ⟨(some 14), none, .mov (.t 54)⟩] [13, 14])
 (.seq
 (.ops [
 ⟨(some 55), none, .mov (.t 2)⟩,
 ⟨(some 56), none, .buildS [(.int .i64 0)] 3 1 [(0, (.c (.int .i64 0))), (1, (.c (.int .i64 0))), (2, (.c (.int .i64 1)))]⟩,
 ⟨(some 57), none, .call (.c (.fn (.func 12) [] [])) [(.t 55), (.t 56)]⟩,
 ⟨(some 58), none, .mov (.t 57)⟩,
 ⟨(some 59), (some (58, true)), .mov (.t 3)⟩,
 ⟨(some 60), (some (58, true)), .bin .eql .no (.t 59) (.c (.int .i64 0))⟩,
 ⟨(some 61), none, .pick (.t 58) (.t 60) (.c (.bool false))⟩,
 ⟨(some 62), none, .mov (.t 61)⟩,
 ⟨(some 63), (some (62, true)), .mov (.t 4)⟩,
 ⟨(some 64), (some (62, true)), .buildS [(.int .i64 0)] 3 1 [(0, (.c (.int .i64 1))), (1, (.c (.int .i64 1))), (2, (.c (.int .i64 2)))]⟩,
 ⟨(some 65), (some (62, true)), .call (.c (.fn (.func 12) [] [])) [(.t 63), (.t 64)]⟩,
 ⟨(some 66), none, .pick (.t 62) (.t 65) (.c (.bool false))⟩,
 ⟨(some 67), none, .mov (.t 66)⟩,
 ⟨(some 68), (some (67, true)), .mov (.t 5)⟩,
 ⟨(some 69), (some (67, true)), .bin .eql .no (.t 68) (.c (.int .i64 0))⟩,
 ⟨(some 70), none, .pick (.t 67) (.t 69) (.c (.bool false))⟩,
 ⟨(some 71), none, .mov (.t 70)⟩,
 ⟨(some 72), (some (71, true)), .mov (.t 6)⟩,
 ⟨(some 73), (some (71, true)), .buildS [(.int .i64 0)] 3 1 [(0, (.c (.int .i64 0))), (1, (.c (.int .i64 0))), (2, (.c (.int .i64 1)))]⟩,
 ⟨(some 74), (some (71, true)), .call (.c (.fn (.func 12) [] [])) [(.t 72), (.t 73)]⟩,
 ⟨(some 75), none, .pick (.t 71) (.t 74) (.c (.bool false))⟩,
 ⟨(some 76), none, .mov (.t 75)⟩,
 ⟨(some 77), (some (76, true)), .mov (.t 7)⟩,
 ⟨(some 78), (some (76, true)), .bin .eql .no (.t 77) (.c (.int .i64 0))⟩,
 ⟨(some 79), none, .pick (.t 76) (.t 78) (.c (.bool false))⟩,
 ⟨(some 80), none, .mov (.t 79)⟩,
 ⟨(some 81), (some (80, true)), .mov (.t 8)⟩,
 ⟨(some 82), (some (80, true)), .bin .eql .no (.t 81) (.c (.int .i64 2))⟩,
 ⟨(some 83), none, .pick (.t 80) (.t 82) (.c (.bool false))⟩,
 ⟨(some 84), none, .mov (.t 83)⟩,
 ⟨(some 85), (some (84, true)), .mov (.t 9)⟩,
 ⟨(some 86), (some (84, true)), .bin .eql .no (.t 85) (.c (.int .i64 0))⟩,
 ⟨(some 87), none, .pick (.t 84) (.t 86) (.c (.bool false))⟩,
 ⟨(some 88), none, .mov (.t 87)⟩,
 ⟨(some 89), (some (88, true)), .mov (.t 10)⟩,
 ⟨(some 90), (some (88, true)), .bin .eql .no (.t 89) (.c (.int .i64 2))⟩,
 ⟨(some 91), none, .pick (.t 88) (.t 90) (.c (.bool false))⟩,
 ⟨(some 92), none, .mov (.t 91)⟩,
 ⟨(some 93), (some (92, true)), .mov (.t 11)⟩,
 ⟨(some 94), (some (92, true)), .buildS [(.int .i64 0)] 3 1 [(0, (.c (.int .i64 1))), (1, (.c (.int .i64 2))), (2, (.c (.int .i64 3)))]⟩,
 ⟨(some 95), (some (92, true)), .call (.c (.fn (.func 12) [] [])) [(.t 93), (.t 94)]⟩,
 ⟨(some 96), none, .pick (.t 92) (.t 95) (.c (.bool false))⟩,
 ⟨(some 97), none, .mov (.t 96)⟩,
 ⟨(some 98), (some (97, true)), .mov (.t 12)⟩,
 ⟨(some 99), (some (97, true)), .bin .eql .no (.t 98) (.c (.int .i64 0))⟩,
 ⟨(some 100), none, .pick (.t 97) (.t 99) (.c (.bool false))⟩,
 ⟨(some 101), none, .mov (.t 100)⟩,
 ⟨(some 102), (some (101, true)), .mov (.t 13)⟩,
 ⟨(some 103), none, .pick (.t 101) (.t 102) (.c (.bool false))⟩,
 ⟨(some 104), none, .mov (.t 103)⟩,
 ⟨(some 105), (some (104, true)), .mov (.t 14)⟩,
 ⟨(some 106), (some (104, true)), .bin .eql .no (.t 105) (.c (.int .i64 0))⟩,
 ⟨(some 107), none, .pick (.t 104) (.t 106) (.c (.bool false))⟩,
 ⟨(some 0), none, .mov (.t 107)⟩] [0])
 .ret))))))))),
 [.tmp 0]⟩

/-- bellpull/bellpullref03.Proper -/
noncomputable def sf9 : SFun := ⟨[0, 1, 4, 5, 6, 10, 15, 37], 38,
 (.seq
 (.ops [
 ⟨(some 4), none, .mov (.c (.bool false))⟩] [4])
 (.seq
 (.seq
 (.ops [
 ⟨(some 5), none, .mov (.c (.int .i64 0))⟩] [5])
 (.block 0
 (.loop
 (.seq
 (.seq
 (.ops [
 ⟨(some 7), none, .mov (.t 5)⟩,
 ⟨(some 8), none, .mov (.t 0)⟩,
 ⟨(some 9), none, .lenS (.t 8)⟩,
 ⟨(some 10), none, .bin .lss .no (.t 7) (.t 9)⟩] [10])
 (.cond (.t 10)
 .skip
 (.exit 0)))
 (.seq
 (.block 1
 (.seq
 (.ops [
 ⟨(some 6), none, .mov (.c (.int .i64 0))⟩] [6])
 (.block 2
 (.loop
 (.seq
 (.seq
 (.ops [
 ⟨(some 13), none, .mov (.t 6)⟩,
 ⟨(some 14), none, .mov (.t 5)⟩,
 ⟨(some 15), none, .bin .lss .no (.t 13) (.t 14)⟩] [15])
 (.cond (.t 15)
 .skip
 (.exit 2)))
 (.seq
 (.block 3
 (.seq
 (.draw [
 ⟨⟨(some 18), none, .mov (.t 0)⟩, false, false⟩,
 ⟨⟨(some 19), none, .mov (.t 5)⟩, false, false⟩,
 ⟨⟨(some 20), none, .ixS 2 (.t 18) (.t 19)⟩, false, false⟩,
 ⟨⟨(some 21), none, .load (some 2) (.t 20)⟩, true, false⟩,
 ⟨⟨(some 22), none, .mov (.t 0)⟩, false, false⟩,
 ⟨⟨(some 23), none, .mov (.t 6)⟩, false, false⟩,
 ⟨⟨(some 24), none, .ixS 2 (.t 22) (.t 23)⟩, false, false⟩,
 ⟨⟨(some 25), none, .load (some 2) (.t 24)⟩, true, false⟩,
 ⟨⟨(some 26), none, .call (.c (.fn (.func 24) [] [])) [(.t 21), (.t 25)]⟩, false, true⟩,
 ⟨⟨(some 27), none, .mov (.t 26)⟩, false, false⟩,
 ⟨⟨(some 28), (some (27, true)), .mov (.t 1)⟩, false, false⟩,
 ⟨⟨(some 29), (some (27, true)), .mov (.t 5)⟩, false, false⟩,
 ⟨⟨(some 30), (some (27, true)), .ixS 1 (.t 28) (.t 29)⟩, false, false⟩,
 ⟨⟨(some 31), (some (27, true)), .load none (.t 30)⟩, true, false⟩,
 ⟨⟨(some 32), (some (27, true)), .mov (.t 1)⟩, false, false⟩,
 ⟨⟨(some 33), (some (27, true)), .mov (.t 6)⟩, false, false⟩,
 ⟨⟨(some 34), (some (27, true)), .ixS 1 (.t 32) (.t 33)⟩, false, false⟩,
 ⟨⟨(some 35), (some (27, true)), .load none (.t 34)⟩, true, false⟩,
 ⟨⟨(some 36), (some (27, true)), .bin .eql .no (.t 31) (.t 35)⟩, false, false⟩,
 ⟨⟨(some 37), none, .pick (.t 27) (.t 36) (.c (.bool false))⟩, false, false⟩] [0, 0, 3, 7, 0, 0, 48, 112, 255, 511, 1023, 1023, 4095, 8191, 1023, 1023, 50175, 115711, 262143, 524287] [37])
 (.cond (.t 37)
 (.seq
 (.ops [
 ⟨(some 4), none, .mov (.c (.bool false))⟩] [4])
 .ret)
 .skip)))
 (.ops [
 ⟨(some 16), none, .mov (.t 6)⟩,
 ⟨(some 17), none, .bin .add .no (.t 16) (.c (.int .i64 1))⟩,
 ⟨(some 6), none, .mov (.t 17)⟩] [6])))))))
 (.ops [
 ⟨(some 11), none, .mov (.t 5)⟩,
 ⟨(some 12), none, .bin .add .no (.t 11) (.c (.int .i64 1))⟩,
 ⟨(some 5), none, .mov (.t 12)⟩] [5]))))))
 (.seq
 (.ops [
 ⟨(some 4), none, .mov (.c (.bool true))⟩] [4])
 .ret))),
 [.tmp 4]⟩

/-- bellpull/shift.Fit -/
noncomputable def sf10 : SFun := ⟨[0, 2, 3, 4, 8], 12,
 (.seq
 (.ops [
 ⟨(some 2), none, .mov (.c .nilsl)⟩,
 ⟨(some 3), none, .mov (.c (.int .i64 0))⟩] [2, 3])
 (.seq
 (.seq
 (.ops [
 ⟨(some 5), none, .mov (.t 0)⟩,
 ⟨(some 6), none, .call (.c (.fn (.func 15) [] [])) [(.t 5)]⟩,
 ⟨(some 4), none, .mov (.t 6)⟩] [4])
 (.seq
 (.ops [
 ⟨(some 7), none, .mov (.t 4)⟩,
 ⟨(some 8), none, .bin .neq .no (.t 7) (.c (.int .i64 0))⟩] [8])
 (.cond (.t 8)
 (.seq
 (.ops [
 ⟨(some 9), none, .mov (.t 4)⟩,
 ⟨(some 2), none, .mov (.c .nilsl)⟩,
 ⟨(some 3), none, .mov (.t 9)⟩] [2, 3])
 .ret)
 .skip)))
 (.seq
 (.ops [
 ⟨(some 10), none, .mov (.t 0)⟩,
 ⟨(some 11), none, .call (.c (.fn (.func 25) [] [])) [(.t 10)]⟩,
 ⟨(some 2), none, .mov (.t 11)⟩,
 ⟨(some 3), none, .mov (.c (.int .i64 0))⟩] [2, 3])
 .ret))),
 [.tmp 2, .tmp 3]⟩

/-- bellpull/shift.Best -/
noncomputable def sf11 : SFun := ⟨[0, 1, 2, 3, 4, 5, 6, 7, 8, 9, 10, 11, 12, 16, 22, 23, 24, 37, 38, 39, 40, 56, 57, 58, 59], 72,
 (.seq
 (.ops [
 ⟨(some 1), none, .box (.t 0)⟩,
 ⟨(some 2), none, .mov (.c .nilsl)⟩,
 ⟨(some 3), none, .mov (.c (.int .i64 0))⟩] [1, 2, 3])
 (.seq
 (.seq
 (.ops [
 ⟨(some 13), none, .load none (.t 1)⟩,
 ⟨(some 14), none, .call (.c (.fn (.func 15) [] [])) [(.t 13)]⟩,
 ⟨(some 4), none, .mov (.t 14)⟩] [4])
 (.seq
 (.ops [
 ⟨(some 15), none, .mov (.t 4)⟩,
 ⟨(some 16), none, .bin .neq .no (.t 15) (.c (.int .i64 0))⟩] [16])
 (.cond (.t 16)
 (.seq
 (.ops [
 ⟨(some 17), none, .mov (.t 4)⟩,
 ⟨(some 2), none, .mov (.c .nilsl)⟩,
 ⟨(some 3), none, .mov (.t 17)⟩] [2, 3])
 .ret)
 .skip)))
 (.seq
 (.ops [
 ⟨(some 18), none, .load none (.t 1)⟩,
 ⟨(some 19), none, .lenS (.t 18)⟩,
 ⟨(some 20), none, .mks [(.int .i64 0)] 1 (.t 19) (.t 19)⟩,
 ⟨(some 5), none, .mov (.t 20)⟩] [5])
 (.seq
 (.seq
 (.ops [
 ⟨(some 21), none, .mov (.t 5)⟩,
 ⟨(some 22), none, .lenS (.t 21)⟩,
 ⟨(some 23), none, .mov (.c (.int .i64 0))⟩] [22, 23])
 (.block 0
 (.loop
 (.seq
 (.ops [
 ⟨(some 24), none, .bin .lss .no (.t 23) (.t 22)⟩] [24])
 (.seq
 (.cond (.t 24)
 .skip
 (.exit 0))
 (.seq
 (.block 1
 (.seq
 (.ops [
 ⟨(some 25), none, .mov (.t 23)⟩,
 ⟨(some 6), none, .mov (.t 25)⟩] [6])
 (.ops [
 ⟨(some 26), none, .mov (.t 5)⟩,
 ⟨(some 27), none, .mov (.t 6)⟩,
 ⟨(some 28), none, .mov (.t 6)⟩,
 ⟨(some 29), none, .ixS 1 (.t 26) (.t 27)⟩,
 ⟨none, none, .store 1 (.t 29) (.t 28)⟩] [])))
 (.ops [
 ⟨(some 30), none, .bin .add .no (.t 23) (.c (.int .i64 1))⟩,
 ⟨(some 23), none, .mov (.t 30)⟩] [23])))))))
 (.seq
 (.ops [
 ⟨(some 31), none, .mov (.t 5)⟩,
 ⟨(some 32), none, .mkf 27 [] [(.t 1)]⟩,
 ⟨(some 33), none, .call (.c (.fn (.func 26) [] [])) [(.t 31), (.t 32)]⟩] [])
 (.seq
 (.ops [
 ⟨(some 34), none, .load none (.t 1)⟩,
 ⟨(some 35), none, .lenS (.t 34)⟩,
 ⟨(some 36), none, .mks [(.int .i64 0), (.int .i64 0)] 2 (.t 35) (.t 35)⟩,
 ⟨(some 7), none, .mov (.t 36)⟩] [7])
 (.seq
 (.seq
 (.ops [
 ⟨(some 37), none, .mov (.t 5)⟩,
 ⟨(some 38), none, .lenS (.t 37)⟩,
 ⟨(some 39), none, .mov (.c (.int .i64 0))⟩] [37, 38, 39])
 (.block 2
 (.loop
 (.seq
 (.ops [
 ⟨(some 40), none, .bin .lss .no (.t 39) (.t 38)⟩] [40])
 (.seq
 (.cond (.t 40)
 .skip
 (.exit 2))
 (.seq
 (.block 3
 (.seq
 (.ops [
 ⟨(some 41), none, .mov (.t 39)⟩,
 ⟨(some 42), none, .ixS 1 (.t 37) (.t 39)⟩,
 ⟨(some 43), none, .load none (.t 42)⟩,
 ⟨(some 8), none, .mov (.t 41)⟩,
 ⟨(some 9), none, .mov (.t 43)⟩] [8, 9])
 (.ops [
 ⟨(some 44), none, .mov (.t 7)⟩,
 ⟨(some 45), none, .mov (.t 8)⟩,
 ⟨(some 46), none, .load none (.t 1)⟩,
 ⟨(some 47), none, .mov (.t 9)⟩,
 ⟨(some 48), none, .ixS 2 (.t 46) (.t 47)⟩,
 ⟨(some 49), none, .load (some 2) (.t 48)⟩,
 ⟨(some 50), none, .ixS 2 (.t 44) (.t 45)⟩,
 ⟨none, none, .store 2 (.t 50) (.t 49)⟩] [])))
 (.ops [
 ⟨(some 51), none, .bin .add .no (.t 39) (.c (.int .i64 1))⟩,
 ⟨(some 39), none, .mov (.t 51)⟩] [39])))))))
 (.seq
 (.ops [
 ⟨(some 52), none, .load none (.t 1)⟩,
 ⟨(some 53), none, .lenS (.t 52)⟩,
 ⟨(some 54), none, .mks [(.int .i64 0)] 1 (.t 53) (.t 53)⟩,
 ⟨(some 10), none, .mov (.t 54)⟩] [10])
 (.seq
 (.seq
 (.ops [
 ⟨(some 55), none, .mov (.t 7)⟩,
 ⟨(some 56), none, .call (.c (.fn (.func 25) [] [])) [(.t 55)]⟩,
 ⟨(some 57), none, .lenS (.t 56)⟩,
 ⟨(some 58), none, .mov (.c (.int .i64 0))⟩] [56, 57, 58])
 (.block 4
 (.loop
 (.seq
 (.ops [
 ⟨(some 59), none, .bin .lss .no (.t 58) (.t 57)⟩] [59])
 (.seq
 (.cond (.t 59)
 .skip
 (.exit 4))
 (.seq
 (.block 5
 (.seq
 (.ops [
 ⟨(some 60), none, .mov (.t 58)⟩,
 ⟨(some 61), none, .ixS 1 (.t 56) (.t 58)⟩,
 ⟨(some 62), none, .load none (.t 61)⟩,
 ⟨(some 11), none, .mov (.t 60)⟩,
 ⟨(some 12), none, .mov (.t 62)⟩] [11, 12])
 (.ops [
 ⟨(some 63), none, .mov (.t 10)⟩,
 ⟨(some 64), none, .mov (.t 5)⟩,
 ⟨(some 65), none, .mov (.t 11)⟩,
 ⟨(some 66), none, .ixS 1 (.t 64) (.t 65)⟩,
 ⟨(some 67), none, .load none (.t 66)⟩,
 ⟨(some 68), none, .mov (.t 12)⟩,
 ⟨(some 69), none, .ixS 1 (.t 63) (.t 67)⟩,
 ⟨none, none, .store 1 (.t 69) (.t 68)⟩] [])))
 (.ops [
 ⟨(some 70), none, .bin .add .no (.t 58) (.c (.int .i64 1))⟩,
 ⟨(some 58), none, .mov (.t 70)⟩] [58])))))))
 (.seq
 (.ops [
 ⟨(some 71), none, .mov (.t 10)⟩,
 ⟨(some 2), none, .mov (.t 71)⟩,
 ⟨(some 3), none, .mov (.c (.int .i64 0))⟩] [2, 3])
 .ret)))))))))),
 [.tmp 2, .tmp 3]⟩

/-- bellpull/bellpullref01.Same -/
noncomputable def sf12 : SFun := ⟨[0, 1, 4], 15,
 (.seq
 (.ops [
 ⟨(some 4), none, .mov (.c (.bool false))⟩] [4])
 (.seq
 (.ops [
 ⟨(some 5), none, .mov (.t 0)⟩,
 ⟨(some 6), none, .mov (.t 1)⟩,
 ⟨(some 7), none, .call (.c (.fn (.func 29) [] [])) [(.t 5), (.t 6)]⟩,
 ⟨(some 8), none, .not (.t 7)⟩,
 ⟨(some 9), none, .mov (.t 8)⟩,
 ⟨(some 10), (some (9, true)), .mov (.t 1)⟩,
 ⟨(some 11), (some (9, true)), .mov (.t 0)⟩,
 ⟨(some 12), (some (9, true)), .call (.c (.fn (.func 29) [] [])) [(.t 10), (.t 11)]⟩,
 ⟨(some 13), (some (9, true)), .not (.t 12)⟩,
 ⟨(some 14), none, .pick (.t 9) (.t 13) (.c (.bool false))⟩,
 ⟨(some 4), none, .mov (.t 14)⟩] [4])
 .ret)),
 [.tmp 4]⟩

/-- bellpull/bellpullref03.Fit -/
noncomputable def sf13 : SFun := ⟨[0, 2, 3, 4, 5, 6, 11, 17, 28], 42,
 (.seq
 (.ops [
 ⟨(some 2), none, .mov (.c .nilsl)⟩] [2])
 (.seq
 (.ops [
 ⟨(some 7), none, .buildS [(.int .i64 0)] 0 1 []⟩,
 ⟨(some 3), none, .mov (.t 7)⟩] [3])
 (.seq
 (.seq
 (.ops [
 ⟨(some 4), none, .mov (.c (.int .i64 0))⟩] [4])
 (.block 0
 (.loop
 (.seq
 (.seq
 (.ops [
 ⟨(some 8), none, .mov (.t 4)⟩,
 ⟨(some 9), none, .mov (.t 0)⟩,
 ⟨(some 10), none, .lenS (.t 9)⟩,
 ⟨(some 11), none, .bin .lss .no (.t 8) (.t 10)⟩] [11])
 (.cond (.t 11)
 .skip
 (.exit 0)))
 (.seq
 (.block 1
 (.seq
 (.ops [
 ⟨(some 14), none, .buildS [(.int .i64 0)] 0 1 []⟩,
 ⟨(some 5), none, .mov (.t 14)⟩] [5])
 (.seq
 (.seq
 (.ops [
 ⟨(some 6), none, .mov (.c (.int .i64 0))⟩] [6])
 (.block 2
 (.loop
 (.seq
 (.seq
 (.ops [
 ⟨(some 15), none, .mov (.t 6)⟩,
 ⟨(some 16), none, .mov (.t 4)⟩,
 ⟨(some 17), none, .bin .lss .no (.t 15) (.t 16)⟩] [17])
 (.cond (.t 17)
 .skip
 (.exit 2)))
 (.seq
 (.block 3
 (.seq
 (.draw [
 ⟨⟨(some 20), none, .mov (.t 0)⟩, false, false⟩,
 ⟨⟨(some 21), none, .mov (.t 4)⟩, false, false⟩,
 ⟨⟨(some 22), none, .ixS 2 (.t 20) (.t 21)⟩, false, false⟩,
 ⟨⟨(some 23), none, .load (some 2) (.t 22)⟩, true, false⟩,
 ⟨⟨(some 24), none, .mov (.t 0)⟩, false, false⟩,
 ⟨⟨(some 25), none, .mov (.t 6)⟩, false, false⟩,
 ⟨⟨(some 26), none, .ixS 2 (.t 24) (.t 25)⟩, false, false⟩,
 ⟨⟨(some 27), none, .load (some 2) (.t 26)⟩, true, false⟩,
 ⟨⟨(some 28), none, .call (.c (.fn (.func 24) [] [])) [(.t 23), (.t 27)]⟩, false, true⟩] [0, 0, 3, 7, 0, 0, 48, 112, 255] [28])
 (.cond (.t 28)
 (.ops [
 ⟨(some 29), none, .mov (.t 5)⟩,
 ⟨(some 30), none, .mov (.t 3)⟩,
 ⟨(some 31), none, .mov (.t 6)⟩,
 ⟨(some 32), none, .ixS 1 (.t 30) (.t 31)⟩,
 ⟨(some 33), none, .load none (.t 32)⟩,
 ⟨(some 34), none, .buildS [(.int .i64 0)] 1 1 [(0, (.t 33))]⟩,
 ⟨(some 35), none, .app true 1 (.t 29) (.t 34)⟩,
 ⟨(some 5), none, .mov (.t 35)⟩] [5])
 .skip)))
 (.ops [
 ⟨(some 18), none, .mov (.t 6)⟩,
 ⟨(some 19), none, .bin .add .no (.t 18) (.c (.int .i64 1))⟩,
 ⟨(some 6), none, .mov (.t 19)⟩] [6]))))))
 (.ops [
 ⟨(some 36), none, .mov (.t 3)⟩,
 ⟨(some 37), none, .mov (.t 5)⟩,
 ⟨(some 38), none, .call (.c (.fn (.func 30) [] [])) [(.c (.int .i64 0)), (.t 37)]⟩,
 ⟨(some 39), none, .buildS [(.int .i64 0)] 1 1 [(0, (.t 38))]⟩,
 ⟨(some 40), none, .app true 1 (.t 36) (.t 39)⟩,
 ⟨(some 3), none, .mov (.t 40)⟩] [3]))))
 (.ops [
 ⟨(some 12), none, .mov (.t 4)⟩,
 ⟨(some 13), none, .bin .add .no (.t 12) (.c (.int .i64 1))⟩,
 ⟨(some 4), none, .mov (.t 13)⟩] [4]))))))
 (.seq
 (.ops [
 ⟨(some 41), none, .mov (.t 3)⟩,
 ⟨(some 2), none, .mov (.t 41)⟩] [2])
 .ret)))),
 [.tmp 2]⟩

/-- bellpull/bellpullref03.Best -/
noncomputable def sf14 : SFun := ⟨[0, 2, 3, 4, 5, 6, 7, 8, 9, 13, 19, 28, 48], 62,
 (.seq
 (.ops [
 ⟨(some 2), none, .mov (.c .nilsl)⟩] [2])
 (.seq
 (.ops [
 ⟨(some 10), none, .buildS [(.int .i64 0)] 0 1 []⟩,
 ⟨(some 11), none, .buildS [(.int .i64 0), (.int .i64 0)] 0 2 []⟩,
 ⟨(some 3), none, .mov (.t 10)⟩,
 ⟨(some 4), none, .mov (.t 11)⟩] [3, 4])
 (.seq
 (.seq
 (.ops [
 ⟨(some 5), none, .mov (.c (.int .i64 0))⟩] [5])
 (.block 0
 (.loop
 (.seq
 (.seq
 (.ops [
 ⟨(some 12), none, .mov (.t 5)⟩,
 ⟨(some 13), none, .bin .lss .no (.t 12) (.c (.int .i64 1000))⟩] [13])
 (.cond (.t 13)
 .skip
 (.exit 0)))
 (.seq
 (.block 1
 (.seq
 (.ops [
 ⟨(some 6), none, .mov (.c (.int .i64 0))⟩] [6])
 (.block 2
 (.loop
 (.seq
 (.seq
 (.ops [
 ⟨(some 16), none, .mov (.t 6)⟩,
 ⟨(some 17), none, .mov (.t 0)⟩,
 ⟨(some 18), none, .lenS (.t 17)⟩,
 ⟨(some 19), none, .bin .lss .no (.t 16) (.t 18)⟩] [19])
 (.cond (.t 19)
 .skip
 (.exit 2)))
 (.seq
 (.block 3
 (.seq
 (.ops [
 ⟨(some 22), none, .mov (.t 0)⟩,
 ⟨(some 23), none, .mov (.t 6)⟩,
 ⟨(some 24), none, .ixS 2 (.t 22) (.t 23)⟩,
 ⟨(some 25), none, .fa 0 (.t 24)⟩,
 ⟨(some 26), none, .load none (.t 25)⟩,
 ⟨(some 27), none, .mov (.t 5)⟩,
 ⟨(some 28), none, .bin .eql .no (.t 26) (.t 27)⟩] [28])
 (.cond (.t 28)
 (.draw [
 ⟨⟨(some 29), none, .mov (.t 3)⟩, false, false⟩,
 ⟨⟨(some 30), none, .mov (.t 6)⟩, false, false⟩,
 ⟨⟨(some 31), none, .buildS [(.int .i64 0)] 1 1 [(0, (.t 30))]⟩, false, true⟩,
 ⟨⟨(some 32), none, .app true 1 (.t 29) (.t 31)⟩, false, true⟩,
 ⟨⟨(some 33), none, .mov (.t 4)⟩, false, false⟩,
 ⟨⟨(some 34), none, .mov (.t 0)⟩, false, false⟩,
 ⟨⟨(some 35), none, .mov (.t 6)⟩, false, false⟩,
 ⟨⟨(some 36), none, .ixS 2 (.t 34) (.t 35)⟩, false, false⟩,
 ⟨⟨(some 37), none, .load (some 2) (.t 36)⟩, true, false⟩,
 ⟨⟨(some 38), none, .buildS [(.int .i64 0), (.int .i64 0)] 1 2 [(0, (.t 37))]⟩, false, true⟩,
 ⟨⟨(some 39), none, .app true 2 (.t 33) (.t 38)⟩, false, true⟩,
 ⟨⟨(some 3), none, .mov (.t 32)⟩, false, false⟩,
 ⟨⟨(some 4), none, .mov (.t 39)⟩, false, false⟩] [0, 0, 2, 7, 0, 0, 0, 96, 224, 480, 1023, 2047, 4095] [3, 4])
 .skip)))
 (.ops [
 ⟨(some 20), none, .mov (.t 6)⟩,
 ⟨(some 21), none, .bin .add .no (.t 20) (.c (.int .i64 1))⟩,
 ⟨(some 6), none, .mov (.t 21)⟩] [6])))))))
 (.ops [
 ⟨(some 14), none, .mov (.t 5)⟩,
 ⟨(some 15), none, .bin .add .no (.t 14) (.c (.int .i64 1))⟩,
 ⟨(some 5), none, .mov (.t 15)⟩] [5]))))))
 (.seq
 (.ops [
 ⟨(some 40), none, .mov (.t 4)⟩,
 ⟨(some 41), none, .call (.c (.fn (.func 13) [] [])) [(.t 40)]⟩,
 ⟨(some 42), none, .mov (.t 0)⟩,
 ⟨(some 43), none, .lenS (.t 42)⟩,
 ⟨(some 44), none, .mks [(.int .i64 0)] 1 (.t 43) (.t 43)⟩,
 ⟨(some 7), none, .mov (.t 41)⟩,
 ⟨(some 8), none, .mov (.t 44)⟩] [7, 8])
 (.seq
 (.seq
 (.ops [
 ⟨(some 9), none, .mov (.c (.int .i64 0))⟩] [9])
 (.block 4
 (.loop
 (.seq
 (.seq
 (.ops [
 ⟨(some 45), none, .mov (.t 9)⟩,
 ⟨(some 46), none, .mov (.t 3)⟩,
 ⟨(some 47), none, .lenS (.t 46)⟩,
 ⟨(some 48), none, .bin .lss .no (.t 45) (.t 47)⟩] [48])
 (.cond (.t 48)
 .skip
 (.exit 4)))
 (.seq
 (.block 5
 (.draw [
 ⟨⟨(some 51), none, .mov (.t 8)⟩, false, false⟩,
 ⟨⟨(some 52), none, .mov (.t 3)⟩, false, false⟩,
 ⟨⟨(some 53), none, .mov (.t 9)⟩, false, false⟩,
 ⟨⟨(some 54), none, .ixS 1 (.t 52) (.t 53)⟩, false, false⟩,
 ⟨⟨(some 55), none, .load none (.t 54)⟩, true, false⟩,
 ⟨⟨(some 56), none, .mov (.t 7)⟩, false, false⟩,
 ⟨⟨(some 57), none, .mov (.t 9)⟩, false, false⟩,
 ⟨⟨(some 58), none, .ixS 1 (.t 56) (.t 57)⟩, false, false⟩,
 ⟨⟨(some 59), none, .load none (.t 58)⟩, true, false⟩,
 ⟨⟨(some 60), none, .ixS 1 (.t 51) (.t 55)⟩, false, false⟩,
 ⟨⟨none, none, .store 1 (.t 60) (.t 59)⟩, false, true⟩] [0, 0, 0, 6, 14, 0, 0, 96, 224, 511, 1023] []))
 (.ops [
 ⟨(some 49), none, .mov (.t 9)⟩,
 ⟨(some 50), none, .bin .add .no (.t 49) (.c (.int .i64 1))⟩,
 ⟨(some 9), none, .mov (.t 50)⟩] [9]))))))
 (.seq
 (.ops [
 ⟨(some 61), none, .mov (.t 8)⟩,
 ⟨(some 2), none, .mov (.t 61)⟩] [2])
 .ret)))))),
 [.tmp 2]⟩

/-- bellpull/shift.checked -/
noncomputable def sf15 : SFun := ⟨[0, 2, 4, 7, 8, 9, 10, 11, 28], 30,
 (.seq
 (.ops [
 ⟨(some 2), none, .mov (.c (.int .i64 0))⟩] [2])
 (.seq
 (.seq
 (.ops [
 ⟨(some 5), none, .mov (.t 0)⟩,
 ⟨(some 6), none, .lenS (.t 5)⟩,
 ⟨(some 7), none, .bin .gtr .no (.t 6) (.c (.int .i64 40))⟩] [7])
 (.cond (.t 7)
 (.seq
 (.ops [
 ⟨(some 2), none, .mov (.c (.int .i64 3))⟩] [2])
 .ret)
 .skip))
 (.seq
 (.seq
 (.ops [
 ⟨(some 8), none, .mov (.t 0)⟩,
 ⟨(some 9), none, .lenS (.t 8)⟩,
 ⟨(some 10), none, .mov (.c (.int .i64 0))⟩] [8, 9, 10])
 (.block 0
 (.loop
 (.seq
 (.ops [
 ⟨(some 11), none, .bin .lss .no (.t 10) (.t 9)⟩] [11])
 (.seq
 (.cond (.t 11)
 .skip
 (.exit 0))
 (.seq
 (.block 1
 (.seq
 (.ops [
 ⟨(some 12), none, .ixS 2 (.t 8) (.t 10)⟩,
 ⟨(some 13), none, .load (some 2) (.t 12)⟩,
 ⟨(some 4), none, .new [(.int .i64 0), (.int .i64 0)]⟩,
 ⟨none, none, .store 2 (.t 4) (.t 13)⟩] [4])
 (.seq
 (.ops [
 ⟨(some 14), none, .fa 0 (.t 4)⟩,
 ⟨(some 15), none, .load none (.t 14)⟩,
 ⟨(some 16), none, .bin .lss .no (.t 15) (.c (.int .i64 0))⟩,
 ⟨(some 17), none, .mov (.t 16)⟩,
 ⟨(some 18), (some (17, false)), .fa 0 (.t 4)⟩,
 ⟨(some 19), (some (17, false)), .load none (.t 18)⟩,
 ⟨(some 20), (some (17, false)), .fa 1 (.t 4)⟩,
 ⟨(some 21), (some (17, false)), .load none (.t 20)⟩,
 ⟨(some 22), (some (17, false)), .bin .geq .no (.t 19) (.t 21)⟩,
 ⟨(some 23), none, .pick (.t 17) (.c (.bool true)) (.t 22)⟩,
 ⟨(some 24), none, .mov (.t 23)⟩,
 ⟨(some 25), (some (24, false)), .fa 1 (.t 4)⟩,
 ⟨(some 26), (some (24, false)), .load none (.t 25)⟩,
 ⟨(some 27), (some (24, false)), .bin .gtr .no (.t 26) (.c (.int .i64 1000))⟩,
 ⟨(some 28), none, .pick (.t 24) (.c (.bool true)) (.t 27)⟩] [28])
 (.cond (.t 28)
 (.seq
 (.ops [
 ⟨(some 2), none, .mov (.c (.int .i64 2))⟩] [2])
 .ret)
 .skip))))
 (.ops [
 ⟨(some 29), none, .bin .add .no (.t 10) (.c (.int .i64 1))⟩,
 ⟨(some 10), none, .mov (.t 29)⟩] [10])))))))
 (.seq
 (.ops [
 ⟨(some 2), none, .mov (.c (.int .i64 0))⟩] [2])
 .ret)))),
 [.tmp 2]⟩

/-- slices.ContainsFunc[[]int,int] -/
noncomputable def sf16 : SFun := ⟨[0, 1, 4], 9,
 (.seq
 (.ops [
 ⟨(some 4), none, .mov (.c (.bool false))⟩] [4])
 (.seq
 (.ops [
 ⟨(some 5), none, .mov (.t 0)⟩,
 ⟨(some 6), none, .mov (.t 1)⟩,
 ⟨(some 7), none, .call (.c (.fn (.func 31) [] [])) [(.t 5), (.t 6)]⟩,
 ⟨(some 8), none, .bin .geq .no (.t 7) (.c (.int .i64 0))⟩,
 ⟨(some 4), none, .mov (.t 8)⟩] [4])
 .ret)),
 [.tmp 4]⟩

/-- bellpull/shift.Proper$1 -/
noncomputable def sf17 : SFun := ⟨[0, 2], 5,
 (.seq
 (.ops [
 ⟨(some 2), none, .mov (.c (.bool false))⟩] [2])
 (.seq
 (.ops [
 ⟨(some 3), none, .mov (.t 0)⟩,
 ⟨(some 4), none, .bin .lss .no (.t 3) (.c (.int .i64 0))⟩,
 ⟨(some 2), none, .mov (.t 4)⟩] [2])
 .ret)),
 [.tmp 2]⟩

/-- slices.Contains[[]int,int] -/
noncomputable def sf18 : SFun := ⟨[0, 1, 4], 9,
 (.seq
 (.ops [
 ⟨(some 4), none, .mov (.c (.bool false))⟩] [4])
 (.seq
 (.ops [
 ⟨(some 5), none, .mov (.t 0)⟩,
 ⟨(some 6), none, .mov (.t 1)⟩,
 ⟨(some 7), none, .call (.c (.fn (.func 32) [] [])) [(.t 5), (.t 6)]⟩,
 ⟨(some 8), none, .bin .geq .no (.t 7) (.c (.int .i64 0))⟩,
 ⟨(some 4), none, .mov (.t 8)⟩] [4])
 .ret)),
 [.tmp 4]⟩

/-- bellpull/shift.taken -/
noncomputable def sf19 : SFun := ⟨[0, 1, 2, 3, 6, 7, 8, 9, 10, 11, 12, 13, 21], 31,
 (.seq
 (.ops [
 ⟨(some 3), none, .box (.t 0)⟩,
 ⟨(some 6), none, .mov (.c .nilsl)⟩] [3, 6])
 (.seq
 (.ops [
 ⟨(some 7), none, .mov (.c .nilsl)⟩] [7])
 (.seq
 (.seq
 (.ops [
 ⟨(some 10), none, .mov (.t 1)⟩,
 ⟨(some 11), none, .lenS (.t 10)⟩,
 ⟨(some 12), none, .mov (.c (.int .i64 0))⟩] [10, 11, 12])
 (.block 0
 (.loop
 (.seq
 (.ops [
 ⟨(some 13), none, .bin .lss .no (.t 12) (.t 11)⟩] [13])
 (.seq
 (.cond (.t 13)
 .skip
 (.exit 0))
 (.seq
 (.block 1
 (.seq
 (.ops [
 ⟨(some 14), none, .mov (.t 12)⟩,
 ⟨(some 15), none, .ixS 2 (.t 10) (.t 12)⟩,
 ⟨(some 16), none, .load (some 2) (.t 15)⟩,
 ⟨(some 9), none, .new [(.int .i64 0), (.int .i64 0)]⟩,
 ⟨(some 8), none, .mov (.t 14)⟩,
 ⟨none, none, .store 2 (.t 9) (.t 16)⟩] [9, 8])
 (.seq
 (.ops [
 ⟨(some 17), none, .load (some 2) (.t 3)⟩,
 ⟨(some 18), none, .load (some 2) (.t 9)⟩,
 ⟨(some 19), none, .call (.c (.fn (.func 33) [] [])) [(.t 17), (.t 18)]⟩,
 ⟨(some 20), none, .build [(.int .i64 0), (.int .i64 0)] [(0, 1), (1, 1)] []⟩,
 ⟨(some 21), none, .bin .neq (.flat 2) (.t 19) (.t 20)⟩] [21])
 (.cond (.t 21)
 (.ops [
 ⟨(some 22), none, .mov (.t 7)⟩,
 ⟨(some 23), none, .mov (.t 2)⟩,
 ⟨(some 24), none, .mov (.t 8)⟩,
 ⟨(some 25), none, .ixS 1 (.t 23) (.t 24)⟩,
 ⟨(some 26), none, .load none (.t 25)⟩,
 ⟨(some 27), none, .buildS [(.int .i64 0)] 1 1 [(0, (.t 26))]⟩,
 ⟨(some 28), none, .app true 1 (.t 22) (.t 27)⟩,
 ⟨(some 7), none, .mov (.t 28)⟩] [7])
 .skip))))
 (.ops [
 ⟨(some 29), none, .bin .add .no (.t 12) (.c (.int .i64 1))⟩,
 ⟨(some 12), none, .mov (.t 29)⟩] [12])))))))
 (.seq
 (.ops [
 ⟨(some 30), none, .mov (.t 7)⟩,
 ⟨(some 6), none, .mov (.t 30)⟩] [6])
 .ret)))),
 [.tmp 6]⟩

/-- bellpull/shift.Levels -/
noncomputable def sf20 : SFun := ⟨[0, 2, 3, 4, 8], 12,
 (.seq
 (.ops [
 ⟨(some 2), none, .mov (.c .nilsl)⟩,
 ⟨(some 3), none, .mov (.c (.int .i64 0))⟩] [2, 3])
 (.seq
 (.seq
 (.ops [
 ⟨(some 5), none, .mov (.t 0)⟩,
 ⟨(some 6), none, .call (.c (.fn (.func 15) [] [])) [(.t 5)]⟩,
 ⟨(some 4), none, .mov (.t 6)⟩] [4])
 (.seq
 (.ops [
 ⟨(some 7), none, .mov (.t 4)⟩,
 ⟨(some 8), none, .bin .neq .no (.t 7) (.c (.int .i64 0))⟩] [8])
 (.cond (.t 8)
 (.seq
 (.ops [
 ⟨(some 9), none, .mov (.t 4)⟩,
 ⟨(some 2), none, .mov (.c .nilsl)⟩,
 ⟨(some 3), none, .mov (.t 9)⟩] [2, 3])
 .ret)
 .skip)))
 (.seq
 (.ops [
 ⟨(some 10), none, .mov (.t 0)⟩,
 ⟨(some 11), none, .call (.c (.fn (.func 34) [] [])) [(.t 10)]⟩,
 ⟨(some 2), none, .mov (.t 11)⟩,
 ⟨(some 3), none, .mov (.c (.int .i64 0))⟩] [2, 3])
 .ret))),
 [.tmp 2, .tmp 3]⟩

/-- bellpull/shift.Trotter -/
noncomputable def sf21 : SFun := ⟨[0, 2, 3, 4, 8], 12,
 (.seq
 (.ops [
 ⟨(some 2), none, .mov (.c .nilsl)⟩,
 ⟨(some 3), none, .mov (.c (.int .i64 0))⟩] [2, 3])
 (.seq
 (.seq
 (.ops [
 ⟨(some 5), none, .mov (.t 0)⟩,
 ⟨(some 6), none, .call (.c (.fn (.func 15) [] [])) [(.t 5)]⟩,
 ⟨(some 4), none, .mov (.t 6)⟩] [4])
 (.seq
 (.ops [
 ⟨(some 7), none, .mov (.t 4)⟩,
 ⟨(some 8), none, .bin .neq .no (.t 7) (.c (.int .i64 0))⟩] [8])
 (.cond (.t 8)
 (.seq
 (.ops [
 ⟨(some 9), none, .mov (.t 4)⟩,
 ⟨(some 2), none, .mov (.c .nilsl)⟩,
 ⟨(some 3), none, .mov (.t 9)⟩] [2, 3])
 .ret)
 .skip)))
 (.seq
 (.ops [
 ⟨(some 10), none, .mov (.t 0)⟩,
 ⟨(some 11), none, .call (.c (.fn (.func 35) [] [])) [(.t 10)]⟩,
 ⟨(some 2), none, .mov (.t 11)⟩,
 ⟨(some 3), none, .mov (.c (.int .i64 0))⟩] [2, 3])
 .ret))),
 [.tmp 2, .tmp 3]⟩

/-- bellpull/shift.Depth -/
noncomputable def sf22 : SFun := ⟨[0, 2, 3, 4, 6, 10], 18,
 (.seq
 (.ops [
 ⟨(some 2), none, .mov (.c (.int .i64 0))⟩,
 ⟨(some 3), none, .mov (.c (.int .i64 0))⟩] [2, 3])
 (.seq
 (.seq
 (.ops [
 ⟨(some 7), none, .mov (.t 0)⟩,
 ⟨(some 8), none, .call (.c (.fn (.func 15) [] [])) [(.t 7)]⟩,
 ⟨(some 4), none, .mov (.t 8)⟩] [4])
 (.seq
 (.ops [
 ⟨(some 9), none, .mov (.t 4)⟩,
 ⟨(some 10), none, .bin .neq .no (.t 9) (.c (.int .i64 0))⟩] [10])
 (.cond (.t 10)
 (.seq
 (.ops [
 ⟨(some 11), none, .mov (.t 4)⟩,
 ⟨(some 2), none, .mov (.c (.int .i64 0))⟩,
 ⟨(some 3), none, .mov (.t 11)⟩] [2, 3])
 .ret)
 .skip)))
 (.seq
 (.ops [
 ⟨(some 13), none, .mov (.t 0)⟩,
 ⟨(some 14), none, .call (.c (.fn (.func 36) [] [])) [(.t 13)]⟩,
 ⟨(some 12), none, .mov (.t 14)⟩,
 ⟨(some 15), none, .ext (.t 12) 0⟩,
 ⟨(some 16), none, .ext (.t 12) 1⟩,
 ⟨(some 5), none, .mov (.t 15)⟩,
 ⟨(some 6), none, .mov (.t 16)⟩] [6])
 (.seq
 (.ops [
 ⟨(some 17), none, .mov (.t 6)⟩,
 ⟨(some 2), none, .mov (.t 17)⟩,
 ⟨(some 3), none, .mov (.c (.int .i64 0))⟩] [2, 3])
 .ret)))),
 [.tmp 2, .tmp 3]⟩

/-- bellpull/shift.Deepest -/
noncomputable def sf23 : SFun := ⟨[0, 2, 3, 4, 5, 6, 8, 9, 10, 14, 18, 24, 25, 26, 27, 33], 41,
 (.seq
 (.ops [
 ⟨(some 2), none, .mov (.c (.int .i64 0))⟩,
 ⟨(some 3), none, .mov (.c .nilsl)⟩,
 ⟨(some 4), none, .mov (.c (.int .i64 0))⟩] [2, 3, 4])
 (.seq
 (.seq
 (.ops [
 ⟨(some 11), none, .mov (.t 0)⟩,
 ⟨(some 12), none, .call (.c (.fn (.func 15) [] [])) [(.t 11)]⟩,
 ⟨(some 5), none, .mov (.t 12)⟩] [5])
 (.seq
 (.ops [
 ⟨(some 13), none, .mov (.t 5)⟩,
 ⟨(some 14), none, .bin .neq .no (.t 13) (.c (.int .i64 0))⟩] [14])
 (.cond (.t 14)
 (.seq
 (.ops [
 ⟨(some 15), none, .mov (.t 5)⟩,
 ⟨(some 2), none, .mov (.c (.int .i64 0))⟩,
 ⟨(some 3), none, .mov (.c .nilsl)⟩,
 ⟨(some 4), none, .mov (.t 15)⟩] [2, 3, 4])
 .ret)
 .skip)))
 (.seq
 (.seq
 (.ops [
 ⟨(some 16), none, .mov (.t 0)⟩,
 ⟨(some 17), none, .lenS (.t 16)⟩,
 ⟨(some 18), none, .bin .eql .no (.t 17) (.c (.int .i64 0))⟩] [18])
 (.cond (.t 18)
 (.seq
 (.ops [
 ⟨(some 2), none, .mov (.c (.int .i64 0))⟩,
 ⟨(some 3), none, .mov (.c .nilsl)⟩,
 ⟨(some 4), none, .mov (.c (.int .i64 5))⟩] [2, 3, 4])
 .ret)
 .skip))
 (.seq
 (.ops [
 ⟨(some 20), none, .mov (.t 0)⟩,
 ⟨(some 21), none, .call (.c (.fn (.func 36) [] [])) [(.t 20)]⟩,
 ⟨(some 19), none, .mov (.t 21)⟩,
 ⟨(some 22), none, .ext (.t 19) 0⟩,
 ⟨(some 23), none, .ext (.t 19) 1⟩,
 ⟨(some 6), none, .mov (.t 22)⟩,
 ⟨(some 7), none, .mov (.t 23)⟩] [6])
 (.seq
 (.ops [
 ⟨(some 8), none, .mov (.c .nilsl)⟩] [8])
 (.seq
 (.seq
 (.ops [
 ⟨(some 24), none, .mov (.t 0)⟩,
 ⟨(some 25), none, .lenS (.t 24)⟩,
 ⟨(some 26), none, .mov (.c (.int .i64 0))⟩] [24, 25, 26])
 (.block 0
 (.loop
 (.seq
 (.ops [
 ⟨(some 27), none, .bin .lss .no (.t 26) (.t 25)⟩] [27])
 (.seq
 (.cond (.t 27)
 .skip
 (.exit 0))
 (.seq
 (.block 1
 (.seq
 (.ops [
 ⟨(some 28), none, .mov (.t 26)⟩,
 ⟨(some 29), none, .ixS 2 (.t 24) (.t 26)⟩,
 ⟨(some 30), none, .load (some 2) (.t 29)⟩,
 ⟨(some 10), none, .new [(.int .i64 0), (.int .i64 0)]⟩,
 ⟨(some 9), none, .mov (.t 28)⟩,
 ⟨none, none, .store 2 (.t 10) (.t 30)⟩] [10, 9])
 (.seq
 (.ops [
 ⟨(some 31), none, .load (some 2) (.t 10)⟩,
 ⟨(some 32), none, .mov (.t 6)⟩,
 ⟨(some 33), none, .call (.c (.fn (.func 37) [] [])) [(.t 31), (.t 32)]⟩] [33])
 (.cond (.t 33)
 (.ops [
 ⟨(some 34), none, .mov (.t 8)⟩,
 ⟨(some 35), none, .mov (.t 9)⟩,
 ⟨(some 36), none, .buildS [(.int .i64 0)] 1 1 [(0, (.t 35))]⟩,
 ⟨(some 37), none, .app true 1 (.t 34) (.t 36)⟩,
 ⟨(some 8), none, .mov (.t 37)⟩] [8])
 .skip))))
 (.ops [
 ⟨(some 38), none, .bin .add .no (.t 26) (.c (.int .i64 1))⟩,
 ⟨(some 26), none, .mov (.t 38)⟩] [26])))))))
 (.seq
 (.ops [
 ⟨(some 39), none, .mov (.t 6)⟩,
 ⟨(some 40), none, .mov (.t 8)⟩,
 ⟨(some 2), none, .mov (.t 39)⟩,
 ⟨(some 3), none, .mov (.t 40)⟩,
 ⟨(some 4), none, .mov (.c (.int .i64 0))⟩] [2, 3, 4])
 .ret))))))),
 [.tmp 2, .tmp 3, .tmp 4]⟩

/-- bellpull/bellpullref03.Overlap -/
noncomputable def sf24 : SFun := ⟨[0, 1, 2, 3, 4], 16,
 (.seq
 (.ops [
 ⟨(some 2), none, .box (.t 0)⟩,
 ⟨(some 3), none, .box (.t 1)⟩,
 ⟨(some 4), none, .mov (.c (.bool false))⟩] [2, 3, 4])
 (.seq
 (.ops [
 ⟨(some 5), none, .fa 0 (.t 2)⟩,
 ⟨(some 6), none, .load none (.t 5)⟩,
 ⟨(some 7), none, .fa 0 (.t 3)⟩,
 ⟨(some 8), none, .load none (.t 7)⟩,
 ⟨(some 9), none, .mx (.t 6) (.t 8)⟩,
 ⟨(some 10), none, .fa 1 (.t 2)⟩,
 ⟨(some 11), none, .load none (.t 10)⟩,
 ⟨(some 12), none, .fa 1 (.t 3)⟩,
 ⟨(some 13), none, .load none (.t 12)⟩,
 ⟨(some 14), none, .mn (.t 11) (.t 13)⟩,
 ⟨(some 15), none, .bin .lss .no (.t 9) (.t 14)⟩,
 ⟨(some 4), none, .mov (.t 15)⟩] [4])
 .ret)),
 [.tmp 4]⟩

/-- bellpull/shift.fit -/
noncomputable def sf25 : SFun := ⟨[0, 2], 5,
 (.seq
 (.ops [
 ⟨(some 2), none, .mov (.c .nilsl)⟩] [2])
 (.seq
 (.ops [
 ⟨(some 3), none, .mov (.t 0)⟩,
 ⟨(some 4), none, .call (.c (.fn (.func 38) [] [])) [(.t 3), (.c (.fn (.func 39) [] []))]⟩,
 ⟨(some 2), none, .mov (.t 4)⟩] [2])
 .ret)),
 [.tmp 2]⟩

/-- slices.SortStableFunc[[]int,int] -/
noncomputable def sf26 : SFun := ⟨[0, 1], 9,
 (.ops [
 ⟨(some 4), none, .mov (.t 0)⟩,
 ⟨(some 5), none, .mov (.t 0)⟩,
 ⟨(some 6), none, .lenS (.t 5)⟩,
 ⟨(some 7), none, .mov (.t 1)⟩,
 ⟨(some 8), none, .call (.c (.fn (.func 41) [] [])) [(.t 4), (.t 6), (.t 7)]⟩] []),
 []⟩

/-- bellpull/shift.Best$1 -/
noncomputable def sf27 : SFun := ⟨[0, 1, 2, 5], 17,
 (.seq
 (.ops [
 ⟨(some 5), none, .mov (.c (.int .i64 0))⟩] [5])
 (.seq
 (.draw [
 ⟨⟨(some 6), none, .load none (.t 2)⟩, true, false⟩,
 ⟨⟨(some 7), none, .mov (.t 0)⟩, false, false⟩,
 ⟨⟨(some 8), none, .ixS 2 (.t 6) (.t 7)⟩, false, false⟩,
 ⟨⟨(some 9), none, .fa 0 (.t 8)⟩, false, false⟩,
 ⟨⟨(some 10), none, .load none (.t 9)⟩, true, false⟩,
 ⟨⟨(some 11), none, .load none (.t 2)⟩, true, false⟩,
 ⟨⟨(some 12), none, .mov (.t 1)⟩, false, false⟩,
 ⟨⟨(some 13), none, .ixS 2 (.t 11) (.t 12)⟩, false, false⟩,
 ⟨⟨(some 14), none, .fa 0 (.t 13)⟩, false, false⟩,
 ⟨⟨(some 15), none, .load none (.t 14)⟩, true, false⟩,
 ⟨⟨(some 16), none, .call (.c (.fn (.func 28) [] [])) [(.t 10), (.t 15)]⟩, false, true⟩,
 ⟨⟨(some 5), none, .mov (.t 16)⟩, false, false⟩] [0, 0, 3, 7, 15, 0, 0, 96, 224, 480, 1023, 2047] [5])
 .ret)),
 [.tmp 5]⟩

/-- cmp.Compare[int] -/
noncomputable def sf28 : SFun := ⟨[0, 1, 4, 5, 6, 11, 12, 13, 16, 19], 20,
 (.seq
 (.ops [
 ⟨(some 4), none, .mov (.c (.int .i64 0))⟩] [4])
 (.seq
 (.ops [
 ⟨(some 7), none, .mov (.t 0)⟩,
 ⟨(some 8), none, .call (.c (.fn (.func 42) [] [])) [(.t 7)]⟩,
 ⟨(some 5), none, .mov (.t 8)⟩] [5])
 (.seq
 (.ops [
 ⟨(some 9), none, .mov (.t 1)⟩,
 ⟨(some 10), none, .call (.c (.fn (.func 42) [] [])) [(.t 9)]⟩,
 ⟨(some 6), none, .mov (.t 10)⟩] [6])
 (.seq
 (.seq
 (.ops [
 ⟨(some 11), none, .mov (.t 5)⟩] [11])
 (.cond (.t 11)
 (.seq
 (.seq
 (.ops [
 ⟨(some 12), none, .mov (.t 6)⟩] [12])
 (.cond (.t 12)
 (.seq
 (.ops [
 ⟨(some 4), none, .mov (.c (.int .i64 0))⟩] [4])
 .ret)
 .skip))
 (.seq
 (.ops [
 ⟨(some 4), none, .mov (.c (.int .i64 (-1)))⟩] [4])
 .ret))
 .skip))
 (.seq
 (.seq
 (.ops [
 ⟨(some 13), none, .mov (.t 6)⟩] [13])
 (.cond (.t 13)
 (.seq
 (.ops [
 ⟨(some 4), none, .mov (.c (.int .i64 1))⟩] [4])
 .ret)
 .skip))
 (.seq
 (.seq
 (.ops [
 ⟨(some 14), none, .mov (.t 0)⟩,
 ⟨(some 15), none, .mov (.t 1)⟩,
 ⟨(some 16), none, .bin .lss .no (.t 14) (.t 15)⟩] [16])
 (.cond (.t 16)
 (.seq
 (.ops [
 ⟨(some 4), none, .mov (.c (.int .i64 (-1)))⟩] [4])
 .ret)
 .skip))
 (.seq
 (.seq
 (.ops [
 ⟨(some 17), none, .mov (.t 0)⟩,
 ⟨(some 18), none, .mov (.t 1)⟩,
 ⟨(some 19), none, .bin .gtr .no (.t 17) (.t 18)⟩] [19])
 (.cond (.t 19)
 (.seq
 (.ops [
 ⟨(some 4), none, .mov (.c (.int .i64 1))⟩] [4])
 .ret)
 .skip))
 (.seq
 (.ops [
 ⟨(some 4), none, .mov (.c (.int .i64 0))⟩] [4])
 .ret)))))))),
 [.tmp 4]⟩

/-- bellpull/bellpullref01.Before -/
noncomputable def sf29 : SFun := ⟨[0, 1, 4, 5, 15, 26], 41,
 (.seq
 (.ops [
 ⟨(some 4), none, .mov (.c (.bool false))⟩] [4])
 (.seq
 (.seq
 (.ops [
 ⟨(some 5), none, .mov (.c (.int .i64 0))⟩] [5])
 (.block 0
 (.loop
 (.seq
 (.seq
 (.ops [
 ⟨(some 6), none, .mov (.t 5)⟩,
 ⟨(some 7), none, .mov (.t 0)⟩,
 ⟨(some 8), none, .lenS (.t 7)⟩,
 ⟨(some 9), none, .bin .lss .no (.t 6) (.t 8)⟩,
 ⟨(some 10), none, .mov (.t 9)⟩,
 ⟨(some 11), (some (10, true)), .mov (.t 5)⟩,
 ⟨(some 12), (some (10, true)), .mov (.t 1)⟩,
 ⟨(some 13), (some (10, true)), .lenS (.t 12)⟩,
 ⟨(some 14), (some (10, true)), .bin .lss .no (.t 11) (.t 13)⟩,
 ⟨(some 15), none, .pick (.t 10) (.t 14) (.c (.bool false))⟩] [15])
 (.cond (.t 15)
 .skip
 (.exit 0)))
 (.seq
 (.block 1
 (.seq
 (.ops [
 ⟨(some 18), none, .mov (.t 0)⟩,
 ⟨(some 19), none, .mov (.t 5)⟩,
 ⟨(some 20), none, .ixS 1 (.t 18) (.t 19)⟩,
 ⟨(some 21), none, .load none (.t 20)⟩,
 ⟨(some 22), none, .mov (.t 1)⟩,
 ⟨(some 23), none, .mov (.t 5)⟩,
 ⟨(some 24), none, .ixS 1 (.t 22) (.t 23)⟩,
 ⟨(some 25), none, .load none (.t 24)⟩,
 ⟨(some 26), none, .bin .neq .no (.t 21) (.t 25)⟩] [26])
 (.cond (.t 26)
 (.seq
 (.ops [
 ⟨(some 27), none, .mov (.t 0)⟩,
 ⟨(some 28), none, .mov (.t 5)⟩,
 ⟨(some 29), none, .ixS 1 (.t 27) (.t 28)⟩,
 ⟨(some 30), none, .load none (.t 29)⟩,
 ⟨(some 31), none, .mov (.t 1)⟩,
 ⟨(some 32), none, .mov (.t 5)⟩,
 ⟨(some 33), none, .ixS 1 (.t 31) (.t 32)⟩,
 ⟨(some 34), none, .load none (.t 33)⟩,
 ⟨(some 35), none, .bin .lss .no (.t 30) (.t 34)⟩,
 ⟨(some 4), none, .mov (.t 35)⟩] [4])
 .ret)
 .skip)))
 (.ops [
 ⟨(some 16), none, .mov (.t 5)⟩,
 ⟨(some 17), none, .bin .add .no (.t 16) (.c (.int .i64 1))⟩,
 ⟨(some 5), none, .mov (.t 17)⟩] [5]))))))
 (.seq
 (.ops [
 ⟨(some 36), none, .mov (.t 0)⟩,
 ⟨(some 37), none, .lenS (.t 36)⟩,
 ⟨(some 38), none, .mov (.t 1)⟩,
 ⟨(some 39), none, .lenS (.t 38)⟩,
 ⟨(some 40), none, .bin .lss .no (.t 37) (.t 39)⟩,
 ⟨(some 4), none, .mov (.t 40)⟩] [4])
 .ret))),
 [.tmp 4]⟩

/-- bellpull/bellpullref03.least -/
noncomputable def sf30 : SFun := ⟨[0, 1, 4, 7], 11,
 (.seq
 (.ops [
 ⟨(some 4), none, .mov (.c (.int .i64 0))⟩] [4])
 (.seq
 (.block 0
 (.loop
 (.seq
 (.seq
 (.ops [
 ⟨(some 5), none, .mov (.t 1)⟩,
 ⟨(some 6), none, .mov (.t 0)⟩,
 ⟨(some 7), none, .call (.c (.fn (.func 43) [] [])) [(.t 5), (.t 6)]⟩] [7])
 (.cond (.t 7)
 .skip
 (.exit 0)))
 (.block 1
 (.ops [
 ⟨(some 8), none, .mov (.t 0)⟩,
 ⟨(some 9), none, .bin .add .no (.t 8) (.c (.int .i64 1))⟩,
 ⟨(some 0), none, .mov (.t 9)⟩] [0])))))
 (.seq
 (.ops [
 ⟨(some 10), none, .mov (.t 0)⟩,
 ⟨(some 4), none, .mov (.t 10)⟩] [4])
 .ret))),
 [.tmp 4]⟩

/-- slices.IndexFunc[[]int,int] -/
noncomputable def sf31 : SFun := ⟨[0, 1, 4, 5, 7, 8, 9, 16], 19,
 (.seq
 (.ops [
 ⟨(some 4), none, .mov (.c (.int .i64 0))⟩] [4])
 (.seq
 (.seq
 (.ops [
 ⟨(some 6), none, .mov (.t 0)⟩,
 ⟨(some 7), none, .lenS (.t 6)⟩,
 ⟨(some 8), none, .mov (.c (.int .i64 0))⟩] [7, 8])
 (.block 0
 (.loop
 (.seq
 (.ops [
 ⟨(some 9), none, .bin .lss .no (.t 8) (.t 7)⟩] [9])
 (.seq
 (.cond (.t 9)
 .skip
 (.exit 0))
 (.seq
 (.block 1
 (.seq
 (.ops [
 ⟨(some 10), none, .mov (.t 8)⟩,
 ⟨(some 5), none, .mov (.t 10)⟩] [5])
 (.seq
 (.ops [
 ⟨(some 11), none, .mov (.t 1)⟩,
 ⟨(some 12), none, .mov (.t 0)⟩,
 ⟨(some 13), none, .mov (.t 5)⟩,
 ⟨(some 14), none, .ixS 1 (.t 12) (.t 13)⟩,
 ⟨(some 15), none, .load none (.t 14)⟩,
 ⟨(some 16), none, .call (.t 11) [(.t 15)]⟩] [16])
 (.cond (.t 16)
 (.seq
 (.ops [
 ⟨(some 17), none, .mov (.t 5)⟩,
 ⟨(some 4), none, .mov (.t 17)⟩] [4])
 .ret)
 .skip))))
 (.ops [
 ⟨(some 18), none, .bin .add .no (.t 8) (.c (.int .i64 1))⟩,
 ⟨(some 8), none, .mov (.t 18)⟩] [8])))))))
 (.seq
 (.ops [
 ⟨(some 4), none, .mov (.c (.int .i64 (-1)))⟩] [4])
 .ret))),
 [.tmp 4]⟩

/-- slices.Index[[]int,int] -/
noncomputable def sf32 : SFun := ⟨[0, 1, 4, 5, 7, 8, 9, 16], 19,
 (.seq
 (.ops [
 ⟨(some 4), none, .mov (.c (.int .i64 0))⟩] [4])
 (.seq
 (.seq
 (.ops [
 ⟨(some 6), none, .mov (.t 0)⟩,
 ⟨(some 7), none, .lenS (.t 6)⟩,
 ⟨(some 8), none, .mov (.c (.int .i64 0))⟩] [7, 8])
 (.block 0
 (.loop
 (.seq
 (.ops [
 ⟨(some 9), none, .bin .lss .no (.t 8) (.t 7)⟩] [9])
 (.seq
 (.cond (.t 9)
 .skip
 (.exit 0))
 (.seq
 (.block 1
 (.seq
 (.ops [
 ⟨(some 10), none, .mov (.t 8)⟩,
 ⟨(some 5), none, .mov (.t 10)⟩] [5])
 (.seq
 (.ops [
 ⟨(some 11), none, .mov (.t 1)⟩,
 ⟨(some 12), none, .mov (.t 0)⟩,
 ⟨(some 13), none, .mov (.t 5)⟩,
 ⟨(some 14), none, .ixS 1 (.t 12) (.t 13)⟩,
 ⟨(some 15), none, .load none (.t 14)⟩,
 ⟨(some 16), none, .bin .eql .no (.t 11) (.t 15)⟩] [16])
 (.cond (.t 16)
 (.seq
 (.ops [
 ⟨(some 17), none, .mov (.t 5)⟩,
 ⟨(some 4), none, .mov (.t 17)⟩] [4])
 .ret)
 .skip))))
 (.ops [
 ⟨(some 18), none, .bin .add .no (.t 8) (.c (.int .i64 1))⟩,
 ⟨(some 8), none, .mov (.t 18)⟩] [8])))))))
 (.seq
 (.ops [
 ⟨(some 4), none, .mov (.c (.int .i64 (-1)))⟩] [4])
 .ret))),
 [.tmp 4]⟩

/-- bellpull/shift.common -/
noncomputable def sf33 : SFun := ⟨[0, 1, 2, 3, 4, 5, 21], 24,
 (.seq
 (.ops [
 ⟨(some 2), none, .box (.t 0)⟩,
 ⟨(some 3), none, .box (.t 1)⟩,
 ⟨(some 4), none, .new [(.int .i64 0), (.int .i64 0)]⟩] [2, 3, 4])
 (.seq
 (.ops [
 ⟨(some 6), none, .fa 0 (.t 2)⟩,
 ⟨(some 7), none, .load none (.t 6)⟩,
 ⟨(some 8), none, .fa 0 (.t 3)⟩,
 ⟨(some 9), none, .load none (.t 8)⟩,
 ⟨(some 10), none, .mx (.t 7) (.t 9)⟩,
 ⟨(some 11), none, .fa 1 (.t 2)⟩,
 ⟨(some 12), none, .load none (.t 11)⟩,
 ⟨(some 13), none, .fa 1 (.t 3)⟩,
 ⟨(some 14), none, .load none (.t 13)⟩,
 ⟨(some 15), none, .mn (.t 12) (.t 14)⟩,
 ⟨(some 16), none, .build [(.int .i64 0), (.int .i64 0)] [(0, 1), (1, 1)] [(0, (.t 10)), (1, (.t 15))]⟩,
 ⟨(some 5), none, .new [(.int .i64 0), (.int .i64 0)]⟩,
 ⟨none, none, .store 2 (.t 5) (.t 16)⟩] [5])
 (.seq
 (.seq
 (.ops [
 ⟨(some 17), none, .fa 0 (.t 5)⟩,
 ⟨(some 18), none, .load none (.t 17)⟩,
 ⟨(some 19), none, .fa 1 (.t 5)⟩,
 ⟨(some 20), none, .load none (.t 19)⟩,
 ⟨(some 21), none, .bin .geq .no (.t 18) (.t 20)⟩] [21])
 (.cond (.t 21)
 (.seq
 (.ops [
 ⟨(some 22), none, .build [(.int .i64 0), (.int .i64 0)] [(0, 1), (1, 1)] []⟩,
 ⟨none, none, .store 2 (.t 4) (.t 22)⟩] [])
 .ret)
 .skip))
 (.seq
 (.ops [
 ⟨(some 23), none, .load (some 2) (.t 5)⟩,
 ⟨none, none, .store 2 (.t 4) (.t 23)⟩] [])
 .ret)))),
 [.cell 4 (some 2)]⟩

/-- bellpull/shift.leveled -/
noncomputable def sf34 : SFun := ⟨[0, 2], 5,
 (.seq
 (.ops [
 ⟨(some 2), none, .mov (.c .nilsl)⟩] [2])
 (.seq
 (.ops [
 ⟨(some 3), none, .mov (.t 0)⟩,
 ⟨(some 4), none, .call (.c (.fn (.func 38) [] [])) [(.t 3), (.c (.fn (.func 44) [] []))]⟩,
 ⟨(some 2), none, .mov (.t 4)⟩] [2])
 .ret)),
 [.tmp 2]⟩

/-- bellpull/shift.trotter -/
noncomputable def sf35 : SFun := ⟨[0, 2, 3], 9,
 (.seq
 (.ops [
 ⟨(some 2), none, .mov (.c .nilsl)⟩] [2])
 (.seq
 (.ops [
 ⟨(some 4), none, .mov (.t 0)⟩,
 ⟨(some 5), none, .call (.c (.fn (.func 34) [] [])) [(.t 4)]⟩,
 ⟨(some 3), none, .new [.nilsl]⟩,
 ⟨none, none, .store 1 (.t 3) (.t 5)⟩] [3])
 (.seq
 (.ops [
 ⟨(some 6), none, .mov (.t 0)⟩,
 ⟨(some 7), none, .mkf 47 [] [(.t 3)]⟩,
 ⟨(some 8), none, .call (.c (.fn (.func 38) [] [])) [(.t 6), (.t 7)]⟩,
 ⟨(some 2), none, .mov (.t 8)⟩] [2])
 .ret))),
 [.tmp 2]⟩

/-- bellpull/shift.deepest -/
noncomputable def sf36 : SFun := ⟨[0, 2, 3, 4, 5, 7, 8, 10, 11, 12, 13, 14, 17, 18, 19, 20, 26, 43], 50,
 (.seq
 (.ops [
 ⟨(some 2), none, .mov (.c (.int .i64 0))⟩,
 ⟨(some 3), none, .mov (.c (.int .i64 0))⟩] [2, 3])
 (.seq
 (.ops [
 ⟨(some 4), none, .mov (.c (.int .i64 0))⟩,
 ⟨(some 5), none, .mov (.c (.int .i64 0))⟩] [4, 5])
 (.seq
 (.seq
 (.ops [
 ⟨(some 11), none, .mov (.t 0)⟩,
 ⟨(some 12), none, .lenS (.t 11)⟩,
 ⟨(some 13), none, .mov (.c (.int .i64 0))⟩] [11, 12, 13])
 (.block 0
 (.loop
 (.seq
 (.ops [
 ⟨(some 14), none, .bin .lss .no (.t 13) (.t 12)⟩] [14])
 (.seq
 (.cond (.t 14)
 .skip
 (.exit 0))
 (.seq
 (.block 1
 (.seq
 (.ops [
 ⟨(some 15), none, .ixS 2 (.t 11) (.t 13)⟩,
 ⟨(some 16), none, .load (some 2) (.t 15)⟩,
 ⟨(some 7), none, .new [(.int .i64 0), (.int .i64 0)]⟩,
 ⟨none, none, .store 2 (.t 7) (.t 16)⟩] [7])
 (.seq
 (.ops [
 ⟨(some 8), none, .mov (.c (.int .i64 0))⟩] [8])
 (.seq
 (.seq
 (.ops [
 ⟨(some 17), none, .mov (.t 0)⟩,
 ⟨(some 18), none, .lenS (.t 17)⟩,
 ⟨(some 19), none, .mov (.c (.int .i64 0))⟩] [17, 18, 19])
 (.block 2
 (.loop
 (.seq
 (.ops [
 ⟨(some 20), none, .bin .lss .no (.t 19) (.t 18)⟩] [20])
 (.seq
 (.cond (.t 20)
 .skip
 (.exit 2))
 (.seq
 (.block 3
 (.seq
 (.ops [
 ⟨(some 21), none, .ixS 2 (.t 17) (.t 19)⟩,
 ⟨(some 22), none, .load (some 2) (.t 21)⟩,
 ⟨(some 10), none, .new [(.int .i64 0), (.int .i64 0)]⟩,
 ⟨none, none, .store 2 (.t 10) (.t 22)⟩] [10])
 (.seq
 (.ops [
 ⟨(some 23), none, .load (some 2) (.t 10)⟩,
 ⟨(some 24), none, .fa 0 (.t 7)⟩,
 ⟨(some 25), none, .load none (.t 24)⟩,
 ⟨(some 26), none, .call (.c (.fn (.func 37) [] [])) [(.t 23), (.t 25)]⟩] [26])
 (.cond (.t 26)
 (.ops [
 ⟨(some 27), none, .mov (.t 8)⟩,
 ⟨(some 28), none, .bin .add .no (.t 27) (.c (.int .i64 1))⟩,
 ⟨(some 8), none, .mov (.t 28)⟩] [8])
 .skip))))
 (.ops [
 ⟨(some 29), none, .bin .add .no (.t 19) (.c (.int .i64 1))⟩,
 ⟨(some 19), none, .mov (.t 29)⟩] [19])))))))
 (.seq
 (.ops [
 ⟨(some 30), none, .mov (.t 8)⟩,
 ⟨(some 31), none, .mov (.t 5)⟩,
 ⟨(some 32), none, .bin .gtr .no (.t 30) (.t 31)⟩,
 ⟨(some 33), none, .mov (.t 32)⟩,
 ⟨(some 34), (some (33, false)), .mov (.t 8)⟩,
 ⟨(some 35), (some (33, false)), .mov (.t 5)⟩,
 ⟨(some 36), (some (33, false)), .bin .eql .no (.t 34) (.t 35)⟩,
 ⟨(some 37), (some (33, false)), .mov (.t 36)⟩,
 ⟨(some 38), (some (37, true)), .fa 0 (.t 7)⟩,
 ⟨(some 39), (some (37, true)), .load none (.t 38)⟩,
 ⟨(some 40), (some (37, true)), .mov (.t 4)⟩,
 ⟨(some 41), (some (37, true)), .bin .lss .no (.t 39) (.t 40)⟩,
 ⟨(some 42), (some (33, false)), .pick (.t 37) (.t 41) (.c (.bool false))⟩,
 ⟨(some 43), none, .pick (.t 33) (.c (.bool true)) (.t 42)⟩] [43])
 (.cond (.t 43)
 (.ops [
 ⟨(some 44), none, .fa 0 (.t 7)⟩,
 ⟨(some 45), none, .load none (.t 44)⟩,
 ⟨(some 46), none, .mov (.t 8)⟩,
 ⟨(some 4), none, .mov (.t 45)⟩,
 ⟨(some 5), none, .mov (.t 46)⟩] [4, 5])
 .skip))))))
 (.ops [
 ⟨(some 47), none, .bin .add .no (.t 13) (.c (.int .i64 1))⟩,
 ⟨(some 13), none, .mov (.t 47)⟩] [13])))))))
 (.seq
 (.ops [
 ⟨(some 48), none, .mov (.t 4)⟩,
 ⟨(some 49), none, .mov (.t 5)⟩,
 ⟨(some 2), none, .mov (.t 48)⟩,
 ⟨(some 3), none, .mov (.t 49)⟩] [2, 3])
 .ret)))),
 [.tmp 2, .tmp 3]⟩

/-- bellpull/shift.contains -/
noncomputable def sf37 : SFun := ⟨[0, 1, 2, 4], 15,
 (.seq
 (.ops [
 ⟨(some 2), none, .box (.t 0)⟩,
 ⟨(some 4), none, .mov (.c (.bool false))⟩] [2, 4])
 (.seq
 (.ops [
 ⟨(some 5), none, .fa 0 (.t 2)⟩,
 ⟨(some 6), none, .load none (.t 5)⟩,
 ⟨(some 7), none, .mov (.t 1)⟩,
 ⟨(some 8), none, .bin .leq .no (.t 6) (.t 7)⟩,
 ⟨(some 9), none, .mov (.t 8)⟩,
 ⟨(some 10), (some (9, true)), .mov (.t 1)⟩,
 ⟨(some 11), (some (9, true)), .fa 1 (.t 2)⟩,
 ⟨(some 12), (some (9, true)), .load none (.t 11)⟩,
 ⟨(some 13), (some (9, true)), .bin .lss .no (.t 10) (.t 12)⟩,
 ⟨(some 14), none, .pick (.t 9) (.t 13) (.c (.bool false))⟩,
 ⟨(some 4), none, .mov (.t 14)⟩] [4])
 .ret)),
 [.tmp 4]⟩

/-- bellpull/shift.online -/
noncomputable def sf38 : SFun := ⟨[0, 1, 4, 5, 6, 7, 8, 12, 13, 14, 15], 32,
 (.seq
 (.ops [
 ⟨(some 4), none, .mov (.c .nilsl)⟩] [4])
 (.seq
 (.ops [
 ⟨(some 9), none, .mov (.t 0)⟩,
 ⟨(some 10), none, .lenS (.t 9)⟩,
 ⟨(some 11), none, .mks [(.int .i64 0)] 1 (.c (.int .i64 0)) (.t 10)⟩,
 ⟨(some 5), none, .mov (.t 11)⟩] [5])
 (.seq
 (.seq
 (.ops [
 ⟨(some 12), none, .mov (.t 0)⟩,
 ⟨(some 13), none, .lenS (.t 12)⟩,
 ⟨(some 14), none, .mov (.c (.int .i64 0))⟩] [12, 13, 14])
 (.block 0
 (.loop
 (.seq
 (.ops [
 ⟨(some 15), none, .bin .lss .no (.t 14) (.t 13)⟩] [15])
 (.seq
 (.cond (.t 15)
 .skip
 (.exit 0))
 (.seq
 (.block 1
 (.seq
 (.ops [
 ⟨(some 16), none, .mov (.t 14)⟩,
 ⟨(some 17), none, .ixS 2 (.t 12) (.t 14)⟩,
 ⟨(some 18), none, .load (some 2) (.t 17)⟩,
 ⟨(some 7), none, .new [(.int .i64 0), (.int .i64 0)]⟩,
 ⟨(some 6), none, .mov (.t 16)⟩,
 ⟨none, none, .store 2 (.t 7) (.t 18)⟩] [7, 6])
 (.seq
 (.draw [
 ⟨⟨(some 19), none, .mov (.t 1)⟩, false, false⟩,
 ⟨⟨(some 20), none, .load (some 2) (.t 7)⟩, true, false⟩,
 ⟨⟨(some 21), none, .mov (.t 0)⟩, false, false⟩,
 ⟨⟨(some 22), none, .mov (.t 6)⟩, false, false⟩,
 ⟨⟨(some 23), none, .slice 2 (.t 21) none (some (.t 22))⟩, false, false⟩,
 ⟨⟨(some 24), none, .mov (.t 5)⟩, false, false⟩,
 ⟨⟨(some 25), none, .call (.t 19) [(.t 20), (.t 23), (.t 24)]⟩, false, true⟩,
 ⟨⟨(some 8), none, .mov (.t 25)⟩, false, false⟩] [0, 0, 0, 0, 12, 0, 63, 127] [8])
 (.ops [
 ⟨(some 26), none, .mov (.t 5)⟩,
 ⟨(some 27), none, .mov (.t 8)⟩,
 ⟨(some 28), none, .buildS [(.int .i64 0)] 1 1 [(0, (.t 27))]⟩,
 ⟨(some 29), none, .app true 1 (.t 26) (.t 28)⟩,
 ⟨(some 5), none, .mov (.t 29)⟩] [5]))))
 (.ops [
 ⟨(some 30), none, .bin .add .no (.t 14) (.c (.int .i64 1))⟩,
 ⟨(some 14), none, .mov (.t 30)⟩] [14])))))))
 (.seq
 (.ops [
 ⟨(some 31), none, .mov (.t 5)⟩,
 ⟨(some 4), none, .mov (.t 31)⟩] [4])
 .ret)))),
 [.tmp 4]⟩

/-- bellpull/shift.fit$1 -/
noncomputable def sf39 : SFun := ⟨[0, 1, 2, 3, 6], 12,
 (.seq
 (.ops [
 ⟨(some 3), none, .box (.t 0)⟩,
 ⟨(some 6), none, .mov (.c (.int .i64 0))⟩] [3, 6])
 (.seq
 (.ops [
 ⟨(some 7), none, .load (some 2) (.t 3)⟩,
 ⟨(some 8), none, .mov (.t 1)⟩,
 ⟨(some 9), none, .mov (.t 2)⟩,
 ⟨(some 10), none, .call (.c (.fn (.func 19) [] [])) [(.t 7), (.t 8), (.t 9)]⟩,
 ⟨(some 11), none, .call (.c (.fn (.func 40) [] [])) [(.c (.int .i64 0)), (.t 10)]⟩,
 ⟨(some 6), none, .mov (.t 11)⟩] [6])
 .ret)),
 [.tmp 6]⟩

/-- bellpull/shift.leastFree -/
noncomputable def sf40 : SFun := ⟨[0, 1, 4, 7], 11,
 (.seq
 (.ops [
 ⟨(some 4), none, .mov (.c (.int .i64 0))⟩] [4])
 (.seq
 (.block 0
 (.loop
 (.seq
 (.seq
 (.ops [
 ⟨(some 5), none, .mov (.t 1)⟩,
 ⟨(some 6), none, .mov (.t 0)⟩,
 ⟨(some 7), none, .call (.c (.fn (.func 18) [] [])) [(.t 5), (.t 6)]⟩] [7])
 (.cond (.t 7)
 .skip
 (.exit 0)))
 (.block 1
 (.ops [
 ⟨(some 8), none, .mov (.t 0)⟩,
 ⟨(some 9), none, .bin .add .no (.t 8) (.c (.int .i64 1))⟩,
 ⟨(some 0), none, .mov (.t 9)⟩] [0])))))
 (.seq
 (.ops [
 ⟨(some 10), none, .mov (.t 0)⟩,
 ⟨(some 4), none, .mov (.t 10)⟩] [4])
 .ret))),
 [.tmp 4]⟩

/-- slices.stableCmpFunc[int] -/
noncomputable def sf41 : SFun := ⟨[0, 1, 2, 6, 7, 8, 9, 13, 30, 35, 54], 63,
 (.seq
 (.ops [
 ⟨(some 6), none, .mov (.c (.int .i64 20))⟩] [6])
 (.seq
 (.ops [
 ⟨(some 10), none, .mov (.t 6)⟩,
 ⟨(some 7), none, .mov (.c (.int .i64 0))⟩,
 ⟨(some 8), none, .mov (.t 10)⟩] [7, 8])
 (.seq
 (.block 0
 (.loop
 (.seq
 (.seq
 (.ops [
 ⟨(some 11), none, .mov (.t 8)⟩,
 ⟨(some 12), none, .mov (.t 1)⟩,
 ⟨(some 13), none, .bin .leq .no (.t 11) (.t 12)⟩] [13])
 (.cond (.t 13)
 .skip
 (.exit 0)))
 (.block 1
 (.seq
 (.ops [
 ⟨(some 14), none, .mov (.t 0)⟩,
 ⟨(some 15), none, .mov (.t 7)⟩,
 ⟨(some 16), none, .mov (.t 8)⟩,
 ⟨(some 17), none, .mov (.t 2)⟩,
 ⟨(some 18), none, .call (.c (.fn (.func 48) [] [])) [(.t 14), (.t 15), (.t 16), (.t 17)]⟩] [])
 (.seq
 (.ops [
 ⟨(some 19), none, .mov (.t 8)⟩,
 ⟨(some 7), none, .mov (.t 19)⟩] [7])
 (.ops [
 ⟨(some 20), none, .mov (.t 8)⟩,
 ⟨(some 21), none, .mov (.t 6)⟩,
 ⟨(some 22), none, .bin .add .no (.t 20) (.t 21)⟩,
 ⟨(some 8), none, .mov (.t 22)⟩] [8])))))))
 (.seq
 (.ops [
 ⟨(some 23), none, .mov (.t 0)⟩,
 ⟨(some 24), none, .mov (.t 7)⟩,
 ⟨(some 25), none, .mov (.t 1)⟩,
 ⟨(some 26), none, .mov (.t 2)⟩,
 ⟨(some 27), none, .call (.c (.fn (.func 48) [] [])) [(.t 23), (.t 24), (.t 25), (.t 26)]⟩] [])
 (.block 2
 (.loop
 (.seq
 (.seq
 (.ops [
 ⟨(some 28), none, .mov (.t 6)⟩,
 ⟨(some 29), none, .mov (.t 1)⟩,
 ⟨(some 30), none, .bin .lss .no (.t 28) (.t 29)⟩] [30])
 (.cond (.t 30)
 .skip
 (.exit 2)))
 (.block 3
 (.seq
 (.ops [
 ⟨(some 31), none, .mov (.t 6)⟩,
 ⟨(some 32), none, .bin .mul .no (.c (.int .i64 2)) (.t 31)⟩,
 ⟨(some 7), none, .mov (.c (.int .i64 0))⟩,
 ⟨(some 8), none, .mov (.t 32)⟩] [7, 8])
 (.seq
 (.block 4
 (.loop
 (.seq
 (.seq
 (.ops [
 ⟨(some 33), none, .mov (.t 8)⟩,
 ⟨(some 34), none, .mov (.t 1)⟩,
 ⟨(some 35), none, .bin .leq .no (.t 33) (.t 34)⟩] [35])
 (.cond (.t 35)
 .skip
 (.exit 4)))
 (.block 5
 (.seq
 (.ops [
 ⟨(some 36), none, .mov (.t 0)⟩,
 ⟨(some 37), none, .mov (.t 7)⟩,
 ⟨(some 38), none, .mov (.t 7)⟩,
 ⟨(some 39), none, .mov (.t 6)⟩,
 ⟨(some 40), none, .bin .add .no (.t 38) (.t 39)⟩,
 ⟨(some 41), none, .mov (.t 8)⟩,
 ⟨(some 42), none, .mov (.t 2)⟩,
 ⟨(some 43), none, .call (.c (.fn (.func 49) [] [])) [(.t 36), (.t 37), (.t 40), (.t 41), (.t 42)]⟩] [])
 (.seq
 (.ops [
 ⟨(some 44), none, .mov (.t 8)⟩,
 ⟨(some 7), none, .mov (.t 44)⟩] [7])
 (.ops [
 ⟨(some 45), none, .mov (.t 8)⟩,
 ⟨(some 46), none, .mov (.t 6)⟩,
 ⟨(some 47), none, .bin .mul .no (.c (.int .i64 2)) (.t 46)⟩,
 ⟨(some 48), none, .bin .add .no (.t 45) (.t 47)⟩,
 ⟨(some 8), none, .mov (.t 48)⟩] [8])))))))
 (.seq
 (.seq
 (.ops [
 ⟨(some 49), none, .mov (.t 7)⟩,
 ⟨(some 50), none, .mov (.t 6)⟩,
 ⟨(some 51), none, .bin .add .no (.t 49) (.t 50)⟩,
 ⟨(some 9), none, .mov (.t 51)⟩] [9])
 (.seq
 (.ops [
 ⟨(some 52), none, .mov (.t 9)⟩,
 ⟨(some 53), none, .mov (.t 1)⟩,
 ⟨(some 54), none, .bin .lss .no (.t 52) (.t 53)⟩] [54])
 (.cond (.t 54)
 (.ops [
 ⟨(some 55), none, .mov (.t 0)⟩,
 ⟨(some 56), none, .mov (.t 7)⟩,
 ⟨(some 57), none, .mov (.t 9)⟩,
 ⟨(some 58), none, .mov (.t 1)⟩,
 ⟨(some 59), none, .mov (.t 2)⟩,
 ⟨(some 60), none, .call (.c (.fn (.func 49) [] [])) [(.t 55), (.t 56), (.t 57), (.t 58), (.t 59)]⟩] [])
 .skip)))
 (.ops [
 ⟨(some 61), none, .mov (.t 6)⟩,
 ⟨(some 62), none, .bin .mul .no (.t 61) (.c (.int .i64 2))⟩,
 ⟨(some 6), none, .mov (.t 62)⟩] [6])))))))))))),
 []⟩

/-- cmp.isNaN[int] -/
noncomputable def sf42 : SFun := ⟨[0, 2], 6,
 (.seq
 (.ops [
 ⟨(some 2), none, .mov (.c (.bool false))⟩] [2])
 (.seq
 (.ops [
 ⟨(some 3), none, .mov (.t 0)⟩,
 ⟨(some 4), none, .mov (.t 0)⟩,
 ⟨(some 5), none, .bin .neq .no (.t 3) (.t 4)⟩,
 ⟨(some 2), none, .mov (.t 5)⟩] [2])
 .ret)),
 [.tmp 2]⟩

/-- bellpull/bellpullref01.Has -/
noncomputable def sf43 : SFun := ⟨[0, 1, 4, 5, 9, 17], 18,
 (.seq
 (.ops [
 ⟨(some 4), none, .mov (.c (.bool false))⟩] [4])
 (.seq
 (.seq
 (.ops [
 ⟨(some 5), none, .mov (.c (.int .i64 0))⟩] [5])
 (.block 0
 (.loop
 (.seq
 (.seq
 (.ops [
 ⟨(some 6), none, .mov (.t 5)⟩,
 ⟨(some 7), none, .mov (.t 0)⟩,
 ⟨(some 8), none, .lenS (.t 7)⟩,
 ⟨(some 9), none, .bin .lss .no (.t 6) (.t 8)⟩] [9])
 (.cond (.t 9)
 .skip
 (.exit 0)))
 (.seq
 (.block 1
 (.seq
 (.ops [
 ⟨(some 12), none, .mov (.t 0)⟩,
 ⟨(some 13), none, .mov (.t 5)⟩,
 ⟨(some 14), none, .ixS 1 (.t 12) (.t 13)⟩,
 ⟨(some 15), none, .load none (.t 14)⟩,
 ⟨(some 16), none, .mov (.t 1)⟩,
 ⟨(some 17), none, .bin .eql .no (.t 15) (.t 16)⟩] [17])
 (.cond (.t 17)
 (.seq
 (.ops [
 ⟨(some 4), none, .mov (.c (.bool true))⟩] [4])
 .ret)
 .skip)))
 (.ops [
 ⟨(some 10), none, .mov (.t 5)⟩,
 ⟨(some 11), none, .bin .add .no (.t 10) (.c (.int .i64 1))⟩,
 ⟨(some 5), none, .mov (.t 11)⟩] [5]))))))
 (.seq
 (.ops [
 ⟨(some 4), none, .mov (.c (.bool false))⟩] [4])
 .ret))),
 [.tmp 4]⟩

/-- bellpull/shift.leveled$1 -/
noncomputable def sf44 : SFun := ⟨[0, 1, 2, 3, 6, 7, 15], 19,
 (.seq
 (.ops [
 ⟨(some 3), none, .box (.t 0)⟩,
 ⟨(some 6), none, .mov (.c (.int .i64 0))⟩] [3, 6])
 (.seq
 (.ops [
 ⟨(some 7), none, .mov (.c (.int .i64 1))⟩] [7])
 (.seq
 (.block 0
 (.loop
 (.seq
 (.seq
 (.draw [
 ⟨⟨(some 8), none, .load (some 2) (.t 3)⟩, true, false⟩,
 ⟨⟨(some 9), none, .mov (.t 7)⟩, false, false⟩,
 ⟨⟨(some 10), none, .mov (.t 1)⟩, false, false⟩,
 ⟨⟨(some 11), none, .mov (.t 2)⟩, false, false⟩,
 ⟨⟨(some 12), none, .call (.c (.fn (.func 46) [] [])) [(.t 9), (.t 10), (.t 11)]⟩, false, true⟩,
 ⟨⟨(some 13), none, .call (.c (.fn (.func 45) [] [])) [(.t 8), (.t 12)]⟩, false, true⟩,
 ⟨⟨(some 14), none, .mov (.t 7)⟩, false, false⟩,
 ⟨⟨(some 15), none, .bin .gtr .no (.t 13) (.t 14)⟩, false, false⟩] [0, 0, 0, 0, 14, 31, 0, 127] [15])
 (.cond (.t 15)
 .skip
 (.exit 0)))
 (.block 1
 (.ops [
 ⟨(some 16), none, .mov (.t 7)⟩,
 ⟨(some 17), none, .bin .add .no (.t 16) (.c (.int .i64 1))⟩,
 ⟨(some 7), none, .mov (.t 17)⟩] [7])))))
 (.seq
 (.ops [
 ⟨(some 18), none, .mov (.t 7)⟩,
 ⟨(some 6), none, .mov (.t 18)⟩] [6])
 .ret)))),
 [.tmp 6]⟩

/-- bellpull/shift.depthWithin -/
noncomputable def sf45 : SFun := ⟨[0, 1, 2, 4, 5, 7, 8, 10, 13, 14, 15, 16, 24], 36,
 (.seq
 (.ops [
 ⟨(some 2), none, .box (.t 0)⟩,
 ⟨(some 4), none, .mov (.c (.int .i64 0))⟩] [2, 4])
 (.seq
 (.ops [
 ⟨(some 11), none, .load (some 2) (.t 2)⟩,
 ⟨(some 12), none, .buildS [(.int .i64 0), (.int .i64 0)] 1 2 [(0, (.t 11))]⟩,
 ⟨(some 5), none, .mov (.t 12)⟩] [5])
 (.seq
 (.seq
 (.ops [
 ⟨(some 13), none, .mov (.t 1)⟩,
 ⟨(some 14), none, .lenS (.t 13)⟩,
 ⟨(some 15), none, .mov (.c (.int .i64 0))⟩] [13, 14, 15])
 (.block 0
 (.loop
 (.seq
 (.ops [
 ⟨(some 16), none, .bin .lss .no (.t 15) (.t 14)⟩] [16])
 (.seq
 (.cond (.t 16)
 .skip
 (.exit 0))
 (.seq
 (.block 1
 (.seq
 (.ops [
 ⟨(some 17), none, .ixS 2 (.t 13) (.t 15)⟩,
 ⟨(some 18), none, .load (some 2) (.t 17)⟩,
 ⟨(some 7), none, .new [(.int .i64 0), (.int .i64 0)]⟩,
 ⟨none, none, .store 2 (.t 7) (.t 18)⟩] [7])
 (.seq
 (.ops [
 ⟨(some 19), none, .load (some 2) (.t 2)⟩,
 ⟨(some 20), none, .load (some 2) (.t 7)⟩,
 ⟨(some 21), none, .call (.c (.fn (.func 33) [] [])) [(.t 19), (.t 20)]⟩,
 ⟨(some 8), none, .new [(.int .i64 0), (.int .i64 0)]⟩,
 ⟨none, none, .store 2 (.t 8) (.t 21)⟩] [8])
 (.seq
 (.ops [
 ⟨(some 22), none, .load (some 2) (.t 8)⟩,
 ⟨(some 23), none, .build [(.int .i64 0), (.int .i64 0)] [(0, 1), (1, 1)] []⟩,
 ⟨(some 24), none, .bin .neq (.flat 2) (.t 22) (.t 23)⟩] [24])
 (.cond (.t 24)
 (.ops [
 ⟨(some 25), none, .mov (.t 5)⟩,
 ⟨(some 26), none, .load (some 2) (.t 8)⟩,
 ⟨(some 27), none, .buildS [(.int .i64 0), (.int .i64 0)] 1 2 [(0, (.t 26))]⟩,
 ⟨(some 28), none, .app true 2 (.t 25) (.t 27)⟩,
 ⟨(some 5), none, .mov (.t 28)⟩] [5])
 .skip)))))
 (.ops [
 ⟨(some 29), none, .bin .add .no (.t 15) (.c (.int .i64 1))⟩,
 ⟨(some 15), none, .mov (.t 29)⟩] [15])))))))
 (.seq
 (.ops [
 ⟨(some 31), none, .mov (.t 5)⟩,
 ⟨(some 32), none, .call (.c (.fn (.func 36) [] [])) [(.t 31)]⟩,
 ⟨(some 30), none, .mov (.t 32)⟩,
 ⟨(some 33), none, .ext (.t 30) 0⟩,
 ⟨(some 34), none, .ext (.t 30) 1⟩,
 ⟨(some 9), none, .mov (.t 33)⟩,
 ⟨(some 10), none, .mov (.t 34)⟩] [10])
 (.seq
 (.ops [
 ⟨(some 35), none, .mov (.t 10)⟩,
 ⟨(some 4), none, .mov (.t 35)⟩] [4])
 .ret))))),
 [.tmp 4]⟩

/-- bellpull/shift.upTo -/
noncomputable def sf46 : SFun := ⟨[0, 1, 2, 6, 7, 8, 9, 10, 11, 12, 13, 22], 29,
 (.seq
 (.ops [
 ⟨(some 6), none, .mov (.c .nilsl)⟩] [6])
 (.seq
 (.ops [
 ⟨(some 7), none, .mov (.c .nilsl)⟩] [7])
 (.seq
 (.seq
 (.ops [
 ⟨(some 10), none, .mov (.t 1)⟩,
 ⟨(some 11), none, .lenS (.t 10)⟩,
 ⟨(some 12), none, .mov (.c (.int .i64 0))⟩] [10, 11, 12])
 (.block 0
 (.loop
 (.seq
 (.ops [
 ⟨(some 13), none, .bin .lss .no (.t 12) (.t 11)⟩] [13])
 (.seq
 (.cond (.t 13)
 .skip
 (.exit 0))
 (.seq
 (.block 1
 (.seq
 (.ops [
 ⟨(some 14), none, .mov (.t 12)⟩,
 ⟨(some 15), none, .ixS 2 (.t 10) (.t 12)⟩,
 ⟨(some 16), none, .load (some 2) (.t 15)⟩,
 ⟨(some 9), none, .new [(.int .i64 0), (.int .i64 0)]⟩,
 ⟨(some 8), none, .mov (.t 14)⟩,
 ⟨none, none, .store 2 (.t 9) (.t 16)⟩] [9, 8])
 (.seq
 (.ops [
 ⟨(some 17), none, .mov (.t 2)⟩,
 ⟨(some 18), none, .mov (.t 8)⟩,
 ⟨(some 19), none, .ixS 1 (.t 17) (.t 18)⟩,
 ⟨(some 20), none, .load none (.t 19)⟩,
 ⟨(some 21), none, .mov (.t 0)⟩,
 ⟨(some 22), none, .bin .leq .no (.t 20) (.t 21)⟩] [22])
 (.cond (.t 22)
 (.ops [
 ⟨(some 23), none, .mov (.t 7)⟩,
 ⟨(some 24), none, .load (some 2) (.t 9)⟩,
 ⟨(some 25), none, .buildS [(.int .i64 0), (.int .i64 0)] 1 2 [(0, (.t 24))]⟩,
 ⟨(some 26), none, .app true 2 (.t 23) (.t 25)⟩,
 ⟨(some 7), none, .mov (.t 26)⟩] [7])
 .skip))))
 (.ops [
 ⟨(some 27), none, .bin .add .no (.t 12) (.c (.int .i64 1))⟩,
 ⟨(some 12), none, .mov (.t 27)⟩] [12])))))))
 (.seq
 (.ops [
 ⟨(some 28), none, .mov (.t 7)⟩,
 ⟨(some 6), none, .mov (.t 28)⟩] [6])
 .ret)))),
 [.tmp 6]⟩

/-- bellpull/shift.trotter$1 -/
noncomputable def sf47 : SFun := ⟨[0, 1, 2, 3, 4, 7, 8], 23,
 (.seq
 (.ops [
 ⟨(some 4), none, .box (.t 0)⟩,
 ⟨(some 7), none, .mov (.c (.int .i64 0))⟩] [4, 7])
 (.seq
 (.ops [
 ⟨(some 9), none, .load none (.t 3)⟩,
 ⟨(some 10), none, .mov (.t 1)⟩,
 ⟨(some 11), none, .lenS (.t 10)⟩,
 ⟨(some 12), none, .ixS 1 (.t 9) (.t 11)⟩,
 ⟨(some 13), none, .load none (.t 12)⟩,
 ⟨(some 14), none, .bin .mul .no (.c (.int .i64 3)) (.t 13)⟩,
 ⟨(some 15), none, .bin .sub .no (.t 14) (.c (.int .i64 5))⟩,
 ⟨(some 16), none, .mx (.c (.int .i64 0)) (.t 15)⟩,
 ⟨(some 8), none, .mov (.t 16)⟩] [8])
 (.seq
 (.ops [
 ⟨(some 17), none, .mov (.t 8)⟩,
 ⟨(some 18), none, .load (some 2) (.t 4)⟩,
 ⟨(some 19), none, .mov (.t 1)⟩,
 ⟨(some 20), none, .mov (.t 2)⟩,
 ⟨(some 21), none, .call (.c (.fn (.func 19) [] [])) [(.t 18), (.t 19), (.t 20)]⟩,
 ⟨(some 22), none, .call (.c (.fn (.func 40) [] [])) [(.t 17), (.t 21)]⟩,
 ⟨(some 7), none, .mov (.t 22)⟩] [7])
 .ret))),
 [.tmp 7]⟩

/-- slices.insertionSortCmpFunc[int] -/
noncomputable def sf48 : SFun := ⟨[0, 1, 2, 3, 8, 9, 14, 34], 53,
 (.seq
 (.ops [
 ⟨(some 10), none, .mov (.t 1)⟩,
 ⟨(some 11), none, .bin .add .no (.t 10) (.c (.int .i64 1))⟩,
 ⟨(some 8), none, .mov (.t 11)⟩] [8])
 (.block 0
 (.loop
 (.seq
 (.seq
 (.ops [
 ⟨(some 12), none, .mov (.t 8)⟩,
 ⟨(some 13), none, .mov (.t 2)⟩,
 ⟨(some 14), none, .bin .lss .no (.t 12) (.t 13)⟩] [14])
 (.cond (.t 14)
 .skip
 (.exit 0)))
 (.seq
 (.block 1
 (.seq
 (.ops [
 ⟨(some 17), none, .mov (.t 8)⟩,
 ⟨(some 9), none, .mov (.t 17)⟩] [9])
 (.block 2
 (.loop
 (.seq
 (.seq
 (.draw [
 ⟨⟨(some 18), none, .mov (.t 9)⟩, false, false⟩,
 ⟨⟨(some 19), none, .mov (.t 1)⟩, false, false⟩,
 ⟨⟨(some 20), none, .bin .gtr .no (.t 18) (.t 19)⟩, false, false⟩,
 ⟨⟨(some 21), none, .mov (.t 20)⟩, false, false⟩,
 ⟨⟨(some 22), (some (21, true)), .mov (.t 3)⟩, false, false⟩,
 ⟨⟨(some 23), (some (21, true)), .mov (.t 0)⟩, false, false⟩,
 ⟨⟨(some 24), (some (21, true)), .mov (.t 9)⟩, false, false⟩,
 ⟨⟨(some 25), (some (21, true)), .ixS 1 (.t 23) (.t 24)⟩, false, false⟩,
 ⟨⟨(some 26), (some (21, true)), .load none (.t 25)⟩, true, false⟩,
 ⟨⟨(some 27), (some (21, true)), .mov (.t 0)⟩, false, false⟩,
 ⟨⟨(some 28), (some (21, true)), .mov (.t 9)⟩, false, false⟩,
 ⟨⟨(some 29), (some (21, true)), .bin .sub .no (.t 28) (.c (.int .i64 1))⟩, false, false⟩,
 ⟨⟨(some 30), (some (21, true)), .ixS 1 (.t 27) (.t 29)⟩, false, false⟩,
 ⟨⟨(some 31), (some (21, true)), .load none (.t 30)⟩, true, false⟩,
 ⟨⟨(some 32), (some (21, true)), .call (.t 22) [(.t 26), (.t 31)]⟩, false, true⟩,
 ⟨⟨(some 33), (some (21, true)), .bin .lss .no (.t 32) (.c (.int .i64 0))⟩, false, false⟩,
 ⟨⟨(some 34), none, .pick (.t 21) (.t 33) (.c (.bool false))⟩, false, false⟩] [0, 0, 3, 7, 15, 15, 15, 111, 239, 15, 15, 1039, 3599, 7695, 16383, 32767, 65535] [34])
 (.cond (.t 34)
 .skip
 (.exit 2)))
 (.seq
 (.block 3
 (.draw [
 ⟨⟨(some 37), none, .mov (.t 0)⟩, false, false⟩,
 ⟨⟨(some 38), none, .mov (.t 9)⟩, false, false⟩,
 ⟨⟨(some 39), none, .mov (.t 0)⟩, false, false⟩,
 ⟨⟨(some 40), none, .mov (.t 9)⟩, false, false⟩,
 ⟨⟨(some 41), none, .bin .sub .no (.t 40) (.c (.int .i64 1))⟩, false, false⟩,
 ⟨⟨(some 42), none, .mov (.t 0)⟩, false, false⟩,
 ⟨⟨(some 43), none, .mov (.t 9)⟩, false, false⟩,
 ⟨⟨(some 44), none, .bin .sub .no (.t 43) (.c (.int .i64 1))⟩, false, false⟩,
 ⟨⟨(some 45), none, .ixS 1 (.t 42) (.t 44)⟩, false, false⟩,
 ⟨⟨(some 46), none, .load none (.t 45)⟩, true, false⟩,
 ⟨⟨(some 47), none, .mov (.t 0)⟩, false, false⟩,
 ⟨⟨(some 48), none, .mov (.t 9)⟩, false, false⟩,
 ⟨⟨(some 49), none, .ixS 1 (.t 47) (.t 48)⟩, false, false⟩,
 ⟨⟨(some 50), none, .load none (.t 49)⟩, true, false⟩,
 ⟨⟨(some 51), none, .ixS 1 (.t 37) (.t 38)⟩, false, false⟩,
 ⟨⟨none, none, .store 1 (.t 51) (.t 46)⟩, false, true⟩,
 ⟨⟨(some 52), none, .ixS 1 (.t 39) (.t 41)⟩, false, false⟩,
 ⟨⟨none, none, .store 1 (.t 52) (.t 50)⟩, false, true⟩] [0, 0, 0, 0, 8, 0, 0, 64, 224, 480, 0, 0, 3072, 7168, 16355, 32739, 65535, 131071] []))
 (.ops [
 ⟨(some 35), none, .mov (.t 9)⟩,
 ⟨(some 36), none, .bin .sub .no (.t 35) (.c (.int .i64 1))⟩,
 ⟨(some 9), none, .mov (.t 36)⟩] [9])))))))
 (.ops [
 ⟨(some 15), none, .mov (.t 8)⟩,
 ⟨(some 16), none, .bin .add .no (.t 15) (.c (.int .i64 1))⟩,
 ⟨(some 8), none, .mov (.t 16)⟩] [8])))))),
 []⟩

/-- slices.symMergeCmpFunc[int] -/
noncomputable def sf49 : SFun := ⟨[0, 1, 2, 3, 4, 10, 11, 12, 13, 14, 15, 16, 17, 18, 19, 20, 21, 22, 23, 24, 28, 33, 50, 58, 80, 85, 103, 110, 140, 151, 171, 185, 199, 213], 220,
 (.seq
 (.seq
 (.ops [
 ⟨(some 25), none, .mov (.t 2)⟩,
 ⟨(some 26), none, .mov (.t 1)⟩,
 ⟨(some 27), none, .bin .sub .no (.t 25) (.t 26)⟩,
 ⟨(some 28), none, .bin .eql .no (.t 27) (.c (.int .i64 1))⟩] [28])
 (.cond (.t 28)
 (.seq
 (.ops [
 ⟨(some 29), none, .mov (.t 2)⟩,
 ⟨(some 10), none, .mov (.t 29)⟩] [10])
 (.seq
 (.ops [
 ⟨(some 30), none, .mov (.t 3)⟩,
 ⟨(some 11), none, .mov (.t 30)⟩] [11])
 (.seq
 (.block 0
 (.loop
 (.seq
 (.seq
 (.ops [
 ⟨(some 31), none, .mov (.t 10)⟩,
 ⟨(some 32), none, .mov (.t 11)⟩,
 ⟨(some 33), none, .bin .lss .no (.t 31) (.t 32)⟩] [33])
 (.cond (.t 33)
 .skip
 (.exit 0)))
 (.block 1
 (.seq
 (.ops [
 ⟨(some 34), none, .mov (.t 10)⟩,
 ⟨(some 35), none, .mov (.t 11)⟩,
 ⟨(some 36), none, .bin .add .no (.t 34) (.t 35)⟩,
 ⟨(some 37), none, .conv .u64 (.t 36)⟩,
 ⟨(some 38), none, .bin .shr .no (.t 37) (.c (.int .u64 1))⟩,
 ⟨(some 39), none, .conv .i64 (.t 38)⟩,
 ⟨(some 12), none, .mov (.t 39)⟩] [12])
 (.seq
 (.draw [
 ⟨⟨(some 40), none, .mov (.t 4)⟩, false, false⟩,
 ⟨⟨(some 41), none, .mov (.t 0)⟩, false, false⟩,
 ⟨⟨(some 42), none, .mov (.t 12)⟩, false, false⟩,
 ⟨⟨(some 43), none, .ixS 1 (.t 41) (.t 42)⟩, false, false⟩,
 ⟨⟨(some 44), none, .load none (.t 43)⟩, true, false⟩,
 ⟨⟨(some 45), none, .mov (.t 0)⟩, false, false⟩,
 ⟨⟨(some 46), none, .mov (.t 1)⟩, false, false⟩,
 ⟨⟨(some 47), none, .ixS 1 (.t 45) (.t 46)⟩, false, false⟩,
 ⟨⟨(some 48), none, .load none (.t 47)⟩, true, false⟩,
 ⟨⟨(some 49), none, .call (.t 40) [(.t 44), (.t 48)]⟩, false, true⟩,
 ⟨⟨(some 50), none, .bin .lss .no (.t 49) (.c (.int .i64 0))⟩, false, false⟩] [0, 0, 0, 6, 14, 0, 0, 96, 224, 511, 1023] [50])
 (.cond (.t 50)
 (.ops [
 ⟨(some 51), none, .mov (.t 12)⟩,
 ⟨(some 52), none, .bin .add .no (.t 51) (.c (.int .i64 1))⟩,
 ⟨(some 10), none, .mov (.t 52)⟩] [10])
 (.ops [
 ⟨(some 53), none, .mov (.t 12)⟩,
 ⟨(some 11), none, .mov (.t 53)⟩] [11]))))))))
 (.seq
 (.seq
 (.ops [
 ⟨(some 54), none, .mov (.t 1)⟩,
 ⟨(some 13), none, .mov (.t 54)⟩] [13])
 (.block 2
 (.loop
 (.seq
 (.seq
 (.ops [
 ⟨(some 55), none, .mov (.t 13)⟩,
 ⟨(some 56), none, .mov (.t 10)⟩,
 ⟨(some 57), none, .bin .sub .no (.t 56) (.c (.int .i64 1))⟩,
 ⟨(some 58), none, .bin .lss .no (.t 55) (.t 57)⟩] [58])
 (.cond (.t 58)
 .skip
 (.exit 2)))
 (.seq
 (.block 3
 (.draw [
 ⟨⟨(some 61), none, .mov (.t 0)⟩, false, false⟩,
 ⟨⟨(some 62), none, .mov (.t 13)⟩, false, false⟩,
 ⟨⟨(some 63), none, .mov (.t 0)⟩, false, false⟩,
 ⟨⟨(some 64), none, .mov (.t 13)⟩, false, false⟩,
 ⟨⟨(some 65), none, .bin .add .no (.t 64) (.c (.int .i64 1))⟩, false, false⟩,
 ⟨⟨(some 66), none, .mov (.t 0)⟩, false, false⟩,
 ⟨⟨(some 67), none, .mov (.t 13)⟩, false, false⟩,
 ⟨⟨(some 68), none, .bin .add .no (.t 67) (.c (.int .i64 1))⟩, false, false⟩,
 ⟨⟨(some 69), none, .ixS 1 (.t 66) (.t 68)⟩, false, false⟩,
 ⟨⟨(some 70), none, .load none (.t 69)⟩, true, false⟩,
 ⟨⟨(some 71), none, .mov (.t 0)⟩, false, false⟩,
 ⟨⟨(some 72), none, .mov (.t 13)⟩, false, false⟩,
 ⟨⟨(some 73), none, .ixS 1 (.t 71) (.t 72)⟩, false, false⟩,
 ⟨⟨(some 74), none, .load none (.t 73)⟩, true, false⟩,
 ⟨⟨(some 75), none, .ixS 1 (.t 61) (.t 62)⟩, false, false⟩,
 ⟨⟨none, none, .store 1 (.t 75) (.t 70)⟩, false, true⟩,
 ⟨⟨(some 76), none, .ixS 1 (.t 63) (.t 65)⟩, false, false⟩,
 ⟨⟨none, none, .store 1 (.t 76) (.t 74)⟩, false, true⟩] [0, 0, 0, 0, 8, 0, 0, 64, 224, 480, 0, 0, 3072, 7168, 16355, 32739, 65535, 131071] []))
 (.ops [
 ⟨(some 59), none, .mov (.t 13)⟩,
 ⟨(some 60), none, .bin .add .no (.t 59) (.c (.int .i64 1))⟩,
 ⟨(some 13), none, .mov (.t 60)⟩] [13]))))))
 .ret))))
 .skip))
 (.seq
 (.seq
 (.ops [
 ⟨(some 77), none, .mov (.t 3)⟩,
 ⟨(some 78), none, .mov (.t 2)⟩,
 ⟨(some 79), none, .bin .sub .no (.t 77) (.t 78)⟩,
 ⟨(some 80), none, .bin .eql .no (.t 79) (.c (.int .i64 1))⟩] [80])
 (.cond (.t 80)
 (.seq
 (.ops [
 ⟨(some 81), none, .mov (.t 1)⟩,
 ⟨(some 14), none, .mov (.t 81)⟩] [14])
 (.seq
 (.ops [
 ⟨(some 82), none, .mov (.t 2)⟩,
 ⟨(some 15), none, .mov (.t 82)⟩] [15])
 (.seq
 (.block 4
 (.loop
 (.seq
 (.seq
 (.ops [
 ⟨(some 83), none, .mov (.t 14)⟩,
 ⟨(some 84), none, .mov (.t 15)⟩,
 ⟨(some 85), none, .bin .lss .no (.t 83) (.t 84)⟩] [85])
 (.cond (.t 85)
 .skip
 (.exit 4)))
 (.block 5
 (.seq
 (.ops [
 ⟨(some 86), none, .mov (.t 14)⟩,
 ⟨(some 87), none, .mov (.t 15)⟩,
 ⟨(some 88), none, .bin .add .no (.t 86) (.t 87)⟩,
 ⟨(some 89), none, .conv .u64 (.t 88)⟩,
 ⟨(some 90), none, .bin .shr .no (.t 89) (.c (.int .u64 1))⟩,
 ⟨(some 91), none, .conv .i64 (.t 90)⟩,
 ⟨(some 16), none, .mov (.t 91)⟩] [16])
 (.seq
 (.draw [
 ⟨⟨(some 92), none, .mov (.t 4)⟩, false, false⟩,
 ⟨⟨(some 93), none, .mov (.t 0)⟩, false, false⟩,
 ⟨⟨(some 94), none, .mov (.t 2)⟩, false, false⟩,
 ⟨⟨(some 95), none, .ixS 1 (.t 93) (.t 94)⟩, false, false⟩,
 ⟨⟨(some 96), none, .load none (.t 95)⟩, true, false⟩,
 ⟨⟨(some 97), none, .mov (.t 0)⟩, false, false⟩,
 ⟨⟨(some 98), none, .mov (.t 16)⟩, false, false⟩,
 ⟨⟨(some 99), none, .ixS 1 (.t 97) (.t 98)⟩, false, false⟩,
 ⟨⟨(some 100), none, .load none (.t 99)⟩, true, false⟩,
 ⟨⟨(some 101), none, .call (.t 92) [(.t 96), (.t 100)]⟩, false, true⟩,
 ⟨⟨(some 102), none, .bin .lss .no (.t 101) (.c (.int .i64 0))⟩, false, false⟩,
 ⟨⟨(some 103), none, .not (.t 102)⟩, false, false⟩] [0, 0, 0, 6, 14, 0, 0, 96, 224, 511, 1023, 2047] [103])
 (.cond (.t 103)
 (.ops [
 ⟨(some 104), none, .mov (.t 16)⟩,
 ⟨(some 105), none, .bin .add .no (.t 104) (.c (.int .i64 1))⟩,
 ⟨(some 14), none, .mov (.t 105)⟩] [14])
 (.ops [
 ⟨(some 106), none, .mov (.t 16)⟩,
 ⟨(some 15), none, .mov (.t 106)⟩] [15]))))))))
 (.seq
 (.seq
 (.ops [
 ⟨(some 107), none, .mov (.t 2)⟩,
 ⟨(some 17), none, .mov (.t 107)⟩] [17])
 (.block 6
 (.loop
 (.seq
 (.seq
 (.ops [
 ⟨(some 108), none, .mov (.t 17)⟩,
 ⟨(some 109), none, .mov (.t 14)⟩,
 ⟨(some 110), none, .bin .gtr .no (.t 108) (.t 109)⟩] [110])
 (.cond (.t 110)
 .skip
 (.exit 6)))
 (.seq
 (.block 7
 (.draw [
 ⟨⟨(some 113), none, .mov (.t 0)⟩, false, false⟩,
 ⟨⟨(some 114), none, .mov (.t 17)⟩, false, false⟩,
 ⟨⟨(some 115), none, .mov (.t 0)⟩, false, false⟩,
 ⟨⟨(some 116), none, .mov (.t 17)⟩, false, false⟩,
 ⟨⟨(some 117), none, .bin .sub .no (.t 116) (.c (.int .i64 1))⟩, false, false⟩,
 ⟨⟨(some 118), none, .mov (.t 0)⟩, false, false⟩,
 ⟨⟨(some 119), none, .mov (.t 17)⟩, false, false⟩,
 ⟨⟨(some 120), none, .bin .sub .no (.t 119) (.c (.int .i64 1))⟩, false, false⟩,
 ⟨⟨(some 121), none, .ixS 1 (.t 118) (.t 120)⟩, false, false⟩,
 ⟨⟨(some 122), none, .load none (.t 121)⟩, true, false⟩,
 ⟨⟨(some 123), none, .mov (.t 0)⟩, false, false⟩,
 ⟨⟨(some 124), none, .mov (.t 17)⟩, false, false⟩,
 ⟨⟨(some 125), none, .ixS 1 (.t 123) (.t 124)⟩, false, false⟩,
 ⟨⟨(some 126), none, .load none (.t 125)⟩, true, false⟩,
 ⟨⟨(some 127), none, .ixS 1 (.t 113) (.t 114)⟩, false, false⟩,
 ⟨⟨none, none, .store 1 (.t 127) (.t 122)⟩, false, true⟩,
 ⟨⟨(some 128), none, .ixS 1 (.t 115) (.t 117)⟩, false, false⟩,
 ⟨⟨none, none, .store 1 (.t 128) (.t 126)⟩, false, true⟩] [0, 0, 0, 0, 8, 0, 0, 64, 224, 480, 0, 0, 3072, 7168, 16355, 32739, 65535, 131071] []))
 (.ops [
 ⟨(some 111), none, .mov (.t 17)⟩,
 ⟨(some 112), none, .bin .sub .no (.t 111) (.c (.int .i64 1))⟩,
 ⟨(some 17), none, .mov (.t 112)⟩] [17]))))))
 .ret))))
 .skip))
 (.seq
 (.ops [
 ⟨(some 129), none, .mov (.t 1)⟩,
 ⟨(some 130), none, .mov (.t 3)⟩,
 ⟨(some 131), none, .bin .add .no (.t 129) (.t 130)⟩,
 ⟨(some 132), none, .conv .u64 (.t 131)⟩,
 ⟨(some 133), none, .bin .shr .no (.t 132) (.c (.int .u64 1))⟩,
 ⟨(some 134), none, .conv .i64 (.t 133)⟩,
 ⟨(some 18), none, .mov (.t 134)⟩] [18])
 (.seq
 (.ops [
 ⟨(some 135), none, .mov (.t 18)⟩,
 ⟨(some 136), none, .mov (.t 2)⟩,
 ⟨(some 137), none, .bin .add .no (.t 135) (.t 136)⟩,
 ⟨(some 19), none, .mov (.t 137)⟩] [19])
 (.seq
 (.ops [
 ⟨(some 20), none, .mov (.c (.int .i64 0))⟩,
 ⟨(some 21), none, .mov (.c (.int .i64 0))⟩] [20, 21])
 (.seq
 (.seq
 (.ops [
 ⟨(some 138), none, .mov (.t 2)⟩,
 ⟨(some 139), none, .mov (.t 18)⟩,
 ⟨(some 140), none, .bin .gtr .no (.t 138) (.t 139)⟩] [140])
 (.cond (.t 140)
 (.seq
 (.ops [
 ⟨(some 141), none, .mov (.t 19)⟩,
 ⟨(some 142), none, .mov (.t 3)⟩,
 ⟨(some 143), none, .bin .sub .no (.t 141) (.t 142)⟩,
 ⟨(some 20), none, .mov (.t 143)⟩] [20])
 (.ops [
 ⟨(some 144), none, .mov (.t 18)⟩,
 ⟨(some 21), none, .mov (.t 144)⟩] [21]))
 (.seq
 (.ops [
 ⟨(some 145), none, .mov (.t 1)⟩,
 ⟨(some 20), none, .mov (.t 145)⟩] [20])
 (.ops [
 ⟨(some 146), none, .mov (.t 2)⟩,
 ⟨(some 21), none, .mov (.t 146)⟩] [21]))))
 (.seq
 (.ops [
 ⟨(some 147), none, .mov (.t 19)⟩,
 ⟨(some 148), none, .bin .sub .no (.t 147) (.c (.int .i64 1))⟩,
 ⟨(some 22), none, .mov (.t 148)⟩] [22])
 (.seq
 (.block 8
 (.loop
 (.seq
 (.seq
 (.ops [
 ⟨(some 149), none, .mov (.t 20)⟩,
 ⟨(some 150), none, .mov (.t 21)⟩,
 ⟨(some 151), none, .bin .lss .no (.t 149) (.t 150)⟩] [151])
 (.cond (.t 151)
 .skip
 (.exit 8)))
 (.block 9
 (.seq
 (.ops [
 ⟨(some 152), none, .mov (.t 20)⟩,
 ⟨(some 153), none, .mov (.t 21)⟩,
 ⟨(some 154), none, .bin .add .no (.t 152) (.t 153)⟩,
 ⟨(some 155), none, .conv .u64 (.t 154)⟩,
 ⟨(some 156), none, .bin .shr .no (.t 155) (.c (.int .u64 1))⟩,
 ⟨(some 157), none, .conv .i64 (.t 156)⟩,
 ⟨(some 23), none, .mov (.t 157)⟩] [23])
 (.seq
 (.draw [
 ⟨⟨(some 158), none, .mov (.t 4)⟩, false, false⟩,
 ⟨⟨(some 159), none, .mov (.t 0)⟩, false, false⟩,
 ⟨⟨(some 160), none, .mov (.t 22)⟩, false, false⟩,
 ⟨⟨(some 161), none, .mov (.t 23)⟩, false, false⟩,
 ⟨⟨(some 162), none, .bin .sub .no (.t 160) (.t 161)⟩, false, false⟩,
 ⟨⟨(some 163), none, .ixS 1 (.t 159) (.t 162)⟩, false, false⟩,
 ⟨⟨(some 164), none, .load none (.t 163)⟩, true, false⟩,
 ⟨⟨(some 165), none, .mov (.t 0)⟩, false, false⟩,
 ⟨⟨(some 166), none, .mov (.t 23)⟩, false, false⟩,
 ⟨⟨(some 167), none, .ixS 1 (.t 165) (.t 166)⟩, false, false⟩,
 ⟨⟨(some 168), none, .load none (.t 167)⟩, true, false⟩,
 ⟨⟨(some 169), none, .call (.t 158) [(.t 164), (.t 168)]⟩, false, true⟩,
 ⟨⟨(some 170), none, .bin .lss .no (.t 169) (.c (.int .i64 0))⟩, false, false⟩,
 ⟨⟨(some 171), none, .not (.t 170)⟩, false, false⟩] [0, 0, 0, 0, 12, 30, 62, 0, 0, 384, 896, 2047, 4095, 8191] [171])
 (.cond (.t 171)
 (.ops [
 ⟨(some 172), none, .mov (.t 23)⟩,
 ⟨(some 173), none, .bin .add .no (.t 172) (.c (.int .i64 1))⟩,
 ⟨(some 20), none, .mov (.t 173)⟩] [20])
 (.ops [
 ⟨(some 174), none, .mov (.t 23)⟩,
 ⟨(some 21), none, .mov (.t 174)⟩] [21]))))))))
 (.seq
 (.ops [
 ⟨(some 175), none, .mov (.t 19)⟩,
 ⟨(some 176), none, .mov (.t 20)⟩,
 ⟨(some 177), none, .bin .sub .no (.t 175) (.t 176)⟩,
 ⟨(some 24), none, .mov (.t 177)⟩] [24])
 (.seq
 (.seq
 (.ops [
 ⟨(some 178), none, .mov (.t 20)⟩,
 ⟨(some 179), none, .mov (.t 2)⟩,
 ⟨(some 180), none, .bin .lss .no (.t 178) (.t 179)⟩,
 ⟨(some 181), none, .mov (.t 180)⟩,
 ⟨(some 182), (some (181, true)), .mov (.t 2)⟩,
 ⟨(some 183), (some (181, true)), .mov (.t 24)⟩,
 ⟨(some 184), (some (181, true)), .bin .lss .no (.t 182) (.t 183)⟩,
 ⟨(some 185), none, .pick (.t 181) (.t 184) (.c (.bool false))⟩] [185])
 (.cond (.t 185)
 (.ops [
 ⟨(some 186), none, .mov (.t 0)⟩,
 ⟨(some 187), none, .mov (.t 20)⟩,
 ⟨(some 188), none, .mov (.t 2)⟩,
 ⟨(some 189), none, .mov (.t 24)⟩,
 ⟨(some 190), none, .mov (.t 4)⟩,
 ⟨(some 191), none, .call (.c (.fn (.func 50) [] [])) [(.t 186), (.t 187), (.t 188), (.t 189), (.t 190)]⟩] [])
 .skip))
 (.seq
 (.seq
 (.ops [
 ⟨(some 192), none, .mov (.t 1)⟩,
 ⟨(some 193), none, .mov (.t 20)⟩,
 ⟨(some 194), none, .bin .lss .no (.t 192) (.t 193)⟩,
 ⟨(some 195), none, .mov (.t 194)⟩,
 ⟨(some 196), (some (195, true)), .mov (.t 20)⟩,
 ⟨(some 197), (some (195, true)), .mov (.t 18)⟩,
 ⟨(some 198), (some (195, true)), .bin .lss .no (.t 196) (.t 197)⟩,
 ⟨(some 199), none, .pick (.t 195) (.t 198) (.c (.bool false))⟩] [199])
 (.cond (.t 199)
 (.ops [
 ⟨(some 200), none, .mov (.t 0)⟩,
 ⟨(some 201), none, .mov (.t 1)⟩,
 ⟨(some 202), none, .mov (.t 20)⟩,
 ⟨(some 203), none, .mov (.t 18)⟩,
 ⟨(some 204), none, .mov (.t 4)⟩,
 ⟨(some 205), none, .call (.c (.fn (.func 49) [] [])) [(.t 200), (.t 201), (.t 202), (.t 203), (.t 204)]⟩] [])
 .skip))
 (.seq
 (.ops [
 ⟨(some 206), none, .mov (.t 18)⟩,
 ⟨(some 207), none, .mov (.t 24)⟩,
 ⟨(some 208), none, .bin .lss .no (.t 206) (.t 207)⟩,
 ⟨(some 209), none, .mov (.t 208)⟩,
 ⟨(some 210), (some (209, true)), .mov (.t 24)⟩,
 ⟨(some 211), (some (209, true)), .mov (.t 3)⟩,
 ⟨(some 212), (some (209, true)), .bin .lss .no (.t 210) (.t 211)⟩,
 ⟨(some 213), none, .pick (.t 209) (.t 212) (.c (.bool false))⟩] [213])
 (.cond (.t 213)
 (.ops [
 ⟨(some 214), none, .mov (.t 0)⟩,
 ⟨(some 215), none, .mov (.t 18)⟩,
 ⟨(some 216), none, .mov (.t 24)⟩,
 ⟨(some 217), none, .mov (.t 3)⟩,
 ⟨(some 218), none, .mov (.t 4)⟩,
 ⟨(some 219), none, .call (.c (.fn (.func 49) [] [])) [(.t 214), (.t 215), (.t 216), (.t 217), (.t 218)]⟩] [])
 .skip))))))))))))),
 []⟩

/-- slices.rotateCmpFunc[int] -/
noncomputable def sf50 : SFun := ⟨[0, 1, 2, 3, 4, 10, 11, 20, 23], 58,
 (.seq
 (.ops [
 ⟨(some 12), none, .mov (.t 2)⟩,
 ⟨(some 13), none, .mov (.t 1)⟩,
 ⟨(some 14), none, .bin .sub .no (.t 12) (.t 13)⟩,
 ⟨(some 10), none, .mov (.t 14)⟩] [10])
 (.seq
 (.ops [
 ⟨(some 15), none, .mov (.t 3)⟩,
 ⟨(some 16), none, .mov (.t 2)⟩,
 ⟨(some 17), none, .bin .sub .no (.t 15) (.t 16)⟩,
 ⟨(some 11), none, .mov (.t 17)⟩] [11])
 (.seq
 (.block 0
 (.loop
 (.seq
 (.seq
 (.ops [
 ⟨(some 18), none, .mov (.t 10)⟩,
 ⟨(some 19), none, .mov (.t 11)⟩,
 ⟨(some 20), none, .bin .neq .no (.t 18) (.t 19)⟩] [20])
 (.cond (.t 20)
 .skip
 (.exit 0)))
 (.block 1
 (.seq
 (.ops [
 ⟨(some 21), none, .mov (.t 10)⟩,
 ⟨(some 22), none, .mov (.t 11)⟩,
 ⟨(some 23), none, .bin .gtr .no (.t 21) (.t 22)⟩] [23])
 (.cond (.t 23)
 (.seq
 (.ops [
 ⟨(some 24), none, .mov (.t 0)⟩,
 ⟨(some 25), none, .mov (.t 2)⟩,
 ⟨(some 26), none, .mov (.t 10)⟩,
 ⟨(some 27), none, .bin .sub .no (.t 25) (.t 26)⟩,
 ⟨(some 28), none, .mov (.t 2)⟩,
 ⟨(some 29), none, .mov (.t 11)⟩,
 ⟨(some 30), none, .mov (.t 4)⟩,
 ⟨(some 31), none, .call (.c (.fn (.func 51) [] [])) [(.t 24), (.t 27), (.t 28), (.t 29), (.t 30)]⟩] [])
 (.ops [
 ⟨(some 32), none, .mov (.t 10)⟩,
 ⟨(some 33), none, .mov (.t 11)⟩,
 ⟨(some 34), none, .bin .sub .no (.t 32) (.t 33)⟩,
 ⟨(some 10), none, .mov (.t 34)⟩] [10]))
 (.seq
 (.ops [
 ⟨(some 35), none, .mov (.t 0)⟩,
 ⟨(some 36), none, .mov (.t 2)⟩,
 ⟨(some 37), none, .mov (.t 10)⟩,
 ⟨(some 38), none, .bin .sub .no (.t 36) (.t 37)⟩,
 ⟨(some 39), none, .mov (.t 2)⟩,
 ⟨(some 40), none, .mov (.t 11)⟩,
 ⟨(some 41), none, .bin .add .no (.t 39) (.t 40)⟩,
 ⟨(some 42), none, .mov (.t 10)⟩,
 ⟨(some 43), none, .bin .sub .no (.t 41) (.t 42)⟩,
 ⟨(some 44), none, .mov (.t 10)⟩,
 ⟨(some 45), none, .mov (.t 4)⟩,
 ⟨(some 46), none, .call (.c (.fn (.func 51) [] [])) [(.t 35), (.t 38), (.t 43), (.t 44), (.t 45)]⟩] [])
 (.ops [
 ⟨(some 47), none, .mov (.t 11)⟩,
 ⟨(some 48), none, .mov (.t 10)⟩,
 ⟨(some 49), none, .bin .sub .no (.t 47) (.t 48)⟩,
 ⟨(some 11), none, .mov (.t 49)⟩] [11]))))))))
 (.ops [
 ⟨(some 50), none, .mov (.t 0)⟩,
 ⟨(some 51), none, .mov (.t 2)⟩,
 ⟨(some 52), none, .mov (.t 10)⟩,
 ⟨(some 53), none, .bin .sub .no (.t 51) (.t 52)⟩,
 ⟨(some 54), none, .mov (.t 2)⟩,
 ⟨(some 55), none, .mov (.t 10)⟩,
 ⟨(some 56), none, .mov (.t 4)⟩,
 ⟨(some 57), none, .call (.c (.fn (.func 51) [] [])) [(.t 50), (.t 53), (.t 54), (.t 55), (.t 56)]⟩] [])))),
 []⟩

/-- slices.swapRangeCmpFunc[int] -/
noncomputable def sf51 : SFun := ⟨[0, 1, 2, 3, 10, 13], 38,
 (.seq
 (.ops [
 ⟨(some 10), none, .mov (.c (.int .i64 0))⟩] [10])
 (.block 0
 (.loop
 (.seq
 (.seq
 (.ops [
 ⟨(some 11), none, .mov (.t 10)⟩,
 ⟨(some 12), none, .mov (.t 3)⟩,
 ⟨(some 13), none, .bin .lss .no (.t 11) (.t 12)⟩] [13])
 (.cond (.t 13)
 .skip
 (.exit 0)))
 (.seq
 (.block 1
 (.draw [
 ⟨⟨(some 16), none, .mov (.t 0)⟩, false, false⟩,
 ⟨⟨(some 17), none, .mov (.t 1)⟩, false, false⟩,
 ⟨⟨(some 18), none, .mov (.t 10)⟩, false, false⟩,
 ⟨⟨(some 19), none, .bin .add .no (.t 17) (.t 18)⟩, false, false⟩,
 ⟨⟨(some 20), none, .mov (.t 0)⟩, false, false⟩,
 ⟨⟨(some 21), none, .mov (.t 2)⟩, false, false⟩,
 ⟨⟨(some 22), none, .mov (.t 10)⟩, false, false⟩,
 ⟨⟨(some 23), none, .bin .add .no (.t 21) (.t 22)⟩, false, false⟩,
 ⟨⟨(some 24), none, .mov (.t 0)⟩, false, false⟩,
 ⟨⟨(some 25), none, .mov (.t 2)⟩, false, false⟩,
 ⟨⟨(some 26), none, .mov (.t 10)⟩, false, false⟩,
 ⟨⟨(some 27), none, .bin .add .no (.t 25) (.t 26)⟩, false, false⟩,
 ⟨⟨(some 28), none, .ixS 1 (.t 24) (.t 27)⟩, false, false⟩,
 ⟨⟨(some 29), none, .load none (.t 28)⟩, true, false⟩,
 ⟨⟨(some 30), none, .mov (.t 0)⟩, false, false⟩,
 ⟨⟨(some 31), none, .mov (.t 1)⟩, false, false⟩,
 ⟨⟨(some 32), none, .mov (.t 10)⟩, false, false⟩,
 ⟨⟨(some 33), none, .bin .add .no (.t 31) (.t 32)⟩, false, false⟩,
 ⟨⟨(some 34), none, .ixS 1 (.t 30) (.t 33)⟩, false, false⟩,
 ⟨⟨(some 35), none, .load none (.t 34)⟩, true, false⟩,
 ⟨⟨(some 36), none, .ixS 1 (.t 16) (.t 19)⟩, false, false⟩,
 ⟨⟨none, none, .store 1 (.t 36) (.t 29)⟩, false, true⟩,
 ⟨⟨(some 37), none, .ixS 1 (.t 20) (.t 23)⟩, false, false⟩,
 ⟨⟨none, none, .store 1 (.t 37) (.t 35)⟩, false, true⟩] [0, 0, 0, 6, 0, 0, 0, 96, 0, 0, 0, 1536, 3840, 7936, 0, 0, 0, 98304, 245760, 507904, 1048335, 2096911, 4194303, 8388607] []))
 (.ops [
 ⟨(some 14), none, .mov (.t 10)⟩,
 ⟨(some 15), none, .bin .add .no (.t 14) (.c (.int .i64 1))⟩,
 ⟨(some 10), none, .mov (.t 15)⟩] [10])))))),
 []⟩



end Go.Proofs.Ytgpdimkgfhgffaa

