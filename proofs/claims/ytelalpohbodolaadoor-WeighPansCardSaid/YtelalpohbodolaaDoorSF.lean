/- The program's functions, compiled. -/
import Derived.Test.YtelalpohbodolaaDoorRows
import Derived.Test.YtelalpohbodolaaDoorSA
import Derived.KernelRfl
set_option linter.unusedVariables false
set_option maxRecDepth 100000
namespace Go.Proofs.YtelalpohbodolaaDoor
open Go Go.Abs
/-- gosem.cut.init -/
noncomputable def sf2 : SFun := ⟨[], 1,
 (.ops [
 ⟨(some 0), none, .call (.c (.fn (.func 1) [] [])) []⟩] []),
 []⟩

/-- bellpull/bellpulllaw08.cut -/
noncomputable def sf13 : SFun := ⟨[0, 2], 10,
 (.seq
 (.ops [
 ⟨(some 2), none, .mov (.c .nilsl)⟩] [2])
 (.seq
 (.ops [
 ⟨(some 3), none, .buildS [(.int .i64 0)] 0 1 []⟩,
 ⟨(some 4), none, .mov (.t 0)⟩,
 ⟨(some 5), none, .mov (.t 0)⟩,
 ⟨(some 6), none, .lenS (.t 5)⟩,
 ⟨(some 7), none, .mn (.t 6) (.c (.int .i64 13))⟩,
 ⟨(some 8), none, .slice 1 (.t 4) none (some (.t 7))⟩,
 ⟨(some 9), none, .app true 1 (.t 3) (.t 8)⟩,
 ⟨(some 2), none, .mov (.t 9)⟩] [2])
 .ret)),
 [.tmp 2]⟩

/-- bellpull/weigh.Distinct -/
noncomputable def sf14 : SFun := ⟨[0, 2, 3, 4, 8], 12,
 (.seq
 (.ops [
 ⟨(some 2), none, .mov (.c (.bool false))⟩,
 ⟨(some 3), none, .mov (.c (.int .i64 0))⟩] [2, 3])
 (.seq
 (.seq
 (.ops [
 ⟨(some 5), none, .mov (.t 0)⟩,
 ⟨(some 6), none, .call (.c (.fn (.func 36) [] [])) [(.t 5)]⟩,
 ⟨(some 4), none, .mov (.t 6)⟩] [4])
 (.seq
 (.ops [
 ⟨(some 7), none, .mov (.t 4)⟩,
 ⟨(some 8), none, .bin .neq .no (.t 7) (.c (.int .i64 0))⟩] [8])
 (.cond (.t 8)
 (.seq
 (.ops [
 ⟨(some 9), none, .mov (.t 4)⟩,
 ⟨(some 2), none, .mov (.c (.bool false))⟩,
 ⟨(some 3), none, .mov (.t 9)⟩] [2, 3])
 .ret)
 .skip)))
 (.seq
 (.ops [
 ⟨(some 10), none, .mov (.t 0)⟩,
 ⟨(some 11), none, .call (.c (.fn (.func 37) [] [])) [(.t 10)]⟩,
 ⟨(some 2), none, .mov (.t 11)⟩,
 ⟨(some 3), none, .mov (.c (.int .i64 0))⟩] [2, 3])
 .ret))),
 [.tmp 2, .tmp 3]⟩

/-- bellpull/weigh.Clash -/
noncomputable def sf15 : SFun := ⟨[0, 2, 3, 4, 5, 6, 7, 11, 20], 27,
 (.seq
 (.ops [
 ⟨(some 2), none, .mov (.c .nilsl)⟩,
 ⟨(some 3), none, .mov (.c .nilsl)⟩,
 ⟨(some 4), none, .mov (.c (.int .i64 0))⟩] [2, 3, 4])
 (.seq
 (.seq
 (.ops [
 ⟨(some 8), none, .mov (.t 0)⟩,
 ⟨(some 9), none, .call (.c (.fn (.func 36) [] [])) [(.t 8)]⟩,
 ⟨(some 5), none, .mov (.t 9)⟩] [5])
 (.seq
 (.ops [
 ⟨(some 10), none, .mov (.t 5)⟩,
 ⟨(some 11), none, .bin .neq .no (.t 10) (.c (.int .i64 0))⟩] [11])
 (.cond (.t 11)
 (.seq
 (.ops [
 ⟨(some 12), none, .mov (.t 5)⟩,
 ⟨(some 2), none, .mov (.c .nilsl)⟩,
 ⟨(some 3), none, .mov (.c .nilsl)⟩,
 ⟨(some 4), none, .mov (.t 12)⟩] [2, 3, 4])
 .ret)
 .skip)))
 (.seq
 (.ops [
 ⟨(some 14), none, .mov (.t 0)⟩,
 ⟨(some 15), none, .call (.c (.fn (.func 39) [] [])) [(.t 14)]⟩,
 ⟨(some 16), none, .call (.c (.fn (.func 38) [] [])) [(.t 15), (.c (.fn (.func 40) [] []))]⟩,
 ⟨(some 13), none, .mov (.t 16)⟩,
 ⟨(some 17), none, .ext (.t 13) 0⟩,
 ⟨(some 18), none, .ext (.t 13) 1⟩,
 ⟨(some 6), none, .new [(.int .u64 0), (.int .u64 0)]⟩,
 ⟨none, none, .store 2 (.t 6) (.t 17)⟩,
 ⟨(some 7), none, .mov (.t 18)⟩] [6, 7])
 (.seq
 (.seq
 (.ops [
 ⟨(some 19), none, .mov (.t 7)⟩,
 ⟨(some 20), none, .not (.t 19)⟩] [20])
 (.cond (.t 20)
 (.seq
 (.ops [
 ⟨(some 2), none, .mov (.c .nilsl)⟩,
 ⟨(some 3), none, .mov (.c .nilsl)⟩,
 ⟨(some 4), none, .mov (.c (.int .i64 5))⟩] [2, 3, 4])
 .ret)
 .skip))
 (.seq
 (.draw [
 ⟨⟨(some 21), none, .fa 0 (.t 6)⟩, false, false⟩,
 ⟨⟨(some 22), none, .load none (.t 21)⟩, true, false⟩,
 ⟨⟨(some 23), none, .call (.c (.fn (.func 41) [] [])) [(.t 22)]⟩, false, true⟩,
 ⟨⟨(some 24), none, .fa 1 (.t 6)⟩, false, false⟩,
 ⟨⟨(some 25), none, .load none (.t 24)⟩, true, false⟩,
 ⟨⟨(some 26), none, .call (.c (.fn (.func 41) [] [])) [(.t 25)]⟩, false, true⟩,
 ⟨⟨(some 2), none, .mov (.t 23)⟩, false, false⟩,
 ⟨⟨(some 3), none, .mov (.t 26)⟩, false, false⟩,
 ⟨⟨(some 4), none, .mov (.c (.int .i64 0))⟩, false, false⟩] [0, 1, 3, 0, 8, 31, 63, 127, 255] [2, 3, 4])
 .ret))))),
 [.tmp 2, .tmp 3, .tmp 4]⟩

/-- bellpull/bellpullref08.Weights -/
noncomputable def sf16 : SFun := ⟨[0, 2, 3, 6, 10, 34, 37], 38,
 (.seq
 (.ops [
 ⟨(some 2), none, .mov (.c (.int .i64 0))⟩] [2])
 (.seq
 (.seq
 (.ops [
 ⟨(some 4), none, .mov (.t 0)⟩,
 ⟨(some 5), none, .lenS (.t 4)⟩,
 ⟨(some 6), none, .bin .gtr .no (.t 5) (.c (.int .i64 12))⟩] [6])
 (.cond (.t 6)
 (.seq
 (.ops [
 ⟨(some 2), none, .mov (.c (.int .i64 3))⟩] [2])
 .ret)
 .skip))
 (.seq
 (.seq
 (.ops [
 ⟨(some 3), none, .mov (.c (.int .i64 0))⟩] [3])
 (.block 0
 (.loop
 (.seq
 (.seq
 (.ops [
 ⟨(some 7), none, .mov (.t 3)⟩,
 ⟨(some 8), none, .mov (.t 0)⟩,
 ⟨(some 9), none, .lenS (.t 8)⟩,
 ⟨(some 10), none, .bin .lss .no (.t 7) (.t 9)⟩] [10])
 (.cond (.t 10)
 .skip
 (.exit 0)))
 (.seq
 (.block 1
 (.seq
 (.draw [
 ⟨⟨(some 13), none, .mov (.t 0)⟩, false, false⟩,
 ⟨⟨(some 14), none, .mov (.t 3)⟩, false, false⟩,
 ⟨⟨(some 15), none, .ixS 1 (.t 13) (.t 14)⟩, false, false⟩,
 ⟨⟨(some 16), none, .load none (.t 15)⟩, true, false⟩,
 ⟨⟨(some 17), none, .call (.c (.fn (.func 27) [] [])) [(.t 16), (.c (.int .i64 1)), (.c (.int .i64 100000))]⟩, false, true⟩,
 ⟨⟨(some 18), none, .not (.t 17)⟩, false, false⟩,
 ⟨⟨(some 19), none, .mov (.t 18)⟩, false, false⟩,
 ⟨⟨(some 20), (some (19, false)), .mov (.t 3)⟩, false, false⟩,
 ⟨⟨(some 21), (some (19, false)), .bin .gtr .no (.t 20) (.c (.int .i64 0))⟩, false, false⟩,
 ⟨⟨(some 22), (some (19, false)), .mov (.t 21)⟩, false, false⟩,
 ⟨⟨(some 23), (some (22, true)), .mov (.t 0)⟩, false, false⟩,
 ⟨⟨(some 24), (some (22, true)), .mov (.t 3)⟩, false, false⟩,
 ⟨⟨(some 25), (some (22, true)), .ixS 1 (.t 23) (.t 24)⟩, false, false⟩,
 ⟨⟨(some 26), (some (22, true)), .load none (.t 25)⟩, true, false⟩,
 ⟨⟨(some 27), (some (22, true)), .mov (.t 0)⟩, false, false⟩,
 ⟨⟨(some 28), (some (22, true)), .mov (.t 3)⟩, false, false⟩,
 ⟨⟨(some 29), (some (22, true)), .bin .sub .no (.t 28) (.c (.int .i64 1))⟩, false, false⟩,
 ⟨⟨(some 30), (some (22, true)), .ixS 1 (.t 27) (.t 29)⟩, false, false⟩,
 ⟨⟨(some 31), (some (22, true)), .load none (.t 30)⟩, true, false⟩,
 ⟨⟨(some 32), (some (22, true)), .bin .leq .no (.t 26) (.t 31)⟩, false, false⟩,
 ⟨⟨(some 33), (some (19, false)), .pick (.t 22) (.t 32) (.c (.bool false))⟩, false, false⟩,
 ⟨⟨(some 34), none, .pick (.t 19) (.c (.bool true)) (.t 33)⟩, false, false⟩] [0, 0, 3, 7, 15, 31, 63, 127, 255, 511, 1023, 1023, 4095, 8191, 1023, 1023, 33791, 115711, 246783, 524287, 1048575, 2097151] [34])
 (.cond (.t 34)
 (.seq
 (.ops [
 ⟨(some 2), none, .mov (.c (.int .i64 2))⟩] [2])
 .ret)
 .skip)))
 (.ops [
 ⟨(some 11), none, .mov (.t 3)⟩,
 ⟨(some 12), none, .bin .add .no (.t 11) (.c (.int .i64 1))⟩,
 ⟨(some 3), none, .mov (.t 12)⟩] [3]))))))
 (.seq
 (.seq
 (.ops [
 ⟨(some 35), none, .mov (.t 0)⟩,
 ⟨(some 36), none, .lenS (.t 35)⟩,
 ⟨(some 37), none, .bin .eql .no (.t 36) (.c (.int .i64 0))⟩] [37])
 (.cond (.t 37)
 (.seq
 (.ops [
 ⟨(some 2), none, .mov (.c (.int .i64 2))⟩] [2])
 .ret)
 .skip))
 (.seq
 (.ops [
 ⟨(some 2), none, .mov (.c (.int .i64 0))⟩] [2])
 .ret))))),
 [.tmp 2]⟩

/-- bellpull/bellpulllaw08.lives -/
noncomputable def sf17 : SFun := ⟨[0, 1, 2, 3, 4, 5, 6, 7, 8, 9, 10, 11, 12, 13, 14, 15, 16, 17], 127,
 (.seq
 (.ops [
 ⟨(some 0), none, .mov (.c (.bool false))⟩] [0])
 (.seq
 (.ops [
 ⟨(some 19), none, .buildS [(.int .i64 0)] 4 1 [(0, (.c (.int .i64 3))), (1, (.c (.int .i64 5))), (2, (.c (.int .i64 6))), (3, (.c (.int .i64 7)))]⟩,
 ⟨(some 20), none, .call (.c (.fn (.func 14) [] [])) [(.t 19)]⟩,
 ⟨(some 18), none, .mov (.t 20)⟩,
 ⟨(some 21), none, .ext (.t 18) 0⟩,
 ⟨(some 22), none, .ext (.t 18) 1⟩,
 ⟨(some 1), none, .mov (.t 21)⟩,
 ⟨(some 2), none, .mov (.t 22)⟩] [1, 2])
 (.seq
 (.ops [
 ⟨(some 24), none, .call (.c (.fn (.func 26) [] [])) [(.c (.int .i64 4))]⟩,
 ⟨(some 23), none, .mov (.t 24)⟩,
 ⟨(some 25), none, .ext (.t 23) 0⟩,
 ⟨(some 26), none, .ext (.t 23) 1⟩,
 ⟨(some 3), none, .mov (.t 25)⟩,
 ⟨(some 4), none, .mov (.t 26)⟩] [3, 4])
 (.seq
 (.ops [
 ⟨(some 28), none, .call (.c (.fn (.func 25) [] [])) [(.c (.int .i64 6))]⟩,
 ⟨(some 27), none, .mov (.t 28)⟩,
 ⟨(some 29), none, .ext (.t 27) 0⟩,
 ⟨(some 30), none, .ext (.t 27) 1⟩,
 ⟨(some 5), none, .mov (.t 29)⟩,
 ⟨(some 6), none, .mov (.t 30)⟩] [5, 6])
 (.seq
 (.ops [
 ⟨(some 32), none, .buildS [(.int .i64 0)] 3 1 [(0, (.c (.int .i64 1))), (1, (.c (.int .i64 2))), (2, (.c (.int .i64 3)))]⟩,
 ⟨(some 33), none, .call (.c (.fn (.func 15) [] [])) [(.t 32)]⟩,
 ⟨(some 31), none, .mov (.t 33)⟩,
 ⟨(some 34), none, .ext (.t 31) 0⟩,
 ⟨(some 35), none, .ext (.t 31) 1⟩,
 ⟨(some 36), none, .ext (.t 31) 2⟩,
 ⟨(some 7), none, .mov (.t 34)⟩,
 ⟨(some 8), none, .mov (.t 35)⟩,
 ⟨(some 9), none, .mov (.t 36)⟩] [7, 8, 9])
 (.seq
 (.ops [
 ⟨(some 38), none, .buildS [(.int .i64 0)] 3 1 [(0, (.c (.int .i64 1))), (1, (.c (.int .i64 2))), (2, (.c (.int .i64 3)))]⟩,
 ⟨(some 39), none, .call (.c (.fn (.func 21) [] [])) [(.t 38), (.c (.int .i64 3))]⟩,
 ⟨(some 37), none, .mov (.t 39)⟩,
 ⟨(some 40), none, .ext (.t 37) 0⟩,
 ⟨(some 41), none, .ext (.t 37) 1⟩,
 ⟨(some 10), none, .mov (.t 40)⟩,
 ⟨(some 11), none, .mov (.t 41)⟩] [10, 11])
 (.seq
 (.ops [
 ⟨(some 43), none, .buildS [(.int .i64 0)] 3 1 [(0, (.c (.int .i64 1))), (1, (.c (.int .i64 2))), (2, (.c (.int .i64 3)))]⟩,
 ⟨(some 44), none, .call (.c (.fn (.func 20) [] [])) [(.t 43), (.c (.int .i64 3))]⟩,
 ⟨(some 42), none, .mov (.t 44)⟩,
 ⟨(some 45), none, .ext (.t 42) 0⟩,
 ⟨(some 46), none, .ext (.t 42) 1⟩,
 ⟨(some 12), none, .mov (.t 45)⟩,
 ⟨(some 13), none, .mov (.t 46)⟩] [12, 13])
 (.seq
 (.ops [
 ⟨(some 48), none, .buildS [(.int .i64 0)] 3 1 [(0, (.c (.int .i64 1))), (1, (.c (.int .i64 3))), (2, (.c (.int .i64 9)))]⟩,
 ⟨(some 49), none, .call (.c (.fn (.func 23) [] [])) [(.t 48), (.c (.int .i64 5))]⟩,
 ⟨(some 47), none, .mov (.t 49)⟩,
 ⟨(some 50), none, .ext (.t 47) 0⟩,
 ⟨(some 51), none, .ext (.t 47) 1⟩,
 ⟨(some 14), none, .mov (.t 50)⟩,
 ⟨(some 15), none, .mov (.t 51)⟩] [14, 15])
 (.seq
 (.ops [
 ⟨(some 53), none, .buildS [(.int .i64 0)] 3 1 [(0, (.c (.int .i64 1))), (1, (.c (.int .i64 2))), (2, (.c (.int .i64 4)))]⟩,
 ⟨(some 54), none, .call (.c (.fn (.func 42) [] [])) [(.t 53)]⟩,
 ⟨(some 52), none, .mov (.t 54)⟩,
 ⟨(some 55), none, .ext (.t 52) 0⟩,
 ⟨(some 56), none, .ext (.t 52) 1⟩,
 ⟨(some 16), none, .mov (.t 55)⟩,
 ⟨(some 17), none, .mov (.t 56)⟩] [16, 17])
 (.seq
 (.ops [
 ⟨(some 57), none, .mov (.t 1)⟩,
 ⟨(some 58), none, .mov (.t 57)⟩,
 ⟨(some 59), (some (58, true)), .mov (.t 2)⟩,
 ⟨(some 60), (some (58, true)), .bin .eql .no (.t 59) (.c (.int .i64 0))⟩,
 ⟨(some 61), none, .pick (.t 58) (.t 60) (.c (.bool false))⟩,
 ⟨(some 62), none, .mov (.t 61)⟩,
 ⟨(some 63), (some (62, true)), .mov (.t 3)⟩,
 ⟨(some 64), (some (62, true)), .buildS [(.int .i64 0)] 4 1 [(0, (.c (.int .i64 3))), (1, (.c (.int .i64 5))), (2, (.c (.int .i64 6))), (3, (.c (.int .i64 7)))]⟩,
 ⟨(some 65), (some (62, true)), .call (.c (.fn (.func 19) [] [])) [(.t 63), (.t 64)]⟩,
 ⟨(some 66), none, .pick (.t 62) (.t 65) (.c (.bool false))⟩,
 ⟨(some 67), none, .mov (.t 66)⟩,
 ⟨(some 68), (some (67, true)), .mov (.t 4)⟩,
 ⟨(some 69), (some (67, true)), .bin .eql .no (.t 68) (.c (.int .i64 0))⟩,
 ⟨(some 70), none, .pick (.t 67) (.t 69) (.c (.bool false))⟩,
 ⟨(some 71), none, .mov (.t 70)⟩,
 ⟨(some 72), (some (71, true)), .mov (.t 5)⟩,
 ⟨(some 73), (some (71, true)), .bin .eql .no (.t 72) (.c (.int .i64 24))⟩,
 ⟨(some 74), none, .pick (.t 71) (.t 73) (.c (.bool false))⟩,
 ⟨(some 75), none, .mov (.t 74)⟩,
 ⟨(some 76), (some (75, true)), .mov (.t 6)⟩,
 ⟨(some 77), (some (75, true)), .bin .eql .no (.t 76) (.c (.int .i64 0))⟩,
 ⟨(some 78), none, .pick (.t 75) (.t 77) (.c (.bool false))⟩,
 ⟨(some 79), none, .mov (.t 78)⟩,
 ⟨(some 80), (some (79, true)), .mov (.t 7)⟩,
 ⟨(some 81), (some (79, true)), .buildS [(.int .i64 0)] 2 1 [(0, (.c (.int .i64 0))), (1, (.c (.int .i64 1)))]⟩,
 ⟨(some 82), (some (79, true)), .call (.c (.fn (.func 19) [] [])) [(.t 80), (.t 81)]⟩,
 ⟨(some 83), none, .pick (.t 79) (.t 82) (.c (.bool false))⟩,
 ⟨(some 84), none, .mov (.t 83)⟩,
 ⟨(some 85), (some (84, true)), .mov (.t 8)⟩,
 ⟨(some 86), (some (84, true)), .buildS [(.int .i64 0)] 1 1 [(0, (.c (.int .i64 2)))]⟩,
 ⟨(some 87), (some (84, true)), .call (.c (.fn (.func 19) [] [])) [(.t 85), (.t 86)]⟩,
 ⟨(some 88), none, .pick (.t 84) (.t 87) (.c (.bool false))⟩,
 ⟨(some 89), none, .mov (.t 88)⟩,
 ⟨(some 90), (some (89, true)), .mov (.t 9)⟩,
 ⟨(some 91), (some (89, true)), .bin .eql .no (.t 90) (.c (.int .i64 0))⟩,
 ⟨(some 92), none, .pick (.t 89) (.t 91) (.c (.bool false))⟩,
 ⟨(some 93), none, .mov (.t 92)⟩,
 ⟨(some 94), (some (93, true)), .mov (.t 10)⟩,
 ⟨(some 95), (some (93, true)), .bin .eql .no (.t 94) (.c (.int .i64 2))⟩,
 ⟨(some 96), none, .pick (.t 93) (.t 95) (.c (.bool false))⟩,
 ⟨(some 97), none, .mov (.t 96)⟩,
 ⟨(some 98), (some (97, true)), .mov (.t 11)⟩,
 ⟨(some 99), (some (97, true)), .bin .eql .no (.t 98) (.c (.int .i64 0))⟩,
 ⟨(some 100), none, .pick (.t 97) (.t 99) (.c (.bool false))⟩,
 ⟨(some 101), none, .mov (.t 100)⟩,
 ⟨(some 102), (some (101, true)), .mov (.t 12)⟩,
 ⟨(some 103), (some (101, true)), .buildS [(.int .i64 0)] 2 1 [(0, (.c (.int .i64 0))), (1, (.c (.int .i64 1)))]⟩,
 ⟨(some 104), (some (101, true)), .call (.c (.fn (.func 19) [] [])) [(.t 102), (.t 103)]⟩,
 ⟨(some 105), none, .pick (.t 101) (.t 104) (.c (.bool false))⟩,
 ⟨(some 106), none, .mov (.t 105)⟩,
 ⟨(some 107), (some (106, true)), .mov (.t 13)⟩,
 ⟨(some 108), (some (106, true)), .bin .eql .no (.t 107) (.c (.int .i64 0))⟩,
 ⟨(some 109), none, .pick (.t 106) (.t 108) (.c (.bool false))⟩,
 ⟨(some 110), none, .mov (.t 109)⟩,
 ⟨(some 111), (some (110, true)), .mov (.t 14)⟩,
 ⟨(some 112), (some (110, true)), .buildS [(.int .i64 0)] 3 1 [(0, (.c (.int .i64 (-1)))), (1, (.c (.int .i64 (-1)))), (2, (.c (.int .i64 1)))]⟩,
 ⟨(some 113), (some (110, true)), .call (.c (.fn (.func 19) [] [])) [(.t 111), (.t 112)]⟩,
 ⟨(some 114), none, .pick (.t 110) (.t 113) (.c (.bool false))⟩,
 ⟨(some 115), none, .mov (.t 114)⟩,
 ⟨(some 116), (some (115, true)), .mov (.t 15)⟩,
 ⟨(some 117), (some (115, true)), .bin .eql .no (.t 116) (.c (.int .i64 0))⟩,
 ⟨(some 118), none, .pick (.t 115) (.t 117) (.c (.bool false))⟩,
 ⟨(some 119), none, .mov (.t 118)⟩,
 ⟨(some 120), (some (119, true)), .mov (.t 16)⟩,
 ⟨(some 121), (some (119, true)), .bin .eql .str (.t 120) (.c (.str [55, 47, 52]))⟩,
 ⟨(some 122), none, .pick (.t 119) (.t 121) (.c (.bool false))⟩,
 ⟨(some 123), none, .mov (.t 122)⟩,
 ⟨(some 124), (some (123, true)), .mov (.t 17)⟩,
 ⟨(some 125), (some (123, true)), .bin .eql .no (.t 124) (.c (.int .i64 0))⟩,
 ⟨(some 126), none, .pick (.t 123) (.t 125) (.c (.bool false))⟩,
 ⟨(some 0), none, .mov (.t 126)⟩] [0])
 .ret)))))))))),
 [.tmp 0]⟩

/-- bellpull/bellpullref08.Clash -/
noncomputable def sf18 : SFun := ⟨[0, 2, 3, 4, 5, 6, 7, 8, 9, 10, 11, 12, 13, 14, 15, 22, 45, 57, 66, 95], 102,
 (.seq
 (.ops [
 ⟨(some 2), none, .mov (.c .nilsl)⟩,
 ⟨(some 3), none, .mov (.c .nilsl)⟩,
 ⟨(some 4), none, .mov (.c (.bool false))⟩] [2, 3, 4])
 (.seq
 (.ops [
 ⟨(some 16), none, .mov (.t 0)⟩,
 ⟨(some 17), none, .call (.c (.fn (.func 43) [] [])) [(.t 16)]⟩,
 ⟨(some 5), none, .mov (.t 17)⟩] [5])
 (.seq
 (.ops [
 ⟨(some 18), none, .mkm none⟩,
 ⟨(some 6), none, .mov (.t 18)⟩] [6])
 (.seq
 (.seq
 (.ops [
 ⟨(some 7), none, .mov (.c (.int .i64 1))⟩] [7])
 (.block 0
 (.loop
 (.seq
 (.seq
 (.ops [
 ⟨(some 19), none, .mov (.t 7)⟩,
 ⟨(some 20), none, .mov (.t 5)⟩,
 ⟨(some 21), none, .lenS (.t 20)⟩,
 ⟨(some 22), none, .bin .lss .no (.t 19) (.t 21)⟩] [22])
 (.cond (.t 22)
 .skip
 (.exit 0)))
 (.seq
 (.block 1
 (.seq
 (.ops [
 ⟨(some 25), none, .mov (.t 6)⟩,
 ⟨(some 26), none, .mov (.t 5)⟩,
 ⟨(some 27), none, .mov (.t 7)⟩,
 ⟨(some 28), none, .ixS 1 (.t 26) (.t 27)⟩,
 ⟨(some 29), none, .load none (.t 28)⟩,
 ⟨(some 30), none, .lkp (.int .i64) .nilsl false (.t 25) (.t 29)⟩,
 ⟨(some 8), none, .mov (.t 30)⟩] [8])
 (.draw [
 ⟨⟨(some 31), none, .mov (.t 6)⟩, false, false⟩,
 ⟨⟨(some 32), none, .mov (.t 5)⟩, false, false⟩,
 ⟨⟨(some 33), none, .mov (.t 7)⟩, false, false⟩,
 ⟨⟨(some 34), none, .ixS 1 (.t 32) (.t 33)⟩, false, false⟩,
 ⟨⟨(some 35), none, .load none (.t 34)⟩, true, false⟩,
 ⟨⟨(some 36), none, .buildS [(.int .i64 0)] 0 1 []⟩, false, true⟩,
 ⟨⟨(some 37), none, .mov (.t 8)⟩, false, false⟩,
 ⟨⟨(some 38), none, .app true 1 (.t 36) (.t 37)⟩, false, true⟩,
 ⟨⟨(some 39), none, .mov (.t 7)⟩, false, false⟩,
 ⟨⟨(some 40), none, .buildS [(.int .i64 0)] 1 1 [(0, (.t 39))]⟩, false, true⟩,
 ⟨⟨(some 41), none, .app true 1 (.t 38) (.t 40)⟩, false, true⟩,
 ⟨⟨none, none, .mup (.int .i64) (.t 31) (.t 35) (.t 41)⟩, false, true⟩] [0, 0, 0, 6, 14, 0, 0, 96, 0, 256, 992, 2047] [])))
 (.ops [
 ⟨(some 23), none, .mov (.t 7)⟩,
 ⟨(some 24), none, .bin .add .no (.t 23) (.c (.int .i64 1))⟩,
 ⟨(some 7), none, .mov (.t 24)⟩] [7]))))))
 (.seq
 (.ops [
 ⟨(some 9), none, .mov (.c .nilsl)⟩,
 ⟨(some 10), none, .mov (.c .nilsl)⟩] [9, 10])
 (.seq
 (.seq
 (.ops [
 ⟨(some 11), none, .mov (.c (.int .i64 1))⟩] [11])
 (.block 2
 (.loop
 (.seq
 (.seq
 (.ops [
 ⟨(some 42), none, .mov (.t 11)⟩,
 ⟨(some 43), none, .mov (.t 5)⟩,
 ⟨(some 44), none, .lenS (.t 43)⟩,
 ⟨(some 45), none, .bin .lss .no (.t 42) (.t 44)⟩] [45])
 (.cond (.t 45)
 .skip
 (.exit 2)))
 (.seq
 (.block 3
 (.seq
 (.ops [
 ⟨(some 48), none, .mov (.t 6)⟩,
 ⟨(some 49), none, .mov (.t 5)⟩,
 ⟨(some 50), none, .mov (.t 11)⟩,
 ⟨(some 51), none, .ixS 1 (.t 49) (.t 50)⟩,
 ⟨(some 52), none, .load none (.t 51)⟩,
 ⟨(some 53), none, .lkp (.int .i64) .nilsl false (.t 48) (.t 52)⟩,
 ⟨(some 12), none, .mov (.t 53)⟩] [12])
 (.seq
 (.ops [
 ⟨(some 13), none, .mov (.c (.int .i64 0))⟩] [13])
 (.block 4
 (.loop
 (.seq
 (.seq
 (.ops [
 ⟨(some 54), none, .mov (.t 13)⟩,
 ⟨(some 55), none, .mov (.t 12)⟩,
 ⟨(some 56), none, .lenS (.t 55)⟩,
 ⟨(some 57), none, .bin .lss .no (.t 54) (.t 56)⟩] [57])
 (.cond (.t 57)
 .skip
 (.exit 4)))
 (.seq
 (.block 5
 (.seq
 (.seq
 (.ops [
 ⟨(some 60), none, .mov (.t 12)⟩,
 ⟨(some 61), none, .mov (.t 13)⟩,
 ⟨(some 62), none, .ixS 1 (.t 60) (.t 61)⟩,
 ⟨(some 63), none, .load none (.t 62)⟩,
 ⟨(some 64), none, .mov (.t 11)⟩,
 ⟨(some 65), none, .bin .and .no (.t 63) (.t 64)⟩,
 ⟨(some 66), none, .bin .neq .no (.t 65) (.c (.int .i64 0))⟩] [66])
 (.cond (.t 66)
 (.exit 5)
 .skip))
 (.seq
 (.draw [
 ⟨⟨(some 67), none, .mov (.t 11)⟩, false, false⟩,
 ⟨⟨(some 68), none, .call (.c (.fn (.func 44) [] [])) [(.t 67)]⟩, false, true⟩,
 ⟨⟨(some 69), none, .mov (.t 12)⟩, false, false⟩,
 ⟨⟨(some 70), none, .mov (.t 13)⟩, false, false⟩,
 ⟨⟨(some 71), none, .ixS 1 (.t 69) (.t 70)⟩, false, false⟩,
 ⟨⟨(some 72), none, .load none (.t 71)⟩, true, false⟩,
 ⟨⟨(some 73), none, .call (.c (.fn (.func 44) [] [])) [(.t 72)]⟩, false, true⟩,
 ⟨⟨(some 14), none, .mov (.t 68)⟩, false, false⟩,
 ⟨⟨(some 15), none, .mov (.t 73)⟩, false, false⟩] [0, 1, 0, 0, 12, 28, 63, 127, 255] [14, 15])
 (.seq
 (.ops [
 ⟨(some 74), none, .mov (.t 14)⟩,
 ⟨(some 75), none, .mov (.t 15)⟩,
 ⟨(some 76), none, .call (.c (.fn (.func 33) [] [])) [(.t 74), (.t 75)]⟩,
 ⟨(some 77), none, .mov (.t 76)⟩,
 ⟨(some 78), (some (77, true)), .mov (.t 9)⟩,
 ⟨(some 79), (some (77, true)), .bin .eql .slice (.t 78) (.c .nilsl)⟩,
 ⟨(some 80), (some (77, true)), .mov (.t 79)⟩,
 ⟨(some 81), (some (80, false)), .mov (.t 14)⟩,
 ⟨(some 82), (some (80, false)), .mov (.t 9)⟩,
 ⟨(some 83), (some (80, false)), .call (.c (.fn (.func 33) [] [])) [(.t 81), (.t 82)]⟩,
 ⟨(some 84), (some (77, true)), .pick (.t 80) (.c (.bool true)) (.t 83)⟩,
 ⟨(some 85), (some (77, true)), .mov (.t 84)⟩,
 ⟨(some 86), (some (85, false)), .mov (.t 14)⟩,
 ⟨(some 87), (some (85, false)), .mov (.t 9)⟩,
 ⟨(some 88), (some (85, false)), .call (.c (.fn (.func 19) [] [])) [(.t 86), (.t 87)]⟩,
 ⟨(some 89), (some (85, false)), .mov (.t 88)⟩,
 ⟨(some 90), (some (89, true)), .mov (.t 15)⟩,
 ⟨(some 91), (some (89, true)), .mov (.t 10)⟩,
 ⟨(some 92), (some (89, true)), .call (.c (.fn (.func 33) [] [])) [(.t 90), (.t 91)]⟩,
 ⟨(some 93), (some (85, false)), .pick (.t 89) (.t 92) (.c (.bool false))⟩,
 ⟨(some 94), (some (77, true)), .pick (.t 85) (.c (.bool true)) (.t 93)⟩,
 ⟨(some 95), none, .pick (.t 77) (.t 94) (.c (.bool false))⟩] [95])
 (.cond (.t 95)
 (.ops [
 ⟨(some 96), none, .mov (.t 14)⟩,
 ⟨(some 97), none, .mov (.t 15)⟩,
 ⟨(some 9), none, .mov (.t 96)⟩,
 ⟨(some 10), none, .mov (.t 97)⟩] [9, 10])
 .skip)))))
 (.ops [
 ⟨(some 58), none, .mov (.t 13)⟩,
 ⟨(some 59), none, .bin .add .no (.t 58) (.c (.int .i64 1))⟩,
 ⟨(some 13), none, .mov (.t 59)⟩] [13]))))))))
 (.ops [
 ⟨(some 46), none, .mov (.t 11)⟩,
 ⟨(some 47), none, .bin .add .no (.t 46) (.c (.int .i64 1))⟩,
 ⟨(some 11), none, .mov (.t 47)⟩] [11]))))))
 (.seq
 (.ops [
 ⟨(some 98), none, .mov (.t 9)⟩,
 ⟨(some 99), none, .mov (.t 10)⟩,
 ⟨(some 100), none, .mov (.t 9)⟩,
 ⟨(some 101), none, .bin .neq .slice (.t 100) (.c .nilsl)⟩,
 ⟨(some 2), none, .mov (.t 98)⟩,
 ⟨(some 3), none, .mov (.t 99)⟩,
 ⟨(some 4), none, .mov (.t 101)⟩] [2, 3, 4])
 .ret))))))),
 [.tmp 2, .tmp 3, .tmp 4]⟩

/-- bellpull/bellpullref01.Same -/
noncomputable def sf19 : SFun := ⟨[0, 1, 4], 15,
 (.seq
 (.ops [
 ⟨(some 4), none, .mov (.c (.bool false))⟩] [4])
 (.seq
 (.ops [
 ⟨(some 5), none, .mov (.t 0)⟩,
 ⟨(some 6), none, .mov (.t 1)⟩,
 ⟨(some 7), none, .call (.c (.fn (.func 33) [] [])) [(.t 5), (.t 6)]⟩,
 ⟨(some 8), none, .not (.t 7)⟩,
 ⟨(some 9), none, .mov (.t 8)⟩,
 ⟨(some 10), (some (9, true)), .mov (.t 1)⟩,
 ⟨(some 11), (some (9, true)), .mov (.t 0)⟩,
 ⟨(some 12), (some (9, true)), .call (.c (.fn (.func 33) [] [])) [(.t 10), (.t 11)]⟩,
 ⟨(some 13), (some (9, true)), .not (.t 12)⟩,
 ⟨(some 14), none, .pick (.t 9) (.t 13) (.c (.bool false))⟩,
 ⟨(some 4), none, .mov (.t 14)⟩] [4])
 .ret)),
 [.tmp 4]⟩

/-- bellpull/weigh.Subset -/
noncomputable def sf20 : SFun := ⟨[0, 1, 2, 3, 4, 5, 6, 7, 8, 13, 24], 27,
 (.seq
 (.ops [
 ⟨(some 2), none, .box (.t 0)⟩,
 ⟨(some 3), none, .box (.t 1)⟩,
 ⟨(some 4), none, .mov (.c .nilsl)⟩,
 ⟨(some 5), none, .mov (.c (.int .i64 0))⟩] [2, 3, 4, 5])
 (.seq
 (.seq
 (.ops [
 ⟨(some 9), none, .load none (.t 2)⟩,
 ⟨(some 10), none, .load none (.t 3)⟩,
 ⟨(some 11), none, .call (.c (.fn (.func 45) [] [])) [(.t 9), (.c (.int .i64 12)), (.t 10)]⟩,
 ⟨(some 6), none, .mov (.t 11)⟩] [6])
 (.seq
 (.ops [
 ⟨(some 12), none, .mov (.t 6)⟩,
 ⟨(some 13), none, .bin .neq .no (.t 12) (.c (.int .i64 0))⟩] [13])
 (.cond (.t 13)
 (.seq
 (.ops [
 ⟨(some 14), none, .mov (.t 6)⟩,
 ⟨(some 4), none, .mov (.c .nilsl)⟩,
 ⟨(some 5), none, .mov (.t 14)⟩] [4, 5])
 .ret)
 .skip)))
 (.seq
 (.ops [
 ⟨(some 16), none, .load none (.t 2)⟩,
 ⟨(some 17), none, .lenS (.t 16)⟩,
 ⟨(some 18), none, .call (.c (.fn (.func 47) [] [])) [(.t 17)]⟩,
 ⟨(some 19), none, .mkf 48 [] [(.t 2), (.t 3)]⟩,
 ⟨(some 20), none, .call (.c (.fn (.func 46) [] [])) [(.t 18), (.t 19)]⟩,
 ⟨(some 15), none, .mov (.t 20)⟩,
 ⟨(some 21), none, .ext (.t 15) 0⟩,
 ⟨(some 22), none, .ext (.t 15) 1⟩,
 ⟨(some 7), none, .mov (.t 21)⟩,
 ⟨(some 8), none, .mov (.t 22)⟩] [7, 8])
 (.seq
 (.seq
 (.ops [
 ⟨(some 23), none, .mov (.t 8)⟩,
 ⟨(some 24), none, .not (.t 23)⟩] [24])
 (.cond (.t 24)
 (.seq
 (.ops [
 ⟨(some 4), none, .mov (.c .nilsl)⟩,
 ⟨(some 5), none, .mov (.c (.int .i64 5))⟩] [4, 5])
 .ret)
 .skip))
 (.seq
 (.ops [
 ⟨(some 25), none, .mov (.t 7)⟩,
 ⟨(some 26), none, .call (.c (.fn (.func 41) [] [])) [(.t 25)]⟩,
 ⟨(some 4), none, .mov (.t 26)⟩,
 ⟨(some 5), none, .mov (.c (.int .i64 0))⟩] [4, 5])
 .ret))))),
 [.tmp 4, .tmp 5]⟩

/-- bellpull/weigh.Ways -/
noncomputable def sf21 : SFun := ⟨[0, 1, 2, 3, 4, 5, 6, 7, 8, 13, 17, 18, 23], 27,
 (.seq
 (.ops [
 ⟨(some 2), none, .box (.t 0)⟩,
 ⟨(some 3), none, .box (.t 1)⟩,
 ⟨(some 4), none, .mov (.c (.int .i64 0))⟩,
 ⟨(some 5), none, .mov (.c (.int .i64 0))⟩] [2, 3, 4, 5])
 (.seq
 (.seq
 (.ops [
 ⟨(some 9), none, .load none (.t 2)⟩,
 ⟨(some 10), none, .load none (.t 3)⟩,
 ⟨(some 11), none, .call (.c (.fn (.func 45) [] [])) [(.t 9), (.c (.int .i64 12)), (.t 10)]⟩,
 ⟨(some 6), none, .mov (.t 11)⟩] [6])
 (.seq
 (.ops [
 ⟨(some 12), none, .mov (.t 6)⟩,
 ⟨(some 13), none, .bin .neq .no (.t 12) (.c (.int .i64 0))⟩] [13])
 (.cond (.t 13)
 (.seq
 (.ops [
 ⟨(some 14), none, .mov (.t 6)⟩,
 ⟨(some 4), none, .mov (.c (.int .i64 0))⟩,
 ⟨(some 5), none, .mov (.t 14)⟩] [4, 5])
 .ret)
 .skip)))
 (.seq
 (.ops [
 ⟨(some 7), none, .new [(.int .i64 0)]⟩,
 ⟨none, none, .store 1 (.t 7) (.c (.int .i64 0))⟩] [7])
 (.seq
 (.seq
 (.ops [
 ⟨(some 15), none, .load none (.t 2)⟩,
 ⟨(some 16), none, .lenS (.t 15)⟩,
 ⟨(some 17), none, .call (.c (.fn (.func 47) [] [])) [(.t 16)]⟩] [17])
 (.block 0
 (.rangeF (.t 17) (rfAt Tryd.prog 21 0).1 (rfAt Tryd.prog 21 0).2.1 (rfAt Tryd.prog 21 0).2.2 8790527 27)))
 (.seq
 (.ops [
 ⟨(some 26), none, .load none (.t 7)⟩,
 ⟨(some 4), none, .mov (.t 26)⟩,
 ⟨(some 5), none, .mov (.c (.int .i64 0))⟩] [4, 5])
 .ret))))),
 [.tmp 4, .tmp 5]⟩

/-- bellpull/bellpullref08.Subset -/
noncomputable def sf22 : SFun := ⟨[0, 1, 4, 5, 6, 7, 8, 9, 10, 16, 24, 35], 39,
 (.seq
 (.ops [
 ⟨(some 4), none, .mov (.c .nilsl)⟩,
 ⟨(some 5), none, .mov (.c (.int .i64 0))⟩] [4, 5])
 (.seq
 (.ops [
 ⟨(some 11), none, .mov (.t 0)⟩,
 ⟨(some 12), none, .call (.c (.fn (.func 43) [] [])) [(.t 11)]⟩,
 ⟨(some 6), none, .mov (.t 12)⟩,
 ⟨(some 7), none, .mov (.c (.int .i64 0))⟩] [6, 7])
 (.seq
 (.ops [
 ⟨(some 8), none, .mov (.c .nilsl)⟩] [8])
 (.seq
 (.seq
 (.ops [
 ⟨(some 9), none, .mov (.c (.int .i64 0))⟩] [9])
 (.block 0
 (.loop
 (.seq
 (.seq
 (.ops [
 ⟨(some 13), none, .mov (.t 9)⟩,
 ⟨(some 14), none, .mov (.t 6)⟩,
 ⟨(some 15), none, .lenS (.t 14)⟩,
 ⟨(some 16), none, .bin .lss .no (.t 13) (.t 15)⟩] [16])
 (.cond (.t 16)
 .skip
 (.exit 0)))
 (.seq
 (.block 1
 (.seq
 (.seq
 (.ops [
 ⟨(some 19), none, .mov (.t 6)⟩,
 ⟨(some 20), none, .mov (.t 9)⟩,
 ⟨(some 21), none, .ixS 1 (.t 19) (.t 20)⟩,
 ⟨(some 22), none, .load none (.t 21)⟩,
 ⟨(some 23), none, .mov (.t 1)⟩,
 ⟨(some 24), none, .bin .neq .no (.t 22) (.t 23)⟩] [24])
 (.cond (.t 24)
 (.exit 1)
 .skip))
 (.seq
 (.ops [
 ⟨(some 25), none, .mov (.t 7)⟩,
 ⟨(some 26), none, .bin .add .no (.t 25) (.c (.int .i64 1))⟩,
 ⟨(some 7), none, .mov (.t 26)⟩] [7])
 (.seq
 (.ops [
 ⟨(some 27), none, .mov (.t 9)⟩,
 ⟨(some 28), none, .call (.c (.fn (.func 44) [] [])) [(.t 27)]⟩,
 ⟨(some 10), none, .mov (.t 28)⟩] [10])
 (.seq
 (.ops [
 ⟨(some 29), none, .mov (.t 8)⟩,
 ⟨(some 30), none, .bin .eql .slice (.t 29) (.c .nilsl)⟩,
 ⟨(some 31), none, .mov (.t 30)⟩,
 ⟨(some 32), (some (31, false)), .mov (.t 10)⟩,
 ⟨(some 33), (some (31, false)), .mov (.t 8)⟩,
 ⟨(some 34), (some (31, false)), .call (.c (.fn (.func 33) [] [])) [(.t 32), (.t 33)]⟩,
 ⟨(some 35), none, .pick (.t 31) (.c (.bool true)) (.t 34)⟩] [35])
 (.cond (.t 35)
 (.ops [
 ⟨(some 36), none, .mov (.t 10)⟩,
 ⟨(some 8), none, .mov (.t 36)⟩] [8])
 .skip))))))
 (.ops [
 ⟨(some 17), none, .mov (.t 9)⟩,
 ⟨(some 18), none, .bin .add .no (.t 17) (.c (.int .i64 1))⟩,
 ⟨(some 9), none, .mov (.t 18)⟩] [9]))))))
 (.seq
 (.ops [
 ⟨(some 37), none, .mov (.t 8)⟩,
 ⟨(some 38), none, .mov (.t 7)⟩,
 ⟨(some 4), none, .mov (.t 37)⟩,
 ⟨(some 5), none, .mov (.t 38)⟩] [4, 5])
 .ret))))),
 [.tmp 4, .tmp 5]⟩

/-- bellpull/weigh.Pans -/
noncomputable def sf23 : SFun := ⟨[0, 1, 2, 3, 4, 5, 6, 7, 8, 13, 24], 29,
 (.seq
 (.ops [
 ⟨(some 2), none, .box (.t 0)⟩,
 ⟨(some 3), none, .box (.t 1)⟩,
 ⟨(some 4), none, .mov (.c .nilsl)⟩,
 ⟨(some 5), none, .mov (.c (.int .i64 0))⟩] [2, 3, 4, 5])
 (.seq
 (.seq
 (.ops [
 ⟨(some 9), none, .load none (.t 2)⟩,
 ⟨(some 10), none, .load none (.t 3)⟩,
 ⟨(some 11), none, .call (.c (.fn (.func 45) [] [])) [(.t 9), (.c (.int .i64 9)), (.t 10)]⟩,
 ⟨(some 6), none, .mov (.t 11)⟩] [6])
 (.seq
 (.ops [
 ⟨(some 12), none, .mov (.t 6)⟩,
 ⟨(some 13), none, .bin .neq .no (.t 12) (.c (.int .i64 0))⟩] [13])
 (.cond (.t 13)
 (.seq
 (.ops [
 ⟨(some 14), none, .mov (.t 6)⟩,
 ⟨(some 4), none, .mov (.c .nilsl)⟩,
 ⟨(some 5), none, .mov (.t 14)⟩] [4, 5])
 .ret)
 .skip)))
 (.seq
 (.ops [
 ⟨(some 16), none, .load none (.t 2)⟩,
 ⟨(some 17), none, .lenS (.t 16)⟩,
 ⟨(some 18), none, .call (.c (.fn (.func 51) [] [])) [(.t 17)]⟩,
 ⟨(some 19), none, .mkf 52 [] [(.t 2), (.t 3)]⟩,
 ⟨(some 20), none, .call (.c (.fn (.func 50) [] [])) [(.t 18), (.t 19)]⟩,
 ⟨(some 15), none, .mov (.t 20)⟩,
 ⟨(some 21), none, .ext (.t 15) 0⟩,
 ⟨(some 22), none, .ext (.t 15) 1⟩,
 ⟨(some 7), none, .new [(.int .i64 0), (.int .i64 0), (.int .i64 0), (.int .i64 0), (.int .i64 0), (.int .i64 0), (.int .i64 0), (.int .i64 0), (.int .i64 0)]⟩,
 ⟨none, none, .store 9 (.t 7) (.t 21)⟩,
 ⟨(some 8), none, .mov (.t 22)⟩] [7, 8])
 (.seq
 (.seq
 (.ops [
 ⟨(some 23), none, .mov (.t 8)⟩,
 ⟨(some 24), none, .not (.t 23)⟩] [24])
 (.cond (.t 24)
 (.seq
 (.ops [
 ⟨(some 4), none, .mov (.c .nilsl)⟩,
 ⟨(some 5), none, .mov (.c (.int .i64 5))⟩] [4, 5])
 .ret)
 .skip))
 (.seq
 (.ops [
 ⟨(some 25), none, .load none (.t 2)⟩,
 ⟨(some 26), none, .lenS (.t 25)⟩,
 ⟨(some 27), none, .arr 9 1 (.t 7) none (some (.t 26))⟩,
 ⟨(some 28), none, .call (.c (.fn (.func 54) [] [])) [(.t 27)]⟩,
 ⟨(some 4), none, .mov (.t 28)⟩,
 ⟨(some 5), none, .mov (.c (.int .i64 0))⟩] [4, 5])
 .ret))))),
 [.tmp 4, .tmp 5]⟩

/-- bellpull/bellpullref08.Pans -/
noncomputable def sf24 : SFun := ⟨[0, 1, 2, 6, 7, 8, 9, 10, 16, 33, 38, 41, 62], 64,
 (.seq
 (.ops [
 ⟨(some 6), none, .mov (.c .nilsl)⟩] [6])
 (.seq
 (.ops [
 ⟨(some 7), none, .mov (.c (.int .i64 0))⟩] [7])
 (.seq
 (.seq
 (.ops [
 ⟨(some 11), none, .mov (.t 2)⟩,
 ⟨(some 12), none, .lenS (.t 11)⟩,
 ⟨(some 8), none, .mov (.t 12)⟩] [8])
 (.block 0
 (.loop
 (.seq
 (.seq
 (.ops [
 ⟨(some 13), none, .mov (.t 8)⟩,
 ⟨(some 14), none, .mov (.t 0)⟩,
 ⟨(some 15), none, .lenS (.t 14)⟩,
 ⟨(some 16), none, .bin .lss .no (.t 13) (.t 15)⟩] [16])
 (.cond (.t 16)
 .skip
 (.exit 0)))
 (.seq
 (.block 1
 (.ops [
 ⟨(some 19), none, .mov (.t 7)⟩,
 ⟨(some 20), none, .mov (.t 0)⟩,
 ⟨(some 21), none, .mov (.t 8)⟩,
 ⟨(some 22), none, .ixS 1 (.t 20) (.t 21)⟩,
 ⟨(some 23), none, .load none (.t 22)⟩,
 ⟨(some 24), none, .bin .add .no (.t 19) (.t 23)⟩,
 ⟨(some 7), none, .mov (.t 24)⟩] [7]))
 (.ops [
 ⟨(some 17), none, .mov (.t 8)⟩,
 ⟨(some 18), none, .bin .add .no (.t 17) (.c (.int .i64 1))⟩,
 ⟨(some 8), none, .mov (.t 18)⟩] [8]))))))
 (.seq
 (.seq
 (.ops [
 ⟨(some 25), none, .mov (.t 1)⟩,
 ⟨(some 26), none, .mov (.t 7)⟩,
 ⟨(some 27), none, .bin .gtr .no (.t 25) (.t 26)⟩,
 ⟨(some 28), none, .mov (.t 27)⟩,
 ⟨(some 29), (some (28, false)), .mov (.t 1)⟩,
 ⟨(some 30), (some (28, false)), .mov (.t 7)⟩,
 ⟨(some 31), (some (28, false)), .neg (.t 30)⟩,
 ⟨(some 32), (some (28, false)), .bin .lss .no (.t 29) (.t 31)⟩,
 ⟨(some 33), none, .pick (.t 28) (.c (.bool true)) (.t 32)⟩] [33])
 (.cond (.t 33)
 (.seq
 (.ops [
 ⟨(some 6), none, .mov (.c .nilsl)⟩] [6])
 .ret)
 .skip))
 (.seq
 (.seq
 (.ops [
 ⟨(some 34), none, .mov (.t 2)⟩,
 ⟨(some 35), none, .lenS (.t 34)⟩,
 ⟨(some 36), none, .mov (.t 0)⟩,
 ⟨(some 37), none, .lenS (.t 36)⟩,
 ⟨(some 38), none, .bin .eql .no (.t 35) (.t 37)⟩] [38])
 (.cond (.t 38)
 (.seq
 (.ops [
 ⟨(some 39), none, .mov (.t 2)⟩,
 ⟨(some 6), none, .mov (.t 39)⟩] [6])
 .ret)
 .skip))
 (.seq
 (.seq
 (.ops [
 ⟨(some 9), none, .mov (.c (.int .i64 1))⟩] [9])
 (.block 2
 (.loop
 (.seq
 (.seq
 (.ops [
 ⟨(some 40), none, .mov (.t 9)⟩,
 ⟨(some 41), none, .bin .geq .no (.t 40) (.c (.int .i64 (-1)))⟩] [41])
 (.cond (.t 41)
 .skip
 (.exit 2)))
 (.seq
 (.block 3
 (.seq
 (.draw [
 ⟨⟨(some 44), none, .mov (.t 0)⟩, false, false⟩,
 ⟨⟨(some 45), none, .mov (.t 1)⟩, false, false⟩,
 ⟨⟨(some 46), none, .mov (.t 9)⟩, false, false⟩,
 ⟨⟨(some 47), none, .mov (.t 0)⟩, false, false⟩,
 ⟨⟨(some 48), none, .mov (.t 2)⟩, false, false⟩,
 ⟨⟨(some 49), none, .lenS (.t 48)⟩, false, false⟩,
 ⟨⟨(some 50), none, .ixS 1 (.t 47) (.t 49)⟩, false, false⟩,
 ⟨⟨(some 51), none, .load none (.t 50)⟩, true, false⟩,
 ⟨⟨(some 52), none, .bin .mul .no (.t 46) (.t 51)⟩, false, false⟩,
 ⟨⟨(some 53), none, .bin .sub .no (.t 45) (.t 52)⟩, false, false⟩,
 ⟨⟨(some 54), none, .buildS [(.int .i64 0)] 0 1 []⟩, false, true⟩,
 ⟨⟨(some 55), none, .mov (.t 2)⟩, false, false⟩,
 ⟨⟨(some 56), none, .app true 1 (.t 54) (.t 55)⟩, false, true⟩,
 ⟨⟨(some 57), none, .mov (.t 9)⟩, false, false⟩,
 ⟨⟨(some 58), none, .buildS [(.int .i64 0)] 1 1 [(0, (.t 57))]⟩, false, true⟩,
 ⟨⟨(some 59), none, .app true 1 (.t 56) (.t 58)⟩, false, true⟩,
 ⟨⟨(some 60), none, .call (.c (.fn (.func 24) [] [])) [(.t 44), (.t 53), (.t 59)]⟩, false, true⟩,
 ⟨⟨(some 10), none, .mov (.t 60)⟩, false, false⟩] [0, 0, 0, 0, 0, 16, 56, 120, 252, 510, 0, 0, 3072, 0, 8192, 31744, 65535, 131071] [10])
 (.seq
 (.ops [
 ⟨(some 61), none, .mov (.t 10)⟩,
 ⟨(some 62), none, .bin .neq .slice (.t 61) (.c .nilsl)⟩] [62])
 (.cond (.t 62)
 (.seq
 (.ops [
 ⟨(some 63), none, .mov (.t 10)⟩,
 ⟨(some 6), none, .mov (.t 63)⟩] [6])
 .ret)
 .skip))))
 (.ops [
 ⟨(some 42), none, .mov (.t 9)⟩,
 ⟨(some 43), none, .bin .sub .no (.t 42) (.c (.int .i64 1))⟩,
 ⟨(some 9), none, .mov (.t 43)⟩] [9]))))))
 (.seq
 (.ops [
 ⟨(some 6), none, .mov (.c .nilsl)⟩] [6])
 .ret))))))),
 [.tmp 6]⟩

/-- bellpull/weigh.Guy -/
noncomputable def sf25 : SFun := ⟨[0, 2, 3, 6], 12,
 (.seq
 (.ops [
 ⟨(some 2), none, .mov (.c (.int .i64 0))⟩,
 ⟨(some 3), none, .mov (.c (.int .i64 0))⟩] [2, 3])
 (.seq
 (.seq
 (.ops [
 ⟨(some 4), none, .mov (.t 0)⟩,
 ⟨(some 5), none, .call (.c (.fn (.func 55) [] [])) [(.t 4), (.c (.int .i64 0)), (.c (.int .i64 60))]⟩,
 ⟨(some 6), none, .not (.t 5)⟩] [6])
 (.cond (.t 6)
 (.seq
 (.ops [
 ⟨(some 2), none, .mov (.c (.int .i64 0))⟩,
 ⟨(some 3), none, .mov (.c (.int .i64 1))⟩] [2, 3])
 .ret)
 .skip))
 (.seq
 (.ops [
 ⟨(some 7), none, .mov (.t 0)⟩,
 ⟨(some 8), none, .call (.c (.fn (.func 56) [] [])) [(.t 7)]⟩,
 ⟨(some 9), none, .mov (.t 0)⟩,
 ⟨(some 10), none, .ixS 1 (.t 8) (.t 9)⟩,
 ⟨(some 11), none, .load none (.t 10)⟩,
 ⟨(some 2), none, .mov (.t 11)⟩,
 ⟨(some 3), none, .mov (.c (.int .i64 0))⟩] [2, 3])
 .ret))),
 [.tmp 2, .tmp 3]⟩

/-- bellpull/weigh.Set -/
noncomputable def sf26 : SFun := ⟨[0, 2, 3, 4, 5, 6, 9, 15], 31,
 (.seq
 (.ops [
 ⟨(some 2), none, .mov (.c .nilsl)⟩,
 ⟨(some 3), none, .mov (.c (.int .i64 0))⟩] [2, 3])
 (.seq
 (.seq
 (.ops [
 ⟨(some 7), none, .mov (.t 0)⟩,
 ⟨(some 8), none, .call (.c (.fn (.func 55) [] [])) [(.t 7), (.c (.int .i64 1)), (.c (.int .i64 12))]⟩,
 ⟨(some 9), none, .not (.t 8)⟩] [9])
 (.cond (.t 9)
 (.seq
 (.ops [
 ⟨(some 2), none, .mov (.c .nilsl)⟩,
 ⟨(some 3), none, .mov (.c (.int .i64 1))⟩] [2, 3])
 .ret)
 .skip))
 (.seq
 (.ops [
 ⟨(some 10), none, .mov (.t 0)⟩,
 ⟨(some 11), none, .call (.c (.fn (.func 56) [] [])) [(.t 10)]⟩,
 ⟨(some 4), none, .mov (.t 11)⟩] [4])
 (.seq
 (.ops [
 ⟨(some 5), none, .mov (.c .nilsl)⟩] [5])
 (.seq
 (.seq
 (.ops [
 ⟨(some 12), none, .mov (.t 0)⟩,
 ⟨(some 13), none, .bin .sub .no (.t 12) (.c (.int .i64 1))⟩,
 ⟨(some 6), none, .mov (.t 13)⟩] [6])
 (.block 0
 (.loop
 (.seq
 (.seq
 (.ops [
 ⟨(some 14), none, .mov (.t 6)⟩,
 ⟨(some 15), none, .bin .geq .no (.t 14) (.c (.int .i64 0))⟩] [15])
 (.cond (.t 15)
 .skip
 (.exit 0)))
 (.seq
 (.block 1
 (.draw [
 ⟨⟨(some 18), none, .mov (.t 5)⟩, false, false⟩,
 ⟨⟨(some 19), none, .mov (.t 4)⟩, false, false⟩,
 ⟨⟨(some 20), none, .mov (.t 0)⟩, false, false⟩,
 ⟨⟨(some 21), none, .ixS 1 (.t 19) (.t 20)⟩, false, false⟩,
 ⟨⟨(some 22), none, .load none (.t 21)⟩, true, false⟩,
 ⟨⟨(some 23), none, .mov (.t 4)⟩, false, false⟩,
 ⟨⟨(some 24), none, .mov (.t 6)⟩, false, false⟩,
 ⟨⟨(some 25), none, .ixS 1 (.t 23) (.t 24)⟩, false, false⟩,
 ⟨⟨(some 26), none, .load none (.t 25)⟩, true, false⟩,
 ⟨⟨(some 27), none, .bin .sub .no (.t 22) (.t 26)⟩, false, false⟩,
 ⟨⟨(some 28), none, .buildS [(.int .i64 0)] 1 1 [(0, (.t 27))]⟩, false, true⟩,
 ⟨⟨(some 29), none, .app true 1 (.t 18) (.t 28)⟩, false, true⟩,
 ⟨⟨(some 5), none, .mov (.t 29)⟩, false, false⟩] [0, 0, 0, 6, 14, 0, 0, 96, 224, 510, 1022, 2047, 4095] [5]))
 (.ops [
 ⟨(some 16), none, .mov (.t 6)⟩,
 ⟨(some 17), none, .bin .sub .no (.t 16) (.c (.int .i64 1))⟩,
 ⟨(some 6), none, .mov (.t 17)⟩] [6]))))))
 (.seq
 (.ops [
 ⟨(some 30), none, .mov (.t 5)⟩,
 ⟨(some 2), none, .mov (.t 30)⟩,
 ⟨(some 3), none, .mov (.c (.int .i64 0))⟩] [2, 3])
 .ret)))))),
 [.tmp 2, .tmp 3]⟩

/-- bellpull/bellpullref01.In -/
noncomputable def sf27 : SFun := ⟨[0, 1, 2, 6], 15,
 (.seq
 (.ops [
 ⟨(some 6), none, .mov (.c (.bool false))⟩] [6])
 (.seq
 (.ops [
 ⟨(some 7), none, .mov (.t 0)⟩,
 ⟨(some 8), none, .mov (.t 1)⟩,
 ⟨(some 9), none, .bin .geq .no (.t 7) (.t 8)⟩,
 ⟨(some 10), none, .mov (.t 9)⟩,
 ⟨(some 11), (some (10, true)), .mov (.t 0)⟩,
 ⟨(some 12), (some (10, true)), .mov (.t 2)⟩,
 ⟨(some 13), (some (10, true)), .bin .leq .no (.t 11) (.t 12)⟩,
 ⟨(some 14), none, .pick (.t 10) (.t 13) (.c (.bool false))⟩,
 ⟨(some 6), none, .mov (.t 14)⟩] [6])
 .ret)),
 [.tmp 6]⟩

/-- bellpull/bellpullref08.Guy -/
noncomputable def sf28 : SFun := ⟨[0, 2, 3, 4, 5, 9, 21], 40,
 (.seq
 (.ops [
 ⟨(some 2), none, .mov (.c .nilsl)⟩] [2])
 (.seq
 (.ops [
 ⟨(some 6), none, .buildS [(.int .i64 0)] 2 1 [(0, (.c (.int .i64 0))), (1, (.c (.int .i64 1)))]⟩,
 ⟨(some 3), none, .mov (.t 6)⟩] [3])
 (.seq
 (.seq
 (.ops [
 ⟨(some 4), none, .mov (.c (.int .i64 1))⟩] [4])
 (.block 0
 (.loop
 (.seq
 (.seq
 (.ops [
 ⟨(some 7), none, .mov (.t 4)⟩,
 ⟨(some 8), none, .mov (.t 0)⟩,
 ⟨(some 9), none, .bin .lss .no (.t 7) (.t 8)⟩] [9])
 (.cond (.t 9)
 .skip
 (.exit 0)))
 (.seq
 (.block 1
 (.seq
 (.ops [
 ⟨(some 5), none, .mov (.c (.int .i64 0))⟩] [5])
 (.seq
 (.block 2
 (.loop
 (.seq
 (.seq
 (.ops [
 ⟨(some 12), none, .mov (.t 5)⟩,
 ⟨(some 13), none, .bin .mul .no (.c (.int .i64 2)) (.t 12)⟩,
 ⟨(some 14), none, .bin .add .no (.t 13) (.c (.int .i64 1))⟩,
 ⟨(some 15), none, .mov (.t 5)⟩,
 ⟨(some 16), none, .bin .mul .no (.c (.int .i64 2)) (.t 15)⟩,
 ⟨(some 17), none, .bin .add .no (.t 16) (.c (.int .i64 1))⟩,
 ⟨(some 18), none, .bin .mul .no (.t 14) (.t 17)⟩,
 ⟨(some 19), none, .mov (.t 4)⟩,
 ⟨(some 20), none, .bin .mul .no (.c (.int .i64 8)) (.t 19)⟩,
 ⟨(some 21), none, .bin .leq .no (.t 18) (.t 20)⟩] [21])
 (.cond (.t 21)
 .skip
 (.exit 2)))
 (.block 3
 (.ops [
 ⟨(some 22), none, .mov (.t 5)⟩,
 ⟨(some 23), none, .bin .add .no (.t 22) (.c (.int .i64 1))⟩,
 ⟨(some 5), none, .mov (.t 23)⟩] [5])))))
 (.draw [
 ⟨⟨(some 24), none, .mov (.t 3)⟩, false, false⟩,
 ⟨⟨(some 25), none, .mov (.t 3)⟩, false, false⟩,
 ⟨⟨(some 26), none, .mov (.t 4)⟩, false, false⟩,
 ⟨⟨(some 27), none, .ixS 1 (.t 25) (.t 26)⟩, false, false⟩,
 ⟨⟨(some 28), none, .load none (.t 27)⟩, true, false⟩,
 ⟨⟨(some 29), none, .bin .mul .no (.c (.int .i64 2)) (.t 28)⟩, false, false⟩,
 ⟨⟨(some 30), none, .mov (.t 3)⟩, false, false⟩,
 ⟨⟨(some 31), none, .mov (.t 4)⟩, false, false⟩,
 ⟨⟨(some 32), none, .mov (.t 5)⟩, false, false⟩,
 ⟨⟨(some 33), none, .bin .sub .no (.t 31) (.t 32)⟩, false, false⟩,
 ⟨⟨(some 34), none, .ixS 1 (.t 30) (.t 33)⟩, false, false⟩,
 ⟨⟨(some 35), none, .load none (.t 34)⟩, true, false⟩,
 ⟨⟨(some 36), none, .bin .sub .no (.t 29) (.t 35)⟩, false, false⟩,
 ⟨⟨(some 37), none, .buildS [(.int .i64 0)] 1 1 [(0, (.t 36))]⟩, false, true⟩,
 ⟨⟨(some 38), none, .app true 1 (.t 24) (.t 37)⟩, false, true⟩,
 ⟨⟨(some 3), none, .mov (.t 38)⟩, false, false⟩] [0, 0, 0, 6, 14, 30, 0, 0, 0, 384, 960, 1984, 4094, 8190, 16383, 32767] [3]))))
 (.ops [
 ⟨(some 10), none, .mov (.t 4)⟩,
 ⟨(some 11), none, .bin .add .no (.t 10) (.c (.int .i64 1))⟩,
 ⟨(some 4), none, .mov (.t 11)⟩] [4]))))))
 (.seq
 (.ops [
 ⟨(some 39), none, .mov (.t 3)⟩,
 ⟨(some 2), none, .mov (.t 39)⟩] [2])
 .ret)))),
 [.tmp 2]⟩

/-- bellpull/bellpullref08.Set -/
noncomputable def sf29 : SFun := ⟨[0, 2, 3, 4, 5, 12], 28,
 (.seq
 (.ops [
 ⟨(some 2), none, .mov (.c .nilsl)⟩] [2])
 (.seq
 (.ops [
 ⟨(some 6), none, .mov (.t 0)⟩,
 ⟨(some 7), none, .call (.c (.fn (.func 28) [] [])) [(.t 6)]⟩,
 ⟨(some 8), none, .buildS [(.int .i64 0)] 0 1 []⟩,
 ⟨(some 3), none, .mov (.t 7)⟩,
 ⟨(some 4), none, .mov (.t 8)⟩] [3, 4])
 (.seq
 (.seq
 (.ops [
 ⟨(some 9), none, .mov (.t 0)⟩,
 ⟨(some 10), none, .bin .sub .no (.t 9) (.c (.int .i64 1))⟩,
 ⟨(some 5), none, .mov (.t 10)⟩] [5])
 (.block 0
 (.loop
 (.seq
 (.seq
 (.ops [
 ⟨(some 11), none, .mov (.t 5)⟩,
 ⟨(some 12), none, .bin .geq .no (.t 11) (.c (.int .i64 0))⟩] [12])
 (.cond (.t 12)
 .skip
 (.exit 0)))
 (.seq
 (.block 1
 (.draw [
 ⟨⟨(some 15), none, .mov (.t 4)⟩, false, false⟩,
 ⟨⟨(some 16), none, .mov (.t 3)⟩, false, false⟩,
 ⟨⟨(some 17), none, .mov (.t 0)⟩, false, false⟩,
 ⟨⟨(some 18), none, .ixS 1 (.t 16) (.t 17)⟩, false, false⟩,
 ⟨⟨(some 19), none, .load none (.t 18)⟩, true, false⟩,
 ⟨⟨(some 20), none, .mov (.t 3)⟩, false, false⟩,
 ⟨⟨(some 21), none, .mov (.t 5)⟩, false, false⟩,
 ⟨⟨(some 22), none, .ixS 1 (.t 20) (.t 21)⟩, false, false⟩,
 ⟨⟨(some 23), none, .load none (.t 22)⟩, true, false⟩,
 ⟨⟨(some 24), none, .bin .sub .no (.t 19) (.t 23)⟩, false, false⟩,
 ⟨⟨(some 25), none, .buildS [(.int .i64 0)] 1 1 [(0, (.t 24))]⟩, false, true⟩,
 ⟨⟨(some 26), none, .app true 1 (.t 15) (.t 25)⟩, false, true⟩,
 ⟨⟨(some 4), none, .mov (.t 26)⟩, false, false⟩] [0, 0, 0, 6, 14, 0, 0, 96, 224, 510, 1022, 2047, 4095] [4]))
 (.ops [
 ⟨(some 13), none, .mov (.t 5)⟩,
 ⟨(some 14), none, .bin .sub .no (.t 13) (.c (.int .i64 1))⟩,
 ⟨(some 5), none, .mov (.t 14)⟩] [5]))))))
 (.seq
 (.ops [
 ⟨(some 27), none, .mov (.t 4)⟩,
 ⟨(some 2), none, .mov (.t 27)⟩] [2])
 .ret)))),
 [.tmp 2]⟩

/-- bellpull/bellpulllaw08.made -/
noncomputable def sf30 : SFun := ⟨[0, 1, 4, 5, 6, 7, 17, 35], 38,
 (.seq
 (.ops [
 ⟨(some 4), none, .mov (.c .nilsl)⟩] [4])
 (.seq
 (.ops [
 ⟨(some 8), none, .buildS [(.int .i64 0)] 0 1 []⟩,
 ⟨(some 5), none, .mov (.t 8)⟩,
 ⟨(some 6), none, .mov (.c (.int .i64 0))⟩] [5, 6])
 (.seq
 (.seq
 (.ops [
 ⟨(some 7), none, .mov (.c (.int .i64 0))⟩] [7])
 (.block 0
 (.loop
 (.seq
 (.seq
 (.ops [
 ⟨(some 9), none, .mov (.t 7)⟩,
 ⟨(some 10), none, .mov (.t 0)⟩,
 ⟨(some 11), none, .lenS (.t 10)⟩,
 ⟨(some 12), none, .bin .lss .no (.t 9) (.t 11)⟩,
 ⟨(some 13), none, .mov (.t 12)⟩,
 ⟨(some 14), (some (13, true)), .mov (.t 7)⟩,
 ⟨(some 15), (some (13, true)), .mov (.t 1)⟩,
 ⟨(some 16), (some (13, true)), .bin .lss .no (.t 14) (.t 15)⟩,
 ⟨(some 17), none, .pick (.t 13) (.t 16) (.c (.bool false))⟩] [17])
 (.cond (.t 17)
 .skip
 (.exit 0)))
 (.seq
 (.block 1
 (.seq
 (.ops [
 ⟨(some 20), none, .mov (.t 6)⟩,
 ⟨(some 21), none, .mov (.t 0)⟩,
 ⟨(some 22), none, .mov (.t 7)⟩,
 ⟨(some 23), none, .ixS 1 (.t 21) (.t 22)⟩,
 ⟨(some 24), none, .load none (.t 23)⟩,
 ⟨(some 25), none, .conv .i64 (.t 24)⟩,
 ⟨(some 26), none, .bin .rem .no (.t 25) (.c (.int .i64 8000))⟩,
 ⟨(some 27), none, .bin .add .no (.t 26) (.c (.int .i64 1))⟩,
 ⟨(some 28), none, .bin .add .no (.t 20) (.t 27)⟩,
 ⟨(some 6), none, .mov (.t 28)⟩] [6])
 (.ops [
 ⟨(some 29), none, .mov (.t 5)⟩,
 ⟨(some 30), none, .mov (.t 6)⟩,
 ⟨(some 31), none, .buildS [(.int .i64 0)] 1 1 [(0, (.t 30))]⟩,
 ⟨(some 32), none, .app true 1 (.t 29) (.t 31)⟩,
 ⟨(some 5), none, .mov (.t 32)⟩] [5])))
 (.ops [
 ⟨(some 18), none, .mov (.t 7)⟩,
 ⟨(some 19), none, .bin .add .no (.t 18) (.c (.int .i64 1))⟩,
 ⟨(some 7), none, .mov (.t 19)⟩] [7]))))))
 (.seq
 (.seq
 (.ops [
 ⟨(some 33), none, .mov (.t 5)⟩,
 ⟨(some 34), none, .lenS (.t 33)⟩,
 ⟨(some 35), none, .bin .eql .no (.t 34) (.c (.int .i64 0))⟩] [35])
 (.cond (.t 35)
 (.ops [
 ⟨(some 36), none, .buildS [(.int .i64 0)] 1 1 [(0, (.c (.int .i64 1)))]⟩,
 ⟨(some 5), none, .mov (.t 36)⟩] [5])
 .skip))
 (.seq
 (.ops [
 ⟨(some 37), none, .mov (.t 5)⟩,
 ⟨(some 4), none, .mov (.t 37)⟩] [4])
 .ret))))),
 [.tmp 4]⟩

/-- bellpull/bellpullref01.Has -/
noncomputable def sf31 : SFun := ⟨[0, 1, 4, 5, 9, 17], 18,
 (.seq
 (.ops [
 ⟨(some 4), none, .mov (.c (.bool false))⟩] [4])
 (.seq
 (.seq
 (.ops [
 ⟨(some 5), none, .mov (.c (.int .i64 0))⟩] [5])
 (.block 0
 (.loop
 (.seq
 (.seq
 (.ops [
 ⟨(some 6), none, .mov (.t 5)⟩,
 ⟨(some 7), none, .mov (.t 0)⟩,
 ⟨(some 8), none, .lenS (.t 7)⟩,
 ⟨(some 9), none, .bin .lss .no (.t 6) (.t 8)⟩] [9])
 (.cond (.t 9)
 .skip
 (.exit 0)))
 (.seq
 (.block 1
 (.seq
 (.ops [
 ⟨(some 12), none, .mov (.t 0)⟩,
 ⟨(some 13), none, .mov (.t 5)⟩,
 ⟨(some 14), none, .ixS 1 (.t 12) (.t 13)⟩,
 ⟨(some 15), none, .load none (.t 14)⟩,
 ⟨(some 16), none, .mov (.t 1)⟩,
 ⟨(some 17), none, .bin .eql .no (.t 15) (.t 16)⟩] [17])
 (.cond (.t 17)
 (.seq
 (.ops [
 ⟨(some 4), none, .mov (.c (.bool true))⟩] [4])
 .ret)
 .skip)))
 (.ops [
 ⟨(some 10), none, .mov (.t 5)⟩,
 ⟨(some 11), none, .bin .add .no (.t 10) (.c (.int .i64 1))⟩,
 ⟨(some 5), none, .mov (.t 11)⟩] [5]))))))
 (.seq
 (.ops [
 ⟨(some 4), none, .mov (.c (.bool false))⟩] [4])
 .ret))),
 [.tmp 4]⟩

/-- bellpull/bellpulllaw08.total -/
noncomputable def sf32 : SFun := ⟨[0, 1, 4, 5, 6, 11, 15], 28,
 (.seq
 (.ops [
 ⟨(some 4), none, .mov (.c (.int .i64 0))⟩] [4])
 (.seq
 (.seq
 (.ops [
 ⟨(some 7), none, .mov (.t 0)⟩,
 ⟨(some 8), none, .lenS (.t 7)⟩,
 ⟨(some 9), none, .mov (.t 1)⟩,
 ⟨(some 10), none, .call (.c (.fn (.func 57) [] [])) [(.t 8), (.t 9)]⟩,
 ⟨(some 11), none, .not (.t 10)⟩] [11])
 (.cond (.t 11)
 (.seq
 (.ops [
 ⟨(some 4), none, .mov (.c (.int .i64 (-1)))⟩] [4])
 .ret)
 .skip))
 (.seq
 (.ops [
 ⟨(some 5), none, .mov (.c (.int .i64 0))⟩] [5])
 (.seq
 (.seq
 (.ops [
 ⟨(some 6), none, .mov (.c (.int .i64 0))⟩] [6])
 (.block 0
 (.loop
 (.seq
 (.seq
 (.ops [
 ⟨(some 12), none, .mov (.t 6)⟩,
 ⟨(some 13), none, .mov (.t 1)⟩,
 ⟨(some 14), none, .lenS (.t 13)⟩,
 ⟨(some 15), none, .bin .lss .no (.t 12) (.t 14)⟩] [15])
 (.cond (.t 15)
 .skip
 (.exit 0)))
 (.seq
 (.block 1
 (.ops [
 ⟨(some 18), none, .mov (.t 5)⟩,
 ⟨(some 19), none, .mov (.t 0)⟩,
 ⟨(some 20), none, .mov (.t 1)⟩,
 ⟨(some 21), none, .mov (.t 6)⟩,
 ⟨(some 22), none, .ixS 1 (.t 20) (.t 21)⟩,
 ⟨(some 23), none, .load none (.t 22)⟩,
 ⟨(some 24), none, .ixS 1 (.t 19) (.t 23)⟩,
 ⟨(some 25), none, .load none (.t 24)⟩,
 ⟨(some 26), none, .bin .add .no (.t 18) (.t 25)⟩,
 ⟨(some 5), none, .mov (.t 26)⟩] [5]))
 (.ops [
 ⟨(some 16), none, .mov (.t 6)⟩,
 ⟨(some 17), none, .bin .add .no (.t 16) (.c (.int .i64 1))⟩,
 ⟨(some 6), none, .mov (.t 17)⟩] [6]))))))
 (.seq
 (.ops [
 ⟨(some 27), none, .mov (.t 5)⟩,
 ⟨(some 4), none, .mov (.t 27)⟩] [4])
 .ret))))),
 [.tmp 4]⟩

/-- bellpull/bellpullref01.Before -/
noncomputable def sf33 : SFun := ⟨[0, 1, 4, 5, 15, 26], 41,
 (.seq
 (.ops [
 ⟨(some 4), none, .mov (.c (.bool false))⟩] [4])
 (.seq
 (.seq
 (.ops [
 ⟨(some 5), none, .mov (.c (.int .i64 0))⟩] [5])
 (.block 0
 (.loop
 (.seq
 (.seq
 (.ops [
 ⟨(some 6), none, .mov (.t 5)⟩,
 ⟨(some 7), none, .mov (.t 0)⟩,
 ⟨(some 8), none, .lenS (.t 7)⟩,
 ⟨(some 9), none, .bin .lss .no (.t 6) (.t 8)⟩,
 ⟨(some 10), none, .mov (.t 9)⟩,
 ⟨(some 11), (some (10, true)), .mov (.t 5)⟩,
 ⟨(some 12), (some (10, true)), .mov (.t 1)⟩,
 ⟨(some 13), (some (10, true)), .lenS (.t 12)⟩,
 ⟨(some 14), (some (10, true)), .bin .lss .no (.t 11) (.t 13)⟩,
 ⟨(some 15), none, .pick (.t 10) (.t 14) (.c (.bool false))⟩] [15])
 (.cond (.t 15)
 .skip
 (.exit 0)))
 (.seq
 (.block 1
 (.seq
 (.ops [
 ⟨(some 18), none, .mov (.t 0)⟩,
 ⟨(some 19), none, .mov (.t 5)⟩,
 ⟨(some 20), none, .ixS 1 (.t 18) (.t 19)⟩,
 ⟨(some 21), none, .load none (.t 20)⟩,
 ⟨(some 22), none, .mov (.t 1)⟩,
 ⟨(some 23), none, .mov (.t 5)⟩,
 ⟨(some 24), none, .ixS 1 (.t 22) (.t 23)⟩,
 ⟨(some 25), none, .load none (.t 24)⟩,
 ⟨(some 26), none, .bin .neq .no (.t 21) (.t 25)⟩] [26])
 (.cond (.t 26)
 (.seq
 (.ops [
 ⟨(some 27), none, .mov (.t 0)⟩,
 ⟨(some 28), none, .mov (.t 5)⟩,
 ⟨(some 29), none, .ixS 1 (.t 27) (.t 28)⟩,
 ⟨(some 30), none, .load none (.t 29)⟩,
 ⟨(some 31), none, .mov (.t 1)⟩,
 ⟨(some 32), none, .mov (.t 5)⟩,
 ⟨(some 33), none, .ixS 1 (.t 31) (.t 32)⟩,
 ⟨(some 34), none, .load none (.t 33)⟩,
 ⟨(some 35), none, .bin .lss .no (.t 30) (.t 34)⟩,
 ⟨(some 4), none, .mov (.t 35)⟩] [4])
 .ret)
 .skip)))
 (.ops [
 ⟨(some 16), none, .mov (.t 5)⟩,
 ⟨(some 17), none, .bin .add .no (.t 16) (.c (.int .i64 1))⟩,
 ⟨(some 5), none, .mov (.t 17)⟩] [5]))))))
 (.seq
 (.ops [
 ⟨(some 36), none, .mov (.t 0)⟩,
 ⟨(some 37), none, .lenS (.t 36)⟩,
 ⟨(some 38), none, .mov (.t 1)⟩,
 ⟨(some 39), none, .lenS (.t 38)⟩,
 ⟨(some 40), none, .bin .lss .no (.t 37) (.t 39)⟩,
 ⟨(some 4), none, .mov (.t 40)⟩] [4])
 .ret))),
 [.tmp 4]⟩

/-- bellpull/bellpullref08.Distinct -/
noncomputable def sf34 : SFun := ⟨[0, 2, 3, 4], 18,
 (.seq
 (.ops [
 ⟨(some 2), none, .mov (.c (.bool false))⟩] [2])
 (.seq
 (.ops [
 ⟨(some 7), none, .mov (.t 0)⟩,
 ⟨(some 8), none, .call (.c (.fn (.func 18) [] [])) [(.t 7)]⟩,
 ⟨(some 6), none, .mov (.t 8)⟩,
 ⟨(some 9), none, .ext (.t 6) 0⟩,
 ⟨(some 10), none, .ext (.t 6) 1⟩,
 ⟨(some 11), none, .ext (.t 6) 2⟩,
 ⟨(some 3), none, .mov (.t 9)⟩,
 ⟨(some 4), none, .mov (.t 10)⟩,
 ⟨(some 5), none, .mov (.t 11)⟩] [3, 4])
 (.seq
 (.ops [
 ⟨(some 12), none, .mov (.t 3)⟩,
 ⟨(some 13), none, .lenS (.t 12)⟩,
 ⟨(some 14), none, .mov (.t 4)⟩,
 ⟨(some 15), none, .lenS (.t 14)⟩,
 ⟨(some 16), none, .bin .add .no (.t 13) (.t 15)⟩,
 ⟨(some 17), none, .bin .eql .no (.t 16) (.c (.int .i64 0))⟩,
 ⟨(some 2), none, .mov (.t 17)⟩] [2])
 .ret))),
 [.tmp 2]⟩

/-- bellpull/bellpulllaw08.doubled -/
noncomputable def sf35 : SFun := ⟨[0, 1, 4, 5, 6, 7, 8, 9, 10, 11, 14, 29, 48, 71], 74,
 (.seq
 (.ops [
 ⟨(some 4), none, .mov (.c .nilsl)⟩] [4])
 (.seq
 (.seq
 (.ops [
 ⟨(some 11), none, .mov (.t 1)⟩] [11])
 (.cond (.t 11)
 (.seq
 (.ops [
 ⟨(some 5), none, .mov (.c (.int .i64 1))⟩] [5])
 (.seq
 (.seq
 (.ops [
 ⟨(some 12), none, .mov (.t 0)⟩,
 ⟨(some 13), none, .lenS (.t 12)⟩,
 ⟨(some 14), none, .bin .gtr .no (.t 13) (.c (.int .i64 0))⟩] [14])
 (.cond (.t 14)
 (.ops [
 ⟨(some 15), none, .mov (.t 0)⟩,
 ⟨(some 16), none, .ixS 1 (.t 15) (.c (.int .i64 0))⟩,
 ⟨(some 17), none, .load none (.t 16)⟩,
 ⟨(some 18), none, .conv .i64 (.t 17)⟩,
 ⟨(some 19), none, .bin .rem .no (.t 18) (.c (.int .i64 40))⟩,
 ⟨(some 20), none, .bin .add .no (.t 19) (.c (.int .i64 1))⟩,
 ⟨(some 5), none, .mov (.t 20)⟩] [5])
 .skip))
 (.seq
 (.ops [
 ⟨(some 21), none, .mov (.t 0)⟩,
 ⟨(some 22), none, .lenS (.t 21)⟩,
 ⟨(some 23), none, .mn (.t 22) (.c (.int .i64 11))⟩,
 ⟨(some 24), none, .bin .add .no (.t 23) (.c (.int .i64 1))⟩,
 ⟨(some 25), none, .call (.c (.fn (.func 29) [] [])) [(.t 24)]⟩,
 ⟨(some 6), none, .mov (.t 25)⟩] [6])
 (.seq
 (.seq
 (.ops [
 ⟨(some 7), none, .mov (.c (.int .i64 0))⟩] [7])
 (.block 0
 (.loop
 (.seq
 (.seq
 (.ops [
 ⟨(some 26), none, .mov (.t 7)⟩,
 ⟨(some 27), none, .mov (.t 6)⟩,
 ⟨(some 28), none, .lenS (.t 27)⟩,
 ⟨(some 29), none, .bin .lss .no (.t 26) (.t 28)⟩] [29])
 (.cond (.t 29)
 .skip
 (.exit 0)))
 (.seq
 (.block 1
 (.ops [
 ⟨(some 32), none, .mov (.t 6)⟩,
 ⟨(some 33), none, .mov (.t 7)⟩,
 ⟨(some 34), none, .ixS 1 (.t 32) (.t 33)⟩,
 ⟨(some 35), none, .load none (.t 34)⟩,
 ⟨(some 36), none, .mov (.t 5)⟩,
 ⟨(some 37), none, .bin .mul .no (.t 35) (.t 36)⟩,
 ⟨(some 38), none, .ixS 1 (.t 32) (.t 33)⟩,
 ⟨none, none, .store 1 (.t 38) (.t 37)⟩] []))
 (.ops [
 ⟨(some 30), none, .mov (.t 7)⟩,
 ⟨(some 31), none, .bin .add .no (.t 30) (.c (.int .i64 1))⟩,
 ⟨(some 7), none, .mov (.t 31)⟩] [7]))))))
 (.seq
 (.ops [
 ⟨(some 39), none, .mov (.t 6)⟩,
 ⟨(some 4), none, .mov (.t 39)⟩] [4])
 .ret)))))
 .skip))
 (.seq
 (.ops [
 ⟨(some 40), none, .buildS [(.int .i64 0)] 0 1 []⟩,
 ⟨(some 8), none, .mov (.t 40)⟩,
 ⟨(some 9), none, .mov (.c (.int .i64 0))⟩] [8, 9])
 (.seq
 (.seq
 (.ops [
 ⟨(some 10), none, .mov (.c (.int .i64 0))⟩] [10])
 (.block 2
 (.loop
 (.seq
 (.seq
 (.ops [
 ⟨(some 41), none, .mov (.t 10)⟩,
 ⟨(some 42), none, .mov (.t 0)⟩,
 ⟨(some 43), none, .lenS (.t 42)⟩,
 ⟨(some 44), none, .bin .lss .no (.t 41) (.t 43)⟩,
 ⟨(some 45), none, .mov (.t 44)⟩,
 ⟨(some 46), (some (45, true)), .mov (.t 10)⟩,
 ⟨(some 47), (some (45, true)), .bin .lss .no (.t 46) (.c (.int .i64 12))⟩,
 ⟨(some 48), none, .pick (.t 45) (.t 47) (.c (.bool false))⟩] [48])
 (.cond (.t 48)
 .skip
 (.exit 2)))
 (.seq
 (.block 3
 (.seq
 (.ops [
 ⟨(some 51), none, .mov (.t 8)⟩,
 ⟨(some 52), none, .mov (.t 9)⟩,
 ⟨(some 53), none, .bin .add .no (.t 52) (.c (.int .i64 1))⟩,
 ⟨(some 54), none, .mov (.t 0)⟩,
 ⟨(some 55), none, .mov (.t 10)⟩,
 ⟨(some 56), none, .ixS 1 (.t 54) (.t 55)⟩,
 ⟨(some 57), none, .load none (.t 56)⟩,
 ⟨(some 58), none, .conv .i64 (.t 57)⟩,
 ⟨(some 59), none, .bin .rem .no (.t 58) (.c (.int .i64 12))⟩,
 ⟨(some 60), none, .bin .add .no (.t 53) (.t 59)⟩,
 ⟨(some 61), none, .buildS [(.int .i64 0)] 1 1 [(0, (.t 60))]⟩,
 ⟨(some 62), none, .app true 1 (.t 51) (.t 61)⟩,
 ⟨(some 8), none, .mov (.t 62)⟩] [8])
 (.ops [
 ⟨(some 63), none, .mov (.t 9)⟩,
 ⟨(some 64), none, .mov (.t 8)⟩,
 ⟨(some 65), none, .mov (.t 10)⟩,
 ⟨(some 66), none, .ixS 1 (.t 64) (.t 65)⟩,
 ⟨(some 67), none, .load none (.t 66)⟩,
 ⟨(some 68), none, .bin .add .no (.t 63) (.t 67)⟩,
 ⟨(some 9), none, .mov (.t 68)⟩] [9])))
 (.ops [
 ⟨(some 49), none, .mov (.t 10)⟩,
 ⟨(some 50), none, .bin .add .no (.t 49) (.c (.int .i64 1))⟩,
 ⟨(some 10), none, .mov (.t 50)⟩] [10]))))))
 (.seq
 (.seq
 (.ops [
 ⟨(some 69), none, .mov (.t 8)⟩,
 ⟨(some 70), none, .lenS (.t 69)⟩,
 ⟨(some 71), none, .bin .eql .no (.t 70) (.c (.int .i64 0))⟩] [71])
 (.cond (.t 71)
 (.ops [
 ⟨(some 72), none, .buildS [(.int .i64 0)] 1 1 [(0, (.c (.int .i64 1)))]⟩,
 ⟨(some 8), none, .mov (.t 72)⟩] [8])
 .skip))
 (.seq
 (.ops [
 ⟨(some 73), none, .mov (.t 8)⟩,
 ⟨(some 4), none, .mov (.t 73)⟩] [4])
 .ret)))))),
 [.tmp 4]⟩

/-- bellpull/weigh.checked -/
noncomputable def sf36 : SFun := ⟨[0, 2], 5,
 (.seq
 (.ops [
 ⟨(some 2), none, .mov (.c (.int .i64 0))⟩] [2])
 (.seq
 (.ops [
 ⟨(some 3), none, .mov (.t 0)⟩,
 ⟨(some 4), none, .call (.c (.fn (.func 45) [] [])) [(.t 3), (.c (.int .i64 12)), (.c (.int .i64 0))]⟩,
 ⟨(some 2), none, .mov (.t 4)⟩] [2])
 .ret)),
 [.tmp 2]⟩

/-- bellpull/weigh.areDistinct -/
noncomputable def sf37 : SFun := ⟨[0, 1, 2, 3, 4, 7, 8], 24,
 (.seq
 (.ops [
 ⟨(some 1), none, .box (.t 0)⟩,
 ⟨(some 2), none, .mov (.c (.bool false))⟩] [1, 2])
 (.seq
 (.ops [
 ⟨(some 3), none, .new [.nilsl]⟩] [3])
 (.seq
 (.seq
 (.ops [
 ⟨(some 5), none, .load none (.t 1)⟩,
 ⟨(some 6), none, .lenS (.t 5)⟩,
 ⟨(some 7), none, .call (.c (.fn (.func 47) [] [])) [(.t 6)]⟩] [7])
 (.block 0
 (.rangeF (.t 7) (rfAt Tryd.prog 37 0).1 (rfAt Tryd.prog 37 0).2.1 (rfAt Tryd.prog 37 0).2.2 415 24)))
 (.seq
 (.ops [
 ⟨(some 15), none, .load none (.t 3)⟩,
 ⟨(some 16), none, .call (.c (.fn (.func 58) [] [])) [(.t 15)]⟩] [])
 (.seq
 (.draw [
 ⟨⟨(some 17), none, .load none (.t 3)⟩, true, false⟩,
 ⟨⟨(some 18), none, .call (.c (.fn (.func 59) [] [])) [(.t 17)]⟩, false, true⟩,
 ⟨⟨(some 19), none, .lenS (.t 18)⟩, false, false⟩,
 ⟨⟨(some 20), none, .load none (.t 1)⟩, true, false⟩,
 ⟨⟨(some 21), none, .lenS (.t 20)⟩, false, false⟩,
 ⟨⟨(some 22), none, .bin .shl .no (.c (.int .i64 1)) (.t 21)⟩, false, false⟩,
 ⟨⟨(some 23), none, .bin .eql .no (.t 19) (.t 22)⟩, false, false⟩,
 ⟨⟨(some 2), none, .mov (.t 23)⟩, false, false⟩] [0, 1, 3, 0, 8, 24, 63, 127] [2])
 .ret))))),
 [.tmp 2]⟩

/-- bellpull/weigh.first[bellpull/weigh.twin] -/
noncomputable def sf38 : SFun := ⟨[0, 1, 3, 4, 5, 6, 7, 8, 9, 12], 15,
 (.seq
 (.ops [
 ⟨(some 3), none, .box (.t 1)⟩,
 ⟨(some 4), none, .new [(.int .u64 0), (.int .u64 0)]⟩,
 ⟨(some 5), none, .new [(.bool false)]⟩] [3, 4, 5])
 (.seq
 (.seq
 (.ops [
 ⟨(some 8), none, .mov (.t 0)⟩] [8])
 (.block 0
 (.rangeF (.t 8) (rfAt Tryd.prog 38 0).1 (rfAt Tryd.prog 38 0).2.1 (rfAt Tryd.prog 38 0).2.2 5115 15)))
 (.seq
 (.ops [
 ⟨(some 7), none, .new [(.int .u64 0), (.int .u64 0)]⟩] [7])
 (.seq
 (.ops [
 ⟨(some 14), none, .load (some 2) (.t 7)⟩,
 ⟨none, none, .store 2 (.t 4) (.t 14)⟩,
 ⟨none, none, .store 1 (.t 5) (.c (.bool false))⟩] [])
 .ret)))),
 [.cell 4 (some 2), .cell 5 none]⟩

/-- bellpull/weigh.twins -/
noncomputable def sf39 : SFun := ⟨[0, 1, 2], 4,
 (.seq
 (.ops [
 ⟨(some 1), none, .box (.t 0)⟩,
 ⟨(some 2), none, .mov (.c .nilfn)⟩] [1, 2])
 (.seq
 (.ops [
 ⟨(some 3), none, .mkf 60 [] [(.t 1)]⟩,
 ⟨(some 2), none, .mov (.t 3)⟩] [2])
 .ret)),
 [.tmp 2]⟩

/-- (bellpull/weigh.twin).disjoint -/
noncomputable def sf40 : SFun := ⟨[0, 1, 2], 9,
 (.seq
 (.ops [
 ⟨(some 1), none, .box (.t 0)⟩,
 ⟨(some 2), none, .mov (.c (.bool false))⟩] [1, 2])
 (.seq
 (.ops [
 ⟨(some 3), none, .fa 0 (.t 1)⟩,
 ⟨(some 4), none, .load none (.t 3)⟩,
 ⟨(some 5), none, .fa 1 (.t 1)⟩,
 ⟨(some 6), none, .load none (.t 5)⟩,
 ⟨(some 7), none, .bin .and .no (.t 4) (.t 6)⟩,
 ⟨(some 8), none, .bin .eql .no (.t 7) (.c (.int .u64 0))⟩,
 ⟨(some 2), none, .mov (.t 8)⟩] [2])
 .ret)),
 [.tmp 2]⟩

/-- (bellpull/weigh.subset).indices -/
noncomputable def sf41 : SFun := ⟨[0, 2, 3, 4, 7, 8, 9, 13], 20,
 (.seq
 (.ops [
 ⟨(some 2), none, .mov (.c .nilsl)⟩] [2])
 (.seq
 (.ops [
 ⟨(some 3), none, .mov (.c .nilsl)⟩] [3])
 (.seq
 (.seq
 (.ops [
 ⟨(some 5), none, .mov (.t 0)⟩,
 ⟨(some 6), none, .call (.c (.fn (.func 61) [] [])) [(.t 5)]⟩,
 ⟨(some 7), none, .bin .add .no (.t 6) (.c (.int .i64 1))⟩,
 ⟨(some 8), none, .mov (.c (.int .i64 0))⟩] [7, 8])
 (.block 0
 (.loop
 (.seq
 (.ops [
 ⟨(some 9), none, .bin .lss .no (.t 8) (.t 7)⟩] [9])
 (.seq
 (.cond (.t 9)
 .skip
 (.exit 0))
 (.seq
 (.block 1
 (.seq
 (.ops [
 ⟨(some 10), none, .mov (.t 8)⟩,
 ⟨(some 4), none, .mov (.t 10)⟩] [4])
 (.seq
 (.ops [
 ⟨(some 11), none, .mov (.t 0)⟩,
 ⟨(some 12), none, .mov (.t 4)⟩,
 ⟨(some 13), none, .call (.c (.fn (.func 62) [] [])) [(.t 11), (.t 12)]⟩] [13])
 (.cond (.t 13)
 (.ops [
 ⟨(some 14), none, .mov (.t 3)⟩,
 ⟨(some 15), none, .mov (.t 4)⟩,
 ⟨(some 16), none, .buildS [(.int .i64 0)] 1 1 [(0, (.t 15))]⟩,
 ⟨(some 17), none, .app true 1 (.t 14) (.t 16)⟩,
 ⟨(some 3), none, .mov (.t 17)⟩] [3])
 .skip))))
 (.ops [
 ⟨(some 18), none, .bin .add .no (.t 8) (.c (.int .i64 1))⟩,
 ⟨(some 8), none, .mov (.t 18)⟩] [8])))))))
 (.seq
 (.ops [
 ⟨(some 19), none, .mov (.t 3)⟩,
 ⟨(some 2), none, .mov (.t 19)⟩] [2])
 .ret)))),
 [.tmp 2]⟩

/-- bellpull/weigh.Reciprocals -/
noncomputable def sf42 : SFun := ⟨[0, 2, 3, 4, 5, 6, 10, 19], 28,
 (.seq
 (.ops [
 ⟨(some 2), none, .mov (.c (.str []))⟩,
 ⟨(some 3), none, .mov (.c (.int .i64 0))⟩] [2, 3])
 (.seq
 (.seq
 (.ops [
 ⟨(some 7), none, .mov (.t 0)⟩,
 ⟨(some 8), none, .call (.c (.fn (.func 36) [] [])) [(.t 7)]⟩,
 ⟨(some 4), none, .mov (.t 8)⟩] [4])
 (.seq
 (.ops [
 ⟨(some 9), none, .mov (.t 4)⟩,
 ⟨(some 10), none, .bin .neq .no (.t 9) (.c (.int .i64 0))⟩] [10])
 (.cond (.t 10)
 (.seq
 (.ops [
 ⟨(some 11), none, .mov (.t 4)⟩,
 ⟨(some 2), none, .mov (.c (.str []))⟩,
 ⟨(some 3), none, .mov (.t 11)⟩] [2, 3])
 .ret)
 .skip)))
 (.seq
 (.ops [
 ⟨(some 13), none, .mov (.t 0)⟩,
 ⟨(some 14), none, .call (.c (.fn (.func 63) [] [])) [(.t 13)]⟩,
 ⟨(some 12), none, .mov (.t 14)⟩,
 ⟨(some 15), none, .ext (.t 12) 0⟩,
 ⟨(some 16), none, .ext (.t 12) 1⟩,
 ⟨(some 5), none, .new [(.int .i64 0), (.int .i64 0), (.int .i64 0), (.int .i64 0), (.int .i64 0), (.int .i64 0), (.int .i64 0), (.int .i64 0)]⟩,
 ⟨(some 6), none, .new [(.int .i64 0), (.int .i64 0), (.int .i64 0), (.int .i64 0), (.int .i64 0), (.int .i64 0), (.int .i64 0), (.int .i64 0)]⟩,
 ⟨none, none, .store 8 (.t 5) (.t 15)⟩,
 ⟨none, none, .store 8 (.t 6) (.t 16)⟩] [5, 6])
 (.seq
 (.seq
 (.ops [
 ⟨(some 17), none, .load (some 8) (.t 6)⟩,
 ⟨(some 18), none, .buildA [(.int .i64 0), (.int .i64 0), (.int .i64 0), (.int .i64 0), (.int .i64 0), (.int .i64 0), (.int .i64 0), (.int .i64 0)] 1 [(0, (.c (.int .i64 1)))]⟩,
 ⟨(some 19), none, .bin .eql (.flat 8) (.t 17) (.t 18)⟩] [19])
 (.cond (.t 19)
 (.seq
 (.ops [
 ⟨(some 20), none, .load (some 8) (.t 5)⟩,
 ⟨(some 21), none, .call (.c (.fn (.func 64) [] [])) [(.t 20)]⟩,
 ⟨(some 2), none, .mov (.t 21)⟩,
 ⟨(some 3), none, .mov (.c (.int .i64 0))⟩] [2, 3])
 .ret)
 .skip))
 (.seq
 (.draw [
 ⟨⟨(some 22), none, .load (some 8) (.t 5)⟩, true, false⟩,
 ⟨⟨(some 23), none, .call (.c (.fn (.func 64) [] [])) [(.t 22)]⟩, false, true⟩,
 ⟨⟨(some 24), none, .bin .add .str (.t 23) (.c (.str [47]))⟩, false, false⟩,
 ⟨⟨(some 25), none, .load (some 8) (.t 6)⟩, true, false⟩,
 ⟨⟨(some 26), none, .call (.c (.fn (.func 64) [] [])) [(.t 25)]⟩, false, true⟩,
 ⟨⟨(some 27), none, .bin .add .str (.t 24) (.t 26)⟩, false, false⟩,
 ⟨⟨(some 2), none, .mov (.t 27)⟩, false, false⟩,
 ⟨⟨(some 3), none, .mov (.c (.int .i64 0))⟩, false, false⟩] [0, 1, 3, 0, 11, 31, 63, 127] [2, 3])
 .ret))))),
 [.tmp 2, .tmp 3]⟩

/-- bellpull/bellpullref08.Sums -/
noncomputable def sf43 : SFun := ⟨[0, 2, 3, 4, 5, 6, 11, 18], 34,
 (.seq
 (.ops [
 ⟨(some 2), none, .mov (.c .nilsl)⟩] [2])
 (.seq
 (.ops [
 ⟨(some 7), none, .buildS [(.int .i64 0)] 1 1 [(0, (.c (.int .i64 0)))]⟩,
 ⟨(some 3), none, .mov (.t 7)⟩] [3])
 (.seq
 (.seq
 (.ops [
 ⟨(some 4), none, .mov (.c (.int .i64 0))⟩] [4])
 (.block 0
 (.loop
 (.seq
 (.seq
 (.ops [
 ⟨(some 8), none, .mov (.t 4)⟩,
 ⟨(some 9), none, .mov (.t 0)⟩,
 ⟨(some 10), none, .lenS (.t 9)⟩,
 ⟨(some 11), none, .bin .lss .no (.t 8) (.t 10)⟩] [11])
 (.cond (.t 11)
 .skip
 (.exit 0)))
 (.seq
 (.block 1
 (.seq
 (.ops [
 ⟨(some 14), none, .mov (.t 3)⟩,
 ⟨(some 15), none, .lenS (.t 14)⟩,
 ⟨(some 5), none, .mov (.t 15)⟩] [5])
 (.seq
 (.ops [
 ⟨(some 6), none, .mov (.c (.int .i64 0))⟩] [6])
 (.block 2
 (.loop
 (.seq
 (.seq
 (.ops [
 ⟨(some 16), none, .mov (.t 6)⟩,
 ⟨(some 17), none, .mov (.t 5)⟩,
 ⟨(some 18), none, .bin .lss .no (.t 16) (.t 17)⟩] [18])
 (.cond (.t 18)
 .skip
 (.exit 2)))
 (.seq
 (.block 3
 (.draw [
 ⟨⟨(some 21), none, .mov (.t 3)⟩, false, false⟩,
 ⟨⟨(some 22), none, .mov (.t 3)⟩, false, false⟩,
 ⟨⟨(some 23), none, .mov (.t 6)⟩, false, false⟩,
 ⟨⟨(some 24), none, .ixS 1 (.t 22) (.t 23)⟩, false, false⟩,
 ⟨⟨(some 25), none, .load none (.t 24)⟩, true, false⟩,
 ⟨⟨(some 26), none, .mov (.t 0)⟩, false, false⟩,
 ⟨⟨(some 27), none, .mov (.t 4)⟩, false, false⟩,
 ⟨⟨(some 28), none, .ixS 1 (.t 26) (.t 27)⟩, false, false⟩,
 ⟨⟨(some 29), none, .load none (.t 28)⟩, true, false⟩,
 ⟨⟨(some 30), none, .bin .add .no (.t 25) (.t 29)⟩, false, false⟩,
 ⟨⟨(some 31), none, .buildS [(.int .i64 0)] 1 1 [(0, (.t 30))]⟩, false, true⟩,
 ⟨⟨(some 32), none, .app true 1 (.t 21) (.t 31)⟩, false, true⟩,
 ⟨⟨(some 3), none, .mov (.t 32)⟩, false, false⟩] [0, 0, 0, 6, 14, 0, 0, 96, 224, 510, 1022, 2047, 4095] [3]))
 (.ops [
 ⟨(some 19), none, .mov (.t 6)⟩,
 ⟨(some 20), none, .bin .add .no (.t 19) (.c (.int .i64 1))⟩,
 ⟨(some 6), none, .mov (.t 20)⟩] [6]))))))))
 (.ops [
 ⟨(some 12), none, .mov (.t 4)⟩,
 ⟨(some 13), none, .bin .add .no (.t 12) (.c (.int .i64 1))⟩,
 ⟨(some 4), none, .mov (.t 13)⟩] [4]))))))
 (.seq
 (.ops [
 ⟨(some 33), none, .mov (.t 3)⟩,
 ⟨(some 2), none, .mov (.t 33)⟩] [2])
 .ret)))),
 [.tmp 2]⟩

/-- bellpull/bellpullref08.Indices -/
noncomputable def sf44 : SFun := ⟨[0, 2, 3, 4, 9, 16], 22,
 (.seq
 (.ops [
 ⟨(some 2), none, .mov (.c .nilsl)⟩] [2])
 (.seq
 (.ops [
 ⟨(some 5), none, .buildS [(.int .i64 0)] 0 1 []⟩,
 ⟨(some 3), none, .mov (.t 5)⟩] [3])
 (.seq
 (.seq
 (.ops [
 ⟨(some 4), none, .mov (.c (.int .i64 0))⟩] [4])
 (.block 0
 (.loop
 (.seq
 (.seq
 (.ops [
 ⟨(some 6), none, .mov (.t 0)⟩,
 ⟨(some 7), none, .mov (.t 4)⟩,
 ⟨(some 8), none, .bin .shr .no (.t 6) (.t 7)⟩,
 ⟨(some 9), none, .bin .gtr .no (.t 8) (.c (.int .i64 0))⟩] [9])
 (.cond (.t 9)
 .skip
 (.exit 0)))
 (.seq
 (.block 1
 (.seq
 (.ops [
 ⟨(some 12), none, .mov (.t 0)⟩,
 ⟨(some 13), none, .mov (.t 4)⟩,
 ⟨(some 14), none, .bin .shr .no (.t 12) (.t 13)⟩,
 ⟨(some 15), none, .bin .and .no (.t 14) (.c (.int .i64 1))⟩,
 ⟨(some 16), none, .bin .eql .no (.t 15) (.c (.int .i64 1))⟩] [16])
 (.cond (.t 16)
 (.ops [
 ⟨(some 17), none, .mov (.t 3)⟩,
 ⟨(some 18), none, .mov (.t 4)⟩,
 ⟨(some 19), none, .buildS [(.int .i64 0)] 1 1 [(0, (.t 18))]⟩,
 ⟨(some 20), none, .app true 1 (.t 17) (.t 19)⟩,
 ⟨(some 3), none, .mov (.t 20)⟩] [3])
 .skip)))
 (.ops [
 ⟨(some 10), none, .mov (.t 4)⟩,
 ⟨(some 11), none, .bin .add .no (.t 10) (.c (.int .i64 1))⟩,
 ⟨(some 4), none, .mov (.t 11)⟩] [4]))))))
 (.seq
 (.ops [
 ⟨(some 21), none, .mov (.t 3)⟩,
 ⟨(some 2), none, .mov (.t 21)⟩] [2])
 .ret)))),
 [.tmp 2]⟩

/-- bellpull/weigh.checkedTotal -/
noncomputable def sf45 : SFun := ⟨[0, 1, 2, 6, 7, 12, 15], 19,
 (.seq
 (.ops [
 ⟨(some 6), none, .mov (.c (.int .i64 0))⟩] [6])
 (.seq
 (.block 0
 (.seq
 (.ops [
 ⟨(some 8), none, .mov (.t 0)⟩,
 ⟨(some 9), none, .lenS (.t 8)⟩,
 ⟨(some 10), none, .mov (.t 1)⟩,
 ⟨(some 11), none, .bin .gtr .no (.t 9) (.t 10)⟩,
 ⟨(some 7), none, .mov (.t 11)⟩] [7])
 (.cond (.t 7)
 (.seq
 (.ops [
 ⟨(some 6), none, .mov (.c (.int .i64 3))⟩] [6])
 .ret)
 (.seq
 (.ops [
 ⟨(some 13), none, .mov (.t 2)⟩,
 ⟨(some 14), none, .bin .lss .no (.t 13) (.c (.int .i64 0))⟩,
 ⟨(some 12), none, .mov (.t 14)⟩] [12])
 (.cond (.t 12)
 (.seq
 (.ops [
 ⟨(some 6), none, .mov (.c (.int .i64 1))⟩] [6])
 .ret)
 (.seq
 (.ops [
 ⟨(some 16), none, .mov (.t 0)⟩,
 ⟨(some 17), none, .call (.c (.fn (.func 65) [] [])) [(.t 16)]⟩,
 ⟨(some 18), none, .not (.t 17)⟩,
 ⟨(some 15), none, .mov (.t 18)⟩] [15])
 (.cond (.t 15)
 (.seq
 (.ops [
 ⟨(some 6), none, .mov (.c (.int .i64 2))⟩] [6])
 .ret)
 .skip)))))))
 (.seq
 (.ops [
 ⟨(some 6), none, .mov (.c (.int .i64 0))⟩] [6])
 .ret))),
 [.tmp 6]⟩

/-- bellpull/weigh.first[bellpull/weigh.subset] -/
noncomputable def sf46 : SFun := ⟨[0, 1, 3, 4, 5, 6, 7, 8, 9, 12], 15,
 (.seq
 (.ops [
 ⟨(some 3), none, .box (.t 1)⟩,
 ⟨(some 4), none, .new [(.int .u64 0)]⟩,
 ⟨(some 5), none, .new [(.bool false)]⟩] [3, 4, 5])
 (.seq
 (.seq
 (.ops [
 ⟨(some 8), none, .mov (.t 0)⟩] [8])
 (.block 0
 (.rangeF (.t 8) (rfAt Tryd.prog 46 0).1 (rfAt Tryd.prog 46 0).2.1 (rfAt Tryd.prog 46 0).2.2 5115 15)))
 (.seq
 (.ops [
 ⟨(some 7), none, .mov (.c (.int .u64 0))⟩] [7])
 (.seq
 (.ops [
 ⟨(some 14), none, .mov (.t 7)⟩,
 ⟨none, none, .store 1 (.t 4) (.t 14)⟩,
 ⟨none, none, .store 1 (.t 5) (.c (.bool false))⟩] [])
 .ret)))),
 [.cell 4 none, .cell 5 none]⟩

/-- bellpull/weigh.subsets -/
noncomputable def sf47 : SFun := ⟨[0, 1, 2], 4,
 (.seq
 (.ops [
 ⟨(some 1), none, .box (.t 0)⟩,
 ⟨(some 2), none, .mov (.c .nilfn)⟩] [1, 2])
 (.seq
 (.ops [
 ⟨(some 3), none, .mkf 66 [] [(.t 1)]⟩,
 ⟨(some 2), none, .mov (.t 3)⟩] [2])
 .ret)),
 [.tmp 2]⟩

/-- bellpull/weigh.Subset$1 -/
noncomputable def sf48 : SFun := ⟨[0, 1, 2, 4], 10,
 (.seq
 (.ops [
 ⟨(some 4), none, .mov (.c (.bool false))⟩] [4])
 (.seq
 (.draw [
 ⟨⟨(some 5), none, .mov (.t 0)⟩, false, false⟩,
 ⟨⟨(some 6), none, .load none (.t 1)⟩, true, false⟩,
 ⟨⟨(some 7), none, .call (.c (.fn (.func 49) [] [])) [(.t 5), (.t 6)]⟩, false, true⟩,
 ⟨⟨(some 8), none, .load none (.t 2)⟩, true, false⟩,
 ⟨⟨(some 9), none, .bin .eql .no (.t 7) (.t 8)⟩, false, false⟩,
 ⟨⟨(some 4), none, .mov (.t 9)⟩, false, false⟩] [0, 0, 3, 0, 15, 31] [4])
 .ret)),
 [.tmp 4]⟩

/-- (bellpull/weigh.subset).sum -/
noncomputable def sf49 : SFun := ⟨[0, 1, 4, 5, 6, 7, 8, 9, 10, 11, 17], 23,
 (.seq
 (.ops [
 ⟨(some 4), none, .mov (.c (.int .i64 0))⟩] [4])
 (.seq
 (.ops [
 ⟨(some 5), none, .mov (.c (.int .i64 0))⟩] [5])
 (.seq
 (.seq
 (.ops [
 ⟨(some 8), none, .mov (.t 1)⟩,
 ⟨(some 9), none, .lenS (.t 8)⟩,
 ⟨(some 10), none, .mov (.c (.int .i64 0))⟩] [8, 9, 10])
 (.block 0
 (.loop
 (.seq
 (.ops [
 ⟨(some 11), none, .bin .lss .no (.t 10) (.t 9)⟩] [11])
 (.seq
 (.cond (.t 11)
 .skip
 (.exit 0))
 (.seq
 (.block 1
 (.seq
 (.ops [
 ⟨(some 12), none, .mov (.t 10)⟩,
 ⟨(some 13), none, .ixS 1 (.t 8) (.t 10)⟩,
 ⟨(some 14), none, .load none (.t 13)⟩,
 ⟨(some 6), none, .mov (.t 12)⟩,
 ⟨(some 7), none, .mov (.t 14)⟩] [6, 7])
 (.seq
 (.ops [
 ⟨(some 15), none, .mov (.t 0)⟩,
 ⟨(some 16), none, .mov (.t 6)⟩,
 ⟨(some 17), none, .call (.c (.fn (.func 62) [] [])) [(.t 15), (.t 16)]⟩] [17])
 (.cond (.t 17)
 (.ops [
 ⟨(some 18), none, .mov (.t 5)⟩,
 ⟨(some 19), none, .mov (.t 7)⟩,
 ⟨(some 20), none, .bin .add .no (.t 18) (.t 19)⟩,
 ⟨(some 5), none, .mov (.t 20)⟩] [5])
 .skip))))
 (.ops [
 ⟨(some 21), none, .bin .add .no (.t 10) (.c (.int .i64 1))⟩,
 ⟨(some 10), none, .mov (.t 21)⟩] [10])))))))
 (.seq
 (.ops [
 ⟨(some 22), none, .mov (.t 5)⟩,
 ⟨(some 4), none, .mov (.t 22)⟩] [4])
 .ret)))),
 [.tmp 4]⟩

/-- bellpull/weigh.first[bellpull/weigh.weighing] -/
noncomputable def sf50 : SFun := ⟨[0, 1, 3, 4, 5, 6, 7, 8, 9, 12], 15,
 (.seq
 (.ops [
 ⟨(some 3), none, .box (.t 1)⟩,
 ⟨(some 4), none, .new [(.int .i64 0), (.int .i64 0), (.int .i64 0), (.int .i64 0), (.int .i64 0), (.int .i64 0), (.int .i64 0), (.int .i64 0), (.int .i64 0)]⟩,
 ⟨(some 5), none, .new [(.bool false)]⟩] [3, 4, 5])
 (.seq
 (.seq
 (.ops [
 ⟨(some 8), none, .mov (.t 0)⟩] [8])
 (.block 0
 (.rangeF (.t 8) (rfAt Tryd.prog 50 0).1 (rfAt Tryd.prog 50 0).2.1 (rfAt Tryd.prog 50 0).2.2 5115 15)))
 (.seq
 (.ops [
 ⟨(some 7), none, .new [(.int .i64 0), (.int .i64 0), (.int .i64 0), (.int .i64 0), (.int .i64 0), (.int .i64 0), (.int .i64 0), (.int .i64 0), (.int .i64 0)]⟩] [7])
 (.seq
 (.ops [
 ⟨(some 14), none, .load (some 9) (.t 7)⟩,
 ⟨none, none, .store 9 (.t 4) (.t 14)⟩,
 ⟨none, none, .store 1 (.t 5) (.c (.bool false))⟩] [])
 .ret)))),
 [.cell 4 (some 9), .cell 5 none]⟩

/-- bellpull/weigh.weighings -/
noncomputable def sf51 : SFun := ⟨[0, 1, 2], 4,
 (.seq
 (.ops [
 ⟨(some 1), none, .box (.t 0)⟩,
 ⟨(some 2), none, .mov (.c .nilfn)⟩] [1, 2])
 (.seq
 (.ops [
 ⟨(some 3), none, .mkf 67 [] [(.t 1)]⟩,
 ⟨(some 2), none, .mov (.t 3)⟩] [2])
 .ret)),
 [.tmp 2]⟩

/-- bellpull/weigh.Pans$1 -/
noncomputable def sf52 : SFun := ⟨[0, 1, 2, 3, 4], 10,
 (.seq
 (.ops [
 ⟨(some 3), none, .box (.t 0)⟩,
 ⟨(some 4), none, .mov (.c (.bool false))⟩] [3, 4])
 (.seq
 (.draw [
 ⟨⟨(some 5), none, .load (some 9) (.t 3)⟩, true, false⟩,
 ⟨⟨(some 6), none, .load none (.t 1)⟩, true, false⟩,
 ⟨⟨(some 7), none, .call (.c (.fn (.func 53) [] [])) [(.t 5), (.t 6)]⟩, false, true⟩,
 ⟨⟨(some 8), none, .load none (.t 2)⟩, true, false⟩,
 ⟨⟨(some 9), none, .bin .eql .no (.t 7) (.t 8)⟩, false, false⟩,
 ⟨⟨(some 4), none, .mov (.t 9)⟩, false, false⟩] [0, 0, 3, 0, 15, 31] [4])
 .ret)),
 [.tmp 4]⟩

/-- (bellpull/weigh.weighing).total -/
noncomputable def sf53 : SFun := ⟨[0, 1, 2, 4, 5, 6, 7, 8, 9, 10, 11], 24,
 (.seq
 (.ops [
 ⟨(some 2), none, .box (.t 0)⟩,
 ⟨(some 4), none, .mov (.c (.int .i64 0))⟩] [2, 4])
 (.seq
 (.ops [
 ⟨(some 5), none, .mov (.c (.int .i64 0))⟩] [5])
 (.seq
 (.seq
 (.ops [
 ⟨(some 8), none, .mov (.t 1)⟩,
 ⟨(some 9), none, .lenS (.t 8)⟩,
 ⟨(some 10), none, .mov (.c (.int .i64 0))⟩] [8, 9, 10])
 (.block 0
 (.loop
 (.seq
 (.ops [
 ⟨(some 11), none, .bin .lss .no (.t 10) (.t 9)⟩] [11])
 (.seq
 (.cond (.t 11)
 .skip
 (.exit 0))
 (.seq
 (.block 1
 (.seq
 (.ops [
 ⟨(some 12), none, .mov (.t 10)⟩,
 ⟨(some 13), none, .ixS 1 (.t 8) (.t 10)⟩,
 ⟨(some 14), none, .load none (.t 13)⟩,
 ⟨(some 6), none, .mov (.t 12)⟩,
 ⟨(some 7), none, .mov (.t 14)⟩] [6, 7])
 (.ops [
 ⟨(some 15), none, .mov (.t 5)⟩,
 ⟨(some 16), none, .mov (.t 6)⟩,
 ⟨(some 17), none, .ixA 9 1 (.t 2) (.t 16)⟩,
 ⟨(some 18), none, .load none (.t 17)⟩,
 ⟨(some 19), none, .mov (.t 7)⟩,
 ⟨(some 20), none, .bin .mul .no (.t 18) (.t 19)⟩,
 ⟨(some 21), none, .bin .add .no (.t 15) (.t 20)⟩,
 ⟨(some 5), none, .mov (.t 21)⟩] [5])))
 (.ops [
 ⟨(some 22), none, .bin .add .no (.t 10) (.c (.int .i64 1))⟩,
 ⟨(some 10), none, .mov (.t 22)⟩] [10])))))))
 (.seq
 (.ops [
 ⟨(some 23), none, .mov (.t 5)⟩,
 ⟨(some 4), none, .mov (.t 23)⟩] [4])
 .ret)))),
 [.tmp 4]⟩

/-- slices.Clone[[]int,int] -/
noncomputable def sf54 : SFun := ⟨[0, 2, 4], 8,
 (.seq
 (.ops [
 ⟨(some 2), none, .mov (.c .nilsl)⟩] [2])
 (.seq
 (.seq
 (.ops [
 ⟨(some 3), none, .mov (.t 0)⟩,
 ⟨(some 4), none, .bin .eql .slice (.t 3) (.c .nilsl)⟩] [4])
 (.cond (.t 4)
 (.seq
 (.ops [
 ⟨(some 2), none, .mov (.c .nilsl)⟩] [2])
 .ret)
 .skip))
 (.seq
 (.ops [
 ⟨(some 5), none, .buildS [(.int .i64 0)] 0 1 []⟩,
 ⟨(some 6), none, .mov (.t 0)⟩,
 ⟨(some 7), none, .app true 1 (.t 5) (.t 6)⟩,
 ⟨(some 2), none, .mov (.t 7)⟩] [2])
 .ret))),
 [.tmp 2]⟩

/-- bellpull/weigh.within -/
noncomputable def sf55 : SFun := ⟨[0, 1, 2, 6], 15,
 (.seq
 (.ops [
 ⟨(some 6), none, .mov (.c (.bool false))⟩] [6])
 (.seq
 (.ops [
 ⟨(some 7), none, .mov (.t 1)⟩,
 ⟨(some 8), none, .mov (.t 0)⟩,
 ⟨(some 9), none, .bin .leq .no (.t 7) (.t 8)⟩,
 ⟨(some 10), none, .mov (.t 9)⟩,
 ⟨(some 11), (some (10, true)), .mov (.t 0)⟩,
 ⟨(some 12), (some (10, true)), .mov (.t 2)⟩,
 ⟨(some 13), (some (10, true)), .bin .leq .no (.t 11) (.t 12)⟩,
 ⟨(some 14), none, .pick (.t 10) (.t 13) (.c (.bool false))⟩,
 ⟨(some 6), none, .mov (.t 14)⟩] [6])
 .ret)),
 [.tmp 6]⟩

/-- bellpull/weigh.terms -/
noncomputable def sf56 : SFun := ⟨[0, 2, 3, 4, 8], 32,
 (.seq
 (.ops [
 ⟨(some 2), none, .mov (.c .nilsl)⟩] [2])
 (.seq
 (.ops [
 ⟨(some 5), none, .buildS [(.int .i64 0)] 2 1 [(0, (.c (.int .i64 0))), (1, (.c (.int .i64 1)))]⟩,
 ⟨(some 3), none, .mov (.t 5)⟩] [3])
 (.seq
 (.seq
 (.ops [
 ⟨(some 4), none, .mov (.c (.int .i64 1))⟩] [4])
 (.block 0
 (.loop
 (.seq
 (.seq
 (.ops [
 ⟨(some 6), none, .mov (.t 4)⟩,
 ⟨(some 7), none, .mov (.t 0)⟩,
 ⟨(some 8), none, .bin .lss .no (.t 6) (.t 7)⟩] [8])
 (.cond (.t 8)
 .skip
 (.exit 0)))
 (.seq
 (.block 1
 (.draw [
 ⟨⟨(some 11), none, .mov (.t 3)⟩, false, false⟩,
 ⟨⟨(some 12), none, .mov (.t 3)⟩, false, false⟩,
 ⟨⟨(some 13), none, .mov (.t 4)⟩, false, false⟩,
 ⟨⟨(some 14), none, .ixS 1 (.t 12) (.t 13)⟩, false, false⟩,
 ⟨⟨(some 15), none, .load none (.t 14)⟩, true, false⟩,
 ⟨⟨(some 16), none, .bin .mul .no (.c (.int .i64 2)) (.t 15)⟩, false, false⟩,
 ⟨⟨(some 17), none, .mov (.t 3)⟩, false, false⟩,
 ⟨⟨(some 18), none, .mov (.t 4)⟩, false, false⟩,
 ⟨⟨(some 19), none, .mov (.t 4)⟩, false, false⟩,
 ⟨⟨(some 20), none, .bin .mul .no (.c (.int .i64 2)) (.t 19)⟩, false, false⟩,
 ⟨⟨(some 21), none, .call (.c (.fn (.func 68) [] [])) [(.t 20)]⟩, false, true⟩,
 ⟨⟨(some 22), none, .bin .sub .no (.t 18) (.t 21)⟩, false, false⟩,
 ⟨⟨(some 23), none, .ixS 1 (.t 17) (.t 22)⟩, false, false⟩,
 ⟨⟨(some 24), none, .load none (.t 23)⟩, true, false⟩,
 ⟨⟨(some 25), none, .bin .sub .no (.t 16) (.t 24)⟩, false, false⟩,
 ⟨⟨(some 26), none, .buildS [(.int .i64 0)] 1 1 [(0, (.t 25))]⟩, false, true⟩,
 ⟨⟨(some 27), none, .app true 1 (.t 11) (.t 26)⟩, false, true⟩,
 ⟨⟨(some 3), none, .mov (.t 27)⟩, false, false⟩] [0, 0, 0, 6, 14, 30, 0, 0, 0, 256, 768, 1920, 4032, 8128, 16382, 32766, 65535, 131071] [3]))
 (.ops [
 ⟨(some 9), none, .mov (.t 4)⟩,
 ⟨(some 10), none, .bin .add .no (.t 9) (.c (.int .i64 1))⟩,
 ⟨(some 4), none, .mov (.t 10)⟩] [4]))))))
 (.seq
 (.ops [
 ⟨(some 28), none, .mov (.t 3)⟩,
 ⟨(some 29), none, .mov (.t 0)⟩,
 ⟨(some 30), none, .bin .add .no (.t 29) (.c (.int .i64 1))⟩,
 ⟨(some 31), none, .slice 1 (.t 28) none (some (.t 30))⟩,
 ⟨(some 2), none, .mov (.t 31)⟩] [2])
 .ret)))),
 [.tmp 2]⟩

/-- bellpull/bellpullref01.Rising -/
noncomputable def sf57 : SFun := ⟨[0, 1, 4, 5, 9, 35], 36,
 (.seq
 (.ops [
 ⟨(some 4), none, .mov (.c (.bool false))⟩] [4])
 (.seq
 (.seq
 (.ops [
 ⟨(some 5), none, .mov (.c (.int .i64 0))⟩] [5])
 (.block 0
 (.loop
 (.seq
 (.seq
 (.ops [
 ⟨(some 6), none, .mov (.t 5)⟩,
 ⟨(some 7), none, .mov (.t 1)⟩,
 ⟨(some 8), none, .lenS (.t 7)⟩,
 ⟨(some 9), none, .bin .lss .no (.t 6) (.t 8)⟩] [9])
 (.cond (.t 9)
 .skip
 (.exit 0)))
 (.seq
 (.block 1
 (.seq
 (.draw [
 ⟨⟨(some 12), none, .mov (.t 1)⟩, false, false⟩,
 ⟨⟨(some 13), none, .mov (.t 5)⟩, false, false⟩,
 ⟨⟨(some 14), none, .ixS 1 (.t 12) (.t 13)⟩, false, false⟩,
 ⟨⟨(some 15), none, .load none (.t 14)⟩, true, false⟩,
 ⟨⟨(some 16), none, .mov (.t 0)⟩, false, false⟩,
 ⟨⟨(some 17), none, .bin .sub .no (.t 16) (.c (.int .i64 1))⟩, false, false⟩,
 ⟨⟨(some 18), none, .call (.c (.fn (.func 27) [] [])) [(.t 15), (.c (.int .i64 0)), (.t 17)]⟩, false, true⟩,
 ⟨⟨(some 19), none, .not (.t 18)⟩, false, false⟩,
 ⟨⟨(some 20), none, .mov (.t 19)⟩, false, false⟩,
 ⟨⟨(some 21), (some (20, false)), .mov (.t 5)⟩, false, false⟩,
 ⟨⟨(some 22), (some (20, false)), .bin .gtr .no (.t 21) (.c (.int .i64 0))⟩, false, false⟩,
 ⟨⟨(some 23), (some (20, false)), .mov (.t 22)⟩, false, false⟩,
 ⟨⟨(some 24), (some (23, true)), .mov (.t 1)⟩, false, false⟩,
 ⟨⟨(some 25), (some (23, true)), .mov (.t 5)⟩, false, false⟩,
 ⟨⟨(some 26), (some (23, true)), .ixS 1 (.t 24) (.t 25)⟩, false, false⟩,
 ⟨⟨(some 27), (some (23, true)), .load none (.t 26)⟩, true, false⟩,
 ⟨⟨(some 28), (some (23, true)), .mov (.t 1)⟩, false, false⟩,
 ⟨⟨(some 29), (some (23, true)), .mov (.t 5)⟩, false, false⟩,
 ⟨⟨(some 30), (some (23, true)), .bin .sub .no (.t 29) (.c (.int .i64 1))⟩, false, false⟩,
 ⟨⟨(some 31), (some (23, true)), .ixS 1 (.t 28) (.t 30)⟩, false, false⟩,
 ⟨⟨(some 32), (some (23, true)), .load none (.t 31)⟩, true, false⟩,
 ⟨⟨(some 33), (some (23, true)), .bin .leq .no (.t 27) (.t 32)⟩, false, false⟩,
 ⟨⟨(some 34), (some (20, false)), .pick (.t 23) (.t 33) (.c (.bool false))⟩, false, false⟩,
 ⟨⟨(some 35), none, .pick (.t 20) (.c (.bool true)) (.t 34)⟩, false, false⟩] [0, 0, 3, 7, 0, 16, 63, 127, 255, 511, 1023, 2047, 4095, 4095, 16383, 32767, 4095, 4095, 135167, 462847, 987135, 2097151, 4194303, 8388607] [35])
 (.cond (.t 35)
 (.seq
 (.ops [
 ⟨(some 4), none, .mov (.c (.bool false))⟩] [4])
 .ret)
 .skip)))
 (.ops [
 ⟨(some 10), none, .mov (.t 5)⟩,
 ⟨(some 11), none, .bin .add .no (.t 10) (.c (.int .i64 1))⟩,
 ⟨(some 5), none, .mov (.t 11)⟩] [5]))))))
 (.seq
 (.ops [
 ⟨(some 4), none, .mov (.c (.bool true))⟩] [4])
 .ret))),
 [.tmp 4]⟩

/-- slices.Sort[[]int,int] -/
noncomputable def sf58 : SFun := ⟨[0, 2], 11,
 (.seq
 (.ops [
 ⟨(some 3), none, .mov (.t 0)⟩,
 ⟨(some 4), none, .lenS (.t 3)⟩,
 ⟨(some 2), none, .mov (.t 4)⟩] [2])
 (.ops [
 ⟨(some 5), none, .mov (.t 0)⟩,
 ⟨(some 6), none, .mov (.t 2)⟩,
 ⟨(some 7), none, .mov (.t 2)⟩,
 ⟨(some 8), none, .conv .u64 (.t 7)⟩,
 ⟨(some 9), none, .call (.c (.fn (.func 70) [] [])) [(.t 8)]⟩,
 ⟨(some 10), none, .call (.c (.fn (.func 69) [] [])) [(.t 5), (.c (.int .i64 0)), (.t 6), (.t 9)]⟩] [])),
 []⟩

/-- slices.Compact[[]int,int] -/
noncomputable def sf59 : SFun := ⟨[0, 2, 3, 4, 5, 8, 13, 25, 32, 44], 61,
 (.seq
 (.ops [
 ⟨(some 2), none, .mov (.c .nilsl)⟩] [2])
 (.seq
 (.seq
 (.ops [
 ⟨(some 6), none, .mov (.t 0)⟩,
 ⟨(some 7), none, .lenS (.t 6)⟩,
 ⟨(some 8), none, .bin .lss .no (.t 7) (.c (.int .i64 2))⟩] [8])
 (.cond (.t 8)
 (.seq
 (.ops [
 ⟨(some 9), none, .mov (.t 0)⟩,
 ⟨(some 2), none, .mov (.t 9)⟩] [2])
 .ret)
 .skip))
 (.seq
 (.seq
 (.ops [
 ⟨(some 3), none, .mov (.c (.int .i64 1))⟩] [3])
 (.block 0
 (.loop
 (.seq
 (.seq
 (.ops [
 ⟨(some 10), none, .mov (.t 3)⟩,
 ⟨(some 11), none, .mov (.t 0)⟩,
 ⟨(some 12), none, .lenS (.t 11)⟩,
 ⟨(some 13), none, .bin .lss .no (.t 10) (.t 12)⟩] [13])
 (.cond (.t 13)
 .skip
 (.exit 0)))
 (.seq
 (.block 1
 (.seq
 (.ops [
 ⟨(some 16), none, .mov (.t 0)⟩,
 ⟨(some 17), none, .mov (.t 3)⟩,
 ⟨(some 18), none, .ixS 1 (.t 16) (.t 17)⟩,
 ⟨(some 19), none, .load none (.t 18)⟩,
 ⟨(some 20), none, .mov (.t 0)⟩,
 ⟨(some 21), none, .mov (.t 3)⟩,
 ⟨(some 22), none, .bin .sub .no (.t 21) (.c (.int .i64 1))⟩,
 ⟨(some 23), none, .ixS 1 (.t 20) (.t 22)⟩,
 ⟨(some 24), none, .load none (.t 23)⟩,
 ⟨(some 25), none, .bin .eql .no (.t 19) (.t 24)⟩] [25])
 (.cond (.t 25)
 (.seq
 (.ops [
 ⟨(some 26), none, .mov (.t 0)⟩,
 ⟨(some 27), none, .mov (.t 3)⟩,
 ⟨(some 28), none, .slice 1 (.t 26) (some (.t 27)) none⟩,
 ⟨(some 4), none, .mov (.t 28)⟩] [4])
 (.seq
 (.seq
 (.ops [
 ⟨(some 5), none, .mov (.c (.int .i64 1))⟩] [5])
 (.block 2
 (.loop
 (.seq
 (.seq
 (.ops [
 ⟨(some 29), none, .mov (.t 5)⟩,
 ⟨(some 30), none, .mov (.t 4)⟩,
 ⟨(some 31), none, .lenS (.t 30)⟩,
 ⟨(some 32), none, .bin .lss .no (.t 29) (.t 31)⟩] [32])
 (.cond (.t 32)
 .skip
 (.exit 2)))
 (.seq
 (.block 3
 (.seq
 (.ops [
 ⟨(some 35), none, .mov (.t 4)⟩,
 ⟨(some 36), none, .mov (.t 5)⟩,
 ⟨(some 37), none, .ixS 1 (.t 35) (.t 36)⟩,
 ⟨(some 38), none, .load none (.t 37)⟩,
 ⟨(some 39), none, .mov (.t 4)⟩,
 ⟨(some 40), none, .mov (.t 5)⟩,
 ⟨(some 41), none, .bin .sub .no (.t 40) (.c (.int .i64 1))⟩,
 ⟨(some 42), none, .ixS 1 (.t 39) (.t 41)⟩,
 ⟨(some 43), none, .load none (.t 42)⟩,
 ⟨(some 44), none, .bin .neq .no (.t 38) (.t 43)⟩] [44])
 (.cond (.t 44)
 (.seq
 (.ops [
 ⟨(some 45), none, .mov (.t 0)⟩,
 ⟨(some 46), none, .mov (.t 3)⟩,
 ⟨(some 47), none, .mov (.t 4)⟩,
 ⟨(some 48), none, .mov (.t 5)⟩,
 ⟨(some 49), none, .ixS 1 (.t 47) (.t 48)⟩,
 ⟨(some 50), none, .load none (.t 49)⟩,
 ⟨(some 51), none, .ixS 1 (.t 45) (.t 46)⟩,
 ⟨none, none, .store 1 (.t 51) (.t 50)⟩] [])
 (.ops [
 ⟨(some 52), none, .mov (.t 3)⟩,
 ⟨(some 53), none, .bin .add .no (.t 52) (.c (.int .i64 1))⟩,
 ⟨(some 3), none, .mov (.t 53)⟩] [3]))
 .skip)))
 (.ops [
 ⟨(some 33), none, .mov (.t 5)⟩,
 ⟨(some 34), none, .bin .add .no (.t 33) (.c (.int .i64 1))⟩,
 ⟨(some 5), none, .mov (.t 34)⟩] [5]))))))
 (.seq
 (.ops [
 ⟨(some 54), none, .mov (.t 0)⟩,
 ⟨(some 55), none, .mov (.t 3)⟩,
 ⟨(some 56), none, .slice 1 (.t 54) (some (.t 55)) none⟩,
 ⟨none, none, .clr 1 [(.int .i64 0)] (.t 56)⟩] [])
 (.seq
 (.ops [
 ⟨(some 57), none, .mov (.t 0)⟩,
 ⟨(some 58), none, .mov (.t 3)⟩,
 ⟨(some 59), none, .slice 1 (.t 57) none (some (.t 58))⟩,
 ⟨(some 2), none, .mov (.t 59)⟩] [2])
 .ret))))
 .skip)))
 (.ops [
 ⟨(some 14), none, .mov (.t 3)⟩,
 ⟨(some 15), none, .bin .add .no (.t 14) (.c (.int .i64 1))⟩,
 ⟨(some 3), none, .mov (.t 15)⟩] [3]))))))
 (.seq
 (.ops [
 ⟨(some 60), none, .mov (.t 0)⟩,
 ⟨(some 2), none, .mov (.t 60)⟩] [2])
 .ret)))),
 [.tmp 2]⟩

/-- bellpull/weigh.twins$1 -/
noncomputable def sf60 : SFun := ⟨[0, 1, 2, 3, 4, 5, 6, 7, 9, 13, 14, 28, 29, 41, 42, 43, 44, 52], 54,
 (.seq
 (.ops [
 ⟨(some 2), none, .box (.t 0)⟩] [2])
 (.seq
 (.ops [
 ⟨(some 10), none, .mkm none⟩,
 ⟨(some 3), none, .new [.nilmp]⟩,
 ⟨none, none, .store 1 (.t 3) (.t 10)⟩] [3])
 (.seq
 (.seq
 (.ops [
 ⟨(some 11), none, .load none (.t 1)⟩,
 ⟨(some 12), none, .lenS (.t 11)⟩,
 ⟨(some 13), none, .call (.c (.fn (.func 47) [] [])) [(.t 12)]⟩] [13])
 (.block 0
 (.rangeF (.t 13) (rfAt Tryd.prog 60 0).1 (rfAt Tryd.prog 60 0).2.1 (rfAt Tryd.prog 60 0).2.2 4536585781535487 54)))
 (.seq
 (.ops [
 ⟨(some 26), none, .load none (.t 1)⟩,
 ⟨(some 27), none, .lenS (.t 26)⟩,
 ⟨(some 28), none, .call (.c (.fn (.func 47) [] [])) [(.t 27)]⟩] [28])
 (.block 2
 (.rangeF (.t 28) (rfAt Tryd.prog 60 1).1 (rfAt Tryd.prog 60 1).2.1 (rfAt Tryd.prog 60 1).2.2 4536585781535487 54)))))),
 []⟩

/-- (bellpull/weigh.subset).last -/
noncomputable def sf61 : SFun := ⟨[0, 2], 6,
 (.seq
 (.ops [
 ⟨(some 2), none, .mov (.c (.int .i64 0))⟩] [2])
 (.seq
 (.ops [
 ⟨(some 3), none, .mov (.t 0)⟩,
 ⟨(some 4), none, .call (.c (.fn (.func 70) [] [])) [(.t 3)]⟩,
 ⟨(some 5), none, .bin .sub .no (.t 4) (.c (.int .i64 1))⟩,
 ⟨(some 2), none, .mov (.t 5)⟩] [2])
 .ret)),
 [.tmp 2]⟩

/-- (bellpull/weigh.subset).has -/
noncomputable def sf62 : SFun := ⟨[0, 1, 4], 10,
 (.seq
 (.ops [
 ⟨(some 4), none, .mov (.c (.bool false))⟩] [4])
 (.seq
 (.ops [
 ⟨(some 5), none, .mov (.t 0)⟩,
 ⟨(some 6), none, .mov (.t 1)⟩,
 ⟨(some 7), none, .bin .shr .no (.t 5) (.t 6)⟩,
 ⟨(some 8), none, .bin .and .no (.t 7) (.c (.int .u64 1))⟩,
 ⟨(some 9), none, .bin .eql .no (.t 8) (.c (.int .u64 1))⟩,
 ⟨(some 4), none, .mov (.t 9)⟩] [4])
 .ret)),
 [.tmp 4]⟩

/-- bellpull/weigh.reciprocals -/
noncomputable def sf63 : SFun := ⟨[0, 2, 3, 4, 6, 7, 9, 10, 12, 14, 16, 17, 19, 20, 21, 22, 29, 30, 31, 32, 46, 47, 48, 49], 75,
 (.seq
 (.ops [
 ⟨(some 2), none, .new [(.int .i64 0), (.int .i64 0), (.int .i64 0), (.int .i64 0), (.int .i64 0), (.int .i64 0), (.int .i64 0), (.int .i64 0)]⟩,
 ⟨(some 3), none, .new [(.int .i64 0), (.int .i64 0), (.int .i64 0), (.int .i64 0), (.int .i64 0), (.int .i64 0), (.int .i64 0), (.int .i64 0)]⟩] [2, 3])
 (.seq
 (.ops [
 ⟨(some 18), none, .buildA [(.int .i64 0), (.int .i64 0), (.int .i64 0), (.int .i64 0), (.int .i64 0), (.int .i64 0), (.int .i64 0), (.int .i64 0)] 1 [(0, (.c (.int .i64 1)))]⟩,
 ⟨(some 4), none, .new [(.int .i64 0), (.int .i64 0), (.int .i64 0), (.int .i64 0), (.int .i64 0), (.int .i64 0), (.int .i64 0), (.int .i64 0)]⟩,
 ⟨none, none, .store 8 (.t 4) (.t 18)⟩] [4])
 (.seq
 (.seq
 (.ops [
 ⟨(some 19), none, .mov (.t 0)⟩,
 ⟨(some 20), none, .lenS (.t 19)⟩,
 ⟨(some 21), none, .mov (.c (.int .i64 0))⟩] [19, 20, 21])
 (.block 0
 (.loop
 (.seq
 (.ops [
 ⟨(some 22), none, .bin .lss .no (.t 21) (.t 20)⟩] [22])
 (.seq
 (.cond (.t 22)
 .skip
 (.exit 0))
 (.seq
 (.block 1
 (.seq
 (.ops [
 ⟨(some 23), none, .ixS 1 (.t 19) (.t 21)⟩,
 ⟨(some 24), none, .load none (.t 23)⟩,
 ⟨(some 6), none, .mov (.t 24)⟩] [6])
 (.ops [
 ⟨(some 25), none, .load (some 8) (.t 4)⟩,
 ⟨(some 26), none, .mov (.t 6)⟩,
 ⟨(some 27), none, .call (.c (.fn (.func 71) [] [])) [(.t 25), (.t 26)]⟩,
 ⟨none, none, .store 8 (.t 4) (.t 27)⟩] [])))
 (.ops [
 ⟨(some 28), none, .bin .add .no (.t 21) (.c (.int .i64 1))⟩,
 ⟨(some 21), none, .mov (.t 28)⟩] [21])))))))
 (.seq
 (.ops [
 ⟨(some 7), none, .new [(.int .i64 0), (.int .i64 0), (.int .i64 0), (.int .i64 0), (.int .i64 0), (.int .i64 0), (.int .i64 0), (.int .i64 0)]⟩] [7])
 (.seq
 (.seq
 (.ops [
 ⟨(some 29), none, .mov (.t 0)⟩,
 ⟨(some 30), none, .lenS (.t 29)⟩,
 ⟨(some 31), none, .mov (.c (.int .i64 0))⟩] [29, 30, 31])
 (.block 2
 (.loop
 (.seq
 (.ops [
 ⟨(some 32), none, .bin .lss .no (.t 31) (.t 30)⟩] [32])
 (.seq
 (.cond (.t 32)
 .skip
 (.exit 2))
 (.seq
 (.block 3
 (.seq
 (.ops [
 ⟨(some 33), none, .ixS 1 (.t 29) (.t 31)⟩,
 ⟨(some 34), none, .load none (.t 33)⟩,
 ⟨(some 9), none, .mov (.t 34)⟩] [9])
 (.seq
 (.ops [
 ⟨(some 36), none, .load (some 8) (.t 4)⟩,
 ⟨(some 37), none, .mov (.t 9)⟩,
 ⟨(some 38), none, .call (.c (.fn (.func 72) [] [])) [(.t 36), (.t 37)]⟩,
 ⟨(some 35), none, .mov (.t 38)⟩,
 ⟨(some 39), none, .ext (.t 35) 0⟩,
 ⟨(some 40), none, .ext (.t 35) 1⟩,
 ⟨(some 10), none, .new [(.int .i64 0), (.int .i64 0), (.int .i64 0), (.int .i64 0), (.int .i64 0), (.int .i64 0), (.int .i64 0), (.int .i64 0)]⟩,
 ⟨none, none, .store 8 (.t 10) (.t 39)⟩,
 ⟨(some 11), none, .mov (.t 40)⟩] [10])
 (.ops [
 ⟨(some 41), none, .load (some 8) (.t 7)⟩,
 ⟨(some 42), none, .load (some 8) (.t 10)⟩,
 ⟨(some 43), none, .call (.c (.fn (.func 73) [] [])) [(.t 41), (.t 42)]⟩,
 ⟨none, none, .store 8 (.t 7) (.t 43)⟩] []))))
 (.ops [
 ⟨(some 44), none, .bin .add .no (.t 31) (.c (.int .i64 1))⟩,
 ⟨(some 31), none, .mov (.t 44)⟩] [31])))))))
 (.seq
 (.ops [
 ⟨(some 45), none, .buildA [(.int .i64 0), (.int .i64 0), (.int .i64 0), (.int .i64 0), (.int .i64 0), (.int .i64 0), (.int .i64 0), (.int .i64 0)] 1 [(0, (.c (.int .i64 1)))]⟩,
 ⟨(some 12), none, .new [(.int .i64 0), (.int .i64 0), (.int .i64 0), (.int .i64 0), (.int .i64 0), (.int .i64 0), (.int .i64 0), (.int .i64 0)]⟩,
 ⟨none, none, .store 8 (.t 12) (.t 45)⟩] [12])
 (.seq
 (.seq
 (.ops [
 ⟨(some 46), none, .mov (.t 0)⟩,
 ⟨(some 47), none, .lenS (.t 46)⟩,
 ⟨(some 48), none, .mov (.c (.int .i64 0))⟩] [46, 47, 48])
 (.block 4
 (.loop
 (.seq
 (.ops [
 ⟨(some 49), none, .bin .lss .no (.t 48) (.t 47)⟩] [49])
 (.seq
 (.cond (.t 49)
 .skip
 (.exit 4))
 (.seq
 (.block 5
 (.seq
 (.ops [
 ⟨(some 50), none, .ixS 1 (.t 46) (.t 48)⟩,
 ⟨(some 51), none, .load none (.t 50)⟩,
 ⟨(some 14), none, .mov (.t 51)⟩] [14])
 (.seq
 (.ops [
 ⟨(some 53), none, .load (some 8) (.t 7)⟩,
 ⟨(some 54), none, .mov (.t 14)⟩,
 ⟨(some 55), none, .call (.c (.fn (.func 72) [] [])) [(.t 53), (.t 54)]⟩,
 ⟨(some 52), none, .mov (.t 55)⟩,
 ⟨(some 56), none, .ext (.t 52) 0⟩,
 ⟨(some 57), none, .ext (.t 52) 1⟩,
 ⟨(some 15), none, .new [(.int .i64 0), (.int .i64 0), (.int .i64 0), (.int .i64 0), (.int .i64 0), (.int .i64 0), (.int .i64 0), (.int .i64 0)]⟩,
 ⟨none, none, .store 8 (.t 15) (.t 56)⟩,
 ⟨(some 16), none, .mov (.t 57)⟩] [16])
 (.seq
 (.ops [
 ⟨(some 58), none, .mov (.t 14)⟩,
 ⟨(some 59), none, .mov (.t 16)⟩,
 ⟨(some 60), none, .call (.c (.fn (.func 74) [] [])) [(.t 58), (.t 59)]⟩,
 ⟨(some 17), none, .mov (.t 60)⟩] [17])
 (.seq
 (.ops [
 ⟨(some 62), none, .load (some 8) (.t 7)⟩,
 ⟨(some 63), none, .mov (.t 17)⟩,
 ⟨(some 64), none, .call (.c (.fn (.func 72) [] [])) [(.t 62), (.t 63)]⟩,
 ⟨(some 61), none, .mov (.t 64)⟩,
 ⟨(some 65), none, .ext (.t 61) 0⟩,
 ⟨(some 66), none, .ext (.t 61) 1⟩,
 ⟨none, none, .store 8 (.t 7) (.t 65)⟩] [])
 (.draw [
 ⟨⟨(some 67), none, .load (some 8) (.t 12)⟩, true, false⟩,
 ⟨⟨(some 68), none, .mov (.t 14)⟩, false, false⟩,
 ⟨⟨(some 69), none, .mov (.t 17)⟩, false, false⟩,
 ⟨⟨(some 70), none, .bin .quo .no (.t 68) (.t 69)⟩, false, false⟩,
 ⟨⟨(some 71), none, .call (.c (.fn (.func 71) [] [])) [(.t 67), (.t 70)]⟩, false, true⟩,
 ⟨⟨none, none, .store 8 (.t 12) (.t 71)⟩, false, true⟩] [0, 0, 0, 6, 15, 31] []))))))
 (.ops [
 ⟨(some 72), none, .bin .add .no (.t 48) (.c (.int .i64 1))⟩,
 ⟨(some 48), none, .mov (.t 72)⟩] [48])))))))
 (.seq
 (.draw [
 ⟨⟨(some 73), none, .load (some 8) (.t 7)⟩, true, false⟩,
 ⟨⟨(some 74), none, .load (some 8) (.t 12)⟩, true, false⟩,
 ⟨⟨none, none, .store 8 (.t 2) (.t 73)⟩, false, true⟩,
 ⟨⟨none, none, .store 8 (.t 3) (.t 74)⟩, false, true⟩] [0, 0, 1, 7] [])
 .ret)))))))),
 [.cell 2 (some 8), .cell 3 (some 8)]⟩

/-- (bellpull/weigh.wide).text -/
noncomputable def sf64 : SFun := ⟨[0, 1, 2, 3, 5, 6, 7, 8], 19,
 (.seq
 (.ops [
 ⟨(some 1), none, .box (.t 0)⟩,
 ⟨(some 2), none, .mov (.c (.str []))⟩] [1, 2])
 (.seq
 (.ops [
 ⟨(some 3), none, .mov (.c (.str []))⟩] [3])
 (.seq
 (.seq
 (.ops [
 ⟨(some 6), none, .load (some 8) (.t 1)⟩,
 ⟨(some 7), none, .mov (.c (.int .i64 0))⟩] [6, 7])
 (.block 0
 (.loop
 (.seq
 (.ops [
 ⟨(some 8), none, .bin .lss .no (.t 7) (.c (.int .i64 8))⟩] [8])
 (.seq
 (.cond (.t 8)
 .skip
 (.exit 0))
 (.seq
 (.block 1
 (.seq
 (.ops [
 ⟨(some 9), none, .ix 8 1 none (.t 6) (.t 7)⟩,
 ⟨(some 5), none, .mov (.t 9)⟩] [5])
 (.ops [
 ⟨(some 10), none, .mov (.t 5)⟩,
 ⟨(some 11), none, .bin .add .no (.c (.int .i64 1000000000)) (.t 10)⟩,
 ⟨(some 12), none, .call (.c (.fn (.func 75) [] [])) [(.t 11)]⟩,
 ⟨(some 13), none, .slT (.t 12) (some (.c (.int .i64 1))) none⟩,
 ⟨(some 14), none, .mov (.t 3)⟩,
 ⟨(some 15), none, .bin .add .str (.t 13) (.t 14)⟩,
 ⟨(some 3), none, .mov (.t 15)⟩] [3])))
 (.ops [
 ⟨(some 16), none, .bin .add .no (.t 7) (.c (.int .i64 1))⟩,
 ⟨(some 7), none, .mov (.t 16)⟩] [7])))))))
 (.seq
 (.ops [
 ⟨(some 17), none, .mov (.t 3)⟩,
 ⟨(some 18), none, .call (.c (.fn (.func 76) [] [])) [(.t 17), (.c (.str [48]))]⟩,
 ⟨(some 2), none, .mov (.t 18)⟩] [2])
 .ret)))),
 [.tmp 2]⟩

/-- bellpull/weigh.areWeights -/
noncomputable def sf65 : SFun := ⟨[0, 2, 3, 5, 6, 7, 8, 9, 16], 22,
 (.seq
 (.ops [
 ⟨(some 2), none, .mov (.c (.bool false))⟩] [2])
 (.seq
 (.ops [
 ⟨(some 3), none, .mov (.c (.int .i64 0))⟩] [3])
 (.seq
 (.seq
 (.ops [
 ⟨(some 6), none, .mov (.t 0)⟩,
 ⟨(some 7), none, .lenS (.t 6)⟩,
 ⟨(some 8), none, .mov (.c (.int .i64 0))⟩] [6, 7, 8])
 (.block 0
 (.loop
 (.seq
 (.ops [
 ⟨(some 9), none, .bin .lss .no (.t 8) (.t 7)⟩] [9])
 (.seq
 (.cond (.t 9)
 .skip
 (.exit 0))
 (.seq
 (.block 1
 (.seq
 (.ops [
 ⟨(some 10), none, .ixS 1 (.t 6) (.t 8)⟩,
 ⟨(some 11), none, .load none (.t 10)⟩,
 ⟨(some 5), none, .mov (.t 11)⟩] [5])
 (.seq
 (.seq
 (.ops [
 ⟨(some 12), none, .mov (.t 5)⟩,
 ⟨(some 13), none, .mov (.t 3)⟩,
 ⟨(some 14), none, .bin .add .no (.t 13) (.c (.int .i64 1))⟩,
 ⟨(some 15), none, .call (.c (.fn (.func 55) [] [])) [(.t 12), (.t 14), (.c (.int .i64 100000))]⟩,
 ⟨(some 16), none, .not (.t 15)⟩] [16])
 (.cond (.t 16)
 (.seq
 (.ops [
 ⟨(some 2), none, .mov (.c (.bool false))⟩] [2])
 .ret)
 .skip))
 (.ops [
 ⟨(some 17), none, .mov (.t 5)⟩,
 ⟨(some 3), none, .mov (.t 17)⟩] [3]))))
 (.ops [
 ⟨(some 18), none, .bin .add .no (.t 8) (.c (.int .i64 1))⟩,
 ⟨(some 8), none, .mov (.t 18)⟩] [8])))))))
 (.seq
 (.ops [
 ⟨(some 19), none, .mov (.t 0)⟩,
 ⟨(some 20), none, .lenS (.t 19)⟩,
 ⟨(some 21), none, .bin .gtr .no (.t 20) (.c (.int .i64 0))⟩,
 ⟨(some 2), none, .mov (.t 21)⟩] [2])
 .ret)))),
 [.tmp 2]⟩

/-- bellpull/weigh.subsets$1 -/
noncomputable def sf66 : SFun := ⟨[0, 1, 3, 4, 7, 13, 19], 31,
 (.seq
 (.ops [
 ⟨(some 3), none, .mov (.c (.int .u64 0))⟩] [3])
 (.block 0
 (.loop
 (.seq
 (.seq
 (.ops [
 ⟨(some 5), none, .mov (.t 0)⟩,
 ⟨(some 6), none, .mov (.t 3)⟩,
 ⟨(some 7), none, .call (.t 5) [(.t 6)]⟩] [7])
 (.cond (.t 7)
 .skip
 (.exit 0)))
 (.block 1
 (.seq
 (.ops [
 ⟨(some 8), none, .mov (.t 3)⟩,
 ⟨(some 9), none, .call (.c (.fn (.func 61) [] [])) [(.t 8)]⟩,
 ⟨(some 4), none, .mov (.t 9)⟩] [4])
 (.seq
 (.seq
 (.ops [
 ⟨(some 10), none, .mov (.t 4)⟩,
 ⟨(some 11), none, .load none (.t 1)⟩,
 ⟨(some 12), none, .bin .sub .no (.t 11) (.c (.int .i64 1))⟩,
 ⟨(some 13), none, .bin .eql .no (.t 10) (.t 12)⟩] [13])
 (.cond (.t 13)
 (.seq
 (.ops [
 ⟨(some 14), none, .mov (.t 3)⟩,
 ⟨(some 15), none, .mov (.t 4)⟩,
 ⟨(some 16), none, .bin .shl .no (.c (.int .u64 1)) (.t 15)⟩,
 ⟨(some 17), none, .bin .xor .no (.t 14) (.t 16)⟩,
 ⟨(some 3), none, .mov (.t 17)⟩] [3])
 (.seq
 (.seq
 (.ops [
 ⟨(some 18), none, .mov (.t 3)⟩,
 ⟨(some 19), none, .bin .eql .no (.t 18) (.c (.int .u64 0))⟩] [19])
 (.cond (.t 19)
 .ret
 .skip))
 (.seq
 (.ops [
 ⟨(some 20), none, .mov (.t 3)⟩,
 ⟨(some 21), none, .call (.c (.fn (.func 61) [] [])) [(.t 20)]⟩,
 ⟨(some 4), none, .mov (.t 21)⟩] [4])
 (.ops [
 ⟨(some 22), none, .mov (.t 3)⟩,
 ⟨(some 23), none, .mov (.t 4)⟩,
 ⟨(some 24), none, .bin .shl .no (.c (.int .u64 1)) (.t 23)⟩,
 ⟨(some 25), none, .bin .xor .no (.t 22) (.t 24)⟩,
 ⟨(some 3), none, .mov (.t 25)⟩] [3]))))
 .skip))
 (.ops [
 ⟨(some 26), none, .mov (.t 3)⟩,
 ⟨(some 27), none, .mov (.t 4)⟩,
 ⟨(some 28), none, .bin .add .no (.t 27) (.c (.int .i64 1))⟩,
 ⟨(some 29), none, .bin .shl .no (.c (.int .u64 1)) (.t 28)⟩,
 ⟨(some 30), none, .bin .or .no (.t 26) (.t 29)⟩,
 ⟨(some 3), none, .mov (.t 30)⟩] [3])))))))),
 []⟩

/-- bellpull/weigh.weighings$1 -/
noncomputable def sf67 : SFun := ⟨[0, 1, 3, 4, 5, 6, 7, 8, 15, 25, 31], 37,
 (.seq
 (.ops [
 ⟨(some 3), none, .new [(.int .i64 0), (.int .i64 0), (.int .i64 0), (.int .i64 0), (.int .i64 0), (.int .i64 0), (.int .i64 0), (.int .i64 0), (.int .i64 0)]⟩] [3])
 (.seq
 (.seq
 (.ops [
 ⟨(some 6), none, .load none (.t 1)⟩,
 ⟨(some 7), none, .mov (.c (.int .i64 0))⟩] [6, 7])
 (.block 0
 (.loop
 (.seq
 (.ops [
 ⟨(some 8), none, .bin .lss .no (.t 7) (.t 6)⟩] [8])
 (.seq
 (.cond (.t 8)
 .skip
 (.exit 0))
 (.seq
 (.block 1
 (.seq
 (.ops [
 ⟨(some 9), none, .mov (.t 7)⟩,
 ⟨(some 4), none, .mov (.t 9)⟩] [4])
 (.ops [
 ⟨(some 10), none, .mov (.t 4)⟩,
 ⟨(some 11), none, .ixA 9 1 (.t 3) (.t 10)⟩,
 ⟨none, none, .store 1 (.t 11) (.c (.int .i64 1))⟩] [])))
 (.ops [
 ⟨(some 12), none, .bin .add .no (.t 7) (.c (.int .i64 1))⟩,
 ⟨(some 7), none, .mov (.t 12)⟩] [7])))))))
 (.block 2
 (.loop
 (.seq
 (.seq
 (.ops [
 ⟨(some 13), none, .mov (.t 0)⟩,
 ⟨(some 14), none, .load (some 9) (.t 3)⟩,
 ⟨(some 15), none, .call (.t 13) [(.t 14)]⟩] [15])
 (.cond (.t 15)
 .skip
 (.exit 2)))
 (.block 3
 (.seq
 (.ops [
 ⟨(some 16), none, .load none (.t 1)⟩,
 ⟨(some 17), none, .bin .sub .no (.t 16) (.c (.int .i64 1))⟩,
 ⟨(some 5), none, .mov (.t 17)⟩] [5])
 (.seq
 (.block 4
 (.loop
 (.seq
 (.seq
 (.ops [
 ⟨(some 18), none, .mov (.t 5)⟩,
 ⟨(some 19), none, .bin .geq .no (.t 18) (.c (.int .i64 0))⟩,
 ⟨(some 20), none, .mov (.t 19)⟩,
 ⟨(some 21), (some (20, true)), .mov (.t 5)⟩,
 ⟨(some 22), (some (20, true)), .ixA 9 1 (.t 3) (.t 21)⟩,
 ⟨(some 23), (some (20, true)), .load none (.t 22)⟩,
 ⟨(some 24), (some (20, true)), .bin .eql .no (.t 23) (.c (.int .i64 (-1)))⟩,
 ⟨(some 25), none, .pick (.t 20) (.t 24) (.c (.bool false))⟩] [25])
 (.cond (.t 25)
 .skip
 (.exit 4)))
 (.block 5
 (.seq
 (.ops [
 ⟨(some 26), none, .mov (.t 5)⟩,
 ⟨(some 27), none, .ixA 9 1 (.t 3) (.t 26)⟩,
 ⟨none, none, .store 1 (.t 27) (.c (.int .i64 1))⟩] [])
 (.ops [
 ⟨(some 28), none, .mov (.t 5)⟩,
 ⟨(some 29), none, .bin .sub .no (.t 28) (.c (.int .i64 1))⟩,
 ⟨(some 5), none, .mov (.t 29)⟩] [5]))))))
 (.seq
 (.seq
 (.ops [
 ⟨(some 30), none, .mov (.t 5)⟩,
 ⟨(some 31), none, .bin .lss .no (.t 30) (.c (.int .i64 0))⟩] [31])
 (.cond (.t 31)
 .ret
 .skip))
 (.ops [
 ⟨(some 32), none, .mov (.t 5)⟩,
 ⟨(some 33), none, .ixA 9 1 (.t 3) (.t 32)⟩,
 ⟨(some 34), none, .load none (.t 33)⟩,
 ⟨(some 35), none, .bin .sub .no (.t 34) (.c (.int .i64 1))⟩,
 ⟨(some 36), none, .ixA 9 1 (.t 3) (.t 32)⟩,
 ⟨none, none, .store 1 (.t 36) (.t 35)⟩] [])))))))))),
 []⟩

/-- bellpull/weigh.nearestRoot -/
noncomputable def sf68 : SFun := ⟨[0, 2, 3, 10], 14,
 (.seq
 (.ops [
 ⟨(some 2), none, .mov (.c (.int .i64 0))⟩] [2])
 (.seq
 (.ops [
 ⟨(some 3), none, .mov (.c (.int .i64 0))⟩] [3])
 (.seq
 (.block 0
 (.loop
 (.seq
 (.seq
 (.ops [
 ⟨(some 4), none, .mov (.t 0)⟩,
 ⟨(some 5), none, .mov (.t 3)⟩,
 ⟨(some 6), none, .mov (.t 3)⟩,
 ⟨(some 7), none, .bin .mul .no (.t 5) (.t 6)⟩,
 ⟨(some 8), none, .mov (.t 3)⟩,
 ⟨(some 9), none, .bin .add .no (.t 7) (.t 8)⟩,
 ⟨(some 10), none, .bin .gtr .no (.t 4) (.t 9)⟩] [10])
 (.cond (.t 10)
 .skip
 (.exit 0)))
 (.block 1
 (.ops [
 ⟨(some 11), none, .mov (.t 3)⟩,
 ⟨(some 12), none, .bin .add .no (.t 11) (.c (.int .i64 1))⟩,
 ⟨(some 3), none, .mov (.t 12)⟩] [3])))))
 (.seq
 (.ops [
 ⟨(some 13), none, .mov (.t 3)⟩,
 ⟨(some 2), none, .mov (.t 13)⟩] [2])
 .ret)))),
 [.tmp 2]⟩

/-- slices.pdqsortOrdered[int] -/
noncomputable def sf69 : SFun := ⟨[0, 1, 2, 3, 8, 9, 10, 11, 12, 13, 14, 15, 16, 17, 18, 23, 29, 35, 50, 68, 72, 87, 113], 134,
 (.seq
 (.ops [
 ⟨(some 8), none, .mov (.c (.bool true))⟩] [8])
 (.seq
 (.ops [
 ⟨(some 9), none, .mov (.c (.bool true))⟩] [9])
 (.block 0
 (.loop
 (.block 1
 (.seq
 (.ops [
 ⟨(some 19), none, .mov (.t 2)⟩,
 ⟨(some 20), none, .mov (.t 1)⟩,
 ⟨(some 21), none, .bin .sub .no (.t 19) (.t 20)⟩,
 ⟨(some 10), none, .mov (.t 21)⟩] [10])
 (.seq
 (.seq
 (.ops [
 ⟨(some 22), none, .mov (.t 10)⟩,
 ⟨(some 23), none, .bin .leq .no (.t 22) (.c (.int .i64 12))⟩] [23])
 (.cond (.t 23)
 (.seq
 (.ops [
 ⟨(some 24), none, .mov (.t 0)⟩,
 ⟨(some 25), none, .mov (.t 1)⟩,
 ⟨(some 26), none, .mov (.t 2)⟩,
 ⟨(some 27), none, .call (.c (.fn (.func 77) [] [])) [(.t 24), (.t 25), (.t 26)]⟩] [])
 .ret)
 .skip))
 (.seq
 (.seq
 (.ops [
 ⟨(some 28), none, .mov (.t 3)⟩,
 ⟨(some 29), none, .bin .eql .no (.t 28) (.c (.int .i64 0))⟩] [29])
 (.cond (.t 29)
 (.seq
 (.ops [
 ⟨(some 30), none, .mov (.t 0)⟩,
 ⟨(some 31), none, .mov (.t 1)⟩,
 ⟨(some 32), none, .mov (.t 2)⟩,
 ⟨(some 33), none, .call (.c (.fn (.func 78) [] [])) [(.t 30), (.t 31), (.t 32)]⟩] [])
 .ret)
 .skip))
 (.seq
 (.seq
 (.ops [
 ⟨(some 34), none, .mov (.t 8)⟩,
 ⟨(some 35), none, .not (.t 34)⟩] [35])
 (.cond (.t 35)
 (.seq
 (.ops [
 ⟨(some 36), none, .mov (.t 0)⟩,
 ⟨(some 37), none, .mov (.t 1)⟩,
 ⟨(some 38), none, .mov (.t 2)⟩,
 ⟨(some 39), none, .call (.c (.fn (.func 79) [] [])) [(.t 36), (.t 37), (.t 38)]⟩] [])
 (.ops [
 ⟨(some 40), none, .mov (.t 3)⟩,
 ⟨(some 41), none, .bin .sub .no (.t 40) (.c (.int .i64 1))⟩,
 ⟨(some 3), none, .mov (.t 41)⟩] [3]))
 .skip))
 (.seq
 (.ops [
 ⟨(some 43), none, .mov (.t 0)⟩,
 ⟨(some 44), none, .mov (.t 1)⟩,
 ⟨(some 45), none, .mov (.t 2)⟩,
 ⟨(some 46), none, .call (.c (.fn (.func 80) [] [])) [(.t 43), (.t 44), (.t 45)]⟩,
 ⟨(some 42), none, .mov (.t 46)⟩,
 ⟨(some 47), none, .ext (.t 42) 0⟩,
 ⟨(some 48), none, .ext (.t 42) 1⟩,
 ⟨(some 11), none, .mov (.t 47)⟩,
 ⟨(some 12), none, .mov (.t 48)⟩] [11, 12])
 (.seq
 (.seq
 (.ops [
 ⟨(some 49), none, .mov (.t 12)⟩,
 ⟨(some 50), none, .bin .eql .no (.t 49) (.c (.int .i64 2))⟩] [50])
 (.cond (.t 50)
 (.seq
 (.ops [
 ⟨(some 51), none, .mov (.t 0)⟩,
 ⟨(some 52), none, .mov (.t 1)⟩,
 ⟨(some 53), none, .mov (.t 2)⟩,
 ⟨(some 54), none, .call (.c (.fn (.func 81) [] [])) [(.t 51), (.t 52), (.t 53)]⟩] [])
 (.seq
 (.ops [
 ⟨(some 55), none, .mov (.t 2)⟩,
 ⟨(some 56), none, .bin .sub .no (.t 55) (.c (.int .i64 1))⟩,
 ⟨(some 57), none, .mov (.t 11)⟩,
 ⟨(some 58), none, .mov (.t 1)⟩,
 ⟨(some 59), none, .bin .sub .no (.t 57) (.t 58)⟩,
 ⟨(some 60), none, .bin .sub .no (.t 56) (.t 59)⟩,
 ⟨(some 11), none, .mov (.t 60)⟩] [11])
 (.ops [
 ⟨(some 12), none, .mov (.c (.int .i64 1))⟩] [12])))
 .skip))
 (.seq
 (.seq
 (.ops [
 ⟨(some 61), none, .mov (.t 8)⟩,
 ⟨(some 62), none, .mov (.t 61)⟩,
 ⟨(some 63), (some (62, true)), .mov (.t 9)⟩,
 ⟨(some 64), none, .pick (.t 62) (.t 63) (.c (.bool false))⟩,
 ⟨(some 65), none, .mov (.t 64)⟩,
 ⟨(some 66), (some (65, true)), .mov (.t 12)⟩,
 ⟨(some 67), (some (65, true)), .bin .eql .no (.t 66) (.c (.int .i64 1))⟩,
 ⟨(some 68), none, .pick (.t 65) (.t 67) (.c (.bool false))⟩] [68])
 (.cond (.t 68)
 (.seq
 (.ops [
 ⟨(some 69), none, .mov (.t 0)⟩,
 ⟨(some 70), none, .mov (.t 1)⟩,
 ⟨(some 71), none, .mov (.t 2)⟩,
 ⟨(some 72), none, .call (.c (.fn (.func 82) [] [])) [(.t 69), (.t 70), (.t 71)]⟩] [72])
 (.cond (.t 72)
 .ret
 .skip))
 .skip))
 (.seq
 (.seq
 (.draw [
 ⟨⟨(some 73), none, .mov (.t 1)⟩, false, false⟩,
 ⟨⟨(some 74), none, .bin .gtr .no (.t 73) (.c (.int .i64 0))⟩, false, false⟩,
 ⟨⟨(some 75), none, .mov (.t 74)⟩, false, false⟩,
 ⟨⟨(some 76), (some (75, true)), .mov (.t 0)⟩, false, false⟩,
 ⟨⟨(some 77), (some (75, true)), .mov (.t 1)⟩, false, false⟩,
 ⟨⟨(some 78), (some (75, true)), .bin .sub .no (.t 77) (.c (.int .i64 1))⟩, false, false⟩,
 ⟨⟨(some 79), (some (75, true)), .ixS 1 (.t 76) (.t 78)⟩, false, false⟩,
 ⟨⟨(some 80), (some (75, true)), .load none (.t 79)⟩, true, false⟩,
 ⟨⟨(some 81), (some (75, true)), .mov (.t 0)⟩, false, false⟩,
 ⟨⟨(some 82), (some (75, true)), .mov (.t 11)⟩, false, false⟩,
 ⟨⟨(some 83), (some (75, true)), .ixS 1 (.t 81) (.t 82)⟩, false, false⟩,
 ⟨⟨(some 84), (some (75, true)), .load none (.t 83)⟩, true, false⟩,
 ⟨⟨(some 85), (some (75, true)), .call (.c (.fn (.func 83) [] [])) [(.t 80), (.t 84)]⟩, false, true⟩,
 ⟨⟨(some 86), (some (75, true)), .not (.t 85)⟩, false, false⟩,
 ⟨⟨(some 87), none, .pick (.t 75) (.t 86) (.c (.bool false))⟩, false, false⟩] [0, 1, 3, 7, 7, 23, 63, 127, 7, 7, 775, 1799, 4095, 8191, 16383] [87])
 (.cond (.t 87)
 (.seq
 (.ops [
 ⟨(some 88), none, .mov (.t 0)⟩,
 ⟨(some 89), none, .mov (.t 1)⟩,
 ⟨(some 90), none, .mov (.t 2)⟩,
 ⟨(some 91), none, .mov (.t 11)⟩,
 ⟨(some 92), none, .call (.c (.fn (.func 84) [] [])) [(.t 88), (.t 89), (.t 90), (.t 91)]⟩,
 ⟨(some 13), none, .mov (.t 92)⟩] [13])
 (.seq
 (.ops [
 ⟨(some 93), none, .mov (.t 13)⟩,
 ⟨(some 1), none, .mov (.t 93)⟩] [1])
 (.exit 1)))
 .skip))
 (.seq
 (.ops [
 ⟨(some 95), none, .mov (.t 0)⟩,
 ⟨(some 96), none, .mov (.t 1)⟩,
 ⟨(some 97), none, .mov (.t 2)⟩,
 ⟨(some 98), none, .mov (.t 11)⟩,
 ⟨(some 99), none, .call (.c (.fn (.func 85) [] [])) [(.t 95), (.t 96), (.t 97), (.t 98)]⟩,
 ⟨(some 94), none, .mov (.t 99)⟩,
 ⟨(some 100), none, .ext (.t 94) 0⟩,
 ⟨(some 101), none, .ext (.t 94) 1⟩,
 ⟨(some 14), none, .mov (.t 100)⟩,
 ⟨(some 15), none, .mov (.t 101)⟩] [14, 15])
 (.seq
 (.ops [
 ⟨(some 102), none, .mov (.t 15)⟩,
 ⟨(some 9), none, .mov (.t 102)⟩] [9])
 (.seq
 (.ops [
 ⟨(some 103), none, .mov (.t 14)⟩,
 ⟨(some 104), none, .mov (.t 1)⟩,
 ⟨(some 105), none, .bin .sub .no (.t 103) (.t 104)⟩,
 ⟨(some 106), none, .mov (.t 2)⟩,
 ⟨(some 107), none, .mov (.t 14)⟩,
 ⟨(some 108), none, .bin .sub .no (.t 106) (.t 107)⟩,
 ⟨(some 16), none, .mov (.t 105)⟩,
 ⟨(some 17), none, .mov (.t 108)⟩] [16, 17])
 (.seq
 (.ops [
 ⟨(some 109), none, .mov (.t 10)⟩,
 ⟨(some 110), none, .bin .quo .no (.t 109) (.c (.int .i64 8))⟩,
 ⟨(some 18), none, .mov (.t 110)⟩] [18])
 (.seq
 (.ops [
 ⟨(some 111), none, .mov (.t 16)⟩,
 ⟨(some 112), none, .mov (.t 17)⟩,
 ⟨(some 113), none, .bin .lss .no (.t 111) (.t 112)⟩] [113])
 (.cond (.t 113)
 (.seq
 (.ops [
 ⟨(some 114), none, .mov (.t 16)⟩,
 ⟨(some 115), none, .mov (.t 18)⟩,
 ⟨(some 116), none, .bin .geq .no (.t 114) (.t 115)⟩,
 ⟨(some 8), none, .mov (.t 116)⟩] [8])
 (.seq
 (.ops [
 ⟨(some 117), none, .mov (.t 0)⟩,
 ⟨(some 118), none, .mov (.t 1)⟩,
 ⟨(some 119), none, .mov (.t 14)⟩,
 ⟨(some 120), none, .mov (.t 3)⟩,
 ⟨(some 121), none, .call (.c (.fn (.func 69) [] [])) [(.t 117), (.t 118), (.t 119), (.t 120)]⟩] [])
 (.ops [
 ⟨(some 122), none, .mov (.t 14)⟩,
 ⟨(some 123), none, .bin .add .no (.t 122) (.c (.int .i64 1))⟩,
 ⟨(some 1), none, .mov (.t 123)⟩] [1])))
 (.seq
 (.ops [
 ⟨(some 124), none, .mov (.t 17)⟩,
 ⟨(some 125), none, .mov (.t 18)⟩,
 ⟨(some 126), none, .bin .geq .no (.t 124) (.t 125)⟩,
 ⟨(some 8), none, .mov (.t 126)⟩] [8])
 (.seq
 (.ops [
 ⟨(some 127), none, .mov (.t 0)⟩,
 ⟨(some 128), none, .mov (.t 14)⟩,
 ⟨(some 129), none, .bin .add .no (.t 128) (.c (.int .i64 1))⟩,
 ⟨(some 130), none, .mov (.t 2)⟩,
 ⟨(some 131), none, .mov (.t 3)⟩,
 ⟨(some 132), none, .call (.c (.fn (.func 69) [] [])) [(.t 127), (.t 129), (.t 130), (.t 131)]⟩] [])
 (.ops [
 ⟨(some 133), none, .mov (.t 14)⟩,
 ⟨(some 2), none, .mov (.t 133)⟩] [2])))))))))))))))))))))),
 []⟩

/-- math/bits.Len -/
noncomputable def sf70 : SFun := ⟨[0, 2], 8,
 (.seq
 (.ops [
 ⟨(some 2), none, .mov (.c (.int .i64 0))⟩] [2])
 (.seq
 (.cond (.c (.bool false))
 (.seq
 (.ops [
 ⟨(some 3), none, .mov (.t 0)⟩,
 ⟨(some 4), none, .conv .u32 (.t 3)⟩,
 ⟨(some 5), none, .call (.c (.fn (.func 86) [] [])) [(.t 4)]⟩,
 ⟨(some 2), none, .mov (.t 5)⟩] [2])
 .ret)
 .skip)
 (.seq
 (.ops [
 ⟨(some 6), none, .mov (.t 0)⟩,
 ⟨(some 7), none, .call (.c (.fn (.func 87) [] [])) [(.t 6)]⟩,
 ⟨(some 2), none, .mov (.t 7)⟩] [2])
 .ret))),
 [.tmp 2]⟩

/-- (bellpull/weigh.wide).times -/
noncomputable def sf71 : SFun := ⟨[0, 1, 2, 4, 5, 6, 7, 8], 25,
 (.seq
 (.ops [
 ⟨(some 2), none, .box (.t 0)⟩,
 ⟨(some 4), none, .new [(.int .i64 0), (.int .i64 0), (.int .i64 0), (.int .i64 0), (.int .i64 0), (.int .i64 0), (.int .i64 0), (.int .i64 0)]⟩] [2, 4])
 (.seq
 (.ops [
 ⟨(some 5), none, .mov (.c (.int .i64 0))⟩] [5])
 (.seq
 (.seq
 (.ops [
 ⟨(some 7), none, .mov (.c (.int .i64 0))⟩] [7])
 (.block 0
 (.loop
 (.seq
 (.ops [
 ⟨(some 8), none, .bin .lss .no (.t 7) (.c (.int .i64 8))⟩] [8])
 (.seq
 (.cond (.t 8)
 .skip
 (.exit 0))
 (.seq
 (.block 1
 (.seq
 (.ops [
 ⟨(some 9), none, .mov (.t 7)⟩,
 ⟨(some 6), none, .mov (.t 9)⟩] [6])
 (.seq
 (.ops [
 ⟨(some 10), none, .mov (.t 5)⟩,
 ⟨(some 11), none, .mov (.t 6)⟩,
 ⟨(some 12), none, .ixA 8 1 (.t 2) (.t 11)⟩,
 ⟨(some 13), none, .load none (.t 12)⟩,
 ⟨(some 14), none, .mov (.t 1)⟩,
 ⟨(some 15), none, .bin .mul .no (.t 13) (.t 14)⟩,
 ⟨(some 16), none, .bin .add .no (.t 10) (.t 15)⟩,
 ⟨(some 5), none, .mov (.t 16)⟩] [5])
 (.seq
 (.ops [
 ⟨(some 17), none, .mov (.t 6)⟩,
 ⟨(some 18), none, .mov (.t 5)⟩,
 ⟨(some 19), none, .bin .rem .no (.t 18) (.c (.int .i64 1000000000))⟩,
 ⟨(some 20), none, .ixA 8 1 (.t 2) (.t 17)⟩,
 ⟨none, none, .store 1 (.t 20) (.t 19)⟩] [])
 (.ops [
 ⟨(some 21), none, .mov (.t 5)⟩,
 ⟨(some 22), none, .bin .quo .no (.t 21) (.c (.int .i64 1000000000))⟩,
 ⟨(some 5), none, .mov (.t 22)⟩] [5])))))
 (.ops [
 ⟨(some 23), none, .bin .add .no (.t 7) (.c (.int .i64 1))⟩,
 ⟨(some 7), none, .mov (.t 23)⟩] [7])))))))
 (.seq
 (.ops [
 ⟨(some 24), none, .load (some 8) (.t 2)⟩,
 ⟨none, none, .store 8 (.t 4) (.t 24)⟩] [])
 .ret)))),
 [.cell 4 (some 8)]⟩

/-- (bellpull/weigh.wide).divided -/
noncomputable def sf72 : SFun := ⟨[0, 1, 2, 4, 5, 6, 7, 9], 28,
 (.seq
 (.ops [
 ⟨(some 2), none, .box (.t 0)⟩,
 ⟨(some 4), none, .new [(.int .i64 0), (.int .i64 0), (.int .i64 0), (.int .i64 0), (.int .i64 0), (.int .i64 0), (.int .i64 0), (.int .i64 0)]⟩,
 ⟨(some 5), none, .mov (.c (.int .i64 0))⟩] [2, 4, 5])
 (.seq
 (.ops [
 ⟨(some 6), none, .mov (.c (.int .i64 0))⟩] [6])
 (.seq
 (.seq
 (.ops [
 ⟨(some 7), none, .mov (.c (.int .i64 7))⟩] [7])
 (.block 0
 (.loop
 (.seq
 (.seq
 (.ops [
 ⟨(some 8), none, .mov (.t 7)⟩,
 ⟨(some 9), none, .bin .geq .no (.t 8) (.c (.int .i64 0))⟩] [9])
 (.cond (.t 9)
 .skip
 (.exit 0)))
 (.seq
 (.block 1
 (.seq
 (.ops [
 ⟨(some 12), none, .mov (.t 6)⟩,
 ⟨(some 13), none, .bin .mul .no (.t 12) (.c (.int .i64 1000000000))⟩,
 ⟨(some 14), none, .mov (.t 7)⟩,
 ⟨(some 15), none, .ixA 8 1 (.t 2) (.t 14)⟩,
 ⟨(some 16), none, .load none (.t 15)⟩,
 ⟨(some 17), none, .bin .add .no (.t 13) (.t 16)⟩,
 ⟨(some 6), none, .mov (.t 17)⟩] [6])
 (.seq
 (.ops [
 ⟨(some 18), none, .mov (.t 7)⟩,
 ⟨(some 19), none, .mov (.t 6)⟩,
 ⟨(some 20), none, .mov (.t 1)⟩,
 ⟨(some 21), none, .bin .quo .no (.t 19) (.t 20)⟩,
 ⟨(some 22), none, .ixA 8 1 (.t 2) (.t 18)⟩,
 ⟨none, none, .store 1 (.t 22) (.t 21)⟩] [])
 (.ops [
 ⟨(some 23), none, .mov (.t 6)⟩,
 ⟨(some 24), none, .mov (.t 1)⟩,
 ⟨(some 25), none, .bin .rem .no (.t 23) (.t 24)⟩,
 ⟨(some 6), none, .mov (.t 25)⟩] [6]))))
 (.ops [
 ⟨(some 10), none, .mov (.t 7)⟩,
 ⟨(some 11), none, .bin .sub .no (.t 10) (.c (.int .i64 1))⟩,
 ⟨(some 7), none, .mov (.t 11)⟩] [7]))))))
 (.seq
 (.ops [
 ⟨(some 26), none, .load (some 8) (.t 2)⟩,
 ⟨(some 27), none, .mov (.t 6)⟩,
 ⟨none, none, .store 8 (.t 4) (.t 26)⟩,
 ⟨(some 5), none, .mov (.t 27)⟩] [5])
 .ret)))),
 [.cell 4 (some 8), .tmp 5]⟩

/-- (bellpull/weigh.wide).plus -/
noncomputable def sf73 : SFun := ⟨[0, 1, 2, 3, 4, 5, 6, 7, 8], 27,
 (.seq
 (.ops [
 ⟨(some 2), none, .box (.t 0)⟩,
 ⟨(some 3), none, .box (.t 1)⟩,
 ⟨(some 4), none, .new [(.int .i64 0), (.int .i64 0), (.int .i64 0), (.int .i64 0), (.int .i64 0), (.int .i64 0), (.int .i64 0), (.int .i64 0)]⟩] [2, 3, 4])
 (.seq
 (.ops [
 ⟨(some 5), none, .mov (.c (.int .i64 0))⟩] [5])
 (.seq
 (.seq
 (.ops [
 ⟨(some 7), none, .mov (.c (.int .i64 0))⟩] [7])
 (.block 0
 (.loop
 (.seq
 (.ops [
 ⟨(some 8), none, .bin .lss .no (.t 7) (.c (.int .i64 8))⟩] [8])
 (.seq
 (.cond (.t 8)
 .skip
 (.exit 0))
 (.seq
 (.block 1
 (.seq
 (.ops [
 ⟨(some 9), none, .mov (.t 7)⟩,
 ⟨(some 6), none, .mov (.t 9)⟩] [6])
 (.seq
 (.ops [
 ⟨(some 10), none, .mov (.t 5)⟩,
 ⟨(some 11), none, .mov (.t 6)⟩,
 ⟨(some 12), none, .ixA 8 1 (.t 2) (.t 11)⟩,
 ⟨(some 13), none, .load none (.t 12)⟩,
 ⟨(some 14), none, .mov (.t 6)⟩,
 ⟨(some 15), none, .ixA 8 1 (.t 3) (.t 14)⟩,
 ⟨(some 16), none, .load none (.t 15)⟩,
 ⟨(some 17), none, .bin .add .no (.t 13) (.t 16)⟩,
 ⟨(some 18), none, .bin .add .no (.t 10) (.t 17)⟩,
 ⟨(some 5), none, .mov (.t 18)⟩] [5])
 (.seq
 (.ops [
 ⟨(some 19), none, .mov (.t 6)⟩,
 ⟨(some 20), none, .mov (.t 5)⟩,
 ⟨(some 21), none, .bin .rem .no (.t 20) (.c (.int .i64 1000000000))⟩,
 ⟨(some 22), none, .ixA 8 1 (.t 2) (.t 19)⟩,
 ⟨none, none, .store 1 (.t 22) (.t 21)⟩] [])
 (.ops [
 ⟨(some 23), none, .mov (.t 5)⟩,
 ⟨(some 24), none, .bin .quo .no (.t 23) (.c (.int .i64 1000000000))⟩,
 ⟨(some 5), none, .mov (.t 24)⟩] [5])))))
 (.ops [
 ⟨(some 25), none, .bin .add .no (.t 7) (.c (.int .i64 1))⟩,
 ⟨(some 7), none, .mov (.t 25)⟩] [7])))))))
 (.seq
 (.ops [
 ⟨(some 26), none, .load (some 8) (.t 2)⟩,
 ⟨none, none, .store 8 (.t 4) (.t 26)⟩] [])
 .ret)))),
 [.cell 4 (some 8)]⟩

/-- bellpull/weigh.commonDivisor -/
noncomputable def sf74 : SFun := ⟨[0, 1, 4, 6], 12,
 (.seq
 (.ops [
 ⟨(some 4), none, .mov (.c (.int .i64 0))⟩] [4])
 (.seq
 (.block 0
 (.loop
 (.seq
 (.seq
 (.ops [
 ⟨(some 5), none, .mov (.t 1)⟩,
 ⟨(some 6), none, .bin .gtr .no (.t 5) (.c (.int .i64 0))⟩] [6])
 (.cond (.t 6)
 .skip
 (.exit 0)))
 (.block 1
 (.ops [
 ⟨(some 7), none, .mov (.t 1)⟩,
 ⟨(some 8), none, .mov (.t 0)⟩,
 ⟨(some 9), none, .mov (.t 1)⟩,
 ⟨(some 10), none, .bin .rem .no (.t 8) (.t 9)⟩,
 ⟨(some 0), none, .mov (.t 7)⟩,
 ⟨(some 1), none, .mov (.t 10)⟩] [0, 1])))))
 (.seq
 (.ops [
 ⟨(some 11), none, .mov (.t 0)⟩,
 ⟨(some 4), none, .mov (.t 11)⟩] [4])
 .ret))),
 [.tmp 4]⟩

/-- strconv.Itoa -/
noncomputable def sf75 : SFun := ⟨[0, 2], 5,
 (.seq
 (.ops [
 ⟨(some 2), none, .mov (.c (.str []))⟩] [2])
 (.seq
 (.ops [
 ⟨(some 3), none, .mov (.t 0)⟩,
 ⟨(some 4), none, .call (.c (.fn (.func 88) [] [])) [(.t 3)]⟩,
 ⟨(some 2), none, .mov (.t 4)⟩] [2])
 .ret)),
 [.tmp 2]⟩

/-- strings.TrimLeft -/
noncomputable def sf76 : SFun := ⟨[0, 1, 4, 5, 6, 12, 21, 31], 37,
 (.seq
 (.ops [
 ⟨(some 4), none, .mov (.c (.str []))⟩] [4])
 (.seq
 (.seq
 (.ops [
 ⟨(some 7), none, .mov (.t 0)⟩,
 ⟨(some 8), none, .bin .eql .str (.t 7) (.c (.str []))⟩,
 ⟨(some 9), none, .mov (.t 8)⟩,
 ⟨(some 10), (some (9, false)), .mov (.t 1)⟩,
 ⟨(some 11), (some (9, false)), .bin .eql .str (.t 10) (.c (.str []))⟩,
 ⟨(some 12), none, .pick (.t 9) (.c (.bool true)) (.t 11)⟩] [12])
 (.cond (.t 12)
 (.seq
 (.ops [
 ⟨(some 13), none, .mov (.t 0)⟩,
 ⟨(some 4), none, .mov (.t 13)⟩] [4])
 .ret)
 .skip))
 (.seq
 (.seq
 (.ops [
 ⟨(some 14), none, .mov (.t 1)⟩,
 ⟨(some 15), none, .lenT (.t 14)⟩,
 ⟨(some 16), none, .bin .eql .no (.t 15) (.c (.int .i64 1))⟩,
 ⟨(some 17), none, .mov (.t 16)⟩,
 ⟨(some 18), (some (17, true)), .mov (.t 1)⟩,
 ⟨(some 19), (some (17, true)), .ixT (.t 18) (.c (.int .i64 0))⟩,
 ⟨(some 20), (some (17, true)), .bin .lss .no (.t 19) (.c (.int .u8 128))⟩,
 ⟨(some 21), none, .pick (.t 17) (.t 20) (.c (.bool false))⟩] [21])
 (.cond (.t 21)
 (.seq
 (.ops [
 ⟨(some 22), none, .mov (.t 0)⟩,
 ⟨(some 23), none, .mov (.t 1)⟩,
 ⟨(some 24), none, .ixT (.t 23) (.c (.int .i64 0))⟩,
 ⟨(some 25), none, .call (.c (.fn (.func 89) [] [])) [(.t 22), (.t 24)]⟩,
 ⟨(some 4), none, .mov (.t 25)⟩] [4])
 .ret)
 .skip))
 (.seq
 (.seq
 (.ops [
 ⟨(some 27), none, .mov (.t 1)⟩,
 ⟨(some 28), none, .call (.c (.fn (.func 90) [] [])) [(.t 27)]⟩,
 ⟨(some 26), none, .mov (.t 28)⟩,
 ⟨(some 29), none, .ext (.t 26) 0⟩,
 ⟨(some 30), none, .ext (.t 26) 1⟩,
 ⟨(some 5), none, .new [(.bool false), (.bool false), (.bool false), (.bool false), (.bool false), (.bool false), (.bool false), (.bool false), (.bool false), (.bool false), (.bool false), (.bool false), (.bool false), (.bool false), (.bool false), (.bool false), (.bool false), (.bool false), (.bool false), (.bool false), (.bool false), (.bool false), (.bool false), (.bool false), (.bool false), (.bool false), (.bool false), (.bool false), (.bool false), (.bool false), (.bool false), (.bool false), (.bool false), (.bool false), (.bool false), (.bool false), (.bool false), (.bool false), (.bool false), (.bool false), (.bool false), (.bool false), (.bool false), (.bool false), (.bool false), (.bool false), (.bool false), (.bool false), (.bool false), (.bool false), (.bool false), (.bool false), (.bool false), (.bool false), (.bool false), (.bool false), (.bool false), (.bool false), (.bool false), (.bool false), (.bool false), (.bool false), (.bool false), (.bool false), (.bool false), (.bool false), (.bool false), (.bool false), (.bool false), (.bool false), (.bool false), (.bool false), (.bool false), (.bool false), (.bool false), (.bool false), (.bool false), (.bool false), (.bool false), (.bool false), (.bool false), (.bool false), (.bool false), (.bool false), (.bool false), (.bool false), (.bool false), (.bool false), (.bool false), (.bool false), (.bool false), (.bool false), (.bool false), (.bool false), (.bool false), (.bool false), (.bool false), (.bool false), (.bool false), (.bool false), (.bool false), (.bool false), (.bool false), (.bool false), (.bool false), (.bool false), (.bool false), (.bool false), (.bool false), (.bool false), (.bool false), (.bool false), (.bool false), (.bool false), (.bool false), (.bool false), (.bool false), (.bool false), (.bool false), (.bool false), (.bool false), (.bool false), (.bool false), (.bool false), (.bool false), (.bool false), (.bool false), (.bool false), (.bool false), (.bool false), (.bool false), (.bool false), (.bool false), (.bool false), (.bool false), (.bool false), (.bool false), (.bool false), (.bool false), (.bool false), (.bool false), (.bool false), (.bool false), (.bool false), (.bool false), (.bool false), (.bool false), (.bool false), (.bool false), (.bool false), (.bool false), (.bool false), (.bool false), (.bool false), (.bool false), (.bool false), (.bool false), (.bool false), (.bool false), (.bool false), (.bool false), (.bool false), (.bool false), (.bool false), (.bool false), (.bool false), (.bool false), (.bool false), (.bool false), (.bool false), (.bool false), (.bool false), (.bool false), (.bool false), (.bool false), (.bool false), (.bool false), (.bool false), (.bool false), (.bool false), (.bool false), (.bool false), (.bool false), (.bool false), (.bool false), (.bool false), (.bool false), (.bool false), (.bool false), (.bool false), (.bool false), (.bool false), (.bool false), (.bool false), (.bool false), (.bool false), (.bool false), (.bool false), (.bool false), (.bool false), (.bool false), (.bool false), (.bool false), (.bool false), (.bool false), (.bool false), (.bool false), (.bool false), (.bool false), (.bool false), (.bool false), (.bool false), (.bool false), (.bool false), (.bool false), (.bool false), (.bool false), (.bool false), (.bool false), (.bool false), (.bool false), (.bool false), (.bool false), (.bool false), (.bool false), (.bool false), (.bool false), (.bool false), (.bool false), (.bool false), (.bool false), (.bool false), (.bool false), (.bool false), (.bool false), (.bool false), (.bool false), (.bool false), (.bool false), (.bool false), (.bool false), (.bool false), (.bool false), (.bool false), (.bool false), (.bool false), (.bool false), (.bool false), (.bool false), (.bool false), (.bool false), (.bool false), (.bool false), (.bool false), (.bool false), (.bool false)]⟩,
 ⟨none, none, .store 256 (.t 5) (.t 29)⟩,
 ⟨(some 6), none, .mov (.t 30)⟩] [5, 6])
 (.seq
 (.ops [
 ⟨(some 31), none, .mov (.t 6)⟩] [31])
 (.cond (.t 31)
 (.seq
 (.ops [
 ⟨(some 32), none, .mov (.t 0)⟩,
 ⟨(some 33), none, .call (.c (.fn (.func 91) [] [])) [(.t 32), (.t 5)]⟩,
 ⟨(some 4), none, .mov (.t 33)⟩] [4])
 .ret)
 .skip)))
 (.seq
 (.ops [
 ⟨(some 34), none, .mov (.t 0)⟩,
 ⟨(some 35), none, .mov (.t 1)⟩,
 ⟨(some 36), none, .call (.c (.fn (.func 92) [] [])) [(.t 34), (.t 35)]⟩,
 ⟨(some 4), none, .mov (.t 36)⟩] [4])
 .ret))))),
 [.tmp 4]⟩

/-- slices.insertionSortOrdered[int] -/
noncomputable def sf77 : SFun := ⟨[0, 1, 2, 6, 7, 12, 30], 49,
 (.seq
 (.ops [
 ⟨(some 8), none, .mov (.t 1)⟩,
 ⟨(some 9), none, .bin .add .no (.t 8) (.c (.int .i64 1))⟩,
 ⟨(some 6), none, .mov (.t 9)⟩] [6])
 (.block 0
 (.loop
 (.seq
 (.seq
 (.ops [
 ⟨(some 10), none, .mov (.t 6)⟩,
 ⟨(some 11), none, .mov (.t 2)⟩,
 ⟨(some 12), none, .bin .lss .no (.t 10) (.t 11)⟩] [12])
 (.cond (.t 12)
 .skip
 (.exit 0)))
 (.seq
 (.block 1
 (.seq
 (.ops [
 ⟨(some 15), none, .mov (.t 6)⟩,
 ⟨(some 7), none, .mov (.t 15)⟩] [7])
 (.block 2
 (.loop
 (.seq
 (.seq
 (.draw [
 ⟨⟨(some 16), none, .mov (.t 7)⟩, false, false⟩,
 ⟨⟨(some 17), none, .mov (.t 1)⟩, false, false⟩,
 ⟨⟨(some 18), none, .bin .gtr .no (.t 16) (.t 17)⟩, false, false⟩,
 ⟨⟨(some 19), none, .mov (.t 18)⟩, false, false⟩,
 ⟨⟨(some 20), (some (19, true)), .mov (.t 0)⟩, false, false⟩,
 ⟨⟨(some 21), (some (19, true)), .mov (.t 7)⟩, false, false⟩,
 ⟨⟨(some 22), (some (19, true)), .ixS 1 (.t 20) (.t 21)⟩, false, false⟩,
 ⟨⟨(some 23), (some (19, true)), .load none (.t 22)⟩, true, false⟩,
 ⟨⟨(some 24), (some (19, true)), .mov (.t 0)⟩, false, false⟩,
 ⟨⟨(some 25), (some (19, true)), .mov (.t 7)⟩, false, false⟩,
 ⟨⟨(some 26), (some (19, true)), .bin .sub .no (.t 25) (.c (.int .i64 1))⟩, false, false⟩,
 ⟨⟨(some 27), (some (19, true)), .ixS 1 (.t 24) (.t 26)⟩, false, false⟩,
 ⟨⟨(some 28), (some (19, true)), .load none (.t 27)⟩, true, false⟩,
 ⟨⟨(some 29), (some (19, true)), .call (.c (.fn (.func 83) [] [])) [(.t 23), (.t 28)]⟩, false, true⟩,
 ⟨⟨(some 30), none, .pick (.t 19) (.t 29) (.c (.bool false))⟩, false, false⟩] [0, 0, 3, 7, 15, 15, 63, 127, 15, 15, 527, 1807, 3855, 8191, 16383] [30])
 (.cond (.t 30)
 .skip
 (.exit 2)))
 (.seq
 (.block 3
 (.draw [
 ⟨⟨(some 33), none, .mov (.t 0)⟩, false, false⟩,
 ⟨⟨(some 34), none, .mov (.t 7)⟩, false, false⟩,
 ⟨⟨(some 35), none, .mov (.t 0)⟩, false, false⟩,
 ⟨⟨(some 36), none, .mov (.t 7)⟩, false, false⟩,
 ⟨⟨(some 37), none, .bin .sub .no (.t 36) (.c (.int .i64 1))⟩, false, false⟩,
 ⟨⟨(some 38), none, .mov (.t 0)⟩, false, false⟩,
 ⟨⟨(some 39), none, .mov (.t 7)⟩, false, false⟩,
 ⟨⟨(some 40), none, .bin .sub .no (.t 39) (.c (.int .i64 1))⟩, false, false⟩,
 ⟨⟨(some 41), none, .ixS 1 (.t 38) (.t 40)⟩, false, false⟩,
 ⟨⟨(some 42), none, .load none (.t 41)⟩, true, false⟩,
 ⟨⟨(some 43), none, .mov (.t 0)⟩, false, false⟩,
 ⟨⟨(some 44), none, .mov (.t 7)⟩, false, false⟩,
 ⟨⟨(some 45), none, .ixS 1 (.t 43) (.t 44)⟩, false, false⟩,
 ⟨⟨(some 46), none, .load none (.t 45)⟩, true, false⟩,
 ⟨⟨(some 47), none, .ixS 1 (.t 33) (.t 34)⟩, false, false⟩,
 ⟨⟨none, none, .store 1 (.t 47) (.t 42)⟩, false, true⟩,
 ⟨⟨(some 48), none, .ixS 1 (.t 35) (.t 37)⟩, false, false⟩,
 ⟨⟨none, none, .store 1 (.t 48) (.t 46)⟩, false, true⟩] [0, 0, 0, 0, 8, 0, 0, 64, 224, 480, 0, 0, 3072, 7168, 16355, 32739, 65535, 131071] []))
 (.ops [
 ⟨(some 31), none, .mov (.t 7)⟩,
 ⟨(some 32), none, .bin .sub .no (.t 31) (.c (.int .i64 1))⟩,
 ⟨(some 7), none, .mov (.t 32)⟩] [7])))))))
 (.ops [
 ⟨(some 13), none, .mov (.t 6)⟩,
 ⟨(some 14), none, .bin .add .no (.t 13) (.c (.int .i64 1))⟩,
 ⟨(some 6), none, .mov (.t 14)⟩] [6])))))),
 []⟩

/-- slices.heapSortOrdered[int] -/
noncomputable def sf78 : SFun := ⟨[0, 1, 2, 6, 7, 8, 9, 10, 19, 30], 56,
 (.seq
 (.ops [
 ⟨(some 11), none, .mov (.t 1)⟩,
 ⟨(some 6), none, .mov (.t 11)⟩] [6])
 (.seq
 (.ops [
 ⟨(some 7), none, .mov (.c (.int .i64 0))⟩] [7])
 (.seq
 (.ops [
 ⟨(some 12), none, .mov (.t 2)⟩,
 ⟨(some 13), none, .mov (.t 1)⟩,
 ⟨(some 14), none, .bin .sub .no (.t 12) (.t 13)⟩,
 ⟨(some 8), none, .mov (.t 14)⟩] [8])
 (.seq
 (.seq
 (.ops [
 ⟨(some 15), none, .mov (.t 8)⟩,
 ⟨(some 16), none, .bin .sub .no (.t 15) (.c (.int .i64 1))⟩,
 ⟨(some 17), none, .bin .quo .no (.t 16) (.c (.int .i64 2))⟩,
 ⟨(some 9), none, .mov (.t 17)⟩] [9])
 (.block 0
 (.loop
 (.seq
 (.seq
 (.ops [
 ⟨(some 18), none, .mov (.t 9)⟩,
 ⟨(some 19), none, .bin .geq .no (.t 18) (.c (.int .i64 0))⟩] [19])
 (.cond (.t 19)
 .skip
 (.exit 0)))
 (.seq
 (.block 1
 (.ops [
 ⟨(some 22), none, .mov (.t 0)⟩,
 ⟨(some 23), none, .mov (.t 9)⟩,
 ⟨(some 24), none, .mov (.t 8)⟩,
 ⟨(some 25), none, .mov (.t 6)⟩,
 ⟨(some 26), none, .call (.c (.fn (.func 93) [] [])) [(.t 22), (.t 23), (.t 24), (.t 25)]⟩] []))
 (.ops [
 ⟨(some 20), none, .mov (.t 9)⟩,
 ⟨(some 21), none, .bin .sub .no (.t 20) (.c (.int .i64 1))⟩,
 ⟨(some 9), none, .mov (.t 21)⟩] [9]))))))
 (.seq
 (.ops [
 ⟨(some 27), none, .mov (.t 8)⟩,
 ⟨(some 28), none, .bin .sub .no (.t 27) (.c (.int .i64 1))⟩,
 ⟨(some 10), none, .mov (.t 28)⟩] [10])
 (.block 2
 (.loop
 (.seq
 (.seq
 (.ops [
 ⟨(some 29), none, .mov (.t 10)⟩,
 ⟨(some 30), none, .bin .geq .no (.t 29) (.c (.int .i64 0))⟩] [30])
 (.cond (.t 30)
 .skip
 (.exit 2)))
 (.seq
 (.block 3
 (.seq
 (.draw [
 ⟨⟨(some 33), none, .mov (.t 0)⟩, false, false⟩,
 ⟨⟨(some 34), none, .mov (.t 6)⟩, false, false⟩,
 ⟨⟨(some 35), none, .mov (.t 0)⟩, false, false⟩,
 ⟨⟨(some 36), none, .mov (.t 6)⟩, false, false⟩,
 ⟨⟨(some 37), none, .mov (.t 10)⟩, false, false⟩,
 ⟨⟨(some 38), none, .bin .add .no (.t 36) (.t 37)⟩, false, false⟩,
 ⟨⟨(some 39), none, .mov (.t 0)⟩, false, false⟩,
 ⟨⟨(some 40), none, .mov (.t 6)⟩, false, false⟩,
 ⟨⟨(some 41), none, .mov (.t 10)⟩, false, false⟩,
 ⟨⟨(some 42), none, .bin .add .no (.t 40) (.t 41)⟩, false, false⟩,
 ⟨⟨(some 43), none, .ixS 1 (.t 39) (.t 42)⟩, false, false⟩,
 ⟨⟨(some 44), none, .load none (.t 43)⟩, true, false⟩,
 ⟨⟨(some 45), none, .mov (.t 0)⟩, false, false⟩,
 ⟨⟨(some 46), none, .mov (.t 6)⟩, false, false⟩,
 ⟨⟨(some 47), none, .ixS 1 (.t 45) (.t 46)⟩, false, false⟩,
 ⟨⟨(some 48), none, .load none (.t 47)⟩, true, false⟩,
 ⟨⟨(some 49), none, .ixS 1 (.t 33) (.t 34)⟩, false, false⟩,
 ⟨⟨none, none, .store 1 (.t 49) (.t 44)⟩, false, true⟩,
 ⟨⟨(some 50), none, .ixS 1 (.t 35) (.t 38)⟩, false, false⟩,
 ⟨⟨none, none, .store 1 (.t 50) (.t 48)⟩, false, true⟩] [0, 0, 0, 0, 0, 24, 0, 0, 0, 384, 960, 1984, 0, 0, 12288, 28672, 65475, 131011, 262143, 524287] [])
 (.ops [
 ⟨(some 51), none, .mov (.t 0)⟩,
 ⟨(some 52), none, .mov (.t 7)⟩,
 ⟨(some 53), none, .mov (.t 10)⟩,
 ⟨(some 54), none, .mov (.t 6)⟩,
 ⟨(some 55), none, .call (.c (.fn (.func 93) [] [])) [(.t 51), (.t 52), (.t 53), (.t 54)]⟩] [])))
 (.ops [
 ⟨(some 31), none, .mov (.t 10)⟩,
 ⟨(some 32), none, .bin .sub .no (.t 31) (.c (.int .i64 1))⟩,
 ⟨(some 10), none, .mov (.t 32)⟩] [10])))))))))),
 []⟩

/-- slices.breakPatternsOrdered[int] -/
noncomputable def sf79 : SFun := ⟨[0, 1, 2, 6, 7, 8, 9, 10, 15, 33, 43], 65,
 (.seq
 (.ops [
 ⟨(some 11), none, .mov (.t 2)⟩,
 ⟨(some 12), none, .mov (.t 1)⟩,
 ⟨(some 13), none, .bin .sub .no (.t 11) (.t 12)⟩,
 ⟨(some 6), none, .mov (.t 13)⟩] [6])
 (.seq
 (.ops [
 ⟨(some 14), none, .mov (.t 6)⟩,
 ⟨(some 15), none, .bin .geq .no (.t 14) (.c (.int .i64 8))⟩] [15])
 (.cond (.t 15)
 (.seq
 (.ops [
 ⟨(some 16), none, .mov (.t 6)⟩,
 ⟨(some 17), none, .conv .u64 (.t 16)⟩,
 ⟨(some 7), none, .new [(.int .u64 0)]⟩,
 ⟨none, none, .store 1 (.t 7) (.t 17)⟩] [7])
 (.seq
 (.ops [
 ⟨(some 18), none, .mov (.t 6)⟩,
 ⟨(some 19), none, .call (.c (.fn (.func 94) [] [])) [(.t 18)]⟩,
 ⟨(some 8), none, .mov (.t 19)⟩] [8])
 (.seq
 (.ops [
 ⟨(some 20), none, .mov (.t 1)⟩,
 ⟨(some 21), none, .mov (.t 6)⟩,
 ⟨(some 22), none, .bin .quo .no (.t 21) (.c (.int .i64 4))⟩,
 ⟨(some 23), none, .bin .mul .no (.t 22) (.c (.int .i64 2))⟩,
 ⟨(some 24), none, .bin .add .no (.t 20) (.t 23)⟩,
 ⟨(some 25), none, .bin .sub .no (.t 24) (.c (.int .i64 1))⟩,
 ⟨(some 9), none, .mov (.t 25)⟩] [9])
 (.block 0
 (.loop
 (.seq
 (.seq
 (.ops [
 ⟨(some 26), none, .mov (.t 9)⟩,
 ⟨(some 27), none, .mov (.t 1)⟩,
 ⟨(some 28), none, .mov (.t 6)⟩,
 ⟨(some 29), none, .bin .quo .no (.t 28) (.c (.int .i64 4))⟩,
 ⟨(some 30), none, .bin .mul .no (.t 29) (.c (.int .i64 2))⟩,
 ⟨(some 31), none, .bin .add .no (.t 27) (.t 30)⟩,
 ⟨(some 32), none, .bin .add .no (.t 31) (.c (.int .i64 1))⟩,
 ⟨(some 33), none, .bin .leq .no (.t 26) (.t 32)⟩] [33])
 (.cond (.t 33)
 .skip
 (.exit 0)))
 (.seq
 (.block 1
 (.seq
 (.ops [
 ⟨(some 36), none, .call (.c (.fn (.func 95) [] [])) [(.t 7)]⟩,
 ⟨(some 37), none, .mov (.t 8)⟩,
 ⟨(some 38), none, .bin .sub .no (.t 37) (.c (.int .u64 1))⟩,
 ⟨(some 39), none, .bin .and .no (.t 36) (.t 38)⟩,
 ⟨(some 40), none, .conv .i64 (.t 39)⟩,
 ⟨(some 10), none, .mov (.t 40)⟩] [10])
 (.seq
 (.seq
 (.ops [
 ⟨(some 41), none, .mov (.t 10)⟩,
 ⟨(some 42), none, .mov (.t 6)⟩,
 ⟨(some 43), none, .bin .geq .no (.t 41) (.t 42)⟩] [43])
 (.cond (.t 43)
 (.ops [
 ⟨(some 44), none, .mov (.t 10)⟩,
 ⟨(some 45), none, .mov (.t 6)⟩,
 ⟨(some 46), none, .bin .sub .no (.t 44) (.t 45)⟩,
 ⟨(some 10), none, .mov (.t 46)⟩] [10])
 .skip))
 (.draw [
 ⟨⟨(some 47), none, .mov (.t 0)⟩, false, false⟩,
 ⟨⟨(some 48), none, .mov (.t 9)⟩, false, false⟩,
 ⟨⟨(some 49), none, .mov (.t 0)⟩, false, false⟩,
 ⟨⟨(some 50), none, .mov (.t 1)⟩, false, false⟩,
 ⟨⟨(some 51), none, .mov (.t 10)⟩, false, false⟩,
 ⟨⟨(some 52), none, .bin .add .no (.t 50) (.t 51)⟩, false, false⟩,
 ⟨⟨(some 53), none, .mov (.t 0)⟩, false, false⟩,
 ⟨⟨(some 54), none, .mov (.t 1)⟩, false, false⟩,
 ⟨⟨(some 55), none, .mov (.t 10)⟩, false, false⟩,
 ⟨⟨(some 56), none, .bin .add .no (.t 54) (.t 55)⟩, false, false⟩,
 ⟨⟨(some 57), none, .ixS 1 (.t 53) (.t 56)⟩, false, false⟩,
 ⟨⟨(some 58), none, .load none (.t 57)⟩, true, false⟩,
 ⟨⟨(some 59), none, .mov (.t 0)⟩, false, false⟩,
 ⟨⟨(some 60), none, .mov (.t 9)⟩, false, false⟩,
 ⟨⟨(some 61), none, .ixS 1 (.t 59) (.t 60)⟩, false, false⟩,
 ⟨⟨(some 62), none, .load none (.t 61)⟩, true, false⟩,
 ⟨⟨(some 63), none, .ixS 1 (.t 47) (.t 48)⟩, false, false⟩,
 ⟨⟨none, none, .store 1 (.t 63) (.t 58)⟩, false, true⟩,
 ⟨⟨(some 64), none, .ixS 1 (.t 49) (.t 52)⟩, false, false⟩,
 ⟨⟨none, none, .store 1 (.t 64) (.t 62)⟩, false, true⟩] [0, 0, 0, 0, 0, 24, 0, 0, 0, 384, 960, 1984, 0, 0, 12288, 28672, 65475, 131011, 262143, 524287] []))))
 (.ops [
 ⟨(some 34), none, .mov (.t 9)⟩,
 ⟨(some 35), none, .bin .add .no (.t 34) (.c (.int .i64 1))⟩,
 ⟨(some 9), none, .mov (.t 35)⟩] [9]))))))))
 .skip))),
 []⟩

/-- slices.choosePivotOrdered[int] -/
noncomputable def sf80 : SFun := ⟨[0, 1, 2, 6, 7, 8, 9, 10, 11, 12, 32, 34, 49, 51, 54], 57,
 (.seq
 (.ops [
 ⟨(some 6), none, .mov (.c (.int .i64 0))⟩,
 ⟨(some 7), none, .mov (.c (.int .i64 0))⟩] [6, 7])
 (.seq
 (.ops [
 ⟨(some 13), none, .mov (.t 2)⟩,
 ⟨(some 14), none, .mov (.t 1)⟩,
 ⟨(some 15), none, .bin .sub .no (.t 13) (.t 14)⟩,
 ⟨(some 8), none, .mov (.t 15)⟩] [8])
 (.seq
 (.ops [
 ⟨(some 9), none, .new [(.int .i64 0)]⟩] [9])
 (.seq
 (.ops [
 ⟨(some 16), none, .mov (.t 1)⟩,
 ⟨(some 17), none, .mov (.t 8)⟩,
 ⟨(some 18), none, .bin .quo .no (.t 17) (.c (.int .i64 4))⟩,
 ⟨(some 19), none, .bin .mul .no (.t 18) (.c (.int .i64 1))⟩,
 ⟨(some 20), none, .bin .add .no (.t 16) (.t 19)⟩,
 ⟨(some 10), none, .mov (.t 20)⟩] [10])
 (.seq
 (.ops [
 ⟨(some 21), none, .mov (.t 1)⟩,
 ⟨(some 22), none, .mov (.t 8)⟩,
 ⟨(some 23), none, .bin .quo .no (.t 22) (.c (.int .i64 4))⟩,
 ⟨(some 24), none, .bin .mul .no (.t 23) (.c (.int .i64 2))⟩,
 ⟨(some 25), none, .bin .add .no (.t 21) (.t 24)⟩,
 ⟨(some 11), none, .mov (.t 25)⟩] [11])
 (.seq
 (.ops [
 ⟨(some 26), none, .mov (.t 1)⟩,
 ⟨(some 27), none, .mov (.t 8)⟩,
 ⟨(some 28), none, .bin .quo .no (.t 27) (.c (.int .i64 4))⟩,
 ⟨(some 29), none, .bin .mul .no (.t 28) (.c (.int .i64 3))⟩,
 ⟨(some 30), none, .bin .add .no (.t 26) (.t 29)⟩,
 ⟨(some 12), none, .mov (.t 30)⟩] [12])
 (.seq
 (.seq
 (.ops [
 ⟨(some 31), none, .mov (.t 8)⟩,
 ⟨(some 32), none, .bin .geq .no (.t 31) (.c (.int .i64 8))⟩] [32])
 (.cond (.t 32)
 (.seq
 (.seq
 (.ops [
 ⟨(some 33), none, .mov (.t 8)⟩,
 ⟨(some 34), none, .bin .geq .no (.t 33) (.c (.int .i64 50))⟩] [34])
 (.cond (.t 34)
 (.seq
 (.ops [
 ⟨(some 35), none, .mov (.t 0)⟩,
 ⟨(some 36), none, .mov (.t 10)⟩,
 ⟨(some 37), none, .call (.c (.fn (.func 96) [] [])) [(.t 35), (.t 36), (.t 9)]⟩,
 ⟨(some 10), none, .mov (.t 37)⟩] [10])
 (.seq
 (.ops [
 ⟨(some 38), none, .mov (.t 0)⟩,
 ⟨(some 39), none, .mov (.t 11)⟩,
 ⟨(some 40), none, .call (.c (.fn (.func 96) [] [])) [(.t 38), (.t 39), (.t 9)]⟩,
 ⟨(some 11), none, .mov (.t 40)⟩] [11])
 (.ops [
 ⟨(some 41), none, .mov (.t 0)⟩,
 ⟨(some 42), none, .mov (.t 12)⟩,
 ⟨(some 43), none, .call (.c (.fn (.func 96) [] [])) [(.t 41), (.t 42), (.t 9)]⟩,
 ⟨(some 12), none, .mov (.t 43)⟩] [12])))
 .skip))
 (.ops [
 ⟨(some 44), none, .mov (.t 0)⟩,
 ⟨(some 45), none, .mov (.t 10)⟩,
 ⟨(some 46), none, .mov (.t 11)⟩,
 ⟨(some 47), none, .mov (.t 12)⟩,
 ⟨(some 48), none, .call (.c (.fn (.func 97) [] [])) [(.t 44), (.t 45), (.t 46), (.t 47), (.t 9)]⟩,
 ⟨(some 11), none, .mov (.t 48)⟩] [11]))
 .skip))
 (.seq
 (.ops [
 ⟨(some 49), none, .load none (.t 9)⟩] [49])
 (.block 0
 (.seq
 (.ops [
 ⟨(some 52), none, .bin .eql .no (.t 49) (.c (.int .i64 0))⟩,
 ⟨(some 51), none, .mov (.t 52)⟩] [51])
 (.cond (.t 51)
 (.seq
 (.ops [
 ⟨(some 53), none, .mov (.t 11)⟩,
 ⟨(some 6), none, .mov (.t 53)⟩,
 ⟨(some 7), none, .mov (.c (.int .i64 1))⟩] [6, 7])
 .ret)
 (.seq
 (.ops [
 ⟨(some 55), none, .bin .eql .no (.t 49) (.c (.int .i64 12))⟩,
 ⟨(some 54), none, .mov (.t 55)⟩] [54])
 (.cond (.t 54)
 (.seq
 (.ops [
 ⟨(some 56), none, .mov (.t 11)⟩,
 ⟨(some 6), none, .mov (.t 56)⟩,
 ⟨(some 7), none, .mov (.c (.int .i64 2))⟩] [6, 7])
 .ret)
 (.seq
 (.ops [
 ⟨(some 50), none, .mov (.t 11)⟩,
 ⟨(some 6), none, .mov (.t 50)⟩,
 ⟨(some 7), none, .mov (.c (.int .i64 0))⟩] [6, 7])
 .ret)))))))))))))),
 [.tmp 6, .tmp 7]⟩

/-- slices.reverseRangeOrdered[int] -/
noncomputable def sf81 : SFun := ⟨[0, 1, 2, 6, 7, 13], 32,
 (.seq
 (.ops [
 ⟨(some 8), none, .mov (.t 1)⟩,
 ⟨(some 6), none, .mov (.t 8)⟩] [6])
 (.seq
 (.ops [
 ⟨(some 9), none, .mov (.t 2)⟩,
 ⟨(some 10), none, .bin .sub .no (.t 9) (.c (.int .i64 1))⟩,
 ⟨(some 7), none, .mov (.t 10)⟩] [7])
 (.block 0
 (.loop
 (.seq
 (.seq
 (.ops [
 ⟨(some 11), none, .mov (.t 6)⟩,
 ⟨(some 12), none, .mov (.t 7)⟩,
 ⟨(some 13), none, .bin .lss .no (.t 11) (.t 12)⟩] [13])
 (.cond (.t 13)
 .skip
 (.exit 0)))
 (.block 1
 (.seq
 (.draw [
 ⟨⟨(some 14), none, .mov (.t 0)⟩, false, false⟩,
 ⟨⟨(some 15), none, .mov (.t 6)⟩, false, false⟩,
 ⟨⟨(some 16), none, .mov (.t 0)⟩, false, false⟩,
 ⟨⟨(some 17), none, .mov (.t 7)⟩, false, false⟩,
 ⟨⟨(some 18), none, .mov (.t 0)⟩, false, false⟩,
 ⟨⟨(some 19), none, .mov (.t 7)⟩, false, false⟩,
 ⟨⟨(some 20), none, .ixS 1 (.t 18) (.t 19)⟩, false, false⟩,
 ⟨⟨(some 21), none, .load none (.t 20)⟩, true, false⟩,
 ⟨⟨(some 22), none, .mov (.t 0)⟩, false, false⟩,
 ⟨⟨(some 23), none, .mov (.t 6)⟩, false, false⟩,
 ⟨⟨(some 24), none, .ixS 1 (.t 22) (.t 23)⟩, false, false⟩,
 ⟨⟨(some 25), none, .load none (.t 24)⟩, true, false⟩,
 ⟨⟨(some 26), none, .ixS 1 (.t 14) (.t 15)⟩, false, false⟩,
 ⟨⟨none, none, .store 1 (.t 26) (.t 21)⟩, false, true⟩,
 ⟨⟨(some 27), none, .ixS 1 (.t 16) (.t 17)⟩, false, false⟩,
 ⟨⟨none, none, .store 1 (.t 27) (.t 25)⟩, false, true⟩] [0, 0, 0, 0, 0, 0, 48, 112, 0, 0, 768, 1792, 4083, 8179, 16383, 32767] [])
 (.seq
 (.ops [
 ⟨(some 28), none, .mov (.t 6)⟩,
 ⟨(some 29), none, .bin .add .no (.t 28) (.c (.int .i64 1))⟩,
 ⟨(some 6), none, .mov (.t 29)⟩] [6])
 (.ops [
 ⟨(some 30), none, .mov (.t 7)⟩,
 ⟨(some 31), none, .bin .sub .no (.t 30) (.c (.int .i64 1))⟩,
 ⟨(some 7), none, .mov (.t 31)⟩] [7]))))))))),
 []⟩

/-- slices.partialInsertionSortOrdered[int] -/
noncomputable def sf82 : SFun := ⟨[0, 1, 2, 6, 7, 8, 9, 10, 14, 32, 37, 41, 61, 65, 78, 98, 103, 116], 133,
 (.seq
 (.ops [
 ⟨(some 6), none, .mov (.c (.bool false))⟩] [6])
 (.seq
 (.ops [
 ⟨(some 11), none, .mov (.t 1)⟩,
 ⟨(some 12), none, .bin .add .no (.t 11) (.c (.int .i64 1))⟩,
 ⟨(some 7), none, .mov (.t 12)⟩] [7])
 (.seq
 (.seq
 (.ops [
 ⟨(some 8), none, .mov (.c (.int .i64 0))⟩] [8])
 (.block 0
 (.loop
 (.seq
 (.seq
 (.ops [
 ⟨(some 13), none, .mov (.t 8)⟩,
 ⟨(some 14), none, .bin .lss .no (.t 13) (.c (.int .i64 5))⟩] [14])
 (.cond (.t 14)
 .skip
 (.exit 0)))
 (.seq
 (.block 1
 (.seq
 (.block 2
 (.loop
 (.seq
 (.seq
 (.draw [
 ⟨⟨(some 17), none, .mov (.t 7)⟩, false, false⟩,
 ⟨⟨(some 18), none, .mov (.t 2)⟩, false, false⟩,
 ⟨⟨(some 19), none, .bin .lss .no (.t 17) (.t 18)⟩, false, false⟩,
 ⟨⟨(some 20), none, .mov (.t 19)⟩, false, false⟩,
 ⟨⟨(some 21), (some (20, true)), .mov (.t 0)⟩, false, false⟩,
 ⟨⟨(some 22), (some (20, true)), .mov (.t 7)⟩, false, false⟩,
 ⟨⟨(some 23), (some (20, true)), .ixS 1 (.t 21) (.t 22)⟩, false, false⟩,
 ⟨⟨(some 24), (some (20, true)), .load none (.t 23)⟩, true, false⟩,
 ⟨⟨(some 25), (some (20, true)), .mov (.t 0)⟩, false, false⟩,
 ⟨⟨(some 26), (some (20, true)), .mov (.t 7)⟩, false, false⟩,
 ⟨⟨(some 27), (some (20, true)), .bin .sub .no (.t 26) (.c (.int .i64 1))⟩, false, false⟩,
 ⟨⟨(some 28), (some (20, true)), .ixS 1 (.t 25) (.t 27)⟩, false, false⟩,
 ⟨⟨(some 29), (some (20, true)), .load none (.t 28)⟩, true, false⟩,
 ⟨⟨(some 30), (some (20, true)), .call (.c (.fn (.func 83) [] [])) [(.t 24), (.t 29)]⟩, false, true⟩,
 ⟨⟨(some 31), (some (20, true)), .not (.t 30)⟩, false, false⟩,
 ⟨⟨(some 32), none, .pick (.t 20) (.t 31) (.c (.bool false))⟩, false, false⟩] [0, 0, 3, 7, 15, 15, 63, 127, 15, 15, 527, 1807, 3855, 8191, 16383, 32767] [32])
 (.cond (.t 32)
 .skip
 (.exit 2)))
 (.block 3
 (.ops [
 ⟨(some 33), none, .mov (.t 7)⟩,
 ⟨(some 34), none, .bin .add .no (.t 33) (.c (.int .i64 1))⟩,
 ⟨(some 7), none, .mov (.t 34)⟩] [7])))))
 (.seq
 (.seq
 (.ops [
 ⟨(some 35), none, .mov (.t 7)⟩,
 ⟨(some 36), none, .mov (.t 2)⟩,
 ⟨(some 37), none, .bin .eql .no (.t 35) (.t 36)⟩] [37])
 (.cond (.t 37)
 (.seq
 (.ops [
 ⟨(some 6), none, .mov (.c (.bool true))⟩] [6])
 .ret)
 .skip))
 (.seq
 (.seq
 (.ops [
 ⟨(some 38), none, .mov (.t 2)⟩,
 ⟨(some 39), none, .mov (.t 1)⟩,
 ⟨(some 40), none, .bin .sub .no (.t 38) (.t 39)⟩,
 ⟨(some 41), none, .bin .lss .no (.t 40) (.c (.int .i64 50))⟩] [41])
 (.cond (.t 41)
 (.seq
 (.ops [
 ⟨(some 6), none, .mov (.c (.bool false))⟩] [6])
 .ret)
 .skip))
 (.seq
 (.draw [
 ⟨⟨(some 42), none, .mov (.t 0)⟩, false, false⟩,
 ⟨⟨(some 43), none, .mov (.t 7)⟩, false, false⟩,
 ⟨⟨(some 44), none, .mov (.t 0)⟩, false, false⟩,
 ⟨⟨(some 45), none, .mov (.t 7)⟩, false, false⟩,
 ⟨⟨(some 46), none, .bin .sub .no (.t 45) (.c (.int .i64 1))⟩, false, false⟩,
 ⟨⟨(some 47), none, .mov (.t 0)⟩, false, false⟩,
 ⟨⟨(some 48), none, .mov (.t 7)⟩, false, false⟩,
 ⟨⟨(some 49), none, .bin .sub .no (.t 48) (.c (.int .i64 1))⟩, false, false⟩,
 ⟨⟨(some 50), none, .ixS 1 (.t 47) (.t 49)⟩, false, false⟩,
 ⟨⟨(some 51), none, .load none (.t 50)⟩, true, false⟩,
 ⟨⟨(some 52), none, .mov (.t 0)⟩, false, false⟩,
 ⟨⟨(some 53), none, .mov (.t 7)⟩, false, false⟩,
 ⟨⟨(some 54), none, .ixS 1 (.t 52) (.t 53)⟩, false, false⟩,
 ⟨⟨(some 55), none, .load none (.t 54)⟩, true, false⟩,
 ⟨⟨(some 56), none, .ixS 1 (.t 42) (.t 43)⟩, false, false⟩,
 ⟨⟨none, none, .store 1 (.t 56) (.t 51)⟩, false, true⟩,
 ⟨⟨(some 57), none, .ixS 1 (.t 44) (.t 46)⟩, false, false⟩,
 ⟨⟨none, none, .store 1 (.t 57) (.t 55)⟩, false, true⟩] [0, 0, 0, 0, 8, 0, 0, 64, 224, 480, 0, 0, 3072, 7168, 16355, 32739, 65535, 131071] [])
 (.seq
 (.seq
 (.ops [
 ⟨(some 58), none, .mov (.t 7)⟩,
 ⟨(some 59), none, .mov (.t 1)⟩,
 ⟨(some 60), none, .bin .sub .no (.t 58) (.t 59)⟩,
 ⟨(some 61), none, .bin .geq .no (.t 60) (.c (.int .i64 2))⟩] [61])
 (.cond (.t 61)
 (.seq
 (.ops [
 ⟨(some 62), none, .mov (.t 7)⟩,
 ⟨(some 63), none, .bin .sub .no (.t 62) (.c (.int .i64 1))⟩,
 ⟨(some 9), none, .mov (.t 63)⟩] [9])
 (.block 4
 (.loop
 (.seq
 (.seq
 (.ops [
 ⟨(some 64), none, .mov (.t 9)⟩,
 ⟨(some 65), none, .bin .geq .no (.t 64) (.c (.int .i64 1))⟩] [65])
 (.cond (.t 65)
 .skip
 (.exit 4)))
 (.seq
 (.block 5
 (.seq
 (.seq
 (.draw [
 ⟨⟨(some 68), none, .mov (.t 0)⟩, false, false⟩,
 ⟨⟨(some 69), none, .mov (.t 9)⟩, false, false⟩,
 ⟨⟨(some 70), none, .ixS 1 (.t 68) (.t 69)⟩, false, false⟩,
 ⟨⟨(some 71), none, .load none (.t 70)⟩, true, false⟩,
 ⟨⟨(some 72), none, .mov (.t 0)⟩, false, false⟩,
 ⟨⟨(some 73), none, .mov (.t 9)⟩, false, false⟩,
 ⟨⟨(some 74), none, .bin .sub .no (.t 73) (.c (.int .i64 1))⟩, false, false⟩,
 ⟨⟨(some 75), none, .ixS 1 (.t 72) (.t 74)⟩, false, false⟩,
 ⟨⟨(some 76), none, .load none (.t 75)⟩, true, false⟩,
 ⟨⟨(some 77), none, .call (.c (.fn (.func 83) [] [])) [(.t 71), (.t 76)]⟩, false, true⟩,
 ⟨⟨(some 78), none, .not (.t 77)⟩, false, false⟩] [0, 0, 3, 7, 0, 0, 32, 112, 240, 511, 1023] [78])
 (.cond (.t 78)
 (.exit 4)
 .skip))
 (.draw [
 ⟨⟨(some 79), none, .mov (.t 0)⟩, false, false⟩,
 ⟨⟨(some 80), none, .mov (.t 9)⟩, false, false⟩,
 ⟨⟨(some 81), none, .mov (.t 0)⟩, false, false⟩,
 ⟨⟨(some 82), none, .mov (.t 9)⟩, false, false⟩,
 ⟨⟨(some 83), none, .bin .sub .no (.t 82) (.c (.int .i64 1))⟩, false, false⟩,
 ⟨⟨(some 84), none, .mov (.t 0)⟩, false, false⟩,
 ⟨⟨(some 85), none, .mov (.t 9)⟩, false, false⟩,
 ⟨⟨(some 86), none, .bin .sub .no (.t 85) (.c (.int .i64 1))⟩, false, false⟩,
 ⟨⟨(some 87), none, .ixS 1 (.t 84) (.t 86)⟩, false, false⟩,
 ⟨⟨(some 88), none, .load none (.t 87)⟩, true, false⟩,
 ⟨⟨(some 89), none, .mov (.t 0)⟩, false, false⟩,
 ⟨⟨(some 90), none, .mov (.t 9)⟩, false, false⟩,
 ⟨⟨(some 91), none, .ixS 1 (.t 89) (.t 90)⟩, false, false⟩,
 ⟨⟨(some 92), none, .load none (.t 91)⟩, true, false⟩,
 ⟨⟨(some 93), none, .ixS 1 (.t 79) (.t 80)⟩, false, false⟩,
 ⟨⟨none, none, .store 1 (.t 93) (.t 88)⟩, false, true⟩,
 ⟨⟨(some 94), none, .ixS 1 (.t 81) (.t 83)⟩, false, false⟩,
 ⟨⟨none, none, .store 1 (.t 94) (.t 92)⟩, false, true⟩] [0, 0, 0, 0, 8, 0, 0, 64, 224, 480, 0, 0, 3072, 7168, 16355, 32739, 65535, 131071] [])))
 (.ops [
 ⟨(some 66), none, .mov (.t 9)⟩,
 ⟨(some 67), none, .bin .sub .no (.t 66) (.c (.int .i64 1))⟩,
 ⟨(some 9), none, .mov (.t 67)⟩] [9]))))))
 .skip))
 (.seq
 (.ops [
 ⟨(some 95), none, .mov (.t 2)⟩,
 ⟨(some 96), none, .mov (.t 7)⟩,
 ⟨(some 97), none, .bin .sub .no (.t 95) (.t 96)⟩,
 ⟨(some 98), none, .bin .geq .no (.t 97) (.c (.int .i64 2))⟩] [98])
 (.cond (.t 98)
 (.seq
 (.ops [
 ⟨(some 99), none, .mov (.t 7)⟩,
 ⟨(some 100), none, .bin .add .no (.t 99) (.c (.int .i64 1))⟩,
 ⟨(some 10), none, .mov (.t 100)⟩] [10])
 (.block 6
 (.loop
 (.seq
 (.seq
 (.ops [
 ⟨(some 101), none, .mov (.t 10)⟩,
 ⟨(some 102), none, .mov (.t 2)⟩,
 ⟨(some 103), none, .bin .lss .no (.t 101) (.t 102)⟩] [103])
 (.cond (.t 103)
 .skip
 (.exit 6)))
 (.seq
 (.block 7
 (.seq
 (.seq
 (.draw [
 ⟨⟨(some 106), none, .mov (.t 0)⟩, false, false⟩,
 ⟨⟨(some 107), none, .mov (.t 10)⟩, false, false⟩,
 ⟨⟨(some 108), none, .ixS 1 (.t 106) (.t 107)⟩, false, false⟩,
 ⟨⟨(some 109), none, .load none (.t 108)⟩, true, false⟩,
 ⟨⟨(some 110), none, .mov (.t 0)⟩, false, false⟩,
 ⟨⟨(some 111), none, .mov (.t 10)⟩, false, false⟩,
 ⟨⟨(some 112), none, .bin .sub .no (.t 111) (.c (.int .i64 1))⟩, false, false⟩,
 ⟨⟨(some 113), none, .ixS 1 (.t 110) (.t 112)⟩, false, false⟩,
 ⟨⟨(some 114), none, .load none (.t 113)⟩, true, false⟩,
 ⟨⟨(some 115), none, .call (.c (.fn (.func 83) [] [])) [(.t 109), (.t 114)]⟩, false, true⟩,
 ⟨⟨(some 116), none, .not (.t 115)⟩, false, false⟩] [0, 0, 3, 7, 0, 0, 32, 112, 240, 511, 1023] [116])
 (.cond (.t 116)
 (.exit 6)
 .skip))
 (.draw [
 ⟨⟨(some 117), none, .mov (.t 0)⟩, false, false⟩,
 ⟨⟨(some 118), none, .mov (.t 10)⟩, false, false⟩,
 ⟨⟨(some 119), none, .mov (.t 0)⟩, false, false⟩,
 ⟨⟨(some 120), none, .mov (.t 10)⟩, false, false⟩,
 ⟨⟨(some 121), none, .bin .sub .no (.t 120) (.c (.int .i64 1))⟩, false, false⟩,
 ⟨⟨(some 122), none, .mov (.t 0)⟩, false, false⟩,
 ⟨⟨(some 123), none, .mov (.t 10)⟩, false, false⟩,
 ⟨⟨(some 124), none, .bin .sub .no (.t 123) (.c (.int .i64 1))⟩, false, false⟩,
 ⟨⟨(some 125), none, .ixS 1 (.t 122) (.t 124)⟩, false, false⟩,
 ⟨⟨(some 126), none, .load none (.t 125)⟩, true, false⟩,
 ⟨⟨(some 127), none, .mov (.t 0)⟩, false, false⟩,
 ⟨⟨(some 128), none, .mov (.t 10)⟩, false, false⟩,
 ⟨⟨(some 129), none, .ixS 1 (.t 127) (.t 128)⟩, false, false⟩,
 ⟨⟨(some 130), none, .load none (.t 129)⟩, true, false⟩,
 ⟨⟨(some 131), none, .ixS 1 (.t 117) (.t 118)⟩, false, false⟩,
 ⟨⟨none, none, .store 1 (.t 131) (.t 126)⟩, false, true⟩,
 ⟨⟨(some 132), none, .ixS 1 (.t 119) (.t 121)⟩, false, false⟩,
 ⟨⟨none, none, .store 1 (.t 132) (.t 130)⟩, false, true⟩] [0, 0, 0, 0, 8, 0, 0, 64, 224, 480, 0, 0, 3072, 7168, 16355, 32739, 65535, 131071] [])))
 (.ops [
 ⟨(some 104), none, .mov (.t 10)⟩,
 ⟨(some 105), none, .bin .add .no (.t 104) (.c (.int .i64 1))⟩,
 ⟨(some 10), none, .mov (.t 105)⟩] [10]))))))
 .skip))))))))
 (.ops [
 ⟨(some 15), none, .mov (.t 8)⟩,
 ⟨(some 16), none, .bin .add .no (.t 15) (.c (.int .i64 1))⟩,
 ⟨(some 8), none, .mov (.t 16)⟩] [8]))))))
 (.seq
 (.ops [
 ⟨(some 6), none, .mov (.c (.bool false))⟩] [6])
 .ret)))),
 [.tmp 6]⟩

/-- cmp.Less[int] -/
noncomputable def sf83 : SFun := ⟨[0, 1, 4], 17,
 (.seq
 (.ops [
 ⟨(some 4), none, .mov (.c (.bool false))⟩] [4])
 (.seq
 (.ops [
 ⟨(some 5), none, .mov (.t 0)⟩,
 ⟨(some 6), none, .call (.c (.fn (.func 98) [] [])) [(.t 5)]⟩,
 ⟨(some 7), none, .mov (.t 6)⟩,
 ⟨(some 8), (some (7, true)), .mov (.t 1)⟩,
 ⟨(some 9), (some (7, true)), .call (.c (.fn (.func 98) [] [])) [(.t 8)]⟩,
 ⟨(some 10), (some (7, true)), .not (.t 9)⟩,
 ⟨(some 11), none, .pick (.t 7) (.t 10) (.c (.bool false))⟩,
 ⟨(some 12), none, .mov (.t 11)⟩,
 ⟨(some 13), (some (12, false)), .mov (.t 0)⟩,
 ⟨(some 14), (some (12, false)), .mov (.t 1)⟩,
 ⟨(some 15), (some (12, false)), .bin .lss .no (.t 13) (.t 14)⟩,
 ⟨(some 16), none, .pick (.t 12) (.c (.bool true)) (.t 15)⟩,
 ⟨(some 4), none, .mov (.t 16)⟩] [4])
 .ret)),
 [.tmp 4]⟩

/-- slices.partitionEqualOrdered[int] -/
noncomputable def sf84 : SFun := ⟨[0, 1, 2, 3, 8, 9, 10, 43, 59, 64], 84,
 (.seq
 (.ops [
 ⟨(some 8), none, .mov (.c (.int .i64 0))⟩] [8])
 (.seq
 (.draw [
 ⟨⟨(some 11), none, .mov (.t 0)⟩, false, false⟩,
 ⟨⟨(some 12), none, .mov (.t 1)⟩, false, false⟩,
 ⟨⟨(some 13), none, .mov (.t 0)⟩, false, false⟩,
 ⟨⟨(some 14), none, .mov (.t 3)⟩, false, false⟩,
 ⟨⟨(some 15), none, .mov (.t 0)⟩, false, false⟩,
 ⟨⟨(some 16), none, .mov (.t 3)⟩, false, false⟩,
 ⟨⟨(some 17), none, .ixS 1 (.t 15) (.t 16)⟩, false, false⟩,
 ⟨⟨(some 18), none, .load none (.t 17)⟩, true, false⟩,
 ⟨⟨(some 19), none, .mov (.t 0)⟩, false, false⟩,
 ⟨⟨(some 20), none, .mov (.t 1)⟩, false, false⟩,
 ⟨⟨(some 21), none, .ixS 1 (.t 19) (.t 20)⟩, false, false⟩,
 ⟨⟨(some 22), none, .load none (.t 21)⟩, true, false⟩,
 ⟨⟨(some 23), none, .ixS 1 (.t 11) (.t 12)⟩, false, false⟩,
 ⟨⟨none, none, .store 1 (.t 23) (.t 18)⟩, false, true⟩,
 ⟨⟨(some 24), none, .ixS 1 (.t 13) (.t 14)⟩, false, false⟩,
 ⟨⟨none, none, .store 1 (.t 24) (.t 22)⟩, false, true⟩] [0, 0, 0, 0, 0, 0, 48, 112, 0, 0, 768, 1792, 4083, 8179, 16383, 32767] [])
 (.seq
 (.ops [
 ⟨(some 25), none, .mov (.t 1)⟩,
 ⟨(some 26), none, .bin .add .no (.t 25) (.c (.int .i64 1))⟩,
 ⟨(some 27), none, .mov (.t 2)⟩,
 ⟨(some 28), none, .bin .sub .no (.t 27) (.c (.int .i64 1))⟩,
 ⟨(some 9), none, .mov (.t 26)⟩,
 ⟨(some 10), none, .mov (.t 28)⟩] [9, 10])
 (.seq
 (.block 0
 (.loop
 (.block 1
 (.seq
 (.block 2
 (.loop
 (.seq
 (.seq
 (.draw [
 ⟨⟨(some 29), none, .mov (.t 9)⟩, false, false⟩,
 ⟨⟨(some 30), none, .mov (.t 10)⟩, false, false⟩,
 ⟨⟨(some 31), none, .bin .leq .no (.t 29) (.t 30)⟩, false, false⟩,
 ⟨⟨(some 32), none, .mov (.t 31)⟩, false, false⟩,
 ⟨⟨(some 33), (some (32, true)), .mov (.t 0)⟩, false, false⟩,
 ⟨⟨(some 34), (some (32, true)), .mov (.t 1)⟩, false, false⟩,
 ⟨⟨(some 35), (some (32, true)), .ixS 1 (.t 33) (.t 34)⟩, false, false⟩,
 ⟨⟨(some 36), (some (32, true)), .load none (.t 35)⟩, true, false⟩,
 ⟨⟨(some 37), (some (32, true)), .mov (.t 0)⟩, false, false⟩,
 ⟨⟨(some 38), (some (32, true)), .mov (.t 9)⟩, false, false⟩,
 ⟨⟨(some 39), (some (32, true)), .ixS 1 (.t 37) (.t 38)⟩, false, false⟩,
 ⟨⟨(some 40), (some (32, true)), .load none (.t 39)⟩, true, false⟩,
 ⟨⟨(some 41), (some (32, true)), .call (.c (.fn (.func 83) [] [])) [(.t 36), (.t 40)]⟩, false, true⟩,
 ⟨⟨(some 42), (some (32, true)), .not (.t 41)⟩, false, false⟩,
 ⟨⟨(some 43), none, .pick (.t 32) (.t 42) (.c (.bool false))⟩, false, false⟩] [0, 0, 3, 7, 15, 15, 63, 127, 15, 15, 783, 1807, 4095, 8191, 16383] [43])
 (.cond (.t 43)
 .skip
 (.exit 2)))
 (.block 3
 (.ops [
 ⟨(some 44), none, .mov (.t 9)⟩,
 ⟨(some 45), none, .bin .add .no (.t 44) (.c (.int .i64 1))⟩,
 ⟨(some 9), none, .mov (.t 45)⟩] [9])))))
 (.seq
 (.block 4
 (.loop
 (.seq
 (.seq
 (.draw [
 ⟨⟨(some 46), none, .mov (.t 9)⟩, false, false⟩,
 ⟨⟨(some 47), none, .mov (.t 10)⟩, false, false⟩,
 ⟨⟨(some 48), none, .bin .leq .no (.t 46) (.t 47)⟩, false, false⟩,
 ⟨⟨(some 49), none, .mov (.t 48)⟩, false, false⟩,
 ⟨⟨(some 50), (some (49, true)), .mov (.t 0)⟩, false, false⟩,
 ⟨⟨(some 51), (some (49, true)), .mov (.t 1)⟩, false, false⟩,
 ⟨⟨(some 52), (some (49, true)), .ixS 1 (.t 50) (.t 51)⟩, false, false⟩,
 ⟨⟨(some 53), (some (49, true)), .load none (.t 52)⟩, true, false⟩,
 ⟨⟨(some 54), (some (49, true)), .mov (.t 0)⟩, false, false⟩,
 ⟨⟨(some 55), (some (49, true)), .mov (.t 10)⟩, false, false⟩,
 ⟨⟨(some 56), (some (49, true)), .ixS 1 (.t 54) (.t 55)⟩, false, false⟩,
 ⟨⟨(some 57), (some (49, true)), .load none (.t 56)⟩, true, false⟩,
 ⟨⟨(some 58), (some (49, true)), .call (.c (.fn (.func 83) [] [])) [(.t 53), (.t 57)]⟩, false, true⟩,
 ⟨⟨(some 59), none, .pick (.t 49) (.t 58) (.c (.bool false))⟩, false, false⟩] [0, 0, 3, 7, 15, 15, 63, 127, 15, 15, 783, 1807, 4095, 8191] [59])
 (.cond (.t 59)
 .skip
 (.exit 4)))
 (.block 5
 (.ops [
 ⟨(some 60), none, .mov (.t 10)⟩,
 ⟨(some 61), none, .bin .sub .no (.t 60) (.c (.int .i64 1))⟩,
 ⟨(some 10), none, .mov (.t 61)⟩] [10])))))
 (.seq
 (.seq
 (.ops [
 ⟨(some 62), none, .mov (.t 9)⟩,
 ⟨(some 63), none, .mov (.t 10)⟩,
 ⟨(some 64), none, .bin .gtr .no (.t 62) (.t 63)⟩] [64])
 (.cond (.t 64)
 (.exit 0)
 .skip))
 (.seq
 (.draw [
 ⟨⟨(some 65), none, .mov (.t 0)⟩, false, false⟩,
 ⟨⟨(some 66), none, .mov (.t 9)⟩, false, false⟩,
 ⟨⟨(some 67), none, .mov (.t 0)⟩, false, false⟩,
 ⟨⟨(some 68), none, .mov (.t 10)⟩, false, false⟩,
 ⟨⟨(some 69), none, .mov (.t 0)⟩, false, false⟩,
 ⟨⟨(some 70), none, .mov (.t 10)⟩, false, false⟩,
 ⟨⟨(some 71), none, .ixS 1 (.t 69) (.t 70)⟩, false, false⟩,
 ⟨⟨(some 72), none, .load none (.t 71)⟩, true, false⟩,
 ⟨⟨(some 73), none, .mov (.t 0)⟩, false, false⟩,
 ⟨⟨(some 74), none, .mov (.t 9)⟩, false, false⟩,
 ⟨⟨(some 75), none, .ixS 1 (.t 73) (.t 74)⟩, false, false⟩,
 ⟨⟨(some 76), none, .load none (.t 75)⟩, true, false⟩,
 ⟨⟨(some 77), none, .ixS 1 (.t 65) (.t 66)⟩, false, false⟩,
 ⟨⟨none, none, .store 1 (.t 77) (.t 72)⟩, false, true⟩,
 ⟨⟨(some 78), none, .ixS 1 (.t 67) (.t 68)⟩, false, false⟩,
 ⟨⟨none, none, .store 1 (.t 78) (.t 76)⟩, false, true⟩] [0, 0, 0, 0, 0, 0, 48, 112, 0, 0, 768, 1792, 4083, 8179, 16383, 32767] [])
 (.seq
 (.ops [
 ⟨(some 79), none, .mov (.t 9)⟩,
 ⟨(some 80), none, .bin .add .no (.t 79) (.c (.int .i64 1))⟩,
 ⟨(some 9), none, .mov (.t 80)⟩] [9])
 (.ops [
 ⟨(some 81), none, .mov (.t 10)⟩,
 ⟨(some 82), none, .bin .sub .no (.t 81) (.c (.int .i64 1))⟩,
 ⟨(some 10), none, .mov (.t 82)⟩] [10])))))))))
 (.seq
 (.ops [
 ⟨(some 83), none, .mov (.t 9)⟩,
 ⟨(some 8), none, .mov (.t 83)⟩] [8])
 .ret))))),
 [.tmp 8]⟩

/-- slices.partitionOrdered[int] -/
noncomputable def sf85 : SFun := ⟨[0, 1, 2, 3, 8, 9, 10, 11, 43, 60, 65, 112, 129, 134], 168,
 (.seq
 (.ops [
 ⟨(some 8), none, .mov (.c (.int .i64 0))⟩,
 ⟨(some 9), none, .mov (.c (.bool false))⟩] [8, 9])
 (.seq
 (.draw [
 ⟨⟨(some 12), none, .mov (.t 0)⟩, false, false⟩,
 ⟨⟨(some 13), none, .mov (.t 1)⟩, false, false⟩,
 ⟨⟨(some 14), none, .mov (.t 0)⟩, false, false⟩,
 ⟨⟨(some 15), none, .mov (.t 3)⟩, false, false⟩,
 ⟨⟨(some 16), none, .mov (.t 0)⟩, false, false⟩,
 ⟨⟨(some 17), none, .mov (.t 3)⟩, false, false⟩,
 ⟨⟨(some 18), none, .ixS 1 (.t 16) (.t 17)⟩, false, false⟩,
 ⟨⟨(some 19), none, .load none (.t 18)⟩, true, false⟩,
 ⟨⟨(some 20), none, .mov (.t 0)⟩, false, false⟩,
 ⟨⟨(some 21), none, .mov (.t 1)⟩, false, false⟩,
 ⟨⟨(some 22), none, .ixS 1 (.t 20) (.t 21)⟩, false, false⟩,
 ⟨⟨(some 23), none, .load none (.t 22)⟩, true, false⟩,
 ⟨⟨(some 24), none, .ixS 1 (.t 12) (.t 13)⟩, false, false⟩,
 ⟨⟨none, none, .store 1 (.t 24) (.t 19)⟩, false, true⟩,
 ⟨⟨(some 25), none, .ixS 1 (.t 14) (.t 15)⟩, false, false⟩,
 ⟨⟨none, none, .store 1 (.t 25) (.t 23)⟩, false, true⟩] [0, 0, 0, 0, 0, 0, 48, 112, 0, 0, 768, 1792, 4083, 8179, 16383, 32767] [])
 (.seq
 (.ops [
 ⟨(some 26), none, .mov (.t 1)⟩,
 ⟨(some 27), none, .bin .add .no (.t 26) (.c (.int .i64 1))⟩,
 ⟨(some 28), none, .mov (.t 2)⟩,
 ⟨(some 29), none, .bin .sub .no (.t 28) (.c (.int .i64 1))⟩,
 ⟨(some 10), none, .mov (.t 27)⟩,
 ⟨(some 11), none, .mov (.t 29)⟩] [10, 11])
 (.seq
 (.block 0
 (.loop
 (.seq
 (.seq
 (.draw [
 ⟨⟨(some 30), none, .mov (.t 10)⟩, false, false⟩,
 ⟨⟨(some 31), none, .mov (.t 11)⟩, false, false⟩,
 ⟨⟨(some 32), none, .bin .leq .no (.t 30) (.t 31)⟩, false, false⟩,
 ⟨⟨(some 33), none, .mov (.t 32)⟩, false, false⟩,
 ⟨⟨(some 34), (some (33, true)), .mov (.t 0)⟩, false, false⟩,
 ⟨⟨(some 35), (some (33, true)), .mov (.t 10)⟩, false, false⟩,
 ⟨⟨(some 36), (some (33, true)), .ixS 1 (.t 34) (.t 35)⟩, false, false⟩,
 ⟨⟨(some 37), (some (33, true)), .load none (.t 36)⟩, true, false⟩,
 ⟨⟨(some 38), (some (33, true)), .mov (.t 0)⟩, false, false⟩,
 ⟨⟨(some 39), (some (33, true)), .mov (.t 1)⟩, false, false⟩,
 ⟨⟨(some 40), (some (33, true)), .ixS 1 (.t 38) (.t 39)⟩, false, false⟩,
 ⟨⟨(some 41), (some (33, true)), .load none (.t 40)⟩, true, false⟩,
 ⟨⟨(some 42), (some (33, true)), .call (.c (.fn (.func 83) [] [])) [(.t 37), (.t 41)]⟩, false, true⟩,
 ⟨⟨(some 43), none, .pick (.t 33) (.t 42) (.c (.bool false))⟩, false, false⟩] [0, 0, 3, 7, 15, 15, 63, 127, 15, 15, 783, 1807, 4095, 8191] [43])
 (.cond (.t 43)
 .skip
 (.exit 0)))
 (.block 1
 (.ops [
 ⟨(some 44), none, .mov (.t 10)⟩,
 ⟨(some 45), none, .bin .add .no (.t 44) (.c (.int .i64 1))⟩,
 ⟨(some 10), none, .mov (.t 45)⟩] [10])))))
 (.seq
 (.block 2
 (.loop
 (.seq
 (.seq
 (.draw [
 ⟨⟨(some 46), none, .mov (.t 10)⟩, false, false⟩,
 ⟨⟨(some 47), none, .mov (.t 11)⟩, false, false⟩,
 ⟨⟨(some 48), none, .bin .leq .no (.t 46) (.t 47)⟩, false, false⟩,
 ⟨⟨(some 49), none, .mov (.t 48)⟩, false, false⟩,
 ⟨⟨(some 50), (some (49, true)), .mov (.t 0)⟩, false, false⟩,
 ⟨⟨(some 51), (some (49, true)), .mov (.t 11)⟩, false, false⟩,
 ⟨⟨(some 52), (some (49, true)), .ixS 1 (.t 50) (.t 51)⟩, false, false⟩,
 ⟨⟨(some 53), (some (49, true)), .load none (.t 52)⟩, true, false⟩,
 ⟨⟨(some 54), (some (49, true)), .mov (.t 0)⟩, false, false⟩,
 ⟨⟨(some 55), (some (49, true)), .mov (.t 1)⟩, false, false⟩,
 ⟨⟨(some 56), (some (49, true)), .ixS 1 (.t 54) (.t 55)⟩, false, false⟩,
 ⟨⟨(some 57), (some (49, true)), .load none (.t 56)⟩, true, false⟩,
 ⟨⟨(some 58), (some (49, true)), .call (.c (.fn (.func 83) [] [])) [(.t 53), (.t 57)]⟩, false, true⟩,
 ⟨⟨(some 59), (some (49, true)), .not (.t 58)⟩, false, false⟩,
 ⟨⟨(some 60), none, .pick (.t 49) (.t 59) (.c (.bool false))⟩, false, false⟩] [0, 0, 3, 7, 15, 15, 63, 127, 15, 15, 783, 1807, 4095, 8191, 16383] [60])
 (.cond (.t 60)
 .skip
 (.exit 2)))
 (.block 3
 (.ops [
 ⟨(some 61), none, .mov (.t 11)⟩,
 ⟨(some 62), none, .bin .sub .no (.t 61) (.c (.int .i64 1))⟩,
 ⟨(some 11), none, .mov (.t 62)⟩] [11])))))
 (.seq
 (.seq
 (.ops [
 ⟨(some 63), none, .mov (.t 10)⟩,
 ⟨(some 64), none, .mov (.t 11)⟩,
 ⟨(some 65), none, .bin .gtr .no (.t 63) (.t 64)⟩] [65])
 (.cond (.t 65)
 (.seq
 (.draw [
 ⟨⟨(some 66), none, .mov (.t 0)⟩, false, false⟩,
 ⟨⟨(some 67), none, .mov (.t 11)⟩, false, false⟩,
 ⟨⟨(some 68), none, .mov (.t 0)⟩, false, false⟩,
 ⟨⟨(some 69), none, .mov (.t 1)⟩, false, false⟩,
 ⟨⟨(some 70), none, .mov (.t 0)⟩, false, false⟩,
 ⟨⟨(some 71), none, .mov (.t 1)⟩, false, false⟩,
 ⟨⟨(some 72), none, .ixS 1 (.t 70) (.t 71)⟩, false, false⟩,
 ⟨⟨(some 73), none, .load none (.t 72)⟩, true, false⟩,
 ⟨⟨(some 74), none, .mov (.t 0)⟩, false, false⟩,
 ⟨⟨(some 75), none, .mov (.t 11)⟩, false, false⟩,
 ⟨⟨(some 76), none, .ixS 1 (.t 74) (.t 75)⟩, false, false⟩,
 ⟨⟨(some 77), none, .load none (.t 76)⟩, true, false⟩,
 ⟨⟨(some 78), none, .ixS 1 (.t 66) (.t 67)⟩, false, false⟩,
 ⟨⟨none, none, .store 1 (.t 78) (.t 73)⟩, false, true⟩,
 ⟨⟨(some 79), none, .ixS 1 (.t 68) (.t 69)⟩, false, false⟩,
 ⟨⟨none, none, .store 1 (.t 79) (.t 77)⟩, false, true⟩] [0, 0, 0, 0, 0, 0, 48, 112, 0, 0, 768, 1792, 4083, 8179, 16383, 32767] [])
 (.seq
 (.ops [
 ⟨(some 80), none, .mov (.t 11)⟩,
 ⟨(some 8), none, .mov (.t 80)⟩,
 ⟨(some 9), none, .mov (.c (.bool true))⟩] [8, 9])
 .ret))
 .skip))
 (.seq
 (.draw [
 ⟨⟨(some 81), none, .mov (.t 0)⟩, false, false⟩,
 ⟨⟨(some 82), none, .mov (.t 10)⟩, false, false⟩,
 ⟨⟨(some 83), none, .mov (.t 0)⟩, false, false⟩,
 ⟨⟨(some 84), none, .mov (.t 11)⟩, false, false⟩,
 ⟨⟨(some 85), none, .mov (.t 0)⟩, false, false⟩,
 ⟨⟨(some 86), none, .mov (.t 11)⟩, false, false⟩,
 ⟨⟨(some 87), none, .ixS 1 (.t 85) (.t 86)⟩, false, false⟩,
 ⟨⟨(some 88), none, .load none (.t 87)⟩, true, false⟩,
 ⟨⟨(some 89), none, .mov (.t 0)⟩, false, false⟩,
 ⟨⟨(some 90), none, .mov (.t 10)⟩, false, false⟩,
 ⟨⟨(some 91), none, .ixS 1 (.t 89) (.t 90)⟩, false, false⟩,
 ⟨⟨(some 92), none, .load none (.t 91)⟩, true, false⟩,
 ⟨⟨(some 93), none, .ixS 1 (.t 81) (.t 82)⟩, false, false⟩,
 ⟨⟨none, none, .store 1 (.t 93) (.t 88)⟩, false, true⟩,
 ⟨⟨(some 94), none, .ixS 1 (.t 83) (.t 84)⟩, false, false⟩,
 ⟨⟨none, none, .store 1 (.t 94) (.t 92)⟩, false, true⟩] [0, 0, 0, 0, 0, 0, 48, 112, 0, 0, 768, 1792, 4083, 8179, 16383, 32767] [])
 (.seq
 (.ops [
 ⟨(some 95), none, .mov (.t 10)⟩,
 ⟨(some 96), none, .bin .add .no (.t 95) (.c (.int .i64 1))⟩,
 ⟨(some 10), none, .mov (.t 96)⟩] [10])
 (.seq
 (.ops [
 ⟨(some 97), none, .mov (.t 11)⟩,
 ⟨(some 98), none, .bin .sub .no (.t 97) (.c (.int .i64 1))⟩,
 ⟨(some 11), none, .mov (.t 98)⟩] [11])
 (.seq
 (.block 4
 (.loop
 (.block 5
 (.seq
 (.block 6
 (.loop
 (.seq
 (.seq
 (.draw [
 ⟨⟨(some 99), none, .mov (.t 10)⟩, false, false⟩,
 ⟨⟨(some 100), none, .mov (.t 11)⟩, false, false⟩,
 ⟨⟨(some 101), none, .bin .leq .no (.t 99) (.t 100)⟩, false, false⟩,
 ⟨⟨(some 102), none, .mov (.t 101)⟩, false, false⟩,
 ⟨⟨(some 103), (some (102, true)), .mov (.t 0)⟩, false, false⟩,
 ⟨⟨(some 104), (some (102, true)), .mov (.t 10)⟩, false, false⟩,
 ⟨⟨(some 105), (some (102, true)), .ixS 1 (.t 103) (.t 104)⟩, false, false⟩,
 ⟨⟨(some 106), (some (102, true)), .load none (.t 105)⟩, true, false⟩,
 ⟨⟨(some 107), (some (102, true)), .mov (.t 0)⟩, false, false⟩,
 ⟨⟨(some 108), (some (102, true)), .mov (.t 1)⟩, false, false⟩,
 ⟨⟨(some 109), (some (102, true)), .ixS 1 (.t 107) (.t 108)⟩, false, false⟩,
 ⟨⟨(some 110), (some (102, true)), .load none (.t 109)⟩, true, false⟩,
 ⟨⟨(some 111), (some (102, true)), .call (.c (.fn (.func 83) [] [])) [(.t 106), (.t 110)]⟩, false, true⟩,
 ⟨⟨(some 112), none, .pick (.t 102) (.t 111) (.c (.bool false))⟩, false, false⟩] [0, 0, 3, 7, 15, 15, 63, 127, 15, 15, 783, 1807, 4095, 8191] [112])
 (.cond (.t 112)
 .skip
 (.exit 6)))
 (.block 7
 (.ops [
 ⟨(some 113), none, .mov (.t 10)⟩,
 ⟨(some 114), none, .bin .add .no (.t 113) (.c (.int .i64 1))⟩,
 ⟨(some 10), none, .mov (.t 114)⟩] [10])))))
 (.seq
 (.block 8
 (.loop
 (.seq
 (.seq
 (.draw [
 ⟨⟨(some 115), none, .mov (.t 10)⟩, false, false⟩,
 ⟨⟨(some 116), none, .mov (.t 11)⟩, false, false⟩,
 ⟨⟨(some 117), none, .bin .leq .no (.t 115) (.t 116)⟩, false, false⟩,
 ⟨⟨(some 118), none, .mov (.t 117)⟩, false, false⟩,
 ⟨⟨(some 119), (some (118, true)), .mov (.t 0)⟩, false, false⟩,
 ⟨⟨(some 120), (some (118, true)), .mov (.t 11)⟩, false, false⟩,
 ⟨⟨(some 121), (some (118, true)), .ixS 1 (.t 119) (.t 120)⟩, false, false⟩,
 ⟨⟨(some 122), (some (118, true)), .load none (.t 121)⟩, true, false⟩,
 ⟨⟨(some 123), (some (118, true)), .mov (.t 0)⟩, false, false⟩,
 ⟨⟨(some 124), (some (118, true)), .mov (.t 1)⟩, false, false⟩,
 ⟨⟨(some 125), (some (118, true)), .ixS 1 (.t 123) (.t 124)⟩, false, false⟩,
 ⟨⟨(some 126), (some (118, true)), .load none (.t 125)⟩, true, false⟩,
 ⟨⟨(some 127), (some (118, true)), .call (.c (.fn (.func 83) [] [])) [(.t 122), (.t 126)]⟩, false, true⟩,
 ⟨⟨(some 128), (some (118, true)), .not (.t 127)⟩, false, false⟩,
 ⟨⟨(some 129), none, .pick (.t 118) (.t 128) (.c (.bool false))⟩, false, false⟩] [0, 0, 3, 7, 15, 15, 63, 127, 15, 15, 783, 1807, 4095, 8191, 16383] [129])
 (.cond (.t 129)
 .skip
 (.exit 8)))
 (.block 9
 (.ops [
 ⟨(some 130), none, .mov (.t 11)⟩,
 ⟨(some 131), none, .bin .sub .no (.t 130) (.c (.int .i64 1))⟩,
 ⟨(some 11), none, .mov (.t 131)⟩] [11])))))
 (.seq
 (.seq
 (.ops [
 ⟨(some 132), none, .mov (.t 10)⟩,
 ⟨(some 133), none, .mov (.t 11)⟩,
 ⟨(some 134), none, .bin .gtr .no (.t 132) (.t 133)⟩] [134])
 (.cond (.t 134)
 (.exit 4)
 .skip))
 (.seq
 (.draw [
 ⟨⟨(some 135), none, .mov (.t 0)⟩, false, false⟩,
 ⟨⟨(some 136), none, .mov (.t 10)⟩, false, false⟩,
 ⟨⟨(some 137), none, .mov (.t 0)⟩, false, false⟩,
 ⟨⟨(some 138), none, .mov (.t 11)⟩, false, false⟩,
 ⟨⟨(some 139), none, .mov (.t 0)⟩, false, false⟩,
 ⟨⟨(some 140), none, .mov (.t 11)⟩, false, false⟩,
 ⟨⟨(some 141), none, .ixS 1 (.t 139) (.t 140)⟩, false, false⟩,
 ⟨⟨(some 142), none, .load none (.t 141)⟩, true, false⟩,
 ⟨⟨(some 143), none, .mov (.t 0)⟩, false, false⟩,
 ⟨⟨(some 144), none, .mov (.t 10)⟩, false, false⟩,
 ⟨⟨(some 145), none, .ixS 1 (.t 143) (.t 144)⟩, false, false⟩,
 ⟨⟨(some 146), none, .load none (.t 145)⟩, true, false⟩,
 ⟨⟨(some 147), none, .ixS 1 (.t 135) (.t 136)⟩, false, false⟩,
 ⟨⟨none, none, .store 1 (.t 147) (.t 142)⟩, false, true⟩,
 ⟨⟨(some 148), none, .ixS 1 (.t 137) (.t 138)⟩, false, false⟩,
 ⟨⟨none, none, .store 1 (.t 148) (.t 146)⟩, false, true⟩] [0, 0, 0, 0, 0, 0, 48, 112, 0, 0, 768, 1792, 4083, 8179, 16383, 32767] [])
 (.seq
 (.ops [
 ⟨(some 149), none, .mov (.t 10)⟩,
 ⟨(some 150), none, .bin .add .no (.t 149) (.c (.int .i64 1))⟩,
 ⟨(some 10), none, .mov (.t 150)⟩] [10])
 (.ops [
 ⟨(some 151), none, .mov (.t 11)⟩,
 ⟨(some 152), none, .bin .sub .no (.t 151) (.c (.int .i64 1))⟩,
 ⟨(some 11), none, .mov (.t 152)⟩] [11])))))))))
 (.seq
 (.draw [
 ⟨⟨(some 153), none, .mov (.t 0)⟩, false, false⟩,
 ⟨⟨(some 154), none, .mov (.t 11)⟩, false, false⟩,
 ⟨⟨(some 155), none, .mov (.t 0)⟩, false, false⟩,
 ⟨⟨(some 156), none, .mov (.t 1)⟩, false, false⟩,
 ⟨⟨(some 157), none, .mov (.t 0)⟩, false, false⟩,
 ⟨⟨(some 158), none, .mov (.t 1)⟩, false, false⟩,
 ⟨⟨(some 159), none, .ixS 1 (.t 157) (.t 158)⟩, false, false⟩,
 ⟨⟨(some 160), none, .load none (.t 159)⟩, true, false⟩,
 ⟨⟨(some 161), none, .mov (.t 0)⟩, false, false⟩,
 ⟨⟨(some 162), none, .mov (.t 11)⟩, false, false⟩,
 ⟨⟨(some 163), none, .ixS 1 (.t 161) (.t 162)⟩, false, false⟩,
 ⟨⟨(some 164), none, .load none (.t 163)⟩, true, false⟩,
 ⟨⟨(some 165), none, .ixS 1 (.t 153) (.t 154)⟩, false, false⟩,
 ⟨⟨none, none, .store 1 (.t 165) (.t 160)⟩, false, true⟩,
 ⟨⟨(some 166), none, .ixS 1 (.t 155) (.t 156)⟩, false, false⟩,
 ⟨⟨none, none, .store 1 (.t 166) (.t 164)⟩, false, true⟩] [0, 0, 0, 0, 0, 0, 48, 112, 0, 0, 768, 1792, 4083, 8179, 16383, 32767] [])
 (.seq
 (.ops [
 ⟨(some 167), none, .mov (.t 11)⟩,
 ⟨(some 8), none, .mov (.t 167)⟩,
 ⟨(some 9), none, .mov (.c (.bool false))⟩] [8, 9])
 .ret)))))))))))),
 [.tmp 8, .tmp 9]⟩

/-- math/bits.Len32 -/
noncomputable def sf86 : SFun := ⟨[0, 2, 4, 8], 19,
 (.seq
 (.ops [
 ⟨(some 2), none, .mov (.c (.int .i64 0))⟩] [2])
 (.seq
 (.seq
 (.ops [
 ⟨(some 3), none, .mov (.t 0)⟩,
 ⟨(some 4), none, .bin .geq .no (.t 3) (.c (.int .u32 65536))⟩] [4])
 (.cond (.t 4)
 (.seq
 (.ops [
 ⟨(some 5), none, .mov (.t 0)⟩,
 ⟨(some 6), none, .bin .shr .no (.t 5) (.c (.int .u64 16))⟩,
 ⟨(some 0), none, .mov (.t 6)⟩] [0])
 (.ops [
 ⟨(some 2), none, .mov (.c (.int .i64 16))⟩] [2]))
 .skip))
 (.seq
 (.seq
 (.ops [
 ⟨(some 7), none, .mov (.t 0)⟩,
 ⟨(some 8), none, .bin .geq .no (.t 7) (.c (.int .u32 256))⟩] [8])
 (.cond (.t 8)
 (.seq
 (.ops [
 ⟨(some 9), none, .mov (.t 0)⟩,
 ⟨(some 10), none, .bin .shr .no (.t 9) (.c (.int .u64 8))⟩,
 ⟨(some 0), none, .mov (.t 10)⟩] [0])
 (.ops [
 ⟨(some 11), none, .mov (.t 2)⟩,
 ⟨(some 12), none, .bin .add .no (.t 11) (.c (.int .i64 8))⟩,
 ⟨(some 2), none, .mov (.t 12)⟩] [2]))
 .skip))
 (.seq
 (.ops [
 ⟨(some 13), none, .mov (.t 2)⟩,
 ⟨(some 14), none, .mov (.t 0)⟩,
 ⟨(some 15), none, .conv .u8 (.t 14)⟩,
 ⟨(some 16), none, .ixT (.c (.str [0, 1, 2, 2, 3, 3, 3, 3, 4, 4, 4, 4, 4, 4, 4, 4, 5, 5, 5, 5, 5, 5, 5, 5, 5, 5, 5, 5, 5, 5, 5, 5, 6, 6, 6, 6, 6, 6, 6, 6, 6, 6, 6, 6, 6, 6, 6, 6, 6, 6, 6, 6, 6, 6, 6, 6, 6, 6, 6, 6, 6, 6, 6, 6, 7, 7, 7, 7, 7, 7, 7, 7, 7, 7, 7, 7, 7, 7, 7, 7, 7, 7, 7, 7, 7, 7, 7, 7, 7, 7, 7, 7, 7, 7, 7, 7, 7, 7, 7, 7, 7, 7, 7, 7, 7, 7, 7, 7, 7, 7, 7, 7, 7, 7, 7, 7, 7, 7, 7, 7, 7, 7, 7, 7, 7, 7, 7, 7, 8, 8, 8, 8, 8, 8, 8, 8, 8, 8, 8, 8, 8, 8, 8, 8, 8, 8, 8, 8, 8, 8, 8, 8, 8, 8, 8, 8, 8, 8, 8, 8, 8, 8, 8, 8, 8, 8, 8, 8, 8, 8, 8, 8, 8, 8, 8, 8, 8, 8, 8, 8, 8, 8, 8, 8, 8, 8, 8, 8, 8, 8, 8, 8, 8, 8, 8, 8, 8, 8, 8, 8, 8, 8, 8, 8, 8, 8, 8, 8, 8, 8, 8, 8, 8, 8, 8, 8, 8, 8, 8, 8, 8, 8, 8, 8, 8, 8, 8, 8, 8, 8, 8, 8, 8, 8, 8, 8, 8, 8, 8, 8, 8, 8, 8, 8, 8, 8, 8, 8, 8, 8, 8, 8, 8, 8, 8, 8])) (.t 15)⟩,
 ⟨(some 17), none, .conv .i64 (.t 16)⟩,
 ⟨(some 18), none, .bin .add .no (.t 13) (.t 17)⟩,
 ⟨(some 2), none, .mov (.t 18)⟩] [2])
 .ret)))),
 [.tmp 2]⟩

/-- math/bits.Len64 -/
noncomputable def sf87 : SFun := ⟨[0, 2, 4, 8, 14], 25,
 (.seq
 (.ops [
 ⟨(some 2), none, .mov (.c (.int .i64 0))⟩] [2])
 (.seq
 (.seq
 (.ops [
 ⟨(some 3), none, .mov (.t 0)⟩,
 ⟨(some 4), none, .bin .geq .no (.t 3) (.c (.int .u64 4294967296))⟩] [4])
 (.cond (.t 4)
 (.seq
 (.ops [
 ⟨(some 5), none, .mov (.t 0)⟩,
 ⟨(some 6), none, .bin .shr .no (.t 5) (.c (.int .u64 32))⟩,
 ⟨(some 0), none, .mov (.t 6)⟩] [0])
 (.ops [
 ⟨(some 2), none, .mov (.c (.int .i64 32))⟩] [2]))
 .skip))
 (.seq
 (.seq
 (.ops [
 ⟨(some 7), none, .mov (.t 0)⟩,
 ⟨(some 8), none, .bin .geq .no (.t 7) (.c (.int .u64 65536))⟩] [8])
 (.cond (.t 8)
 (.seq
 (.ops [
 ⟨(some 9), none, .mov (.t 0)⟩,
 ⟨(some 10), none, .bin .shr .no (.t 9) (.c (.int .u64 16))⟩,
 ⟨(some 0), none, .mov (.t 10)⟩] [0])
 (.ops [
 ⟨(some 11), none, .mov (.t 2)⟩,
 ⟨(some 12), none, .bin .add .no (.t 11) (.c (.int .i64 16))⟩,
 ⟨(some 2), none, .mov (.t 12)⟩] [2]))
 .skip))
 (.seq
 (.seq
 (.ops [
 ⟨(some 13), none, .mov (.t 0)⟩,
 ⟨(some 14), none, .bin .geq .no (.t 13) (.c (.int .u64 256))⟩] [14])
 (.cond (.t 14)
 (.seq
 (.ops [
 ⟨(some 15), none, .mov (.t 0)⟩,
 ⟨(some 16), none, .bin .shr .no (.t 15) (.c (.int .u64 8))⟩,
 ⟨(some 0), none, .mov (.t 16)⟩] [0])
 (.ops [
 ⟨(some 17), none, .mov (.t 2)⟩,
 ⟨(some 18), none, .bin .add .no (.t 17) (.c (.int .i64 8))⟩,
 ⟨(some 2), none, .mov (.t 18)⟩] [2]))
 .skip))
 (.seq
 (.ops [
 ⟨(some 19), none, .mov (.t 2)⟩,
 ⟨(some 20), none, .mov (.t 0)⟩,
 ⟨(some 21), none, .conv .u8 (.t 20)⟩,
 ⟨(some 22), none, .ixT (.c (.str [0, 1, 2, 2, 3, 3, 3, 3, 4, 4, 4, 4, 4, 4, 4, 4, 5, 5, 5, 5, 5, 5, 5, 5, 5, 5, 5, 5, 5, 5, 5, 5, 6, 6, 6, 6, 6, 6, 6, 6, 6, 6, 6, 6, 6, 6, 6, 6, 6, 6, 6, 6, 6, 6, 6, 6, 6, 6, 6, 6, 6, 6, 6, 6, 7, 7, 7, 7, 7, 7, 7, 7, 7, 7, 7, 7, 7, 7, 7, 7, 7, 7, 7, 7, 7, 7, 7, 7, 7, 7, 7, 7, 7, 7, 7, 7, 7, 7, 7, 7, 7, 7, 7, 7, 7, 7, 7, 7, 7, 7, 7, 7, 7, 7, 7, 7, 7, 7, 7, 7, 7, 7, 7, 7, 7, 7, 7, 7, 8, 8, 8, 8, 8, 8, 8, 8, 8, 8, 8, 8, 8, 8, 8, 8, 8, 8, 8, 8, 8, 8, 8, 8, 8, 8, 8, 8, 8, 8, 8, 8, 8, 8, 8, 8, 8, 8, 8, 8, 8, 8, 8, 8, 8, 8, 8, 8, 8, 8, 8, 8, 8, 8, 8, 8, 8, 8, 8, 8, 8, 8, 8, 8, 8, 8, 8, 8, 8, 8, 8, 8, 8, 8, 8, 8, 8, 8, 8, 8, 8, 8, 8, 8, 8, 8, 8, 8, 8, 8, 8, 8, 8, 8, 8, 8, 8, 8, 8, 8, 8, 8, 8, 8, 8, 8, 8, 8, 8, 8, 8, 8, 8, 8, 8, 8, 8, 8, 8, 8, 8, 8, 8, 8, 8, 8, 8, 8])) (.t 21)⟩,
 ⟨(some 23), none, .conv .i64 (.t 22)⟩,
 ⟨(some 24), none, .bin .add .no (.t 19) (.t 23)⟩,
 ⟨(some 2), none, .mov (.t 24)⟩] [2])
 .ret))))),
 [.tmp 2]⟩

/-- internal/strconv.Itoa -/
noncomputable def sf88 : SFun := ⟨[0, 2], 5,
 (.seq
 (.ops [
 ⟨(some 2), none, .mov (.c (.str []))⟩] [2])
 (.seq
 (.ops [
 ⟨(some 3), none, .mov (.t 0)⟩,
 ⟨(some 4), none, .call (.c (.fn (.func 99) [] [])) [(.t 3), (.c (.int .i64 10))]⟩,
 ⟨(some 2), none, .mov (.t 4)⟩] [2])
 .ret)),
 [.tmp 2]⟩

/-- strings.trimLeftByte -/
noncomputable def sf89 : SFun := ⟨[0, 1, 4, 13], 17,
 (.seq
 (.ops [
 ⟨(some 4), none, .mov (.c (.str []))⟩] [4])
 (.seq
 (.block 0
 (.loop
 (.seq
 (.seq
 (.ops [
 ⟨(some 5), none, .mov (.t 0)⟩,
 ⟨(some 6), none, .lenT (.t 5)⟩,
 ⟨(some 7), none, .bin .gtr .no (.t 6) (.c (.int .i64 0))⟩,
 ⟨(some 8), none, .mov (.t 7)⟩,
 ⟨(some 9), (some (8, true)), .mov (.t 0)⟩,
 ⟨(some 10), (some (8, true)), .ixT (.t 9) (.c (.int .i64 0))⟩,
 ⟨(some 11), (some (8, true)), .mov (.t 1)⟩,
 ⟨(some 12), (some (8, true)), .bin .eql .no (.t 10) (.t 11)⟩,
 ⟨(some 13), none, .pick (.t 8) (.t 12) (.c (.bool false))⟩] [13])
 (.cond (.t 13)
 .skip
 (.exit 0)))
 (.block 1
 (.ops [
 ⟨(some 14), none, .mov (.t 0)⟩,
 ⟨(some 15), none, .slT (.t 14) (some (.c (.int .i64 1))) none⟩,
 ⟨(some 0), none, .mov (.t 15)⟩] [0])))))
 (.seq
 (.ops [
 ⟨(some 16), none, .mov (.t 0)⟩,
 ⟨(some 4), none, .mov (.t 16)⟩] [4])
 .ret))),
 [.tmp 4]⟩

/-- strings.makeASCIISet -/
noncomputable def sf90 : SFun := ⟨[0, 2, 3, 4, 5, 9, 16], 21,
 (.seq
 (.ops [
 ⟨(some 2), none, .new [(.bool false), (.bool false), (.bool false), (.bool false), (.bool false), (.bool false), (.bool false), (.bool false), (.bool false), (.bool false), (.bool false), (.bool false), (.bool false), (.bool false), (.bool false), (.bool false), (.bool false), (.bool false), (.bool false), (.bool false), (.bool false), (.bool false), (.bool false), (.bool false), (.bool false), (.bool false), (.bool false), (.bool false), (.bool false), (.bool false), (.bool false), (.bool false), (.bool false), (.bool false), (.bool false), (.bool false), (.bool false), (.bool false), (.bool false), (.bool false), (.bool false), (.bool false), (.bool false), (.bool false), (.bool false), (.bool false), (.bool false), (.bool false), (.bool false), (.bool false), (.bool false), (.bool false), (.bool false), (.bool false), (.bool false), (.bool false), (.bool false), (.bool false), (.bool false), (.bool false), (.bool false), (.bool false), (.bool false), (.bool false), (.bool false), (.bool false), (.bool false), (.bool false), (.bool false), (.bool false), (.bool false), (.bool false), (.bool false), (.bool false), (.bool false), (.bool false), (.bool false), (.bool false), (.bool false), (.bool false), (.bool false), (.bool false), (.bool false), (.bool false), (.bool false), (.bool false), (.bool false), (.bool false), (.bool false), (.bool false), (.bool false), (.bool false), (.bool false), (.bool false), (.bool false), (.bool false), (.bool false), (.bool false), (.bool false), (.bool false), (.bool false), (.bool false), (.bool false), (.bool false), (.bool false), (.bool false), (.bool false), (.bool false), (.bool false), (.bool false), (.bool false), (.bool false), (.bool false), (.bool false), (.bool false), (.bool false), (.bool false), (.bool false), (.bool false), (.bool false), (.bool false), (.bool false), (.bool false), (.bool false), (.bool false), (.bool false), (.bool false), (.bool false), (.bool false), (.bool false), (.bool false), (.bool false), (.bool false), (.bool false), (.bool false), (.bool false), (.bool false), (.bool false), (.bool false), (.bool false), (.bool false), (.bool false), (.bool false), (.bool false), (.bool false), (.bool false), (.bool false), (.bool false), (.bool false), (.bool false), (.bool false), (.bool false), (.bool false), (.bool false), (.bool false), (.bool false), (.bool false), (.bool false), (.bool false), (.bool false), (.bool false), (.bool false), (.bool false), (.bool false), (.bool false), (.bool false), (.bool false), (.bool false), (.bool false), (.bool false), (.bool false), (.bool false), (.bool false), (.bool false), (.bool false), (.bool false), (.bool false), (.bool false), (.bool false), (.bool false), (.bool false), (.bool false), (.bool false), (.bool false), (.bool false), (.bool false), (.bool false), (.bool false), (.bool false), (.bool false), (.bool false), (.bool false), (.bool false), (.bool false), (.bool false), (.bool false), (.bool false), (.bool false), (.bool false), (.bool false), (.bool false), (.bool false), (.bool false), (.bool false), (.bool false), (.bool false), (.bool false), (.bool false), (.bool false), (.bool false), (.bool false), (.bool false), (.bool false), (.bool false), (.bool false), (.bool false), (.bool false), (.bool false), (.bool false), (.bool false), (.bool false), (.bool false), (.bool false), (.bool false), (.bool false), (.bool false), (.bool false), (.bool false), (.bool false), (.bool false), (.bool false), (.bool false), (.bool false), (.bool false), (.bool false), (.bool false), (.bool false), (.bool false), (.bool false), (.bool false), (.bool false), (.bool false), (.bool false), (.bool false), (.bool false), (.bool false), (.bool false), (.bool false), (.bool false), (.bool false), (.bool false), (.bool false), (.bool false), (.bool false), (.bool false), (.bool false)]⟩,
 ⟨(some 3), none, .mov (.c (.bool false))⟩] [2, 3])
 (.seq
 (.seq
 (.ops [
 ⟨(some 4), none, .mov (.c (.int .i64 0))⟩] [4])
 (.block 0
 (.loop
 (.seq
 (.seq
 (.ops [
 ⟨(some 6), none, .mov (.t 4)⟩,
 ⟨(some 7), none, .mov (.t 0)⟩,
 ⟨(some 8), none, .lenT (.t 7)⟩,
 ⟨(some 9), none, .bin .lss .no (.t 6) (.t 8)⟩] [9])
 (.cond (.t 9)
 .skip
 (.exit 0)))
 (.seq
 (.block 1
 (.seq
 (.ops [
 ⟨(some 12), none, .mov (.t 0)⟩,
 ⟨(some 13), none, .mov (.t 4)⟩,
 ⟨(some 14), none, .ixT (.t 12) (.t 13)⟩,
 ⟨(some 5), none, .mov (.t 14)⟩] [5])
 (.seq
 (.seq
 (.ops [
 ⟨(some 15), none, .mov (.t 5)⟩,
 ⟨(some 16), none, .bin .geq .no (.t 15) (.c (.int .u8 128))⟩] [16])
 (.cond (.t 16)
 (.seq
 (.ops [
 ⟨(some 17), none, .load (some 256) (.t 2)⟩,
 ⟨none, none, .store 256 (.t 2) (.t 17)⟩,
 ⟨(some 3), none, .mov (.c (.bool false))⟩] [3])
 .ret)
 .skip))
 (.ops [
 ⟨(some 18), none, .mov (.t 5)⟩,
 ⟨(some 19), none, .ixA 256 1 (.t 2) (.t 18)⟩,
 ⟨none, none, .store 1 (.t 19) (.c (.bool true))⟩] []))))
 (.ops [
 ⟨(some 10), none, .mov (.t 4)⟩,
 ⟨(some 11), none, .bin .add .no (.t 10) (.c (.int .i64 1))⟩,
 ⟨(some 4), none, .mov (.t 11)⟩] [4]))))))
 (.seq
 (.ops [
 ⟨(some 20), none, .load (some 256) (.t 2)⟩,
 ⟨none, none, .store 256 (.t 2) (.t 20)⟩,
 ⟨(some 3), none, .mov (.c (.bool true))⟩] [3])
 .ret))),
 [.cell 2 (some 256), .tmp 3]⟩

/-- strings.trimLeftASCII -/
noncomputable def sf91 : SFun := ⟨[0, 1, 4, 7, 12], 16,
 (.seq
 (.ops [
 ⟨(some 4), none, .mov (.c (.str []))⟩] [4])
 (.seq
 (.block 0
 (.loop
 (.seq
 (.seq
 (.ops [
 ⟨(some 5), none, .mov (.t 0)⟩,
 ⟨(some 6), none, .lenT (.t 5)⟩,
 ⟨(some 7), none, .bin .gtr .no (.t 6) (.c (.int .i64 0))⟩] [7])
 (.cond (.t 7)
 .skip
 (.exit 0)))
 (.block 1
 (.seq
 (.seq
 (.ops [
 ⟨(some 8), none, .mov (.t 1)⟩,
 ⟨(some 9), none, .mov (.t 0)⟩,
 ⟨(some 10), none, .ixT (.t 9) (.c (.int .i64 0))⟩,
 ⟨(some 11), none, .call (.c (.fn (.func 100) [] [])) [(.t 8), (.t 10)]⟩,
 ⟨(some 12), none, .not (.t 11)⟩] [12])
 (.cond (.t 12)
 (.exit 0)
 .skip))
 (.ops [
 ⟨(some 13), none, .mov (.t 0)⟩,
 ⟨(some 14), none, .slT (.t 13) (some (.c (.int .i64 1))) none⟩,
 ⟨(some 0), none, .mov (.t 14)⟩] [0]))))))
 (.seq
 (.ops [
 ⟨(some 15), none, .mov (.t 0)⟩,
 ⟨(some 4), none, .mov (.t 15)⟩] [4])
 .ret))),
 [.tmp 4]⟩

/-- strings.trimLeftUnicode -/
noncomputable def sf92 : SFun := ⟨[0, 1, 4, 5, 6, 9, 18], 23,
 (.seq
 (.ops [
 ⟨(some 4), none, .mov (.c (.str []))⟩] [4])
 (.seq
 (.block 0
 (.loop
 (.seq
 (.seq
 (.ops [
 ⟨(some 7), none, .mov (.t 0)⟩,
 ⟨(some 8), none, .lenT (.t 7)⟩,
 ⟨(some 9), none, .bin .gtr .no (.t 8) (.c (.int .i64 0))⟩] [9])
 (.cond (.t 9)
 .skip
 (.exit 0)))
 (.block 1
 (.seq
 (.ops [
 ⟨(some 11), none, .mov (.t 0)⟩,
 ⟨(some 12), none, .call (.c (.fn (.func 101) [] [])) [(.t 11)]⟩,
 ⟨(some 10), none, .mov (.t 12)⟩,
 ⟨(some 13), none, .ext (.t 10) 0⟩,
 ⟨(some 14), none, .ext (.t 10) 1⟩,
 ⟨(some 5), none, .mov (.t 13)⟩,
 ⟨(some 6), none, .mov (.t 14)⟩] [5, 6])
 (.seq
 (.seq
 (.ops [
 ⟨(some 15), none, .mov (.t 1)⟩,
 ⟨(some 16), none, .mov (.t 5)⟩,
 ⟨(some 17), none, .call (.c (.fn (.func 102) [] [])) [(.t 15), (.t 16)]⟩,
 ⟨(some 18), none, .not (.t 17)⟩] [18])
 (.cond (.t 18)
 (.exit 0)
 .skip))
 (.ops [
 ⟨(some 19), none, .mov (.t 0)⟩,
 ⟨(some 20), none, .mov (.t 6)⟩,
 ⟨(some 21), none, .slT (.t 19) (some (.t 20)) none⟩,
 ⟨(some 0), none, .mov (.t 21)⟩] [0])))))))
 (.seq
 (.ops [
 ⟨(some 22), none, .mov (.t 0)⟩,
 ⟨(some 4), none, .mov (.t 22)⟩] [4])
 .ret))),
 [.tmp 4]⟩

/-- slices.siftDownOrdered[int] -/
noncomputable def sf93 : SFun := ⟨[0, 1, 2, 3, 8, 9, 16, 36, 52], 76,
 (.seq
 (.ops [
 ⟨(some 10), none, .mov (.t 1)⟩,
 ⟨(some 8), none, .mov (.t 10)⟩] [8])
 (.block 0
 (.loop
 (.block 1
 (.seq
 (.ops [
 ⟨(some 11), none, .mov (.t 8)⟩,
 ⟨(some 12), none, .bin .mul .no (.c (.int .i64 2)) (.t 11)⟩,
 ⟨(some 13), none, .bin .add .no (.t 12) (.c (.int .i64 1))⟩,
 ⟨(some 9), none, .mov (.t 13)⟩] [9])
 (.seq
 (.seq
 (.ops [
 ⟨(some 14), none, .mov (.t 9)⟩,
 ⟨(some 15), none, .mov (.t 2)⟩,
 ⟨(some 16), none, .bin .geq .no (.t 14) (.t 15)⟩] [16])
 (.cond (.t 16)
 (.exit 0)
 .skip))
 (.seq
 (.seq
 (.draw [
 ⟨⟨(some 17), none, .mov (.t 9)⟩, false, false⟩,
 ⟨⟨(some 18), none, .bin .add .no (.t 17) (.c (.int .i64 1))⟩, false, false⟩,
 ⟨⟨(some 19), none, .mov (.t 2)⟩, false, false⟩,
 ⟨⟨(some 20), none, .bin .lss .no (.t 18) (.t 19)⟩, false, false⟩,
 ⟨⟨(some 21), none, .mov (.t 20)⟩, false, false⟩,
 ⟨⟨(some 22), (some (21, true)), .mov (.t 0)⟩, false, false⟩,
 ⟨⟨(some 23), (some (21, true)), .mov (.t 3)⟩, false, false⟩,
 ⟨⟨(some 24), (some (21, true)), .mov (.t 9)⟩, false, false⟩,
 ⟨⟨(some 25), (some (21, true)), .bin .add .no (.t 23) (.t 24)⟩, false, false⟩,
 ⟨⟨(some 26), (some (21, true)), .ixS 1 (.t 22) (.t 25)⟩, false, false⟩,
 ⟨⟨(some 27), (some (21, true)), .load none (.t 26)⟩, true, false⟩,
 ⟨⟨(some 28), (some (21, true)), .mov (.t 0)⟩, false, false⟩,
 ⟨⟨(some 29), (some (21, true)), .mov (.t 3)⟩, false, false⟩,
 ⟨⟨(some 30), (some (21, true)), .mov (.t 9)⟩, false, false⟩,
 ⟨⟨(some 31), (some (21, true)), .bin .add .no (.t 29) (.t 30)⟩, false, false⟩,
 ⟨⟨(some 32), (some (21, true)), .bin .add .no (.t 31) (.c (.int .i64 1))⟩, false, false⟩,
 ⟨⟨(some 33), (some (21, true)), .ixS 1 (.t 28) (.t 32)⟩, false, false⟩,
 ⟨⟨(some 34), (some (21, true)), .load none (.t 33)⟩, true, false⟩,
 ⟨⟨(some 35), (some (21, true)), .call (.c (.fn (.func 83) [] [])) [(.t 27), (.t 34)]⟩, false, true⟩,
 ⟨⟨(some 36), none, .pick (.t 21) (.t 35) (.c (.bool false))⟩, false, false⟩] [0, 1, 0, 7, 15, 31, 31, 31, 223, 511, 1023, 31, 31, 31, 12319, 28703, 63519, 129055, 262143, 524287] [36])
 (.cond (.t 36)
 (.ops [
 ⟨(some 37), none, .mov (.t 9)⟩,
 ⟨(some 38), none, .bin .add .no (.t 37) (.c (.int .i64 1))⟩,
 ⟨(some 9), none, .mov (.t 38)⟩] [9])
 .skip))
 (.seq
 (.seq
 (.draw [
 ⟨⟨(some 39), none, .mov (.t 0)⟩, false, false⟩,
 ⟨⟨(some 40), none, .mov (.t 3)⟩, false, false⟩,
 ⟨⟨(some 41), none, .mov (.t 8)⟩, false, false⟩,
 ⟨⟨(some 42), none, .bin .add .no (.t 40) (.t 41)⟩, false, false⟩,
 ⟨⟨(some 43), none, .ixS 1 (.t 39) (.t 42)⟩, false, false⟩,
 ⟨⟨(some 44), none, .load none (.t 43)⟩, true, false⟩,
 ⟨⟨(some 45), none, .mov (.t 0)⟩, false, false⟩,
 ⟨⟨(some 46), none, .mov (.t 3)⟩, false, false⟩,
 ⟨⟨(some 47), none, .mov (.t 9)⟩, false, false⟩,
 ⟨⟨(some 48), none, .bin .add .no (.t 46) (.t 47)⟩, false, false⟩,
 ⟨⟨(some 49), none, .ixS 1 (.t 45) (.t 48)⟩, false, false⟩,
 ⟨⟨(some 50), none, .load none (.t 49)⟩, true, false⟩,
 ⟨⟨(some 51), none, .call (.c (.fn (.func 83) [] [])) [(.t 44), (.t 50)]⟩, false, true⟩,
 ⟨⟨(some 52), none, .not (.t 51)⟩, false, false⟩] [0, 0, 0, 6, 15, 31, 0, 0, 0, 384, 960, 1984, 4095, 8191] [52])
 (.cond (.t 52)
 .ret
 .skip))
 (.seq
 (.draw [
 ⟨⟨(some 53), none, .mov (.t 0)⟩, false, false⟩,
 ⟨⟨(some 54), none, .mov (.t 3)⟩, false, false⟩,
 ⟨⟨(some 55), none, .mov (.t 8)⟩, false, false⟩,
 ⟨⟨(some 56), none, .bin .add .no (.t 54) (.t 55)⟩, false, false⟩,
 ⟨⟨(some 57), none, .mov (.t 0)⟩, false, false⟩,
 ⟨⟨(some 58), none, .mov (.t 3)⟩, false, false⟩,
 ⟨⟨(some 59), none, .mov (.t 9)⟩, false, false⟩,
 ⟨⟨(some 60), none, .bin .add .no (.t 58) (.t 59)⟩, false, false⟩,
 ⟨⟨(some 61), none, .mov (.t 0)⟩, false, false⟩,
 ⟨⟨(some 62), none, .mov (.t 3)⟩, false, false⟩,
 ⟨⟨(some 63), none, .mov (.t 9)⟩, false, false⟩,
 ⟨⟨(some 64), none, .bin .add .no (.t 62) (.t 63)⟩, false, false⟩,
 ⟨⟨(some 65), none, .ixS 1 (.t 61) (.t 64)⟩, false, false⟩,
 ⟨⟨(some 66), none, .load none (.t 65)⟩, true, false⟩,
 ⟨⟨(some 67), none, .mov (.t 0)⟩, false, false⟩,
 ⟨⟨(some 68), none, .mov (.t 3)⟩, false, false⟩,
 ⟨⟨(some 69), none, .mov (.t 8)⟩, false, false⟩,
 ⟨⟨(some 70), none, .bin .add .no (.t 68) (.t 69)⟩, false, false⟩,
 ⟨⟨(some 71), none, .ixS 1 (.t 67) (.t 70)⟩, false, false⟩,
 ⟨⟨(some 72), none, .load none (.t 71)⟩, true, false⟩,
 ⟨⟨(some 73), none, .ixS 1 (.t 53) (.t 56)⟩, false, false⟩,
 ⟨⟨none, none, .store 1 (.t 73) (.t 66)⟩, false, true⟩,
 ⟨⟨(some 74), none, .ixS 1 (.t 57) (.t 60)⟩, false, false⟩,
 ⟨⟨none, none, .store 1 (.t 74) (.t 72)⟩, false, true⟩] [0, 0, 0, 6, 0, 0, 0, 96, 0, 0, 0, 1536, 3840, 7936, 0, 0, 0, 98304, 245760, 507904, 1048335, 2096911, 4194303, 8388607] [])
 (.ops [
 ⟨(some 75), none, .mov (.t 9)⟩,
 ⟨(some 8), none, .mov (.t 75)⟩] [8])))))))))),
 []⟩

/-- slices.nextPowerOfTwo -/
noncomputable def sf94 : SFun := ⟨[0, 2], 7,
 (.seq
 (.ops [
 ⟨(some 2), none, .mov (.c (.int .u64 0))⟩] [2])
 (.seq
 (.ops [
 ⟨(some 3), none, .mov (.t 0)⟩,
 ⟨(some 4), none, .conv .u64 (.t 3)⟩,
 ⟨(some 5), none, .call (.c (.fn (.func 70) [] [])) [(.t 4)]⟩,
 ⟨(some 6), none, .bin .shl .no (.c (.int .u64 1)) (.t 5)⟩,
 ⟨(some 2), none, .mov (.t 6)⟩] [2])
 .ret)),
 [.tmp 2]⟩

/-- (*slices.xorshift).Next -/
noncomputable def sf95 : SFun := ⟨[0, 2], 33,
 (.seq
 (.ops [
 ⟨(some 2), none, .mov (.c (.int .u64 0))⟩] [2])
 (.seq
 (.draw [
 ⟨⟨(some 3), none, .mov (.t 0)⟩, false, false⟩,
 ⟨⟨(some 4), none, .nilCheck (.t 3)⟩, false, false⟩,
 ⟨⟨(some 5), none, .load none (.t 4)⟩, true, false⟩,
 ⟨⟨(some 6), none, .mov (.t 0)⟩, false, false⟩,
 ⟨⟨(some 7), none, .nilCheck (.t 6)⟩, false, false⟩,
 ⟨⟨(some 8), none, .load none (.t 7)⟩, true, false⟩,
 ⟨⟨(some 9), none, .bin .shl .no (.t 8) (.c (.int .u64 13))⟩, false, false⟩,
 ⟨⟨(some 10), none, .bin .xor .no (.t 5) (.t 9)⟩, false, false⟩,
 ⟨⟨(some 11), none, .nilCheck (.t 3)⟩, false, false⟩,
 ⟨⟨none, none, .store 1 (.t 11) (.t 10)⟩, false, true⟩] [0, 1, 3, 0, 8, 24, 56, 127, 255, 511] [])
 (.seq
 (.draw [
 ⟨⟨(some 12), none, .mov (.t 0)⟩, false, false⟩,
 ⟨⟨(some 13), none, .nilCheck (.t 12)⟩, false, false⟩,
 ⟨⟨(some 14), none, .load none (.t 13)⟩, true, false⟩,
 ⟨⟨(some 15), none, .mov (.t 0)⟩, false, false⟩,
 ⟨⟨(some 16), none, .nilCheck (.t 15)⟩, false, false⟩,
 ⟨⟨(some 17), none, .load none (.t 16)⟩, true, false⟩,
 ⟨⟨(some 18), none, .bin .shr .no (.t 17) (.c (.int .u64 7))⟩, false, false⟩,
 ⟨⟨(some 19), none, .bin .xor .no (.t 14) (.t 18)⟩, false, false⟩,
 ⟨⟨(some 20), none, .nilCheck (.t 12)⟩, false, false⟩,
 ⟨⟨none, none, .store 1 (.t 20) (.t 19)⟩, false, true⟩] [0, 1, 3, 0, 8, 24, 56, 127, 255, 511] [])
 (.seq
 (.draw [
 ⟨⟨(some 21), none, .mov (.t 0)⟩, false, false⟩,
 ⟨⟨(some 22), none, .nilCheck (.t 21)⟩, false, false⟩,
 ⟨⟨(some 23), none, .load none (.t 22)⟩, true, false⟩,
 ⟨⟨(some 24), none, .mov (.t 0)⟩, false, false⟩,
 ⟨⟨(some 25), none, .nilCheck (.t 24)⟩, false, false⟩,
 ⟨⟨(some 26), none, .load none (.t 25)⟩, true, false⟩,
 ⟨⟨(some 27), none, .bin .shl .no (.t 26) (.c (.int .u64 17))⟩, false, false⟩,
 ⟨⟨(some 28), none, .bin .xor .no (.t 23) (.t 27)⟩, false, false⟩,
 ⟨⟨(some 29), none, .nilCheck (.t 21)⟩, false, false⟩,
 ⟨⟨none, none, .store 1 (.t 29) (.t 28)⟩, false, true⟩] [0, 1, 3, 0, 8, 24, 56, 127, 255, 511] [])
 (.seq
 (.ops [
 ⟨(some 30), none, .mov (.t 0)⟩,
 ⟨(some 31), none, .nilCheck (.t 30)⟩,
 ⟨(some 32), none, .load none (.t 31)⟩,
 ⟨(some 2), none, .mov (.t 32)⟩] [2])
 .ret))))),
 [.tmp 2]⟩

/-- slices.medianAdjacentOrdered[int] -/
noncomputable def sf96 : SFun := ⟨[0, 1, 2, 6], 15,
 (.seq
 (.ops [
 ⟨(some 6), none, .mov (.c (.int .i64 0))⟩] [6])
 (.seq
 (.ops [
 ⟨(some 7), none, .mov (.t 0)⟩,
 ⟨(some 8), none, .mov (.t 1)⟩,
 ⟨(some 9), none, .bin .sub .no (.t 8) (.c (.int .i64 1))⟩,
 ⟨(some 10), none, .mov (.t 1)⟩,
 ⟨(some 11), none, .mov (.t 1)⟩,
 ⟨(some 12), none, .bin .add .no (.t 11) (.c (.int .i64 1))⟩,
 ⟨(some 13), none, .mov (.t 2)⟩,
 ⟨(some 14), none, .call (.c (.fn (.func 97) [] [])) [(.t 7), (.t 9), (.t 10), (.t 12), (.t 13)]⟩,
 ⟨(some 6), none, .mov (.t 14)⟩] [6])
 .ret)),
 [.tmp 6]⟩

/-- slices.medianOrdered[int] -/
noncomputable def sf97 : SFun := ⟨[0, 1, 2, 3, 4, 10], 36,
 (.seq
 (.ops [
 ⟨(some 10), none, .mov (.c (.int .i64 0))⟩] [10])
 (.seq
 (.ops [
 ⟨(some 12), none, .mov (.t 0)⟩,
 ⟨(some 13), none, .mov (.t 1)⟩,
 ⟨(some 14), none, .mov (.t 2)⟩,
 ⟨(some 15), none, .mov (.t 4)⟩,
 ⟨(some 16), none, .call (.c (.fn (.func 103) [] [])) [(.t 12), (.t 13), (.t 14), (.t 15)]⟩,
 ⟨(some 11), none, .mov (.t 16)⟩,
 ⟨(some 17), none, .ext (.t 11) 0⟩,
 ⟨(some 18), none, .ext (.t 11) 1⟩,
 ⟨(some 1), none, .mov (.t 17)⟩,
 ⟨(some 2), none, .mov (.t 18)⟩] [1, 2])
 (.seq
 (.ops [
 ⟨(some 20), none, .mov (.t 0)⟩,
 ⟨(some 21), none, .mov (.t 2)⟩,
 ⟨(some 22), none, .mov (.t 3)⟩,
 ⟨(some 23), none, .mov (.t 4)⟩,
 ⟨(some 24), none, .call (.c (.fn (.func 103) [] [])) [(.t 20), (.t 21), (.t 22), (.t 23)]⟩,
 ⟨(some 19), none, .mov (.t 24)⟩,
 ⟨(some 25), none, .ext (.t 19) 0⟩,
 ⟨(some 26), none, .ext (.t 19) 1⟩,
 ⟨(some 2), none, .mov (.t 25)⟩,
 ⟨(some 3), none, .mov (.t 26)⟩] [2, 3])
 (.seq
 (.ops [
 ⟨(some 28), none, .mov (.t 0)⟩,
 ⟨(some 29), none, .mov (.t 1)⟩,
 ⟨(some 30), none, .mov (.t 2)⟩,
 ⟨(some 31), none, .mov (.t 4)⟩,
 ⟨(some 32), none, .call (.c (.fn (.func 103) [] [])) [(.t 28), (.t 29), (.t 30), (.t 31)]⟩,
 ⟨(some 27), none, .mov (.t 32)⟩,
 ⟨(some 33), none, .ext (.t 27) 0⟩,
 ⟨(some 34), none, .ext (.t 27) 1⟩,
 ⟨(some 1), none, .mov (.t 33)⟩,
 ⟨(some 2), none, .mov (.t 34)⟩] [1, 2])
 (.seq
 (.ops [
 ⟨(some 35), none, .mov (.t 2)⟩,
 ⟨(some 10), none, .mov (.t 35)⟩] [10])
 .ret))))),
 [.tmp 10]⟩

/-- cmp.isNaN[int] -/
noncomputable def sf98 : SFun := ⟨[0, 2], 6,
 (.seq
 (.ops [
 ⟨(some 2), none, .mov (.c (.bool false))⟩] [2])
 (.seq
 (.ops [
 ⟨(some 3), none, .mov (.t 0)⟩,
 ⟨(some 4), none, .mov (.t 0)⟩,
 ⟨(some 5), none, .bin .neq .no (.t 3) (.t 4)⟩,
 ⟨(some 2), none, .mov (.t 5)⟩] [2])
 .ret)),
 [.tmp 2]⟩

/-- internal/strconv.FormatInt -/
noncomputable def sf99 : SFun := ⟨[0, 1, 4, 5, 6, 7, 9, 11, 17, 23, 34], 54,
 (.seq
 (.ops [
 ⟨(some 4), none, .mov (.c (.str []))⟩] [4])
 (.seq
 (.seq
 (.ops [
 ⟨(some 10), none, .mov (.t 1)⟩,
 ⟨(some 11), none, .bin .eql .no (.t 10) (.c (.int .i64 10))⟩] [11])
 (.cond (.t 11)
 (.seq
 (.seq
 (.ops [
 ⟨(some 12), none, .mov (.t 0)⟩,
 ⟨(some 13), none, .bin .leq .no (.c (.int .i64 0)) (.t 12)⟩,
 ⟨(some 14), none, .mov (.t 13)⟩,
 ⟨(some 15), (some (14, true)), .mov (.t 0)⟩,
 ⟨(some 16), (some (14, true)), .bin .lss .no (.t 15) (.c (.int .i64 100))⟩,
 ⟨(some 17), none, .pick (.t 14) (.t 16) (.c (.bool false))⟩] [17])
 (.cond (.t 17)
 (.seq
 (.ops [
 ⟨(some 18), none, .mov (.t 0)⟩,
 ⟨(some 19), none, .call (.c (.fn (.func 104) [] [])) [(.t 18)]⟩,
 ⟨(some 4), none, .mov (.t 19)⟩] [4])
 .ret)
 .skip))
 (.seq
 (.ops [
 ⟨(some 5), none, .new [(.int .u8 0), (.int .u8 0), (.int .u8 0), (.int .u8 0), (.int .u8 0), (.int .u8 0), (.int .u8 0), (.int .u8 0), (.int .u8 0), (.int .u8 0), (.int .u8 0), (.int .u8 0), (.int .u8 0), (.int .u8 0), (.int .u8 0), (.int .u8 0), (.int .u8 0), (.int .u8 0), (.int .u8 0), (.int .u8 0), (.int .u8 0), (.int .u8 0), (.int .u8 0), (.int .u8 0)]⟩] [5])
 (.seq
 (.ops [
 ⟨(some 20), none, .mov (.t 0)⟩,
 ⟨(some 21), none, .conv .u64 (.t 20)⟩,
 ⟨(some 6), none, .mov (.t 21)⟩] [6])
 (.seq
 (.seq
 (.ops [
 ⟨(some 22), none, .mov (.t 0)⟩,
 ⟨(some 23), none, .bin .lss .no (.t 22) (.c (.int .i64 0))⟩] [23])
 (.cond (.t 23)
 (.ops [
 ⟨(some 24), none, .mov (.t 6)⟩,
 ⟨(some 25), none, .neg (.t 24)⟩,
 ⟨(some 6), none, .mov (.t 25)⟩] [6])
 .skip))
 (.seq
 (.ops [
 ⟨(some 26), none, .mov (.t 6)⟩,
 ⟨(some 27), none, .call (.c (.fn (.func 105) [] [])) [(.t 26)]⟩,
 ⟨(some 7), none, .mov (.t 27)⟩] [7])
 (.seq
 (.ops [
 ⟨(some 28), none, .mov (.t 7)⟩,
 ⟨(some 29), none, .bin .add .no (.c (.int .i64 1)) (.t 28)⟩,
 ⟨(some 30), none, .arr 24 1 (.t 5) (some (.c (.int .i64 1))) (some (.t 29))⟩,
 ⟨(some 31), none, .mov (.t 6)⟩,
 ⟨(some 32), none, .call (.c (.fn (.func 106) [] [])) [(.t 30), (.t 31)]⟩] [])
 (.seq
 (.seq
 (.ops [
 ⟨(some 33), none, .mov (.t 0)⟩,
 ⟨(some 34), none, .bin .lss .no (.t 33) (.c (.int .i64 0))⟩] [34])
 (.cond (.t 34)
 (.seq
 (.ops [
 ⟨(some 35), none, .ixA 24 1 (.t 5) (.c (.int .i64 0))⟩,
 ⟨none, none, .store 1 (.t 35) (.c (.int .u8 45))⟩] [])
 (.seq
 (.ops [
 ⟨(some 36), none, .mov (.t 7)⟩,
 ⟨(some 37), none, .bin .add .no (.c (.int .i64 1)) (.t 36)⟩,
 ⟨(some 38), none, .arr 24 1 (.t 5) none (some (.t 37))⟩,
 ⟨(some 39), none, .b2s (.t 38)⟩,
 ⟨(some 4), none, .mov (.t 39)⟩] [4])
 .ret))
 .skip))
 (.seq
 (.ops [
 ⟨(some 40), none, .mov (.t 7)⟩,
 ⟨(some 41), none, .bin .add .no (.c (.int .i64 1)) (.t 40)⟩,
 ⟨(some 42), none, .arr 24 1 (.t 5) (some (.c (.int .i64 1))) (some (.t 41))⟩,
 ⟨(some 43), none, .b2s (.t 42)⟩,
 ⟨(some 4), none, .mov (.t 43)⟩] [4])
 .ret))))))))
 .skip))
 (.seq
 (.ops [
 ⟨(some 45), none, .mov (.t 0)⟩,
 ⟨(some 46), none, .conv .u64 (.t 45)⟩,
 ⟨(some 47), none, .mov (.t 1)⟩,
 ⟨(some 48), none, .mov (.t 0)⟩,
 ⟨(some 49), none, .bin .lss .no (.t 48) (.c (.int .i64 0))⟩,
 ⟨(some 50), none, .call (.c (.fn (.func 107) [] [])) [(.c .nilsl), (.t 46), (.t 47), (.t 49), (.c (.bool false))]⟩,
 ⟨(some 44), none, .mov (.t 50)⟩,
 ⟨(some 51), none, .ext (.t 44) 0⟩,
 ⟨(some 52), none, .ext (.t 44) 1⟩,
 ⟨(some 8), none, .mov (.t 51)⟩,
 ⟨(some 9), none, .mov (.t 52)⟩] [9])
 (.seq
 (.ops [
 ⟨(some 53), none, .mov (.t 9)⟩,
 ⟨(some 4), none, .mov (.t 53)⟩] [4])
 .ret)))),
 [.tmp 4]⟩

/-- (*strings.asciiSet).contains -/
noncomputable def sf100 : SFun := ⟨[0, 1, 4], 10,
 (.seq
 (.ops [
 ⟨(some 4), none, .mov (.c (.bool false))⟩] [4])
 (.seq
 (.ops [
 ⟨(some 5), none, .mov (.t 0)⟩,
 ⟨(some 6), none, .mov (.t 1)⟩,
 ⟨(some 7), none, .nilCheck (.t 5)⟩,
 ⟨(some 8), none, .ixA 256 1 (.t 7) (.t 6)⟩,
 ⟨(some 9), none, .load none (.t 8)⟩,
 ⟨(some 4), none, .mov (.t 9)⟩] [4])
 .ret)),
 [.tmp 4]⟩

/-- unicode/utf8.DecodeRuneInString -/
noncomputable def sf101 : SFun := ⟨[0, 2, 3, 10], 19,
 (.seq
 (.ops [
 ⟨(some 2), none, .mov (.c (.int .i32 0))⟩,
 ⟨(some 3), none, .mov (.c (.int .i64 0))⟩] [2, 3])
 (.seq
 (.seq
 (.ops [
 ⟨(some 4), none, .mov (.t 0)⟩,
 ⟨(some 5), none, .bin .neq .str (.t 4) (.c (.str []))⟩,
 ⟨(some 6), none, .mov (.t 5)⟩,
 ⟨(some 7), (some (6, true)), .mov (.t 0)⟩,
 ⟨(some 8), (some (6, true)), .ixT (.t 7) (.c (.int .i64 0))⟩,
 ⟨(some 9), (some (6, true)), .bin .lss .no (.t 8) (.c (.int .u8 128))⟩,
 ⟨(some 10), none, .pick (.t 6) (.t 9) (.c (.bool false))⟩] [10])
 (.cond (.t 10)
 (.seq
 (.ops [
 ⟨(some 11), none, .mov (.t 0)⟩,
 ⟨(some 12), none, .ixT (.t 11) (.c (.int .i64 0))⟩,
 ⟨(some 13), none, .conv .i32 (.t 12)⟩,
 ⟨(some 2), none, .mov (.t 13)⟩,
 ⟨(some 3), none, .mov (.c (.int .i64 1))⟩] [2, 3])
 .ret)
 (.ops [
 ⟨(some 15), none, .mov (.t 0)⟩,
 ⟨(some 16), none, .call (.c (.fn (.func 108) [] [])) [(.t 15)]⟩,
 ⟨(some 14), none, .mov (.t 16)⟩,
 ⟨(some 17), none, .ext (.t 14) 0⟩,
 ⟨(some 18), none, .ext (.t 14) 1⟩,
 ⟨(some 2), none, .mov (.t 17)⟩,
 ⟨(some 3), none, .mov (.t 18)⟩] [2, 3])))
 .ret)),
 [.tmp 2, .tmp 3]⟩

/-- strings.ContainsRune -/
noncomputable def sf102 : SFun := ⟨[0, 1, 4], 9,
 (.seq
 (.ops [
 ⟨(some 4), none, .mov (.c (.bool false))⟩] [4])
 (.seq
 (.ops [
 ⟨(some 5), none, .mov (.t 0)⟩,
 ⟨(some 6), none, .mov (.t 1)⟩,
 ⟨(some 7), none, .call (.c (.fn (.func 109) [] [])) [(.t 5), (.t 6)]⟩,
 ⟨(some 8), none, .bin .geq .no (.t 7) (.c (.int .i64 0))⟩,
 ⟨(some 4), none, .mov (.t 8)⟩] [4])
 .ret)),
 [.tmp 4]⟩

/-- slices.order2Ordered[int] -/
noncomputable def sf103 : SFun := ⟨[0, 1, 2, 3, 8, 9, 18], 28,
 (.seq
 (.ops [
 ⟨(some 8), none, .mov (.c (.int .i64 0))⟩,
 ⟨(some 9), none, .mov (.c (.int .i64 0))⟩] [8, 9])
 (.seq
 (.seq
 (.draw [
 ⟨⟨(some 10), none, .mov (.t 0)⟩, false, false⟩,
 ⟨⟨(some 11), none, .mov (.t 2)⟩, false, false⟩,
 ⟨⟨(some 12), none, .ixS 1 (.t 10) (.t 11)⟩, false, false⟩,
 ⟨⟨(some 13), none, .load none (.t 12)⟩, true, false⟩,
 ⟨⟨(some 14), none, .mov (.t 0)⟩, false, false⟩,
 ⟨⟨(some 15), none, .mov (.t 1)⟩, false, false⟩,
 ⟨⟨(some 16), none, .ixS 1 (.t 14) (.t 15)⟩, false, false⟩,
 ⟨⟨(some 17), none, .load none (.t 16)⟩, true, false⟩,
 ⟨⟨(some 18), none, .call (.c (.fn (.func 83) [] [])) [(.t 13), (.t 17)]⟩, false, true⟩] [0, 0, 3, 7, 0, 0, 48, 112, 255] [18])
 (.cond (.t 18)
 (.seq
 (.ops [
 ⟨(some 19), none, .mov (.t 3)⟩,
 ⟨(some 20), none, .nilCheck (.t 19)⟩,
 ⟨(some 21), none, .load none (.t 20)⟩,
 ⟨(some 22), none, .bin .add .no (.t 21) (.c (.int .i64 1))⟩,
 ⟨(some 23), none, .nilCheck (.t 19)⟩,
 ⟨none, none, .store 1 (.t 23) (.t 22)⟩] [])
 (.seq
 (.ops [
 ⟨(some 24), none, .mov (.t 2)⟩,
 ⟨(some 25), none, .mov (.t 1)⟩,
 ⟨(some 8), none, .mov (.t 24)⟩,
 ⟨(some 9), none, .mov (.t 25)⟩] [8, 9])
 .ret))
 .skip))
 (.seq
 (.ops [
 ⟨(some 26), none, .mov (.t 1)⟩,
 ⟨(some 27), none, .mov (.t 2)⟩,
 ⟨(some 8), none, .mov (.t 26)⟩,
 ⟨(some 9), none, .mov (.t 27)⟩] [8, 9])
 .ret))),
 [.tmp 8, .tmp 9]⟩

/-- internal/strconv.small -/
noncomputable def sf104 : SFun := ⟨[0, 2, 4], 15,
 (.seq
 (.ops [
 ⟨(some 2), none, .mov (.c (.str []))⟩] [2])
 (.seq
 (.seq
 (.ops [
 ⟨(some 3), none, .mov (.t 0)⟩,
 ⟨(some 4), none, .bin .lss .no (.t 3) (.c (.int .i64 10))⟩] [4])
 (.cond (.t 4)
 (.seq
 (.ops [
 ⟨(some 5), none, .mov (.t 0)⟩,
 ⟨(some 6), none, .mov (.t 0)⟩,
 ⟨(some 7), none, .bin .add .no (.t 6) (.c (.int .i64 1))⟩,
 ⟨(some 8), none, .slT (.c (.str [48, 49, 50, 51, 52, 53, 54, 55, 56, 57, 97, 98, 99, 100, 101, 102, 103, 104, 105, 106, 107, 108, 109, 110, 111, 112, 113, 114, 115, 116, 117, 118, 119, 120, 121, 122])) (some (.t 5)) (some (.t 7))⟩,
 ⟨(some 2), none, .mov (.t 8)⟩] [2])
 .ret)
 .skip))
 (.seq
 (.ops [
 ⟨(some 9), none, .mov (.t 0)⟩,
 ⟨(some 10), none, .bin .mul .no (.t 9) (.c (.int .i64 2))⟩,
 ⟨(some 11), none, .mov (.t 0)⟩,
 ⟨(some 12), none, .bin .mul .no (.t 11) (.c (.int .i64 2))⟩,
 ⟨(some 13), none, .bin .add .no (.t 12) (.c (.int .i64 2))⟩,
 ⟨(some 14), none, .slT (.c (.str [48, 48, 48, 49, 48, 50, 48, 51, 48, 52, 48, 53, 48, 54, 48, 55, 48, 56, 48, 57, 49, 48, 49, 49, 49, 50, 49, 51, 49, 52, 49, 53, 49, 54, 49, 55, 49, 56, 49, 57, 50, 48, 50, 49, 50, 50, 50, 51, 50, 52, 50, 53, 50, 54, 50, 55, 50, 56, 50, 57, 51, 48, 51, 49, 51, 50, 51, 51, 51, 52, 51, 53, 51, 54, 51, 55, 51, 56, 51, 57, 52, 48, 52, 49, 52, 50, 52, 51, 52, 52, 52, 53, 52, 54, 52, 55, 52, 56, 52, 57, 53, 48, 53, 49, 53, 50, 53, 51, 53, 52, 53, 53, 53, 54, 53, 55, 53, 56, 53, 57, 54, 48, 54, 49, 54, 50, 54, 51, 54, 52, 54, 53, 54, 54, 54, 55, 54, 56, 54, 57, 55, 48, 55, 49, 55, 50, 55, 51, 55, 52, 55, 53, 55, 54, 55, 55, 55, 56, 55, 57, 56, 48, 56, 49, 56, 50, 56, 51, 56, 52, 56, 53, 56, 54, 56, 55, 56, 56, 56, 57, 57, 48, 57, 49, 57, 50, 57, 51, 57, 52, 57, 53, 57, 54, 57, 55, 57, 56, 57, 57])) (some (.t 10)) (some (.t 13))⟩,
 ⟨(some 2), none, .mov (.t 14)⟩] [2])
 .ret))),
 [.tmp 2]⟩

/-- internal/strconv.numDigits -/
noncomputable def sf105 : SFun := ⟨[0, 2, 3], 15,
 (.seq
 (.ops [
 ⟨(some 2), none, .mov (.c (.int .i64 0))⟩] [2])
 (.seq
 (.ops [
 ⟨(some 4), none, .mov (.t 0)⟩,
 ⟨(some 5), none, .call (.c (.fn (.func 87) [] [])) [(.t 4)]⟩,
 ⟨(some 6), none, .call (.c (.fn (.func 110) [] [])) [(.t 5)]⟩,
 ⟨(some 3), none, .mov (.t 6)⟩] [3])
 (.seq
 (.ops [
 ⟨(some 7), none, .mov (.t 3)⟩,
 ⟨(some 8), none, .mov (.t 0)⟩,
 ⟨(some 9), none, .mov (.t 3)⟩,
 ⟨(some 10), none, .ixA 20 1 (.c .any) (.t 9)⟩,
 ⟨(some 11), none, .load none (.t 10)⟩,
 ⟨(some 12), none, .bin .geq .no (.t 8) (.t 11)⟩,
 ⟨(some 13), none, .call (.c (.fn (.func 111) [] [])) [(.t 12)]⟩,
 ⟨(some 14), none, .bin .add .no (.t 7) (.t 13)⟩,
 ⟨(some 2), none, .mov (.t 14)⟩] [2])
 .ret))),
 [.tmp 2]⟩

/-- internal/strconv.formatBase10 -/
noncomputable def sf106 : SFun := ⟨[0, 1, 4, 5, 6, 7, 8, 9, 10, 11, 12, 13, 14, 15, 16, 20, 99, 139, 161], 167,
 (.seq
 (.ops [
 ⟨(some 17), none, .mov (.t 0)⟩,
 ⟨(some 18), none, .lenS (.t 17)⟩,
 ⟨(some 4), none, .mov (.t 18)⟩] [4])
 (.seq
 (.block 0
 (.loop
 (.seq
 (.seq
 (.ops [
 ⟨(some 19), none, .mov (.t 4)⟩,
 ⟨(some 20), none, .bin .geq .no (.t 19) (.c (.int .i64 8))⟩] [20])
 (.cond (.t 20)
 .skip
 (.exit 0)))
 (.block 1
 (.seq
 (.ops [
 ⟨(some 21), none, .mov (.t 1)⟩,
 ⟨(some 22), none, .bin .rem .no (.t 21) (.c (.int .u64 100000000))⟩,
 ⟨(some 23), none, .conv .u32 (.t 22)⟩,
 ⟨(some 5), none, .mov (.t 23)⟩] [5])
 (.seq
 (.ops [
 ⟨(some 24), none, .mov (.t 1)⟩,
 ⟨(some 25), none, .bin .quo .no (.t 24) (.c (.int .u64 100000000))⟩,
 ⟨(some 1), none, .mov (.t 25)⟩] [1])
 (.seq
 (.ops [
 ⟨(some 26), none, .mov (.t 5)⟩,
 ⟨(some 27), none, .bin .quo .no (.t 26) (.c (.int .u32 10000))⟩,
 ⟨(some 28), none, .mov (.t 5)⟩,
 ⟨(some 29), none, .bin .rem .no (.t 28) (.c (.int .u32 10000))⟩,
 ⟨(some 6), none, .mov (.t 27)⟩,
 ⟨(some 7), none, .mov (.t 29)⟩] [6, 7])
 (.seq
 (.ops [
 ⟨(some 30), none, .mov (.t 7)⟩,
 ⟨(some 31), none, .bin .quo .no (.t 30) (.c (.int .u32 100))⟩,
 ⟨(some 32), none, .bin .mul .no (.t 31) (.c (.int .u32 2))⟩,
 ⟨(some 33), none, .mov (.t 7)⟩,
 ⟨(some 34), none, .bin .rem .no (.t 33) (.c (.int .u32 100))⟩,
 ⟨(some 35), none, .bin .mul .no (.t 34) (.c (.int .u32 2))⟩,
 ⟨(some 8), none, .mov (.t 32)⟩,
 ⟨(some 9), none, .mov (.t 35)⟩] [8, 9])
 (.seq
 (.ops [
 ⟨(some 36), none, .mov (.t 6)⟩,
 ⟨(some 37), none, .bin .quo .no (.t 36) (.c (.int .u32 100))⟩,
 ⟨(some 38), none, .bin .mul .no (.t 37) (.c (.int .u32 2))⟩,
 ⟨(some 39), none, .mov (.t 6)⟩,
 ⟨(some 40), none, .bin .rem .no (.t 39) (.c (.int .u32 100))⟩,
 ⟨(some 41), none, .bin .mul .no (.t 40) (.c (.int .u32 2))⟩,
 ⟨(some 10), none, .mov (.t 38)⟩,
 ⟨(some 11), none, .mov (.t 41)⟩] [10, 11])
 (.seq
 (.ops [
 ⟨(some 42), none, .mov (.t 0)⟩,
 ⟨(some 43), none, .mov (.t 4)⟩,
 ⟨(some 44), none, .bin .sub .no (.t 43) (.c (.int .i64 1))⟩,
 ⟨(some 45), none, .mov (.t 0)⟩,
 ⟨(some 46), none, .mov (.t 4)⟩,
 ⟨(some 47), none, .bin .sub .no (.t 46) (.c (.int .i64 2))⟩,
 ⟨(some 48), none, .mov (.t 9)⟩,
 ⟨(some 49), none, .bin .add .no (.t 48) (.c (.int .u32 1))⟩,
 ⟨(some 50), none, .ixT (.c (.str [48, 48, 48, 49, 48, 50, 48, 51, 48, 52, 48, 53, 48, 54, 48, 55, 48, 56, 48, 57, 49, 48, 49, 49, 49, 50, 49, 51, 49, 52, 49, 53, 49, 54, 49, 55, 49, 56, 49, 57, 50, 48, 50, 49, 50, 50, 50, 51, 50, 52, 50, 53, 50, 54, 50, 55, 50, 56, 50, 57, 51, 48, 51, 49, 51, 50, 51, 51, 51, 52, 51, 53, 51, 54, 51, 55, 51, 56, 51, 57, 52, 48, 52, 49, 52, 50, 52, 51, 52, 52, 52, 53, 52, 54, 52, 55, 52, 56, 52, 57, 53, 48, 53, 49, 53, 50, 53, 51, 53, 52, 53, 53, 53, 54, 53, 55, 53, 56, 53, 57, 54, 48, 54, 49, 54, 50, 54, 51, 54, 52, 54, 53, 54, 54, 54, 55, 54, 56, 54, 57, 55, 48, 55, 49, 55, 50, 55, 51, 55, 52, 55, 53, 55, 54, 55, 55, 55, 56, 55, 57, 56, 48, 56, 49, 56, 50, 56, 51, 56, 52, 56, 53, 56, 54, 56, 55, 56, 56, 56, 57, 57, 48, 57, 49, 57, 50, 57, 51, 57, 52, 57, 53, 57, 54, 57, 55, 57, 56, 57, 57])) (.t 49)⟩,
 ⟨(some 51), none, .mov (.t 9)⟩,
 ⟨(some 52), none, .ixT (.c (.str [48, 48, 48, 49, 48, 50, 48, 51, 48, 52, 48, 53, 48, 54, 48, 55, 48, 56, 48, 57, 49, 48, 49, 49, 49, 50, 49, 51, 49, 52, 49, 53, 49, 54, 49, 55, 49, 56, 49, 57, 50, 48, 50, 49, 50, 50, 50, 51, 50, 52, 50, 53, 50, 54, 50, 55, 50, 56, 50, 57, 51, 48, 51, 49, 51, 50, 51, 51, 51, 52, 51, 53, 51, 54, 51, 55, 51, 56, 51, 57, 52, 48, 52, 49, 52, 50, 52, 51, 52, 52, 52, 53, 52, 54, 52, 55, 52, 56, 52, 57, 53, 48, 53, 49, 53, 50, 53, 51, 53, 52, 53, 53, 53, 54, 53, 55, 53, 56, 53, 57, 54, 48, 54, 49, 54, 50, 54, 51, 54, 52, 54, 53, 54, 54, 54, 55, 54, 56, 54, 57, 55, 48, 55, 49, 55, 50, 55, 51, 55, 52, 55, 53, 55, 54, 55, 55, 55, 56, 55, 57, 56, 48, 56, 49, 56, 50, 56, 51, 56, 52, 56, 53, 56, 54, 56, 55, 56, 56, 56, 57, 57, 48, 57, 49, 57, 50, 57, 51, 57, 52, 57, 53, 57, 54, 57, 55, 57, 56, 57, 57])) (.t 51)⟩,
 ⟨(some 53), none, .ixS 1 (.t 42) (.t 44)⟩,
 ⟨none, none, .store 1 (.t 53) (.t 50)⟩,
 ⟨(some 54), none, .ixS 1 (.t 45) (.t 47)⟩,
 ⟨none, none, .store 1 (.t 54) (.t 52)⟩] [])
 (.seq
 (.ops [
 ⟨(some 55), none, .mov (.t 0)⟩,
 ⟨(some 56), none, .mov (.t 4)⟩,
 ⟨(some 57), none, .bin .sub .no (.t 56) (.c (.int .i64 3))⟩,
 ⟨(some 58), none, .mov (.t 0)⟩,
 ⟨(some 59), none, .mov (.t 4)⟩,
 ⟨(some 60), none, .bin .sub .no (.t 59) (.c (.int .i64 4))⟩,
 ⟨(some 61), none, .mov (.t 8)⟩,
 ⟨(some 62), none, .bin .add .no (.t 61) (.c (.int .u32 1))⟩,
 ⟨(some 63), none, .ixT (.c (.str [48, 48, 48, 49, 48, 50, 48, 51, 48, 52, 48, 53, 48, 54, 48, 55, 48, 56, 48, 57, 49, 48, 49, 49, 49, 50, 49, 51, 49, 52, 49, 53, 49, 54, 49, 55, 49, 56, 49, 57, 50, 48, 50, 49, 50, 50, 50, 51, 50, 52, 50, 53, 50, 54, 50, 55, 50, 56, 50, 57, 51, 48, 51, 49, 51, 50, 51, 51, 51, 52, 51, 53, 51, 54, 51, 55, 51, 56, 51, 57, 52, 48, 52, 49, 52, 50, 52, 51, 52, 52, 52, 53, 52, 54, 52, 55, 52, 56, 52, 57, 53, 48, 53, 49, 53, 50, 53, 51, 53, 52, 53, 53, 53, 54, 53, 55, 53, 56, 53, 57, 54, 48, 54, 49, 54, 50, 54, 51, 54, 52, 54, 53, 54, 54, 54, 55, 54, 56, 54, 57, 55, 48, 55, 49, 55, 50, 55, 51, 55, 52, 55, 53, 55, 54, 55, 55, 55, 56, 55, 57, 56, 48, 56, 49, 56, 50, 56, 51, 56, 52, 56, 53, 56, 54, 56, 55, 56, 56, 56, 57, 57, 48, 57, 49, 57, 50, 57, 51, 57, 52, 57, 53, 57, 54, 57, 55, 57, 56, 57, 57])) (.t 62)⟩,
 ⟨(some 64), none, .mov (.t 8)⟩,
 ⟨(some 65), none, .ixT (.c (.str [48, 48, 48, 49, 48, 50, 48, 51, 48, 52, 48, 53, 48, 54, 48, 55, 48, 56, 48, 57, 49, 48, 49, 49, 49, 50, 49, 51, 49, 52, 49, 53, 49, 54, 49, 55, 49, 56, 49, 57, 50, 48, 50, 49, 50, 50, 50, 51, 50, 52, 50, 53, 50, 54, 50, 55, 50, 56, 50, 57, 51, 48, 51, 49, 51, 50, 51, 51, 51, 52, 51, 53, 51, 54, 51, 55, 51, 56, 51, 57, 52, 48, 52, 49, 52, 50, 52, 51, 52, 52, 52, 53, 52, 54, 52, 55, 52, 56, 52, 57, 53, 48, 53, 49, 53, 50, 53, 51, 53, 52, 53, 53, 53, 54, 53, 55, 53, 56, 53, 57, 54, 48, 54, 49, 54, 50, 54, 51, 54, 52, 54, 53, 54, 54, 54, 55, 54, 56, 54, 57, 55, 48, 55, 49, 55, 50, 55, 51, 55, 52, 55, 53, 55, 54, 55, 55, 55, 56, 55, 57, 56, 48, 56, 49, 56, 50, 56, 51, 56, 52, 56, 53, 56, 54, 56, 55, 56, 56, 56, 57, 57, 48, 57, 49, 57, 50, 57, 51, 57, 52, 57, 53, 57, 54, 57, 55, 57, 56, 57, 57])) (.t 64)⟩,
 ⟨(some 66), none, .ixS 1 (.t 55) (.t 57)⟩,
 ⟨none, none, .store 1 (.t 66) (.t 63)⟩,
 ⟨(some 67), none, .ixS 1 (.t 58) (.t 60)⟩,
 ⟨none, none, .store 1 (.t 67) (.t 65)⟩] [])
 (.seq
 (.ops [
 ⟨(some 68), none, .mov (.t 0)⟩,
 ⟨(some 69), none, .mov (.t 4)⟩,
 ⟨(some 70), none, .bin .sub .no (.t 69) (.c (.int .i64 5))⟩,
 ⟨(some 71), none, .mov (.t 0)⟩,
 ⟨(some 72), none, .mov (.t 4)⟩,
 ⟨(some 73), none, .bin .sub .no (.t 72) (.c (.int .i64 6))⟩,
 ⟨(some 74), none, .mov (.t 11)⟩,
 ⟨(some 75), none, .bin .add .no (.t 74) (.c (.int .u32 1))⟩,
 ⟨(some 76), none, .ixT (.c (.str [48, 48, 48, 49, 48, 50, 48, 51, 48, 52, 48, 53, 48, 54, 48, 55, 48, 56, 48, 57, 49, 48, 49, 49, 49, 50, 49, 51, 49, 52, 49, 53, 49, 54, 49, 55, 49, 56, 49, 57, 50, 48, 50, 49, 50, 50, 50, 51, 50, 52, 50, 53, 50, 54, 50, 55, 50, 56, 50, 57, 51, 48, 51, 49, 51, 50, 51, 51, 51, 52, 51, 53, 51, 54, 51, 55, 51, 56, 51, 57, 52, 48, 52, 49, 52, 50, 52, 51, 52, 52, 52, 53, 52, 54, 52, 55, 52, 56, 52, 57, 53, 48, 53, 49, 53, 50, 53, 51, 53, 52, 53, 53, 53, 54, 53, 55, 53, 56, 53, 57, 54, 48, 54, 49, 54, 50, 54, 51, 54, 52, 54, 53, 54, 54, 54, 55, 54, 56, 54, 57, 55, 48, 55, 49, 55, 50, 55, 51, 55, 52, 55, 53, 55, 54, 55, 55, 55, 56, 55, 57, 56, 48, 56, 49, 56, 50, 56, 51, 56, 52, 56, 53, 56, 54, 56, 55, 56, 56, 56, 57, 57, 48, 57, 49, 57, 50, 57, 51, 57, 52, 57, 53, 57, 54, 57, 55, 57, 56, 57, 57])) (.t 75)⟩,
 ⟨(some 77), none, .mov (.t 11)⟩,
 ⟨(some 78), none, .ixT (.c (.str [48, 48, 48, 49, 48, 50, 48, 51, 48, 52, 48, 53, 48, 54, 48, 55, 48, 56, 48, 57, 49, 48, 49, 49, 49, 50, 49, 51, 49, 52, 49, 53, 49, 54, 49, 55, 49, 56, 49, 57, 50, 48, 50, 49, 50, 50, 50, 51, 50, 52, 50, 53, 50, 54, 50, 55, 50, 56, 50, 57, 51, 48, 51, 49, 51, 50, 51, 51, 51, 52, 51, 53, 51, 54, 51, 55, 51, 56, 51, 57, 52, 48, 52, 49, 52, 50, 52, 51, 52, 52, 52, 53, 52, 54, 52, 55, 52, 56, 52, 57, 53, 48, 53, 49, 53, 50, 53, 51, 53, 52, 53, 53, 53, 54, 53, 55, 53, 56, 53, 57, 54, 48, 54, 49, 54, 50, 54, 51, 54, 52, 54, 53, 54, 54, 54, 55, 54, 56, 54, 57, 55, 48, 55, 49, 55, 50, 55, 51, 55, 52, 55, 53, 55, 54, 55, 55, 55, 56, 55, 57, 56, 48, 56, 49, 56, 50, 56, 51, 56, 52, 56, 53, 56, 54, 56, 55, 56, 56, 56, 57, 57, 48, 57, 49, 57, 50, 57, 51, 57, 52, 57, 53, 57, 54, 57, 55, 57, 56, 57, 57])) (.t 77)⟩,
 ⟨(some 79), none, .ixS 1 (.t 68) (.t 70)⟩,
 ⟨none, none, .store 1 (.t 79) (.t 76)⟩,
 ⟨(some 80), none, .ixS 1 (.t 71) (.t 73)⟩,
 ⟨none, none, .store 1 (.t 80) (.t 78)⟩] [])
 (.seq
 (.ops [
 ⟨(some 81), none, .mov (.t 0)⟩,
 ⟨(some 82), none, .mov (.t 4)⟩,
 ⟨(some 83), none, .bin .sub .no (.t 82) (.c (.int .i64 7))⟩,
 ⟨(some 84), none, .mov (.t 0)⟩,
 ⟨(some 85), none, .mov (.t 4)⟩,
 ⟨(some 86), none, .bin .sub .no (.t 85) (.c (.int .i64 8))⟩,
 ⟨(some 87), none, .mov (.t 10)⟩,
 ⟨(some 88), none, .bin .add .no (.t 87) (.c (.int .u32 1))⟩,
 ⟨(some 89), none, .ixT (.c (.str [48, 48, 48, 49, 48, 50, 48, 51, 48, 52, 48, 53, 48, 54, 48, 55, 48, 56, 48, 57, 49, 48, 49, 49, 49, 50, 49, 51, 49, 52, 49, 53, 49, 54, 49, 55, 49, 56, 49, 57, 50, 48, 50, 49, 50, 50, 50, 51, 50, 52, 50, 53, 50, 54, 50, 55, 50, 56, 50, 57, 51, 48, 51, 49, 51, 50, 51, 51, 51, 52, 51, 53, 51, 54, 51, 55, 51, 56, 51, 57, 52, 48, 52, 49, 52, 50, 52, 51, 52, 52, 52, 53, 52, 54, 52, 55, 52, 56, 52, 57, 53, 48, 53, 49, 53, 50, 53, 51, 53, 52, 53, 53, 53, 54, 53, 55, 53, 56, 53, 57, 54, 48, 54, 49, 54, 50, 54, 51, 54, 52, 54, 53, 54, 54, 54, 55, 54, 56, 54, 57, 55, 48, 55, 49, 55, 50, 55, 51, 55, 52, 55, 53, 55, 54, 55, 55, 55, 56, 55, 57, 56, 48, 56, 49, 56, 50, 56, 51, 56, 52, 56, 53, 56, 54, 56, 55, 56, 56, 56, 57, 57, 48, 57, 49, 57, 50, 57, 51, 57, 52, 57, 53, 57, 54, 57, 55, 57, 56, 57, 57])) (.t 88)⟩,
 ⟨(some 90), none, .mov (.t 10)⟩,
 ⟨(some 91), none, .ixT (.c (.str [48, 48, 48, 49, 48, 50, 48, 51, 48, 52, 48, 53, 48, 54, 48, 55, 48, 56, 48, 57, 49, 48, 49, 49, 49, 50, 49, 51, 49, 52, 49, 53, 49, 54, 49, 55, 49, 56, 49, 57, 50, 48, 50, 49, 50, 50, 50, 51, 50, 52, 50, 53, 50, 54, 50, 55, 50, 56, 50, 57, 51, 48, 51, 49, 51, 50, 51, 51, 51, 52, 51, 53, 51, 54, 51, 55, 51, 56, 51, 57, 52, 48, 52, 49, 52, 50, 52, 51, 52, 52, 52, 53, 52, 54, 52, 55, 52, 56, 52, 57, 53, 48, 53, 49, 53, 50, 53, 51, 53, 52, 53, 53, 53, 54, 53, 55, 53, 56, 53, 57, 54, 48, 54, 49, 54, 50, 54, 51, 54, 52, 54, 53, 54, 54, 54, 55, 54, 56, 54, 57, 55, 48, 55, 49, 55, 50, 55, 51, 55, 52, 55, 53, 55, 54, 55, 55, 55, 56, 55, 57, 56, 48, 56, 49, 56, 50, 56, 51, 56, 52, 56, 53, 56, 54, 56, 55, 56, 56, 56, 57, 57, 48, 57, 49, 57, 50, 57, 51, 57, 52, 57, 53, 57, 54, 57, 55, 57, 56, 57, 57])) (.t 90)⟩,
 ⟨(some 92), none, .ixS 1 (.t 81) (.t 83)⟩,
 ⟨none, none, .store 1 (.t 92) (.t 89)⟩,
 ⟨(some 93), none, .ixS 1 (.t 84) (.t 86)⟩,
 ⟨none, none, .store 1 (.t 93) (.t 91)⟩] [])
 (.ops [
 ⟨(some 94), none, .mov (.t 4)⟩,
 ⟨(some 95), none, .bin .sub .no (.t 94) (.c (.int .i64 8))⟩,
 ⟨(some 4), none, .mov (.t 95)⟩] [4]))))))))))))))
 (.seq
 (.ops [
 ⟨(some 96), none, .mov (.t 1)⟩,
 ⟨(some 97), none, .conv .u32 (.t 96)⟩,
 ⟨(some 12), none, .mov (.t 97)⟩] [12])
 (.seq
 (.seq
 (.ops [
 ⟨(some 98), none, .mov (.t 4)⟩,
 ⟨(some 99), none, .bin .geq .no (.t 98) (.c (.int .i64 4))⟩] [99])
 (.cond (.t 99)
 (.seq
 (.ops [
 ⟨(some 100), none, .mov (.t 12)⟩,
 ⟨(some 101), none, .bin .rem .no (.t 100) (.c (.int .u32 10000))⟩,
 ⟨(some 13), none, .mov (.t 101)⟩] [13])
 (.seq
 (.ops [
 ⟨(some 102), none, .mov (.t 12)⟩,
 ⟨(some 103), none, .bin .quo .no (.t 102) (.c (.int .u32 10000))⟩,
 ⟨(some 12), none, .mov (.t 103)⟩] [12])
 (.seq
 (.ops [
 ⟨(some 104), none, .mov (.t 13)⟩,
 ⟨(some 105), none, .bin .quo .no (.t 104) (.c (.int .u32 100))⟩,
 ⟨(some 106), none, .bin .mul .no (.t 105) (.c (.int .u32 2))⟩,
 ⟨(some 107), none, .mov (.t 13)⟩,
 ⟨(some 108), none, .bin .rem .no (.t 107) (.c (.int .u32 100))⟩,
 ⟨(some 109), none, .bin .mul .no (.t 108) (.c (.int .u32 2))⟩,
 ⟨(some 14), none, .mov (.t 106)⟩,
 ⟨(some 15), none, .mov (.t 109)⟩] [14, 15])
 (.seq
 (.ops [
 ⟨(some 110), none, .mov (.t 0)⟩,
 ⟨(some 111), none, .mov (.t 4)⟩,
 ⟨(some 112), none, .bin .sub .no (.t 111) (.c (.int .i64 1))⟩,
 ⟨(some 113), none, .mov (.t 0)⟩,
 ⟨(some 114), none, .mov (.t 4)⟩,
 ⟨(some 115), none, .bin .sub .no (.t 114) (.c (.int .i64 2))⟩,
 ⟨(some 116), none, .mov (.t 15)⟩,
 ⟨(some 117), none, .bin .add .no (.t 116) (.c (.int .u32 1))⟩,
 ⟨(some 118), none, .ixT (.c (.str [48, 48, 48, 49, 48, 50, 48, 51, 48, 52, 48, 53, 48, 54, 48, 55, 48, 56, 48, 57, 49, 48, 49, 49, 49, 50, 49, 51, 49, 52, 49, 53, 49, 54, 49, 55, 49, 56, 49, 57, 50, 48, 50, 49, 50, 50, 50, 51, 50, 52, 50, 53, 50, 54, 50, 55, 50, 56, 50, 57, 51, 48, 51, 49, 51, 50, 51, 51, 51, 52, 51, 53, 51, 54, 51, 55, 51, 56, 51, 57, 52, 48, 52, 49, 52, 50, 52, 51, 52, 52, 52, 53, 52, 54, 52, 55, 52, 56, 52, 57, 53, 48, 53, 49, 53, 50, 53, 51, 53, 52, 53, 53, 53, 54, 53, 55, 53, 56, 53, 57, 54, 48, 54, 49, 54, 50, 54, 51, 54, 52, 54, 53, 54, 54, 54, 55, 54, 56, 54, 57, 55, 48, 55, 49, 55, 50, 55, 51, 55, 52, 55, 53, 55, 54, 55, 55, 55, 56, 55, 57, 56, 48, 56, 49, 56, 50, 56, 51, 56, 52, 56, 53, 56, 54, 56, 55, 56, 56, 56, 57, 57, 48, 57, 49, 57, 50, 57, 51, 57, 52, 57, 53, 57, 54, 57, 55, 57, 56, 57, 57])) (.t 117)⟩,
 ⟨(some 119), none, .mov (.t 15)⟩,
 ⟨(some 120), none, .ixT (.c (.str [48, 48, 48, 49, 48, 50, 48, 51, 48, 52, 48, 53, 48, 54, 48, 55, 48, 56, 48, 57, 49, 48, 49, 49, 49, 50, 49, 51, 49, 52, 49, 53, 49, 54, 49, 55, 49, 56, 49, 57, 50, 48, 50, 49, 50, 50, 50, 51, 50, 52, 50, 53, 50, 54, 50, 55, 50, 56, 50, 57, 51, 48, 51, 49, 51, 50, 51, 51, 51, 52, 51, 53, 51, 54, 51, 55, 51, 56, 51, 57, 52, 48, 52, 49, 52, 50, 52, 51, 52, 52, 52, 53, 52, 54, 52, 55, 52, 56, 52, 57, 53, 48, 53, 49, 53, 50, 53, 51, 53, 52, 53, 53, 53, 54, 53, 55, 53, 56, 53, 57, 54, 48, 54, 49, 54, 50, 54, 51, 54, 52, 54, 53, 54, 54, 54, 55, 54, 56, 54, 57, 55, 48, 55, 49, 55, 50, 55, 51, 55, 52, 55, 53, 55, 54, 55, 55, 55, 56, 55, 57, 56, 48, 56, 49, 56, 50, 56, 51, 56, 52, 56, 53, 56, 54, 56, 55, 56, 56, 56, 57, 57, 48, 57, 49, 57, 50, 57, 51, 57, 52, 57, 53, 57, 54, 57, 55, 57, 56, 57, 57])) (.t 119)⟩,
 ⟨(some 121), none, .ixS 1 (.t 110) (.t 112)⟩,
 ⟨none, none, .store 1 (.t 121) (.t 118)⟩,
 ⟨(some 122), none, .ixS 1 (.t 113) (.t 115)⟩,
 ⟨none, none, .store 1 (.t 122) (.t 120)⟩] [])
 (.seq
 (.ops [
 ⟨(some 123), none, .mov (.t 0)⟩,
 ⟨(some 124), none, .mov (.t 4)⟩,
 ⟨(some 125), none, .bin .sub .no (.t 124) (.c (.int .i64 3))⟩,
 ⟨(some 126), none, .mov (.t 0)⟩,
 ⟨(some 127), none, .mov (.t 4)⟩,
 ⟨(some 128), none, .bin .sub .no (.t 127) (.c (.int .i64 4))⟩,
 ⟨(some 129), none, .mov (.t 14)⟩,
 ⟨(some 130), none, .bin .add .no (.t 129) (.c (.int .u32 1))⟩,
 ⟨(some 131), none, .ixT (.c (.str [48, 48, 48, 49, 48, 50, 48, 51, 48, 52, 48, 53, 48, 54, 48, 55, 48, 56, 48, 57, 49, 48, 49, 49, 49, 50, 49, 51, 49, 52, 49, 53, 49, 54, 49, 55, 49, 56, 49, 57, 50, 48, 50, 49, 50, 50, 50, 51, 50, 52, 50, 53, 50, 54, 50, 55, 50, 56, 50, 57, 51, 48, 51, 49, 51, 50, 51, 51, 51, 52, 51, 53, 51, 54, 51, 55, 51, 56, 51, 57, 52, 48, 52, 49, 52, 50, 52, 51, 52, 52, 52, 53, 52, 54, 52, 55, 52, 56, 52, 57, 53, 48, 53, 49, 53, 50, 53, 51, 53, 52, 53, 53, 53, 54, 53, 55, 53, 56, 53, 57, 54, 48, 54, 49, 54, 50, 54, 51, 54, 52, 54, 53, 54, 54, 54, 55, 54, 56, 54, 57, 55, 48, 55, 49, 55, 50, 55, 51, 55, 52, 55, 53, 55, 54, 55, 55, 55, 56, 55, 57, 56, 48, 56, 49, 56, 50, 56, 51, 56, 52, 56, 53, 56, 54, 56, 55, 56, 56, 56, 57, 57, 48, 57, 49, 57, 50, 57, 51, 57, 52, 57, 53, 57, 54, 57, 55, 57, 56, 57, 57])) (.t 130)⟩,
 ⟨(some 132), none, .mov (.t 14)⟩,
 ⟨(some 133), none, .ixT (.c (.str [48, 48, 48, 49, 48, 50, 48, 51, 48, 52, 48, 53, 48, 54, 48, 55, 48, 56, 48, 57, 49, 48, 49, 49, 49, 50, 49, 51, 49, 52, 49, 53, 49, 54, 49, 55, 49, 56, 49, 57, 50, 48, 50, 49, 50, 50, 50, 51, 50, 52, 50, 53, 50, 54, 50, 55, 50, 56, 50, 57, 51, 48, 51, 49, 51, 50, 51, 51, 51, 52, 51, 53, 51, 54, 51, 55, 51, 56, 51, 57, 52, 48, 52, 49, 52, 50, 52, 51, 52, 52, 52, 53, 52, 54, 52, 55, 52, 56, 52, 57, 53, 48, 53, 49, 53, 50, 53, 51, 53, 52, 53, 53, 53, 54, 53, 55, 53, 56, 53, 57, 54, 48, 54, 49, 54, 50, 54, 51, 54, 52, 54, 53, 54, 54, 54, 55, 54, 56, 54, 57, 55, 48, 55, 49, 55, 50, 55, 51, 55, 52, 55, 53, 55, 54, 55, 55, 55, 56, 55, 57, 56, 48, 56, 49, 56, 50, 56, 51, 56, 52, 56, 53, 56, 54, 56, 55, 56, 56, 56, 57, 57, 48, 57, 49, 57, 50, 57, 51, 57, 52, 57, 53, 57, 54, 57, 55, 57, 56, 57, 57])) (.t 132)⟩,
 ⟨(some 134), none, .ixS 1 (.t 123) (.t 125)⟩,
 ⟨none, none, .store 1 (.t 134) (.t 131)⟩,
 ⟨(some 135), none, .ixS 1 (.t 126) (.t 128)⟩,
 ⟨none, none, .store 1 (.t 135) (.t 133)⟩] [])
 (.ops [
 ⟨(some 136), none, .mov (.t 4)⟩,
 ⟨(some 137), none, .bin .sub .no (.t 136) (.c (.int .i64 4))⟩,
 ⟨(some 4), none, .mov (.t 137)⟩] [4]))))))
 .skip))
 (.seq
 (.seq
 (.ops [
 ⟨(some 138), none, .mov (.t 4)⟩,
 ⟨(some 139), none, .bin .geq .no (.t 138) (.c (.int .i64 2))⟩] [139])
 (.cond (.t 139)
 (.seq
 (.ops [
 ⟨(some 140), none, .mov (.t 12)⟩,
 ⟨(some 141), none, .bin .rem .no (.t 140) (.c (.int .u32 100))⟩,
 ⟨(some 142), none, .bin .mul .no (.t 141) (.c (.int .u32 2))⟩,
 ⟨(some 16), none, .mov (.t 142)⟩] [16])
 (.seq
 (.ops [
 ⟨(some 143), none, .mov (.t 12)⟩,
 ⟨(some 144), none, .bin .quo .no (.t 143) (.c (.int .u32 100))⟩,
 ⟨(some 12), none, .mov (.t 144)⟩] [12])
 (.seq
 (.ops [
 ⟨(some 145), none, .mov (.t 0)⟩,
 ⟨(some 146), none, .mov (.t 4)⟩,
 ⟨(some 147), none, .bin .sub .no (.t 146) (.c (.int .i64 1))⟩,
 ⟨(some 148), none, .mov (.t 0)⟩,
 ⟨(some 149), none, .mov (.t 4)⟩,
 ⟨(some 150), none, .bin .sub .no (.t 149) (.c (.int .i64 2))⟩,
 ⟨(some 151), none, .mov (.t 16)⟩,
 ⟨(some 152), none, .bin .add .no (.t 151) (.c (.int .u32 1))⟩,
 ⟨(some 153), none, .ixT (.c (.str [48, 48, 48, 49, 48, 50, 48, 51, 48, 52, 48, 53, 48, 54, 48, 55, 48, 56, 48, 57, 49, 48, 49, 49, 49, 50, 49, 51, 49, 52, 49, 53, 49, 54, 49, 55, 49, 56, 49, 57, 50, 48, 50, 49, 50, 50, 50, 51, 50, 52, 50, 53, 50, 54, 50, 55, 50, 56, 50, 57, 51, 48, 51, 49, 51, 50, 51, 51, 51, 52, 51, 53, 51, 54, 51, 55, 51, 56, 51, 57, 52, 48, 52, 49, 52, 50, 52, 51, 52, 52, 52, 53, 52, 54, 52, 55, 52, 56, 52, 57, 53, 48, 53, 49, 53, 50, 53, 51, 53, 52, 53, 53, 53, 54, 53, 55, 53, 56, 53, 57, 54, 48, 54, 49, 54, 50, 54, 51, 54, 52, 54, 53, 54, 54, 54, 55, 54, 56, 54, 57, 55, 48, 55, 49, 55, 50, 55, 51, 55, 52, 55, 53, 55, 54, 55, 55, 55, 56, 55, 57, 56, 48, 56, 49, 56, 50, 56, 51, 56, 52, 56, 53, 56, 54, 56, 55, 56, 56, 56, 57, 57, 48, 57, 49, 57, 50, 57, 51, 57, 52, 57, 53, 57, 54, 57, 55, 57, 56, 57, 57])) (.t 152)⟩,
 ⟨(some 154), none, .mov (.t 16)⟩,
 ⟨(some 155), none, .ixT (.c (.str [48, 48, 48, 49, 48, 50, 48, 51, 48, 52, 48, 53, 48, 54, 48, 55, 48, 56, 48, 57, 49, 48, 49, 49, 49, 50, 49, 51, 49, 52, 49, 53, 49, 54, 49, 55, 49, 56, 49, 57, 50, 48, 50, 49, 50, 50, 50, 51, 50, 52, 50, 53, 50, 54, 50, 55, 50, 56, 50, 57, 51, 48, 51, 49, 51, 50, 51, 51, 51, 52, 51, 53, 51, 54, 51, 55, 51, 56, 51, 57, 52, 48, 52, 49, 52, 50, 52, 51, 52, 52, 52, 53, 52, 54, 52, 55, 52, 56, 52, 57, 53, 48, 53, 49, 53, 50, 53, 51, 53, 52, 53, 53, 53, 54, 53, 55, 53, 56, 53, 57, 54, 48, 54, 49, 54, 50, 54, 51, 54, 52, 54, 53, 54, 54, 54, 55, 54, 56, 54, 57, 55, 48, 55, 49, 55, 50, 55, 51, 55, 52, 55, 53, 55, 54, 55, 55, 55, 56, 55, 57, 56, 48, 56, 49, 56, 50, 56, 51, 56, 52, 56, 53, 56, 54, 56, 55, 56, 56, 56, 57, 57, 48, 57, 49, 57, 50, 57, 51, 57, 52, 57, 53, 57, 54, 57, 55, 57, 56, 57, 57])) (.t 154)⟩,
 ⟨(some 156), none, .ixS 1 (.t 145) (.t 147)⟩,
 ⟨none, none, .store 1 (.t 156) (.t 153)⟩,
 ⟨(some 157), none, .ixS 1 (.t 148) (.t 150)⟩,
 ⟨none, none, .store 1 (.t 157) (.t 155)⟩] [])
 (.ops [
 ⟨(some 158), none, .mov (.t 4)⟩,
 ⟨(some 159), none, .bin .sub .no (.t 158) (.c (.int .i64 2))⟩,
 ⟨(some 4), none, .mov (.t 159)⟩] [4]))))
 .skip))
 (.seq
 (.ops [
 ⟨(some 160), none, .mov (.t 4)⟩,
 ⟨(some 161), none, .bin .gtr .no (.t 160) (.c (.int .i64 0))⟩] [161])
 (.cond (.t 161)
 (.ops [
 ⟨(some 162), none, .mov (.t 0)⟩,
 ⟨(some 163), none, .mov (.t 12)⟩,
 ⟨(some 164), none, .bin .add .no (.c (.int .u32 48)) (.t 163)⟩,
 ⟨(some 165), none, .conv .u8 (.t 164)⟩,
 ⟨(some 166), none, .ixS 1 (.t 162) (.c (.int .i64 0))⟩,
 ⟨none, none, .store 1 (.t 166) (.t 165)⟩] [])
 .skip))))))),
 []⟩

/-- internal/strconv.formatBits -/
noncomputable def sf107 : SFun := ⟨[0, 1, 2, 3, 4, 10, 11, 12, 13, 14, 15, 16, 17, 18, 28, 30, 34, 46, 68, 89, 94], 102,
 (.seq
 (.ops [
 ⟨(some 10), none, .mov (.c .nilsl)⟩,
 ⟨(some 11), none, .mov (.c (.str []))⟩] [10, 11])
 (.seq
 (.seq
 (.ops [
 ⟨(some 19), none, .mov (.t 2)⟩,
 ⟨(some 20), none, .bin .lss .no (.t 19) (.c (.int .i64 2))⟩,
 ⟨(some 21), none, .mov (.t 20)⟩,
 ⟨(some 22), (some (21, false)), .mov (.t 2)⟩,
 ⟨(some 23), (some (21, false)), .bin .eql .no (.t 22) (.c (.int .i64 10))⟩,
 ⟨(some 24), none, .pick (.t 21) (.c (.bool true)) (.t 23)⟩,
 ⟨(some 25), none, .mov (.t 24)⟩,
 ⟨(some 26), (some (25, false)), .mov (.t 2)⟩,
 ⟨(some 27), (some (25, false)), .bin .gtr .no (.t 26) (.c (.int .i64 36))⟩,
 ⟨(some 28), none, .pick (.t 25) (.c (.bool true)) (.t 27)⟩] [28])
 (.cond (.t 28)
 (.ops [
 ⟨(some 29), none, .bad⟩,
 ⟨none, none, .bad⟩] [])
 .skip))
 (.seq
 (.ops [
 ⟨(some 12), none, .new [(.int .u8 0), (.int .u8 0), (.int .u8 0), (.int .u8 0), (.int .u8 0), (.int .u8 0), (.int .u8 0), (.int .u8 0), (.int .u8 0), (.int .u8 0), (.int .u8 0), (.int .u8 0), (.int .u8 0), (.int .u8 0), (.int .u8 0), (.int .u8 0), (.int .u8 0), (.int .u8 0), (.int .u8 0), (.int .u8 0), (.int .u8 0), (.int .u8 0), (.int .u8 0), (.int .u8 0), (.int .u8 0), (.int .u8 0), (.int .u8 0), (.int .u8 0), (.int .u8 0), (.int .u8 0), (.int .u8 0), (.int .u8 0), (.int .u8 0), (.int .u8 0), (.int .u8 0), (.int .u8 0), (.int .u8 0), (.int .u8 0), (.int .u8 0), (.int .u8 0), (.int .u8 0), (.int .u8 0), (.int .u8 0), (.int .u8 0), (.int .u8 0), (.int .u8 0), (.int .u8 0), (.int .u8 0), (.int .u8 0), (.int .u8 0), (.int .u8 0), (.int .u8 0), (.int .u8 0), (.int .u8 0), (.int .u8 0), (.int .u8 0), (.int .u8 0), (.int .u8 0), (.int .u8 0), (.int .u8 0), (.int .u8 0), (.int .u8 0), (.int .u8 0), (.int .u8 0), (.int .u8 0)]⟩] [12])
 (.seq
 (.ops [
 ⟨(some 13), none, .mov (.c (.int .i64 65))⟩] [13])
 (.seq
 (.seq
 (.ops [
 ⟨(some 30), none, .mov (.t 3)⟩] [30])
 (.cond (.t 30)
 (.ops [
 ⟨(some 31), none, .mov (.t 1)⟩,
 ⟨(some 32), none, .neg (.t 31)⟩,
 ⟨(some 1), none, .mov (.t 32)⟩] [1])
 .skip))
 (.seq
 (.seq
 (.ops [
 ⟨(some 33), none, .mov (.t 2)⟩,
 ⟨(some 34), none, .call (.c (.fn (.func 112) [] [])) [(.t 33)]⟩] [34])
 (.cond (.t 34)
 (.seq
 (.ops [
 ⟨(some 35), none, .mov (.t 2)⟩,
 ⟨(some 36), none, .conv .u64 (.t 35)⟩,
 ⟨(some 37), none, .call (.c (.fn (.func 113) [] [])) [(.t 36)]⟩,
 ⟨(some 38), none, .conv .u64 (.t 37)⟩,
 ⟨(some 14), none, .mov (.t 38)⟩] [14])
 (.seq
 (.ops [
 ⟨(some 39), none, .mov (.t 2)⟩,
 ⟨(some 40), none, .conv .u64 (.t 39)⟩,
 ⟨(some 15), none, .mov (.t 40)⟩] [15])
 (.seq
 (.ops [
 ⟨(some 41), none, .mov (.t 2)⟩,
 ⟨(some 42), none, .conv .u64 (.t 41)⟩,
 ⟨(some 43), none, .bin .sub .no (.t 42) (.c (.int .u64 1))⟩,
 ⟨(some 16), none, .mov (.t 43)⟩] [16])
 (.seq
 (.block 0
 (.loop
 (.seq
 (.seq
 (.ops [
 ⟨(some 44), none, .mov (.t 1)⟩,
 ⟨(some 45), none, .mov (.t 15)⟩,
 ⟨(some 46), none, .bin .geq .no (.t 44) (.t 45)⟩] [46])
 (.cond (.t 46)
 .skip
 (.exit 0)))
 (.block 1
 (.seq
 (.ops [
 ⟨(some 47), none, .mov (.t 13)⟩,
 ⟨(some 48), none, .bin .sub .no (.t 47) (.c (.int .i64 1))⟩,
 ⟨(some 13), none, .mov (.t 48)⟩] [13])
 (.seq
 (.ops [
 ⟨(some 49), none, .mov (.t 13)⟩,
 ⟨(some 50), none, .mov (.t 1)⟩,
 ⟨(some 51), none, .mov (.t 16)⟩,
 ⟨(some 52), none, .bin .and .no (.t 50) (.t 51)⟩,
 ⟨(some 53), none, .ixT (.c (.str [48, 49, 50, 51, 52, 53, 54, 55, 56, 57, 97, 98, 99, 100, 101, 102, 103, 104, 105, 106, 107, 108, 109, 110, 111, 112, 113, 114, 115, 116, 117, 118, 119, 120, 121, 122])) (.t 52)⟩,
 ⟨(some 54), none, .ixA 65 1 (.t 12) (.t 49)⟩,
 ⟨none, none, .store 1 (.t 54) (.t 53)⟩] [])
 (.ops [
 ⟨(some 55), none, .mov (.t 1)⟩,
 ⟨(some 56), none, .mov (.t 14)⟩,
 ⟨(some 57), none, .bin .shr .no (.t 55) (.t 56)⟩,
 ⟨(some 1), none, .mov (.t 57)⟩] [1])))))))
 (.seq
 (.ops [
 ⟨(some 58), none, .mov (.t 13)⟩,
 ⟨(some 59), none, .bin .sub .no (.t 58) (.c (.int .i64 1))⟩,
 ⟨(some 13), none, .mov (.t 59)⟩] [13])
 (.ops [
 ⟨(some 60), none, .mov (.t 13)⟩,
 ⟨(some 61), none, .mov (.t 1)⟩,
 ⟨(some 62), none, .ixT (.c (.str [48, 49, 50, 51, 52, 53, 54, 55, 56, 57, 97, 98, 99, 100, 101, 102, 103, 104, 105, 106, 107, 108, 109, 110, 111, 112, 113, 114, 115, 116, 117, 118, 119, 120, 121, 122])) (.t 61)⟩,
 ⟨(some 63), none, .ixA 65 1 (.t 12) (.t 60)⟩,
 ⟨none, none, .store 1 (.t 63) (.t 62)⟩] []))))))
 (.seq
 (.ops [
 ⟨(some 64), none, .mov (.t 2)⟩,
 ⟨(some 65), none, .conv .u64 (.t 64)⟩,
 ⟨(some 17), none, .mov (.t 65)⟩] [17])
 (.seq
 (.block 2
 (.loop
 (.seq
 (.seq
 (.ops [
 ⟨(some 66), none, .mov (.t 1)⟩,
 ⟨(some 67), none, .mov (.t 17)⟩,
 ⟨(some 68), none, .bin .geq .no (.t 66) (.t 67)⟩] [68])
 (.cond (.t 68)
 .skip
 (.exit 2)))
 (.block 3
 (.seq
 (.ops [
 ⟨(some 69), none, .mov (.t 13)⟩,
 ⟨(some 70), none, .bin .sub .no (.t 69) (.c (.int .i64 1))⟩,
 ⟨(some 13), none, .mov (.t 70)⟩] [13])
 (.seq
 (.ops [
 ⟨(some 71), none, .mov (.t 1)⟩,
 ⟨(some 72), none, .mov (.t 17)⟩,
 ⟨(some 73), none, .bin .quo .no (.t 71) (.t 72)⟩,
 ⟨(some 18), none, .mov (.t 73)⟩] [18])
 (.seq
 (.ops [
 ⟨(some 74), none, .mov (.t 13)⟩,
 ⟨(some 75), none, .mov (.t 1)⟩,
 ⟨(some 76), none, .mov (.t 18)⟩,
 ⟨(some 77), none, .mov (.t 17)⟩,
 ⟨(some 78), none, .bin .mul .no (.t 76) (.t 77)⟩,
 ⟨(some 79), none, .bin .sub .no (.t 75) (.t 78)⟩,
 ⟨(some 80), none, .ixT (.c (.str [48, 49, 50, 51, 52, 53, 54, 55, 56, 57, 97, 98, 99, 100, 101, 102, 103, 104, 105, 106, 107, 108, 109, 110, 111, 112, 113, 114, 115, 116, 117, 118, 119, 120, 121, 122])) (.t 79)⟩,
 ⟨(some 81), none, .ixA 65 1 (.t 12) (.t 74)⟩,
 ⟨none, none, .store 1 (.t 81) (.t 80)⟩] [])
 (.ops [
 ⟨(some 82), none, .mov (.t 18)⟩,
 ⟨(some 1), none, .mov (.t 82)⟩] [1]))))))))
 (.seq
 (.ops [
 ⟨(some 83), none, .mov (.t 13)⟩,
 ⟨(some 84), none, .bin .sub .no (.t 83) (.c (.int .i64 1))⟩,
 ⟨(some 13), none, .mov (.t 84)⟩] [13])
 (.ops [
 ⟨(some 85), none, .mov (.t 13)⟩,
 ⟨(some 86), none, .mov (.t 1)⟩,
 ⟨(some 87), none, .ixT (.c (.str [48, 49, 50, 51, 52, 53, 54, 55, 56, 57, 97, 98, 99, 100, 101, 102, 103, 104, 105, 106, 107, 108, 109, 110, 111, 112, 113, 114, 115, 116, 117, 118, 119, 120, 121, 122])) (.t 86)⟩,
 ⟨(some 88), none, .ixA 65 1 (.t 12) (.t 85)⟩,
 ⟨none, none, .store 1 (.t 88) (.t 87)⟩] []))))))
 (.seq
 (.seq
 (.ops [
 ⟨(some 89), none, .mov (.t 3)⟩] [89])
 (.cond (.t 89)
 (.seq
 (.ops [
 ⟨(some 90), none, .mov (.t 13)⟩,
 ⟨(some 91), none, .bin .sub .no (.t 90) (.c (.int .i64 1))⟩,
 ⟨(some 13), none, .mov (.t 91)⟩] [13])
 (.ops [
 ⟨(some 92), none, .mov (.t 13)⟩,
 ⟨(some 93), none, .ixA 65 1 (.t 12) (.t 92)⟩,
 ⟨none, none, .store 1 (.t 93) (.c (.int .u8 45))⟩] []))
 .skip))
 (.seq
 (.seq
 (.ops [
 ⟨(some 94), none, .mov (.t 4)⟩] [94])
 (.cond (.t 94)
 (.seq
 (.ops [
 ⟨(some 95), none, .mov (.t 0)⟩,
 ⟨(some 96), none, .mov (.t 13)⟩,
 ⟨(some 97), none, .arr 65 1 (.t 12) (some (.t 96)) none⟩,
 ⟨(some 98), none, .app true 1 (.t 95) (.t 97)⟩,
 ⟨(some 10), none, .mov (.t 98)⟩] [10])
 .ret)
 .skip))
 (.seq
 (.ops [
 ⟨(some 99), none, .mov (.t 13)⟩,
 ⟨(some 100), none, .arr 65 1 (.t 12) (some (.t 99)) none⟩,
 ⟨(some 101), none, .b2s (.t 100)⟩,
 ⟨(some 11), none, .mov (.t 101)⟩] [11])
 .ret))))))))),
 [.tmp 10, .tmp 11]⟩

/-- unicode/utf8.decodeRuneInStringSlow -/
noncomputable def sf108 : SFun := ⟨[0, 2, 3, 4, 5, 6, 7, 8, 9, 10, 11, 12, 16, 23, 45, 57, 59, 75, 77, 98], 117,
 (.seq
 (.ops [
 ⟨(some 2), none, .mov (.c (.int .i32 0))⟩,
 ⟨(some 3), none, .mov (.c (.int .i64 0))⟩] [2, 3])
 (.seq
 (.ops [
 ⟨(some 13), none, .mov (.t 0)⟩,
 ⟨(some 14), none, .lenT (.t 13)⟩,
 ⟨(some 4), none, .mov (.t 14)⟩] [4])
 (.seq
 (.seq
 (.ops [
 ⟨(some 15), none, .mov (.t 4)⟩,
 ⟨(some 16), none, .bin .lss .no (.t 15) (.c (.int .i64 1))⟩] [16])
 (.cond (.t 16)
 (.seq
 (.ops [
 ⟨(some 2), none, .mov (.c (.int .i32 65533))⟩,
 ⟨(some 3), none, .mov (.c (.int .i64 0))⟩] [2, 3])
 .ret)
 .skip))
 (.seq
 (.ops [
 ⟨(some 17), none, .mov (.t 0)⟩,
 ⟨(some 18), none, .ixT (.t 17) (.c (.int .i64 0))⟩,
 ⟨(some 5), none, .mov (.t 18)⟩] [5])
 (.seq
 (.ops [
 ⟨(some 19), none, .mov (.t 5)⟩,
 ⟨(some 20), none, .ixA 256 1 (.c .any) (.t 19)⟩,
 ⟨(some 21), none, .load none (.t 20)⟩,
 ⟨(some 6), none, .mov (.t 21)⟩] [6])
 (.seq
 (.seq
 (.ops [
 ⟨(some 22), none, .mov (.t 6)⟩,
 ⟨(some 23), none, .bin .geq .no (.t 22) (.c (.int .u8 240))⟩] [23])
 (.cond (.t 23)
 (.seq
 (.ops [
 ⟨(some 24), none, .mov (.t 6)⟩,
 ⟨(some 25), none, .conv .i32 (.t 24)⟩,
 ⟨(some 26), none, .bin .shl .no (.t 25) (.c (.int .u64 31))⟩,
 ⟨(some 27), none, .bin .shr .no (.t 26) (.c (.int .u64 31))⟩,
 ⟨(some 7), none, .mov (.t 27)⟩] [7])
 (.seq
 (.ops [
 ⟨(some 28), none, .mov (.t 0)⟩,
 ⟨(some 29), none, .ixT (.t 28) (.c (.int .i64 0))⟩,
 ⟨(some 30), none, .conv .i32 (.t 29)⟩,
 ⟨(some 31), none, .mov (.t 7)⟩,
 ⟨(some 32), none, .bin .andNot .no (.t 30) (.t 31)⟩,
 ⟨(some 33), none, .mov (.t 7)⟩,
 ⟨(some 34), none, .bin .and .no (.c (.int .i32 65533)) (.t 33)⟩,
 ⟨(some 35), none, .bin .or .no (.t 32) (.t 34)⟩,
 ⟨(some 2), none, .mov (.t 35)⟩,
 ⟨(some 3), none, .mov (.c (.int .i64 1))⟩] [2, 3])
 .ret))
 .skip))
 (.seq
 (.ops [
 ⟨(some 36), none, .mov (.t 6)⟩,
 ⟨(some 37), none, .bin .and .no (.t 36) (.c (.int .u8 7))⟩,
 ⟨(some 38), none, .conv .i64 (.t 37)⟩,
 ⟨(some 8), none, .mov (.t 38)⟩] [8])
 (.seq
 (.ops [
 ⟨(some 39), none, .mov (.t 6)⟩,
 ⟨(some 40), none, .bin .shr .no (.t 39) (.c (.int .u64 4))⟩,
 ⟨(some 41), none, .ixA 16 2 (.c .any) (.t 40)⟩,
 ⟨(some 42), none, .load (some 2) (.t 41)⟩,
 ⟨(some 9), none, .new [(.int .u8 0), (.int .u8 0)]⟩,
 ⟨none, none, .store 2 (.t 9) (.t 42)⟩] [9])
 (.seq
 (.seq
 (.ops [
 ⟨(some 43), none, .mov (.t 4)⟩,
 ⟨(some 44), none, .mov (.t 8)⟩,
 ⟨(some 45), none, .bin .lss .no (.t 43) (.t 44)⟩] [45])
 (.cond (.t 45)
 (.seq
 (.ops [
 ⟨(some 2), none, .mov (.c (.int .i32 65533))⟩,
 ⟨(some 3), none, .mov (.c (.int .i64 1))⟩] [2, 3])
 .ret)
 .skip))
 (.seq
 (.ops [
 ⟨(some 46), none, .mov (.t 0)⟩,
 ⟨(some 47), none, .ixT (.t 46) (.c (.int .i64 1))⟩,
 ⟨(some 10), none, .mov (.t 47)⟩] [10])
 (.seq
 (.seq
 (.ops [
 ⟨(some 48), none, .mov (.t 10)⟩,
 ⟨(some 49), none, .fa 0 (.t 9)⟩,
 ⟨(some 50), none, .load none (.t 49)⟩,
 ⟨(some 51), none, .bin .lss .no (.t 48) (.t 50)⟩,
 ⟨(some 52), none, .mov (.t 51)⟩,
 ⟨(some 53), (some (52, false)), .fa 1 (.t 9)⟩,
 ⟨(some 54), (some (52, false)), .load none (.t 53)⟩,
 ⟨(some 55), (some (52, false)), .mov (.t 10)⟩,
 ⟨(some 56), (some (52, false)), .bin .lss .no (.t 54) (.t 55)⟩,
 ⟨(some 57), none, .pick (.t 52) (.c (.bool true)) (.t 56)⟩] [57])
 (.cond (.t 57)
 (.seq
 (.ops [
 ⟨(some 2), none, .mov (.c (.int .i32 65533))⟩,
 ⟨(some 3), none, .mov (.c (.int .i64 1))⟩] [2, 3])
 .ret)
 .skip))
 (.seq
 (.seq
 (.ops [
 ⟨(some 58), none, .mov (.t 8)⟩,
 ⟨(some 59), none, .bin .leq .no (.t 58) (.c (.int .i64 2))⟩] [59])
 (.cond (.t 59)
 (.seq
 (.ops [
 ⟨(some 60), none, .mov (.t 5)⟩,
 ⟨(some 61), none, .bin .and .no (.t 60) (.c (.int .u8 31))⟩,
 ⟨(some 62), none, .conv .i32 (.t 61)⟩,
 ⟨(some 63), none, .bin .shl .no (.t 62) (.c (.int .u64 6))⟩,
 ⟨(some 64), none, .mov (.t 10)⟩,
 ⟨(some 65), none, .bin .and .no (.t 64) (.c (.int .u8 63))⟩,
 ⟨(some 66), none, .conv .i32 (.t 65)⟩,
 ⟨(some 67), none, .bin .or .no (.t 63) (.t 66)⟩,
 ⟨(some 2), none, .mov (.t 67)⟩,
 ⟨(some 3), none, .mov (.c (.int .i64 2))⟩] [2, 3])
 .ret)
 .skip))
 (.seq
 (.ops [
 ⟨(some 68), none, .mov (.t 0)⟩,
 ⟨(some 69), none, .ixT (.t 68) (.c (.int .i64 2))⟩,
 ⟨(some 11), none, .mov (.t 69)⟩] [11])
 (.seq
 (.seq
 (.ops [
 ⟨(some 70), none, .mov (.t 11)⟩,
 ⟨(some 71), none, .bin .lss .no (.t 70) (.c (.int .u8 128))⟩,
 ⟨(some 72), none, .mov (.t 71)⟩,
 ⟨(some 73), (some (72, false)), .mov (.t 11)⟩,
 ⟨(some 74), (some (72, false)), .bin .lss .no (.c (.int .u8 191)) (.t 73)⟩,
 ⟨(some 75), none, .pick (.t 72) (.c (.bool true)) (.t 74)⟩] [75])
 (.cond (.t 75)
 (.seq
 (.ops [
 ⟨(some 2), none, .mov (.c (.int .i32 65533))⟩,
 ⟨(some 3), none, .mov (.c (.int .i64 1))⟩] [2, 3])
 .ret)
 .skip))
 (.seq
 (.seq
 (.ops [
 ⟨(some 76), none, .mov (.t 8)⟩,
 ⟨(some 77), none, .bin .leq .no (.t 76) (.c (.int .i64 3))⟩] [77])
 (.cond (.t 77)
 (.seq
 (.ops [
 ⟨(some 78), none, .mov (.t 5)⟩,
 ⟨(some 79), none, .bin .and .no (.t 78) (.c (.int .u8 15))⟩,
 ⟨(some 80), none, .conv .i32 (.t 79)⟩,
 ⟨(some 81), none, .bin .shl .no (.t 80) (.c (.int .u64 12))⟩,
 ⟨(some 82), none, .mov (.t 10)⟩,
 ⟨(some 83), none, .bin .and .no (.t 82) (.c (.int .u8 63))⟩,
 ⟨(some 84), none, .conv .i32 (.t 83)⟩,
 ⟨(some 85), none, .bin .shl .no (.t 84) (.c (.int .u64 6))⟩,
 ⟨(some 86), none, .bin .or .no (.t 81) (.t 85)⟩,
 ⟨(some 87), none, .mov (.t 11)⟩,
 ⟨(some 88), none, .bin .and .no (.t 87) (.c (.int .u8 63))⟩,
 ⟨(some 89), none, .conv .i32 (.t 88)⟩,
 ⟨(some 90), none, .bin .or .no (.t 86) (.t 89)⟩,
 ⟨(some 2), none, .mov (.t 90)⟩,
 ⟨(some 3), none, .mov (.c (.int .i64 3))⟩] [2, 3])
 .ret)
 .skip))
 (.seq
 (.ops [
 ⟨(some 91), none, .mov (.t 0)⟩,
 ⟨(some 92), none, .ixT (.t 91) (.c (.int .i64 3))⟩,
 ⟨(some 12), none, .mov (.t 92)⟩] [12])
 (.seq
 (.seq
 (.ops [
 ⟨(some 93), none, .mov (.t 12)⟩,
 ⟨(some 94), none, .bin .lss .no (.t 93) (.c (.int .u8 128))⟩,
 ⟨(some 95), none, .mov (.t 94)⟩,
 ⟨(some 96), (some (95, false)), .mov (.t 12)⟩,
 ⟨(some 97), (some (95, false)), .bin .lss .no (.c (.int .u8 191)) (.t 96)⟩,
 ⟨(some 98), none, .pick (.t 95) (.c (.bool true)) (.t 97)⟩] [98])
 (.cond (.t 98)
 (.seq
 (.ops [
 ⟨(some 2), none, .mov (.c (.int .i32 65533))⟩,
 ⟨(some 3), none, .mov (.c (.int .i64 1))⟩] [2, 3])
 .ret)
 .skip))
 (.seq
 (.ops [
 ⟨(some 99), none, .mov (.t 5)⟩,
 ⟨(some 100), none, .bin .and .no (.t 99) (.c (.int .u8 7))⟩,
 ⟨(some 101), none, .conv .i32 (.t 100)⟩,
 ⟨(some 102), none, .bin .shl .no (.t 101) (.c (.int .u64 18))⟩,
 ⟨(some 103), none, .mov (.t 10)⟩,
 ⟨(some 104), none, .bin .and .no (.t 103) (.c (.int .u8 63))⟩,
 ⟨(some 105), none, .conv .i32 (.t 104)⟩,
 ⟨(some 106), none, .bin .shl .no (.t 105) (.c (.int .u64 12))⟩,
 ⟨(some 107), none, .bin .or .no (.t 102) (.t 106)⟩,
 ⟨(some 108), none, .mov (.t 11)⟩,
 ⟨(some 109), none, .bin .and .no (.t 108) (.c (.int .u8 63))⟩,
 ⟨(some 110), none, .conv .i32 (.t 109)⟩,
 ⟨(some 111), none, .bin .shl .no (.t 110) (.c (.int .u64 6))⟩,
 ⟨(some 112), none, .bin .or .no (.t 107) (.t 111)⟩,
 ⟨(some 113), none, .mov (.t 12)⟩,
 ⟨(some 114), none, .bin .and .no (.t 113) (.c (.int .u8 63))⟩,
 ⟨(some 115), none, .conv .i32 (.t 114)⟩,
 ⟨(some 116), none, .bin .or .no (.t 112) (.t 115)⟩,
 ⟨(some 2), none, .mov (.t 116)⟩,
 ⟨(some 3), none, .mov (.c (.int .i64 4))⟩] [2, 3])
 .ret)))))))))))))))))),
 [.tmp 2, .tmp 3]⟩

/-- internal/strconv.log10Pow2 -/
noncomputable def sf110 : SFun := ⟨[0, 2], 6,
 (.seq
 (.ops [
 ⟨(some 2), none, .mov (.c (.int .i64 0))⟩] [2])
 (.seq
 (.ops [
 ⟨(some 3), none, .mov (.t 0)⟩,
 ⟨(some 4), none, .bin .mul .no (.t 3) (.c (.int .i64 78913))⟩,
 ⟨(some 5), none, .bin .shr .no (.t 4) (.c (.int .u64 18))⟩,
 ⟨(some 2), none, .mov (.t 5)⟩] [2])
 .ret)),
 [.tmp 2]⟩

/-- internal/strconv.bool2[int] -/
noncomputable def sf111 : SFun := ⟨[0, 2, 3], 4,
 (.seq
 (.ops [
 ⟨(some 2), none, .mov (.c (.int .i64 0))⟩] [2])
 (.seq
 (.seq
 (.ops [
 ⟨(some 3), none, .mov (.t 0)⟩] [3])
 (.cond (.t 3)
 (.seq
 (.ops [
 ⟨(some 2), none, .mov (.c (.int .i64 1))⟩] [2])
 .ret)
 .skip))
 (.seq
 (.ops [
 ⟨(some 2), none, .mov (.c (.int .i64 0))⟩] [2])
 .ret))),
 [.tmp 2]⟩

/-- internal/strconv.isPowerOfTwo -/
noncomputable def sf112 : SFun := ⟨[0, 2], 8,
 (.seq
 (.ops [
 ⟨(some 2), none, .mov (.c (.bool false))⟩] [2])
 (.seq
 (.ops [
 ⟨(some 3), none, .mov (.t 0)⟩,
 ⟨(some 4), none, .mov (.t 0)⟩,
 ⟨(some 5), none, .bin .sub .no (.t 4) (.c (.int .i64 1))⟩,
 ⟨(some 6), none, .bin .and .no (.t 3) (.t 5)⟩,
 ⟨(some 7), none, .bin .eql .no (.t 6) (.c (.int .i64 0))⟩,
 ⟨(some 2), none, .mov (.t 7)⟩] [2])
 .ret)),
 [.tmp 2]⟩

/-- math/bits.TrailingZeros -/
noncomputable def sf113 : SFun := ⟨[0, 2], 8,
 (.seq
 (.ops [
 ⟨(some 2), none, .mov (.c (.int .i64 0))⟩] [2])
 (.seq
 (.cond (.c (.bool false))
 (.seq
 (.ops [
 ⟨(some 3), none, .mov (.t 0)⟩,
 ⟨(some 4), none, .conv .u32 (.t 3)⟩,
 ⟨(some 5), none, .call (.c (.fn (.func 118) [] [])) [(.t 4)]⟩,
 ⟨(some 2), none, .mov (.t 5)⟩] [2])
 .ret)
 .skip)
 (.seq
 (.ops [
 ⟨(some 6), none, .mov (.t 0)⟩,
 ⟨(some 7), none, .call (.c (.fn (.func 119) [] [])) [(.t 6)]⟩,
 ⟨(some 2), none, .mov (.t 7)⟩] [2])
 .ret))),
 [.tmp 2]⟩

/-- strings.IndexByte -/
noncomputable def sf114 : SFun := ⟨[0, 1, 4], 8,
 (.seq
 (.ops [
 ⟨(some 4), none, .mov (.c (.int .i64 0))⟩] [4])
 (.seq
 (.ops [
 ⟨(some 5), none, .mov (.t 0)⟩,
 ⟨(some 6), none, .mov (.t 1)⟩,
 ⟨(some 7), none, .call (.c (.fn (.func 120) [] [])) [(.t 5), (.t 6)]⟩,
 ⟨(some 4), none, .mov (.t 7)⟩] [4])
 .ret)),
 [.tmp 4]⟩

/-- unicode/utf8.ValidRune -/
noncomputable def sf115 : SFun := ⟨[0, 2, 3, 10], 17,
 (.seq
 (.ops [
 ⟨(some 2), none, .mov (.c (.bool false))⟩] [2])
 (.seq
 (.block 0
 (.seq
 (.ops [
 ⟨(some 4), none, .mov (.t 0)⟩,
 ⟨(some 5), none, .bin .leq .no (.c (.int .i32 0)) (.t 4)⟩,
 ⟨(some 6), none, .mov (.t 5)⟩,
 ⟨(some 7), (some (6, true)), .mov (.t 0)⟩,
 ⟨(some 8), (some (6, true)), .bin .lss .no (.t 7) (.c (.int .i32 55296))⟩,
 ⟨(some 9), none, .pick (.t 6) (.t 8) (.c (.bool false))⟩,
 ⟨(some 3), none, .mov (.t 9)⟩] [3])
 (.cond (.t 3)
 (.seq
 (.ops [
 ⟨(some 2), none, .mov (.c (.bool true))⟩] [2])
 .ret)
 (.seq
 (.ops [
 ⟨(some 11), none, .mov (.t 0)⟩,
 ⟨(some 12), none, .bin .lss .no (.c (.int .i32 57343)) (.t 11)⟩,
 ⟨(some 13), none, .mov (.t 12)⟩,
 ⟨(some 14), (some (13, true)), .mov (.t 0)⟩,
 ⟨(some 15), (some (13, true)), .bin .leq .no (.t 14) (.c (.int .i32 1114111))⟩,
 ⟨(some 16), none, .pick (.t 13) (.t 15) (.c (.bool false))⟩,
 ⟨(some 10), none, .mov (.t 16)⟩] [10])
 (.cond (.t 10)
 (.seq
 (.ops [
 ⟨(some 2), none, .mov (.c (.bool true))⟩] [2])
 .ret)
 .skip)))))
 (.seq
 (.ops [
 ⟨(some 2), none, .mov (.c (.bool false))⟩] [2])
 .ret))),
 [.tmp 2]⟩

/-- internal/bytealg.Cutover -/
noncomputable def sf116 : SFun := ⟨[0, 2], 6,
 (.seq
 (.ops [
 ⟨(some 2), none, .mov (.c (.int .i64 0))⟩] [2])
 (.seq
 (.ops [
 ⟨(some 3), none, .mov (.t 0)⟩,
 ⟨(some 4), none, .bin .add .no (.t 3) (.c (.int .i64 16))⟩,
 ⟨(some 5), none, .bin .quo .no (.t 4) (.c (.int .i64 8))⟩,
 ⟨(some 2), none, .mov (.t 5)⟩] [2])
 .ret)),
 [.tmp 2]⟩

/-- math/bits.TrailingZeros32 -/
noncomputable def sf118 : SFun := ⟨[0, 2, 4], 14,
 (.seq
 (.ops [
 ⟨(some 2), none, .mov (.c (.int .i64 0))⟩] [2])
 (.seq
 (.seq
 (.ops [
 ⟨(some 3), none, .mov (.t 0)⟩,
 ⟨(some 4), none, .bin .eql .no (.t 3) (.c (.int .u32 0))⟩] [4])
 (.cond (.t 4)
 (.seq
 (.ops [
 ⟨(some 2), none, .mov (.c (.int .i64 32))⟩] [2])
 .ret)
 .skip))
 (.seq
 (.ops [
 ⟨(some 5), none, .mov (.t 0)⟩,
 ⟨(some 6), none, .mov (.t 0)⟩,
 ⟨(some 7), none, .neg (.t 6)⟩,
 ⟨(some 8), none, .bin .and .no (.t 5) (.t 7)⟩,
 ⟨(some 9), none, .bin .mul .no (.t 8) (.c (.int .u32 125613361))⟩,
 ⟨(some 10), none, .bin .shr .no (.t 9) (.c (.int .u64 27))⟩,
 ⟨(some 11), none, .ixA 32 1 (.c .any) (.t 10)⟩,
 ⟨(some 12), none, .load none (.t 11)⟩,
 ⟨(some 13), none, .conv .i64 (.t 12)⟩,
 ⟨(some 2), none, .mov (.t 13)⟩] [2])
 .ret))),
 [.tmp 2]⟩

/-- math/bits.TrailingZeros64 -/
noncomputable def sf119 : SFun := ⟨[0, 2, 4], 14,
 (.seq
 (.ops [
 ⟨(some 2), none, .mov (.c (.int .i64 0))⟩] [2])
 (.seq
 (.seq
 (.ops [
 ⟨(some 3), none, .mov (.t 0)⟩,
 ⟨(some 4), none, .bin .eql .no (.t 3) (.c (.int .u64 0))⟩] [4])
 (.cond (.t 4)
 (.seq
 (.ops [
 ⟨(some 2), none, .mov (.c (.int .i64 64))⟩] [2])
 .ret)
 .skip))
 (.seq
 (.ops [
 ⟨(some 5), none, .mov (.t 0)⟩,
 ⟨(some 6), none, .mov (.t 0)⟩,
 ⟨(some 7), none, .neg (.t 6)⟩,
 ⟨(some 8), none, .bin .and .no (.t 5) (.t 7)⟩,
 ⟨(some 9), none, .bin .mul .no (.t 8) (.c (.int .u64 285870213051353865))⟩,
 ⟨(some 10), none, .bin .shr .no (.t 9) (.c (.int .u64 58))⟩,
 ⟨(some 11), none, .ixA 64 1 (.c .any) (.t 10)⟩,
 ⟨(some 12), none, .load none (.t 11)⟩,
 ⟨(some 13), none, .conv .i64 (.t 12)⟩,
 ⟨(some 2), none, .mov (.t 13)⟩] [2])
 .ret))),
 [.tmp 2]⟩

/-- internal/stringslite.IndexByte -/
noncomputable def sf120 : SFun := ⟨[0, 1, 4], 8,
 (.seq
 (.ops [
 ⟨(some 4), none, .mov (.c (.int .i64 0))⟩] [4])
 (.seq
 (.ops [
 ⟨(some 5), none, .mov (.t 0)⟩,
 ⟨(some 6), none, .mov (.t 1)⟩,
 ⟨(some 7), none, .call (.c (.fn (.func 121) [] [])) [(.t 5), (.t 6)]⟩,
 ⟨(some 4), none, .mov (.t 7)⟩] [4])
 .ret)),
 [.tmp 4]⟩

/-- gosem.cut.vars -/
noncomputable def sf145 : SFun := ⟨[], 9,
 (.seq
 (.ops [
 ⟨(some 0), none, .buildA [(.int .u8 0), (.int .u8 0), (.int .u8 0), (.int .u8 0), (.int .u8 0), (.int .u8 0), (.int .u8 0), (.int .u8 0), (.int .u8 0), (.int .u8 0), (.int .u8 0), (.int .u8 0), (.int .u8 0), (.int .u8 0), (.int .u8 0), (.int .u8 0), (.int .u8 0), (.int .u8 0), (.int .u8 0), (.int .u8 0), (.int .u8 0), (.int .u8 0), (.int .u8 0), (.int .u8 0), (.int .u8 0), (.int .u8 0), (.int .u8 0), (.int .u8 0), (.int .u8 0), (.int .u8 0), (.int .u8 0), (.int .u8 0)] 1 [(0, (.c (.int .u8 0))), (1, (.c (.int .u8 1))), (2, (.c (.int .u8 28))), (3, (.c (.int .u8 2))), (4, (.c (.int .u8 29))), (5, (.c (.int .u8 14))), (6, (.c (.int .u8 24))), (7, (.c (.int .u8 3))), (8, (.c (.int .u8 30))), (9, (.c (.int .u8 22))), (10, (.c (.int .u8 20))), (11, (.c (.int .u8 15))), (12, (.c (.int .u8 25))), (13, (.c (.int .u8 17))), (14, (.c (.int .u8 4))), (15, (.c (.int .u8 8))), (16, (.c (.int .u8 31))), (17, (.c (.int .u8 27))), (18, (.c (.int .u8 13))), (19, (.c (.int .u8 23))), (20, (.c (.int .u8 21))), (21, (.c (.int .u8 19))), (22, (.c (.int .u8 16))), (23, (.c (.int .u8 7))), (24, (.c (.int .u8 26))), (25, (.c (.int .u8 12))), (26, (.c (.int .u8 18))), (27, (.c (.int .u8 6))), (28, (.c (.int .u8 11))), (29, (.c (.int .u8 5))), (30, (.c (.int .u8 10))), (31, (.c (.int .u8 9)))]⟩,
 ⟨none, none, .store 32 (.c .any) (.t 0)⟩] [])
 (.seq
 (.ops [
 ⟨(some 1), none, .buildA [(.int .u8 0), (.int .u8 0), (.int .u8 0), (.int .u8 0), (.int .u8 0), (.int .u8 0), (.int .u8 0), (.int .u8 0), (.int .u8 0), (.int .u8 0), (.int .u8 0), (.int .u8 0), (.int .u8 0), (.int .u8 0), (.int .u8 0), (.int .u8 0), (.int .u8 0), (.int .u8 0), (.int .u8 0), (.int .u8 0), (.int .u8 0), (.int .u8 0), (.int .u8 0), (.int .u8 0), (.int .u8 0), (.int .u8 0), (.int .u8 0), (.int .u8 0), (.int .u8 0), (.int .u8 0), (.int .u8 0), (.int .u8 0), (.int .u8 0), (.int .u8 0), (.int .u8 0), (.int .u8 0), (.int .u8 0), (.int .u8 0), (.int .u8 0), (.int .u8 0), (.int .u8 0), (.int .u8 0), (.int .u8 0), (.int .u8 0), (.int .u8 0), (.int .u8 0), (.int .u8 0), (.int .u8 0), (.int .u8 0), (.int .u8 0), (.int .u8 0), (.int .u8 0), (.int .u8 0), (.int .u8 0), (.int .u8 0), (.int .u8 0), (.int .u8 0), (.int .u8 0), (.int .u8 0), (.int .u8 0), (.int .u8 0), (.int .u8 0), (.int .u8 0), (.int .u8 0)] 1 [(0, (.c (.int .u8 0))), (1, (.c (.int .u8 1))), (2, (.c (.int .u8 56))), (3, (.c (.int .u8 2))), (4, (.c (.int .u8 57))), (5, (.c (.int .u8 49))), (6, (.c (.int .u8 28))), (7, (.c (.int .u8 3))), (8, (.c (.int .u8 61))), (9, (.c (.int .u8 58))), (10, (.c (.int .u8 42))), (11, (.c (.int .u8 50))), (12, (.c (.int .u8 38))), (13, (.c (.int .u8 29))), (14, (.c (.int .u8 17))), (15, (.c (.int .u8 4))), (16, (.c (.int .u8 62))), (17, (.c (.int .u8 47))), (18, (.c (.int .u8 59))), (19, (.c (.int .u8 36))), (20, (.c (.int .u8 45))), (21, (.c (.int .u8 43))), (22, (.c (.int .u8 51))), (23, (.c (.int .u8 22))), (24, (.c (.int .u8 53))), (25, (.c (.int .u8 39))), (26, (.c (.int .u8 33))), (27, (.c (.int .u8 30))), (28, (.c (.int .u8 24))), (29, (.c (.int .u8 18))), (30, (.c (.int .u8 12))), (31, (.c (.int .u8 5))), (32, (.c (.int .u8 63))), (33, (.c (.int .u8 55))), (34, (.c (.int .u8 48))), (35, (.c (.int .u8 27))), (36, (.c (.int .u8 60))), (37, (.c (.int .u8 41))), (38, (.c (.int .u8 37))), (39, (.c (.int .u8 16))), (40, (.c (.int .u8 46))), (41, (.c (.int .u8 35))), (42, (.c (.int .u8 44))), (43, (.c (.int .u8 21))), (44, (.c (.int .u8 52))), (45, (.c (.int .u8 32))), (46, (.c (.int .u8 23))), (47, (.c (.int .u8 11))), (48, (.c (.int .u8 54))), (49, (.c (.int .u8 26))), (50, (.c (.int .u8 40))), (51, (.c (.int .u8 15))), (52, (.c (.int .u8 34))), (53, (.c (.int .u8 20))), (54, (.c (.int .u8 31))), (55, (.c (.int .u8 10))), (56, (.c (.int .u8 25))), (57, (.c (.int .u8 14))), (58, (.c (.int .u8 19))), (59, (.c (.int .u8 9))), (60, (.c (.int .u8 13))), (61, (.c (.int .u8 8))), (62, (.c (.int .u8 7))), (63, (.c (.int .u8 6)))]⟩,
 ⟨none, none, .store 64 (.c .any) (.t 1)⟩] [])
 (.seq
 (.ops [
 ⟨(some 2), none, .buildA [(.int .u64 0), (.int .u64 0), (.int .u64 0), (.int .u64 0), (.int .u64 0), (.int .u64 0), (.int .u64 0), (.int .u64 0), (.int .u64 0), (.int .u64 0), (.int .u64 0), (.int .u64 0), (.int .u64 0), (.int .u64 0), (.int .u64 0), (.int .u64 0), (.int .u64 0), (.int .u64 0), (.int .u64 0), (.int .u64 0)] 1 [(0, (.c (.int .u64 1))), (1, (.c (.int .u64 10))), (2, (.c (.int .u64 100))), (3, (.c (.int .u64 1000))), (4, (.c (.int .u64 10000))), (5, (.c (.int .u64 100000))), (6, (.c (.int .u64 1000000))), (7, (.c (.int .u64 10000000))), (8, (.c (.int .u64 100000000))), (9, (.c (.int .u64 1000000000))), (10, (.c (.int .u64 10000000000))), (11, (.c (.int .u64 100000000000))), (12, (.c (.int .u64 1000000000000))), (13, (.c (.int .u64 10000000000000))), (14, (.c (.int .u64 100000000000000))), (15, (.c (.int .u64 1000000000000000))), (16, (.c (.int .u64 10000000000000000))), (17, (.c (.int .u64 100000000000000000))), (18, (.c (.int .u64 1000000000000000000))), (19, (.c (.int .u64 10000000000000000000)))]⟩,
 ⟨none, none, .store 20 (.c .any) (.t 2)⟩] [])
 (.ops [
 ⟨(some 3), none, .build [(.int .u8 0), (.int .u8 0)] [(0, 1), (1, 1)] [(0, (.c (.int .u8 128))), (1, (.c (.int .u8 191)))]⟩,
 ⟨(some 4), none, .build [(.int .u8 0), (.int .u8 0)] [(0, 1), (1, 1)] [(0, (.c (.int .u8 160))), (1, (.c (.int .u8 191)))]⟩,
 ⟨(some 5), none, .build [(.int .u8 0), (.int .u8 0)] [(0, 1), (1, 1)] [(0, (.c (.int .u8 128))), (1, (.c (.int .u8 159)))]⟩,
 ⟨(some 6), none, .build [(.int .u8 0), (.int .u8 0)] [(0, 1), (1, 1)] [(0, (.c (.int .u8 144))), (1, (.c (.int .u8 191)))]⟩,
 ⟨(some 7), none, .build [(.int .u8 0), (.int .u8 0)] [(0, 1), (1, 1)] [(0, (.c (.int .u8 128))), (1, (.c (.int .u8 143)))]⟩,
 ⟨(some 8), none, .buildA [(.int .u8 0), (.int .u8 0), (.int .u8 0), (.int .u8 0), (.int .u8 0), (.int .u8 0), (.int .u8 0), (.int .u8 0), (.int .u8 0), (.int .u8 0), (.int .u8 0), (.int .u8 0), (.int .u8 0), (.int .u8 0), (.int .u8 0), (.int .u8 0), (.int .u8 0), (.int .u8 0), (.int .u8 0), (.int .u8 0), (.int .u8 0), (.int .u8 0), (.int .u8 0), (.int .u8 0), (.int .u8 0), (.int .u8 0), (.int .u8 0), (.int .u8 0), (.int .u8 0), (.int .u8 0), (.int .u8 0), (.int .u8 0)] 2 [(0, (.t 3)), (1, (.t 4)), (2, (.t 5)), (3, (.t 6)), (4, (.t 7))]⟩,
 ⟨none, none, .store 32 (.c .any) (.t 8)⟩] [])))),
 []⟩


end Go.Proofs.YtelalpohbodolaaDoor
