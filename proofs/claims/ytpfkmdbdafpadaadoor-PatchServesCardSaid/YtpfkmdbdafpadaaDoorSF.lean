/- The program's functions, compiled. -/
import Derived.Test.YtpfkmdbdafpadaaDoorRows
import Derived.Test.YtpfkmdbdafpadaaDoorSA
import Derived.KernelRfl
set_option linter.unusedVariables false
set_option maxRecDepth 100000
namespace Go.Proofs.YtpfkmdbdafpadaaDoor
open Go Go.Abs
/-- gosem.cut.init -/
noncomputable def sf2 : SFun := ⟨[], 1,
 (.ops [
 ⟨(some 0), none, .call (.c (.fn (.func 1) [] [])) []⟩] []),
 []⟩

/-- bellpull/patch.Serve -/
noncomputable def sf6 : SFun := ⟨[0, 1, 2, 3, 4, 5, 8, 9, 10, 11, 15, 21], 30,
 (.seq
 (.ops [
 ⟨(some 4), none, .box (.t 0)⟩,
 ⟨(some 5), none, .box (.t 1)⟩,
 ⟨(some 8), none, .mov (.c .nilsl)⟩,
 ⟨(some 9), none, .mov (.c (.int .i64 0))⟩] [4, 5, 8, 9])
 (.seq
 (.block 0
 (.seq
 (.ops [
 ⟨(some 12), none, .mov (.t 3)⟩,
 ⟨(some 13), none, .lenS (.t 12)⟩,
 ⟨(some 14), none, .bin .gtr .no (.t 13) (.c (.int .i64 100))⟩,
 ⟨(some 11), none, .mov (.t 14)⟩] [11])
 (.cond (.t 11)
 (.seq
 (.ops [
 ⟨(some 8), none, .mov (.c .nilsl)⟩,
 ⟨(some 9), none, .mov (.c (.int .i64 3))⟩] [8, 9])
 .ret)
 (.seq
 (.ops [
 ⟨(some 16), none, .load none (.t 4)⟩,
 ⟨(some 17), none, .load none (.t 5)⟩,
 ⟨(some 18), none, .mov (.t 2)⟩,
 ⟨(some 19), none, .call (.c (.fn (.func 15) [] [])) [(.t 16), (.t 17), (.t 18)]⟩,
 ⟨(some 20), none, .not (.t 19)⟩,
 ⟨(some 15), none, .mov (.t 20)⟩] [15])
 (.cond (.t 15)
 (.seq
 (.ops [
 ⟨(some 8), none, .mov (.c .nilsl)⟩,
 ⟨(some 9), none, .mov (.c (.int .i64 1))⟩] [8, 9])
 .ret)
 (.seq
 (.ops [
 ⟨(some 22), none, .mov (.t 3)⟩,
 ⟨(some 23), none, .mkf 17 [] [(.t 4), (.t 5)]⟩,
 ⟨(some 24), none, .call (.c (.fn (.func 16) [] [])) [(.t 22), (.t 23)]⟩,
 ⟨(some 21), none, .mov (.t 24)⟩] [21])
 (.cond (.t 21)
 (.seq
 (.ops [
 ⟨(some 8), none, .mov (.c .nilsl)⟩,
 ⟨(some 9), none, .mov (.c (.int .i64 2))⟩] [8, 9])
 .ret)
 .skip)))))))
 (.seq
 (.ops [
 ⟨(some 25), none, .load none (.t 4)⟩,
 ⟨(some 26), none, .mov (.t 2)⟩,
 ⟨(some 27), none, .build [(.int .i64 0), (.int .i64 0), .nilsl, .nilsl] [(0, 1), (1, 1), (2, 1), (3, 1)] [(0, (.t 25)), (1, (.t 26))]⟩,
 ⟨(some 10), none, .new [(.int .i64 0), (.int .i64 0), .nilsl, .nilsl]⟩,
 ⟨none, none, .store 4 (.t 10) (.t 27)⟩] [10])
 (.seq
 (.ops [
 ⟨(some 28), none, .mov (.t 3)⟩,
 ⟨(some 29), none, .call (.c (.fn (.func 19) [] [])) [(.t 10), (.t 28)]⟩,
 ⟨(some 8), none, .mov (.t 29)⟩,
 ⟨(some 9), none, .mov (.c (.int .i64 0))⟩] [8, 9])
 .ret)))),
 [.tmp 8, .tmp 9]⟩

/-- bellpull/bellpullref06.Clos -/
noncomputable def sf7 : SFun := ⟨[0, 1, 2, 6], 23,
 (.seq
 (.ops [
 ⟨(some 6), none, .mov (.c (.bool false))⟩] [6])
 (.seq
 (.ops [
 ⟨(some 7), none, .mov (.t 0)⟩,
 ⟨(some 8), none, .call (.c (.fn (.func 8) [] [])) [(.t 7), (.c (.int .i64 1)), (.c (.int .i64 12))]⟩,
 ⟨(some 9), none, .mov (.t 8)⟩,
 ⟨(some 10), (some (9, true)), .mov (.t 1)⟩,
 ⟨(some 11), (some (9, true)), .call (.c (.fn (.func 8) [] [])) [(.t 10), (.c (.int .i64 1)), (.c (.int .i64 12))]⟩,
 ⟨(some 12), none, .pick (.t 9) (.t 11) (.c (.bool false))⟩,
 ⟨(some 13), none, .mov (.t 12)⟩,
 ⟨(some 14), (some (13, true)), .mov (.t 0)⟩,
 ⟨(some 15), (some (13, true)), .mov (.t 1)⟩,
 ⟨(some 16), (some (13, true)), .bin .mul .no (.t 14) (.t 15)⟩,
 ⟨(some 17), (some (13, true)), .bin .leq .no (.t 16) (.c (.int .i64 12))⟩,
 ⟨(some 18), none, .pick (.t 13) (.t 17) (.c (.bool false))⟩,
 ⟨(some 19), none, .mov (.t 18)⟩,
 ⟨(some 20), (some (19, true)), .mov (.t 2)⟩,
 ⟨(some 21), (some (19, true)), .call (.c (.fn (.func 8) [] [])) [(.t 20), (.c (.int .i64 1)), (.c (.int .i64 12))]⟩,
 ⟨(some 22), none, .pick (.t 19) (.t 21) (.c (.bool false))⟩,
 ⟨(some 6), none, .mov (.t 22)⟩] [6])
 .ret)),
 [.tmp 6]⟩

/-- bellpull/bellpullref01.In -/
noncomputable def sf8 : SFun := ⟨[0, 1, 2, 6], 15,
 (.seq
 (.ops [
 ⟨(some 6), none, .mov (.c (.bool false))⟩] [6])
 (.seq
 (.ops [
 ⟨(some 7), none, .mov (.t 0)⟩,
 ⟨(some 8), none, .mov (.t 1)⟩,
 ⟨(some 9), none, .bin .geq .no (.t 7) (.t 8)⟩,
 ⟨(some 10), none, .mov (.t 9)⟩,
 ⟨(some 11), (some (10, true)), .mov (.t 0)⟩,
 ⟨(some 12), (some (10, true)), .mov (.t 2)⟩,
 ⟨(some 13), (some (10, true)), .bin .leq .no (.t 11) (.t 12)⟩,
 ⟨(some 14), none, .pick (.t 10) (.t 13) (.c (.bool false))⟩,
 ⟨(some 6), none, .mov (.t 14)⟩] [6])
 .ret)),
 [.tmp 6]⟩

/-- bellpull/bellpulllaw06.lives -/
noncomputable def sf9 : SFun := ⟨[0, 1, 2, 3, 4, 5, 6, 7, 8, 9, 10, 11, 12], 92,
 (.seq
 (.ops [
 ⟨(some 0), none, .mov (.c (.bool false))⟩] [0])
 (.seq
 (.ops [
 ⟨(some 14), none, .buildS [(.int .i64 0)] 4 1 [(0, (.c (.int .i64 2))), (1, (.c (.int .i64 0))), (2, (.c (.int .i64 1))), (3, (.c (.int .i64 3)))]⟩,
 ⟨(some 15), none, .call (.c (.fn (.func 20) [] [])) [(.c (.int .i64 2)), (.c (.int .i64 2)), (.c (.int .i64 2)), (.t 14)]⟩,
 ⟨(some 13), none, .mov (.t 15)⟩,
 ⟨(some 16), none, .ext (.t 13) 0⟩,
 ⟨(some 17), none, .ext (.t 13) 1⟩,
 ⟨(some 1), none, .mov (.t 16)⟩,
 ⟨(some 2), none, .mov (.t 17)⟩] [1, 2])
 (.seq
 (.ops [
 ⟨(some 19), none, .call (.c (.fn (.func 13) [] [])) [(.c (.int .i64 2)), (.c (.int .i64 2)), (.c (.int .i64 2))]⟩,
 ⟨(some 18), none, .mov (.t 19)⟩,
 ⟨(some 20), none, .ext (.t 18) 0⟩,
 ⟨(some 21), none, .ext (.t 18) 1⟩,
 ⟨(some 3), none, .mov (.t 20)⟩,
 ⟨(some 4), none, .mov (.t 21)⟩] [3, 4])
 (.seq
 (.ops [
 ⟨(some 23), none, .call (.c (.fn (.func 21) [] [])) [(.c (.int .i64 2)), (.c (.str [48, 48, 48, 48, 48, 48]))]⟩,
 ⟨(some 22), none, .mov (.t 23)⟩,
 ⟨(some 24), none, .ext (.t 22) 0⟩,
 ⟨(some 25), none, .ext (.t 22) 1⟩,
 ⟨(some 5), none, .mov (.t 24)⟩,
 ⟨(some 6), none, .mov (.t 25)⟩] [5, 6])
 (.seq
 (.ops [
 ⟨(some 27), none, .buildS [(.int .i64 0)] 4 1 [(0, (.c (.int .i64 0))), (1, (.c (.int .i64 1))), (2, (.c (.int .i64 2))), (3, (.c (.int .i64 3)))]⟩,
 ⟨(some 28), none, .call (.c (.fn (.func 22) [] [])) [(.c (.int .i64 2)), (.t 27)]⟩,
 ⟨(some 26), none, .mov (.t 28)⟩,
 ⟨(some 29), none, .ext (.t 26) 0⟩,
 ⟨(some 30), none, .ext (.t 26) 1⟩,
 ⟨(some 7), none, .mov (.t 29)⟩,
 ⟨(some 8), none, .mov (.t 30)⟩] [7, 8])
 (.seq
 (.ops [
 ⟨(some 32), none, .call (.c (.fn (.func 23) [] [])) [(.c (.int .i64 3))]⟩,
 ⟨(some 31), none, .mov (.t 32)⟩,
 ⟨(some 33), none, .ext (.t 31) 0⟩,
 ⟨(some 34), none, .ext (.t 31) 1⟩,
 ⟨(some 9), none, .mov (.t 33)⟩,
 ⟨(some 10), none, .mov (.t 34)⟩] [9, 10])
 (.seq
 (.ops [
 ⟨(some 36), none, .build [(.int .i64 0), (.int .i64 0)] [(0, 1), (1, 1)] [(0, (.c (.int .i64 0))), (1, (.c (.int .i64 0)))]⟩,
 ⟨(some 37), none, .build [(.int .i64 0), (.int .i64 0)] [(0, 1), (1, 1)] [(0, (.c (.int .i64 0))), (1, (.c (.int .i64 0)))]⟩,
 ⟨(some 38), none, .build [(.int .i64 0), (.int .i64 0)] [(0, 1), (1, 1)] [(0, (.c (.int .i64 1))), (1, (.c (.int .i64 1)))]⟩,
 ⟨(some 39), none, .buildS [(.int .i64 0), (.int .i64 0)] 3 2 [(0, (.t 36)), (1, (.t 37)), (2, (.t 38))]⟩,
 ⟨(some 40), none, .call (.c (.fn (.func 24) [] [])) [(.c (.int .i64 2)), (.c (.int .i64 2)), (.t 39)]⟩,
 ⟨(some 35), none, .mov (.t 40)⟩,
 ⟨(some 41), none, .ext (.t 35) 0⟩,
 ⟨(some 42), none, .ext (.t 35) 1⟩,
 ⟨(some 11), none, .mov (.t 41)⟩,
 ⟨(some 12), none, .mov (.t 42)⟩] [11, 12])
 (.seq
 (.ops [
 ⟨(some 43), none, .mov (.t 1)⟩,
 ⟨(some 44), none, .buildS [(.int .i64 0)] 4 1 [(0, (.c (.int .i64 0))), (1, (.c (.int .i64 1))), (2, (.c (.int .i64 0))), (3, (.c (.int .i64 1)))]⟩,
 ⟨(some 45), none, .call (.c (.fn (.func 10) [] [])) [(.t 43), (.t 44)]⟩,
 ⟨(some 46), none, .mov (.t 45)⟩,
 ⟨(some 47), (some (46, true)), .mov (.t 2)⟩,
 ⟨(some 48), (some (46, true)), .bin .eql .no (.t 47) (.c (.int .i64 0))⟩,
 ⟨(some 49), none, .pick (.t 46) (.t 48) (.c (.bool false))⟩,
 ⟨(some 50), none, .mov (.t 49)⟩,
 ⟨(some 51), (some (50, true)), .mov (.t 3)⟩,
 ⟨(some 52), (some (50, true)), .not (.t 51)⟩,
 ⟨(some 53), none, .pick (.t 50) (.t 52) (.c (.bool false))⟩,
 ⟨(some 54), none, .mov (.t 53)⟩,
 ⟨(some 55), (some (54, true)), .mov (.t 4)⟩,
 ⟨(some 56), (some (54, true)), .bin .eql .no (.t 55) (.c (.int .i64 0))⟩,
 ⟨(some 57), none, .pick (.t 54) (.t 56) (.c (.bool false))⟩,
 ⟨(some 58), none, .mov (.t 57)⟩,
 ⟨(some 59), (some (58, true)), .mov (.t 5)⟩,
 ⟨(some 60), (some (58, true)), .buildS [(.int .i64 0)] 4 1 [(0, (.c (.int .i64 0))), (1, (.c (.int .i64 1))), (2, (.c (.int .i64 2))), (3, (.c (.int .i64 3)))]⟩,
 ⟨(some 61), (some (58, true)), .call (.c (.fn (.func 10) [] [])) [(.t 59), (.t 60)]⟩,
 ⟨(some 62), none, .pick (.t 58) (.t 61) (.c (.bool false))⟩,
 ⟨(some 63), none, .mov (.t 62)⟩,
 ⟨(some 64), (some (63, true)), .mov (.t 6)⟩,
 ⟨(some 65), (some (63, true)), .bin .eql .no (.t 64) (.c (.int .i64 0))⟩,
 ⟨(some 66), none, .pick (.t 63) (.t 65) (.c (.bool false))⟩,
 ⟨(some 67), none, .mov (.t 66)⟩,
 ⟨(some 68), (some (67, true)), .mov (.t 7)⟩,
 ⟨(some 69), (some (67, true)), .bin .eql .no (.t 68) (.c (.int .i64 4))⟩,
 ⟨(some 70), none, .pick (.t 67) (.t 69) (.c (.bool false))⟩,
 ⟨(some 71), none, .mov (.t 70)⟩,
 ⟨(some 72), (some (71, true)), .mov (.t 8)⟩,
 ⟨(some 73), (some (71, true)), .bin .eql .no (.t 72) (.c (.int .i64 0))⟩,
 ⟨(some 74), none, .pick (.t 71) (.t 73) (.c (.bool false))⟩,
 ⟨(some 75), none, .mov (.t 74)⟩,
 ⟨(some 76), (some (75, true)), .mov (.t 9)⟩,
 ⟨(some 77), (some (75, true)), .bin .eql .no (.t 76) (.c (.int .i64 17))⟩,
 ⟨(some 78), none, .pick (.t 75) (.t 77) (.c (.bool false))⟩,
 ⟨(some 79), none, .mov (.t 78)⟩,
 ⟨(some 80), (some (79, true)), .mov (.t 10)⟩,
 ⟨(some 81), (some (79, true)), .bin .eql .no (.t 80) (.c (.int .i64 0))⟩,
 ⟨(some 82), none, .pick (.t 79) (.t 81) (.c (.bool false))⟩,
 ⟨(some 83), none, .mov (.t 82)⟩,
 ⟨(some 84), (some (83, true)), .mov (.t 11)⟩,
 ⟨(some 85), (some (83, true)), .buildS [(.int .i64 0)] 3 1 [(0, (.c (.int .i64 0))), (1, (.c (.int .i64 1))), (2, (.c (.int .i64 0)))]⟩,
 ⟨(some 86), (some (83, true)), .call (.c (.fn (.func 10) [] [])) [(.t 84), (.t 85)]⟩,
 ⟨(some 87), none, .pick (.t 83) (.t 86) (.c (.bool false))⟩,
 ⟨(some 88), none, .mov (.t 87)⟩,
 ⟨(some 89), (some (88, true)), .mov (.t 12)⟩,
 ⟨(some 90), (some (88, true)), .bin .eql .no (.t 89) (.c (.int .i64 0))⟩,
 ⟨(some 91), none, .pick (.t 88) (.t 90) (.c (.bool false))⟩,
 ⟨(some 0), none, .mov (.t 91)⟩] [0])
 .ret)))))))),
 [.tmp 0]⟩

/-- bellpull/bellpullref01.Same -/
noncomputable def sf10 : SFun := ⟨[0, 1, 4], 15,
 (.seq
 (.ops [
 ⟨(some 4), none, .mov (.c (.bool false))⟩] [4])
 (.seq
 (.ops [
 ⟨(some 5), none, .mov (.t 0)⟩,
 ⟨(some 6), none, .mov (.t 1)⟩,
 ⟨(some 7), none, .call (.c (.fn (.func 25) [] [])) [(.t 5), (.t 6)]⟩,
 ⟨(some 8), none, .not (.t 7)⟩,
 ⟨(some 9), none, .mov (.t 8)⟩,
 ⟨(some 10), (some (9, true)), .mov (.t 1)⟩,
 ⟨(some 11), (some (9, true)), .mov (.t 0)⟩,
 ⟨(some 12), (some (9, true)), .call (.c (.fn (.func 25) [] [])) [(.t 10), (.t 11)]⟩,
 ⟨(some 13), (some (9, true)), .not (.t 12)⟩,
 ⟨(some 14), none, .pick (.t 9) (.t 13) (.c (.bool false))⟩,
 ⟨(some 4), none, .mov (.t 14)⟩] [4])
 .ret)),
 [.tmp 4]⟩

/-- bellpull/bellpullref06.Serve -/
noncomputable def sf11 : SFun := ⟨[0, 1, 2, 6, 7, 8, 9, 10, 11, 12, 13, 14, 15, 16, 17, 23, 35, 46, 87, 95, 102, 109, 121, 140], 163,
 (.seq
 (.ops [
 ⟨(some 6), none, .mov (.c .nilsl)⟩] [6])
 (.seq
 (.ops [
 ⟨(some 18), none, .buildS [(.int .i64 0), (.int .i64 0), (.int .i64 0)] 0 3 []⟩,
 ⟨(some 19), none, .buildS [(.int .i64 0)] 0 1 []⟩,
 ⟨(some 7), none, .mov (.t 18)⟩,
 ⟨(some 8), none, .mov (.t 19)⟩] [7, 8])
 (.seq
 (.seq
 (.ops [
 ⟨(some 9), none, .mov (.c (.int .i64 0))⟩] [9])
 (.block 0
 (.loop
 (.seq
 (.seq
 (.ops [
 ⟨(some 20), none, .mov (.t 9)⟩,
 ⟨(some 21), none, .mov (.t 2)⟩,
 ⟨(some 22), none, .lenS (.t 21)⟩,
 ⟨(some 23), none, .bin .lss .no (.t 20) (.t 22)⟩] [23])
 (.cond (.t 23)
 .skip
 (.exit 0)))
 (.seq
 (.block 1
 (.seq
 (.ops [
 ⟨(some 26), none, .mov (.t 2)⟩,
 ⟨(some 27), none, .mov (.t 9)⟩,
 ⟨(some 28), none, .ixS 2 (.t 26) (.t 27)⟩,
 ⟨(some 29), none, .load (some 2) (.t 28)⟩,
 ⟨(some 10), none, .new [(.int .i64 0), (.int .i64 0)]⟩,
 ⟨none, none, .store 2 (.t 10) (.t 29)⟩,
 ⟨(some 11), none, .mov (.c (.int .i64 (-1)))⟩] [10, 11])
 (.seq
 (.ops [
 ⟨(some 30), none, .mov (.t 1)⟩,
 ⟨(some 31), none, .mks [(.bool false)] 1 (.t 30) (.t 30)⟩,
 ⟨(some 12), none, .mov (.t 31)⟩] [12])
 (.seq
 (.ops [
 ⟨(some 13), none, .mov (.c (.bool false))⟩] [13])
 (.seq
 (.seq
 (.ops [
 ⟨(some 14), none, .mov (.c (.int .i64 0))⟩] [14])
 (.block 2
 (.loop
 (.seq
 (.seq
 (.ops [
 ⟨(some 32), none, .mov (.t 14)⟩,
 ⟨(some 33), none, .mov (.t 7)⟩,
 ⟨(some 34), none, .lenS (.t 33)⟩,
 ⟨(some 35), none, .bin .lss .no (.t 32) (.t 34)⟩] [35])
 (.cond (.t 35)
 .skip
 (.exit 2)))
 (.seq
 (.block 3
 (.seq
 (.ops [
 ⟨(some 38), none, .mov (.t 7)⟩,
 ⟨(some 39), none, .mov (.t 14)⟩,
 ⟨(some 40), none, .ixS 3 (.t 38) (.t 39)⟩,
 ⟨(some 41), none, .load (some 3) (.t 40)⟩,
 ⟨(some 15), none, .new [(.int .i64 0), (.int .i64 0), (.int .i64 0)]⟩,
 ⟨none, none, .store 3 (.t 15) (.t 41)⟩] [15])
 (.seq
 (.seq
 (.ops [
 ⟨(some 42), none, .fa 0 (.t 15)⟩,
 ⟨(some 43), none, .load none (.t 42)⟩,
 ⟨(some 44), none, .fa 0 (.t 10)⟩,
 ⟨(some 45), none, .load none (.t 44)⟩,
 ⟨(some 46), none, .bin .eql .no (.t 43) (.t 45)⟩] [46])
 (.cond (.t 46)
 (.ops [
 ⟨(some 47), none, .mov (.t 14)⟩,
 ⟨(some 11), none, .mov (.t 47)⟩] [11])
 .skip))
 (.seq
 (.ops [
 ⟨(some 48), none, .mov (.t 13)⟩,
 ⟨(some 49), none, .mov (.t 48)⟩,
 ⟨(some 50), (some (49, false)), .fa 0 (.t 15)⟩,
 ⟨(some 51), (some (49, false)), .load none (.t 50)⟩,
 ⟨(some 52), (some (49, false)), .fa 0 (.t 10)⟩,
 ⟨(some 53), (some (49, false)), .load none (.t 52)⟩,
 ⟨(some 54), (some (49, false)), .bin .eql .no (.t 51) (.t 53)⟩,
 ⟨(some 55), none, .pick (.t 49) (.c (.bool true)) (.t 54)⟩,
 ⟨(some 56), none, .mov (.t 55)⟩,
 ⟨(some 57), (some (56, false)), .fa 1 (.t 15)⟩,
 ⟨(some 58), (some (56, false)), .load none (.t 57)⟩,
 ⟨(some 59), (some (56, false)), .fa 1 (.t 10)⟩,
 ⟨(some 60), (some (56, false)), .load none (.t 59)⟩,
 ⟨(some 61), (some (56, false)), .bin .eql .no (.t 58) (.t 60)⟩,
 ⟨(some 62), none, .pick (.t 56) (.c (.bool true)) (.t 61)⟩,
 ⟨(some 13), none, .mov (.t 62)⟩] [13])
 (.seq
 (.ops [
 ⟨(some 63), none, .fa 0 (.t 15)⟩,
 ⟨(some 64), none, .load none (.t 63)⟩,
 ⟨(some 65), none, .mov (.t 0)⟩,
 ⟨(some 66), none, .bin .quo .no (.t 64) (.t 65)⟩,
 ⟨(some 67), none, .fa 0 (.t 10)⟩,
 ⟨(some 68), none, .load none (.t 67)⟩,
 ⟨(some 69), none, .mov (.t 0)⟩,
 ⟨(some 70), none, .bin .quo .no (.t 68) (.t 69)⟩,
 ⟨(some 71), none, .bin .eql .no (.t 66) (.t 70)⟩,
 ⟨(some 72), none, .mov (.t 71)⟩,
 ⟨(some 73), (some (72, false)), .fa 1 (.t 10)⟩,
 ⟨(some 74), (some (72, false)), .load none (.t 73)⟩,
 ⟨(some 75), (some (72, false)), .bin .geq .no (.t 74) (.c (.int .i64 0))⟩,
 ⟨(some 76), (some (72, false)), .mov (.t 75)⟩,
 ⟨(some 77), (some (76, true)), .fa 1 (.t 15)⟩,
 ⟨(some 78), (some (76, true)), .load none (.t 77)⟩,
 ⟨(some 79), (some (76, true)), .mov (.t 0)⟩,
 ⟨(some 80), (some (76, true)), .bin .quo .no (.t 78) (.t 79)⟩,
 ⟨(some 81), (some (76, true)), .fa 1 (.t 10)⟩,
 ⟨(some 82), (some (76, true)), .load none (.t 81)⟩,
 ⟨(some 83), (some (76, true)), .mov (.t 0)⟩,
 ⟨(some 84), (some (76, true)), .bin .quo .no (.t 82) (.t 83)⟩,
 ⟨(some 85), (some (76, true)), .bin .eql .no (.t 80) (.t 84)⟩,
 ⟨(some 86), (some (72, false)), .pick (.t 76) (.t 85) (.c (.bool false))⟩,
 ⟨(some 87), none, .pick (.t 72) (.c (.bool true)) (.t 86)⟩] [87])
 (.cond (.t 87)
 (.ops [
 ⟨(some 88), none, .mov (.t 12)⟩,
 ⟨(some 89), none, .fa 2 (.t 15)⟩,
 ⟨(some 90), none, .load none (.t 89)⟩,
 ⟨(some 91), none, .ixS 1 (.t 88) (.t 90)⟩,
 ⟨none, none, .store 1 (.t 91) (.c (.bool true))⟩] [])
 .skip))))))
 (.ops [
 ⟨(some 36), none, .mov (.t 14)⟩,
 ⟨(some 37), none, .bin .add .no (.t 36) (.c (.int .i64 1))⟩,
 ⟨(some 14), none, .mov (.t 37)⟩] [14]))))))
 (.block 4
 (.seq
 (.ops [
 ⟨(some 122), none, .fa 1 (.t 10)⟩,
 ⟨(some 123), none, .load none (.t 122)⟩,
 ⟨(some 124), none, .bin .lss .no (.t 123) (.c (.int .i64 0))⟩,
 ⟨(some 125), none, .mov (.t 124)⟩,
 ⟨(some 126), (some (125, true)), .mov (.t 11)⟩,
 ⟨(some 127), (some (125, true)), .bin .lss .no (.t 126) (.c (.int .i64 0))⟩,
 ⟨(some 128), none, .pick (.t 125) (.t 127) (.c (.bool false))⟩,
 ⟨(some 129), none, .mov (.t 128)⟩,
 ⟨(some 130), (some (129, false)), .fa 1 (.t 10)⟩,
 ⟨(some 131), (some (129, false)), .load none (.t 130)⟩,
 ⟨(some 132), (some (129, false)), .bin .geq .no (.t 131) (.c (.int .i64 0))⟩,
 ⟨(some 133), (some (129, false)), .mov (.t 132)⟩,
 ⟨(some 134), (some (133, true)), .mov (.t 13)⟩,
 ⟨(some 135), (some (129, false)), .pick (.t 133) (.t 134) (.c (.bool false))⟩,
 ⟨(some 136), none, .pick (.t 129) (.c (.bool true)) (.t 135)⟩,
 ⟨(some 121), none, .mov (.t 136)⟩] [121])
 (.cond (.t 121)
 (.ops [
 ⟨(some 137), none, .mov (.t 8)⟩,
 ⟨(some 138), none, .buildS [(.int .i64 0)] 1 1 [(0, (.c (.int .i64 (-2))))]⟩,
 ⟨(some 139), none, .app true 1 (.t 137) (.t 138)⟩,
 ⟨(some 8), none, .mov (.t 139)⟩] [8])
 (.seq
 (.ops [
 ⟨(some 141), none, .fa 1 (.t 10)⟩,
 ⟨(some 142), none, .load none (.t 141)⟩,
 ⟨(some 143), none, .bin .lss .no (.t 142) (.c (.int .i64 0))⟩,
 ⟨(some 140), none, .mov (.t 143)⟩] [140])
 (.cond (.t 140)
 (.seq
 (.ops [
 ⟨(some 144), none, .mov (.t 8)⟩,
 ⟨(some 145), none, .mov (.t 7)⟩,
 ⟨(some 146), none, .mov (.t 11)⟩,
 ⟨(some 147), none, .ixS 3 (.t 145) (.t 146)⟩,
 ⟨(some 148), none, .fa 2 (.t 147)⟩,
 ⟨(some 149), none, .load none (.t 148)⟩,
 ⟨(some 150), none, .buildS [(.int .i64 0)] 1 1 [(0, (.t 149))]⟩,
 ⟨(some 151), none, .app true 1 (.t 144) (.t 150)⟩,
 ⟨(some 8), none, .mov (.t 151)⟩] [8])
 (.ops [
 ⟨(some 152), none, .buildS [(.int .i64 0), (.int .i64 0), (.int .i64 0)] 0 3 []⟩,
 ⟨(some 153), none, .mov (.t 7)⟩,
 ⟨(some 154), none, .mov (.t 11)⟩,
 ⟨(some 155), none, .slice 3 (.t 153) none (some (.t 154))⟩,
 ⟨(some 156), none, .app true 3 (.t 152) (.t 155)⟩,
 ⟨(some 157), none, .mov (.t 7)⟩,
 ⟨(some 158), none, .mov (.t 11)⟩,
 ⟨(some 159), none, .bin .add .no (.t 158) (.c (.int .i64 1))⟩,
 ⟨(some 160), none, .slice 3 (.t 157) (some (.t 159)) none⟩,
 ⟨(some 161), none, .app true 3 (.t 156) (.t 160)⟩,
 ⟨(some 7), none, .mov (.t 161)⟩] [7]))
 (.seq
 (.ops [
 ⟨(some 16), none, .mov (.c (.int .i64 (-1)))⟩] [16])
 (.seq
 (.seq
 (.ops [
 ⟨(some 92), none, .mov (.t 1)⟩,
 ⟨(some 93), none, .bin .sub .no (.t 92) (.c (.int .i64 1))⟩,
 ⟨(some 17), none, .mov (.t 93)⟩] [17])
 (.block 5
 (.loop
 (.seq
 (.seq
 (.ops [
 ⟨(some 94), none, .mov (.t 17)⟩,
 ⟨(some 95), none, .bin .geq .no (.t 94) (.c (.int .i64 0))⟩] [95])
 (.cond (.t 95)
 .skip
 (.exit 5)))
 (.seq
 (.block 6
 (.seq
 (.ops [
 ⟨(some 98), none, .mov (.t 12)⟩,
 ⟨(some 99), none, .mov (.t 17)⟩,
 ⟨(some 100), none, .ixS 1 (.t 98) (.t 99)⟩,
 ⟨(some 101), none, .load none (.t 100)⟩,
 ⟨(some 102), none, .not (.t 101)⟩] [102])
 (.cond (.t 102)
 (.ops [
 ⟨(some 103), none, .mov (.t 17)⟩,
 ⟨(some 16), none, .mov (.t 103)⟩] [16])
 .skip)))
 (.ops [
 ⟨(some 96), none, .mov (.t 17)⟩,
 ⟨(some 97), none, .bin .sub .no (.t 96) (.c (.int .i64 1))⟩,
 ⟨(some 17), none, .mov (.t 97)⟩] [17]))))))
 (.seq
 (.ops [
 ⟨(some 104), none, .mov (.t 8)⟩,
 ⟨(some 105), none, .mov (.t 16)⟩,
 ⟨(some 106), none, .buildS [(.int .i64 0)] 1 1 [(0, (.t 105))]⟩,
 ⟨(some 107), none, .app true 1 (.t 104) (.t 106)⟩,
 ⟨(some 8), none, .mov (.t 107)⟩] [8])
 (.seq
 (.ops [
 ⟨(some 108), none, .mov (.t 16)⟩,
 ⟨(some 109), none, .bin .geq .no (.t 108) (.c (.int .i64 0))⟩] [109])
 (.cond (.t 109)
 (.draw [
 ⟨⟨(some 110), none, .buildS [(.int .i64 0), (.int .i64 0), (.int .i64 0)] 0 3 []⟩, false, true⟩,
 ⟨⟨(some 111), none, .mov (.t 7)⟩, false, false⟩,
 ⟨⟨(some 112), none, .app true 3 (.t 110) (.t 111)⟩, false, true⟩,
 ⟨⟨(some 113), none, .fa 0 (.t 10)⟩, false, false⟩,
 ⟨⟨(some 114), none, .load none (.t 113)⟩, true, false⟩,
 ⟨⟨(some 115), none, .fa 1 (.t 10)⟩, false, false⟩,
 ⟨⟨(some 116), none, .load none (.t 115)⟩, true, false⟩,
 ⟨⟨(some 117), none, .mov (.t 16)⟩, false, false⟩,
 ⟨⟨(some 118), none, .build [(.int .i64 0), (.int .i64 0), (.int .i64 0)] [(0, 1), (1, 1), (2, 1)] [(0, (.t 114)), (1, (.t 116)), (2, (.t 117))]⟩, false, false⟩,
 ⟨⟨(some 119), none, .buildS [(.int .i64 0), (.int .i64 0), (.int .i64 0)] 1 3 [(0, (.t 118))]⟩, false, true⟩,
 ⟨⟨(some 120), none, .app true 3 (.t 112) (.t 119)⟩, false, true⟩,
 ⟨⟨(some 7), none, .mov (.t 120)⟩, false, false⟩] [0, 0, 3, 0, 8, 0, 32, 0, 248, 504, 1023, 2047] [7])
 .skip)))))))))))))))
 (.ops [
 ⟨(some 24), none, .mov (.t 9)⟩,
 ⟨(some 25), none, .bin .add .no (.t 24) (.c (.int .i64 1))⟩,
 ⟨(some 9), none, .mov (.t 25)⟩] [9]))))))
 (.seq
 (.ops [
 ⟨(some 162), none, .mov (.t 8)⟩,
 ⟨(some 6), none, .mov (.t 162)⟩] [6])
 .ret)))),
 [.tmp 6]⟩

/-- bellpull/bellpulllaw06.net -/
noncomputable def sf12 : SFun := ⟨[0, 1, 2, 3, 4, 5], 24,
 (.seq
 (.ops [
 ⟨(some 1), none, .box (.t 0)⟩,
 ⟨(some 2), none, .mov (.c (.int .i64 0))⟩,
 ⟨(some 3), none, .mov (.c (.int .i64 0))⟩,
 ⟨(some 4), none, .mov (.c (.int .i64 0))⟩] [1, 2, 3, 4])
 (.seq
 (.ops [
 ⟨(some 6), none, .ixA 3 1 (.t 1) (.c (.int .i64 0))⟩,
 ⟨(some 7), none, .load none (.t 6)⟩,
 ⟨(some 8), none, .conv .i64 (.t 7)⟩,
 ⟨(some 9), none, .bin .rem .no (.t 8) (.c (.int .i64 12))⟩,
 ⟨(some 10), none, .bin .add .no (.t 9) (.c (.int .i64 1))⟩,
 ⟨(some 5), none, .mov (.t 10)⟩] [5])
 (.seq
 (.ops [
 ⟨(some 11), none, .mov (.t 5)⟩,
 ⟨(some 12), none, .ixA 3 1 (.t 1) (.c (.int .i64 1))⟩,
 ⟨(some 13), none, .load none (.t 12)⟩,
 ⟨(some 14), none, .conv .i64 (.t 13)⟩,
 ⟨(some 15), none, .mov (.t 5)⟩,
 ⟨(some 16), none, .bin .quo .no (.c (.int .i64 12)) (.t 15)⟩,
 ⟨(some 17), none, .bin .rem .no (.t 14) (.t 16)⟩,
 ⟨(some 18), none, .bin .add .no (.t 17) (.c (.int .i64 1))⟩,
 ⟨(some 19), none, .ixA 3 1 (.t 1) (.c (.int .i64 2))⟩,
 ⟨(some 20), none, .load none (.t 19)⟩,
 ⟨(some 21), none, .conv .i64 (.t 20)⟩,
 ⟨(some 22), none, .bin .rem .no (.t 21) (.c (.int .i64 12))⟩,
 ⟨(some 23), none, .bin .add .no (.t 22) (.c (.int .i64 1))⟩,
 ⟨(some 2), none, .mov (.t 11)⟩,
 ⟨(some 3), none, .mov (.t 18)⟩,
 ⟨(some 4), none, .mov (.t 23)⟩] [2, 3, 4])
 .ret))),
 [.tmp 2, .tmp 3, .tmp 4]⟩

/-- bellpull/patch.Strict -/
noncomputable def sf13 : SFun := ⟨[0, 1, 2, 6, 7, 12], 27,
 (.seq
 (.ops [
 ⟨(some 6), none, .mov (.c (.bool false))⟩,
 ⟨(some 7), none, .mov (.c (.int .i64 0))⟩] [6, 7])
 (.seq
 (.seq
 (.ops [
 ⟨(some 8), none, .mov (.t 0)⟩,
 ⟨(some 9), none, .mov (.t 1)⟩,
 ⟨(some 10), none, .mov (.t 2)⟩,
 ⟨(some 11), none, .call (.c (.fn (.func 15) [] [])) [(.t 8), (.t 9), (.t 10)]⟩,
 ⟨(some 12), none, .not (.t 11)⟩] [12])
 (.cond (.t 12)
 (.seq
 (.ops [
 ⟨(some 6), none, .mov (.c (.bool false))⟩,
 ⟨(some 7), none, .mov (.c (.int .i64 1))⟩] [6, 7])
 .ret)
 .skip))
 (.seq
 (.ops [
 ⟨(some 13), none, .mov (.t 2)⟩,
 ⟨(some 14), none, .mov (.t 0)⟩,
 ⟨(some 15), none, .bin .mul .no (.c (.int .i64 2)) (.t 14)⟩,
 ⟨(some 16), none, .bin .sub .no (.t 15) (.c (.int .i64 1))⟩,
 ⟨(some 17), none, .bin .geq .no (.t 13) (.t 16)⟩,
 ⟨(some 18), none, .mov (.t 17)⟩,
 ⟨(some 19), (some (18, false)), .mov (.t 1)⟩,
 ⟨(some 20), (some (18, false)), .bin .eql .no (.t 19) (.c (.int .i64 1))⟩,
 ⟨(some 21), (some (18, false)), .mov (.t 20)⟩,
 ⟨(some 22), (some (21, true)), .mov (.t 2)⟩,
 ⟨(some 23), (some (21, true)), .mov (.t 0)⟩,
 ⟨(some 24), (some (21, true)), .bin .geq .no (.t 22) (.t 23)⟩,
 ⟨(some 25), (some (18, false)), .pick (.t 21) (.t 24) (.c (.bool false))⟩,
 ⟨(some 26), none, .pick (.t 18) (.c (.bool true)) (.t 25)⟩,
 ⟨(some 6), none, .mov (.t 26)⟩,
 ⟨(some 7), none, .mov (.c (.int .i64 0))⟩] [6, 7])
 .ret))),
 [.tmp 6, .tmp 7]⟩

/-- bellpull/bellpullref01.Has -/
noncomputable def sf14 : SFun := ⟨[0, 1, 4, 5, 9, 17], 18,
 (.seq
 (.ops [
 ⟨(some 4), none, .mov (.c (.bool false))⟩] [4])
 (.seq
 (.seq
 (.ops [
 ⟨(some 5), none, .mov (.c (.int .i64 0))⟩] [5])
 (.block 0
 (.loop
 (.seq
 (.seq
 (.ops [
 ⟨(some 6), none, .mov (.t 5)⟩,
 ⟨(some 7), none, .mov (.t 0)⟩,
 ⟨(some 8), none, .lenS (.t 7)⟩,
 ⟨(some 9), none, .bin .lss .no (.t 6) (.t 8)⟩] [9])
 (.cond (.t 9)
 .skip
 (.exit 0)))
 (.seq
 (.block 1
 (.seq
 (.ops [
 ⟨(some 12), none, .mov (.t 0)⟩,
 ⟨(some 13), none, .mov (.t 5)⟩,
 ⟨(some 14), none, .ixS 1 (.t 12) (.t 13)⟩,
 ⟨(some 15), none, .load none (.t 14)⟩,
 ⟨(some 16), none, .mov (.t 1)⟩,
 ⟨(some 17), none, .bin .eql .no (.t 15) (.t 16)⟩] [17])
 (.cond (.t 17)
 (.seq
 (.ops [
 ⟨(some 4), none, .mov (.c (.bool true))⟩] [4])
 .ret)
 .skip)))
 (.ops [
 ⟨(some 10), none, .mov (.t 5)⟩,
 ⟨(some 11), none, .bin .add .no (.t 10) (.c (.int .i64 1))⟩,
 ⟨(some 5), none, .mov (.t 11)⟩] [5]))))))
 (.seq
 (.ops [
 ⟨(some 4), none, .mov (.c (.bool false))⟩] [4])
 .ret))),
 [.tmp 4]⟩

/-- bellpull/patch.isClos -/
noncomputable def sf15 : SFun := ⟨[0, 1, 2, 6], 23,
 (.seq
 (.ops [
 ⟨(some 6), none, .mov (.c (.bool false))⟩] [6])
 (.seq
 (.ops [
 ⟨(some 7), none, .mov (.t 0)⟩,
 ⟨(some 8), none, .call (.c (.fn (.func 26) [] [])) [(.t 7), (.c (.int .i64 1)), (.c (.int .i64 12))]⟩,
 ⟨(some 9), none, .mov (.t 8)⟩,
 ⟨(some 10), (some (9, true)), .mov (.t 1)⟩,
 ⟨(some 11), (some (9, true)), .call (.c (.fn (.func 26) [] [])) [(.t 10), (.c (.int .i64 1)), (.c (.int .i64 12))]⟩,
 ⟨(some 12), none, .pick (.t 9) (.t 11) (.c (.bool false))⟩,
 ⟨(some 13), none, .mov (.t 12)⟩,
 ⟨(some 14), (some (13, true)), .mov (.t 0)⟩,
 ⟨(some 15), (some (13, true)), .mov (.t 1)⟩,
 ⟨(some 16), (some (13, true)), .bin .mul .no (.t 14) (.t 15)⟩,
 ⟨(some 17), (some (13, true)), .bin .leq .no (.t 16) (.c (.int .i64 12))⟩,
 ⟨(some 18), none, .pick (.t 13) (.t 17) (.c (.bool false))⟩,
 ⟨(some 19), none, .mov (.t 18)⟩,
 ⟨(some 20), (some (19, true)), .mov (.t 2)⟩,
 ⟨(some 21), (some (19, true)), .call (.c (.fn (.func 26) [] [])) [(.t 20), (.c (.int .i64 1)), (.c (.int .i64 12))]⟩,
 ⟨(some 22), none, .pick (.t 19) (.t 21) (.c (.bool false))⟩,
 ⟨(some 6), none, .mov (.t 22)⟩] [6])
 .ret)),
 [.tmp 6]⟩

/-- slices.ContainsFunc[[]bellpull/api.Pair,bellpull/api.Pair] -/
noncomputable def sf16 : SFun := ⟨[0, 1, 4], 9,
 (.seq
 (.ops [
 ⟨(some 4), none, .mov (.c (.bool false))⟩] [4])
 (.seq
 (.ops [
 ⟨(some 5), none, .mov (.t 0)⟩,
 ⟨(some 6), none, .mov (.t 1)⟩,
 ⟨(some 7), none, .call (.c (.fn (.func 27) [] [])) [(.t 5), (.t 6)]⟩,
 ⟨(some 8), none, .bin .geq .no (.t 7) (.c (.int .i64 0))⟩,
 ⟨(some 4), none, .mov (.t 8)⟩] [4])
 .ret)),
 [.tmp 4]⟩

/-- bellpull/patch.Serve$1 -/
noncomputable def sf17 : SFun := ⟨[0, 1, 2, 3, 4], 11,
 (.seq
 (.ops [
 ⟨(some 3), none, .box (.t 0)⟩,
 ⟨(some 4), none, .mov (.c (.bool false))⟩] [3, 4])
 (.seq
 (.ops [
 ⟨(some 5), none, .load (some 2) (.t 3)⟩,
 ⟨(some 6), none, .load none (.t 1)⟩,
 ⟨(some 7), none, .load none (.t 2)⟩,
 ⟨(some 8), none, .bin .mul .no (.t 6) (.t 7)⟩,
 ⟨(some 9), none, .call (.c (.fn (.func 18) [] [])) [(.t 5), (.t 8)]⟩,
 ⟨(some 10), none, .not (.t 9)⟩,
 ⟨(some 4), none, .mov (.t 10)⟩] [4])
 .ret)),
 [.tmp 4]⟩

/-- bellpull/patch.isRequest -/
noncomputable def sf18 : SFun := ⟨[0, 1, 2, 4], 22,
 (.seq
 (.ops [
 ⟨(some 2), none, .box (.t 0)⟩,
 ⟨(some 4), none, .mov (.c (.bool false))⟩] [2, 4])
 (.seq
 (.ops [
 ⟨(some 5), none, .fa 0 (.t 2)⟩,
 ⟨(some 6), none, .load none (.t 5)⟩,
 ⟨(some 7), none, .mov (.t 1)⟩,
 ⟨(some 8), none, .bin .sub .no (.t 7) (.c (.int .i64 1))⟩,
 ⟨(some 9), none, .call (.c (.fn (.func 26) [] [])) [(.t 6), (.c (.int .i64 0)), (.t 8)]⟩,
 ⟨(some 10), none, .mov (.t 9)⟩,
 ⟨(some 11), (some (10, true)), .fa 1 (.t 2)⟩,
 ⟨(some 12), (some (10, true)), .load none (.t 11)⟩,
 ⟨(some 13), (some (10, true)), .bin .eql .no (.t 12) (.c (.int .i64 (-1)))⟩,
 ⟨(some 14), (some (10, true)), .mov (.t 13)⟩,
 ⟨(some 15), (some (14, false)), .fa 1 (.t 2)⟩,
 ⟨(some 16), (some (14, false)), .load none (.t 15)⟩,
 ⟨(some 17), (some (14, false)), .mov (.t 1)⟩,
 ⟨(some 18), (some (14, false)), .bin .sub .no (.t 17) (.c (.int .i64 1))⟩,
 ⟨(some 19), (some (14, false)), .call (.c (.fn (.func 26) [] [])) [(.t 16), (.c (.int .i64 0)), (.t 18)]⟩,
 ⟨(some 20), (some (10, true)), .pick (.t 14) (.c (.bool true)) (.t 19)⟩,
 ⟨(some 21), none, .pick (.t 10) (.t 20) (.c (.bool false))⟩,
 ⟨(some 4), none, .mov (.t 21)⟩] [4])
 .ret)),
 [.tmp 4]⟩

/-- (*bellpull/patch.board).serve -/
noncomputable def sf19 : SFun := ⟨[0, 1, 4, 5, 7, 8, 9, 13, 14, 15, 16, 23], 35,
 (.seq
 (.ops [
 ⟨(some 4), none, .mov (.c .nilsl)⟩] [4])
 (.seq
 (.ops [
 ⟨(some 10), none, .mov (.t 1)⟩,
 ⟨(some 11), none, .lenS (.t 10)⟩,
 ⟨(some 12), none, .mks [(.int .i64 0)] 1 (.c (.int .i64 0)) (.t 11)⟩,
 ⟨(some 5), none, .mov (.t 12)⟩] [5])
 (.seq
 (.seq
 (.ops [
 ⟨(some 13), none, .mov (.t 1)⟩,
 ⟨(some 14), none, .lenS (.t 13)⟩,
 ⟨(some 15), none, .mov (.c (.int .i64 0))⟩] [13, 14, 15])
 (.block 0
 (.loop
 (.seq
 (.ops [
 ⟨(some 16), none, .bin .lss .no (.t 15) (.t 14)⟩] [16])
 (.seq
 (.cond (.t 16)
 .skip
 (.exit 0))
 (.seq
 (.block 1
 (.seq
 (.ops [
 ⟨(some 17), none, .ixS 2 (.t 13) (.t 15)⟩,
 ⟨(some 18), none, .load (some 2) (.t 17)⟩,
 ⟨(some 7), none, .new [(.int .i64 0), (.int .i64 0)]⟩,
 ⟨none, none, .store 2 (.t 7) (.t 18)⟩] [7])
 (.seq
 (.ops [
 ⟨(some 19), none, .mov (.t 0)⟩,
 ⟨(some 20), none, .mkf 28 [(.t 19)] []⟩,
 ⟨(some 8), none, .mov (.t 20)⟩] [8])
 (.seq
 (.seq
 (.ops [
 ⟨(some 21), none, .fa 1 (.t 7)⟩,
 ⟨(some 22), none, .load none (.t 21)⟩,
 ⟨(some 23), none, .bin .eql .no (.t 22) (.c (.int .i64 (-1)))⟩] [23])
 (.cond (.t 23)
 (.ops [
 ⟨(some 24), none, .mov (.t 0)⟩,
 ⟨(some 25), none, .mkf 29 [(.t 24)] []⟩,
 ⟨(some 8), none, .mov (.t 25)⟩] [8])
 .skip))
 (.seq
 (.ops [
 ⟨(some 26), none, .mov (.t 8)⟩,
 ⟨(some 27), none, .load (some 2) (.t 7)⟩,
 ⟨(some 28), none, .call (.t 26) [(.t 27)]⟩,
 ⟨(some 9), none, .mov (.t 28)⟩] [9])
 (.ops [
 ⟨(some 29), none, .mov (.t 5)⟩,
 ⟨(some 30), none, .mov (.t 9)⟩,
 ⟨(some 31), none, .buildS [(.int .i64 0)] 1 1 [(0, (.t 30))]⟩,
 ⟨(some 32), none, .app true 1 (.t 29) (.t 31)⟩,
 ⟨(some 5), none, .mov (.t 32)⟩] [5]))))))
 (.ops [
 ⟨(some 33), none, .bin .add .no (.t 15) (.c (.int .i64 1))⟩,
 ⟨(some 15), none, .mov (.t 33)⟩] [15])))))))
 (.seq
 (.ops [
 ⟨(some 34), none, .mov (.t 5)⟩,
 ⟨(some 4), none, .mov (.t 34)⟩] [4])
 .ret)))),
 [.tmp 4]⟩

/-- bellpull/patch.Route -/
noncomputable def sf20 : SFun := ⟨[0, 1, 2, 3, 8, 9, 10, 16, 23], 32,
 (.seq
 (.ops [
 ⟨(some 8), none, .mov (.c .nilsl)⟩,
 ⟨(some 9), none, .mov (.c (.int .i64 0))⟩] [8, 9])
 (.seq
 (.block 0
 (.seq
 (.ops [
 ⟨(some 11), none, .mov (.t 0)⟩,
 ⟨(some 12), none, .mov (.t 1)⟩,
 ⟨(some 13), none, .mov (.t 2)⟩,
 ⟨(some 14), none, .call (.c (.fn (.func 15) [] [])) [(.t 11), (.t 12), (.t 13)]⟩,
 ⟨(some 15), none, .not (.t 14)⟩,
 ⟨(some 10), none, .mov (.t 15)⟩] [10])
 (.cond (.t 10)
 (.seq
 (.ops [
 ⟨(some 8), none, .mov (.c .nilsl)⟩,
 ⟨(some 9), none, .mov (.c (.int .i64 1))⟩] [8, 9])
 .ret)
 (.seq
 (.ops [
 ⟨(some 17), none, .mov (.t 3)⟩,
 ⟨(some 18), none, .mov (.t 0)⟩,
 ⟨(some 19), none, .mov (.t 1)⟩,
 ⟨(some 20), none, .bin .mul .no (.t 18) (.t 19)⟩,
 ⟨(some 21), none, .call (.c (.fn (.func 30) [] [])) [(.t 17), (.t 20)]⟩,
 ⟨(some 22), none, .not (.t 21)⟩,
 ⟨(some 16), none, .mov (.t 22)⟩] [16])
 (.cond (.t 16)
 (.seq
 (.ops [
 ⟨(some 8), none, .mov (.c .nilsl)⟩,
 ⟨(some 9), none, .mov (.c (.int .i64 2))⟩] [8, 9])
 .ret)
 (.seq
 (.ops [
 ⟨(some 24), none, .mov (.t 2)⟩,
 ⟨(some 25), none, .mov (.t 0)⟩,
 ⟨(some 26), none, .bin .lss .no (.t 24) (.t 25)⟩,
 ⟨(some 23), none, .mov (.t 26)⟩] [23])
 (.cond (.t 23)
 (.seq
 (.ops [
 ⟨(some 8), none, .mov (.c .nilsl)⟩,
 ⟨(some 9), none, .mov (.c (.int .i64 5))⟩] [8, 9])
 .ret)
 .skip)))))))
 (.seq
 (.ops [
 ⟨(some 27), none, .mov (.t 0)⟩,
 ⟨(some 28), none, .mov (.t 3)⟩,
 ⟨(some 29), none, .call (.c (.fn (.func 32) [] [])) [(.t 27), (.t 28)]⟩,
 ⟨(some 30), none, .mov (.t 2)⟩,
 ⟨(some 31), none, .call (.c (.fn (.func 31) [] [])) [(.t 29), (.t 30)]⟩,
 ⟨(some 8), none, .mov (.t 31)⟩,
 ⟨(some 9), none, .mov (.c (.int .i64 0))⟩] [8, 9])
 .ret))),
 [.tmp 8, .tmp 9]⟩

/-- bellpull/patch.Apply -/
noncomputable def sf21 : SFun := ⟨[0, 1, 4, 5, 6, 10], 18,
 (.seq
 (.ops [
 ⟨(some 4), none, .mov (.c .nilsl)⟩,
 ⟨(some 5), none, .mov (.c (.int .i64 0))⟩] [4, 5])
 (.seq
 (.block 0
 (.seq
 (.ops [
 ⟨(some 7), none, .mov (.t 0)⟩,
 ⟨(some 8), none, .call (.c (.fn (.func 26) [] [])) [(.t 7), (.c (.int .i64 1)), (.c (.int .i64 3))]⟩,
 ⟨(some 9), none, .not (.t 8)⟩,
 ⟨(some 6), none, .mov (.t 9)⟩] [6])
 (.cond (.t 6)
 (.seq
 (.ops [
 ⟨(some 4), none, .mov (.c .nilsl)⟩,
 ⟨(some 5), none, .mov (.c (.int .i64 1))⟩] [4, 5])
 .ret)
 (.seq
 (.ops [
 ⟨(some 11), none, .mov (.t 1)⟩,
 ⟨(some 12), none, .mov (.t 0)⟩,
 ⟨(some 13), none, .call (.c (.fn (.func 33) [] [])) [(.t 11), (.t 12)]⟩,
 ⟨(some 14), none, .not (.t 13)⟩,
 ⟨(some 10), none, .mov (.t 14)⟩] [10])
 (.cond (.t 10)
 (.seq
 (.ops [
 ⟨(some 4), none, .mov (.c .nilsl)⟩,
 ⟨(some 5), none, .mov (.c (.int .i64 2))⟩] [4, 5])
 .ret)
 .skip)))))
 (.seq
 (.ops [
 ⟨(some 15), none, .mov (.t 0)⟩,
 ⟨(some 16), none, .mov (.t 1)⟩,
 ⟨(some 17), none, .call (.c (.fn (.func 34) [] [])) [(.t 15), (.t 16)]⟩,
 ⟨(some 4), none, .mov (.t 17)⟩,
 ⟨(some 5), none, .mov (.c (.int .i64 0))⟩] [4, 5])
 .ret))),
 [.tmp 4, .tmp 5]⟩

/-- bellpull/patch.Ways -/
noncomputable def sf22 : SFun := ⟨[0, 1, 4, 5, 6, 7, 8, 13, 17, 18, 19, 27], 32,
 (.seq
 (.ops [
 ⟨(some 4), none, .mov (.c (.int .i64 0))⟩,
 ⟨(some 5), none, .mov (.c (.int .i64 0))⟩] [4, 5])
 (.seq
 (.seq
 (.ops [
 ⟨(some 9), none, .mov (.t 0)⟩,
 ⟨(some 10), none, .mov (.t 1)⟩,
 ⟨(some 11), none, .call (.c (.fn (.func 35) [] [])) [(.t 9), (.c (.int .i64 2)), (.t 10)]⟩,
 ⟨(some 6), none, .mov (.t 11)⟩] [6])
 (.seq
 (.ops [
 ⟨(some 12), none, .mov (.t 6)⟩,
 ⟨(some 13), none, .bin .neq .no (.t 12) (.c (.int .i64 0))⟩] [13])
 (.cond (.t 13)
 (.seq
 (.ops [
 ⟨(some 14), none, .mov (.t 6)⟩,
 ⟨(some 4), none, .mov (.c (.int .i64 0))⟩,
 ⟨(some 5), none, .mov (.t 14)⟩] [4, 5])
 .ret)
 .skip)))
 (.seq
 (.ops [
 ⟨(some 7), none, .mov (.c (.int .i64 0))⟩] [7])
 (.seq
 (.seq
 (.ops [
 ⟨(some 15), none, .mov (.t 0)⟩,
 ⟨(some 16), none, .call (.c (.fn (.func 36) [] [])) [(.t 15)]⟩,
 ⟨(some 17), none, .bin .shl .no (.c (.int .i64 1)) (.t 16)⟩,
 ⟨(some 18), none, .mov (.c (.int .i64 0))⟩] [17, 18])
 (.block 0
 (.loop
 (.seq
 (.ops [
 ⟨(some 19), none, .bin .lss .no (.t 18) (.t 17)⟩] [19])
 (.seq
 (.cond (.t 19)
 .skip
 (.exit 0))
 (.seq
 (.block 1
 (.seq
 (.ops [
 ⟨(some 20), none, .mov (.t 18)⟩,
 ⟨(some 8), none, .mov (.t 20)⟩] [8])
 (.seq
 (.ops [
 ⟨(some 21), none, .mov (.t 0)⟩,
 ⟨(some 22), none, .mov (.t 0)⟩,
 ⟨(some 23), none, .mov (.t 8)⟩,
 ⟨(some 24), none, .call (.c (.fn (.func 38) [] [])) [(.t 22), (.t 23)]⟩,
 ⟨(some 25), none, .call (.c (.fn (.func 34) [] [])) [(.t 21), (.t 24)]⟩,
 ⟨(some 26), none, .mov (.t 1)⟩,
 ⟨(some 27), none, .call (.c (.fn (.func 37) [] [])) [(.t 25), (.t 26)]⟩] [27])
 (.cond (.t 27)
 (.ops [
 ⟨(some 28), none, .mov (.t 7)⟩,
 ⟨(some 29), none, .bin .add .no (.t 28) (.c (.int .i64 1))⟩,
 ⟨(some 7), none, .mov (.t 29)⟩] [7])
 .skip))))
 (.ops [
 ⟨(some 30), none, .bin .add .no (.t 18) (.c (.int .i64 1))⟩,
 ⟨(some 18), none, .mov (.t 30)⟩] [18])))))))
 (.seq
 (.ops [
 ⟨(some 31), none, .mov (.t 7)⟩,
 ⟨(some 4), none, .mov (.t 31)⟩,
 ⟨(some 5), none, .mov (.c (.int .i64 0))⟩] [4, 5])
 .ret))))),
 [.tmp 4, .tmp 5]⟩

/-- bellpull/patch.Waksman -/
noncomputable def sf23 : SFun := ⟨[0, 2, 3, 6], 12,
 (.seq
 (.ops [
 ⟨(some 2), none, .mov (.c (.int .i64 0))⟩,
 ⟨(some 3), none, .mov (.c (.int .i64 0))⟩] [2, 3])
 (.seq
 (.seq
 (.ops [
 ⟨(some 4), none, .mov (.t 0)⟩,
 ⟨(some 5), none, .call (.c (.fn (.func 26) [] [])) [(.t 4), (.c (.int .i64 1)), (.c (.int .i64 20))]⟩,
 ⟨(some 6), none, .not (.t 5)⟩] [6])
 (.cond (.t 6)
 (.seq
 (.ops [
 ⟨(some 2), none, .mov (.c (.int .i64 0))⟩,
 ⟨(some 3), none, .mov (.c (.int .i64 1))⟩] [2, 3])
 .ret)
 .skip))
 (.seq
 (.ops [
 ⟨(some 7), none, .mov (.t 0)⟩,
 ⟨(some 8), none, .bin .sub .no (.t 7) (.c (.int .i64 1))⟩,
 ⟨(some 9), none, .mov (.t 0)⟩,
 ⟨(some 10), none, .bin .shl .no (.t 8) (.t 9)⟩,
 ⟨(some 11), none, .bin .add .no (.t 10) (.c (.int .i64 1))⟩,
 ⟨(some 2), none, .mov (.t 11)⟩,
 ⟨(some 3), none, .mov (.c (.int .i64 0))⟩] [2, 3])
 .ret))),
 [.tmp 2, .tmp 3]⟩

/-- bellpull/patch.Colors -/
noncomputable def sf24 : SFun := ⟨[0, 1, 2, 6, 7, 8, 12], 22,
 (.seq
 (.ops [
 ⟨(some 6), none, .mov (.c .nilsl)⟩,
 ⟨(some 7), none, .mov (.c (.int .i64 0))⟩] [6, 7])
 (.seq
 (.block 0
 (.seq
 (.ops [
 ⟨(some 9), none, .mov (.t 2)⟩,
 ⟨(some 10), none, .lenS (.t 9)⟩,
 ⟨(some 11), none, .bin .gtr .no (.t 10) (.c (.int .i64 12))⟩,
 ⟨(some 8), none, .mov (.t 11)⟩] [8])
 (.cond (.t 8)
 (.seq
 (.ops [
 ⟨(some 6), none, .mov (.c .nilsl)⟩,
 ⟨(some 7), none, .mov (.c (.int .i64 3))⟩] [6, 7])
 .ret)
 (.seq
 (.ops [
 ⟨(some 13), none, .mov (.t 0)⟩,
 ⟨(some 14), none, .mov (.t 1)⟩,
 ⟨(some 15), none, .mov (.t 2)⟩,
 ⟨(some 16), none, .call (.c (.fn (.func 39) [] [])) [(.t 13), (.t 14), (.t 15)]⟩,
 ⟨(some 17), none, .not (.t 16)⟩,
 ⟨(some 12), none, .mov (.t 17)⟩] [12])
 (.cond (.t 12)
 (.seq
 (.ops [
 ⟨(some 6), none, .mov (.c .nilsl)⟩,
 ⟨(some 7), none, .mov (.c (.int .i64 1))⟩] [6, 7])
 .ret)
 .skip)))))
 (.seq
 (.ops [
 ⟨(some 18), none, .mov (.t 2)⟩,
 ⟨(some 19), none, .mov (.t 2)⟩,
 ⟨(some 20), none, .call (.c (.fn (.func 40) [] [])) [(.t 19)]⟩,
 ⟨(some 21), none, .call (.c (.fn (.func 31) [] [])) [(.t 18), (.t 20)]⟩,
 ⟨(some 6), none, .mov (.t 21)⟩,
 ⟨(some 7), none, .mov (.c (.int .i64 0))⟩] [6, 7])
 .ret))),
 [.tmp 6, .tmp 7]⟩

/-- bellpull/bellpullref01.Before -/
noncomputable def sf25 : SFun := ⟨[0, 1, 4, 5, 15, 26], 41,
 (.seq
 (.ops [
 ⟨(some 4), none, .mov (.c (.bool false))⟩] [4])
 (.seq
 (.seq
 (.ops [
 ⟨(some 5), none, .mov (.c (.int .i64 0))⟩] [5])
 (.block 0
 (.loop
 (.seq
 (.seq
 (.ops [
 ⟨(some 6), none, .mov (.t 5)⟩,
 ⟨(some 7), none, .mov (.t 0)⟩,
 ⟨(some 8), none, .lenS (.t 7)⟩,
 ⟨(some 9), none, .bin .lss .no (.t 6) (.t 8)⟩,
 ⟨(some 10), none, .mov (.t 9)⟩,
 ⟨(some 11), (some (10, true)), .mov (.t 5)⟩,
 ⟨(some 12), (some (10, true)), .mov (.t 1)⟩,
 ⟨(some 13), (some (10, true)), .lenS (.t 12)⟩,
 ⟨(some 14), (some (10, true)), .bin .lss .no (.t 11) (.t 13)⟩,
 ⟨(some 15), none, .pick (.t 10) (.t 14) (.c (.bool false))⟩] [15])
 (.cond (.t 15)
 .skip
 (.exit 0)))
 (.seq
 (.block 1
 (.seq
 (.ops [
 ⟨(some 18), none, .mov (.t 0)⟩,
 ⟨(some 19), none, .mov (.t 5)⟩,
 ⟨(some 20), none, .ixS 1 (.t 18) (.t 19)⟩,
 ⟨(some 21), none, .load none (.t 20)⟩,
 ⟨(some 22), none, .mov (.t 1)⟩,
 ⟨(some 23), none, .mov (.t 5)⟩,
 ⟨(some 24), none, .ixS 1 (.t 22) (.t 23)⟩,
 ⟨(some 25), none, .load none (.t 24)⟩,
 ⟨(some 26), none, .bin .neq .no (.t 21) (.t 25)⟩] [26])
 (.cond (.t 26)
 (.seq
 (.ops [
 ⟨(some 27), none, .mov (.t 0)⟩,
 ⟨(some 28), none, .mov (.t 5)⟩,
 ⟨(some 29), none, .ixS 1 (.t 27) (.t 28)⟩,
 ⟨(some 30), none, .load none (.t 29)⟩,
 ⟨(some 31), none, .mov (.t 1)⟩,
 ⟨(some 32), none, .mov (.t 5)⟩,
 ⟨(some 33), none, .ixS 1 (.t 31) (.t 32)⟩,
 ⟨(some 34), none, .load none (.t 33)⟩,
 ⟨(some 35), none, .bin .lss .no (.t 30) (.t 34)⟩,
 ⟨(some 4), none, .mov (.t 35)⟩] [4])
 .ret)
 .skip)))
 (.ops [
 ⟨(some 16), none, .mov (.t 5)⟩,
 ⟨(some 17), none, .bin .add .no (.t 16) (.c (.int .i64 1))⟩,
 ⟨(some 5), none, .mov (.t 17)⟩] [5]))))))
 (.seq
 (.ops [
 ⟨(some 36), none, .mov (.t 0)⟩,
 ⟨(some 37), none, .lenS (.t 36)⟩,
 ⟨(some 38), none, .mov (.t 1)⟩,
 ⟨(some 39), none, .lenS (.t 38)⟩,
 ⟨(some 40), none, .bin .lss .no (.t 37) (.t 39)⟩,
 ⟨(some 4), none, .mov (.t 40)⟩] [4])
 .ret))),
 [.tmp 4]⟩

/-- bellpull/patch.within -/
noncomputable def sf26 : SFun := ⟨[0, 1, 2, 6], 15,
 (.seq
 (.ops [
 ⟨(some 6), none, .mov (.c (.bool false))⟩] [6])
 (.seq
 (.ops [
 ⟨(some 7), none, .mov (.t 1)⟩,
 ⟨(some 8), none, .mov (.t 0)⟩,
 ⟨(some 9), none, .bin .leq .no (.t 7) (.t 8)⟩,
 ⟨(some 10), none, .mov (.t 9)⟩,
 ⟨(some 11), (some (10, true)), .mov (.t 0)⟩,
 ⟨(some 12), (some (10, true)), .mov (.t 2)⟩,
 ⟨(some 13), (some (10, true)), .bin .leq .no (.t 11) (.t 12)⟩,
 ⟨(some 14), none, .pick (.t 10) (.t 13) (.c (.bool false))⟩,
 ⟨(some 6), none, .mov (.t 14)⟩] [6])
 .ret)),
 [.tmp 6]⟩

/-- slices.IndexFunc[[]bellpull/api.Pair,bellpull/api.Pair] -/
noncomputable def sf27 : SFun := ⟨[0, 1, 4, 5, 7, 8, 9, 16], 19,
 (.seq
 (.ops [
 ⟨(some 4), none, .mov (.c (.int .i64 0))⟩] [4])
 (.seq
 (.seq
 (.ops [
 ⟨(some 6), none, .mov (.t 0)⟩,
 ⟨(some 7), none, .lenS (.t 6)⟩,
 ⟨(some 8), none, .mov (.c (.int .i64 0))⟩] [7, 8])
 (.block 0
 (.loop
 (.seq
 (.ops [
 ⟨(some 9), none, .bin .lss .no (.t 8) (.t 7)⟩] [9])
 (.seq
 (.cond (.t 9)
 .skip
 (.exit 0))
 (.seq
 (.block 1
 (.seq
 (.ops [
 ⟨(some 10), none, .mov (.t 8)⟩,
 ⟨(some 5), none, .mov (.t 10)⟩] [5])
 (.seq
 (.ops [
 ⟨(some 11), none, .mov (.t 1)⟩,
 ⟨(some 12), none, .mov (.t 0)⟩,
 ⟨(some 13), none, .mov (.t 5)⟩,
 ⟨(some 14), none, .ixS 2 (.t 12) (.t 13)⟩,
 ⟨(some 15), none, .load (some 2) (.t 14)⟩,
 ⟨(some 16), none, .call (.t 11) [(.t 15)]⟩] [16])
 (.cond (.t 16)
 (.seq
 (.ops [
 ⟨(some 17), none, .mov (.t 5)⟩,
 ⟨(some 4), none, .mov (.t 17)⟩] [4])
 .ret)
 .skip))))
 (.ops [
 ⟨(some 18), none, .bin .add .no (.t 8) (.c (.int .i64 1))⟩,
 ⟨(some 8), none, .mov (.t 18)⟩] [8])))))))
 (.seq
 (.ops [
 ⟨(some 4), none, .mov (.c (.int .i64 (-1)))⟩] [4])
 .ret))),
 [.tmp 4]⟩

/-- (*bellpull/patch.board).connect -/
noncomputable def sf28 : SFun := ⟨[0, 1, 3, 4, 5, 6, 8, 9, 16, 20, 21, 22, 23, 39, 40, 41, 55], 78,
 (.seq
 (.ops [
 ⟨(some 3), none, .box (.t 1)⟩,
 ⟨(some 4), none, .mov (.c (.int .i64 0))⟩] [3, 4])
 (.seq
 (.ops [
 ⟨(some 10), none, .mkf 41 [] [(.t 3)]⟩,
 ⟨(some 5), none, .mov (.t 10)⟩] [5])
 (.seq
 (.seq
 (.ops [
 ⟨(some 11), none, .mov (.t 0)⟩,
 ⟨(some 12), none, .nilCheck (.t 11)⟩,
 ⟨(some 13), none, .fa 2 (.t 12)⟩,
 ⟨(some 14), none, .load none (.t 13)⟩,
 ⟨(some 15), none, .mov (.t 5)⟩,
 ⟨(some 16), none, .call (.c (.fn (.func 16) [] [])) [(.t 14), (.t 15)]⟩] [16])
 (.cond (.t 16)
 (.seq
 (.ops [
 ⟨(some 4), none, .mov (.c (.int .i64 (-2)))⟩] [4])
 .ret)
 .skip))
 (.seq
 (.ops [
 ⟨(some 6), none, .mov (.c .nilsl)⟩] [6])
 (.seq
 (.seq
 (.ops [
 ⟨(some 17), none, .mov (.t 0)⟩,
 ⟨(some 18), none, .nilCheck (.t 17)⟩,
 ⟨(some 19), none, .fa 2 (.t 18)⟩,
 ⟨(some 20), none, .load none (.t 19)⟩,
 ⟨(some 21), none, .lenS (.t 20)⟩,
 ⟨(some 22), none, .mov (.c (.int .i64 0))⟩] [20, 21, 22])
 (.block 0
 (.loop
 (.seq
 (.ops [
 ⟨(some 23), none, .bin .lss .no (.t 22) (.t 21)⟩] [23])
 (.seq
 (.cond (.t 23)
 .skip
 (.exit 0))
 (.seq
 (.block 1
 (.seq
 (.ops [
 ⟨(some 24), none, .ixS 2 (.t 20) (.t 22)⟩,
 ⟨(some 25), none, .load (some 2) (.t 24)⟩,
 ⟨(some 8), none, .new [(.int .i64 0), (.int .i64 0)]⟩,
 ⟨none, none, .store 2 (.t 8) (.t 25)⟩] [8])
 (.draw [
 ⟨⟨(some 26), none, .mov (.t 6)⟩, false, false⟩,
 ⟨⟨(some 27), none, .mov (.t 0)⟩, false, false⟩,
 ⟨⟨(some 28), none, .nilCheck (.t 27)⟩, false, false⟩,
 ⟨⟨(some 29), none, .fa 0 (.t 28)⟩, false, false⟩,
 ⟨⟨(some 30), none, .load none (.t 29)⟩, true, false⟩,
 ⟨⟨(some 31), none, .load (some 2) (.t 8)⟩, true, false⟩,
 ⟨⟨(some 32), none, .call (.c (.fn (.func 42) [] [])) [(.t 30), (.t 31)]⟩, false, true⟩,
 ⟨⟨(some 33), none, .buildS [(.int .i64 0), (.int .i64 0)] 1 2 [(0, (.t 32))]⟩, false, true⟩,
 ⟨⟨(some 34), none, .app true 2 (.t 26) (.t 33)⟩, false, true⟩,
 ⟨⟨(some 6), none, .mov (.t 34)⟩, false, false⟩] [0, 0, 2, 6, 14, 0, 62, 126, 255, 511] [6])))
 (.ops [
 ⟨(some 35), none, .bin .add .no (.t 22) (.c (.int .i64 1))⟩,
 ⟨(some 22), none, .mov (.t 35)⟩] [22])))))))
 (.seq
 (.seq
 (.ops [
 ⟨(some 36), none, .mov (.t 0)⟩,
 ⟨(some 37), none, .nilCheck (.t 36)⟩,
 ⟨(some 38), none, .fa 1 (.t 37)⟩,
 ⟨(some 39), none, .load none (.t 38)⟩,
 ⟨(some 40), none, .mov (.c (.int .i64 0))⟩] [39, 40])
 (.block 2
 (.loop
 (.seq
 (.ops [
 ⟨(some 41), none, .bin .lss .no (.t 40) (.t 39)⟩] [41])
 (.seq
 (.cond (.t 41)
 .skip
 (.exit 2))
 (.seq
 (.block 3
 (.seq
 (.ops [
 ⟨(some 42), none, .mov (.t 40)⟩,
 ⟨(some 9), none, .mov (.t 42)⟩] [9])
 (.seq
 (.draw [
 ⟨⟨(some 43), none, .mov (.t 9)⟩, false, false⟩,
 ⟨⟨(some 44), none, .mov (.t 0)⟩, false, false⟩,
 ⟨⟨(some 45), none, .nilCheck (.t 44)⟩, false, false⟩,
 ⟨⟨(some 46), none, .fa 0 (.t 45)⟩, false, false⟩,
 ⟨⟨(some 47), none, .load none (.t 46)⟩, true, false⟩,
 ⟨⟨(some 48), none, .load (some 2) (.t 3)⟩, true, false⟩,
 ⟨⟨(some 49), none, .call (.c (.fn (.func 42) [] [])) [(.t 47), (.t 48)]⟩, false, true⟩,
 ⟨⟨(some 50), none, .mov (.t 6)⟩, false, false⟩,
 ⟨⟨(some 51), none, .mov (.t 0)⟩, false, false⟩,
 ⟨⟨(some 52), none, .nilCheck (.t 51)⟩, false, false⟩,
 ⟨⟨(some 53), none, .fa 3 (.t 52)⟩, false, false⟩,
 ⟨⟨(some 54), none, .load none (.t 53)⟩, true, false⟩,
 ⟨⟨(some 55), none, .call (.c (.fn (.func 43) [] [])) [(.t 43), (.t 49), (.t 50), (.t 54)]⟩, false, true⟩] [0, 0, 2, 6, 14, 0, 62, 0, 0, 256, 768, 1792, 4095] [55])
 (.cond (.t 55)
 (.seq
 (.draw [
 ⟨⟨(some 56), none, .mov (.t 0)⟩, false, false⟩,
 ⟨⟨(some 57), none, .mov (.t 0)⟩, false, false⟩,
 ⟨⟨(some 58), none, .nilCheck (.t 57)⟩, false, false⟩,
 ⟨⟨(some 59), none, .fa 2 (.t 58)⟩, false, false⟩,
 ⟨⟨(some 60), none, .load none (.t 59)⟩, true, false⟩,
 ⟨⟨(some 61), none, .load (some 2) (.t 3)⟩, true, false⟩,
 ⟨⟨(some 62), none, .buildS [(.int .i64 0), (.int .i64 0)] 1 2 [(0, (.t 61))]⟩, false, true⟩,
 ⟨⟨(some 63), none, .app true 2 (.t 60) (.t 62)⟩, false, true⟩,
 ⟨⟨(some 64), none, .nilCheck (.t 56)⟩, false, false⟩,
 ⟨⟨(some 65), none, .fa 2 (.t 64)⟩, false, false⟩,
 ⟨⟨none, none, .store 1 (.t 65) (.t 63)⟩, false, true⟩] [0, 0, 2, 6, 14, 0, 32, 126, 255, 511, 1023] [])
 (.seq
 (.ops [
 ⟨(some 66), none, .mov (.t 0)⟩,
 ⟨(some 67), none, .mov (.t 0)⟩,
 ⟨(some 68), none, .nilCheck (.t 67)⟩,
 ⟨(some 69), none, .fa 3 (.t 68)⟩,
 ⟨(some 70), none, .load none (.t 69)⟩,
 ⟨(some 71), none, .mov (.t 9)⟩,
 ⟨(some 72), none, .buildS [(.int .i64 0)] 1 1 [(0, (.t 71))]⟩,
 ⟨(some 73), none, .app true 1 (.t 70) (.t 72)⟩,
 ⟨(some 74), none, .nilCheck (.t 66)⟩,
 ⟨(some 75), none, .fa 3 (.t 74)⟩,
 ⟨none, none, .store 1 (.t 75) (.t 73)⟩] [])
 (.seq
 (.ops [
 ⟨(some 76), none, .mov (.t 9)⟩,
 ⟨(some 4), none, .mov (.t 76)⟩] [4])
 .ret)))
 .skip))))
 (.ops [
 ⟨(some 77), none, .bin .add .no (.t 40) (.c (.int .i64 1))⟩,
 ⟨(some 40), none, .mov (.t 77)⟩] [40])))))))
 (.seq
 (.ops [
 ⟨(some 4), none, .mov (.c (.int .i64 (-1)))⟩] [4])
 .ret))))))),
 [.tmp 4]⟩

/-- (*bellpull/patch.board).disconnect -/
noncomputable def sf29 : SFun := ⟨[0, 1, 3, 4, 5, 6, 14], 45,
 (.seq
 (.ops [
 ⟨(some 3), none, .box (.t 1)⟩,
 ⟨(some 4), none, .mov (.c (.int .i64 0))⟩] [3, 4])
 (.seq
 (.ops [
 ⟨(some 7), none, .mov (.t 0)⟩,
 ⟨(some 8), none, .nilCheck (.t 7)⟩,
 ⟨(some 9), none, .fa 2 (.t 8)⟩,
 ⟨(some 10), none, .load none (.t 9)⟩,
 ⟨(some 11), none, .mkf 44 [] [(.t 3)]⟩,
 ⟨(some 12), none, .call (.c (.fn (.func 27) [] [])) [(.t 10), (.t 11)]⟩,
 ⟨(some 5), none, .mov (.t 12)⟩] [5])
 (.seq
 (.seq
 (.ops [
 ⟨(some 13), none, .mov (.t 5)⟩,
 ⟨(some 14), none, .bin .lss .no (.t 13) (.c (.int .i64 0))⟩] [14])
 (.cond (.t 14)
 (.seq
 (.ops [
 ⟨(some 4), none, .mov (.c (.int .i64 (-2)))⟩] [4])
 .ret)
 .skip))
 (.seq
 (.ops [
 ⟨(some 15), none, .mov (.t 0)⟩,
 ⟨(some 16), none, .nilCheck (.t 15)⟩,
 ⟨(some 17), none, .fa 3 (.t 16)⟩,
 ⟨(some 18), none, .load none (.t 17)⟩,
 ⟨(some 19), none, .mov (.t 5)⟩,
 ⟨(some 20), none, .ixS 1 (.t 18) (.t 19)⟩,
 ⟨(some 21), none, .load none (.t 20)⟩,
 ⟨(some 6), none, .mov (.t 21)⟩] [6])
 (.seq
 (.ops [
 ⟨(some 22), none, .mov (.t 0)⟩,
 ⟨(some 23), none, .mov (.t 0)⟩,
 ⟨(some 24), none, .nilCheck (.t 23)⟩,
 ⟨(some 25), none, .fa 2 (.t 24)⟩,
 ⟨(some 26), none, .load none (.t 25)⟩,
 ⟨(some 27), none, .mov (.t 5)⟩,
 ⟨(some 28), none, .mov (.t 5)⟩,
 ⟨(some 29), none, .bin .add .no (.t 28) (.c (.int .i64 1))⟩,
 ⟨(some 30), none, .call (.c (.fn (.func 45) [] [])) [(.t 26), (.t 27), (.t 29)]⟩,
 ⟨(some 31), none, .nilCheck (.t 22)⟩,
 ⟨(some 32), none, .fa 2 (.t 31)⟩,
 ⟨none, none, .store 1 (.t 32) (.t 30)⟩] [])
 (.seq
 (.ops [
 ⟨(some 33), none, .mov (.t 0)⟩,
 ⟨(some 34), none, .mov (.t 0)⟩,
 ⟨(some 35), none, .nilCheck (.t 34)⟩,
 ⟨(some 36), none, .fa 3 (.t 35)⟩,
 ⟨(some 37), none, .load none (.t 36)⟩,
 ⟨(some 38), none, .mov (.t 5)⟩,
 ⟨(some 39), none, .mov (.t 5)⟩,
 ⟨(some 40), none, .bin .add .no (.t 39) (.c (.int .i64 1))⟩,
 ⟨(some 41), none, .call (.c (.fn (.func 46) [] [])) [(.t 37), (.t 38), (.t 40)]⟩,
 ⟨(some 42), none, .nilCheck (.t 33)⟩,
 ⟨(some 43), none, .fa 3 (.t 42)⟩,
 ⟨none, none, .store 1 (.t 43) (.t 41)⟩] [])
 (.seq
 (.ops [
 ⟨(some 44), none, .mov (.t 6)⟩,
 ⟨(some 4), none, .mov (.t 44)⟩] [4])
 .ret))))))),
 [.tmp 4]⟩

/-- bellpull/patch.isPermutation -/
noncomputable def sf30 : SFun := ⟨[0, 1, 4, 5, 6, 10, 11, 12, 13, 14, 29], 31,
 (.seq
 (.ops [
 ⟨(some 4), none, .mov (.c (.bool false))⟩] [4])
 (.seq
 (.seq
 (.ops [
 ⟨(some 7), none, .mov (.t 0)⟩,
 ⟨(some 8), none, .lenS (.t 7)⟩,
 ⟨(some 9), none, .mov (.t 1)⟩,
 ⟨(some 10), none, .bin .neq .no (.t 8) (.t 9)⟩] [10])
 (.cond (.t 10)
 (.seq
 (.ops [
 ⟨(some 4), none, .mov (.c (.bool false))⟩] [4])
 .ret)
 .skip))
 (.seq
 (.seq
 (.ops [
 ⟨(some 11), none, .mov (.t 0)⟩,
 ⟨(some 12), none, .lenS (.t 11)⟩,
 ⟨(some 13), none, .mov (.c (.int .i64 0))⟩] [11, 12, 13])
 (.block 0
 (.loop
 (.seq
 (.ops [
 ⟨(some 14), none, .bin .lss .no (.t 13) (.t 12)⟩] [14])
 (.seq
 (.cond (.t 14)
 .skip
 (.exit 0))
 (.seq
 (.block 1
 (.seq
 (.ops [
 ⟨(some 15), none, .mov (.t 13)⟩,
 ⟨(some 16), none, .ixS 1 (.t 11) (.t 13)⟩,
 ⟨(some 17), none, .load none (.t 16)⟩,
 ⟨(some 5), none, .mov (.t 15)⟩,
 ⟨(some 6), none, .mov (.t 17)⟩] [5, 6])
 (.seq
 (.ops [
 ⟨(some 18), none, .mov (.t 6)⟩,
 ⟨(some 19), none, .mov (.t 1)⟩,
 ⟨(some 20), none, .bin .sub .no (.t 19) (.c (.int .i64 1))⟩,
 ⟨(some 21), none, .call (.c (.fn (.func 26) [] [])) [(.t 18), (.c (.int .i64 0)), (.t 20)]⟩,
 ⟨(some 22), none, .not (.t 21)⟩,
 ⟨(some 23), none, .mov (.t 22)⟩,
 ⟨(some 24), (some (23, false)), .mov (.t 0)⟩,
 ⟨(some 25), (some (23, false)), .mov (.t 5)⟩,
 ⟨(some 26), (some (23, false)), .slice 1 (.t 24) none (some (.t 25))⟩,
 ⟨(some 27), (some (23, false)), .mov (.t 6)⟩,
 ⟨(some 28), (some (23, false)), .call (.c (.fn (.func 47) [] [])) [(.t 26), (.t 27)]⟩,
 ⟨(some 29), none, .pick (.t 23) (.c (.bool true)) (.t 28)⟩] [29])
 (.cond (.t 29)
 (.seq
 (.ops [
 ⟨(some 4), none, .mov (.c (.bool false))⟩] [4])
 .ret)
 .skip))))
 (.ops [
 ⟨(some 30), none, .bin .add .no (.t 13) (.c (.int .i64 1))⟩,
 ⟨(some 13), none, .mov (.t 30)⟩] [13])))))))
 (.seq
 (.ops [
 ⟨(some 4), none, .mov (.c (.bool true))⟩] [4])
 .ret)))),
 [.tmp 4]⟩

/-- bellpull/patch.leastColoring -/
noncomputable def sf31 : SFun := ⟨[0, 1, 4, 5], 17,
 (.seq
 (.ops [
 ⟨(some 4), none, .mov (.c .nilsl)⟩] [4])
 (.seq
 (.ops [
 ⟨(some 8), none, .mov (.t 0)⟩,
 ⟨(some 9), none, .mov (.t 0)⟩,
 ⟨(some 10), none, .lenS (.t 9)⟩,
 ⟨(some 11), none, .mks [(.int .i64 0)] 1 (.c (.int .i64 0)) (.t 10)⟩,
 ⟨(some 12), none, .mov (.t 1)⟩,
 ⟨(some 13), none, .call (.c (.fn (.func 48) [] [])) [(.t 8), (.t 11), (.t 12)]⟩,
 ⟨(some 7), none, .mov (.t 13)⟩,
 ⟨(some 14), none, .ext (.t 7) 0⟩,
 ⟨(some 15), none, .ext (.t 7) 1⟩,
 ⟨(some 5), none, .mov (.t 14)⟩,
 ⟨(some 6), none, .mov (.t 15)⟩] [5])
 (.seq
 (.ops [
 ⟨(some 16), none, .mov (.t 5)⟩,
 ⟨(some 4), none, .mov (.t 16)⟩] [4])
 .ret))),
 [.tmp 4]⟩

/-- bellpull/patch.edgesOf -/
noncomputable def sf32 : SFun := ⟨[0, 1, 4, 5, 6, 7, 11, 12, 13, 14], 28,
 (.seq
 (.ops [
 ⟨(some 4), none, .mov (.c .nilsl)⟩] [4])
 (.seq
 (.ops [
 ⟨(some 8), none, .mov (.t 1)⟩,
 ⟨(some 9), none, .lenS (.t 8)⟩,
 ⟨(some 10), none, .mks [(.int .i64 0), (.int .i64 0)] 2 (.t 9) (.t 9)⟩,
 ⟨(some 5), none, .mov (.t 10)⟩] [5])
 (.seq
 (.seq
 (.ops [
 ⟨(some 11), none, .mov (.t 1)⟩,
 ⟨(some 12), none, .lenS (.t 11)⟩,
 ⟨(some 13), none, .mov (.c (.int .i64 0))⟩] [11, 12, 13])
 (.block 0
 (.loop
 (.seq
 (.ops [
 ⟨(some 14), none, .bin .lss .no (.t 13) (.t 12)⟩] [14])
 (.seq
 (.cond (.t 14)
 .skip
 (.exit 0))
 (.seq
 (.block 1
 (.seq
 (.ops [
 ⟨(some 15), none, .mov (.t 13)⟩,
 ⟨(some 16), none, .ixS 1 (.t 11) (.t 13)⟩,
 ⟨(some 17), none, .load none (.t 16)⟩,
 ⟨(some 6), none, .mov (.t 15)⟩,
 ⟨(some 7), none, .mov (.t 17)⟩] [6, 7])
 (.ops [
 ⟨(some 18), none, .mov (.t 5)⟩,
 ⟨(some 19), none, .mov (.t 6)⟩,
 ⟨(some 20), none, .mov (.t 0)⟩,
 ⟨(some 21), none, .mov (.t 6)⟩,
 ⟨(some 22), none, .mov (.t 7)⟩,
 ⟨(some 23), none, .build [(.int .i64 0), (.int .i64 0)] [(0, 1), (1, 1)] [(0, (.t 21)), (1, (.t 22))]⟩,
 ⟨(some 24), none, .call (.c (.fn (.func 42) [] [])) [(.t 20), (.t 23)]⟩,
 ⟨(some 25), none, .ixS 2 (.t 18) (.t 19)⟩,
 ⟨none, none, .store 2 (.t 25) (.t 24)⟩] [])))
 (.ops [
 ⟨(some 26), none, .bin .add .no (.t 13) (.c (.int .i64 1))⟩,
 ⟨(some 13), none, .mov (.t 26)⟩] [13])))))))
 (.seq
 (.ops [
 ⟨(some 27), none, .mov (.t 5)⟩,
 ⟨(some 4), none, .mov (.t 27)⟩] [4])
 .ret)))),
 [.tmp 4]⟩

/-- bellpull/patch.areSettings -/
noncomputable def sf33 : SFun := ⟨[0, 1, 4], 15,
 (.seq
 (.ops [
 ⟨(some 4), none, .mov (.c (.bool false))⟩] [4])
 (.seq
 (.ops [
 ⟨(some 5), none, .mov (.t 0)⟩,
 ⟨(some 6), none, .lenT (.t 5)⟩,
 ⟨(some 7), none, .mov (.t 1)⟩,
 ⟨(some 8), none, .call (.c (.fn (.func 36) [] [])) [(.t 7)]⟩,
 ⟨(some 9), none, .bin .eql .no (.t 6) (.t 8)⟩,
 ⟨(some 10), none, .mov (.t 9)⟩,
 ⟨(some 11), (some (10, true)), .mov (.t 0)⟩,
 ⟨(some 12), (some (10, true)), .call (.c (.fn (.func 49) [] [])) [(.t 11), (.c (.str [48, 49]))]⟩,
 ⟨(some 13), (some (10, true)), .bin .eql .str (.t 12) (.c (.str []))⟩,
 ⟨(some 14), none, .pick (.t 10) (.t 13) (.c (.bool false))⟩,
 ⟨(some 4), none, .mov (.t 14)⟩] [4])
 .ret)),
 [.tmp 4]⟩

/-- bellpull/patch.outputsOf -/
noncomputable def sf34 : SFun := ⟨[0, 1, 4, 5, 6, 7, 8, 9, 10, 11, 12, 13, 14, 15, 16, 17, 22, 24, 25, 26, 71, 72, 73], 102,
 (.seq
 (.ops [
 ⟨(some 4), none, .mov (.c .nilsl)⟩] [4])
 (.seq
 (.ops [
 ⟨(some 18), none, .mov (.t 0)⟩,
 ⟨(some 19), none, .bin .shl .no (.c (.int .i64 1)) (.t 18)⟩,
 ⟨(some 20), none, .mks [(.int .i64 0)] 1 (.t 19) (.t 19)⟩,
 ⟨(some 5), none, .mov (.t 20)⟩] [5])
 (.seq
 (.seq
 (.ops [
 ⟨(some 21), none, .mov (.t 0)⟩,
 ⟨(some 22), none, .bin .eql .no (.t 21) (.c (.int .i64 1))⟩] [22])
 (.cond (.t 22)
 (.seq
 (.seq
 (.ops [
 ⟨(some 23), none, .mov (.t 5)⟩,
 ⟨(some 24), none, .lenS (.t 23)⟩,
 ⟨(some 25), none, .mov (.c (.int .i64 0))⟩] [24, 25])
 (.block 0
 (.loop
 (.seq
 (.ops [
 ⟨(some 26), none, .bin .lss .no (.t 25) (.t 24)⟩] [26])
 (.seq
 (.cond (.t 26)
 .skip
 (.exit 0))
 (.seq
 (.block 1
 (.seq
 (.ops [
 ⟨(some 27), none, .mov (.t 25)⟩,
 ⟨(some 6), none, .mov (.t 27)⟩] [6])
 (.ops [
 ⟨(some 28), none, .mov (.t 5)⟩,
 ⟨(some 29), none, .mov (.t 6)⟩,
 ⟨(some 30), none, .mov (.t 1)⟩,
 ⟨(some 31), none, .ixT (.t 30) (.c (.int .i64 0))⟩,
 ⟨(some 32), none, .mov (.t 6)⟩,
 ⟨(some 33), none, .call (.c (.fn (.func 50) [] [])) [(.t 31), (.t 32)]⟩,
 ⟨(some 34), none, .ixS 1 (.t 28) (.t 29)⟩,
 ⟨none, none, .store 1 (.t 34) (.t 33)⟩] [])))
 (.ops [
 ⟨(some 35), none, .bin .add .no (.t 25) (.c (.int .i64 1))⟩,
 ⟨(some 25), none, .mov (.t 35)⟩] [25])))))))
 (.seq
 (.ops [
 ⟨(some 36), none, .mov (.t 5)⟩,
 ⟨(some 4), none, .mov (.t 36)⟩] [4])
 .ret))
 .skip))
 (.seq
 (.ops [
 ⟨(some 37), none, .mov (.t 5)⟩,
 ⟨(some 38), none, .lenS (.t 37)⟩,
 ⟨(some 39), none, .bin .quo .no (.t 38) (.c (.int .i64 2))⟩,
 ⟨(some 40), none, .mov (.t 0)⟩,
 ⟨(some 41), none, .bin .sub .no (.t 40) (.c (.int .i64 1))⟩,
 ⟨(some 42), none, .call (.c (.fn (.func 36) [] [])) [(.t 41)]⟩,
 ⟨(some 7), none, .mov (.t 39)⟩,
 ⟨(some 8), none, .mov (.t 42)⟩] [7, 8])
 (.seq
 (.ops [
 ⟨(some 43), none, .mov (.t 1)⟩,
 ⟨(some 44), none, .mov (.t 7)⟩,
 ⟨(some 45), none, .slT (.t 43) none (some (.t 44))⟩,
 ⟨(some 46), none, .mov (.t 1)⟩,
 ⟨(some 47), none, .mov (.t 7)⟩,
 ⟨(some 48), none, .slT (.t 46) (some (.t 47)) none⟩,
 ⟨(some 9), none, .mov (.t 45)⟩,
 ⟨(some 10), none, .mov (.t 48)⟩] [9, 10])
 (.seq
 (.ops [
 ⟨(some 49), none, .mov (.t 10)⟩,
 ⟨(some 50), none, .mov (.t 8)⟩,
 ⟨(some 51), none, .slT (.t 49) none (some (.t 50))⟩,
 ⟨(some 52), none, .mov (.t 10)⟩,
 ⟨(some 53), none, .mov (.t 8)⟩,
 ⟨(some 54), none, .mov (.t 8)⟩,
 ⟨(some 55), none, .bin .mul .no (.c (.int .i64 2)) (.t 54)⟩,
 ⟨(some 56), none, .slT (.t 52) (some (.t 53)) (some (.t 55))⟩,
 ⟨(some 57), none, .mov (.t 10)⟩,
 ⟨(some 58), none, .mov (.t 8)⟩,
 ⟨(some 59), none, .bin .mul .no (.c (.int .i64 2)) (.t 58)⟩,
 ⟨(some 60), none, .slT (.t 57) (some (.t 59)) none⟩,
 ⟨(some 11), none, .mov (.t 51)⟩,
 ⟨(some 12), none, .mov (.t 56)⟩,
 ⟨(some 13), none, .mov (.t 60)⟩] [11, 12, 13])
 (.seq
 (.ops [
 ⟨(some 61), none, .mov (.t 0)⟩,
 ⟨(some 62), none, .bin .sub .no (.t 61) (.c (.int .i64 1))⟩,
 ⟨(some 63), none, .mov (.t 11)⟩,
 ⟨(some 64), none, .call (.c (.fn (.func 34) [] [])) [(.t 62), (.t 63)]⟩,
 ⟨(some 65), none, .mov (.t 0)⟩,
 ⟨(some 66), none, .bin .sub .no (.t 65) (.c (.int .i64 1))⟩,
 ⟨(some 67), none, .mov (.t 12)⟩,
 ⟨(some 68), none, .call (.c (.fn (.func 34) [] [])) [(.t 66), (.t 67)]⟩,
 ⟨(some 69), none, .buildA [.nilsl, .nilsl] 1 [(0, (.t 64)), (1, (.t 68))]⟩,
 ⟨(some 14), none, .new [.nilsl, .nilsl]⟩,
 ⟨none, none, .store 2 (.t 14) (.t 69)⟩] [14])
 (.seq
 (.seq
 (.ops [
 ⟨(some 70), none, .mov (.t 5)⟩,
 ⟨(some 71), none, .lenS (.t 70)⟩,
 ⟨(some 72), none, .mov (.c (.int .i64 0))⟩] [71, 72])
 (.block 2
 (.loop
 (.seq
 (.ops [
 ⟨(some 73), none, .bin .lss .no (.t 72) (.t 71)⟩] [73])
 (.seq
 (.cond (.t 73)
 .skip
 (.exit 2))
 (.seq
 (.block 3
 (.seq
 (.ops [
 ⟨(some 74), none, .mov (.t 72)⟩,
 ⟨(some 15), none, .mov (.t 74)⟩] [15])
 (.seq
 (.ops [
 ⟨(some 75), none, .mov (.t 9)⟩,
 ⟨(some 76), none, .mov (.t 15)⟩,
 ⟨(some 77), none, .bin .quo .no (.t 76) (.c (.int .i64 2))⟩,
 ⟨(some 78), none, .ixT (.t 75) (.t 77)⟩,
 ⟨(some 79), none, .mov (.t 15)⟩,
 ⟨(some 80), none, .bin .rem .no (.t 79) (.c (.int .i64 2))⟩,
 ⟨(some 81), none, .call (.c (.fn (.func 50) [] [])) [(.t 78), (.t 80)]⟩,
 ⟨(some 16), none, .mov (.t 81)⟩] [16])
 (.seq
 (.ops [
 ⟨(some 82), none, .mov (.t 16)⟩,
 ⟨(some 83), none, .ixA 2 1 (.t 14) (.t 82)⟩,
 ⟨(some 84), none, .load none (.t 83)⟩,
 ⟨(some 85), none, .mov (.t 15)⟩,
 ⟨(some 86), none, .bin .quo .no (.t 85) (.c (.int .i64 2))⟩,
 ⟨(some 87), none, .ixS 1 (.t 84) (.t 86)⟩,
 ⟨(some 88), none, .load none (.t 87)⟩,
 ⟨(some 17), none, .mov (.t 88)⟩] [17])
 (.ops [
 ⟨(some 89), none, .mov (.t 5)⟩,
 ⟨(some 90), none, .mov (.t 15)⟩,
 ⟨(some 91), none, .mov (.t 17)⟩,
 ⟨(some 92), none, .bin .mul .no (.c (.int .i64 2)) (.t 91)⟩,
 ⟨(some 93), none, .mov (.t 13)⟩,
 ⟨(some 94), none, .mov (.t 17)⟩,
 ⟨(some 95), none, .ixT (.t 93) (.t 94)⟩,
 ⟨(some 96), none, .mov (.t 16)⟩,
 ⟨(some 97), none, .call (.c (.fn (.func 50) [] [])) [(.t 95), (.t 96)]⟩,
 ⟨(some 98), none, .bin .add .no (.t 92) (.t 97)⟩,
 ⟨(some 99), none, .ixS 1 (.t 89) (.t 90)⟩,
 ⟨none, none, .store 1 (.t 99) (.t 98)⟩] [])))))
 (.ops [
 ⟨(some 100), none, .bin .add .no (.t 72) (.c (.int .i64 1))⟩,
 ⟨(some 72), none, .mov (.t 100)⟩] [72])))))))
 (.seq
 (.ops [
 ⟨(some 101), none, .mov (.t 5)⟩,
 ⟨(some 4), none, .mov (.t 101)⟩] [4])
 .ret))))))))),
 [.tmp 4]⟩

/-- bellpull/patch.checkedPower -/
noncomputable def sf35 : SFun := ⟨[0, 1, 2, 6, 7, 12], 18,
 (.seq
 (.ops [
 ⟨(some 6), none, .mov (.c (.int .i64 0))⟩] [6])
 (.seq
 (.block 0
 (.seq
 (.ops [
 ⟨(some 8), none, .mov (.t 0)⟩,
 ⟨(some 9), none, .mov (.t 1)⟩,
 ⟨(some 10), none, .call (.c (.fn (.func 26) [] [])) [(.t 8), (.c (.int .i64 1)), (.t 9)]⟩,
 ⟨(some 11), none, .not (.t 10)⟩,
 ⟨(some 7), none, .mov (.t 11)⟩] [7])
 (.cond (.t 7)
 (.seq
 (.ops [
 ⟨(some 6), none, .mov (.c (.int .i64 1))⟩] [6])
 .ret)
 (.seq
 (.ops [
 ⟨(some 13), none, .mov (.t 2)⟩,
 ⟨(some 14), none, .mov (.t 0)⟩,
 ⟨(some 15), none, .bin .shl .no (.c (.int .i64 1)) (.t 14)⟩,
 ⟨(some 16), none, .call (.c (.fn (.func 30) [] [])) [(.t 13), (.t 15)]⟩,
 ⟨(some 17), none, .not (.t 16)⟩,
 ⟨(some 12), none, .mov (.t 17)⟩] [12])
 (.cond (.t 12)
 (.seq
 (.ops [
 ⟨(some 6), none, .mov (.c (.int .i64 2))⟩] [6])
 .ret)
 .skip)))))
 (.seq
 (.ops [
 ⟨(some 6), none, .mov (.c (.int .i64 0))⟩] [6])
 .ret))),
 [.tmp 6]⟩

/-- bellpull/patch.switchCount -/
noncomputable def sf36 : SFun := ⟨[0, 2], 9,
 (.seq
 (.ops [
 ⟨(some 2), none, .mov (.c (.int .i64 0))⟩] [2])
 (.seq
 (.ops [
 ⟨(some 3), none, .mov (.t 0)⟩,
 ⟨(some 4), none, .bin .mul .no (.c (.int .i64 2)) (.t 3)⟩,
 ⟨(some 5), none, .bin .sub .no (.t 4) (.c (.int .i64 1))⟩,
 ⟨(some 6), none, .mov (.t 0)⟩,
 ⟨(some 7), none, .bin .sub .no (.t 6) (.c (.int .i64 1))⟩,
 ⟨(some 8), none, .bin .shl .no (.t 5) (.t 7)⟩,
 ⟨(some 2), none, .mov (.t 8)⟩] [2])
 .ret)),
 [.tmp 2]⟩

/-- slices.Equal[[]int,int] -/
noncomputable def sf37 : SFun := ⟨[0, 1, 4, 5, 10, 12, 13, 14, 24], 26,
 (.seq
 (.ops [
 ⟨(some 4), none, .mov (.c (.bool false))⟩] [4])
 (.seq
 (.seq
 (.ops [
 ⟨(some 6), none, .mov (.t 0)⟩,
 ⟨(some 7), none, .lenS (.t 6)⟩,
 ⟨(some 8), none, .mov (.t 1)⟩,
 ⟨(some 9), none, .lenS (.t 8)⟩,
 ⟨(some 10), none, .bin .neq .no (.t 7) (.t 9)⟩] [10])
 (.cond (.t 10)
 (.seq
 (.ops [
 ⟨(some 4), none, .mov (.c (.bool false))⟩] [4])
 .ret)
 .skip))
 (.seq
 (.seq
 (.ops [
 ⟨(some 11), none, .mov (.t 0)⟩,
 ⟨(some 12), none, .lenS (.t 11)⟩,
 ⟨(some 13), none, .mov (.c (.int .i64 0))⟩] [12, 13])
 (.block 0
 (.loop
 (.seq
 (.ops [
 ⟨(some 14), none, .bin .lss .no (.t 13) (.t 12)⟩] [14])
 (.seq
 (.cond (.t 14)
 .skip
 (.exit 0))
 (.seq
 (.block 1
 (.seq
 (.ops [
 ⟨(some 15), none, .mov (.t 13)⟩,
 ⟨(some 5), none, .mov (.t 15)⟩] [5])
 (.seq
 (.ops [
 ⟨(some 16), none, .mov (.t 0)⟩,
 ⟨(some 17), none, .mov (.t 5)⟩,
 ⟨(some 18), none, .ixS 1 (.t 16) (.t 17)⟩,
 ⟨(some 19), none, .load none (.t 18)⟩,
 ⟨(some 20), none, .mov (.t 1)⟩,
 ⟨(some 21), none, .mov (.t 5)⟩,
 ⟨(some 22), none, .ixS 1 (.t 20) (.t 21)⟩,
 ⟨(some 23), none, .load none (.t 22)⟩,
 ⟨(some 24), none, .bin .neq .no (.t 19) (.t 23)⟩] [24])
 (.cond (.t 24)
 (.seq
 (.ops [
 ⟨(some 4), none, .mov (.c (.bool false))⟩] [4])
 .ret)
 .skip))))
 (.ops [
 ⟨(some 25), none, .bin .add .no (.t 13) (.c (.int .i64 1))⟩,
 ⟨(some 13), none, .mov (.t 25)⟩] [13])))))))
 (.seq
 (.ops [
 ⟨(some 4), none, .mov (.c (.bool true))⟩] [4])
 .ret)))),
 [.tmp 4]⟩

/-- bellpull/patch.settingsNumbered -/
noncomputable def sf38 : SFun := ⟨[0, 1, 4, 5, 6, 11, 12, 13], 27,
 (.seq
 (.ops [
 ⟨(some 4), none, .mov (.c (.str []))⟩] [4])
 (.seq
 (.ops [
 ⟨(some 7), none, .mov (.t 0)⟩,
 ⟨(some 8), none, .call (.c (.fn (.func 36) [] [])) [(.t 7)]⟩,
 ⟨(some 9), none, .mks [(.int .u8 0)] 1 (.t 8) (.t 8)⟩,
 ⟨(some 5), none, .mov (.t 9)⟩] [5])
 (.seq
 (.seq
 (.ops [
 ⟨(some 10), none, .mov (.t 5)⟩,
 ⟨(some 11), none, .lenS (.t 10)⟩,
 ⟨(some 12), none, .mov (.c (.int .i64 0))⟩] [11, 12])
 (.block 0
 (.loop
 (.seq
 (.ops [
 ⟨(some 13), none, .bin .lss .no (.t 12) (.t 11)⟩] [13])
 (.seq
 (.cond (.t 13)
 .skip
 (.exit 0))
 (.seq
 (.block 1
 (.seq
 (.ops [
 ⟨(some 14), none, .mov (.t 12)⟩,
 ⟨(some 6), none, .mov (.t 14)⟩] [6])
 (.ops [
 ⟨(some 15), none, .mov (.t 5)⟩,
 ⟨(some 16), none, .mov (.t 6)⟩,
 ⟨(some 17), none, .mov (.t 1)⟩,
 ⟨(some 18), none, .mov (.t 6)⟩,
 ⟨(some 19), none, .bin .shr .no (.t 17) (.t 18)⟩,
 ⟨(some 20), none, .bin .and .no (.t 19) (.c (.int .i64 1))⟩,
 ⟨(some 21), none, .conv .u8 (.t 20)⟩,
 ⟨(some 22), none, .bin .add .no (.c (.int .u8 48)) (.t 21)⟩,
 ⟨(some 23), none, .ixS 1 (.t 15) (.t 16)⟩,
 ⟨none, none, .store 1 (.t 23) (.t 22)⟩] [])))
 (.ops [
 ⟨(some 24), none, .bin .add .no (.t 12) (.c (.int .i64 1))⟩,
 ⟨(some 12), none, .mov (.t 24)⟩] [12])))))))
 (.seq
 (.ops [
 ⟨(some 25), none, .mov (.t 5)⟩,
 ⟨(some 26), none, .b2s (.t 25)⟩,
 ⟨(some 4), none, .mov (.t 26)⟩] [4])
 .ret)))),
 [.tmp 4]⟩

/-- bellpull/patch.isMultigraph -/
noncomputable def sf39 : SFun := ⟨[0, 1, 2, 3, 4, 6, 7], 21,
 (.seq
 (.ops [
 ⟨(some 3), none, .box (.t 0)⟩,
 ⟨(some 4), none, .box (.t 1)⟩,
 ⟨(some 6), none, .mov (.c (.bool false))⟩] [3, 4, 6])
 (.seq
 (.ops [
 ⟨(some 8), none, .mkf 51 [] [(.t 3), (.t 4)]⟩,
 ⟨(some 7), none, .mov (.t 8)⟩] [7])
 (.seq
 (.ops [
 ⟨(some 9), none, .load none (.t 3)⟩,
 ⟨(some 10), none, .call (.c (.fn (.func 26) [] [])) [(.t 9), (.c (.int .i64 1)), (.c (.int .i64 6))]⟩,
 ⟨(some 11), none, .mov (.t 10)⟩,
 ⟨(some 12), (some (11, true)), .load none (.t 4)⟩,
 ⟨(some 13), (some (11, true)), .call (.c (.fn (.func 26) [] [])) [(.t 12), (.c (.int .i64 1)), (.c (.int .i64 6))]⟩,
 ⟨(some 14), none, .pick (.t 11) (.t 13) (.c (.bool false))⟩,
 ⟨(some 15), none, .mov (.t 14)⟩,
 ⟨(some 16), (some (15, true)), .mov (.t 2)⟩,
 ⟨(some 17), (some (15, true)), .mov (.t 7)⟩,
 ⟨(some 18), (some (15, true)), .call (.c (.fn (.func 16) [] [])) [(.t 16), (.t 17)]⟩,
 ⟨(some 19), (some (15, true)), .not (.t 18)⟩,
 ⟨(some 20), none, .pick (.t 15) (.t 19) (.c (.bool false))⟩,
 ⟨(some 6), none, .mov (.t 20)⟩] [6])
 .ret))),
 [.tmp 6]⟩

/-- bellpull/patch.degree -/
noncomputable def sf40 : SFun := ⟨[0, 2, 3, 4, 6, 7, 8, 9, 10], 31,
 (.seq
 (.ops [
 ⟨(some 2), none, .mov (.c (.int .i64 0))⟩] [2])
 (.seq
 (.ops [
 ⟨(some 3), none, .new [(.int .i64 0), (.int .i64 0), (.int .i64 0), (.int .i64 0), (.int .i64 0), (.int .i64 0)]⟩,
 ⟨(some 4), none, .new [(.int .i64 0), (.int .i64 0), (.int .i64 0), (.int .i64 0), (.int .i64 0), (.int .i64 0)]⟩] [3, 4])
 (.seq
 (.seq
 (.ops [
 ⟨(some 7), none, .mov (.t 0)⟩,
 ⟨(some 8), none, .lenS (.t 7)⟩,
 ⟨(some 9), none, .mov (.c (.int .i64 0))⟩] [7, 8, 9])
 (.block 0
 (.loop
 (.seq
 (.ops [
 ⟨(some 10), none, .bin .lss .no (.t 9) (.t 8)⟩] [10])
 (.seq
 (.cond (.t 10)
 .skip
 (.exit 0))
 (.seq
 (.block 1
 (.seq
 (.ops [
 ⟨(some 11), none, .ixS 2 (.t 7) (.t 9)⟩,
 ⟨(some 12), none, .load (some 2) (.t 11)⟩,
 ⟨(some 6), none, .new [(.int .i64 0), (.int .i64 0)]⟩,
 ⟨none, none, .store 2 (.t 6) (.t 12)⟩] [6])
 (.seq
 (.ops [
 ⟨(some 13), none, .fa 0 (.t 6)⟩,
 ⟨(some 14), none, .load none (.t 13)⟩,
 ⟨(some 15), none, .ixA 6 1 (.t 3) (.t 14)⟩,
 ⟨(some 16), none, .load none (.t 15)⟩,
 ⟨(some 17), none, .bin .add .no (.t 16) (.c (.int .i64 1))⟩,
 ⟨(some 18), none, .ixA 6 1 (.t 3) (.t 14)⟩,
 ⟨none, none, .store 1 (.t 18) (.t 17)⟩] [])
 (.ops [
 ⟨(some 19), none, .fa 1 (.t 6)⟩,
 ⟨(some 20), none, .load none (.t 19)⟩,
 ⟨(some 21), none, .ixA 6 1 (.t 4) (.t 20)⟩,
 ⟨(some 22), none, .load none (.t 21)⟩,
 ⟨(some 23), none, .bin .add .no (.t 22) (.c (.int .i64 1))⟩,
 ⟨(some 24), none, .ixA 6 1 (.t 4) (.t 20)⟩,
 ⟨none, none, .store 1 (.t 24) (.t 23)⟩] []))))
 (.ops [
 ⟨(some 25), none, .bin .add .no (.t 9) (.c (.int .i64 1))⟩,
 ⟨(some 9), none, .mov (.t 25)⟩] [9])))))))
 (.seq
 (.ops [
 ⟨(some 26), none, .arr 6 1 (.t 3) none none⟩,
 ⟨(some 27), none, .call (.c (.fn (.func 52) [] [])) [(.t 26)]⟩,
 ⟨(some 28), none, .arr 6 1 (.t 4) none none⟩,
 ⟨(some 29), none, .call (.c (.fn (.func 52) [] [])) [(.t 28)]⟩,
 ⟨(some 30), none, .mx (.t 27) (.t 29)⟩,
 ⟨(some 2), none, .mov (.t 30)⟩] [2])
 .ret)))),
 [.tmp 2]⟩

/-- (*bellpull/patch.board).connect$1 -/
noncomputable def sf41 : SFun := ⟨[0, 1, 2, 3], 16,
 (.seq
 (.ops [
 ⟨(some 2), none, .box (.t 0)⟩,
 ⟨(some 3), none, .mov (.c (.bool false))⟩] [2, 3])
 (.seq
 (.ops [
 ⟨(some 4), none, .fa 0 (.t 2)⟩,
 ⟨(some 5), none, .load none (.t 4)⟩,
 ⟨(some 6), none, .fa 0 (.t 1)⟩,
 ⟨(some 7), none, .load none (.t 6)⟩,
 ⟨(some 8), none, .bin .eql .no (.t 5) (.t 7)⟩,
 ⟨(some 9), none, .mov (.t 8)⟩,
 ⟨(some 10), (some (9, false)), .fa 1 (.t 2)⟩,
 ⟨(some 11), (some (9, false)), .load none (.t 10)⟩,
 ⟨(some 12), (some (9, false)), .fa 1 (.t 1)⟩,
 ⟨(some 13), (some (9, false)), .load none (.t 12)⟩,
 ⟨(some 14), (some (9, false)), .bin .eql .no (.t 11) (.t 13)⟩,
 ⟨(some 15), none, .pick (.t 9) (.c (.bool true)) (.t 14)⟩,
 ⟨(some 3), none, .mov (.t 15)⟩] [3])
 .ret)),
 [.tmp 3]⟩

/-- bellpull/patch.edgeOf -/
noncomputable def sf42 : SFun := ⟨[0, 1, 3, 4], 14,
 (.seq
 (.ops [
 ⟨(some 3), none, .box (.t 1)⟩,
 ⟨(some 4), none, .new [(.int .i64 0), (.int .i64 0)]⟩] [3, 4])
 (.seq
 (.draw [
 ⟨⟨(some 5), none, .fa 0 (.t 3)⟩, false, false⟩,
 ⟨⟨(some 6), none, .load none (.t 5)⟩, true, false⟩,
 ⟨⟨(some 7), none, .mov (.t 0)⟩, false, false⟩,
 ⟨⟨(some 8), none, .bin .quo .no (.t 6) (.t 7)⟩, false, false⟩,
 ⟨⟨(some 9), none, .fa 1 (.t 3)⟩, false, false⟩,
 ⟨⟨(some 10), none, .load none (.t 9)⟩, true, false⟩,
 ⟨⟨(some 11), none, .mov (.t 0)⟩, false, false⟩,
 ⟨⟨(some 12), none, .bin .quo .no (.t 10) (.t 11)⟩, false, false⟩,
 ⟨⟨(some 13), none, .build [(.int .i64 0), (.int .i64 0)] [(0, 1), (1, 1)] [(0, (.t 8)), (1, (.t 12))]⟩, false, false⟩,
 ⟨⟨none, none, .store 2 (.t 4) (.t 13)⟩, false, true⟩] [0, 1, 0, 7, 0, 16, 0, 112, 255, 511] [])
 .ret)),
 [.cell 4 (some 2)]⟩

/-- bellpull/patch.isFree -/
noncomputable def sf43 : SFun := ⟨[0, 1, 2, 3, 5, 8, 9, 10, 11, 12, 13, 14, 40], 42,
 (.seq
 (.ops [
 ⟨(some 5), none, .box (.t 1)⟩,
 ⟨(some 8), none, .mov (.c (.bool false))⟩] [5, 8])
 (.seq
 (.seq
 (.ops [
 ⟨(some 11), none, .mov (.t 3)⟩,
 ⟨(some 12), none, .lenS (.t 11)⟩,
 ⟨(some 13), none, .mov (.c (.int .i64 0))⟩] [11, 12, 13])
 (.block 0
 (.loop
 (.seq
 (.ops [
 ⟨(some 14), none, .bin .lss .no (.t 13) (.t 12)⟩] [14])
 (.seq
 (.cond (.t 14)
 .skip
 (.exit 0))
 (.seq
 (.block 1
 (.seq
 (.ops [
 ⟨(some 15), none, .mov (.t 13)⟩,
 ⟨(some 16), none, .ixS 1 (.t 11) (.t 13)⟩,
 ⟨(some 17), none, .load none (.t 16)⟩,
 ⟨(some 9), none, .mov (.t 15)⟩,
 ⟨(some 10), none, .mov (.t 17)⟩] [9, 10])
 (.seq
 (.ops [
 ⟨(some 18), none, .mov (.t 10)⟩,
 ⟨(some 19), none, .mov (.t 0)⟩,
 ⟨(some 20), none, .bin .eql .no (.t 18) (.t 19)⟩,
 ⟨(some 21), none, .mov (.t 20)⟩,
 ⟨(some 22), (some (21, true)), .mov (.t 2)⟩,
 ⟨(some 23), (some (21, true)), .mov (.t 9)⟩,
 ⟨(some 24), (some (21, true)), .ixS 2 (.t 22) (.t 23)⟩,
 ⟨(some 25), (some (21, true)), .fa 0 (.t 24)⟩,
 ⟨(some 26), (some (21, true)), .load none (.t 25)⟩,
 ⟨(some 27), (some (21, true)), .fa 0 (.t 5)⟩,
 ⟨(some 28), (some (21, true)), .load none (.t 27)⟩,
 ⟨(some 29), (some (21, true)), .bin .eql .no (.t 26) (.t 28)⟩,
 ⟨(some 30), (some (21, true)), .mov (.t 29)⟩,
 ⟨(some 31), (some (30, false)), .mov (.t 2)⟩,
 ⟨(some 32), (some (30, false)), .mov (.t 9)⟩,
 ⟨(some 33), (some (30, false)), .ixS 2 (.t 31) (.t 32)⟩,
 ⟨(some 34), (some (30, false)), .fa 1 (.t 33)⟩,
 ⟨(some 35), (some (30, false)), .load none (.t 34)⟩,
 ⟨(some 36), (some (30, false)), .fa 1 (.t 5)⟩,
 ⟨(some 37), (some (30, false)), .load none (.t 36)⟩,
 ⟨(some 38), (some (30, false)), .bin .eql .no (.t 35) (.t 37)⟩,
 ⟨(some 39), (some (21, true)), .pick (.t 30) (.c (.bool true)) (.t 38)⟩,
 ⟨(some 40), none, .pick (.t 21) (.t 39) (.c (.bool false))⟩] [40])
 (.cond (.t 40)
 (.seq
 (.ops [
 ⟨(some 8), none, .mov (.c (.bool false))⟩] [8])
 .ret)
 .skip))))
 (.ops [
 ⟨(some 41), none, .bin .add .no (.t 13) (.c (.int .i64 1))⟩,
 ⟨(some 13), none, .mov (.t 41)⟩] [13])))))))
 (.seq
 (.ops [
 ⟨(some 8), none, .mov (.c (.bool true))⟩] [8])
 .ret))),
 [.tmp 8]⟩

/-- (*bellpull/patch.board).disconnect$1 -/
noncomputable def sf44 : SFun := ⟨[0, 1, 2, 3], 9,
 (.seq
 (.ops [
 ⟨(some 2), none, .box (.t 0)⟩,
 ⟨(some 3), none, .mov (.c (.bool false))⟩] [2, 3])
 (.seq
 (.ops [
 ⟨(some 4), none, .fa 0 (.t 2)⟩,
 ⟨(some 5), none, .load none (.t 4)⟩,
 ⟨(some 6), none, .fa 0 (.t 1)⟩,
 ⟨(some 7), none, .load none (.t 6)⟩,
 ⟨(some 8), none, .bin .eql .no (.t 5) (.t 7)⟩,
 ⟨(some 3), none, .mov (.t 8)⟩] [3])
 .ret)),
 [.tmp 3]⟩

/-- slices.Delete[[]bellpull/api.Pair,bellpull/api.Pair] -/
noncomputable def sf45 : SFun := ⟨[0, 1, 2, 6, 7, 16], 33,
 (.seq
 (.ops [
 ⟨(some 6), none, .mov (.c .nilsl)⟩] [6])
 (.seq
 (.ops [
 ⟨(some 8), none, .mov (.t 0)⟩,
 ⟨(some 9), none, .mov (.t 1)⟩,
 ⟨(some 10), none, .mov (.t 2)⟩,
 ⟨(some 11), none, .mov (.t 0)⟩,
 ⟨(some 12), none, .lenS (.t 11)⟩,
 ⟨(some 13), none, .slice3 2 (.t 8) (some (.t 9)) (.t 10) (.t 12)⟩] [])
 (.seq
 (.seq
 (.ops [
 ⟨(some 14), none, .mov (.t 1)⟩,
 ⟨(some 15), none, .mov (.t 2)⟩,
 ⟨(some 16), none, .bin .eql .no (.t 14) (.t 15)⟩] [16])
 (.cond (.t 16)
 (.seq
 (.ops [
 ⟨(some 17), none, .mov (.t 0)⟩,
 ⟨(some 6), none, .mov (.t 17)⟩] [6])
 .ret)
 .skip))
 (.seq
 (.ops [
 ⟨(some 18), none, .mov (.t 0)⟩,
 ⟨(some 19), none, .lenS (.t 18)⟩,
 ⟨(some 7), none, .mov (.t 19)⟩] [7])
 (.seq
 (.ops [
 ⟨(some 20), none, .mov (.t 0)⟩,
 ⟨(some 21), none, .mov (.t 1)⟩,
 ⟨(some 22), none, .slice 2 (.t 20) none (some (.t 21))⟩,
 ⟨(some 23), none, .mov (.t 0)⟩,
 ⟨(some 24), none, .mov (.t 2)⟩,
 ⟨(some 25), none, .slice 2 (.t 23) (some (.t 24)) none⟩,
 ⟨(some 26), none, .app true 2 (.t 22) (.t 25)⟩,
 ⟨(some 0), none, .mov (.t 26)⟩] [0])
 (.seq
 (.ops [
 ⟨(some 27), none, .mov (.t 0)⟩,
 ⟨(some 28), none, .mov (.t 0)⟩,
 ⟨(some 29), none, .lenS (.t 28)⟩,
 ⟨(some 30), none, .mov (.t 7)⟩,
 ⟨(some 31), none, .slice 2 (.t 27) (some (.t 29)) (some (.t 30))⟩,
 ⟨none, none, .clr 2 [(.int .i64 0), (.int .i64 0)] (.t 31)⟩] [])
 (.seq
 (.ops [
 ⟨(some 32), none, .mov (.t 0)⟩,
 ⟨(some 6), none, .mov (.t 32)⟩] [6])
 .ret))))))),
 [.tmp 6]⟩

/-- slices.Delete[[]int,int] -/
noncomputable def sf46 : SFun := ⟨[0, 1, 2, 6, 7, 16], 33,
 (.seq
 (.ops [
 ⟨(some 6), none, .mov (.c .nilsl)⟩] [6])
 (.seq
 (.ops [
 ⟨(some 8), none, .mov (.t 0)⟩,
 ⟨(some 9), none, .mov (.t 1)⟩,
 ⟨(some 10), none, .mov (.t 2)⟩,
 ⟨(some 11), none, .mov (.t 0)⟩,
 ⟨(some 12), none, .lenS (.t 11)⟩,
 ⟨(some 13), none, .slice3 1 (.t 8) (some (.t 9)) (.t 10) (.t 12)⟩] [])
 (.seq
 (.seq
 (.ops [
 ⟨(some 14), none, .mov (.t 1)⟩,
 ⟨(some 15), none, .mov (.t 2)⟩,
 ⟨(some 16), none, .bin .eql .no (.t 14) (.t 15)⟩] [16])
 (.cond (.t 16)
 (.seq
 (.ops [
 ⟨(some 17), none, .mov (.t 0)⟩,
 ⟨(some 6), none, .mov (.t 17)⟩] [6])
 .ret)
 .skip))
 (.seq
 (.ops [
 ⟨(some 18), none, .mov (.t 0)⟩,
 ⟨(some 19), none, .lenS (.t 18)⟩,
 ⟨(some 7), none, .mov (.t 19)⟩] [7])
 (.seq
 (.ops [
 ⟨(some 20), none, .mov (.t 0)⟩,
 ⟨(some 21), none, .mov (.t 1)⟩,
 ⟨(some 22), none, .slice 1 (.t 20) none (some (.t 21))⟩,
 ⟨(some 23), none, .mov (.t 0)⟩,
 ⟨(some 24), none, .mov (.t 2)⟩,
 ⟨(some 25), none, .slice 1 (.t 23) (some (.t 24)) none⟩,
 ⟨(some 26), none, .app true 1 (.t 22) (.t 25)⟩,
 ⟨(some 0), none, .mov (.t 26)⟩] [0])
 (.seq
 (.ops [
 ⟨(some 27), none, .mov (.t 0)⟩,
 ⟨(some 28), none, .mov (.t 0)⟩,
 ⟨(some 29), none, .lenS (.t 28)⟩,
 ⟨(some 30), none, .mov (.t 7)⟩,
 ⟨(some 31), none, .slice 1 (.t 27) (some (.t 29)) (some (.t 30))⟩,
 ⟨none, none, .clr 1 [(.int .i64 0)] (.t 31)⟩] [])
 (.seq
 (.ops [
 ⟨(some 32), none, .mov (.t 0)⟩,
 ⟨(some 6), none, .mov (.t 32)⟩] [6])
 .ret))))))),
 [.tmp 6]⟩

/-- slices.Contains[[]int,int] -/
noncomputable def sf47 : SFun := ⟨[0, 1, 4], 9,
 (.seq
 (.ops [
 ⟨(some 4), none, .mov (.c (.bool false))⟩] [4])
 (.seq
 (.ops [
 ⟨(some 5), none, .mov (.t 0)⟩,
 ⟨(some 6), none, .mov (.t 1)⟩,
 ⟨(some 7), none, .call (.c (.fn (.func 53) [] [])) [(.t 5), (.t 6)]⟩,
 ⟨(some 8), none, .bin .geq .no (.t 7) (.c (.int .i64 0))⟩,
 ⟨(some 4), none, .mov (.t 8)⟩] [4])
 .ret)),
 [.tmp 4]⟩

/-- bellpull/patch.extend -/
noncomputable def sf48 : SFun := ⟨[0, 1, 2, 6, 7, 8, 9, 10, 15, 17, 18, 19, 30, 41], 44,
 (.seq
 (.ops [
 ⟨(some 6), none, .mov (.c .nilsl)⟩,
 ⟨(some 7), none, .mov (.c (.bool false))⟩] [6, 7])
 (.seq
 (.seq
 (.ops [
 ⟨(some 11), none, .mov (.t 1)⟩,
 ⟨(some 12), none, .lenS (.t 11)⟩,
 ⟨(some 13), none, .mov (.t 0)⟩,
 ⟨(some 14), none, .lenS (.t 13)⟩,
 ⟨(some 15), none, .bin .eql .no (.t 12) (.t 14)⟩] [15])
 (.cond (.t 15)
 (.seq
 (.ops [
 ⟨(some 16), none, .mov (.t 1)⟩,
 ⟨(some 6), none, .mov (.t 16)⟩,
 ⟨(some 7), none, .mov (.c (.bool true))⟩] [6, 7])
 .ret)
 .skip))
 (.seq
 (.seq
 (.ops [
 ⟨(some 17), none, .mov (.t 2)⟩,
 ⟨(some 18), none, .mov (.c (.int .i64 0))⟩] [17, 18])
 (.block 0
 (.loop
 (.seq
 (.ops [
 ⟨(some 19), none, .bin .lss .no (.t 18) (.t 17)⟩] [19])
 (.seq
 (.cond (.t 19)
 .skip
 (.exit 0))
 (.seq
 (.block 1
 (.seq
 (.ops [
 ⟨(some 20), none, .mov (.t 18)⟩,
 ⟨(some 8), none, .mov (.t 20)⟩] [8])
 (.seq
 (.seq
 (.ops [
 ⟨(some 21), none, .mov (.t 8)⟩,
 ⟨(some 22), none, .mov (.t 0)⟩,
 ⟨(some 23), none, .mov (.t 1)⟩,
 ⟨(some 24), none, .lenS (.t 23)⟩,
 ⟨(some 25), none, .ixS 2 (.t 22) (.t 24)⟩,
 ⟨(some 26), none, .load (some 2) (.t 25)⟩,
 ⟨(some 27), none, .mov (.t 0)⟩,
 ⟨(some 28), none, .mov (.t 1)⟩,
 ⟨(some 29), none, .call (.c (.fn (.func 43) [] [])) [(.t 21), (.t 26), (.t 27), (.t 28)]⟩,
 ⟨(some 30), none, .not (.t 29)⟩] [30])
 (.cond (.t 30)
 (.exit 1)
 .skip))
 (.seq
 (.ops [
 ⟨(some 32), none, .mov (.t 0)⟩,
 ⟨(some 33), none, .mov (.t 1)⟩,
 ⟨(some 34), none, .mov (.t 8)⟩,
 ⟨(some 35), none, .buildS [(.int .i64 0)] 1 1 [(0, (.t 34))]⟩,
 ⟨(some 36), none, .app true 1 (.t 33) (.t 35)⟩,
 ⟨(some 37), none, .mov (.t 2)⟩,
 ⟨(some 38), none, .call (.c (.fn (.func 48) [] [])) [(.t 32), (.t 36), (.t 37)]⟩,
 ⟨(some 31), none, .mov (.t 38)⟩,
 ⟨(some 39), none, .ext (.t 31) 0⟩,
 ⟨(some 40), none, .ext (.t 31) 1⟩,
 ⟨(some 9), none, .mov (.t 39)⟩,
 ⟨(some 10), none, .mov (.t 40)⟩] [9, 10])
 (.seq
 (.ops [
 ⟨(some 41), none, .mov (.t 10)⟩] [41])
 (.cond (.t 41)
 (.seq
 (.ops [
 ⟨(some 42), none, .mov (.t 9)⟩,
 ⟨(some 6), none, .mov (.t 42)⟩,
 ⟨(some 7), none, .mov (.c (.bool true))⟩] [6, 7])
 .ret)
 .skip))))))
 (.ops [
 ⟨(some 43), none, .bin .add .no (.t 18) (.c (.int .i64 1))⟩,
 ⟨(some 18), none, .mov (.t 43)⟩] [18])))))))
 (.seq
 (.ops [
 ⟨(some 6), none, .mov (.c .nilsl)⟩,
 ⟨(some 7), none, .mov (.c (.bool false))⟩] [6, 7])
 .ret)))),
 [.tmp 6, .tmp 7]⟩

/-- strings.Trim -/
noncomputable def sf49 : SFun := ⟨[0, 1, 4, 5, 6, 12, 21, 34], 43,
 (.seq
 (.ops [
 ⟨(some 4), none, .mov (.c (.str []))⟩] [4])
 (.seq
 (.seq
 (.ops [
 ⟨(some 7), none, .mov (.t 0)⟩,
 ⟨(some 8), none, .bin .eql .str (.t 7) (.c (.str []))⟩,
 ⟨(some 9), none, .mov (.t 8)⟩,
 ⟨(some 10), (some (9, false)), .mov (.t 1)⟩,
 ⟨(some 11), (some (9, false)), .bin .eql .str (.t 10) (.c (.str []))⟩,
 ⟨(some 12), none, .pick (.t 9) (.c (.bool true)) (.t 11)⟩] [12])
 (.cond (.t 12)
 (.seq
 (.ops [
 ⟨(some 13), none, .mov (.t 0)⟩,
 ⟨(some 4), none, .mov (.t 13)⟩] [4])
 .ret)
 .skip))
 (.seq
 (.seq
 (.ops [
 ⟨(some 14), none, .mov (.t 1)⟩,
 ⟨(some 15), none, .lenT (.t 14)⟩,
 ⟨(some 16), none, .bin .eql .no (.t 15) (.c (.int .i64 1))⟩,
 ⟨(some 17), none, .mov (.t 16)⟩,
 ⟨(some 18), (some (17, true)), .mov (.t 1)⟩,
 ⟨(some 19), (some (17, true)), .ixT (.t 18) (.c (.int .i64 0))⟩,
 ⟨(some 20), (some (17, true)), .bin .lss .no (.t 19) (.c (.int .u8 128))⟩,
 ⟨(some 21), none, .pick (.t 17) (.t 20) (.c (.bool false))⟩] [21])
 (.cond (.t 21)
 (.seq
 (.ops [
 ⟨(some 22), none, .mov (.t 0)⟩,
 ⟨(some 23), none, .mov (.t 1)⟩,
 ⟨(some 24), none, .ixT (.t 23) (.c (.int .i64 0))⟩,
 ⟨(some 25), none, .call (.c (.fn (.func 55) [] [])) [(.t 22), (.t 24)]⟩,
 ⟨(some 26), none, .mov (.t 1)⟩,
 ⟨(some 27), none, .ixT (.t 26) (.c (.int .i64 0))⟩,
 ⟨(some 28), none, .call (.c (.fn (.func 54) [] [])) [(.t 25), (.t 27)]⟩,
 ⟨(some 4), none, .mov (.t 28)⟩] [4])
 .ret)
 .skip))
 (.seq
 (.seq
 (.ops [
 ⟨(some 30), none, .mov (.t 1)⟩,
 ⟨(some 31), none, .call (.c (.fn (.func 56) [] [])) [(.t 30)]⟩,
 ⟨(some 29), none, .mov (.t 31)⟩,
 ⟨(some 32), none, .ext (.t 29) 0⟩,
 ⟨(some 33), none, .ext (.t 29) 1⟩,
 ⟨(some 5), none, .new [(.bool false), (.bool false), (.bool false), (.bool false), (.bool false), (.bool false), (.bool false), (.bool false), (.bool false), (.bool false), (.bool false), (.bool false), (.bool false), (.bool false), (.bool false), (.bool false), (.bool false), (.bool false), (.bool false), (.bool false), (.bool false), (.bool false), (.bool false), (.bool false), (.bool false), (.bool false), (.bool false), (.bool false), (.bool false), (.bool false), (.bool false), (.bool false), (.bool false), (.bool false), (.bool false), (.bool false), (.bool false), (.bool false), (.bool false), (.bool false), (.bool false), (.bool false), (.bool false), (.bool false), (.bool false), (.bool false), (.bool false), (.bool false), (.bool false), (.bool false), (.bool false), (.bool false), (.bool false), (.bool false), (.bool false), (.bool false), (.bool false), (.bool false), (.bool false), (.bool false), (.bool false), (.bool false), (.bool false), (.bool false), (.bool false), (.bool false), (.bool false), (.bool false), (.bool false), (.bool false), (.bool false), (.bool false), (.bool false), (.bool false), (.bool false), (.bool false), (.bool false), (.bool false), (.bool false), (.bool false), (.bool false), (.bool false), (.bool false), (.bool false), (.bool false), (.bool false), (.bool false), (.bool false), (.bool false), (.bool false), (.bool false), (.bool false), (.bool false), (.bool false), (.bool false), (.bool false), (.bool false), (.bool false), (.bool false), (.bool false), (.bool false), (.bool false), (.bool false), (.bool false), (.bool false), (.bool false), (.bool false), (.bool false), (.bool false), (.bool false), (.bool false), (.bool false), (.bool false), (.bool false), (.bool false), (.bool false), (.bool false), (.bool false), (.bool false), (.bool false), (.bool false), (.bool false), (.bool false), (.bool false), (.bool false), (.bool false), (.bool false), (.bool false), (.bool false), (.bool false), (.bool false), (.bool false), (.bool false), (.bool false), (.bool false), (.bool false), (.bool false), (.bool false), (.bool false), (.bool false), (.bool false), (.bool false), (.bool false), (.bool false), (.bool false), (.bool false), (.bool false), (.bool false), (.bool false), (.bool false), (.bool false), (.bool false), (.bool false), (.bool false), (.bool false), (.bool false), (.bool false), (.bool false), (.bool false), (.bool false), (.bool false), (.bool false), (.bool false), (.bool false), (.bool false), (.bool false), (.bool false), (.bool false), (.bool false), (.bool false), (.bool false), (.bool false), (.bool false), (.bool false), (.bool false), (.bool false), (.bool false), (.bool false), (.bool false), (.bool false), (.bool false), (.bool false), (.bool false), (.bool false), (.bool false), (.bool false), (.bool false), (.bool false), (.bool false), (.bool false), (.bool false), (.bool false), (.bool false), (.bool false), (.bool false), (.bool false), (.bool false), (.bool false), (.bool false), (.bool false), (.bool false), (.bool false), (.bool false), (.bool false), (.bool false), (.bool false), (.bool false), (.bool false), (.bool false), (.bool false), (.bool false), (.bool false), (.bool false), (.bool false), (.bool false), (.bool false), (.bool false), (.bool false), (.bool false), (.bool false), (.bool false), (.bool false), (.bool false), (.bool false), (.bool false), (.bool false), (.bool false), (.bool false), (.bool false), (.bool false), (.bool false), (.bool false), (.bool false), (.bool false), (.bool false), (.bool false), (.bool false), (.bool false), (.bool false), (.bool false), (.bool false), (.bool false), (.bool false), (.bool false), (.bool false), (.bool false), (.bool false), (.bool false), (.bool false), (.bool false), (.bool false), (.bool false), (.bool false), (.bool false), (.bool false), (.bool false)]⟩,
 ⟨none, none, .store 256 (.t 5) (.t 32)⟩,
 ⟨(some 6), none, .mov (.t 33)⟩] [5, 6])
 (.seq
 (.ops [
 ⟨(some 34), none, .mov (.t 6)⟩] [34])
 (.cond (.t 34)
 (.seq
 (.ops [
 ⟨(some 35), none, .mov (.t 0)⟩,
 ⟨(some 36), none, .call (.c (.fn (.func 58) [] [])) [(.t 35), (.t 5)]⟩,
 ⟨(some 37), none, .call (.c (.fn (.func 57) [] [])) [(.t 36), (.t 5)]⟩,
 ⟨(some 4), none, .mov (.t 37)⟩] [4])
 .ret)
 .skip)))
 (.seq
 (.ops [
 ⟨(some 38), none, .mov (.t 0)⟩,
 ⟨(some 39), none, .mov (.t 1)⟩,
 ⟨(some 40), none, .call (.c (.fn (.func 60) [] [])) [(.t 38), (.t 39)]⟩,
 ⟨(some 41), none, .mov (.t 1)⟩,
 ⟨(some 42), none, .call (.c (.fn (.func 59) [] [])) [(.t 40), (.t 41)]⟩,
 ⟨(some 4), none, .mov (.t 42)⟩] [4])
 .ret))))),
 [.tmp 4]⟩

/-- bellpull/patch.turn -/
noncomputable def sf50 : SFun := ⟨[0, 1, 4], 10,
 (.seq
 (.ops [
 ⟨(some 4), none, .mov (.c (.int .i64 0))⟩] [4])
 (.seq
 (.ops [
 ⟨(some 5), none, .mov (.t 1)⟩,
 ⟨(some 6), none, .mov (.t 0)⟩,
 ⟨(some 7), none, .bin .sub .no (.t 6) (.c (.int .u8 48))⟩,
 ⟨(some 8), none, .conv .i64 (.t 7)⟩,
 ⟨(some 9), none, .bin .xor .no (.t 5) (.t 8)⟩,
 ⟨(some 4), none, .mov (.t 9)⟩] [4])
 .ret)),
 [.tmp 4]⟩

/-- bellpull/patch.isMultigraph$1 -/
noncomputable def sf51 : SFun := ⟨[0, 1, 2, 3, 4], 19,
 (.seq
 (.ops [
 ⟨(some 3), none, .box (.t 0)⟩,
 ⟨(some 4), none, .mov (.c (.bool false))⟩] [3, 4])
 (.seq
 (.ops [
 ⟨(some 5), none, .fa 0 (.t 3)⟩,
 ⟨(some 6), none, .load none (.t 5)⟩,
 ⟨(some 7), none, .load none (.t 1)⟩,
 ⟨(some 8), none, .bin .sub .no (.t 7) (.c (.int .i64 1))⟩,
 ⟨(some 9), none, .call (.c (.fn (.func 26) [] [])) [(.t 6), (.c (.int .i64 0)), (.t 8)]⟩,
 ⟨(some 10), none, .not (.t 9)⟩,
 ⟨(some 11), none, .mov (.t 10)⟩,
 ⟨(some 12), (some (11, false)), .fa 1 (.t 3)⟩,
 ⟨(some 13), (some (11, false)), .load none (.t 12)⟩,
 ⟨(some 14), (some (11, false)), .load none (.t 2)⟩,
 ⟨(some 15), (some (11, false)), .bin .sub .no (.t 14) (.c (.int .i64 1))⟩,
 ⟨(some 16), (some (11, false)), .call (.c (.fn (.func 26) [] [])) [(.t 13), (.c (.int .i64 0)), (.t 15)]⟩,
 ⟨(some 17), (some (11, false)), .not (.t 16)⟩,
 ⟨(some 18), none, .pick (.t 11) (.c (.bool true)) (.t 17)⟩,
 ⟨(some 4), none, .mov (.t 18)⟩] [4])
 .ret)),
 [.tmp 4]⟩

/-- slices.Max[[]int,int] -/
noncomputable def sf52 : SFun := ⟨[0, 2, 3, 4, 7, 15], 25,
 (.seq
 (.ops [
 ⟨(some 2), none, .mov (.c (.int .i64 0))⟩] [2])
 (.seq
 (.seq
 (.ops [
 ⟨(some 5), none, .mov (.t 0)⟩,
 ⟨(some 6), none, .lenS (.t 5)⟩,
 ⟨(some 7), none, .bin .lss .no (.t 6) (.c (.int .i64 1))⟩] [7])
 (.cond (.t 7)
 (.ops [
 ⟨(some 8), none, .bad⟩,
 ⟨none, none, .bad⟩] [])
 .skip))
 (.seq
 (.ops [
 ⟨(some 9), none, .mov (.t 0)⟩,
 ⟨(some 10), none, .ixS 1 (.t 9) (.c (.int .i64 0))⟩,
 ⟨(some 11), none, .load none (.t 10)⟩,
 ⟨(some 3), none, .mov (.t 11)⟩] [3])
 (.seq
 (.seq
 (.ops [
 ⟨(some 4), none, .mov (.c (.int .i64 1))⟩] [4])
 (.block 0
 (.loop
 (.seq
 (.seq
 (.ops [
 ⟨(some 12), none, .mov (.t 4)⟩,
 ⟨(some 13), none, .mov (.t 0)⟩,
 ⟨(some 14), none, .lenS (.t 13)⟩,
 ⟨(some 15), none, .bin .lss .no (.t 12) (.t 14)⟩] [15])
 (.cond (.t 15)
 .skip
 (.exit 0)))
 (.seq
 (.block 1
 (.ops [
 ⟨(some 18), none, .mov (.t 3)⟩,
 ⟨(some 19), none, .mov (.t 0)⟩,
 ⟨(some 20), none, .mov (.t 4)⟩,
 ⟨(some 21), none, .ixS 1 (.t 19) (.t 20)⟩,
 ⟨(some 22), none, .load none (.t 21)⟩,
 ⟨(some 23), none, .mx (.t 18) (.t 22)⟩,
 ⟨(some 3), none, .mov (.t 23)⟩] [3]))
 (.ops [
 ⟨(some 16), none, .mov (.t 4)⟩,
 ⟨(some 17), none, .bin .add .no (.t 16) (.c (.int .i64 1))⟩,
 ⟨(some 4), none, .mov (.t 17)⟩] [4]))))))
 (.seq
 (.ops [
 ⟨(some 24), none, .mov (.t 3)⟩,
 ⟨(some 2), none, .mov (.t 24)⟩] [2])
 .ret))))),
 [.tmp 2]⟩

/-- slices.Index[[]int,int] -/
noncomputable def sf53 : SFun := ⟨[0, 1, 4, 5, 7, 8, 9, 16], 19,
 (.seq
 (.ops [
 ⟨(some 4), none, .mov (.c (.int .i64 0))⟩] [4])
 (.seq
 (.seq
 (.ops [
 ⟨(some 6), none, .mov (.t 0)⟩,
 ⟨(some 7), none, .lenS (.t 6)⟩,
 ⟨(some 8), none, .mov (.c (.int .i64 0))⟩] [7, 8])
 (.block 0
 (.loop
 (.seq
 (.ops [
 ⟨(some 9), none, .bin .lss .no (.t 8) (.t 7)⟩] [9])
 (.seq
 (.cond (.t 9)
 .skip
 (.exit 0))
 (.seq
 (.block 1
 (.seq
 (.ops [
 ⟨(some 10), none, .mov (.t 8)⟩,
 ⟨(some 5), none, .mov (.t 10)⟩] [5])
 (.seq
 (.ops [
 ⟨(some 11), none, .mov (.t 1)⟩,
 ⟨(some 12), none, .mov (.t 0)⟩,
 ⟨(some 13), none, .mov (.t 5)⟩,
 ⟨(some 14), none, .ixS 1 (.t 12) (.t 13)⟩,
 ⟨(some 15), none, .load none (.t 14)⟩,
 ⟨(some 16), none, .bin .eql .no (.t 11) (.t 15)⟩] [16])
 (.cond (.t 16)
 (.seq
 (.ops [
 ⟨(some 17), none, .mov (.t 5)⟩,
 ⟨(some 4), none, .mov (.t 17)⟩] [4])
 .ret)
 .skip))))
 (.ops [
 ⟨(some 18), none, .bin .add .no (.t 8) (.c (.int .i64 1))⟩,
 ⟨(some 8), none, .mov (.t 18)⟩] [8])))))))
 (.seq
 (.ops [
 ⟨(some 4), none, .mov (.c (.int .i64 (-1)))⟩] [4])
 .ret))),
 [.tmp 4]⟩

/-- strings.trimLeftByte -/
noncomputable def sf54 : SFun := ⟨[0, 1, 4, 13], 17,
 (.seq
 (.ops [
 ⟨(some 4), none, .mov (.c (.str []))⟩] [4])
 (.seq
 (.block 0
 (.loop
 (.seq
 (.seq
 (.ops [
 ⟨(some 5), none, .mov (.t 0)⟩,
 ⟨(some 6), none, .lenT (.t 5)⟩,
 ⟨(some 7), none, .bin .gtr .no (.t 6) (.c (.int .i64 0))⟩,
 ⟨(some 8), none, .mov (.t 7)⟩,
 ⟨(some 9), (some (8, true)), .mov (.t 0)⟩,
 ⟨(some 10), (some (8, true)), .ixT (.t 9) (.c (.int .i64 0))⟩,
 ⟨(some 11), (some (8, true)), .mov (.t 1)⟩,
 ⟨(some 12), (some (8, true)), .bin .eql .no (.t 10) (.t 11)⟩,
 ⟨(some 13), none, .pick (.t 8) (.t 12) (.c (.bool false))⟩] [13])
 (.cond (.t 13)
 .skip
 (.exit 0)))
 (.block 1
 (.ops [
 ⟨(some 14), none, .mov (.t 0)⟩,
 ⟨(some 15), none, .slT (.t 14) (some (.c (.int .i64 1))) none⟩,
 ⟨(some 0), none, .mov (.t 15)⟩] [0])))))
 (.seq
 (.ops [
 ⟨(some 16), none, .mov (.t 0)⟩,
 ⟨(some 4), none, .mov (.t 16)⟩] [4])
 .ret))),
 [.tmp 4]⟩

/-- strings.trimRightByte -/
noncomputable def sf55 : SFun := ⟨[0, 1, 4, 16], 23,
 (.seq
 (.ops [
 ⟨(some 4), none, .mov (.c (.str []))⟩] [4])
 (.seq
 (.block 0
 (.loop
 (.seq
 (.seq
 (.ops [
 ⟨(some 5), none, .mov (.t 0)⟩,
 ⟨(some 6), none, .lenT (.t 5)⟩,
 ⟨(some 7), none, .bin .gtr .no (.t 6) (.c (.int .i64 0))⟩,
 ⟨(some 8), none, .mov (.t 7)⟩,
 ⟨(some 9), (some (8, true)), .mov (.t 0)⟩,
 ⟨(some 10), (some (8, true)), .mov (.t 0)⟩,
 ⟨(some 11), (some (8, true)), .lenT (.t 10)⟩,
 ⟨(some 12), (some (8, true)), .bin .sub .no (.t 11) (.c (.int .i64 1))⟩,
 ⟨(some 13), (some (8, true)), .ixT (.t 9) (.t 12)⟩,
 ⟨(some 14), (some (8, true)), .mov (.t 1)⟩,
 ⟨(some 15), (some (8, true)), .bin .eql .no (.t 13) (.t 14)⟩,
 ⟨(some 16), none, .pick (.t 8) (.t 15) (.c (.bool false))⟩] [16])
 (.cond (.t 16)
 .skip
 (.exit 0)))
 (.block 1
 (.ops [
 ⟨(some 17), none, .mov (.t 0)⟩,
 ⟨(some 18), none, .mov (.t 0)⟩,
 ⟨(some 19), none, .lenT (.t 18)⟩,
 ⟨(some 20), none, .bin .sub .no (.t 19) (.c (.int .i64 1))⟩,
 ⟨(some 21), none, .slT (.t 17) none (some (.t 20))⟩,
 ⟨(some 0), none, .mov (.t 21)⟩] [0])))))
 (.seq
 (.ops [
 ⟨(some 22), none, .mov (.t 0)⟩,
 ⟨(some 4), none, .mov (.t 22)⟩] [4])
 .ret))),
 [.tmp 4]⟩

/-- strings.makeASCIISet -/
noncomputable def sf56 : SFun := ⟨[0, 2, 3, 4, 5, 9, 16], 21,
 (.seq
 (.ops [
 ⟨(some 2), none, .new [(.bool false), (.bool false), (.bool false), (.bool false), (.bool false), (.bool false), (.bool false), (.bool false), (.bool false), (.bool false), (.bool false), (.bool false), (.bool false), (.bool false), (.bool false), (.bool false), (.bool false), (.bool false), (.bool false), (.bool false), (.bool false), (.bool false), (.bool false), (.bool false), (.bool false), (.bool false), (.bool false), (.bool false), (.bool false), (.bool false), (.bool false), (.bool false), (.bool false), (.bool false), (.bool false), (.bool false), (.bool false), (.bool false), (.bool false), (.bool false), (.bool false), (.bool false), (.bool false), (.bool false), (.bool false), (.bool false), (.bool false), (.bool false), (.bool false), (.bool false), (.bool false), (.bool false), (.bool false), (.bool false), (.bool false), (.bool false), (.bool false), (.bool false), (.bool false), (.bool false), (.bool false), (.bool false), (.bool false), (.bool false), (.bool false), (.bool false), (.bool false), (.bool false), (.bool false), (.bool false), (.bool false), (.bool false), (.bool false), (.bool false), (.bool false), (.bool false), (.bool false), (.bool false), (.bool false), (.bool false), (.bool false), (.bool false), (.bool false), (.bool false), (.bool false), (.bool false), (.bool false), (.bool false), (.bool false), (.bool false), (.bool false), (.bool false), (.bool false), (.bool false), (.bool false), (.bool false), (.bool false), (.bool false), (.bool false), (.bool false), (.bool false), (.bool false), (.bool false), (.bool false), (.bool false), (.bool false), (.bool false), (.bool false), (.bool false), (.bool false), (.bool false), (.bool false), (.bool false), (.bool false), (.bool false), (.bool false), (.bool false), (.bool false), (.bool false), (.bool false), (.bool false), (.bool false), (.bool false), (.bool false), (.bool false), (.bool false), (.bool false), (.bool false), (.bool false), (.bool false), (.bool false), (.bool false), (.bool false), (.bool false), (.bool false), (.bool false), (.bool false), (.bool false), (.bool false), (.bool false), (.bool false), (.bool false), (.bool false), (.bool false), (.bool false), (.bool false), (.bool false), (.bool false), (.bool false), (.bool false), (.bool false), (.bool false), (.bool false), (.bool false), (.bool false), (.bool false), (.bool false), (.bool false), (.bool false), (.bool false), (.bool false), (.bool false), (.bool false), (.bool false), (.bool false), (.bool false), (.bool false), (.bool false), (.bool false), (.bool false), (.bool false), (.bool false), (.bool false), (.bool false), (.bool false), (.bool false), (.bool false), (.bool false), (.bool false), (.bool false), (.bool false), (.bool false), (.bool false), (.bool false), (.bool false), (.bool false), (.bool false), (.bool false), (.bool false), (.bool false), (.bool false), (.bool false), (.bool false), (.bool false), (.bool false), (.bool false), (.bool false), (.bool false), (.bool false), (.bool false), (.bool false), (.bool false), (.bool false), (.bool false), (.bool false), (.bool false), (.bool false), (.bool false), (.bool false), (.bool false), (.bool false), (.bool false), (.bool false), (.bool false), (.bool false), (.bool false), (.bool false), (.bool false), (.bool false), (.bool false), (.bool false), (.bool false), (.bool false), (.bool false), (.bool false), (.bool false), (.bool false), (.bool false), (.bool false), (.bool false), (.bool false), (.bool false), (.bool false), (.bool false), (.bool false), (.bool false), (.bool false), (.bool false), (.bool false), (.bool false), (.bool false), (.bool false), (.bool false), (.bool false), (.bool false), (.bool false), (.bool false), (.bool false), (.bool false), (.bool false), (.bool false), (.bool false), (.bool false), (.bool false), (.bool false), (.bool false)]⟩,
 ⟨(some 3), none, .mov (.c (.bool false))⟩] [2, 3])
 (.seq
 (.seq
 (.ops [
 ⟨(some 4), none, .mov (.c (.int .i64 0))⟩] [4])
 (.block 0
 (.loop
 (.seq
 (.seq
 (.ops [
 ⟨(some 6), none, .mov (.t 4)⟩,
 ⟨(some 7), none, .mov (.t 0)⟩,
 ⟨(some 8), none, .lenT (.t 7)⟩,
 ⟨(some 9), none, .bin .lss .no (.t 6) (.t 8)⟩] [9])
 (.cond (.t 9)
 .skip
 (.exit 0)))
 (.seq
 (.block 1
 (.seq
 (.ops [
 ⟨(some 12), none, .mov (.t 0)⟩,
 ⟨(some 13), none, .mov (.t 4)⟩,
 ⟨(some 14), none, .ixT (.t 12) (.t 13)⟩,
 ⟨(some 5), none, .mov (.t 14)⟩] [5])
 (.seq
 (.seq
 (.ops [
 ⟨(some 15), none, .mov (.t 5)⟩,
 ⟨(some 16), none, .bin .geq .no (.t 15) (.c (.int .u8 128))⟩] [16])
 (.cond (.t 16)
 (.seq
 (.ops [
 ⟨(some 17), none, .load (some 256) (.t 2)⟩,
 ⟨none, none, .store 256 (.t 2) (.t 17)⟩,
 ⟨(some 3), none, .mov (.c (.bool false))⟩] [3])
 .ret)
 .skip))
 (.ops [
 ⟨(some 18), none, .mov (.t 5)⟩,
 ⟨(some 19), none, .ixA 256 1 (.t 2) (.t 18)⟩,
 ⟨none, none, .store 1 (.t 19) (.c (.bool true))⟩] []))))
 (.ops [
 ⟨(some 10), none, .mov (.t 4)⟩,
 ⟨(some 11), none, .bin .add .no (.t 10) (.c (.int .i64 1))⟩,
 ⟨(some 4), none, .mov (.t 11)⟩] [4]))))))
 (.seq
 (.ops [
 ⟨(some 20), none, .load (some 256) (.t 2)⟩,
 ⟨none, none, .store 256 (.t 2) (.t 20)⟩,
 ⟨(some 3), none, .mov (.c (.bool true))⟩] [3])
 .ret))),
 [.cell 2 (some 256), .tmp 3]⟩

/-- strings.trimLeftASCII -/
noncomputable def sf57 : SFun := ⟨[0, 1, 4, 7, 12], 16,
 (.seq
 (.ops [
 ⟨(some 4), none, .mov (.c (.str []))⟩] [4])
 (.seq
 (.block 0
 (.loop
 (.seq
 (.seq
 (.ops [
 ⟨(some 5), none, .mov (.t 0)⟩,
 ⟨(some 6), none, .lenT (.t 5)⟩,
 ⟨(some 7), none, .bin .gtr .no (.t 6) (.c (.int .i64 0))⟩] [7])
 (.cond (.t 7)
 .skip
 (.exit 0)))
 (.block 1
 (.seq
 (.seq
 (.ops [
 ⟨(some 8), none, .mov (.t 1)⟩,
 ⟨(some 9), none, .mov (.t 0)⟩,
 ⟨(some 10), none, .ixT (.t 9) (.c (.int .i64 0))⟩,
 ⟨(some 11), none, .call (.c (.fn (.func 61) [] [])) [(.t 8), (.t 10)]⟩,
 ⟨(some 12), none, .not (.t 11)⟩] [12])
 (.cond (.t 12)
 (.exit 0)
 .skip))
 (.ops [
 ⟨(some 13), none, .mov (.t 0)⟩,
 ⟨(some 14), none, .slT (.t 13) (some (.c (.int .i64 1))) none⟩,
 ⟨(some 0), none, .mov (.t 14)⟩] [0]))))))
 (.seq
 (.ops [
 ⟨(some 15), none, .mov (.t 0)⟩,
 ⟨(some 4), none, .mov (.t 15)⟩] [4])
 .ret))),
 [.tmp 4]⟩

/-- strings.trimRightASCII -/
noncomputable def sf58 : SFun := ⟨[0, 1, 4, 7, 15], 22,
 (.seq
 (.ops [
 ⟨(some 4), none, .mov (.c (.str []))⟩] [4])
 (.seq
 (.block 0
 (.loop
 (.seq
 (.seq
 (.ops [
 ⟨(some 5), none, .mov (.t 0)⟩,
 ⟨(some 6), none, .lenT (.t 5)⟩,
 ⟨(some 7), none, .bin .gtr .no (.t 6) (.c (.int .i64 0))⟩] [7])
 (.cond (.t 7)
 .skip
 (.exit 0)))
 (.block 1
 (.seq
 (.seq
 (.ops [
 ⟨(some 8), none, .mov (.t 1)⟩,
 ⟨(some 9), none, .mov (.t 0)⟩,
 ⟨(some 10), none, .mov (.t 0)⟩,
 ⟨(some 11), none, .lenT (.t 10)⟩,
 ⟨(some 12), none, .bin .sub .no (.t 11) (.c (.int .i64 1))⟩,
 ⟨(some 13), none, .ixT (.t 9) (.t 12)⟩,
 ⟨(some 14), none, .call (.c (.fn (.func 61) [] [])) [(.t 8), (.t 13)]⟩,
 ⟨(some 15), none, .not (.t 14)⟩] [15])
 (.cond (.t 15)
 (.exit 0)
 .skip))
 (.ops [
 ⟨(some 16), none, .mov (.t 0)⟩,
 ⟨(some 17), none, .mov (.t 0)⟩,
 ⟨(some 18), none, .lenT (.t 17)⟩,
 ⟨(some 19), none, .bin .sub .no (.t 18) (.c (.int .i64 1))⟩,
 ⟨(some 20), none, .slT (.t 16) none (some (.t 19))⟩,
 ⟨(some 0), none, .mov (.t 20)⟩] [0]))))))
 (.seq
 (.ops [
 ⟨(some 21), none, .mov (.t 0)⟩,
 ⟨(some 4), none, .mov (.t 21)⟩] [4])
 .ret))),
 [.tmp 4]⟩

/-- strings.trimLeftUnicode -/
noncomputable def sf59 : SFun := ⟨[0, 1, 4, 5, 6, 9, 18], 23,
 (.seq
 (.ops [
 ⟨(some 4), none, .mov (.c (.str []))⟩] [4])
 (.seq
 (.block 0
 (.loop
 (.seq
 (.seq
 (.ops [
 ⟨(some 7), none, .mov (.t 0)⟩,
 ⟨(some 8), none, .lenT (.t 7)⟩,
 ⟨(some 9), none, .bin .gtr .no (.t 8) (.c (.int .i64 0))⟩] [9])
 (.cond (.t 9)
 .skip
 (.exit 0)))
 (.block 1
 (.seq
 (.ops [
 ⟨(some 11), none, .mov (.t 0)⟩,
 ⟨(some 12), none, .call (.c (.fn (.func 62) [] [])) [(.t 11)]⟩,
 ⟨(some 10), none, .mov (.t 12)⟩,
 ⟨(some 13), none, .ext (.t 10) 0⟩,
 ⟨(some 14), none, .ext (.t 10) 1⟩,
 ⟨(some 5), none, .mov (.t 13)⟩,
 ⟨(some 6), none, .mov (.t 14)⟩] [5, 6])
 (.seq
 (.seq
 (.ops [
 ⟨(some 15), none, .mov (.t 1)⟩,
 ⟨(some 16), none, .mov (.t 5)⟩,
 ⟨(some 17), none, .call (.c (.fn (.func 63) [] [])) [(.t 15), (.t 16)]⟩,
 ⟨(some 18), none, .not (.t 17)⟩] [18])
 (.cond (.t 18)
 (.exit 0)
 .skip))
 (.ops [
 ⟨(some 19), none, .mov (.t 0)⟩,
 ⟨(some 20), none, .mov (.t 6)⟩,
 ⟨(some 21), none, .slT (.t 19) (some (.t 20)) none⟩,
 ⟨(some 0), none, .mov (.t 21)⟩] [0])))))))
 (.seq
 (.ops [
 ⟨(some 22), none, .mov (.t 0)⟩,
 ⟨(some 4), none, .mov (.t 22)⟩] [4])
 .ret))),
 [.tmp 4]⟩

/-- strings.trimRightUnicode -/
noncomputable def sf60 : SFun := ⟨[0, 1, 4, 5, 6, 9, 17, 26], 34,
 (.seq
 (.ops [
 ⟨(some 4), none, .mov (.c (.str []))⟩] [4])
 (.seq
 (.block 0
 (.loop
 (.seq
 (.seq
 (.ops [
 ⟨(some 7), none, .mov (.t 0)⟩,
 ⟨(some 8), none, .lenT (.t 7)⟩,
 ⟨(some 9), none, .bin .gtr .no (.t 8) (.c (.int .i64 0))⟩] [9])
 (.cond (.t 9)
 .skip
 (.exit 0)))
 (.block 1
 (.seq
 (.ops [
 ⟨(some 10), none, .mov (.t 0)⟩,
 ⟨(some 11), none, .mov (.t 0)⟩,
 ⟨(some 12), none, .lenT (.t 11)⟩,
 ⟨(some 13), none, .bin .sub .no (.t 12) (.c (.int .i64 1))⟩,
 ⟨(some 14), none, .ixT (.t 10) (.t 13)⟩,
 ⟨(some 15), none, .conv .i32 (.t 14)⟩,
 ⟨(some 5), none, .mov (.t 15)⟩,
 ⟨(some 6), none, .mov (.c (.int .i64 1))⟩] [5, 6])
 (.seq
 (.seq
 (.ops [
 ⟨(some 16), none, .mov (.t 5)⟩,
 ⟨(some 17), none, .bin .geq .no (.t 16) (.c (.int .i32 128))⟩] [17])
 (.cond (.t 17)
 (.ops [
 ⟨(some 19), none, .mov (.t 0)⟩,
 ⟨(some 20), none, .call (.c (.fn (.func 64) [] [])) [(.t 19)]⟩,
 ⟨(some 18), none, .mov (.t 20)⟩,
 ⟨(some 21), none, .ext (.t 18) 0⟩,
 ⟨(some 22), none, .ext (.t 18) 1⟩,
 ⟨(some 5), none, .mov (.t 21)⟩,
 ⟨(some 6), none, .mov (.t 22)⟩] [5, 6])
 .skip))
 (.seq
 (.seq
 (.ops [
 ⟨(some 23), none, .mov (.t 1)⟩,
 ⟨(some 24), none, .mov (.t 5)⟩,
 ⟨(some 25), none, .call (.c (.fn (.func 63) [] [])) [(.t 23), (.t 24)]⟩,
 ⟨(some 26), none, .not (.t 25)⟩] [26])
 (.cond (.t 26)
 (.exit 0)
 .skip))
 (.ops [
 ⟨(some 27), none, .mov (.t 0)⟩,
 ⟨(some 28), none, .mov (.t 0)⟩,
 ⟨(some 29), none, .lenT (.t 28)⟩,
 ⟨(some 30), none, .mov (.t 6)⟩,
 ⟨(some 31), none, .bin .sub .no (.t 29) (.t 30)⟩,
 ⟨(some 32), none, .slT (.t 27) none (some (.t 31))⟩,
 ⟨(some 0), none, .mov (.t 32)⟩] [0]))))))))
 (.seq
 (.ops [
 ⟨(some 33), none, .mov (.t 0)⟩,
 ⟨(some 4), none, .mov (.t 33)⟩] [4])
 .ret))),
 [.tmp 4]⟩

/-- (*strings.asciiSet).contains -/
noncomputable def sf61 : SFun := ⟨[0, 1, 4], 10,
 (.seq
 (.ops [
 ⟨(some 4), none, .mov (.c (.bool false))⟩] [4])
 (.seq
 (.ops [
 ⟨(some 5), none, .mov (.t 0)⟩,
 ⟨(some 6), none, .mov (.t 1)⟩,
 ⟨(some 7), none, .nilCheck (.t 5)⟩,
 ⟨(some 8), none, .ixA 256 1 (.t 7) (.t 6)⟩,
 ⟨(some 9), none, .load none (.t 8)⟩,
 ⟨(some 4), none, .mov (.t 9)⟩] [4])
 .ret)),
 [.tmp 4]⟩

/-- unicode/utf8.DecodeRuneInString -/
noncomputable def sf62 : SFun := ⟨[0, 2, 3, 10], 19,
 (.seq
 (.ops [
 ⟨(some 2), none, .mov (.c (.int .i32 0))⟩,
 ⟨(some 3), none, .mov (.c (.int .i64 0))⟩] [2, 3])
 (.seq
 (.seq
 (.ops [
 ⟨(some 4), none, .mov (.t 0)⟩,
 ⟨(some 5), none, .bin .neq .str (.t 4) (.c (.str []))⟩,
 ⟨(some 6), none, .mov (.t 5)⟩,
 ⟨(some 7), (some (6, true)), .mov (.t 0)⟩,
 ⟨(some 8), (some (6, true)), .ixT (.t 7) (.c (.int .i64 0))⟩,
 ⟨(some 9), (some (6, true)), .bin .lss .no (.t 8) (.c (.int .u8 128))⟩,
 ⟨(some 10), none, .pick (.t 6) (.t 9) (.c (.bool false))⟩] [10])
 (.cond (.t 10)
 (.seq
 (.ops [
 ⟨(some 11), none, .mov (.t 0)⟩,
 ⟨(some 12), none, .ixT (.t 11) (.c (.int .i64 0))⟩,
 ⟨(some 13), none, .conv .i32 (.t 12)⟩,
 ⟨(some 2), none, .mov (.t 13)⟩,
 ⟨(some 3), none, .mov (.c (.int .i64 1))⟩] [2, 3])
 .ret)
 (.ops [
 ⟨(some 15), none, .mov (.t 0)⟩,
 ⟨(some 16), none, .call (.c (.fn (.func 65) [] [])) [(.t 15)]⟩,
 ⟨(some 14), none, .mov (.t 16)⟩,
 ⟨(some 17), none, .ext (.t 14) 0⟩,
 ⟨(some 18), none, .ext (.t 14) 1⟩,
 ⟨(some 2), none, .mov (.t 17)⟩,
 ⟨(some 3), none, .mov (.t 18)⟩] [2, 3])))
 .ret)),
 [.tmp 2, .tmp 3]⟩

/-- strings.ContainsRune -/
noncomputable def sf63 : SFun := ⟨[0, 1, 4], 9,
 (.seq
 (.ops [
 ⟨(some 4), none, .mov (.c (.bool false))⟩] [4])
 (.seq
 (.ops [
 ⟨(some 5), none, .mov (.t 0)⟩,
 ⟨(some 6), none, .mov (.t 1)⟩,
 ⟨(some 7), none, .call (.c (.fn (.func 66) [] [])) [(.t 5), (.t 6)]⟩,
 ⟨(some 8), none, .bin .geq .no (.t 7) (.c (.int .i64 0))⟩,
 ⟨(some 4), none, .mov (.t 8)⟩] [4])
 .ret)),
 [.tmp 4]⟩

/-- unicode/utf8.DecodeLastRuneInString -/
noncomputable def sf64 : SFun := ⟨[0, 2, 3, 4, 5, 6, 10, 18, 27, 33, 35, 48], 51,
 (.seq
 (.ops [
 ⟨(some 2), none, .mov (.c (.int .i32 0))⟩,
 ⟨(some 3), none, .mov (.c (.int .i64 0))⟩] [2, 3])
 (.seq
 (.ops [
 ⟨(some 7), none, .mov (.t 0)⟩,
 ⟨(some 8), none, .lenT (.t 7)⟩,
 ⟨(some 4), none, .mov (.t 8)⟩] [4])
 (.seq
 (.seq
 (.ops [
 ⟨(some 9), none, .mov (.t 4)⟩,
 ⟨(some 10), none, .bin .eql .no (.t 9) (.c (.int .i64 0))⟩] [10])
 (.cond (.t 10)
 (.seq
 (.ops [
 ⟨(some 2), none, .mov (.c (.int .i32 65533))⟩,
 ⟨(some 3), none, .mov (.c (.int .i64 0))⟩] [2, 3])
 .ret)
 .skip))
 (.seq
 (.ops [
 ⟨(some 11), none, .mov (.t 4)⟩,
 ⟨(some 12), none, .bin .sub .no (.t 11) (.c (.int .i64 1))⟩,
 ⟨(some 5), none, .mov (.t 12)⟩] [5])
 (.seq
 (.ops [
 ⟨(some 13), none, .mov (.t 0)⟩,
 ⟨(some 14), none, .mov (.t 5)⟩,
 ⟨(some 15), none, .ixT (.t 13) (.t 14)⟩,
 ⟨(some 16), none, .conv .i32 (.t 15)⟩,
 ⟨(some 2), none, .mov (.t 16)⟩] [2])
 (.seq
 (.seq
 (.ops [
 ⟨(some 17), none, .mov (.t 2)⟩,
 ⟨(some 18), none, .bin .lss .no (.t 17) (.c (.int .i32 128))⟩] [18])
 (.cond (.t 18)
 (.seq
 (.ops [
 ⟨(some 19), none, .mov (.t 2)⟩,
 ⟨(some 2), none, .mov (.t 19)⟩,
 ⟨(some 3), none, .mov (.c (.int .i64 1))⟩] [2, 3])
 .ret)
 .skip))
 (.seq
 (.ops [
 ⟨(some 20), none, .mov (.t 4)⟩,
 ⟨(some 21), none, .bin .sub .no (.t 20) (.c (.int .i64 4))⟩,
 ⟨(some 22), none, .mx (.t 21) (.c (.int .i64 0))⟩,
 ⟨(some 6), none, .mov (.t 22)⟩] [6])
 (.seq
 (.seq
 (.ops [
 ⟨(some 23), none, .mov (.t 5)⟩,
 ⟨(some 24), none, .bin .sub .no (.t 23) (.c (.int .i64 1))⟩,
 ⟨(some 5), none, .mov (.t 24)⟩] [5])
 (.block 0
 (.loop
 (.seq
 (.seq
 (.ops [
 ⟨(some 25), none, .mov (.t 5)⟩,
 ⟨(some 26), none, .mov (.t 6)⟩,
 ⟨(some 27), none, .bin .geq .no (.t 25) (.t 26)⟩] [27])
 (.cond (.t 27)
 .skip
 (.exit 0)))
 (.seq
 (.block 1
 (.seq
 (.ops [
 ⟨(some 30), none, .mov (.t 0)⟩,
 ⟨(some 31), none, .mov (.t 5)⟩,
 ⟨(some 32), none, .ixT (.t 30) (.t 31)⟩,
 ⟨(some 33), none, .call (.c (.fn (.func 67) [] [])) [(.t 32)]⟩] [33])
 (.cond (.t 33)
 (.exit 0)
 .skip)))
 (.ops [
 ⟨(some 28), none, .mov (.t 5)⟩,
 ⟨(some 29), none, .bin .sub .no (.t 28) (.c (.int .i64 1))⟩,
 ⟨(some 5), none, .mov (.t 29)⟩] [5]))))))
 (.seq
 (.seq
 (.ops [
 ⟨(some 34), none, .mov (.t 5)⟩,
 ⟨(some 35), none, .bin .lss .no (.t 34) (.c (.int .i64 0))⟩] [35])
 (.cond (.t 35)
 (.ops [
 ⟨(some 5), none, .mov (.c (.int .i64 0))⟩] [5])
 .skip))
 (.seq
 (.ops [
 ⟨(some 37), none, .mov (.t 0)⟩,
 ⟨(some 38), none, .mov (.t 5)⟩,
 ⟨(some 39), none, .mov (.t 4)⟩,
 ⟨(some 40), none, .slT (.t 37) (some (.t 38)) (some (.t 39))⟩,
 ⟨(some 41), none, .call (.c (.fn (.func 62) [] [])) [(.t 40)]⟩,
 ⟨(some 36), none, .mov (.t 41)⟩,
 ⟨(some 42), none, .ext (.t 36) 0⟩,
 ⟨(some 43), none, .ext (.t 36) 1⟩,
 ⟨(some 2), none, .mov (.t 42)⟩,
 ⟨(some 3), none, .mov (.t 43)⟩] [2, 3])
 (.seq
 (.seq
 (.ops [
 ⟨(some 44), none, .mov (.t 5)⟩,
 ⟨(some 45), none, .mov (.t 3)⟩,
 ⟨(some 46), none, .bin .add .no (.t 44) (.t 45)⟩,
 ⟨(some 47), none, .mov (.t 4)⟩,
 ⟨(some 48), none, .bin .neq .no (.t 46) (.t 47)⟩] [48])
 (.cond (.t 48)
 (.seq
 (.ops [
 ⟨(some 2), none, .mov (.c (.int .i32 65533))⟩,
 ⟨(some 3), none, .mov (.c (.int .i64 1))⟩] [2, 3])
 .ret)
 .skip))
 (.seq
 (.ops [
 ⟨(some 49), none, .mov (.t 2)⟩,
 ⟨(some 50), none, .mov (.t 3)⟩,
 ⟨(some 2), none, .mov (.t 49)⟩,
 ⟨(some 3), none, .mov (.t 50)⟩] [2, 3])
 .ret)))))))))))),
 [.tmp 2, .tmp 3]⟩

/-- unicode/utf8.decodeRuneInStringSlow -/
noncomputable def sf65 : SFun := ⟨[0, 2, 3, 4, 5, 6, 7, 8, 9, 10, 11, 12, 16, 23, 45, 57, 59, 75, 77, 98], 117,
 (.seq
 (.ops [
 ⟨(some 2), none, .mov (.c (.int .i32 0))⟩,
 ⟨(some 3), none, .mov (.c (.int .i64 0))⟩] [2, 3])
 (.seq
 (.ops [
 ⟨(some 13), none, .mov (.t 0)⟩,
 ⟨(some 14), none, .lenT (.t 13)⟩,
 ⟨(some 4), none, .mov (.t 14)⟩] [4])
 (.seq
 (.seq
 (.ops [
 ⟨(some 15), none, .mov (.t 4)⟩,
 ⟨(some 16), none, .bin .lss .no (.t 15) (.c (.int .i64 1))⟩] [16])
 (.cond (.t 16)
 (.seq
 (.ops [
 ⟨(some 2), none, .mov (.c (.int .i32 65533))⟩,
 ⟨(some 3), none, .mov (.c (.int .i64 0))⟩] [2, 3])
 .ret)
 .skip))
 (.seq
 (.ops [
 ⟨(some 17), none, .mov (.t 0)⟩,
 ⟨(some 18), none, .ixT (.t 17) (.c (.int .i64 0))⟩,
 ⟨(some 5), none, .mov (.t 18)⟩] [5])
 (.seq
 (.ops [
 ⟨(some 19), none, .mov (.t 5)⟩,
 ⟨(some 20), none, .ixA 256 1 (.c .any) (.t 19)⟩,
 ⟨(some 21), none, .load none (.t 20)⟩,
 ⟨(some 6), none, .mov (.t 21)⟩] [6])
 (.seq
 (.seq
 (.ops [
 ⟨(some 22), none, .mov (.t 6)⟩,
 ⟨(some 23), none, .bin .geq .no (.t 22) (.c (.int .u8 240))⟩] [23])
 (.cond (.t 23)
 (.seq
 (.ops [
 ⟨(some 24), none, .mov (.t 6)⟩,
 ⟨(some 25), none, .conv .i32 (.t 24)⟩,
 ⟨(some 26), none, .bin .shl .no (.t 25) (.c (.int .u64 31))⟩,
 ⟨(some 27), none, .bin .shr .no (.t 26) (.c (.int .u64 31))⟩,
 ⟨(some 7), none, .mov (.t 27)⟩] [7])
 (.seq
 (.ops [
 ⟨(some 28), none, .mov (.t 0)⟩,
 ⟨(some 29), none, .ixT (.t 28) (.c (.int .i64 0))⟩,
 ⟨(some 30), none, .conv .i32 (.t 29)⟩,
 ⟨(some 31), none, .mov (.t 7)⟩,
 ⟨(some 32), none, .bin .andNot .no (.t 30) (.t 31)⟩,
 ⟨(some 33), none, .mov (.t 7)⟩,
 ⟨(some 34), none, .bin .and .no (.c (.int .i32 65533)) (.t 33)⟩,
 ⟨(some 35), none, .bin .or .no (.t 32) (.t 34)⟩,
 ⟨(some 2), none, .mov (.t 35)⟩,
 ⟨(some 3), none, .mov (.c (.int .i64 1))⟩] [2, 3])
 .ret))
 .skip))
 (.seq
 (.ops [
 ⟨(some 36), none, .mov (.t 6)⟩,
 ⟨(some 37), none, .bin .and .no (.t 36) (.c (.int .u8 7))⟩,
 ⟨(some 38), none, .conv .i64 (.t 37)⟩,
 ⟨(some 8), none, .mov (.t 38)⟩] [8])
 (.seq
 (.ops [
 ⟨(some 39), none, .mov (.t 6)⟩,
 ⟨(some 40), none, .bin .shr .no (.t 39) (.c (.int .u64 4))⟩,
 ⟨(some 41), none, .ixA 16 2 (.c .any) (.t 40)⟩,
 ⟨(some 42), none, .load (some 2) (.t 41)⟩,
 ⟨(some 9), none, .new [(.int .u8 0), (.int .u8 0)]⟩,
 ⟨none, none, .store 2 (.t 9) (.t 42)⟩] [9])
 (.seq
 (.seq
 (.ops [
 ⟨(some 43), none, .mov (.t 4)⟩,
 ⟨(some 44), none, .mov (.t 8)⟩,
 ⟨(some 45), none, .bin .lss .no (.t 43) (.t 44)⟩] [45])
 (.cond (.t 45)
 (.seq
 (.ops [
 ⟨(some 2), none, .mov (.c (.int .i32 65533))⟩,
 ⟨(some 3), none, .mov (.c (.int .i64 1))⟩] [2, 3])
 .ret)
 .skip))
 (.seq
 (.ops [
 ⟨(some 46), none, .mov (.t 0)⟩,
 ⟨(some 47), none, .ixT (.t 46) (.c (.int .i64 1))⟩,
 ⟨(some 10), none, .mov (.t 47)⟩] [10])
 (.seq
 (.seq
 (.ops [
 ⟨(some 48), none, .mov (.t 10)⟩,
 ⟨(some 49), none, .fa 0 (.t 9)⟩,
 ⟨(some 50), none, .load none (.t 49)⟩,
 ⟨(some 51), none, .bin .lss .no (.t 48) (.t 50)⟩,
 ⟨(some 52), none, .mov (.t 51)⟩,
 ⟨(some 53), (some (52, false)), .fa 1 (.t 9)⟩,
 ⟨(some 54), (some (52, false)), .load none (.t 53)⟩,
 ⟨(some 55), (some (52, false)), .mov (.t 10)⟩,
 ⟨(some 56), (some (52, false)), .bin .lss .no (.t 54) (.t 55)⟩,
 ⟨(some 57), none, .pick (.t 52) (.c (.bool true)) (.t 56)⟩] [57])
 (.cond (.t 57)
 (.seq
 (.ops [
 ⟨(some 2), none, .mov (.c (.int .i32 65533))⟩,
 ⟨(some 3), none, .mov (.c (.int .i64 1))⟩] [2, 3])
 .ret)
 .skip))
 (.seq
 (.seq
 (.ops [
 ⟨(some 58), none, .mov (.t 8)⟩,
 ⟨(some 59), none, .bin .leq .no (.t 58) (.c (.int .i64 2))⟩] [59])
 (.cond (.t 59)
 (.seq
 (.ops [
 ⟨(some 60), none, .mov (.t 5)⟩,
 ⟨(some 61), none, .bin .and .no (.t 60) (.c (.int .u8 31))⟩,
 ⟨(some 62), none, .conv .i32 (.t 61)⟩,
 ⟨(some 63), none, .bin .shl .no (.t 62) (.c (.int .u64 6))⟩,
 ⟨(some 64), none, .mov (.t 10)⟩,
 ⟨(some 65), none, .bin .and .no (.t 64) (.c (.int .u8 63))⟩,
 ⟨(some 66), none, .conv .i32 (.t 65)⟩,
 ⟨(some 67), none, .bin .or .no (.t 63) (.t 66)⟩,
 ⟨(some 2), none, .mov (.t 67)⟩,
 ⟨(some 3), none, .mov (.c (.int .i64 2))⟩] [2, 3])
 .ret)
 .skip))
 (.seq
 (.ops [
 ⟨(some 68), none, .mov (.t 0)⟩,
 ⟨(some 69), none, .ixT (.t 68) (.c (.int .i64 2))⟩,
 ⟨(some 11), none, .mov (.t 69)⟩] [11])
 (.seq
 (.seq
 (.ops [
 ⟨(some 70), none, .mov (.t 11)⟩,
 ⟨(some 71), none, .bin .lss .no (.t 70) (.c (.int .u8 128))⟩,
 ⟨(some 72), none, .mov (.t 71)⟩,
 ⟨(some 73), (some (72, false)), .mov (.t 11)⟩,
 ⟨(some 74), (some (72, false)), .bin .lss .no (.c (.int .u8 191)) (.t 73)⟩,
 ⟨(some 75), none, .pick (.t 72) (.c (.bool true)) (.t 74)⟩] [75])
 (.cond (.t 75)
 (.seq
 (.ops [
 ⟨(some 2), none, .mov (.c (.int .i32 65533))⟩,
 ⟨(some 3), none, .mov (.c (.int .i64 1))⟩] [2, 3])
 .ret)
 .skip))
 (.seq
 (.seq
 (.ops [
 ⟨(some 76), none, .mov (.t 8)⟩,
 ⟨(some 77), none, .bin .leq .no (.t 76) (.c (.int .i64 3))⟩] [77])
 (.cond (.t 77)
 (.seq
 (.ops [
 ⟨(some 78), none, .mov (.t 5)⟩,
 ⟨(some 79), none, .bin .and .no (.t 78) (.c (.int .u8 15))⟩,
 ⟨(some 80), none, .conv .i32 (.t 79)⟩,
 ⟨(some 81), none, .bin .shl .no (.t 80) (.c (.int .u64 12))⟩,
 ⟨(some 82), none, .mov (.t 10)⟩,
 ⟨(some 83), none, .bin .and .no (.t 82) (.c (.int .u8 63))⟩,
 ⟨(some 84), none, .conv .i32 (.t 83)⟩,
 ⟨(some 85), none, .bin .shl .no (.t 84) (.c (.int .u64 6))⟩,
 ⟨(some 86), none, .bin .or .no (.t 81) (.t 85)⟩,
 ⟨(some 87), none, .mov (.t 11)⟩,
 ⟨(some 88), none, .bin .and .no (.t 87) (.c (.int .u8 63))⟩,
 ⟨(some 89), none, .conv .i32 (.t 88)⟩,
 ⟨(some 90), none, .bin .or .no (.t 86) (.t 89)⟩,
 ⟨(some 2), none, .mov (.t 90)⟩,
 ⟨(some 3), none, .mov (.c (.int .i64 3))⟩] [2, 3])
 .ret)
 .skip))
 (.seq
 (.ops [
 ⟨(some 91), none, .mov (.t 0)⟩,
 ⟨(some 92), none, .ixT (.t 91) (.c (.int .i64 3))⟩,
 ⟨(some 12), none, .mov (.t 92)⟩] [12])
 (.seq
 (.seq
 (.ops [
 ⟨(some 93), none, .mov (.t 12)⟩,
 ⟨(some 94), none, .bin .lss .no (.t 93) (.c (.int .u8 128))⟩,
 ⟨(some 95), none, .mov (.t 94)⟩,
 ⟨(some 96), (some (95, false)), .mov (.t 12)⟩,
 ⟨(some 97), (some (95, false)), .bin .lss .no (.c (.int .u8 191)) (.t 96)⟩,
 ⟨(some 98), none, .pick (.t 95) (.c (.bool true)) (.t 97)⟩] [98])
 (.cond (.t 98)
 (.seq
 (.ops [
 ⟨(some 2), none, .mov (.c (.int .i32 65533))⟩,
 ⟨(some 3), none, .mov (.c (.int .i64 1))⟩] [2, 3])
 .ret)
 .skip))
 (.seq
 (.ops [
 ⟨(some 99), none, .mov (.t 5)⟩,
 ⟨(some 100), none, .bin .and .no (.t 99) (.c (.int .u8 7))⟩,
 ⟨(some 101), none, .conv .i32 (.t 100)⟩,
 ⟨(some 102), none, .bin .shl .no (.t 101) (.c (.int .u64 18))⟩,
 ⟨(some 103), none, .mov (.t 10)⟩,
 ⟨(some 104), none, .bin .and .no (.t 103) (.c (.int .u8 63))⟩,
 ⟨(some 105), none, .conv .i32 (.t 104)⟩,
 ⟨(some 106), none, .bin .shl .no (.t 105) (.c (.int .u64 12))⟩,
 ⟨(some 107), none, .bin .or .no (.t 102) (.t 106)⟩,
 ⟨(some 108), none, .mov (.t 11)⟩,
 ⟨(some 109), none, .bin .and .no (.t 108) (.c (.int .u8 63))⟩,
 ⟨(some 110), none, .conv .i32 (.t 109)⟩,
 ⟨(some 111), none, .bin .shl .no (.t 110) (.c (.int .u64 6))⟩,
 ⟨(some 112), none, .bin .or .no (.t 107) (.t 111)⟩,
 ⟨(some 113), none, .mov (.t 12)⟩,
 ⟨(some 114), none, .bin .and .no (.t 113) (.c (.int .u8 63))⟩,
 ⟨(some 115), none, .conv .i32 (.t 114)⟩,
 ⟨(some 116), none, .bin .or .no (.t 112) (.t 115)⟩,
 ⟨(some 2), none, .mov (.t 116)⟩,
 ⟨(some 3), none, .mov (.c (.int .i64 4))⟩] [2, 3])
 .ret)))))))))))))))))),
 [.tmp 2, .tmp 3]⟩

/-- unicode/utf8.RuneStart -/
noncomputable def sf67 : SFun := ⟨[0, 2], 6,
 (.seq
 (.ops [
 ⟨(some 2), none, .mov (.c (.bool false))⟩] [2])
 (.seq
 (.ops [
 ⟨(some 3), none, .mov (.t 0)⟩,
 ⟨(some 4), none, .bin .and .no (.t 3) (.c (.int .u8 192))⟩,
 ⟨(some 5), none, .bin .neq .no (.t 4) (.c (.int .u8 128))⟩,
 ⟨(some 2), none, .mov (.t 5)⟩] [2])
 .ret)),
 [.tmp 2]⟩

/-- strings.IndexByte -/
noncomputable def sf68 : SFun := ⟨[0, 1, 4], 8,
 (.seq
 (.ops [
 ⟨(some 4), none, .mov (.c (.int .i64 0))⟩] [4])
 (.seq
 (.ops [
 ⟨(some 5), none, .mov (.t 0)⟩,
 ⟨(some 6), none, .mov (.t 1)⟩,
 ⟨(some 7), none, .call (.c (.fn (.func 72) [] [])) [(.t 5), (.t 6)]⟩,
 ⟨(some 4), none, .mov (.t 7)⟩] [4])
 .ret)),
 [.tmp 4]⟩

/-- unicode/utf8.ValidRune -/
noncomputable def sf69 : SFun := ⟨[0, 2, 3, 10], 17,
 (.seq
 (.ops [
 ⟨(some 2), none, .mov (.c (.bool false))⟩] [2])
 (.seq
 (.block 0
 (.seq
 (.ops [
 ⟨(some 4), none, .mov (.t 0)⟩,
 ⟨(some 5), none, .bin .leq .no (.c (.int .i32 0)) (.t 4)⟩,
 ⟨(some 6), none, .mov (.t 5)⟩,
 ⟨(some 7), (some (6, true)), .mov (.t 0)⟩,
 ⟨(some 8), (some (6, true)), .bin .lss .no (.t 7) (.c (.int .i32 55296))⟩,
 ⟨(some 9), none, .pick (.t 6) (.t 8) (.c (.bool false))⟩,
 ⟨(some 3), none, .mov (.t 9)⟩] [3])
 (.cond (.t 3)
 (.seq
 (.ops [
 ⟨(some 2), none, .mov (.c (.bool true))⟩] [2])
 .ret)
 (.seq
 (.ops [
 ⟨(some 11), none, .mov (.t 0)⟩,
 ⟨(some 12), none, .bin .lss .no (.c (.int .i32 57343)) (.t 11)⟩,
 ⟨(some 13), none, .mov (.t 12)⟩,
 ⟨(some 14), (some (13, true)), .mov (.t 0)⟩,
 ⟨(some 15), (some (13, true)), .bin .leq .no (.t 14) (.c (.int .i32 1114111))⟩,
 ⟨(some 16), none, .pick (.t 13) (.t 15) (.c (.bool false))⟩,
 ⟨(some 10), none, .mov (.t 16)⟩] [10])
 (.cond (.t 10)
 (.seq
 (.ops [
 ⟨(some 2), none, .mov (.c (.bool true))⟩] [2])
 .ret)
 .skip)))))
 (.seq
 (.ops [
 ⟨(some 2), none, .mov (.c (.bool false))⟩] [2])
 .ret))),
 [.tmp 2]⟩

/-- internal/bytealg.Cutover -/
noncomputable def sf70 : SFun := ⟨[0, 2], 6,
 (.seq
 (.ops [
 ⟨(some 2), none, .mov (.c (.int .i64 0))⟩] [2])
 (.seq
 (.ops [
 ⟨(some 3), none, .mov (.t 0)⟩,
 ⟨(some 4), none, .bin .add .no (.t 3) (.c (.int .i64 16))⟩,
 ⟨(some 5), none, .bin .quo .no (.t 4) (.c (.int .i64 8))⟩,
 ⟨(some 2), none, .mov (.t 5)⟩] [2])
 .ret)),
 [.tmp 2]⟩

/-- internal/stringslite.IndexByte -/
noncomputable def sf72 : SFun := ⟨[0, 1, 4], 8,
 (.seq
 (.ops [
 ⟨(some 4), none, .mov (.c (.int .i64 0))⟩] [4])
 (.seq
 (.ops [
 ⟨(some 5), none, .mov (.t 0)⟩,
 ⟨(some 6), none, .mov (.t 1)⟩,
 ⟨(some 7), none, .call (.c (.fn (.func 73) [] [])) [(.t 5), (.t 6)]⟩,
 ⟨(some 4), none, .mov (.t 7)⟩] [4])
 .ret)),
 [.tmp 4]⟩

/-- gosem.cut.vars -/
noncomputable def sf94 : SFun := ⟨[], 6,
 (.ops [
 ⟨(some 0), none, .build [(.int .u8 0), (.int .u8 0)] [(0, 1), (1, 1)] [(0, (.c (.int .u8 128))), (1, (.c (.int .u8 191)))]⟩,
 ⟨(some 1), none, .build [(.int .u8 0), (.int .u8 0)] [(0, 1), (1, 1)] [(0, (.c (.int .u8 160))), (1, (.c (.int .u8 191)))]⟩,
 ⟨(some 2), none, .build [(.int .u8 0), (.int .u8 0)] [(0, 1), (1, 1)] [(0, (.c (.int .u8 128))), (1, (.c (.int .u8 159)))]⟩,
 ⟨(some 3), none, .build [(.int .u8 0), (.int .u8 0)] [(0, 1), (1, 1)] [(0, (.c (.int .u8 144))), (1, (.c (.int .u8 191)))]⟩,
 ⟨(some 4), none, .build [(.int .u8 0), (.int .u8 0)] [(0, 1), (1, 1)] [(0, (.c (.int .u8 128))), (1, (.c (.int .u8 143)))]⟩,
 ⟨(some 5), none, .buildA [(.int .u8 0), (.int .u8 0), (.int .u8 0), (.int .u8 0), (.int .u8 0), (.int .u8 0), (.int .u8 0), (.int .u8 0), (.int .u8 0), (.int .u8 0), (.int .u8 0), (.int .u8 0), (.int .u8 0), (.int .u8 0), (.int .u8 0), (.int .u8 0), (.int .u8 0), (.int .u8 0), (.int .u8 0), (.int .u8 0), (.int .u8 0), (.int .u8 0), (.int .u8 0), (.int .u8 0), (.int .u8 0), (.int .u8 0), (.int .u8 0), (.int .u8 0), (.int .u8 0), (.int .u8 0), (.int .u8 0), (.int .u8 0)] 2 [(0, (.t 0)), (1, (.t 1)), (2, (.t 2)), (3, (.t 3)), (4, (.t 4))]⟩,
 ⟨none, none, .store 32 (.c .any) (.t 5)⟩] []),
 []⟩


end Go.Proofs.YtpfkmdbdafpadaaDoor
