/- The program's functions, compiled. -/
import Derived.Test.YtpclkcamfainiaaRows
import Derived.Test.YtpclkcamfainiaaSE
import Derived.KernelRfl
set_option linter.unusedVariables false
set_option maxRecDepth 100000
namespace Go.Proofs.Ytpclkcamfainiaa
open Go Go.Abs
/-- gosem.cut.init -/
noncomputable def sf2 : SFun := ⟨[], 1,
 (.ops [
 ⟨(some 0), none, .call (.c (.fn (.func 1) [] [])) []⟩] []),
 []⟩

/-- bellpull/bellpulllaw01.PaintCliques -/
noncomputable def sf3 : SFun := ⟨[0, 1, 2, 5, 6, 7, 8, 9, 36, 54], 78,
 (.seq
 (.ops [
 ⟨(some 5), none, .box (.t 2)⟩,
 ⟨(some 6), none, .mov (.c (.bool false))⟩] [5, 6])
 (.seq
 (.ops [
 ⟨(some 10), none, .mov (.t 1)⟩,
 ⟨(some 11), none, .call (.c (.fn (.func 16) [] [])) [(.t 10)]⟩,
 ⟨(some 7), none, .mov (.t 11)⟩] [7])
 (.seq
 (.ops [
 ⟨(some 13), none, .mov (.t 0)⟩,
 ⟨(some 14), none, .mov (.t 7)⟩,
 ⟨(some 15), none, .ixA 2 1 (.t 5) (.c (.int .i64 0))⟩,
 ⟨(some 16), none, .load none (.t 15)⟩,
 ⟨(some 17), none, .ixA 2 1 (.t 5) (.c (.int .i64 1))⟩,
 ⟨(some 18), none, .load none (.t 17)⟩,
 ⟨(some 19), none, .call (.c (.fn (.func 17) [] [])) [(.t 13), (.t 14), (.t 16), (.t 18)]⟩,
 ⟨(some 12), none, .mov (.t 19)⟩,
 ⟨(some 20), none, .ext (.t 12) 0⟩,
 ⟨(some 21), none, .ext (.t 12) 1⟩,
 ⟨(some 8), none, .mov (.t 20)⟩,
 ⟨(some 9), none, .mov (.t 21)⟩] [8, 9])
 (.seq
 (.seq
 (.ops [
 ⟨(some 22), none, .mov (.t 0)⟩,
 ⟨(some 23), none, .call (.c (.fn (.func 18) [] [])) [(.t 22), (.c (.int .i64 1)), (.c (.int .i64 8))]⟩,
 ⟨(some 24), none, .not (.t 23)⟩,
 ⟨(some 25), none, .mov (.t 24)⟩,
 ⟨(some 26), (some (25, false)), .ixA 2 1 (.t 5) (.c (.int .i64 0))⟩,
 ⟨(some 27), (some (25, false)), .load none (.t 26)⟩,
 ⟨(some 28), (some (25, false)), .call (.c (.fn (.func 18) [] [])) [(.t 27), (.c (.int .i64 0)), (.c (.int .i64 1))]⟩,
 ⟨(some 29), (some (25, false)), .not (.t 28)⟩,
 ⟨(some 30), none, .pick (.t 25) (.c (.bool true)) (.t 29)⟩,
 ⟨(some 31), none, .mov (.t 30)⟩,
 ⟨(some 32), (some (31, false)), .ixA 2 1 (.t 5) (.c (.int .i64 1))⟩,
 ⟨(some 33), (some (31, false)), .load none (.t 32)⟩,
 ⟨(some 34), (some (31, false)), .call (.c (.fn (.func 18) [] [])) [(.t 33), (.c (.int .i64 1)), (.c (.int .i64 4))]⟩,
 ⟨(some 35), (some (31, false)), .not (.t 34)⟩,
 ⟨(some 36), none, .pick (.t 31) (.c (.bool true)) (.t 35)⟩] [36])
 (.cond (.t 36)
 (.seq
 (.ops [
 ⟨(some 37), none, .mov (.t 8)⟩,
 ⟨(some 38), none, .lenS (.t 37)⟩,
 ⟨(some 39), none, .bin .eql .no (.t 38) (.c (.int .i64 0))⟩,
 ⟨(some 40), none, .mov (.t 39)⟩,
 ⟨(some 41), (some (40, true)), .mov (.t 9)⟩,
 ⟨(some 42), (some (40, true)), .bin .eql .no (.t 41) (.c (.int .i64 1))⟩,
 ⟨(some 43), none, .pick (.t 40) (.t 42) (.c (.bool false))⟩,
 ⟨(some 44), none, .mov (.t 43)⟩,
 ⟨(some 45), (some (44, true)), .call (.c (.fn (.func 19) [] [])) []⟩,
 ⟨(some 46), none, .pick (.t 44) (.t 45) (.c (.bool false))⟩,
 ⟨(some 6), none, .mov (.t 46)⟩] [6])
 .ret)
 .skip))
 (.seq
 (.seq
 (.ops [
 ⟨(some 47), none, .mov (.t 7)⟩,
 ⟨(some 48), none, .mov (.t 0)⟩,
 ⟨(some 49), none, .mov (.t 0)⟩,
 ⟨(some 50), none, .bin .sub .no (.t 49) (.c (.int .i64 1))⟩,
 ⟨(some 51), none, .bin .mul .no (.t 48) (.t 50)⟩,
 ⟨(some 52), none, .bin .quo .no (.t 51) (.c (.int .i64 2))⟩,
 ⟨(some 53), none, .call (.c (.fn (.func 20) [] [])) [(.t 47), (.t 52), (.c (.int .i64 2))]⟩,
 ⟨(some 54), none, .not (.t 53)⟩] [54])
 (.cond (.t 54)
 (.seq
 (.ops [
 ⟨(some 55), none, .mov (.t 8)⟩,
 ⟨(some 56), none, .lenS (.t 55)⟩,
 ⟨(some 57), none, .bin .eql .no (.t 56) (.c (.int .i64 0))⟩,
 ⟨(some 58), none, .mov (.t 57)⟩,
 ⟨(some 59), (some (58, true)), .mov (.t 9)⟩,
 ⟨(some 60), (some (58, true)), .bin .eql .no (.t 59) (.c (.int .i64 2))⟩,
 ⟨(some 61), none, .pick (.t 58) (.t 60) (.c (.bool false))⟩,
 ⟨(some 62), none, .mov (.t 61)⟩,
 ⟨(some 63), (some (62, true)), .call (.c (.fn (.func 19) [] [])) []⟩,
 ⟨(some 64), none, .pick (.t 62) (.t 63) (.c (.bool false))⟩,
 ⟨(some 6), none, .mov (.t 64)⟩] [6])
 .ret)
 .skip))
 (.seq
 (.ops [
 ⟨(some 65), none, .mov (.t 8)⟩,
 ⟨(some 66), none, .mov (.t 9)⟩,
 ⟨(some 67), none, .mov (.t 0)⟩,
 ⟨(some 68), none, .mov (.t 7)⟩,
 ⟨(some 69), none, .ixA 2 1 (.t 5) (.c (.int .i64 0))⟩,
 ⟨(some 70), none, .load none (.t 69)⟩,
 ⟨(some 71), none, .ixA 2 1 (.t 5) (.c (.int .i64 1))⟩,
 ⟨(some 72), none, .load none (.t 71)⟩,
 ⟨(some 73), none, .call (.c (.fn (.func 22) [] [])) [(.t 67), (.t 68), (.t 70), (.t 72), (.c .nilsl)]⟩,
 ⟨(some 74), none, .call (.c (.fn (.func 21) [] [])) [(.t 65), (.t 66), (.t 73)]⟩,
 ⟨(some 75), none, .mov (.t 74)⟩,
 ⟨(some 76), (some (75, true)), .call (.c (.fn (.func 19) [] [])) []⟩,
 ⟨(some 77), none, .pick (.t 75) (.t 76) (.c (.bool false))⟩,
 ⟨(some 6), none, .mov (.t 77)⟩] [6])
 .ret)))))),
 [.tmp 6]⟩

/-- bellpull/bellpulllaw01.PaintAvoids -/
noncomputable def sf4 : SFun := ⟨[0, 1, 2, 6, 7, 8, 9, 29], 52,
 (.seq
 (.ops [
 ⟨(some 6), none, .mov (.c (.bool false))⟩] [6])
 (.seq
 (.ops [
 ⟨(some 11), none, .mov (.t 0)⟩,
 ⟨(some 12), none, .mov (.t 1)⟩,
 ⟨(some 13), none, .mov (.t 2)⟩,
 ⟨(some 14), none, .call (.c (.fn (.func 23) [] [])) [(.t 11), (.t 12), (.t 13)]⟩,
 ⟨(some 10), none, .mov (.t 14)⟩,
 ⟨(some 15), none, .ext (.t 10) 0⟩,
 ⟨(some 16), none, .ext (.t 10) 1⟩,
 ⟨(some 7), none, .mov (.t 15)⟩,
 ⟨(some 8), none, .mov (.t 16)⟩] [7, 8])
 (.seq
 (.seq
 (.ops [
 ⟨(some 17), none, .mov (.t 0)⟩,
 ⟨(some 18), none, .call (.c (.fn (.func 18) [] [])) [(.t 17), (.c (.int .i64 1)), (.c (.int .i64 8))]⟩,
 ⟨(some 19), none, .not (.t 18)⟩,
 ⟨(some 20), none, .mov (.t 19)⟩,
 ⟨(some 21), (some (20, false)), .mov (.t 1)⟩,
 ⟨(some 22), (some (20, false)), .call (.c (.fn (.func 18) [] [])) [(.t 21), (.c (.int .i64 2)), (.c (.int .i64 4))]⟩,
 ⟨(some 23), (some (20, false)), .not (.t 22)⟩,
 ⟨(some 24), none, .pick (.t 20) (.c (.bool true)) (.t 23)⟩,
 ⟨(some 25), none, .mov (.t 24)⟩,
 ⟨(some 26), (some (25, false)), .mov (.t 2)⟩,
 ⟨(some 27), (some (25, false)), .call (.c (.fn (.func 18) [] [])) [(.t 26), (.c (.int .i64 2)), (.c (.int .i64 4))]⟩,
 ⟨(some 28), (some (25, false)), .not (.t 27)⟩,
 ⟨(some 29), none, .pick (.t 25) (.c (.bool true)) (.t 28)⟩] [29])
 (.cond (.t 29)
 (.seq
 (.ops [
 ⟨(some 30), none, .mov (.t 7)⟩,
 ⟨(some 31), none, .lenS (.t 30)⟩,
 ⟨(some 32), none, .bin .eql .no (.t 31) (.c (.int .i64 0))⟩,
 ⟨(some 33), none, .mov (.t 32)⟩,
 ⟨(some 34), (some (33, true)), .mov (.t 8)⟩,
 ⟨(some 35), (some (33, true)), .bin .eql .no (.t 34) (.c (.int .i64 1))⟩,
 ⟨(some 36), none, .pick (.t 33) (.t 35) (.c (.bool false))⟩,
 ⟨(some 37), none, .mov (.t 36)⟩,
 ⟨(some 38), (some (37, true)), .call (.c (.fn (.func 19) [] [])) []⟩,
 ⟨(some 39), none, .pick (.t 37) (.t 38) (.c (.bool false))⟩,
 ⟨(some 6), none, .mov (.t 39)⟩] [6])
 .ret)
 .skip))
 (.seq
 (.ops [
 ⟨(some 40), none, .mov (.t 0)⟩,
 ⟨(some 41), none, .mov (.t 1)⟩,
 ⟨(some 42), none, .mov (.t 2)⟩,
 ⟨(some 43), none, .buildS [(.int .i64 0)] 0 1 []⟩,
 ⟨(some 44), none, .call (.c (.fn (.func 24) [] [])) [(.t 40), (.t 41), (.t 42), (.t 43)]⟩,
 ⟨(some 9), none, .mov (.t 44)⟩] [9])
 (.seq
 (.ops [
 ⟨(some 45), none, .mov (.t 7)⟩,
 ⟨(some 46), none, .mov (.t 8)⟩,
 ⟨(some 47), none, .mov (.t 9)⟩,
 ⟨(some 48), none, .call (.c (.fn (.func 21) [] [])) [(.t 45), (.t 46), (.t 47)]⟩,
 ⟨(some 49), none, .mov (.t 48)⟩,
 ⟨(some 50), (some (49, true)), .call (.c (.fn (.func 19) [] [])) []⟩,
 ⟨(some 51), none, .pick (.t 49) (.t 50) (.c (.bool false))⟩,
 ⟨(some 6), none, .mov (.t 51)⟩] [6])
 .ret))))),
 [.tmp 6]⟩

/-- bellpull/bellpulllaw01.PaintSums -/
noncomputable def sf5 : SFun := ⟨[0, 1, 2, 6, 7, 8, 9, 10, 11, 33, 40, 46, 60], 81,
 (.seq
 (.ops [
 ⟨(some 6), none, .mov (.c (.bool false))⟩] [6])
 (.seq
 (.ops [
 ⟨(some 12), none, .mov (.t 0)⟩,
 ⟨(some 13), none, .call (.c (.fn (.func 16) [] [])) [(.t 12)]⟩,
 ⟨(some 7), none, .mov (.t 13)⟩] [7])
 (.seq
 (.ops [
 ⟨(some 15), none, .mov (.t 7)⟩,
 ⟨(some 16), none, .call (.c (.fn (.func 25) [] [])) [(.t 15)]⟩,
 ⟨(some 14), none, .mov (.t 16)⟩,
 ⟨(some 17), none, .ext (.t 14) 0⟩,
 ⟨(some 18), none, .ext (.t 14) 1⟩,
 ⟨(some 8), none, .mov (.t 17)⟩,
 ⟨(some 9), none, .mov (.t 18)⟩] [8, 9])
 (.seq
 (.seq
 (.ops [
 ⟨(some 19), none, .mov (.t 7)⟩,
 ⟨(some 20), none, .lenS (.t 19)⟩,
 ⟨(some 21), none, .bin .lss .no (.t 20) (.c (.int .i64 1))⟩,
 ⟨(some 22), none, .mov (.t 21)⟩,
 ⟨(some 23), (some (22, false)), .mov (.t 7)⟩,
 ⟨(some 24), (some (22, false)), .lenS (.t 23)⟩,
 ⟨(some 25), (some (22, false)), .bin .gtr .no (.t 24) (.c (.int .i64 14))⟩,
 ⟨(some 26), none, .pick (.t 22) (.c (.bool true)) (.t 25)⟩,
 ⟨(some 27), none, .mov (.t 26)⟩,
 ⟨(some 28), (some (27, false)), .mov (.t 7)⟩,
 ⟨(some 29), (some (27, false)), .mov (.t 7)⟩,
 ⟨(some 30), (some (27, false)), .lenS (.t 29)⟩,
 ⟨(some 31), (some (27, false)), .call (.c (.fn (.func 20) [] [])) [(.t 28), (.t 30), (.c (.int .i64 3))]⟩,
 ⟨(some 32), (some (27, false)), .not (.t 31)⟩,
 ⟨(some 33), none, .pick (.t 27) (.c (.bool true)) (.t 32)⟩] [33])
 (.cond (.t 33)
 (.seq
 (.ops [
 ⟨(some 34), none, .mov (.t 8)⟩,
 ⟨(some 35), none, .lenS (.t 34)⟩,
 ⟨(some 36), none, .bin .neq .no (.t 35) (.c (.int .i64 0))⟩,
 ⟨(some 37), none, .mov (.t 36)⟩,
 ⟨(some 38), (some (37, false)), .mov (.t 9)⟩,
 ⟨(some 39), (some (37, false)), .bin .neq .no (.t 38) (.c (.int .i64 2))⟩,
 ⟨(some 40), none, .pick (.t 37) (.c (.bool true)) (.t 39)⟩] [40])
 (.cond (.t 40)
 (.seq
 (.ops [
 ⟨(some 6), none, .mov (.c (.bool false))⟩] [6])
 .ret)
 .skip))
 (.seq
 (.ops [
 ⟨(some 41), none, .mov (.t 8)⟩,
 ⟨(some 42), none, .mov (.t 9)⟩,
 ⟨(some 43), none, .mov (.t 7)⟩,
 ⟨(some 44), none, .call (.c (.fn (.func 26) [] [])) [(.t 43)]⟩,
 ⟨(some 45), none, .call (.c (.fn (.func 21) [] [])) [(.t 41), (.t 42), (.t 44)]⟩,
 ⟨(some 46), none, .not (.t 45)⟩] [46])
 (.cond (.t 46)
 (.seq
 (.ops [
 ⟨(some 6), none, .mov (.c (.bool false))⟩] [6])
 .ret)
 .skip))))
 (.seq
 (.ops [
 ⟨(some 48), none, .mov (.t 1)⟩,
 ⟨(some 49), none, .mov (.t 2)⟩,
 ⟨(some 50), none, .call (.c (.fn (.func 27) [] [])) [(.t 48), (.t 49)]⟩,
 ⟨(some 47), none, .mov (.t 50)⟩,
 ⟨(some 51), none, .ext (.t 47) 0⟩,
 ⟨(some 52), none, .ext (.t 47) 1⟩,
 ⟨(some 10), none, .mov (.t 51)⟩,
 ⟨(some 11), none, .mov (.t 52)⟩] [10, 11])
 (.seq
 (.seq
 (.ops [
 ⟨(some 53), none, .mov (.t 1)⟩,
 ⟨(some 54), none, .call (.c (.fn (.func 18) [] [])) [(.t 53), (.c (.int .i64 1)), (.c (.int .i64 14))]⟩,
 ⟨(some 55), none, .not (.t 54)⟩,
 ⟨(some 56), none, .mov (.t 55)⟩,
 ⟨(some 57), (some (56, false)), .mov (.t 2)⟩,
 ⟨(some 58), (some (56, false)), .call (.c (.fn (.func 18) [] [])) [(.t 57), (.c (.int .i64 1)), (.c (.int .i64 3))]⟩,
 ⟨(some 59), (some (56, false)), .not (.t 58)⟩,
 ⟨(some 60), none, .pick (.t 56) (.c (.bool true)) (.t 59)⟩] [60])
 (.cond (.t 60)
 (.seq
 (.ops [
 ⟨(some 61), none, .mov (.t 10)⟩,
 ⟨(some 62), none, .lenS (.t 61)⟩,
 ⟨(some 63), none, .bin .eql .no (.t 62) (.c (.int .i64 0))⟩,
 ⟨(some 64), none, .mov (.t 63)⟩,
 ⟨(some 65), (some (64, true)), .mov (.t 11)⟩,
 ⟨(some 66), (some (64, true)), .bin .eql .no (.t 65) (.c (.int .i64 1))⟩,
 ⟨(some 67), none, .pick (.t 64) (.t 66) (.c (.bool false))⟩,
 ⟨(some 68), none, .mov (.t 67)⟩,
 ⟨(some 69), (some (68, true)), .call (.c (.fn (.func 19) [] [])) []⟩,
 ⟨(some 70), none, .pick (.t 68) (.t 69) (.c (.bool false))⟩,
 ⟨(some 6), none, .mov (.t 70)⟩] [6])
 .ret)
 .skip))
 (.seq
 (.ops [
 ⟨(some 71), none, .mov (.t 10)⟩,
 ⟨(some 72), none, .mov (.t 11)⟩,
 ⟨(some 73), none, .mov (.t 1)⟩,
 ⟨(some 74), none, .mov (.t 2)⟩,
 ⟨(some 75), none, .buildS [(.int .i64 0)] 0 1 []⟩,
 ⟨(some 76), none, .call (.c (.fn (.func 28) [] [])) [(.t 73), (.t 74), (.t 75)]⟩,
 ⟨(some 77), none, .call (.c (.fn (.func 21) [] [])) [(.t 71), (.t 72), (.t 76)]⟩,
 ⟨(some 78), none, .mov (.t 77)⟩,
 ⟨(some 79), (some (78, true)), .call (.c (.fn (.func 19) [] [])) []⟩,
 ⟨(some 80), none, .pick (.t 78) (.t 79) (.c (.bool false))⟩,
 ⟨(some 6), none, .mov (.t 80)⟩] [6])
 .ret))))))),
 [.tmp 6]⟩

/-- bellpull/bellpulllaw01.PaintProgressions -/
noncomputable def sf6 : SFun := ⟨[0, 1, 4, 5, 6, 7, 21, 46], 66,
 (.seq
 (.ops [
 ⟨(some 4), none, .mov (.c (.bool false))⟩] [4])
 (.seq
 (.ops [
 ⟨(some 8), none, .mov (.t 0)⟩,
 ⟨(some 9), none, .call (.c (.fn (.func 16) [] [])) [(.t 8)]⟩,
 ⟨(some 5), none, .mov (.t 9)⟩] [5])
 (.seq
 (.ops [
 ⟨(some 11), none, .mov (.t 5)⟩,
 ⟨(some 12), none, .mov (.t 1)⟩,
 ⟨(some 13), none, .call (.c (.fn (.func 29) [] [])) [(.t 11), (.t 12)]⟩,
 ⟨(some 10), none, .mov (.t 13)⟩,
 ⟨(some 14), none, .ext (.t 10) 0⟩,
 ⟨(some 15), none, .ext (.t 10) 1⟩,
 ⟨(some 6), none, .mov (.t 14)⟩,
 ⟨(some 7), none, .mov (.t 15)⟩] [6, 7])
 (.seq
 (.seq
 (.ops [
 ⟨(some 16), none, .mov (.t 1)⟩,
 ⟨(some 17), none, .bin .neq .no (.t 16) (.c (.int .i64 3))⟩,
 ⟨(some 18), none, .mov (.t 17)⟩,
 ⟨(some 19), (some (18, true)), .mov (.t 1)⟩,
 ⟨(some 20), (some (18, true)), .bin .neq .no (.t 19) (.c (.int .i64 4))⟩,
 ⟨(some 21), none, .pick (.t 18) (.t 20) (.c (.bool false))⟩] [21])
 (.cond (.t 21)
 (.seq
 (.ops [
 ⟨(some 22), none, .mov (.t 6)⟩,
 ⟨(some 23), none, .lenS (.t 22)⟩,
 ⟨(some 24), none, .bin .eql .no (.t 23) (.c (.int .i64 0))⟩,
 ⟨(some 25), none, .mov (.t 24)⟩,
 ⟨(some 26), (some (25, true)), .mov (.t 7)⟩,
 ⟨(some 27), (some (25, true)), .bin .eql .no (.t 26) (.c (.int .i64 1))⟩,
 ⟨(some 28), none, .pick (.t 25) (.t 27) (.c (.bool false))⟩,
 ⟨(some 29), none, .mov (.t 28)⟩,
 ⟨(some 30), (some (29, true)), .call (.c (.fn (.func 19) [] [])) []⟩,
 ⟨(some 31), none, .pick (.t 29) (.t 30) (.c (.bool false))⟩,
 ⟨(some 4), none, .mov (.t 31)⟩] [4])
 .ret)
 .skip))
 (.seq
 (.seq
 (.ops [
 ⟨(some 32), none, .mov (.t 5)⟩,
 ⟨(some 33), none, .lenS (.t 32)⟩,
 ⟨(some 34), none, .bin .lss .no (.t 33) (.c (.int .i64 1))⟩,
 ⟨(some 35), none, .mov (.t 34)⟩,
 ⟨(some 36), (some (35, false)), .mov (.t 5)⟩,
 ⟨(some 37), (some (35, false)), .lenS (.t 36)⟩,
 ⟨(some 38), (some (35, false)), .bin .gtr .no (.t 37) (.c (.int .i64 20))⟩,
 ⟨(some 39), none, .pick (.t 35) (.c (.bool true)) (.t 38)⟩,
 ⟨(some 40), none, .mov (.t 39)⟩,
 ⟨(some 41), (some (40, false)), .mov (.t 5)⟩,
 ⟨(some 42), (some (40, false)), .mov (.t 5)⟩,
 ⟨(some 43), (some (40, false)), .lenS (.t 42)⟩,
 ⟨(some 44), (some (40, false)), .call (.c (.fn (.func 20) [] [])) [(.t 41), (.t 43), (.c (.int .i64 3))]⟩,
 ⟨(some 45), (some (40, false)), .not (.t 44)⟩,
 ⟨(some 46), none, .pick (.t 40) (.c (.bool true)) (.t 45)⟩] [46])
 (.cond (.t 46)
 (.seq
 (.ops [
 ⟨(some 47), none, .mov (.t 6)⟩,
 ⟨(some 48), none, .lenS (.t 47)⟩,
 ⟨(some 49), none, .bin .eql .no (.t 48) (.c (.int .i64 0))⟩,
 ⟨(some 50), none, .mov (.t 49)⟩,
 ⟨(some 51), (some (50, true)), .mov (.t 7)⟩,
 ⟨(some 52), (some (50, true)), .bin .eql .no (.t 51) (.c (.int .i64 2))⟩,
 ⟨(some 53), none, .pick (.t 50) (.t 52) (.c (.bool false))⟩,
 ⟨(some 54), none, .mov (.t 53)⟩,
 ⟨(some 55), (some (54, true)), .call (.c (.fn (.func 19) [] [])) []⟩,
 ⟨(some 56), none, .pick (.t 54) (.t 55) (.c (.bool false))⟩,
 ⟨(some 4), none, .mov (.t 56)⟩] [4])
 .ret)
 .skip))
 (.seq
 (.ops [
 ⟨(some 57), none, .mov (.t 6)⟩,
 ⟨(some 58), none, .mov (.t 7)⟩,
 ⟨(some 59), none, .mov (.t 5)⟩,
 ⟨(some 60), none, .mov (.t 1)⟩,
 ⟨(some 61), none, .call (.c (.fn (.func 30) [] [])) [(.t 59), (.t 60)]⟩,
 ⟨(some 62), none, .call (.c (.fn (.func 21) [] [])) [(.t 57), (.t 58), (.t 61)]⟩,
 ⟨(some 63), none, .mov (.t 62)⟩,
 ⟨(some 64), (some (63, true)), .call (.c (.fn (.func 19) [] [])) []⟩,
 ⟨(some 65), none, .pick (.t 63) (.t 64) (.c (.bool false))⟩,
 ⟨(some 4), none, .mov (.t 65)⟩] [4])
 .ret)))))),
 [.tmp 4]⟩

/-- bellpull/bellpulllaw01.PaintStepless -/
noncomputable def sf7 : SFun := ⟨[0, 1, 2, 6, 7, 8, 31], 53,
 (.seq
 (.ops [
 ⟨(some 6), none, .mov (.c (.bool false))⟩] [6])
 (.seq
 (.ops [
 ⟨(some 10), none, .mov (.t 0)⟩,
 ⟨(some 11), none, .mov (.t 1)⟩,
 ⟨(some 12), none, .mov (.t 2)⟩,
 ⟨(some 13), none, .call (.c (.fn (.func 31) [] [])) [(.t 10), (.t 11), (.t 12)]⟩,
 ⟨(some 9), none, .mov (.t 13)⟩,
 ⟨(some 14), none, .ext (.t 9) 0⟩,
 ⟨(some 15), none, .ext (.t 9) 1⟩,
 ⟨(some 7), none, .mov (.t 14)⟩,
 ⟨(some 8), none, .mov (.t 15)⟩] [7, 8])
 (.seq
 (.seq
 (.ops [
 ⟨(some 16), none, .mov (.t 0)⟩,
 ⟨(some 17), none, .call (.c (.fn (.func 18) [] [])) [(.t 16), (.c (.int .i64 1)), (.c (.int .i64 20))]⟩,
 ⟨(some 18), none, .not (.t 17)⟩,
 ⟨(some 19), none, .mov (.t 18)⟩,
 ⟨(some 20), (some (19, false)), .mov (.t 1)⟩,
 ⟨(some 21), (some (19, false)), .call (.c (.fn (.func 18) [] [])) [(.t 20), (.c (.int .i64 1)), (.c (.int .i64 3))]⟩,
 ⟨(some 22), (some (19, false)), .not (.t 21)⟩,
 ⟨(some 23), none, .pick (.t 19) (.c (.bool true)) (.t 22)⟩,
 ⟨(some 24), none, .mov (.t 23)⟩,
 ⟨(some 25), (some (24, false)), .mov (.t 2)⟩,
 ⟨(some 26), (some (24, false)), .bin .neq .no (.t 25) (.c (.int .i64 3))⟩,
 ⟨(some 27), (some (24, false)), .mov (.t 26)⟩,
 ⟨(some 28), (some (27, true)), .mov (.t 2)⟩,
 ⟨(some 29), (some (27, true)), .bin .neq .no (.t 28) (.c (.int .i64 4))⟩,
 ⟨(some 30), (some (24, false)), .pick (.t 27) (.t 29) (.c (.bool false))⟩,
 ⟨(some 31), none, .pick (.t 24) (.c (.bool true)) (.t 30)⟩] [31])
 (.cond (.t 31)
 (.seq
 (.ops [
 ⟨(some 32), none, .mov (.t 7)⟩,
 ⟨(some 33), none, .lenS (.t 32)⟩,
 ⟨(some 34), none, .bin .eql .no (.t 33) (.c (.int .i64 0))⟩,
 ⟨(some 35), none, .mov (.t 34)⟩,
 ⟨(some 36), (some (35, true)), .mov (.t 8)⟩,
 ⟨(some 37), (some (35, true)), .bin .eql .no (.t 36) (.c (.int .i64 1))⟩,
 ⟨(some 38), none, .pick (.t 35) (.t 37) (.c (.bool false))⟩,
 ⟨(some 39), none, .mov (.t 38)⟩,
 ⟨(some 40), (some (39, true)), .call (.c (.fn (.func 19) [] [])) []⟩,
 ⟨(some 41), none, .pick (.t 39) (.t 40) (.c (.bool false))⟩,
 ⟨(some 6), none, .mov (.t 41)⟩] [6])
 .ret)
 .skip))
 (.seq
 (.ops [
 ⟨(some 42), none, .mov (.t 7)⟩,
 ⟨(some 43), none, .mov (.t 8)⟩,
 ⟨(some 44), none, .mov (.t 0)⟩,
 ⟨(some 45), none, .mov (.t 1)⟩,
 ⟨(some 46), none, .mov (.t 2)⟩,
 ⟨(some 47), none, .buildS [(.int .i64 0)] 0 1 []⟩,
 ⟨(some 48), none, .call (.c (.fn (.func 32) [] [])) [(.t 44), (.t 45), (.t 46), (.t 47)]⟩,
 ⟨(some 49), none, .call (.c (.fn (.func 21) [] [])) [(.t 42), (.t 43), (.t 48)]⟩,
 ⟨(some 50), none, .mov (.t 49)⟩,
 ⟨(some 51), (some (50, true)), .call (.c (.fn (.func 19) [] [])) []⟩,
 ⟨(some 52), none, .pick (.t 50) (.t 51) (.c (.bool false))⟩,
 ⟨(some 6), none, .mov (.t 52)⟩] [6])
 .ret)))),
 [.tmp 6]⟩

/-- bellpull/bellpulllaw01.PaintCounts -/
noncomputable def sf8 : SFun := ⟨[0, 1, 2, 6, 7, 8, 28], 52,
 (.seq
 (.ops [
 ⟨(some 6), none, .mov (.c (.bool false))⟩] [6])
 (.seq
 (.ops [
 ⟨(some 10), none, .mov (.t 0)⟩,
 ⟨(some 11), none, .mov (.t 1)⟩,
 ⟨(some 12), none, .mov (.t 2)⟩,
 ⟨(some 13), none, .call (.c (.fn (.func 33) [] [])) [(.t 10), (.t 11), (.t 12)]⟩,
 ⟨(some 9), none, .mov (.t 13)⟩,
 ⟨(some 14), none, .ext (.t 9) 0⟩,
 ⟨(some 15), none, .ext (.t 9) 1⟩,
 ⟨(some 7), none, .mov (.t 14)⟩,
 ⟨(some 8), none, .mov (.t 15)⟩] [7, 8])
 (.seq
 (.seq
 (.ops [
 ⟨(some 16), none, .mov (.t 0)⟩,
 ⟨(some 17), none, .call (.c (.fn (.func 18) [] [])) [(.t 16), (.c (.int .i64 1)), (.c (.int .i64 5))]⟩,
 ⟨(some 18), none, .not (.t 17)⟩,
 ⟨(some 19), none, .mov (.t 18)⟩,
 ⟨(some 20), (some (19, false)), .mov (.t 1)⟩,
 ⟨(some 21), (some (19, false)), .call (.c (.fn (.func 18) [] [])) [(.t 20), (.c (.int .i64 2)), (.c (.int .i64 4))]⟩,
 ⟨(some 22), (some (19, false)), .not (.t 21)⟩,
 ⟨(some 23), none, .pick (.t 19) (.c (.bool true)) (.t 22)⟩,
 ⟨(some 24), none, .mov (.t 23)⟩,
 ⟨(some 25), (some (24, false)), .mov (.t 2)⟩,
 ⟨(some 26), (some (24, false)), .call (.c (.fn (.func 18) [] [])) [(.t 25), (.c (.int .i64 2)), (.c (.int .i64 4))]⟩,
 ⟨(some 27), (some (24, false)), .not (.t 26)⟩,
 ⟨(some 28), none, .pick (.t 24) (.c (.bool true)) (.t 27)⟩] [28])
 (.cond (.t 28)
 (.seq
 (.ops [
 ⟨(some 29), none, .mov (.t 7)⟩,
 ⟨(some 30), none, .bin .eql .no (.t 29) (.c (.int .i64 0))⟩,
 ⟨(some 31), none, .mov (.t 30)⟩,
 ⟨(some 32), (some (31, true)), .mov (.t 8)⟩,
 ⟨(some 33), (some (31, true)), .bin .eql .no (.t 32) (.c (.int .i64 1))⟩,
 ⟨(some 34), none, .pick (.t 31) (.t 33) (.c (.bool false))⟩,
 ⟨(some 35), none, .mov (.t 34)⟩,
 ⟨(some 36), (some (35, true)), .call (.c (.fn (.func 19) [] [])) []⟩,
 ⟨(some 37), none, .pick (.t 35) (.t 36) (.c (.bool false))⟩,
 ⟨(some 6), none, .mov (.t 37)⟩] [6])
 .ret)
 .skip))
 (.seq
 (.ops [
 ⟨(some 38), none, .mov (.t 7)⟩,
 ⟨(some 39), none, .mov (.t 0)⟩,
 ⟨(some 40), none, .mov (.t 1)⟩,
 ⟨(some 41), none, .mov (.t 2)⟩,
 ⟨(some 42), none, .buildS [(.int .i64 0)] 0 1 []⟩,
 ⟨(some 43), none, .call (.c (.fn (.func 34) [] [])) [(.t 39), (.t 40), (.t 41), (.t 42)]⟩,
 ⟨(some 44), none, .bin .eql .no (.t 38) (.t 43)⟩,
 ⟨(some 45), none, .mov (.t 44)⟩,
 ⟨(some 46), (some (45, true)), .mov (.t 8)⟩,
 ⟨(some 47), (some (45, true)), .bin .eql .no (.t 46) (.c (.int .i64 0))⟩,
 ⟨(some 48), none, .pick (.t 45) (.t 47) (.c (.bool false))⟩,
 ⟨(some 49), none, .mov (.t 48)⟩,
 ⟨(some 50), (some (49, true)), .call (.c (.fn (.func 19) [] [])) []⟩,
 ⟨(some 51), none, .pick (.t 49) (.t 50) (.c (.bool false))⟩,
 ⟨(some 6), none, .mov (.t 51)⟩] [6])
 .ret)))),
 [.tmp 6]⟩

/-- bellpull/bellpulllaw01.PaintAvoided -/
noncomputable def sf9 : SFun := ⟨[0, 1, 2, 3, 4, 6, 7, 8, 9, 10, 11, 13, 15, 16, 17, 19, 20, 21, 22, 24, 42, 62, 64, 76, 83, 85, 100, 108, 110], 112,
 (.seq
 (.ops [
 ⟨(some 3), none, .box (.t 0)⟩,
 ⟨(some 4), none, .box (.t 1)⟩,
 ⟨(some 6), none, .mov (.c (.bool false))⟩] [3, 4, 6])
 (.seq
 (.draw [
 ⟨⟨(some 25), none, .ixA 3 1 (.t 3) (.c (.int .i64 0))⟩, false, false⟩,
 ⟨⟨(some 26), none, .load none (.t 25)⟩, true, false⟩,
 ⟨⟨(some 27), none, .call (.c (.fn (.func 35) [] [])) [(.t 26), (.c (.int .i64 1)), (.c (.int .i64 8))]⟩, false, true⟩,
 ⟨⟨(some 28), none, .ixA 3 1 (.t 3) (.c (.int .i64 1))⟩, false, false⟩,
 ⟨⟨(some 29), none, .load none (.t 28)⟩, true, false⟩,
 ⟨⟨(some 30), none, .call (.c (.fn (.func 35) [] [])) [(.t 29), (.c (.int .i64 2)), (.c (.int .i64 4))]⟩, false, true⟩,
 ⟨⟨(some 31), none, .ixA 3 1 (.t 3) (.c (.int .i64 2))⟩, false, false⟩,
 ⟨⟨(some 32), none, .load none (.t 31)⟩, true, false⟩,
 ⟨⟨(some 33), none, .call (.c (.fn (.func 35) [] [])) [(.t 32), (.c (.int .i64 2)), (.c (.int .i64 4))]⟩, false, true⟩,
 ⟨⟨(some 7), none, .mov (.t 27)⟩, false, false⟩,
 ⟨⟨(some 8), none, .mov (.t 30)⟩, false, false⟩,
 ⟨⟨(some 9), none, .mov (.t 33)⟩, false, false⟩] [0, 1, 3, 0, 8, 31, 0, 64, 255, 511, 1023, 2047] [7, 8, 9])
 (.seq
 (.ops [
 ⟨(some 35), none, .mov (.t 7)⟩,
 ⟨(some 36), none, .mov (.t 8)⟩,
 ⟨(some 37), none, .mov (.t 9)⟩,
 ⟨(some 38), none, .call (.c (.fn (.func 23) [] [])) [(.t 35), (.t 36), (.t 37)]⟩,
 ⟨(some 34), none, .mov (.t 38)⟩,
 ⟨(some 39), none, .ext (.t 34) 0⟩,
 ⟨(some 40), none, .ext (.t 34) 1⟩,
 ⟨(some 10), none, .mov (.t 39)⟩,
 ⟨(some 11), none, .mov (.t 40)⟩] [10, 11])
 (.seq
 (.seq
 (.ops [
 ⟨(some 41), none, .mov (.t 11)⟩,
 ⟨(some 42), none, .bin .eql .no (.t 41) (.c (.int .i64 0))⟩] [42])
 (.cond (.t 42)
 (.seq
 (.ops [
 ⟨(some 44), none, .mov (.t 7)⟩,
 ⟨(some 45), none, .mov (.t 10)⟩,
 ⟨(some 46), none, .mov (.t 8)⟩,
 ⟨(some 47), none, .call (.c (.fn (.func 17) [] [])) [(.t 44), (.t 45), (.c (.int .i64 0)), (.t 46)]⟩,
 ⟨(some 43), none, .mov (.t 47)⟩,
 ⟨(some 48), none, .ext (.t 43) 0⟩,
 ⟨(some 49), none, .ext (.t 43) 1⟩,
 ⟨(some 12), none, .mov (.t 48)⟩,
 ⟨(some 13), none, .mov (.t 49)⟩] [13])
 (.seq
 (.ops [
 ⟨(some 51), none, .mov (.t 7)⟩,
 ⟨(some 52), none, .mov (.t 10)⟩,
 ⟨(some 53), none, .mov (.t 9)⟩,
 ⟨(some 54), none, .call (.c (.fn (.func 17) [] [])) [(.t 51), (.t 52), (.c (.int .i64 1)), (.t 53)]⟩,
 ⟨(some 50), none, .mov (.t 54)⟩,
 ⟨(some 55), none, .ext (.t 50) 0⟩,
 ⟨(some 56), none, .ext (.t 50) 1⟩,
 ⟨(some 14), none, .mov (.t 55)⟩,
 ⟨(some 15), none, .mov (.t 56)⟩] [15])
 (.seq
 (.ops [
 ⟨(some 57), none, .mov (.t 13)⟩,
 ⟨(some 58), none, .bin .neq .no (.t 57) (.c (.int .i64 5))⟩,
 ⟨(some 59), none, .mov (.t 58)⟩,
 ⟨(some 60), (some (59, false)), .mov (.t 15)⟩,
 ⟨(some 61), (some (59, false)), .bin .neq .no (.t 60) (.c (.int .i64 5))⟩,
 ⟨(some 62), none, .pick (.t 59) (.c (.bool true)) (.t 61)⟩] [62])
 (.cond (.t 62)
 (.seq
 (.ops [
 ⟨(some 6), none, .mov (.c (.bool false))⟩] [6])
 .ret)
 .skip))))
 (.seq
 (.ops [
 ⟨(some 63), none, .mov (.t 11)⟩,
 ⟨(some 64), none, .bin .neq .no (.t 63) (.c (.int .i64 5))⟩] [64])
 (.cond (.t 64)
 (.seq
 (.ops [
 ⟨(some 6), none, .mov (.c (.bool false))⟩] [6])
 .ret)
 .skip))))
 (.seq
 (.draw [
 ⟨⟨(some 66), none, .ixA 2 1 (.t 4) (.c (.int .i64 0))⟩, false, false⟩,
 ⟨⟨(some 67), none, .load none (.t 66)⟩, true, false⟩,
 ⟨⟨(some 68), none, .call (.c (.fn (.func 35) [] [])) [(.t 67), (.c (.int .i64 1)), (.c (.int .i64 14))]⟩, false, true⟩,
 ⟨⟨(some 69), none, .ixA 2 1 (.t 4) (.c (.int .i64 1))⟩, false, false⟩,
 ⟨⟨(some 70), none, .load none (.t 69)⟩, true, false⟩,
 ⟨⟨(some 71), none, .call (.c (.fn (.func 35) [] [])) [(.t 70), (.c (.int .i64 1)), (.c (.int .i64 3))]⟩, false, true⟩,
 ⟨⟨(some 72), none, .call (.c (.fn (.func 27) [] [])) [(.t 68), (.t 71)]⟩, false, true⟩,
 ⟨⟨(some 65), none, .mov (.t 72)⟩, false, false⟩,
 ⟨⟨(some 73), none, .ext (.t 65) 0⟩, false, false⟩,
 ⟨⟨(some 74), none, .ext (.t 65) 1⟩, false, false⟩,
 ⟨⟨(some 16), none, .mov (.t 73)⟩, false, false⟩,
 ⟨⟨(some 17), none, .mov (.t 74)⟩, false, false⟩] [0, 1, 3, 0, 8, 31, 63, 127, 255, 255, 511, 2047] [16, 17])
 (.seq
 (.seq
 (.ops [
 ⟨(some 75), none, .mov (.t 17)⟩,
 ⟨(some 76), none, .bin .eql .no (.t 75) (.c (.int .i64 0))⟩] [76])
 (.cond (.t 76)
 (.seq
 (.ops [
 ⟨(some 78), none, .mov (.t 16)⟩,
 ⟨(some 79), none, .call (.c (.fn (.func 25) [] [])) [(.t 78)]⟩,
 ⟨(some 77), none, .mov (.t 79)⟩,
 ⟨(some 80), none, .ext (.t 77) 0⟩,
 ⟨(some 81), none, .ext (.t 77) 1⟩,
 ⟨(some 18), none, .mov (.t 80)⟩,
 ⟨(some 19), none, .mov (.t 81)⟩] [19])
 (.seq
 (.ops [
 ⟨(some 82), none, .mov (.t 19)⟩,
 ⟨(some 83), none, .bin .neq .no (.t 82) (.c (.int .i64 5))⟩] [83])
 (.cond (.t 83)
 (.seq
 (.ops [
 ⟨(some 6), none, .mov (.c (.bool false))⟩] [6])
 .ret)
 .skip)))
 (.seq
 (.ops [
 ⟨(some 84), none, .mov (.t 17)⟩,
 ⟨(some 85), none, .bin .neq .no (.t 84) (.c (.int .i64 5))⟩] [85])
 (.cond (.t 85)
 (.seq
 (.ops [
 ⟨(some 6), none, .mov (.c (.bool false))⟩] [6])
 .ret)
 .skip))))
 (.seq
 (.ops [
 ⟨(some 86), none, .mov (.t 2)⟩,
 ⟨(some 87), none, .call (.c (.fn (.func 35) [] [])) [(.t 86), (.c (.int .i64 3)), (.c (.int .i64 4))]⟩,
 ⟨(some 20), none, .mov (.t 87)⟩] [20])
 (.seq
 (.draw [
 ⟨⟨(some 89), none, .ixA 2 1 (.t 4) (.c (.int .i64 0))⟩, false, false⟩,
 ⟨⟨(some 90), none, .load none (.t 89)⟩, true, false⟩,
 ⟨⟨(some 91), none, .call (.c (.fn (.func 35) [] [])) [(.t 90), (.c (.int .i64 1)), (.c (.int .i64 12))]⟩, false, true⟩,
 ⟨⟨(some 92), none, .ixA 2 1 (.t 4) (.c (.int .i64 1))⟩, false, false⟩,
 ⟨⟨(some 93), none, .load none (.t 92)⟩, true, false⟩,
 ⟨⟨(some 94), none, .call (.c (.fn (.func 35) [] [])) [(.t 93), (.c (.int .i64 1)), (.c (.int .i64 2))]⟩, false, true⟩,
 ⟨⟨(some 95), none, .mov (.t 20)⟩, false, false⟩,
 ⟨⟨(some 96), none, .call (.c (.fn (.func 31) [] [])) [(.t 91), (.t 94), (.t 95)]⟩, false, true⟩,
 ⟨⟨(some 88), none, .mov (.t 96)⟩, false, false⟩,
 ⟨⟨(some 97), none, .ext (.t 88) 0⟩, false, false⟩,
 ⟨⟨(some 98), none, .ext (.t 88) 1⟩, false, false⟩,
 ⟨⟨(some 21), none, .mov (.t 97)⟩, false, false⟩,
 ⟨⟨(some 22), none, .mov (.t 98)⟩, false, false⟩] [0, 1, 3, 0, 8, 31, 0, 127, 255, 511, 511, 1023, 4095] [21, 22])
 (.seq
 (.seq
 (.ops [
 ⟨(some 99), none, .mov (.t 22)⟩,
 ⟨(some 100), none, .bin .eql .no (.t 99) (.c (.int .i64 0))⟩] [100])
 (.cond (.t 100)
 (.seq
 (.ops [
 ⟨(some 102), none, .mov (.t 21)⟩,
 ⟨(some 103), none, .mov (.t 20)⟩,
 ⟨(some 104), none, .call (.c (.fn (.func 29) [] [])) [(.t 102), (.t 103)]⟩,
 ⟨(some 101), none, .mov (.t 104)⟩,
 ⟨(some 105), none, .ext (.t 101) 0⟩,
 ⟨(some 106), none, .ext (.t 101) 1⟩,
 ⟨(some 23), none, .mov (.t 105)⟩,
 ⟨(some 24), none, .mov (.t 106)⟩] [24])
 (.seq
 (.ops [
 ⟨(some 107), none, .mov (.t 24)⟩,
 ⟨(some 108), none, .bin .neq .no (.t 107) (.c (.int .i64 5))⟩] [108])
 (.cond (.t 108)
 (.seq
 (.ops [
 ⟨(some 6), none, .mov (.c (.bool false))⟩] [6])
 .ret)
 .skip)))
 (.seq
 (.ops [
 ⟨(some 109), none, .mov (.t 22)⟩,
 ⟨(some 110), none, .bin .neq .no (.t 109) (.c (.int .i64 5))⟩] [110])
 (.cond (.t 110)
 (.seq
 (.ops [
 ⟨(some 6), none, .mov (.c (.bool false))⟩] [6])
 .ret)
 .skip))))
 (.seq
 (.ops [
 ⟨(some 111), none, .call (.c (.fn (.func 19) [] [])) []⟩,
 ⟨(some 6), none, .mov (.t 111)⟩] [6])
 .ret)))))))))),
 [.tmp 6]⟩

/-- bellpull/bellpulllaw01.PaintRamsey -/
noncomputable def sf10 : SFun := ⟨[0, 1, 4, 5, 6, 8, 9, 10, 12, 14], 91,
 (.seq
 (.ops [
 ⟨(some 4), none, .mov (.c (.bool false))⟩] [4])
 (.seq
 (.ops [
 ⟨(some 15), none, .mov (.t 0)⟩,
 ⟨(some 16), none, .call (.c (.fn (.func 35) [] [])) [(.t 15), (.c (.int .i64 1)), (.c (.int .i64 8))]⟩,
 ⟨(some 17), none, .mov (.t 1)⟩,
 ⟨(some 18), none, .call (.c (.fn (.func 35) [] [])) [(.t 17), (.c (.int .i64 2)), (.c (.int .i64 4))]⟩,
 ⟨(some 5), none, .mov (.t 16)⟩,
 ⟨(some 6), none, .mov (.t 18)⟩] [5, 6])
 (.seq
 (.ops [
 ⟨(some 20), none, .mov (.t 5)⟩,
 ⟨(some 21), none, .call (.c (.fn (.func 23) [] [])) [(.t 20), (.c (.int .i64 3)), (.c (.int .i64 3))]⟩,
 ⟨(some 19), none, .mov (.t 21)⟩,
 ⟨(some 22), none, .ext (.t 19) 0⟩,
 ⟨(some 23), none, .ext (.t 19) 1⟩,
 ⟨(some 7), none, .mov (.t 22)⟩,
 ⟨(some 8), none, .mov (.t 23)⟩] [8])
 (.seq
 (.ops [
 ⟨(some 25), none, .mov (.t 5)⟩,
 ⟨(some 26), none, .call (.c (.fn (.func 23) [] [])) [(.t 25), (.c (.int .i64 3)), (.c (.int .i64 4))]⟩,
 ⟨(some 24), none, .mov (.t 26)⟩,
 ⟨(some 27), none, .ext (.t 24) 0⟩,
 ⟨(some 28), none, .ext (.t 24) 1⟩,
 ⟨(some 9), none, .mov (.t 27)⟩,
 ⟨(some 10), none, .mov (.t 28)⟩] [9, 10])
 (.seq
 (.ops [
 ⟨(some 30), none, .mov (.t 5)⟩,
 ⟨(some 31), none, .mov (.t 6)⟩,
 ⟨(some 32), none, .call (.c (.fn (.func 23) [] [])) [(.t 30), (.c (.int .i64 2)), (.t 31)]⟩,
 ⟨(some 29), none, .mov (.t 32)⟩,
 ⟨(some 33), none, .ext (.t 29) 0⟩,
 ⟨(some 34), none, .ext (.t 29) 1⟩,
 ⟨(some 11), none, .mov (.t 33)⟩,
 ⟨(some 12), none, .mov (.t 34)⟩] [12])
 (.seq
 (.ops [
 ⟨(some 36), none, .mov (.t 5)⟩,
 ⟨(some 37), none, .mov (.t 6)⟩,
 ⟨(some 38), none, .call (.c (.fn (.func 23) [] [])) [(.t 36), (.t 37), (.c (.int .i64 2))]⟩,
 ⟨(some 35), none, .mov (.t 38)⟩,
 ⟨(some 39), none, .ext (.t 35) 0⟩,
 ⟨(some 40), none, .ext (.t 35) 1⟩,
 ⟨(some 13), none, .mov (.t 39)⟩,
 ⟨(some 14), none, .mov (.t 40)⟩] [14])
 (.seq
 (.ops [
 ⟨(some 41), none, .mov (.t 8)⟩,
 ⟨(some 42), none, .bin .eql .no (.t 41) (.c (.int .i64 5))⟩,
 ⟨(some 43), none, .mov (.t 5)⟩,
 ⟨(some 44), none, .bin .geq .no (.t 43) (.c (.int .i64 6))⟩,
 ⟨(some 45), none, .bin .eql .bool (.t 42) (.t 44)⟩,
 ⟨(some 46), none, .mov (.t 45)⟩,
 ⟨(some 47), (some (46, true)), .mov (.t 8)⟩,
 ⟨(some 48), (some (46, true)), .bin .eql .no (.t 47) (.c (.int .i64 0))⟩,
 ⟨(some 49), (some (46, true)), .mov (.t 5)⟩,
 ⟨(some 50), (some (46, true)), .bin .lss .no (.t 49) (.c (.int .i64 6))⟩,
 ⟨(some 51), (some (46, true)), .bin .eql .bool (.t 48) (.t 50)⟩,
 ⟨(some 52), none, .pick (.t 46) (.t 51) (.c (.bool false))⟩,
 ⟨(some 53), none, .mov (.t 52)⟩,
 ⟨(some 54), (some (53, true)), .mov (.t 10)⟩,
 ⟨(some 55), (some (53, true)), .bin .eql .no (.t 54) (.c (.int .i64 0))⟩,
 ⟨(some 56), none, .pick (.t 53) (.t 55) (.c (.bool false))⟩,
 ⟨(some 57), none, .mov (.t 56)⟩,
 ⟨(some 58), (some (57, true)), .mov (.t 9)⟩,
 ⟨(some 59), (some (57, true)), .lenS (.t 58)⟩,
 ⟨(some 60), (some (57, true)), .mov (.t 5)⟩,
 ⟨(some 61), (some (57, true)), .mov (.t 5)⟩,
 ⟨(some 62), (some (57, true)), .bin .sub .no (.t 61) (.c (.int .i64 1))⟩,
 ⟨(some 63), (some (57, true)), .bin .mul .no (.t 60) (.t 62)⟩,
 ⟨(some 64), (some (57, true)), .bin .quo .no (.t 63) (.c (.int .i64 2))⟩,
 ⟨(some 65), (some (57, true)), .bin .eql .no (.t 59) (.t 64)⟩,
 ⟨(some 66), none, .pick (.t 57) (.t 65) (.c (.bool false))⟩,
 ⟨(some 67), none, .mov (.t 66)⟩,
 ⟨(some 68), (some (67, true)), .mov (.t 12)⟩,
 ⟨(some 69), (some (67, true)), .bin .eql .no (.t 68) (.c (.int .i64 5))⟩,
 ⟨(some 70), (some (67, true)), .mov (.t 5)⟩,
 ⟨(some 71), (some (67, true)), .mov (.t 6)⟩,
 ⟨(some 72), (some (67, true)), .bin .geq .no (.t 70) (.t 71)⟩,
 ⟨(some 73), (some (67, true)), .bin .eql .bool (.t 69) (.t 72)⟩,
 ⟨(some 74), none, .pick (.t 67) (.t 73) (.c (.bool false))⟩,
 ⟨(some 75), none, .mov (.t 74)⟩,
 ⟨(some 76), (some (75, true)), .mov (.t 12)⟩,
 ⟨(some 77), (some (75, true)), .bin .eql .no (.t 76) (.c (.int .i64 0))⟩,
 ⟨(some 78), (some (75, true)), .mov (.t 5)⟩,
 ⟨(some 79), (some (75, true)), .mov (.t 6)⟩,
 ⟨(some 80), (some (75, true)), .bin .lss .no (.t 78) (.t 79)⟩,
 ⟨(some 81), (some (75, true)), .bin .eql .bool (.t 77) (.t 80)⟩,
 ⟨(some 82), none, .pick (.t 75) (.t 81) (.c (.bool false))⟩,
 ⟨(some 83), none, .mov (.t 82)⟩,
 ⟨(some 84), (some (83, true)), .mov (.t 12)⟩,
 ⟨(some 85), (some (83, true)), .mov (.t 14)⟩,
 ⟨(some 86), (some (83, true)), .bin .eql .no (.t 84) (.t 85)⟩,
 ⟨(some 87), none, .pick (.t 83) (.t 86) (.c (.bool false))⟩,
 ⟨(some 88), none, .mov (.t 87)⟩,
 ⟨(some 89), (some (88, true)), .call (.c (.fn (.func 19) [] [])) []⟩,
 ⟨(some 90), none, .pick (.t 88) (.t 89) (.c (.bool false))⟩,
 ⟨(some 4), none, .mov (.t 90)⟩] [4])
 .ret))))))),
 [.tmp 4]⟩

/-- bellpull/bellpulllaw01.PaintFewer -/
noncomputable def sf11 : SFun := ⟨[0, 1, 2, 3, 4, 5, 6, 7, 8, 9, 11, 12, 13, 14, 15, 17, 19, 20, 21, 22, 23, 25, 27, 53, 58, 66, 76, 109, 130, 143], 159,
 (.seq
 (.ops [
 ⟨(some 2), none, .box (.t 0)⟩,
 ⟨(some 3), none, .box (.t 1)⟩,
 ⟨(some 4), none, .mov (.c (.bool false))⟩] [2, 3, 4])
 (.seq
 (.draw [
 ⟨⟨(some 28), none, .ixA 3 1 (.t 2) (.c (.int .i64 0))⟩, false, false⟩,
 ⟨⟨(some 29), none, .load none (.t 28)⟩, true, false⟩,
 ⟨⟨(some 30), none, .call (.c (.fn (.func 35) [] [])) [(.t 29), (.c (.int .i64 2)), (.c (.int .i64 8))]⟩, false, true⟩,
 ⟨⟨(some 31), none, .ixA 3 1 (.t 2) (.c (.int .i64 1))⟩, false, false⟩,
 ⟨⟨(some 32), none, .load none (.t 31)⟩, true, false⟩,
 ⟨⟨(some 33), none, .call (.c (.fn (.func 35) [] [])) [(.t 32), (.c (.int .i64 2)), (.c (.int .i64 4))]⟩, false, true⟩,
 ⟨⟨(some 34), none, .ixA 3 1 (.t 2) (.c (.int .i64 2))⟩, false, false⟩,
 ⟨⟨(some 35), none, .load none (.t 34)⟩, true, false⟩,
 ⟨⟨(some 36), none, .call (.c (.fn (.func 35) [] [])) [(.t 35), (.c (.int .i64 2)), (.c (.int .i64 4))]⟩, false, true⟩,
 ⟨⟨(some 5), none, .mov (.t 30)⟩, false, false⟩,
 ⟨⟨(some 6), none, .mov (.t 33)⟩, false, false⟩,
 ⟨⟨(some 7), none, .mov (.t 36)⟩, false, false⟩] [0, 1, 3, 0, 8, 31, 0, 64, 255, 511, 1023, 2047] [5, 6, 7])
 (.seq
 (.ops [
 ⟨(some 38), none, .mov (.t 5)⟩,
 ⟨(some 39), none, .mov (.t 6)⟩,
 ⟨(some 40), none, .mov (.t 7)⟩,
 ⟨(some 41), none, .call (.c (.fn (.func 23) [] [])) [(.t 38), (.t 39), (.t 40)]⟩,
 ⟨(some 37), none, .mov (.t 41)⟩,
 ⟨(some 42), none, .ext (.t 37) 0⟩,
 ⟨(some 43), none, .ext (.t 37) 1⟩,
 ⟨(some 8), none, .mov (.t 42)⟩,
 ⟨(some 9), none, .mov (.t 43)⟩] [8, 9])
 (.seq
 (.ops [
 ⟨(some 45), none, .mov (.t 5)⟩,
 ⟨(some 46), none, .bin .sub .no (.t 45) (.c (.int .i64 1))⟩,
 ⟨(some 47), none, .mov (.t 6)⟩,
 ⟨(some 48), none, .mov (.t 7)⟩,
 ⟨(some 49), none, .call (.c (.fn (.func 23) [] [])) [(.t 46), (.t 47), (.t 48)]⟩,
 ⟨(some 44), none, .mov (.t 49)⟩,
 ⟨(some 50), none, .ext (.t 44) 0⟩,
 ⟨(some 51), none, .ext (.t 44) 1⟩,
 ⟨(some 10), none, .mov (.t 50)⟩,
 ⟨(some 11), none, .mov (.t 51)⟩] [11])
 (.seq
 (.seq
 (.ops [
 ⟨(some 52), none, .mov (.t 9)⟩,
 ⟨(some 53), none, .bin .eql .no (.t 52) (.c (.int .i64 0))⟩] [53])
 (.cond (.t 53)
 (.seq
 (.ops [
 ⟨(some 54), none, .buildS [(.int .i64 0)] 0 1 []⟩,
 ⟨(some 12), none, .mov (.t 54)⟩] [12])
 (.seq
 (.seq
 (.ops [
 ⟨(some 13), none, .mov (.c (.int .i64 0))⟩] [13])
 (.block 0
 (.loop
 (.seq
 (.seq
 (.ops [
 ⟨(some 55), none, .mov (.t 13)⟩,
 ⟨(some 56), none, .mov (.t 5)⟩,
 ⟨(some 57), none, .bin .sub .no (.t 56) (.c (.int .i64 1))⟩,
 ⟨(some 58), none, .bin .lss .no (.t 55) (.t 57)⟩] [58])
 (.cond (.t 58)
 .skip
 (.exit 0)))
 (.seq
 (.block 1
 (.seq
 (.ops [
 ⟨(some 61), none, .mov (.t 13)⟩,
 ⟨(some 62), none, .bin .add .no (.t 61) (.c (.int .i64 1))⟩,
 ⟨(some 14), none, .mov (.t 62)⟩] [14])
 (.block 2
 (.loop
 (.seq
 (.seq
 (.ops [
 ⟨(some 63), none, .mov (.t 14)⟩,
 ⟨(some 64), none, .mov (.t 5)⟩,
 ⟨(some 65), none, .bin .sub .no (.t 64) (.c (.int .i64 1))⟩,
 ⟨(some 66), none, .bin .lss .no (.t 63) (.t 65)⟩] [66])
 (.cond (.t 66)
 .skip
 (.exit 2)))
 (.seq
 (.block 3
 (.seq
 (.ops [
 ⟨(some 69), none, .mov (.t 5)⟩,
 ⟨(some 70), none, .mov (.t 13)⟩,
 ⟨(some 71), none, .mov (.t 14)⟩,
 ⟨(some 72), none, .call (.c (.fn (.func 36) [] [])) [(.t 69), (.t 70), (.t 71)]⟩,
 ⟨(some 15), none, .mov (.t 72)⟩] [15])
 (.seq
 (.ops [
 ⟨(some 73), none, .mov (.t 15)⟩,
 ⟨(some 74), none, .mov (.t 8)⟩,
 ⟨(some 75), none, .lenS (.t 74)⟩,
 ⟨(some 76), none, .bin .lss .no (.t 73) (.t 75)⟩] [76])
 (.cond (.t 76)
 (.ops [
 ⟨(some 77), none, .mov (.t 12)⟩,
 ⟨(some 78), none, .mov (.t 8)⟩,
 ⟨(some 79), none, .mov (.t 15)⟩,
 ⟨(some 80), none, .ixS 1 (.t 78) (.t 79)⟩,
 ⟨(some 81), none, .load none (.t 80)⟩,
 ⟨(some 82), none, .buildS [(.int .i64 0)] 1 1 [(0, (.t 81))]⟩,
 ⟨(some 83), none, .app true 1 (.t 77) (.t 82)⟩,
 ⟨(some 12), none, .mov (.t 83)⟩] [12])
 .skip))))
 (.ops [
 ⟨(some 67), none, .mov (.t 14)⟩,
 ⟨(some 68), none, .bin .add .no (.t 67) (.c (.int .i64 1))⟩,
 ⟨(some 14), none, .mov (.t 68)⟩] [14])))))))
 (.ops [
 ⟨(some 59), none, .mov (.t 13)⟩,
 ⟨(some 60), none, .bin .add .no (.t 59) (.c (.int .i64 1))⟩,
 ⟨(some 13), none, .mov (.t 60)⟩] [13]))))))
 (.seq
 (.ops [
 ⟨(some 85), none, .mov (.t 5)⟩,
 ⟨(some 86), none, .bin .sub .no (.t 85) (.c (.int .i64 1))⟩,
 ⟨(some 87), none, .mov (.t 12)⟩,
 ⟨(some 88), none, .mov (.t 6)⟩,
 ⟨(some 89), none, .call (.c (.fn (.func 17) [] [])) [(.t 86), (.t 87), (.c (.int .i64 0)), (.t 88)]⟩,
 ⟨(some 84), none, .mov (.t 89)⟩,
 ⟨(some 90), none, .ext (.t 84) 0⟩,
 ⟨(some 91), none, .ext (.t 84) 1⟩,
 ⟨(some 16), none, .mov (.t 90)⟩,
 ⟨(some 17), none, .mov (.t 91)⟩] [17])
 (.seq
 (.ops [
 ⟨(some 93), none, .mov (.t 5)⟩,
 ⟨(some 94), none, .bin .sub .no (.t 93) (.c (.int .i64 1))⟩,
 ⟨(some 95), none, .mov (.t 12)⟩,
 ⟨(some 96), none, .mov (.t 7)⟩,
 ⟨(some 97), none, .call (.c (.fn (.func 17) [] [])) [(.t 94), (.t 95), (.c (.int .i64 1)), (.t 96)]⟩,
 ⟨(some 92), none, .mov (.t 97)⟩,
 ⟨(some 98), none, .ext (.t 92) 0⟩,
 ⟨(some 99), none, .ext (.t 92) 1⟩,
 ⟨(some 18), none, .mov (.t 98)⟩,
 ⟨(some 19), none, .mov (.t 99)⟩] [19])
 (.seq
 (.ops [
 ⟨(some 100), none, .mov (.t 11)⟩,
 ⟨(some 101), none, .bin .neq .no (.t 100) (.c (.int .i64 0))⟩,
 ⟨(some 102), none, .mov (.t 101)⟩,
 ⟨(some 103), (some (102, false)), .mov (.t 17)⟩,
 ⟨(some 104), (some (102, false)), .bin .neq .no (.t 103) (.c (.int .i64 5))⟩,
 ⟨(some 105), none, .pick (.t 102) (.c (.bool true)) (.t 104)⟩,
 ⟨(some 106), none, .mov (.t 105)⟩,
 ⟨(some 107), (some (106, false)), .mov (.t 19)⟩,
 ⟨(some 108), (some (106, false)), .bin .neq .no (.t 107) (.c (.int .i64 5))⟩,
 ⟨(some 109), none, .pick (.t 106) (.c (.bool true)) (.t 108)⟩] [109])
 (.cond (.t 109)
 (.seq
 (.ops [
 ⟨(some 4), none, .mov (.c (.bool false))⟩] [4])
 .ret)
 .skip))))))
 .skip))
 (.seq
 (.draw [
 ⟨⟨(some 110), none, .ixA 2 1 (.t 3) (.c (.int .i64 0))⟩, false, false⟩,
 ⟨⟨(some 111), none, .load none (.t 110)⟩, true, false⟩,
 ⟨⟨(some 112), none, .call (.c (.fn (.func 35) [] [])) [(.t 111), (.c (.int .i64 2)), (.c (.int .i64 14))]⟩, false, true⟩,
 ⟨⟨(some 113), none, .ixA 2 1 (.t 3) (.c (.int .i64 1))⟩, false, false⟩,
 ⟨⟨(some 114), none, .load none (.t 113)⟩, true, false⟩,
 ⟨⟨(some 115), none, .call (.c (.fn (.func 35) [] [])) [(.t 114), (.c (.int .i64 1)), (.c (.int .i64 3))]⟩, false, true⟩,
 ⟨⟨(some 20), none, .mov (.t 112)⟩, false, false⟩,
 ⟨⟨(some 21), none, .mov (.t 115)⟩, false, false⟩] [0, 1, 3, 0, 8, 31, 63, 127] [20, 21])
 (.seq
 (.ops [
 ⟨(some 117), none, .mov (.t 20)⟩,
 ⟨(some 118), none, .mov (.t 21)⟩,
 ⟨(some 119), none, .call (.c (.fn (.func 27) [] [])) [(.t 117), (.t 118)]⟩,
 ⟨(some 116), none, .mov (.t 119)⟩,
 ⟨(some 120), none, .ext (.t 116) 0⟩,
 ⟨(some 121), none, .ext (.t 116) 1⟩,
 ⟨(some 22), none, .mov (.t 120)⟩,
 ⟨(some 23), none, .mov (.t 121)⟩] [22, 23])
 (.seq
 (.ops [
 ⟨(some 123), none, .mov (.t 20)⟩,
 ⟨(some 124), none, .bin .sub .no (.t 123) (.c (.int .i64 1))⟩,
 ⟨(some 125), none, .mov (.t 21)⟩,
 ⟨(some 126), none, .call (.c (.fn (.func 27) [] [])) [(.t 124), (.t 125)]⟩,
 ⟨(some 122), none, .mov (.t 126)⟩,
 ⟨(some 127), none, .ext (.t 122) 0⟩,
 ⟨(some 128), none, .ext (.t 122) 1⟩,
 ⟨(some 24), none, .mov (.t 127)⟩,
 ⟨(some 25), none, .mov (.t 128)⟩] [25])
 (.seq
 (.seq
 (.ops [
 ⟨(some 129), none, .mov (.t 23)⟩,
 ⟨(some 130), none, .bin .neq .no (.t 129) (.c (.int .i64 0))⟩] [130])
 (.cond (.t 130)
 (.seq
 (.ops [
 ⟨(some 131), none, .mov (.t 23)⟩,
 ⟨(some 132), none, .bin .eql .no (.t 131) (.c (.int .i64 5))⟩,
 ⟨(some 133), none, .mov (.t 132)⟩,
 ⟨(some 134), (some (133, true)), .call (.c (.fn (.func 19) [] [])) []⟩,
 ⟨(some 135), none, .pick (.t 133) (.t 134) (.c (.bool false))⟩,
 ⟨(some 4), none, .mov (.t 135)⟩] [4])
 .ret)
 .skip))
 (.seq
 (.seq
 (.ops [
 ⟨(some 136), none, .mov (.t 22)⟩,
 ⟨(some 137), none, .lenS (.t 136)⟩,
 ⟨(some 138), none, .mov (.t 20)⟩,
 ⟨(some 139), none, .bin .neq .no (.t 137) (.t 138)⟩,
 ⟨(some 140), none, .mov (.t 139)⟩,
 ⟨(some 141), (some (140, false)), .mov (.t 25)⟩,
 ⟨(some 142), (some (140, false)), .bin .neq .no (.t 141) (.c (.int .i64 0))⟩,
 ⟨(some 143), none, .pick (.t 140) (.c (.bool true)) (.t 142)⟩] [143])
 (.cond (.t 143)
 (.seq
 (.ops [
 ⟨(some 4), none, .mov (.c (.bool false))⟩] [4])
 .ret)
 .skip))
 (.seq
 (.ops [
 ⟨(some 145), none, .mov (.t 22)⟩,
 ⟨(some 146), none, .mov (.t 20)⟩,
 ⟨(some 147), none, .bin .sub .no (.t 146) (.c (.int .i64 1))⟩,
 ⟨(some 148), none, .mov (.t 20)⟩,
 ⟨(some 149), none, .bin .sub .no (.t 148) (.c (.int .i64 1))⟩,
 ⟨(some 150), none, .slice3 1 (.t 145) none (.t 147) (.t 149)⟩,
 ⟨(some 151), none, .call (.c (.fn (.func 25) [] [])) [(.t 150)]⟩,
 ⟨(some 144), none, .mov (.t 151)⟩,
 ⟨(some 152), none, .ext (.t 144) 0⟩,
 ⟨(some 153), none, .ext (.t 144) 1⟩,
 ⟨(some 26), none, .mov (.t 152)⟩,
 ⟨(some 27), none, .mov (.t 153)⟩] [27])
 (.seq
 (.ops [
 ⟨(some 154), none, .mov (.t 27)⟩,
 ⟨(some 155), none, .bin .eql .no (.t 154) (.c (.int .i64 5))⟩,
 ⟨(some 156), none, .mov (.t 155)⟩,
 ⟨(some 157), (some (156, true)), .call (.c (.fn (.func 19) [] [])) []⟩,
 ⟨(some 158), none, .pick (.t 156) (.t 157) (.c (.bool false))⟩,
 ⟨(some 4), none, .mov (.t 158)⟩] [4])
 .ret)))))))))))),
 [.tmp 4]⟩

/-- bellpull/bellpulllaw01.PaintSchur -/
noncomputable def sf12 : SFun := ⟨[0, 1, 2, 6, 7, 8, 10, 11, 12, 14, 16], 93,
 (.seq
 (.ops [
 ⟨(some 6), none, .mov (.c (.bool false))⟩] [6])
 (.seq
 (.ops [
 ⟨(some 17), none, .mov (.t 0)⟩,
 ⟨(some 18), none, .call (.c (.fn (.func 35) [] [])) [(.t 17), (.c (.int .i64 1)), (.c (.int .i64 14))]⟩,
 ⟨(some 19), none, .mov (.t 1)⟩,
 ⟨(some 20), none, .call (.c (.fn (.func 35) [] [])) [(.t 19), (.c (.int .i64 1)), (.c (.int .i64 3))]⟩,
 ⟨(some 7), none, .mov (.t 18)⟩,
 ⟨(some 8), none, .mov (.t 20)⟩] [7, 8])
 (.seq
 (.ops [
 ⟨(some 22), none, .mov (.t 7)⟩,
 ⟨(some 23), none, .mov (.t 8)⟩,
 ⟨(some 24), none, .call (.c (.fn (.func 27) [] [])) [(.t 22), (.t 23)]⟩,
 ⟨(some 21), none, .mov (.t 24)⟩,
 ⟨(some 25), none, .ext (.t 21) 0⟩,
 ⟨(some 26), none, .ext (.t 21) 1⟩,
 ⟨(some 9), none, .mov (.t 25)⟩,
 ⟨(some 10), none, .mov (.t 26)⟩] [10])
 (.seq
 (.ops [
 ⟨(some 27), none, .mov (.t 0)⟩,
 ⟨(some 28), none, .call (.c (.fn (.func 35) [] [])) [(.t 27), (.c (.int .i64 1)), (.c (.int .i64 20))]⟩,
 ⟨(some 29), none, .mov (.t 2)⟩,
 ⟨(some 30), none, .call (.c (.fn (.func 35) [] [])) [(.t 29), (.c (.int .i64 3)), (.c (.int .i64 4))]⟩,
 ⟨(some 11), none, .mov (.t 28)⟩,
 ⟨(some 12), none, .mov (.t 30)⟩] [11, 12])
 (.seq
 (.ops [
 ⟨(some 32), none, .mov (.t 11)⟩,
 ⟨(some 33), none, .call (.c (.fn (.func 31) [] [])) [(.t 32), (.c (.int .i64 2)), (.c (.int .i64 3))]⟩,
 ⟨(some 31), none, .mov (.t 33)⟩,
 ⟨(some 34), none, .ext (.t 31) 0⟩,
 ⟨(some 35), none, .ext (.t 31) 1⟩,
 ⟨(some 13), none, .mov (.t 34)⟩,
 ⟨(some 14), none, .mov (.t 35)⟩] [14])
 (.seq
 (.ops [
 ⟨(some 37), none, .mov (.t 11)⟩,
 ⟨(some 38), none, .mov (.t 12)⟩,
 ⟨(some 39), none, .call (.c (.fn (.func 31) [] [])) [(.t 37), (.c (.int .i64 1)), (.t 38)]⟩,
 ⟨(some 36), none, .mov (.t 39)⟩,
 ⟨(some 40), none, .ext (.t 36) 0⟩,
 ⟨(some 41), none, .ext (.t 36) 1⟩,
 ⟨(some 15), none, .mov (.t 40)⟩,
 ⟨(some 16), none, .mov (.t 41)⟩] [16])
 (.seq
 (.ops [
 ⟨(some 42), none, .mov (.t 10)⟩,
 ⟨(some 43), none, .bin .eql .no (.t 42) (.c (.int .i64 5))⟩,
 ⟨(some 44), none, .mov (.t 7)⟩,
 ⟨(some 45), none, .buildS [(.int .i64 0)] 3 1 [(0, (.c (.int .i64 2))), (1, (.c (.int .i64 5))), (2, (.c (.int .i64 14)))]⟩,
 ⟨(some 46), none, .mov (.t 8)⟩,
 ⟨(some 47), none, .bin .sub .no (.t 46) (.c (.int .i64 1))⟩,
 ⟨(some 48), none, .ixS 1 (.t 45) (.t 47)⟩,
 ⟨(some 49), none, .load none (.t 48)⟩,
 ⟨(some 50), none, .bin .geq .no (.t 44) (.t 49)⟩,
 ⟨(some 51), none, .bin .eql .bool (.t 43) (.t 50)⟩,
 ⟨(some 52), none, .mov (.t 51)⟩,
 ⟨(some 53), (some (52, true)), .mov (.t 10)⟩,
 ⟨(some 54), (some (52, true)), .bin .eql .no (.t 53) (.c (.int .i64 0))⟩,
 ⟨(some 55), (some (52, true)), .mov (.t 54)⟩,
 ⟨(some 56), (some (55, false)), .mov (.t 10)⟩,
 ⟨(some 57), (some (55, false)), .bin .eql .no (.t 56) (.c (.int .i64 5))⟩,
 ⟨(some 58), (some (52, true)), .pick (.t 55) (.c (.bool true)) (.t 57)⟩,
 ⟨(some 59), none, .pick (.t 52) (.t 58) (.c (.bool false))⟩,
 ⟨(some 60), none, .mov (.t 59)⟩,
 ⟨(some 61), (some (60, true)), .mov (.t 14)⟩,
 ⟨(some 62), (some (60, true)), .bin .eql .no (.t 61) (.c (.int .i64 5))⟩,
 ⟨(some 63), (some (60, true)), .mov (.t 11)⟩,
 ⟨(some 64), (some (60, true)), .bin .geq .no (.t 63) (.c (.int .i64 9))⟩,
 ⟨(some 65), (some (60, true)), .bin .eql .bool (.t 62) (.t 64)⟩,
 ⟨(some 66), none, .pick (.t 60) (.t 65) (.c (.bool false))⟩,
 ⟨(some 67), none, .mov (.t 66)⟩,
 ⟨(some 68), (some (67, true)), .mov (.t 14)⟩,
 ⟨(some 69), (some (67, true)), .bin .eql .no (.t 68) (.c (.int .i64 0))⟩,
 ⟨(some 70), (some (67, true)), .mov (.t 11)⟩,
 ⟨(some 71), (some (67, true)), .bin .lss .no (.t 70) (.c (.int .i64 9))⟩,
 ⟨(some 72), (some (67, true)), .bin .eql .bool (.t 69) (.t 71)⟩,
 ⟨(some 73), none, .pick (.t 67) (.t 72) (.c (.bool false))⟩,
 ⟨(some 74), none, .mov (.t 73)⟩,
 ⟨(some 75), (some (74, true)), .mov (.t 16)⟩,
 ⟨(some 76), (some (74, true)), .bin .eql .no (.t 75) (.c (.int .i64 5))⟩,
 ⟨(some 77), (some (74, true)), .mov (.t 11)⟩,
 ⟨(some 78), (some (74, true)), .mov (.t 12)⟩,
 ⟨(some 79), (some (74, true)), .bin .geq .no (.t 77) (.t 78)⟩,
 ⟨(some 80), (some (74, true)), .bin .eql .bool (.t 76) (.t 79)⟩,
 ⟨(some 81), none, .pick (.t 74) (.t 80) (.c (.bool false))⟩,
 ⟨(some 82), none, .mov (.t 81)⟩,
 ⟨(some 83), (some (82, true)), .mov (.t 16)⟩,
 ⟨(some 84), (some (82, true)), .bin .eql .no (.t 83) (.c (.int .i64 0))⟩,
 ⟨(some 85), (some (82, true)), .mov (.t 11)⟩,
 ⟨(some 86), (some (82, true)), .mov (.t 12)⟩,
 ⟨(some 87), (some (82, true)), .bin .lss .no (.t 85) (.t 86)⟩,
 ⟨(some 88), (some (82, true)), .bin .eql .bool (.t 84) (.t 87)⟩,
 ⟨(some 89), none, .pick (.t 82) (.t 88) (.c (.bool false))⟩,
 ⟨(some 90), none, .mov (.t 89)⟩,
 ⟨(some 91), (some (90, true)), .call (.c (.fn (.func 19) [] [])) []⟩,
 ⟨(some 92), none, .pick (.t 90) (.t 91) (.c (.bool false))⟩,
 ⟨(some 6), none, .mov (.t 92)⟩] [6])
 .ret))))))),
 [.tmp 6]⟩

/-- bellpull/bellpulllaw01.PaintExchanged -/
noncomputable def sf13 : SFun := ⟨[0, 1, 2, 3, 4, 5, 6, 7, 8, 9, 11], 78,
 (.seq
 (.ops [
 ⟨(some 1), none, .box (.t 0)⟩,
 ⟨(some 2), none, .mov (.c (.bool false))⟩] [1, 2])
 (.seq
 (.draw [
 ⟨⟨(some 12), none, .ixA 3 1 (.t 1) (.c (.int .i64 0))⟩, false, false⟩,
 ⟨⟨(some 13), none, .load none (.t 12)⟩, true, false⟩,
 ⟨⟨(some 14), none, .call (.c (.fn (.func 35) [] [])) [(.t 13), (.c (.int .i64 1)), (.c (.int .i64 5))]⟩, false, true⟩,
 ⟨⟨(some 15), none, .ixA 3 1 (.t 1) (.c (.int .i64 1))⟩, false, false⟩,
 ⟨⟨(some 16), none, .load none (.t 15)⟩, true, false⟩,
 ⟨⟨(some 17), none, .call (.c (.fn (.func 35) [] [])) [(.t 16), (.c (.int .i64 2)), (.c (.int .i64 4))]⟩, false, true⟩,
 ⟨⟨(some 18), none, .ixA 3 1 (.t 1) (.c (.int .i64 2))⟩, false, false⟩,
 ⟨⟨(some 19), none, .load none (.t 18)⟩, true, false⟩,
 ⟨⟨(some 20), none, .call (.c (.fn (.func 35) [] [])) [(.t 19), (.c (.int .i64 2)), (.c (.int .i64 4))]⟩, false, true⟩,
 ⟨⟨(some 3), none, .mov (.t 14)⟩, false, false⟩,
 ⟨⟨(some 4), none, .mov (.t 17)⟩, false, false⟩,
 ⟨⟨(some 5), none, .mov (.t 20)⟩, false, false⟩] [0, 1, 3, 0, 8, 31, 0, 64, 255, 511, 1023, 2047] [3, 4, 5])
 (.seq
 (.ops [
 ⟨(some 22), none, .mov (.t 3)⟩,
 ⟨(some 23), none, .mov (.t 4)⟩,
 ⟨(some 24), none, .mov (.t 5)⟩,
 ⟨(some 25), none, .call (.c (.fn (.func 33) [] [])) [(.t 22), (.t 23), (.t 24)]⟩,
 ⟨(some 21), none, .mov (.t 25)⟩,
 ⟨(some 26), none, .ext (.t 21) 0⟩,
 ⟨(some 27), none, .ext (.t 21) 1⟩,
 ⟨(some 6), none, .mov (.t 26)⟩,
 ⟨(some 7), none, .mov (.t 27)⟩] [6, 7])
 (.seq
 (.ops [
 ⟨(some 29), none, .mov (.t 3)⟩,
 ⟨(some 30), none, .mov (.t 5)⟩,
 ⟨(some 31), none, .mov (.t 4)⟩,
 ⟨(some 32), none, .call (.c (.fn (.func 33) [] [])) [(.t 29), (.t 30), (.t 31)]⟩,
 ⟨(some 28), none, .mov (.t 32)⟩,
 ⟨(some 33), none, .ext (.t 28) 0⟩,
 ⟨(some 34), none, .ext (.t 28) 1⟩,
 ⟨(some 8), none, .mov (.t 33)⟩,
 ⟨(some 9), none, .mov (.t 34)⟩] [8, 9])
 (.seq
 (.ops [
 ⟨(some 36), none, .mov (.t 3)⟩,
 ⟨(some 37), none, .mov (.t 4)⟩,
 ⟨(some 38), none, .mov (.t 5)⟩,
 ⟨(some 39), none, .call (.c (.fn (.func 23) [] [])) [(.t 36), (.t 37), (.t 38)]⟩,
 ⟨(some 35), none, .mov (.t 39)⟩,
 ⟨(some 40), none, .ext (.t 35) 0⟩,
 ⟨(some 41), none, .ext (.t 35) 1⟩,
 ⟨(some 10), none, .mov (.t 40)⟩,
 ⟨(some 11), none, .mov (.t 41)⟩] [11])
 (.seq
 (.ops [
 ⟨(some 42), none, .mov (.t 7)⟩,
 ⟨(some 43), none, .bin .eql .no (.t 42) (.c (.int .i64 0))⟩,
 ⟨(some 44), none, .mov (.t 43)⟩,
 ⟨(some 45), (some (44, true)), .mov (.t 9)⟩,
 ⟨(some 46), (some (44, true)), .bin .eql .no (.t 45) (.c (.int .i64 0))⟩,
 ⟨(some 47), none, .pick (.t 44) (.t 46) (.c (.bool false))⟩,
 ⟨(some 48), none, .mov (.t 47)⟩,
 ⟨(some 49), (some (48, true)), .mov (.t 6)⟩,
 ⟨(some 50), (some (48, true)), .mov (.t 8)⟩,
 ⟨(some 51), (some (48, true)), .bin .eql .no (.t 49) (.t 50)⟩,
 ⟨(some 52), none, .pick (.t 48) (.t 51) (.c (.bool false))⟩,
 ⟨(some 53), none, .mov (.t 52)⟩,
 ⟨(some 54), (some (53, true)), .mov (.t 6)⟩,
 ⟨(some 55), (some (53, true)), .bin .geq .no (.t 54) (.c (.int .i64 0))⟩,
 ⟨(some 56), none, .pick (.t 53) (.t 55) (.c (.bool false))⟩,
 ⟨(some 57), none, .mov (.t 56)⟩,
 ⟨(some 58), (some (57, true)), .mov (.t 6)⟩,
 ⟨(some 59), (some (57, true)), .bin .leq .no (.t 58) (.c (.int .i64 1024))⟩,
 ⟨(some 60), none, .pick (.t 57) (.t 59) (.c (.bool false))⟩,
 ⟨(some 61), none, .mov (.t 60)⟩,
 ⟨(some 62), (some (61, true)), .mov (.t 11)⟩,
 ⟨(some 63), (some (61, true)), .bin .eql .no (.t 62) (.c (.int .i64 5))⟩,
 ⟨(some 64), (some (61, true)), .mov (.t 6)⟩,
 ⟨(some 65), (some (61, true)), .bin .eql .no (.t 64) (.c (.int .i64 0))⟩,
 ⟨(some 66), (some (61, true)), .bin .eql .bool (.t 63) (.t 65)⟩,
 ⟨(some 67), none, .pick (.t 61) (.t 66) (.c (.bool false))⟩,
 ⟨(some 68), none, .mov (.t 67)⟩,
 ⟨(some 69), (some (68, true)), .mov (.t 11)⟩,
 ⟨(some 70), (some (68, true)), .bin .eql .no (.t 69) (.c (.int .i64 0))⟩,
 ⟨(some 71), (some (68, true)), .mov (.t 6)⟩,
 ⟨(some 72), (some (68, true)), .bin .gtr .no (.t 71) (.c (.int .i64 0))⟩,
 ⟨(some 73), (some (68, true)), .bin .eql .bool (.t 70) (.t 72)⟩,
 ⟨(some 74), none, .pick (.t 68) (.t 73) (.c (.bool false))⟩,
 ⟨(some 75), none, .mov (.t 74)⟩,
 ⟨(some 76), (some (75, true)), .call (.c (.fn (.func 19) [] [])) []⟩,
 ⟨(some 77), none, .pick (.t 75) (.t 76) (.c (.bool false))⟩,
 ⟨(some 2), none, .mov (.t 77)⟩] [2])
 .ret)))))),
 [.tmp 2]⟩

/-- bellpull/bellpulllaw01.PaintFound -/
noncomputable def sf14 : SFun := ⟨[0, 1, 2, 6, 7, 8, 9, 10, 11, 12, 13, 14, 15, 16, 17, 18, 19, 20, 21, 22, 23, 24, 35, 41, 59, 73, 103, 113, 116, 121, 138, 218, 220, 256, 259, 282], 308,
 (.seq
 (.ops [
 ⟨(some 6), none, .mov (.c (.bool false))⟩] [6])
 (.seq
 (.ops [
 ⟨(some 25), none, .mov (.t 0)⟩,
 ⟨(some 26), none, .call (.c (.fn (.func 35) [] [])) [(.t 25), (.c (.int .i64 1)), (.c (.int .i64 8))]⟩,
 ⟨(some 7), none, .mov (.t 26)⟩] [7])
 (.seq
 (.ops [
 ⟨(some 27), none, .buildS [(.int .i64 0)] 0 1 []⟩,
 ⟨(some 28), none, .buildS [(.int .i64 0)] 0 1 []⟩,
 ⟨(some 8), none, .mov (.t 27)⟩,
 ⟨(some 9), none, .mov (.t 28)⟩] [8, 9])
 (.seq
 (.seq
 (.ops [
 ⟨(some 10), none, .mov (.c (.int .i64 0))⟩] [10])
 (.block 0
 (.loop
 (.seq
 (.seq
 (.ops [
 ⟨(some 29), none, .mov (.t 10)⟩,
 ⟨(some 30), none, .mov (.t 7)⟩,
 ⟨(some 31), none, .mov (.t 7)⟩,
 ⟨(some 32), none, .bin .sub .no (.t 31) (.c (.int .i64 1))⟩,
 ⟨(some 33), none, .bin .mul .no (.t 30) (.t 32)⟩,
 ⟨(some 34), none, .bin .quo .no (.t 33) (.c (.int .i64 2))⟩,
 ⟨(some 35), none, .bin .lss .no (.t 29) (.t 34)⟩] [35])
 (.cond (.t 35)
 .skip
 (.exit 0)))
 (.seq
 (.block 1
 (.seq
 (.ops [
 ⟨(some 11), none, .mov (.c (.int .i64 0))⟩] [11])
 (.seq
 (.seq
 (.ops [
 ⟨(some 38), none, .mov (.t 10)⟩,
 ⟨(some 39), none, .mov (.t 1)⟩,
 ⟨(some 40), none, .lenS (.t 39)⟩,
 ⟨(some 41), none, .bin .lss .no (.t 38) (.t 40)⟩] [41])
 (.cond (.t 41)
 (.ops [
 ⟨(some 42), none, .mov (.t 1)⟩,
 ⟨(some 43), none, .mov (.t 10)⟩,
 ⟨(some 44), none, .ixS 1 (.t 42) (.t 43)⟩,
 ⟨(some 45), none, .load none (.t 44)⟩,
 ⟨(some 46), none, .conv .i64 (.t 45)⟩,
 ⟨(some 47), none, .bin .rem .no (.t 46) (.c (.int .i64 2))⟩,
 ⟨(some 11), none, .mov (.t 47)⟩] [11])
 .skip))
 (.ops [
 ⟨(some 48), none, .mov (.t 8)⟩,
 ⟨(some 49), none, .mov (.t 11)⟩,
 ⟨(some 50), none, .buildS [(.int .i64 0)] 1 1 [(0, (.t 49))]⟩,
 ⟨(some 51), none, .app true 1 (.t 48) (.t 50)⟩,
 ⟨(some 8), none, .mov (.t 51)⟩] [8]))))
 (.ops [
 ⟨(some 36), none, .mov (.t 10)⟩,
 ⟨(some 37), none, .bin .add .no (.t 36) (.c (.int .i64 1))⟩,
 ⟨(some 10), none, .mov (.t 37)⟩] [10]))))))
 (.seq
 (.seq
 (.ops [
 ⟨(some 12), none, .mov (.c (.int .i64 0))⟩] [12])
 (.block 2
 (.loop
 (.seq
 (.seq
 (.ops [
 ⟨(some 52), none, .mov (.t 12)⟩,
 ⟨(some 53), none, .mov (.t 1)⟩,
 ⟨(some 54), none, .lenS (.t 53)⟩,
 ⟨(some 55), none, .bin .lss .no (.t 52) (.t 54)⟩,
 ⟨(some 56), none, .mov (.t 55)⟩,
 ⟨(some 57), (some (56, true)), .mov (.t 12)⟩,
 ⟨(some 58), (some (56, true)), .bin .lss .no (.t 57) (.c (.int .i64 14))⟩,
 ⟨(some 59), none, .pick (.t 56) (.t 58) (.c (.bool false))⟩] [59])
 (.cond (.t 59)
 .skip
 (.exit 2)))
 (.seq
 (.block 3
 (.ops [
 ⟨(some 62), none, .mov (.t 9)⟩,
 ⟨(some 63), none, .mov (.t 1)⟩,
 ⟨(some 64), none, .mov (.t 12)⟩,
 ⟨(some 65), none, .ixS 1 (.t 63) (.t 64)⟩,
 ⟨(some 66), none, .load none (.t 65)⟩,
 ⟨(some 67), none, .conv .i64 (.t 66)⟩,
 ⟨(some 68), none, .bin .rem .no (.t 67) (.c (.int .i64 3))⟩,
 ⟨(some 69), none, .buildS [(.int .i64 0)] 1 1 [(0, (.t 68))]⟩,
 ⟨(some 70), none, .app true 1 (.t 62) (.t 69)⟩,
 ⟨(some 9), none, .mov (.t 70)⟩] [9]))
 (.ops [
 ⟨(some 60), none, .mov (.t 12)⟩,
 ⟨(some 61), none, .bin .add .no (.t 60) (.c (.int .i64 1))⟩,
 ⟨(some 12), none, .mov (.t 61)⟩] [12]))))))
 (.seq
 (.seq
 (.ops [
 ⟨(some 71), none, .mov (.t 9)⟩,
 ⟨(some 72), none, .lenS (.t 71)⟩,
 ⟨(some 73), none, .bin .eql .no (.t 72) (.c (.int .i64 0))⟩] [73])
 (.cond (.t 73)
 (.ops [
 ⟨(some 74), none, .buildS [(.int .i64 0)] 1 1 [(0, (.c (.int .i64 0)))]⟩,
 ⟨(some 9), none, .mov (.t 74)⟩] [9])
 .skip))
 (.seq
 (.ops [
 ⟨(some 75), none, .mov (.t 2)⟩,
 ⟨(some 76), none, .conv .i64 (.t 75)⟩,
 ⟨(some 77), none, .bin .rem .no (.t 76) (.c (.int .i64 2))⟩,
 ⟨(some 78), none, .mov (.t 2)⟩,
 ⟨(some 79), none, .bin .quo .no (.t 78) (.c (.int .u8 2))⟩,
 ⟨(some 80), none, .call (.c (.fn (.func 35) [] [])) [(.t 79), (.c (.int .i64 1)), (.c (.int .i64 4))]⟩,
 ⟨(some 81), none, .mov (.t 2)⟩,
 ⟨(some 82), none, .call (.c (.fn (.func 35) [] [])) [(.t 81), (.c (.int .i64 3)), (.c (.int .i64 4))]⟩,
 ⟨(some 13), none, .mov (.t 77)⟩,
 ⟨(some 14), none, .mov (.t 80)⟩,
 ⟨(some 15), none, .mov (.t 82)⟩] [13, 14, 15])
 (.seq
 (.ops [
 ⟨(some 84), none, .mov (.t 7)⟩,
 ⟨(some 85), none, .mov (.t 8)⟩,
 ⟨(some 86), none, .mov (.t 13)⟩,
 ⟨(some 87), none, .mov (.t 14)⟩,
 ⟨(some 88), none, .call (.c (.fn (.func 17) [] [])) [(.t 84), (.t 85), (.t 86), (.t 87)]⟩,
 ⟨(some 83), none, .mov (.t 88)⟩,
 ⟨(some 89), none, .ext (.t 83) 0⟩,
 ⟨(some 90), none, .ext (.t 83) 1⟩,
 ⟨(some 16), none, .mov (.t 89)⟩,
 ⟨(some 17), none, .mov (.t 90)⟩] [16, 17])
 (.seq
 (.ops [
 ⟨(some 92), none, .mov (.t 9)⟩,
 ⟨(some 93), none, .call (.c (.fn (.func 25) [] [])) [(.t 92)]⟩,
 ⟨(some 91), none, .mov (.t 93)⟩,
 ⟨(some 94), none, .ext (.t 91) 0⟩,
 ⟨(some 95), none, .ext (.t 91) 1⟩,
 ⟨(some 18), none, .mov (.t 94)⟩,
 ⟨(some 19), none, .mov (.t 95)⟩] [18, 19])
 (.seq
 (.ops [
 ⟨(some 97), none, .mov (.t 9)⟩,
 ⟨(some 98), none, .mov (.t 15)⟩,
 ⟨(some 99), none, .call (.c (.fn (.func 29) [] [])) [(.t 97), (.t 98)]⟩,
 ⟨(some 96), none, .mov (.t 99)⟩,
 ⟨(some 100), none, .ext (.t 96) 0⟩,
 ⟨(some 101), none, .ext (.t 96) 1⟩,
 ⟨(some 20), none, .mov (.t 100)⟩,
 ⟨(some 21), none, .mov (.t 101)⟩] [20, 21])
 (.seq
 (.seq
 (.ops [
 ⟨(some 102), none, .mov (.t 17)⟩,
 ⟨(some 103), none, .bin .eql .no (.t 102) (.c (.int .i64 0))⟩] [103])
 (.cond (.t 103)
 (.seq
 (.seq
 (.ops [
 ⟨(some 104), none, .mov (.t 7)⟩,
 ⟨(some 105), none, .mov (.t 16)⟩,
 ⟨(some 106), none, .call (.c (.fn (.func 37) [] [])) [(.t 104), (.t 105)]⟩,
 ⟨(some 107), none, .not (.t 106)⟩,
 ⟨(some 108), none, .mov (.t 107)⟩,
 ⟨(some 109), (some (108, false)), .mov (.t 16)⟩,
 ⟨(some 110), (some (108, false)), .lenS (.t 109)⟩,
 ⟨(some 111), (some (108, false)), .mov (.t 14)⟩,
 ⟨(some 112), (some (108, false)), .bin .neq .no (.t 110) (.t 111)⟩,
 ⟨(some 113), none, .pick (.t 108) (.c (.bool true)) (.t 112)⟩] [113])
 (.cond (.t 113)
 (.seq
 (.ops [
 ⟨(some 6), none, .mov (.c (.bool false))⟩] [6])
 .ret)
 .skip))
 (.seq
 (.ops [
 ⟨(some 22), none, .mov (.c (.int .i64 0))⟩] [22])
 (.block 4
 (.loop
 (.seq
 (.seq
 (.ops [
 ⟨(some 114), none, .mov (.t 22)⟩,
 ⟨(some 115), none, .mov (.t 14)⟩,
 ⟨(some 116), none, .bin .lss .no (.t 114) (.t 115)⟩] [116])
 (.cond (.t 116)
 .skip
 (.exit 4)))
 (.seq
 (.block 5
 (.seq
 (.ops [
 ⟨(some 23), none, .mov (.c (.int .i64 0))⟩] [23])
 (.block 6
 (.loop
 (.seq
 (.seq
 (.ops [
 ⟨(some 119), none, .mov (.t 23)⟩,
 ⟨(some 120), none, .mov (.t 22)⟩,
 ⟨(some 121), none, .bin .lss .no (.t 119) (.t 120)⟩] [121])
 (.cond (.t 121)
 .skip
 (.exit 6)))
 (.seq
 (.block 7
 (.seq
 (.draw [
 ⟨⟨(some 124), none, .mov (.t 8)⟩, false, false⟩,
 ⟨⟨(some 125), none, .mov (.t 7)⟩, false, false⟩,
 ⟨⟨(some 126), none, .mov (.t 16)⟩, false, false⟩,
 ⟨⟨(some 127), none, .mov (.t 23)⟩, false, false⟩,
 ⟨⟨(some 128), none, .ixS 1 (.t 126) (.t 127)⟩, false, false⟩,
 ⟨⟨(some 129), none, .load none (.t 128)⟩, true, false⟩,
 ⟨⟨(some 130), none, .mov (.t 16)⟩, false, false⟩,
 ⟨⟨(some 131), none, .mov (.t 22)⟩, false, false⟩,
 ⟨⟨(some 132), none, .ixS 1 (.t 130) (.t 131)⟩, false, false⟩,
 ⟨⟨(some 133), none, .load none (.t 132)⟩, true, false⟩,
 ⟨⟨(some 134), none, .call (.c (.fn (.func 36) [] [])) [(.t 125), (.t 129), (.t 133)]⟩, false, true⟩,
 ⟨⟨(some 135), none, .ixS 1 (.t 124) (.t 134)⟩, false, false⟩,
 ⟨⟨(some 136), none, .load none (.t 135)⟩, true, false⟩,
 ⟨⟨(some 137), none, .mov (.t 13)⟩, false, false⟩,
 ⟨⟨(some 138), none, .bin .neq .no (.t 136) (.t 137)⟩, false, false⟩] [0, 0, 0, 0, 12, 28, 0, 0, 192, 448, 1022, 2047, 4095, 0, 16383] [138])
 (.cond (.t 138)
 (.seq
 (.ops [
 ⟨(some 6), none, .mov (.c (.bool false))⟩] [6])
 .ret)
 .skip)))
 (.ops [
 ⟨(some 122), none, .mov (.t 23)⟩,
 ⟨(some 123), none, .bin .add .no (.t 122) (.c (.int .i64 1))⟩,
 ⟨(some 23), none, .mov (.t 123)⟩] [23])))))))
 (.ops [
 ⟨(some 117), none, .mov (.t 22)⟩,
 ⟨(some 118), none, .bin .add .no (.t 117) (.c (.int .i64 1))⟩,
 ⟨(some 22), none, .mov (.t 118)⟩] [22])))))))
 .skip))
 (.seq
 (.seq
 (.ops [
 ⟨(some 139), none, .mov (.t 19)⟩,
 ⟨(some 140), none, .bin .eql .no (.t 139) (.c (.int .i64 0))⟩,
 ⟨(some 141), none, .mov (.t 140)⟩,
 ⟨(some 142), (some (141, true)), .mov (.t 18)⟩,
 ⟨(some 143), (some (141, true)), .lenS (.t 142)⟩,
 ⟨(some 144), (some (141, true)), .bin .neq .no (.t 143) (.c (.int .i64 2))⟩,
 ⟨(some 145), (some (141, true)), .mov (.t 144)⟩,
 ⟨(some 146), (some (145, false)), .mov (.t 18)⟩,
 ⟨(some 147), (some (145, false)), .ixS 1 (.t 146) (.c (.int .i64 0))⟩,
 ⟨(some 148), (some (145, false)), .load none (.t 147)⟩,
 ⟨(some 149), (some (145, false)), .bin .lss .no (.t 148) (.c (.int .i64 1))⟩,
 ⟨(some 150), (some (141, true)), .pick (.t 145) (.c (.bool true)) (.t 149)⟩,
 ⟨(some 151), (some (141, true)), .mov (.t 150)⟩,
 ⟨(some 152), (some (151, false)), .mov (.t 18)⟩,
 ⟨(some 153), (some (151, false)), .ixS 1 (.t 152) (.c (.int .i64 1))⟩,
 ⟨(some 154), (some (151, false)), .load none (.t 153)⟩,
 ⟨(some 155), (some (151, false)), .mov (.t 18)⟩,
 ⟨(some 156), (some (151, false)), .ixS 1 (.t 155) (.c (.int .i64 0))⟩,
 ⟨(some 157), (some (151, false)), .load none (.t 156)⟩,
 ⟨(some 158), (some (151, false)), .bin .lss .no (.t 154) (.t 157)⟩,
 ⟨(some 159), (some (141, true)), .pick (.t 151) (.c (.bool true)) (.t 158)⟩,
 ⟨(some 160), (some (141, true)), .mov (.t 159)⟩,
 ⟨(some 161), (some (160, false)), .mov (.t 18)⟩,
 ⟨(some 162), (some (160, false)), .ixS 1 (.t 161) (.c (.int .i64 1))⟩,
 ⟨(some 163), (some (160, false)), .load none (.t 162)⟩,
 ⟨(some 164), (some (160, false)), .mov (.t 9)⟩,
 ⟨(some 165), (some (160, false)), .lenS (.t 164)⟩,
 ⟨(some 166), (some (160, false)), .bin .gtr .no (.t 163) (.t 165)⟩,
 ⟨(some 167), (some (141, true)), .pick (.t 160) (.c (.bool true)) (.t 166)⟩,
 ⟨(some 168), (some (141, true)), .mov (.t 167)⟩,
 ⟨(some 169), (some (168, false)), .mov (.t 18)⟩,
 ⟨(some 170), (some (168, false)), .ixS 1 (.t 169) (.c (.int .i64 0))⟩,
 ⟨(some 171), (some (168, false)), .load none (.t 170)⟩,
 ⟨(some 172), (some (168, false)), .mov (.t 18)⟩,
 ⟨(some 173), (some (168, false)), .ixS 1 (.t 172) (.c (.int .i64 1))⟩,
 ⟨(some 174), (some (168, false)), .load none (.t 173)⟩,
 ⟨(some 175), (some (168, false)), .bin .add .no (.t 171) (.t 174)⟩,
 ⟨(some 176), (some (168, false)), .mov (.t 9)⟩,
 ⟨(some 177), (some (168, false)), .lenS (.t 176)⟩,
 ⟨(some 178), (some (168, false)), .bin .gtr .no (.t 175) (.t 177)⟩,
 ⟨(some 179), (some (141, true)), .pick (.t 168) (.c (.bool true)) (.t 178)⟩,
 ⟨(some 180), (some (141, true)), .mov (.t 179)⟩,
 ⟨(some 181), (some (180, false)), .mov (.t 9)⟩,
 ⟨(some 182), (some (180, false)), .mov (.t 18)⟩,
 ⟨(some 183), (some (180, false)), .ixS 1 (.t 182) (.c (.int .i64 0))⟩,
 ⟨(some 184), (some (180, false)), .load none (.t 183)⟩,
 ⟨(some 185), (some (180, false)), .bin .sub .no (.t 184) (.c (.int .i64 1))⟩,
 ⟨(some 186), (some (180, false)), .ixS 1 (.t 181) (.t 185)⟩,
 ⟨(some 187), (some (180, false)), .load none (.t 186)⟩,
 ⟨(some 188), (some (180, false)), .mov (.t 9)⟩,
 ⟨(some 189), (some (180, false)), .mov (.t 18)⟩,
 ⟨(some 190), (some (180, false)), .ixS 1 (.t 189) (.c (.int .i64 1))⟩,
 ⟨(some 191), (some (180, false)), .load none (.t 190)⟩,
 ⟨(some 192), (some (180, false)), .bin .sub .no (.t 191) (.c (.int .i64 1))⟩,
 ⟨(some 193), (some (180, false)), .ixS 1 (.t 188) (.t 192)⟩,
 ⟨(some 194), (some (180, false)), .load none (.t 193)⟩,
 ⟨(some 195), (some (180, false)), .bin .neq .no (.t 187) (.t 194)⟩,
 ⟨(some 196), (some (141, true)), .pick (.t 180) (.c (.bool true)) (.t 195)⟩,
 ⟨(some 197), (some (141, true)), .mov (.t 196)⟩,
 ⟨(some 198), (some (197, false)), .mov (.t 9)⟩,
 ⟨(some 199), (some (197, false)), .mov (.t 18)⟩,
 ⟨(some 200), (some (197, false)), .ixS 1 (.t 199) (.c (.int .i64 0))⟩,
 ⟨(some 201), (some (197, false)), .load none (.t 200)⟩,
 ⟨(some 202), (some (197, false)), .bin .sub .no (.t 201) (.c (.int .i64 1))⟩,
 ⟨(some 203), (some (197, false)), .ixS 1 (.t 198) (.t 202)⟩,
 ⟨(some 204), (some (197, false)), .load none (.t 203)⟩,
 ⟨(some 205), (some (197, false)), .mov (.t 9)⟩,
 ⟨(some 206), (some (197, false)), .mov (.t 18)⟩,
 ⟨(some 207), (some (197, false)), .ixS 1 (.t 206) (.c (.int .i64 0))⟩,
 ⟨(some 208), (some (197, false)), .load none (.t 207)⟩,
 ⟨(some 209), (some (197, false)), .mov (.t 18)⟩,
 ⟨(some 210), (some (197, false)), .ixS 1 (.t 209) (.c (.int .i64 1))⟩,
 ⟨(some 211), (some (197, false)), .load none (.t 210)⟩,
 ⟨(some 212), (some (197, false)), .bin .add .no (.t 208) (.t 211)⟩,
 ⟨(some 213), (some (197, false)), .bin .sub .no (.t 212) (.c (.int .i64 1))⟩,
 ⟨(some 214), (some (197, false)), .ixS 1 (.t 205) (.t 213)⟩,
 ⟨(some 215), (some (197, false)), .load none (.t 214)⟩,
 ⟨(some 216), (some (197, false)), .bin .neq .no (.t 204) (.t 215)⟩,
 ⟨(some 217), (some (141, true)), .pick (.t 197) (.c (.bool true)) (.t 216)⟩,
 ⟨(some 218), none, .pick (.t 141) (.t 217) (.c (.bool false))⟩] [218])
 (.cond (.t 218)
 (.seq
 (.ops [
 ⟨(some 6), none, .mov (.c (.bool false))⟩] [6])
 .ret)
 .skip))
 (.seq
 (.seq
 (.ops [
 ⟨(some 219), none, .mov (.t 21)⟩,
 ⟨(some 220), none, .bin .eql .no (.t 219) (.c (.int .i64 0))⟩] [220])
 (.cond (.t 220)
 (.seq
 (.seq
 (.ops [
 ⟨(some 221), none, .mov (.t 20)⟩,
 ⟨(some 222), none, .lenS (.t 221)⟩,
 ⟨(some 223), none, .bin .neq .no (.t 222) (.c (.int .i64 2))⟩,
 ⟨(some 224), none, .mov (.t 223)⟩,
 ⟨(some 225), (some (224, false)), .mov (.t 20)⟩,
 ⟨(some 226), (some (224, false)), .ixS 1 (.t 225) (.c (.int .i64 0))⟩,
 ⟨(some 227), (some (224, false)), .load none (.t 226)⟩,
 ⟨(some 228), (some (224, false)), .bin .lss .no (.t 227) (.c (.int .i64 1))⟩,
 ⟨(some 229), none, .pick (.t 224) (.c (.bool true)) (.t 228)⟩,
 ⟨(some 230), none, .mov (.t 229)⟩,
 ⟨(some 231), (some (230, false)), .mov (.t 20)⟩,
 ⟨(some 232), (some (230, false)), .ixS 1 (.t 231) (.c (.int .i64 1))⟩,
 ⟨(some 233), (some (230, false)), .load none (.t 232)⟩,
 ⟨(some 234), (some (230, false)), .bin .lss .no (.t 233) (.c (.int .i64 1))⟩,
 ⟨(some 235), none, .pick (.t 230) (.c (.bool true)) (.t 234)⟩,
 ⟨(some 236), none, .mov (.t 235)⟩,
 ⟨(some 237), (some (236, false)), .mov (.t 20)⟩,
 ⟨(some 238), (some (236, false)), .ixS 1 (.t 237) (.c (.int .i64 1))⟩,
 ⟨(some 239), (some (236, false)), .load none (.t 238)⟩,
 ⟨(some 240), (some (236, false)), .bin .gtr .no (.t 239) (.c (.int .i64 20))⟩,
 ⟨(some 241), none, .pick (.t 236) (.c (.bool true)) (.t 240)⟩,
 ⟨(some 242), none, .mov (.t 241)⟩,
 ⟨(some 243), (some (242, false)), .mov (.t 20)⟩,
 ⟨(some 244), (some (242, false)), .ixS 1 (.t 243) (.c (.int .i64 0))⟩,
 ⟨(some 245), (some (242, false)), .load none (.t 244)⟩,
 ⟨(some 246), (some (242, false)), .mov (.t 15)⟩,
 ⟨(some 247), (some (242, false)), .bin .sub .no (.t 246) (.c (.int .i64 1))⟩,
 ⟨(some 248), (some (242, false)), .mov (.t 20)⟩,
 ⟨(some 249), (some (242, false)), .ixS 1 (.t 248) (.c (.int .i64 1))⟩,
 ⟨(some 250), (some (242, false)), .load none (.t 249)⟩,
 ⟨(some 251), (some (242, false)), .bin .mul .no (.t 247) (.t 250)⟩,
 ⟨(some 252), (some (242, false)), .bin .add .no (.t 245) (.t 251)⟩,
 ⟨(some 253), (some (242, false)), .mov (.t 9)⟩,
 ⟨(some 254), (some (242, false)), .lenS (.t 253)⟩,
 ⟨(some 255), (some (242, false)), .bin .gtr .no (.t 252) (.t 254)⟩,
 ⟨(some 256), none, .pick (.t 242) (.c (.bool true)) (.t 255)⟩] [256])
 (.cond (.t 256)
 (.seq
 (.ops [
 ⟨(some 6), none, .mov (.c (.bool false))⟩] [6])
 .ret)
 .skip))
 (.seq
 (.ops [
 ⟨(some 24), none, .mov (.c (.int .i64 1))⟩] [24])
 (.block 8
 (.loop
 (.seq
 (.seq
 (.ops [
 ⟨(some 257), none, .mov (.t 24)⟩,
 ⟨(some 258), none, .mov (.t 15)⟩,
 ⟨(some 259), none, .bin .lss .no (.t 257) (.t 258)⟩] [259])
 (.cond (.t 259)
 .skip
 (.exit 8)))
 (.seq
 (.block 9
 (.seq
 (.ops [
 ⟨(some 262), none, .mov (.t 9)⟩,
 ⟨(some 263), none, .mov (.t 20)⟩,
 ⟨(some 264), none, .ixS 1 (.t 263) (.c (.int .i64 0))⟩,
 ⟨(some 265), none, .load none (.t 264)⟩,
 ⟨(some 266), none, .mov (.t 24)⟩,
 ⟨(some 267), none, .mov (.t 20)⟩,
 ⟨(some 268), none, .ixS 1 (.t 267) (.c (.int .i64 1))⟩,
 ⟨(some 269), none, .load none (.t 268)⟩,
 ⟨(some 270), none, .bin .mul .no (.t 266) (.t 269)⟩,
 ⟨(some 271), none, .bin .add .no (.t 265) (.t 270)⟩,
 ⟨(some 272), none, .bin .sub .no (.t 271) (.c (.int .i64 1))⟩,
 ⟨(some 273), none, .ixS 1 (.t 262) (.t 272)⟩,
 ⟨(some 274), none, .load none (.t 273)⟩,
 ⟨(some 275), none, .mov (.t 9)⟩,
 ⟨(some 276), none, .mov (.t 20)⟩,
 ⟨(some 277), none, .ixS 1 (.t 276) (.c (.int .i64 0))⟩,
 ⟨(some 278), none, .load none (.t 277)⟩,
 ⟨(some 279), none, .bin .sub .no (.t 278) (.c (.int .i64 1))⟩,
 ⟨(some 280), none, .ixS 1 (.t 275) (.t 279)⟩,
 ⟨(some 281), none, .load none (.t 280)⟩,
 ⟨(some 282), none, .bin .neq .no (.t 274) (.t 281)⟩] [282])
 (.cond (.t 282)
 (.seq
 (.ops [
 ⟨(some 6), none, .mov (.c (.bool false))⟩] [6])
 .ret)
 .skip)))
 (.ops [
 ⟨(some 260), none, .mov (.t 24)⟩,
 ⟨(some 261), none, .bin .add .no (.t 260) (.c (.int .i64 1))⟩,
 ⟨(some 24), none, .mov (.t 261)⟩] [24])))))))
 .skip))
 (.seq
 (.ops [
 ⟨(some 283), none, .mov (.t 17)⟩,
 ⟨(some 284), none, .bin .eql .no (.t 283) (.c (.int .i64 0))⟩,
 ⟨(some 285), none, .mov (.t 284)⟩,
 ⟨(some 286), (some (285, false)), .mov (.t 17)⟩,
 ⟨(some 287), (some (285, false)), .bin .eql .no (.t 286) (.c (.int .i64 5))⟩,
 ⟨(some 288), none, .pick (.t 285) (.c (.bool true)) (.t 287)⟩,
 ⟨(some 289), none, .mov (.t 288)⟩,
 ⟨(some 290), (some (289, true)), .mov (.t 19)⟩,
 ⟨(some 291), (some (289, true)), .bin .eql .no (.t 290) (.c (.int .i64 0))⟩,
 ⟨(some 292), (some (289, true)), .mov (.t 291)⟩,
 ⟨(some 293), (some (292, false)), .mov (.t 19)⟩,
 ⟨(some 294), (some (292, false)), .bin .eql .no (.t 293) (.c (.int .i64 5))⟩,
 ⟨(some 295), (some (289, true)), .pick (.t 292) (.c (.bool true)) (.t 294)⟩,
 ⟨(some 296), none, .pick (.t 289) (.t 295) (.c (.bool false))⟩,
 ⟨(some 297), none, .mov (.t 296)⟩,
 ⟨(some 298), (some (297, true)), .mov (.t 21)⟩,
 ⟨(some 299), (some (297, true)), .bin .eql .no (.t 298) (.c (.int .i64 0))⟩,
 ⟨(some 300), (some (297, true)), .mov (.t 299)⟩,
 ⟨(some 301), (some (300, false)), .mov (.t 21)⟩,
 ⟨(some 302), (some (300, false)), .bin .eql .no (.t 301) (.c (.int .i64 5))⟩,
 ⟨(some 303), (some (297, true)), .pick (.t 300) (.c (.bool true)) (.t 302)⟩,
 ⟨(some 304), none, .pick (.t 297) (.t 303) (.c (.bool false))⟩,
 ⟨(some 305), none, .mov (.t 304)⟩,
 ⟨(some 306), (some (305, true)), .call (.c (.fn (.func 19) [] [])) []⟩,
 ⟨(some 307), none, .pick (.t 305) (.t 306) (.c (.bool false))⟩,
 ⟨(some 6), none, .mov (.t 307)⟩] [6])
 .ret)))))))))))))),
 [.tmp 6]⟩

/-- bellpull/bellpulllaw01.PaintDifferences -/
noncomputable def sf15 : SFun := ⟨[0, 2, 3, 4, 5, 6, 8, 9, 10, 11, 12, 14, 16, 18, 27, 41, 50, 54, 55, 56, 57, 66, 73, 82, 126], 129,
 (.seq
 (.ops [
 ⟨(some 2), none, .mov (.c (.bool false))⟩] [2])
 (.seq
 (.ops [
 ⟨(some 19), none, .buildS [(.int .i64 0)] 0 1 []⟩,
 ⟨(some 3), none, .mov (.t 19)⟩] [3])
 (.seq
 (.seq
 (.ops [
 ⟨(some 4), none, .mov (.c (.int .i64 0))⟩] [4])
 (.block 0
 (.loop
 (.seq
 (.seq
 (.ops [
 ⟨(some 20), none, .mov (.t 4)⟩,
 ⟨(some 21), none, .mov (.t 0)⟩,
 ⟨(some 22), none, .lenS (.t 21)⟩,
 ⟨(some 23), none, .bin .lss .no (.t 20) (.t 22)⟩,
 ⟨(some 24), none, .mov (.t 23)⟩,
 ⟨(some 25), (some (24, true)), .mov (.t 4)⟩,
 ⟨(some 26), (some (24, true)), .bin .lss .no (.t 25) (.c (.int .i64 7))⟩,
 ⟨(some 27), none, .pick (.t 24) (.t 26) (.c (.bool false))⟩] [27])
 (.cond (.t 27)
 .skip
 (.exit 0)))
 (.seq
 (.block 1
 (.ops [
 ⟨(some 30), none, .mov (.t 3)⟩,
 ⟨(some 31), none, .mov (.t 0)⟩,
 ⟨(some 32), none, .mov (.t 4)⟩,
 ⟨(some 33), none, .ixS 1 (.t 31) (.t 32)⟩,
 ⟨(some 34), none, .load none (.t 33)⟩,
 ⟨(some 35), none, .conv .i64 (.t 34)⟩,
 ⟨(some 36), none, .bin .rem .no (.t 35) (.c (.int .i64 2))⟩,
 ⟨(some 37), none, .buildS [(.int .i64 0)] 1 1 [(0, (.t 36))]⟩,
 ⟨(some 38), none, .app true 1 (.t 30) (.t 37)⟩,
 ⟨(some 3), none, .mov (.t 38)⟩] [3]))
 (.ops [
 ⟨(some 28), none, .mov (.t 4)⟩,
 ⟨(some 29), none, .bin .add .no (.t 28) (.c (.int .i64 1))⟩,
 ⟨(some 4), none, .mov (.t 29)⟩] [4]))))))
 (.seq
 (.seq
 (.ops [
 ⟨(some 39), none, .mov (.t 3)⟩,
 ⟨(some 40), none, .lenS (.t 39)⟩,
 ⟨(some 41), none, .bin .eql .no (.t 40) (.c (.int .i64 0))⟩] [41])
 (.cond (.t 41)
 (.seq
 (.ops [
 ⟨(some 42), none, .call (.c (.fn (.func 19) [] [])) []⟩,
 ⟨(some 2), none, .mov (.t 42)⟩] [2])
 .ret)
 .skip))
 (.seq
 (.ops [
 ⟨(some 44), none, .mov (.t 3)⟩,
 ⟨(some 45), none, .lenS (.t 44)⟩,
 ⟨(some 46), none, .call (.c (.fn (.func 27) [] [])) [(.t 45), (.c (.int .i64 2))]⟩,
 ⟨(some 43), none, .mov (.t 46)⟩,
 ⟨(some 47), none, .ext (.t 43) 0⟩,
 ⟨(some 48), none, .ext (.t 43) 1⟩,
 ⟨(some 5), none, .mov (.t 47)⟩,
 ⟨(some 6), none, .mov (.t 48)⟩] [5, 6])
 (.seq
 (.seq
 (.ops [
 ⟨(some 49), none, .mov (.t 6)⟩,
 ⟨(some 50), none, .bin .neq .no (.t 49) (.c (.int .i64 0))⟩] [50])
 (.cond (.t 50)
 (.ops [
 ⟨(some 51), none, .mov (.t 3)⟩,
 ⟨(some 5), none, .mov (.t 51)⟩] [5])
 .skip))
 (.seq
 (.seq
 (.ops [
 ⟨(some 52), none, .mov (.t 3)⟩,
 ⟨(some 53), none, .mov (.t 5)⟩,
 ⟨(some 54), none, .buildS [.nilsl] 2 1 [(0, (.t 52)), (1, (.t 53))]⟩,
 ⟨(some 55), none, .lenS (.t 54)⟩,
 ⟨(some 56), none, .mov (.c (.int .i64 0))⟩] [54, 55, 56])
 (.block 2
 (.loop
 (.seq
 (.ops [
 ⟨(some 57), none, .bin .lss .no (.t 56) (.t 55)⟩] [57])
 (.seq
 (.cond (.t 57)
 .skip
 (.exit 2))
 (.seq
 (.block 3
 (.seq
 (.ops [
 ⟨(some 58), none, .ixS 1 (.t 54) (.t 56)⟩,
 ⟨(some 59), none, .load none (.t 58)⟩,
 ⟨(some 8), none, .mov (.t 59)⟩] [8])
 (.seq
 (.ops [
 ⟨(some 60), none, .mov (.t 3)⟩,
 ⟨(some 61), none, .lenS (.t 60)⟩,
 ⟨(some 62), none, .bin .add .no (.t 61) (.c (.int .i64 1))⟩,
 ⟨(some 63), none, .buildS [(.int .i64 0)] 0 1 []⟩,
 ⟨(some 9), none, .mov (.t 62)⟩,
 ⟨(some 10), none, .mov (.t 63)⟩] [9, 10])
 (.seq
 (.seq
 (.ops [
 ⟨(some 11), none, .mov (.c (.int .i64 0))⟩] [11])
 (.block 4
 (.loop
 (.seq
 (.seq
 (.ops [
 ⟨(some 64), none, .mov (.t 11)⟩,
 ⟨(some 65), none, .mov (.t 9)⟩,
 ⟨(some 66), none, .bin .lss .no (.t 64) (.t 65)⟩] [66])
 (.cond (.t 66)
 .skip
 (.exit 4)))
 (.seq
 (.block 5
 (.seq
 (.ops [
 ⟨(some 69), none, .mov (.t 11)⟩,
 ⟨(some 70), none, .bin .add .no (.t 69) (.c (.int .i64 1))⟩,
 ⟨(some 12), none, .mov (.t 70)⟩] [12])
 (.block 6
 (.loop
 (.seq
 (.seq
 (.ops [
 ⟨(some 71), none, .mov (.t 12)⟩,
 ⟨(some 72), none, .mov (.t 9)⟩,
 ⟨(some 73), none, .bin .lss .no (.t 71) (.t 72)⟩] [73])
 (.cond (.t 73)
 .skip
 (.exit 6)))
 (.seq
 (.block 7
 (.seq
 (.seq
 (.ops [
 ⟨(some 76), none, .mov (.t 12)⟩,
 ⟨(some 77), none, .mov (.t 11)⟩,
 ⟨(some 78), none, .bin .sub .no (.t 76) (.t 77)⟩,
 ⟨(some 79), none, .bin .sub .no (.t 78) (.c (.int .i64 1))⟩,
 ⟨(some 80), none, .mov (.t 8)⟩,
 ⟨(some 81), none, .lenS (.t 80)⟩,
 ⟨(some 82), none, .bin .geq .no (.t 79) (.t 81)⟩] [82])
 (.cond (.t 82)
 (.seq
 (.ops [
 ⟨(some 2), none, .mov (.c (.bool false))⟩] [2])
 .ret)
 .skip))
 (.ops [
 ⟨(some 83), none, .mov (.t 10)⟩,
 ⟨(some 84), none, .mov (.t 8)⟩,
 ⟨(some 85), none, .mov (.t 12)⟩,
 ⟨(some 86), none, .mov (.t 11)⟩,
 ⟨(some 87), none, .bin .sub .no (.t 85) (.t 86)⟩,
 ⟨(some 88), none, .bin .sub .no (.t 87) (.c (.int .i64 1))⟩,
 ⟨(some 89), none, .ixS 1 (.t 84) (.t 88)⟩,
 ⟨(some 90), none, .load none (.t 89)⟩,
 ⟨(some 91), none, .buildS [(.int .i64 0)] 1 1 [(0, (.t 90))]⟩,
 ⟨(some 92), none, .app true 1 (.t 83) (.t 91)⟩,
 ⟨(some 10), none, .mov (.t 92)⟩] [10])))
 (.ops [
 ⟨(some 74), none, .mov (.t 12)⟩,
 ⟨(some 75), none, .bin .add .no (.t 74) (.c (.int .i64 1))⟩,
 ⟨(some 12), none, .mov (.t 75)⟩] [12])))))))
 (.ops [
 ⟨(some 67), none, .mov (.t 11)⟩,
 ⟨(some 68), none, .bin .add .no (.t 67) (.c (.int .i64 1))⟩,
 ⟨(some 11), none, .mov (.t 68)⟩] [11]))))))
 (.seq
 (.ops [
 ⟨(some 94), none, .mov (.t 8)⟩,
 ⟨(some 95), none, .call (.c (.fn (.func 25) [] [])) [(.t 94)]⟩,
 ⟨(some 93), none, .mov (.t 95)⟩,
 ⟨(some 96), none, .ext (.t 93) 0⟩,
 ⟨(some 97), none, .ext (.t 93) 1⟩,
 ⟨(some 13), none, .mov (.t 96)⟩,
 ⟨(some 14), none, .mov (.t 97)⟩] [14])
 (.seq
 (.ops [
 ⟨(some 99), none, .mov (.t 9)⟩,
 ⟨(some 100), none, .mov (.t 10)⟩,
 ⟨(some 101), none, .call (.c (.fn (.func 17) [] [])) [(.t 99), (.t 100), (.c (.int .i64 0)), (.c (.int .i64 3))]⟩,
 ⟨(some 98), none, .mov (.t 101)⟩,
 ⟨(some 102), none, .ext (.t 98) 0⟩,
 ⟨(some 103), none, .ext (.t 98) 1⟩,
 ⟨(some 15), none, .mov (.t 102)⟩,
 ⟨(some 16), none, .mov (.t 103)⟩] [16])
 (.seq
 (.ops [
 ⟨(some 105), none, .mov (.t 9)⟩,
 ⟨(some 106), none, .mov (.t 10)⟩,
 ⟨(some 107), none, .call (.c (.fn (.func 17) [] [])) [(.t 105), (.t 106), (.c (.int .i64 1)), (.c (.int .i64 3))]⟩,
 ⟨(some 104), none, .mov (.t 107)⟩,
 ⟨(some 108), none, .ext (.t 104) 0⟩,
 ⟨(some 109), none, .ext (.t 104) 1⟩,
 ⟨(some 17), none, .mov (.t 108)⟩,
 ⟨(some 18), none, .mov (.t 109)⟩] [18])
 (.seq
 (.ops [
 ⟨(some 110), none, .mov (.t 14)⟩,
 ⟨(some 111), none, .bin .eql .no (.t 110) (.c (.int .i64 5))⟩,
 ⟨(some 112), none, .mov (.t 16)⟩,
 ⟨(some 113), none, .bin .eql .no (.t 112) (.c (.int .i64 5))⟩,
 ⟨(some 114), none, .mov (.t 113)⟩,
 ⟨(some 115), (some (114, true)), .mov (.t 18)⟩,
 ⟨(some 116), (some (114, true)), .bin .eql .no (.t 115) (.c (.int .i64 5))⟩,
 ⟨(some 117), none, .pick (.t 114) (.t 116) (.c (.bool false))⟩,
 ⟨(some 118), none, .bin .neq .bool (.t 111) (.t 117)⟩,
 ⟨(some 119), none, .mov (.t 118)⟩,
 ⟨(some 120), (some (119, false)), .mov (.t 14)⟩,
 ⟨(some 121), (some (119, false)), .bin .neq .no (.t 120) (.c (.int .i64 0))⟩,
 ⟨(some 122), (some (119, false)), .mov (.t 121)⟩,
 ⟨(some 123), (some (122, true)), .mov (.t 14)⟩,
 ⟨(some 124), (some (122, true)), .bin .neq .no (.t 123) (.c (.int .i64 5))⟩,
 ⟨(some 125), (some (119, false)), .pick (.t 122) (.t 124) (.c (.bool false))⟩,
 ⟨(some 126), none, .pick (.t 119) (.c (.bool true)) (.t 125)⟩] [126])
 (.cond (.t 126)
 (.seq
 (.ops [
 ⟨(some 2), none, .mov (.c (.bool false))⟩] [2])
 .ret)
 .skip)))))))))
 (.ops [
 ⟨(some 127), none, .bin .add .no (.t 56) (.c (.int .i64 1))⟩,
 ⟨(some 56), none, .mov (.t 127)⟩] [56])))))))
 (.seq
 (.ops [
 ⟨(some 128), none, .call (.c (.fn (.func 19) [] [])) []⟩,
 ⟨(some 2), none, .mov (.t 128)⟩] [2])
 .ret)))))))),
 [.tmp 2]⟩

/-- bellpull/bellpulllaw01.cut -/
noncomputable def sf16 : SFun := ⟨[0, 2], 10,
 (.seq
 (.ops [
 ⟨(some 2), none, .mov (.c .nilsl)⟩] [2])
 (.seq
 (.ops [
 ⟨(some 3), none, .buildS [(.int .i64 0)] 0 1 []⟩,
 ⟨(some 4), none, .mov (.t 0)⟩,
 ⟨(some 5), none, .mov (.t 0)⟩,
 ⟨(some 6), none, .lenS (.t 5)⟩,
 ⟨(some 7), none, .mn (.t 6) (.c (.int .i64 29))⟩,
 ⟨(some 8), none, .slice 1 (.t 4) none (some (.t 7))⟩,
 ⟨(some 9), none, .app true 1 (.t 3) (.t 8)⟩,
 ⟨(some 2), none, .mov (.t 9)⟩] [2])
 .ret)),
 [.tmp 2]⟩

/-- bellpull/paint.Clique -/
noncomputable def sf17 : SFun := ⟨[0, 1, 2, 3, 8, 9, 22, 35], 46,
 (.seq
 (.ops [
 ⟨(some 8), none, .mov (.c .nilsl)⟩,
 ⟨(some 9), none, .mov (.c (.int .i64 0))⟩] [8, 9])
 (.seq
 (.seq
 (.ops [
 ⟨(some 10), none, .mov (.t 0)⟩,
 ⟨(some 11), none, .call (.c (.fn (.func 38) [] [])) [(.t 10), (.c (.int .i64 1)), (.c (.int .i64 8))]⟩,
 ⟨(some 12), none, .not (.t 11)⟩,
 ⟨(some 13), none, .mov (.t 12)⟩,
 ⟨(some 14), (some (13, false)), .mov (.t 2)⟩,
 ⟨(some 15), (some (13, false)), .call (.c (.fn (.func 38) [] [])) [(.t 14), (.c (.int .i64 0)), (.c (.int .i64 1))]⟩,
 ⟨(some 16), (some (13, false)), .not (.t 15)⟩,
 ⟨(some 17), none, .pick (.t 13) (.c (.bool true)) (.t 16)⟩,
 ⟨(some 18), none, .mov (.t 17)⟩,
 ⟨(some 19), (some (18, false)), .mov (.t 3)⟩,
 ⟨(some 20), (some (18, false)), .call (.c (.fn (.func 38) [] [])) [(.t 19), (.c (.int .i64 1)), (.c (.int .i64 4))]⟩,
 ⟨(some 21), (some (18, false)), .not (.t 20)⟩,
 ⟨(some 22), none, .pick (.t 18) (.c (.bool true)) (.t 21)⟩] [22])
 (.cond (.t 22)
 (.seq
 (.ops [
 ⟨(some 8), none, .mov (.c .nilsl)⟩,
 ⟨(some 9), none, .mov (.c (.int .i64 1))⟩] [8, 9])
 .ret)
 .skip))
 (.seq
 (.seq
 (.ops [
 ⟨(some 23), none, .mov (.t 1)⟩,
 ⟨(some 24), none, .lenS (.t 23)⟩,
 ⟨(some 25), none, .mov (.t 0)⟩,
 ⟨(some 26), none, .mov (.t 0)⟩,
 ⟨(some 27), none, .bin .sub .no (.t 26) (.c (.int .i64 1))⟩,
 ⟨(some 28), none, .bin .mul .no (.t 25) (.t 27)⟩,
 ⟨(some 29), none, .bin .quo .no (.t 28) (.c (.int .i64 2))⟩,
 ⟨(some 30), none, .bin .neq .no (.t 24) (.t 29)⟩,
 ⟨(some 31), none, .mov (.t 30)⟩,
 ⟨(some 32), (some (31, false)), .mov (.t 1)⟩,
 ⟨(some 33), (some (31, false)), .call (.c (.fn (.func 39) [] [])) [(.t 32), (.c (.int .i64 2))]⟩,
 ⟨(some 34), (some (31, false)), .not (.t 33)⟩,
 ⟨(some 35), none, .pick (.t 31) (.c (.bool true)) (.t 34)⟩] [35])
 (.cond (.t 35)
 (.seq
 (.ops [
 ⟨(some 8), none, .mov (.c .nilsl)⟩,
 ⟨(some 9), none, .mov (.c (.int .i64 2))⟩] [8, 9])
 .ret)
 .skip))
 (.seq
 (.ops [
 ⟨(some 36), none, .mov (.t 0)⟩,
 ⟨(some 37), none, .mov (.t 1)⟩,
 ⟨(some 38), none, .build [(.int .i64 0), .nilsl] [(0, 1), (1, 1)] [(0, (.t 36)), (1, (.t 37))]⟩,
 ⟨(some 39), none, .mov (.t 0)⟩,
 ⟨(some 40), none, .mov (.t 2)⟩,
 ⟨(some 41), none, .mov (.t 3)⟩,
 ⟨(some 42), none, .call (.c (.fn (.func 41) [] [])) [(.t 38), (.c .nilsl), (.t 39), (.t 40), (.t 41)]⟩,
 ⟨(some 43), none, .call (.c (.fn (.func 40) [] [])) [(.t 42)]⟩,
 ⟨(some 44), none, .ext (.t 43) 0⟩,
 ⟨(some 45), none, .ext (.t 43) 1⟩,
 ⟨(some 8), none, .mov (.t 44)⟩,
 ⟨(some 9), none, .mov (.t 45)⟩] [8, 9])
 .ret)))),
 [.tmp 8, .tmp 9]⟩

/-- bellpull/bellpullref01.In -/
noncomputable def sf18 : SFun := ⟨[0, 1, 2, 6], 15,
 (.seq
 (.ops [
 ⟨(some 6), none, .mov (.c (.bool false))⟩] [6])
 (.seq
 (.ops [
 ⟨(some 7), none, .mov (.t 0)⟩,
 ⟨(some 8), none, .mov (.t 1)⟩,
 ⟨(some 9), none, .bin .geq .no (.t 7) (.t 8)⟩,
 ⟨(some 10), none, .mov (.t 9)⟩,
 ⟨(some 11), (some (10, true)), .mov (.t 0)⟩,
 ⟨(some 12), (some (10, true)), .mov (.t 2)⟩,
 ⟨(some 13), (some (10, true)), .bin .leq .no (.t 11) (.t 12)⟩,
 ⟨(some 14), none, .pick (.t 10) (.t 13) (.c (.bool false))⟩,
 ⟨(some 6), none, .mov (.t 14)⟩] [6])
 .ret)),
 [.tmp 6]⟩

/-- bellpull/bellpulllaw01.lives -/
noncomputable def sf19 : SFun := ⟨[0, 1, 2, 3, 4, 5, 6, 7, 8, 9, 10, 11, 12], 92,
 (.seq
 (.ops [
 ⟨(some 0), none, .mov (.c (.bool false))⟩] [0])
 (.seq
 (.ops [
 ⟨(some 14), none, .call (.c (.fn (.func 23) [] [])) [(.c (.int .i64 5)), (.c (.int .i64 3)), (.c (.int .i64 3))]⟩,
 ⟨(some 13), none, .mov (.t 14)⟩,
 ⟨(some 15), none, .ext (.t 13) 0⟩,
 ⟨(some 16), none, .ext (.t 13) 1⟩,
 ⟨(some 1), none, .mov (.t 15)⟩,
 ⟨(some 2), none, .mov (.t 16)⟩] [1, 2])
 (.seq
 (.ops [
 ⟨(some 18), none, .buildS [(.int .i64 0)] 3 1 [(0, (.c (.int .i64 0))), (1, (.c (.int .i64 0))), (2, (.c (.int .i64 0)))]⟩,
 ⟨(some 19), none, .call (.c (.fn (.func 17) [] [])) [(.c (.int .i64 3)), (.t 18), (.c (.int .i64 0)), (.c (.int .i64 3))]⟩,
 ⟨(some 17), none, .mov (.t 19)⟩,
 ⟨(some 20), none, .ext (.t 17) 0⟩,
 ⟨(some 21), none, .ext (.t 17) 1⟩,
 ⟨(some 3), none, .mov (.t 20)⟩,
 ⟨(some 4), none, .mov (.t 21)⟩] [3, 4])
 (.seq
 (.ops [
 ⟨(some 23), none, .call (.c (.fn (.func 27) [] [])) [(.c (.int .i64 4)), (.c (.int .i64 2))]⟩,
 ⟨(some 22), none, .mov (.t 23)⟩,
 ⟨(some 24), none, .ext (.t 22) 0⟩,
 ⟨(some 25), none, .ext (.t 22) 1⟩,
 ⟨(some 5), none, .mov (.t 24)⟩,
 ⟨(some 6), none, .mov (.t 25)⟩] [5, 6])
 (.seq
 (.ops [
 ⟨(some 27), none, .buildS [(.int .i64 0)] 2 1 [(0, (.c (.int .i64 0))), (1, (.c (.int .i64 0)))]⟩,
 ⟨(some 28), none, .call (.c (.fn (.func 25) [] [])) [(.t 27)]⟩,
 ⟨(some 26), none, .mov (.t 28)⟩,
 ⟨(some 29), none, .ext (.t 26) 0⟩,
 ⟨(some 30), none, .ext (.t 26) 1⟩,
 ⟨(some 7), none, .mov (.t 29)⟩,
 ⟨(some 8), none, .mov (.t 30)⟩] [7, 8])
 (.seq
 (.ops [
 ⟨(some 32), none, .call (.c (.fn (.func 31) [] [])) [(.c (.int .i64 8)), (.c (.int .i64 2)), (.c (.int .i64 3))]⟩,
 ⟨(some 31), none, .mov (.t 32)⟩,
 ⟨(some 33), none, .ext (.t 31) 0⟩,
 ⟨(some 34), none, .ext (.t 31) 1⟩,
 ⟨(some 9), none, .mov (.t 33)⟩,
 ⟨(some 10), none, .mov (.t 34)⟩] [9, 10])
 (.seq
 (.ops [
 ⟨(some 36), none, .buildS [(.int .i64 0)] 5 1 [(0, (.c (.int .i64 0))), (1, (.c (.int .i64 1))), (2, (.c (.int .i64 0))), (3, (.c (.int .i64 1))), (4, (.c (.int .i64 0)))]⟩,
 ⟨(some 37), none, .call (.c (.fn (.func 29) [] [])) [(.t 36), (.c (.int .i64 3))]⟩,
 ⟨(some 35), none, .mov (.t 37)⟩,
 ⟨(some 38), none, .ext (.t 35) 0⟩,
 ⟨(some 39), none, .ext (.t 35) 1⟩,
 ⟨(some 11), none, .mov (.t 38)⟩,
 ⟨(some 12), none, .mov (.t 39)⟩] [11, 12])
 (.seq
 (.ops [
 ⟨(some 40), none, .mov (.t 1)⟩,
 ⟨(some 41), none, .buildS [(.int .i64 0)] 10 1 [(0, (.c (.int .i64 0))), (1, (.c (.int .i64 0))), (2, (.c (.int .i64 1))), (3, (.c (.int .i64 1))), (4, (.c (.int .i64 1))), (5, (.c (.int .i64 0))), (6, (.c (.int .i64 1))), (7, (.c (.int .i64 1))), (8, (.c (.int .i64 0))), (9, (.c (.int .i64 0)))]⟩,
 ⟨(some 42), none, .call (.c (.fn (.func 42) [] [])) [(.t 40), (.t 41)]⟩,
 ⟨(some 43), none, .mov (.t 42)⟩,
 ⟨(some 44), (some (43, true)), .mov (.t 2)⟩,
 ⟨(some 45), (some (43, true)), .bin .eql .no (.t 44) (.c (.int .i64 0))⟩,
 ⟨(some 46), none, .pick (.t 43) (.t 45) (.c (.bool false))⟩,
 ⟨(some 47), none, .mov (.t 46)⟩,
 ⟨(some 48), (some (47, true)), .mov (.t 3)⟩,
 ⟨(some 49), (some (47, true)), .buildS [(.int .i64 0)] 3 1 [(0, (.c (.int .i64 0))), (1, (.c (.int .i64 1))), (2, (.c (.int .i64 2)))]⟩,
 ⟨(some 50), (some (47, true)), .call (.c (.fn (.func 42) [] [])) [(.t 48), (.t 49)]⟩,
 ⟨(some 51), none, .pick (.t 47) (.t 50) (.c (.bool false))⟩,
 ⟨(some 52), none, .mov (.t 51)⟩,
 ⟨(some 53), (some (52, true)), .mov (.t 4)⟩,
 ⟨(some 54), (some (52, true)), .bin .eql .no (.t 53) (.c (.int .i64 0))⟩,
 ⟨(some 55), none, .pick (.t 52) (.t 54) (.c (.bool false))⟩,
 ⟨(some 56), none, .mov (.t 55)⟩,
 ⟨(some 57), (some (56, true)), .mov (.t 5)⟩,
 ⟨(some 58), (some (56, true)), .buildS [(.int .i64 0)] 4 1 [(0, (.c (.int .i64 0))), (1, (.c (.int .i64 1))), (2, (.c (.int .i64 1))), (3, (.c (.int .i64 0)))]⟩,
 ⟨(some 59), (some (56, true)), .call (.c (.fn (.func 42) [] [])) [(.t 57), (.t 58)]⟩,
 ⟨(some 60), none, .pick (.t 56) (.t 59) (.c (.bool false))⟩,
 ⟨(some 61), none, .mov (.t 60)⟩,
 ⟨(some 62), (some (61, true)), .mov (.t 6)⟩,
 ⟨(some 63), (some (61, true)), .bin .eql .no (.t 62) (.c (.int .i64 0))⟩,
 ⟨(some 64), none, .pick (.t 61) (.t 63) (.c (.bool false))⟩,
 ⟨(some 65), none, .mov (.t 64)⟩,
 ⟨(some 66), (some (65, true)), .mov (.t 7)⟩,
 ⟨(some 67), (some (65, true)), .buildS [(.int .i64 0)] 2 1 [(0, (.c (.int .i64 1))), (1, (.c (.int .i64 1)))]⟩,
 ⟨(some 68), (some (65, true)), .call (.c (.fn (.func 42) [] [])) [(.t 66), (.t 67)]⟩,
 ⟨(some 69), none, .pick (.t 65) (.t 68) (.c (.bool false))⟩,
 ⟨(some 70), none, .mov (.t 69)⟩,
 ⟨(some 71), (some (70, true)), .mov (.t 8)⟩,
 ⟨(some 72), (some (70, true)), .bin .eql .no (.t 71) (.c (.int .i64 0))⟩,
 ⟨(some 73), none, .pick (.t 70) (.t 72) (.c (.bool false))⟩,
 ⟨(some 74), none, .mov (.t 73)⟩,
 ⟨(some 75), (some (74, true)), .mov (.t 9)⟩,
 ⟨(some 76), (some (74, true)), .buildS [(.int .i64 0)] 8 1 [(0, (.c (.int .i64 0))), (1, (.c (.int .i64 0))), (2, (.c (.int .i64 1))), (3, (.c (.int .i64 1))), (4, (.c (.int .i64 0))), (5, (.c (.int .i64 0))), (6, (.c (.int .i64 1))), (7, (.c (.int .i64 1)))]⟩,
 ⟨(some 77), (some (74, true)), .call (.c (.fn (.func 42) [] [])) [(.t 75), (.t 76)]⟩,
 ⟨(some 78), none, .pick (.t 74) (.t 77) (.c (.bool false))⟩,
 ⟨(some 79), none, .mov (.t 78)⟩,
 ⟨(some 80), (some (79, true)), .mov (.t 10)⟩,
 ⟨(some 81), (some (79, true)), .bin .eql .no (.t 80) (.c (.int .i64 0))⟩,
 ⟨(some 82), none, .pick (.t 79) (.t 81) (.c (.bool false))⟩,
 ⟨(some 83), none, .mov (.t 82)⟩,
 ⟨(some 84), (some (83, true)), .mov (.t 11)⟩,
 ⟨(some 85), (some (83, true)), .buildS [(.int .i64 0)] 2 1 [(0, (.c (.int .i64 1))), (1, (.c (.int .i64 2)))]⟩,
 ⟨(some 86), (some (83, true)), .call (.c (.fn (.func 42) [] [])) [(.t 84), (.t 85)]⟩,
 ⟨(some 87), none, .pick (.t 83) (.t 86) (.c (.bool false))⟩,
 ⟨(some 88), none, .mov (.t 87)⟩,
 ⟨(some 89), (some (88, true)), .mov (.t 12)⟩,
 ⟨(some 90), (some (88, true)), .bin .eql .no (.t 89) (.c (.int .i64 0))⟩,
 ⟨(some 91), none, .pick (.t 88) (.t 90) (.c (.bool false))⟩,
 ⟨(some 0), none, .mov (.t 91)⟩] [0])
 .ret)))))))),
 [.tmp 0]⟩

/-- bellpull/bellpullref01.Colors -/
noncomputable def sf20 : SFun := ⟨[0, 1, 2, 6, 7, 11, 21], 26,
 (.seq
 (.ops [
 ⟨(some 6), none, .mov (.c (.bool false))⟩] [6])
 (.seq
 (.seq
 (.ops [
 ⟨(some 7), none, .mov (.c (.int .i64 0))⟩] [7])
 (.block 0
 (.loop
 (.seq
 (.seq
 (.ops [
 ⟨(some 8), none, .mov (.t 7)⟩,
 ⟨(some 9), none, .mov (.t 0)⟩,
 ⟨(some 10), none, .lenS (.t 9)⟩,
 ⟨(some 11), none, .bin .lss .no (.t 8) (.t 10)⟩] [11])
 (.cond (.t 11)
 .skip
 (.exit 0)))
 (.seq
 (.block 1
 (.seq
 (.ops [
 ⟨(some 14), none, .mov (.t 0)⟩,
 ⟨(some 15), none, .mov (.t 7)⟩,
 ⟨(some 16), none, .ixS 1 (.t 14) (.t 15)⟩,
 ⟨(some 17), none, .load none (.t 16)⟩,
 ⟨(some 18), none, .mov (.t 2)⟩,
 ⟨(some 19), none, .bin .sub .no (.t 18) (.c (.int .i64 1))⟩,
 ⟨(some 20), none, .call (.c (.fn (.func 18) [] [])) [(.t 17), (.c (.int .i64 0)), (.t 19)]⟩,
 ⟨(some 21), none, .not (.t 20)⟩] [21])
 (.cond (.t 21)
 (.seq
 (.ops [
 ⟨(some 6), none, .mov (.c (.bool false))⟩] [6])
 .ret)
 .skip)))
 (.ops [
 ⟨(some 12), none, .mov (.t 7)⟩,
 ⟨(some 13), none, .bin .add .no (.t 12) (.c (.int .i64 1))⟩,
 ⟨(some 7), none, .mov (.t 13)⟩] [7]))))))
 (.seq
 (.ops [
 ⟨(some 22), none, .mov (.t 0)⟩,
 ⟨(some 23), none, .lenS (.t 22)⟩,
 ⟨(some 24), none, .mov (.t 1)⟩,
 ⟨(some 25), none, .bin .eql .no (.t 23) (.t 24)⟩,
 ⟨(some 6), none, .mov (.t 25)⟩] [6])
 .ret))),
 [.tmp 6]⟩

/-- bellpull/bellpulllaw01.found -/
noncomputable def sf21 : SFun := ⟨[0, 1, 2, 6, 8], 23,
 (.seq
 (.ops [
 ⟨(some 6), none, .mov (.c (.bool false))⟩] [6])
 (.seq
 (.seq
 (.ops [
 ⟨(some 7), none, .mov (.t 2)⟩,
 ⟨(some 8), none, .bin .eql .slice (.t 7) (.c .nilsl)⟩] [8])
 (.cond (.t 8)
 (.seq
 (.ops [
 ⟨(some 9), none, .mov (.t 0)⟩,
 ⟨(some 10), none, .lenS (.t 9)⟩,
 ⟨(some 11), none, .bin .eql .no (.t 10) (.c (.int .i64 0))⟩,
 ⟨(some 12), none, .mov (.t 11)⟩,
 ⟨(some 13), (some (12, true)), .mov (.t 1)⟩,
 ⟨(some 14), (some (12, true)), .bin .eql .no (.t 13) (.c (.int .i64 5))⟩,
 ⟨(some 15), none, .pick (.t 12) (.t 14) (.c (.bool false))⟩,
 ⟨(some 6), none, .mov (.t 15)⟩] [6])
 .ret)
 .skip))
 (.seq
 (.ops [
 ⟨(some 16), none, .mov (.t 0)⟩,
 ⟨(some 17), none, .mov (.t 2)⟩,
 ⟨(some 18), none, .call (.c (.fn (.func 42) [] [])) [(.t 16), (.t 17)]⟩,
 ⟨(some 19), none, .mov (.t 18)⟩,
 ⟨(some 20), (some (19, true)), .mov (.t 1)⟩,
 ⟨(some 21), (some (19, true)), .bin .eql .no (.t 20) (.c (.int .i64 0))⟩,
 ⟨(some 22), none, .pick (.t 19) (.t 21) (.c (.bool false))⟩,
 ⟨(some 6), none, .mov (.t 22)⟩] [6])
 .ret))),
 [.tmp 6]⟩

/-- bellpull/bellpullref01.Clique -/
noncomputable def sf22 : SFun := ⟨[0, 1, 2, 3, 4, 10, 11, 12, 13, 14, 15, 19, 23, 34, 40, 59, 72], 74,
 (.seq
 (.ops [
 ⟨(some 10), none, .mov (.c .nilsl)⟩] [10])
 (.seq
 (.seq
 (.ops [
 ⟨(some 16), none, .mov (.t 4)⟩,
 ⟨(some 17), none, .lenS (.t 16)⟩,
 ⟨(some 18), none, .mov (.t 3)⟩,
 ⟨(some 19), none, .bin .eql .no (.t 17) (.t 18)⟩] [19])
 (.cond (.t 19)
 (.seq
 (.ops [
 ⟨(some 20), none, .mov (.t 4)⟩,
 ⟨(some 10), none, .mov (.t 20)⟩] [10])
 .ret)
 .skip))
 (.seq
 (.ops [
 ⟨(some 11), none, .mov (.c (.int .i64 0))⟩] [11])
 (.seq
 (.seq
 (.ops [
 ⟨(some 21), none, .mov (.t 4)⟩,
 ⟨(some 22), none, .lenS (.t 21)⟩,
 ⟨(some 23), none, .bin .gtr .no (.t 22) (.c (.int .i64 0))⟩] [23])
 (.cond (.t 23)
 (.ops [
 ⟨(some 24), none, .mov (.t 4)⟩,
 ⟨(some 25), none, .mov (.t 4)⟩,
 ⟨(some 26), none, .lenS (.t 25)⟩,
 ⟨(some 27), none, .bin .sub .no (.t 26) (.c (.int .i64 1))⟩,
 ⟨(some 28), none, .ixS 1 (.t 24) (.t 27)⟩,
 ⟨(some 29), none, .load none (.t 28)⟩,
 ⟨(some 30), none, .bin .add .no (.t 29) (.c (.int .i64 1))⟩,
 ⟨(some 11), none, .mov (.t 30)⟩] [11])
 .skip))
 (.seq
 (.seq
 (.ops [
 ⟨(some 31), none, .mov (.t 11)⟩,
 ⟨(some 12), none, .mov (.t 31)⟩] [12])
 (.block 0
 (.loop
 (.seq
 (.seq
 (.ops [
 ⟨(some 32), none, .mov (.t 12)⟩,
 ⟨(some 33), none, .mov (.t 0)⟩,
 ⟨(some 34), none, .bin .lss .no (.t 32) (.t 33)⟩] [34])
 (.cond (.t 34)
 .skip
 (.exit 0)))
 (.seq
 (.block 1
 (.seq
 (.ops [
 ⟨(some 13), none, .mov (.c (.bool true))⟩] [13])
 (.seq
 (.seq
 (.ops [
 ⟨(some 14), none, .mov (.c (.int .i64 0))⟩] [14])
 (.block 2
 (.loop
 (.seq
 (.seq
 (.ops [
 ⟨(some 37), none, .mov (.t 14)⟩,
 ⟨(some 38), none, .mov (.t 4)⟩,
 ⟨(some 39), none, .lenS (.t 38)⟩,
 ⟨(some 40), none, .bin .lss .no (.t 37) (.t 39)⟩] [40])
 (.cond (.t 40)
 .skip
 (.exit 2)))
 (.seq
 (.block 3
 (.ops [
 ⟨(some 43), none, .mov (.t 13)⟩,
 ⟨(some 44), none, .mov (.t 43)⟩,
 ⟨(some 45), (some (44, true)), .mov (.t 1)⟩,
 ⟨(some 46), (some (44, true)), .mov (.t 0)⟩,
 ⟨(some 47), (some (44, true)), .mov (.t 4)⟩,
 ⟨(some 48), (some (44, true)), .mov (.t 14)⟩,
 ⟨(some 49), (some (44, true)), .ixS 1 (.t 47) (.t 48)⟩,
 ⟨(some 50), (some (44, true)), .load none (.t 49)⟩,
 ⟨(some 51), (some (44, true)), .mov (.t 12)⟩,
 ⟨(some 52), (some (44, true)), .call (.c (.fn (.func 36) [] [])) [(.t 46), (.t 50), (.t 51)]⟩,
 ⟨(some 53), (some (44, true)), .ixS 1 (.t 45) (.t 52)⟩,
 ⟨(some 54), (some (44, true)), .load none (.t 53)⟩,
 ⟨(some 55), (some (44, true)), .mov (.t 2)⟩,
 ⟨(some 56), (some (44, true)), .bin .eql .no (.t 54) (.t 55)⟩,
 ⟨(some 57), none, .pick (.t 44) (.t 56) (.c (.bool false))⟩,
 ⟨(some 13), none, .mov (.t 57)⟩] [13]))
 (.ops [
 ⟨(some 41), none, .mov (.t 14)⟩,
 ⟨(some 42), none, .bin .add .no (.t 41) (.c (.int .i64 1))⟩,
 ⟨(some 14), none, .mov (.t 42)⟩] [14]))))))
 (.seq
 (.seq
 (.ops [
 ⟨(some 58), none, .mov (.t 13)⟩,
 ⟨(some 59), none, .not (.t 58)⟩] [59])
 (.cond (.t 59)
 (.exit 1)
 .skip))
 (.seq
 (.ops [
 ⟨(some 60), none, .mov (.t 0)⟩,
 ⟨(some 61), none, .mov (.t 1)⟩,
 ⟨(some 62), none, .mov (.t 2)⟩,
 ⟨(some 63), none, .mov (.t 3)⟩,
 ⟨(some 64), none, .buildS [(.int .i64 0)] 0 1 []⟩,
 ⟨(some 65), none, .mov (.t 4)⟩,
 ⟨(some 66), none, .app true 1 (.t 64) (.t 65)⟩,
 ⟨(some 67), none, .mov (.t 12)⟩,
 ⟨(some 68), none, .buildS [(.int .i64 0)] 1 1 [(0, (.t 67))]⟩,
 ⟨(some 69), none, .app true 1 (.t 66) (.t 68)⟩,
 ⟨(some 70), none, .call (.c (.fn (.func 22) [] [])) [(.t 60), (.t 61), (.t 62), (.t 63), (.t 69)]⟩,
 ⟨(some 15), none, .mov (.t 70)⟩] [15])
 (.seq
 (.ops [
 ⟨(some 71), none, .mov (.t 15)⟩,
 ⟨(some 72), none, .bin .neq .slice (.t 71) (.c .nilsl)⟩] [72])
 (.cond (.t 72)
 (.seq
 (.ops [
 ⟨(some 73), none, .mov (.t 15)⟩,
 ⟨(some 10), none, .mov (.t 73)⟩] [10])
 .ret)
 .skip)))))))
 (.ops [
 ⟨(some 35), none, .mov (.t 12)⟩,
 ⟨(some 36), none, .bin .add .no (.t 35) (.c (.int .i64 1))⟩,
 ⟨(some 12), none, .mov (.t 36)⟩] [12]))))))
 (.seq
 (.ops [
 ⟨(some 10), none, .mov (.c .nilsl)⟩] [10])
 .ret)))))),
 [.tmp 10]⟩

/-- bellpull/paint.Avoid -/
noncomputable def sf23 : SFun := ⟨[0, 1, 2, 6, 7, 16], 24,
 (.seq
 (.ops [
 ⟨(some 6), none, .mov (.c .nilsl)⟩,
 ⟨(some 7), none, .mov (.c (.int .i64 0))⟩] [6, 7])
 (.seq
 (.seq
 (.ops [
 ⟨(some 8), none, .mov (.t 0)⟩,
 ⟨(some 9), none, .call (.c (.fn (.func 38) [] [])) [(.t 8), (.c (.int .i64 1)), (.c (.int .i64 8))]⟩,
 ⟨(some 10), none, .not (.t 9)⟩,
 ⟨(some 11), none, .mov (.t 10)⟩,
 ⟨(some 12), (some (11, false)), .mov (.t 1)⟩,
 ⟨(some 13), (some (11, false)), .mov (.t 2)⟩,
 ⟨(some 14), (some (11, false)), .call (.c (.fn (.func 43) [] [])) [(.t 12), (.t 13)]⟩,
 ⟨(some 15), (some (11, false)), .not (.t 14)⟩,
 ⟨(some 16), none, .pick (.t 11) (.c (.bool true)) (.t 15)⟩] [16])
 (.cond (.t 16)
 (.seq
 (.ops [
 ⟨(some 6), none, .mov (.c .nilsl)⟩,
 ⟨(some 7), none, .mov (.c (.int .i64 1))⟩] [6, 7])
 .ret)
 .skip))
 (.seq
 (.ops [
 ⟨(some 17), none, .mov (.t 0)⟩,
 ⟨(some 18), none, .mov (.t 1)⟩,
 ⟨(some 19), none, .mov (.t 2)⟩,
 ⟨(some 20), none, .call (.c (.fn (.func 45) [] [])) [(.t 17), (.t 18), (.t 19)]⟩,
 ⟨(some 21), none, .call (.c (.fn (.func 44) [] [])) [(.t 20)]⟩,
 ⟨(some 22), none, .ext (.t 21) 0⟩,
 ⟨(some 23), none, .ext (.t 21) 1⟩,
 ⟨(some 6), none, .mov (.t 22)⟩,
 ⟨(some 7), none, .mov (.t 23)⟩] [6, 7])
 .ret))),
 [.tmp 6, .tmp 7]⟩

/-- bellpull/bellpullref01.Avoid -/
noncomputable def sf24 : SFun := ⟨[0, 1, 2, 3, 8, 9, 10, 20, 28, 31, 45], 47,
 (.seq
 (.ops [
 ⟨(some 8), none, .mov (.c .nilsl)⟩] [8])
 (.seq
 (.seq
 (.ops [
 ⟨(some 11), none, .mov (.t 3)⟩,
 ⟨(some 12), none, .lenS (.t 11)⟩,
 ⟨(some 13), none, .bin .gtr .no (.t 12) (.c (.int .i64 0))⟩,
 ⟨(some 14), none, .mov (.t 13)⟩,
 ⟨(some 15), (some (14, true)), .mov (.t 0)⟩,
 ⟨(some 16), (some (14, true)), .mov (.t 3)⟩,
 ⟨(some 17), (some (14, true)), .mov (.t 1)⟩,
 ⟨(some 18), (some (14, true)), .mov (.t 2)⟩,
 ⟨(some 19), (some (14, true)), .call (.c (.fn (.func 46) [] [])) [(.t 15), (.t 16), (.t 17), (.t 18)]⟩,
 ⟨(some 20), none, .pick (.t 14) (.t 19) (.c (.bool false))⟩] [20])
 (.cond (.t 20)
 (.seq
 (.ops [
 ⟨(some 8), none, .mov (.c .nilsl)⟩] [8])
 .ret)
 .skip))
 (.seq
 (.seq
 (.ops [
 ⟨(some 21), none, .mov (.t 3)⟩,
 ⟨(some 22), none, .lenS (.t 21)⟩,
 ⟨(some 23), none, .mov (.t 0)⟩,
 ⟨(some 24), none, .mov (.t 0)⟩,
 ⟨(some 25), none, .bin .sub .no (.t 24) (.c (.int .i64 1))⟩,
 ⟨(some 26), none, .bin .mul .no (.t 23) (.t 25)⟩,
 ⟨(some 27), none, .bin .quo .no (.t 26) (.c (.int .i64 2))⟩,
 ⟨(some 28), none, .bin .eql .no (.t 22) (.t 27)⟩] [28])
 (.cond (.t 28)
 (.seq
 (.ops [
 ⟨(some 29), none, .mov (.t 3)⟩,
 ⟨(some 8), none, .mov (.t 29)⟩] [8])
 .ret)
 .skip))
 (.seq
 (.seq
 (.ops [
 ⟨(some 9), none, .mov (.c (.int .i64 0))⟩] [9])
 (.block 0
 (.loop
 (.seq
 (.seq
 (.ops [
 ⟨(some 30), none, .mov (.t 9)⟩,
 ⟨(some 31), none, .bin .lss .no (.t 30) (.c (.int .i64 2))⟩] [31])
 (.cond (.t 31)
 .skip
 (.exit 0)))
 (.seq
 (.block 1
 (.seq
 (.ops [
 ⟨(some 34), none, .mov (.t 0)⟩,
 ⟨(some 35), none, .mov (.t 1)⟩,
 ⟨(some 36), none, .mov (.t 2)⟩,
 ⟨(some 37), none, .buildS [(.int .i64 0)] 0 1 []⟩,
 ⟨(some 38), none, .mov (.t 3)⟩,
 ⟨(some 39), none, .app true 1 (.t 37) (.t 38)⟩,
 ⟨(some 40), none, .mov (.t 9)⟩,
 ⟨(some 41), none, .buildS [(.int .i64 0)] 1 1 [(0, (.t 40))]⟩,
 ⟨(some 42), none, .app true 1 (.t 39) (.t 41)⟩,
 ⟨(some 43), none, .call (.c (.fn (.func 24) [] [])) [(.t 34), (.t 35), (.t 36), (.t 42)]⟩,
 ⟨(some 10), none, .mov (.t 43)⟩] [10])
 (.seq
 (.ops [
 ⟨(some 44), none, .mov (.t 10)⟩,
 ⟨(some 45), none, .bin .neq .slice (.t 44) (.c .nilsl)⟩] [45])
 (.cond (.t 45)
 (.seq
 (.ops [
 ⟨(some 46), none, .mov (.t 10)⟩,
 ⟨(some 8), none, .mov (.t 46)⟩] [8])
 .ret)
 .skip))))
 (.ops [
 ⟨(some 32), none, .mov (.t 9)⟩,
 ⟨(some 33), none, .bin .add .no (.t 32) (.c (.int .i64 1))⟩,
 ⟨(some 9), none, .mov (.t 33)⟩] [9]))))))
 (.seq
 (.ops [
 ⟨(some 8), none, .mov (.c .nilsl)⟩] [8])
 .ret))))),
 [.tmp 8]⟩

/-- bellpull/paint.Sum -/
noncomputable def sf25 : SFun := ⟨[0, 2, 3, 12], 18,
 (.seq
 (.ops [
 ⟨(some 2), none, .mov (.c .nilsl)⟩,
 ⟨(some 3), none, .mov (.c (.int .i64 0))⟩] [2, 3])
 (.seq
 (.seq
 (.ops [
 ⟨(some 4), none, .mov (.t 0)⟩,
 ⟨(some 5), none, .lenS (.t 4)⟩,
 ⟨(some 6), none, .call (.c (.fn (.func 38) [] [])) [(.t 5), (.c (.int .i64 1)), (.c (.int .i64 14))]⟩,
 ⟨(some 7), none, .not (.t 6)⟩,
 ⟨(some 8), none, .mov (.t 7)⟩,
 ⟨(some 9), (some (8, false)), .mov (.t 0)⟩,
 ⟨(some 10), (some (8, false)), .call (.c (.fn (.func 39) [] [])) [(.t 9), (.c (.int .i64 3))]⟩,
 ⟨(some 11), (some (8, false)), .not (.t 10)⟩,
 ⟨(some 12), none, .pick (.t 8) (.c (.bool true)) (.t 11)⟩] [12])
 (.cond (.t 12)
 (.seq
 (.ops [
 ⟨(some 2), none, .mov (.c .nilsl)⟩,
 ⟨(some 3), none, .mov (.c (.int .i64 2))⟩] [2, 3])
 .ret)
 .skip))
 (.seq
 (.ops [
 ⟨(some 13), none, .mov (.t 0)⟩,
 ⟨(some 14), none, .call (.c (.fn (.func 47) [] [])) [(.t 13)]⟩,
 ⟨(some 15), none, .call (.c (.fn (.func 40) [] [])) [(.t 14)]⟩,
 ⟨(some 16), none, .ext (.t 15) 0⟩,
 ⟨(some 17), none, .ext (.t 15) 1⟩,
 ⟨(some 2), none, .mov (.t 16)⟩,
 ⟨(some 3), none, .mov (.t 17)⟩] [2, 3])
 .ret))),
 [.tmp 2, .tmp 3]⟩

/-- bellpull/bellpullref01.Sum -/
noncomputable def sf26 : SFun := ⟨[0, 2, 3, 4, 5, 10, 18, 46], 50,
 (.seq
 (.ops [
 ⟨(some 2), none, .mov (.c .nilsl)⟩] [2])
 (.seq
 (.ops [
 ⟨(some 6), none, .mov (.t 0)⟩,
 ⟨(some 7), none, .lenS (.t 6)⟩,
 ⟨(some 3), none, .mov (.t 7)⟩] [3])
 (.seq
 (.seq
 (.ops [
 ⟨(some 4), none, .mov (.c (.int .i64 1))⟩] [4])
 (.block 0
 (.loop
 (.seq
 (.seq
 (.ops [
 ⟨(some 8), none, .mov (.t 4)⟩,
 ⟨(some 9), none, .mov (.t 3)⟩,
 ⟨(some 10), none, .bin .leq .no (.t 8) (.t 9)⟩] [10])
 (.cond (.t 10)
 .skip
 (.exit 0)))
 (.seq
 (.block 1
 (.seq
 (.ops [
 ⟨(some 13), none, .mov (.t 4)⟩,
 ⟨(some 5), none, .mov (.t 13)⟩] [5])
 (.block 2
 (.loop
 (.seq
 (.seq
 (.ops [
 ⟨(some 14), none, .mov (.t 4)⟩,
 ⟨(some 15), none, .mov (.t 5)⟩,
 ⟨(some 16), none, .bin .add .no (.t 14) (.t 15)⟩,
 ⟨(some 17), none, .mov (.t 3)⟩,
 ⟨(some 18), none, .bin .leq .no (.t 16) (.t 17)⟩] [18])
 (.cond (.t 18)
 .skip
 (.exit 2)))
 (.seq
 (.block 3
 (.seq
 (.ops [
 ⟨(some 21), none, .mov (.t 0)⟩,
 ⟨(some 22), none, .mov (.t 4)⟩,
 ⟨(some 23), none, .bin .sub .no (.t 22) (.c (.int .i64 1))⟩,
 ⟨(some 24), none, .ixS 1 (.t 21) (.t 23)⟩,
 ⟨(some 25), none, .load none (.t 24)⟩,
 ⟨(some 26), none, .mov (.t 0)⟩,
 ⟨(some 27), none, .mov (.t 5)⟩,
 ⟨(some 28), none, .bin .sub .no (.t 27) (.c (.int .i64 1))⟩,
 ⟨(some 29), none, .ixS 1 (.t 26) (.t 28)⟩,
 ⟨(some 30), none, .load none (.t 29)⟩,
 ⟨(some 31), none, .bin .eql .no (.t 25) (.t 30)⟩,
 ⟨(some 32), none, .mov (.t 31)⟩,
 ⟨(some 33), (some (32, true)), .mov (.t 0)⟩,
 ⟨(some 34), (some (32, true)), .mov (.t 4)⟩,
 ⟨(some 35), (some (32, true)), .bin .sub .no (.t 34) (.c (.int .i64 1))⟩,
 ⟨(some 36), (some (32, true)), .ixS 1 (.t 33) (.t 35)⟩,
 ⟨(some 37), (some (32, true)), .load none (.t 36)⟩,
 ⟨(some 38), (some (32, true)), .mov (.t 0)⟩,
 ⟨(some 39), (some (32, true)), .mov (.t 4)⟩,
 ⟨(some 40), (some (32, true)), .mov (.t 5)⟩,
 ⟨(some 41), (some (32, true)), .bin .add .no (.t 39) (.t 40)⟩,
 ⟨(some 42), (some (32, true)), .bin .sub .no (.t 41) (.c (.int .i64 1))⟩,
 ⟨(some 43), (some (32, true)), .ixS 1 (.t 38) (.t 42)⟩,
 ⟨(some 44), (some (32, true)), .load none (.t 43)⟩,
 ⟨(some 45), (some (32, true)), .bin .eql .no (.t 37) (.t 44)⟩,
 ⟨(some 46), none, .pick (.t 32) (.t 45) (.c (.bool false))⟩] [46])
 (.cond (.t 46)
 (.seq
 (.ops [
 ⟨(some 47), none, .mov (.t 4)⟩,
 ⟨(some 48), none, .mov (.t 5)⟩,
 ⟨(some 49), none, .buildS [(.int .i64 0)] 2 1 [(0, (.t 47)), (1, (.t 48))]⟩,
 ⟨(some 2), none, .mov (.t 49)⟩] [2])
 .ret)
 .skip)))
 (.ops [
 ⟨(some 19), none, .mov (.t 5)⟩,
 ⟨(some 20), none, .bin .add .no (.t 19) (.c (.int .i64 1))⟩,
 ⟨(some 5), none, .mov (.t 20)⟩] [5])))))))
 (.ops [
 ⟨(some 11), none, .mov (.t 4)⟩,
 ⟨(some 12), none, .bin .add .no (.t 11) (.c (.int .i64 1))⟩,
 ⟨(some 4), none, .mov (.t 12)⟩] [4]))))))
 (.seq
 (.ops [
 ⟨(some 2), none, .mov (.c .nilsl)⟩] [2])
 .ret)))),
 [.tmp 2]⟩

/-- bellpull/paint.Sumless -/
noncomputable def sf27 : SFun := ⟨[0, 1, 4, 5, 13], 20,
 (.seq
 (.ops [
 ⟨(some 4), none, .mov (.c .nilsl)⟩,
 ⟨(some 5), none, .mov (.c (.int .i64 0))⟩] [4, 5])
 (.seq
 (.seq
 (.ops [
 ⟨(some 6), none, .mov (.t 0)⟩,
 ⟨(some 7), none, .call (.c (.fn (.func 38) [] [])) [(.t 6), (.c (.int .i64 1)), (.c (.int .i64 14))]⟩,
 ⟨(some 8), none, .not (.t 7)⟩,
 ⟨(some 9), none, .mov (.t 8)⟩,
 ⟨(some 10), (some (9, false)), .mov (.t 1)⟩,
 ⟨(some 11), (some (9, false)), .call (.c (.fn (.func 38) [] [])) [(.t 10), (.c (.int .i64 1)), (.c (.int .i64 3))]⟩,
 ⟨(some 12), (some (9, false)), .not (.t 11)⟩,
 ⟨(some 13), none, .pick (.t 9) (.c (.bool true)) (.t 12)⟩] [13])
 (.cond (.t 13)
 (.seq
 (.ops [
 ⟨(some 4), none, .mov (.c .nilsl)⟩,
 ⟨(some 5), none, .mov (.c (.int .i64 1))⟩] [4, 5])
 .ret)
 .skip))
 (.seq
 (.ops [
 ⟨(some 14), none, .mov (.t 0)⟩,
 ⟨(some 15), none, .mov (.t 1)⟩,
 ⟨(some 16), none, .call (.c (.fn (.func 48) [] [])) [(.t 14), (.t 15), (.c (.fn (.func 49) [] []))]⟩,
 ⟨(some 17), none, .call (.c (.fn (.func 44) [] [])) [(.t 16)]⟩,
 ⟨(some 18), none, .ext (.t 17) 0⟩,
 ⟨(some 19), none, .ext (.t 17) 1⟩,
 ⟨(some 4), none, .mov (.t 18)⟩,
 ⟨(some 5), none, .mov (.t 19)⟩] [4, 5])
 .ret))),
 [.tmp 4, .tmp 5]⟩

/-- bellpull/bellpullref01.Sumless -/
noncomputable def sf28 : SFun := ⟨[0, 1, 2, 6, 7, 8, 11, 15, 19, 32], 34,
 (.seq
 (.ops [
 ⟨(some 6), none, .mov (.c .nilsl)⟩] [6])
 (.seq
 (.seq
 (.ops [
 ⟨(some 9), none, .mov (.t 2)⟩,
 ⟨(some 10), none, .call (.c (.fn (.func 26) [] [])) [(.t 9)]⟩,
 ⟨(some 11), none, .bin .neq .slice (.t 10) (.c .nilsl)⟩] [11])
 (.cond (.t 11)
 (.seq
 (.ops [
 ⟨(some 6), none, .mov (.c .nilsl)⟩] [6])
 .ret)
 .skip))
 (.seq
 (.seq
 (.ops [
 ⟨(some 12), none, .mov (.t 2)⟩,
 ⟨(some 13), none, .lenS (.t 12)⟩,
 ⟨(some 14), none, .mov (.t 0)⟩,
 ⟨(some 15), none, .bin .eql .no (.t 13) (.t 14)⟩] [15])
 (.cond (.t 15)
 (.seq
 (.ops [
 ⟨(some 16), none, .mov (.t 2)⟩,
 ⟨(some 6), none, .mov (.t 16)⟩] [6])
 .ret)
 .skip))
 (.seq
 (.seq
 (.ops [
 ⟨(some 7), none, .mov (.c (.int .i64 0))⟩] [7])
 (.block 0
 (.loop
 (.seq
 (.seq
 (.ops [
 ⟨(some 17), none, .mov (.t 7)⟩,
 ⟨(some 18), none, .mov (.t 1)⟩,
 ⟨(some 19), none, .bin .lss .no (.t 17) (.t 18)⟩] [19])
 (.cond (.t 19)
 .skip
 (.exit 0)))
 (.seq
 (.block 1
 (.seq
 (.ops [
 ⟨(some 22), none, .mov (.t 0)⟩,
 ⟨(some 23), none, .mov (.t 1)⟩,
 ⟨(some 24), none, .buildS [(.int .i64 0)] 0 1 []⟩,
 ⟨(some 25), none, .mov (.t 2)⟩,
 ⟨(some 26), none, .app true 1 (.t 24) (.t 25)⟩,
 ⟨(some 27), none, .mov (.t 7)⟩,
 ⟨(some 28), none, .buildS [(.int .i64 0)] 1 1 [(0, (.t 27))]⟩,
 ⟨(some 29), none, .app true 1 (.t 26) (.t 28)⟩,
 ⟨(some 30), none, .call (.c (.fn (.func 28) [] [])) [(.t 22), (.t 23), (.t 29)]⟩,
 ⟨(some 8), none, .mov (.t 30)⟩] [8])
 (.seq
 (.ops [
 ⟨(some 31), none, .mov (.t 8)⟩,
 ⟨(some 32), none, .bin .neq .slice (.t 31) (.c .nilsl)⟩] [32])
 (.cond (.t 32)
 (.seq
 (.ops [
 ⟨(some 33), none, .mov (.t 8)⟩,
 ⟨(some 6), none, .mov (.t 33)⟩] [6])
 .ret)
 .skip))))
 (.ops [
 ⟨(some 20), none, .mov (.t 7)⟩,
 ⟨(some 21), none, .bin .add .no (.t 20) (.c (.int .i64 1))⟩,
 ⟨(some 7), none, .mov (.t 21)⟩] [7]))))))
 (.seq
 (.ops [
 ⟨(some 6), none, .mov (.c .nilsl)⟩] [6])
 .ret))))),
 [.tmp 6]⟩

/-- bellpull/paint.Progression -/
noncomputable def sf29 : SFun := ⟨[0, 1, 4, 5, 8, 17], 24,
 (.seq
 (.ops [
 ⟨(some 4), none, .mov (.c .nilsl)⟩,
 ⟨(some 5), none, .mov (.c (.int .i64 0))⟩] [4, 5])
 (.seq
 (.seq
 (.ops [
 ⟨(some 6), none, .mov (.t 1)⟩,
 ⟨(some 7), none, .call (.c (.fn (.func 38) [] [])) [(.t 6), (.c (.int .i64 3)), (.c (.int .i64 4))]⟩,
 ⟨(some 8), none, .not (.t 7)⟩] [8])
 (.cond (.t 8)
 (.seq
 (.ops [
 ⟨(some 4), none, .mov (.c .nilsl)⟩,
 ⟨(some 5), none, .mov (.c (.int .i64 1))⟩] [4, 5])
 .ret)
 .skip))
 (.seq
 (.seq
 (.ops [
 ⟨(some 9), none, .mov (.t 0)⟩,
 ⟨(some 10), none, .lenS (.t 9)⟩,
 ⟨(some 11), none, .call (.c (.fn (.func 38) [] [])) [(.t 10), (.c (.int .i64 1)), (.c (.int .i64 20))]⟩,
 ⟨(some 12), none, .not (.t 11)⟩,
 ⟨(some 13), none, .mov (.t 12)⟩,
 ⟨(some 14), (some (13, false)), .mov (.t 0)⟩,
 ⟨(some 15), (some (13, false)), .call (.c (.fn (.func 39) [] [])) [(.t 14), (.c (.int .i64 3))]⟩,
 ⟨(some 16), (some (13, false)), .not (.t 15)⟩,
 ⟨(some 17), none, .pick (.t 13) (.c (.bool true)) (.t 16)⟩] [17])
 (.cond (.t 17)
 (.seq
 (.ops [
 ⟨(some 4), none, .mov (.c .nilsl)⟩,
 ⟨(some 5), none, .mov (.c (.int .i64 2))⟩] [4, 5])
 .ret)
 .skip))
 (.seq
 (.ops [
 ⟨(some 18), none, .mov (.t 0)⟩,
 ⟨(some 19), none, .mov (.t 1)⟩,
 ⟨(some 20), none, .call (.c (.fn (.func 50) [] [])) [(.t 18), (.t 19)]⟩,
 ⟨(some 21), none, .call (.c (.fn (.func 40) [] [])) [(.t 20)]⟩,
 ⟨(some 22), none, .ext (.t 21) 0⟩,
 ⟨(some 23), none, .ext (.t 21) 1⟩,
 ⟨(some 4), none, .mov (.t 22)⟩,
 ⟨(some 5), none, .mov (.t 23)⟩] [4, 5])
 .ret)))),
 [.tmp 4, .tmp 5]⟩

/-- bellpull/bellpullref01.Progression -/
noncomputable def sf30 : SFun := ⟨[0, 1, 4, 5, 6, 7, 8, 9, 14, 24, 29, 50], 54,
 (.seq
 (.ops [
 ⟨(some 4), none, .mov (.c .nilsl)⟩] [4])
 (.seq
 (.ops [
 ⟨(some 10), none, .mov (.t 0)⟩,
 ⟨(some 11), none, .lenS (.t 10)⟩,
 ⟨(some 5), none, .mov (.t 11)⟩] [5])
 (.seq
 (.seq
 (.ops [
 ⟨(some 6), none, .mov (.c (.int .i64 1))⟩] [6])
 (.block 0
 (.loop
 (.seq
 (.seq
 (.ops [
 ⟨(some 12), none, .mov (.t 6)⟩,
 ⟨(some 13), none, .mov (.t 5)⟩,
 ⟨(some 14), none, .bin .leq .no (.t 12) (.t 13)⟩] [14])
 (.cond (.t 14)
 .skip
 (.exit 0)))
 (.seq
 (.block 1
 (.seq
 (.ops [
 ⟨(some 7), none, .mov (.c (.int .i64 1))⟩] [7])
 (.block 2
 (.loop
 (.seq
 (.seq
 (.ops [
 ⟨(some 17), none, .mov (.t 6)⟩,
 ⟨(some 18), none, .mov (.t 1)⟩,
 ⟨(some 19), none, .bin .sub .no (.t 18) (.c (.int .i64 1))⟩,
 ⟨(some 20), none, .mov (.t 7)⟩,
 ⟨(some 21), none, .bin .mul .no (.t 19) (.t 20)⟩,
 ⟨(some 22), none, .bin .add .no (.t 17) (.t 21)⟩,
 ⟨(some 23), none, .mov (.t 5)⟩,
 ⟨(some 24), none, .bin .leq .no (.t 22) (.t 23)⟩] [24])
 (.cond (.t 24)
 .skip
 (.exit 2)))
 (.seq
 (.block 3
 (.seq
 (.ops [
 ⟨(some 8), none, .mov (.c (.bool true))⟩] [8])
 (.seq
 (.seq
 (.ops [
 ⟨(some 9), none, .mov (.c (.int .i64 1))⟩] [9])
 (.block 4
 (.loop
 (.seq
 (.seq
 (.ops [
 ⟨(some 27), none, .mov (.t 9)⟩,
 ⟨(some 28), none, .mov (.t 1)⟩,
 ⟨(some 29), none, .bin .lss .no (.t 27) (.t 28)⟩] [29])
 (.cond (.t 29)
 .skip
 (.exit 4)))
 (.seq
 (.block 5
 (.ops [
 ⟨(some 32), none, .mov (.t 8)⟩,
 ⟨(some 33), none, .mov (.t 32)⟩,
 ⟨(some 34), (some (33, true)), .mov (.t 0)⟩,
 ⟨(some 35), (some (33, true)), .mov (.t 6)⟩,
 ⟨(some 36), (some (33, true)), .mov (.t 9)⟩,
 ⟨(some 37), (some (33, true)), .mov (.t 7)⟩,
 ⟨(some 38), (some (33, true)), .bin .mul .no (.t 36) (.t 37)⟩,
 ⟨(some 39), (some (33, true)), .bin .add .no (.t 35) (.t 38)⟩,
 ⟨(some 40), (some (33, true)), .bin .sub .no (.t 39) (.c (.int .i64 1))⟩,
 ⟨(some 41), (some (33, true)), .ixS 1 (.t 34) (.t 40)⟩,
 ⟨(some 42), (some (33, true)), .load none (.t 41)⟩,
 ⟨(some 43), (some (33, true)), .mov (.t 0)⟩,
 ⟨(some 44), (some (33, true)), .mov (.t 6)⟩,
 ⟨(some 45), (some (33, true)), .bin .sub .no (.t 44) (.c (.int .i64 1))⟩,
 ⟨(some 46), (some (33, true)), .ixS 1 (.t 43) (.t 45)⟩,
 ⟨(some 47), (some (33, true)), .load none (.t 46)⟩,
 ⟨(some 48), (some (33, true)), .bin .eql .no (.t 42) (.t 47)⟩,
 ⟨(some 49), none, .pick (.t 33) (.t 48) (.c (.bool false))⟩,
 ⟨(some 8), none, .mov (.t 49)⟩] [8]))
 (.ops [
 ⟨(some 30), none, .mov (.t 9)⟩,
 ⟨(some 31), none, .bin .add .no (.t 30) (.c (.int .i64 1))⟩,
 ⟨(some 9), none, .mov (.t 31)⟩] [9]))))))
 (.seq
 (.ops [
 ⟨(some 50), none, .mov (.t 8)⟩] [50])
 (.cond (.t 50)
 (.seq
 (.ops [
 ⟨(some 51), none, .mov (.t 6)⟩,
 ⟨(some 52), none, .mov (.t 7)⟩,
 ⟨(some 53), none, .buildS [(.int .i64 0)] 2 1 [(0, (.t 51)), (1, (.t 52))]⟩,
 ⟨(some 4), none, .mov (.t 53)⟩] [4])
 .ret)
 .skip)))))
 (.ops [
 ⟨(some 25), none, .mov (.t 7)⟩,
 ⟨(some 26), none, .bin .add .no (.t 25) (.c (.int .i64 1))⟩,
 ⟨(some 7), none, .mov (.t 26)⟩] [7])))))))
 (.ops [
 ⟨(some 15), none, .mov (.t 6)⟩,
 ⟨(some 16), none, .bin .add .no (.t 15) (.c (.int .i64 1))⟩,
 ⟨(some 6), none, .mov (.t 16)⟩] [6]))))))
 (.seq
 (.ops [
 ⟨(some 4), none, .mov (.c .nilsl)⟩] [4])
 .ret)))),
 [.tmp 4]⟩

/-- bellpull/paint.Stepless -/
noncomputable def sf31 : SFun := ⟨[0, 1, 2, 5, 6, 7, 8, 21], 30,
 (.seq
 (.ops [
 ⟨(some 5), none, .box (.t 2)⟩,
 ⟨(some 6), none, .mov (.c .nilsl)⟩,
 ⟨(some 7), none, .mov (.c (.int .i64 0))⟩] [5, 6, 7])
 (.seq
 (.seq
 (.ops [
 ⟨(some 9), none, .mov (.t 0)⟩,
 ⟨(some 10), none, .call (.c (.fn (.func 38) [] [])) [(.t 9), (.c (.int .i64 1)), (.c (.int .i64 20))]⟩,
 ⟨(some 11), none, .not (.t 10)⟩,
 ⟨(some 12), none, .mov (.t 11)⟩,
 ⟨(some 13), (some (12, false)), .mov (.t 1)⟩,
 ⟨(some 14), (some (12, false)), .call (.c (.fn (.func 38) [] [])) [(.t 13), (.c (.int .i64 1)), (.c (.int .i64 3))]⟩,
 ⟨(some 15), (some (12, false)), .not (.t 14)⟩,
 ⟨(some 16), none, .pick (.t 12) (.c (.bool true)) (.t 15)⟩,
 ⟨(some 17), none, .mov (.t 16)⟩,
 ⟨(some 18), (some (17, false)), .load none (.t 5)⟩,
 ⟨(some 19), (some (17, false)), .call (.c (.fn (.func 38) [] [])) [(.t 18), (.c (.int .i64 3)), (.c (.int .i64 4))]⟩,
 ⟨(some 20), (some (17, false)), .not (.t 19)⟩,
 ⟨(some 21), none, .pick (.t 17) (.c (.bool true)) (.t 20)⟩] [21])
 (.cond (.t 21)
 (.seq
 (.ops [
 ⟨(some 6), none, .mov (.c .nilsl)⟩,
 ⟨(some 7), none, .mov (.c (.int .i64 1))⟩] [6, 7])
 .ret)
 .skip))
 (.seq
 (.ops [
 ⟨(some 22), none, .mkf 51 [] [(.t 5)]⟩,
 ⟨(some 8), none, .mov (.t 22)⟩] [8])
 (.seq
 (.ops [
 ⟨(some 23), none, .mov (.t 0)⟩,
 ⟨(some 24), none, .mov (.t 1)⟩,
 ⟨(some 25), none, .mov (.t 8)⟩,
 ⟨(some 26), none, .call (.c (.fn (.func 48) [] [])) [(.t 23), (.t 24), (.t 25)]⟩,
 ⟨(some 27), none, .call (.c (.fn (.func 44) [] [])) [(.t 26)]⟩,
 ⟨(some 28), none, .ext (.t 27) 0⟩,
 ⟨(some 29), none, .ext (.t 27) 1⟩,
 ⟨(some 6), none, .mov (.t 28)⟩,
 ⟨(some 7), none, .mov (.t 29)⟩] [6, 7])
 .ret)))),
 [.tmp 6, .tmp 7]⟩

/-- bellpull/bellpullref01.Stepless -/
noncomputable def sf32 : SFun := ⟨[0, 1, 2, 3, 8, 9, 10, 14, 18, 22, 36], 38,
 (.seq
 (.ops [
 ⟨(some 8), none, .mov (.c .nilsl)⟩] [8])
 (.seq
 (.seq
 (.ops [
 ⟨(some 11), none, .mov (.t 3)⟩,
 ⟨(some 12), none, .mov (.t 2)⟩,
 ⟨(some 13), none, .call (.c (.fn (.func 30) [] [])) [(.t 11), (.t 12)]⟩,
 ⟨(some 14), none, .bin .neq .slice (.t 13) (.c .nilsl)⟩] [14])
 (.cond (.t 14)
 (.seq
 (.ops [
 ⟨(some 8), none, .mov (.c .nilsl)⟩] [8])
 .ret)
 .skip))
 (.seq
 (.seq
 (.ops [
 ⟨(some 15), none, .mov (.t 3)⟩,
 ⟨(some 16), none, .lenS (.t 15)⟩,
 ⟨(some 17), none, .mov (.t 0)⟩,
 ⟨(some 18), none, .bin .eql .no (.t 16) (.t 17)⟩] [18])
 (.cond (.t 18)
 (.seq
 (.ops [
 ⟨(some 19), none, .mov (.t 3)⟩,
 ⟨(some 8), none, .mov (.t 19)⟩] [8])
 .ret)
 .skip))
 (.seq
 (.seq
 (.ops [
 ⟨(some 9), none, .mov (.c (.int .i64 0))⟩] [9])
 (.block 0
 (.loop
 (.seq
 (.seq
 (.ops [
 ⟨(some 20), none, .mov (.t 9)⟩,
 ⟨(some 21), none, .mov (.t 1)⟩,
 ⟨(some 22), none, .bin .lss .no (.t 20) (.t 21)⟩] [22])
 (.cond (.t 22)
 .skip
 (.exit 0)))
 (.seq
 (.block 1
 (.seq
 (.ops [
 ⟨(some 25), none, .mov (.t 0)⟩,
 ⟨(some 26), none, .mov (.t 1)⟩,
 ⟨(some 27), none, .mov (.t 2)⟩,
 ⟨(some 28), none, .buildS [(.int .i64 0)] 0 1 []⟩,
 ⟨(some 29), none, .mov (.t 3)⟩,
 ⟨(some 30), none, .app true 1 (.t 28) (.t 29)⟩,
 ⟨(some 31), none, .mov (.t 9)⟩,
 ⟨(some 32), none, .buildS [(.int .i64 0)] 1 1 [(0, (.t 31))]⟩,
 ⟨(some 33), none, .app true 1 (.t 30) (.t 32)⟩,
 ⟨(some 34), none, .call (.c (.fn (.func 32) [] [])) [(.t 25), (.t 26), (.t 27), (.t 33)]⟩,
 ⟨(some 10), none, .mov (.t 34)⟩] [10])
 (.seq
 (.ops [
 ⟨(some 35), none, .mov (.t 10)⟩,
 ⟨(some 36), none, .bin .neq .slice (.t 35) (.c .nilsl)⟩] [36])
 (.cond (.t 36)
 (.seq
 (.ops [
 ⟨(some 37), none, .mov (.t 10)⟩,
 ⟨(some 8), none, .mov (.t 37)⟩] [8])
 .ret)
 .skip))))
 (.ops [
 ⟨(some 23), none, .mov (.t 9)⟩,
 ⟨(some 24), none, .bin .add .no (.t 23) (.c (.int .i64 1))⟩,
 ⟨(some 9), none, .mov (.t 24)⟩] [9]))))))
 (.seq
 (.ops [
 ⟨(some 8), none, .mov (.c .nilsl)⟩] [8])
 .ret))))),
 [.tmp 8]⟩

/-- bellpull/paint.Count -/
noncomputable def sf33 : SFun := ⟨[0, 1, 2, 6, 7, 8, 17, 21, 22], 26,
 (.seq
 (.ops [
 ⟨(some 6), none, .mov (.c (.int .i64 0))⟩,
 ⟨(some 7), none, .mov (.c (.int .i64 0))⟩] [6, 7])
 (.seq
 (.seq
 (.ops [
 ⟨(some 9), none, .mov (.t 0)⟩,
 ⟨(some 10), none, .call (.c (.fn (.func 38) [] [])) [(.t 9), (.c (.int .i64 1)), (.c (.int .i64 5))]⟩,
 ⟨(some 11), none, .not (.t 10)⟩,
 ⟨(some 12), none, .mov (.t 11)⟩,
 ⟨(some 13), (some (12, false)), .mov (.t 1)⟩,
 ⟨(some 14), (some (12, false)), .mov (.t 2)⟩,
 ⟨(some 15), (some (12, false)), .call (.c (.fn (.func 43) [] [])) [(.t 13), (.t 14)]⟩,
 ⟨(some 16), (some (12, false)), .not (.t 15)⟩,
 ⟨(some 17), none, .pick (.t 12) (.c (.bool true)) (.t 16)⟩] [17])
 (.cond (.t 17)
 (.seq
 (.ops [
 ⟨(some 6), none, .mov (.c (.int .i64 0))⟩,
 ⟨(some 7), none, .mov (.c (.int .i64 1))⟩] [6, 7])
 .ret)
 .skip))
 (.seq
 (.ops [
 ⟨(some 8), none, .new [(.int .i64 0)]⟩,
 ⟨none, none, .store 1 (.t 8) (.c (.int .i64 0))⟩] [8])
 (.seq
 (.seq
 (.ops [
 ⟨(some 18), none, .mov (.t 0)⟩,
 ⟨(some 19), none, .mov (.t 1)⟩,
 ⟨(some 20), none, .mov (.t 2)⟩,
 ⟨(some 21), none, .call (.c (.fn (.func 45) [] [])) [(.t 18), (.t 19), (.t 20)]⟩] [21])
 (.block 0
 (.rangeF (.t 21) (rfAt Try.prog 33 0).1 (rfAt Try.prog 33 0).2.1 (rfAt Try.prog 33 0).2.2 6422983 26)))
 (.seq
 (.ops [
 ⟨(some 25), none, .load none (.t 8)⟩,
 ⟨(some 6), none, .mov (.t 25)⟩,
 ⟨(some 7), none, .mov (.c (.int .i64 0))⟩] [6, 7])
 .ret))))),
 [.tmp 6, .tmp 7]⟩

/-- bellpull/bellpullref01.Count -/
noncomputable def sf34 : SFun := ⟨[0, 1, 2, 3, 8, 18, 26], 46,
 (.seq
 (.ops [
 ⟨(some 8), none, .mov (.c (.int .i64 0))⟩] [8])
 (.seq
 (.seq
 (.ops [
 ⟨(some 9), none, .mov (.t 3)⟩,
 ⟨(some 10), none, .lenS (.t 9)⟩,
 ⟨(some 11), none, .bin .gtr .no (.t 10) (.c (.int .i64 0))⟩,
 ⟨(some 12), none, .mov (.t 11)⟩,
 ⟨(some 13), (some (12, true)), .mov (.t 0)⟩,
 ⟨(some 14), (some (12, true)), .mov (.t 3)⟩,
 ⟨(some 15), (some (12, true)), .mov (.t 1)⟩,
 ⟨(some 16), (some (12, true)), .mov (.t 2)⟩,
 ⟨(some 17), (some (12, true)), .call (.c (.fn (.func 46) [] [])) [(.t 13), (.t 14), (.t 15), (.t 16)]⟩,
 ⟨(some 18), none, .pick (.t 12) (.t 17) (.c (.bool false))⟩] [18])
 (.cond (.t 18)
 (.seq
 (.ops [
 ⟨(some 8), none, .mov (.c (.int .i64 0))⟩] [8])
 .ret)
 .skip))
 (.seq
 (.seq
 (.ops [
 ⟨(some 19), none, .mov (.t 3)⟩,
 ⟨(some 20), none, .lenS (.t 19)⟩,
 ⟨(some 21), none, .mov (.t 0)⟩,
 ⟨(some 22), none, .mov (.t 0)⟩,
 ⟨(some 23), none, .bin .sub .no (.t 22) (.c (.int .i64 1))⟩,
 ⟨(some 24), none, .bin .mul .no (.t 21) (.t 23)⟩,
 ⟨(some 25), none, .bin .quo .no (.t 24) (.c (.int .i64 2))⟩,
 ⟨(some 26), none, .bin .eql .no (.t 20) (.t 25)⟩] [26])
 (.cond (.t 26)
 (.seq
 (.ops [
 ⟨(some 8), none, .mov (.c (.int .i64 1))⟩] [8])
 .ret)
 .skip))
 (.seq
 (.ops [
 ⟨(some 27), none, .mov (.t 0)⟩,
 ⟨(some 28), none, .mov (.t 1)⟩,
 ⟨(some 29), none, .mov (.t 2)⟩,
 ⟨(some 30), none, .buildS [(.int .i64 0)] 0 1 []⟩,
 ⟨(some 31), none, .mov (.t 3)⟩,
 ⟨(some 32), none, .app true 1 (.t 30) (.t 31)⟩,
 ⟨(some 33), none, .buildS [(.int .i64 0)] 1 1 [(0, (.c (.int .i64 0)))]⟩,
 ⟨(some 34), none, .app true 1 (.t 32) (.t 33)⟩,
 ⟨(some 35), none, .call (.c (.fn (.func 34) [] [])) [(.t 27), (.t 28), (.t 29), (.t 34)]⟩,
 ⟨(some 36), none, .mov (.t 0)⟩,
 ⟨(some 37), none, .mov (.t 1)⟩,
 ⟨(some 38), none, .mov (.t 2)⟩,
 ⟨(some 39), none, .buildS [(.int .i64 0)] 0 1 []⟩,
 ⟨(some 40), none, .mov (.t 3)⟩,
 ⟨(some 41), none, .app true 1 (.t 39) (.t 40)⟩,
 ⟨(some 42), none, .buildS [(.int .i64 0)] 1 1 [(0, (.c (.int .i64 1)))]⟩,
 ⟨(some 43), none, .app true 1 (.t 41) (.t 42)⟩,
 ⟨(some 44), none, .call (.c (.fn (.func 34) [] [])) [(.t 36), (.t 37), (.t 38), (.t 43)]⟩,
 ⟨(some 45), none, .bin .add .no (.t 35) (.t 44)⟩,
 ⟨(some 8), none, .mov (.t 45)⟩] [8])
 .ret)))),
 [.tmp 8]⟩

/-- bellpull/bellpulllaw01.between -/
noncomputable def sf35 : SFun := ⟨[0, 1, 2, 6], 16,
 (.seq
 (.ops [
 ⟨(some 6), none, .mov (.c (.int .i64 0))⟩] [6])
 (.seq
 (.ops [
 ⟨(some 7), none, .mov (.t 1)⟩,
 ⟨(some 8), none, .mov (.t 0)⟩,
 ⟨(some 9), none, .conv .i64 (.t 8)⟩,
 ⟨(some 10), none, .mov (.t 2)⟩,
 ⟨(some 11), none, .mov (.t 1)⟩,
 ⟨(some 12), none, .bin .sub .no (.t 10) (.t 11)⟩,
 ⟨(some 13), none, .bin .add .no (.t 12) (.c (.int .i64 1))⟩,
 ⟨(some 14), none, .bin .rem .no (.t 9) (.t 13)⟩,
 ⟨(some 15), none, .bin .add .no (.t 7) (.t 14)⟩,
 ⟨(some 6), none, .mov (.t 15)⟩] [6])
 .ret)),
 [.tmp 6]⟩

/-- bellpull/bellpullref01.Pair -/
noncomputable def sf36 : SFun := ⟨[0, 1, 2, 6, 7, 8, 11], 26,
 (.seq
 (.ops [
 ⟨(some 6), none, .mov (.c (.int .i64 0))⟩] [6])
 (.seq
 (.ops [
 ⟨(some 7), none, .mov (.c (.int .i64 0))⟩] [7])
 (.seq
 (.seq
 (.ops [
 ⟨(some 8), none, .mov (.c (.int .i64 0))⟩] [8])
 (.block 0
 (.loop
 (.seq
 (.seq
 (.ops [
 ⟨(some 9), none, .mov (.t 8)⟩,
 ⟨(some 10), none, .mov (.t 1)⟩,
 ⟨(some 11), none, .bin .lss .no (.t 9) (.t 10)⟩] [11])
 (.cond (.t 11)
 .skip
 (.exit 0)))
 (.seq
 (.block 1
 (.ops [
 ⟨(some 14), none, .mov (.t 7)⟩,
 ⟨(some 15), none, .mov (.t 0)⟩,
 ⟨(some 16), none, .bin .sub .no (.t 15) (.c (.int .i64 1))⟩,
 ⟨(some 17), none, .mov (.t 8)⟩,
 ⟨(some 18), none, .bin .sub .no (.t 16) (.t 17)⟩,
 ⟨(some 19), none, .bin .add .no (.t 14) (.t 18)⟩,
 ⟨(some 7), none, .mov (.t 19)⟩] [7]))
 (.ops [
 ⟨(some 12), none, .mov (.t 8)⟩,
 ⟨(some 13), none, .bin .add .no (.t 12) (.c (.int .i64 1))⟩,
 ⟨(some 8), none, .mov (.t 13)⟩] [8]))))))
 (.seq
 (.ops [
 ⟨(some 20), none, .mov (.t 7)⟩,
 ⟨(some 21), none, .mov (.t 2)⟩,
 ⟨(some 22), none, .bin .add .no (.t 20) (.t 21)⟩,
 ⟨(some 23), none, .mov (.t 1)⟩,
 ⟨(some 24), none, .bin .sub .no (.t 22) (.t 23)⟩,
 ⟨(some 25), none, .bin .sub .no (.t 24) (.c (.int .i64 1))⟩,
 ⟨(some 6), none, .mov (.t 25)⟩] [6])
 .ret)))),
 [.tmp 6]⟩

/-- bellpull/bellpullref01.Rising -/
noncomputable def sf37 : SFun := ⟨[0, 1, 4, 5, 9, 35], 36,
 (.seq
 (.ops [
 ⟨(some 4), none, .mov (.c (.bool false))⟩] [4])
 (.seq
 (.seq
 (.ops [
 ⟨(some 5), none, .mov (.c (.int .i64 0))⟩] [5])
 (.block 0
 (.loop
 (.seq
 (.seq
 (.ops [
 ⟨(some 6), none, .mov (.t 5)⟩,
 ⟨(some 7), none, .mov (.t 1)⟩,
 ⟨(some 8), none, .lenS (.t 7)⟩,
 ⟨(some 9), none, .bin .lss .no (.t 6) (.t 8)⟩] [9])
 (.cond (.t 9)
 .skip
 (.exit 0)))
 (.seq
 (.block 1
 (.seq
 (.draw [
 ⟨⟨(some 12), none, .mov (.t 1)⟩, false, false⟩,
 ⟨⟨(some 13), none, .mov (.t 5)⟩, false, false⟩,
 ⟨⟨(some 14), none, .ixS 1 (.t 12) (.t 13)⟩, false, false⟩,
 ⟨⟨(some 15), none, .load none (.t 14)⟩, true, false⟩,
 ⟨⟨(some 16), none, .mov (.t 0)⟩, false, false⟩,
 ⟨⟨(some 17), none, .bin .sub .no (.t 16) (.c (.int .i64 1))⟩, false, false⟩,
 ⟨⟨(some 18), none, .call (.c (.fn (.func 18) [] [])) [(.t 15), (.c (.int .i64 0)), (.t 17)]⟩, false, true⟩,
 ⟨⟨(some 19), none, .not (.t 18)⟩, false, false⟩,
 ⟨⟨(some 20), none, .mov (.t 19)⟩, false, false⟩,
 ⟨⟨(some 21), (some (20, false)), .mov (.t 5)⟩, false, false⟩,
 ⟨⟨(some 22), (some (20, false)), .bin .gtr .no (.t 21) (.c (.int .i64 0))⟩, false, false⟩,
 ⟨⟨(some 23), (some (20, false)), .mov (.t 22)⟩, false, false⟩,
 ⟨⟨(some 24), (some (23, true)), .mov (.t 1)⟩, false, false⟩,
 ⟨⟨(some 25), (some (23, true)), .mov (.t 5)⟩, false, false⟩,
 ⟨⟨(some 26), (some (23, true)), .ixS 1 (.t 24) (.t 25)⟩, false, false⟩,
 ⟨⟨(some 27), (some (23, true)), .load none (.t 26)⟩, true, false⟩,
 ⟨⟨(some 28), (some (23, true)), .mov (.t 1)⟩, false, false⟩,
 ⟨⟨(some 29), (some (23, true)), .mov (.t 5)⟩, false, false⟩,
 ⟨⟨(some 30), (some (23, true)), .bin .sub .no (.t 29) (.c (.int .i64 1))⟩, false, false⟩,
 ⟨⟨(some 31), (some (23, true)), .ixS 1 (.t 28) (.t 30)⟩, false, false⟩,
 ⟨⟨(some 32), (some (23, true)), .load none (.t 31)⟩, true, false⟩,
 ⟨⟨(some 33), (some (23, true)), .bin .leq .no (.t 27) (.t 32)⟩, false, false⟩,
 ⟨⟨(some 34), (some (20, false)), .pick (.t 23) (.t 33) (.c (.bool false))⟩, false, false⟩,
 ⟨⟨(some 35), none, .pick (.t 20) (.c (.bool true)) (.t 34)⟩, false, false⟩] [0, 0, 3, 7, 0, 16, 63, 127, 255, 511, 1023, 2047, 4095, 4095, 16383, 32767, 4095, 4095, 135167, 462847, 987135, 2097151, 4194303, 8388607] [35])
 (.cond (.t 35)
 (.seq
 (.ops [
 ⟨(some 4), none, .mov (.c (.bool false))⟩] [4])
 .ret)
 .skip)))
 (.ops [
 ⟨(some 10), none, .mov (.t 5)⟩,
 ⟨(some 11), none, .bin .add .no (.t 10) (.c (.int .i64 1))⟩,
 ⟨(some 5), none, .mov (.t 11)⟩] [5]))))))
 (.seq
 (.ops [
 ⟨(some 4), none, .mov (.c (.bool true))⟩] [4])
 .ret))),
 [.tmp 4]⟩

/-- bellpull/paint.within -/
noncomputable def sf38 : SFun := ⟨[0, 1, 2, 6], 15,
 (.seq
 (.ops [
 ⟨(some 6), none, .mov (.c (.bool false))⟩] [6])
 (.seq
 (.ops [
 ⟨(some 7), none, .mov (.t 1)⟩,
 ⟨(some 8), none, .mov (.t 0)⟩,
 ⟨(some 9), none, .bin .leq .no (.t 7) (.t 8)⟩,
 ⟨(some 10), none, .mov (.t 9)⟩,
 ⟨(some 11), (some (10, true)), .mov (.t 0)⟩,
 ⟨(some 12), (some (10, true)), .mov (.t 2)⟩,
 ⟨(some 13), (some (10, true)), .bin .leq .no (.t 11) (.t 12)⟩,
 ⟨(some 14), none, .pick (.t 10) (.t 13) (.c (.bool false))⟩,
 ⟨(some 6), none, .mov (.t 14)⟩] [6])
 .ret)),
 [.tmp 6]⟩

/-- bellpull/paint.painted -/
noncomputable def sf39 : SFun := ⟨[0, 1, 4, 6, 7, 8, 9, 10, 17], 19,
 (.seq
 (.ops [
 ⟨(some 4), none, .mov (.c (.bool false))⟩] [4])
 (.seq
 (.seq
 (.ops [
 ⟨(some 7), none, .mov (.t 0)⟩,
 ⟨(some 8), none, .lenS (.t 7)⟩,
 ⟨(some 9), none, .mov (.c (.int .i64 0))⟩] [7, 8, 9])
 (.block 0
 (.loop
 (.seq
 (.ops [
 ⟨(some 10), none, .bin .lss .no (.t 9) (.t 8)⟩] [10])
 (.seq
 (.cond (.t 10)
 .skip
 (.exit 0))
 (.seq
 (.block 1
 (.seq
 (.ops [
 ⟨(some 11), none, .ixS 1 (.t 7) (.t 9)⟩,
 ⟨(some 12), none, .load none (.t 11)⟩,
 ⟨(some 6), none, .mov (.t 12)⟩] [6])
 (.seq
 (.ops [
 ⟨(some 13), none, .mov (.t 6)⟩,
 ⟨(some 14), none, .mov (.t 1)⟩,
 ⟨(some 15), none, .bin .sub .no (.t 14) (.c (.int .i64 1))⟩,
 ⟨(some 16), none, .call (.c (.fn (.func 38) [] [])) [(.t 13), (.c (.int .i64 0)), (.t 15)]⟩,
 ⟨(some 17), none, .not (.t 16)⟩] [17])
 (.cond (.t 17)
 (.seq
 (.ops [
 ⟨(some 4), none, .mov (.c (.bool false))⟩] [4])
 .ret)
 .skip))))
 (.ops [
 ⟨(some 18), none, .bin .add .no (.t 9) (.c (.int .i64 1))⟩,
 ⟨(some 9), none, .mov (.t 18)⟩] [9])))))))
 (.seq
 (.ops [
 ⟨(some 4), none, .mov (.c (.bool true))⟩] [4])
 .ret))),
 [.tmp 4]⟩

/-- bellpull/paint.found -/
noncomputable def sf40 : SFun := ⟨[0, 2, 3, 5], 7,
 (.seq
 (.ops [
 ⟨(some 2), none, .mov (.c .nilsl)⟩,
 ⟨(some 3), none, .mov (.c (.int .i64 0))⟩] [2, 3])
 (.seq
 (.seq
 (.ops [
 ⟨(some 4), none, .mov (.t 0)⟩,
 ⟨(some 5), none, .bin .eql .slice (.t 4) (.c .nilsl)⟩] [5])
 (.cond (.t 5)
 (.seq
 (.ops [
 ⟨(some 2), none, .mov (.c .nilsl)⟩,
 ⟨(some 3), none, .mov (.c (.int .i64 5))⟩] [2, 3])
 .ret)
 .skip))
 (.seq
 (.ops [
 ⟨(some 6), none, .mov (.t 0)⟩,
 ⟨(some 2), none, .mov (.t 6)⟩,
 ⟨(some 3), none, .mov (.c (.int .i64 0))⟩] [2, 3])
 .ret))),
 [.tmp 2, .tmp 3]⟩

/-- (bellpull/paint.dots).grow -/
noncomputable def sf41 : SFun := ⟨[0, 1, 2, 3, 4, 5, 10], 17,
 (.seq
 (.ops [
 ⟨(some 5), none, .box (.t 0)⟩,
 ⟨(some 10), none, .mov (.c .nilsl)⟩] [5, 10])
 (.seq
 (.ops [
 ⟨(some 11), none, .load (some 2) (.t 5)⟩,
 ⟨(some 12), none, .mov (.t 1)⟩,
 ⟨(some 13), none, .mov (.t 2)⟩,
 ⟨(some 14), none, .mov (.t 3)⟩,
 ⟨(some 15), none, .mov (.t 4)⟩,
 ⟨(some 16), none, .call (.c (.fn (.func 53) [] [])) [(.t 11), (.c (.int .i64 0)), (.t 12), (.t 13), (.t 14), (.t 15)]⟩,
 ⟨(some 10), none, .mov (.t 16)⟩] [10])
 .ret)),
 [.tmp 10]⟩

/-- bellpull/bellpullref01.Same -/
noncomputable def sf42 : SFun := ⟨[0, 1, 4], 15,
 (.seq
 (.ops [
 ⟨(some 4), none, .mov (.c (.bool false))⟩] [4])
 (.seq
 (.ops [
 ⟨(some 5), none, .mov (.t 0)⟩,
 ⟨(some 6), none, .mov (.t 1)⟩,
 ⟨(some 7), none, .call (.c (.fn (.func 54) [] [])) [(.t 5), (.t 6)]⟩,
 ⟨(some 8), none, .not (.t 7)⟩,
 ⟨(some 9), none, .mov (.t 8)⟩,
 ⟨(some 10), (some (9, true)), .mov (.t 1)⟩,
 ⟨(some 11), (some (9, true)), .mov (.t 0)⟩,
 ⟨(some 12), (some (9, true)), .call (.c (.fn (.func 54) [] [])) [(.t 10), (.t 11)]⟩,
 ⟨(some 13), (some (9, true)), .not (.t 12)⟩,
 ⟨(some 14), none, .pick (.t 9) (.t 13) (.c (.bool false))⟩,
 ⟨(some 4), none, .mov (.t 14)⟩] [4])
 .ret)),
 [.tmp 4]⟩

/-- bellpull/paint.sizes -/
noncomputable def sf43 : SFun := ⟨[0, 1, 4], 11,
 (.seq
 (.ops [
 ⟨(some 4), none, .mov (.c (.bool false))⟩] [4])
 (.seq
 (.ops [
 ⟨(some 5), none, .mov (.t 0)⟩,
 ⟨(some 6), none, .call (.c (.fn (.func 38) [] [])) [(.t 5), (.c (.int .i64 2)), (.c (.int .i64 4))]⟩,
 ⟨(some 7), none, .mov (.t 6)⟩,
 ⟨(some 8), (some (7, true)), .mov (.t 1)⟩,
 ⟨(some 9), (some (7, true)), .call (.c (.fn (.func 38) [] [])) [(.t 8), (.c (.int .i64 2)), (.c (.int .i64 4))]⟩,
 ⟨(some 10), none, .pick (.t 7) (.t 9) (.c (.bool false))⟩,
 ⟨(some 4), none, .mov (.t 10)⟩] [4])
 .ret)),
 [.tmp 4]⟩

/-- bellpull/paint.first -/
noncomputable def sf44 : SFun := ⟨[0, 2, 3, 4, 5, 6], 8,
 (.seq
 (.ops [
 ⟨(some 2), none, .new [.nilsl]⟩,
 ⟨(some 3), none, .new [(.int .i64 0)]⟩] [2, 3])
 (.seq
 (.seq
 (.ops [
 ⟨(some 5), none, .mov (.t 0)⟩] [5])
 (.block 0
 (.rangeF (.t 5) (rfAt Try.prog 44 0).1 (rfAt Try.prog 44 0).2.1 (rfAt Try.prog 44 0).2.2 125 8)))
 (.seq
 (.ops [
 ⟨none, none, .store 1 (.t 2) (.c .nilsl)⟩,
 ⟨none, none, .store 1 (.t 3) (.c (.int .i64 5))⟩] [])
 .ret))),
 [.cell 2 none, .cell 3 none]⟩

/-- bellpull/paint.cliqueless -/
noncomputable def sf45 : SFun := ⟨[0, 1, 2, 3, 4, 5, 6, 7, 8], 16,
 (.seq
 (.ops [
 ⟨(some 3), none, .box (.t 0)⟩,
 ⟨(some 4), none, .box (.t 1)⟩,
 ⟨(some 5), none, .box (.t 2)⟩,
 ⟨(some 6), none, .mov (.c .nilfn)⟩] [3, 4, 5, 6])
 (.seq
 (.ops [
 ⟨(some 9), none, .load none (.t 3)⟩,
 ⟨(some 10), none, .call (.c (.fn (.func 55) [] [])) [(.t 9)]⟩,
 ⟨(some 7), none, .new [.nilsl]⟩,
 ⟨none, none, .store 1 (.t 7) (.t 10)⟩] [7])
 (.seq
 (.ops [
 ⟨(some 11), none, .mkf 56 [] [(.t 4), (.t 5), (.t 7), (.t 3)]⟩,
 ⟨(some 8), none, .mov (.t 11)⟩] [8])
 (.seq
 (.ops [
 ⟨(some 12), none, .load none (.t 7)⟩,
 ⟨(some 13), none, .lenS (.t 12)⟩,
 ⟨(some 14), none, .mov (.t 8)⟩,
 ⟨(some 15), none, .call (.c (.fn (.func 48) [] [])) [(.t 13), (.c (.int .i64 2)), (.t 14)]⟩,
 ⟨(some 6), none, .mov (.t 15)⟩] [6])
 .ret)))),
 [.tmp 6]⟩

/-- bellpull/bellpullref01.closed -/
noncomputable def sf46 : SFun := ⟨[0, 1, 2, 3, 8, 9, 10, 11, 12, 13, 14, 15, 19, 26, 39, 44, 70], 82,
 (.seq
 (.ops [
 ⟨(some 8), none, .mov (.c (.bool false))⟩] [8])
 (.seq
 (.ops [
 ⟨(some 9), none, .mov (.c (.int .i64 0))⟩,
 ⟨(some 10), none, .mov (.c (.int .i64 1))⟩] [9, 10])
 (.seq
 (.seq
 (.ops [
 ⟨(some 11), none, .mov (.c (.int .i64 1))⟩] [11])
 (.block 0
 (.loop
 (.seq
 (.seq
 (.ops [
 ⟨(some 16), none, .mov (.t 11)⟩,
 ⟨(some 17), none, .mov (.t 1)⟩,
 ⟨(some 18), none, .lenS (.t 17)⟩,
 ⟨(some 19), none, .bin .lss .no (.t 16) (.t 18)⟩] [19])
 (.cond (.t 19)
 .skip
 (.exit 0)))
 (.seq
 (.block 1
 (.seq
 (.ops [
 ⟨(some 22), none, .mov (.t 10)⟩,
 ⟨(some 23), none, .bin .add .no (.t 22) (.c (.int .i64 1))⟩,
 ⟨(some 10), none, .mov (.t 23)⟩] [10])
 (.seq
 (.ops [
 ⟨(some 24), none, .mov (.t 10)⟩,
 ⟨(some 25), none, .mov (.t 0)⟩,
 ⟨(some 26), none, .bin .eql .no (.t 24) (.t 25)⟩] [26])
 (.cond (.t 26)
 (.seq
 (.ops [
 ⟨(some 27), none, .mov (.t 9)⟩,
 ⟨(some 28), none, .bin .add .no (.t 27) (.c (.int .i64 1))⟩,
 ⟨(some 9), none, .mov (.t 28)⟩] [9])
 (.ops [
 ⟨(some 29), none, .mov (.t 9)⟩,
 ⟨(some 30), none, .bin .add .no (.t 29) (.c (.int .i64 1))⟩,
 ⟨(some 10), none, .mov (.t 30)⟩] [10]))
 .skip))))
 (.ops [
 ⟨(some 20), none, .mov (.t 11)⟩,
 ⟨(some 21), none, .bin .add .no (.t 20) (.c (.int .i64 1))⟩,
 ⟨(some 11), none, .mov (.t 21)⟩] [11]))))))
 (.seq
 (.ops [
 ⟨(some 31), none, .mov (.t 1)⟩,
 ⟨(some 32), none, .mov (.t 1)⟩,
 ⟨(some 33), none, .lenS (.t 32)⟩,
 ⟨(some 34), none, .bin .sub .no (.t 33) (.c (.int .i64 1))⟩,
 ⟨(some 35), none, .ixS 1 (.t 31) (.t 34)⟩,
 ⟨(some 36), none, .load none (.t 35)⟩,
 ⟨(some 12), none, .mov (.t 36)⟩] [12])
 (.seq
 (.ops [
 ⟨(some 37), none, .mov (.t 2)⟩,
 ⟨(some 13), none, .mov (.t 37)⟩] [13])
 (.seq
 (.seq
 (.ops [
 ⟨(some 38), none, .mov (.t 12)⟩,
 ⟨(some 39), none, .bin .eql .no (.t 38) (.c (.int .i64 1))⟩] [39])
 (.cond (.t 39)
 (.ops [
 ⟨(some 40), none, .mov (.t 3)⟩,
 ⟨(some 13), none, .mov (.t 40)⟩] [13])
 .skip))
 (.seq
 (.ops [
 ⟨(some 41), none, .buildS [(.int .i64 0)] 0 1 []⟩,
 ⟨(some 14), none, .mov (.t 41)⟩] [14])
 (.seq
 (.seq
 (.ops [
 ⟨(some 15), none, .mov (.c (.int .i64 0))⟩] [15])
 (.block 2
 (.loop
 (.seq
 (.seq
 (.ops [
 ⟨(some 42), none, .mov (.t 15)⟩,
 ⟨(some 43), none, .mov (.t 0)⟩,
 ⟨(some 44), none, .bin .lss .no (.t 42) (.t 43)⟩] [44])
 (.cond (.t 44)
 .skip
 (.exit 2)))
 (.seq
 (.block 3
 (.seq
 (.ops [
 ⟨(some 47), none, .mov (.t 15)⟩,
 ⟨(some 48), none, .mov (.t 9)⟩,
 ⟨(some 49), none, .bin .neq .no (.t 47) (.t 48)⟩,
 ⟨(some 50), none, .mov (.t 49)⟩,
 ⟨(some 51), (some (50, true)), .mov (.t 15)⟩,
 ⟨(some 52), (some (50, true)), .mov (.t 10)⟩,
 ⟨(some 53), (some (50, true)), .bin .neq .no (.t 51) (.t 52)⟩,
 ⟨(some 54), none, .pick (.t 50) (.t 53) (.c (.bool false))⟩,
 ⟨(some 55), none, .mov (.t 54)⟩,
 ⟨(some 56), (some (55, true)), .mov (.t 0)⟩,
 ⟨(some 57), (some (55, true)), .mov (.t 1)⟩,
 ⟨(some 58), (some (55, true)), .mov (.t 15)⟩,
 ⟨(some 59), (some (55, true)), .mov (.t 9)⟩,
 ⟨(some 60), (some (55, true)), .mov (.t 12)⟩,
 ⟨(some 61), (some (55, true)), .call (.c (.fn (.func 57) [] [])) [(.t 56), (.t 57), (.t 58), (.t 59), (.t 60)]⟩,
 ⟨(some 62), none, .pick (.t 55) (.t 61) (.c (.bool false))⟩,
 ⟨(some 63), none, .mov (.t 62)⟩,
 ⟨(some 64), (some (63, true)), .mov (.t 0)⟩,
 ⟨(some 65), (some (63, true)), .mov (.t 1)⟩,
 ⟨(some 66), (some (63, true)), .mov (.t 15)⟩,
 ⟨(some 67), (some (63, true)), .mov (.t 10)⟩,
 ⟨(some 68), (some (63, true)), .mov (.t 12)⟩,
 ⟨(some 69), (some (63, true)), .call (.c (.fn (.func 57) [] [])) [(.t 64), (.t 65), (.t 66), (.t 67), (.t 68)]⟩,
 ⟨(some 70), none, .pick (.t 63) (.t 69) (.c (.bool false))⟩] [70])
 (.cond (.t 70)
 (.ops [
 ⟨(some 71), none, .mov (.t 14)⟩,
 ⟨(some 72), none, .mov (.t 15)⟩,
 ⟨(some 73), none, .buildS [(.int .i64 0)] 1 1 [(0, (.t 72))]⟩,
 ⟨(some 74), none, .app true 1 (.t 71) (.t 73)⟩,
 ⟨(some 14), none, .mov (.t 74)⟩] [14])
 .skip)))
 (.ops [
 ⟨(some 45), none, .mov (.t 15)⟩,
 ⟨(some 46), none, .bin .add .no (.t 45) (.c (.int .i64 1))⟩,
 ⟨(some 15), none, .mov (.t 46)⟩] [15]))))))
 (.seq
 (.ops [
 ⟨(some 75), none, .mov (.t 0)⟩,
 ⟨(some 76), none, .mov (.t 1)⟩,
 ⟨(some 77), none, .mov (.t 12)⟩,
 ⟨(some 78), none, .mov (.t 14)⟩,
 ⟨(some 79), none, .mov (.t 13)⟩,
 ⟨(some 80), none, .bin .sub .no (.t 79) (.c (.int .i64 2))⟩,
 ⟨(some 81), none, .call (.c (.fn (.func 58) [] [])) [(.t 75), (.t 76), (.t 77), (.t 78), (.t 80)]⟩,
 ⟨(some 8), none, .mov (.t 81)⟩] [8])
 .ret))))))))),
 [.tmp 8]⟩

/-- bellpull/paint.sum -/
noncomputable def sf47 : SFun := ⟨[0, 2, 3, 4, 5, 10, 18, 28], 32,
 (.seq
 (.ops [
 ⟨(some 2), none, .mov (.c .nilsl)⟩] [2])
 (.seq
 (.ops [
 ⟨(some 6), none, .mov (.t 0)⟩,
 ⟨(some 7), none, .lenS (.t 6)⟩,
 ⟨(some 3), none, .mov (.t 7)⟩] [3])
 (.seq
 (.seq
 (.ops [
 ⟨(some 4), none, .mov (.c (.int .i64 1))⟩] [4])
 (.block 0
 (.loop
 (.seq
 (.seq
 (.ops [
 ⟨(some 8), none, .mov (.t 4)⟩,
 ⟨(some 9), none, .mov (.t 3)⟩,
 ⟨(some 10), none, .bin .leq .no (.t 8) (.t 9)⟩] [10])
 (.cond (.t 10)
 .skip
 (.exit 0)))
 (.seq
 (.block 1
 (.seq
 (.ops [
 ⟨(some 13), none, .mov (.t 4)⟩,
 ⟨(some 5), none, .mov (.t 13)⟩] [5])
 (.block 2
 (.loop
 (.seq
 (.seq
 (.ops [
 ⟨(some 14), none, .mov (.t 4)⟩,
 ⟨(some 15), none, .mov (.t 5)⟩,
 ⟨(some 16), none, .bin .add .no (.t 14) (.t 15)⟩,
 ⟨(some 17), none, .mov (.t 3)⟩,
 ⟨(some 18), none, .bin .leq .no (.t 16) (.t 17)⟩] [18])
 (.cond (.t 18)
 .skip
 (.exit 2)))
 (.seq
 (.block 3
 (.seq
 (.ops [
 ⟨(some 21), none, .mov (.t 0)⟩,
 ⟨(some 22), none, .mov (.t 4)⟩,
 ⟨(some 23), none, .mov (.t 5)⟩,
 ⟨(some 24), none, .mov (.t 4)⟩,
 ⟨(some 25), none, .mov (.t 5)⟩,
 ⟨(some 26), none, .bin .add .no (.t 24) (.t 25)⟩,
 ⟨(some 27), none, .buildS [(.int .i64 0)] 3 1 [(0, (.t 22)), (1, (.t 23)), (2, (.t 26))]⟩,
 ⟨(some 28), none, .call (.c (.fn (.func 59) [] [])) [(.t 21), (.t 27)]⟩] [28])
 (.cond (.t 28)
 (.seq
 (.ops [
 ⟨(some 29), none, .mov (.t 4)⟩,
 ⟨(some 30), none, .mov (.t 5)⟩,
 ⟨(some 31), none, .buildS [(.int .i64 0)] 2 1 [(0, (.t 29)), (1, (.t 30))]⟩,
 ⟨(some 2), none, .mov (.t 31)⟩] [2])
 .ret)
 .skip)))
 (.ops [
 ⟨(some 19), none, .mov (.t 5)⟩,
 ⟨(some 20), none, .bin .add .no (.t 19) (.c (.int .i64 1))⟩,
 ⟨(some 5), none, .mov (.t 20)⟩] [5])))))))
 (.ops [
 ⟨(some 11), none, .mov (.t 4)⟩,
 ⟨(some 12), none, .bin .add .no (.t 11) (.c (.int .i64 1))⟩,
 ⟨(some 4), none, .mov (.t 12)⟩] [4]))))))
 (.seq
 (.ops [
 ⟨(some 2), none, .mov (.c .nilsl)⟩] [2])
 .ret)))),
 [.tmp 2]⟩

/-- bellpull/paint.colorings -/
noncomputable def sf48 : SFun := ⟨[0, 1, 2, 3, 4, 5, 6, 7], 10,
 (.seq
 (.ops [
 ⟨(some 3), none, .box (.t 0)⟩,
 ⟨(some 4), none, .box (.t 1)⟩,
 ⟨(some 5), none, .box (.t 2)⟩,
 ⟨(some 6), none, .mov (.c .nilfn)⟩] [3, 4, 5, 6])
 (.seq
 (.ops [
 ⟨(some 7), none, .new [.nilfn]⟩] [7])
 (.seq
 (.ops [
 ⟨(some 8), none, .mkf 60 [] [(.t 3), (.t 4), (.t 5), (.t 7)]⟩,
 ⟨none, none, .store 1 (.t 7) (.t 8)⟩] [])
 (.seq
 (.ops [
 ⟨(some 9), none, .mkf 62 [] [(.t 7), (.t 3)]⟩,
 ⟨(some 6), none, .mov (.t 9)⟩] [6])
 .ret)))),
 [.tmp 6]⟩

/-- bellpull/paint.lastSumless -/
noncomputable def sf49 : SFun := ⟨[0, 2, 3, 4, 11, 21], 22,
 (.seq
 (.ops [
 ⟨(some 2), none, .mov (.c (.bool false))⟩] [2])
 (.seq
 (.ops [
 ⟨(some 5), none, .mov (.t 0)⟩,
 ⟨(some 6), none, .lenS (.t 5)⟩,
 ⟨(some 3), none, .mov (.t 6)⟩] [3])
 (.seq
 (.seq
 (.ops [
 ⟨(some 4), none, .mov (.c (.int .i64 1))⟩] [4])
 (.block 0
 (.loop
 (.seq
 (.seq
 (.ops [
 ⟨(some 7), none, .mov (.t 4)⟩,
 ⟨(some 8), none, .mov (.t 3)⟩,
 ⟨(some 9), none, .mov (.t 4)⟩,
 ⟨(some 10), none, .bin .sub .no (.t 8) (.t 9)⟩,
 ⟨(some 11), none, .bin .leq .no (.t 7) (.t 10)⟩] [11])
 (.cond (.t 11)
 .skip
 (.exit 0)))
 (.seq
 (.block 1
 (.seq
 (.ops [
 ⟨(some 14), none, .mov (.t 0)⟩,
 ⟨(some 15), none, .mov (.t 4)⟩,
 ⟨(some 16), none, .mov (.t 3)⟩,
 ⟨(some 17), none, .mov (.t 4)⟩,
 ⟨(some 18), none, .bin .sub .no (.t 16) (.t 17)⟩,
 ⟨(some 19), none, .mov (.t 3)⟩,
 ⟨(some 20), none, .buildS [(.int .i64 0)] 3 1 [(0, (.t 15)), (1, (.t 18)), (2, (.t 19))]⟩,
 ⟨(some 21), none, .call (.c (.fn (.func 59) [] [])) [(.t 14), (.t 20)]⟩] [21])
 (.cond (.t 21)
 (.seq
 (.ops [
 ⟨(some 2), none, .mov (.c (.bool false))⟩] [2])
 .ret)
 .skip)))
 (.ops [
 ⟨(some 12), none, .mov (.t 4)⟩,
 ⟨(some 13), none, .bin .add .no (.t 12) (.c (.int .i64 1))⟩,
 ⟨(some 4), none, .mov (.t 13)⟩] [4]))))))
 (.seq
 (.ops [
 ⟨(some 2), none, .mov (.c (.bool true))⟩] [2])
 .ret)))),
 [.tmp 2]⟩

/-- bellpull/paint.progression -/
noncomputable def sf50 : SFun := ⟨[0, 1, 4, 5, 6, 7, 12, 22, 30], 34,
 (.seq
 (.ops [
 ⟨(some 4), none, .mov (.c .nilsl)⟩] [4])
 (.seq
 (.ops [
 ⟨(some 8), none, .mov (.t 0)⟩,
 ⟨(some 9), none, .lenS (.t 8)⟩,
 ⟨(some 5), none, .mov (.t 9)⟩] [5])
 (.seq
 (.seq
 (.ops [
 ⟨(some 6), none, .mov (.c (.int .i64 1))⟩] [6])
 (.block 0
 (.loop
 (.seq
 (.seq
 (.ops [
 ⟨(some 10), none, .mov (.t 6)⟩,
 ⟨(some 11), none, .mov (.t 5)⟩,
 ⟨(some 12), none, .bin .leq .no (.t 10) (.t 11)⟩] [12])
 (.cond (.t 12)
 .skip
 (.exit 0)))
 (.seq
 (.block 1
 (.seq
 (.ops [
 ⟨(some 7), none, .mov (.c (.int .i64 1))⟩] [7])
 (.block 2
 (.loop
 (.seq
 (.seq
 (.ops [
 ⟨(some 15), none, .mov (.t 6)⟩,
 ⟨(some 16), none, .mov (.t 1)⟩,
 ⟨(some 17), none, .bin .sub .no (.t 16) (.c (.int .i64 1))⟩,
 ⟨(some 18), none, .mov (.t 7)⟩,
 ⟨(some 19), none, .bin .mul .no (.t 17) (.t 18)⟩,
 ⟨(some 20), none, .bin .add .no (.t 15) (.t 19)⟩,
 ⟨(some 21), none, .mov (.t 5)⟩,
 ⟨(some 22), none, .bin .leq .no (.t 20) (.t 21)⟩] [22])
 (.cond (.t 22)
 .skip
 (.exit 2)))
 (.seq
 (.block 3
 (.seq
 (.ops [
 ⟨(some 25), none, .mov (.t 0)⟩,
 ⟨(some 26), none, .mov (.t 6)⟩,
 ⟨(some 27), none, .mov (.t 7)⟩,
 ⟨(some 28), none, .mov (.t 1)⟩,
 ⟨(some 29), none, .call (.c (.fn (.func 63) [] [])) [(.t 26), (.t 27), (.t 28)]⟩,
 ⟨(some 30), none, .call (.c (.fn (.func 59) [] [])) [(.t 25), (.t 29)]⟩] [30])
 (.cond (.t 30)
 (.seq
 (.ops [
 ⟨(some 31), none, .mov (.t 6)⟩,
 ⟨(some 32), none, .mov (.t 7)⟩,
 ⟨(some 33), none, .buildS [(.int .i64 0)] 2 1 [(0, (.t 31)), (1, (.t 32))]⟩,
 ⟨(some 4), none, .mov (.t 33)⟩] [4])
 .ret)
 .skip)))
 (.ops [
 ⟨(some 23), none, .mov (.t 7)⟩,
 ⟨(some 24), none, .bin .add .no (.t 23) (.c (.int .i64 1))⟩,
 ⟨(some 7), none, .mov (.t 24)⟩] [7])))))))
 (.ops [
 ⟨(some 13), none, .mov (.t 6)⟩,
 ⟨(some 14), none, .bin .add .no (.t 13) (.c (.int .i64 1))⟩,
 ⟨(some 6), none, .mov (.t 14)⟩] [6]))))))
 (.seq
 (.ops [
 ⟨(some 4), none, .mov (.c .nilsl)⟩] [4])
 .ret)))),
 [.tmp 4]⟩

/-- bellpull/paint.Stepless$1 -/
noncomputable def sf51 : SFun := ⟨[0, 1, 3], 7,
 (.seq
 (.ops [
 ⟨(some 3), none, .mov (.c (.bool false))⟩] [3])
 (.seq
 (.ops [
 ⟨(some 4), none, .mov (.t 0)⟩,
 ⟨(some 5), none, .load none (.t 1)⟩,
 ⟨(some 6), none, .call (.c (.fn (.func 52) [] [])) [(.t 4), (.t 5)]⟩,
 ⟨(some 3), none, .mov (.t 6)⟩] [3])
 .ret)),
 [.tmp 3]⟩

/-- bellpull/paint.lastStepless -/
noncomputable def sf52 : SFun := ⟨[0, 1, 4, 5, 6, 14, 27], 28,
 (.seq
 (.ops [
 ⟨(some 4), none, .mov (.c (.bool false))⟩] [4])
 (.seq
 (.ops [
 ⟨(some 7), none, .mov (.t 0)⟩,
 ⟨(some 8), none, .lenS (.t 7)⟩,
 ⟨(some 5), none, .mov (.t 8)⟩] [5])
 (.seq
 (.seq
 (.ops [
 ⟨(some 6), none, .mov (.c (.int .i64 1))⟩] [6])
 (.block 0
 (.loop
 (.seq
 (.seq
 (.ops [
 ⟨(some 9), none, .mov (.t 1)⟩,
 ⟨(some 10), none, .bin .sub .no (.t 9) (.c (.int .i64 1))⟩,
 ⟨(some 11), none, .mov (.t 6)⟩,
 ⟨(some 12), none, .bin .mul .no (.t 10) (.t 11)⟩,
 ⟨(some 13), none, .mov (.t 5)⟩,
 ⟨(some 14), none, .bin .lss .no (.t 12) (.t 13)⟩] [14])
 (.cond (.t 14)
 .skip
 (.exit 0)))
 (.seq
 (.block 1
 (.seq
 (.ops [
 ⟨(some 17), none, .mov (.t 0)⟩,
 ⟨(some 18), none, .mov (.t 5)⟩,
 ⟨(some 19), none, .mov (.t 1)⟩,
 ⟨(some 20), none, .bin .sub .no (.t 19) (.c (.int .i64 1))⟩,
 ⟨(some 21), none, .mov (.t 6)⟩,
 ⟨(some 22), none, .bin .mul .no (.t 20) (.t 21)⟩,
 ⟨(some 23), none, .bin .sub .no (.t 18) (.t 22)⟩,
 ⟨(some 24), none, .mov (.t 6)⟩,
 ⟨(some 25), none, .mov (.t 1)⟩,
 ⟨(some 26), none, .call (.c (.fn (.func 63) [] [])) [(.t 23), (.t 24), (.t 25)]⟩,
 ⟨(some 27), none, .call (.c (.fn (.func 59) [] [])) [(.t 17), (.t 26)]⟩] [27])
 (.cond (.t 27)
 (.seq
 (.ops [
 ⟨(some 4), none, .mov (.c (.bool false))⟩] [4])
 .ret)
 .skip)))
 (.ops [
 ⟨(some 15), none, .mov (.t 6)⟩,
 ⟨(some 16), none, .bin .add .no (.t 15) (.c (.int .i64 1))⟩,
 ⟨(some 6), none, .mov (.t 16)⟩] [6]))))))
 (.seq
 (.ops [
 ⟨(some 4), none, .mov (.c (.bool true))⟩] [4])
 .ret)))),
 [.tmp 4]⟩

/-- (bellpull/paint.dots).growFrom -/
noncomputable def sf53 : SFun := ⟨[0, 1, 2, 3, 4, 5, 6, 12, 13, 14, 18, 24, 32, 45], 47,
 (.seq
 (.ops [
 ⟨(some 6), none, .box (.t 0)⟩,
 ⟨(some 12), none, .mov (.c .nilsl)⟩] [6, 12])
 (.seq
 (.seq
 (.ops [
 ⟨(some 15), none, .mov (.t 2)⟩,
 ⟨(some 16), none, .lenS (.t 15)⟩,
 ⟨(some 17), none, .mov (.t 5)⟩,
 ⟨(some 18), none, .bin .eql .no (.t 16) (.t 17)⟩] [18])
 (.cond (.t 18)
 (.seq
 (.ops [
 ⟨(some 19), none, .mov (.t 2)⟩,
 ⟨(some 20), none, .call (.c (.fn (.func 61) [] [])) [(.t 19)]⟩,
 ⟨(some 12), none, .mov (.t 20)⟩] [12])
 .ret)
 .skip))
 (.seq
 (.seq
 (.ops [
 ⟨(some 21), none, .mov (.t 1)⟩,
 ⟨(some 13), none, .mov (.t 21)⟩] [13])
 (.block 0
 (.loop
 (.seq
 (.seq
 (.ops [
 ⟨(some 22), none, .mov (.t 13)⟩,
 ⟨(some 23), none, .mov (.t 3)⟩,
 ⟨(some 24), none, .bin .lss .no (.t 22) (.t 23)⟩] [24])
 (.cond (.t 24)
 .skip
 (.exit 0)))
 (.seq
 (.block 1
 (.seq
 (.seq
 (.ops [
 ⟨(some 27), none, .load (some 2) (.t 6)⟩,
 ⟨(some 28), none, .mov (.t 13)⟩,
 ⟨(some 29), none, .mov (.t 2)⟩,
 ⟨(some 30), none, .mov (.t 4)⟩,
 ⟨(some 31), none, .call (.c (.fn (.func 64) [] [])) [(.t 27), (.t 28), (.t 29), (.t 30)]⟩,
 ⟨(some 32), none, .not (.t 31)⟩] [32])
 (.cond (.t 32)
 (.exit 1)
 .skip))
 (.seq
 (.draw [
 ⟨⟨(some 33), none, .load (some 2) (.t 6)⟩, true, false⟩,
 ⟨⟨(some 34), none, .mov (.t 13)⟩, false, false⟩,
 ⟨⟨(some 35), none, .bin .add .no (.t 34) (.c (.int .i64 1))⟩, false, false⟩,
 ⟨⟨(some 36), none, .mov (.t 2)⟩, false, false⟩,
 ⟨⟨(some 37), none, .mov (.t 13)⟩, false, false⟩,
 ⟨⟨(some 38), none, .buildS [(.int .i64 0)] 1 1 [(0, (.t 37))]⟩, false, true⟩,
 ⟨⟨(some 39), none, .app true 1 (.t 36) (.t 38)⟩, false, true⟩,
 ⟨⟨(some 40), none, .mov (.t 3)⟩, false, false⟩,
 ⟨⟨(some 41), none, .mov (.t 4)⟩, false, false⟩,
 ⟨⟨(some 42), none, .mov (.t 5)⟩, false, false⟩,
 ⟨⟨(some 43), none, .call (.c (.fn (.func 53) [] [])) [(.t 33), (.t 35), (.t 39), (.t 40), (.t 41), (.t 42)]⟩, false, true⟩,
 ⟨⟨(some 14), none, .mov (.t 43)⟩, false, false⟩] [0, 0, 2, 0, 0, 16, 56, 0, 0, 0, 1023, 2047] [14])
 (.seq
 (.ops [
 ⟨(some 44), none, .mov (.t 14)⟩,
 ⟨(some 45), none, .bin .neq .slice (.t 44) (.c .nilsl)⟩] [45])
 (.cond (.t 45)
 (.seq
 (.ops [
 ⟨(some 46), none, .mov (.t 14)⟩,
 ⟨(some 12), none, .mov (.t 46)⟩] [12])
 .ret)
 .skip)))))
 (.ops [
 ⟨(some 25), none, .mov (.t 13)⟩,
 ⟨(some 26), none, .bin .add .no (.t 25) (.c (.int .i64 1))⟩,
 ⟨(some 13), none, .mov (.t 26)⟩] [13]))))))
 (.seq
 (.ops [
 ⟨(some 12), none, .mov (.c .nilsl)⟩] [12])
 .ret)))),
 [.tmp 12]⟩

/-- bellpull/bellpullref01.Before -/
noncomputable def sf54 : SFun := ⟨[0, 1, 4, 5, 15, 26], 41,
 (.seq
 (.ops [
 ⟨(some 4), none, .mov (.c (.bool false))⟩] [4])
 (.seq
 (.seq
 (.ops [
 ⟨(some 5), none, .mov (.c (.int .i64 0))⟩] [5])
 (.block 0
 (.loop
 (.seq
 (.seq
 (.ops [
 ⟨(some 6), none, .mov (.t 5)⟩,
 ⟨(some 7), none, .mov (.t 0)⟩,
 ⟨(some 8), none, .lenS (.t 7)⟩,
 ⟨(some 9), none, .bin .lss .no (.t 6) (.t 8)⟩,
 ⟨(some 10), none, .mov (.t 9)⟩,
 ⟨(some 11), (some (10, true)), .mov (.t 5)⟩,
 ⟨(some 12), (some (10, true)), .mov (.t 1)⟩,
 ⟨(some 13), (some (10, true)), .lenS (.t 12)⟩,
 ⟨(some 14), (some (10, true)), .bin .lss .no (.t 11) (.t 13)⟩,
 ⟨(some 15), none, .pick (.t 10) (.t 14) (.c (.bool false))⟩] [15])
 (.cond (.t 15)
 .skip
 (.exit 0)))
 (.seq
 (.block 1
 (.seq
 (.ops [
 ⟨(some 18), none, .mov (.t 0)⟩,
 ⟨(some 19), none, .mov (.t 5)⟩,
 ⟨(some 20), none, .ixS 1 (.t 18) (.t 19)⟩,
 ⟨(some 21), none, .load none (.t 20)⟩,
 ⟨(some 22), none, .mov (.t 1)⟩,
 ⟨(some 23), none, .mov (.t 5)⟩,
 ⟨(some 24), none, .ixS 1 (.t 22) (.t 23)⟩,
 ⟨(some 25), none, .load none (.t 24)⟩,
 ⟨(some 26), none, .bin .neq .no (.t 21) (.t 25)⟩] [26])
 (.cond (.t 26)
 (.seq
 (.ops [
 ⟨(some 27), none, .mov (.t 0)⟩,
 ⟨(some 28), none, .mov (.t 5)⟩,
 ⟨(some 29), none, .ixS 1 (.t 27) (.t 28)⟩,
 ⟨(some 30), none, .load none (.t 29)⟩,
 ⟨(some 31), none, .mov (.t 1)⟩,
 ⟨(some 32), none, .mov (.t 5)⟩,
 ⟨(some 33), none, .ixS 1 (.t 31) (.t 32)⟩,
 ⟨(some 34), none, .load none (.t 33)⟩,
 ⟨(some 35), none, .bin .lss .no (.t 30) (.t 34)⟩,
 ⟨(some 4), none, .mov (.t 35)⟩] [4])
 .ret)
 .skip)))
 (.ops [
 ⟨(some 16), none, .mov (.t 5)⟩,
 ⟨(some 17), none, .bin .add .no (.t 16) (.c (.int .i64 1))⟩,
 ⟨(some 5), none, .mov (.t 17)⟩] [5]))))))
 (.seq
 (.ops [
 ⟨(some 36), none, .mov (.t 0)⟩,
 ⟨(some 37), none, .lenS (.t 36)⟩,
 ⟨(some 38), none, .mov (.t 1)⟩,
 ⟨(some 39), none, .lenS (.t 38)⟩,
 ⟨(some 40), none, .bin .lss .no (.t 37) (.t 39)⟩,
 ⟨(some 4), none, .mov (.t 40)⟩] [4])
 .ret))),
 [.tmp 4]⟩

/-- bellpull/paint.pairsOf -/
noncomputable def sf55 : SFun := ⟨[0, 2, 3, 4, 5, 6, 7, 8, 14], 25,
 (.seq
 (.ops [
 ⟨(some 2), none, .mov (.c .nilsl)⟩] [2])
 (.seq
 (.ops [
 ⟨(some 3), none, .mov (.c .nilsl)⟩] [3])
 (.seq
 (.seq
 (.ops [
 ⟨(some 6), none, .mov (.t 0)⟩,
 ⟨(some 7), none, .mov (.c (.int .i64 0))⟩] [6, 7])
 (.block 0
 (.loop
 (.seq
 (.ops [
 ⟨(some 8), none, .bin .lss .no (.t 7) (.t 6)⟩] [8])
 (.seq
 (.cond (.t 8)
 .skip
 (.exit 0))
 (.seq
 (.block 1
 (.seq
 (.ops [
 ⟨(some 9), none, .mov (.t 7)⟩,
 ⟨(some 4), none, .mov (.t 9)⟩] [4])
 (.seq
 (.ops [
 ⟨(some 10), none, .mov (.t 4)⟩,
 ⟨(some 11), none, .bin .add .no (.t 10) (.c (.int .i64 1))⟩,
 ⟨(some 5), none, .mov (.t 11)⟩] [5])
 (.block 2
 (.loop
 (.seq
 (.seq
 (.ops [
 ⟨(some 12), none, .mov (.t 5)⟩,
 ⟨(some 13), none, .mov (.t 0)⟩,
 ⟨(some 14), none, .bin .lss .no (.t 12) (.t 13)⟩] [14])
 (.cond (.t 14)
 .skip
 (.exit 2)))
 (.seq
 (.block 3
 (.ops [
 ⟨(some 17), none, .mov (.t 3)⟩,
 ⟨(some 18), none, .mov (.t 4)⟩,
 ⟨(some 19), none, .mov (.t 5)⟩,
 ⟨(some 20), none, .build [(.int .i64 0), (.int .i64 0)] [(0, 1), (1, 1)] [(0, (.t 18)), (1, (.t 19))]⟩,
 ⟨(some 21), none, .buildS [(.int .i64 0), (.int .i64 0)] 1 2 [(0, (.t 20))]⟩,
 ⟨(some 22), none, .app true 2 (.t 17) (.t 21)⟩,
 ⟨(some 3), none, .mov (.t 22)⟩] [3]))
 (.ops [
 ⟨(some 15), none, .mov (.t 5)⟩,
 ⟨(some 16), none, .bin .add .no (.t 15) (.c (.int .i64 1))⟩,
 ⟨(some 5), none, .mov (.t 16)⟩] [5]))))))))
 (.ops [
 ⟨(some 23), none, .bin .add .no (.t 7) (.c (.int .i64 1))⟩,
 ⟨(some 7), none, .mov (.t 23)⟩] [7])))))))
 (.seq
 (.ops [
 ⟨(some 24), none, .mov (.t 3)⟩,
 ⟨(some 2), none, .mov (.t 24)⟩] [2])
 .ret)))),
 [.tmp 2]⟩

/-- bellpull/paint.cliqueless$1 -/
noncomputable def sf56 : SFun := ⟨[0, 1, 2, 3, 4, 6, 7, 8, 9, 10, 20], 40,
 (.seq
 (.ops [
 ⟨(some 6), none, .mov (.c (.bool false))⟩] [6])
 (.seq
 (.ops [
 ⟨(some 11), none, .mov (.t 0)⟩,
 ⟨(some 12), none, .lenS (.t 11)⟩,
 ⟨(some 13), none, .bin .sub .no (.t 12) (.c (.int .i64 1))⟩,
 ⟨(some 7), none, .mov (.t 13)⟩] [7])
 (.seq
 (.ops [
 ⟨(some 14), none, .mov (.t 0)⟩,
 ⟨(some 15), none, .mov (.t 7)⟩,
 ⟨(some 16), none, .ixS 1 (.t 14) (.t 15)⟩,
 ⟨(some 17), none, .load none (.t 16)⟩,
 ⟨(some 18), none, .load none (.t 1)⟩,
 ⟨(some 8), none, .mov (.t 17)⟩,
 ⟨(some 9), none, .mov (.t 18)⟩] [8, 9])
 (.seq
 (.seq
 (.ops [
 ⟨(some 19), none, .mov (.t 8)⟩,
 ⟨(some 20), none, .bin .eql .no (.t 19) (.c (.int .i64 1))⟩] [20])
 (.cond (.t 20)
 (.ops [
 ⟨(some 21), none, .load none (.t 2)⟩,
 ⟨(some 9), none, .mov (.t 21)⟩] [9])
 .skip))
 (.seq
 (.ops [
 ⟨(some 22), none, .load none (.t 3)⟩,
 ⟨(some 23), none, .mov (.t 7)⟩,
 ⟨(some 24), none, .ixS 2 (.t 22) (.t 23)⟩,
 ⟨(some 25), none, .load (some 2) (.t 24)⟩,
 ⟨(some 10), none, .new [(.int .i64 0), (.int .i64 0)]⟩,
 ⟨none, none, .store 2 (.t 10) (.t 25)⟩] [10])
 (.seq
 (.ops [
 ⟨(some 26), none, .load none (.t 4)⟩,
 ⟨(some 27), none, .mov (.t 0)⟩,
 ⟨(some 28), none, .build [(.int .i64 0), .nilsl] [(0, 1), (1, 1)] [(0, (.t 26)), (1, (.t 27))]⟩,
 ⟨(some 29), none, .fa 0 (.t 10)⟩,
 ⟨(some 30), none, .load none (.t 29)⟩,
 ⟨(some 31), none, .fa 1 (.t 10)⟩,
 ⟨(some 32), none, .load none (.t 31)⟩,
 ⟨(some 33), none, .buildS [(.int .i64 0)] 2 1 [(0, (.t 30)), (1, (.t 32))]⟩,
 ⟨(some 34), none, .fa 0 (.t 10)⟩,
 ⟨(some 35), none, .load none (.t 34)⟩,
 ⟨(some 36), none, .mov (.t 8)⟩,
 ⟨(some 37), none, .mov (.t 9)⟩,
 ⟨(some 38), none, .call (.c (.fn (.func 41) [] [])) [(.t 28), (.t 33), (.t 35), (.t 36), (.t 37)]⟩,
 ⟨(some 39), none, .bin .eql .slice (.t 38) (.c .nilsl)⟩,
 ⟨(some 6), none, .mov (.t 39)⟩] [6])
 .ret)))))),
 [.tmp 6]⟩

/-- bellpull/bellpullref01.known -/
noncomputable def sf57 : SFun := ⟨[0, 1, 2, 3, 4, 10, 11], 32,
 (.seq
 (.ops [
 ⟨(some 10), none, .mov (.c (.bool false))⟩] [10])
 (.seq
 (.ops [
 ⟨(some 12), none, .mov (.t 0)⟩,
 ⟨(some 13), none, .mov (.t 2)⟩,
 ⟨(some 14), none, .mov (.t 3)⟩,
 ⟨(some 15), none, .mn (.t 13) (.t 14)⟩,
 ⟨(some 16), none, .mov (.t 2)⟩,
 ⟨(some 17), none, .mov (.t 3)⟩,
 ⟨(some 18), none, .mx (.t 16) (.t 17)⟩,
 ⟨(some 19), none, .call (.c (.fn (.func 36) [] [])) [(.t 12), (.t 15), (.t 18)]⟩,
 ⟨(some 11), none, .mov (.t 19)⟩] [11])
 (.seq
 (.ops [
 ⟨(some 20), none, .mov (.t 11)⟩,
 ⟨(some 21), none, .mov (.t 1)⟩,
 ⟨(some 22), none, .lenS (.t 21)⟩,
 ⟨(some 23), none, .bin .lss .no (.t 20) (.t 22)⟩,
 ⟨(some 24), none, .mov (.t 23)⟩,
 ⟨(some 25), (some (24, true)), .mov (.t 1)⟩,
 ⟨(some 26), (some (24, true)), .mov (.t 11)⟩,
 ⟨(some 27), (some (24, true)), .ixS 1 (.t 25) (.t 26)⟩,
 ⟨(some 28), (some (24, true)), .load none (.t 27)⟩,
 ⟨(some 29), (some (24, true)), .mov (.t 4)⟩,
 ⟨(some 30), (some (24, true)), .bin .eql .no (.t 28) (.t 29)⟩,
 ⟨(some 31), none, .pick (.t 24) (.t 30) (.c (.bool false))⟩,
 ⟨(some 10), none, .mov (.t 31)⟩] [10])
 .ret))),
 [.tmp 10]⟩

/-- bellpull/bellpullref01.within -/
noncomputable def sf58 : SFun := ⟨[0, 1, 2, 3, 4, 10, 11, 12, 13, 15, 19, 28, 42, 56], 57,
 (.seq
 (.ops [
 ⟨(some 10), none, .mov (.c (.bool false))⟩] [10])
 (.seq
 (.seq
 (.ops [
 ⟨(some 14), none, .mov (.t 4)⟩,
 ⟨(some 15), none, .bin .leq .no (.t 14) (.c (.int .i64 0))⟩] [15])
 (.cond (.t 15)
 (.seq
 (.ops [
 ⟨(some 10), none, .mov (.c (.bool true))⟩] [10])
 .ret)
 .skip))
 (.seq
 (.seq
 (.ops [
 ⟨(some 11), none, .mov (.c (.int .i64 0))⟩] [11])
 (.block 0
 (.loop
 (.seq
 (.seq
 (.ops [
 ⟨(some 16), none, .mov (.t 11)⟩,
 ⟨(some 17), none, .mov (.t 3)⟩,
 ⟨(some 18), none, .lenS (.t 17)⟩,
 ⟨(some 19), none, .bin .lss .no (.t 16) (.t 18)⟩] [19])
 (.cond (.t 19)
 .skip
 (.exit 0)))
 (.seq
 (.block 1
 (.seq
 (.ops [
 ⟨(some 22), none, .buildS [(.int .i64 0)] 0 1 []⟩,
 ⟨(some 12), none, .mov (.t 22)⟩] [12])
 (.seq
 (.seq
 (.ops [
 ⟨(some 23), none, .mov (.t 11)⟩,
 ⟨(some 24), none, .bin .add .no (.t 23) (.c (.int .i64 1))⟩,
 ⟨(some 13), none, .mov (.t 24)⟩] [13])
 (.block 2
 (.loop
 (.seq
 (.seq
 (.ops [
 ⟨(some 25), none, .mov (.t 13)⟩,
 ⟨(some 26), none, .mov (.t 3)⟩,
 ⟨(some 27), none, .lenS (.t 26)⟩,
 ⟨(some 28), none, .bin .lss .no (.t 25) (.t 27)⟩] [28])
 (.cond (.t 28)
 .skip
 (.exit 2)))
 (.seq
 (.block 3
 (.seq
 (.draw [
 ⟨⟨(some 31), none, .mov (.t 0)⟩, false, false⟩,
 ⟨⟨(some 32), none, .mov (.t 1)⟩, false, false⟩,
 ⟨⟨(some 33), none, .mov (.t 3)⟩, false, false⟩,
 ⟨⟨(some 34), none, .mov (.t 11)⟩, false, false⟩,
 ⟨⟨(some 35), none, .ixS 1 (.t 33) (.t 34)⟩, false, false⟩,
 ⟨⟨(some 36), none, .load none (.t 35)⟩, true, false⟩,
 ⟨⟨(some 37), none, .mov (.t 3)⟩, false, false⟩,
 ⟨⟨(some 38), none, .mov (.t 13)⟩, false, false⟩,
 ⟨⟨(some 39), none, .ixS 1 (.t 37) (.t 38)⟩, false, false⟩,
 ⟨⟨(some 40), none, .load none (.t 39)⟩, true, false⟩,
 ⟨⟨(some 41), none, .mov (.t 2)⟩, false, false⟩,
 ⟨⟨(some 42), none, .call (.c (.fn (.func 57) [] [])) [(.t 31), (.t 32), (.t 36), (.t 40), (.t 41)]⟩, false, true⟩] [0, 0, 0, 0, 12, 28, 0, 0, 192, 448, 0, 2047] [42])
 (.cond (.t 42)
 (.ops [
 ⟨(some 43), none, .mov (.t 12)⟩,
 ⟨(some 44), none, .mov (.t 3)⟩,
 ⟨(some 45), none, .mov (.t 13)⟩,
 ⟨(some 46), none, .ixS 1 (.t 44) (.t 45)⟩,
 ⟨(some 47), none, .load none (.t 46)⟩,
 ⟨(some 48), none, .buildS [(.int .i64 0)] 1 1 [(0, (.t 47))]⟩,
 ⟨(some 49), none, .app true 1 (.t 43) (.t 48)⟩,
 ⟨(some 12), none, .mov (.t 49)⟩] [12])
 .skip)))
 (.ops [
 ⟨(some 29), none, .mov (.t 13)⟩,
 ⟨(some 30), none, .bin .add .no (.t 29) (.c (.int .i64 1))⟩,
 ⟨(some 13), none, .mov (.t 30)⟩] [13]))))))
 (.seq
 (.ops [
 ⟨(some 50), none, .mov (.t 0)⟩,
 ⟨(some 51), none, .mov (.t 1)⟩,
 ⟨(some 52), none, .mov (.t 2)⟩,
 ⟨(some 53), none, .mov (.t 12)⟩,
 ⟨(some 54), none, .mov (.t 4)⟩,
 ⟨(some 55), none, .bin .sub .no (.t 54) (.c (.int .i64 1))⟩,
 ⟨(some 56), none, .call (.c (.fn (.func 58) [] [])) [(.t 50), (.t 51), (.t 52), (.t 53), (.t 55)]⟩] [56])
 (.cond (.t 56)
 (.seq
 (.ops [
 ⟨(some 10), none, .mov (.c (.bool true))⟩] [10])
 .ret)
 .skip)))))
 (.ops [
 ⟨(some 20), none, .mov (.t 11)⟩,
 ⟨(some 21), none, .bin .add .no (.t 20) (.c (.int .i64 1))⟩,
 ⟨(some 11), none, .mov (.t 21)⟩] [11]))))))
 (.seq
 (.ops [
 ⟨(some 10), none, .mov (.c (.bool false))⟩] [10])
 .ret)))),
 [.tmp 10]⟩

/-- bellpull/paint.same -/
noncomputable def sf59 : SFun := ⟨[0, 1, 4, 6, 7, 8, 9, 10, 25], 27,
 (.seq
 (.ops [
 ⟨(some 4), none, .mov (.c (.bool false))⟩] [4])
 (.seq
 (.seq
 (.ops [
 ⟨(some 7), none, .mov (.t 1)⟩,
 ⟨(some 8), none, .lenS (.t 7)⟩,
 ⟨(some 9), none, .mov (.c (.int .i64 0))⟩] [7, 8, 9])
 (.block 0
 (.loop
 (.seq
 (.ops [
 ⟨(some 10), none, .bin .lss .no (.t 9) (.t 8)⟩] [10])
 (.seq
 (.cond (.t 10)
 .skip
 (.exit 0))
 (.seq
 (.block 1
 (.seq
 (.ops [
 ⟨(some 11), none, .ixS 1 (.t 7) (.t 9)⟩,
 ⟨(some 12), none, .load none (.t 11)⟩,
 ⟨(some 6), none, .mov (.t 12)⟩] [6])
 (.seq
 (.ops [
 ⟨(some 13), none, .mov (.t 0)⟩,
 ⟨(some 14), none, .mov (.t 6)⟩,
 ⟨(some 15), none, .bin .sub .no (.t 14) (.c (.int .i64 1))⟩,
 ⟨(some 16), none, .ixS 1 (.t 13) (.t 15)⟩,
 ⟨(some 17), none, .load none (.t 16)⟩,
 ⟨(some 18), none, .mov (.t 0)⟩,
 ⟨(some 19), none, .mov (.t 1)⟩,
 ⟨(some 20), none, .ixS 1 (.t 19) (.c (.int .i64 0))⟩,
 ⟨(some 21), none, .load none (.t 20)⟩,
 ⟨(some 22), none, .bin .sub .no (.t 21) (.c (.int .i64 1))⟩,
 ⟨(some 23), none, .ixS 1 (.t 18) (.t 22)⟩,
 ⟨(some 24), none, .load none (.t 23)⟩,
 ⟨(some 25), none, .bin .neq .no (.t 17) (.t 24)⟩] [25])
 (.cond (.t 25)
 (.seq
 (.ops [
 ⟨(some 4), none, .mov (.c (.bool false))⟩] [4])
 .ret)
 .skip))))
 (.ops [
 ⟨(some 26), none, .bin .add .no (.t 9) (.c (.int .i64 1))⟩,
 ⟨(some 9), none, .mov (.t 26)⟩] [9])))))))
 (.seq
 (.ops [
 ⟨(some 4), none, .mov (.c (.bool true))⟩] [4])
 .ret))),
 [.tmp 4]⟩

/-- bellpull/paint.colorings$1 -/
noncomputable def sf60 : SFun := ⟨[0, 1, 2, 3, 4, 5, 8, 9, 10, 14, 19, 20, 21, 36], 38,
 (.seq
 (.ops [
 ⟨(some 8), none, .mov (.c (.bool false))⟩] [8])
 (.seq
 (.seq
 (.ops [
 ⟨(some 11), none, .mov (.t 0)⟩,
 ⟨(some 12), none, .lenS (.t 11)⟩,
 ⟨(some 13), none, .load none (.t 2)⟩,
 ⟨(some 14), none, .bin .eql .no (.t 12) (.t 13)⟩] [14])
 (.cond (.t 14)
 (.seq
 (.ops [
 ⟨(some 15), none, .mov (.t 1)⟩,
 ⟨(some 16), none, .mov (.t 0)⟩,
 ⟨(some 17), none, .call (.c (.fn (.func 61) [] [])) [(.t 16)]⟩,
 ⟨(some 18), none, .call (.t 15) [(.t 17)]⟩,
 ⟨(some 8), none, .mov (.t 18)⟩] [8])
 .ret)
 .skip))
 (.seq
 (.seq
 (.ops [
 ⟨(some 19), none, .load none (.t 3)⟩,
 ⟨(some 20), none, .mov (.c (.int .i64 0))⟩] [19, 20])
 (.block 0
 (.loop
 (.seq
 (.ops [
 ⟨(some 21), none, .bin .lss .no (.t 20) (.t 19)⟩] [21])
 (.seq
 (.cond (.t 21)
 .skip
 (.exit 0))
 (.seq
 (.block 1
 (.seq
 (.ops [
 ⟨(some 22), none, .mov (.t 20)⟩,
 ⟨(some 9), none, .mov (.t 22)⟩] [9])
 (.seq
 (.ops [
 ⟨(some 23), none, .mov (.t 0)⟩,
 ⟨(some 24), none, .mov (.t 9)⟩,
 ⟨(some 25), none, .buildS [(.int .i64 0)] 1 1 [(0, (.t 24))]⟩,
 ⟨(some 26), none, .app true 1 (.t 23) (.t 25)⟩,
 ⟨(some 10), none, .mov (.t 26)⟩] [10])
 (.seq
 (.ops [
 ⟨(some 27), none, .load none (.t 4)⟩,
 ⟨(some 28), none, .mov (.t 10)⟩,
 ⟨(some 29), none, .call (.t 27) [(.t 28)]⟩,
 ⟨(some 30), none, .mov (.t 29)⟩,
 ⟨(some 31), (some (30, true)), .load none (.t 5)⟩,
 ⟨(some 32), (some (30, true)), .mov (.t 10)⟩,
 ⟨(some 33), (some (30, true)), .mov (.t 1)⟩,
 ⟨(some 34), (some (30, true)), .call (.t 31) [(.t 32), (.t 33)]⟩,
 ⟨(some 35), (some (30, true)), .not (.t 34)⟩,
 ⟨(some 36), none, .pick (.t 30) (.t 35) (.c (.bool false))⟩] [36])
 (.cond (.t 36)
 (.seq
 (.ops [
 ⟨(some 8), none, .mov (.c (.bool false))⟩] [8])
 .ret)
 .skip)))))
 (.ops [
 ⟨(some 37), none, .bin .add .no (.t 20) (.c (.int .i64 1))⟩,
 ⟨(some 20), none, .mov (.t 37)⟩] [20])))))))
 (.seq
 (.ops [
 ⟨(some 8), none, .mov (.c (.bool true))⟩] [8])
 .ret)))),
 [.tmp 8]⟩

/-- slices.Clone[[]int,int] -/
noncomputable def sf61 : SFun := ⟨[0, 2, 4], 8,
 (.seq
 (.ops [
 ⟨(some 2), none, .mov (.c .nilsl)⟩] [2])
 (.seq
 (.seq
 (.ops [
 ⟨(some 3), none, .mov (.t 0)⟩,
 ⟨(some 4), none, .bin .eql .slice (.t 3) (.c .nilsl)⟩] [4])
 (.cond (.t 4)
 (.seq
 (.ops [
 ⟨(some 2), none, .mov (.c .nilsl)⟩] [2])
 .ret)
 .skip))
 (.seq
 (.ops [
 ⟨(some 5), none, .buildS [(.int .i64 0)] 0 1 []⟩,
 ⟨(some 6), none, .mov (.t 0)⟩,
 ⟨(some 7), none, .app true 1 (.t 5) (.t 6)⟩,
 ⟨(some 2), none, .mov (.t 7)⟩] [2])
 .ret))),
 [.tmp 2]⟩

/-- bellpull/paint.colorings$2 -/
noncomputable def sf62 : SFun := ⟨[0, 1, 2], 9,
 (.draw [
 ⟨⟨(some 4), none, .load none (.t 1)⟩, true, false⟩,
 ⟨⟨(some 5), none, .load none (.t 2)⟩, true, false⟩,
 ⟨⟨(some 6), none, .mks [(.int .i64 0)] 1 (.c (.int .i64 0)) (.t 5)⟩, false, true⟩,
 ⟨⟨(some 7), none, .mov (.t 0)⟩, false, false⟩,
 ⟨⟨(some 8), none, .call (.t 4) [(.t 6), (.t 7)]⟩, false, true⟩] [0, 0, 2, 0, 15] []),
 []⟩

/-- bellpull/paint.terms -/
noncomputable def sf63 : SFun := ⟨[0, 1, 2, 6, 7, 8, 11, 12, 13], 25,
 (.seq
 (.ops [
 ⟨(some 6), none, .mov (.c .nilsl)⟩] [6])
 (.seq
 (.ops [
 ⟨(some 9), none, .mov (.t 2)⟩,
 ⟨(some 10), none, .mks [(.int .i64 0)] 1 (.t 9) (.t 9)⟩,
 ⟨(some 7), none, .mov (.t 10)⟩] [7])
 (.seq
 (.seq
 (.ops [
 ⟨(some 11), none, .mov (.t 2)⟩,
 ⟨(some 12), none, .mov (.c (.int .i64 0))⟩] [11, 12])
 (.block 0
 (.loop
 (.seq
 (.ops [
 ⟨(some 13), none, .bin .lss .no (.t 12) (.t 11)⟩] [13])
 (.seq
 (.cond (.t 13)
 .skip
 (.exit 0))
 (.seq
 (.block 1
 (.seq
 (.ops [
 ⟨(some 14), none, .mov (.t 12)⟩,
 ⟨(some 8), none, .mov (.t 14)⟩] [8])
 (.ops [
 ⟨(some 15), none, .mov (.t 7)⟩,
 ⟨(some 16), none, .mov (.t 8)⟩,
 ⟨(some 17), none, .mov (.t 0)⟩,
 ⟨(some 18), none, .mov (.t 8)⟩,
 ⟨(some 19), none, .mov (.t 1)⟩,
 ⟨(some 20), none, .bin .mul .no (.t 18) (.t 19)⟩,
 ⟨(some 21), none, .bin .add .no (.t 17) (.t 20)⟩,
 ⟨(some 22), none, .ixS 1 (.t 15) (.t 16)⟩,
 ⟨none, none, .store 1 (.t 22) (.t 21)⟩] [])))
 (.ops [
 ⟨(some 23), none, .bin .add .no (.t 12) (.c (.int .i64 1))⟩,
 ⟨(some 12), none, .mov (.t 23)⟩] [12])))))))
 (.seq
 (.ops [
 ⟨(some 24), none, .mov (.t 7)⟩,
 ⟨(some 6), none, .mov (.t 24)⟩] [6])
 .ret)))),
 [.tmp 6]⟩

/-- (bellpull/paint.dots).joins -/
noncomputable def sf64 : SFun := ⟨[0, 1, 2, 3, 4, 8, 10, 11, 12, 13, 14, 22], 24,
 (.seq
 (.ops [
 ⟨(some 4), none, .box (.t 0)⟩,
 ⟨(some 8), none, .mov (.c (.bool false))⟩] [4, 8])
 (.seq
 (.seq
 (.ops [
 ⟨(some 11), none, .mov (.t 2)⟩,
 ⟨(some 12), none, .lenS (.t 11)⟩,
 ⟨(some 13), none, .mov (.c (.int .i64 0))⟩] [11, 12, 13])
 (.block 0
 (.loop
 (.seq
 (.ops [
 ⟨(some 14), none, .bin .lss .no (.t 13) (.t 12)⟩] [14])
 (.seq
 (.cond (.t 14)
 .skip
 (.exit 0))
 (.seq
 (.block 1
 (.seq
 (.ops [
 ⟨(some 15), none, .ixS 1 (.t 11) (.t 13)⟩,
 ⟨(some 16), none, .load none (.t 15)⟩,
 ⟨(some 10), none, .mov (.t 16)⟩] [10])
 (.seq
 (.ops [
 ⟨(some 17), none, .load (some 2) (.t 4)⟩,
 ⟨(some 18), none, .mov (.t 1)⟩,
 ⟨(some 19), none, .mov (.t 10)⟩,
 ⟨(some 20), none, .call (.c (.fn (.func 65) [] [])) [(.t 17), (.t 18), (.t 19)]⟩,
 ⟨(some 21), none, .mov (.t 3)⟩,
 ⟨(some 22), none, .bin .neq .no (.t 20) (.t 21)⟩] [22])
 (.cond (.t 22)
 (.seq
 (.ops [
 ⟨(some 8), none, .mov (.c (.bool false))⟩] [8])
 .ret)
 .skip))))
 (.ops [
 ⟨(some 23), none, .bin .add .no (.t 13) (.c (.int .i64 1))⟩,
 ⟨(some 13), none, .mov (.t 23)⟩] [13])))))))
 (.seq
 (.ops [
 ⟨(some 8), none, .mov (.c (.bool true))⟩] [8])
 .ret))),
 [.tmp 8]⟩

/-- (bellpull/paint.dots).color -/
noncomputable def sf65 : SFun := ⟨[0, 1, 2, 3, 6, 7, 8, 9], 35,
 (.seq
 (.ops [
 ⟨(some 3), none, .box (.t 0)⟩,
 ⟨(some 6), none, .mov (.c (.int .i64 0))⟩] [3, 6])
 (.seq
 (.ops [
 ⟨(some 10), none, .mov (.t 1)⟩,
 ⟨(some 11), none, .mov (.t 2)⟩,
 ⟨(some 12), none, .mn (.t 10) (.t 11)⟩,
 ⟨(some 13), none, .mov (.t 1)⟩,
 ⟨(some 14), none, .mov (.t 2)⟩,
 ⟨(some 15), none, .mx (.t 13) (.t 14)⟩,
 ⟨(some 7), none, .mov (.t 12)⟩,
 ⟨(some 8), none, .mov (.t 15)⟩] [7, 8])
 (.seq
 (.ops [
 ⟨(some 16), none, .mov (.t 7)⟩,
 ⟨(some 17), none, .fa 0 (.t 3)⟩,
 ⟨(some 18), none, .load none (.t 17)⟩,
 ⟨(some 19), none, .bin .mul .no (.c (.int .i64 2)) (.t 18)⟩,
 ⟨(some 20), none, .mov (.t 7)⟩,
 ⟨(some 21), none, .bin .sub .no (.t 19) (.t 20)⟩,
 ⟨(some 22), none, .bin .sub .no (.t 21) (.c (.int .i64 1))⟩,
 ⟨(some 23), none, .bin .mul .no (.t 16) (.t 22)⟩,
 ⟨(some 24), none, .bin .quo .no (.t 23) (.c (.int .i64 2))⟩,
 ⟨(some 9), none, .mov (.t 24)⟩] [9])
 (.seq
 (.ops [
 ⟨(some 25), none, .fa 1 (.t 3)⟩,
 ⟨(some 26), none, .load none (.t 25)⟩,
 ⟨(some 27), none, .mov (.t 9)⟩,
 ⟨(some 28), none, .mov (.t 8)⟩,
 ⟨(some 29), none, .bin .add .no (.t 27) (.t 28)⟩,
 ⟨(some 30), none, .mov (.t 7)⟩,
 ⟨(some 31), none, .bin .sub .no (.t 29) (.t 30)⟩,
 ⟨(some 32), none, .bin .sub .no (.t 31) (.c (.int .i64 1))⟩,
 ⟨(some 33), none, .ixS 1 (.t 26) (.t 32)⟩,
 ⟨(some 34), none, .load none (.t 33)⟩,
 ⟨(some 6), none, .mov (.t 34)⟩] [6])
 .ret)))),
 [.tmp 6]⟩


end Go.Proofs.Ytpclkcamfainiaa
