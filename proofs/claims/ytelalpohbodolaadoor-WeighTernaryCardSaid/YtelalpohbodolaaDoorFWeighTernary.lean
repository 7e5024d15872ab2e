/- The law WeighTernary, compiled. -/
import Derived.Test.YtelalpohbodolaaDoorRows
import Derived.Test.YtelalpohbodolaaDoorSA
import Derived.KernelRfl
set_option linter.unusedVariables false
set_option maxRecDepth 100000
namespace Go.Proofs.YtelalpohbodolaaDoor
open Go Go.Abs
/-- bellpull/bellpulllaw08.WeighTernary -/
noncomputable def sf12 : SFun := ⟨[0, 1, 4, 5, 6, 7, 8, 9, 10, 11, 12, 13, 14, 15, 16, 18, 26, 53, 59], 89,
 (.seq
 (.ops [
 ⟨(some 4), none, .mov (.c (.bool false))⟩] [4])
 (.seq
 (.ops [
 ⟨(some 19), none, .mov (.t 0)⟩,
 ⟨(some 20), none, .conv .i64 (.t 19)⟩,
 ⟨(some 21), none, .bin .rem .no (.t 20) (.c (.int .i64 9))⟩,
 ⟨(some 22), none, .bin .add .no (.t 21) (.c (.int .i64 1))⟩,
 ⟨(some 23), none, .buildS [(.int .i64 0)] 0 1 []⟩,
 ⟨(some 5), none, .mov (.t 22)⟩,
 ⟨(some 6), none, .mov (.t 23)⟩,
 ⟨(some 7), none, .mov (.c (.int .i64 0))⟩,
 ⟨(some 8), none, .mov (.c (.int .i64 1))⟩] [5, 6, 7, 8])
 (.seq
 (.seq
 (.ops [
 ⟨(some 9), none, .mov (.c (.int .i64 0))⟩] [9])
 (.block 0
 (.loop
 (.seq
 (.seq
 (.ops [
 ⟨(some 24), none, .mov (.t 9)⟩,
 ⟨(some 25), none, .mov (.t 5)⟩,
 ⟨(some 26), none, .bin .lss .no (.t 24) (.t 25)⟩] [26])
 (.cond (.t 26)
 .skip
 (.exit 0)))
 (.seq
 (.block 1
 (.seq
 (.ops [
 ⟨(some 29), none, .mov (.t 6)⟩,
 ⟨(some 30), none, .mov (.t 8)⟩,
 ⟨(some 31), none, .buildS [(.int .i64 0)] 1 1 [(0, (.t 30))]⟩,
 ⟨(some 32), none, .app true 1 (.t 29) (.t 31)⟩,
 ⟨(some 6), none, .mov (.t 32)⟩] [6])
 (.seq
 (.ops [
 ⟨(some 33), none, .mov (.t 7)⟩,
 ⟨(some 34), none, .mov (.t 8)⟩,
 ⟨(some 35), none, .bin .add .no (.t 33) (.t 34)⟩,
 ⟨(some 7), none, .mov (.t 35)⟩] [7])
 (.ops [
 ⟨(some 36), none, .mov (.t 8)⟩,
 ⟨(some 37), none, .bin .mul .no (.t 36) (.c (.int .i64 3))⟩,
 ⟨(some 8), none, .mov (.t 37)⟩] [8]))))
 (.ops [
 ⟨(some 27), none, .mov (.t 9)⟩,
 ⟨(some 28), none, .bin .add .no (.t 27) (.c (.int .i64 1))⟩,
 ⟨(some 9), none, .mov (.t 28)⟩] [9]))))))
 (.seq
 (.ops [
 ⟨(some 38), none, .mov (.t 1)⟩,
 ⟨(some 39), none, .conv .i64 (.t 38)⟩,
 ⟨(some 40), none, .mov (.t 7)⟩,
 ⟨(some 41), none, .bin .add .no (.t 40) (.c (.int .i64 1))⟩,
 ⟨(some 42), none, .bin .rem .no (.t 39) (.t 41)⟩,
 ⟨(some 10), none, .mov (.t 42)⟩] [10])
 (.seq
 (.ops [
 ⟨(some 44), none, .mov (.t 6)⟩,
 ⟨(some 45), none, .mov (.t 10)⟩,
 ⟨(some 46), none, .call (.c (.fn (.func 23) [] [])) [(.t 44), (.t 45)]⟩,
 ⟨(some 43), none, .mov (.t 46)⟩,
 ⟨(some 47), none, .ext (.t 43) 0⟩,
 ⟨(some 48), none, .ext (.t 43) 1⟩,
 ⟨(some 11), none, .mov (.t 47)⟩,
 ⟨(some 12), none, .mov (.t 48)⟩] [11, 12])
 (.seq
 (.ops [
 ⟨(some 49), none, .buildS [(.int .i64 0)] 0 1 []⟩,
 ⟨(some 50), none, .mov (.t 10)⟩,
 ⟨(some 13), none, .mov (.t 49)⟩,
 ⟨(some 14), none, .mov (.t 50)⟩] [13, 14])
 (.seq
 (.seq
 (.ops [
 ⟨(some 15), none, .mov (.c (.int .i64 0))⟩] [15])
 (.block 2
 (.loop
 (.seq
 (.seq
 (.ops [
 ⟨(some 51), none, .mov (.t 15)⟩,
 ⟨(some 52), none, .mov (.t 5)⟩,
 ⟨(some 53), none, .bin .lss .no (.t 51) (.t 52)⟩] [53])
 (.cond (.t 53)
 .skip
 (.exit 2)))
 (.seq
 (.block 3
 (.seq
 (.ops [
 ⟨(some 56), none, .mov (.t 14)⟩,
 ⟨(some 57), none, .bin .rem .no (.t 56) (.c (.int .i64 3))⟩,
 ⟨(some 16), none, .mov (.t 57)⟩] [16])
 (.seq
 (.seq
 (.ops [
 ⟨(some 58), none, .mov (.t 16)⟩,
 ⟨(some 59), none, .bin .eql .no (.t 58) (.c (.int .i64 2))⟩] [59])
 (.cond (.t 59)
 (.ops [
 ⟨(some 16), none, .mov (.c (.int .i64 (-1)))⟩] [16])
 .skip))
 (.seq
 (.ops [
 ⟨(some 60), none, .mov (.t 13)⟩,
 ⟨(some 61), none, .mov (.t 16)⟩,
 ⟨(some 62), none, .buildS [(.int .i64 0)] 1 1 [(0, (.t 61))]⟩,
 ⟨(some 63), none, .app true 1 (.t 60) (.t 62)⟩,
 ⟨(some 13), none, .mov (.t 63)⟩] [13])
 (.ops [
 ⟨(some 64), none, .mov (.t 14)⟩,
 ⟨(some 65), none, .mov (.t 16)⟩,
 ⟨(some 66), none, .bin .sub .no (.t 64) (.t 65)⟩,
 ⟨(some 67), none, .bin .quo .no (.t 66) (.c (.int .i64 3))⟩,
 ⟨(some 14), none, .mov (.t 67)⟩] [14])))))
 (.ops [
 ⟨(some 54), none, .mov (.t 15)⟩,
 ⟨(some 55), none, .bin .add .no (.t 54) (.c (.int .i64 1))⟩,
 ⟨(some 15), none, .mov (.t 55)⟩] [15]))))))
 (.seq
 (.ops [
 ⟨(some 69), none, .mov (.t 6)⟩,
 ⟨(some 70), none, .mov (.t 7)⟩,
 ⟨(some 71), none, .bin .add .no (.t 70) (.c (.int .i64 1))⟩,
 ⟨(some 72), none, .call (.c (.fn (.func 23) [] [])) [(.t 69), (.t 71)]⟩,
 ⟨(some 68), none, .mov (.t 72)⟩,
 ⟨(some 73), none, .ext (.t 68) 0⟩,
 ⟨(some 74), none, .ext (.t 68) 1⟩,
 ⟨(some 17), none, .mov (.t 73)⟩,
 ⟨(some 18), none, .mov (.t 74)⟩] [18])
 (.seq
 (.ops [
 ⟨(some 75), none, .mov (.t 12)⟩,
 ⟨(some 76), none, .bin .eql .no (.t 75) (.c (.int .i64 0))⟩,
 ⟨(some 77), none, .mov (.t 76)⟩,
 ⟨(some 78), (some (77, true)), .mov (.t 11)⟩,
 ⟨(some 79), (some (77, true)), .mov (.t 13)⟩,
 ⟨(some 80), (some (77, true)), .call (.c (.fn (.func 19) [] [])) [(.t 78), (.t 79)]⟩,
 ⟨(some 81), none, .pick (.t 77) (.t 80) (.c (.bool false))⟩,
 ⟨(some 82), none, .mov (.t 81)⟩,
 ⟨(some 83), (some (82, true)), .mov (.t 18)⟩,
 ⟨(some 84), (some (82, true)), .bin .eql .no (.t 83) (.c (.int .i64 5))⟩,
 ⟨(some 85), none, .pick (.t 82) (.t 84) (.c (.bool false))⟩,
 ⟨(some 86), none, .mov (.t 85)⟩,
 ⟨(some 87), (some (86, true)), .call (.c (.fn (.func 17) [] [])) []⟩,
 ⟨(some 88), none, .pick (.t 86) (.t 87) (.c (.bool false))⟩,
 ⟨(some 4), none, .mov (.t 88)⟩] [4])
 .ret))))))))),
 [.tmp 4]⟩

theorem c12 : compF Tryd.prog 12 = some sf12 := by kernel_rfl
end Go.Proofs.YtelalpohbodolaaDoor
