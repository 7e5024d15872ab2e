/- The law PatchEdges, compiled. -/
import Derived.Test.YtbomimhfldmlbaaDoorRows
import Derived.Test.YtbomimhfldmlbaaDoorSA
import Derived.KernelRfl
set_option linter.unusedVariables false
set_option maxRecDepth 100000
namespace Go.Proofs.YtbomimhfldmlbaaDoor
open Go Go.Abs
/-- bellpull/bellpulllaw06.PatchEdges -/
noncomputable def sf15 : SFun := ⟨[0, 1, 2, 4, 5, 6, 8, 9, 10, 11, 12, 13, 14, 22, 34], 84,
 (.seq
 (.ops [
 ⟨(some 2), none, .box (.t 0)⟩,
 ⟨(some 4), none, .mov (.c (.bool false))⟩] [2, 4])
 (.seq
 (.ops [
 ⟨(some 16), none, .load (some 3) (.t 2)⟩,
 ⟨(some 17), none, .call (.c (.fn (.func 44) [] [])) [(.t 16)]⟩,
 ⟨(some 15), none, .mov (.t 17)⟩,
 ⟨(some 18), none, .ext (.t 15) 0⟩,
 ⟨(some 19), none, .ext (.t 15) 1⟩,
 ⟨(some 20), none, .ext (.t 15) 2⟩,
 ⟨(some 5), none, .mov (.t 18)⟩,
 ⟨(some 6), none, .mov (.t 19)⟩,
 ⟨(some 7), none, .mov (.t 20)⟩] [5, 6])
 (.seq
 (.seq
 (.ops [
 ⟨(some 21), none, .mov (.t 6)⟩,
 ⟨(some 22), none, .bin .gtr .no (.t 21) (.c (.int .i64 6))⟩] [22])
 (.cond (.t 22)
 (.seq
 (.ops [
 ⟨(some 23), none, .call (.c (.fn (.func 21) [] [])) []⟩,
 ⟨(some 4), none, .mov (.t 23)⟩] [4])
 .ret)
 .skip))
 (.seq
 (.ops [
 ⟨(some 24), none, .mov (.t 5)⟩,
 ⟨(some 25), none, .mov (.t 6)⟩,
 ⟨(some 26), none, .bin .mul .no (.t 24) (.t 25)⟩,
 ⟨(some 27), none, .mov (.t 1)⟩,
 ⟨(some 28), none, .call (.c (.fn (.func 45) [] [])) [(.t 26), (.t 27)]⟩,
 ⟨(some 29), none, .buildS [(.int .i64 0), (.int .i64 0)] 0 2 []⟩,
 ⟨(some 8), none, .mov (.t 28)⟩,
 ⟨(some 9), none, .mov (.t 29)⟩] [8, 9])
 (.seq
 (.seq
 (.ops [
 ⟨(some 10), none, .mov (.c (.int .i64 0))⟩] [10])
 (.block 0
 (.loop
 (.seq
 (.seq
 (.ops [
 ⟨(some 30), none, .mov (.t 10)⟩,
 ⟨(some 31), none, .mov (.t 5)⟩,
 ⟨(some 32), none, .mov (.t 6)⟩,
 ⟨(some 33), none, .bin .mul .no (.t 31) (.t 32)⟩,
 ⟨(some 34), none, .bin .lss .no (.t 30) (.t 33)⟩] [34])
 (.cond (.t 34)
 .skip
 (.exit 0)))
 (.seq
 (.block 1
 (.draw [
 ⟨⟨(some 37), none, .mov (.t 9)⟩, false, false⟩,
 ⟨⟨(some 38), none, .mov (.t 10)⟩, false, false⟩,
 ⟨⟨(some 39), none, .mov (.t 5)⟩, false, false⟩,
 ⟨⟨(some 40), none, .bin .quo .no (.t 38) (.t 39)⟩, false, false⟩,
 ⟨⟨(some 41), none, .mov (.t 8)⟩, false, false⟩,
 ⟨⟨(some 42), none, .mov (.t 10)⟩, false, false⟩,
 ⟨⟨(some 43), none, .ixS 1 (.t 41) (.t 42)⟩, false, false⟩,
 ⟨⟨(some 44), none, .load none (.t 43)⟩, true, false⟩,
 ⟨⟨(some 45), none, .mov (.t 5)⟩, false, false⟩,
 ⟨⟨(some 46), none, .bin .quo .no (.t 44) (.t 45)⟩, false, false⟩,
 ⟨⟨(some 47), none, .build [(.int .i64 0), (.int .i64 0)] [(0, 1), (1, 1)] [(0, (.t 40)), (1, (.t 46))]⟩, false, false⟩,
 ⟨⟨(some 48), none, .buildS [(.int .i64 0), (.int .i64 0)] 1 2 [(0, (.t 47))]⟩, false, true⟩,
 ⟨⟨(some 49), none, .app true 2 (.t 37) (.t 48)⟩, false, true⟩,
 ⟨⟨(some 9), none, .mov (.t 49)⟩, false, false⟩] [0, 0, 0, 6, 0, 0, 48, 112, 0, 496, 1022, 2046, 4095, 8191] [9]))
 (.ops [
 ⟨(some 35), none, .mov (.t 10)⟩,
 ⟨(some 36), none, .bin .add .no (.t 35) (.c (.int .i64 1))⟩,
 ⟨(some 10), none, .mov (.t 36)⟩] [10]))))))
 (.seq
 (.ops [
 ⟨(some 51), none, .mov (.t 5)⟩,
 ⟨(some 52), none, .mov (.t 6)⟩,
 ⟨(some 53), none, .mov (.t 5)⟩,
 ⟨(some 54), none, .mov (.t 8)⟩,
 ⟨(some 55), none, .call (.c (.fn (.func 19) [] [])) [(.t 51), (.t 52), (.t 53), (.t 54)]⟩,
 ⟨(some 50), none, .mov (.t 55)⟩,
 ⟨(some 56), none, .ext (.t 50) 0⟩,
 ⟨(some 57), none, .ext (.t 50) 1⟩,
 ⟨(some 11), none, .mov (.t 56)⟩,
 ⟨(some 12), none, .mov (.t 57)⟩] [11, 12])
 (.seq
 (.ops [
 ⟨(some 59), none, .mov (.t 6)⟩,
 ⟨(some 60), none, .mov (.t 6)⟩,
 ⟨(some 61), none, .mov (.t 9)⟩,
 ⟨(some 62), none, .call (.c (.fn (.func 40) [] [])) [(.t 59), (.t 60), (.t 61)]⟩,
 ⟨(some 58), none, .mov (.t 62)⟩,
 ⟨(some 63), none, .ext (.t 58) 0⟩,
 ⟨(some 64), none, .ext (.t 58) 1⟩,
 ⟨(some 13), none, .mov (.t 63)⟩,
 ⟨(some 14), none, .mov (.t 64)⟩] [13, 14])
 (.seq
 (.ops [
 ⟨(some 65), none, .mov (.t 12)⟩,
 ⟨(some 66), none, .bin .eql .no (.t 65) (.c (.int .i64 0))⟩,
 ⟨(some 67), none, .mov (.t 66)⟩,
 ⟨(some 68), (some (67, true)), .mov (.t 14)⟩,
 ⟨(some 69), (some (67, true)), .bin .eql .no (.t 68) (.c (.int .i64 0))⟩,
 ⟨(some 70), none, .pick (.t 67) (.t 69) (.c (.bool false))⟩,
 ⟨(some 71), none, .mov (.t 70)⟩,
 ⟨(some 72), (some (71, true)), .mov (.t 11)⟩,
 ⟨(some 73), (some (71, true)), .mov (.t 13)⟩,
 ⟨(some 74), (some (71, true)), .call (.c (.fn (.func 26) [] [])) [(.t 72), (.t 73)]⟩,
 ⟨(some 75), none, .pick (.t 71) (.t 74) (.c (.bool false))⟩,
 ⟨(some 76), none, .mov (.t 75)⟩,
 ⟨(some 77), (some (76, true)), .mov (.t 9)⟩,
 ⟨(some 78), (some (76, true)), .mov (.t 11)⟩,
 ⟨(some 79), (some (76, true)), .call (.c (.fn (.func 49) [] [])) [(.t 77), (.t 78)]⟩,
 ⟨(some 80), none, .pick (.t 76) (.t 79) (.c (.bool false))⟩,
 ⟨(some 81), none, .mov (.t 80)⟩,
 ⟨(some 82), (some (81, true)), .call (.c (.fn (.func 21) [] [])) []⟩,
 ⟨(some 83), none, .pick (.t 81) (.t 82) (.c (.bool false))⟩,
 ⟨(some 4), none, .mov (.t 83)⟩] [4])
 .ret)))))))),
 [.tmp 4]⟩

theorem c15 : compF Tryd.prog 15 = some sf15 := by kernel_rfl
end Go.Proofs.YtbomimhfldmlbaaDoor
