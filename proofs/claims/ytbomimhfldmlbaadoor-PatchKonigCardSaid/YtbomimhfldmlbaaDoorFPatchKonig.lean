/- The law PatchKonig, compiled. -/
import Derived.Test.YtbomimhfldmlbaaDoorRows
import Derived.Test.YtbomimhfldmlbaaDoorSE
import Derived.KernelRfl
set_option linter.unusedVariables false
set_option maxRecDepth 100000
namespace Go.Proofs.YtbomimhfldmlbaaDoor
open Go Go.Abs
/-- bellpull/bellpulllaw06.PatchKonig -/
noncomputable def sf14 : SFun := ⟨[0, 2, 3, 4, 5, 6, 7, 19, 28], 69,
 (.seq
 (.ops [
 ⟨(some 2), none, .mov (.c (.bool false))⟩] [2])
 (.seq
 (.ops [
 ⟨(some 8), none, .mov (.t 0)⟩,
 ⟨(some 9), none, .call (.c (.fn (.func 48) [] [])) [(.t 8)]⟩,
 ⟨(some 3), none, .mov (.t 9)⟩] [3])
 (.seq
 (.ops [
 ⟨(some 11), none, .mov (.t 3)⟩,
 ⟨(some 12), none, .call (.c (.fn (.func 40) [] [])) [(.c (.int .i64 6)), (.c (.int .i64 6)), (.t 11)]⟩,
 ⟨(some 10), none, .mov (.t 12)⟩,
 ⟨(some 13), none, .ext (.t 10) 0⟩,
 ⟨(some 14), none, .ext (.t 10) 1⟩,
 ⟨(some 4), none, .mov (.t 13)⟩,
 ⟨(some 5), none, .mov (.t 14)⟩] [4, 5])
 (.seq
 (.ops [
 ⟨(some 15), none, .buildS [(.int .i64 0)] 0 1 []⟩,
 ⟨(some 6), none, .mov (.t 15)⟩] [6])
 (.seq
 (.seq
 (.ops [
 ⟨(some 7), none, .mov (.c (.int .i64 0))⟩] [7])
 (.block 0
 (.loop
 (.seq
 (.seq
 (.ops [
 ⟨(some 16), none, .mov (.t 7)⟩,
 ⟨(some 17), none, .mov (.t 4)⟩,
 ⟨(some 18), none, .lenS (.t 17)⟩,
 ⟨(some 19), none, .bin .lss .no (.t 16) (.t 18)⟩] [19])
 (.cond (.t 19)
 .skip
 (.exit 0)))
 (.seq
 (.block 1
 (.seq
 (.ops [
 ⟨(some 22), none, .mov (.t 6)⟩,
 ⟨(some 23), none, .mov (.t 4)⟩,
 ⟨(some 24), none, .mov (.t 7)⟩,
 ⟨(some 25), none, .ixS 1 (.t 23) (.t 24)⟩,
 ⟨(some 26), none, .load none (.t 25)⟩,
 ⟨(some 27), none, .call (.c (.fn (.func 46) [] [])) [(.t 22), (.t 26)]⟩,
 ⟨(some 28), none, .not (.t 27)⟩] [28])
 (.cond (.t 28)
 (.ops [
 ⟨(some 29), none, .mov (.t 6)⟩,
 ⟨(some 30), none, .mov (.t 4)⟩,
 ⟨(some 31), none, .mov (.t 7)⟩,
 ⟨(some 32), none, .ixS 1 (.t 30) (.t 31)⟩,
 ⟨(some 33), none, .load none (.t 32)⟩,
 ⟨(some 34), none, .buildS [(.int .i64 0)] 1 1 [(0, (.t 33))]⟩,
 ⟨(some 35), none, .app true 1 (.t 29) (.t 34)⟩,
 ⟨(some 6), none, .mov (.t 35)⟩] [6])
 .skip)))
 (.ops [
 ⟨(some 20), none, .mov (.t 7)⟩,
 ⟨(some 21), none, .bin .add .no (.t 20) (.c (.int .i64 1))⟩,
 ⟨(some 7), none, .mov (.t 21)⟩] [7]))))))
 (.seq
 (.ops [
 ⟨(some 36), none, .mov (.t 5)⟩,
 ⟨(some 37), none, .bin .eql .no (.t 36) (.c (.int .i64 0))⟩,
 ⟨(some 38), none, .mov (.t 37)⟩,
 ⟨(some 39), (some (38, true)), .mov (.t 4)⟩,
 ⟨(some 40), (some (38, true)), .lenS (.t 39)⟩,
 ⟨(some 41), (some (38, true)), .mov (.t 3)⟩,
 ⟨(some 42), (some (38, true)), .lenS (.t 41)⟩,
 ⟨(some 43), (some (38, true)), .bin .eql .no (.t 40) (.t 42)⟩,
 ⟨(some 44), none, .pick (.t 38) (.t 43) (.c (.bool false))⟩,
 ⟨(some 45), none, .mov (.t 44)⟩,
 ⟨(some 46), (some (45, true)), .mov (.t 3)⟩,
 ⟨(some 47), (some (45, true)), .mov (.t 4)⟩,
 ⟨(some 48), (some (45, true)), .call (.c (.fn (.func 49) [] [])) [(.t 46), (.t 47)]⟩,
 ⟨(some 49), none, .pick (.t 45) (.t 48) (.c (.bool false))⟩,
 ⟨(some 50), none, .mov (.t 49)⟩,
 ⟨(some 51), (some (50, true)), .mov (.t 6)⟩,
 ⟨(some 52), (some (50, true)), .lenS (.t 51)⟩,
 ⟨(some 53), (some (50, true)), .mov (.t 3)⟩,
 ⟨(some 54), (some (50, true)), .call (.c (.fn (.func 43) [] [])) [(.t 53)]⟩,
 ⟨(some 55), (some (50, true)), .bin .eql .no (.t 52) (.t 54)⟩,
 ⟨(some 56), none, .pick (.t 50) (.t 55) (.c (.bool false))⟩,
 ⟨(some 57), none, .mov (.t 56)⟩,
 ⟨(some 58), (some (57, true)), .mov (.t 4)⟩,
 ⟨(some 59), (some (57, true)), .mov (.t 3)⟩,
 ⟨(some 60), (some (57, true)), .lenS (.t 59)⟩,
 ⟨(some 61), (some (57, true)), .mov (.t 3)⟩,
 ⟨(some 62), (some (57, true)), .call (.c (.fn (.func 43) [] [])) [(.t 61)]⟩,
 ⟨(some 63), (some (57, true)), .mx (.t 62) (.c (.int .i64 1))⟩,
 ⟨(some 64), (some (57, true)), .call (.c (.fn (.func 50) [] [])) [(.t 58), (.t 60), (.t 63)]⟩,
 ⟨(some 65), none, .pick (.t 57) (.t 64) (.c (.bool false))⟩,
 ⟨(some 66), none, .mov (.t 65)⟩,
 ⟨(some 67), (some (66, true)), .call (.c (.fn (.func 21) [] [])) []⟩,
 ⟨(some 68), none, .pick (.t 66) (.t 67) (.c (.bool false))⟩,
 ⟨(some 2), none, .mov (.t 68)⟩] [2])
 .ret)))))),
 [.tmp 2]⟩

theorem c14 : compF Tryd.prog 14 = some sf14 := by kernel_rfl
end Go.Proofs.YtbomimhfldmlbaaDoor
