/- The law NormDivides, compiled. -/
import Derived.Test.YtpobklkllfokdaaRows
import Derived.Test.YtpobklkllfokdaaSE
import Derived.KernelRfl
set_option linter.unusedVariables false
set_option maxRecDepth 100000
namespace Go.Proofs.Ytpobklkllfokdaa
open Go Go.Abs
/-- bellpull/bellpulllaw04.NormDivides -/
noncomputable def sf4 : SFun := ⟨[0, 1, 2, 3, 4, 5, 6, 7, 8, 9, 10, 28, 30], 68,
 (.seq
 (.ops [
 ⟨(some 2), none, .box (.t 0)⟩,
 ⟨(some 3), none, .box (.t 1)⟩,
 ⟨(some 4), none, .mov (.c (.bool false))⟩] [2, 3, 4])
 (.seq
 (.ops [
 ⟨(some 12), none, .load (some 4) (.t 2)⟩,
 ⟨(some 13), none, .load (some 4) (.t 3)⟩,
 ⟨(some 14), none, .call (.c (.fn (.func 25) [] [])) [(.t 12), (.t 13)]⟩,
 ⟨(some 11), none, .mov (.t 14)⟩,
 ⟨(some 15), none, .ext (.t 11) 0⟩,
 ⟨(some 16), none, .ext (.t 11) 1⟩,
 ⟨(some 17), none, .ext (.t 11) 2⟩,
 ⟨(some 5), none, .new [(.int .i64 0), (.int .i64 0), (.int .i64 0), (.int .i64 0)]⟩,
 ⟨(some 6), none, .new [(.int .i64 0), (.int .i64 0), (.int .i64 0), (.int .i64 0)]⟩,
 ⟨none, none, .store 4 (.t 5) (.t 15)⟩,
 ⟨none, none, .store 4 (.t 6) (.t 16)⟩,
 ⟨(some 7), none, .mov (.t 17)⟩] [5, 6, 7])
 (.seq
 (.ops [
 ⟨(some 18), none, .load (some 4) (.t 2)⟩,
 ⟨(some 19), none, .load (some 4) (.t 3)⟩,
 ⟨(some 20), none, .buildS [(.int .i64 0), (.int .i64 0), (.int .i64 0), (.int .i64 0)] 2 4 [(0, (.t 18)), (1, (.t 19))]⟩,
 ⟨(some 21), none, .call (.c (.fn (.func 20) [] [])) [(.t 20)]⟩,
 ⟨(some 8), none, .mov (.t 21)⟩] [8])
 (.seq
 (.seq
 (.ops [
 ⟨(some 22), none, .mov (.t 8)⟩,
 ⟨(some 23), none, .bin .eql .no (.t 22) (.c (.int .i64 0))⟩,
 ⟨(some 24), none, .mov (.t 23)⟩,
 ⟨(some 25), (some (24, true)), .load (some 4) (.t 3)⟩,
 ⟨(some 26), (some (24, true)), .build [(.int .i64 0), (.int .i64 0), (.int .i64 0), (.int .i64 0)] [(0, 1), (1, 1), (2, 1), (3, 1)] []⟩,
 ⟨(some 27), (some (24, true)), .bin .eql (.flat 4) (.t 25) (.t 26)⟩,
 ⟨(some 28), none, .pick (.t 24) (.t 27) (.c (.bool false))⟩] [28])
 (.cond (.t 28)
 (.ops [
 ⟨(some 8), none, .mov (.c (.int .i64 5))⟩] [8])
 .skip))
 (.seq
 (.seq
 (.ops [
 ⟨(some 29), none, .mov (.t 8)⟩,
 ⟨(some 30), none, .bin .neq .no (.t 29) (.c (.int .i64 0))⟩] [30])
 (.cond (.t 30)
 (.seq
 (.ops [
 ⟨(some 31), none, .load (some 4) (.t 5)⟩,
 ⟨(some 32), none, .build [(.int .i64 0), (.int .i64 0), (.int .i64 0), (.int .i64 0)] [(0, 1), (1, 1), (2, 1), (3, 1)] []⟩,
 ⟨(some 33), none, .bin .eql (.flat 4) (.t 31) (.t 32)⟩,
 ⟨(some 34), none, .mov (.t 33)⟩,
 ⟨(some 35), (some (34, true)), .load (some 4) (.t 6)⟩,
 ⟨(some 36), (some (34, true)), .build [(.int .i64 0), (.int .i64 0), (.int .i64 0), (.int .i64 0)] [(0, 1), (1, 1), (2, 1), (3, 1)] []⟩,
 ⟨(some 37), (some (34, true)), .bin .eql (.flat 4) (.t 35) (.t 36)⟩,
 ⟨(some 38), none, .pick (.t 34) (.t 37) (.c (.bool false))⟩,
 ⟨(some 39), none, .mov (.t 38)⟩,
 ⟨(some 40), (some (39, true)), .mov (.t 7)⟩,
 ⟨(some 41), (some (39, true)), .mov (.t 8)⟩,
 ⟨(some 42), (some (39, true)), .bin .eql .no (.t 40) (.t 41)⟩,
 ⟨(some 43), none, .pick (.t 39) (.t 42) (.c (.bool false))⟩,
 ⟨(some 44), none, .mov (.t 43)⟩,
 ⟨(some 45), (some (44, true)), .call (.c (.fn (.func 23) [] [])) []⟩,
 ⟨(some 46), none, .pick (.t 44) (.t 45) (.c (.bool false))⟩,
 ⟨(some 4), none, .mov (.t 46)⟩] [4])
 .ret)
 .skip))
 (.seq
 (.ops [
 ⟨(some 48), none, .load (some 4) (.t 2)⟩,
 ⟨(some 49), none, .load (some 4) (.t 3)⟩,
 ⟨(some 50), none, .call (.c (.fn (.func 26) [] [])) [(.t 48), (.t 49)]⟩,
 ⟨(some 47), none, .mov (.t 50)⟩,
 ⟨(some 51), none, .ext (.t 47) 0⟩,
 ⟨(some 52), none, .ext (.t 47) 1⟩,
 ⟨(some 9), none, .new [(.int .i64 0), (.int .i64 0), (.int .i64 0), (.int .i64 0)]⟩,
 ⟨(some 10), none, .new [(.int .i64 0), (.int .i64 0), (.int .i64 0), (.int .i64 0)]⟩,
 ⟨none, none, .store 4 (.t 9) (.t 51)⟩,
 ⟨none, none, .store 4 (.t 10) (.t 52)⟩] [9, 10])
 (.seq
 (.ops [
 ⟨(some 53), none, .load (some 4) (.t 5)⟩,
 ⟨(some 54), none, .load (some 4) (.t 9)⟩,
 ⟨(some 55), none, .bin .eql (.flat 4) (.t 53) (.t 54)⟩,
 ⟨(some 56), none, .mov (.t 55)⟩,
 ⟨(some 57), (some (56, true)), .load (some 4) (.t 6)⟩,
 ⟨(some 58), (some (56, true)), .load (some 4) (.t 10)⟩,
 ⟨(some 59), (some (56, true)), .bin .eql (.flat 4) (.t 57) (.t 58)⟩,
 ⟨(some 60), none, .pick (.t 56) (.t 59) (.c (.bool false))⟩,
 ⟨(some 61), none, .mov (.t 60)⟩,
 ⟨(some 62), (some (61, true)), .mov (.t 7)⟩,
 ⟨(some 63), (some (61, true)), .bin .eql .no (.t 62) (.c (.int .i64 0))⟩,
 ⟨(some 64), none, .pick (.t 61) (.t 63) (.c (.bool false))⟩,
 ⟨(some 65), none, .mov (.t 64)⟩,
 ⟨(some 66), (some (65, true)), .call (.c (.fn (.func 23) [] [])) []⟩,
 ⟨(some 67), none, .pick (.t 65) (.t 66) (.c (.bool false))⟩,
 ⟨(some 4), none, .mov (.t 67)⟩] [4])
 .ret))))))),
 [.tmp 4]⟩

theorem c4 : compF Try.prog 4 = some sf4 := by kernel_rfl
end Go.Proofs.Ytpobklkllfokdaa
