/- The law NormGcds, compiled. -/
import Derived.Test.YtpobklkllfokdaaRows
import Derived.Test.YtpobklkllfokdaaSE
import Derived.KernelRfl
set_option linter.unusedVariables false
set_option maxRecDepth 100000
namespace Go.Proofs.Ytpobklkllfokdaa
open Go Go.Abs
/-- bellpull/bellpulllaw04.NormGcds -/
noncomputable def sf5 : SFun := ⟨[0, 1, 2, 3, 4, 5, 6, 7, 29, 31], 55,
 (.seq
 (.ops [
 ⟨(some 2), none, .box (.t 0)⟩,
 ⟨(some 3), none, .box (.t 1)⟩,
 ⟨(some 4), none, .mov (.c (.bool false))⟩] [2, 3, 4])
 (.seq
 (.ops [
 ⟨(some 9), none, .load (some 4) (.t 2)⟩,
 ⟨(some 10), none, .load (some 4) (.t 3)⟩,
 ⟨(some 11), none, .call (.c (.fn (.func 27) [] [])) [(.t 9), (.t 10)]⟩,
 ⟨(some 8), none, .mov (.t 11)⟩,
 ⟨(some 12), none, .ext (.t 8) 0⟩,
 ⟨(some 13), none, .ext (.t 8) 1⟩,
 ⟨(some 5), none, .new [(.int .i64 0), (.int .i64 0), (.int .i64 0), (.int .i64 0)]⟩,
 ⟨none, none, .store 4 (.t 5) (.t 12)⟩,
 ⟨(some 6), none, .mov (.t 13)⟩] [5, 6])
 (.seq
 (.ops [
 ⟨(some 14), none, .load (some 4) (.t 2)⟩,
 ⟨(some 15), none, .load (some 4) (.t 3)⟩,
 ⟨(some 16), none, .buildS [(.int .i64 0), (.int .i64 0), (.int .i64 0), (.int .i64 0)] 2 4 [(0, (.t 14)), (1, (.t 15))]⟩,
 ⟨(some 17), none, .call (.c (.fn (.func 20) [] [])) [(.t 16)]⟩,
 ⟨(some 7), none, .mov (.t 17)⟩] [7])
 (.seq
 (.seq
 (.ops [
 ⟨(some 18), none, .mov (.t 7)⟩,
 ⟨(some 19), none, .bin .eql .no (.t 18) (.c (.int .i64 0))⟩,
 ⟨(some 20), none, .mov (.t 19)⟩,
 ⟨(some 21), (some (20, true)), .load (some 4) (.t 2)⟩,
 ⟨(some 22), (some (20, true)), .build [(.int .i64 0), (.int .i64 0), (.int .i64 0), (.int .i64 0)] [(0, 1), (1, 1), (2, 1), (3, 1)] []⟩,
 ⟨(some 23), (some (20, true)), .bin .eql (.flat 4) (.t 21) (.t 22)⟩,
 ⟨(some 24), none, .pick (.t 20) (.t 23) (.c (.bool false))⟩,
 ⟨(some 25), none, .mov (.t 24)⟩,
 ⟨(some 26), (some (25, true)), .load (some 4) (.t 3)⟩,
 ⟨(some 27), (some (25, true)), .build [(.int .i64 0), (.int .i64 0), (.int .i64 0), (.int .i64 0)] [(0, 1), (1, 1), (2, 1), (3, 1)] []⟩,
 ⟨(some 28), (some (25, true)), .bin .eql (.flat 4) (.t 26) (.t 27)⟩,
 ⟨(some 29), none, .pick (.t 25) (.t 28) (.c (.bool false))⟩] [29])
 (.cond (.t 29)
 (.ops [
 ⟨(some 7), none, .mov (.c (.int .i64 5))⟩] [7])
 .skip))
 (.seq
 (.seq
 (.ops [
 ⟨(some 30), none, .mov (.t 7)⟩,
 ⟨(some 31), none, .bin .neq .no (.t 30) (.c (.int .i64 0))⟩] [31])
 (.cond (.t 31)
 (.seq
 (.ops [
 ⟨(some 32), none, .load (some 4) (.t 5)⟩,
 ⟨(some 33), none, .build [(.int .i64 0), (.int .i64 0), (.int .i64 0), (.int .i64 0)] [(0, 1), (1, 1), (2, 1), (3, 1)] []⟩,
 ⟨(some 34), none, .bin .eql (.flat 4) (.t 32) (.t 33)⟩,
 ⟨(some 35), none, .mov (.t 34)⟩,
 ⟨(some 36), (some (35, true)), .mov (.t 6)⟩,
 ⟨(some 37), (some (35, true)), .mov (.t 7)⟩,
 ⟨(some 38), (some (35, true)), .bin .eql .no (.t 36) (.t 37)⟩,
 ⟨(some 39), none, .pick (.t 35) (.t 38) (.c (.bool false))⟩,
 ⟨(some 40), none, .mov (.t 39)⟩,
 ⟨(some 41), (some (40, true)), .call (.c (.fn (.func 23) [] [])) []⟩,
 ⟨(some 42), none, .pick (.t 40) (.t 41) (.c (.bool false))⟩,
 ⟨(some 4), none, .mov (.t 42)⟩] [4])
 .ret)
 .skip))
 (.seq
 (.draw [
 ⟨⟨(some 43), none, .load (some 4) (.t 5)⟩, true, false⟩,
 ⟨⟨(some 44), none, .load (some 4) (.t 2)⟩, true, false⟩,
 ⟨⟨(some 45), none, .load (some 4) (.t 3)⟩, true, false⟩,
 ⟨⟨(some 46), none, .call (.c (.fn (.func 28) [] [])) [(.t 44), (.t 45)]⟩, false, true⟩,
 ⟨⟨(some 47), none, .bin .eql (.flat 4) (.t 43) (.t 46)⟩, false, false⟩,
 ⟨⟨(some 48), none, .mov (.t 47)⟩, false, false⟩,
 ⟨⟨(some 49), (some (48, true)), .mov (.t 6)⟩, false, false⟩,
 ⟨⟨(some 50), (some (48, true)), .bin .eql .no (.t 49) (.c (.int .i64 0))⟩, false, false⟩,
 ⟨⟨(some 51), none, .pick (.t 48) (.t 50) (.c (.bool false))⟩, false, false⟩,
 ⟨⟨(some 52), none, .mov (.t 51)⟩, false, false⟩,
 ⟨⟨(some 53), (some (52, true)), .call (.c (.fn (.func 23) [] [])) []⟩, false, true⟩,
 ⟨⟨(some 54), none, .pick (.t 52) (.t 53) (.c (.bool false))⟩, false, false⟩,
 ⟨⟨(some 4), none, .mov (.t 54)⟩, false, false⟩] [0, 0, 0, 6, 15, 31, 63, 127, 255, 511, 1023, 2047, 4095] [4])
 .ret)))))),
 [.tmp 4]⟩

theorem c5 : compF Try.prog 5 = some sf5 := by kernel_rfl
end Go.Proofs.Ytpobklkllfokdaa
