/- The law NormPrimes, compiled. -/
import Derived.Test.YtpobklkllfokdaaRows
import Derived.Test.YtpobklkllfokdaaSE
import Derived.KernelRfl
set_option linter.unusedVariables false
set_option maxRecDepth 100000
namespace Go.Proofs.Ytpobklkllfokdaa
open Go Go.Abs
/-- bellpull/bellpulllaw04.NormPrimes -/
noncomputable def sf6 : SFun := ⟨[0, 1, 2, 4, 5, 6, 7, 8, 9, 10, 20, 26, 35, 48], 87,
 (.seq
 (.ops [
 ⟨(some 2), none, .box (.t 0)⟩,
 ⟨(some 4), none, .mov (.c (.bool false))⟩] [2, 4])
 (.seq
 (.ops [
 ⟨(some 12), none, .load (some 4) (.t 2)⟩,
 ⟨(some 13), none, .call (.c (.fn (.func 29) [] [])) [(.t 12)]⟩,
 ⟨(some 11), none, .mov (.t 13)⟩,
 ⟨(some 14), none, .ext (.t 11) 0⟩,
 ⟨(some 15), none, .ext (.t 11) 1⟩,
 ⟨(some 5), none, .mov (.t 14)⟩,
 ⟨(some 6), none, .mov (.t 15)⟩] [5, 6])
 (.seq
 (.seq
 (.ops [
 ⟨(some 16), none, .load (some 4) (.t 2)⟩,
 ⟨(some 17), none, .buildS [(.int .i64 0), (.int .i64 0), (.int .i64 0), (.int .i64 0)] 1 4 [(0, (.t 16))]⟩,
 ⟨(some 18), none, .call (.c (.fn (.func 20) [] [])) [(.t 17)]⟩,
 ⟨(some 7), none, .mov (.t 18)⟩] [7])
 (.seq
 (.ops [
 ⟨(some 19), none, .mov (.t 7)⟩,
 ⟨(some 20), none, .bin .neq .no (.t 19) (.c (.int .i64 0))⟩] [20])
 (.cond (.t 20)
 (.seq
 (.ops [
 ⟨(some 21), none, .mov (.t 5)⟩,
 ⟨(some 22), none, .mov (.t 21)⟩,
 ⟨(some 23), (some (22, false)), .mov (.t 6)⟩,
 ⟨(some 24), (some (22, false)), .mov (.t 7)⟩,
 ⟨(some 25), (some (22, false)), .bin .neq .no (.t 23) (.t 24)⟩,
 ⟨(some 26), none, .pick (.t 22) (.c (.bool true)) (.t 25)⟩] [26])
 (.cond (.t 26)
 (.seq
 (.ops [
 ⟨(some 4), none, .mov (.c (.bool false))⟩] [4])
 .ret)
 .skip))
 (.seq
 (.ops [
 ⟨(some 27), none, .mov (.t 5)⟩,
 ⟨(some 28), none, .load (some 4) (.t 2)⟩,
 ⟨(some 29), none, .call (.c (.fn (.func 22) [] [])) [(.t 28)]⟩,
 ⟨(some 30), none, .call (.c (.fn (.func 30) [] [])) [(.t 29)]⟩,
 ⟨(some 31), none, .bin .neq .bool (.t 27) (.t 30)⟩,
 ⟨(some 32), none, .mov (.t 31)⟩,
 ⟨(some 33), (some (32, false)), .mov (.t 6)⟩,
 ⟨(some 34), (some (32, false)), .bin .neq .no (.t 33) (.c (.int .i64 0))⟩,
 ⟨(some 35), none, .pick (.t 32) (.c (.bool true)) (.t 34)⟩] [35])
 (.cond (.t 35)
 (.seq
 (.ops [
 ⟨(some 4), none, .mov (.c (.bool false))⟩] [4])
 .ret)
 .skip)))))
 (.seq
 (.ops [
 ⟨(some 37), none, .mov (.t 1)⟩,
 ⟨(some 38), none, .call (.c (.fn (.func 31) [] [])) [(.t 37)]⟩,
 ⟨(some 36), none, .mov (.t 38)⟩,
 ⟨(some 39), none, .ext (.t 36) 0⟩,
 ⟨(some 40), none, .ext (.t 36) 1⟩,
 ⟨(some 8), none, .new [(.int .i64 0), (.int .i64 0), (.int .i64 0), (.int .i64 0)]⟩,
 ⟨none, none, .store 4 (.t 8) (.t 39)⟩,
 ⟨(some 9), none, .mov (.t 40)⟩] [8, 9])
 (.seq
 (.seq
 (.ops [
 ⟨(some 41), none, .mov (.t 1)⟩,
 ⟨(some 42), none, .call (.c (.fn (.func 32) [] [])) [(.t 41), (.c (.int .i64 2)), (.c (.int .i64 10000))]⟩,
 ⟨(some 43), none, .not (.t 42)⟩,
 ⟨(some 44), none, .mov (.t 43)⟩,
 ⟨(some 45), (some (44, false)), .mov (.t 1)⟩,
 ⟨(some 46), (some (44, false)), .call (.c (.fn (.func 30) [] [])) [(.t 45)]⟩,
 ⟨(some 47), (some (44, false)), .not (.t 46)⟩,
 ⟨(some 48), none, .pick (.t 44) (.c (.bool true)) (.t 47)⟩] [48])
 (.cond (.t 48)
 (.seq
 (.ops [
 ⟨(some 49), none, .load (some 4) (.t 8)⟩,
 ⟨(some 50), none, .build [(.int .i64 0), (.int .i64 0), (.int .i64 0), (.int .i64 0)] [(0, 1), (1, 1), (2, 1), (3, 1)] []⟩,
 ⟨(some 51), none, .bin .eql (.flat 4) (.t 49) (.t 50)⟩,
 ⟨(some 52), none, .mov (.t 51)⟩,
 ⟨(some 53), (some (52, true)), .mov (.t 9)⟩,
 ⟨(some 54), (some (52, true)), .bin .eql .no (.t 53) (.c (.int .i64 1))⟩,
 ⟨(some 55), none, .pick (.t 52) (.t 54) (.c (.bool false))⟩,
 ⟨(some 56), none, .mov (.t 55)⟩,
 ⟨(some 57), (some (56, true)), .call (.c (.fn (.func 23) [] [])) []⟩,
 ⟨(some 58), none, .pick (.t 56) (.t 57) (.c (.bool false))⟩,
 ⟨(some 4), none, .mov (.t 58)⟩] [4])
 .ret)
 .skip))
 (.seq
 (.ops [
 ⟨(some 59), none, .mov (.t 1)⟩,
 ⟨(some 60), none, .call (.c (.fn (.func 33) [] [])) [(.t 59), (.c (.int .i64 4)), (.c (.int .i64 100))]⟩,
 ⟨(some 10), none, .mov (.t 60)⟩] [10])
 (.seq
 (.draw [
 ⟨⟨(some 61), none, .load (some 4) (.t 8)⟩, true, false⟩,
 ⟨⟨(some 62), none, .mov (.t 10)⟩, false, false⟩,
 ⟨⟨(some 63), none, .ixS 1 (.t 62) (.c (.int .i64 0))⟩, false, false⟩,
 ⟨⟨(some 64), none, .load none (.t 63)⟩, true, false⟩,
 ⟨⟨(some 65), none, .bin .mul .no (.c (.int .i64 2)) (.t 64)⟩, false, false⟩,
 ⟨⟨(some 66), none, .mov (.t 10)⟩, false, false⟩,
 ⟨⟨(some 67), none, .ixS 1 (.t 66) (.c (.int .i64 1))⟩, false, false⟩,
 ⟨⟨(some 68), none, .load none (.t 67)⟩, true, false⟩,
 ⟨⟨(some 69), none, .bin .mul .no (.c (.int .i64 2)) (.t 68)⟩, false, false⟩,
 ⟨⟨(some 70), none, .mov (.t 10)⟩, false, false⟩,
 ⟨⟨(some 71), none, .ixS 1 (.t 70) (.c (.int .i64 2))⟩, false, false⟩,
 ⟨⟨(some 72), none, .load none (.t 71)⟩, true, false⟩,
 ⟨⟨(some 73), none, .bin .mul .no (.c (.int .i64 2)) (.t 72)⟩, false, false⟩,
 ⟨⟨(some 74), none, .mov (.t 10)⟩, false, false⟩,
 ⟨⟨(some 75), none, .ixS 1 (.t 74) (.c (.int .i64 3))⟩, false, false⟩,
 ⟨⟨(some 76), none, .load none (.t 75)⟩, true, false⟩,
 ⟨⟨(some 77), none, .bin .mul .no (.c (.int .i64 2)) (.t 76)⟩, false, false⟩,
 ⟨⟨(some 78), none, .build [(.int .i64 0), (.int .i64 0), (.int .i64 0), (.int .i64 0)] [(0, 1), (1, 1), (2, 1), (3, 1)] [(0, (.t 65)), (1, (.t 69)), (2, (.t 73)), (3, (.t 77))]⟩, false, false⟩,
 ⟨⟨(some 79), none, .bin .eql (.flat 4) (.t 61) (.t 78)⟩, false, false⟩,
 ⟨⟨(some 80), none, .mov (.t 79)⟩, false, false⟩,
 ⟨⟨(some 81), (some (80, true)), .mov (.t 9)⟩, false, false⟩,
 ⟨⟨(some 82), (some (80, true)), .bin .eql .no (.t 81) (.c (.int .i64 0))⟩, false, false⟩,
 ⟨⟨(some 83), none, .pick (.t 80) (.t 82) (.c (.bool false))⟩, false, false⟩,
 ⟨⟨(some 84), none, .mov (.t 83)⟩, false, false⟩,
 ⟨⟨(some 85), (some (84, true)), .call (.c (.fn (.func 23) [] [])) []⟩, false, true⟩,
 ⟨⟨(some 86), none, .pick (.t 84) (.t 85) (.c (.bool false))⟩, false, false⟩,
 ⟨⟨(some 4), none, .mov (.t 86)⟩, false, false⟩] [0, 0, 2, 6, 14, 0, 32, 96, 224, 0, 512, 1536, 3584, 0, 8192, 24576, 57344, 131070, 262143, 524287, 1048575, 2097151, 4194303, 8388607, 16777215, 33554431, 67108863] [4])
 .ret))))))),
 [.tmp 4]⟩

theorem c6 : compF Try.prog 6 = some sf6 := by kernel_rfl
end Go.Proofs.Ytpobklkllfokdaa
