/- The program's functions, compiled. -/
import Derived.Test.YtihadgkgogfhcaaRows
import Derived.Test.YtihadgkgogfhcaaSA
import Derived.KernelRfl
set_option linter.unusedVariables false
set_option maxRecDepth 100000
namespace Go.Proofs.Ytihadgkgogfhcaa
open Go Go.Abs
/-- gosem.cut.init -/
noncomputable def sf2 : SFun := ⟨[], 1,
 (.ops [
 ⟨(some 0), none, .call (.c (.fn (.func 1) [] [])) []⟩] []),
 []⟩

/-- bellpull/bellpulllaw07.few -/
noncomputable def sf14 : SFun := ⟨[0, 2], 10,
 (.seq
 (.ops [
 ⟨(some 2), none, .mov (.c .nilsl)⟩] [2])
 (.seq
 (.ops [
 ⟨(some 3), none, .buildS [(.int .i64 0), (.int .i64 0)] 0 2 []⟩,
 ⟨(some 4), none, .mov (.t 0)⟩,
 ⟨(some 5), none, .mov (.t 0)⟩,
 ⟨(some 6), none, .lenS (.t 5)⟩,
 ⟨(some 7), none, .mn (.t 6) (.c (.int .i64 31))⟩,
 ⟨(some 8), none, .slice 2 (.t 4) none (some (.t 7))⟩,
 ⟨(some 9), none, .app true 2 (.t 3) (.t 8)⟩,
 ⟨(some 2), none, .mov (.t 9)⟩] [2])
 .ret)),
 [.tmp 2]⟩

/-- bellpull/bellpulllaw07.cut -/
noncomputable def sf15 : SFun := ⟨[0, 2], 10,
 (.seq
 (.ops [
 ⟨(some 2), none, .mov (.c .nilsl)⟩] [2])
 (.seq
 (.ops [
 ⟨(some 3), none, .buildS [(.int .i64 0)] 0 1 []⟩,
 ⟨(some 4), none, .mov (.t 0)⟩,
 ⟨(some 5), none, .mov (.t 0)⟩,
 ⟨(some 6), none, .lenS (.t 5)⟩,
 ⟨(some 7), none, .mn (.t 6) (.c (.int .i64 9))⟩,
 ⟨(some 8), none, .slice 1 (.t 4) none (some (.t 7))⟩,
 ⟨(some 9), none, .app true 1 (.t 3) (.t 8)⟩,
 ⟨(some 2), none, .mov (.t 9)⟩] [2])
 .ret)),
 [.tmp 2]⟩

/-- bellpull/route.Measure -/
noncomputable def sf16 : SFun := ⟨[0, 1, 2, 6, 7, 8, 9, 10, 11, 17], 30,
 (.seq
 (.ops [
 ⟨(some 6), none, .mov (.c (.int .i64 0))⟩,
 ⟨(some 7), none, .mov (.c (.int .i64 0))⟩,
 ⟨(some 8), none, .mov (.c (.int .i64 0))⟩,
 ⟨(some 9), none, .mov (.c (.int .i64 0))⟩] [6, 7, 8, 9])
 (.seq
 (.seq
 (.ops [
 ⟨(some 12), none, .mov (.t 0)⟩,
 ⟨(some 13), none, .mov (.t 1)⟩,
 ⟨(some 14), none, .mov (.t 2)⟩,
 ⟨(some 15), none, .call (.c (.fn (.func 36) [] [])) [(.t 12), (.t 13), (.t 14)]⟩,
 ⟨(some 10), none, .mov (.t 15)⟩] [10])
 (.seq
 (.ops [
 ⟨(some 16), none, .mov (.t 10)⟩,
 ⟨(some 17), none, .bin .neq .no (.t 16) (.c (.int .i64 0))⟩] [17])
 (.cond (.t 17)
 (.seq
 (.ops [
 ⟨(some 18), none, .mov (.t 10)⟩,
 ⟨(some 6), none, .mov (.c (.int .i64 0))⟩,
 ⟨(some 7), none, .mov (.c (.int .i64 0))⟩,
 ⟨(some 8), none, .mov (.c (.int .i64 0))⟩,
 ⟨(some 9), none, .mov (.t 18)⟩] [6, 7, 8, 9])
 .ret)
 .skip)))
 (.seq
 (.ops [
 ⟨(some 19), none, .mov (.t 2)⟩,
 ⟨(some 20), none, .call (.c (.fn (.func 37) [] [])) [(.t 19)]⟩,
 ⟨(some 11), none, .new [(.int .i64 0), (.int .i64 0), (.int .i64 0), (.int .i64 0), (.int .i64 0), (.int .i64 0), (.int .i64 0), (.int .i64 0)]⟩,
 ⟨none, none, .store 8 (.t 11) (.t 20)⟩] [11])
 (.seq
 (.draw [
 ⟨⟨(some 21), none, .mov (.t 1)⟩, false, false⟩,
 ⟨⟨(some 22), none, .load (some 8) (.t 11)⟩, true, false⟩,
 ⟨⟨(some 23), none, .call (.c (.fn (.func 38) [] [])) [(.t 21), (.t 22)]⟩, false, true⟩,
 ⟨⟨(some 24), none, .mov (.t 1)⟩, false, false⟩,
 ⟨⟨(some 25), none, .load (some 8) (.t 11)⟩, true, false⟩,
 ⟨⟨(some 26), none, .call (.c (.fn (.func 39) [] [])) [(.t 24), (.t 25)]⟩, false, true⟩,
 ⟨⟨(some 27), none, .mov (.t 1)⟩, false, false⟩,
 ⟨⟨(some 28), none, .load (some 8) (.t 11)⟩, true, false⟩,
 ⟨⟨(some 29), none, .call (.c (.fn (.func 40) [] [])) [(.t 27), (.t 28)]⟩, false, true⟩,
 ⟨⟨(some 6), none, .mov (.t 23)⟩, false, false⟩,
 ⟨⟨(some 7), none, .mov (.t 26)⟩, false, false⟩,
 ⟨⟨(some 8), none, .mov (.t 29)⟩, false, false⟩,
 ⟨⟨(some 9), none, .mov (.c (.int .i64 0))⟩, false, false⟩] [0, 0, 3, 0, 0, 31, 0, 0, 255, 511, 1023, 2047, 4095] [6, 7, 8, 9])
 .ret)))),
 [.tmp 6, .tmp 7, .tmp 8, .tmp 9]⟩

/-- bellpull/route.Cuts -/
noncomputable def sf17 : SFun := ⟨[0, 1, 2, 6, 7, 8, 9, 15], 25,
 (.seq
 (.ops [
 ⟨(some 6), none, .mov (.c .nilsl)⟩,
 ⟨(some 7), none, .mov (.c (.int .i64 0))⟩] [6, 7])
 (.seq
 (.seq
 (.ops [
 ⟨(some 10), none, .mov (.t 0)⟩,
 ⟨(some 11), none, .mov (.t 1)⟩,
 ⟨(some 12), none, .mov (.t 2)⟩,
 ⟨(some 13), none, .call (.c (.fn (.func 36) [] [])) [(.t 10), (.t 11), (.t 12)]⟩,
 ⟨(some 8), none, .mov (.t 13)⟩] [8])
 (.seq
 (.ops [
 ⟨(some 14), none, .mov (.t 8)⟩,
 ⟨(some 15), none, .bin .neq .no (.t 14) (.c (.int .i64 0))⟩] [15])
 (.cond (.t 15)
 (.seq
 (.ops [
 ⟨(some 16), none, .mov (.t 8)⟩,
 ⟨(some 6), none, .mov (.c .nilsl)⟩,
 ⟨(some 7), none, .mov (.t 16)⟩] [6, 7])
 .ret)
 .skip)))
 (.seq
 (.ops [
 ⟨(some 17), none, .mov (.t 1)⟩,
 ⟨(some 18), none, .mov (.t 2)⟩,
 ⟨(some 19), none, .call (.c (.fn (.func 37) [] [])) [(.t 18)]⟩,
 ⟨(some 20), none, .call (.c (.fn (.func 41) [] [])) [(.t 17), (.t 19)]⟩,
 ⟨(some 9), none, .new [(.int .i64 0), (.int .i64 0), (.int .i64 0), (.int .i64 0), (.int .i64 0), (.int .i64 0), (.int .i64 0), (.int .i64 0)]⟩,
 ⟨none, none, .store 8 (.t 9) (.t 20)⟩] [9])
 (.seq
 (.ops [
 ⟨(some 21), none, .mov (.t 0)⟩,
 ⟨(some 22), none, .bin .sub .no (.t 21) (.c (.int .i64 1))⟩,
 ⟨(some 23), none, .arr 8 1 (.t 9) none (some (.t 22))⟩,
 ⟨(some 24), none, .call (.c (.fn (.func 42) [] [])) [(.t 23)]⟩,
 ⟨(some 6), none, .mov (.t 24)⟩,
 ⟨(some 7), none, .mov (.c (.int .i64 0))⟩] [6, 7])
 .ret)))),
 [.tmp 6, .tmp 7]⟩

/-- bellpull/bellpullref07.Graph -/
noncomputable def sf18 : SFun := ⟨[0, 1, 4, 5, 6, 9, 12, 16, 43], 44,
 (.seq
 (.ops [
 ⟨(some 4), none, .mov (.c (.int .i64 0))⟩] [4])
 (.seq
 (.seq
 (.ops [
 ⟨(some 7), none, .mov (.t 1)⟩,
 ⟨(some 8), none, .lenS (.t 7)⟩,
 ⟨(some 9), none, .bin .gtr .no (.t 8) (.c (.int .i64 30))⟩] [9])
 (.cond (.t 9)
 (.seq
 (.ops [
 ⟨(some 4), none, .mov (.c (.int .i64 3))⟩] [4])
 .ret)
 .skip))
 (.seq
 (.seq
 (.ops [
 ⟨(some 10), none, .mov (.t 0)⟩,
 ⟨(some 11), none, .call (.c (.fn (.func 43) [] [])) [(.t 10), (.c (.int .i64 1)), (.c (.int .i64 8))]⟩,
 ⟨(some 12), none, .not (.t 11)⟩] [12])
 (.cond (.t 12)
 (.seq
 (.ops [
 ⟨(some 4), none, .mov (.c (.int .i64 1))⟩] [4])
 .ret)
 .skip))
 (.seq
 (.seq
 (.ops [
 ⟨(some 5), none, .mov (.c (.int .i64 0))⟩] [5])
 (.block 0
 (.loop
 (.seq
 (.seq
 (.ops [
 ⟨(some 13), none, .mov (.t 5)⟩,
 ⟨(some 14), none, .mov (.t 1)⟩,
 ⟨(some 15), none, .lenS (.t 14)⟩,
 ⟨(some 16), none, .bin .lss .no (.t 13) (.t 15)⟩] [16])
 (.cond (.t 16)
 .skip
 (.exit 0)))
 (.seq
 (.block 1
 (.seq
 (.ops [
 ⟨(some 19), none, .mov (.t 1)⟩,
 ⟨(some 20), none, .mov (.t 5)⟩,
 ⟨(some 21), none, .ixS 2 (.t 19) (.t 20)⟩,
 ⟨(some 22), none, .load (some 2) (.t 21)⟩,
 ⟨(some 6), none, .new [(.int .i64 0), (.int .i64 0)]⟩,
 ⟨none, none, .store 2 (.t 6) (.t 22)⟩] [6])
 (.seq
 (.ops [
 ⟨(some 23), none, .fa 0 (.t 6)⟩,
 ⟨(some 24), none, .load none (.t 23)⟩,
 ⟨(some 25), none, .mov (.t 0)⟩,
 ⟨(some 26), none, .bin .sub .no (.t 25) (.c (.int .i64 1))⟩,
 ⟨(some 27), none, .call (.c (.fn (.func 43) [] [])) [(.t 24), (.c (.int .i64 0)), (.t 26)]⟩,
 ⟨(some 28), none, .not (.t 27)⟩,
 ⟨(some 29), none, .mov (.t 28)⟩,
 ⟨(some 30), (some (29, false)), .fa 1 (.t 6)⟩,
 ⟨(some 31), (some (29, false)), .load none (.t 30)⟩,
 ⟨(some 32), (some (29, false)), .mov (.t 0)⟩,
 ⟨(some 33), (some (29, false)), .bin .sub .no (.t 32) (.c (.int .i64 1))⟩,
 ⟨(some 34), (some (29, false)), .call (.c (.fn (.func 43) [] [])) [(.t 31), (.c (.int .i64 0)), (.t 33)]⟩,
 ⟨(some 35), (some (29, false)), .not (.t 34)⟩,
 ⟨(some 36), none, .pick (.t 29) (.c (.bool true)) (.t 35)⟩,
 ⟨(some 37), none, .mov (.t 36)⟩,
 ⟨(some 38), (some (37, false)), .fa 0 (.t 6)⟩,
 ⟨(some 39), (some (37, false)), .load none (.t 38)⟩,
 ⟨(some 40), (some (37, false)), .fa 1 (.t 6)⟩,
 ⟨(some 41), (some (37, false)), .load none (.t 40)⟩,
 ⟨(some 42), (some (37, false)), .bin .eql .no (.t 39) (.t 41)⟩,
 ⟨(some 43), none, .pick (.t 37) (.c (.bool true)) (.t 42)⟩] [43])
 (.cond (.t 43)
 (.seq
 (.ops [
 ⟨(some 4), none, .mov (.c (.int .i64 1))⟩] [4])
 .ret)
 .skip))))
 (.ops [
 ⟨(some 17), none, .mov (.t 5)⟩,
 ⟨(some 18), none, .bin .add .no (.t 17) (.c (.int .i64 1))⟩,
 ⟨(some 5), none, .mov (.t 18)⟩] [5]))))))
 (.seq
 (.ops [
 ⟨(some 4), none, .mov (.c (.int .i64 0))⟩] [4])
 .ret))))),
 [.tmp 4]⟩

/-- bellpull/bellpullref01.Perm -/
noncomputable def sf19 : SFun := ⟨[0, 1, 4, 5, 9, 29], 34,
 (.seq
 (.ops [
 ⟨(some 4), none, .mov (.c (.bool false))⟩] [4])
 (.seq
 (.seq
 (.ops [
 ⟨(some 5), none, .mov (.c (.int .i64 0))⟩] [5])
 (.block 0
 (.loop
 (.seq
 (.seq
 (.ops [
 ⟨(some 6), none, .mov (.t 5)⟩,
 ⟨(some 7), none, .mov (.t 1)⟩,
 ⟨(some 8), none, .lenS (.t 7)⟩,
 ⟨(some 9), none, .bin .lss .no (.t 6) (.t 8)⟩] [9])
 (.cond (.t 9)
 .skip
 (.exit 0)))
 (.seq
 (.block 1
 (.seq
 (.draw [
 ⟨⟨(some 12), none, .mov (.t 1)⟩, false, false⟩,
 ⟨⟨(some 13), none, .mov (.t 5)⟩, false, false⟩,
 ⟨⟨(some 14), none, .ixS 1 (.t 12) (.t 13)⟩, false, false⟩,
 ⟨⟨(some 15), none, .load none (.t 14)⟩, true, false⟩,
 ⟨⟨(some 16), none, .mov (.t 0)⟩, false, false⟩,
 ⟨⟨(some 17), none, .bin .sub .no (.t 16) (.c (.int .i64 1))⟩, false, false⟩,
 ⟨⟨(some 18), none, .call (.c (.fn (.func 43) [] [])) [(.t 15), (.c (.int .i64 0)), (.t 17)]⟩, false, true⟩,
 ⟨⟨(some 19), none, .not (.t 18)⟩, false, false⟩,
 ⟨⟨(some 20), none, .mov (.t 19)⟩, false, false⟩,
 ⟨⟨(some 21), (some (20, false)), .mov (.t 1)⟩, false, false⟩,
 ⟨⟨(some 22), (some (20, false)), .mov (.t 5)⟩, false, false⟩,
 ⟨⟨(some 23), (some (20, false)), .slice 1 (.t 21) none (some (.t 22))⟩, false, false⟩,
 ⟨⟨(some 24), (some (20, false)), .mov (.t 1)⟩, false, false⟩,
 ⟨⟨(some 25), (some (20, false)), .mov (.t 5)⟩, false, false⟩,
 ⟨⟨(some 26), (some (20, false)), .ixS 1 (.t 24) (.t 25)⟩, false, false⟩,
 ⟨⟨(some 27), (some (20, false)), .load none (.t 26)⟩, true, false⟩,
 ⟨⟨(some 28), (some (20, false)), .call (.c (.fn (.func 44) [] [])) [(.t 23), (.t 27)]⟩, false, true⟩,
 ⟨⟨(some 29), none, .pick (.t 20) (.c (.bool true)) (.t 28)⟩, false, false⟩] [0, 0, 3, 7, 0, 16, 63, 127, 255, 511, 511, 2047, 511, 511, 12799, 29183, 65535, 131071] [29])
 (.cond (.t 29)
 (.seq
 (.ops [
 ⟨(some 4), none, .mov (.c (.bool false))⟩] [4])
 .ret)
 .skip)))
 (.ops [
 ⟨(some 10), none, .mov (.t 5)⟩,
 ⟨(some 11), none, .bin .add .no (.t 10) (.c (.int .i64 1))⟩,
 ⟨(some 5), none, .mov (.t 11)⟩] [5]))))))
 (.seq
 (.ops [
 ⟨(some 30), none, .mov (.t 1)⟩,
 ⟨(some 31), none, .lenS (.t 30)⟩,
 ⟨(some 32), none, .mov (.t 0)⟩,
 ⟨(some 33), none, .bin .eql .no (.t 31) (.t 32)⟩,
 ⟨(some 4), none, .mov (.t 33)⟩] [4])
 .ret))),
 [.tmp 4]⟩

/-- bellpull/bellpulllaw07.lives -/
noncomputable def sf20 : SFun := ⟨[0, 1, 2, 3, 4, 5, 6, 7, 8, 9, 10, 11, 12, 13, 14, 15, 16], 117,
 (.seq
 (.ops [
 ⟨(some 0), none, .mov (.c (.bool false))⟩] [0])
 (.seq
 (.ops [
 ⟨(some 17), none, .build [(.int .i64 0), (.int .i64 0)] [(0, 1), (1, 1)] [(0, (.c (.int .i64 0))), (1, (.c (.int .i64 1)))]⟩,
 ⟨(some 18), none, .build [(.int .i64 0), (.int .i64 0)] [(0, 1), (1, 1)] [(0, (.c (.int .i64 0))), (1, (.c (.int .i64 2)))]⟩,
 ⟨(some 19), none, .build [(.int .i64 0), (.int .i64 0)] [(0, 1), (1, 1)] [(0, (.c (.int .i64 0))), (1, (.c (.int .i64 3)))]⟩,
 ⟨(some 20), none, .buildS [(.int .i64 0), (.int .i64 0)] 3 2 [(0, (.t 17)), (1, (.t 18)), (2, (.t 19))]⟩,
 ⟨(some 1), none, .mov (.t 20)⟩] [1])
 (.seq
 (.ops [
 ⟨(some 22), none, .mov (.t 1)⟩,
 ⟨(some 23), none, .call (.c (.fn (.func 24) [] [])) [(.c (.int .i64 4)), (.t 22)]⟩,
 ⟨(some 21), none, .mov (.t 23)⟩,
 ⟨(some 24), none, .ext (.t 21) 0⟩,
 ⟨(some 25), none, .ext (.t 21) 1⟩,
 ⟨(some 26), none, .ext (.t 21) 2⟩,
 ⟨(some 2), none, .mov (.t 24)⟩,
 ⟨(some 3), none, .mov (.t 25)⟩,
 ⟨(some 4), none, .mov (.t 26)⟩] [2, 3, 4])
 (.seq
 (.ops [
 ⟨(some 28), none, .mov (.t 1)⟩,
 ⟨(some 29), none, .call (.c (.fn (.func 25) [] [])) [(.c (.int .i64 4)), (.t 28)]⟩,
 ⟨(some 27), none, .mov (.t 29)⟩,
 ⟨(some 30), none, .ext (.t 27) 0⟩,
 ⟨(some 31), none, .ext (.t 27) 1⟩,
 ⟨(some 32), none, .ext (.t 27) 2⟩,
 ⟨(some 5), none, .mov (.t 30)⟩,
 ⟨(some 6), none, .mov (.t 31)⟩,
 ⟨(some 7), none, .mov (.t 32)⟩] [5, 6, 7])
 (.seq
 (.ops [
 ⟨(some 34), none, .mov (.t 1)⟩,
 ⟨(some 35), none, .call (.c (.fn (.func 26) [] [])) [(.c (.int .i64 4)), (.t 34)]⟩,
 ⟨(some 33), none, .mov (.t 35)⟩,
 ⟨(some 36), none, .ext (.t 33) 0⟩,
 ⟨(some 37), none, .ext (.t 33) 1⟩,
 ⟨(some 38), none, .ext (.t 33) 2⟩,
 ⟨(some 8), none, .mov (.t 36)⟩,
 ⟨(some 9), none, .mov (.t 37)⟩,
 ⟨(some 10), none, .mov (.t 38)⟩] [8, 9, 10])
 (.seq
 (.ops [
 ⟨(some 40), none, .build [(.int .i64 0), (.int .i64 0)] [(0, 1), (1, 1)] [(0, (.c (.int .i64 0))), (1, (.c (.int .i64 1)))]⟩,
 ⟨(some 41), none, .build [(.int .i64 0), (.int .i64 0)] [(0, 1), (1, 1)] [(0, (.c (.int .i64 1))), (1, (.c (.int .i64 2)))]⟩,
 ⟨(some 42), none, .build [(.int .i64 0), (.int .i64 0)] [(0, 1), (1, 1)] [(0, (.c (.int .i64 2))), (1, (.c (.int .i64 3)))]⟩,
 ⟨(some 43), none, .build [(.int .i64 0), (.int .i64 0)] [(0, 1), (1, 1)] [(0, (.c (.int .i64 3))), (1, (.c (.int .i64 0)))]⟩,
 ⟨(some 44), none, .buildS [(.int .i64 0), (.int .i64 0)] 4 2 [(0, (.t 40)), (1, (.t 41)), (2, (.t 42)), (3, (.t 43))]⟩,
 ⟨(some 45), none, .call (.c (.fn (.func 29) [] [])) [(.c (.int .i64 4)), (.t 44)]⟩,
 ⟨(some 39), none, .mov (.t 45)⟩,
 ⟨(some 46), none, .ext (.t 39) 0⟩,
 ⟨(some 47), none, .ext (.t 39) 1⟩,
 ⟨(some 11), none, .mov (.t 46)⟩,
 ⟨(some 12), none, .mov (.t 47)⟩] [11, 12])
 (.seq
 (.ops [
 ⟨(some 49), none, .mov (.t 1)⟩,
 ⟨(some 50), none, .buildS [(.int .i64 0)] 4 1 [(0, (.c (.int .i64 0))), (1, (.c (.int .i64 1))), (2, (.c (.int .i64 2))), (3, (.c (.int .i64 3)))]⟩,
 ⟨(some 51), none, .call (.c (.fn (.func 16) [] [])) [(.c (.int .i64 4)), (.t 49), (.t 50)]⟩,
 ⟨(some 48), none, .mov (.t 51)⟩,
 ⟨(some 52), none, .ext (.t 48) 0⟩,
 ⟨(some 53), none, .ext (.t 48) 1⟩,
 ⟨(some 54), none, .ext (.t 48) 2⟩,
 ⟨(some 55), none, .ext (.t 48) 3⟩,
 ⟨(some 13), none, .mov (.t 52)⟩,
 ⟨(some 14), none, .mov (.t 53)⟩,
 ⟨(some 15), none, .mov (.t 54)⟩,
 ⟨(some 16), none, .mov (.t 55)⟩] [13, 14, 15, 16])
 (.seq
 (.ops [
 ⟨(some 56), none, .mov (.t 2)⟩,
 ⟨(some 57), none, .bin .eql .no (.t 56) (.c (.int .i64 2))⟩,
 ⟨(some 58), none, .mov (.t 57)⟩,
 ⟨(some 59), (some (58, true)), .mov (.t 3)⟩,
 ⟨(some 60), (some (58, true)), .buildS [(.int .i64 0)] 4 1 [(0, (.c (.int .i64 1))), (1, (.c (.int .i64 0))), (2, (.c (.int .i64 2))), (3, (.c (.int .i64 3)))]⟩,
 ⟨(some 61), (some (58, true)), .call (.c (.fn (.func 22) [] [])) [(.t 59), (.t 60)]⟩,
 ⟨(some 62), none, .pick (.t 58) (.t 61) (.c (.bool false))⟩,
 ⟨(some 63), none, .mov (.t 62)⟩,
 ⟨(some 64), (some (63, true)), .mov (.t 4)⟩,
 ⟨(some 65), (some (63, true)), .bin .eql .no (.t 64) (.c (.int .i64 0))⟩,
 ⟨(some 66), none, .pick (.t 63) (.t 65) (.c (.bool false))⟩,
 ⟨(some 67), none, .mov (.t 66)⟩,
 ⟨(some 68), (some (67, true)), .mov (.t 5)⟩,
 ⟨(some 69), (some (67, true)), .bin .eql .no (.t 68) (.c (.int .i64 2))⟩,
 ⟨(some 70), none, .pick (.t 67) (.t 69) (.c (.bool false))⟩,
 ⟨(some 71), none, .mov (.t 70)⟩,
 ⟨(some 72), (some (71, true)), .mov (.t 6)⟩,
 ⟨(some 73), (some (71, true)), .buildS [(.int .i64 0)] 4 1 [(0, (.c (.int .i64 1))), (1, (.c (.int .i64 0))), (2, (.c (.int .i64 2))), (3, (.c (.int .i64 3)))]⟩,
 ⟨(some 74), (some (71, true)), .call (.c (.fn (.func 22) [] [])) [(.t 72), (.t 73)]⟩,
 ⟨(some 75), none, .pick (.t 71) (.t 74) (.c (.bool false))⟩,
 ⟨(some 76), none, .mov (.t 75)⟩,
 ⟨(some 77), (some (76, true)), .mov (.t 7)⟩,
 ⟨(some 78), (some (76, true)), .bin .eql .no (.t 77) (.c (.int .i64 0))⟩,
 ⟨(some 79), none, .pick (.t 76) (.t 78) (.c (.bool false))⟩,
 ⟨(some 80), none, .mov (.t 79)⟩,
 ⟨(some 81), (some (80, true)), .mov (.t 8)⟩,
 ⟨(some 82), (some (80, true)), .bin .eql .no (.t 81) (.c (.int .i64 4))⟩,
 ⟨(some 83), none, .pick (.t 80) (.t 82) (.c (.bool false))⟩,
 ⟨(some 84), none, .mov (.t 83)⟩,
 ⟨(some 85), (some (84, true)), .mov (.t 9)⟩,
 ⟨(some 86), (some (84, true)), .buildS [(.int .i64 0)] 4 1 [(0, (.c (.int .i64 1))), (1, (.c (.int .i64 0))), (2, (.c (.int .i64 2))), (3, (.c (.int .i64 3)))]⟩,
 ⟨(some 87), (some (84, true)), .call (.c (.fn (.func 22) [] [])) [(.t 85), (.t 86)]⟩,
 ⟨(some 88), none, .pick (.t 84) (.t 87) (.c (.bool false))⟩,
 ⟨(some 89), none, .mov (.t 88)⟩,
 ⟨(some 90), (some (89, true)), .mov (.t 10)⟩,
 ⟨(some 91), (some (89, true)), .bin .eql .no (.t 90) (.c (.int .i64 0))⟩,
 ⟨(some 92), none, .pick (.t 89) (.t 91) (.c (.bool false))⟩,
 ⟨(some 93), none, .mov (.t 92)⟩,
 ⟨(some 94), (some (93, true)), .mov (.t 11)⟩,
 ⟨(some 95), (some (93, true)), .bin .eql .no (.t 94) (.c (.int .i64 2))⟩,
 ⟨(some 96), none, .pick (.t 93) (.t 95) (.c (.bool false))⟩,
 ⟨(some 97), none, .mov (.t 96)⟩,
 ⟨(some 98), (some (97, true)), .mov (.t 12)⟩,
 ⟨(some 99), (some (97, true)), .bin .eql .no (.t 98) (.c (.int .i64 0))⟩,
 ⟨(some 100), none, .pick (.t 97) (.t 99) (.c (.bool false))⟩,
 ⟨(some 101), none, .mov (.t 100)⟩,
 ⟨(some 102), (some (101, true)), .mov (.t 13)⟩,
 ⟨(some 103), (some (101, true)), .bin .eql .no (.t 102) (.c (.int .i64 3))⟩,
 ⟨(some 104), none, .pick (.t 101) (.t 103) (.c (.bool false))⟩,
 ⟨(some 105), none, .mov (.t 104)⟩,
 ⟨(some 106), (some (105, true)), .mov (.t 14)⟩,
 ⟨(some 107), (some (105, true)), .bin .eql .no (.t 106) (.c (.int .i64 3))⟩,
 ⟨(some 108), none, .pick (.t 105) (.t 107) (.c (.bool false))⟩,
 ⟨(some 109), none, .mov (.t 108)⟩,
 ⟨(some 110), (some (109, true)), .mov (.t 15)⟩,
 ⟨(some 111), (some (109, true)), .bin .eql .no (.t 110) (.c (.int .i64 6))⟩,
 ⟨(some 112), none, .pick (.t 109) (.t 111) (.c (.bool false))⟩,
 ⟨(some 113), none, .mov (.t 112)⟩,
 ⟨(some 114), (some (113, true)), .mov (.t 16)⟩,
 ⟨(some 115), (some (113, true)), .bin .eql .no (.t 114) (.c (.int .i64 0))⟩,
 ⟨(some 116), none, .pick (.t 113) (.t 115) (.c (.bool false))⟩,
 ⟨(some 0), none, .mov (.t 116)⟩] [0])
 .ret)))))))),
 [.tmp 0]⟩

/-- bellpull/bellpullref07.Measure -/
noncomputable def sf21 : SFun := ⟨[0, 1, 4, 5, 6, 7, 8, 9, 10, 11, 12, 13, 14, 23, 70], 82,
 (.seq
 (.ops [
 ⟨(some 4), none, .mov (.c (.int .i64 0))⟩,
 ⟨(some 5), none, .mov (.c (.int .i64 0))⟩,
 ⟨(some 6), none, .mov (.c (.int .i64 0))⟩] [4, 5, 6])
 (.seq
 (.ops [
 ⟨(some 15), none, .mov (.t 1)⟩,
 ⟨(some 16), none, .call (.c (.fn (.func 45) [] [])) [(.t 15)]⟩,
 ⟨(some 17), none, .mov (.t 0)⟩,
 ⟨(some 18), none, .mov (.t 1)⟩,
 ⟨(some 19), none, .call (.c (.fn (.func 23) [] [])) [(.t 17), (.t 18)]⟩,
 ⟨(some 7), none, .mov (.t 16)⟩,
 ⟨(some 8), none, .mov (.t 19)⟩] [7, 8])
 (.seq
 (.ops [
 ⟨(some 9), none, .mov (.c (.int .i64 0))⟩,
 ⟨(some 10), none, .mov (.c (.int .i64 0))⟩,
 ⟨(some 11), none, .mov (.c (.int .i64 0))⟩] [9, 10, 11])
 (.seq
 (.seq
 (.ops [
 ⟨(some 12), none, .mov (.c (.int .i64 0))⟩] [12])
 (.block 0
 (.loop
 (.seq
 (.seq
 (.ops [
 ⟨(some 20), none, .mov (.t 12)⟩,
 ⟨(some 21), none, .mov (.t 0)⟩,
 ⟨(some 22), none, .lenS (.t 21)⟩,
 ⟨(some 23), none, .bin .lss .no (.t 20) (.t 22)⟩] [23])
 (.cond (.t 23)
 .skip
 (.exit 0)))
 (.seq
 (.block 1
 (.seq
 (.ops [
 ⟨(some 26), none, .mov (.t 7)⟩,
 ⟨(some 27), none, .mov (.t 0)⟩,
 ⟨(some 28), none, .mov (.t 12)⟩,
 ⟨(some 29), none, .ixS 2 (.t 27) (.t 28)⟩,
 ⟨(some 30), none, .fa 0 (.t 29)⟩,
 ⟨(some 31), none, .load none (.t 30)⟩,
 ⟨(some 32), none, .ixS 1 (.t 26) (.t 31)⟩,
 ⟨(some 33), none, .load none (.t 32)⟩,
 ⟨(some 34), none, .mov (.t 7)⟩,
 ⟨(some 35), none, .mov (.t 0)⟩,
 ⟨(some 36), none, .mov (.t 12)⟩,
 ⟨(some 37), none, .ixS 2 (.t 35) (.t 36)⟩,
 ⟨(some 38), none, .fa 1 (.t 37)⟩,
 ⟨(some 39), none, .load none (.t 38)⟩,
 ⟨(some 40), none, .ixS 1 (.t 34) (.t 39)⟩,
 ⟨(some 41), none, .load none (.t 40)⟩,
 ⟨(some 42), none, .bin .sub .no (.t 33) (.t 41)⟩,
 ⟨(some 43), none, .mov (.t 7)⟩,
 ⟨(some 44), none, .mov (.t 0)⟩,
 ⟨(some 45), none, .mov (.t 12)⟩,
 ⟨(some 46), none, .ixS 2 (.t 44) (.t 45)⟩,
 ⟨(some 47), none, .fa 1 (.t 46)⟩,
 ⟨(some 48), none, .load none (.t 47)⟩,
 ⟨(some 49), none, .ixS 1 (.t 43) (.t 48)⟩,
 ⟨(some 50), none, .load none (.t 49)⟩,
 ⟨(some 51), none, .mov (.t 7)⟩,
 ⟨(some 52), none, .mov (.t 0)⟩,
 ⟨(some 53), none, .mov (.t 12)⟩,
 ⟨(some 54), none, .ixS 2 (.t 52) (.t 53)⟩,
 ⟨(some 55), none, .fa 0 (.t 54)⟩,
 ⟨(some 56), none, .load none (.t 55)⟩,
 ⟨(some 57), none, .ixS 1 (.t 51) (.t 56)⟩,
 ⟨(some 58), none, .load none (.t 57)⟩,
 ⟨(some 59), none, .bin .sub .no (.t 50) (.t 58)⟩,
 ⟨(some 60), none, .mx (.t 42) (.t 59)⟩,
 ⟨(some 13), none, .mov (.t 60)⟩] [13])
 (.seq
 (.ops [
 ⟨(some 61), none, .mov (.t 9)⟩,
 ⟨(some 62), none, .mov (.t 13)⟩,
 ⟨(some 63), none, .mx (.t 61) (.t 62)⟩,
 ⟨(some 9), none, .mov (.t 63)⟩] [9])
 (.ops [
 ⟨(some 64), none, .mov (.t 11)⟩,
 ⟨(some 65), none, .mov (.t 13)⟩,
 ⟨(some 66), none, .bin .add .no (.t 64) (.t 65)⟩,
 ⟨(some 11), none, .mov (.t 66)⟩] [11]))))
 (.ops [
 ⟨(some 24), none, .mov (.t 12)⟩,
 ⟨(some 25), none, .bin .add .no (.t 24) (.c (.int .i64 1))⟩,
 ⟨(some 12), none, .mov (.t 25)⟩] [12]))))))
 (.seq
 (.seq
 (.ops [
 ⟨(some 14), none, .mov (.c (.int .i64 0))⟩] [14])
 (.block 2
 (.loop
 (.seq
 (.seq
 (.ops [
 ⟨(some 67), none, .mov (.t 14)⟩,
 ⟨(some 68), none, .mov (.t 8)⟩,
 ⟨(some 69), none, .lenS (.t 68)⟩,
 ⟨(some 70), none, .bin .lss .no (.t 67) (.t 69)⟩] [70])
 (.cond (.t 70)
 .skip
 (.exit 2)))
 (.seq
 (.block 3
 (.ops [
 ⟨(some 73), none, .mov (.t 10)⟩,
 ⟨(some 74), none, .mov (.t 8)⟩,
 ⟨(some 75), none, .mov (.t 14)⟩,
 ⟨(some 76), none, .ixS 1 (.t 74) (.t 75)⟩,
 ⟨(some 77), none, .load none (.t 76)⟩,
 ⟨(some 78), none, .mx (.t 73) (.t 77)⟩,
 ⟨(some 10), none, .mov (.t 78)⟩] [10]))
 (.ops [
 ⟨(some 71), none, .mov (.t 14)⟩,
 ⟨(some 72), none, .bin .add .no (.t 71) (.c (.int .i64 1))⟩,
 ⟨(some 14), none, .mov (.t 72)⟩] [14]))))))
 (.seq
 (.ops [
 ⟨(some 79), none, .mov (.t 9)⟩,
 ⟨(some 80), none, .mov (.t 10)⟩,
 ⟨(some 81), none, .mov (.t 11)⟩,
 ⟨(some 4), none, .mov (.t 79)⟩,
 ⟨(some 5), none, .mov (.t 80)⟩,
 ⟨(some 6), none, .mov (.t 81)⟩] [4, 5, 6])
 .ret)))))),
 [.tmp 4, .tmp 5, .tmp 6]⟩

/-- bellpull/bellpullref01.Same -/
noncomputable def sf22 : SFun := ⟨[0, 1, 4], 15,
 (.seq
 (.ops [
 ⟨(some 4), none, .mov (.c (.bool false))⟩] [4])
 (.seq
 (.ops [
 ⟨(some 5), none, .mov (.t 0)⟩,
 ⟨(some 6), none, .mov (.t 1)⟩,
 ⟨(some 7), none, .call (.c (.fn (.func 46) [] [])) [(.t 5), (.t 6)]⟩,
 ⟨(some 8), none, .not (.t 7)⟩,
 ⟨(some 9), none, .mov (.t 8)⟩,
 ⟨(some 10), (some (9, true)), .mov (.t 1)⟩,
 ⟨(some 11), (some (9, true)), .mov (.t 0)⟩,
 ⟨(some 12), (some (9, true)), .call (.c (.fn (.func 46) [] [])) [(.t 10), (.t 11)]⟩,
 ⟨(some 13), (some (9, true)), .not (.t 12)⟩,
 ⟨(some 14), none, .pick (.t 9) (.t 13) (.c (.bool false))⟩,
 ⟨(some 4), none, .mov (.t 14)⟩] [4])
 .ret)),
 [.tmp 4]⟩

/-- bellpull/bellpullref07.Cuts -/
noncomputable def sf23 : SFun := ⟨[0, 1, 4, 5, 6, 7, 8, 9, 17, 23, 46], 54,
 (.seq
 (.ops [
 ⟨(some 4), none, .mov (.c .nilsl)⟩] [4])
 (.seq
 (.ops [
 ⟨(some 10), none, .mov (.t 1)⟩,
 ⟨(some 11), none, .call (.c (.fn (.func 45) [] [])) [(.t 10)]⟩,
 ⟨(some 12), none, .buildS [(.int .i64 0)] 0 1 []⟩,
 ⟨(some 5), none, .mov (.t 11)⟩,
 ⟨(some 6), none, .mov (.t 12)⟩] [5, 6])
 (.seq
 (.seq
 (.ops [
 ⟨(some 7), none, .mov (.c (.int .i64 0))⟩] [7])
 (.block 0
 (.loop
 (.seq
 (.seq
 (.ops [
 ⟨(some 13), none, .mov (.t 7)⟩,
 ⟨(some 14), none, .bin .add .no (.t 13) (.c (.int .i64 1))⟩,
 ⟨(some 15), none, .mov (.t 1)⟩,
 ⟨(some 16), none, .lenS (.t 15)⟩,
 ⟨(some 17), none, .bin .lss .no (.t 14) (.t 16)⟩] [17])
 (.cond (.t 17)
 .skip
 (.exit 0)))
 (.seq
 (.block 1
 (.seq
 (.ops [
 ⟨(some 8), none, .mov (.c (.int .i64 0))⟩] [8])
 (.seq
 (.seq
 (.ops [
 ⟨(some 9), none, .mov (.c (.int .i64 0))⟩] [9])
 (.block 2
 (.loop
 (.seq
 (.seq
 (.ops [
 ⟨(some 20), none, .mov (.t 9)⟩,
 ⟨(some 21), none, .mov (.t 0)⟩,
 ⟨(some 22), none, .lenS (.t 21)⟩,
 ⟨(some 23), none, .bin .lss .no (.t 20) (.t 22)⟩] [23])
 (.cond (.t 23)
 .skip
 (.exit 2)))
 (.seq
 (.block 3
 (.seq
 (.ops [
 ⟨(some 26), none, .mov (.t 5)⟩,
 ⟨(some 27), none, .mov (.t 0)⟩,
 ⟨(some 28), none, .mov (.t 9)⟩,
 ⟨(some 29), none, .ixS 2 (.t 27) (.t 28)⟩,
 ⟨(some 30), none, .fa 0 (.t 29)⟩,
 ⟨(some 31), none, .load none (.t 30)⟩,
 ⟨(some 32), none, .ixS 1 (.t 26) (.t 31)⟩,
 ⟨(some 33), none, .load none (.t 32)⟩,
 ⟨(some 34), none, .mov (.t 7)⟩,
 ⟨(some 35), none, .bin .leq .no (.t 33) (.t 34)⟩,
 ⟨(some 36), none, .mov (.t 5)⟩,
 ⟨(some 37), none, .mov (.t 0)⟩,
 ⟨(some 38), none, .mov (.t 9)⟩,
 ⟨(some 39), none, .ixS 2 (.t 37) (.t 38)⟩,
 ⟨(some 40), none, .fa 1 (.t 39)⟩,
 ⟨(some 41), none, .load none (.t 40)⟩,
 ⟨(some 42), none, .ixS 1 (.t 36) (.t 41)⟩,
 ⟨(some 43), none, .load none (.t 42)⟩,
 ⟨(some 44), none, .mov (.t 7)⟩,
 ⟨(some 45), none, .bin .leq .no (.t 43) (.t 44)⟩,
 ⟨(some 46), none, .bin .neq .bool (.t 35) (.t 45)⟩] [46])
 (.cond (.t 46)
 (.ops [
 ⟨(some 47), none, .mov (.t 8)⟩,
 ⟨(some 48), none, .bin .add .no (.t 47) (.c (.int .i64 1))⟩,
 ⟨(some 8), none, .mov (.t 48)⟩] [8])
 .skip)))
 (.ops [
 ⟨(some 24), none, .mov (.t 9)⟩,
 ⟨(some 25), none, .bin .add .no (.t 24) (.c (.int .i64 1))⟩,
 ⟨(some 9), none, .mov (.t 25)⟩] [9]))))))
 (.ops [
 ⟨(some 49), none, .mov (.t 6)⟩,
 ⟨(some 50), none, .mov (.t 8)⟩,
 ⟨(some 51), none, .buildS [(.int .i64 0)] 1 1 [(0, (.t 50))]⟩,
 ⟨(some 52), none, .app true 1 (.t 49) (.t 51)⟩,
 ⟨(some 6), none, .mov (.t 52)⟩] [6]))))
 (.ops [
 ⟨(some 18), none, .mov (.t 7)⟩,
 ⟨(some 19), none, .bin .add .no (.t 18) (.c (.int .i64 1))⟩,
 ⟨(some 7), none, .mov (.t 19)⟩] [7]))))))
 (.seq
 (.ops [
 ⟨(some 53), none, .mov (.t 6)⟩,
 ⟨(some 4), none, .mov (.t 53)⟩] [4])
 .ret)))),
 [.tmp 4]⟩

/-- bellpull/route.Band -/
noncomputable def sf24 : SFun := ⟨[0, 1, 4, 5, 6], 14,
 (.seq
 (.ops [
 ⟨(some 4), none, .mov (.c (.int .i64 0))⟩,
 ⟨(some 5), none, .mov (.c .nilsl)⟩,
 ⟨(some 6), none, .mov (.c (.int .i64 0))⟩] [4, 5, 6])
 (.seq
 (.ops [
 ⟨(some 7), none, .mov (.t 0)⟩,
 ⟨(some 8), none, .mov (.t 1)⟩,
 ⟨(some 9), none, .build [(.int .i64 0), .nilsl, .nilfn] [(0, 1), (1, 1), (2, 1)] [(0, (.t 7)), (1, (.t 8)), (2, (.c (.fn (.func 38) [] [])))]⟩,
 ⟨(some 10), none, .call (.c (.fn (.func 47) [] [])) [(.t 9)]⟩,
 ⟨(some 11), none, .ext (.t 10) 0⟩,
 ⟨(some 12), none, .ext (.t 10) 1⟩,
 ⟨(some 13), none, .ext (.t 10) 2⟩,
 ⟨(some 4), none, .mov (.t 11)⟩,
 ⟨(some 5), none, .mov (.t 12)⟩,
 ⟨(some 6), none, .mov (.t 13)⟩] [4, 5, 6])
 .ret)),
 [.tmp 4, .tmp 5, .tmp 6]⟩

/-- bellpull/route.Cut -/
noncomputable def sf25 : SFun := ⟨[0, 1, 4, 5, 6], 14,
 (.seq
 (.ops [
 ⟨(some 4), none, .mov (.c (.int .i64 0))⟩,
 ⟨(some 5), none, .mov (.c .nilsl)⟩,
 ⟨(some 6), none, .mov (.c (.int .i64 0))⟩] [4, 5, 6])
 (.seq
 (.ops [
 ⟨(some 7), none, .mov (.t 0)⟩,
 ⟨(some 8), none, .mov (.t 1)⟩,
 ⟨(some 9), none, .build [(.int .i64 0), .nilsl, .nilfn] [(0, 1), (1, 1), (2, 1)] [(0, (.t 7)), (1, (.t 8)), (2, (.c (.fn (.func 39) [] [])))]⟩,
 ⟨(some 10), none, .call (.c (.fn (.func 47) [] [])) [(.t 9)]⟩,
 ⟨(some 11), none, .ext (.t 10) 0⟩,
 ⟨(some 12), none, .ext (.t 10) 1⟩,
 ⟨(some 13), none, .ext (.t 10) 2⟩,
 ⟨(some 4), none, .mov (.t 11)⟩,
 ⟨(some 5), none, .mov (.t 12)⟩,
 ⟨(some 6), none, .mov (.t 13)⟩] [4, 5, 6])
 .ret)),
 [.tmp 4, .tmp 5, .tmp 6]⟩

/-- bellpull/route.Arrange -/
noncomputable def sf26 : SFun := ⟨[0, 1, 4, 5, 6], 14,
 (.seq
 (.ops [
 ⟨(some 4), none, .mov (.c (.int .i64 0))⟩,
 ⟨(some 5), none, .mov (.c .nilsl)⟩,
 ⟨(some 6), none, .mov (.c (.int .i64 0))⟩] [4, 5, 6])
 (.seq
 (.ops [
 ⟨(some 7), none, .mov (.t 0)⟩,
 ⟨(some 8), none, .mov (.t 1)⟩,
 ⟨(some 9), none, .build [(.int .i64 0), .nilsl, .nilfn] [(0, 1), (1, 1), (2, 1)] [(0, (.t 7)), (1, (.t 8)), (2, (.c (.fn (.func 40) [] [])))]⟩,
 ⟨(some 10), none, .call (.c (.fn (.func 47) [] [])) [(.t 9)]⟩,
 ⟨(some 11), none, .ext (.t 10) 0⟩,
 ⟨(some 12), none, .ext (.t 10) 1⟩,
 ⟨(some 13), none, .ext (.t 10) 2⟩,
 ⟨(some 4), none, .mov (.t 11)⟩,
 ⟨(some 5), none, .mov (.t 12)⟩,
 ⟨(some 6), none, .mov (.t 13)⟩] [4, 5, 6])
 .ret)),
 [.tmp 4, .tmp 5, .tmp 6]⟩

/-- bellpull/bellpullref07.All -/
noncomputable def sf27 : SFun := ⟨[0, 1, 4, 5], 16,
 (.seq
 (.ops [
 ⟨(some 4), none, .mov (.c .nilptr)⟩] [4])
 (.seq
 (.ops [
 ⟨(some 6), none, .mks [(.int .i64 0)] 1 (.c (.int .i64 3)) (.c (.int .i64 3))⟩,
 ⟨(some 7), none, .mks [.nilsl] 1 (.c (.int .i64 3)) (.c (.int .i64 3))⟩,
 ⟨(some 8), none, .build [.nilsl, .nilsl] [(0, 1), (1, 1)] [(0, (.t 6)), (1, (.t 7))]⟩,
 ⟨(some 9), none, .box (.t 8)⟩,
 ⟨(some 5), none, .mov (.t 9)⟩] [5])
 (.seq
 (.ops [
 ⟨(some 10), none, .mov (.t 0)⟩,
 ⟨(some 11), none, .mov (.t 1)⟩,
 ⟨(some 12), none, .buildS [(.int .i64 0)] 0 1 []⟩,
 ⟨(some 13), none, .mov (.t 5)⟩,
 ⟨(some 14), none, .call (.c (.fn (.func 48) [] [])) [(.t 10), (.t 11), (.t 12), (.t 13)]⟩] [])
 (.seq
 (.ops [
 ⟨(some 15), none, .mov (.t 5)⟩,
 ⟨(some 4), none, .mov (.t 15)⟩] [4])
 .ret)))),
 [.tmp 4]⟩

/-- bellpull/bellpullref01.SameLists -/
noncomputable def sf28 : SFun := ⟨[0, 1, 4, 5, 10, 14, 26], 27,
 (.seq
 (.ops [
 ⟨(some 4), none, .mov (.c (.bool false))⟩] [4])
 (.seq
 (.seq
 (.ops [
 ⟨(some 6), none, .mov (.t 0)⟩,
 ⟨(some 7), none, .lenS (.t 6)⟩,
 ⟨(some 8), none, .mov (.t 1)⟩,
 ⟨(some 9), none, .lenS (.t 8)⟩,
 ⟨(some 10), none, .bin .neq .no (.t 7) (.t 9)⟩] [10])
 (.cond (.t 10)
 (.seq
 (.ops [
 ⟨(some 4), none, .mov (.c (.bool false))⟩] [4])
 .ret)
 .skip))
 (.seq
 (.seq
 (.ops [
 ⟨(some 5), none, .mov (.c (.int .i64 0))⟩] [5])
 (.block 0
 (.loop
 (.seq
 (.seq
 (.ops [
 ⟨(some 11), none, .mov (.t 5)⟩,
 ⟨(some 12), none, .mov (.t 0)⟩,
 ⟨(some 13), none, .lenS (.t 12)⟩,
 ⟨(some 14), none, .bin .lss .no (.t 11) (.t 13)⟩] [14])
 (.cond (.t 14)
 .skip
 (.exit 0)))
 (.seq
 (.block 1
 (.seq
 (.draw [
 ⟨⟨(some 17), none, .mov (.t 0)⟩, false, false⟩,
 ⟨⟨(some 18), none, .mov (.t 5)⟩, false, false⟩,
 ⟨⟨(some 19), none, .ixS 1 (.t 17) (.t 18)⟩, false, false⟩,
 ⟨⟨(some 20), none, .load none (.t 19)⟩, true, false⟩,
 ⟨⟨(some 21), none, .mov (.t 1)⟩, false, false⟩,
 ⟨⟨(some 22), none, .mov (.t 5)⟩, false, false⟩,
 ⟨⟨(some 23), none, .ixS 1 (.t 21) (.t 22)⟩, false, false⟩,
 ⟨⟨(some 24), none, .load none (.t 23)⟩, true, false⟩,
 ⟨⟨(some 25), none, .call (.c (.fn (.func 22) [] [])) [(.t 20), (.t 24)]⟩, false, true⟩,
 ⟨⟨(some 26), none, .not (.t 25)⟩, false, false⟩] [0, 0, 3, 7, 0, 0, 48, 112, 255, 511] [26])
 (.cond (.t 26)
 (.seq
 (.ops [
 ⟨(some 4), none, .mov (.c (.bool false))⟩] [4])
 .ret)
 .skip)))
 (.ops [
 ⟨(some 15), none, .mov (.t 5)⟩,
 ⟨(some 16), none, .bin .add .no (.t 15) (.c (.int .i64 1))⟩,
 ⟨(some 5), none, .mov (.t 16)⟩] [5]))))))
 (.seq
 (.ops [
 ⟨(some 4), none, .mov (.c (.bool true))⟩] [4])
 .ret)))),
 [.tmp 4]⟩

/-- bellpull/route.Bound -/
noncomputable def sf29 : SFun := ⟨[0, 1, 4, 5, 6, 7, 8, 13, 26], 36,
 (.seq
 (.ops [
 ⟨(some 4), none, .mov (.c (.int .i64 0))⟩,
 ⟨(some 5), none, .mov (.c (.int .i64 0))⟩] [4, 5])
 (.seq
 (.seq
 (.ops [
 ⟨(some 9), none, .mov (.t 0)⟩,
 ⟨(some 10), none, .mov (.t 1)⟩,
 ⟨(some 11), none, .call (.c (.fn (.func 49) [] [])) [(.t 9), (.t 10)]⟩,
 ⟨(some 6), none, .mov (.t 11)⟩] [6])
 (.seq
 (.ops [
 ⟨(some 12), none, .mov (.t 6)⟩,
 ⟨(some 13), none, .bin .neq .no (.t 12) (.c (.int .i64 0))⟩] [13])
 (.cond (.t 13)
 (.seq
 (.ops [
 ⟨(some 14), none, .mov (.t 6)⟩,
 ⟨(some 4), none, .mov (.c (.int .i64 0))⟩,
 ⟨(some 5), none, .mov (.t 14)⟩] [4, 5])
 .ret)
 .skip)))
 (.seq
 (.ops [
 ⟨(some 15), none, .mov (.t 0)⟩,
 ⟨(some 16), none, .mov (.t 1)⟩,
 ⟨(some 17), none, .call (.c (.fn (.func 50) [] [])) [(.t 15), (.t 16)]⟩,
 ⟨(some 7), none, .new [(.int .i64 0), (.int .i64 0), (.int .i64 0), (.int .i64 0), (.int .i64 0), (.int .i64 0), (.int .i64 0), (.int .i64 0), (.int .i64 0), (.int .i64 0), (.int .i64 0), (.int .i64 0), (.int .i64 0), (.int .i64 0), (.int .i64 0), (.int .i64 0), (.int .i64 0), (.int .i64 0), (.int .i64 0), (.int .i64 0), (.int .i64 0), (.int .i64 0), (.int .i64 0), (.int .i64 0), (.int .i64 0), (.int .i64 0), (.int .i64 0), (.int .i64 0), (.int .i64 0), (.int .i64 0), (.int .i64 0), (.int .i64 0), (.int .i64 0), (.int .i64 0), (.int .i64 0), (.int .i64 0), (.int .i64 0), (.int .i64 0), (.int .i64 0), (.int .i64 0), (.int .i64 0), (.int .i64 0), (.int .i64 0), (.int .i64 0), (.int .i64 0), (.int .i64 0), (.int .i64 0), (.int .i64 0), (.int .i64 0), (.int .i64 0), (.int .i64 0), (.int .i64 0), (.int .i64 0), (.int .i64 0), (.int .i64 0), (.int .i64 0), (.int .i64 0), (.int .i64 0), (.int .i64 0), (.int .i64 0), (.int .i64 0), (.int .i64 0), (.int .i64 0), (.int .i64 0)]⟩,
 ⟨none, none, .store 64 (.t 7) (.t 17)⟩] [7])
 (.seq
 (.ops [
 ⟨(some 18), none, .mov (.t 0)⟩,
 ⟨(some 19), none, .load (some 64) (.t 7)⟩,
 ⟨(some 20), none, .call (.c (.fn (.func 51) [] [])) [(.t 18), (.t 19)]⟩,
 ⟨(some 8), none, .mov (.t 20)⟩] [8])
 (.seq
 (.seq
 (.ops [
 ⟨(some 21), none, .mov (.t 0)⟩,
 ⟨(some 22), none, .bin .lss .no (.t 21) (.c (.int .i64 2))⟩,
 ⟨(some 23), none, .mov (.t 22)⟩,
 ⟨(some 24), (some (23, false)), .mov (.t 8)⟩,
 ⟨(some 25), (some (23, false)), .bin .eql .no (.t 24) (.c (.int .i64 8))⟩,
 ⟨(some 26), none, .pick (.t 23) (.c (.bool true)) (.t 25)⟩] [26])
 (.cond (.t 26)
 (.seq
 (.ops [
 ⟨(some 4), none, .mov (.c (.int .i64 0))⟩,
 ⟨(some 5), none, .mov (.c (.int .i64 5))⟩] [4, 5])
 .ret)
 .skip))
 (.seq
 (.draw [
 ⟨⟨(some 27), none, .mov (.t 0)⟩, false, false⟩,
 ⟨⟨(some 28), none, .bin .sub .no (.t 27) (.c (.int .i64 1))⟩, false, false⟩,
 ⟨⟨(some 29), none, .mov (.t 8)⟩, false, false⟩,
 ⟨⟨(some 30), none, .call (.c (.fn (.func 52) [] [])) [(.t 28), (.t 29)]⟩, false, true⟩,
 ⟨⟨(some 31), none, .mov (.t 0)⟩, false, false⟩,
 ⟨⟨(some 32), none, .load (some 64) (.t 7)⟩, true, false⟩,
 ⟨⟨(some 33), none, .call (.c (.fn (.func 53) [] [])) [(.t 31), (.t 32)]⟩, false, true⟩,
 ⟨⟨(some 34), none, .call (.c (.fn (.func 52) [] [])) [(.t 33), (.c (.int .i64 2))]⟩, false, true⟩,
 ⟨⟨(some 35), none, .mx (.t 30) (.t 34)⟩, false, false⟩,
 ⟨⟨(some 4), none, .mov (.t 35)⟩, false, false⟩,
 ⟨⟨(some 5), none, .mov (.c (.int .i64 0))⟩, false, false⟩] [0, 1, 0, 7, 0, 0, 63, 127, 255, 511, 1023] [4, 5])
 .ret)))))),
 [.tmp 4, .tmp 5]⟩

/-- bellpull/route.Reverse -/
noncomputable def sf30 : SFun := ⟨[0, 2, 3, 4, 15], 21,
 (.seq
 (.ops [
 ⟨(some 2), none, .mov (.c .nilsl)⟩,
 ⟨(some 3), none, .mov (.c (.int .i64 0))⟩] [2, 3])
 (.seq
 (.seq
 (.ops [
 ⟨(some 5), none, .mov (.t 0)⟩,
 ⟨(some 6), none, .lenS (.t 5)⟩,
 ⟨(some 7), none, .call (.c (.fn (.func 54) [] [])) [(.t 6), (.c (.int .i64 1)), (.c (.int .i64 8))]⟩,
 ⟨(some 8), none, .not (.t 7)⟩,
 ⟨(some 9), none, .mov (.t 8)⟩,
 ⟨(some 10), (some (9, false)), .mov (.t 0)⟩,
 ⟨(some 11), (some (9, false)), .mov (.t 0)⟩,
 ⟨(some 12), (some (9, false)), .lenS (.t 11)⟩,
 ⟨(some 13), (some (9, false)), .call (.c (.fn (.func 55) [] [])) [(.t 10), (.t 12)]⟩,
 ⟨(some 14), (some (9, false)), .not (.t 13)⟩,
 ⟨(some 15), none, .pick (.t 9) (.c (.bool true)) (.t 14)⟩] [15])
 (.cond (.t 15)
 (.seq
 (.ops [
 ⟨(some 2), none, .mov (.c .nilsl)⟩,
 ⟨(some 3), none, .mov (.c (.int .i64 2))⟩] [2, 3])
 .ret)
 .skip))
 (.seq
 (.ops [
 ⟨(some 16), none, .mov (.t 0)⟩,
 ⟨(some 17), none, .call (.c (.fn (.func 42) [] [])) [(.t 16)]⟩,
 ⟨(some 4), none, .mov (.t 17)⟩] [4])
 (.seq
 (.ops [
 ⟨(some 18), none, .mov (.t 4)⟩,
 ⟨(some 19), none, .call (.c (.fn (.func 56) [] [])) [(.t 18)]⟩] [])
 (.seq
 (.ops [
 ⟨(some 20), none, .mov (.t 4)⟩,
 ⟨(some 2), none, .mov (.t 20)⟩,
 ⟨(some 3), none, .mov (.c (.int .i64 0))⟩] [2, 3])
 .ret))))),
 [.tmp 2, .tmp 3]⟩

/-- bellpull/bellpullref07.Turned -/
noncomputable def sf31 : SFun := ⟨[0, 2, 3, 4, 10], 21,
 (.seq
 (.ops [
 ⟨(some 2), none, .mov (.c .nilsl)⟩] [2])
 (.seq
 (.ops [
 ⟨(some 5), none, .buildS [(.int .i64 0)] 0 1 []⟩,
 ⟨(some 3), none, .mov (.t 5)⟩] [3])
 (.seq
 (.seq
 (.ops [
 ⟨(some 6), none, .mov (.t 0)⟩,
 ⟨(some 7), none, .lenS (.t 6)⟩,
 ⟨(some 8), none, .bin .sub .no (.t 7) (.c (.int .i64 1))⟩,
 ⟨(some 4), none, .mov (.t 8)⟩] [4])
 (.block 0
 (.loop
 (.seq
 (.seq
 (.ops [
 ⟨(some 9), none, .mov (.t 4)⟩,
 ⟨(some 10), none, .bin .geq .no (.t 9) (.c (.int .i64 0))⟩] [10])
 (.cond (.t 10)
 .skip
 (.exit 0)))
 (.seq
 (.block 1
 (.ops [
 ⟨(some 13), none, .mov (.t 3)⟩,
 ⟨(some 14), none, .mov (.t 0)⟩,
 ⟨(some 15), none, .mov (.t 4)⟩,
 ⟨(some 16), none, .ixS 1 (.t 14) (.t 15)⟩,
 ⟨(some 17), none, .load none (.t 16)⟩,
 ⟨(some 18), none, .buildS [(.int .i64 0)] 1 1 [(0, (.t 17))]⟩,
 ⟨(some 19), none, .app true 1 (.t 13) (.t 18)⟩,
 ⟨(some 3), none, .mov (.t 19)⟩] [3]))
 (.ops [
 ⟨(some 11), none, .mov (.t 4)⟩,
 ⟨(some 12), none, .bin .sub .no (.t 11) (.c (.int .i64 1))⟩,
 ⟨(some 4), none, .mov (.t 12)⟩] [4]))))))
 (.seq
 (.ops [
 ⟨(some 20), none, .mov (.t 3)⟩,
 ⟨(some 2), none, .mov (.t 20)⟩] [2])
 .ret)))),
 [.tmp 2]⟩

/-- bellpull/bellpullref07.Bound -/
noncomputable def sf32 : SFun := ⟨[0, 1, 4, 5, 6, 7, 8, 9, 10, 11, 12, 13, 14, 15, 16, 17, 20, 27, 34, 55, 65, 78, 81, 87, 115], 131,
 (.seq
 (.ops [
 ⟨(some 4), none, .mov (.c (.int .i64 0))⟩] [4])
 (.seq
 (.ops [
 ⟨(some 5), none, .mov (.c (.int .i64 0))⟩,
 ⟨(some 6), none, .mov (.c (.int .i64 0))⟩] [5, 6])
 (.seq
 (.seq
 (.ops [
 ⟨(some 7), none, .mov (.c (.int .i64 0))⟩] [7])
 (.block 0
 (.loop
 (.seq
 (.seq
 (.ops [
 ⟨(some 18), none, .mov (.t 7)⟩,
 ⟨(some 19), none, .mov (.t 0)⟩,
 ⟨(some 20), none, .bin .lss .no (.t 18) (.t 19)⟩] [20])
 (.cond (.t 20)
 .skip
 (.exit 0)))
 (.seq
 (.block 1
 (.seq
 (.ops [
 ⟨(some 23), none, .mov (.t 7)⟩,
 ⟨(some 24), none, .bin .shl .no (.c (.int .i64 1)) (.t 23)⟩,
 ⟨(some 8), none, .mov (.t 24)⟩,
 ⟨(some 9), none, .mov (.c (.int .i64 0))⟩] [8, 9])
 (.seq
 (.seq
 (.ops [
 ⟨(some 10), none, .mov (.c (.int .i64 1))⟩] [10])
 (.block 2
 (.loop
 (.seq
 (.seq
 (.ops [
 ⟨(some 25), none, .mov (.t 10)⟩,
 ⟨(some 26), none, .mov (.t 0)⟩,
 ⟨(some 27), none, .bin .leq .no (.t 25) (.t 26)⟩] [27])
 (.cond (.t 27)
 .skip
 (.exit 2)))
 (.seq
 (.block 3
 (.seq
 (.ops [
 ⟨(some 30), none, .mov (.t 8)⟩,
 ⟨(some 11), none, .mov (.t 30)⟩] [11])
 (.seq
 (.seq
 (.ops [
 ⟨(some 12), none, .mov (.c (.int .i64 0))⟩] [12])
 (.block 4
 (.loop
 (.seq
 (.seq
 (.ops [
 ⟨(some 31), none, .mov (.t 12)⟩,
 ⟨(some 32), none, .mov (.t 1)⟩,
 ⟨(some 33), none, .lenS (.t 32)⟩,
 ⟨(some 34), none, .bin .lss .no (.t 31) (.t 33)⟩] [34])
 (.cond (.t 34)
 .skip
 (.exit 4)))
 (.seq
 (.block 5
 (.seq
 (.ops [
 ⟨(some 37), none, .mov (.t 1)⟩,
 ⟨(some 38), none, .mov (.t 12)⟩,
 ⟨(some 39), none, .ixS 2 (.t 37) (.t 38)⟩,
 ⟨(some 40), none, .fa 0 (.t 39)⟩,
 ⟨(some 41), none, .load none (.t 40)⟩,
 ⟨(some 42), none, .mov (.t 1)⟩,
 ⟨(some 43), none, .mov (.t 12)⟩,
 ⟨(some 44), none, .ixS 2 (.t 42) (.t 43)⟩,
 ⟨(some 45), none, .fa 1 (.t 44)⟩,
 ⟨(some 46), none, .load none (.t 45)⟩,
 ⟨(some 13), none, .mov (.t 41)⟩,
 ⟨(some 14), none, .mov (.t 46)⟩] [13, 14])
 (.seq
 (.ops [
 ⟨(some 47), none, .mov (.t 8)⟩,
 ⟨(some 48), none, .mov (.t 13)⟩,
 ⟨(some 49), none, .bin .shr .no (.t 47) (.t 48)⟩,
 ⟨(some 50), none, .mov (.t 8)⟩,
 ⟨(some 51), none, .mov (.t 14)⟩,
 ⟨(some 52), none, .bin .shr .no (.t 50) (.t 51)⟩,
 ⟨(some 53), none, .bin .or .no (.t 49) (.t 52)⟩,
 ⟨(some 54), none, .bin .and .no (.t 53) (.c (.int .i64 1))⟩,
 ⟨(some 55), none, .bin .eql .no (.t 54) (.c (.int .i64 1))⟩] [55])
 (.cond (.t 55)
 (.ops [
 ⟨(some 56), none, .mov (.t 11)⟩,
 ⟨(some 57), none, .mov (.t 13)⟩,
 ⟨(some 58), none, .bin .shl .no (.c (.int .i64 1)) (.t 57)⟩,
 ⟨(some 59), none, .mov (.t 14)⟩,
 ⟨(some 60), none, .bin .shl .no (.c (.int .i64 1)) (.t 59)⟩,
 ⟨(some 61), none, .bin .or .no (.t 58) (.t 60)⟩,
 ⟨(some 62), none, .bin .or .no (.t 56) (.t 61)⟩,
 ⟨(some 11), none, .mov (.t 62)⟩] [11])
 .skip))))
 (.ops [
 ⟨(some 35), none, .mov (.t 12)⟩,
 ⟨(some 36), none, .bin .add .no (.t 35) (.c (.int .i64 1))⟩,
 ⟨(some 12), none, .mov (.t 36)⟩] [12]))))))
 (.seq
 (.seq
 (.ops [
 ⟨(some 63), none, .mov (.t 11)⟩,
 ⟨(some 64), none, .mov (.t 8)⟩,
 ⟨(some 65), none, .bin .neq .no (.t 63) (.t 64)⟩] [65])
 (.cond (.t 65)
 (.ops [
 ⟨(some 66), none, .mov (.t 5)⟩,
 ⟨(some 67), none, .mov (.t 10)⟩,
 ⟨(some 68), none, .mx (.t 66) (.t 67)⟩,
 ⟨(some 5), none, .mov (.t 68)⟩] [5])
 .skip))
 (.ops [
 ⟨(some 69), none, .mov (.t 11)⟩,
 ⟨(some 8), none, .mov (.t 69)⟩] [8])))))
 (.ops [
 ⟨(some 28), none, .mov (.t 10)⟩,
 ⟨(some 29), none, .bin .add .no (.t 28) (.c (.int .i64 1))⟩,
 ⟨(some 10), none, .mov (.t 29)⟩] [10]))))))
 (.seq
 (.seq
 (.ops [
 ⟨(some 70), none, .mov (.t 8)⟩,
 ⟨(some 71), none, .mov (.t 0)⟩,
 ⟨(some 72), none, .bin .shl .no (.c (.int .i64 1)) (.t 71)⟩,
 ⟨(some 73), none, .bin .sub .no (.t 72) (.c (.int .i64 1))⟩,
 ⟨(some 74), none, .bin .neq .no (.t 70) (.t 73)⟩,
 ⟨(some 75), none, .mov (.t 74)⟩,
 ⟨(some 76), (some (75, false)), .mov (.t 0)⟩,
 ⟨(some 77), (some (75, false)), .bin .lss .no (.t 76) (.c (.int .i64 2))⟩,
 ⟨(some 78), none, .pick (.t 75) (.c (.bool true)) (.t 77)⟩] [78])
 (.cond (.t 78)
 (.seq
 (.ops [
 ⟨(some 4), none, .mov (.c (.int .i64 (-1)))⟩] [4])
 .ret)
 .skip))
 (.seq
 (.seq
 (.ops [
 ⟨(some 15), none, .mov (.c (.int .i64 0))⟩] [15])
 (.block 6
 (.loop
 (.seq
 (.seq
 (.ops [
 ⟨(some 79), none, .mov (.t 15)⟩,
 ⟨(some 80), none, .mov (.t 0)⟩,
 ⟨(some 81), none, .bin .lss .no (.t 79) (.t 80)⟩] [81])
 (.cond (.t 81)
 .skip
 (.exit 6)))
 (.seq
 (.block 7
 (.seq
 (.ops [
 ⟨(some 16), none, .mov (.c (.int .i64 0))⟩] [16])
 (.block 8
 (.loop
 (.seq
 (.seq
 (.ops [
 ⟨(some 84), none, .mov (.t 16)⟩,
 ⟨(some 85), none, .mov (.t 1)⟩,
 ⟨(some 86), none, .lenS (.t 85)⟩,
 ⟨(some 87), none, .bin .lss .no (.t 84) (.t 86)⟩] [87])
 (.cond (.t 87)
 .skip
 (.exit 8)))
 (.seq
 (.block 9
 (.seq
 (.ops [
 ⟨(some 90), none, .mov (.t 1)⟩,
 ⟨(some 91), none, .mov (.t 16)⟩,
 ⟨(some 92), none, .ixS 2 (.t 90) (.t 91)⟩,
 ⟨(some 93), none, .load (some 2) (.t 92)⟩,
 ⟨(some 17), none, .new [(.int .i64 0), (.int .i64 0)]⟩,
 ⟨none, none, .store 2 (.t 17) (.t 93)⟩] [17])
 (.seq
 (.ops [
 ⟨(some 94), none, .fa 0 (.t 17)⟩,
 ⟨(some 95), none, .load none (.t 94)⟩,
 ⟨(some 96), none, .mov (.t 7)⟩,
 ⟨(some 97), none, .bin .eql .no (.t 95) (.t 96)⟩,
 ⟨(some 98), none, .mov (.t 97)⟩,
 ⟨(some 99), (some (98, true)), .fa 1 (.t 17)⟩,
 ⟨(some 100), (some (98, true)), .load none (.t 99)⟩,
 ⟨(some 101), (some (98, true)), .mov (.t 15)⟩,
 ⟨(some 102), (some (98, true)), .bin .eql .no (.t 100) (.t 101)⟩,
 ⟨(some 103), none, .pick (.t 98) (.t 102) (.c (.bool false))⟩,
 ⟨(some 104), none, .mov (.t 103)⟩,
 ⟨(some 105), (some (104, false)), .fa 0 (.t 17)⟩,
 ⟨(some 106), (some (104, false)), .load none (.t 105)⟩,
 ⟨(some 107), (some (104, false)), .mov (.t 15)⟩,
 ⟨(some 108), (some (104, false)), .bin .eql .no (.t 106) (.t 107)⟩,
 ⟨(some 109), (some (104, false)), .mov (.t 108)⟩,
 ⟨(some 110), (some (109, true)), .fa 1 (.t 17)⟩,
 ⟨(some 111), (some (109, true)), .load none (.t 110)⟩,
 ⟨(some 112), (some (109, true)), .mov (.t 7)⟩,
 ⟨(some 113), (some (109, true)), .bin .eql .no (.t 111) (.t 112)⟩,
 ⟨(some 114), (some (104, false)), .pick (.t 109) (.t 113) (.c (.bool false))⟩,
 ⟨(some 115), none, .pick (.t 104) (.c (.bool true)) (.t 114)⟩] [115])
 (.cond (.t 115)
 (.seq
 (.ops [
 ⟨(some 116), none, .mov (.t 9)⟩,
 ⟨(some 117), none, .bin .add .no (.t 116) (.c (.int .i64 1))⟩,
 ⟨(some 9), none, .mov (.t 117)⟩] [9])
 (.exit 8))
 .skip))))
 (.ops [
 ⟨(some 88), none, .mov (.t 16)⟩,
 ⟨(some 89), none, .bin .add .no (.t 88) (.c (.int .i64 1))⟩,
 ⟨(some 16), none, .mov (.t 89)⟩] [16])))))))
 (.ops [
 ⟨(some 82), none, .mov (.t 15)⟩,
 ⟨(some 83), none, .bin .add .no (.t 82) (.c (.int .i64 1))⟩,
 ⟨(some 15), none, .mov (.t 83)⟩] [15]))))))
 (.ops [
 ⟨(some 118), none, .mov (.t 6)⟩,
 ⟨(some 119), none, .mov (.t 9)⟩,
 ⟨(some 120), none, .mx (.t 118) (.t 119)⟩,
 ⟨(some 6), none, .mov (.t 120)⟩] [6]))))))
 (.ops [
 ⟨(some 21), none, .mov (.t 7)⟩,
 ⟨(some 22), none, .bin .add .no (.t 21) (.c (.int .i64 1))⟩,
 ⟨(some 7), none, .mov (.t 22)⟩] [7]))))))
 (.seq
 (.ops [
 ⟨(some 121), none, .mov (.t 0)⟩,
 ⟨(some 122), none, .bin .sub .no (.t 121) (.c (.int .i64 2))⟩,
 ⟨(some 123), none, .mov (.t 5)⟩,
 ⟨(some 124), none, .bin .add .no (.t 122) (.t 123)⟩,
 ⟨(some 125), none, .mov (.t 5)⟩,
 ⟨(some 126), none, .bin .quo .no (.t 124) (.t 125)⟩,
 ⟨(some 127), none, .mov (.t 6)⟩,
 ⟨(some 128), none, .bin .add .no (.t 127) (.c (.int .i64 1))⟩,
 ⟨(some 129), none, .bin .quo .no (.t 128) (.c (.int .i64 2))⟩,
 ⟨(some 130), none, .mx (.t 126) (.t 129)⟩,
 ⟨(some 4), none, .mov (.t 130)⟩] [4])
 .ret)))),
 [.tmp 4]⟩

/-- bellpull/bellpulllaw07.made -/
noncomputable def sf33 : SFun := ⟨[0, 1, 2, 6, 7, 8, 9, 10, 11, 29], 61,
 (.seq
 (.ops [
 ⟨(some 6), none, .mov (.c (.int .i64 0))⟩,
 ⟨(some 7), none, .mov (.c .nilsl)⟩] [6, 7])
 (.seq
 (.ops [
 ⟨(some 12), none, .mov (.t 0)⟩,
 ⟨(some 13), none, .conv .i64 (.t 12)⟩,
 ⟨(some 14), none, .mov (.t 2)⟩,
 ⟨(some 15), none, .bin .rem .no (.t 13) (.t 14)⟩,
 ⟨(some 16), none, .bin .add .no (.t 15) (.c (.int .i64 1))⟩,
 ⟨(some 17), none, .buildS [(.int .i64 0), (.int .i64 0)] 0 2 []⟩,
 ⟨(some 8), none, .mov (.t 16)⟩,
 ⟨(some 9), none, .mov (.t 17)⟩] [8, 9])
 (.seq
 (.seq
 (.ops [
 ⟨(some 10), none, .mov (.c (.int .i64 0))⟩] [10])
 (.block 0
 (.loop
 (.seq
 (.seq
 (.ops [
 ⟨(some 18), none, .mov (.t 10)⟩,
 ⟨(some 19), none, .mov (.t 1)⟩,
 ⟨(some 20), none, .lenS (.t 19)⟩,
 ⟨(some 21), none, .bin .lss .no (.t 18) (.t 20)⟩,
 ⟨(some 22), none, .mov (.t 21)⟩,
 ⟨(some 23), (some (22, true)), .mov (.t 10)⟩,
 ⟨(some 24), (some (22, true)), .bin .lss .no (.t 23) (.c (.int .i64 20))⟩,
 ⟨(some 25), none, .pick (.t 22) (.t 24) (.c (.bool false))⟩,
 ⟨(some 26), none, .mov (.t 25)⟩,
 ⟨(some 27), (some (26, true)), .mov (.t 8)⟩,
 ⟨(some 28), (some (26, true)), .bin .gtr .no (.t 27) (.c (.int .i64 1))⟩,
 ⟨(some 29), none, .pick (.t 26) (.t 28) (.c (.bool false))⟩] [29])
 (.cond (.t 29)
 .skip
 (.exit 0)))
 (.seq
 (.block 1
 (.seq
 (.ops [
 ⟨(some 32), none, .mov (.t 1)⟩,
 ⟨(some 33), none, .mov (.t 10)⟩,
 ⟨(some 34), none, .ixS 2 (.t 32) (.t 33)⟩,
 ⟨(some 35), none, .ixA 2 1 (.t 34) (.c (.int .i64 0))⟩,
 ⟨(some 36), none, .load none (.t 35)⟩,
 ⟨(some 37), none, .conv .i64 (.t 36)⟩,
 ⟨(some 38), none, .mov (.t 8)⟩,
 ⟨(some 39), none, .bin .rem .no (.t 37) (.t 38)⟩,
 ⟨(some 11), none, .mov (.t 39)⟩] [11])
 (.ops [
 ⟨(some 40), none, .mov (.t 9)⟩,
 ⟨(some 41), none, .mov (.t 11)⟩,
 ⟨(some 42), none, .mov (.t 11)⟩,
 ⟨(some 43), none, .bin .add .no (.t 42) (.c (.int .i64 1))⟩,
 ⟨(some 44), none, .mov (.t 1)⟩,
 ⟨(some 45), none, .mov (.t 10)⟩,
 ⟨(some 46), none, .ixS 2 (.t 44) (.t 45)⟩,
 ⟨(some 47), none, .ixA 2 1 (.t 46) (.c (.int .i64 1))⟩,
 ⟨(some 48), none, .load none (.t 47)⟩,
 ⟨(some 49), none, .conv .i64 (.t 48)⟩,
 ⟨(some 50), none, .mov (.t 8)⟩,
 ⟨(some 51), none, .bin .sub .no (.t 50) (.c (.int .i64 1))⟩,
 ⟨(some 52), none, .bin .rem .no (.t 49) (.t 51)⟩,
 ⟨(some 53), none, .bin .add .no (.t 43) (.t 52)⟩,
 ⟨(some 54), none, .mov (.t 8)⟩,
 ⟨(some 55), none, .bin .rem .no (.t 53) (.t 54)⟩,
 ⟨(some 56), none, .build [(.int .i64 0), (.int .i64 0)] [(0, 1), (1, 1)] [(0, (.t 41)), (1, (.t 55))]⟩,
 ⟨(some 57), none, .buildS [(.int .i64 0), (.int .i64 0)] 1 2 [(0, (.t 56))]⟩,
 ⟨(some 58), none, .app true 2 (.t 40) (.t 57)⟩,
 ⟨(some 9), none, .mov (.t 58)⟩] [9])))
 (.ops [
 ⟨(some 30), none, .mov (.t 10)⟩,
 ⟨(some 31), none, .bin .add .no (.t 30) (.c (.int .i64 1))⟩,
 ⟨(some 10), none, .mov (.t 31)⟩] [10]))))))
 (.seq
 (.ops [
 ⟨(some 59), none, .mov (.t 8)⟩,
 ⟨(some 60), none, .mov (.t 9)⟩,
 ⟨(some 6), none, .mov (.t 59)⟩,
 ⟨(some 7), none, .mov (.t 60)⟩] [6, 7])
 .ret)))),
 [.tmp 6, .tmp 7]⟩

/-- bellpull/bellpulllaw07.order -/
noncomputable def sf34 : SFun := ⟨[0, 1, 4, 5, 6, 7, 11, 17], 39,
 (.seq
 (.ops [
 ⟨(some 4), none, .mov (.c .nilsl)⟩] [4])
 (.seq
 (.ops [
 ⟨(some 8), none, .buildS [(.int .i64 0)] 0 1 []⟩,
 ⟨(some 5), none, .mov (.t 8)⟩] [5])
 (.seq
 (.seq
 (.ops [
 ⟨(some 6), none, .mov (.c (.int .i64 0))⟩] [6])
 (.block 0
 (.loop
 (.seq
 (.seq
 (.ops [
 ⟨(some 9), none, .mov (.t 6)⟩,
 ⟨(some 10), none, .mov (.t 0)⟩,
 ⟨(some 11), none, .bin .lss .no (.t 9) (.t 10)⟩] [11])
 (.cond (.t 11)
 .skip
 (.exit 0)))
 (.seq
 (.block 1
 (.seq
 (.ops [
 ⟨(some 7), none, .mov (.c (.int .i64 0))⟩] [7])
 (.seq
 (.seq
 (.ops [
 ⟨(some 14), none, .mov (.t 6)⟩,
 ⟨(some 15), none, .mov (.t 1)⟩,
 ⟨(some 16), none, .lenS (.t 15)⟩,
 ⟨(some 17), none, .bin .lss .no (.t 14) (.t 16)⟩] [17])
 (.cond (.t 17)
 (.ops [
 ⟨(some 18), none, .mov (.t 1)⟩,
 ⟨(some 19), none, .mov (.t 6)⟩,
 ⟨(some 20), none, .ixS 1 (.t 18) (.t 19)⟩,
 ⟨(some 21), none, .load none (.t 20)⟩,
 ⟨(some 22), none, .conv .i64 (.t 21)⟩,
 ⟨(some 23), none, .mov (.t 6)⟩,
 ⟨(some 24), none, .bin .add .no (.t 23) (.c (.int .i64 1))⟩,
 ⟨(some 25), none, .bin .rem .no (.t 22) (.t 24)⟩,
 ⟨(some 7), none, .mov (.t 25)⟩] [7])
 .skip))
 (.ops [
 ⟨(some 26), none, .buildS [(.int .i64 0)] 0 1 []⟩,
 ⟨(some 27), none, .mov (.t 5)⟩,
 ⟨(some 28), none, .mov (.t 7)⟩,
 ⟨(some 29), none, .slice 1 (.t 27) none (some (.t 28))⟩,
 ⟨(some 30), none, .app true 1 (.t 26) (.t 29)⟩,
 ⟨(some 31), none, .mov (.t 6)⟩,
 ⟨(some 32), none, .buildS [(.int .i64 0)] 1 1 [(0, (.t 31))]⟩,
 ⟨(some 33), none, .app true 1 (.t 30) (.t 32)⟩,
 ⟨(some 34), none, .mov (.t 5)⟩,
 ⟨(some 35), none, .mov (.t 7)⟩,
 ⟨(some 36), none, .slice 1 (.t 34) (some (.t 35)) none⟩,
 ⟨(some 37), none, .app true 1 (.t 33) (.t 36)⟩,
 ⟨(some 5), none, .mov (.t 37)⟩] [5]))))
 (.ops [
 ⟨(some 12), none, .mov (.t 6)⟩,
 ⟨(some 13), none, .bin .add .no (.t 12) (.c (.int .i64 1))⟩,
 ⟨(some 6), none, .mov (.t 13)⟩] [6]))))))
 (.seq
 (.ops [
 ⟨(some 38), none, .mov (.t 5)⟩,
 ⟨(some 4), none, .mov (.t 38)⟩] [4])
 .ret)))),
 [.tmp 4]⟩

/-- bellpull/bellpulllaw07.least -/
noncomputable def sf35 : SFun := ⟨[0, 1, 4, 5, 6, 8, 9, 11, 12, 14], 50,
 (.seq
 (.ops [
 ⟨(some 4), none, .mov (.c .nilsl)⟩,
 ⟨(some 5), none, .mov (.c (.bool false))⟩] [4, 5])
 (.seq
 (.ops [
 ⟨(some 16), none, .mov (.t 0)⟩,
 ⟨(some 17), none, .mov (.t 1)⟩,
 ⟨(some 18), none, .call (.c (.fn (.func 24) [] [])) [(.t 16), (.t 17)]⟩,
 ⟨(some 15), none, .mov (.t 18)⟩,
 ⟨(some 19), none, .ext (.t 15) 0⟩,
 ⟨(some 20), none, .ext (.t 15) 1⟩,
 ⟨(some 21), none, .ext (.t 15) 2⟩,
 ⟨(some 6), none, .mov (.t 19)⟩,
 ⟨(some 7), none, .mov (.t 20)⟩,
 ⟨(some 8), none, .mov (.t 21)⟩] [6, 8])
 (.seq
 (.ops [
 ⟨(some 23), none, .mov (.t 0)⟩,
 ⟨(some 24), none, .mov (.t 1)⟩,
 ⟨(some 25), none, .call (.c (.fn (.func 25) [] [])) [(.t 23), (.t 24)]⟩,
 ⟨(some 22), none, .mov (.t 25)⟩,
 ⟨(some 26), none, .ext (.t 22) 0⟩,
 ⟨(some 27), none, .ext (.t 22) 1⟩,
 ⟨(some 28), none, .ext (.t 22) 2⟩,
 ⟨(some 9), none, .mov (.t 26)⟩,
 ⟨(some 10), none, .mov (.t 27)⟩,
 ⟨(some 11), none, .mov (.t 28)⟩] [9, 11])
 (.seq
 (.ops [
 ⟨(some 30), none, .mov (.t 0)⟩,
 ⟨(some 31), none, .mov (.t 1)⟩,
 ⟨(some 32), none, .call (.c (.fn (.func 26) [] [])) [(.t 30), (.t 31)]⟩,
 ⟨(some 29), none, .mov (.t 32)⟩,
 ⟨(some 33), none, .ext (.t 29) 0⟩,
 ⟨(some 34), none, .ext (.t 29) 1⟩,
 ⟨(some 35), none, .ext (.t 29) 2⟩,
 ⟨(some 12), none, .mov (.t 33)⟩,
 ⟨(some 13), none, .mov (.t 34)⟩,
 ⟨(some 14), none, .mov (.t 35)⟩] [12, 14])
 (.seq
 (.ops [
 ⟨(some 36), none, .mov (.t 6)⟩,
 ⟨(some 37), none, .mov (.t 9)⟩,
 ⟨(some 38), none, .mov (.t 12)⟩,
 ⟨(some 39), none, .buildS [(.int .i64 0)] 3 1 [(0, (.t 36)), (1, (.t 37)), (2, (.t 38))]⟩,
 ⟨(some 40), none, .mov (.t 8)⟩,
 ⟨(some 41), none, .bin .eql .no (.t 40) (.c (.int .i64 0))⟩,
 ⟨(some 42), none, .mov (.t 41)⟩,
 ⟨(some 43), (some (42, true)), .mov (.t 11)⟩,
 ⟨(some 44), (some (42, true)), .bin .eql .no (.t 43) (.c (.int .i64 0))⟩,
 ⟨(some 45), none, .pick (.t 42) (.t 44) (.c (.bool false))⟩,
 ⟨(some 46), none, .mov (.t 45)⟩,
 ⟨(some 47), (some (46, true)), .mov (.t 14)⟩,
 ⟨(some 48), (some (46, true)), .bin .eql .no (.t 47) (.c (.int .i64 0))⟩,
 ⟨(some 49), none, .pick (.t 46) (.t 48) (.c (.bool false))⟩,
 ⟨(some 4), none, .mov (.t 39)⟩,
 ⟨(some 5), none, .mov (.t 49)⟩] [4, 5])
 .ret))))),
 [.tmp 4, .tmp 5]⟩

/-- bellpull/route.checkedOrder -/
noncomputable def sf36 : SFun := ⟨[0, 1, 2, 6, 7, 12, 17], 18,
 (.seq
 (.ops [
 ⟨(some 6), none, .mov (.c (.int .i64 0))⟩] [6])
 (.seq
 (.seq
 (.ops [
 ⟨(some 8), none, .mov (.t 0)⟩,
 ⟨(some 9), none, .mov (.t 1)⟩,
 ⟨(some 10), none, .call (.c (.fn (.func 49) [] [])) [(.t 8), (.t 9)]⟩,
 ⟨(some 7), none, .mov (.t 10)⟩] [7])
 (.seq
 (.ops [
 ⟨(some 11), none, .mov (.t 7)⟩,
 ⟨(some 12), none, .bin .neq .no (.t 11) (.c (.int .i64 0))⟩] [12])
 (.cond (.t 12)
 (.seq
 (.ops [
 ⟨(some 13), none, .mov (.t 7)⟩,
 ⟨(some 6), none, .mov (.t 13)⟩] [6])
 .ret)
 .skip)))
 (.seq
 (.seq
 (.ops [
 ⟨(some 14), none, .mov (.t 2)⟩,
 ⟨(some 15), none, .mov (.t 0)⟩,
 ⟨(some 16), none, .call (.c (.fn (.func 55) [] [])) [(.t 14), (.t 15)]⟩,
 ⟨(some 17), none, .not (.t 16)⟩] [17])
 (.cond (.t 17)
 (.seq
 (.ops [
 ⟨(some 6), none, .mov (.c (.int .i64 2))⟩] [6])
 .ret)
 .skip))
 (.seq
 (.ops [
 ⟨(some 6), none, .mov (.c (.int .i64 0))⟩] [6])
 .ret)))),
 [.tmp 6]⟩

/-- bellpull/route.placesOf -/
noncomputable def sf37 : SFun := ⟨[0, 2, 3, 4, 5, 6, 7, 8, 15, 16, 17, 18], 27,
 (.seq
 (.ops [
 ⟨(some 2), none, .new [(.int .i64 0), (.int .i64 0), (.int .i64 0), (.int .i64 0), (.int .i64 0), (.int .i64 0), (.int .i64 0), (.int .i64 0)]⟩] [2])
 (.seq
 (.ops [
 ⟨(some 3), none, .new [(.int .i64 0), (.int .i64 0), (.int .i64 0), (.int .i64 0), (.int .i64 0), (.int .i64 0), (.int .i64 0), (.int .i64 0)]⟩] [3])
 (.seq
 (.seq
 (.ops [
 ⟨(some 7), none, .mov (.c (.int .i64 0))⟩] [7])
 (.block 0
 (.loop
 (.seq
 (.ops [
 ⟨(some 8), none, .bin .lss .no (.t 7) (.c (.int .i64 8))⟩] [8])
 (.seq
 (.cond (.t 8)
 .skip
 (.exit 0))
 (.seq
 (.block 1
 (.seq
 (.ops [
 ⟨(some 9), none, .mov (.t 7)⟩,
 ⟨(some 4), none, .mov (.t 9)⟩] [4])
 (.ops [
 ⟨(some 10), none, .mov (.t 4)⟩,
 ⟨(some 11), none, .mov (.t 0)⟩,
 ⟨(some 12), none, .lenS (.t 11)⟩,
 ⟨(some 13), none, .ixA 8 1 (.t 3) (.t 10)⟩,
 ⟨none, none, .store 1 (.t 13) (.t 12)⟩] [])))
 (.ops [
 ⟨(some 14), none, .bin .add .no (.t 7) (.c (.int .i64 1))⟩,
 ⟨(some 7), none, .mov (.t 14)⟩] [7])))))))
 (.seq
 (.seq
 (.ops [
 ⟨(some 15), none, .mov (.t 0)⟩,
 ⟨(some 16), none, .lenS (.t 15)⟩,
 ⟨(some 17), none, .mov (.c (.int .i64 0))⟩] [15, 16, 17])
 (.block 2
 (.loop
 (.seq
 (.ops [
 ⟨(some 18), none, .bin .lss .no (.t 17) (.t 16)⟩] [18])
 (.seq
 (.cond (.t 18)
 .skip
 (.exit 2))
 (.seq
 (.block 3
 (.seq
 (.ops [
 ⟨(some 19), none, .mov (.t 17)⟩,
 ⟨(some 20), none, .ixS 1 (.t 15) (.t 17)⟩,
 ⟨(some 21), none, .load none (.t 20)⟩,
 ⟨(some 5), none, .mov (.t 19)⟩,
 ⟨(some 6), none, .mov (.t 21)⟩] [5, 6])
 (.ops [
 ⟨(some 22), none, .mov (.t 6)⟩,
 ⟨(some 23), none, .mov (.t 5)⟩,
 ⟨(some 24), none, .ixA 8 1 (.t 3) (.t 22)⟩,
 ⟨none, none, .store 1 (.t 24) (.t 23)⟩] [])))
 (.ops [
 ⟨(some 25), none, .bin .add .no (.t 17) (.c (.int .i64 1))⟩,
 ⟨(some 17), none, .mov (.t 25)⟩] [17])))))))
 (.seq
 (.ops [
 ⟨(some 26), none, .load (some 8) (.t 3)⟩,
 ⟨none, none, .store 8 (.t 2) (.t 26)⟩] [])
 .ret))))),
 [.cell 2 (some 8)]⟩

/-- bellpull/route.bandwidth -/
noncomputable def sf38 : SFun := ⟨[0, 1, 3, 4, 5, 7, 8, 9, 10, 11, 12, 13], 29,
 (.seq
 (.ops [
 ⟨(some 3), none, .box (.t 1)⟩,
 ⟨(some 4), none, .mov (.c (.int .i64 0))⟩] [3, 4])
 (.seq
 (.ops [
 ⟨(some 5), none, .mov (.c (.int .i64 0))⟩] [5])
 (.seq
 (.seq
 (.ops [
 ⟨(some 10), none, .mov (.t 0)⟩,
 ⟨(some 11), none, .lenS (.t 10)⟩,
 ⟨(some 12), none, .mov (.c (.int .i64 0))⟩] [10, 11, 12])
 (.block 0
 (.loop
 (.seq
 (.ops [
 ⟨(some 13), none, .bin .lss .no (.t 12) (.t 11)⟩] [13])
 (.seq
 (.cond (.t 13)
 .skip
 (.exit 0))
 (.seq
 (.block 1
 (.seq
 (.ops [
 ⟨(some 14), none, .ixS 2 (.t 10) (.t 12)⟩,
 ⟨(some 15), none, .load (some 2) (.t 14)⟩,
 ⟨(some 7), none, .new [(.int .i64 0), (.int .i64 0)]⟩,
 ⟨none, none, .store 2 (.t 7) (.t 15)⟩] [7])
 (.seq
 (.ops [
 ⟨(some 17), none, .load (some 2) (.t 7)⟩,
 ⟨(some 18), none, .load (some 8) (.t 3)⟩,
 ⟨(some 19), none, .call (.c (.fn (.func 57) [] [])) [(.t 17), (.t 18)]⟩,
 ⟨(some 16), none, .mov (.t 19)⟩,
 ⟨(some 20), none, .ext (.t 16) 0⟩,
 ⟨(some 21), none, .ext (.t 16) 1⟩,
 ⟨(some 8), none, .mov (.t 20)⟩,
 ⟨(some 9), none, .mov (.t 21)⟩] [8, 9])
 (.ops [
 ⟨(some 22), none, .mov (.t 5)⟩,
 ⟨(some 23), none, .mov (.t 9)⟩,
 ⟨(some 24), none, .mov (.t 8)⟩,
 ⟨(some 25), none, .bin .sub .no (.t 23) (.t 24)⟩,
 ⟨(some 26), none, .mx (.t 22) (.t 25)⟩,
 ⟨(some 5), none, .mov (.t 26)⟩] [5]))))
 (.ops [
 ⟨(some 27), none, .bin .add .no (.t 12) (.c (.int .i64 1))⟩,
 ⟨(some 12), none, .mov (.t 27)⟩] [12])))))))
 (.seq
 (.ops [
 ⟨(some 28), none, .mov (.t 5)⟩,
 ⟨(some 4), none, .mov (.t 28)⟩] [4])
 .ret)))),
 [.tmp 4]⟩

/-- bellpull/route.cutwidth -/
noncomputable def sf39 : SFun := ⟨[0, 1, 3, 4, 5], 11,
 (.seq
 (.ops [
 ⟨(some 3), none, .box (.t 1)⟩,
 ⟨(some 4), none, .mov (.c (.int .i64 0))⟩] [3, 4])
 (.seq
 (.ops [
 ⟨(some 6), none, .mov (.t 0)⟩,
 ⟨(some 7), none, .load (some 8) (.t 3)⟩,
 ⟨(some 8), none, .call (.c (.fn (.func 41) [] [])) [(.t 6), (.t 7)]⟩,
 ⟨(some 5), none, .new [(.int .i64 0), (.int .i64 0), (.int .i64 0), (.int .i64 0), (.int .i64 0), (.int .i64 0), (.int .i64 0), (.int .i64 0)]⟩,
 ⟨none, none, .store 8 (.t 5) (.t 8)⟩] [5])
 (.seq
 (.ops [
 ⟨(some 9), none, .arr 8 1 (.t 5) none none⟩,
 ⟨(some 10), none, .call (.c (.fn (.func 58) [] [])) [(.t 9)]⟩,
 ⟨(some 4), none, .mov (.t 10)⟩] [4])
 .ret))),
 [.tmp 4]⟩

/-- bellpull/route.sum -/
noncomputable def sf40 : SFun := ⟨[0, 1, 3, 4, 5, 7, 8, 9, 10, 11, 12, 13], 29,
 (.seq
 (.ops [
 ⟨(some 3), none, .box (.t 1)⟩,
 ⟨(some 4), none, .mov (.c (.int .i64 0))⟩] [3, 4])
 (.seq
 (.ops [
 ⟨(some 5), none, .mov (.c (.int .i64 0))⟩] [5])
 (.seq
 (.seq
 (.ops [
 ⟨(some 10), none, .mov (.t 0)⟩,
 ⟨(some 11), none, .lenS (.t 10)⟩,
 ⟨(some 12), none, .mov (.c (.int .i64 0))⟩] [10, 11, 12])
 (.block 0
 (.loop
 (.seq
 (.ops [
 ⟨(some 13), none, .bin .lss .no (.t 12) (.t 11)⟩] [13])
 (.seq
 (.cond (.t 13)
 .skip
 (.exit 0))
 (.seq
 (.block 1
 (.seq
 (.ops [
 ⟨(some 14), none, .ixS 2 (.t 10) (.t 12)⟩,
 ⟨(some 15), none, .load (some 2) (.t 14)⟩,
 ⟨(some 7), none, .new [(.int .i64 0), (.int .i64 0)]⟩,
 ⟨none, none, .store 2 (.t 7) (.t 15)⟩] [7])
 (.seq
 (.ops [
 ⟨(some 17), none, .load (some 2) (.t 7)⟩,
 ⟨(some 18), none, .load (some 8) (.t 3)⟩,
 ⟨(some 19), none, .call (.c (.fn (.func 57) [] [])) [(.t 17), (.t 18)]⟩,
 ⟨(some 16), none, .mov (.t 19)⟩,
 ⟨(some 20), none, .ext (.t 16) 0⟩,
 ⟨(some 21), none, .ext (.t 16) 1⟩,
 ⟨(some 8), none, .mov (.t 20)⟩,
 ⟨(some 9), none, .mov (.t 21)⟩] [8, 9])
 (.ops [
 ⟨(some 22), none, .mov (.t 5)⟩,
 ⟨(some 23), none, .mov (.t 9)⟩,
 ⟨(some 24), none, .mov (.t 8)⟩,
 ⟨(some 25), none, .bin .sub .no (.t 23) (.t 24)⟩,
 ⟨(some 26), none, .bin .add .no (.t 22) (.t 25)⟩,
 ⟨(some 5), none, .mov (.t 26)⟩] [5]))))
 (.ops [
 ⟨(some 27), none, .bin .add .no (.t 12) (.c (.int .i64 1))⟩,
 ⟨(some 12), none, .mov (.t 27)⟩] [12])))))))
 (.seq
 (.ops [
 ⟨(some 28), none, .mov (.t 5)⟩,
 ⟨(some 4), none, .mov (.t 28)⟩] [4])
 .ret)))),
 [.tmp 4]⟩

/-- bellpull/route.cutsOf -/
noncomputable def sf41 : SFun := ⟨[0, 1, 3, 4, 5, 7, 8, 9, 10, 11, 12, 13, 14, 26], 36,
 (.seq
 (.ops [
 ⟨(some 3), none, .box (.t 1)⟩,
 ⟨(some 4), none, .new [(.int .i64 0), (.int .i64 0), (.int .i64 0), (.int .i64 0), (.int .i64 0), (.int .i64 0), (.int .i64 0), (.int .i64 0)]⟩] [3, 4])
 (.seq
 (.ops [
 ⟨(some 5), none, .new [(.int .i64 0), (.int .i64 0), (.int .i64 0), (.int .i64 0), (.int .i64 0), (.int .i64 0), (.int .i64 0), (.int .i64 0)]⟩] [5])
 (.seq
 (.seq
 (.ops [
 ⟨(some 11), none, .mov (.t 0)⟩,
 ⟨(some 12), none, .lenS (.t 11)⟩,
 ⟨(some 13), none, .mov (.c (.int .i64 0))⟩] [11, 12, 13])
 (.block 0
 (.loop
 (.seq
 (.ops [
 ⟨(some 14), none, .bin .lss .no (.t 13) (.t 12)⟩] [14])
 (.seq
 (.cond (.t 14)
 .skip
 (.exit 0))
 (.seq
 (.block 1
 (.seq
 (.ops [
 ⟨(some 15), none, .ixS 2 (.t 11) (.t 13)⟩,
 ⟨(some 16), none, .load (some 2) (.t 15)⟩,
 ⟨(some 7), none, .new [(.int .i64 0), (.int .i64 0)]⟩,
 ⟨none, none, .store 2 (.t 7) (.t 16)⟩] [7])
 (.seq
 (.ops [
 ⟨(some 18), none, .load (some 2) (.t 7)⟩,
 ⟨(some 19), none, .load (some 8) (.t 3)⟩,
 ⟨(some 20), none, .call (.c (.fn (.func 57) [] [])) [(.t 18), (.t 19)]⟩,
 ⟨(some 17), none, .mov (.t 20)⟩,
 ⟨(some 21), none, .ext (.t 17) 0⟩,
 ⟨(some 22), none, .ext (.t 17) 1⟩,
 ⟨(some 8), none, .mov (.t 21)⟩,
 ⟨(some 9), none, .mov (.t 22)⟩] [8, 9])
 (.seq
 (.ops [
 ⟨(some 23), none, .mov (.t 8)⟩,
 ⟨(some 10), none, .mov (.t 23)⟩] [10])
 (.block 2
 (.loop
 (.seq
 (.seq
 (.ops [
 ⟨(some 24), none, .mov (.t 10)⟩,
 ⟨(some 25), none, .mov (.t 9)⟩,
 ⟨(some 26), none, .bin .lss .no (.t 24) (.t 25)⟩] [26])
 (.cond (.t 26)
 .skip
 (.exit 2)))
 (.seq
 (.block 3
 (.ops [
 ⟨(some 29), none, .mov (.t 10)⟩,
 ⟨(some 30), none, .ixA 8 1 (.t 5) (.t 29)⟩,
 ⟨(some 31), none, .load none (.t 30)⟩,
 ⟨(some 32), none, .bin .add .no (.t 31) (.c (.int .i64 1))⟩,
 ⟨(some 33), none, .ixA 8 1 (.t 5) (.t 29)⟩,
 ⟨none, none, .store 1 (.t 33) (.t 32)⟩] []))
 (.ops [
 ⟨(some 27), none, .mov (.t 10)⟩,
 ⟨(some 28), none, .bin .add .no (.t 27) (.c (.int .i64 1))⟩,
 ⟨(some 10), none, .mov (.t 28)⟩] [10])))))))))
 (.ops [
 ⟨(some 34), none, .bin .add .no (.t 13) (.c (.int .i64 1))⟩,
 ⟨(some 13), none, .mov (.t 34)⟩] [13])))))))
 (.seq
 (.ops [
 ⟨(some 35), none, .load (some 8) (.t 5)⟩,
 ⟨none, none, .store 8 (.t 4) (.t 35)⟩] [])
 .ret)))),
 [.cell 4 (some 8)]⟩

/-- slices.Clone[[]int,int] -/
noncomputable def sf42 : SFun := ⟨[0, 2, 4], 8,
 (.seq
 (.ops [
 ⟨(some 2), none, .mov (.c .nilsl)⟩] [2])
 (.seq
 (.seq
 (.ops [
 ⟨(some 3), none, .mov (.t 0)⟩,
 ⟨(some 4), none, .bin .eql .slice (.t 3) (.c .nilsl)⟩] [4])
 (.cond (.t 4)
 (.seq
 (.ops [
 ⟨(some 2), none, .mov (.c .nilsl)⟩] [2])
 .ret)
 .skip))
 (.seq
 (.ops [
 ⟨(some 5), none, .buildS [(.int .i64 0)] 0 1 []⟩,
 ⟨(some 6), none, .mov (.t 0)⟩,
 ⟨(some 7), none, .app true 1 (.t 5) (.t 6)⟩,
 ⟨(some 2), none, .mov (.t 7)⟩] [2])
 .ret))),
 [.tmp 2]⟩

/-- bellpull/bellpullref01.In -/
noncomputable def sf43 : SFun := ⟨[0, 1, 2, 6], 15,
 (.seq
 (.ops [
 ⟨(some 6), none, .mov (.c (.bool false))⟩] [6])
 (.seq
 (.ops [
 ⟨(some 7), none, .mov (.t 0)⟩,
 ⟨(some 8), none, .mov (.t 1)⟩,
 ⟨(some 9), none, .bin .geq .no (.t 7) (.t 8)⟩,
 ⟨(some 10), none, .mov (.t 9)⟩,
 ⟨(some 11), (some (10, true)), .mov (.t 0)⟩,
 ⟨(some 12), (some (10, true)), .mov (.t 2)⟩,
 ⟨(some 13), (some (10, true)), .bin .leq .no (.t 11) (.t 12)⟩,
 ⟨(some 14), none, .pick (.t 10) (.t 13) (.c (.bool false))⟩,
 ⟨(some 6), none, .mov (.t 14)⟩] [6])
 .ret)),
 [.tmp 6]⟩

/-- bellpull/bellpullref01.Has -/
noncomputable def sf44 : SFun := ⟨[0, 1, 4, 5, 9, 17], 18,
 (.seq
 (.ops [
 ⟨(some 4), none, .mov (.c (.bool false))⟩] [4])
 (.seq
 (.seq
 (.ops [
 ⟨(some 5), none, .mov (.c (.int .i64 0))⟩] [5])
 (.block 0
 (.loop
 (.seq
 (.seq
 (.ops [
 ⟨(some 6), none, .mov (.t 5)⟩,
 ⟨(some 7), none, .mov (.t 0)⟩,
 ⟨(some 8), none, .lenS (.t 7)⟩,
 ⟨(some 9), none, .bin .lss .no (.t 6) (.t 8)⟩] [9])
 (.cond (.t 9)
 .skip
 (.exit 0)))
 (.seq
 (.block 1
 (.seq
 (.ops [
 ⟨(some 12), none, .mov (.t 0)⟩,
 ⟨(some 13), none, .mov (.t 5)⟩,
 ⟨(some 14), none, .ixS 1 (.t 12) (.t 13)⟩,
 ⟨(some 15), none, .load none (.t 14)⟩,
 ⟨(some 16), none, .mov (.t 1)⟩,
 ⟨(some 17), none, .bin .eql .no (.t 15) (.t 16)⟩] [17])
 (.cond (.t 17)
 (.seq
 (.ops [
 ⟨(some 4), none, .mov (.c (.bool true))⟩] [4])
 .ret)
 .skip)))
 (.ops [
 ⟨(some 10), none, .mov (.t 5)⟩,
 ⟨(some 11), none, .bin .add .no (.t 10) (.c (.int .i64 1))⟩,
 ⟨(some 5), none, .mov (.t 11)⟩] [5]))))))
 (.seq
 (.ops [
 ⟨(some 4), none, .mov (.c (.bool false))⟩] [4])
 .ret))),
 [.tmp 4]⟩

/-- bellpull/bellpullref07.Places -/
noncomputable def sf45 : SFun := ⟨[0, 2, 3, 4, 11], 22,
 (.seq
 (.ops [
 ⟨(some 2), none, .mov (.c .nilsl)⟩] [2])
 (.seq
 (.ops [
 ⟨(some 5), none, .mov (.t 0)⟩,
 ⟨(some 6), none, .lenS (.t 5)⟩,
 ⟨(some 7), none, .mks [(.int .i64 0)] 1 (.t 6) (.t 6)⟩,
 ⟨(some 3), none, .mov (.t 7)⟩] [3])
 (.seq
 (.seq
 (.ops [
 ⟨(some 4), none, .mov (.c (.int .i64 0))⟩] [4])
 (.block 0
 (.loop
 (.seq
 (.seq
 (.ops [
 ⟨(some 8), none, .mov (.t 4)⟩,
 ⟨(some 9), none, .mov (.t 0)⟩,
 ⟨(some 10), none, .lenS (.t 9)⟩,
 ⟨(some 11), none, .bin .lss .no (.t 8) (.t 10)⟩] [11])
 (.cond (.t 11)
 .skip
 (.exit 0)))
 (.seq
 (.block 1
 (.ops [
 ⟨(some 14), none, .mov (.t 3)⟩,
 ⟨(some 15), none, .mov (.t 0)⟩,
 ⟨(some 16), none, .mov (.t 4)⟩,
 ⟨(some 17), none, .ixS 1 (.t 15) (.t 16)⟩,
 ⟨(some 18), none, .load none (.t 17)⟩,
 ⟨(some 19), none, .mov (.t 4)⟩,
 ⟨(some 20), none, .ixS 1 (.t 14) (.t 18)⟩,
 ⟨none, none, .store 1 (.t 20) (.t 19)⟩] []))
 (.ops [
 ⟨(some 12), none, .mov (.t 4)⟩,
 ⟨(some 13), none, .bin .add .no (.t 12) (.c (.int .i64 1))⟩,
 ⟨(some 4), none, .mov (.t 13)⟩] [4]))))))
 (.seq
 (.ops [
 ⟨(some 21), none, .mov (.t 3)⟩,
 ⟨(some 2), none, .mov (.t 21)⟩] [2])
 .ret)))),
 [.tmp 2]⟩

/-- bellpull/bellpullref01.Before -/
noncomputable def sf46 : SFun := ⟨[0, 1, 4, 5, 15, 26], 41,
 (.seq
 (.ops [
 ⟨(some 4), none, .mov (.c (.bool false))⟩] [4])
 (.seq
 (.seq
 (.ops [
 ⟨(some 5), none, .mov (.c (.int .i64 0))⟩] [5])
 (.block 0
 (.loop
 (.seq
 (.seq
 (.ops [
 ⟨(some 6), none, .mov (.t 5)⟩,
 ⟨(some 7), none, .mov (.t 0)⟩,
 ⟨(some 8), none, .lenS (.t 7)⟩,
 ⟨(some 9), none, .bin .lss .no (.t 6) (.t 8)⟩,
 ⟨(some 10), none, .mov (.t 9)⟩,
 ⟨(some 11), (some (10, true)), .mov (.t 5)⟩,
 ⟨(some 12), (some (10, true)), .mov (.t 1)⟩,
 ⟨(some 13), (some (10, true)), .lenS (.t 12)⟩,
 ⟨(some 14), (some (10, true)), .bin .lss .no (.t 11) (.t 13)⟩,
 ⟨(some 15), none, .pick (.t 10) (.t 14) (.c (.bool false))⟩] [15])
 (.cond (.t 15)
 .skip
 (.exit 0)))
 (.seq
 (.block 1
 (.seq
 (.ops [
 ⟨(some 18), none, .mov (.t 0)⟩,
 ⟨(some 19), none, .mov (.t 5)⟩,
 ⟨(some 20), none, .ixS 1 (.t 18) (.t 19)⟩,
 ⟨(some 21), none, .load none (.t 20)⟩,
 ⟨(some 22), none, .mov (.t 1)⟩,
 ⟨(some 23), none, .mov (.t 5)⟩,
 ⟨(some 24), none, .ixS 1 (.t 22) (.t 23)⟩,
 ⟨(some 25), none, .load none (.t 24)⟩,
 ⟨(some 26), none, .bin .neq .no (.t 21) (.t 25)⟩] [26])
 (.cond (.t 26)
 (.seq
 (.ops [
 ⟨(some 27), none, .mov (.t 0)⟩,
 ⟨(some 28), none, .mov (.t 5)⟩,
 ⟨(some 29), none, .ixS 1 (.t 27) (.t 28)⟩,
 ⟨(some 30), none, .load none (.t 29)⟩,
 ⟨(some 31), none, .mov (.t 1)⟩,
 ⟨(some 32), none, .mov (.t 5)⟩,
 ⟨(some 33), none, .ixS 1 (.t 31) (.t 32)⟩,
 ⟨(some 34), none, .load none (.t 33)⟩,
 ⟨(some 35), none, .bin .lss .no (.t 30) (.t 34)⟩,
 ⟨(some 4), none, .mov (.t 35)⟩] [4])
 .ret)
 .skip)))
 (.ops [
 ⟨(some 16), none, .mov (.t 5)⟩,
 ⟨(some 17), none, .bin .add .no (.t 16) (.c (.int .i64 1))⟩,
 ⟨(some 5), none, .mov (.t 17)⟩] [5]))))))
 (.seq
 (.ops [
 ⟨(some 36), none, .mov (.t 0)⟩,
 ⟨(some 37), none, .lenS (.t 36)⟩,
 ⟨(some 38), none, .mov (.t 1)⟩,
 ⟨(some 39), none, .lenS (.t 38)⟩,
 ⟨(some 40), none, .bin .lss .no (.t 37) (.t 39)⟩,
 ⟨(some 4), none, .mov (.t 40)⟩] [4])
 .ret))),
 [.tmp 4]⟩

/-- bellpull/route.leastOrder -/
noncomputable def sf47 : SFun := ⟨[0, 1, 2, 3, 4, 5, 6, 7, 14], 23,
 (.seq
 (.ops [
 ⟨(some 1), none, .box (.t 0)⟩,
 ⟨(some 2), none, .mov (.c (.int .i64 0))⟩,
 ⟨(some 3), none, .mov (.c .nilsl)⟩,
 ⟨(some 4), none, .mov (.c (.int .i64 0))⟩] [1, 2, 3, 4])
 (.seq
 (.seq
 (.ops [
 ⟨(some 8), none, .fa 0 (.t 1)⟩,
 ⟨(some 9), none, .load none (.t 8)⟩,
 ⟨(some 10), none, .fa 1 (.t 1)⟩,
 ⟨(some 11), none, .load none (.t 10)⟩,
 ⟨(some 12), none, .call (.c (.fn (.func 49) [] [])) [(.t 9), (.t 11)]⟩,
 ⟨(some 5), none, .mov (.t 12)⟩] [5])
 (.seq
 (.ops [
 ⟨(some 13), none, .mov (.t 5)⟩,
 ⟨(some 14), none, .bin .neq .no (.t 13) (.c (.int .i64 0))⟩] [14])
 (.cond (.t 14)
 (.seq
 (.ops [
 ⟨(some 15), none, .mov (.t 5)⟩,
 ⟨(some 2), none, .mov (.c (.int .i64 0))⟩,
 ⟨(some 3), none, .mov (.c .nilsl)⟩,
 ⟨(some 4), none, .mov (.t 15)⟩] [2, 3, 4])
 .ret)
 .skip)))
 (.seq
 (.ops [
 ⟨(some 17), none, .load (some 3) (.t 1)⟩,
 ⟨(some 18), none, .call (.c (.fn (.func 59) [] [])) [(.t 17)]⟩,
 ⟨(some 16), none, .mov (.t 18)⟩,
 ⟨(some 19), none, .ext (.t 16) 0⟩,
 ⟨(some 20), none, .ext (.t 16) 1⟩,
 ⟨(some 6), none, .mov (.t 19)⟩,
 ⟨(some 7), none, .mov (.t 20)⟩] [6, 7])
 (.seq
 (.ops [
 ⟨(some 21), none, .mov (.t 6)⟩,
 ⟨(some 22), none, .mov (.t 7)⟩,
 ⟨(some 2), none, .mov (.t 21)⟩,
 ⟨(some 3), none, .mov (.t 22)⟩,
 ⟨(some 4), none, .mov (.c (.int .i64 0))⟩] [2, 3, 4])
 .ret)))),
 [.tmp 2, .tmp 3, .tmp 4]⟩

/-- bellpull/bellpullref07.Least -/
noncomputable def sf48 : SFun := ⟨[0, 1, 2, 3, 8, 9, 10, 11, 12, 13, 17, 26, 54, 73, 79], 90,
 (.seq
 (.seq
 (.ops [
 ⟨(some 14), none, .mov (.t 2)⟩,
 ⟨(some 15), none, .lenS (.t 14)⟩,
 ⟨(some 16), none, .mov (.t 0)⟩,
 ⟨(some 17), none, .bin .eql .no (.t 15) (.t 16)⟩] [17])
 (.cond (.t 17)
 (.seq
 (.ops [
 ⟨(some 19), none, .mov (.t 1)⟩,
 ⟨(some 20), none, .mov (.t 2)⟩,
 ⟨(some 21), none, .call (.c (.fn (.func 21) [] [])) [(.t 19), (.t 20)]⟩,
 ⟨(some 18), none, .mov (.t 21)⟩,
 ⟨(some 22), none, .ext (.t 18) 0⟩,
 ⟨(some 23), none, .ext (.t 18) 1⟩,
 ⟨(some 24), none, .ext (.t 18) 2⟩,
 ⟨(some 8), none, .mov (.t 22)⟩,
 ⟨(some 9), none, .mov (.t 23)⟩,
 ⟨(some 10), none, .mov (.t 24)⟩] [8, 9, 10])
 (.seq
 (.seq
 (.ops [
 ⟨(some 11), none, .mov (.c (.int .i64 0))⟩] [11])
 (.block 0
 (.loop
 (.seq
 (.seq
 (.ops [
 ⟨(some 25), none, .mov (.t 11)⟩,
 ⟨(some 26), none, .bin .lss .no (.t 25) (.c (.int .i64 3))⟩] [26])
 (.cond (.t 26)
 .skip
 (.exit 0)))
 (.seq
 (.block 1
 (.seq
 (.ops [
 ⟨(some 29), none, .mov (.t 8)⟩,
 ⟨(some 30), none, .mov (.t 9)⟩,
 ⟨(some 31), none, .mov (.t 10)⟩,
 ⟨(some 32), none, .buildS [(.int .i64 0)] 3 1 [(0, (.t 29)), (1, (.t 30)), (2, (.t 31))]⟩,
 ⟨(some 33), none, .mov (.t 11)⟩,
 ⟨(some 34), none, .ixS 1 (.t 32) (.t 33)⟩,
 ⟨(some 35), none, .load none (.t 34)⟩,
 ⟨(some 12), none, .mov (.t 35)⟩] [12])
 (.seq
 (.ops [
 ⟨(some 36), none, .mov (.t 3)⟩,
 ⟨(some 37), none, .nilCheck (.t 36)⟩,
 ⟨(some 38), none, .fa 1 (.t 37)⟩,
 ⟨(some 39), none, .load none (.t 38)⟩,
 ⟨(some 40), none, .mov (.t 11)⟩,
 ⟨(some 41), none, .ixS 1 (.t 39) (.t 40)⟩,
 ⟨(some 42), none, .load none (.t 41)⟩,
 ⟨(some 43), none, .bin .eql .slice (.t 42) (.c .nilsl)⟩,
 ⟨(some 44), none, .mov (.t 43)⟩,
 ⟨(some 45), (some (44, false)), .mov (.t 12)⟩,
 ⟨(some 46), (some (44, false)), .mov (.t 3)⟩,
 ⟨(some 47), (some (44, false)), .nilCheck (.t 46)⟩,
 ⟨(some 48), (some (44, false)), .fa 0 (.t 47)⟩,
 ⟨(some 49), (some (44, false)), .load none (.t 48)⟩,
 ⟨(some 50), (some (44, false)), .mov (.t 11)⟩,
 ⟨(some 51), (some (44, false)), .ixS 1 (.t 49) (.t 50)⟩,
 ⟨(some 52), (some (44, false)), .load none (.t 51)⟩,
 ⟨(some 53), (some (44, false)), .bin .lss .no (.t 45) (.t 52)⟩,
 ⟨(some 54), none, .pick (.t 44) (.c (.bool true)) (.t 53)⟩] [54])
 (.cond (.t 54)
 (.draw [
 ⟨⟨(some 55), none, .mov (.t 3)⟩, false, false⟩,
 ⟨⟨(some 56), none, .nilCheck (.t 55)⟩, false, false⟩,
 ⟨⟨(some 57), none, .fa 0 (.t 56)⟩, false, false⟩,
 ⟨⟨(some 58), none, .load none (.t 57)⟩, true, false⟩,
 ⟨⟨(some 59), none, .mov (.t 11)⟩, false, false⟩,
 ⟨⟨(some 60), none, .mov (.t 3)⟩, false, false⟩,
 ⟨⟨(some 61), none, .nilCheck (.t 60)⟩, false, false⟩,
 ⟨⟨(some 62), none, .fa 1 (.t 61)⟩, false, false⟩,
 ⟨⟨(some 63), none, .load none (.t 62)⟩, true, false⟩,
 ⟨⟨(some 64), none, .mov (.t 11)⟩, false, false⟩,
 ⟨⟨(some 65), none, .mov (.t 12)⟩, false, false⟩,
 ⟨⟨(some 66), none, .buildS [(.int .i64 0)] 0 1 []⟩, false, true⟩,
 ⟨⟨(some 67), none, .mov (.t 2)⟩, false, false⟩,
 ⟨⟨(some 68), none, .app true 1 (.t 66) (.t 67)⟩, false, true⟩,
 ⟨⟨(some 69), none, .ixS 1 (.t 58) (.t 59)⟩, false, false⟩,
 ⟨⟨none, none, .store 1 (.t 69) (.t 65)⟩, false, true⟩,
 ⟨⟨(some 70), none, .ixS 1 (.t 63) (.t 64)⟩, false, false⟩,
 ⟨⟨none, none, .store 1 (.t 70) (.t 68)⟩, false, true⟩] [0, 1, 3, 7, 0, 0, 32, 96, 224, 0, 0, 0, 0, 6144, 15871, 32255, 65535, 131071] [])
 .skip))))
 (.ops [
 ⟨(some 27), none, .mov (.t 11)⟩,
 ⟨(some 28), none, .bin .add .no (.t 27) (.c (.int .i64 1))⟩,
 ⟨(some 11), none, .mov (.t 28)⟩] [11]))))))
 .ret))
 .skip))
 (.seq
 (.ops [
 ⟨(some 13), none, .mov (.c (.int .i64 0))⟩] [13])
 (.block 2
 (.loop
 (.seq
 (.seq
 (.ops [
 ⟨(some 71), none, .mov (.t 13)⟩,
 ⟨(some 72), none, .mov (.t 0)⟩,
 ⟨(some 73), none, .bin .lss .no (.t 71) (.t 72)⟩] [73])
 (.cond (.t 73)
 .skip
 (.exit 2)))
 (.seq
 (.block 3
 (.seq
 (.ops [
 ⟨(some 76), none, .mov (.t 2)⟩,
 ⟨(some 77), none, .mov (.t 13)⟩,
 ⟨(some 78), none, .call (.c (.fn (.func 44) [] [])) [(.t 76), (.t 77)]⟩,
 ⟨(some 79), none, .not (.t 78)⟩] [79])
 (.cond (.t 79)
 (.ops [
 ⟨(some 80), none, .mov (.t 0)⟩,
 ⟨(some 81), none, .mov (.t 1)⟩,
 ⟨(some 82), none, .buildS [(.int .i64 0)] 0 1 []⟩,
 ⟨(some 83), none, .mov (.t 2)⟩,
 ⟨(some 84), none, .app true 1 (.t 82) (.t 83)⟩,
 ⟨(some 85), none, .mov (.t 13)⟩,
 ⟨(some 86), none, .buildS [(.int .i64 0)] 1 1 [(0, (.t 85))]⟩,
 ⟨(some 87), none, .app true 1 (.t 84) (.t 86)⟩,
 ⟨(some 88), none, .mov (.t 3)⟩,
 ⟨(some 89), none, .call (.c (.fn (.func 48) [] [])) [(.t 80), (.t 81), (.t 87), (.t 88)]⟩] [])
 .skip)))
 (.ops [
 ⟨(some 74), none, .mov (.t 13)⟩,
 ⟨(some 75), none, .bin .add .no (.t 74) (.c (.int .i64 1))⟩,
 ⟨(some 13), none, .mov (.t 75)⟩] [13]))))))),
 []⟩

/-- bellpull/route.checkedGraph -/
noncomputable def sf49 : SFun := ⟨[0, 1, 2, 4, 5, 7, 11], 20,
 (.seq
 (.ops [
 ⟨(some 2), none, .box (.t 0)⟩,
 ⟨(some 4), none, .mov (.c (.int .i64 0))⟩] [2, 4])
 (.seq
 (.ops [
 ⟨(some 6), none, .mkf 60 [] [(.t 2)]⟩,
 ⟨(some 5), none, .mov (.t 6)⟩] [5])
 (.seq
 (.block 0
 (.seq
 (.ops [
 ⟨(some 8), none, .mov (.t 1)⟩,
 ⟨(some 9), none, .lenS (.t 8)⟩,
 ⟨(some 10), none, .bin .gtr .no (.t 9) (.c (.int .i64 30))⟩,
 ⟨(some 7), none, .mov (.t 10)⟩] [7])
 (.cond (.t 7)
 (.seq
 (.ops [
 ⟨(some 4), none, .mov (.c (.int .i64 3))⟩] [4])
 .ret)
 (.seq
 (.ops [
 ⟨(some 12), none, .load none (.t 2)⟩,
 ⟨(some 13), none, .call (.c (.fn (.func 54) [] [])) [(.t 12), (.c (.int .i64 1)), (.c (.int .i64 8))]⟩,
 ⟨(some 14), none, .not (.t 13)⟩,
 ⟨(some 15), none, .mov (.t 14)⟩,
 ⟨(some 16), (some (15, false)), .mov (.t 1)⟩,
 ⟨(some 17), (some (15, false)), .mov (.t 5)⟩,
 ⟨(some 18), (some (15, false)), .call (.c (.fn (.func 61) [] [])) [(.t 16), (.t 17)]⟩,
 ⟨(some 19), none, .pick (.t 15) (.c (.bool true)) (.t 18)⟩,
 ⟨(some 11), none, .mov (.t 19)⟩] [11])
 (.cond (.t 11)
 (.seq
 (.ops [
 ⟨(some 4), none, .mov (.c (.int .i64 1))⟩] [4])
 .ret)
 .skip)))))
 (.seq
 (.ops [
 ⟨(some 4), none, .mov (.c (.int .i64 0))⟩] [4])
 .ret)))),
 [.tmp 4]⟩

/-- bellpull/route.distancesOf -/
noncomputable def sf50 : SFun := ⟨[0, 1, 4, 5, 6, 7, 9, 10, 11, 12, 13, 14, 15, 17, 18, 19, 23, 30, 31, 32, 33, 49, 50, 51, 53, 54, 55, 57, 58, 59], 86,
 (.seq
 (.ops [
 ⟨(some 4), none, .new [(.int .i64 0), (.int .i64 0), (.int .i64 0), (.int .i64 0), (.int .i64 0), (.int .i64 0), (.int .i64 0), (.int .i64 0), (.int .i64 0), (.int .i64 0), (.int .i64 0), (.int .i64 0), (.int .i64 0), (.int .i64 0), (.int .i64 0), (.int .i64 0), (.int .i64 0), (.int .i64 0), (.int .i64 0), (.int .i64 0), (.int .i64 0), (.int .i64 0), (.int .i64 0), (.int .i64 0), (.int .i64 0), (.int .i64 0), (.int .i64 0), (.int .i64 0), (.int .i64 0), (.int .i64 0), (.int .i64 0), (.int .i64 0), (.int .i64 0), (.int .i64 0), (.int .i64 0), (.int .i64 0), (.int .i64 0), (.int .i64 0), (.int .i64 0), (.int .i64 0), (.int .i64 0), (.int .i64 0), (.int .i64 0), (.int .i64 0), (.int .i64 0), (.int .i64 0), (.int .i64 0), (.int .i64 0), (.int .i64 0), (.int .i64 0), (.int .i64 0), (.int .i64 0), (.int .i64 0), (.int .i64 0), (.int .i64 0), (.int .i64 0), (.int .i64 0), (.int .i64 0), (.int .i64 0), (.int .i64 0), (.int .i64 0), (.int .i64 0), (.int .i64 0), (.int .i64 0)]⟩] [4])
 (.seq
 (.ops [
 ⟨(some 5), none, .new [(.int .i64 0), (.int .i64 0), (.int .i64 0), (.int .i64 0), (.int .i64 0), (.int .i64 0), (.int .i64 0), (.int .i64 0), (.int .i64 0), (.int .i64 0), (.int .i64 0), (.int .i64 0), (.int .i64 0), (.int .i64 0), (.int .i64 0), (.int .i64 0), (.int .i64 0), (.int .i64 0), (.int .i64 0), (.int .i64 0), (.int .i64 0), (.int .i64 0), (.int .i64 0), (.int .i64 0), (.int .i64 0), (.int .i64 0), (.int .i64 0), (.int .i64 0), (.int .i64 0), (.int .i64 0), (.int .i64 0), (.int .i64 0), (.int .i64 0), (.int .i64 0), (.int .i64 0), (.int .i64 0), (.int .i64 0), (.int .i64 0), (.int .i64 0), (.int .i64 0), (.int .i64 0), (.int .i64 0), (.int .i64 0), (.int .i64 0), (.int .i64 0), (.int .i64 0), (.int .i64 0), (.int .i64 0), (.int .i64 0), (.int .i64 0), (.int .i64 0), (.int .i64 0), (.int .i64 0), (.int .i64 0), (.int .i64 0), (.int .i64 0), (.int .i64 0), (.int .i64 0), (.int .i64 0), (.int .i64 0), (.int .i64 0), (.int .i64 0), (.int .i64 0), (.int .i64 0)]⟩] [5])
 (.seq
 (.seq
 (.ops [
 ⟨(some 13), none, .mov (.t 0)⟩,
 ⟨(some 14), none, .mov (.c (.int .i64 0))⟩] [13, 14])
 (.block 0
 (.loop
 (.seq
 (.ops [
 ⟨(some 15), none, .bin .lss .no (.t 14) (.t 13)⟩] [15])
 (.seq
 (.cond (.t 15)
 .skip
 (.exit 0))
 (.seq
 (.block 1
 (.seq
 (.ops [
 ⟨(some 16), none, .mov (.t 14)⟩,
 ⟨(some 6), none, .mov (.t 16)⟩] [6])
 (.seq
 (.ops [
 ⟨(some 17), none, .mov (.t 0)⟩,
 ⟨(some 18), none, .mov (.c (.int .i64 0))⟩] [17, 18])
 (.block 2
 (.loop
 (.seq
 (.ops [
 ⟨(some 19), none, .bin .lss .no (.t 18) (.t 17)⟩] [19])
 (.seq
 (.cond (.t 19)
 .skip
 (.exit 2))
 (.seq
 (.block 3
 (.seq
 (.ops [
 ⟨(some 20), none, .mov (.t 18)⟩,
 ⟨(some 7), none, .mov (.t 20)⟩] [7])
 (.seq
 (.ops [
 ⟨(some 21), none, .mov (.t 6)⟩,
 ⟨(some 22), none, .mov (.t 7)⟩,
 ⟨(some 23), none, .bin .neq .no (.t 21) (.t 22)⟩] [23])
 (.cond (.t 23)
 (.ops [
 ⟨(some 24), none, .mov (.t 6)⟩,
 ⟨(some 25), none, .mov (.t 7)⟩,
 ⟨(some 26), none, .ixA 8 8 (.t 5) (.t 24)⟩,
 ⟨(some 27), none, .ixA 8 1 (.t 26) (.t 25)⟩,
 ⟨none, none, .store 1 (.t 27) (.c (.int .i64 8))⟩] [])
 .skip))))
 (.ops [
 ⟨(some 28), none, .bin .add .no (.t 18) (.c (.int .i64 1))⟩,
 ⟨(some 18), none, .mov (.t 28)⟩] [18])))))))))
 (.ops [
 ⟨(some 29), none, .bin .add .no (.t 14) (.c (.int .i64 1))⟩,
 ⟨(some 14), none, .mov (.t 29)⟩] [14])))))))
 (.seq
 (.seq
 (.ops [
 ⟨(some 30), none, .mov (.t 1)⟩,
 ⟨(some 31), none, .lenS (.t 30)⟩,
 ⟨(some 32), none, .mov (.c (.int .i64 0))⟩] [30, 31, 32])
 (.block 4
 (.loop
 (.seq
 (.ops [
 ⟨(some 33), none, .bin .lss .no (.t 32) (.t 31)⟩] [33])
 (.seq
 (.cond (.t 33)
 .skip
 (.exit 4))
 (.seq
 (.block 5
 (.seq
 (.ops [
 ⟨(some 34), none, .ixS 2 (.t 30) (.t 32)⟩,
 ⟨(some 35), none, .load (some 2) (.t 34)⟩,
 ⟨(some 9), none, .new [(.int .i64 0), (.int .i64 0)]⟩,
 ⟨none, none, .store 2 (.t 9) (.t 35)⟩] [9])
 (.draw [
 ⟨⟨(some 36), none, .fa 0 (.t 9)⟩, false, false⟩,
 ⟨⟨(some 37), none, .load none (.t 36)⟩, true, false⟩,
 ⟨⟨(some 38), none, .fa 1 (.t 9)⟩, false, false⟩,
 ⟨⟨(some 39), none, .load none (.t 38)⟩, true, false⟩,
 ⟨⟨(some 40), none, .fa 1 (.t 9)⟩, false, false⟩,
 ⟨⟨(some 41), none, .load none (.t 40)⟩, true, false⟩,
 ⟨⟨(some 42), none, .fa 0 (.t 9)⟩, false, false⟩,
 ⟨⟨(some 43), none, .load none (.t 42)⟩, true, false⟩,
 ⟨⟨(some 44), none, .ixA 8 8 (.t 5) (.t 37)⟩, false, false⟩,
 ⟨⟨(some 45), none, .ixA 8 1 (.t 44) (.t 39)⟩, false, false⟩,
 ⟨⟨none, none, .store 1 (.t 45) (.c (.int .i64 1))⟩, false, true⟩,
 ⟨⟨(some 46), none, .ixA 8 8 (.t 5) (.t 41)⟩, false, false⟩,
 ⟨⟨(some 47), none, .ixA 8 1 (.t 46) (.t 43)⟩, false, false⟩,
 ⟨⟨none, none, .store 1 (.t 47) (.c (.int .i64 1))⟩, false, true⟩] [0, 1, 0, 4, 0, 16, 0, 64, 3, 271, 783, 48, 4095, 8191] [])))
 (.ops [
 ⟨(some 48), none, .bin .add .no (.t 32) (.c (.int .i64 1))⟩,
 ⟨(some 32), none, .mov (.t 48)⟩] [32])))))))
 (.seq
 (.seq
 (.ops [
 ⟨(some 49), none, .mov (.t 0)⟩,
 ⟨(some 50), none, .mov (.c (.int .i64 0))⟩] [49, 50])
 (.block 6
 (.loop
 (.seq
 (.ops [
 ⟨(some 51), none, .bin .lss .no (.t 50) (.t 49)⟩] [51])
 (.seq
 (.cond (.t 51)
 .skip
 (.exit 6))
 (.seq
 (.block 7
 (.seq
 (.ops [
 ⟨(some 52), none, .mov (.t 50)⟩,
 ⟨(some 10), none, .mov (.t 52)⟩] [10])
 (.seq
 (.ops [
 ⟨(some 53), none, .mov (.t 0)⟩,
 ⟨(some 54), none, .mov (.c (.int .i64 0))⟩] [53, 54])
 (.block 8
 (.loop
 (.seq
 (.ops [
 ⟨(some 55), none, .bin .lss .no (.t 54) (.t 53)⟩] [55])
 (.seq
 (.cond (.t 55)
 .skip
 (.exit 8))
 (.seq
 (.block 9
 (.seq
 (.ops [
 ⟨(some 56), none, .mov (.t 54)⟩,
 ⟨(some 11), none, .mov (.t 56)⟩] [11])
 (.seq
 (.ops [
 ⟨(some 57), none, .mov (.t 0)⟩,
 ⟨(some 58), none, .mov (.c (.int .i64 0))⟩] [57, 58])
 (.block 10
 (.loop
 (.seq
 (.ops [
 ⟨(some 59), none, .bin .lss .no (.t 58) (.t 57)⟩] [59])
 (.seq
 (.cond (.t 59)
 .skip
 (.exit 10))
 (.seq
 (.block 11
 (.seq
 (.ops [
 ⟨(some 60), none, .mov (.t 58)⟩,
 ⟨(some 12), none, .mov (.t 60)⟩] [12])
 (.draw [
 ⟨⟨(some 61), none, .mov (.t 11)⟩, false, false⟩,
 ⟨⟨(some 62), none, .mov (.t 12)⟩, false, false⟩,
 ⟨⟨(some 63), none, .mov (.t 11)⟩, false, false⟩,
 ⟨⟨(some 64), none, .mov (.t 12)⟩, false, false⟩,
 ⟨⟨(some 65), none, .ixA 8 8 (.t 5) (.t 63)⟩, false, false⟩,
 ⟨⟨(some 66), none, .ixA 8 1 (.t 65) (.t 64)⟩, false, false⟩,
 ⟨⟨(some 67), none, .load none (.t 66)⟩, true, false⟩,
 ⟨⟨(some 68), none, .mov (.t 11)⟩, false, false⟩,
 ⟨⟨(some 69), none, .mov (.t 10)⟩, false, false⟩,
 ⟨⟨(some 70), none, .ixA 8 8 (.t 5) (.t 68)⟩, false, false⟩,
 ⟨⟨(some 71), none, .ixA 8 1 (.t 70) (.t 69)⟩, false, false⟩,
 ⟨⟨(some 72), none, .load none (.t 71)⟩, true, false⟩,
 ⟨⟨(some 73), none, .mov (.t 10)⟩, false, false⟩,
 ⟨⟨(some 74), none, .mov (.t 12)⟩, false, false⟩,
 ⟨⟨(some 75), none, .ixA 8 8 (.t 5) (.t 73)⟩, false, false⟩,
 ⟨⟨(some 76), none, .ixA 8 1 (.t 75) (.t 74)⟩, false, false⟩,
 ⟨⟨(some 77), none, .load none (.t 76)⟩, true, false⟩,
 ⟨⟨(some 78), none, .bin .add .no (.t 72) (.t 77)⟩, false, false⟩,
 ⟨⟨(some 79), none, .mn (.t 67) (.t 78)⟩, false, false⟩,
 ⟨⟨(some 80), none, .ixA 8 8 (.t 5) (.t 61)⟩, false, false⟩,
 ⟨⟨(some 81), none, .ixA 8 1 (.t 80) (.t 62)⟩, false, false⟩,
 ⟨⟨none, none, .store 1 (.t 81) (.t 79)⟩, false, true⟩] [0, 0, 0, 0, 4, 28, 60, 0, 0, 128, 896, 1920, 0, 0, 4096, 28672, 61440, 130944, 262140, 1, 1048575, 2097151] [])))
 (.ops [
 ⟨(some 82), none, .bin .add .no (.t 58) (.c (.int .i64 1))⟩,
 ⟨(some 58), none, .mov (.t 82)⟩] [58])))))))))
 (.ops [
 ⟨(some 83), none, .bin .add .no (.t 54) (.c (.int .i64 1))⟩,
 ⟨(some 54), none, .mov (.t 83)⟩] [54])))))))))
 (.ops [
 ⟨(some 84), none, .bin .add .no (.t 50) (.c (.int .i64 1))⟩,
 ⟨(some 50), none, .mov (.t 84)⟩] [50])))))))
 (.seq
 (.ops [
 ⟨(some 85), none, .load (some 64) (.t 5)⟩,
 ⟨none, none, .store 64 (.t 4) (.t 85)⟩] [])
 .ret)))))),
 [.cell 4 (some 64)]⟩

/-- bellpull/route.greatestDistance -/
noncomputable def sf51 : SFun := ⟨[0, 1, 3, 4, 5, 6, 7, 8, 9, 10, 12, 13, 14], 26,
 (.seq
 (.ops [
 ⟨(some 3), none, .box (.t 1)⟩,
 ⟨(some 4), none, .mov (.c (.int .i64 0))⟩] [3, 4])
 (.seq
 (.ops [
 ⟨(some 5), none, .mov (.c (.int .i64 0))⟩] [5])
 (.seq
 (.seq
 (.ops [
 ⟨(some 8), none, .mov (.t 0)⟩,
 ⟨(some 9), none, .mov (.c (.int .i64 0))⟩] [8, 9])
 (.block 0
 (.loop
 (.seq
 (.ops [
 ⟨(some 10), none, .bin .lss .no (.t 9) (.t 8)⟩] [10])
 (.seq
 (.cond (.t 10)
 .skip
 (.exit 0))
 (.seq
 (.block 1
 (.seq
 (.ops [
 ⟨(some 11), none, .mov (.t 9)⟩,
 ⟨(some 6), none, .mov (.t 11)⟩] [6])
 (.seq
 (.ops [
 ⟨(some 12), none, .mov (.t 0)⟩,
 ⟨(some 13), none, .mov (.c (.int .i64 0))⟩] [12, 13])
 (.block 2
 (.loop
 (.seq
 (.ops [
 ⟨(some 14), none, .bin .lss .no (.t 13) (.t 12)⟩] [14])
 (.seq
 (.cond (.t 14)
 .skip
 (.exit 2))
 (.seq
 (.block 3
 (.seq
 (.ops [
 ⟨(some 15), none, .mov (.t 13)⟩,
 ⟨(some 7), none, .mov (.t 15)⟩] [7])
 (.ops [
 ⟨(some 16), none, .mov (.t 5)⟩,
 ⟨(some 17), none, .mov (.t 6)⟩,
 ⟨(some 18), none, .mov (.t 7)⟩,
 ⟨(some 19), none, .ixA 8 8 (.t 3) (.t 17)⟩,
 ⟨(some 20), none, .ixA 8 1 (.t 19) (.t 18)⟩,
 ⟨(some 21), none, .load none (.t 20)⟩,
 ⟨(some 22), none, .mx (.t 16) (.t 21)⟩,
 ⟨(some 5), none, .mov (.t 22)⟩] [5])))
 (.ops [
 ⟨(some 23), none, .bin .add .no (.t 13) (.c (.int .i64 1))⟩,
 ⟨(some 13), none, .mov (.t 23)⟩] [13])))))))))
 (.ops [
 ⟨(some 24), none, .bin .add .no (.t 9) (.c (.int .i64 1))⟩,
 ⟨(some 9), none, .mov (.t 24)⟩] [9])))))))
 (.seq
 (.ops [
 ⟨(some 25), none, .mov (.t 5)⟩,
 ⟨(some 4), none, .mov (.t 25)⟩] [4])
 .ret)))),
 [.tmp 4]⟩

/-- bellpull/route.dividedUp -/
noncomputable def sf52 : SFun := ⟨[0, 1, 4], 11,
 (.seq
 (.ops [
 ⟨(some 4), none, .mov (.c (.int .i64 0))⟩] [4])
 (.seq
 (.ops [
 ⟨(some 5), none, .mov (.t 0)⟩,
 ⟨(some 6), none, .mov (.t 1)⟩,
 ⟨(some 7), none, .bin .add .no (.t 5) (.t 6)⟩,
 ⟨(some 8), none, .bin .sub .no (.t 7) (.c (.int .i64 1))⟩,
 ⟨(some 9), none, .mov (.t 1)⟩,
 ⟨(some 10), none, .bin .quo .no (.t 8) (.t 9)⟩,
 ⟨(some 4), none, .mov (.t 10)⟩] [4])
 .ret)),
 [.tmp 4]⟩

/-- bellpull/route.mostNeighbours -/
noncomputable def sf53 : SFun := ⟨[0, 1, 3, 4, 5, 6, 7, 8, 9, 10, 11, 13, 14, 15, 22], 31,
 (.seq
 (.ops [
 ⟨(some 3), none, .box (.t 1)⟩,
 ⟨(some 4), none, .mov (.c (.int .i64 0))⟩] [3, 4])
 (.seq
 (.ops [
 ⟨(some 5), none, .mov (.c (.int .i64 0))⟩] [5])
 (.seq
 (.seq
 (.ops [
 ⟨(some 9), none, .mov (.t 0)⟩,
 ⟨(some 10), none, .mov (.c (.int .i64 0))⟩] [9, 10])
 (.block 0
 (.loop
 (.seq
 (.ops [
 ⟨(some 11), none, .bin .lss .no (.t 10) (.t 9)⟩] [11])
 (.seq
 (.cond (.t 11)
 .skip
 (.exit 0))
 (.seq
 (.block 1
 (.seq
 (.ops [
 ⟨(some 12), none, .mov (.t 10)⟩,
 ⟨(some 6), none, .mov (.t 12)⟩] [6])
 (.seq
 (.ops [
 ⟨(some 7), none, .mov (.c (.int .i64 0))⟩] [7])
 (.seq
 (.seq
 (.ops [
 ⟨(some 13), none, .mov (.t 0)⟩,
 ⟨(some 14), none, .mov (.c (.int .i64 0))⟩] [13, 14])
 (.block 2
 (.loop
 (.seq
 (.ops [
 ⟨(some 15), none, .bin .lss .no (.t 14) (.t 13)⟩] [15])
 (.seq
 (.cond (.t 15)
 .skip
 (.exit 2))
 (.seq
 (.block 3
 (.seq
 (.ops [
 ⟨(some 16), none, .mov (.t 14)⟩,
 ⟨(some 8), none, .mov (.t 16)⟩] [8])
 (.seq
 (.ops [
 ⟨(some 17), none, .mov (.t 6)⟩,
 ⟨(some 18), none, .mov (.t 8)⟩,
 ⟨(some 19), none, .ixA 8 8 (.t 3) (.t 17)⟩,
 ⟨(some 20), none, .ixA 8 1 (.t 19) (.t 18)⟩,
 ⟨(some 21), none, .load none (.t 20)⟩,
 ⟨(some 22), none, .bin .eql .no (.t 21) (.c (.int .i64 1))⟩] [22])
 (.cond (.t 22)
 (.ops [
 ⟨(some 23), none, .mov (.t 7)⟩,
 ⟨(some 24), none, .bin .add .no (.t 23) (.c (.int .i64 1))⟩,
 ⟨(some 7), none, .mov (.t 24)⟩] [7])
 .skip))))
 (.ops [
 ⟨(some 25), none, .bin .add .no (.t 14) (.c (.int .i64 1))⟩,
 ⟨(some 14), none, .mov (.t 25)⟩] [14])))))))
 (.ops [
 ⟨(some 26), none, .mov (.t 5)⟩,
 ⟨(some 27), none, .mov (.t 7)⟩,
 ⟨(some 28), none, .mx (.t 26) (.t 27)⟩,
 ⟨(some 5), none, .mov (.t 28)⟩] [5])))))
 (.ops [
 ⟨(some 29), none, .bin .add .no (.t 10) (.c (.int .i64 1))⟩,
 ⟨(some 10), none, .mov (.t 29)⟩] [10])))))))
 (.seq
 (.ops [
 ⟨(some 30), none, .mov (.t 5)⟩,
 ⟨(some 4), none, .mov (.t 30)⟩] [4])
 .ret)))),
 [.tmp 4]⟩

/-- bellpull/route.within -/
noncomputable def sf54 : SFun := ⟨[0, 1, 2, 6], 15,
 (.seq
 (.ops [
 ⟨(some 6), none, .mov (.c (.bool false))⟩] [6])
 (.seq
 (.ops [
 ⟨(some 7), none, .mov (.t 1)⟩,
 ⟨(some 8), none, .mov (.t 0)⟩,
 ⟨(some 9), none, .bin .leq .no (.t 7) (.t 8)⟩,
 ⟨(some 10), none, .mov (.t 9)⟩,
 ⟨(some 11), (some (10, true)), .mov (.t 0)⟩,
 ⟨(some 12), (some (10, true)), .mov (.t 2)⟩,
 ⟨(some 13), (some (10, true)), .bin .leq .no (.t 11) (.t 12)⟩,
 ⟨(some 14), none, .pick (.t 10) (.t 13) (.c (.bool false))⟩,
 ⟨(some 6), none, .mov (.t 14)⟩] [6])
 .ret)),
 [.tmp 6]⟩

/-- bellpull/route.isPermutation -/
noncomputable def sf55 : SFun := ⟨[0, 1, 4, 5, 6, 10, 11, 12, 13, 14, 29], 31,
 (.seq
 (.ops [
 ⟨(some 4), none, .mov (.c (.bool false))⟩] [4])
 (.seq
 (.seq
 (.ops [
 ⟨(some 7), none, .mov (.t 0)⟩,
 ⟨(some 8), none, .lenS (.t 7)⟩,
 ⟨(some 9), none, .mov (.t 1)⟩,
 ⟨(some 10), none, .bin .neq .no (.t 8) (.t 9)⟩] [10])
 (.cond (.t 10)
 (.seq
 (.ops [
 ⟨(some 4), none, .mov (.c (.bool false))⟩] [4])
 .ret)
 .skip))
 (.seq
 (.seq
 (.ops [
 ⟨(some 11), none, .mov (.t 0)⟩,
 ⟨(some 12), none, .lenS (.t 11)⟩,
 ⟨(some 13), none, .mov (.c (.int .i64 0))⟩] [11, 12, 13])
 (.block 0
 (.loop
 (.seq
 (.ops [
 ⟨(some 14), none, .bin .lss .no (.t 13) (.t 12)⟩] [14])
 (.seq
 (.cond (.t 14)
 .skip
 (.exit 0))
 (.seq
 (.block 1
 (.seq
 (.ops [
 ⟨(some 15), none, .mov (.t 13)⟩,
 ⟨(some 16), none, .ixS 1 (.t 11) (.t 13)⟩,
 ⟨(some 17), none, .load none (.t 16)⟩,
 ⟨(some 5), none, .mov (.t 15)⟩,
 ⟨(some 6), none, .mov (.t 17)⟩] [5, 6])
 (.seq
 (.ops [
 ⟨(some 18), none, .mov (.t 6)⟩,
 ⟨(some 19), none, .mov (.t 1)⟩,
 ⟨(some 20), none, .bin .sub .no (.t 19) (.c (.int .i64 1))⟩,
 ⟨(some 21), none, .call (.c (.fn (.func 54) [] [])) [(.t 18), (.c (.int .i64 0)), (.t 20)]⟩,
 ⟨(some 22), none, .not (.t 21)⟩,
 ⟨(some 23), none, .mov (.t 22)⟩,
 ⟨(some 24), (some (23, false)), .mov (.t 0)⟩,
 ⟨(some 25), (some (23, false)), .mov (.t 5)⟩,
 ⟨(some 26), (some (23, false)), .slice 1 (.t 24) none (some (.t 25))⟩,
 ⟨(some 27), (some (23, false)), .mov (.t 6)⟩,
 ⟨(some 28), (some (23, false)), .call (.c (.fn (.func 62) [] [])) [(.t 26), (.t 27)]⟩,
 ⟨(some 29), none, .pick (.t 23) (.c (.bool true)) (.t 28)⟩] [29])
 (.cond (.t 29)
 (.seq
 (.ops [
 ⟨(some 4), none, .mov (.c (.bool false))⟩] [4])
 .ret)
 .skip))))
 (.ops [
 ⟨(some 30), none, .bin .add .no (.t 13) (.c (.int .i64 1))⟩,
 ⟨(some 13), none, .mov (.t 30)⟩] [13])))))))
 (.seq
 (.ops [
 ⟨(some 4), none, .mov (.c (.bool true))⟩] [4])
 .ret)))),
 [.tmp 4]⟩

/-- slices.Reverse[[]int,int] -/
noncomputable def sf56 : SFun := ⟨[0, 2, 3, 9], 28,
 (.seq
 (.ops [
 ⟨(some 4), none, .mov (.t 0)⟩,
 ⟨(some 5), none, .lenS (.t 4)⟩,
 ⟨(some 6), none, .bin .sub .no (.t 5) (.c (.int .i64 1))⟩,
 ⟨(some 2), none, .mov (.c (.int .i64 0))⟩,
 ⟨(some 3), none, .mov (.t 6)⟩] [2, 3])
 (.block 0
 (.loop
 (.seq
 (.seq
 (.ops [
 ⟨(some 7), none, .mov (.t 2)⟩,
 ⟨(some 8), none, .mov (.t 3)⟩,
 ⟨(some 9), none, .bin .lss .no (.t 7) (.t 8)⟩] [9])
 (.cond (.t 9)
 .skip
 (.exit 0)))
 (.seq
 (.block 1
 (.draw [
 ⟨⟨(some 14), none, .mov (.t 0)⟩, false, false⟩,
 ⟨⟨(some 15), none, .mov (.t 2)⟩, false, false⟩,
 ⟨⟨(some 16), none, .mov (.t 0)⟩, false, false⟩,
 ⟨⟨(some 17), none, .mov (.t 3)⟩, false, false⟩,
 ⟨⟨(some 18), none, .mov (.t 0)⟩, false, false⟩,
 ⟨⟨(some 19), none, .mov (.t 3)⟩, false, false⟩,
 ⟨⟨(some 20), none, .ixS 1 (.t 18) (.t 19)⟩, false, false⟩,
 ⟨⟨(some 21), none, .load none (.t 20)⟩, true, false⟩,
 ⟨⟨(some 22), none, .mov (.t 0)⟩, false, false⟩,
 ⟨⟨(some 23), none, .mov (.t 2)⟩, false, false⟩,
 ⟨⟨(some 24), none, .ixS 1 (.t 22) (.t 23)⟩, false, false⟩,
 ⟨⟨(some 25), none, .load none (.t 24)⟩, true, false⟩,
 ⟨⟨(some 26), none, .ixS 1 (.t 14) (.t 15)⟩, false, false⟩,
 ⟨⟨none, none, .store 1 (.t 26) (.t 21)⟩, false, true⟩,
 ⟨⟨(some 27), none, .ixS 1 (.t 16) (.t 17)⟩, false, false⟩,
 ⟨⟨none, none, .store 1 (.t 27) (.t 25)⟩, false, true⟩] [0, 0, 0, 0, 0, 0, 48, 112, 0, 0, 768, 1792, 4083, 8179, 16383, 32767] []))
 (.ops [
 ⟨(some 10), none, .mov (.t 2)⟩,
 ⟨(some 11), none, .bin .add .no (.t 10) (.c (.int .i64 1))⟩,
 ⟨(some 12), none, .mov (.t 3)⟩,
 ⟨(some 13), none, .bin .sub .no (.t 12) (.c (.int .i64 1))⟩,
 ⟨(some 2), none, .mov (.t 11)⟩,
 ⟨(some 3), none, .mov (.t 13)⟩] [2, 3])))))),
 []⟩

/-- bellpull/route.ends -/
noncomputable def sf57 : SFun := ⟨[0, 1, 2, 3, 4, 5], 24,
 (.seq
 (.ops [
 ⟨(some 2), none, .box (.t 0)⟩,
 ⟨(some 3), none, .box (.t 1)⟩,
 ⟨(some 4), none, .mov (.c (.int .i64 0))⟩,
 ⟨(some 5), none, .mov (.c (.int .i64 0))⟩] [2, 3, 4, 5])
 (.seq
 (.ops [
 ⟨(some 6), none, .fa 0 (.t 2)⟩,
 ⟨(some 7), none, .load none (.t 6)⟩,
 ⟨(some 8), none, .ixA 8 1 (.t 3) (.t 7)⟩,
 ⟨(some 9), none, .load none (.t 8)⟩,
 ⟨(some 10), none, .fa 1 (.t 2)⟩,
 ⟨(some 11), none, .load none (.t 10)⟩,
 ⟨(some 12), none, .ixA 8 1 (.t 3) (.t 11)⟩,
 ⟨(some 13), none, .load none (.t 12)⟩,
 ⟨(some 14), none, .mn (.t 9) (.t 13)⟩,
 ⟨(some 15), none, .fa 0 (.t 2)⟩,
 ⟨(some 16), none, .load none (.t 15)⟩,
 ⟨(some 17), none, .ixA 8 1 (.t 3) (.t 16)⟩,
 ⟨(some 18), none, .load none (.t 17)⟩,
 ⟨(some 19), none, .fa 1 (.t 2)⟩,
 ⟨(some 20), none, .load none (.t 19)⟩,
 ⟨(some 21), none, .ixA 8 1 (.t 3) (.t 20)⟩,
 ⟨(some 22), none, .load none (.t 21)⟩,
 ⟨(some 23), none, .mx (.t 18) (.t 22)⟩,
 ⟨(some 4), none, .mov (.t 14)⟩,
 ⟨(some 5), none, .mov (.t 23)⟩] [4, 5])
 .ret)),
 [.tmp 4, .tmp 5]⟩

/-- slices.Max[[]int,int] -/
noncomputable def sf58 : SFun := ⟨[0, 2, 3, 4, 7, 15], 25,
 (.seq
 (.ops [
 ⟨(some 2), none, .mov (.c (.int .i64 0))⟩] [2])
 (.seq
 (.seq
 (.ops [
 ⟨(some 5), none, .mov (.t 0)⟩,
 ⟨(some 6), none, .lenS (.t 5)⟩,
 ⟨(some 7), none, .bin .lss .no (.t 6) (.c (.int .i64 1))⟩] [7])
 (.cond (.t 7)
 (.ops [
 ⟨(some 8), none, .bad⟩,
 ⟨none, none, .bad⟩] [])
 .skip))
 (.seq
 (.ops [
 ⟨(some 9), none, .mov (.t 0)⟩,
 ⟨(some 10), none, .ixS 1 (.t 9) (.c (.int .i64 0))⟩,
 ⟨(some 11), none, .load none (.t 10)⟩,
 ⟨(some 3), none, .mov (.t 11)⟩] [3])
 (.seq
 (.seq
 (.ops [
 ⟨(some 4), none, .mov (.c (.int .i64 1))⟩] [4])
 (.block 0
 (.loop
 (.seq
 (.seq
 (.ops [
 ⟨(some 12), none, .mov (.t 4)⟩,
 ⟨(some 13), none, .mov (.t 0)⟩,
 ⟨(some 14), none, .lenS (.t 13)⟩,
 ⟨(some 15), none, .bin .lss .no (.t 12) (.t 14)⟩] [15])
 (.cond (.t 15)
 .skip
 (.exit 0)))
 (.seq
 (.block 1
 (.ops [
 ⟨(some 18), none, .mov (.t 3)⟩,
 ⟨(some 19), none, .mov (.t 0)⟩,
 ⟨(some 20), none, .mov (.t 4)⟩,
 ⟨(some 21), none, .ixS 1 (.t 19) (.t 20)⟩,
 ⟨(some 22), none, .load none (.t 21)⟩,
 ⟨(some 23), none, .mx (.t 18) (.t 22)⟩,
 ⟨(some 3), none, .mov (.t 23)⟩] [3]))
 (.ops [
 ⟨(some 16), none, .mov (.t 4)⟩,
 ⟨(some 17), none, .bin .add .no (.t 16) (.c (.int .i64 1))⟩,
 ⟨(some 4), none, .mov (.t 17)⟩] [4]))))))
 (.seq
 (.ops [
 ⟨(some 24), none, .mov (.t 3)⟩,
 ⟨(some 2), none, .mov (.t 24)⟩] [2])
 .ret))))),
 [.tmp 2]⟩

/-- (bellpull/route.search).first -/
noncomputable def sf59 : SFun := ⟨[0, 1, 2, 3, 4, 5, 6, 7, 8, 9, 10, 11, 19, 24, 38, 43, 50], 64,
 (.seq
 (.ops [
 ⟨(some 1), none, .box (.t 0)⟩,
 ⟨(some 2), none, .mov (.c (.int .i64 0))⟩,
 ⟨(some 3), none, .mov (.c .nilsl)⟩] [1, 2, 3])
 (.seq
 (.ops [
 ⟨(some 4), none, .mov (.c (.int .i64 9223372036854775807))⟩,
 ⟨(some 5), none, .mov (.c .nilsl)⟩] [4, 5])
 (.seq
 (.ops [
 ⟨(some 12), none, .fa 0 (.t 1)⟩,
 ⟨(some 13), none, .load none (.t 12)⟩,
 ⟨(some 14), none, .mks [(.int .i64 0)] 1 (.c (.int .i64 0)) (.t 13)⟩,
 ⟨(some 6), none, .mov (.t 14)⟩] [6])
 (.seq
 (.ops [
 ⟨(some 7), none, .mov (.c (.int .i64 0))⟩] [7])
 (.seq
 (.block 0
 (.loop
 (.block 1
 (.seq
 (.seq
 (.ops [
 ⟨(some 15), none, .mov (.t 7)⟩,
 ⟨(some 8), none, .mov (.t 15)⟩] [8])
 (.block 2
 (.loop
 (.seq
 (.seq
 (.ops [
 ⟨(some 16), none, .mov (.t 8)⟩,
 ⟨(some 17), none, .fa 0 (.t 1)⟩,
 ⟨(some 18), none, .load none (.t 17)⟩,
 ⟨(some 19), none, .bin .lss .no (.t 16) (.t 18)⟩] [19])
 (.cond (.t 19)
 .skip
 (.exit 2)))
 (.seq
 (.block 3
 (.seq
 (.seq
 (.ops [
 ⟨(some 22), none, .mov (.t 6)⟩,
 ⟨(some 23), none, .mov (.t 8)⟩,
 ⟨(some 24), none, .call (.c (.fn (.func 62) [] [])) [(.t 22), (.t 23)]⟩] [24])
 (.cond (.t 24)
 (.exit 3)
 .skip))
 (.seq
 (.ops [
 ⟨(some 25), none, .mov (.t 6)⟩,
 ⟨(some 26), none, .mov (.t 8)⟩,
 ⟨(some 27), none, .buildS [(.int .i64 0)] 1 1 [(0, (.t 26))]⟩,
 ⟨(some 28), none, .app true 1 (.t 25) (.t 27)⟩,
 ⟨(some 9), none, .mov (.t 28)⟩] [9])
 (.seq
 (.draw [
 ⟨⟨(some 29), none, .fa 2 (.t 1)⟩, false, false⟩,
 ⟨⟨(some 30), none, .load none (.t 29)⟩, true, false⟩,
 ⟨⟨(some 31), none, .fa 1 (.t 1)⟩, false, false⟩,
 ⟨⟨(some 32), none, .load none (.t 31)⟩, true, false⟩,
 ⟨⟨(some 33), none, .mov (.t 9)⟩, false, false⟩,
 ⟨⟨(some 34), none, .call (.c (.fn (.func 37) [] [])) [(.t 33)]⟩, false, true⟩,
 ⟨⟨(some 35), none, .call (.t 30) [(.t 32), (.t 34)]⟩, false, true⟩,
 ⟨⟨(some 10), none, .mov (.t 35)⟩, false, false⟩] [0, 1, 0, 4, 0, 16, 63, 127] [10])
 (.seq
 (.seq
 (.ops [
 ⟨(some 36), none, .mov (.t 10)⟩,
 ⟨(some 37), none, .mov (.t 4)⟩,
 ⟨(some 38), none, .bin .geq .no (.t 36) (.t 37)⟩] [38])
 (.cond (.t 38)
 (.exit 3)
 .skip))
 (.seq
 (.seq
 (.ops [
 ⟨(some 39), none, .mov (.t 9)⟩,
 ⟨(some 40), none, .lenS (.t 39)⟩,
 ⟨(some 41), none, .fa 0 (.t 1)⟩,
 ⟨(some 42), none, .load none (.t 41)⟩,
 ⟨(some 43), none, .bin .lss .no (.t 40) (.t 42)⟩] [43])
 (.cond (.t 43)
 (.seq
 (.ops [
 ⟨(some 44), none, .mov (.t 9)⟩,
 ⟨(some 6), none, .mov (.t 44)⟩,
 ⟨(some 7), none, .mov (.c (.int .i64 0))⟩] [6, 7])
 (.exit 1))
 .skip))
 (.ops [
 ⟨(some 45), none, .mov (.t 10)⟩,
 ⟨(some 46), none, .mov (.t 9)⟩,
 ⟨(some 47), none, .call (.c (.fn (.func 42) [] [])) [(.t 46)]⟩,
 ⟨(some 4), none, .mov (.t 45)⟩,
 ⟨(some 5), none, .mov (.t 47)⟩] [4, 5])))))))
 (.ops [
 ⟨(some 20), none, .mov (.t 8)⟩,
 ⟨(some 21), none, .bin .add .no (.t 20) (.c (.int .i64 1))⟩,
 ⟨(some 8), none, .mov (.t 21)⟩] [8]))))))
 (.seq
 (.seq
 (.ops [
 ⟨(some 48), none, .mov (.t 6)⟩,
 ⟨(some 49), none, .lenS (.t 48)⟩,
 ⟨(some 50), none, .bin .eql .no (.t 49) (.c (.int .i64 0))⟩] [50])
 (.cond (.t 50)
 (.exit 0)
 .skip))
 (.seq
 (.ops [
 ⟨(some 51), none, .mov (.t 6)⟩,
 ⟨(some 52), none, .lenS (.t 51)⟩,
 ⟨(some 53), none, .bin .sub .no (.t 52) (.c (.int .i64 1))⟩,
 ⟨(some 11), none, .mov (.t 53)⟩] [11])
 (.seq
 (.ops [
 ⟨(some 54), none, .mov (.t 6)⟩,
 ⟨(some 55), none, .mov (.t 11)⟩,
 ⟨(some 56), none, .ixS 1 (.t 54) (.t 55)⟩,
 ⟨(some 57), none, .load none (.t 56)⟩,
 ⟨(some 58), none, .bin .add .no (.t 57) (.c (.int .i64 1))⟩,
 ⟨(some 7), none, .mov (.t 58)⟩] [7])
 (.ops [
 ⟨(some 59), none, .mov (.t 6)⟩,
 ⟨(some 60), none, .mov (.t 11)⟩,
 ⟨(some 61), none, .slice 1 (.t 59) none (some (.t 60))⟩,
 ⟨(some 6), none, .mov (.t 61)⟩] [6]))))))))
 (.seq
 (.ops [
 ⟨(some 62), none, .mov (.t 4)⟩,
 ⟨(some 63), none, .mov (.t 5)⟩,
 ⟨(some 2), none, .mov (.t 62)⟩,
 ⟨(some 3), none, .mov (.t 63)⟩] [2, 3])
 .ret)))))),
 [.tmp 2, .tmp 3]⟩

/-- bellpull/route.checkedGraph$1 -/
noncomputable def sf60 : SFun := ⟨[0, 1, 2, 3], 25,
 (.seq
 (.ops [
 ⟨(some 2), none, .box (.t 0)⟩,
 ⟨(some 3), none, .mov (.c (.bool false))⟩] [2, 3])
 (.seq
 (.ops [
 ⟨(some 4), none, .fa 0 (.t 2)⟩,
 ⟨(some 5), none, .load none (.t 4)⟩,
 ⟨(some 6), none, .load none (.t 1)⟩,
 ⟨(some 7), none, .bin .sub .no (.t 6) (.c (.int .i64 1))⟩,
 ⟨(some 8), none, .call (.c (.fn (.func 54) [] [])) [(.t 5), (.c (.int .i64 0)), (.t 7)]⟩,
 ⟨(some 9), none, .not (.t 8)⟩,
 ⟨(some 10), none, .mov (.t 9)⟩,
 ⟨(some 11), (some (10, false)), .fa 1 (.t 2)⟩,
 ⟨(some 12), (some (10, false)), .load none (.t 11)⟩,
 ⟨(some 13), (some (10, false)), .load none (.t 1)⟩,
 ⟨(some 14), (some (10, false)), .bin .sub .no (.t 13) (.c (.int .i64 1))⟩,
 ⟨(some 15), (some (10, false)), .call (.c (.fn (.func 54) [] [])) [(.t 12), (.c (.int .i64 0)), (.t 14)]⟩,
 ⟨(some 16), (some (10, false)), .not (.t 15)⟩,
 ⟨(some 17), none, .pick (.t 10) (.c (.bool true)) (.t 16)⟩,
 ⟨(some 18), none, .mov (.t 17)⟩,
 ⟨(some 19), (some (18, false)), .fa 0 (.t 2)⟩,
 ⟨(some 20), (some (18, false)), .load none (.t 19)⟩,
 ⟨(some 21), (some (18, false)), .fa 1 (.t 2)⟩,
 ⟨(some 22), (some (18, false)), .load none (.t 21)⟩,
 ⟨(some 23), (some (18, false)), .bin .eql .no (.t 20) (.t 22)⟩,
 ⟨(some 24), none, .pick (.t 18) (.c (.bool true)) (.t 23)⟩,
 ⟨(some 3), none, .mov (.t 24)⟩] [3])
 .ret)),
 [.tmp 3]⟩

/-- slices.ContainsFunc[[]bellpull/api.Pair,bellpull/api.Pair] -/
noncomputable def sf61 : SFun := ⟨[0, 1, 4], 9,
 (.seq
 (.ops [
 ⟨(some 4), none, .mov (.c (.bool false))⟩] [4])
 (.seq
 (.ops [
 ⟨(some 5), none, .mov (.t 0)⟩,
 ⟨(some 6), none, .mov (.t 1)⟩,
 ⟨(some 7), none, .call (.c (.fn (.func 63) [] [])) [(.t 5), (.t 6)]⟩,
 ⟨(some 8), none, .bin .geq .no (.t 7) (.c (.int .i64 0))⟩,
 ⟨(some 4), none, .mov (.t 8)⟩] [4])
 .ret)),
 [.tmp 4]⟩

/-- slices.Contains[[]int,int] -/
noncomputable def sf62 : SFun := ⟨[0, 1, 4], 9,
 (.seq
 (.ops [
 ⟨(some 4), none, .mov (.c (.bool false))⟩] [4])
 (.seq
 (.ops [
 ⟨(some 5), none, .mov (.t 0)⟩,
 ⟨(some 6), none, .mov (.t 1)⟩,
 ⟨(some 7), none, .call (.c (.fn (.func 64) [] [])) [(.t 5), (.t 6)]⟩,
 ⟨(some 8), none, .bin .geq .no (.t 7) (.c (.int .i64 0))⟩,
 ⟨(some 4), none, .mov (.t 8)⟩] [4])
 .ret)),
 [.tmp 4]⟩

/-- slices.IndexFunc[[]bellpull/api.Pair,bellpull/api.Pair] -/
noncomputable def sf63 : SFun := ⟨[0, 1, 4, 5, 7, 8, 9, 16], 19,
 (.seq
 (.ops [
 ⟨(some 4), none, .mov (.c (.int .i64 0))⟩] [4])
 (.seq
 (.seq
 (.ops [
 ⟨(some 6), none, .mov (.t 0)⟩,
 ⟨(some 7), none, .lenS (.t 6)⟩,
 ⟨(some 8), none, .mov (.c (.int .i64 0))⟩] [7, 8])
 (.block 0
 (.loop
 (.seq
 (.ops [
 ⟨(some 9), none, .bin .lss .no (.t 8) (.t 7)⟩] [9])
 (.seq
 (.cond (.t 9)
 .skip
 (.exit 0))
 (.seq
 (.block 1
 (.seq
 (.ops [
 ⟨(some 10), none, .mov (.t 8)⟩,
 ⟨(some 5), none, .mov (.t 10)⟩] [5])
 (.seq
 (.ops [
 ⟨(some 11), none, .mov (.t 1)⟩,
 ⟨(some 12), none, .mov (.t 0)⟩,
 ⟨(some 13), none, .mov (.t 5)⟩,
 ⟨(some 14), none, .ixS 2 (.t 12) (.t 13)⟩,
 ⟨(some 15), none, .load (some 2) (.t 14)⟩,
 ⟨(some 16), none, .call (.t 11) [(.t 15)]⟩] [16])
 (.cond (.t 16)
 (.seq
 (.ops [
 ⟨(some 17), none, .mov (.t 5)⟩,
 ⟨(some 4), none, .mov (.t 17)⟩] [4])
 .ret)
 .skip))))
 (.ops [
 ⟨(some 18), none, .bin .add .no (.t 8) (.c (.int .i64 1))⟩,
 ⟨(some 8), none, .mov (.t 18)⟩] [8])))))))
 (.seq
 (.ops [
 ⟨(some 4), none, .mov (.c (.int .i64 (-1)))⟩] [4])
 .ret))),
 [.tmp 4]⟩

/-- slices.Index[[]int,int] -/
noncomputable def sf64 : SFun := ⟨[0, 1, 4, 5, 7, 8, 9, 16], 19,
 (.seq
 (.ops [
 ⟨(some 4), none, .mov (.c (.int .i64 0))⟩] [4])
 (.seq
 (.seq
 (.ops [
 ⟨(some 6), none, .mov (.t 0)⟩,
 ⟨(some 7), none, .lenS (.t 6)⟩,
 ⟨(some 8), none, .mov (.c (.int .i64 0))⟩] [7, 8])
 (.block 0
 (.loop
 (.seq
 (.ops [
 ⟨(some 9), none, .bin .lss .no (.t 8) (.t 7)⟩] [9])
 (.seq
 (.cond (.t 9)
 .skip
 (.exit 0))
 (.seq
 (.block 1
 (.seq
 (.ops [
 ⟨(some 10), none, .mov (.t 8)⟩,
 ⟨(some 5), none, .mov (.t 10)⟩] [5])
 (.seq
 (.ops [
 ⟨(some 11), none, .mov (.t 1)⟩,
 ⟨(some 12), none, .mov (.t 0)⟩,
 ⟨(some 13), none, .mov (.t 5)⟩,
 ⟨(some 14), none, .ixS 1 (.t 12) (.t 13)⟩,
 ⟨(some 15), none, .load none (.t 14)⟩,
 ⟨(some 16), none, .bin .eql .no (.t 11) (.t 15)⟩] [16])
 (.cond (.t 16)
 (.seq
 (.ops [
 ⟨(some 17), none, .mov (.t 5)⟩,
 ⟨(some 4), none, .mov (.t 17)⟩] [4])
 .ret)
 .skip))))
 (.ops [
 ⟨(some 18), none, .bin .add .no (.t 8) (.c (.int .i64 1))⟩,
 ⟨(some 8), none, .mov (.t 18)⟩] [8])))))))
 (.seq
 (.ops [
 ⟨(some 4), none, .mov (.c (.int .i64 (-1)))⟩] [4])
 .ret))),
 [.tmp 4]⟩


end Go.Proofs.Ytihadgkgogfhcaa
