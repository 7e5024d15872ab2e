/- The program's functions, compiled. -/
import Derived.Test.YtogfojkjocbahaaRows
import Derived.Test.YtogfojkjocbahaaSE
import Derived.KernelRfl
set_option linter.unusedVariables false
set_option maxRecDepth 100000
namespace Go.Proofs.Ytogfojkjocbahaa
open Go Go.Abs
/-- gosem.cut.init -/
noncomputable def sf2 : SFun := ⟨[], 1,
 (.ops [
   ⟨(some 0), none, .call (.c (.fn (.func 1) [] [])) []⟩] []),
 []⟩

/-- bellpull/bellpulllaw02.EchoRuns -/
noncomputable def sf3 : SFun := ⟨[0, 2, 3, 4, 5, 6, 17], 40,
 (.seq
  (.ops [
    ⟨(some 2), none, .mov (.c (.bool false))⟩] [2])
  (.seq
   (.ops [
     ⟨(some 7), none, .mov (.t 0)⟩,
     ⟨(some 8), none, .call (.c (.fn (.func 13) [] [])) [(.t 7)]⟩,
     ⟨(some 3), none, .mov (.t 8)⟩] [3])
   (.seq
    (.ops [
      ⟨(some 10), none, .mov (.t 3)⟩,
      ⟨(some 11), none, .call (.c (.fn (.func 14) [] [])) [(.t 10)]⟩,
      ⟨(some 9), none, .mov (.t 11)⟩,
      ⟨(some 12), none, .ext (.t 9) 0⟩,
      ⟨(some 13), none, .ext (.t 9) 1⟩,
      ⟨(some 4), none, .mov (.t 12)⟩,
      ⟨(some 5), none, .mov (.t 13)⟩] [4, 5])
    (.seq
     (.seq
      (.ops [
        ⟨(some 14), none, .mov (.t 3)⟩,
        ⟨(some 15), none, .call (.c (.fn (.func 15) [] [])) [(.t 14), (.c (.int .i64 9))]⟩,
        ⟨(some 6), none, .mov (.t 15)⟩] [6])
      (.seq
       (.ops [
         ⟨(some 16), none, .mov (.t 6)⟩,
         ⟨(some 17), none, .bin .neq .no (.t 16) (.c (.int .i64 0))⟩] [17])
       (.cond (.t 17)
        (.seq
         (.ops [
           ⟨(some 18), none, .mov (.t 4)⟩,
           ⟨(some 19), none, .lenS (.t 18)⟩,
           ⟨(some 20), none, .bin .eql .no (.t 19) (.c (.int .i64 0))⟩,
           ⟨(some 21), none, .mov (.t 20)⟩,
           ⟨(some 22), (some (21, true)), .mov (.t 5)⟩,
           ⟨(some 23), (some (21, true)), .mov (.t 6)⟩,
           ⟨(some 24), (some (21, true)), .bin .eql .no (.t 22) (.t 23)⟩,
           ⟨(some 25), none, .pick (.t 21) (.t 24) (.c (.bool false))⟩,
           ⟨(some 26), none, .mov (.t 25)⟩,
           ⟨(some 27), (some (26, true)), .call (.c (.fn (.func 16) [] [])) []⟩,
           ⟨(some 28), none, .pick (.t 26) (.t 27) (.c (.bool false))⟩,
           ⟨(some 2), none, .mov (.t 28)⟩] [2])
         .ret)
        .skip)))
     (.seq
      (.ops [
        ⟨(some 29), none, .mov (.t 4)⟩,
        ⟨(some 30), none, .mov (.t 3)⟩,
        ⟨(some 31), none, .call (.c (.fn (.func 18) [] [])) [(.t 30)]⟩,
        ⟨(some 32), none, .call (.c (.fn (.func 17) [] [])) [(.t 29), (.t 31)]⟩,
        ⟨(some 33), none, .mov (.t 32)⟩,
        ⟨(some 34), (some (33, true)), .mov (.t 5)⟩,
        ⟨(some 35), (some (33, true)), .bin .eql .no (.t 34) (.c (.int .i64 0))⟩,
        ⟨(some 36), none, .pick (.t 33) (.t 35) (.c (.bool false))⟩,
        ⟨(some 37), none, .mov (.t 36)⟩,
        ⟨(some 38), (some (37, true)), .call (.c (.fn (.func 16) [] [])) []⟩,
        ⟨(some 39), none, .pick (.t 37) (.t 38) (.c (.bool false))⟩,
        ⟨(some 2), none, .mov (.t 39)⟩] [2])
      .ret))))),
 [.tmp 2]⟩

/-- bellpull/bellpulllaw02.EchoSequences -/
noncomputable def sf4 : SFun := ⟨[0, 1, 2, 6, 7, 8, 9, 10, 11, 12, 13, 14, 15, 16, 17, 18, 39, 117, 142, 147, 154], 165,
 (.seq
  (.ops [
    ⟨(some 6), none, .mov (.c (.bool false))⟩] [6])
  (.seq
   (.ops [
     ⟨(some 20), none, .mov (.t 0)⟩,
     ⟨(some 21), none, .mov (.t 1)⟩,
     ⟨(some 22), none, .mov (.t 2)⟩,
     ⟨(some 23), none, .call (.c (.fn (.func 19) [] [])) [(.t 20), (.t 21), (.t 22)]⟩,
     ⟨(some 19), none, .mov (.t 23)⟩,
     ⟨(some 24), none, .ext (.t 19) 0⟩,
     ⟨(some 25), none, .ext (.t 19) 1⟩,
     ⟨(some 7), none, .mov (.t 24)⟩,
     ⟨(some 8), none, .mov (.t 25)⟩] [7, 8])
   (.seq
    (.ops [
      ⟨(some 27), none, .mov (.t 2)⟩,
      ⟨(some 28), none, .call (.c (.fn (.func 20) [] [])) [(.t 27)]⟩,
      ⟨(some 26), none, .mov (.t 28)⟩,
      ⟨(some 29), none, .ext (.t 26) 0⟩,
      ⟨(some 30), none, .ext (.t 26) 1⟩,
      ⟨(some 9), none, .mov (.t 29)⟩,
      ⟨(some 10), none, .mov (.t 30)⟩] [9, 10])
    (.seq
     (.ops [
       ⟨(some 32), none, .mov (.t 2)⟩,
       ⟨(some 33), none, .call (.c (.fn (.func 21) [] [])) [(.t 32)]⟩,
       ⟨(some 31), none, .mov (.t 33)⟩,
       ⟨(some 34), none, .ext (.t 31) 0⟩,
       ⟨(some 35), none, .ext (.t 31) 1⟩,
       ⟨(some 11), none, .mov (.t 34)⟩,
       ⟨(some 12), none, .mov (.t 35)⟩] [11, 12])
     (.seq
      (.ops [
        ⟨(some 36), none, .mov (.t 2)⟩,
        ⟨(some 37), none, .call (.c (.fn (.func 22) [] [])) [(.t 36), (.c (.int .i64 0)), (.c (.int .i64 100000))]⟩,
        ⟨(some 13), none, .mov (.t 37)⟩] [13])
      (.seq
       (.seq
        (.ops [
          ⟨(some 38), none, .mov (.t 13)⟩,
          ⟨(some 39), none, .not (.t 38)⟩] [39])
        (.cond (.t 39)
         (.seq
          (.ops [
            ⟨(some 40), none, .mov (.t 7)⟩,
            ⟨(some 41), none, .lenS (.t 40)⟩,
            ⟨(some 42), none, .mov (.t 9)⟩,
            ⟨(some 43), none, .lenS (.t 42)⟩,
            ⟨(some 44), none, .bin .add .no (.t 41) (.t 43)⟩,
            ⟨(some 45), none, .bin .eql .no (.t 44) (.c (.int .i64 0))⟩,
            ⟨(some 46), none, .mov (.t 45)⟩,
            ⟨(some 47), (some (46, true)), .mov (.t 11)⟩,
            ⟨(some 48), (some (46, true)), .bin .eql .no (.t 47) (.c (.int .i64 0))⟩,
            ⟨(some 49), none, .pick (.t 46) (.t 48) (.c (.bool false))⟩,
            ⟨(some 50), none, .mov (.t 49)⟩,
            ⟨(some 51), (some (50, true)), .mov (.t 8)⟩,
            ⟨(some 52), (some (50, true)), .bin .eql .no (.t 51) (.c (.int .i64 1))⟩,
            ⟨(some 53), none, .pick (.t 50) (.t 52) (.c (.bool false))⟩,
            ⟨(some 54), none, .mov (.t 53)⟩,
            ⟨(some 55), (some (54, true)), .mov (.t 10)⟩,
            ⟨(some 56), (some (54, true)), .bin .eql .no (.t 55) (.c (.int .i64 1))⟩,
            ⟨(some 57), none, .pick (.t 54) (.t 56) (.c (.bool false))⟩,
            ⟨(some 58), none, .mov (.t 57)⟩,
            ⟨(some 59), (some (58, true)), .mov (.t 12)⟩,
            ⟨(some 60), (some (58, true)), .bin .eql .no (.t 59) (.c (.int .i64 1))⟩,
            ⟨(some 61), none, .pick (.t 58) (.t 60) (.c (.bool false))⟩,
            ⟨(some 62), none, .mov (.t 61)⟩,
            ⟨(some 63), (some (62, true)), .call (.c (.fn (.func 16) [] [])) []⟩,
            ⟨(some 64), none, .pick (.t 62) (.t 63) (.c (.bool false))⟩,
            ⟨(some 6), none, .mov (.t 64)⟩] [6])
          .ret)
         .skip))
       (.seq
        (.ops [
          ⟨(some 65), none, .mov (.t 0)⟩,
          ⟨(some 66), none, .mov (.t 1)⟩,
          ⟨(some 67), none, .bin .neq .no (.t 65) (.t 66)⟩,
          ⟨(some 68), none, .mov (.t 67)⟩,
          ⟨(some 69), (some (68, true)), .mov (.t 0)⟩,
          ⟨(some 70), (some (68, true)), .call (.c (.fn (.func 22) [] [])) [(.t 69), (.c (.int .i64 1)), (.c (.int .i64 9))]⟩,
          ⟨(some 71), none, .pick (.t 68) (.t 70) (.c (.bool false))⟩,
          ⟨(some 72), none, .mov (.t 71)⟩,
          ⟨(some 73), (some (72, true)), .mov (.t 1)⟩,
          ⟨(some 74), (some (72, true)), .call (.c (.fn (.func 22) [] [])) [(.t 73), (.c (.int .i64 1)), (.c (.int .i64 9))]⟩,
          ⟨(some 75), none, .pick (.t 72) (.t 74) (.c (.bool false))⟩,
          ⟨(some 14), none, .mov (.t 75)⟩] [14])
        (.seq
         (.seq
          (.ops [
            ⟨(some 76), none, .mov (.t 10)⟩,
            ⟨(some 77), none, .bin .neq .no (.t 76) (.c (.int .i64 0))⟩,
            ⟨(some 78), none, .mov (.t 77)⟩,
            ⟨(some 79), (some (78, false)), .mov (.t 12)⟩,
            ⟨(some 80), (some (78, false)), .bin .neq .no (.t 79) (.c (.int .i64 0))⟩,
            ⟨(some 81), none, .pick (.t 78) (.c (.bool true)) (.t 80)⟩,
            ⟨(some 82), none, .mov (.t 81)⟩,
            ⟨(some 83), (some (82, false)), .mov (.t 9)⟩,
            ⟨(some 84), (some (82, false)), .lenS (.t 83)⟩,
            ⟨(some 85), (some (82, false)), .mov (.t 2)⟩,
            ⟨(some 86), (some (82, false)), .bin .neq .no (.t 84) (.t 85)⟩,
            ⟨(some 87), none, .pick (.t 82) (.c (.bool true)) (.t 86)⟩,
            ⟨(some 88), none, .mov (.t 87)⟩,
            ⟨(some 89), (some (88, false)), .mov (.t 14)⟩,
            ⟨(some 90), (some (88, false)), .not (.t 89)⟩,
            ⟨(some 91), (some (88, false)), .mov (.t 90)⟩,
            ⟨(some 92), (some (91, true)), .mov (.t 8)⟩,
            ⟨(some 93), (some (91, true)), .bin .neq .no (.t 92) (.c (.int .i64 1))⟩,
            ⟨(some 94), (some (91, true)), .mov (.t 93)⟩,
            ⟨(some 95), (some (94, false)), .mov (.t 7)⟩,
            ⟨(some 96), (some (94, false)), .lenS (.t 95)⟩,
            ⟨(some 97), (some (94, false)), .bin .neq .no (.t 96) (.c (.int .i64 0))⟩,
            ⟨(some 98), (some (91, true)), .pick (.t 94) (.c (.bool true)) (.t 97)⟩,
            ⟨(some 99), (some (88, false)), .pick (.t 91) (.t 98) (.c (.bool false))⟩,
            ⟨(some 100), none, .pick (.t 88) (.c (.bool true)) (.t 99)⟩,
            ⟨(some 101), none, .mov (.t 100)⟩,
            ⟨(some 102), (some (101, false)), .mov (.t 14)⟩,
            ⟨(some 103), (some (101, false)), .mov (.t 102)⟩,
            ⟨(some 104), (some (103, true)), .mov (.t 8)⟩,
            ⟨(some 105), (some (103, true)), .bin .neq .no (.t 104) (.c (.int .i64 0))⟩,
            ⟨(some 106), (some (103, true)), .mov (.t 105)⟩,
            ⟨(some 107), (some (106, false)), .mov (.t 7)⟩,
            ⟨(some 108), (some (106, false)), .lenS (.t 107)⟩,
            ⟨(some 109), (some (106, false)), .mov (.t 2)⟩,
            ⟨(some 110), (some (106, false)), .bin .neq .no (.t 108) (.t 109)⟩,
            ⟨(some 111), (some (103, true)), .pick (.t 106) (.c (.bool true)) (.t 110)⟩,
            ⟨(some 112), (some (101, false)), .pick (.t 103) (.t 111) (.c (.bool false))⟩,
            ⟨(some 113), none, .pick (.t 101) (.c (.bool true)) (.t 112)⟩,
            ⟨(some 114), none, .mov (.t 113)⟩,
            ⟨(some 115), (some (114, false)), .call (.c (.fn (.func 16) [] [])) []⟩,
            ⟨(some 116), (some (114, false)), .not (.t 115)⟩,
            ⟨(some 117), none, .pick (.t 114) (.c (.bool true)) (.t 116)⟩] [117])
          (.cond (.t 117)
           (.seq
            (.ops [
              ⟨(some 6), none, .mov (.c (.bool false))⟩] [6])
            .ret)
           .skip))
         (.seq
          (.ops [
            ⟨(some 118), none, .mov (.t 2)⟩,
            ⟨(some 119), none, .mn (.t 118) (.c (.int .i64 3000))⟩,
            ⟨(some 15), none, .mov (.t 119)⟩] [15])
          (.seq
           (.seq
            (.ops [
              ⟨(some 120), none, .mov (.t 14)⟩,
              ⟨(some 121), none, .mov (.t 120)⟩,
              ⟨(some 122), (some (121, true)), .mov (.t 7)⟩,
              ⟨(some 123), (some (121, true)), .mov (.t 15)⟩,
              ⟨(some 124), (some (121, true)), .mov (.t 15)⟩,
              ⟨(some 125), (some (121, true)), .slice3 1 (.t 122) none (.t 123) (.t 124)⟩,
              ⟨(some 126), (some (121, true)), .mov (.t 0)⟩,
              ⟨(some 127), (some (121, true)), .mov (.t 1)⟩,
              ⟨(some 128), (some (121, true)), .mov (.t 15)⟩,
              ⟨(some 129), (some (121, true)), .call (.c (.fn (.func 23) [] [])) [(.t 126), (.t 127), (.t 128)]⟩,
              ⟨(some 130), (some (121, true)), .call (.c (.fn (.func 17) [] [])) [(.t 125), (.t 129)]⟩,
              ⟨(some 131), (some (121, true)), .not (.t 130)⟩,
              ⟨(some 132), none, .pick (.t 121) (.t 131) (.c (.bool false))⟩,
              ⟨(some 133), none, .mov (.t 132)⟩,
              ⟨(some 134), (some (133, false)), .mov (.t 9)⟩,
              ⟨(some 135), (some (133, false)), .mov (.t 15)⟩,
              ⟨(some 136), (some (133, false)), .mov (.t 15)⟩,
              ⟨(some 137), (some (133, false)), .slice3 1 (.t 134) none (.t 135) (.t 136)⟩,
              ⟨(some 138), (some (133, false)), .mov (.t 15)⟩,
              ⟨(some 139), (some (133, false)), .call (.c (.fn (.func 24) [] [])) [(.t 138)]⟩,
              ⟨(some 140), (some (133, false)), .call (.c (.fn (.func 17) [] [])) [(.t 137), (.t 139)]⟩,
              ⟨(some 141), (some (133, false)), .not (.t 140)⟩,
              ⟨(some 142), none, .pick (.t 133) (.c (.bool true)) (.t 141)⟩] [142])
            (.cond (.t 142)
             (.seq
              (.ops [
                ⟨(some 6), none, .mov (.c (.bool false))⟩] [6])
              .ret)
             .skip))
           (.seq
            (.ops [
              ⟨(some 143), none, .mov (.t 15)⟩,
              ⟨(some 144), none, .call (.c (.fn (.func 23) [] [])) [(.c (.int .i64 1)), (.c (.int .i64 2)), (.t 143)]⟩,
              ⟨(some 16), none, .mov (.c (.int .i64 0))⟩,
              ⟨(some 17), none, .mov (.t 144)⟩] [16, 17])
            (.seq
             (.seq
              (.ops [
                ⟨(some 18), none, .mov (.c (.int .i64 0))⟩] [18])
              (.block 0
               (.loop
                (.seq
                 (.seq
                  (.ops [
                    ⟨(some 145), none, .mov (.t 18)⟩,
                    ⟨(some 146), none, .mov (.t 15)⟩,
                    ⟨(some 147), none, .bin .lss .no (.t 145) (.t 146)⟩] [147])
                  (.cond (.t 147)
                   .skip
                   (.exit 0)))
                 (.seq
                  (.block 1
                   (.seq
                    (.ops [
                      ⟨(some 150), none, .mov (.t 17)⟩,
                      ⟨(some 151), none, .mov (.t 18)⟩,
                      ⟨(some 152), none, .ixS 1 (.t 150) (.t 151)⟩,
                      ⟨(some 153), none, .load none (.t 152)⟩,
                      ⟨(some 154), none, .bin .eql .no (.t 153) (.c (.int .i64 1))⟩] [154])
                    (.cond (.t 154)
                     (.ops [
                       ⟨(some 155), none, .mov (.t 16)⟩,
                       ⟨(some 156), none, .bin .add .no (.t 155) (.c (.int .i64 1))⟩,
                       ⟨(some 16), none, .mov (.t 156)⟩] [16])
                     .skip)))
                  (.ops [
                    ⟨(some 148), none, .mov (.t 18)⟩,
                    ⟨(some 149), none, .bin .add .no (.t 148) (.c (.int .i64 1))⟩,
                    ⟨(some 18), none, .mov (.t 149)⟩] [18]))))))
             (.seq
              (.ops [
                ⟨(some 157), none, .mov (.t 2)⟩,
                ⟨(some 158), none, .mov (.t 15)⟩,
                ⟨(some 159), none, .bin .gtr .no (.t 157) (.t 158)⟩,
                ⟨(some 160), none, .mov (.t 159)⟩,
                ⟨(some 161), (some (160, false)), .mov (.t 11)⟩,
                ⟨(some 162), (some (160, false)), .mov (.t 16)⟩,
                ⟨(some 163), (some (160, false)), .bin .eql .no (.t 161) (.t 162)⟩,
                ⟨(some 164), none, .pick (.t 160) (.c (.bool true)) (.t 163)⟩,
                ⟨(some 6), none, .mov (.t 164)⟩] [6])
              .ret))))))))))))),
 [.tmp 6]⟩

/-- bellpull/bellpulllaw02.EchoDerivatives -/
noncomputable def sf5 : SFun := ⟨[0, 2, 3, 4, 5, 6, 7, 8, 9, 10, 11, 12, 13, 14, 15, 16, 17, 18, 46, 58, 60, 159, 161, 164, 174], 186,
 (.seq
  (.ops [
    ⟨(some 2), none, .mov (.c (.bool false))⟩] [2])
  (.seq
   (.ops [
     ⟨(some 19), none, .mov (.t 0)⟩,
     ⟨(some 20), none, .call (.c (.fn (.func 13) [] [])) [(.t 19)]⟩,
     ⟨(some 3), none, .mov (.t 20)⟩] [3])
   (.seq
    (.ops [
      ⟨(some 22), none, .mov (.t 3)⟩,
      ⟨(some 23), none, .call (.c (.fn (.func 25) [] [])) [(.t 22)]⟩,
      ⟨(some 21), none, .mov (.t 23)⟩,
      ⟨(some 24), none, .ext (.t 21) 0⟩,
      ⟨(some 25), none, .ext (.t 21) 1⟩,
      ⟨(some 4), none, .mov (.t 24)⟩,
      ⟨(some 5), none, .mov (.t 25)⟩] [4, 5])
    (.seq
     (.ops [
       ⟨(some 27), none, .mov (.t 3)⟩,
       ⟨(some 28), none, .call (.c (.fn (.func 26) [] [])) [(.t 27)]⟩,
       ⟨(some 26), none, .mov (.t 28)⟩,
       ⟨(some 29), none, .ext (.t 26) 0⟩,
       ⟨(some 30), none, .ext (.t 26) 1⟩,
       ⟨(some 6), none, .mov (.t 29)⟩,
       ⟨(some 7), none, .mov (.t 30)⟩] [6, 7])
     (.seq
      (.ops [
        ⟨(some 32), none, .mov (.t 3)⟩,
        ⟨(some 33), none, .call (.c (.fn (.func 27) [] [])) [(.t 32)]⟩,
        ⟨(some 31), none, .mov (.t 33)⟩,
        ⟨(some 34), none, .ext (.t 31) 0⟩,
        ⟨(some 35), none, .ext (.t 31) 1⟩,
        ⟨(some 8), none, .mov (.t 34)⟩,
        ⟨(some 9), none, .mov (.t 35)⟩] [8, 9])
      (.seq
       (.ops [
         ⟨(some 37), none, .mov (.t 3)⟩,
         ⟨(some 38), none, .call (.c (.fn (.func 28) [] [])) [(.t 37)]⟩,
         ⟨(some 36), none, .mov (.t 38)⟩,
         ⟨(some 39), none, .ext (.t 36) 0⟩,
         ⟨(some 40), none, .ext (.t 36) 1⟩,
         ⟨(some 10), none, .mov (.t 39)⟩,
         ⟨(some 11), none, .mov (.t 40)⟩] [10, 11])
       (.seq
        (.ops [
          ⟨(some 41), none, .mov (.t 3)⟩,
          ⟨(some 42), none, .call (.c (.fn (.func 15) [] [])) [(.t 41), (.c (.int .i64 2))]⟩,
          ⟨(some 12), none, .mov (.t 42)⟩] [12])
        (.seq
         (.ops [
           ⟨(some 43), none, .mov (.t 12)⟩,
           ⟨(some 13), none, .mov (.t 43)⟩] [13])
         (.seq
          (.seq
           (.ops [
             ⟨(some 44), none, .mov (.t 3)⟩,
             ⟨(some 45), none, .lenS (.t 44)⟩,
             ⟨(some 46), none, .bin .geq .no (.t 45) (.c (.int .i64 200))⟩] [46])
           (.cond (.t 46)
            (.ops [
              ⟨(some 13), none, .mov (.c (.int .i64 3))⟩] [13])
            .skip))
          (.seq
           (.seq
            (.ops [
              ⟨(some 47), none, .mov (.t 13)⟩,
              ⟨(some 48), none, .bin .neq .no (.t 47) (.c (.int .i64 0))⟩,
              ⟨(some 49), none, .mov (.t 48)⟩,
              ⟨(some 50), (some (49, true)), .mov (.t 10)⟩,
              ⟨(some 51), (some (49, true)), .lenS (.t 50)⟩,
              ⟨(some 52), (some (49, true)), .bin .neq .no (.t 51) (.c (.int .i64 0))⟩,
              ⟨(some 53), (some (49, true)), .mov (.t 52)⟩,
              ⟨(some 54), (some (53, false)), .mov (.t 11)⟩,
              ⟨(some 55), (some (53, false)), .mov (.t 13)⟩,
              ⟨(some 56), (some (53, false)), .bin .neq .no (.t 54) (.t 55)⟩,
              ⟨(some 57), (some (49, true)), .pick (.t 53) (.c (.bool true)) (.t 56)⟩,
              ⟨(some 58), none, .pick (.t 49) (.t 57) (.c (.bool false))⟩] [58])
            (.cond (.t 58)
             (.seq
              (.ops [
                ⟨(some 2), none, .mov (.c (.bool false))⟩] [2])
              .ret)
             .skip))
           (.seq
            (.seq
             (.ops [
               ⟨(some 59), none, .mov (.t 12)⟩,
               ⟨(some 60), none, .bin .neq .no (.t 59) (.c (.int .i64 0))⟩] [60])
             (.cond (.t 60)
              (.seq
               (.ops [
                 ⟨(some 61), none, .mov (.t 4)⟩,
                 ⟨(some 62), none, .lenS (.t 61)⟩,
                 ⟨(some 63), none, .bin .eql .no (.t 62) (.c (.int .i64 0))⟩,
                 ⟨(some 64), none, .mov (.t 63)⟩,
                 ⟨(some 65), (some (64, true)), .mov (.t 6)⟩,
                 ⟨(some 66), (some (64, true)), .not (.t 65)⟩,
                 ⟨(some 67), none, .pick (.t 64) (.t 66) (.c (.bool false))⟩,
                 ⟨(some 68), none, .mov (.t 67)⟩,
                 ⟨(some 69), (some (68, true)), .mov (.t 8)⟩,
                 ⟨(some 70), (some (68, true)), .bin .eql .no (.t 69) (.c (.int .i64 0))⟩,
                 ⟨(some 71), none, .pick (.t 68) (.t 70) (.c (.bool false))⟩,
                 ⟨(some 72), none, .mov (.t 71)⟩,
                 ⟨(some 73), (some (72, true)), .mov (.t 5)⟩,
                 ⟨(some 74), (some (72, true)), .mov (.t 12)⟩,
                 ⟨(some 75), (some (72, true)), .bin .eql .no (.t 73) (.t 74)⟩,
                 ⟨(some 76), none, .pick (.t 72) (.t 75) (.c (.bool false))⟩,
                 ⟨(some 77), none, .mov (.t 76)⟩,
                 ⟨(some 78), (some (77, true)), .mov (.t 7)⟩,
                 ⟨(some 79), (some (77, true)), .mov (.t 12)⟩,
                 ⟨(some 80), (some (77, true)), .bin .eql .no (.t 78) (.t 79)⟩,
                 ⟨(some 81), none, .pick (.t 77) (.t 80) (.c (.bool false))⟩,
                 ⟨(some 82), none, .mov (.t 81)⟩,
                 ⟨(some 83), (some (82, true)), .mov (.t 9)⟩,
                 ⟨(some 84), (some (82, true)), .mov (.t 12)⟩,
                 ⟨(some 85), (some (82, true)), .bin .eql .no (.t 83) (.t 84)⟩,
                 ⟨(some 86), none, .pick (.t 82) (.t 85) (.c (.bool false))⟩,
                 ⟨(some 87), none, .mov (.t 86)⟩,
                 ⟨(some 88), (some (87, true)), .call (.c (.fn (.func 16) [] [])) []⟩,
                 ⟨(some 89), none, .pick (.t 87) (.t 88) (.c (.bool false))⟩,
                 ⟨(some 2), none, .mov (.t 89)⟩] [2])
               .ret)
              .skip))
            (.seq
             (.ops [
               ⟨(some 91), none, .mov (.t 3)⟩,
               ⟨(some 92), none, .call (.c (.fn (.func 29) [] [])) [(.t 91)]⟩,
               ⟨(some 90), none, .mov (.t 92)⟩,
               ⟨(some 93), none, .ext (.t 90) 0⟩,
               ⟨(some 94), none, .ext (.t 90) 1⟩,
               ⟨(some 14), none, .mov (.t 93)⟩,
               ⟨(some 15), none, .mov (.t 94)⟩] [14, 15])
             (.seq
              (.ops [
                ⟨(some 95), none, .mov (.t 3)⟩,
                ⟨(some 96), none, .call (.c (.fn (.func 30) [] [])) [(.t 95)]⟩,
                ⟨(some 16), none, .mov (.t 96)⟩] [16])
              (.seq
               (.seq
                (.ops [
                  ⟨(some 97), none, .mov (.t 15)⟩,
                  ⟨(some 98), none, .mov (.t 97)⟩,
                  ⟨(some 99), (some (98, true)), .mov (.t 4)⟩,
                  ⟨(some 100), (some (98, true)), .mov (.t 14)⟩,
                  ⟨(some 101), (some (98, true)), .call (.c (.fn (.func 17) [] [])) [(.t 99), (.t 100)]⟩,
                  ⟨(some 102), (some (98, true)), .not (.t 101)⟩,
                  ⟨(some 103), (some (98, true)), .mov (.t 102)⟩,
                  ⟨(some 104), (some (103, false)), .mov (.t 5)⟩,
                  ⟨(some 105), (some (103, false)), .bin .neq .no (.t 104) (.c (.int .i64 0))⟩,
                  ⟨(some 106), (some (98, true)), .pick (.t 103) (.c (.bool true)) (.t 105)⟩,
                  ⟨(some 107), none, .pick (.t 98) (.t 106) (.c (.bool false))⟩,
                  ⟨(some 108), none, .mov (.t 107)⟩,
                  ⟨(some 109), (some (108, false)), .mov (.t 15)⟩,
                  ⟨(some 110), (some (108, false)), .not (.t 109)⟩,
                  ⟨(some 111), (some (108, false)), .mov (.t 110)⟩,
                  ⟨(some 112), (some (111, true)), .mov (.t 4)⟩,
                  ⟨(some 113), (some (111, true)), .lenS (.t 112)⟩,
                  ⟨(some 114), (some (111, true)), .bin .neq .no (.t 113) (.c (.int .i64 0))⟩,
                  ⟨(some 115), (some (111, true)), .mov (.t 114)⟩,
                  ⟨(some 116), (some (115, false)), .mov (.t 5)⟩,
                  ⟨(some 117), (some (115, false)), .bin .neq .no (.t 116) (.c (.int .i64 5))⟩,
                  ⟨(some 118), (some (111, true)), .pick (.t 115) (.c (.bool true)) (.t 117)⟩,
                  ⟨(some 119), (some (108, false)), .pick (.t 111) (.t 118) (.c (.bool false))⟩,
                  ⟨(some 120), none, .pick (.t 108) (.c (.bool true)) (.t 119)⟩,
                  ⟨(some 121), none, .mov (.t 120)⟩,
                  ⟨(some 122), (some (121, false)), .mov (.t 6)⟩,
                  ⟨(some 123), (some (121, false)), .mov (.t 16)⟩,
                  ⟨(some 124), (some (121, false)), .bin .geq .no (.t 123) (.c (.int .i64 0))⟩,
                  ⟨(some 125), (some (121, false)), .bin .neq .bool (.t 122) (.t 124)⟩,
                  ⟨(some 126), none, .pick (.t 121) (.c (.bool true)) (.t 125)⟩,
                  ⟨(some 127), none, .mov (.t 126)⟩,
                  ⟨(some 128), (some (127, false)), .mov (.t 7)⟩,
                  ⟨(some 129), (some (127, false)), .bin .neq .no (.t 128) (.c (.int .i64 0))⟩,
                  ⟨(some 130), none, .pick (.t 127) (.c (.bool true)) (.t 129)⟩,
                  ⟨(some 131), none, .mov (.t 130)⟩,
                  ⟨(some 132), (some (131, false)), .mov (.t 16)⟩,
                  ⟨(some 133), (some (131, false)), .bin .geq .no (.t 132) (.c (.int .i64 0))⟩,
                  ⟨(some 134), (some (131, false)), .mov (.t 133)⟩,
                  ⟨(some 135), (some (134, true)), .mov (.t 8)⟩,
                  ⟨(some 136), (some (134, true)), .mov (.t 16)⟩,
                  ⟨(some 137), (some (134, true)), .bin .neq .no (.t 135) (.t 136)⟩,
                  ⟨(some 138), (some (134, true)), .mov (.t 137)⟩,
                  ⟨(some 139), (some (138, false)), .mov (.t 9)⟩,
                  ⟨(some 140), (some (138, false)), .bin .neq .no (.t 139) (.c (.int .i64 0))⟩,
                  ⟨(some 141), (some (134, true)), .pick (.t 138) (.c (.bool true)) (.t 140)⟩,
                  ⟨(some 142), (some (131, false)), .pick (.t 134) (.t 141) (.c (.bool false))⟩,
                  ⟨(some 143), none, .pick (.t 131) (.c (.bool true)) (.t 142)⟩,
                  ⟨(some 144), none, .mov (.t 143)⟩,
                  ⟨(some 145), (some (144, false)), .mov (.t 16)⟩,
                  ⟨(some 146), (some (144, false)), .bin .lss .no (.t 145) (.c (.int .i64 0))⟩,
                  ⟨(some 147), (some (144, false)), .mov (.t 146)⟩,
                  ⟨(some 148), (some (147, true)), .mov (.t 8)⟩,
                  ⟨(some 149), (some (147, true)), .bin .neq .no (.t 148) (.c (.int .i64 0))⟩,
                  ⟨(some 150), (some (147, true)), .mov (.t 149)⟩,
                  ⟨(some 151), (some (150, false)), .mov (.t 9)⟩,
                  ⟨(some 152), (some (150, false)), .bin .neq .no (.t 151) (.c (.int .i64 5))⟩,
                  ⟨(some 153), (some (147, true)), .pick (.t 150) (.c (.bool true)) (.t 152)⟩,
                  ⟨(some 154), (some (144, false)), .pick (.t 147) (.t 153) (.c (.bool false))⟩,
                  ⟨(some 155), none, .pick (.t 144) (.c (.bool true)) (.t 154)⟩,
                  ⟨(some 156), none, .mov (.t 155)⟩,
                  ⟨(some 157), (some (156, false)), .call (.c (.fn (.func 16) [] [])) []⟩,
                  ⟨(some 158), (some (156, false)), .not (.t 157)⟩,
                  ⟨(some 159), none, .pick (.t 156) (.c (.bool true)) (.t 158)⟩] [159])
                (.cond (.t 159)
                 (.seq
                  (.ops [
                    ⟨(some 2), none, .mov (.c (.bool false))⟩] [2])
                  .ret)
                 .skip))
               (.seq
                (.seq
                 (.ops [
                   ⟨(some 160), none, .mov (.t 13)⟩,
                   ⟨(some 161), none, .bin .neq .no (.t 160) (.c (.int .i64 0))⟩] [161])
                 (.cond (.t 161)
                  (.seq
                   (.ops [
                     ⟨(some 2), none, .mov (.c (.bool true))⟩] [2])
                   .ret)
                  .skip))
                (.seq
                 (.ops [
                   ⟨(some 162), none, .buildS [(.int .i64 0)] 0 1 []⟩,
                   ⟨(some 17), none, .mov (.t 162)⟩] [17])
                 (.seq
                  (.seq
                   (.ops [
                     ⟨(some 18), none, .mov (.c (.int .i64 1))⟩] [18])
                   (.block 0
                    (.loop
                     (.seq
                      (.seq
                       (.ops [
                         ⟨(some 163), none, .mov (.t 18)⟩,
                         ⟨(some 164), none, .bin .leq .no (.t 163) (.c (.int .i64 2))⟩] [164])
                       (.cond (.t 164)
                        .skip
                        (.exit 0)))
                      (.seq
                       (.block 1
                        (.seq
                         (.ops [
                           ⟨(some 167), none, .buildS [(.int .i64 0)] 0 1 []⟩,
                           ⟨(some 168), none, .mov (.t 3)⟩,
                           ⟨(some 169), none, .app true 1 (.t 167) (.t 168)⟩,
                           ⟨(some 170), none, .mov (.t 18)⟩,
                           ⟨(some 171), none, .buildS [(.int .i64 0)] 1 1 [(0, (.t 170))]⟩,
                           ⟨(some 172), none, .app true 1 (.t 169) (.t 171)⟩,
                           ⟨(some 173), none, .call (.c (.fn (.func 30) [] [])) [(.t 172)]⟩,
                           ⟨(some 174), none, .bin .geq .no (.t 173) (.c (.int .i64 0))⟩] [174])
                         (.cond (.t 174)
                          (.ops [
                            ⟨(some 175), none, .mov (.t 17)⟩,
                            ⟨(some 176), none, .mov (.t 18)⟩,
                            ⟨(some 177), none, .buildS [(.int .i64 0)] 1 1 [(0, (.t 176))]⟩,
                            ⟨(some 178), none, .app true 1 (.t 175) (.t 177)⟩,
                            ⟨(some 17), none, .mov (.t 178)⟩] [17])
                          .skip)))
                       (.ops [
                         ⟨(some 165), none, .mov (.t 18)⟩,
                         ⟨(some 166), none, .bin .add .no (.t 165) (.c (.int .i64 1))⟩,
                         ⟨(some 18), none, .mov (.t 166)⟩] [18]))))))
                  (.seq
                   (.ops [
                     ⟨(some 179), none, .mov (.t 10)⟩,
                     ⟨(some 180), none, .mov (.t 17)⟩,
                     ⟨(some 181), none, .call (.c (.fn (.func 17) [] [])) [(.t 179), (.t 180)]⟩,
                     ⟨(some 182), none, .mov (.t 181)⟩,
                     ⟨(some 183), (some (182, true)), .mov (.t 11)⟩,
                     ⟨(some 184), (some (182, true)), .bin .eql .no (.t 183) (.c (.int .i64 0))⟩,
                     ⟨(some 185), none, .pick (.t 182) (.t 184) (.c (.bool false))⟩,
                     ⟨(some 2), none, .mov (.t 185)⟩] [2])
                   .ret)))))))))))))))))),
 [.tmp 2]⟩

/-- bellpull/bellpulllaw02.EchoKolakoski -/
noncomputable def sf6 : SFun := ⟨[0, 1, 2, 6, 7, 8, 9, 10, 11, 12, 13, 14, 15, 16, 17, 80, 83, 99, 107], 125,
 (.seq
  (.ops [
    ⟨(some 6), none, .mov (.c (.bool false))⟩] [6])
  (.seq
   (.ops [
     ⟨(some 19), none, .mov (.t 0)⟩,
     ⟨(some 20), none, .call (.c (.fn (.func 31) [] [])) [(.t 19)]⟩,
     ⟨(some 18), none, .mov (.t 20)⟩,
     ⟨(some 21), none, .ext (.t 18) 0⟩,
     ⟨(some 22), none, .ext (.t 18) 1⟩,
     ⟨(some 7), none, .mov (.t 21)⟩,
     ⟨(some 8), none, .mov (.t 22)⟩] [7, 8])
   (.seq
    (.ops [
      ⟨(some 23), none, .mov (.t 1)⟩,
      ⟨(some 24), none, .call (.c (.fn (.func 32) [] [])) [(.t 23), (.c (.int .i64 1)), (.c (.int .i64 400))]⟩,
      ⟨(some 9), none, .mov (.t 24)⟩,
      ⟨(some 10), none, .mov (.c (.int .i64 0))⟩] [9, 10])
    (.seq
     (.ops [
       ⟨(some 25), none, .mov (.t 9)⟩,
       ⟨(some 26), none, .mov (.t 2)⟩,
       ⟨(some 27), none, .call (.c (.fn (.func 32) [] [])) [(.t 26), (.c (.int .i64 0)), (.c (.int .i64 400))]⟩,
       ⟨(some 28), none, .bin .add .no (.t 25) (.t 27)⟩,
       ⟨(some 10), none, .mov (.t 28)⟩] [10])
     (.seq
      (.ops [
        ⟨(some 30), none, .mov (.t 7)⟩,
        ⟨(some 31), none, .mov (.t 8)⟩,
        ⟨(some 32), none, .mov (.t 9)⟩,
        ⟨(some 33), none, .call (.c (.fn (.func 19) [] [])) [(.t 30), (.t 31), (.t 32)]⟩,
        ⟨(some 29), none, .mov (.t 33)⟩,
        ⟨(some 34), none, .ext (.t 29) 0⟩,
        ⟨(some 35), none, .ext (.t 29) 1⟩,
        ⟨(some 11), none, .mov (.t 34)⟩,
        ⟨(some 12), none, .mov (.t 35)⟩] [11, 12])
      (.seq
       (.ops [
         ⟨(some 37), none, .mov (.t 7)⟩,
         ⟨(some 38), none, .mov (.t 8)⟩,
         ⟨(some 39), none, .mov (.t 10)⟩,
         ⟨(some 40), none, .call (.c (.fn (.func 19) [] [])) [(.t 37), (.t 38), (.t 39)]⟩,
         ⟨(some 36), none, .mov (.t 40)⟩,
         ⟨(some 41), none, .ext (.t 36) 0⟩,
         ⟨(some 42), none, .ext (.t 36) 1⟩,
         ⟨(some 13), none, .mov (.t 41)⟩,
         ⟨(some 14), none, .mov (.t 42)⟩] [13, 14])
       (.seq
        (.seq
         (.ops [
           ⟨(some 43), none, .mov (.t 12)⟩,
           ⟨(some 44), none, .bin .neq .no (.t 43) (.c (.int .i64 0))⟩,
           ⟨(some 45), none, .mov (.t 44)⟩,
           ⟨(some 46), (some (45, false)), .mov (.t 14)⟩,
           ⟨(some 47), (some (45, false)), .bin .neq .no (.t 46) (.c (.int .i64 0))⟩,
           ⟨(some 48), none, .pick (.t 45) (.c (.bool true)) (.t 47)⟩,
           ⟨(some 49), none, .mov (.t 48)⟩,
           ⟨(some 50), (some (49, false)), .mov (.t 11)⟩,
           ⟨(some 51), (some (49, false)), .lenS (.t 50)⟩,
           ⟨(some 52), (some (49, false)), .mov (.t 9)⟩,
           ⟨(some 53), (some (49, false)), .bin .neq .no (.t 51) (.t 52)⟩,
           ⟨(some 54), none, .pick (.t 49) (.c (.bool true)) (.t 53)⟩,
           ⟨(some 55), none, .mov (.t 54)⟩,
           ⟨(some 56), (some (55, false)), .mov (.t 13)⟩,
           ⟨(some 57), (some (55, false)), .lenS (.t 56)⟩,
           ⟨(some 58), (some (55, false)), .mov (.t 10)⟩,
           ⟨(some 59), (some (55, false)), .bin .neq .no (.t 57) (.t 58)⟩,
           ⟨(some 60), none, .pick (.t 55) (.c (.bool true)) (.t 59)⟩,
           ⟨(some 61), none, .mov (.t 60)⟩,
           ⟨(some 62), (some (61, false)), .mov (.t 11)⟩,
           ⟨(some 63), (some (61, false)), .mov (.t 13)⟩,
           ⟨(some 64), (some (61, false)), .mov (.t 9)⟩,
           ⟨(some 65), (some (61, false)), .mov (.t 9)⟩,
           ⟨(some 66), (some (61, false)), .slice3 1 (.t 63) none (.t 64) (.t 65)⟩,
           ⟨(some 67), (some (61, false)), .call (.c (.fn (.func 17) [] [])) [(.t 62), (.t 66)]⟩,
           ⟨(some 68), (some (61, false)), .not (.t 67)⟩,
           ⟨(some 69), none, .pick (.t 61) (.c (.bool true)) (.t 68)⟩,
           ⟨(some 70), none, .mov (.t 69)⟩,
           ⟨(some 71), (some (70, false)), .mov (.t 11)⟩,
           ⟨(some 72), (some (70, false)), .ixS 1 (.t 71) (.c (.int .i64 0))⟩,
           ⟨(some 73), (some (70, false)), .load none (.t 72)⟩,
           ⟨(some 74), (some (70, false)), .mov (.t 7)⟩,
           ⟨(some 75), (some (70, false)), .bin .neq .no (.t 73) (.t 74)⟩,
           ⟨(some 76), none, .pick (.t 70) (.c (.bool true)) (.t 75)⟩,
           ⟨(some 77), none, .mov (.t 76)⟩,
           ⟨(some 78), (some (77, false)), .call (.c (.fn (.func 16) [] [])) []⟩,
           ⟨(some 79), (some (77, false)), .not (.t 78)⟩,
           ⟨(some 80), none, .pick (.t 77) (.c (.bool true)) (.t 79)⟩] [80])
         (.cond (.t 80)
          (.seq
           (.ops [
             ⟨(some 6), none, .mov (.c (.bool false))⟩] [6])
           .ret)
          .skip))
        (.seq
         (.seq
          (.ops [
            ⟨(some 15), none, .mov (.c (.int .i64 0))⟩] [15])
          (.block 0
           (.loop
            (.seq
             (.seq
              (.ops [
                ⟨(some 81), none, .mov (.t 15)⟩,
                ⟨(some 82), none, .mov (.t 10)⟩,
                ⟨(some 83), none, .bin .lss .no (.t 81) (.t 82)⟩] [83])
              (.cond (.t 83)
               .skip
               (.exit 0)))
             (.seq
              (.block 1
               (.seq
                (.ops [
                  ⟨(some 86), none, .mov (.t 13)⟩,
                  ⟨(some 87), none, .mov (.t 15)⟩,
                  ⟨(some 88), none, .ixS 1 (.t 86) (.t 87)⟩,
                  ⟨(some 89), none, .load none (.t 88)⟩,
                  ⟨(some 90), none, .mov (.t 7)⟩,
                  ⟨(some 91), none, .bin .neq .no (.t 89) (.t 90)⟩,
                  ⟨(some 92), none, .mov (.t 91)⟩,
                  ⟨(some 93), (some (92, true)), .mov (.t 13)⟩,
                  ⟨(some 94), (some (92, true)), .mov (.t 15)⟩,
                  ⟨(some 95), (some (92, true)), .ixS 1 (.t 93) (.t 94)⟩,
                  ⟨(some 96), (some (92, true)), .load none (.t 95)⟩,
                  ⟨(some 97), (some (92, true)), .mov (.t 8)⟩,
                  ⟨(some 98), (some (92, true)), .bin .neq .no (.t 96) (.t 97)⟩,
                  ⟨(some 99), none, .pick (.t 92) (.t 98) (.c (.bool false))⟩] [99])
                (.cond (.t 99)
                 (.seq
                  (.ops [
                    ⟨(some 6), none, .mov (.c (.bool false))⟩] [6])
                  .ret)
                 .skip)))
              (.ops [
                ⟨(some 84), none, .mov (.t 15)⟩,
                ⟨(some 85), none, .bin .add .no (.t 84) (.c (.int .i64 1))⟩,
                ⟨(some 15), none, .mov (.t 85)⟩] [15]))))))
         (.seq
          (.ops [
            ⟨(some 100), none, .mov (.t 13)⟩,
            ⟨(some 101), none, .call (.c (.fn (.func 18) [] [])) [(.t 100)]⟩,
            ⟨(some 102), none, .mov (.t 13)⟩,
            ⟨(some 103), none, .lenS (.t 102)⟩,
            ⟨(some 16), none, .mov (.t 101)⟩,
            ⟨(some 17), none, .mov (.t 103)⟩] [16, 17])
          (.seq
           (.seq
            (.ops [
              ⟨(some 104), none, .mov (.t 16)⟩,
              ⟨(some 105), none, .lenS (.t 104)⟩,
              ⟨(some 106), none, .mov (.t 17)⟩,
              ⟨(some 107), none, .bin .gtr .no (.t 105) (.t 106)⟩] [107])
            (.cond (.t 107)
             (.seq
              (.ops [
                ⟨(some 6), none, .mov (.c (.bool false))⟩] [6])
              .ret)
             .skip))
           (.seq
            (.ops [
              ⟨(some 108), none, .mov (.t 16)⟩,
              ⟨(some 109), none, .mov (.t 16)⟩,
              ⟨(some 110), none, .lenS (.t 109)⟩,
              ⟨(some 111), none, .bin .sub .no (.t 110) (.c (.int .i64 1))⟩,
              ⟨(some 112), none, .mov (.t 16)⟩,
              ⟨(some 113), none, .lenS (.t 112)⟩,
              ⟨(some 114), none, .bin .sub .no (.t 113) (.c (.int .i64 1))⟩,
              ⟨(some 115), none, .slice3 1 (.t 108) none (.t 111) (.t 114)⟩,
              ⟨(some 116), none, .mov (.t 13)⟩,
              ⟨(some 117), none, .mov (.t 16)⟩,
              ⟨(some 118), none, .lenS (.t 117)⟩,
              ⟨(some 119), none, .bin .sub .no (.t 118) (.c (.int .i64 1))⟩,
              ⟨(some 120), none, .mov (.t 16)⟩,
              ⟨(some 121), none, .lenS (.t 120)⟩,
              ⟨(some 122), none, .bin .sub .no (.t 121) (.c (.int .i64 1))⟩,
              ⟨(some 123), none, .slice3 1 (.t 116) none (.t 119) (.t 122)⟩,
              ⟨(some 124), none, .call (.c (.fn (.func 17) [] [])) [(.t 115), (.t 123)]⟩,
              ⟨(some 6), none, .mov (.t 124)⟩] [6])
            .ret))))))))))),
 [.tmp 6]⟩

/-- bellpull/bellpulllaw02.EchoGolomb -/
noncomputable def sf7 : SFun := ⟨[0, 2, 3, 4, 5, 6, 7, 8, 9, 10, 35, 41, 86, 102, 114, 117, 151], 152,
 (.seq
  (.ops [
    ⟨(some 2), none, .mov (.c (.bool false))⟩] [2])
  (.seq
   (.ops [
     ⟨(some 11), none, .mov (.t 0)⟩,
     ⟨(some 12), none, .call (.c (.fn (.func 32) [] [])) [(.t 11), (.c (.int .i64 1)), (.c (.int .i64 2000))]⟩,
     ⟨(some 3), none, .mov (.t 12)⟩] [3])
   (.seq
    (.ops [
      ⟨(some 14), none, .mov (.t 3)⟩,
      ⟨(some 15), none, .call (.c (.fn (.func 20) [] [])) [(.t 14)]⟩,
      ⟨(some 13), none, .mov (.t 15)⟩,
      ⟨(some 16), none, .ext (.t 13) 0⟩,
      ⟨(some 17), none, .ext (.t 13) 1⟩,
      ⟨(some 4), none, .mov (.t 16)⟩,
      ⟨(some 5), none, .mov (.t 17)⟩] [4, 5])
    (.seq
     (.seq
      (.ops [
        ⟨(some 18), none, .mov (.t 5)⟩,
        ⟨(some 19), none, .bin .neq .no (.t 18) (.c (.int .i64 0))⟩,
        ⟨(some 20), none, .mov (.t 19)⟩,
        ⟨(some 21), (some (20, false)), .mov (.t 4)⟩,
        ⟨(some 22), (some (20, false)), .lenS (.t 21)⟩,
        ⟨(some 23), (some (20, false)), .mov (.t 3)⟩,
        ⟨(some 24), (some (20, false)), .bin .neq .no (.t 22) (.t 23)⟩,
        ⟨(some 25), none, .pick (.t 20) (.c (.bool true)) (.t 24)⟩,
        ⟨(some 26), none, .mov (.t 25)⟩,
        ⟨(some 27), (some (26, false)), .mov (.t 4)⟩,
        ⟨(some 28), (some (26, false)), .ixS 1 (.t 27) (.c (.int .i64 0))⟩,
        ⟨(some 29), (some (26, false)), .load none (.t 28)⟩,
        ⟨(some 30), (some (26, false)), .bin .neq .no (.t 29) (.c (.int .i64 1))⟩,
        ⟨(some 31), none, .pick (.t 26) (.c (.bool true)) (.t 30)⟩,
        ⟨(some 32), none, .mov (.t 31)⟩,
        ⟨(some 33), (some (32, false)), .call (.c (.fn (.func 16) [] [])) []⟩,
        ⟨(some 34), (some (32, false)), .not (.t 33)⟩,
        ⟨(some 35), none, .pick (.t 32) (.c (.bool true)) (.t 34)⟩] [35])
      (.cond (.t 35)
       (.seq
        (.ops [
          ⟨(some 2), none, .mov (.c (.bool false))⟩] [2])
        .ret)
       .skip))
     (.seq
      (.ops [
        ⟨(some 36), none, .mov (.t 3)⟩,
        ⟨(some 37), none, .bin .add .no (.t 36) (.c (.int .i64 2))⟩,
        ⟨(some 38), none, .mks [(.int .i64 0)] 1 (.t 37) (.t 37)⟩,
        ⟨(some 6), none, .mov (.t 38)⟩] [6])
      (.seq
       (.seq
        (.ops [
          ⟨(some 7), none, .mov (.c (.int .i64 0))⟩] [7])
        (.block 0
         (.loop
          (.seq
           (.seq
            (.ops [
              ⟨(some 39), none, .mov (.t 7)⟩,
              ⟨(some 40), none, .mov (.t 3)⟩,
              ⟨(some 41), none, .bin .lss .no (.t 39) (.t 40)⟩] [41])
            (.cond (.t 41)
             .skip
             (.exit 0)))
           (.seq
            (.block 1
             (.seq
              (.seq
               (.ops [
                 ⟨(some 44), none, .mov (.t 4)⟩,
                 ⟨(some 45), none, .mov (.t 7)⟩,
                 ⟨(some 46), none, .ixS 1 (.t 44) (.t 45)⟩,
                 ⟨(some 47), none, .load none (.t 46)⟩,
                 ⟨(some 48), none, .bin .lss .no (.t 47) (.c (.int .i64 1))⟩,
                 ⟨(some 49), none, .mov (.t 48)⟩,
                 ⟨(some 50), (some (49, false)), .mov (.t 4)⟩,
                 ⟨(some 51), (some (49, false)), .mov (.t 7)⟩,
                 ⟨(some 52), (some (49, false)), .ixS 1 (.t 50) (.t 51)⟩,
                 ⟨(some 53), (some (49, false)), .load none (.t 52)⟩,
                 ⟨(some 54), (some (49, false)), .mov (.t 7)⟩,
                 ⟨(some 55), (some (49, false)), .bin .add .no (.t 54) (.c (.int .i64 1))⟩,
                 ⟨(some 56), (some (49, false)), .bin .gtr .no (.t 53) (.t 55)⟩,
                 ⟨(some 57), none, .pick (.t 49) (.c (.bool true)) (.t 56)⟩,
                 ⟨(some 58), none, .mov (.t 57)⟩,
                 ⟨(some 59), (some (58, false)), .mov (.t 7)⟩,
                 ⟨(some 60), (some (58, false)), .bin .gtr .no (.t 59) (.c (.int .i64 0))⟩,
                 ⟨(some 61), (some (58, false)), .mov (.t 60)⟩,
                 ⟨(some 62), (some (61, true)), .mov (.t 4)⟩,
                 ⟨(some 63), (some (61, true)), .mov (.t 7)⟩,
                 ⟨(some 64), (some (61, true)), .ixS 1 (.t 62) (.t 63)⟩,
                 ⟨(some 65), (some (61, true)), .load none (.t 64)⟩,
                 ⟨(some 66), (some (61, true)), .mov (.t 4)⟩,
                 ⟨(some 67), (some (61, true)), .mov (.t 7)⟩,
                 ⟨(some 68), (some (61, true)), .bin .sub .no (.t 67) (.c (.int .i64 1))⟩,
                 ⟨(some 69), (some (61, true)), .ixS 1 (.t 66) (.t 68)⟩,
                 ⟨(some 70), (some (61, true)), .load none (.t 69)⟩,
                 ⟨(some 71), (some (61, true)), .bin .lss .no (.t 65) (.t 70)⟩,
                 ⟨(some 72), (some (61, true)), .mov (.t 71)⟩,
                 ⟨(some 73), (some (72, false)), .mov (.t 4)⟩,
                 ⟨(some 74), (some (72, false)), .mov (.t 7)⟩,
                 ⟨(some 75), (some (72, false)), .ixS 1 (.t 73) (.t 74)⟩,
                 ⟨(some 76), (some (72, false)), .load none (.t 75)⟩,
                 ⟨(some 77), (some (72, false)), .mov (.t 4)⟩,
                 ⟨(some 78), (some (72, false)), .mov (.t 7)⟩,
                 ⟨(some 79), (some (72, false)), .bin .sub .no (.t 78) (.c (.int .i64 1))⟩,
                 ⟨(some 80), (some (72, false)), .ixS 1 (.t 77) (.t 79)⟩,
                 ⟨(some 81), (some (72, false)), .load none (.t 80)⟩,
                 ⟨(some 82), (some (72, false)), .bin .add .no (.t 81) (.c (.int .i64 1))⟩,
                 ⟨(some 83), (some (72, false)), .bin .gtr .no (.t 76) (.t 82)⟩,
                 ⟨(some 84), (some (61, true)), .pick (.t 72) (.c (.bool true)) (.t 83)⟩,
                 ⟨(some 85), (some (58, false)), .pick (.t 61) (.t 84) (.c (.bool false))⟩,
                 ⟨(some 86), none, .pick (.t 58) (.c (.bool true)) (.t 85)⟩] [86])
               (.cond (.t 86)
                (.seq
                 (.ops [
                   ⟨(some 2), none, .mov (.c (.bool false))⟩] [2])
                 .ret)
                .skip))
              (.ops [
                ⟨(some 87), none, .mov (.t 6)⟩,
                ⟨(some 88), none, .mov (.t 4)⟩,
                ⟨(some 89), none, .mov (.t 7)⟩,
                ⟨(some 90), none, .ixS 1 (.t 88) (.t 89)⟩,
                ⟨(some 91), none, .load none (.t 90)⟩,
                ⟨(some 92), none, .ixS 1 (.t 87) (.t 91)⟩,
                ⟨(some 93), none, .load none (.t 92)⟩,
                ⟨(some 94), none, .bin .add .no (.t 93) (.c (.int .i64 1))⟩,
                ⟨(some 95), none, .ixS 1 (.t 87) (.t 91)⟩,
                ⟨none, none, .store 1 (.t 95) (.t 94)⟩] [])))
            (.ops [
              ⟨(some 42), none, .mov (.t 7)⟩,
              ⟨(some 43), none, .bin .add .no (.t 42) (.c (.int .i64 1))⟩,
              ⟨(some 7), none, .mov (.t 43)⟩] [7]))))))
       (.seq
        (.seq
         (.ops [
           ⟨(some 8), none, .mov (.c (.int .i64 1))⟩] [8])
         (.block 2
          (.loop
           (.seq
            (.seq
             (.ops [
               ⟨(some 96), none, .mov (.t 8)⟩,
               ⟨(some 97), none, .mov (.t 4)⟩,
               ⟨(some 98), none, .mov (.t 3)⟩,
               ⟨(some 99), none, .bin .sub .no (.t 98) (.c (.int .i64 1))⟩,
               ⟨(some 100), none, .ixS 1 (.t 97) (.t 99)⟩,
               ⟨(some 101), none, .load none (.t 100)⟩,
               ⟨(some 102), none, .bin .lss .no (.t 96) (.t 101)⟩] [102])
             (.cond (.t 102)
              .skip
              (.exit 2)))
            (.seq
             (.block 3
              (.seq
               (.ops [
                 ⟨(some 105), none, .mov (.t 6)⟩,
                 ⟨(some 106), none, .mov (.t 8)⟩,
                 ⟨(some 107), none, .ixS 1 (.t 105) (.t 106)⟩,
                 ⟨(some 108), none, .load none (.t 107)⟩,
                 ⟨(some 109), none, .mov (.t 4)⟩,
                 ⟨(some 110), none, .mov (.t 8)⟩,
                 ⟨(some 111), none, .bin .sub .no (.t 110) (.c (.int .i64 1))⟩,
                 ⟨(some 112), none, .ixS 1 (.t 109) (.t 111)⟩,
                 ⟨(some 113), none, .load none (.t 112)⟩,
                 ⟨(some 114), none, .bin .neq .no (.t 108) (.t 113)⟩] [114])
               (.cond (.t 114)
                (.seq
                 (.ops [
                   ⟨(some 2), none, .mov (.c (.bool false))⟩] [2])
                 .ret)
                .skip)))
             (.ops [
               ⟨(some 103), none, .mov (.t 8)⟩,
               ⟨(some 104), none, .bin .add .no (.t 103) (.c (.int .i64 1))⟩,
               ⟨(some 8), none, .mov (.t 104)⟩] [8]))))))
        (.seq
         (.seq
          (.ops [
            ⟨(some 9), none, .mov (.c (.int .i64 1))⟩] [9])
          (.block 4
           (.loop
            (.seq
             (.seq
              (.ops [
                ⟨(some 115), none, .mov (.t 9)⟩,
                ⟨(some 116), none, .mov (.t 3)⟩,
                ⟨(some 117), none, .bin .lss .no (.t 115) (.t 116)⟩] [117])
              (.cond (.t 117)
               .skip
               (.exit 4)))
             (.seq
              (.block 5
               (.seq
                (.ops [
                  ⟨(some 120), none, .mov (.t 9)⟩,
                  ⟨(some 121), none, .bin .add .no (.t 120) (.c (.int .i64 1))⟩,
                  ⟨(some 122), none, .mov (.t 4)⟩,
                  ⟨(some 123), none, .mov (.t 4)⟩,
                  ⟨(some 124), none, .mov (.t 9)⟩,
                  ⟨(some 125), none, .bin .sub .no (.t 124) (.c (.int .i64 1))⟩,
                  ⟨(some 126), none, .ixS 1 (.t 123) (.t 125)⟩,
                  ⟨(some 127), none, .load none (.t 126)⟩,
                  ⟨(some 128), none, .bin .sub .no (.t 127) (.c (.int .i64 1))⟩,
                  ⟨(some 129), none, .ixS 1 (.t 122) (.t 128)⟩,
                  ⟨(some 130), none, .load none (.t 129)⟩,
                  ⟨(some 131), none, .bin .sub .no (.t 121) (.t 130)⟩,
                  ⟨(some 10), none, .mov (.t 131)⟩] [10])
                (.seq
                 (.ops [
                   ⟨(some 132), none, .mov (.t 10)⟩,
                   ⟨(some 133), none, .bin .lss .no (.t 132) (.c (.int .i64 1))⟩,
                   ⟨(some 134), none, .mov (.t 133)⟩,
                   ⟨(some 135), (some (134, false)), .mov (.t 10)⟩,
                   ⟨(some 136), (some (134, false)), .mov (.t 3)⟩,
                   ⟨(some 137), (some (134, false)), .bin .gtr .no (.t 135) (.t 136)⟩,
                   ⟨(some 138), none, .pick (.t 134) (.c (.bool true)) (.t 137)⟩,
                   ⟨(some 139), none, .mov (.t 138)⟩,
                   ⟨(some 140), (some (139, false)), .mov (.t 4)⟩,
                   ⟨(some 141), (some (139, false)), .mov (.t 9)⟩,
                   ⟨(some 142), (some (139, false)), .ixS 1 (.t 140) (.t 141)⟩,
                   ⟨(some 143), (some (139, false)), .load none (.t 142)⟩,
                   ⟨(some 144), (some (139, false)), .mov (.t 4)⟩,
                   ⟨(some 145), (some (139, false)), .mov (.t 10)⟩,
                   ⟨(some 146), (some (139, false)), .bin .sub .no (.t 145) (.c (.int .i64 1))⟩,
                   ⟨(some 147), (some (139, false)), .ixS 1 (.t 144) (.t 146)⟩,
                   ⟨(some 148), (some (139, false)), .load none (.t 147)⟩,
                   ⟨(some 149), (some (139, false)), .bin .add .no (.c (.int .i64 1)) (.t 148)⟩,
                   ⟨(some 150), (some (139, false)), .bin .neq .no (.t 143) (.t 149)⟩,
                   ⟨(some 151), none, .pick (.t 139) (.c (.bool true)) (.t 150)⟩] [151])
                 (.cond (.t 151)
                  (.seq
                   (.ops [
                     ⟨(some 2), none, .mov (.c (.bool false))⟩] [2])
                   .ret)
                  .skip))))
              (.ops [
                ⟨(some 118), none, .mov (.t 9)⟩,
                ⟨(some 119), none, .bin .add .no (.t 118) (.c (.int .i64 1))⟩,
                ⟨(some 9), none, .mov (.t 119)⟩] [9]))))))
         (.seq
          (.ops [
            ⟨(some 2), none, .mov (.c (.bool true))⟩] [2])
          .ret))))))))),
 [.tmp 2]⟩

/-- bellpull/bellpulllaw02.EchoParts -/
noncomputable def sf8 : SFun := ⟨[0, 1, 2, 6, 7, 8, 9, 10, 11, 12, 13, 14, 16, 17, 18, 57, 75, 76, 77, 78, 93], 95,
 (.seq
  (.ops [
    ⟨(some 6), none, .mov (.c (.bool false))⟩] [6])
  (.seq
   (.ops [
     ⟨(some 19), none, .mov (.t 0)⟩,
     ⟨(some 20), none, .call (.c (.fn (.func 33) [] [])) [(.t 19), (.c (.int .i64 60))]⟩,
     ⟨(some 7), none, .mov (.t 20)⟩] [7])
   (.seq
    (.ops [
      ⟨(some 21), none, .mov (.t 1)⟩,
      ⟨(some 22), none, .mov (.t 7)⟩,
      ⟨(some 23), none, .lenS (.t 22)⟩,
      ⟨(some 24), none, .call (.c (.fn (.func 32) [] [])) [(.t 21), (.c (.int .i64 0)), (.t 23)]⟩,
      ⟨(some 8), none, .mov (.t 24)⟩] [8])
    (.seq
     (.ops [
       ⟨(some 25), none, .mov (.t 2)⟩,
       ⟨(some 26), none, .mov (.t 8)⟩,
       ⟨(some 27), none, .mov (.t 7)⟩,
       ⟨(some 28), none, .lenS (.t 27)⟩,
       ⟨(some 29), none, .call (.c (.fn (.func 32) [] [])) [(.t 25), (.t 26), (.t 28)]⟩,
       ⟨(some 9), none, .mov (.t 29)⟩] [9])
     (.seq
      (.ops [
        ⟨(some 31), none, .mov (.t 7)⟩,
        ⟨(some 32), none, .call (.c (.fn (.func 34) [] [])) [(.t 31)]⟩,
        ⟨(some 30), none, .mov (.t 32)⟩,
        ⟨(some 33), none, .ext (.t 30) 0⟩,
        ⟨(some 34), none, .ext (.t 30) 1⟩,
        ⟨(some 10), none, .mov (.t 33)⟩,
        ⟨(some 11), none, .mov (.t 34)⟩] [10, 11])
      (.seq
       (.ops [
         ⟨(some 36), none, .mov (.t 8)⟩,
         ⟨(some 37), none, .bin .add .no (.c (.int .i64 300)) (.t 36)⟩,
         ⟨(some 38), none, .mov (.t 9)⟩,
         ⟨(some 39), none, .bin .add .no (.t 37) (.t 38)⟩,
         ⟨(some 40), none, .call (.c (.fn (.func 19) [] [])) [(.c (.int .i64 1)), (.c (.int .i64 2)), (.t 39)]⟩,
         ⟨(some 35), none, .mov (.t 40)⟩,
         ⟨(some 41), none, .ext (.t 35) 0⟩,
         ⟨(some 42), none, .ext (.t 35) 1⟩,
         ⟨(some 12), none, .mov (.t 41)⟩,
         ⟨(some 13), none, .mov (.t 42)⟩] [12, 13])
       (.seq
        (.seq
         (.ops [
           ⟨(some 43), none, .mov (.t 13)⟩,
           ⟨(some 44), none, .bin .neq .no (.t 43) (.c (.int .i64 0))⟩,
           ⟨(some 45), none, .mov (.t 44)⟩,
           ⟨(some 46), (some (45, false)), .mov (.t 12)⟩,
           ⟨(some 47), (some (45, false)), .lenS (.t 46)⟩,
           ⟨(some 48), (some (45, false)), .mov (.t 8)⟩,
           ⟨(some 49), (some (45, false)), .bin .add .no (.c (.int .i64 300)) (.t 48)⟩,
           ⟨(some 50), (some (45, false)), .mov (.t 9)⟩,
           ⟨(some 51), (some (45, false)), .bin .add .no (.t 49) (.t 50)⟩,
           ⟨(some 52), (some (45, false)), .bin .neq .no (.t 47) (.t 51)⟩,
           ⟨(some 53), none, .pick (.t 45) (.c (.bool true)) (.t 52)⟩,
           ⟨(some 54), none, .mov (.t 53)⟩,
           ⟨(some 55), (some (54, false)), .call (.c (.fn (.func 16) [] [])) []⟩,
           ⟨(some 56), (some (54, false)), .not (.t 55)⟩,
           ⟨(some 57), none, .pick (.t 54) (.c (.bool true)) (.t 56)⟩] [57])
         (.cond (.t 57)
          (.seq
           (.ops [
             ⟨(some 6), none, .mov (.c (.bool false))⟩] [6])
           .ret)
          .skip))
        (.seq
         (.ops [
           ⟨(some 58), none, .mov (.t 1)⟩,
           ⟨(some 59), none, .call (.c (.fn (.func 32) [] [])) [(.t 58), (.c (.int .i64 0)), (.c (.int .i64 200))]⟩,
           ⟨(some 14), none, .mov (.t 59)⟩] [14])
         (.seq
          (.seq
           (.ops [
             ⟨(some 60), none, .mov (.t 7)⟩,
             ⟨(some 61), none, .mov (.t 7)⟩,
             ⟨(some 62), none, .mov (.t 8)⟩,
             ⟨(some 63), none, .mov (.t 9)⟩,
             ⟨(some 64), none, .mov (.t 9)⟩,
             ⟨(some 65), none, .slice3 1 (.t 61) (some (.t 62)) (.t 63) (.t 64)⟩,
             ⟨(some 66), none, .mov (.t 10)⟩,
             ⟨(some 67), none, .mov (.t 11)⟩,
             ⟨(some 68), none, .mov (.t 12)⟩,
             ⟨(some 69), none, .mov (.t 14)⟩,
             ⟨(some 70), none, .mov (.t 14)⟩,
             ⟨(some 71), none, .mov (.t 2)⟩,
             ⟨(some 72), none, .call (.c (.fn (.func 32) [] [])) [(.t 71), (.c (.int .i64 0)), (.c (.int .i64 100))]⟩,
             ⟨(some 73), none, .bin .add .no (.t 70) (.t 72)⟩,
             ⟨(some 74), none, .slice 1 (.t 68) (some (.t 69)) (some (.t 73))⟩,
             ⟨(some 75), none, .buildS [.nilsl] 5 1 [(0, (.t 60)), (1, (.t 65)), (2, (.t 66)), (3, (.t 67)), (4, (.t 74))]⟩,
             ⟨(some 76), none, .lenS (.t 75)⟩,
             ⟨(some 77), none, .mov (.c (.int .i64 0))⟩] [75, 76, 77])
           (.block 0
            (.loop
             (.seq
              (.ops [
                ⟨(some 78), none, .bin .lss .no (.t 77) (.t 76)⟩] [78])
              (.seq
               (.cond (.t 78)
                .skip
                (.exit 0))
               (.seq
                (.block 1
                 (.seq
                  (.ops [
                    ⟨(some 79), none, .ixS 1 (.t 75) (.t 77)⟩,
                    ⟨(some 80), none, .load none (.t 79)⟩,
                    ⟨(some 16), none, .mov (.t 80)⟩] [16])
                  (.seq
                   (.ops [
                     ⟨(some 82), none, .buildS [(.int .i64 0)] 0 1 []⟩,
                     ⟨(some 83), none, .mov (.t 16)⟩,
                     ⟨(some 84), none, .app true 1 (.t 82) (.t 83)⟩,
                     ⟨(some 85), none, .call (.c (.fn (.func 26) [] [])) [(.t 84)]⟩,
                     ⟨(some 81), none, .mov (.t 85)⟩,
                     ⟨(some 86), none, .ext (.t 81) 0⟩,
                     ⟨(some 87), none, .ext (.t 81) 1⟩,
                     ⟨(some 17), none, .mov (.t 86)⟩,
                     ⟨(some 18), none, .mov (.t 87)⟩] [17, 18])
                   (.seq
                    (.ops [
                      ⟨(some 88), none, .mov (.t 17)⟩,
                      ⟨(some 89), none, .not (.t 88)⟩,
                      ⟨(some 90), none, .mov (.t 89)⟩,
                      ⟨(some 91), (some (90, false)), .mov (.t 18)⟩,
                      ⟨(some 92), (some (90, false)), .bin .neq .no (.t 91) (.c (.int .i64 0))⟩,
                      ⟨(some 93), none, .pick (.t 90) (.c (.bool true)) (.t 92)⟩] [93])
                    (.cond (.t 93)
                     (.seq
                      (.ops [
                        ⟨(some 6), none, .mov (.c (.bool false))⟩] [6])
                      .ret)
                     .skip)))))
                (.ops [
                  ⟨(some 94), none, .bin .add .no (.t 77) (.c (.int .i64 1))⟩,
                  ⟨(some 77), none, .mov (.t 94)⟩] [77])))))))
          (.seq
           (.ops [
             ⟨(some 6), none, .mov (.c (.bool true))⟩] [6])
           .ret)))))))))),
 [.tmp 6]⟩

/-- bellpull/bellpulllaw02.EchoDerived -/
noncomputable def sf9 : SFun := ⟨[0, 2, 3, 4, 5, 6, 7, 8, 9, 10, 11], 90,
 (.seq
  (.ops [
    ⟨(some 2), none, .mov (.c (.bool false))⟩] [2])
  (.seq
   (.ops [
     ⟨(some 12), none, .mov (.t 0)⟩,
     ⟨(some 13), none, .call (.c (.fn (.func 33) [] [])) [(.t 12), (.c (.int .i64 100))]⟩,
     ⟨(some 3), none, .mov (.t 13)⟩] [3])
   (.seq
    (.ops [
      ⟨(some 15), none, .mov (.t 3)⟩,
      ⟨(some 16), none, .call (.c (.fn (.func 25) [] [])) [(.t 15)]⟩,
      ⟨(some 14), none, .mov (.t 16)⟩,
      ⟨(some 17), none, .ext (.t 14) 0⟩,
      ⟨(some 18), none, .ext (.t 14) 1⟩,
      ⟨(some 4), none, .mov (.t 17)⟩,
      ⟨(some 5), none, .mov (.t 18)⟩] [4, 5])
    (.seq
     (.ops [
       ⟨(some 20), none, .mov (.t 3)⟩,
       ⟨(some 21), none, .call (.c (.fn (.func 27) [] [])) [(.t 20)]⟩,
       ⟨(some 19), none, .mov (.t 21)⟩,
       ⟨(some 22), none, .ext (.t 19) 0⟩,
       ⟨(some 23), none, .ext (.t 19) 1⟩,
       ⟨(some 6), none, .mov (.t 22)⟩,
       ⟨(some 7), none, .mov (.t 23)⟩] [6, 7])
     (.seq
      (.ops [
        ⟨(some 25), none, .mov (.t 4)⟩,
        ⟨(some 26), none, .call (.c (.fn (.func 26) [] [])) [(.t 25)]⟩,
        ⟨(some 24), none, .mov (.t 26)⟩,
        ⟨(some 27), none, .ext (.t 24) 0⟩,
        ⟨(some 28), none, .ext (.t 24) 1⟩,
        ⟨(some 8), none, .mov (.t 27)⟩,
        ⟨(some 9), none, .mov (.t 28)⟩] [8, 9])
      (.seq
       (.ops [
         ⟨(some 30), none, .mov (.t 4)⟩,
         ⟨(some 31), none, .call (.c (.fn (.func 27) [] [])) [(.t 30)]⟩,
         ⟨(some 29), none, .mov (.t 31)⟩,
         ⟨(some 32), none, .ext (.t 29) 0⟩,
         ⟨(some 33), none, .ext (.t 29) 1⟩,
         ⟨(some 10), none, .mov (.t 32)⟩,
         ⟨(some 11), none, .mov (.t 33)⟩] [10, 11])
       (.seq
        (.ops [
          ⟨(some 34), none, .mov (.t 5)⟩,
          ⟨(some 35), none, .bin .eql .no (.t 34) (.c (.int .i64 0))⟩,
          ⟨(some 36), none, .mov (.t 35)⟩,
          ⟨(some 37), (some (36, true)), .mov (.t 7)⟩,
          ⟨(some 38), (some (36, true)), .bin .eql .no (.t 37) (.c (.int .i64 0))⟩,
          ⟨(some 39), none, .pick (.t 36) (.t 38) (.c (.bool false))⟩,
          ⟨(some 40), none, .mov (.t 39)⟩,
          ⟨(some 41), (some (40, true)), .mov (.t 9)⟩,
          ⟨(some 42), (some (40, true)), .bin .eql .no (.t 41) (.c (.int .i64 0))⟩,
          ⟨(some 43), none, .pick (.t 40) (.t 42) (.c (.bool false))⟩,
          ⟨(some 44), none, .mov (.t 43)⟩,
          ⟨(some 45), (some (44, true)), .mov (.t 11)⟩,
          ⟨(some 46), (some (44, true)), .bin .eql .no (.t 45) (.c (.int .i64 0))⟩,
          ⟨(some 47), none, .pick (.t 44) (.t 46) (.c (.bool false))⟩,
          ⟨(some 48), none, .mov (.t 47)⟩,
          ⟨(some 49), (some (48, true)), .mov (.t 8)⟩,
          ⟨(some 50), none, .pick (.t 48) (.t 49) (.c (.bool false))⟩,
          ⟨(some 51), none, .mov (.t 50)⟩,
          ⟨(some 52), (some (51, true)), .mov (.t 3)⟩,
          ⟨(some 53), (some (51, true)), .lenS (.t 52)⟩,
          ⟨(some 54), (some (51, true)), .bin .eql .no (.t 53) (.c (.int .i64 0))⟩,
          ⟨(some 55), (some (51, true)), .mov (.t 54)⟩,
          ⟨(some 56), (some (55, true)), .mov (.t 4)⟩,
          ⟨(some 57), (some (55, true)), .lenS (.t 56)⟩,
          ⟨(some 58), (some (55, true)), .bin .eql .no (.t 57) (.c (.int .i64 0))⟩,
          ⟨(some 59), (some (51, true)), .pick (.t 55) (.t 58) (.c (.bool false))⟩,
          ⟨(some 60), (some (51, true)), .mov (.t 59)⟩,
          ⟨(some 61), (some (60, true)), .mov (.t 6)⟩,
          ⟨(some 62), (some (60, true)), .bin .eql .no (.t 61) (.c (.int .i64 0))⟩,
          ⟨(some 63), (some (51, true)), .pick (.t 60) (.t 62) (.c (.bool false))⟩,
          ⟨(some 64), (some (51, true)), .mov (.t 63)⟩,
          ⟨(some 65), (some (64, true)), .mov (.t 10)⟩,
          ⟨(some 66), (some (64, true)), .bin .eql .no (.t 65) (.c (.int .i64 0))⟩,
          ⟨(some 67), (some (51, true)), .pick (.t 64) (.t 66) (.c (.bool false))⟩,
          ⟨(some 68), (some (51, true)), .mov (.t 67)⟩,
          ⟨(some 69), (some (68, false)), .mov (.t 3)⟩,
          ⟨(some 70), (some (68, false)), .lenS (.t 69)⟩,
          ⟨(some 71), (some (68, false)), .bin .gtr .no (.t 70) (.c (.int .i64 0))⟩,
          ⟨(some 72), (some (68, false)), .mov (.t 71)⟩,
          ⟨(some 73), (some (72, true)), .mov (.t 4)⟩,
          ⟨(some 74), (some (72, true)), .lenS (.t 73)⟩,
          ⟨(some 75), (some (72, true)), .mov (.t 3)⟩,
          ⟨(some 76), (some (72, true)), .lenS (.t 75)⟩,
          ⟨(some 77), (some (72, true)), .bin .lss .no (.t 74) (.t 76)⟩,
          ⟨(some 78), (some (68, false)), .pick (.t 72) (.t 77) (.c (.bool false))⟩,
          ⟨(some 79), (some (68, false)), .mov (.t 78)⟩,
          ⟨(some 80), (some (79, true)), .mov (.t 10)⟩,
          ⟨(some 81), (some (79, true)), .mov (.t 6)⟩,
          ⟨(some 82), (some (79, true)), .bin .sub .no (.t 81) (.c (.int .i64 1))⟩,
          ⟨(some 83), (some (79, true)), .bin .eql .no (.t 80) (.t 82)⟩,
          ⟨(some 84), (some (68, false)), .pick (.t 79) (.t 83) (.c (.bool false))⟩,
          ⟨(some 85), (some (51, true)), .pick (.t 68) (.c (.bool true)) (.t 84)⟩,
          ⟨(some 86), none, .pick (.t 51) (.t 85) (.c (.bool false))⟩,
          ⟨(some 87), none, .mov (.t 86)⟩,
          ⟨(some 88), (some (87, true)), .call (.c (.fn (.func 16) [] [])) []⟩,
          ⟨(some 89), none, .pick (.t 87) (.t 88) (.c (.bool false))⟩,
          ⟨(some 2), none, .mov (.t 89)⟩] [2])
        .ret))))))),
 [.tmp 2]⟩

/-- bellpull/bellpulllaw02.EchoExtended -/
noncomputable def sf10 : SFun := ⟨[0, 2, 3, 4, 5, 6, 7, 8, 31, 33, 54], 55,
 (.seq
  (.ops [
    ⟨(some 2), none, .mov (.c (.bool false))⟩] [2])
  (.seq
   (.ops [
     ⟨(some 9), none, .mov (.t 0)⟩,
     ⟨(some 10), none, .call (.c (.fn (.func 33) [] [])) [(.t 9), (.c (.int .i64 80))]⟩,
     ⟨(some 3), none, .mov (.t 10)⟩] [3])
   (.seq
    (.ops [
      ⟨(some 12), none, .mov (.t 3)⟩,
      ⟨(some 13), none, .call (.c (.fn (.func 28) [] [])) [(.t 12)]⟩,
      ⟨(some 11), none, .mov (.t 13)⟩,
      ⟨(some 14), none, .ext (.t 11) 0⟩,
      ⟨(some 15), none, .ext (.t 11) 1⟩,
      ⟨(some 4), none, .mov (.t 14)⟩,
      ⟨(some 5), none, .mov (.t 15)⟩] [4, 5])
    (.seq
     (.seq
      (.ops [
        ⟨(some 16), none, .mov (.t 5)⟩,
        ⟨(some 17), none, .bin .neq .no (.t 16) (.c (.int .i64 0))⟩,
        ⟨(some 18), none, .mov (.t 17)⟩,
        ⟨(some 19), (some (18, false)), .mov (.t 4)⟩,
        ⟨(some 20), (some (18, false)), .lenS (.t 19)⟩,
        ⟨(some 21), (some (18, false)), .bin .lss .no (.t 20) (.c (.int .i64 1))⟩,
        ⟨(some 22), none, .pick (.t 18) (.c (.bool true)) (.t 21)⟩,
        ⟨(some 23), none, .mov (.t 22)⟩,
        ⟨(some 24), (some (23, false)), .mov (.t 4)⟩,
        ⟨(some 25), (some (23, false)), .lenS (.t 24)⟩,
        ⟨(some 26), (some (23, false)), .bin .gtr .no (.t 25) (.c (.int .i64 2))⟩,
        ⟨(some 27), none, .pick (.t 23) (.c (.bool true)) (.t 26)⟩,
        ⟨(some 28), none, .mov (.t 27)⟩,
        ⟨(some 29), (some (28, false)), .call (.c (.fn (.func 16) [] [])) []⟩,
        ⟨(some 30), (some (28, false)), .not (.t 29)⟩,
        ⟨(some 31), none, .pick (.t 28) (.c (.bool true)) (.t 30)⟩] [31])
      (.cond (.t 31)
       (.seq
        (.ops [
          ⟨(some 2), none, .mov (.c (.bool false))⟩] [2])
        .ret)
       .skip))
     (.seq
      (.seq
       (.ops [
         ⟨(some 6), none, .mov (.c (.int .i64 1))⟩] [6])
       (.block 0
        (.loop
         (.seq
          (.seq
           (.ops [
             ⟨(some 32), none, .mov (.t 6)⟩,
             ⟨(some 33), none, .bin .leq .no (.t 32) (.c (.int .i64 2))⟩] [33])
           (.cond (.t 33)
            .skip
            (.exit 0)))
          (.seq
           (.block 1
            (.seq
             (.ops [
               ⟨(some 37), none, .buildS [(.int .i64 0)] 0 1 []⟩,
               ⟨(some 38), none, .mov (.t 3)⟩,
               ⟨(some 39), none, .app true 1 (.t 37) (.t 38)⟩,
               ⟨(some 40), none, .mov (.t 6)⟩,
               ⟨(some 41), none, .buildS [(.int .i64 0)] 1 1 [(0, (.t 40))]⟩,
               ⟨(some 42), none, .app true 1 (.t 39) (.t 41)⟩,
               ⟨(some 43), none, .call (.c (.fn (.func 26) [] [])) [(.t 42)]⟩,
               ⟨(some 36), none, .mov (.t 43)⟩,
               ⟨(some 44), none, .ext (.t 36) 0⟩,
               ⟨(some 45), none, .ext (.t 36) 1⟩,
               ⟨(some 7), none, .mov (.t 44)⟩,
               ⟨(some 8), none, .mov (.t 45)⟩] [7, 8])
             (.seq
              (.ops [
                ⟨(some 46), none, .mov (.t 8)⟩,
                ⟨(some 47), none, .bin .neq .no (.t 46) (.c (.int .i64 0))⟩,
                ⟨(some 48), none, .mov (.t 47)⟩,
                ⟨(some 49), (some (48, false)), .mov (.t 7)⟩,
                ⟨(some 50), (some (48, false)), .mov (.t 4)⟩,
                ⟨(some 51), (some (48, false)), .mov (.t 6)⟩,
                ⟨(some 52), (some (48, false)), .call (.c (.fn (.func 35) [] [])) [(.t 50), (.t 51)]⟩,
                ⟨(some 53), (some (48, false)), .bin .neq .bool (.t 49) (.t 52)⟩,
                ⟨(some 54), none, .pick (.t 48) (.c (.bool true)) (.t 53)⟩] [54])
              (.cond (.t 54)
               (.seq
                (.ops [
                  ⟨(some 2), none, .mov (.c (.bool false))⟩] [2])
                .ret)
               .skip))))
           (.ops [
             ⟨(some 34), none, .mov (.t 6)⟩,
             ⟨(some 35), none, .bin .add .no (.t 34) (.c (.int .i64 1))⟩,
             ⟨(some 6), none, .mov (.t 35)⟩] [6]))))))
      (.seq
       (.ops [
         ⟨(some 2), none, .mov (.c (.bool true))⟩] [2])
       .ret)))))),
 [.tmp 2]⟩

/-- bellpull/bellpulllaw02.EchoLengths -/
noncomputable def sf11 : SFun := ⟨[0, 2, 3, 4, 5, 6, 7, 8, 9, 18, 39, 73, 79, 92], 110,
 (.seq
  (.ops [
    ⟨(some 2), none, .mov (.c (.bool false))⟩] [2])
  (.seq
   (.ops [
     ⟨(some 10), none, .buildS [(.int .i64 0)] 0 1 []⟩,
     ⟨(some 3), none, .mov (.t 10)⟩] [3])
   (.seq
    (.seq
     (.ops [
       ⟨(some 4), none, .mov (.c (.int .i64 0))⟩] [4])
     (.block 0
      (.loop
       (.seq
        (.seq
         (.ops [
           ⟨(some 11), none, .mov (.t 4)⟩,
           ⟨(some 12), none, .mov (.t 0)⟩,
           ⟨(some 13), none, .lenS (.t 12)⟩,
           ⟨(some 14), none, .bin .lss .no (.t 11) (.t 13)⟩,
           ⟨(some 15), none, .mov (.t 14)⟩,
           ⟨(some 16), (some (15, true)), .mov (.t 4)⟩,
           ⟨(some 17), (some (15, true)), .bin .lss .no (.t 16) (.c (.int .i64 200))⟩,
           ⟨(some 18), none, .pick (.t 15) (.t 17) (.c (.bool false))⟩] [18])
         (.cond (.t 18)
          .skip
          (.exit 0)))
        (.seq
         (.block 1
          (.ops [
            ⟨(some 21), none, .mov (.t 3)⟩,
            ⟨(some 22), none, .mov (.t 0)⟩,
            ⟨(some 23), none, .mov (.t 4)⟩,
            ⟨(some 24), none, .ixS 1 (.t 22) (.t 23)⟩,
            ⟨(some 25), none, .load none (.t 24)⟩,
            ⟨(some 26), none, .conv .i64 (.t 25)⟩,
            ⟨(some 27), none, .bin .rem .no (.t 26) (.c (.int .i64 9))⟩,
            ⟨(some 28), none, .bin .add .no (.t 27) (.c (.int .i64 1))⟩,
            ⟨(some 29), none, .buildS [(.int .i64 0)] 1 1 [(0, (.t 28))]⟩,
            ⟨(some 30), none, .app true 1 (.t 21) (.t 29)⟩,
            ⟨(some 3), none, .mov (.t 30)⟩] [3]))
         (.ops [
           ⟨(some 19), none, .mov (.t 4)⟩,
           ⟨(some 20), none, .bin .add .no (.t 19) (.c (.int .i64 1))⟩,
           ⟨(some 4), none, .mov (.t 20)⟩] [4]))))))
    (.seq
     (.ops [
       ⟨(some 32), none, .mov (.t 3)⟩,
       ⟨(some 33), none, .call (.c (.fn (.func 14) [] [])) [(.t 32)]⟩,
       ⟨(some 31), none, .mov (.t 33)⟩,
       ⟨(some 34), none, .ext (.t 31) 0⟩,
       ⟨(some 35), none, .ext (.t 31) 1⟩,
       ⟨(some 5), none, .mov (.t 34)⟩,
       ⟨(some 6), none, .mov (.t 35)⟩] [5, 6])
     (.seq
      (.ops [
        ⟨(some 7), none, .mov (.c (.int .i64 0))⟩] [7])
      (.seq
       (.seq
        (.ops [
          ⟨(some 8), none, .mov (.c (.int .i64 0))⟩] [8])
        (.block 2
         (.loop
          (.seq
           (.seq
            (.ops [
              ⟨(some 36), none, .mov (.t 8)⟩,
              ⟨(some 37), none, .mov (.t 5)⟩,
              ⟨(some 38), none, .lenS (.t 37)⟩,
              ⟨(some 39), none, .bin .lss .no (.t 36) (.t 38)⟩] [39])
            (.cond (.t 39)
             .skip
             (.exit 2)))
           (.seq
            (.block 3
             (.seq
              (.seq
               (.ops [
                 ⟨(some 42), none, .mov (.t 5)⟩,
                 ⟨(some 43), none, .mov (.t 8)⟩,
                 ⟨(some 44), none, .ixS 1 (.t 42) (.t 43)⟩,
                 ⟨(some 45), none, .load none (.t 44)⟩,
                 ⟨(some 46), none, .bin .lss .no (.t 45) (.c (.int .i64 1))⟩,
                 ⟨(some 47), none, .mov (.t 46)⟩,
                 ⟨(some 48), (some (47, false)), .mov (.t 7)⟩,
                 ⟨(some 49), (some (47, false)), .mov (.t 5)⟩,
                 ⟨(some 50), (some (47, false)), .mov (.t 8)⟩,
                 ⟨(some 51), (some (47, false)), .ixS 1 (.t 49) (.t 50)⟩,
                 ⟨(some 52), (some (47, false)), .load none (.t 51)⟩,
                 ⟨(some 53), (some (47, false)), .bin .add .no (.t 48) (.t 52)⟩,
                 ⟨(some 54), (some (47, false)), .mov (.t 3)⟩,
                 ⟨(some 55), (some (47, false)), .lenS (.t 54)⟩,
                 ⟨(some 56), (some (47, false)), .bin .gtr .no (.t 53) (.t 55)⟩,
                 ⟨(some 57), none, .pick (.t 47) (.c (.bool true)) (.t 56)⟩,
                 ⟨(some 58), none, .mov (.t 57)⟩,
                 ⟨(some 59), (some (58, false)), .mov (.t 7)⟩,
                 ⟨(some 60), (some (58, false)), .bin .gtr .no (.t 59) (.c (.int .i64 0))⟩,
                 ⟨(some 61), (some (58, false)), .mov (.t 60)⟩,
                 ⟨(some 62), (some (61, true)), .mov (.t 3)⟩,
                 ⟨(some 63), (some (61, true)), .mov (.t 7)⟩,
                 ⟨(some 64), (some (61, true)), .ixS 1 (.t 62) (.t 63)⟩,
                 ⟨(some 65), (some (61, true)), .load none (.t 64)⟩,
                 ⟨(some 66), (some (61, true)), .mov (.t 3)⟩,
                 ⟨(some 67), (some (61, true)), .mov (.t 7)⟩,
                 ⟨(some 68), (some (61, true)), .bin .sub .no (.t 67) (.c (.int .i64 1))⟩,
                 ⟨(some 69), (some (61, true)), .ixS 1 (.t 66) (.t 68)⟩,
                 ⟨(some 70), (some (61, true)), .load none (.t 69)⟩,
                 ⟨(some 71), (some (61, true)), .bin .eql .no (.t 65) (.t 70)⟩,
                 ⟨(some 72), (some (58, false)), .pick (.t 61) (.t 71) (.c (.bool false))⟩,
                 ⟨(some 73), none, .pick (.t 58) (.c (.bool true)) (.t 72)⟩] [73])
               (.cond (.t 73)
                (.seq
                 (.ops [
                   ⟨(some 2), none, .mov (.c (.bool false))⟩] [2])
                 .ret)
                .skip))
              (.seq
               (.seq
                (.ops [
                  ⟨(some 9), none, .mov (.c (.int .i64 1))⟩] [9])
                (.block 4
                 (.loop
                  (.seq
                   (.seq
                    (.ops [
                      ⟨(some 74), none, .mov (.t 9)⟩,
                      ⟨(some 75), none, .mov (.t 5)⟩,
                      ⟨(some 76), none, .mov (.t 8)⟩,
                      ⟨(some 77), none, .ixS 1 (.t 75) (.t 76)⟩,
                      ⟨(some 78), none, .load none (.t 77)⟩,
                      ⟨(some 79), none, .bin .lss .no (.t 74) (.t 78)⟩] [79])
                    (.cond (.t 79)
                     .skip
                     (.exit 4)))
                   (.seq
                    (.block 5
                     (.seq
                      (.ops [
                        ⟨(some 82), none, .mov (.t 3)⟩,
                        ⟨(some 83), none, .mov (.t 7)⟩,
                        ⟨(some 84), none, .mov (.t 9)⟩,
                        ⟨(some 85), none, .bin .add .no (.t 83) (.t 84)⟩,
                        ⟨(some 86), none, .ixS 1 (.t 82) (.t 85)⟩,
                        ⟨(some 87), none, .load none (.t 86)⟩,
                        ⟨(some 88), none, .mov (.t 3)⟩,
                        ⟨(some 89), none, .mov (.t 7)⟩,
                        ⟨(some 90), none, .ixS 1 (.t 88) (.t 89)⟩,
                        ⟨(some 91), none, .load none (.t 90)⟩,
                        ⟨(some 92), none, .bin .neq .no (.t 87) (.t 91)⟩] [92])
                      (.cond (.t 92)
                       (.seq
                        (.ops [
                          ⟨(some 2), none, .mov (.c (.bool false))⟩] [2])
                        .ret)
                       .skip)))
                    (.ops [
                      ⟨(some 80), none, .mov (.t 9)⟩,
                      ⟨(some 81), none, .bin .add .no (.t 80) (.c (.int .i64 1))⟩,
                      ⟨(some 9), none, .mov (.t 81)⟩] [9]))))))
               (.ops [
                 ⟨(some 93), none, .mov (.t 7)⟩,
                 ⟨(some 94), none, .mov (.t 5)⟩,
                 ⟨(some 95), none, .mov (.t 8)⟩,
                 ⟨(some 96), none, .ixS 1 (.t 94) (.t 95)⟩,
                 ⟨(some 97), none, .load none (.t 96)⟩,
                 ⟨(some 98), none, .bin .add .no (.t 93) (.t 97)⟩,
                 ⟨(some 7), none, .mov (.t 98)⟩] [7]))))
            (.ops [
              ⟨(some 40), none, .mov (.t 8)⟩,
              ⟨(some 41), none, .bin .add .no (.t 40) (.c (.int .i64 1))⟩,
              ⟨(some 8), none, .mov (.t 41)⟩] [8]))))))
       (.seq
        (.ops [
          ⟨(some 99), none, .mov (.t 7)⟩,
          ⟨(some 100), none, .mov (.t 3)⟩,
          ⟨(some 101), none, .lenS (.t 100)⟩,
          ⟨(some 102), none, .bin .eql .no (.t 99) (.t 101)⟩,
          ⟨(some 103), none, .mov (.t 102)⟩,
          ⟨(some 104), (some (103, true)), .mov (.t 6)⟩,
          ⟨(some 105), (some (103, true)), .bin .eql .no (.t 104) (.c (.int .i64 0))⟩,
          ⟨(some 106), none, .pick (.t 103) (.t 105) (.c (.bool false))⟩,
          ⟨(some 107), none, .mov (.t 106)⟩,
          ⟨(some 108), (some (107, true)), .call (.c (.fn (.func 16) [] [])) []⟩,
          ⟨(some 109), none, .pick (.t 107) (.t 108) (.c (.bool false))⟩,
          ⟨(some 2), none, .mov (.t 109)⟩] [2])
        .ret))))))),
 [.tmp 2]⟩

/-- bellpull/bellpulllaw02.EchoOnes -/
noncomputable def sf12 : SFun := ⟨[0, 2, 3, 4, 5, 6, 7, 8, 9, 25, 32], 55,
 (.seq
  (.ops [
    ⟨(some 2), none, .mov (.c (.bool false))⟩] [2])
  (.seq
   (.ops [
     ⟨(some 10), none, .mov (.t 0)⟩,
     ⟨(some 11), none, .conv .i64 (.t 10)⟩,
     ⟨(some 3), none, .mov (.t 11)⟩] [3])
   (.seq
    (.ops [
      ⟨(some 13), none, .mov (.t 3)⟩,
      ⟨(some 14), none, .call (.c (.fn (.func 19) [] [])) [(.c (.int .i64 1)), (.c (.int .i64 2)), (.t 13)]⟩,
      ⟨(some 12), none, .mov (.t 14)⟩,
      ⟨(some 15), none, .ext (.t 12) 0⟩,
      ⟨(some 16), none, .ext (.t 12) 1⟩,
      ⟨(some 4), none, .mov (.t 15)⟩,
      ⟨(some 5), none, .mov (.t 16)⟩] [4, 5])
    (.seq
     (.ops [
       ⟨(some 18), none, .mov (.t 3)⟩,
       ⟨(some 19), none, .call (.c (.fn (.func 21) [] [])) [(.t 18)]⟩,
       ⟨(some 17), none, .mov (.t 19)⟩,
       ⟨(some 20), none, .ext (.t 17) 0⟩,
       ⟨(some 21), none, .ext (.t 17) 1⟩,
       ⟨(some 6), none, .mov (.t 20)⟩,
       ⟨(some 7), none, .mov (.t 21)⟩] [6, 7])
     (.seq
      (.ops [
        ⟨(some 8), none, .mov (.c (.int .i64 0))⟩] [8])
      (.seq
       (.seq
        (.ops [
          ⟨(some 9), none, .mov (.c (.int .i64 0))⟩] [9])
        (.block 0
         (.loop
          (.seq
           (.seq
            (.ops [
              ⟨(some 22), none, .mov (.t 9)⟩,
              ⟨(some 23), none, .mov (.t 4)⟩,
              ⟨(some 24), none, .lenS (.t 23)⟩,
              ⟨(some 25), none, .bin .lss .no (.t 22) (.t 24)⟩] [25])
            (.cond (.t 25)
             .skip
             (.exit 0)))
           (.seq
            (.block 1
             (.seq
              (.ops [
                ⟨(some 28), none, .mov (.t 4)⟩,
                ⟨(some 29), none, .mov (.t 9)⟩,
                ⟨(some 30), none, .ixS 1 (.t 28) (.t 29)⟩,
                ⟨(some 31), none, .load none (.t 30)⟩,
                ⟨(some 32), none, .bin .eql .no (.t 31) (.c (.int .i64 1))⟩] [32])
              (.cond (.t 32)
               (.ops [
                 ⟨(some 33), none, .mov (.t 8)⟩,
                 ⟨(some 34), none, .bin .add .no (.t 33) (.c (.int .i64 1))⟩,
                 ⟨(some 8), none, .mov (.t 34)⟩] [8])
               .skip)))
            (.ops [
              ⟨(some 26), none, .mov (.t 9)⟩,
              ⟨(some 27), none, .bin .add .no (.t 26) (.c (.int .i64 1))⟩,
              ⟨(some 9), none, .mov (.t 27)⟩] [9]))))))
       (.seq
        (.ops [
          ⟨(some 35), none, .mov (.t 5)⟩,
          ⟨(some 36), none, .bin .eql .no (.t 35) (.c (.int .i64 0))⟩,
          ⟨(some 37), none, .mov (.t 36)⟩,
          ⟨(some 38), (some (37, true)), .mov (.t 7)⟩,
          ⟨(some 39), (some (37, true)), .bin .eql .no (.t 38) (.c (.int .i64 0))⟩,
          ⟨(some 40), none, .pick (.t 37) (.t 39) (.c (.bool false))⟩,
          ⟨(some 41), none, .mov (.t 40)⟩,
          ⟨(some 42), (some (41, true)), .mov (.t 4)⟩,
          ⟨(some 43), (some (41, true)), .lenS (.t 42)⟩,
          ⟨(some 44), (some (41, true)), .mov (.t 3)⟩,
          ⟨(some 45), (some (41, true)), .bin .eql .no (.t 43) (.t 44)⟩,
          ⟨(some 46), none, .pick (.t 41) (.t 45) (.c (.bool false))⟩,
          ⟨(some 47), none, .mov (.t 46)⟩,
          ⟨(some 48), (some (47, true)), .mov (.t 6)⟩,
          ⟨(some 49), (some (47, true)), .mov (.t 8)⟩,
          ⟨(some 50), (some (47, true)), .bin .eql .no (.t 48) (.t 49)⟩,
          ⟨(some 51), none, .pick (.t 47) (.t 50) (.c (.bool false))⟩,
          ⟨(some 52), none, .mov (.t 51)⟩,
          ⟨(some 53), (some (52, true)), .call (.c (.fn (.func 16) [] [])) []⟩,
          ⟨(some 54), none, .pick (.t 52) (.t 53) (.c (.bool false))⟩,
          ⟨(some 2), none, .mov (.t 54)⟩] [2])
        .ret))))))),
 [.tmp 2]⟩

/-- bellpull/bellpulllaw02.cut -/
noncomputable def sf13 : SFun := ⟨[0, 2], 10,
 (.seq
  (.ops [
    ⟨(some 2), none, .mov (.c .nilsl)⟩] [2])
  (.seq
   (.ops [
     ⟨(some 3), none, .buildS [(.int .i64 0)] 0 1 []⟩,
     ⟨(some 4), none, .mov (.t 0)⟩,
     ⟨(some 5), none, .mov (.t 0)⟩,
     ⟨(some 6), none, .lenS (.t 5)⟩,
     ⟨(some 7), none, .mn (.t 6) (.c (.int .i64 201))⟩,
     ⟨(some 8), none, .slice 1 (.t 4) none (some (.t 7))⟩,
     ⟨(some 9), none, .app true 1 (.t 3) (.t 8)⟩,
     ⟨(some 2), none, .mov (.t 9)⟩] [2])
   .ret)),
 [.tmp 2]⟩

/-- bellpull/echo.Runs -/
noncomputable def sf14 : SFun := ⟨[0, 2, 3, 4, 8], 12,
 (.seq
  (.ops [
    ⟨(some 2), none, .mov (.c .nilsl)⟩,
    ⟨(some 3), none, .mov (.c (.int .i64 0))⟩] [2, 3])
  (.seq
   (.seq
    (.ops [
      ⟨(some 5), none, .mov (.t 0)⟩,
      ⟨(some 6), none, .call (.c (.fn (.func 36) [] [])) [(.t 5), (.c (.int .i64 200)), (.c (.int .i64 9))]⟩,
      ⟨(some 4), none, .mov (.t 6)⟩] [4])
    (.seq
     (.ops [
       ⟨(some 7), none, .mov (.t 4)⟩,
       ⟨(some 8), none, .bin .neq .no (.t 7) (.c (.int .i64 0))⟩] [8])
     (.cond (.t 8)
      (.seq
       (.ops [
         ⟨(some 9), none, .mov (.t 4)⟩,
         ⟨(some 2), none, .mov (.c .nilsl)⟩,
         ⟨(some 3), none, .mov (.t 9)⟩] [2, 3])
       .ret)
      .skip)))
   (.seq
    (.ops [
      ⟨(some 10), none, .mov (.t 0)⟩,
      ⟨(some 11), none, .call (.c (.fn (.func 37) [] [])) [(.t 10)]⟩,
      ⟨(some 2), none, .mov (.t 11)⟩,
      ⟨(some 3), none, .mov (.c (.int .i64 0))⟩] [2, 3])
    .ret))),
 [.tmp 2, .tmp 3]⟩

/-- bellpull/bellpullref02.Word -/
noncomputable def sf15 : SFun := ⟨[0, 1, 4, 5, 8, 12, 21], 22,
 (.seq
  (.ops [
    ⟨(some 4), none, .mov (.c (.int .i64 0))⟩] [4])
  (.seq
   (.seq
    (.ops [
      ⟨(some 6), none, .mov (.t 0)⟩,
      ⟨(some 7), none, .lenS (.t 6)⟩,
      ⟨(some 8), none, .bin .gtr .no (.t 7) (.c (.int .i64 200))⟩] [8])
    (.cond (.t 8)
     (.seq
      (.ops [
        ⟨(some 4), none, .mov (.c (.int .i64 3))⟩] [4])
      .ret)
     .skip))
   (.seq
    (.seq
     (.ops [
       ⟨(some 5), none, .mov (.c (.int .i64 0))⟩] [5])
     (.block 0
      (.loop
       (.seq
        (.seq
         (.ops [
           ⟨(some 9), none, .mov (.t 5)⟩,
           ⟨(some 10), none, .mov (.t 0)⟩,
           ⟨(some 11), none, .lenS (.t 10)⟩,
           ⟨(some 12), none, .bin .lss .no (.t 9) (.t 11)⟩] [12])
         (.cond (.t 12)
          .skip
          (.exit 0)))
        (.seq
         (.block 1
          (.seq
           (.ops [
             ⟨(some 15), none, .mov (.t 0)⟩,
             ⟨(some 16), none, .mov (.t 5)⟩,
             ⟨(some 17), none, .ixS 1 (.t 15) (.t 16)⟩,
             ⟨(some 18), none, .load none (.t 17)⟩,
             ⟨(some 19), none, .mov (.t 1)⟩,
             ⟨(some 20), none, .call (.c (.fn (.func 22) [] [])) [(.t 18), (.c (.int .i64 1)), (.t 19)]⟩,
             ⟨(some 21), none, .not (.t 20)⟩] [21])
           (.cond (.t 21)
            (.seq
             (.ops [
               ⟨(some 4), none, .mov (.c (.int .i64 2))⟩] [4])
             .ret)
            .skip)))
         (.ops [
           ⟨(some 13), none, .mov (.t 5)⟩,
           ⟨(some 14), none, .bin .add .no (.t 13) (.c (.int .i64 1))⟩,
           ⟨(some 5), none, .mov (.t 14)⟩] [5]))))))
    (.seq
     (.ops [
       ⟨(some 4), none, .mov (.c (.int .i64 0))⟩] [4])
     .ret)))),
 [.tmp 4]⟩

/-- bellpull/bellpulllaw02.lives -/
noncomputable def sf16 : SFun := ⟨[0, 1, 2, 3, 4, 5, 6, 7, 8, 9, 10, 11, 12], 89,
 (.seq
  (.ops [
    ⟨(some 0), none, .mov (.c (.bool false))⟩] [0])
  (.seq
   (.ops [
     ⟨(some 14), none, .call (.c (.fn (.func 19) [] [])) [(.c (.int .i64 1)), (.c (.int .i64 2)), (.c (.int .i64 10))]⟩,
     ⟨(some 13), none, .mov (.t 14)⟩,
     ⟨(some 15), none, .ext (.t 13) 0⟩,
     ⟨(some 16), none, .ext (.t 13) 1⟩,
     ⟨(some 1), none, .mov (.t 15)⟩,
     ⟨(some 2), none, .mov (.t 16)⟩] [1, 2])
   (.seq
    (.ops [
      ⟨(some 18), none, .call (.c (.fn (.func 20) [] [])) [(.c (.int .i64 9))]⟩,
      ⟨(some 17), none, .mov (.t 18)⟩,
      ⟨(some 19), none, .ext (.t 17) 0⟩,
      ⟨(some 20), none, .ext (.t 17) 1⟩,
      ⟨(some 3), none, .mov (.t 19)⟩,
      ⟨(some 4), none, .mov (.t 20)⟩] [3, 4])
    (.seq
     (.ops [
       ⟨(some 22), none, .call (.c (.fn (.func 21) [] [])) [(.c (.int .i64 10))]⟩,
       ⟨(some 21), none, .mov (.t 22)⟩,
       ⟨(some 23), none, .ext (.t 21) 0⟩,
       ⟨(some 24), none, .ext (.t 21) 1⟩,
       ⟨(some 5), none, .mov (.t 23)⟩,
       ⟨(some 6), none, .mov (.t 24)⟩] [5, 6])
     (.seq
      (.ops [
        ⟨(some 26), none, .buildS [(.int .i64 0)] 4 1 [(0, (.c (.int .i64 1))), (1, (.c (.int .i64 2))), (2, (.c (.int .i64 2))), (3, (.c (.int .i64 1)))]⟩,
        ⟨(some 27), none, .call (.c (.fn (.func 25) [] [])) [(.t 26)]⟩,
        ⟨(some 25), none, .mov (.t 27)⟩,
        ⟨(some 28), none, .ext (.t 25) 0⟩,
        ⟨(some 29), none, .ext (.t 25) 1⟩,
        ⟨(some 7), none, .mov (.t 28)⟩,
        ⟨(some 8), none, .mov (.t 29)⟩] [7, 8])
      (.seq
       (.ops [
         ⟨(some 31), none, .buildS [(.int .i64 0)] 4 1 [(0, (.c (.int .i64 1))), (1, (.c (.int .i64 2))), (2, (.c (.int .i64 2))), (3, (.c (.int .i64 1)))]⟩,
         ⟨(some 32), none, .call (.c (.fn (.func 27) [] [])) [(.t 31)]⟩,
         ⟨(some 30), none, .mov (.t 32)⟩,
         ⟨(some 33), none, .ext (.t 30) 0⟩,
         ⟨(some 34), none, .ext (.t 30) 1⟩,
         ⟨(some 9), none, .mov (.t 33)⟩,
         ⟨(some 10), none, .mov (.t 34)⟩] [9, 10])
       (.seq
        (.ops [
          ⟨(some 36), none, .buildS [(.int .i64 0)] 5 1 [(0, (.c (.int .i64 1))), (1, (.c (.int .i64 2))), (2, (.c (.int .i64 1))), (3, (.c (.int .i64 2))), (4, (.c (.int .i64 1)))]⟩,
          ⟨(some 37), none, .call (.c (.fn (.func 26) [] [])) [(.t 36)]⟩,
          ⟨(some 35), none, .mov (.t 37)⟩,
          ⟨(some 38), none, .ext (.t 35) 0⟩,
          ⟨(some 39), none, .ext (.t 35) 1⟩,
          ⟨(some 11), none, .mov (.t 38)⟩,
          ⟨(some 12), none, .mov (.t 39)⟩] [11, 12])
        (.seq
         (.ops [
           ⟨(some 40), none, .mov (.t 1)⟩,
           ⟨(some 41), none, .buildS [(.int .i64 0)] 10 1 [(0, (.c (.int .i64 1))), (1, (.c (.int .i64 2))), (2, (.c (.int .i64 2))), (3, (.c (.int .i64 1))), (4, (.c (.int .i64 1))), (5, (.c (.int .i64 2))), (6, (.c (.int .i64 1))), (7, (.c (.int .i64 2))), (8, (.c (.int .i64 2))), (9, (.c (.int .i64 1)))]⟩,
           ⟨(some 42), none, .call (.c (.fn (.func 17) [] [])) [(.t 40), (.t 41)]⟩,
           ⟨(some 43), none, .mov (.t 42)⟩,
           ⟨(some 44), (some (43, true)), .mov (.t 2)⟩,
           ⟨(some 45), (some (43, true)), .bin .eql .no (.t 44) (.c (.int .i64 0))⟩,
           ⟨(some 46), none, .pick (.t 43) (.t 45) (.c (.bool false))⟩,
           ⟨(some 47), none, .mov (.t 46)⟩,
           ⟨(some 48), (some (47, true)), .mov (.t 3)⟩,
           ⟨(some 49), (some (47, true)), .buildS [(.int .i64 0)] 9 1 [(0, (.c (.int .i64 1))), (1, (.c (.int .i64 2))), (2, (.c (.int .i64 2))), (3, (.c (.int .i64 3))), (4, (.c (.int .i64 3))), (5, (.c (.int .i64 4))), (6, (.c (.int .i64 4))), (7, (.c (.int .i64 4))), (8, (.c (.int .i64 5)))]⟩,
           ⟨(some 50), (some (47, true)), .call (.c (.fn (.func 17) [] [])) [(.t 48), (.t 49)]⟩,
           ⟨(some 51), none, .pick (.t 47) (.t 50) (.c (.bool false))⟩,
           ⟨(some 52), none, .mov (.t 51)⟩,
           ⟨(some 53), (some (52, true)), .mov (.t 4)⟩,
           ⟨(some 54), (some (52, true)), .bin .eql .no (.t 53) (.c (.int .i64 0))⟩,
           ⟨(some 55), none, .pick (.t 52) (.t 54) (.c (.bool false))⟩,
           ⟨(some 56), none, .mov (.t 55)⟩,
           ⟨(some 57), (some (56, true)), .mov (.t 5)⟩,
           ⟨(some 58), (some (56, true)), .bin .eql .no (.t 57) (.c (.int .i64 5))⟩,
           ⟨(some 59), none, .pick (.t 56) (.t 58) (.c (.bool false))⟩,
           ⟨(some 60), none, .mov (.t 59)⟩,
           ⟨(some 61), (some (60, true)), .mov (.t 6)⟩,
           ⟨(some 62), (some (60, true)), .bin .eql .no (.t 61) (.c (.int .i64 0))⟩,
           ⟨(some 63), none, .pick (.t 60) (.t 62) (.c (.bool false))⟩,
           ⟨(some 64), none, .mov (.t 63)⟩,
           ⟨(some 65), (some (64, true)), .mov (.t 7)⟩,
           ⟨(some 66), (some (64, true)), .buildS [(.int .i64 0)] 1 1 [(0, (.c (.int .i64 2)))]⟩,
           ⟨(some 67), (some (64, true)), .call (.c (.fn (.func 17) [] [])) [(.t 65), (.t 66)]⟩,
           ⟨(some 68), none, .pick (.t 64) (.t 67) (.c (.bool false))⟩,
           ⟨(some 69), none, .mov (.t 68)⟩,
           ⟨(some 70), (some (69, true)), .mov (.t 8)⟩,
           ⟨(some 71), (some (69, true)), .bin .eql .no (.t 70) (.c (.int .i64 0))⟩,
           ⟨(some 72), none, .pick (.t 69) (.t 71) (.c (.bool false))⟩,
           ⟨(some 73), none, .mov (.t 72)⟩,
           ⟨(some 74), (some (73, true)), .mov (.t 9)⟩,
           ⟨(some 75), (some (73, true)), .bin .eql .no (.t 74) (.c (.int .i64 2))⟩,
           ⟨(some 76), none, .pick (.t 73) (.t 75) (.c (.bool false))⟩,
           ⟨(some 77), none, .mov (.t 76)⟩,
           ⟨(some 78), (some (77, true)), .mov (.t 10)⟩,
           ⟨(some 79), (some (77, true)), .bin .eql .no (.t 78) (.c (.int .i64 0))⟩,
           ⟨(some 80), none, .pick (.t 77) (.t 79) (.c (.bool false))⟩,
           ⟨(some 81), none, .mov (.t 80)⟩,
           ⟨(some 82), (some (81, true)), .mov (.t 11)⟩,
           ⟨(some 83), (some (81, true)), .not (.t 82)⟩,
           ⟨(some 84), none, .pick (.t 81) (.t 83) (.c (.bool false))⟩,
           ⟨(some 85), none, .mov (.t 84)⟩,
           ⟨(some 86), (some (85, true)), .mov (.t 12)⟩,
           ⟨(some 87), (some (85, true)), .bin .eql .no (.t 86) (.c (.int .i64 0))⟩,
           ⟨(some 88), none, .pick (.t 85) (.t 87) (.c (.bool false))⟩,
           ⟨(some 0), none, .mov (.t 88)⟩] [0])
         .ret)))))))),
 [.tmp 0]⟩

/-- bellpull/bellpullref01.Same -/
noncomputable def sf17 : SFun := ⟨[0, 1, 4], 15,
 (.seq
  (.ops [
    ⟨(some 4), none, .mov (.c (.bool false))⟩] [4])
  (.seq
   (.ops [
     ⟨(some 5), none, .mov (.t 0)⟩,
     ⟨(some 6), none, .mov (.t 1)⟩,
     ⟨(some 7), none, .call (.c (.fn (.func 38) [] [])) [(.t 5), (.t 6)]⟩,
     ⟨(some 8), none, .not (.t 7)⟩,
     ⟨(some 9), none, .mov (.t 8)⟩,
     ⟨(some 10), (some (9, true)), .mov (.t 1)⟩,
     ⟨(some 11), (some (9, true)), .mov (.t 0)⟩,
     ⟨(some 12), (some (9, true)), .call (.c (.fn (.func 38) [] [])) [(.t 10), (.t 11)]⟩,
     ⟨(some 13), (some (9, true)), .not (.t 12)⟩,
     ⟨(some 14), none, .pick (.t 9) (.t 13) (.c (.bool false))⟩,
     ⟨(some 4), none, .mov (.t 14)⟩] [4])
   .ret)),
 [.tmp 4]⟩

/-- bellpull/bellpullref02.Runs -/
noncomputable def sf18 : SFun := ⟨[0, 2, 3, 4, 9, 25], 38,
 (.seq
  (.ops [
    ⟨(some 2), none, .mov (.c .nilsl)⟩] [2])
  (.seq
   (.ops [
     ⟨(some 5), none, .buildS [(.int .i64 0)] 0 1 []⟩,
     ⟨(some 3), none, .mov (.t 5)⟩] [3])
   (.seq
    (.seq
     (.ops [
       ⟨(some 4), none, .mov (.c (.int .i64 0))⟩] [4])
     (.block 0
      (.loop
       (.seq
        (.seq
         (.ops [
           ⟨(some 6), none, .mov (.t 4)⟩,
           ⟨(some 7), none, .mov (.t 0)⟩,
           ⟨(some 8), none, .lenS (.t 7)⟩,
           ⟨(some 9), none, .bin .lss .no (.t 6) (.t 8)⟩] [9])
         (.cond (.t 9)
          .skip
          (.exit 0)))
        (.seq
         (.block 1
          (.seq
           (.ops [
             ⟨(some 12), none, .mov (.t 4)⟩,
             ⟨(some 13), none, .bin .gtr .no (.t 12) (.c (.int .i64 0))⟩,
             ⟨(some 14), none, .mov (.t 13)⟩,
             ⟨(some 15), (some (14, true)), .mov (.t 0)⟩,
             ⟨(some 16), (some (14, true)), .mov (.t 4)⟩,
             ⟨(some 17), (some (14, true)), .ixS 1 (.t 15) (.t 16)⟩,
             ⟨(some 18), (some (14, true)), .load none (.t 17)⟩,
             ⟨(some 19), (some (14, true)), .mov (.t 0)⟩,
             ⟨(some 20), (some (14, true)), .mov (.t 4)⟩,
             ⟨(some 21), (some (14, true)), .bin .sub .no (.t 20) (.c (.int .i64 1))⟩,
             ⟨(some 22), (some (14, true)), .ixS 1 (.t 19) (.t 21)⟩,
             ⟨(some 23), (some (14, true)), .load none (.t 22)⟩,
             ⟨(some 24), (some (14, true)), .bin .eql .no (.t 18) (.t 23)⟩,
             ⟨(some 25), none, .pick (.t 14) (.t 24) (.c (.bool false))⟩] [25])
           (.cond (.t 25)
            (.ops [
              ⟨(some 26), none, .mov (.t 3)⟩,
              ⟨(some 27), none, .mov (.t 3)⟩,
              ⟨(some 28), none, .lenS (.t 27)⟩,
              ⟨(some 29), none, .bin .sub .no (.t 28) (.c (.int .i64 1))⟩,
              ⟨(some 30), none, .ixS 1 (.t 26) (.t 29)⟩,
              ⟨(some 31), none, .load none (.t 30)⟩,
              ⟨(some 32), none, .bin .add .no (.t 31) (.c (.int .i64 1))⟩,
              ⟨(some 33), none, .ixS 1 (.t 26) (.t 29)⟩,
              ⟨none, none, .store 1 (.t 33) (.t 32)⟩] [])
            (.ops [
              ⟨(some 34), none, .mov (.t 3)⟩,
              ⟨(some 35), none, .buildS [(.int .i64 0)] 1 1 [(0, (.c (.int .i64 1)))]⟩,
              ⟨(some 36), none, .app true 1 (.t 34) (.t 35)⟩,
              ⟨(some 3), none, .mov (.t 36)⟩] [3]))))
         (.ops [
           ⟨(some 10), none, .mov (.t 4)⟩,
           ⟨(some 11), none, .bin .add .no (.t 10) (.c (.int .i64 1))⟩,
           ⟨(some 4), none, .mov (.t 11)⟩] [4]))))))
    (.seq
     (.ops [
       ⟨(some 37), none, .mov (.t 3)⟩,
       ⟨(some 2), none, .mov (.t 37)⟩] [2])
     .ret)))),
 [.tmp 2]⟩

/-- bellpull/echo.Kolakoski -/
noncomputable def sf19 : SFun := ⟨[0, 1, 2, 6, 7, 25], 30,
 (.seq
  (.ops [
    ⟨(some 6), none, .mov (.c .nilsl)⟩,
    ⟨(some 7), none, .mov (.c (.int .i64 0))⟩] [6, 7])
  (.seq
   (.seq
    (.ops [
      ⟨(some 8), none, .mov (.t 0)⟩,
      ⟨(some 9), none, .mov (.t 1)⟩,
      ⟨(some 10), none, .bin .eql .no (.t 8) (.t 9)⟩,
      ⟨(some 11), none, .mov (.t 10)⟩,
      ⟨(some 12), (some (11, false)), .mov (.t 0)⟩,
      ⟨(some 13), (some (11, false)), .call (.c (.fn (.func 39) [] [])) [(.t 12), (.c (.int .i64 1)), (.c (.int .i64 9))]⟩,
      ⟨(some 14), (some (11, false)), .not (.t 13)⟩,
      ⟨(some 15), none, .pick (.t 11) (.c (.bool true)) (.t 14)⟩,
      ⟨(some 16), none, .mov (.t 15)⟩,
      ⟨(some 17), (some (16, false)), .mov (.t 1)⟩,
      ⟨(some 18), (some (16, false)), .call (.c (.fn (.func 39) [] [])) [(.t 17), (.c (.int .i64 1)), (.c (.int .i64 9))]⟩,
      ⟨(some 19), (some (16, false)), .not (.t 18)⟩,
      ⟨(some 20), none, .pick (.t 16) (.c (.bool true)) (.t 19)⟩,
      ⟨(some 21), none, .mov (.t 20)⟩,
      ⟨(some 22), (some (21, false)), .mov (.t 2)⟩,
      ⟨(some 23), (some (21, false)), .call (.c (.fn (.func 39) [] [])) [(.t 22), (.c (.int .i64 0)), (.c (.int .i64 100000))]⟩,
      ⟨(some 24), (some (21, false)), .not (.t 23)⟩,
      ⟨(some 25), none, .pick (.t 21) (.c (.bool true)) (.t 24)⟩] [25])
    (.cond (.t 25)
     (.seq
      (.ops [
        ⟨(some 6), none, .mov (.c .nilsl)⟩,
        ⟨(some 7), none, .mov (.c (.int .i64 1))⟩] [6, 7])
      .ret)
     .skip))
   (.seq
    (.ops [
      ⟨(some 26), none, .mov (.t 0)⟩,
      ⟨(some 27), none, .mov (.t 1)⟩,
      ⟨(some 28), none, .mov (.t 2)⟩,
      ⟨(some 29), none, .call (.c (.fn (.func 40) [] [])) [(.t 26), (.t 27), (.t 28)]⟩,
      ⟨(some 6), none, .mov (.t 29)⟩,
      ⟨(some 7), none, .mov (.c (.int .i64 0))⟩] [6, 7])
    .ret))),
 [.tmp 6, .tmp 7]⟩

/-- bellpull/echo.Golomb -/
noncomputable def sf20 : SFun := ⟨[0, 2, 3, 6], 9,
 (.seq
  (.ops [
    ⟨(some 2), none, .mov (.c .nilsl)⟩,
    ⟨(some 3), none, .mov (.c (.int .i64 0))⟩] [2, 3])
  (.seq
   (.seq
    (.ops [
      ⟨(some 4), none, .mov (.t 0)⟩,
      ⟨(some 5), none, .call (.c (.fn (.func 39) [] [])) [(.t 4), (.c (.int .i64 0)), (.c (.int .i64 100000))]⟩,
      ⟨(some 6), none, .not (.t 5)⟩] [6])
    (.cond (.t 6)
     (.seq
      (.ops [
        ⟨(some 2), none, .mov (.c .nilsl)⟩,
        ⟨(some 3), none, .mov (.c (.int .i64 1))⟩] [2, 3])
      .ret)
     .skip))
   (.seq
    (.ops [
      ⟨(some 7), none, .mov (.t 0)⟩,
      ⟨(some 8), none, .call (.c (.fn (.func 41) [] [])) [(.t 7)]⟩,
      ⟨(some 2), none, .mov (.t 8)⟩,
      ⟨(some 3), none, .mov (.c (.int .i64 0))⟩] [2, 3])
    .ret))),
 [.tmp 2, .tmp 3]⟩

/-- bellpull/echo.Ones -/
noncomputable def sf21 : SFun := ⟨[0, 2, 3, 4, 6, 9, 11, 12, 13, 14, 18], 23,
 (.seq
  (.ops [
    ⟨(some 2), none, .mov (.c (.int .i64 0))⟩,
    ⟨(some 3), none, .mov (.c (.int .i64 0))⟩] [2, 3])
  (.seq
   (.seq
    (.ops [
      ⟨(some 7), none, .mov (.t 0)⟩,
      ⟨(some 8), none, .call (.c (.fn (.func 39) [] [])) [(.t 7), (.c (.int .i64 0)), (.c (.int .i64 100000))]⟩,
      ⟨(some 9), none, .not (.t 8)⟩] [9])
    (.cond (.t 9)
     (.seq
      (.ops [
        ⟨(some 2), none, .mov (.c (.int .i64 0))⟩,
        ⟨(some 3), none, .mov (.c (.int .i64 1))⟩] [2, 3])
      .ret)
     .skip))
   (.seq
    (.ops [
      ⟨(some 4), none, .mov (.c (.int .i64 0))⟩] [4])
    (.seq
     (.seq
      (.ops [
        ⟨(some 10), none, .mov (.t 0)⟩,
        ⟨(some 11), none, .call (.c (.fn (.func 40) [] [])) [(.c (.int .i64 1)), (.c (.int .i64 2)), (.t 10)]⟩,
        ⟨(some 12), none, .lenS (.t 11)⟩,
        ⟨(some 13), none, .mov (.c (.int .i64 0))⟩] [11, 12, 13])
      (.block 0
       (.loop
        (.seq
         (.ops [
           ⟨(some 14), none, .bin .lss .no (.t 13) (.t 12)⟩] [14])
         (.seq
          (.cond (.t 14)
           .skip
           (.exit 0))
          (.seq
           (.block 1
            (.seq
             (.ops [
               ⟨(some 15), none, .ixS 1 (.t 11) (.t 13)⟩,
               ⟨(some 16), none, .load none (.t 15)⟩,
               ⟨(some 6), none, .mov (.t 16)⟩] [6])
             (.seq
              (.ops [
                ⟨(some 17), none, .mov (.t 6)⟩,
                ⟨(some 18), none, .bin .eql .no (.t 17) (.c (.int .i64 1))⟩] [18])
              (.cond (.t 18)
               (.ops [
                 ⟨(some 19), none, .mov (.t 4)⟩,
                 ⟨(some 20), none, .bin .add .no (.t 19) (.c (.int .i64 1))⟩,
                 ⟨(some 4), none, .mov (.t 20)⟩] [4])
               .skip))))
           (.ops [
             ⟨(some 21), none, .bin .add .no (.t 13) (.c (.int .i64 1))⟩,
             ⟨(some 13), none, .mov (.t 21)⟩] [13])))))))
     (.seq
      (.ops [
        ⟨(some 22), none, .mov (.t 4)⟩,
        ⟨(some 2), none, .mov (.t 22)⟩,
        ⟨(some 3), none, .mov (.c (.int .i64 0))⟩] [2, 3])
      .ret))))),
 [.tmp 2, .tmp 3]⟩

/-- bellpull/bellpullref01.In -/
noncomputable def sf22 : SFun := ⟨[0, 1, 2, 6], 15,
 (.seq
  (.ops [
    ⟨(some 6), none, .mov (.c (.bool false))⟩] [6])
  (.seq
   (.ops [
     ⟨(some 7), none, .mov (.t 0)⟩,
     ⟨(some 8), none, .mov (.t 1)⟩,
     ⟨(some 9), none, .bin .geq .no (.t 7) (.t 8)⟩,
     ⟨(some 10), none, .mov (.t 9)⟩,
     ⟨(some 11), (some (10, true)), .mov (.t 0)⟩,
     ⟨(some 12), (some (10, true)), .mov (.t 2)⟩,
     ⟨(some 13), (some (10, true)), .bin .leq .no (.t 11) (.t 12)⟩,
     ⟨(some 14), none, .pick (.t 10) (.t 13) (.c (.bool false))⟩,
     ⟨(some 6), none, .mov (.t 14)⟩] [6])
   .ret)),
 [.tmp 6]⟩

/-- bellpull/bellpullref02.Kolakoski -/
noncomputable def sf23 : SFun := ⟨[0, 1, 2, 6, 7, 8, 9, 10, 15, 21, 32], 43,
 (.seq
  (.ops [
    ⟨(some 6), none, .mov (.c .nilsl)⟩] [6])
  (.seq
   (.ops [
     ⟨(some 11), none, .buildS [(.int .i64 0)] 0 1 []⟩,
     ⟨(some 7), none, .mov (.t 11)⟩] [7])
   (.seq
    (.seq
     (.ops [
       ⟨(some 8), none, .mov (.c (.int .i64 0))⟩] [8])
     (.block 0
      (.loop
       (.seq
        (.seq
         (.ops [
           ⟨(some 12), none, .mov (.t 7)⟩,
           ⟨(some 13), none, .lenS (.t 12)⟩,
           ⟨(some 14), none, .mov (.t 2)⟩,
           ⟨(some 15), none, .bin .lss .no (.t 13) (.t 14)⟩] [15])
         (.cond (.t 15)
          .skip
          (.exit 0)))
        (.seq
         (.block 1
          (.seq
           (.ops [
             ⟨(some 18), none, .mov (.t 0)⟩,
             ⟨(some 9), none, .mov (.t 18)⟩] [9])
           (.seq
            (.seq
             (.ops [
               ⟨(some 19), none, .mov (.t 8)⟩,
               ⟨(some 20), none, .bin .rem .no (.t 19) (.c (.int .i64 2))⟩,
               ⟨(some 21), none, .bin .eql .no (.t 20) (.c (.int .i64 1))⟩] [21])
             (.cond (.t 21)
              (.ops [
                ⟨(some 22), none, .mov (.t 1)⟩,
                ⟨(some 9), none, .mov (.t 22)⟩] [9])
              .skip))
            (.seq
             (.ops [
               ⟨(some 23), none, .mov (.t 7)⟩,
               ⟨(some 24), none, .mov (.t 9)⟩,
               ⟨(some 25), none, .buildS [(.int .i64 0)] 1 1 [(0, (.t 24))]⟩,
               ⟨(some 26), none, .app true 1 (.t 23) (.t 25)⟩,
               ⟨(some 7), none, .mov (.t 26)⟩] [7])
             (.seq
              (.ops [
                ⟨(some 10), none, .mov (.c (.int .i64 1))⟩] [10])
              (.block 2
               (.loop
                (.seq
                 (.seq
                  (.ops [
                    ⟨(some 27), none, .mov (.t 10)⟩,
                    ⟨(some 28), none, .mov (.t 7)⟩,
                    ⟨(some 29), none, .mov (.t 8)⟩,
                    ⟨(some 30), none, .ixS 1 (.t 28) (.t 29)⟩,
                    ⟨(some 31), none, .load none (.t 30)⟩,
                    ⟨(some 32), none, .bin .lss .no (.t 27) (.t 31)⟩] [32])
                  (.cond (.t 32)
                   .skip
                   (.exit 2)))
                 (.seq
                  (.block 3
                   (.ops [
                     ⟨(some 35), none, .mov (.t 7)⟩,
                     ⟨(some 36), none, .mov (.t 9)⟩,
                     ⟨(some 37), none, .buildS [(.int .i64 0)] 1 1 [(0, (.t 36))]⟩,
                     ⟨(some 38), none, .app true 1 (.t 35) (.t 37)⟩,
                     ⟨(some 7), none, .mov (.t 38)⟩] [7]))
                  (.ops [
                    ⟨(some 33), none, .mov (.t 10)⟩,
                    ⟨(some 34), none, .bin .add .no (.t 33) (.c (.int .i64 1))⟩,
                    ⟨(some 10), none, .mov (.t 34)⟩] [10]))))))))))
         (.ops [
           ⟨(some 16), none, .mov (.t 8)⟩,
           ⟨(some 17), none, .bin .add .no (.t 16) (.c (.int .i64 1))⟩,
           ⟨(some 8), none, .mov (.t 17)⟩] [8]))))))
    (.seq
     (.ops [
       ⟨(some 39), none, .mov (.t 7)⟩,
       ⟨(some 40), none, .mov (.t 2)⟩,
       ⟨(some 41), none, .mov (.t 2)⟩,
       ⟨(some 42), none, .slice3 1 (.t 39) none (.t 40) (.t 41)⟩,
       ⟨(some 6), none, .mov (.t 42)⟩] [6])
     .ret)))),
 [.tmp 6]⟩

/-- bellpull/bellpullref02.Golomb -/
noncomputable def sf24 : SFun := ⟨[0, 2, 3, 4, 5, 10, 19], 30,
 (.seq
  (.ops [
    ⟨(some 2), none, .mov (.c .nilsl)⟩] [2])
  (.seq
   (.ops [
     ⟨(some 6), none, .buildS [(.int .i64 0)] 3 1 [(0, (.c (.int .i64 1))), (1, (.c (.int .i64 2))), (2, (.c (.int .i64 2)))]⟩,
     ⟨(some 3), none, .mov (.t 6)⟩] [3])
   (.seq
    (.seq
     (.ops [
       ⟨(some 4), none, .mov (.c (.int .i64 3))⟩] [4])
     (.block 0
      (.loop
       (.seq
        (.seq
         (.ops [
           ⟨(some 7), none, .mov (.t 3)⟩,
           ⟨(some 8), none, .lenS (.t 7)⟩,
           ⟨(some 9), none, .mov (.t 0)⟩,
           ⟨(some 10), none, .bin .lss .no (.t 8) (.t 9)⟩] [10])
         (.cond (.t 10)
          .skip
          (.exit 0)))
        (.seq
         (.block 1
          (.seq
           (.ops [
             ⟨(some 5), none, .mov (.c (.int .i64 0))⟩] [5])
           (.block 2
            (.loop
             (.seq
              (.seq
               (.ops [
                 ⟨(some 13), none, .mov (.t 5)⟩,
                 ⟨(some 14), none, .mov (.t 3)⟩,
                 ⟨(some 15), none, .mov (.t 4)⟩,
                 ⟨(some 16), none, .bin .sub .no (.t 15) (.c (.int .i64 1))⟩,
                 ⟨(some 17), none, .ixS 1 (.t 14) (.t 16)⟩,
                 ⟨(some 18), none, .load none (.t 17)⟩,
                 ⟨(some 19), none, .bin .lss .no (.t 13) (.t 18)⟩] [19])
               (.cond (.t 19)
                .skip
                (.exit 2)))
              (.seq
               (.block 3
                (.ops [
                  ⟨(some 22), none, .mov (.t 3)⟩,
                  ⟨(some 23), none, .mov (.t 4)⟩,
                  ⟨(some 24), none, .buildS [(.int .i64 0)] 1 1 [(0, (.t 23))]⟩,
                  ⟨(some 25), none, .app true 1 (.t 22) (.t 24)⟩,
                  ⟨(some 3), none, .mov (.t 25)⟩] [3]))
               (.ops [
                 ⟨(some 20), none, .mov (.t 5)⟩,
                 ⟨(some 21), none, .bin .add .no (.t 20) (.c (.int .i64 1))⟩,
                 ⟨(some 5), none, .mov (.t 21)⟩] [5])))))))
         (.ops [
           ⟨(some 11), none, .mov (.t 4)⟩,
           ⟨(some 12), none, .bin .add .no (.t 11) (.c (.int .i64 1))⟩,
           ⟨(some 4), none, .mov (.t 12)⟩] [4]))))))
    (.seq
     (.ops [
       ⟨(some 26), none, .mov (.t 3)⟩,
       ⟨(some 27), none, .mov (.t 0)⟩,
       ⟨(some 28), none, .mov (.t 0)⟩,
       ⟨(some 29), none, .slice3 1 (.t 26) none (.t 27) (.t 28)⟩,
       ⟨(some 2), none, .mov (.t 29)⟩] [2])
     .ret)))),
 [.tmp 2]⟩

/-- bellpull/echo.Derivative -/
noncomputable def sf25 : SFun := ⟨[0, 2, 3, 4, 5, 6, 10, 18], 20,
 (.seq
  (.ops [
    ⟨(some 2), none, .mov (.c .nilsl)⟩,
    ⟨(some 3), none, .mov (.c (.int .i64 0))⟩] [2, 3])
  (.seq
   (.seq
    (.ops [
      ⟨(some 7), none, .mov (.t 0)⟩,
      ⟨(some 8), none, .call (.c (.fn (.func 36) [] [])) [(.t 7), (.c (.int .i64 200)), (.c (.int .i64 2))]⟩,
      ⟨(some 4), none, .mov (.t 8)⟩] [4])
    (.seq
     (.ops [
       ⟨(some 9), none, .mov (.t 4)⟩,
       ⟨(some 10), none, .bin .neq .no (.t 9) (.c (.int .i64 0))⟩] [10])
     (.cond (.t 10)
      (.seq
       (.ops [
         ⟨(some 11), none, .mov (.t 4)⟩,
         ⟨(some 2), none, .mov (.c .nilsl)⟩,
         ⟨(some 3), none, .mov (.t 11)⟩] [2, 3])
       .ret)
      .skip)))
   (.seq
    (.ops [
      ⟨(some 13), none, .mov (.t 0)⟩,
      ⟨(some 14), none, .call (.c (.fn (.func 42) [] [])) [(.t 13)]⟩,
      ⟨(some 12), none, .mov (.t 14)⟩,
      ⟨(some 15), none, .ext (.t 12) 0⟩,
      ⟨(some 16), none, .ext (.t 12) 1⟩,
      ⟨(some 5), none, .mov (.t 15)⟩,
      ⟨(some 6), none, .mov (.t 16)⟩] [5, 6])
    (.seq
     (.seq
      (.ops [
        ⟨(some 17), none, .mov (.t 6)⟩,
        ⟨(some 18), none, .not (.t 17)⟩] [18])
      (.cond (.t 18)
       (.seq
        (.ops [
          ⟨(some 2), none, .mov (.c .nilsl)⟩,
          ⟨(some 3), none, .mov (.c (.int .i64 5))⟩] [2, 3])
        .ret)
       .skip))
     (.seq
      (.ops [
        ⟨(some 19), none, .mov (.t 5)⟩,
        ⟨(some 2), none, .mov (.t 19)⟩,
        ⟨(some 3), none, .mov (.c (.int .i64 0))⟩] [2, 3])
      .ret))))),
 [.tmp 2, .tmp 3]⟩

/-- bellpull/echo.Smooth -/
noncomputable def sf26 : SFun := ⟨[0, 2, 3, 4, 6, 10], 18,
 (.seq
  (.ops [
    ⟨(some 2), none, .mov (.c (.bool false))⟩,
    ⟨(some 3), none, .mov (.c (.int .i64 0))⟩] [2, 3])
  (.seq
   (.seq
    (.ops [
      ⟨(some 7), none, .mov (.t 0)⟩,
      ⟨(some 8), none, .call (.c (.fn (.func 36) [] [])) [(.t 7), (.c (.int .i64 200)), (.c (.int .i64 2))]⟩,
      ⟨(some 4), none, .mov (.t 8)⟩] [4])
    (.seq
     (.ops [
       ⟨(some 9), none, .mov (.t 4)⟩,
       ⟨(some 10), none, .bin .neq .no (.t 9) (.c (.int .i64 0))⟩] [10])
     (.cond (.t 10)
      (.seq
       (.ops [
         ⟨(some 11), none, .mov (.t 4)⟩,
         ⟨(some 2), none, .mov (.c (.bool false))⟩,
         ⟨(some 3), none, .mov (.t 11)⟩] [2, 3])
       .ret)
      .skip)))
   (.seq
    (.ops [
      ⟨(some 13), none, .mov (.t 0)⟩,
      ⟨(some 14), none, .call (.c (.fn (.func 43) [] [])) [(.t 13)]⟩,
      ⟨(some 12), none, .mov (.t 14)⟩,
      ⟨(some 15), none, .ext (.t 12) 0⟩,
      ⟨(some 16), none, .ext (.t 12) 1⟩,
      ⟨(some 5), none, .mov (.t 15)⟩,
      ⟨(some 6), none, .mov (.t 16)⟩] [6])
    (.seq
     (.ops [
       ⟨(some 17), none, .mov (.t 6)⟩,
       ⟨(some 2), none, .mov (.t 17)⟩,
       ⟨(some 3), none, .mov (.c (.int .i64 0))⟩] [2, 3])
     .ret)))),
 [.tmp 2, .tmp 3]⟩

/-- bellpull/echo.Height -/
noncomputable def sf27 : SFun := ⟨[0, 2, 3, 4, 5, 6, 10, 18], 20,
 (.seq
  (.ops [
    ⟨(some 2), none, .mov (.c (.int .i64 0))⟩,
    ⟨(some 3), none, .mov (.c (.int .i64 0))⟩] [2, 3])
  (.seq
   (.seq
    (.ops [
      ⟨(some 7), none, .mov (.t 0)⟩,
      ⟨(some 8), none, .call (.c (.fn (.func 36) [] [])) [(.t 7), (.c (.int .i64 200)), (.c (.int .i64 2))]⟩,
      ⟨(some 4), none, .mov (.t 8)⟩] [4])
    (.seq
     (.ops [
       ⟨(some 9), none, .mov (.t 4)⟩,
       ⟨(some 10), none, .bin .neq .no (.t 9) (.c (.int .i64 0))⟩] [10])
     (.cond (.t 10)
      (.seq
       (.ops [
         ⟨(some 11), none, .mov (.t 4)⟩,
         ⟨(some 2), none, .mov (.c (.int .i64 0))⟩,
         ⟨(some 3), none, .mov (.t 11)⟩] [2, 3])
       .ret)
      .skip)))
   (.seq
    (.ops [
      ⟨(some 13), none, .mov (.t 0)⟩,
      ⟨(some 14), none, .call (.c (.fn (.func 43) [] [])) [(.t 13)]⟩,
      ⟨(some 12), none, .mov (.t 14)⟩,
      ⟨(some 15), none, .ext (.t 12) 0⟩,
      ⟨(some 16), none, .ext (.t 12) 1⟩,
      ⟨(some 5), none, .mov (.t 15)⟩,
      ⟨(some 6), none, .mov (.t 16)⟩] [5, 6])
    (.seq
     (.seq
      (.ops [
        ⟨(some 17), none, .mov (.t 6)⟩,
        ⟨(some 18), none, .not (.t 17)⟩] [18])
      (.cond (.t 18)
       (.seq
        (.ops [
          ⟨(some 2), none, .mov (.c (.int .i64 0))⟩,
          ⟨(some 3), none, .mov (.c (.int .i64 5))⟩] [2, 3])
        .ret)
       .skip))
     (.seq
      (.ops [
        ⟨(some 19), none, .mov (.t 5)⟩,
        ⟨(some 2), none, .mov (.t 19)⟩,
        ⟨(some 3), none, .mov (.c (.int .i64 0))⟩] [2, 3])
      .ret))))),
 [.tmp 2, .tmp 3]⟩

/-- bellpull/echo.Extend -/
noncomputable def sf28 : SFun := ⟨[0, 2, 3, 4, 8], 12,
 (.seq
  (.ops [
    ⟨(some 2), none, .mov (.c .nilsl)⟩,
    ⟨(some 3), none, .mov (.c (.int .i64 0))⟩] [2, 3])
  (.seq
   (.seq
    (.ops [
      ⟨(some 5), none, .mov (.t 0)⟩,
      ⟨(some 6), none, .call (.c (.fn (.func 36) [] [])) [(.t 5), (.c (.int .i64 199)), (.c (.int .i64 2))]⟩,
      ⟨(some 4), none, .mov (.t 6)⟩] [4])
    (.seq
     (.ops [
       ⟨(some 7), none, .mov (.t 4)⟩,
       ⟨(some 8), none, .bin .neq .no (.t 7) (.c (.int .i64 0))⟩] [8])
     (.cond (.t 8)
      (.seq
       (.ops [
         ⟨(some 9), none, .mov (.t 4)⟩,
         ⟨(some 2), none, .mov (.c .nilsl)⟩,
         ⟨(some 3), none, .mov (.t 9)⟩] [2, 3])
       .ret)
      .skip)))
   (.seq
    (.ops [
      ⟨(some 10), none, .mov (.t 0)⟩,
      ⟨(some 11), none, .call (.c (.fn (.func 44) [] [])) [(.t 10)]⟩,
      ⟨(some 2), none, .mov (.t 11)⟩,
      ⟨(some 3), none, .mov (.c (.int .i64 0))⟩] [2, 3])
    .ret))),
 [.tmp 2, .tmp 3]⟩

/-- bellpull/bellpullref02.Derivative -/
noncomputable def sf29 : SFun := ⟨[0, 2, 3, 4, 5, 6, 12, 19, 28, 42], 50,
 (.seq
  (.ops [
    ⟨(some 2), none, .mov (.c .nilsl)⟩,
    ⟨(some 3), none, .mov (.c (.bool false))⟩] [2, 3])
  (.seq
   (.ops [
     ⟨(some 7), none, .mov (.t 0)⟩,
     ⟨(some 8), none, .call (.c (.fn (.func 18) [] [])) [(.t 7)]⟩,
     ⟨(some 4), none, .mov (.t 8)⟩] [4])
   (.seq
    (.seq
     (.ops [
       ⟨(some 5), none, .mov (.c (.int .i64 0))⟩] [5])
     (.block 0
      (.loop
       (.seq
        (.seq
         (.ops [
           ⟨(some 9), none, .mov (.t 5)⟩,
           ⟨(some 10), none, .mov (.t 4)⟩,
           ⟨(some 11), none, .lenS (.t 10)⟩,
           ⟨(some 12), none, .bin .lss .no (.t 9) (.t 11)⟩] [12])
         (.cond (.t 12)
          .skip
          (.exit 0)))
        (.seq
         (.block 1
          (.seq
           (.ops [
             ⟨(some 15), none, .mov (.t 4)⟩,
             ⟨(some 16), none, .mov (.t 5)⟩,
             ⟨(some 17), none, .ixS 1 (.t 15) (.t 16)⟩,
             ⟨(some 18), none, .load none (.t 17)⟩,
             ⟨(some 19), none, .bin .gtr .no (.t 18) (.c (.int .i64 2))⟩] [19])
           (.cond (.t 19)
            (.seq
             (.ops [
               ⟨(some 2), none, .mov (.c .nilsl)⟩,
               ⟨(some 3), none, .mov (.c (.bool false))⟩] [2, 3])
             .ret)
            .skip)))
         (.ops [
           ⟨(some 13), none, .mov (.t 5)⟩,
           ⟨(some 14), none, .bin .add .no (.t 13) (.c (.int .i64 1))⟩,
           ⟨(some 5), none, .mov (.t 14)⟩] [5]))))))
    (.seq
     (.seq
      (.ops [
        ⟨(some 20), none, .mov (.t 4)⟩,
        ⟨(some 21), none, .lenS (.t 20)⟩,
        ⟨(some 22), none, .bin .gtr .no (.t 21) (.c (.int .i64 0))⟩,
        ⟨(some 23), none, .mov (.t 22)⟩,
        ⟨(some 24), (some (23, true)), .mov (.t 4)⟩,
        ⟨(some 25), (some (23, true)), .ixS 1 (.t 24) (.c (.int .i64 0))⟩,
        ⟨(some 26), (some (23, true)), .load none (.t 25)⟩,
        ⟨(some 27), (some (23, true)), .bin .eql .no (.t 26) (.c (.int .i64 1))⟩,
        ⟨(some 28), none, .pick (.t 23) (.t 27) (.c (.bool false))⟩] [28])
      (.cond (.t 28)
       (.ops [
         ⟨(some 29), none, .mov (.t 4)⟩,
         ⟨(some 30), none, .slice 1 (.t 29) (some (.c (.int .i64 1))) none⟩,
         ⟨(some 4), none, .mov (.t 30)⟩] [4])
       .skip))
     (.seq
      (.seq
       (.ops [
         ⟨(some 31), none, .mov (.t 4)⟩,
         ⟨(some 32), none, .lenS (.t 31)⟩,
         ⟨(some 6), none, .mov (.t 32)⟩] [6])
       (.seq
        (.ops [
          ⟨(some 33), none, .mov (.t 6)⟩,
          ⟨(some 34), none, .bin .gtr .no (.t 33) (.c (.int .i64 0))⟩,
          ⟨(some 35), none, .mov (.t 34)⟩,
          ⟨(some 36), (some (35, true)), .mov (.t 4)⟩,
          ⟨(some 37), (some (35, true)), .mov (.t 6)⟩,
          ⟨(some 38), (some (35, true)), .bin .sub .no (.t 37) (.c (.int .i64 1))⟩,
          ⟨(some 39), (some (35, true)), .ixS 1 (.t 36) (.t 38)⟩,
          ⟨(some 40), (some (35, true)), .load none (.t 39)⟩,
          ⟨(some 41), (some (35, true)), .bin .eql .no (.t 40) (.c (.int .i64 1))⟩,
          ⟨(some 42), none, .pick (.t 35) (.t 41) (.c (.bool false))⟩] [42])
        (.cond (.t 42)
         (.ops [
           ⟨(some 43), none, .mov (.t 4)⟩,
           ⟨(some 44), none, .mov (.t 6)⟩,
           ⟨(some 45), none, .bin .sub .no (.t 44) (.c (.int .i64 1))⟩,
           ⟨(some 46), none, .slice 1 (.t 43) none (some (.t 45))⟩,
           ⟨(some 4), none, .mov (.t 46)⟩] [4])
         .skip)))
      (.seq
       (.ops [
         ⟨(some 47), none, .buildS [(.int .i64 0)] 0 1 []⟩,
         ⟨(some 48), none, .mov (.t 4)⟩,
         ⟨(some 49), none, .app true 1 (.t 47) (.t 48)⟩,
         ⟨(some 2), none, .mov (.t 49)⟩,
         ⟨(some 3), none, .mov (.c (.bool true))⟩] [2, 3])
       .ret)))))),
 [.tmp 2, .tmp 3]⟩

/-- bellpull/bellpullref02.Height -/
noncomputable def sf30 : SFun := ⟨[0, 2, 3, 4, 5, 8, 15], 20,
 (.seq
  (.ops [
    ⟨(some 2), none, .mov (.c (.int .i64 0))⟩] [2])
  (.seq
   (.ops [
     ⟨(some 3), none, .mov (.c (.int .i64 0))⟩] [3])
   (.seq
    (.block 0
     (.loop
      (.seq
       (.seq
        (.ops [
          ⟨(some 6), none, .mov (.t 0)⟩,
          ⟨(some 7), none, .lenS (.t 6)⟩,
          ⟨(some 8), none, .bin .gtr .no (.t 7) (.c (.int .i64 0))⟩] [8])
        (.cond (.t 8)
         .skip
         (.exit 0)))
       (.block 1
        (.seq
         (.ops [
           ⟨(some 10), none, .mov (.t 0)⟩,
           ⟨(some 11), none, .call (.c (.fn (.func 29) [] [])) [(.t 10)]⟩,
           ⟨(some 9), none, .mov (.t 11)⟩,
           ⟨(some 12), none, .ext (.t 9) 0⟩,
           ⟨(some 13), none, .ext (.t 9) 1⟩,
           ⟨(some 4), none, .mov (.t 12)⟩,
           ⟨(some 5), none, .mov (.t 13)⟩] [4, 5])
         (.seq
          (.seq
           (.ops [
             ⟨(some 14), none, .mov (.t 5)⟩,
             ⟨(some 15), none, .not (.t 14)⟩] [15])
           (.cond (.t 15)
            (.seq
             (.ops [
               ⟨(some 2), none, .mov (.c (.int .i64 (-1)))⟩] [2])
             .ret)
            .skip))
          (.seq
           (.ops [
             ⟨(some 16), none, .mov (.t 4)⟩,
             ⟨(some 0), none, .mov (.t 16)⟩] [0])
           (.ops [
             ⟨(some 17), none, .mov (.t 3)⟩,
             ⟨(some 18), none, .bin .add .no (.t 17) (.c (.int .i64 1))⟩,
             ⟨(some 3), none, .mov (.t 18)⟩] [3]))))))))
    (.seq
     (.ops [
       ⟨(some 19), none, .mov (.t 3)⟩,
       ⟨(some 2), none, .mov (.t 19)⟩] [2])
     .ret)))),
 [.tmp 2]⟩

/-- bellpull/bellpulllaw02.two -/
noncomputable def sf31 : SFun := ⟨[0, 2, 3, 4], 18,
 (.seq
  (.ops [
    ⟨(some 2), none, .mov (.c (.int .i64 0))⟩,
    ⟨(some 3), none, .mov (.c (.int .i64 0))⟩] [2, 3])
  (.seq
   (.ops [
     ⟨(some 5), none, .mov (.t 0)⟩,
     ⟨(some 6), none, .conv .i64 (.t 5)⟩,
     ⟨(some 7), none, .bin .rem .no (.t 6) (.c (.int .i64 9))⟩,
     ⟨(some 8), none, .bin .add .no (.t 7) (.c (.int .i64 1))⟩,
     ⟨(some 4), none, .mov (.t 8)⟩] [4])
   (.seq
    (.ops [
      ⟨(some 9), none, .mov (.t 4)⟩,
      ⟨(some 10), none, .mov (.t 4)⟩,
      ⟨(some 11), none, .mov (.t 0)⟩,
      ⟨(some 12), none, .conv .i64 (.t 11)⟩,
      ⟨(some 13), none, .bin .quo .no (.t 12) (.c (.int .i64 9))⟩,
      ⟨(some 14), none, .bin .rem .no (.t 13) (.c (.int .i64 8))⟩,
      ⟨(some 15), none, .bin .add .no (.t 10) (.t 14)⟩,
      ⟨(some 16), none, .bin .rem .no (.t 15) (.c (.int .i64 9))⟩,
      ⟨(some 17), none, .bin .add .no (.t 16) (.c (.int .i64 1))⟩,
      ⟨(some 2), none, .mov (.t 9)⟩,
      ⟨(some 3), none, .mov (.t 17)⟩] [2, 3])
    .ret))),
 [.tmp 2, .tmp 3]⟩

/-- bellpull/bellpulllaw02.between -/
noncomputable def sf32 : SFun := ⟨[0, 1, 2, 6], 16,
 (.seq
  (.ops [
    ⟨(some 6), none, .mov (.c (.int .i64 0))⟩] [6])
  (.seq
   (.ops [
     ⟨(some 7), none, .mov (.t 1)⟩,
     ⟨(some 8), none, .mov (.t 0)⟩,
     ⟨(some 9), none, .conv .i64 (.t 8)⟩,
     ⟨(some 10), none, .mov (.t 2)⟩,
     ⟨(some 11), none, .mov (.t 1)⟩,
     ⟨(some 12), none, .bin .sub .no (.t 10) (.t 11)⟩,
     ⟨(some 13), none, .bin .add .no (.t 12) (.c (.int .i64 1))⟩,
     ⟨(some 14), none, .bin .rem .no (.t 9) (.t 13)⟩,
     ⟨(some 15), none, .bin .add .no (.t 7) (.t 14)⟩,
     ⟨(some 6), none, .mov (.t 15)⟩] [6])
   .ret)),
 [.tmp 6]⟩

/-- bellpull/bellpulllaw02.smooth -/
noncomputable def sf33 : SFun := ⟨[0, 1, 4, 5, 6, 7, 8, 18, 36], 46,
 (.seq
  (.ops [
    ⟨(some 4), none, .mov (.c .nilsl)⟩] [4])
  (.seq
   (.ops [
     ⟨(some 9), none, .buildS [(.int .i64 0)] 0 1 []⟩,
     ⟨(some 5), none, .mov (.t 9)⟩] [5])
   (.seq
    (.seq
     (.ops [
       ⟨(some 6), none, .mov (.c (.int .i64 0))⟩] [6])
     (.block 0
      (.loop
       (.seq
        (.seq
         (.ops [
           ⟨(some 10), none, .mov (.t 6)⟩,
           ⟨(some 11), none, .mov (.t 0)⟩,
           ⟨(some 12), none, .lenS (.t 11)⟩,
           ⟨(some 13), none, .bin .lss .no (.t 10) (.t 12)⟩,
           ⟨(some 14), none, .mov (.t 13)⟩,
           ⟨(some 15), (some (14, true)), .mov (.t 6)⟩,
           ⟨(some 16), (some (14, true)), .mov (.t 1)⟩,
           ⟨(some 17), (some (14, true)), .bin .lss .no (.t 15) (.t 16)⟩,
           ⟨(some 18), none, .pick (.t 14) (.t 17) (.c (.bool false))⟩] [18])
         (.cond (.t 18)
          .skip
          (.exit 0)))
        (.seq
         (.block 1
          (.seq
           (.ops [
             ⟨(some 21), none, .mov (.t 0)⟩,
             ⟨(some 22), none, .mov (.t 6)⟩,
             ⟨(some 23), none, .ixS 1 (.t 21) (.t 22)⟩,
             ⟨(some 24), none, .load none (.t 23)⟩,
             ⟨(some 25), none, .conv .i64 (.t 24)⟩,
             ⟨(some 26), none, .bin .rem .no (.t 25) (.c (.int .i64 2))⟩,
             ⟨(some 27), none, .bin .add .no (.t 26) (.c (.int .i64 1))⟩,
             ⟨(some 7), none, .mov (.t 27)⟩] [7])
           (.seq
            (.ops [
              ⟨(some 28), none, .buildS [(.int .i64 0)] 0 1 []⟩,
              ⟨(some 29), none, .mov (.t 5)⟩,
              ⟨(some 30), none, .app true 1 (.t 28) (.t 29)⟩,
              ⟨(some 31), none, .mov (.t 7)⟩,
              ⟨(some 32), none, .buildS [(.int .i64 0)] 1 1 [(0, (.t 31))]⟩,
              ⟨(some 33), none, .app true 1 (.t 30) (.t 32)⟩,
              ⟨(some 8), none, .mov (.t 33)⟩] [8])
            (.seq
             (.ops [
               ⟨(some 34), none, .mov (.t 8)⟩,
               ⟨(some 35), none, .call (.c (.fn (.func 30) [] [])) [(.t 34)]⟩,
               ⟨(some 36), none, .bin .geq .no (.t 35) (.c (.int .i64 0))⟩] [36])
             (.cond (.t 36)
              (.ops [
                ⟨(some 37), none, .mov (.t 8)⟩,
                ⟨(some 5), none, .mov (.t 37)⟩] [5])
              (.ops [
                ⟨(some 38), none, .buildS [(.int .i64 0)] 0 1 []⟩,
                ⟨(some 39), none, .mov (.t 5)⟩,
                ⟨(some 40), none, .app true 1 (.t 38) (.t 39)⟩,
                ⟨(some 41), none, .mov (.t 7)⟩,
                ⟨(some 42), none, .bin .sub .no (.c (.int .i64 3)) (.t 41)⟩,
                ⟨(some 43), none, .buildS [(.int .i64 0)] 1 1 [(0, (.t 42))]⟩,
                ⟨(some 44), none, .app true 1 (.t 40) (.t 43)⟩,
                ⟨(some 5), none, .mov (.t 44)⟩] [5]))))))
         (.ops [
           ⟨(some 19), none, .mov (.t 6)⟩,
           ⟨(some 20), none, .bin .add .no (.t 19) (.c (.int .i64 1))⟩,
           ⟨(some 6), none, .mov (.t 20)⟩] [6]))))))
    (.seq
     (.ops [
       ⟨(some 45), none, .mov (.t 5)⟩,
       ⟨(some 4), none, .mov (.t 45)⟩] [4])
     .ret)))),
 [.tmp 4]⟩

/-- bellpull/bellpullref02.Turned -/
noncomputable def sf34 : SFun := ⟨[0, 2, 3, 4, 5, 6, 12], 36,
 (.seq
  (.ops [
    ⟨(some 2), none, .mov (.c .nilsl)⟩,
    ⟨(some 3), none, .mov (.c .nilsl)⟩] [2, 3])
  (.seq
   (.ops [
     ⟨(some 7), none, .buildS [(.int .i64 0)] 0 1 []⟩,
     ⟨(some 8), none, .buildS [(.int .i64 0)] 0 1 []⟩,
     ⟨(some 4), none, .mov (.t 7)⟩,
     ⟨(some 5), none, .mov (.t 8)⟩] [4, 5])
   (.seq
    (.seq
     (.ops [
       ⟨(some 6), none, .mov (.c (.int .i64 0))⟩] [6])
     (.block 0
      (.loop
       (.seq
        (.seq
         (.ops [
           ⟨(some 9), none, .mov (.t 6)⟩,
           ⟨(some 10), none, .mov (.t 0)⟩,
           ⟨(some 11), none, .lenS (.t 10)⟩,
           ⟨(some 12), none, .bin .lss .no (.t 9) (.t 11)⟩] [12])
         (.cond (.t 12)
          .skip
          (.exit 0)))
        (.seq
         (.block 1
          (.seq
           (.ops [
             ⟨(some 15), none, .mov (.t 4)⟩,
             ⟨(some 16), none, .mov (.t 0)⟩,
             ⟨(some 17), none, .mov (.t 0)⟩,
             ⟨(some 18), none, .lenS (.t 17)⟩,
             ⟨(some 19), none, .bin .sub .no (.t 18) (.c (.int .i64 1))⟩,
             ⟨(some 20), none, .mov (.t 6)⟩,
             ⟨(some 21), none, .bin .sub .no (.t 19) (.t 20)⟩,
             ⟨(some 22), none, .ixS 1 (.t 16) (.t 21)⟩,
             ⟨(some 23), none, .load none (.t 22)⟩,
             ⟨(some 24), none, .buildS [(.int .i64 0)] 1 1 [(0, (.t 23))]⟩,
             ⟨(some 25), none, .app true 1 (.t 15) (.t 24)⟩,
             ⟨(some 4), none, .mov (.t 25)⟩] [4])
           (.ops [
             ⟨(some 26), none, .mov (.t 5)⟩,
             ⟨(some 27), none, .mov (.t 0)⟩,
             ⟨(some 28), none, .mov (.t 6)⟩,
             ⟨(some 29), none, .ixS 1 (.t 27) (.t 28)⟩,
             ⟨(some 30), none, .load none (.t 29)⟩,
             ⟨(some 31), none, .bin .sub .no (.c (.int .i64 3)) (.t 30)⟩,
             ⟨(some 32), none, .buildS [(.int .i64 0)] 1 1 [(0, (.t 31))]⟩,
             ⟨(some 33), none, .app true 1 (.t 26) (.t 32)⟩,
             ⟨(some 5), none, .mov (.t 33)⟩] [5])))
         (.ops [
           ⟨(some 13), none, .mov (.t 6)⟩,
           ⟨(some 14), none, .bin .add .no (.t 13) (.c (.int .i64 1))⟩,
           ⟨(some 6), none, .mov (.t 14)⟩] [6]))))))
    (.seq
     (.ops [
       ⟨(some 34), none, .mov (.t 4)⟩,
       ⟨(some 35), none, .mov (.t 5)⟩,
       ⟨(some 2), none, .mov (.t 34)⟩,
       ⟨(some 3), none, .mov (.t 35)⟩] [2, 3])
     .ret)))),
 [.tmp 2, .tmp 3]⟩

/-- bellpull/bellpullref01.Has -/
noncomputable def sf35 : SFun := ⟨[0, 1, 4, 5, 9, 17], 18,
 (.seq
  (.ops [
    ⟨(some 4), none, .mov (.c (.bool false))⟩] [4])
  (.seq
   (.seq
    (.ops [
      ⟨(some 5), none, .mov (.c (.int .i64 0))⟩] [5])
    (.block 0
     (.loop
      (.seq
       (.seq
        (.ops [
          ⟨(some 6), none, .mov (.t 5)⟩,
          ⟨(some 7), none, .mov (.t 0)⟩,
          ⟨(some 8), none, .lenS (.t 7)⟩,
          ⟨(some 9), none, .bin .lss .no (.t 6) (.t 8)⟩] [9])
        (.cond (.t 9)
         .skip
         (.exit 0)))
       (.seq
        (.block 1
         (.seq
          (.ops [
            ⟨(some 12), none, .mov (.t 0)⟩,
            ⟨(some 13), none, .mov (.t 5)⟩,
            ⟨(some 14), none, .ixS 1 (.t 12) (.t 13)⟩,
            ⟨(some 15), none, .load none (.t 14)⟩,
            ⟨(some 16), none, .mov (.t 1)⟩,
            ⟨(some 17), none, .bin .eql .no (.t 15) (.t 16)⟩] [17])
          (.cond (.t 17)
           (.seq
            (.ops [
              ⟨(some 4), none, .mov (.c (.bool true))⟩] [4])
            .ret)
           .skip)))
        (.ops [
          ⟨(some 10), none, .mov (.t 5)⟩,
          ⟨(some 11), none, .bin .add .no (.t 10) (.c (.int .i64 1))⟩,
          ⟨(some 5), none, .mov (.t 11)⟩] [5]))))))
   (.seq
    (.ops [
      ⟨(some 4), none, .mov (.c (.bool false))⟩] [4])
    .ret))),
 [.tmp 4]⟩

/-- bellpull/echo.checked -/
noncomputable def sf36 : SFun := ⟨[0, 1, 2, 6, 8, 12, 13, 14, 15, 16, 22], 24,
 (.seq
  (.ops [
    ⟨(some 6), none, .mov (.c (.int .i64 0))⟩] [6])
  (.seq
   (.seq
    (.ops [
      ⟨(some 9), none, .mov (.t 0)⟩,
      ⟨(some 10), none, .lenS (.t 9)⟩,
      ⟨(some 11), none, .mov (.t 1)⟩,
      ⟨(some 12), none, .bin .gtr .no (.t 10) (.t 11)⟩] [12])
    (.cond (.t 12)
     (.seq
      (.ops [
        ⟨(some 6), none, .mov (.c (.int .i64 3))⟩] [6])
      .ret)
     .skip))
   (.seq
    (.seq
     (.ops [
       ⟨(some 13), none, .mov (.t 0)⟩,
       ⟨(some 14), none, .lenS (.t 13)⟩,
       ⟨(some 15), none, .mov (.c (.int .i64 0))⟩] [13, 14, 15])
     (.block 0
      (.loop
       (.seq
        (.ops [
          ⟨(some 16), none, .bin .lss .no (.t 15) (.t 14)⟩] [16])
        (.seq
         (.cond (.t 16)
          .skip
          (.exit 0))
         (.seq
          (.block 1
           (.seq
            (.ops [
              ⟨(some 17), none, .ixS 1 (.t 13) (.t 15)⟩,
              ⟨(some 18), none, .load none (.t 17)⟩,
              ⟨(some 8), none, .mov (.t 18)⟩] [8])
            (.seq
             (.ops [
               ⟨(some 19), none, .mov (.t 8)⟩,
               ⟨(some 20), none, .mov (.t 2)⟩,
               ⟨(some 21), none, .call (.c (.fn (.func 39) [] [])) [(.t 19), (.c (.int .i64 1)), (.t 20)]⟩,
               ⟨(some 22), none, .not (.t 21)⟩] [22])
             (.cond (.t 22)
              (.seq
               (.ops [
                 ⟨(some 6), none, .mov (.c (.int .i64 2))⟩] [6])
               .ret)
              .skip))))
          (.ops [
            ⟨(some 23), none, .bin .add .no (.t 15) (.c (.int .i64 1))⟩,
            ⟨(some 15), none, .mov (.t 23)⟩] [15])))))))
    (.seq
     (.ops [
       ⟨(some 6), none, .mov (.c (.int .i64 0))⟩] [6])
     .ret)))),
 [.tmp 6]⟩

/-- bellpull/echo.lengths -/
noncomputable def sf37 : SFun := ⟨[0, 2, 3, 4, 5, 6, 7, 8, 9, 23], 37,
 (.seq
  (.ops [
    ⟨(some 2), none, .mov (.c .nilsl)⟩] [2])
  (.seq
   (.ops [
     ⟨(some 3), none, .mov (.c .nilsl)⟩] [3])
   (.seq
    (.seq
     (.ops [
       ⟨(some 6), none, .mov (.t 0)⟩,
       ⟨(some 7), none, .lenS (.t 6)⟩,
       ⟨(some 8), none, .mov (.c (.int .i64 0))⟩] [6, 7, 8])
     (.block 0
      (.loop
       (.seq
        (.ops [
          ⟨(some 9), none, .bin .lss .no (.t 8) (.t 7)⟩] [9])
        (.seq
         (.cond (.t 9)
          .skip
          (.exit 0))
         (.seq
          (.block 1
           (.seq
            (.ops [
              ⟨(some 10), none, .mov (.t 8)⟩,
              ⟨(some 11), none, .ixS 1 (.t 6) (.t 8)⟩,
              ⟨(some 12), none, .load none (.t 11)⟩,
              ⟨(some 4), none, .mov (.t 10)⟩,
              ⟨(some 5), none, .mov (.t 12)⟩] [4, 5])
            (.seq
             (.seq
              (.ops [
                ⟨(some 13), none, .mov (.t 4)⟩,
                ⟨(some 14), none, .bin .eql .no (.t 13) (.c (.int .i64 0))⟩,
                ⟨(some 15), none, .mov (.t 14)⟩,
                ⟨(some 16), (some (15, false)), .mov (.t 5)⟩,
                ⟨(some 17), (some (15, false)), .mov (.t 0)⟩,
                ⟨(some 18), (some (15, false)), .mov (.t 4)⟩,
                ⟨(some 19), (some (15, false)), .bin .sub .no (.t 18) (.c (.int .i64 1))⟩,
                ⟨(some 20), (some (15, false)), .ixS 1 (.t 17) (.t 19)⟩,
                ⟨(some 21), (some (15, false)), .load none (.t 20)⟩,
                ⟨(some 22), (some (15, false)), .bin .neq .no (.t 16) (.t 21)⟩,
                ⟨(some 23), none, .pick (.t 15) (.c (.bool true)) (.t 22)⟩] [23])
              (.cond (.t 23)
               (.ops [
                 ⟨(some 24), none, .mov (.t 3)⟩,
                 ⟨(some 25), none, .buildS [(.int .i64 0)] 1 1 [(0, (.c (.int .i64 0)))]⟩,
                 ⟨(some 26), none, .app true 1 (.t 24) (.t 25)⟩,
                 ⟨(some 3), none, .mov (.t 26)⟩] [3])
               .skip))
             (.ops [
               ⟨(some 27), none, .mov (.t 3)⟩,
               ⟨(some 28), none, .mov (.t 3)⟩,
               ⟨(some 29), none, .lenS (.t 28)⟩,
               ⟨(some 30), none, .bin .sub .no (.t 29) (.c (.int .i64 1))⟩,
               ⟨(some 31), none, .ixS 1 (.t 27) (.t 30)⟩,
               ⟨(some 32), none, .load none (.t 31)⟩,
               ⟨(some 33), none, .bin .add .no (.t 32) (.c (.int .i64 1))⟩,
               ⟨(some 34), none, .ixS 1 (.t 27) (.t 30)⟩,
               ⟨none, none, .store 1 (.t 34) (.t 33)⟩] []))))
          (.ops [
            ⟨(some 35), none, .bin .add .no (.t 8) (.c (.int .i64 1))⟩,
            ⟨(some 8), none, .mov (.t 35)⟩] [8])))))))
    (.seq
     (.ops [
       ⟨(some 36), none, .mov (.t 3)⟩,
       ⟨(some 2), none, .mov (.t 36)⟩] [2])
     .ret)))),
 [.tmp 2]⟩

/-- bellpull/bellpullref01.Before -/
noncomputable def sf38 : SFun := ⟨[0, 1, 4, 5, 15, 26], 41,
 (.seq
  (.ops [
    ⟨(some 4), none, .mov (.c (.bool false))⟩] [4])
  (.seq
   (.seq
    (.ops [
      ⟨(some 5), none, .mov (.c (.int .i64 0))⟩] [5])
    (.block 0
     (.loop
      (.seq
       (.seq
        (.ops [
          ⟨(some 6), none, .mov (.t 5)⟩,
          ⟨(some 7), none, .mov (.t 0)⟩,
          ⟨(some 8), none, .lenS (.t 7)⟩,
          ⟨(some 9), none, .bin .lss .no (.t 6) (.t 8)⟩,
          ⟨(some 10), none, .mov (.t 9)⟩,
          ⟨(some 11), (some (10, true)), .mov (.t 5)⟩,
          ⟨(some 12), (some (10, true)), .mov (.t 1)⟩,
          ⟨(some 13), (some (10, true)), .lenS (.t 12)⟩,
          ⟨(some 14), (some (10, true)), .bin .lss .no (.t 11) (.t 13)⟩,
          ⟨(some 15), none, .pick (.t 10) (.t 14) (.c (.bool false))⟩] [15])
        (.cond (.t 15)
         .skip
         (.exit 0)))
       (.seq
        (.block 1
         (.seq
          (.ops [
            ⟨(some 18), none, .mov (.t 0)⟩,
            ⟨(some 19), none, .mov (.t 5)⟩,
            ⟨(some 20), none, .ixS 1 (.t 18) (.t 19)⟩,
            ⟨(some 21), none, .load none (.t 20)⟩,
            ⟨(some 22), none, .mov (.t 1)⟩,
            ⟨(some 23), none, .mov (.t 5)⟩,
            ⟨(some 24), none, .ixS 1 (.t 22) (.t 23)⟩,
            ⟨(some 25), none, .load none (.t 24)⟩,
            ⟨(some 26), none, .bin .neq .no (.t 21) (.t 25)⟩] [26])
          (.cond (.t 26)
           (.seq
            (.ops [
              ⟨(some 27), none, .mov (.t 0)⟩,
              ⟨(some 28), none, .mov (.t 5)⟩,
              ⟨(some 29), none, .ixS 1 (.t 27) (.t 28)⟩,
              ⟨(some 30), none, .load none (.t 29)⟩,
              ⟨(some 31), none, .mov (.t 1)⟩,
              ⟨(some 32), none, .mov (.t 5)⟩,
              ⟨(some 33), none, .ixS 1 (.t 31) (.t 32)⟩,
              ⟨(some 34), none, .load none (.t 33)⟩,
              ⟨(some 35), none, .bin .lss .no (.t 30) (.t 34)⟩,
              ⟨(some 4), none, .mov (.t 35)⟩] [4])
            .ret)
           .skip)))
        (.ops [
          ⟨(some 16), none, .mov (.t 5)⟩,
          ⟨(some 17), none, .bin .add .no (.t 16) (.c (.int .i64 1))⟩,
          ⟨(some 5), none, .mov (.t 17)⟩] [5]))))))
   (.seq
    (.ops [
      ⟨(some 36), none, .mov (.t 0)⟩,
      ⟨(some 37), none, .lenS (.t 36)⟩,
      ⟨(some 38), none, .mov (.t 1)⟩,
      ⟨(some 39), none, .lenS (.t 38)⟩,
      ⟨(some 40), none, .bin .lss .no (.t 37) (.t 39)⟩,
      ⟨(some 4), none, .mov (.t 40)⟩] [4])
    .ret))),
 [.tmp 4]⟩

/-- bellpull/echo.within -/
noncomputable def sf39 : SFun := ⟨[0, 1, 2, 6], 15,
 (.seq
  (.ops [
    ⟨(some 6), none, .mov (.c (.bool false))⟩] [6])
  (.seq
   (.ops [
     ⟨(some 7), none, .mov (.t 1)⟩,
     ⟨(some 8), none, .mov (.t 0)⟩,
     ⟨(some 9), none, .bin .leq .no (.t 7) (.t 8)⟩,
     ⟨(some 10), none, .mov (.t 9)⟩,
     ⟨(some 11), (some (10, true)), .mov (.t 0)⟩,
     ⟨(some 12), (some (10, true)), .mov (.t 2)⟩,
     ⟨(some 13), (some (10, true)), .bin .leq .no (.t 11) (.t 12)⟩,
     ⟨(some 14), none, .pick (.t 10) (.t 13) (.c (.bool false))⟩,
     ⟨(some 6), none, .mov (.t 14)⟩] [6])
   .ret)),
 [.tmp 6]⟩

/-- bellpull/echo.kolakoski -/
noncomputable def sf40 : SFun := ⟨[0, 1, 2, 6, 7, 8, 9, 10, 11, 20, 27, 32, 33, 34], 45,
 (.seq
  (.ops [
    ⟨(some 6), none, .mov (.c .nilsl)⟩] [6])
  (.seq
   (.ops [
     ⟨(some 12), none, .mov (.t 2)⟩,
     ⟨(some 13), none, .bin .add .no (.t 12) (.c (.int .i64 9))⟩,
     ⟨(some 14), none, .mks [(.int .i64 0)] 1 (.c (.int .i64 0)) (.t 13)⟩,
     ⟨(some 7), none, .mov (.t 14)⟩] [7])
   (.seq
    (.ops [
      ⟨(some 15), none, .mov (.t 0)⟩,
      ⟨(some 16), none, .mov (.t 1)⟩,
      ⟨(some 8), none, .mov (.t 15)⟩,
      ⟨(some 9), none, .mov (.t 16)⟩] [8, 9])
    (.seq
     (.seq
      (.ops [
        ⟨(some 10), none, .mov (.c (.int .i64 0))⟩] [10])
      (.block 0
       (.loop
        (.seq
         (.seq
          (.ops [
            ⟨(some 17), none, .mov (.t 7)⟩,
            ⟨(some 18), none, .lenS (.t 17)⟩,
            ⟨(some 19), none, .mov (.t 2)⟩,
            ⟨(some 20), none, .bin .lss .no (.t 18) (.t 19)⟩] [20])
          (.cond (.t 20)
           .skip
           (.exit 0)))
         (.seq
          (.block 1
           (.seq
            (.ops [
              ⟨(some 23), none, .mov (.t 8)⟩,
              ⟨(some 11), none, .mov (.t 23)⟩] [11])
            (.seq
             (.seq
              (.ops [
                ⟨(some 24), none, .mov (.t 10)⟩,
                ⟨(some 25), none, .mov (.t 7)⟩,
                ⟨(some 26), none, .lenS (.t 25)⟩,
                ⟨(some 27), none, .bin .lss .no (.t 24) (.t 26)⟩] [27])
              (.cond (.t 27)
               (.ops [
                 ⟨(some 28), none, .mov (.t 7)⟩,
                 ⟨(some 29), none, .mov (.t 10)⟩,
                 ⟨(some 30), none, .ixS 1 (.t 28) (.t 29)⟩,
                 ⟨(some 31), none, .load none (.t 30)⟩,
                 ⟨(some 11), none, .mov (.t 31)⟩] [11])
               .skip))
             (.seq
              (.seq
               (.ops [
                 ⟨(some 32), none, .mov (.t 11)⟩,
                 ⟨(some 33), none, .mov (.c (.int .i64 0))⟩] [32, 33])
               (.block 2
                (.loop
                 (.seq
                  (.ops [
                    ⟨(some 34), none, .bin .lss .no (.t 33) (.t 32)⟩] [34])
                  (.seq
                   (.cond (.t 34)
                    .skip
                    (.exit 2))
                   (.seq
                    (.block 3
                     (.ops [
                       ⟨(some 35), none, .mov (.t 7)⟩,
                       ⟨(some 36), none, .mov (.t 8)⟩,
                       ⟨(some 37), none, .buildS [(.int .i64 0)] 1 1 [(0, (.t 36))]⟩,
                       ⟨(some 38), none, .app true 1 (.t 35) (.t 37)⟩,
                       ⟨(some 7), none, .mov (.t 38)⟩] [7]))
                    (.ops [
                      ⟨(some 39), none, .bin .add .no (.t 33) (.c (.int .i64 1))⟩,
                      ⟨(some 33), none, .mov (.t 39)⟩] [33])))))))
              (.ops [
                ⟨(some 40), none, .mov (.t 9)⟩,
                ⟨(some 41), none, .mov (.t 8)⟩,
                ⟨(some 8), none, .mov (.t 40)⟩,
                ⟨(some 9), none, .mov (.t 41)⟩] [8, 9])))))
          (.ops [
            ⟨(some 21), none, .mov (.t 10)⟩,
            ⟨(some 22), none, .bin .add .no (.t 21) (.c (.int .i64 1))⟩,
            ⟨(some 10), none, .mov (.t 22)⟩] [10]))))))
     (.seq
      (.ops [
        ⟨(some 42), none, .mov (.t 7)⟩,
        ⟨(some 43), none, .mov (.t 2)⟩,
        ⟨(some 44), none, .slice 1 (.t 42) none (some (.t 43))⟩,
        ⟨(some 6), none, .mov (.t 44)⟩] [6])
      .ret))))),
 [.tmp 6]⟩

/-- bellpull/echo.golomb -/
noncomputable def sf41 : SFun := ⟨[0, 2, 3, 4, 5, 11, 15], 37,
 (.seq
  (.ops [
    ⟨(some 2), none, .mov (.c .nilsl)⟩] [2])
  (.seq
   (.ops [
     ⟨(some 6), none, .mov (.t 0)⟩,
     ⟨(some 7), none, .bin .add .no (.t 6) (.c (.int .i64 1))⟩,
     ⟨(some 8), none, .mks [(.int .i64 0)] 1 (.c (.int .i64 1)) (.t 7)⟩,
     ⟨(some 3), none, .mov (.t 8)⟩] [3])
   (.seq
    (.seq
     (.ops [
       ⟨(some 4), none, .mov (.c (.int .i64 1))⟩] [4])
     (.block 0
      (.loop
       (.seq
        (.seq
         (.ops [
           ⟨(some 9), none, .mov (.t 4)⟩,
           ⟨(some 10), none, .mov (.t 0)⟩,
           ⟨(some 11), none, .bin .leq .no (.t 9) (.t 10)⟩] [11])
         (.cond (.t 11)
          .skip
          (.exit 0)))
        (.seq
         (.block 1
          (.seq
           (.ops [
             ⟨(some 5), none, .mov (.c (.int .i64 1))⟩] [5])
           (.seq
            (.seq
             (.ops [
               ⟨(some 14), none, .mov (.t 4)⟩,
               ⟨(some 15), none, .bin .gtr .no (.t 14) (.c (.int .i64 1))⟩] [15])
             (.cond (.t 15)
              (.ops [
                ⟨(some 16), none, .mov (.t 5)⟩,
                ⟨(some 17), none, .mov (.t 3)⟩,
                ⟨(some 18), none, .mov (.t 4)⟩,
                ⟨(some 19), none, .mov (.t 3)⟩,
                ⟨(some 20), none, .mov (.t 3)⟩,
                ⟨(some 21), none, .mov (.t 4)⟩,
                ⟨(some 22), none, .bin .sub .no (.t 21) (.c (.int .i64 1))⟩,
                ⟨(some 23), none, .ixS 1 (.t 20) (.t 22)⟩,
                ⟨(some 24), none, .load none (.t 23)⟩,
                ⟨(some 25), none, .ixS 1 (.t 19) (.t 24)⟩,
                ⟨(some 26), none, .load none (.t 25)⟩,
                ⟨(some 27), none, .bin .sub .no (.t 18) (.t 26)⟩,
                ⟨(some 28), none, .ixS 1 (.t 17) (.t 27)⟩,
                ⟨(some 29), none, .load none (.t 28)⟩,
                ⟨(some 30), none, .bin .add .no (.t 16) (.t 29)⟩,
                ⟨(some 5), none, .mov (.t 30)⟩] [5])
              .skip))
            (.ops [
              ⟨(some 31), none, .mov (.t 3)⟩,
              ⟨(some 32), none, .mov (.t 5)⟩,
              ⟨(some 33), none, .buildS [(.int .i64 0)] 1 1 [(0, (.t 32))]⟩,
              ⟨(some 34), none, .app true 1 (.t 31) (.t 33)⟩,
              ⟨(some 3), none, .mov (.t 34)⟩] [3]))))
         (.ops [
           ⟨(some 12), none, .mov (.t 4)⟩,
           ⟨(some 13), none, .bin .add .no (.t 12) (.c (.int .i64 1))⟩,
           ⟨(some 4), none, .mov (.t 13)⟩] [4]))))))
    (.seq
     (.ops [
       ⟨(some 35), none, .mov (.t 3)⟩,
       ⟨(some 36), none, .slice 1 (.t 35) (some (.c (.int .i64 1))) none⟩,
       ⟨(some 2), none, .mov (.t 36)⟩] [2])
     .ret)))),
 [.tmp 2]⟩

/-- bellpull/echo.derived -/
noncomputable def sf42 : SFun := ⟨[0, 2, 3, 4, 6, 9, 10, 11, 12, 16], 20,
 (.seq
  (.ops [
    ⟨(some 2), none, .mov (.c .nilsl)⟩,
    ⟨(some 3), none, .mov (.c (.bool false))⟩] [2, 3])
  (.seq
   (.ops [
     ⟨(some 7), none, .mov (.t 0)⟩,
     ⟨(some 8), none, .call (.c (.fn (.func 37) [] [])) [(.t 7)]⟩,
     ⟨(some 4), none, .mov (.t 8)⟩] [4])
   (.seq
    (.seq
     (.ops [
       ⟨(some 9), none, .mov (.t 4)⟩,
       ⟨(some 10), none, .lenS (.t 9)⟩,
       ⟨(some 11), none, .mov (.c (.int .i64 0))⟩] [9, 10, 11])
     (.block 0
      (.loop
       (.seq
        (.ops [
          ⟨(some 12), none, .bin .lss .no (.t 11) (.t 10)⟩] [12])
        (.seq
         (.cond (.t 12)
          .skip
          (.exit 0))
         (.seq
          (.block 1
           (.seq
            (.ops [
              ⟨(some 13), none, .ixS 1 (.t 9) (.t 11)⟩,
              ⟨(some 14), none, .load none (.t 13)⟩,
              ⟨(some 6), none, .mov (.t 14)⟩] [6])
            (.seq
             (.ops [
               ⟨(some 15), none, .mov (.t 6)⟩,
               ⟨(some 16), none, .bin .gtr .no (.t 15) (.c (.int .i64 2))⟩] [16])
             (.cond (.t 16)
              (.seq
               (.ops [
                 ⟨(some 2), none, .mov (.c .nilsl)⟩,
                 ⟨(some 3), none, .mov (.c (.bool false))⟩] [2, 3])
               .ret)
              .skip))))
          (.ops [
            ⟨(some 17), none, .bin .add .no (.t 11) (.c (.int .i64 1))⟩,
            ⟨(some 11), none, .mov (.t 17)⟩] [11])))))))
    (.seq
     (.ops [
       ⟨(some 18), none, .mov (.t 4)⟩,
       ⟨(some 19), none, .call (.c (.fn (.func 45) [] [])) [(.t 18)]⟩,
       ⟨(some 2), none, .mov (.t 19)⟩,
       ⟨(some 3), none, .mov (.c (.bool true))⟩] [2, 3])
     .ret)))),
 [.tmp 2, .tmp 3]⟩

/-- bellpull/echo.height -/
noncomputable def sf43 : SFun := ⟨[0, 2, 3, 4, 5, 6, 9, 16], 21,
 (.seq
  (.ops [
    ⟨(some 2), none, .mov (.c (.int .i64 0))⟩,
    ⟨(some 3), none, .mov (.c (.bool false))⟩] [2, 3])
  (.seq
   (.ops [
     ⟨(some 4), none, .mov (.c (.int .i64 0))⟩] [4])
   (.seq
    (.block 0
     (.loop
      (.seq
       (.seq
        (.ops [
          ⟨(some 7), none, .mov (.t 0)⟩,
          ⟨(some 8), none, .lenS (.t 7)⟩,
          ⟨(some 9), none, .bin .gtr .no (.t 8) (.c (.int .i64 0))⟩] [9])
        (.cond (.t 9)
         .skip
         (.exit 0)))
       (.block 1
        (.seq
         (.ops [
           ⟨(some 11), none, .mov (.t 0)⟩,
           ⟨(some 12), none, .call (.c (.fn (.func 42) [] [])) [(.t 11)]⟩,
           ⟨(some 10), none, .mov (.t 12)⟩,
           ⟨(some 13), none, .ext (.t 10) 0⟩,
           ⟨(some 14), none, .ext (.t 10) 1⟩,
           ⟨(some 5), none, .mov (.t 13)⟩,
           ⟨(some 6), none, .mov (.t 14)⟩] [5, 6])
         (.seq
          (.seq
           (.ops [
             ⟨(some 15), none, .mov (.t 6)⟩,
             ⟨(some 16), none, .not (.t 15)⟩] [16])
           (.cond (.t 16)
            (.seq
             (.ops [
               ⟨(some 2), none, .mov (.c (.int .i64 0))⟩,
               ⟨(some 3), none, .mov (.c (.bool false))⟩] [2, 3])
             .ret)
            .skip))
          (.seq
           (.ops [
             ⟨(some 17), none, .mov (.t 5)⟩,
             ⟨(some 0), none, .mov (.t 17)⟩] [0])
           (.ops [
             ⟨(some 18), none, .mov (.t 4)⟩,
             ⟨(some 19), none, .bin .add .no (.t 18) (.c (.int .i64 1))⟩,
             ⟨(some 4), none, .mov (.t 19)⟩] [4]))))))))
    (.seq
     (.ops [
       ⟨(some 20), none, .mov (.t 4)⟩,
       ⟨(some 2), none, .mov (.t 20)⟩,
       ⟨(some 3), none, .mov (.c (.bool true))⟩] [2, 3])
     .ret)))),
 [.tmp 2, .tmp 3]⟩

/-- bellpull/echo.following -/
noncomputable def sf44 : SFun := ⟨[0, 2, 3, 4, 6, 8, 20], 26,
 (.seq
  (.ops [
    ⟨(some 2), none, .mov (.c .nilsl)⟩] [2])
  (.seq
   (.ops [
     ⟨(some 3), none, .mov (.c .nilsl)⟩] [3])
   (.seq
    (.seq
     (.ops [
       ⟨(some 4), none, .mov (.c (.int .i64 1))⟩] [4])
     (.block 0
      (.loop
       (.seq
        (.seq
         (.ops [
           ⟨(some 7), none, .mov (.t 4)⟩,
           ⟨(some 8), none, .bin .leq .no (.t 7) (.c (.int .i64 2))⟩] [8])
         (.cond (.t 8)
          .skip
          (.exit 0)))
        (.seq
         (.block 1
          (.seq
           (.ops [
             ⟨(some 12), none, .mov (.t 0)⟩,
             ⟨(some 13), none, .call (.c (.fn (.func 46) [] [])) [(.t 12)]⟩,
             ⟨(some 14), none, .mov (.t 4)⟩,
             ⟨(some 15), none, .buildS [(.int .i64 0)] 1 1 [(0, (.t 14))]⟩,
             ⟨(some 16), none, .app true 1 (.t 13) (.t 15)⟩,
             ⟨(some 17), none, .call (.c (.fn (.func 43) [] [])) [(.t 16)]⟩,
             ⟨(some 11), none, .mov (.t 17)⟩,
             ⟨(some 18), none, .ext (.t 11) 0⟩,
             ⟨(some 19), none, .ext (.t 11) 1⟩,
             ⟨(some 5), none, .mov (.t 18)⟩,
             ⟨(some 6), none, .mov (.t 19)⟩] [6])
           (.seq
            (.ops [
              ⟨(some 20), none, .mov (.t 6)⟩] [20])
            (.cond (.t 20)
             (.ops [
               ⟨(some 21), none, .mov (.t 3)⟩,
               ⟨(some 22), none, .mov (.t 4)⟩,
               ⟨(some 23), none, .buildS [(.int .i64 0)] 1 1 [(0, (.t 22))]⟩,
               ⟨(some 24), none, .app true 1 (.t 21) (.t 23)⟩,
               ⟨(some 3), none, .mov (.t 24)⟩] [3])
             .skip))))
         (.ops [
           ⟨(some 9), none, .mov (.t 4)⟩,
           ⟨(some 10), none, .bin .add .no (.t 9) (.c (.int .i64 1))⟩,
           ⟨(some 4), none, .mov (.t 10)⟩] [4]))))))
    (.seq
     (.ops [
       ⟨(some 25), none, .mov (.t 3)⟩,
       ⟨(some 2), none, .mov (.t 25)⟩] [2])
     .ret)))),
 [.tmp 2]⟩

/-- bellpull/echo.trimmed -/
noncomputable def sf45 : SFun := ⟨[0, 2, 3, 12, 26], 31,
 (.seq
  (.ops [
    ⟨(some 2), none, .mov (.c .nilsl)⟩] [2])
  (.seq
   (.seq
    (.ops [
      ⟨(some 4), none, .mov (.t 0)⟩,
      ⟨(some 5), none, .lenS (.t 4)⟩,
      ⟨(some 6), none, .bin .gtr .no (.t 5) (.c (.int .i64 0))⟩,
      ⟨(some 7), none, .mov (.t 6)⟩,
      ⟨(some 8), (some (7, true)), .mov (.t 0)⟩,
      ⟨(some 9), (some (7, true)), .ixS 1 (.t 8) (.c (.int .i64 0))⟩,
      ⟨(some 10), (some (7, true)), .load none (.t 9)⟩,
      ⟨(some 11), (some (7, true)), .bin .eql .no (.t 10) (.c (.int .i64 1))⟩,
      ⟨(some 12), none, .pick (.t 7) (.t 11) (.c (.bool false))⟩] [12])
    (.cond (.t 12)
     (.ops [
       ⟨(some 13), none, .mov (.t 0)⟩,
       ⟨(some 14), none, .slice 1 (.t 13) (some (.c (.int .i64 1))) none⟩,
       ⟨(some 0), none, .mov (.t 14)⟩] [0])
     .skip))
   (.seq
    (.seq
     (.ops [
       ⟨(some 15), none, .mov (.t 0)⟩,
       ⟨(some 16), none, .lenS (.t 15)⟩,
       ⟨(some 17), none, .bin .sub .no (.t 16) (.c (.int .i64 1))⟩,
       ⟨(some 3), none, .mov (.t 17)⟩] [3])
     (.seq
      (.ops [
        ⟨(some 18), none, .mov (.t 3)⟩,
        ⟨(some 19), none, .bin .geq .no (.t 18) (.c (.int .i64 0))⟩,
        ⟨(some 20), none, .mov (.t 19)⟩,
        ⟨(some 21), (some (20, true)), .mov (.t 0)⟩,
        ⟨(some 22), (some (20, true)), .mov (.t 3)⟩,
        ⟨(some 23), (some (20, true)), .ixS 1 (.t 21) (.t 22)⟩,
        ⟨(some 24), (some (20, true)), .load none (.t 23)⟩,
        ⟨(some 25), (some (20, true)), .bin .eql .no (.t 24) (.c (.int .i64 1))⟩,
        ⟨(some 26), none, .pick (.t 20) (.t 25) (.c (.bool false))⟩] [26])
      (.cond (.t 26)
       (.ops [
         ⟨(some 27), none, .mov (.t 0)⟩,
         ⟨(some 28), none, .mov (.t 3)⟩,
         ⟨(some 29), none, .slice 1 (.t 27) none (some (.t 28))⟩,
         ⟨(some 0), none, .mov (.t 29)⟩] [0])
       .skip)))
    (.seq
     (.ops [
       ⟨(some 30), none, .mov (.t 0)⟩,
       ⟨(some 2), none, .mov (.t 30)⟩] [2])
     .ret)))),
 [.tmp 2]⟩

/-- slices.Clone[[]int,int] -/
noncomputable def sf46 : SFun := ⟨[0, 2, 4], 8,
 (.seq
  (.ops [
    ⟨(some 2), none, .mov (.c .nilsl)⟩] [2])
  (.seq
   (.seq
    (.ops [
      ⟨(some 3), none, .mov (.t 0)⟩,
      ⟨(some 4), none, .bin .eql .slice (.t 3) (.c .nilsl)⟩] [4])
    (.cond (.t 4)
     (.seq
      (.ops [
        ⟨(some 2), none, .mov (.c .nilsl)⟩] [2])
      .ret)
     .skip))
   (.seq
    (.ops [
      ⟨(some 5), none, .buildS [(.int .i64 0)] 0 1 []⟩,
      ⟨(some 6), none, .mov (.t 0)⟩,
      ⟨(some 7), none, .app true 1 (.t 5) (.t 6)⟩,
      ⟨(some 2), none, .mov (.t 7)⟩] [2])
    .ret))),
 [.tmp 2]⟩


end Go.Proofs.Ytogfojkjocbahaa
