/- The bodies of loops over functions, compiled. -/
import Derived.Test.YtelalpohbodolaaDoorRows
import Derived.Test.YtelalpohbodolaaDoorSA
import Derived.KernelRfl
set_option linter.unusedVariables false
set_option maxRecDepth 100000
namespace Go.Proofs.YtelalpohbodolaaDoor
open Go Go.Abs
/-- bellpull/weigh.Ways -/
theorem rp21_0 : (rfAt Tryd.prog 21 0).1 = #[18] := by kernel_rfl
theorem ra21_0 : compC Tryd.prog 8790527 27 (rfAt Tryd.prog 21 0).2.1 = some
 (.ops [
   ⟨(some 8), none, .mov (.t 18)⟩] [8]) := by kernel_rfl
theorem rb21_0 : compC Tryd.prog 8790527 27 (rfAt Tryd.prog 21 0).2.2 = some
 (.block 1
  (.seq
   (.draw [
     ⟨⟨(some 19), none, .mov (.t 8)⟩, false, false⟩,
     ⟨⟨(some 20), none, .load none (.t 2)⟩, true, false⟩,
     ⟨⟨(some 21), none, .call (.c (.fn (.func 49) [] [])) [(.t 19), (.t 20)]⟩, false, true⟩,
     ⟨⟨(some 22), none, .load none (.t 3)⟩, true, false⟩,
     ⟨⟨(some 23), none, .bin .eql .no (.t 21) (.t 22)⟩, false, false⟩] [0, 0, 3, 0, 15] [23])
   (.cond (.t 23)
    (.ops [
      ⟨(some 24), none, .load none (.t 7)⟩,
      ⟨(some 25), none, .bin .add .no (.t 24) (.c (.int .i64 1))⟩,
      ⟨none, none, .store 1 (.t 7) (.t 25)⟩] [])
    .skip))) := by kernel_rfl
/-- bellpull/weigh.areDistinct -/
theorem rp37_0 : (rfAt Tryd.prog 37 0).1 = #[8] := by kernel_rfl
theorem ra37_0 : compC Tryd.prog 415 24 (rfAt Tryd.prog 37 0).2.1 = some
 (.ops [
   ⟨(some 4), none, .mov (.t 8)⟩] [4]) := by kernel_rfl
theorem rb37_0 : compC Tryd.prog 415 24 (rfAt Tryd.prog 37 0).2.2 = some
 (.block 1
  (.draw [
    ⟨⟨(some 9), none, .load none (.t 3)⟩, true, false⟩,
    ⟨⟨(some 10), none, .mov (.t 4)⟩, false, false⟩,
    ⟨⟨(some 11), none, .load none (.t 1)⟩, true, false⟩,
    ⟨⟨(some 12), none, .call (.c (.fn (.func 49) [] [])) [(.t 10), (.t 11)]⟩, false, true⟩,
    ⟨⟨(some 13), none, .buildS [(.int .i64 0)] 1 1 [(0, (.t 12))]⟩, false, true⟩,
    ⟨⟨(some 14), none, .app true 1 (.t 9) (.t 13)⟩, false, true⟩,
    ⟨⟨none, none, .store 1 (.t 3) (.t 14)⟩, false, true⟩] [0, 0, 0, 6, 14, 31, 63] [])) := by kernel_rfl
/-- bellpull/weigh.first[bellpull/weigh.twin] -/
theorem rp38_0 : (rfAt Tryd.prog 38 0).1 = #[9] := by kernel_rfl
theorem ra38_0 : compC Tryd.prog 5115 15 (rfAt Tryd.prog 38 0).2.1 = some
 (.ops [
   ⟨(some 6), none, .new [(.int .u64 0), (.int .u64 0)]⟩,
   ⟨none, none, .store 2 (.t 6) (.t 9)⟩] [6]) := by kernel_rfl
theorem rb38_0 : compC Tryd.prog 5115 15 (rfAt Tryd.prog 38 0).2.2 = some
 (.block 1
  (.seq
   (.ops [
     ⟨(some 10), none, .load none (.t 3)⟩,
     ⟨(some 11), none, .load (some 2) (.t 6)⟩,
     ⟨(some 12), none, .call (.t 10) [(.t 11)]⟩] [12])
   (.cond (.t 12)
    (.seq
     (.ops [
       ⟨(some 13), none, .load (some 2) (.t 6)⟩,
       ⟨none, none, .store 2 (.t 4) (.t 13)⟩,
       ⟨none, none, .store 1 (.t 5) (.c (.bool true))⟩] [])
     .ret)
    .skip))) := by kernel_rfl
/-- bellpull/weigh.first[bellpull/weigh.subset] -/
theorem rp46_0 : (rfAt Tryd.prog 46 0).1 = #[9] := by kernel_rfl
theorem ra46_0 : compC Tryd.prog 5115 15 (rfAt Tryd.prog 46 0).2.1 = some
 (.ops [
   ⟨(some 6), none, .mov (.t 9)⟩] [6]) := by kernel_rfl
theorem rb46_0 : compC Tryd.prog 5115 15 (rfAt Tryd.prog 46 0).2.2 = some
 (.block 1
  (.seq
   (.ops [
     ⟨(some 10), none, .load none (.t 3)⟩,
     ⟨(some 11), none, .mov (.t 6)⟩,
     ⟨(some 12), none, .call (.t 10) [(.t 11)]⟩] [12])
   (.cond (.t 12)
    (.seq
     (.ops [
       ⟨(some 13), none, .mov (.t 6)⟩,
       ⟨none, none, .store 1 (.t 4) (.t 13)⟩,
       ⟨none, none, .store 1 (.t 5) (.c (.bool true))⟩] [])
     .ret)
    .skip))) := by kernel_rfl
/-- bellpull/weigh.first[bellpull/weigh.weighing] -/
theorem rp50_0 : (rfAt Tryd.prog 50 0).1 = #[9] := by kernel_rfl
theorem ra50_0 : compC Tryd.prog 5115 15 (rfAt Tryd.prog 50 0).2.1 = some
 (.ops [
   ⟨(some 6), none, .new [(.int .i64 0), (.int .i64 0), (.int .i64 0), (.int .i64 0), (.int .i64 0), (.int .i64 0), (.int .i64 0), (.int .i64 0), (.int .i64 0)]⟩,
   ⟨none, none, .store 9 (.t 6) (.t 9)⟩] [6]) := by kernel_rfl
theorem rb50_0 : compC Tryd.prog 5115 15 (rfAt Tryd.prog 50 0).2.2 = some
 (.block 1
  (.seq
   (.ops [
     ⟨(some 10), none, .load none (.t 3)⟩,
     ⟨(some 11), none, .load (some 9) (.t 6)⟩,
     ⟨(some 12), none, .call (.t 10) [(.t 11)]⟩] [12])
   (.cond (.t 12)
    (.seq
     (.ops [
       ⟨(some 13), none, .load (some 9) (.t 6)⟩,
       ⟨none, none, .store 9 (.t 4) (.t 13)⟩,
       ⟨none, none, .store 1 (.t 5) (.c (.bool true))⟩] [])
     .ret)
    .skip))) := by kernel_rfl
/-- bellpull/weigh.twins$1 -/
theorem rp60_0 : (rfAt Tryd.prog 60 0).1 = #[14] := by kernel_rfl
theorem ra60_0 : compC Tryd.prog 4536585781535487 54 (rfAt Tryd.prog 60 0).2.1 = some
 (.ops [
   ⟨(some 4), none, .mov (.t 14)⟩] [4]) := by kernel_rfl
theorem rb60_0 : compC Tryd.prog 4536585781535487 54 (rfAt Tryd.prog 60 0).2.2 = some
 (.block 1
  (.seq
   (.ops [
     ⟨(some 15), none, .mov (.t 4)⟩,
     ⟨(some 16), none, .load none (.t 1)⟩,
     ⟨(some 17), none, .call (.c (.fn (.func 49) [] [])) [(.t 15), (.t 16)]⟩,
     ⟨(some 5), none, .mov (.t 17)⟩] [5])
   (.draw [
     ⟨⟨(some 18), none, .load none (.t 3)⟩, true, false⟩,
     ⟨⟨(some 19), none, .mov (.t 5)⟩, false, false⟩,
     ⟨⟨(some 20), none, .load none (.t 3)⟩, true, false⟩,
     ⟨⟨(some 21), none, .mov (.t 5)⟩, false, false⟩,
     ⟨⟨(some 22), none, .lkp (.int .i64) .nilsl false (.t 20) (.t 21)⟩, true, false⟩,
     ⟨⟨(some 23), none, .mov (.t 4)⟩, false, false⟩,
     ⟨⟨(some 24), none, .buildS [(.int .u64 0)] 1 1 [(0, (.t 23))]⟩, false, true⟩,
     ⟨⟨(some 25), none, .app true 1 (.t 22) (.t 24)⟩, false, true⟩,
     ⟨⟨none, none, .mup (.int .i64) (.t 18) (.t 19) (.t 25)⟩, false, true⟩] [0, 0, 0, 0, 12, 0, 32, 124, 255] []))) := by kernel_rfl
/-- bellpull/weigh.twins$1 -/
theorem rp60_1 : (rfAt Tryd.prog 60 1).1 = #[29] := by kernel_rfl
theorem ra60_1 : compC Tryd.prog 4536585781535487 54 (rfAt Tryd.prog 60 1).2.1 = some
 (.ops [
   ⟨(some 6), none, .mov (.t 29)⟩] [6]) := by kernel_rfl
theorem rb60_1 : compC Tryd.prog 4536585781535487 54 (rfAt Tryd.prog 60 1).2.2 = some
 (.block 3
  (.seq
   (.ops [
     ⟨(some 30), none, .mov (.t 6)⟩,
     ⟨(some 31), none, .load none (.t 1)⟩,
     ⟨(some 32), none, .call (.c (.fn (.func 49) [] [])) [(.t 30), (.t 31)]⟩,
     ⟨(some 7), none, .mov (.t 32)⟩] [7])
   (.seq
    (.draw [
      ⟨⟨(some 33), none, .load none (.t 3)⟩, true, false⟩,
      ⟨⟨(some 34), none, .mov (.t 7)⟩, false, false⟩,
      ⟨⟨(some 35), none, .load none (.t 3)⟩, true, false⟩,
      ⟨⟨(some 36), none, .mov (.t 7)⟩, false, false⟩,
      ⟨⟨(some 37), none, .lkp (.int .i64) .nilsl false (.t 35) (.t 36)⟩, true, false⟩,
      ⟨⟨(some 38), none, .slice 1 (.t 37) (some (.c (.int .i64 1))) none⟩, false, false⟩,
      ⟨⟨none, none, .mup (.int .i64) (.t 33) (.t 34) (.t 38)⟩, false, true⟩] [0, 0, 0, 0, 12, 28, 63] [])
    (.seq
     (.ops [
       ⟨(some 39), none, .load none (.t 3)⟩,
       ⟨(some 40), none, .mov (.t 7)⟩,
       ⟨(some 41), none, .lkp (.int .i64) .nilsl false (.t 39) (.t 40)⟩,
       ⟨(some 42), none, .lenS (.t 41)⟩,
       ⟨(some 43), none, .mov (.c (.int .i64 0))⟩] [41, 42, 43])
     (.block 4
      (.loop
       (.seq
        (.ops [
          ⟨(some 44), none, .bin .lss .no (.t 43) (.t 42)⟩] [44])
        (.seq
         (.cond (.t 44)
          .skip
          (.exit 4))
         (.seq
          (.block 5
           (.seq
            (.ops [
              ⟨(some 45), none, .ixS 1 (.t 41) (.t 43)⟩,
              ⟨(some 46), none, .load none (.t 45)⟩,
              ⟨(some 9), none, .mov (.t 46)⟩] [9])
            (.seq
             (.ops [
               ⟨(some 47), none, .load none (.t 2)⟩,
               ⟨(some 48), none, .mov (.t 6)⟩,
               ⟨(some 49), none, .mov (.t 9)⟩,
               ⟨(some 50), none, .build [(.int .u64 0), (.int .u64 0)] [(0, 1), (1, 1)] [(0, (.t 48)), (1, (.t 49))]⟩,
               ⟨(some 51), none, .call (.t 47) [(.t 50)]⟩,
               ⟨(some 52), none, .not (.t 51)⟩] [52])
             (.cond (.t 52)
              .ret
              .skip))))
          (.ops [
            ⟨(some 53), none, .bin .add .no (.t 43) (.c (.int .i64 1))⟩,
            ⟨(some 43), none, .mov (.t 53)⟩] [43])))))))))) := by kernel_rfl
end Go.Proofs.YtelalpohbodolaaDoor
