/- How many permutations omega networks pass. -/
import Derived.Test.YtbomimhfldmlbaaDoorKF
import Derived.Test.YtbomimhfldmlbaaDoorKG
import Derived.Test.YtbomimhfldmlbaaDoorKH
import Derived.Test.YtbomimhfldmlbaaDoorKI
namespace Go.Pa
set_option maxRecDepth 100000
theorem omc1 : cnt 1 2 = 2 := by decide +kernel
theorem omc2 : cnt 2 24 = 16 := by decide +kernel
theorem omz : cnt 3 0 = 0 := rfl
theorem oma0 : cnt 3 2520 = 256 := cf_part om0 omz
theorem oma1 : cnt 3 5040 = 512 := cf_part om1 oma0
theorem oma2 : cnt 3 7560 = 832 := cf_part om2 oma1
theorem oma3 : cnt 3 10080 = 1024 := cf_part om3 oma2
theorem oma4 : cnt 3 12600 = 1280 := cf_part om4 oma3
theorem oma5 : cnt 3 15120 = 1536 := cf_part om5 oma4
theorem oma6 : cnt 3 17640 = 1856 := cf_part om6 oma5
theorem oma7 : cnt 3 20160 = 2048 := cf_part om7 oma6
theorem oma8 : cnt 3 22680 = 2240 := cf_part om8 oma7
theorem oma9 : cnt 3 25200 = 2560 := cf_part om9 oma8
theorem oma10 : cnt 3 27720 = 2816 := cf_part om10 oma9
theorem oma11 : cnt 3 30240 = 3072 := cf_part om11 oma10
theorem oma12 : cnt 3 32760 = 3264 := cf_part om12 oma11
theorem oma13 : cnt 3 35280 = 3584 := cf_part om13 oma12
theorem oma14 : cnt 3 37800 = 3840 := cf_part om14 oma13
theorem oma15 : cnt 3 40320 = 4096 := cf_part om15 oma14
end Go.Pa
