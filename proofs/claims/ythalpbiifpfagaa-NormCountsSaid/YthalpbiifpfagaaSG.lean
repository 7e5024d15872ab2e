/- The program's functions, compiled, are these. -/
import Derived.Test.YthalpbiifpfagaaSF

namespace Go.Proofs.Ythalpbiifpfagaa

open Go Go.Abs
theorem c2 : compF Try.prog 2 = some sf2 := by kernel_rfl
theorem c4 : compF Try.prog 4 = some sf4 := by kernel_rfl
theorem c5 : compF Try.prog 5 = some sf5 := by kernel_rfl
theorem c6 : compF Try.prog 6 = some sf6 := by kernel_rfl
theorem c7 : compF Try.prog 7 = some sf7 := by kernel_rfl
theorem c8 : compF Try.prog 8 = some sf8 := by kernel_rfl
theorem c9 : compF Try.prog 9 = some sf9 := by kernel_rfl
theorem c10 : compF Try.prog 10 = some sf10 := by kernel_rfl
theorem c11 : compF Try.prog 11 = some sf11 := by kernel_rfl
theorem c12 : compF Try.prog 12 = some sf12 := by kernel_rfl
theorem c13 : compF Try.prog 13 = some sf13 := by kernel_rfl
theorem c14 : compF Try.prog 14 = some sf14 := by kernel_rfl
theorem c15 : compF Try.prog 15 = some sf15 := by kernel_rfl
theorem c16 : compF Try.prog 16 = some sf16 := by kernel_rfl
theorem c17 : compF Try.prog 17 = some sf17 := by kernel_rfl
theorem c18 : compF Try.prog 18 = some sf18 := by kernel_rfl
theorem c19 : compF Try.prog 19 = some sf19 := by kernel_rfl
theorem c20 : compF Try.prog 20 = some sf20 := by kernel_rfl
theorem c21 : compF Try.prog 21 = some sf21 := by kernel_rfl
theorem c22 : compF Try.prog 22 = some sf22 := by kernel_rfl
theorem c23 : compF Try.prog 23 = some sf23 := by kernel_rfl
theorem c24 : compF Try.prog 24 = some sf24 := by kernel_rfl
theorem c25 : compF Try.prog 25 = some sf25 := by kernel_rfl
theorem c26 : compF Try.prog 26 = some sf26 := by kernel_rfl
theorem c27 : compF Try.prog 27 = some sf27 := by kernel_rfl
theorem c28 : compF Try.prog 28 = some sf28 := by kernel_rfl
theorem c29 : compF Try.prog 29 = some sf29 := by kernel_rfl
theorem c30 : compF Try.prog 30 = some sf30 := by kernel_rfl
theorem c31 : compF Try.prog 31 = some sf31 := by kernel_rfl
theorem c32 : compF Try.prog 32 = some sf32 := by kernel_rfl
theorem c33 : compF Try.prog 33 = some sf33 := by kernel_rfl
theorem c34 : compF Try.prog 34 = some sf34 := by kernel_rfl
theorem c35 : compF Try.prog 35 = some sf35 := by kernel_rfl
theorem c37 : compF Try.prog 37 = some sf37 := by kernel_rfl
theorem c38 : compF Try.prog 38 = some sf38 := by kernel_rfl
theorem c39 : compF Try.prog 39 = some sf39 := by kernel_rfl
theorem c40 : compF Try.prog 40 = some sf40 := by kernel_rfl
theorem c41 : compF Try.prog 41 = some sf41 := by kernel_rfl
theorem c43 : compF Try.prog 43 = some sf43 := by kernel_rfl
theorem c44 : compF Try.prog 44 = some sf44 := by kernel_rfl
theorem c45 : compF Try.prog 45 = some sf45 := by kernel_rfl
theorem c46 : compF Try.prog 46 = some sf46 := by kernel_rfl
theorem c47 : compF Try.prog 47 = some sf47 := by kernel_rfl
theorem c48 : compF Try.prog 48 = some sf48 := by kernel_rfl
theorem c49 : compF Try.prog 49 = some sf49 := by kernel_rfl

end Go.Proofs.Ythalpbiifpfagaa

