/- The program's functions, compiled, are these. -/
import Derived.Test.YtihadgkgogfhcaaSF
namespace Go.Proofs.Ytihadgkgogfhcaa
open Go Go.Abs
theorem c2 : compF Try.prog 2 = some sf2 := by kernel_rfl
theorem c14 : compF Try.prog 14 = some sf14 := by kernel_rfl
theorem c15 : compF Try.prog 15 = some sf15 := by kernel_rfl
theorem c16 : compF Try.prog 16 = some sf16 := by kernel_rfl
theorem c17 : compF Try.prog 17 = some sf17 := by kernel_rfl
theorem c18 : compF Try.prog 18 = some sf18 := by kernel_rfl
theorem c19 : compF Try.prog 19 = some sf19 := by kernel_rfl
theorem c20 : compF Try.prog 20 = some sf20 := by kernel_rfl
theorem c21 : compF Try.prog 21 = some sf21 := by kernel_rfl
theorem c22 : compF Try.prog 22 = some sf22 := by kernel_rfl
theorem c23 : compF Try.prog 23 = some sf23 := by kernel_rfl
theorem c24 : compF Try.prog 24 = some sf24 := by kernel_rfl
theorem c25 : compF Try.prog 25 = some sf25 := by kernel_rfl
theorem c26 : compF Try.prog 26 = some sf26 := by kernel_rfl
theorem c27 : compF Try.prog 27 = some sf27 := by kernel_rfl
theorem c28 : compF Try.prog 28 = some sf28 := by kernel_rfl
theorem c29 : compF Try.prog 29 = some sf29 := by kernel_rfl
theorem c30 : compF Try.prog 30 = some sf30 := by kernel_rfl
theorem c31 : compF Try.prog 31 = some sf31 := by kernel_rfl
theorem c32 : compF Try.prog 32 = some sf32 := by kernel_rfl
theorem c33 : compF Try.prog 33 = some sf33 := by kernel_rfl
theorem c34 : compF Try.prog 34 = some sf34 := by kernel_rfl
theorem c35 : compF Try.prog 35 = some sf35 := by kernel_rfl
theorem c36 : compF Try.prog 36 = some sf36 := by kernel_rfl
theorem c37 : compF Try.prog 37 = some sf37 := by kernel_rfl
theorem c38 : compF Try.prog 38 = some sf38 := by kernel_rfl
theorem c39 : compF Try.prog 39 = some sf39 := by kernel_rfl
theorem c40 : compF Try.prog 40 = some sf40 := by kernel_rfl
theorem c41 : compF Try.prog 41 = some sf41 := by kernel_rfl
theorem c42 : compF Try.prog 42 = some sf42 := by kernel_rfl
theorem c43 : compF Try.prog 43 = some sf43 := by kernel_rfl
theorem c44 : compF Try.prog 44 = some sf44 := by kernel_rfl
theorem c45 : compF Try.prog 45 = some sf45 := by kernel_rfl
theorem c46 : compF Try.prog 46 = some sf46 := by kernel_rfl
theorem c47 : compF Try.prog 47 = some sf47 := by kernel_rfl
theorem c48 : compF Try.prog 48 = some sf48 := by kernel_rfl
theorem c49 : compF Try.prog 49 = some sf49 := by kernel_rfl
theorem c50 : compF Try.prog 50 = some sf50 := by kernel_rfl
theorem c51 : compF Try.prog 51 = some sf51 := by kernel_rfl
theorem c52 : compF Try.prog 52 = some sf52 := by kernel_rfl
theorem c53 : compF Try.prog 53 = some sf53 := by kernel_rfl
theorem c54 : compF Try.prog 54 = some sf54 := by kernel_rfl
theorem c55 : compF Try.prog 55 = some sf55 := by kernel_rfl
theorem c56 : compF Try.prog 56 = some sf56 := by kernel_rfl
theorem c57 : compF Try.prog 57 = some sf57 := by kernel_rfl
theorem c58 : compF Try.prog 58 = some sf58 := by kernel_rfl
theorem c59 : compF Try.prog 59 = some sf59 := by kernel_rfl
theorem c60 : compF Try.prog 60 = some sf60 := by kernel_rfl
theorem c61 : compF Try.prog 61 = some sf61 := by kernel_rfl
theorem c62 : compF Try.prog 62 = some sf62 := by kernel_rfl
theorem c63 : compF Try.prog 63 = some sf63 := by kernel_rfl
theorem c64 : compF Try.prog 64 = some sf64 := by kernel_rfl
end Go.Proofs.Ytihadgkgogfhcaa
