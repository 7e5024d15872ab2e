/- The compiled functions in one table. -/
import Derived.Test.YtgpdimkgfhgffaaSG
import Derived.Test.YtgpdimkgfhgffaaSI
set_option maxRecDepth 100000

namespace Go.Proofs.Ytgpdimkgfhgffaa

open Go Go.Abs
noncomputable def sfs : Nat → Option SFun := lkSF [(2, sf2), (5, sf5), (6, sf6), (7, sf7), (8, sf8), (9, sf9), (10, sf10), (11, sf11), (12, sf12), (13, sf13), (14, sf14), (15, sf15), (16, sf16), (17, sf17), (18, sf18), (19, sf19), (20, sf20), (21, sf21), (22, sf22), (23, sf23), (24, sf24), (25, sf25), (26, sf26), (27, sf27), (28, sf28), (29, sf29), (30, sf30), (31, sf31), (32, sf32), (33, sf33), (34, sf34), (35, sf35), (36, sf36), (37, sf37), (38, sf38), (39, sf39), (40, sf40), (41, sf41), (42, sf42), (43, sf43), (44, sf44), (45, sf45), (46, sf46), (47, sf47), (48, sf48), (49, sf49), (50, sf50), (51, sf51)]
theorem sfs_ok : ∀ f sf, sfs f = some sf → compF Try.prog f = some sf :=
  lkSF_ok (allF_cons c2 (allF_cons c5 (allF_cons c6 (allF_cons c7 (allF_cons c8 (allF_cons c9 (allF_cons c10 (allF_cons c11 (allF_cons c12 (allF_cons c13 (allF_cons c14 (allF_cons c15 (allF_cons c16 (allF_cons c17 (allF_cons c18 (allF_cons c19 (allF_cons c20 (allF_cons c21 (allF_cons c22 (allF_cons c23 (allF_cons c24 (allF_cons c25 (allF_cons c26 (allF_cons c27 (allF_cons c28 (allF_cons c29 (allF_cons c30 (allF_cons c31 (allF_cons c32 (allF_cons c33 (allF_cons c34 (allF_cons c35 (allF_cons c36 (allF_cons c37 (allF_cons c38 (allF_cons c39 (allF_cons c40 (allF_cons c41 (allF_cons c42 (allF_cons c43 (allF_cons c44 (allF_cons c45 (allF_cons c46 (allF_cons c47 (allF_cons c48 (allF_cons c49 (allF_cons c50 (allF_cons c51 allF_nil))))))))))))))))))))))))))))))))))))))))))))))))
theorem mixed : Try.prog.follows .mixedOrders = true := by kernel_rfl

end Go.Proofs.Ytgpdimkgfhgffaa

