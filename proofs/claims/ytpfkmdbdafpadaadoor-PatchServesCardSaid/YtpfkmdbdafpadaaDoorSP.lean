/- The functions that the examples reach. -/
import Derived.Test.YtpfkmdbdafpadaaDoorSN
set_option linter.unusedVariables false
set_option maxRecDepth 100000
namespace Go.Proofs.YtpfkmdbdafpadaaDoor
open Go Go.Abs
noncomputable def sfs : List (Nat × SFun) := ([(9, sf9), (10, sf10), (13, sf13), (15, sf15), (16, sf16), (20, sf20), (21, sf21), (22, sf22), (23, sf23), (24, sf24), (25, sf25), (26, sf26), (27, sf27), (30, sf30), (31, sf31), (32, sf32), (33, sf33), (34, sf34), (35, sf35), (36, sf36), (37, sf37), (38, sf38), (39, sf39), (40, sf40), (42, sf42), (43, sf43), (47, sf47), (48, sf48), (49, sf49), (50, sf50), (51, sf51), (52, sf52), (53, sf53), (54, sf54), (55, sf55), (56, sf56), (57, sf57), (58, sf58), (59, sf59), (60, sf60), (61, sf61), (62, sf62), (63, sf63), (64, sf64), (65, sf65), (67, sf67)] : List (Nat × SFun))
theorem sfs_ok : AllF Tryd.prog sfs := (allF_cons c9 (allF_cons c10 (allF_cons c13 (allF_cons c15 (allF_cons c16 (allF_cons c20 (allF_cons c21 (allF_cons c22 (allF_cons c23 (allF_cons c24 (allF_cons c25 (allF_cons c26 (allF_cons c27 (allF_cons c30 (allF_cons c31 (allF_cons c32 (allF_cons c33 (allF_cons c34 (allF_cons c35 (allF_cons c36 (allF_cons c37 (allF_cons c38 (allF_cons c39 (allF_cons c40 (allF_cons c42 (allF_cons c43 (allF_cons c47 (allF_cons c48 (allF_cons c49 (allF_cons c50 (allF_cons c51 (allF_cons c52 (allF_cons c53 (allF_cons c54 (allF_cons c55 (allF_cons c56 (allF_cons c57 (allF_cons c58 (allF_cons c59 (allF_cons c60 (allF_cons c61 (allF_cons c62 (allF_cons c63 (allF_cons c64 (allF_cons c65 (allF_cons c67 allF_nil))))))))))))))))))))))))))))))))))))))))))))))
end Go.Proofs.YtpfkmdbdafpadaaDoor
