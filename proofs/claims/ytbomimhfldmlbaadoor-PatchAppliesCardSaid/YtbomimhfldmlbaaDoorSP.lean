/- The functions that the examples reach. -/
import Derived.Test.YtbomimhfldmlbaaDoorSN
set_option linter.unusedVariables false
set_option maxRecDepth 100000
namespace Go.Proofs.YtbomimhfldmlbaaDoor
open Go Go.Abs
noncomputable def sfs : List (Nat × SFun) := ([(19, sf19), (21, sf21), (26, sf26), (30, sf30), (34, sf34), (35, sf35), (36, sf36), (40, sf40), (51, sf51), (52, sf52), (55, sf55), (56, sf56), (57, sf57), (58, sf58), (62, sf62), (63, sf63), (64, sf64), (65, sf65), (67, sf67), (68, sf68), (69, sf69), (72, sf72), (73, sf73), (74, sf74), (77, sf77), (78, sf78), (79, sf79), (80, sf80), (83, sf83), (84, sf84), (86, sf86), (87, sf87), (88, sf88), (94, sf94), (95, sf95), (96, sf96), (97, sf97), (98, sf98), (99, sf99), (100, sf100), (101, sf101), (102, sf102), (103, sf103), (104, sf104), (105, sf105), (107, sf107)] : List (Nat × SFun))
theorem sfs_ok : AllF Tryd.prog sfs := (allF_cons c19 (allF_cons c21 (allF_cons c26 (allF_cons c30 (allF_cons c34 (allF_cons c35 (allF_cons c36 (allF_cons c40 (allF_cons c51 (allF_cons c52 (allF_cons c55 (allF_cons c56 (allF_cons c57 (allF_cons c58 (allF_cons c62 (allF_cons c63 (allF_cons c64 (allF_cons c65 (allF_cons c67 (allF_cons c68 (allF_cons c69 (allF_cons c72 (allF_cons c73 (allF_cons c74 (allF_cons c77 (allF_cons c78 (allF_cons c79 (allF_cons c80 (allF_cons c83 (allF_cons c84 (allF_cons c86 (allF_cons c87 (allF_cons c88 (allF_cons c94 (allF_cons c95 (allF_cons c96 (allF_cons c97 (allF_cons c98 (allF_cons c99 (allF_cons c100 (allF_cons c101 (allF_cons c102 (allF_cons c103 (allF_cons c104 (allF_cons c105 (allF_cons c107 allF_nil))))))))))))))))))))))))))))))))))))))))))))))
end Go.Proofs.YtbomimhfldmlbaaDoor
