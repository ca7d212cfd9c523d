/-
  The laws of chapter 5 on plates and lists of plates.
-/
import Derived.Test.YtkhjbhkbknennaaN4
namespace Go.Proofs.Ytkhjbhkbknennaa
open Go.RowKit Go.Sort
namespace L2
open L1

end L2
end Go.Proofs.Ytkhjbhkbknennaa
