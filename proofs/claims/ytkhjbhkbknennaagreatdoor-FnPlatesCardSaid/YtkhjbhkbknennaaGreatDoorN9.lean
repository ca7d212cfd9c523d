/-
  The law of chapter 5 on a plate's text.
-/
import Derived.Test.YtkhjbhkbknennaaGreatDoorN8
namespace Go.Proofs.YtkhjbhkbknennaaGreatDoor
open Go.RowKit Go.Sort
namespace L2
open S1 L1

end L2
end Go.Proofs.YtkhjbhkbknennaaGreatDoor
