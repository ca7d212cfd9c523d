/-
  The laws of chapter 5 on plates and lists of plates.
-/
import Derived.Test.YtmbonldiaimcfaaGreatDoorN4
namespace Go.Proofs.YtmbonldiaimcfaaGreatDoor
open Go.RowKit Go.Sort
namespace L2
open L1

end L2
end Go.Proofs.YtmbonldiaimcfaaGreatDoor
