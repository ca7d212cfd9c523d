/-
  The law on ReadPlate.
-/
import Derived.Test.YtkhjbhkbknennaaGreatDoorN17
namespace Go.Proofs.YtkhjbhkbknennaaGreatDoor
open Go.RowKit Go.Sort
namespace L2
open S1 L1

theorem specReadPlate_any (s : ByteArray) (hs : s.size ≤ 1048576) (w : World) :
    Calls Tryz.prog 19 #[.string s] w fun e w' => e = .returned (.tuple #[plV (rdP s.toList), .bool (rdPOk s.toList)]) ∧ Below w.heap.size w w' := by
  by_cases h4 : (cutS s.toList).length = 4
  · exact specReadPlate_four s hs h4 w
  · have hno : rdPOk s.toList = false := by unfold rdPOk; rw [decide_eq_false h4]; rfl
    have hrd : rdP s.toList = noPl := by unfold rdP; rw [hno]; rfl
    rw [hno, hrd]
    exact specReadPlate_few s hs h4 w

end L2
end Go.Proofs.YtkhjbhkbknennaaGreatDoor
