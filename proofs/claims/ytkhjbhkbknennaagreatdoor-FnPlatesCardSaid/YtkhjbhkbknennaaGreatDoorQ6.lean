/-
  A plate is read from its text, on data: what the law on plates asks.
-/
import Derived.Test.YtkhjbhkbknennaaGreatDoorN13
namespace Go.Proofs.YtkhjbhkbknennaaGreatDoor
open Go.RowKit
namespace L2
open S1 L1

theorem showP_cut {p : Pl} (h : okPl p = true) : cutS (showP p) = wsOf (partsB p) := by
  unfold showP
  rw [if_pos h]
  exact cutS_join _ (by rw [partsB_ws]; simp) (parts_noslash h)
theorem showP_none {p : Pl} (h : okPl p = false) : showP p = [] := by
  unfold showP
  rw [h]
  rfl
theorem showP_some {p : Pl} (h : okPl p = true) : showP p ≠ [] := fun e => by
  have hc := showP_cut h
  rw [e, partsB_ws] at hc
  simp [cutS] at hc
theorem read_showP {p : Pl} (h : okPl p = true) : rdPOk (showP p) = true ∧ rdP (showP p) = p := by
  have hc := showP_cut h
  obtain ⟨h1, -, h2, h3, h4⟩ := plR_parts h
  have hok : rdPOk (showP p) = true := by
    unfold rdPOk
    rw [hc, h1, h, partsB_ws]
    simp [h2, h3, h4]
  refine ⟨hok, ?_⟩
  unfold rdP
  rw [if_pos hok, hc, h1]
theorem show_rdP {l : List UInt8} (h : rdPOk l = true) : okPl (rdP l) = true ∧ showP (rdP l) = l := by
  obtain ⟨h1, -, h3⟩ := show_back h
  unfold rdP
  rw [if_pos h]
  exact ⟨h1, h3⟩

end L2
end Go.Proofs.YtkhjbhkbknennaaGreatDoor
