/-
  What the model's reading of a plate leans on: the pieces, the result's own block.
-/
import Derived.Test.YtkhjbhkbknennaaGreatDoorN12
namespace Go.Proofs.YtkhjbhkbknennaaGreatDoor
open Go.RowKit Go.Sort
namespace L2
open S1 L1

/-- The plate that a text is read as, and no plate. -/
def noPl : Pl := ⟨0, 0, 0, 0, 0, 0⟩
def rdP (l : List UInt8) : Pl := if rdPOk l then plR (cutS l) else noPl
theorem piecesS_len (s : ByteArray) : (piecesS s).length = (cutS s.toList).length := by simp [piecesS]
theorem piecesS_at (s : ByteArray) (i : Nat) : ((piecesS s).getD i ByteArray.empty).toList = (cutS s.toList).getD i [] := by
  unfold piecesS
  simp only [List.getD_eq_getElem?_getD, List.getElem?_map]
  cases (cutS s.toList)[i]? with
  | none => show ByteArray.empty.toList = []; rw [Lib.toList_data]; rfl
  | some x => exact list_of x
theorem piecesS_size (s : ByteArray) (i : Nat) : ((piecesS s).getD i ByteArray.empty).size ≤ s.size := by
  rw [size_list, piecesS_at, size_list]
  rw [List.getD_eq_getElem?_getD]
  cases h : (cutS s.toList)[i]? with
  | none => simp
  | some x => exact cutS_short _ _ (List.mem_of_getElem? h)

/-- An empty plate in a block. -/
def Px (w : World) (X : Nat) : Prop := X < w.heap.size ∧ ∀ j, j < 6 → w.cell? ⟨X, j, none⟩ = some (.int .i64 0) ∧ w.frozen? ⟨X, j, none⟩ = false
theorem Px.below {A B : World} {X : Nat} (h : Px A X) (hb : Below A.heap.size A B) : Px B X :=
  ⟨Nat.lt_of_lt_of_le h.1 hb.size, fun j hj => ⟨(hb.cell (p := ⟨X, j, none⟩) h.1).trans (h.2 j hj).1, (hb.frozen (p := ⟨X, j, none⟩) h.1).trans (h.2 j hj).2⟩⟩
theorem Px.alloc {A : World} {X : Nat} (h : Px A X) (o : Obj) : Px (A.alloc o) X := h.below ((Below.refl _ _).alloc (Nat.le_refl _) _)
theorem px_new (w : World) (T : TypeId) : Px (w.alloc (.cells #[.int .i64 0, .int .i64 0, .int .i64 0, .int .i64 0, .int .i64 0, .int .i64 0] T)) w.heap.size := by
  refine ⟨by simp, fun j hj => ⟨(alloc_cellN _ _ _ j).trans ?_, ?_⟩⟩
  · match j, hj with
    | 0, _ => rfl
    | 1, _ => rfl
    | 2, _ => rfl
    | 3, _ => rfl
    | 4, _ => rfl
    | 5, _ => rfl
  · have h := heap_alloc_new w (.cells #[.int .i64 0, .int .i64 0, .int .i64 0, .int .i64 0, .int .i64 0, .int .i64 0] T)
    simp only [World.frozen?, h]
    simp

end L2
end Go.Proofs.YtkhjbhkbknennaaGreatDoor
