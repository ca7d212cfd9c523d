/-
  The model's reading of a plate whose text has not four pieces.
-/
import Derived.Test.YtkhjbhkbknennaaGreatDoorN13
namespace Go.Proofs.YtkhjbhkbknennaaGreatDoor
open Go.RowKit Go.Sort
namespace L2
open S1 L1

set_option maxRecDepth 100000 in
set_option maxHeartbeats 2000000 in
theorem specReadPlate_few (s : ByteArray) (hs : s.size ≤ 1048576) (h4 : (cutS s.toList).length ≠ 4) (w : World) :
    Calls Tryz.prog 19 #[.string s] w fun e w' => e = .returned (.tuple #[plV noPl, .bool false]) ∧ Below w.heap.size w w' := by
  go_enter Tryz.func19, Tryz.ntmps19
  go_wp2_with fail
  refine (l1SplitS_any s hs _).mono ?_
  rintro e w1 ⟨v, rfl, ho, hb1⟩
  obtain ⟨g, cp, rfl, -, -⟩ := ho.form
  have hl := piecesS_len s
  obtain ⟨n, hn⟩ : ∃ n, (piecesS s).length = n := ⟨_, rfl⟩
  rw [hn] at hl ⊢
  have hne : ((n : Int) == 4) = false := by
    have : ¬ (n : Int) = 4 := by omega
    simp [this]
  have HB : Hid (Below w.heap.size w w1) := Lib.hid (((Below.refl _ _).alloc (Nat.le_refl _) _).trans (hb1.mono (by simp)))
  have PX := (px_new w _).below hb1
  obtain ⟨x0, f0⟩ := PX.2 0 (by omega)
  obtain ⟨x1, f1⟩ := PX.2 1 (by omega)
  obtain ⟨x2, f2⟩ := PX.2 2 (by omega)
  obtain ⟨x3, f3⟩ := PX.2 3 (by omega)
  obtain ⟨x4, f4⟩ := PX.2 4 (by omega)
  obtain ⟨x5, f5⟩ := PX.2 5 (by omega)
  clear ho hb1 hn hl PX
  go_wp2_with fail
  refine bodyPost_ret (v := .tuple #[.agg #[.int .i64 0, .int .i64 0, .int .i64 0, .int .i64 0, .int .i64 0, .int .i64 0], .bool false]) (by simp [results, Tryz.results19, go_sem, *]) rfl ⟨rfl, (((((HB.out.setCell (Nat.le_refl _) _).setCell (Nat.le_refl _) _).setCell (Nat.le_refl _) _).setCell (Nat.le_refl _) _).setCell (Nat.le_refl _) _).setCell (Nat.le_refl _) _⟩

end L2
end Go.Proofs.YtkhjbhkbknennaaGreatDoor
