/-
  Chapter 1: is a value nothing: the program's own function.
-/
import Derived.Test.YtcfniecdjbgknaaDoorL1c
import Derived.Deep.RegionWith
namespace Go.Proofs.YtcfniecdjbgknaaDoor
open Go.RowKit
namespace L1

theorem cell_far2 {w : World} {b b' o : Nat} {u v x : Value} (h : w.cell? ⟨b', o, none⟩ = some x) (hne : b ≠ b') : ((w.setCell ⟨b, 0, none⟩ u).setCell ⟨b, 1, none⟩ v).cell? ⟨b', o, none⟩ = some x := by
  rw [World.cell?_setCell_other _ _ _ _ (by intro e; exact hne (congrArg Addr.block e)), World.cell?_setCell_other _ _ _ _ (by intro e; exact hne (congrArg Addr.block e))]
  exact h
theorem cell_two {w : World} {b : Nat} {u v : Value} (h0 : (w.cell? ⟨b, 0, none⟩).isSome = true) (h1 : (w.cell? ⟨b, 1, none⟩).isSome = true) :
    ((w.setCell ⟨b, 0, none⟩ u).setCell ⟨b, 1, none⟩ v).cell? ⟨b, 0, none⟩ = some u ∧ ((w.setCell ⟨b, 0, none⟩ u).setCell ⟨b, 1, none⟩ v).cell? ⟨b, 1, none⟩ = some v := by
  obtain ⟨x, hx⟩ := Option.isSome_iff_exists.1 h0
  obtain ⟨y, hy⟩ := Option.isSome_iff_exists.1 h1
  constructor
  · rw [World.cell?_setCell_other _ _ _ _ (by intro e; cases e)]
    simp [go_sem, hx]
  · have hy' : (w.setCell ⟨b, 0, none⟩ u).cell? ⟨b, 1, none⟩ = some y := by rw [World.cell?_setCell_other _ _ _ _ (by intro e; cases e)]; exact hy
    simp [go_sem, hy']
theorem implNumber0 (w : World) :
    Calls Tryd.prog 22 #[.int .i64 0] w fun e w' => e = .returned (.agg #[.int .i64 0, .int .i64 0]) ∧ Below w.heap.size w w' :=
  (implNumber_any 0 w).mono fun _ _ ⟨he, hb⟩ => ⟨by rw [he, clamp0], hb⟩

set_option maxHeartbeats 1000000 in
theorem implIsNothing_any (a b : Int) (w : World) :
    Calls Tryd.prog 29 #[.agg #[.int .i64 a, .int .i64 b]] w fun e w' => e = .returned (.bool (sameB a b 0 0)) ∧ Below w.heap.size w w' := by
  by_cases h1 : a = 0 <;> by_cases h2 : b = 0
  all_goals
    have h1' : (a == 0) = decide (a = 0) := by by_cases h : a = 0 <;> simp [h]
    have h2' : (b == 0) = decide (b = 0) := by by_cases h : b = 0 <;> simp [h]
    simp only [h1, h2, decide_true, decide_false] at h1' h2'
    go_enter Tryd.func29, Tryd.ntmps29
    go_wp2
    go_region_with (go_at_call 22; refine (implNumber0 _).mono ?_; rintro e w1 ⟨rfl, hb1⟩; have c0 := (bcell hb1).1 w.heap.size 0 (by simp); have c1 := (bcell hb1).1 w.heap.size 1 (by simp); have hs1 := hb1.size; simp at c0 c1 hs1)
    all_goals
      go_wp2
      go_ret
      refine ⟨by simp [sameB, h1, h2]; rfl, ?_⟩
      (repeat (first | exact Below.refl _ _ | refine Below.drew ?_ | refine Below.alloc ?_ ?_ _ | refine Below.setCell ?_ ?_ _ | refine Below.trans ?_ (Below.mono (by assumption) ?_))) <;> (first | omega | (simp at *; done) | (simp at *; omega))

end L1
end Go.Proofs.YtcfniecdjbgknaaDoor
