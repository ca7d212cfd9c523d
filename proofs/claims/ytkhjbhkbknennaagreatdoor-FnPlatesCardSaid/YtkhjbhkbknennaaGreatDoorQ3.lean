/-
  Plates that are drawn: to be shown.
-/
import Derived.Test.YtkhjbhkbknennaaGreatDoorQ2
import Derived.Test.YtkhjbhkbknennaaGreatDoorGC
namespace Go.Proofs.YtkhjbhkbknennaaGreatDoor
open Go.RowKit Go.Sort
namespace L2
open L1 D

/-- What a draw of one plate leaves: some plate, and no old block turned. -/
def DrewP (w : World) (e : Ending) (w' : World) : Prop := ∃ q : Pl, e = .returned (plV q) ∧ Below w.heap.size w w'
set_option maxRecDepth 100000 in
set_option maxHeartbeats 2000000 in
theorem drawPlateOk_any (v : Value) (n : Nat) (w : World) (hC : Came w v n) : Calls Tryz.prog 45 #[v] w (DrewP w) := by
  have hC' := Lib.hid hC
  have Z0 := pb_new w ⟨0, 0, 0, 0, 0, 0⟩ 37
  simp only at Z0
  clear hC
  go_enter Tryz.func45, Tryz.ntmps45
  go_wp2_with fail
  refine (l1New_any v n _ (hC'.out.below ((Below.refl _ w).alloc (Nat.le_refl _) _))).mono ?_
  rintro e w1 ⟨h, rfl, rfl⟩
  have hA : Below w.heap.size w (w.alloc (.cells #[.int .i64 0, .int .i64 0, .int .i64 0, .int .i64 0, .int .i64 0, .int .i64 0] 37)) := (Below.refl _ w).alloc (Nat.le_refl _) _
  have hCa := hC'.out.below hA
  have hsz : (w.alloc (.cells #[.int .i64 0, .int .i64 0, .int .i64 0, .int .i64 0, .int .i64 0, .int .i64 0] 37)).heap.size = w.heap.size + 1 := by simp
  generalize (w.alloc (.cells #[.int .i64 0, .int .i64 0, .int .i64 0, .int .i64 0, .int .i64 0, .int .i64 0] 37)) = wa at Z0 hA hCa hsz ⊢
  have HC1 := cur_new wa v n h
  have HB1 := hCa.bytes (.cells #[v, .int .i64 0, .int .i64 h] 93)
  have hW1 : Below w.heap.size w (wa.alloc (.cells #[v, .int .i64 0, .int .i64 h] 93)) := hA.alloc hA.size _
  have Z1 := Z0.kept (World.grownBy_alloc wa (.cells #[v, .int .i64 0, .int .i64 h] 93) (some (w.heap.size + 1))) (by omega)
  rw [hsz] at HC1 HB1
  replace HC1 := Lib.hid HC1
  replace HB1 := Lib.hid HB1
  replace hW1 := Lib.hid hW1
  clear Z0 hCa hA
  go_wp2_with fail
  refine (l5DrawAny_any _ v n _ HC1.out HB1.out).mono ?_
  rintro e w3 ⟨⟨k, a, b, c, d, e⟩, rfl, hC3, hg3⟩
  have Z3 := Z1.kept hg3 (by omega)
  have hW3 := Lib.hid (hW1.out.grown hg3 hW1.out.size (fun k e => by cases e; omega))
  clear hC3 hg3 Z1 hW1
  obtain ⟨zl, ⟨a0, a1, a2, a3, a4, a5⟩, af⟩ := Z3
  simp only [Nat.zero_add, Nat.reduceAdd] at a0 a1 a2 a3 a4 a5
  unfold plV
  go_wp2_with fail
  refine bodyPost_ret (v := .agg #[.int .i64 k, .int .i64 a, .int .i64 b, .int .i64 c, .int .i64 d, .int .i64 e]) (by simp [results, Tryz.results45, go_sem, *]) rfl ⟨⟨k, a, b, c, d, e⟩, rfl, ?_⟩
  exact (((((hW3.out.setCell (Nat.le_refl _) _).setCell (Nat.le_refl _) _).setCell (Nat.le_refl _) _).setCell (Nat.le_refl _) _).setCell (Nat.le_refl _) _).setCell (Nat.le_refl _) _

set_option maxRecDepth 100000 in
set_option maxHeartbeats 2000000 in
theorem drawShowPlate_any (v : Value) (n : Nat) (w : World) (hC : Came w v n) : Calls Tryz.prog 14 #[v] w (DrewP w) := by
  have hC' := Lib.hid (fun w1 (hb : Below w.heap.size w w1) => drawPlateOk_any v n w1 (hC.below hb))
  have Z0 := pb_new w ⟨0, 0, 0, 0, 0, 0⟩ 37
  simp only at Z0
  clear hC
  go_enter Tryz.func14, Tryz.ntmps14
  go_wp2_with fail
  refine (hC'.out _ ((Below.refl _ w).alloc (Nat.le_refl _) _)).mono ?_
  rintro e w1 ⟨⟨k, a, b, c, d, e⟩, rfl, hb1⟩
  have hn := D.grown_of_below hb1 none
  obtain ⟨zl, zc, zf⟩ := Z0
  have hbk := hb1.block w.heap.size zl
  have Z1 : PB w1 w.heap.size ⟨0, 0, 0, 0, 0, 0⟩ := ⟨Nat.lt_of_lt_of_le zl hb1.size, zc.of fun j => World.cell?_of_block (a := ⟨w.heap.size, j, none⟩) hbk, fun j => (World.frozen?_of_block (a := ⟨w.heap.size, j, none⟩) hbk).trans (zf j)⟩
  have HB1 : Hid (Below w.heap.size w w1) := Lib.hid (((Below.refl _ w).alloc (Nat.le_refl _) _).trans (hb1.mono (by simp)))
  clear hn zl zc zf hbk hb1
  obtain ⟨zl, ⟨a0, a1, a2, a3, a4, a5⟩, af⟩ := Z1
  simp only [Nat.zero_add, Nat.reduceAdd] at a0 a1 a2 a3 a4 a5
  unfold plV
  go_wp2_with fail
  refine bodyPost_ret (v := .agg #[.int .i64 k, .int .i64 a, .int .i64 b, .int .i64 c, .int .i64 d, .int .i64 e]) (by simp [results, Tryz.results14, go_sem, *]) rfl ⟨⟨k, a, b, c, d, e⟩, rfl, ?_⟩
  exact (((((HB1.out.setCell (Nat.le_refl _) _).setCell (Nat.le_refl _) _).setCell (Nat.le_refl _) _).setCell (Nat.le_refl _) _).setCell (Nat.le_refl _) _).setCell (Nat.le_refl _) _

end L2
end Go.Proofs.YtkhjbhkbknennaaGreatDoor
