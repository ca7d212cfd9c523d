/-
  Plates that are drawn: any plate (written by wip/gen_q2.py).
-/
import Derived.Test.YtkhjbhkbknennaaGreatDoorQ1
namespace Go.Proofs.YtkhjbhkbknennaaGreatDoor
open Go.RowKit Go.Sort
namespace L2
open L1 D

theorem three_cell (w : World) (t : TypeId) (j : Nat) (hj : j < 3) : ∃ u : Int, (w.alloc (.cells #[.int .i64 (-1), .int .i64 59, .int .i64 60] t)).cell? ⟨w.heap.size, j, none⟩ = some (.int .i64 u) := by
  have h : j = 0 ∨ j = 1 ∨ j = 2 := by omega
  rcases h with rfl | rfl | rfl <;> exact ⟨_, by simp [go_sem]; rfl⟩
set_option maxRecDepth 100000 in
set_option maxHeartbeats 4000000 in
theorem l5DrawAny_any (p : Nat) (v : Value) (n : Nat) (w : World) (hC : D.Cur w p v n) (hB : Bytes w p v n) :
    Calls Tryz.prog 98 #[.pointer (some ⟨p, 0, none⟩)] w (GotP p v n w) := by
  have hp := hC.lt
  have Z6 := pb_new w ⟨0, 0, 0, 0, 0, 0⟩ 37
  have HC := Lib.hid (hC.alloc (.cells #[.int .i64 0, .int .i64 0, .int .i64 0, .int .i64 0, .int .i64 0, .int .i64 0] 37))
  have HB := Lib.hid (hB.kept (World.grownBy_alloc w (.cells #[.int .i64 0, .int .i64 0, .int .i64 0, .int .i64 0, .int .i64 0, .int .i64 0] 37) (some p)))
  have HG := Lib.hid (World.grownBy_alloc w (.cells #[.int .i64 0, .int .i64 0, .int .i64 0, .int .i64 0, .int .i64 0, .int .i64 0] 37) (some p))
  clear hC hB
  go_enter Tryz.func98, Tryz.ntmps98
  go_wp2_with fail
  refine (l5Draw_any p v n _ HC.out HB.out).mono ?_
  rintro e0 w1 ⟨⟨k, a, b, c, d, e⟩, rfl, hC1, hg1⟩
  have Z1 := Z6.kept hg1 (by omega)
  have HG1 := Lib.hid (HG.out.trans hg1)
  have HB1 := Lib.hid (HB.out.kept hg1)
  have hs1 := Z1.1
  have hp1 := hC1.lt
  have Z2 := Z1.kept (World.grownBy_alloc w1 (.cells #[.int .i64 k, .int .i64 a, .int .i64 b, .int .i64 c, .int .i64 d, .int .i64 e] 37) (some p)) (by omega)
  have P2 := pb_new w1 ⟨k, a, b, c, d, e⟩ 37
  have HC2 := Lib.hid (hC1.alloc (.cells #[.int .i64 k, .int .i64 a, .int .i64 b, .int .i64 c, .int .i64 d, .int .i64 e] 37))
  have HB2 := Lib.hid (HB1.out.kept (World.grownBy_alloc w1 (.cells #[.int .i64 k, .int .i64 a, .int .i64 b, .int .i64 c, .int .i64 d, .int .i64 e] 37) (some p)))
  have HG2 := Lib.hid (HG1.out.trans (World.grownBy_alloc w1 (.cells #[.int .i64 k, .int .i64 a, .int .i64 b, .int .i64 c, .int .i64 d, .int .i64 e] 37) (some p)))
  simp only at P2
  have hne : ¬ w.heap.size = w1.heap.size := by omega
  have hne' : ¬ w1.heap.size = w.heap.size := by omega
  unfold plV
  clear Z6 Z1 hC1 hg1 HC HB HG HB1 HG1
  go_wp2_with fail
  refine (l1Once_any p v n 8 (by omega) (by omega) _ HC2.out HB2.out).mono ?_
  rintro e1 w2 ⟨t, rfl, hC3, hg3⟩
  have HC3 := Lib.hid hC3
  have HB3 := Lib.hid (HB2.out.kept hg3)
  have Z3 := Z2.kept hg3 (by omega)
  have P3 := P2.kept hg3 (by omega)
  have HG3 := Lib.hid (HG2.out.trans hg3)
  have zw2 := P3.1
  clear hC3 hg3 Z2 P2 HC2 HB2 HG2
  cases t
  · obtain ⟨zl, ⟨a0, a1, a2, a3, a4, a5⟩, af⟩ := Z3
    obtain ⟨pl, ⟨b0, b1, b2, b3, b4, b5⟩, bf⟩ := P3
    simp only [Nat.zero_add, Nat.reduceAdd] at a0 a1 a2 a3 a4 a5 b0 b1 b2 b3 b4 b5
    go_wp2_with fail
    refine bodyPost_ret (v := .agg #[.int .i64 k, .int .i64 a, .int .i64 b, .int .i64 c, .int .i64 d, .int .i64 e]) (by simp [results, Tryz.results98, go_sem, *]) rfl ⟨⟨k, a, b, c, d, e⟩, rfl, ?_, ?_⟩
    · repeat (with_reducible refine D.Cur.setCell ?_ _ _ ?_)
      all_goals (first | (with_reducible exact HC3.out) | (dsimp only; omega))
    · repeat (with_reducible refine grown_new ?_ _ _ ?_)
      all_goals (first | (with_reducible exact HG3.out) | (dsimp only; omega))
  · go_wp2_with fail
    refine (l1Below_any p v n 4 (by omega) (by omega) _ HC3.out HB3.out).mono ?_
    rintro e2 w3 ⟨y, rfl, hy0, hy1, hC4, hg4⟩
    have HC4 := Lib.hid hC4
    have HB4 := Lib.hid (HB3.out.kept hg4)
    have Z4 := Z3.kept hg4 (by omega)
    have P4 := P3.kept hg4 (by omega)
    have HG4 := Lib.hid (HG3.out.trans hg4)
    clear hC4 hg4 Z3 P3 HC3 HB3 HG3
    have hy : y = 0 ∨ y = 1 ∨ y = 2 ∨ y = 3 := by omega
    rcases hy with rfl | rfl | rfl | rfl
    · go_wp2_with fail
      refine (l1From_any p v n 0 9 (by omega) (by omega) (by omega) _ HC4.out HB4.out).mono ?_
      rintro e3 w4 ⟨z, rfl, hz0, hz1, hC5, hg5⟩
      have HC5 := Lib.hid hC5
      have Z5 := Z4.kept hg5 (by omega)
      have P5 := P4.kept hg5 (by omega)
      have HG5 := Lib.hid (HG4.out.trans hg5)
      clear hC5 hg5 Z4 P4 HC4 HB4 HG4
      obtain ⟨zl, ⟨a0, a1, a2, a3, a4, a5⟩, af⟩ := Z5
      obtain ⟨pl, ⟨b0, b1, b2, b3, b4, b5⟩, bf⟩ := P5
      simp only [Nat.zero_add, Nat.reduceAdd] at a0 a1 a2 a3 a4 a5 b0 b1 b2 b3 b4 b5
      go_wp2_with fail
      refine bodyPost_ret (v := .agg #[.int .i64 z, .int .i64 a, .int .i64 b, .int .i64 c, .int .i64 d, .int .i64 e]) (by simp [results, Tryz.results98, go_sem, *]) rfl ⟨⟨z, a, b, c, d, e⟩, rfl, ?_, ?_⟩
      · repeat (with_reducible refine D.Cur.setCell ?_ _ _ ?_)
        all_goals (first | (with_reducible exact HC5.out) | (dsimp only; omega))
      · repeat (with_reducible refine grown_new ?_ _ _ ?_)
        all_goals (first | (with_reducible exact HG5.out) | (dsimp only; omega))
    · have Z4' := Z4.kept (World.grownBy_alloc w3 (.cells #[.int .i64 (-1), .int .i64 59, .int .i64 60] 2) (some p)) (by omega)
      have P4' := P4.kept (World.grownBy_alloc w3 (.cells #[.int .i64 (-1), .int .i64 59, .int .i64 60] 2) (some p)) (by omega)
      have HC4' := Lib.hid (HC4.out.alloc (.cells #[.int .i64 (-1), .int .i64 59, .int .i64 60] 2))
      have HB4' := Lib.hid (HB4.out.kept (World.grownBy_alloc w3 (.cells #[.int .i64 (-1), .int .i64 59, .int .i64 60] 2) (some p)))
      have HG4' := Lib.hid (HG4.out.trans (World.grownBy_alloc w3 (.cells #[.int .i64 (-1), .int .i64 59, .int .i64 60] 2) (some p)))
      have hp3 := HC4.out.lt
      have zz3 := P4.1
      clear Z4 P4 HC4 HB4 HG4
      go_wp2_with fail
      refine (l1Below_any p v n 3 (by omega) (by omega) _ HC4'.out HB4'.out).mono ?_
      rintro e3 w4 ⟨z, rfl, hz0, hz1, hC5, hg5⟩
      obtain ⟨j, rfl⟩ : ∃ j : Nat, z = (j : Int) := ⟨z.toNat, by omega⟩
      obtain ⟨u, hu⟩ := three_cell w3 2 j (by omega)
      have hu4 : w4.cell? ⟨w3.heap.size, j, none⟩ = some (.int .i64 u) := hg5.cell hu (fun e => by have h := Option.some.inj e; dsimp only at h; omega)
      have HC5 := Lib.hid hC5
      have Z5 := Z4'.kept hg5 (by omega)
      have P5 := P4'.kept hg5 (by omega)
      have HG5 := Lib.hid (HG4'.out.trans hg5)
      have hj0 : (0 : Int) ≤ (j : Int) := by omega
      have hj3 : (j : Int) < 3 := by omega
      clear hC5 hg5 Z4' P4' HC4' HB4' HG4' hu
      obtain ⟨zl, ⟨a0, a1, a2, a3, a4, a5⟩, af⟩ := Z5
      obtain ⟨pl, ⟨b0, b1, b2, b3, b4, b5⟩, bf⟩ := P5
      simp only [Nat.zero_add, Nat.reduceAdd] at a0 a1 a2 a3 a4 a5 b0 b1 b2 b3 b4 b5
      go_wp2_with fail
      refine bodyPost_ret (v := .agg #[.int .i64 k, .int .i64 u, .int .i64 b, .int .i64 c, .int .i64 d, .int .i64 e]) (by simp [results, Tryz.results98, go_sem, *]) rfl ⟨⟨k, u, b, c, d, e⟩, rfl, ?_, ?_⟩
      · repeat (with_reducible refine D.Cur.setCell ?_ _ _ ?_)
        all_goals (first | (with_reducible exact HC5.out) | (dsimp only; omega))
      · repeat (with_reducible refine grown_new ?_ _ _ ?_)
        all_goals (first | (with_reducible exact HG5.out) | (dsimp only; omega))
    · go_wp2_with fail
      refine (drawAny_any p v n _ HC4.out HB4.out).mono ?_
      rintro e3 w4 ⟨z1, z2, rfl, hC5, hg5⟩
      have HC5 := Lib.hid hC5
      have Z5 := Z4.kept hg5 (by omega)
      have P5 := P4.kept hg5 (by omega)
      have HG5 := Lib.hid (HG4.out.trans hg5)
      clear hC5 hg5 Z4 P4 HC4 HB4 HG4
      obtain ⟨zl, ⟨a0, a1, a2, a3, a4, a5⟩, af⟩ := Z5
      obtain ⟨pl, ⟨b0, b1, b2, b3, b4, b5⟩, bf⟩ := P5
      simp only [Nat.zero_add, Nat.reduceAdd] at a0 a1 a2 a3 a4 a5 b0 b1 b2 b3 b4 b5
      go_wp2_with fail
      refine bodyPost_ret (v := .agg #[.int .i64 k, .int .i64 a, .int .i64 z1, .int .i64 z2, .int .i64 d, .int .i64 e]) (by simp [results, Tryz.results98, go_sem, *]) rfl ⟨⟨k, a, z1, z2, d, e⟩, rfl, ?_, ?_⟩
      · repeat (with_reducible refine D.Cur.setCell ?_ _ _ ?_)
        all_goals (first | (with_reducible exact HC5.out) | (dsimp only; omega))
      · repeat (with_reducible refine grown_new ?_ _ _ ?_)
        all_goals (first | (with_reducible exact HG5.out) | (dsimp only; omega))
    · go_wp2_with fail
      refine (drawAny_any p v n _ HC4.out HB4.out).mono ?_
      rintro e3 w4 ⟨z1, z2, rfl, hC5, hg5⟩
      have HC5 := Lib.hid hC5
      have Z5 := Z4.kept hg5 (by omega)
      have P5 := P4.kept hg5 (by omega)
      have HG5 := Lib.hid (HG4.out.trans hg5)
      clear hC5 hg5 Z4 P4 HC4 HB4 HG4
      obtain ⟨zl, ⟨a0, a1, a2, a3, a4, a5⟩, af⟩ := Z5
      obtain ⟨pl, ⟨b0, b1, b2, b3, b4, b5⟩, bf⟩ := P5
      simp only [Nat.zero_add, Nat.reduceAdd] at a0 a1 a2 a3 a4 a5 b0 b1 b2 b3 b4 b5
      go_wp2_with fail
      refine bodyPost_ret (v := .agg #[.int .i64 k, .int .i64 a, .int .i64 b, .int .i64 c, .int .i64 z1, .int .i64 z2]) (by simp [results, Tryz.results98, go_sem, *]) rfl ⟨⟨k, a, b, c, z1, z2⟩, rfl, ?_, ?_⟩
      · repeat (with_reducible refine D.Cur.setCell ?_ _ _ ?_)
        all_goals (first | (with_reducible exact HC5.out) | (dsimp only; omega))
      · repeat (with_reducible refine grown_new ?_ _ _ ?_)
        all_goals (first | (with_reducible exact HG5.out) | (dsimp only; omega))

end L2
end Go.Proofs.YtkhjbhkbknennaaGreatDoor
