/-
  Plates that are drawn.
-/
import Derived.Test.YtkhjbhkbknennaaGreatDoorN3
import Derived.Test.YtkhjbhkbknennaaGreatDoorGC
namespace Go.Proofs.YtkhjbhkbknennaaGreatDoor
open Go.RowKit Go.Sort
namespace L2
open L1 D

/-- A plate in a box of a call's own. -/
def PB (w : World) (b : Nat) (q : Pl) : Prop := b < w.heap.size ∧ PlAt w b 0 q ∧ ∀ j, w.frozen? ⟨b, j, none⟩ = false
theorem PB.kept {w w1 : World} {p b : Nat} {q : Pl} (h : PB w b q) (hg : w.grownBy w1 (some p)) (hne : b ≠ p) : PB w1 b q := by
  have hn : some b ≠ some p := fun e => hne (Option.some.inj e)
  have hb := hg.block b h.1 hn
  exact ⟨Nat.lt_of_lt_of_le h.1 hg.size, h.2.1.of fun j => World.cell?_of_block (a := ⟨b, j, none⟩) hb, fun j => (World.frozen?_of_block (a := ⟨b, j, none⟩) hb).trans (h.2.2 j)⟩
theorem pb_new (w : World) (q : Pl) (T : TypeId) : PB (w.alloc (.cells #[.int .i64 q.k, .int .i64 q.a, .int .i64 q.ak, .int .i64 q.an, .int .i64 q.vk, .int .i64 q.vn] T)) w.heap.size q :=
  ⟨by simp, ⟨by simp [go_sem], by simp [go_sem], by simp [go_sem], by simp [go_sem], by simp [go_sem], by simp [go_sem]⟩, fun j => by simp [go_sem]⟩
/-- What drawing a plate leaves. -/
def GotP (p : Nat) (v : Value) (n : Nat) (w : World) (e : Ending) (w' : World) : Prop :=
  ∃ q : Pl, e = .returned (plV q) ∧ D.Cur w' p v n ∧ w.grownBy w' (some p)

set_option maxRecDepth 100000 in
set_option maxHeartbeats 2000000 in
theorem l5Draw_any (p : Nat) (v : Value) (n : Nat) (w : World) (hC : D.Cur w p v n) (hB : Bytes w p v n) :
    Calls Tryz.prog 49 #[.pointer (some ⟨p, 0, none⟩)] w (GotP p v n w) := by
  have hp := hC.lt
  have Z6 := pb_new w ⟨0, 0, 0, 0, 0, 0⟩ 37
  have HC := Lib.hid (hC.alloc (.cells #[.int .i64 0, .int .i64 0, .int .i64 0, .int .i64 0, .int .i64 0, .int .i64 0] 37))
  have HB := Lib.hid (hB.kept (World.grownBy_alloc w (.cells #[.int .i64 0, .int .i64 0, .int .i64 0, .int .i64 0, .int .i64 0, .int .i64 0] 37) (some p)))
  have HG := Lib.hid (World.grownBy_alloc w (.cells #[.int .i64 0, .int .i64 0, .int .i64 0, .int .i64 0, .int .i64 0, .int .i64 0] 37) (some p))
  clear hC hB
  go_enter Tryz.func49, Tryz.ntmps49
  go_wp2_with fail
  refine (l1Below_any p v n 8 (by omega) (by omega) _ HC.out HB.out).mono ?_
  rintro e w1 ⟨x, rfl, hx0, hx1, hC1, hg1⟩
  have HC1 := Lib.hid hC1
  have HB1 := Lib.hid (HB.out.kept hg1)
  have Z1 := Z6.kept hg1 (by omega)
  have HG1 := Lib.hid (HG.out.trans hg1)
  clear hC1 hg1 Z6
  go_wp2_with fail
  refine (l1Below_any p v n 12 (by omega) (by omega) _ HC1.out HB1.out).mono ?_
  rintro e w2 ⟨y, rfl, hy0, hy1, hC2, hg2⟩
  have HC2 := Lib.hid hC2
  have HB2 := Lib.hid (HB1.out.kept hg2)
  have Z2 := Z1.kept hg2 (by omega)
  have HG2 := Lib.hid (HG1.out.trans hg2)
  have hs2 := Z2.1
  have hp2 := HC2.out.lt
  clear hC2 hg2 Z1
  have hx : x = 0 ∨ x = 1 ∨ x = 2 ∨ x = 3 ∨ x = 4 ∨ x = 5 ∨ x = 6 ∨ x = 7 := by omega
  rcases hx with rfl | rfl | rfl | rfl | rfl | rfl | rfl | rfl
  · have P2 := pb_new w2 ⟨1, y, 0, 0, 0, 0⟩ 37
    have Z3 := Z2.kept (World.grownBy_alloc w2 (.cells #[.int .i64 1, .int .i64 y, .int .i64 0, .int .i64 0, .int .i64 0, .int .i64 0] 37) (some p)) (by omega)
    have HC3 := Lib.hid (HC2.out.alloc (.cells #[.int .i64 1, .int .i64 y, .int .i64 0, .int .i64 0, .int .i64 0, .int .i64 0] 37))
    have HB3 := Lib.hid (HB2.out.kept (World.grownBy_alloc w2 (.cells #[.int .i64 1, .int .i64 y, .int .i64 0, .int .i64 0, .int .i64 0, .int .i64 0] 37) (some p)))
    have HG3 := Lib.hid (HG2.out.trans (World.grownBy_alloc w2 (.cells #[.int .i64 1, .int .i64 y, .int .i64 0, .int .i64 0, .int .i64 0, .int .i64 0] 37) (some p)))
    simp only at P2
    clear Z2 HC2 HB2
    go_wp2_with fail
    refine (drawValue_any p v n _ HC3.out HB3.out).mono ?_
    rintro e w3 ⟨q1, q2, rfl, hC4, hg4⟩
    have HC4 := Lib.hid hC4
    have ZZ := Z3.kept hg4 (by omega)
    have PP := P2.kept hg4 (by omega)
    have HG4 := Lib.hid (HG3.out.trans hg4)
    clear hC4 hg4 Z3 P2 HC3 HB3 HG3
    obtain ⟨zl, ⟨a0, a1, a2, a3, a4, a5⟩, af⟩ := ZZ
    obtain ⟨pl, ⟨b0, b1, b2, b3, b4, b5⟩, bf⟩ := PP
    simp only [Nat.zero_add, Nat.reduceAdd] at a0 a1 a2 a3 a4 a5 b0 b1 b2 b3 b4 b5
    have hne : ¬ w.heap.size = w2.heap.size := by omega
    have hne' : ¬ w2.heap.size = w.heap.size := by omega
    go_wp2_with fail
    refine bodyPost_ret (v := .agg #[.int .i64 1, .int .i64 y, .int .i64 q1, .int .i64 q2, .int .i64 0, .int .i64 0]) (by simp [results, Tryz.results49, go_sem, *]) rfl ⟨⟨1, y, q1, q2, 0, 0⟩, rfl, ?_, ?_⟩
    · repeat (with_reducible refine D.Cur.setCell ?_ _ _ ?_)
      all_goals (first | (with_reducible exact HC4.out) | (dsimp only; omega))
    · repeat (with_reducible refine grown_new ?_ _ _ ?_)
      all_goals (first | (with_reducible exact HG4.out) | (dsimp only; omega))
  · have P2 := pb_new w2 ⟨2, y, 0, 0, 0, 0⟩ 37
    have Z3 := Z2.kept (World.grownBy_alloc w2 (.cells #[.int .i64 2, .int .i64 y, .int .i64 0, .int .i64 0, .int .i64 0, .int .i64 0] 37) (some p)) (by omega)
    have HC3 := Lib.hid (HC2.out.alloc (.cells #[.int .i64 2, .int .i64 y, .int .i64 0, .int .i64 0, .int .i64 0, .int .i64 0] 37))
    have HB3 := Lib.hid (HB2.out.kept (World.grownBy_alloc w2 (.cells #[.int .i64 2, .int .i64 y, .int .i64 0, .int .i64 0, .int .i64 0, .int .i64 0] 37) (some p)))
    have HG3 := Lib.hid (HG2.out.trans (World.grownBy_alloc w2 (.cells #[.int .i64 2, .int .i64 y, .int .i64 0, .int .i64 0, .int .i64 0, .int .i64 0] 37) (some p)))
    simp only at P2
    clear Z2 HC2 HB2
    go_wp2_with fail
    refine (drawValue_any p v n _ HC3.out HB3.out).mono ?_
    rintro e w3 ⟨q1, q2, rfl, hC4, hg4⟩
    have HC4 := Lib.hid hC4
    have ZZ := Z3.kept hg4 (by omega)
    have PP := P2.kept hg4 (by omega)
    have HG4 := Lib.hid (HG3.out.trans hg4)
    clear hC4 hg4 Z3 P2 HC3 HB3 HG3
    obtain ⟨zl, ⟨a0, a1, a2, a3, a4, a5⟩, af⟩ := ZZ
    obtain ⟨pl, ⟨b0, b1, b2, b3, b4, b5⟩, bf⟩ := PP
    simp only [Nat.zero_add, Nat.reduceAdd] at a0 a1 a2 a3 a4 a5 b0 b1 b2 b3 b4 b5
    have hne : ¬ w.heap.size = w2.heap.size := by omega
    have hne' : ¬ w2.heap.size = w.heap.size := by omega
    go_wp2_with fail
    refine bodyPost_ret (v := .agg #[.int .i64 2, .int .i64 y, .int .i64 0, .int .i64 0, .int .i64 q1, .int .i64 q2]) (by simp [results, Tryz.results49, go_sem, *]) rfl ⟨⟨2, y, 0, 0, q1, q2⟩, rfl, ?_, ?_⟩
    · repeat (with_reducible refine D.Cur.setCell ?_ _ _ ?_)
      all_goals (first | (with_reducible exact HC4.out) | (dsimp only; omega))
    · repeat (with_reducible refine grown_new ?_ _ _ ?_)
      all_goals (first | (with_reducible exact HG4.out) | (dsimp only; omega))
  · have P2 := pb_new w2 ⟨3, y, 0, 0, 0, 0⟩ 37
    have Z3 := Z2.kept (World.grownBy_alloc w2 (.cells #[.int .i64 3, .int .i64 y, .int .i64 0, .int .i64 0, .int .i64 0, .int .i64 0] 37) (some p)) (by omega)
    have HC3 := Lib.hid (HC2.out.alloc (.cells #[.int .i64 3, .int .i64 y, .int .i64 0, .int .i64 0, .int .i64 0, .int .i64 0] 37))
    have HB3 := Lib.hid (HB2.out.kept (World.grownBy_alloc w2 (.cells #[.int .i64 3, .int .i64 y, .int .i64 0, .int .i64 0, .int .i64 0, .int .i64 0] 37) (some p)))
    have HG3 := Lib.hid (HG2.out.trans (World.grownBy_alloc w2 (.cells #[.int .i64 3, .int .i64 y, .int .i64 0, .int .i64 0, .int .i64 0, .int .i64 0] 37) (some p)))
    simp only at P2
    clear Z2 HC2 HB2
    go_wp2_with fail
    refine (drawValue_any p v n _ HC3.out HB3.out).mono ?_
    rintro e w3 ⟨q1, q2, rfl, hC4, hg4⟩
    have HC4 := Lib.hid hC4
    have ZZ := Z3.kept hg4 (by omega)
    have PP := P2.kept hg4 (by omega)
    have HG4 := Lib.hid (HG3.out.trans hg4)
    clear hC4 hg4 Z3 P2 HC3 HB3 HG3
    obtain ⟨zl, ⟨a0, a1, a2, a3, a4, a5⟩, af⟩ := ZZ
    obtain ⟨pl, ⟨b0, b1, b2, b3, b4, b5⟩, bf⟩ := PP
    simp only [Nat.zero_add, Nat.reduceAdd] at a0 a1 a2 a3 a4 a5 b0 b1 b2 b3 b4 b5
    have hne : ¬ w.heap.size = w2.heap.size := by omega
    have hne' : ¬ w2.heap.size = w.heap.size := by omega
    go_wp2_with fail
    refine bodyPost_ret (v := .agg #[.int .i64 3, .int .i64 y, .int .i64 q1, .int .i64 q2, .int .i64 0, .int .i64 0]) (by simp [results, Tryz.results49, go_sem, *]) rfl ⟨⟨3, y, q1, q2, 0, 0⟩, rfl, ?_, ?_⟩
    · repeat (with_reducible refine D.Cur.setCell ?_ _ _ ?_)
      all_goals (first | (with_reducible exact HC4.out) | (dsimp only; omega))
    · repeat (with_reducible refine grown_new ?_ _ _ ?_)
      all_goals (first | (with_reducible exact HG4.out) | (dsimp only; omega))
  · have P2 := pb_new w2 ⟨4, y, 0, 0, 0, 0⟩ 37
    have Z3 := Z2.kept (World.grownBy_alloc w2 (.cells #[.int .i64 4, .int .i64 y, .int .i64 0, .int .i64 0, .int .i64 0, .int .i64 0] 37) (some p)) (by omega)
    have HC3 := Lib.hid (HC2.out.alloc (.cells #[.int .i64 4, .int .i64 y, .int .i64 0, .int .i64 0, .int .i64 0, .int .i64 0] 37))
    have HB3 := Lib.hid (HB2.out.kept (World.grownBy_alloc w2 (.cells #[.int .i64 4, .int .i64 y, .int .i64 0, .int .i64 0, .int .i64 0, .int .i64 0] 37) (some p)))
    have HG3 := Lib.hid (HG2.out.trans (World.grownBy_alloc w2 (.cells #[.int .i64 4, .int .i64 y, .int .i64 0, .int .i64 0, .int .i64 0, .int .i64 0] 37) (some p)))
    simp only at P2
    clear Z2 HC2 HB2
    go_wp2_with fail
    refine (drawValue_any p v n _ HC3.out HB3.out).mono ?_
    rintro e w3 ⟨q1, q2, rfl, hC4, hg4⟩
    have HC4 := Lib.hid hC4
    have ZZ := Z3.kept hg4 (by omega)
    have PP := P2.kept hg4 (by omega)
    have HG4 := Lib.hid (HG3.out.trans hg4)
    clear hC4 hg4 Z3 P2 HC3 HB3 HG3
    obtain ⟨zl, ⟨a0, a1, a2, a3, a4, a5⟩, af⟩ := ZZ
    obtain ⟨pl, ⟨b0, b1, b2, b3, b4, b5⟩, bf⟩ := PP
    simp only [Nat.zero_add, Nat.reduceAdd] at a0 a1 a2 a3 a4 a5 b0 b1 b2 b3 b4 b5
    have hne : ¬ w.heap.size = w2.heap.size := by omega
    have hne' : ¬ w2.heap.size = w.heap.size := by omega
    go_wp2_with fail
    refine bodyPost_ret (v := .agg #[.int .i64 4, .int .i64 y, .int .i64 0, .int .i64 0, .int .i64 q1, .int .i64 q2]) (by simp [results, Tryz.results49, go_sem, *]) rfl ⟨⟨4, y, 0, 0, q1, q2⟩, rfl, ?_, ?_⟩
    · repeat (with_reducible refine D.Cur.setCell ?_ _ _ ?_)
      all_goals (first | (with_reducible exact HC4.out) | (dsimp only; omega))
    · repeat (with_reducible refine grown_new ?_ _ _ ?_)
      all_goals (first | (with_reducible exact HG4.out) | (dsimp only; omega))
  · have P2 := pb_new w2 ⟨5, y, 0, 0, 0, 0⟩ 37
    have Z3 := Z2.kept (World.grownBy_alloc w2 (.cells #[.int .i64 5, .int .i64 y, .int .i64 0, .int .i64 0, .int .i64 0, .int .i64 0] 37) (some p)) (by omega)
    have HC3 := Lib.hid (HC2.out.alloc (.cells #[.int .i64 5, .int .i64 y, .int .i64 0, .int .i64 0, .int .i64 0, .int .i64 0] 37))
    have HB3 := Lib.hid (HB2.out.kept (World.grownBy_alloc w2 (.cells #[.int .i64 5, .int .i64 y, .int .i64 0, .int .i64 0, .int .i64 0, .int .i64 0] 37) (some p)))
    have HG3 := Lib.hid (HG2.out.trans (World.grownBy_alloc w2 (.cells #[.int .i64 5, .int .i64 y, .int .i64 0, .int .i64 0, .int .i64 0, .int .i64 0] 37) (some p)))
    simp only at P2
    clear Z2 HC2 HB2
    go_wp2_with fail
    refine (drawValue_any p v n _ HC3.out HB3.out).mono ?_
    rintro e w3 ⟨q1, q2, rfl, hC4, hg4⟩
    have HC4 := Lib.hid hC4
    have ZZ := Z3.kept hg4 (by omega)
    have PP := P2.kept hg4 (by omega)
    have HG4 := Lib.hid (HG3.out.trans hg4)
    clear hC4 hg4 Z3 P2 HC3 HB3 HG3
    obtain ⟨zl, ⟨a0, a1, a2, a3, a4, a5⟩, af⟩ := ZZ
    obtain ⟨pl, ⟨b0, b1, b2, b3, b4, b5⟩, bf⟩ := PP
    simp only [Nat.zero_add, Nat.reduceAdd] at a0 a1 a2 a3 a4 a5 b0 b1 b2 b3 b4 b5
    have hne : ¬ w.heap.size = w2.heap.size := by omega
    have hne' : ¬ w2.heap.size = w.heap.size := by omega
    go_wp2_with fail
    refine bodyPost_ret (v := .agg #[.int .i64 5, .int .i64 y, .int .i64 0, .int .i64 0, .int .i64 q1, .int .i64 q2]) (by simp [results, Tryz.results49, go_sem, *]) rfl ⟨⟨5, y, 0, 0, q1, q2⟩, rfl, ?_, ?_⟩
    · repeat (with_reducible refine D.Cur.setCell ?_ _ _ ?_)
      all_goals (first | (with_reducible exact HC4.out) | (dsimp only; omega))
    · repeat (with_reducible refine grown_new ?_ _ _ ?_)
      all_goals (first | (with_reducible exact HG4.out) | (dsimp only; omega))
  · have P2 := pb_new w2 ⟨6, y, 0, 0, 0, 0⟩ 37
    have Z3 := Z2.kept (World.grownBy_alloc w2 (.cells #[.int .i64 6, .int .i64 y, .int .i64 0, .int .i64 0, .int .i64 0, .int .i64 0] 37) (some p)) (by omega)
    have HC3 := Lib.hid (HC2.out.alloc (.cells #[.int .i64 6, .int .i64 y, .int .i64 0, .int .i64 0, .int .i64 0, .int .i64 0] 37))
    have HB3 := Lib.hid (HB2.out.kept (World.grownBy_alloc w2 (.cells #[.int .i64 6, .int .i64 y, .int .i64 0, .int .i64 0, .int .i64 0, .int .i64 0] 37) (some p)))
    have HG3 := Lib.hid (HG2.out.trans (World.grownBy_alloc w2 (.cells #[.int .i64 6, .int .i64 y, .int .i64 0, .int .i64 0, .int .i64 0, .int .i64 0] 37) (some p)))
    simp only at P2
    clear Z2 HC2 HB2
    go_wp2_with fail
    refine (drawValue_any p v n _ HC3.out HB3.out).mono ?_
    rintro e w3 ⟨q1, q2, rfl, hC4, hg4⟩
    have HC4 := Lib.hid hC4
    have ZZ := Z3.kept hg4 (by omega)
    have PP := P2.kept hg4 (by omega)
    have HG4 := Lib.hid (HG3.out.trans hg4)
    clear hC4 hg4 Z3 P2 HC3 HB3 HG3
    obtain ⟨zl, ⟨a0, a1, a2, a3, a4, a5⟩, af⟩ := ZZ
    obtain ⟨pl, ⟨b0, b1, b2, b3, b4, b5⟩, bf⟩ := PP
    simp only [Nat.zero_add, Nat.reduceAdd] at a0 a1 a2 a3 a4 a5 b0 b1 b2 b3 b4 b5
    have hne : ¬ w.heap.size = w2.heap.size := by omega
    have hne' : ¬ w2.heap.size = w.heap.size := by omega
    go_wp2_with fail
    refine bodyPost_ret (v := .agg #[.int .i64 6, .int .i64 y, .int .i64 0, .int .i64 0, .int .i64 q1, .int .i64 q2]) (by simp [results, Tryz.results49, go_sem, *]) rfl ⟨⟨6, y, 0, 0, q1, q2⟩, rfl, ?_, ?_⟩
    · repeat (with_reducible refine D.Cur.setCell ?_ _ _ ?_)
      all_goals (first | (with_reducible exact HC4.out) | (dsimp only; omega))
    · repeat (with_reducible refine grown_new ?_ _ _ ?_)
      all_goals (first | (with_reducible exact HG4.out) | (dsimp only; omega))
  · have P2 := pb_new w2 ⟨7, y, 0, 0, 0, 0⟩ 37
    have Z3 := Z2.kept (World.grownBy_alloc w2 (.cells #[.int .i64 7, .int .i64 y, .int .i64 0, .int .i64 0, .int .i64 0, .int .i64 0] 37) (some p)) (by omega)
    have HC3 := Lib.hid (HC2.out.alloc (.cells #[.int .i64 7, .int .i64 y, .int .i64 0, .int .i64 0, .int .i64 0, .int .i64 0] 37))
    have HB3 := Lib.hid (HB2.out.kept (World.grownBy_alloc w2 (.cells #[.int .i64 7, .int .i64 y, .int .i64 0, .int .i64 0, .int .i64 0, .int .i64 0] 37) (some p)))
    have HG3 := Lib.hid (HG2.out.trans (World.grownBy_alloc w2 (.cells #[.int .i64 7, .int .i64 y, .int .i64 0, .int .i64 0, .int .i64 0, .int .i64 0] 37) (some p)))
    simp only at P2
    clear Z2 HC2 HB2
    go_wp2_with fail
    refine (drawValue_any p v n _ HC3.out HB3.out).mono ?_
    rintro e w3 ⟨q1, q2, rfl, hC4, hg4⟩
    have HC4 := Lib.hid hC4
    have ZZ := Z3.kept hg4 (by omega)
    have PP := P2.kept hg4 (by omega)
    have HG4 := Lib.hid (HG3.out.trans hg4)
    clear hC4 hg4 Z3 P2 HC3 HB3 HG3
    obtain ⟨zl, ⟨a0, a1, a2, a3, a4, a5⟩, af⟩ := ZZ
    obtain ⟨pl, ⟨b0, b1, b2, b3, b4, b5⟩, bf⟩ := PP
    simp only [Nat.zero_add, Nat.reduceAdd] at a0 a1 a2 a3 a4 a5 b0 b1 b2 b3 b4 b5
    have hne : ¬ w.heap.size = w2.heap.size := by omega
    have hne' : ¬ w2.heap.size = w.heap.size := by omega
    go_wp2_with fail
    refine bodyPost_ret (v := .agg #[.int .i64 7, .int .i64 y, .int .i64 q1, .int .i64 q2, .int .i64 0, .int .i64 0]) (by simp [results, Tryz.results49, go_sem, *]) rfl ⟨⟨7, y, q1, q2, 0, 0⟩, rfl, ?_, ?_⟩
    · repeat (with_reducible refine D.Cur.setCell ?_ _ _ ?_)
      all_goals (first | (with_reducible exact HC4.out) | (dsimp only; omega))
    · repeat (with_reducible refine grown_new ?_ _ _ ?_)
      all_goals (first | (with_reducible exact HG4.out) | (dsimp only; omega))
  · have P2 := pb_new w2 ⟨8, y, 0, 0, 0, 0⟩ 37
    have Z3 := Z2.kept (World.grownBy_alloc w2 (.cells #[.int .i64 8, .int .i64 y, .int .i64 0, .int .i64 0, .int .i64 0, .int .i64 0] 37) (some p)) (by omega)
    have HC3 := Lib.hid (HC2.out.alloc (.cells #[.int .i64 8, .int .i64 y, .int .i64 0, .int .i64 0, .int .i64 0, .int .i64 0] 37))
    have HB3 := Lib.hid (HB2.out.kept (World.grownBy_alloc w2 (.cells #[.int .i64 8, .int .i64 y, .int .i64 0, .int .i64 0, .int .i64 0, .int .i64 0] 37) (some p)))
    have HG3 := Lib.hid (HG2.out.trans (World.grownBy_alloc w2 (.cells #[.int .i64 8, .int .i64 y, .int .i64 0, .int .i64 0, .int .i64 0, .int .i64 0] 37) (some p)))
    simp only at P2
    have ZZ := Z2
    clear Z2 HB2
    clear Z3 P2
    obtain ⟨zl, ⟨a0, a1, a2, a3, a4, a5⟩, af⟩ := ZZ
    simp only [Nat.zero_add, Nat.reduceAdd] at a0 a1 a2 a3 a4 a5
    have hne : ¬ w.heap.size = w2.heap.size := by omega
    have hne' : ¬ w2.heap.size = w.heap.size := by omega
    go_wp2_with fail
    refine bodyPost_ret (v := .agg #[.int .i64 8, .int .i64 y, .int .i64 0, .int .i64 0, .int .i64 0, .int .i64 0]) (by simp [results, Tryz.results49, go_sem, *]) rfl ⟨⟨8, y, 0, 0, 0, 0⟩, rfl, ?_, ?_⟩
    · with_reducible refine D.Cur.alloc ?_ _
      repeat (with_reducible refine D.Cur.setCell ?_ _ _ ?_)
      all_goals (first | (with_reducible exact HC2.out) | (dsimp only; omega))
    · with_reducible refine grown_alloc ?_ _
      repeat (with_reducible refine grown_new ?_ _ _ ?_)
      all_goals (first | (with_reducible exact HG2.out) | (dsimp only; omega))

end L2
end Go.Proofs.YtkhjbhkbknennaaGreatDoor
