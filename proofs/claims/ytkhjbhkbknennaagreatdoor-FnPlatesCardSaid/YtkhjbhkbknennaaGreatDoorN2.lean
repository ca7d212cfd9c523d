/-
  Plates: the program's own test of one, and two held against each other (written by wip/gen_n2.py).
-/
import Derived.Test.YtkhjbhkbknennaaGreatDoorN1
import Derived.Lib.QuietBelow
import Derived.BigQuiet
namespace Go.Proofs.YtkhjbhkbknennaaGreatDoor
open Go.RowKit Go.Sort
namespace L2
open L1

theorem isOfKind_any (p : Pl) (w : World) :
    Calls Tryz.prog 65 #[plV p] w fun e w' => e = .returned (.bool (inB p.k 1 8)) ∧ Below w.heap.size w w' := by
  obtain ⟨k, a, b, c, d, e⟩ := p
  unfold plV
  simp only
  by_cases h1 : 1 ≤ k <;> by_cases h2 : k ≤ 8
  all_goals try (exfalso; omega)
  all_goals
    go_enter Tryz.func65, Tryz.ntmps65
    go_wp2
    go_ret
    refine ⟨by simp [inB, h1, h2], ?_⟩
    (repeat (first | (with_reducible refine Below.alloc ?_ ?_ _) | (with_reducible refine Below.setCell ?_ ?_ _) | (with_reducible refine Below.drew ?_) | (with_reducible exact Below.refl _ _) | (with_reducible refine Below.trans ?_ (Below.mono (by assumption) ?_)))) <;> (first | omega | (dsimp only; omega) | (simp; done) | (simp; omega) | (simp at *; omega))

set_option maxRecDepth 100000 in
set_option maxHeartbeats 4000000 in
theorem implPlateOk_yes (k a b c d e : Int) (w : World) (h1 : inB k 1 8 = true) (h2 : 0 ≤ a) (h3 : a < 60) (h4 : okB b c = true) (h5 : okB d e = true)
    (HK : Hid (∀ w, Calls Tryz.prog 65 #[.agg #[.int .i64 k, .int .i64 a, .int .i64 b, .int .i64 c, .int .i64 d, .int .i64 e]] w fun e w' => e = .returned (.bool true) ∧ Below w.heap.size w w'))
    (HO : Hid (∀ w, Calls Tryz.prog 66 #[.agg #[.int .i64 k, .int .i64 a, .int .i64 b, .int .i64 c, .int .i64 d, .int .i64 e]] w fun e' w' => e' = .returned (.agg #[.int .i64 k, .int .i64 a, .int .i64 (if argK k then b else 0), .int .i64 (if argK k then c else 0), .int .i64 (if valK k then d else 0), .int .i64 (if valK k then e else 0)]) ∧ Below w.heap.size w w'))
    (HA : Hid (∀ w, Calls Tryz.prog 33 #[.agg #[.int .i64 b, .int .i64 c]] w fun e w' => e = .returned (.bool true) ∧ Below w.heap.size w w'))
    (HB : Hid (∀ w, Calls Tryz.prog 33 #[.agg #[.int .i64 d, .int .i64 e]] w fun e w' => e = .returned (.bool true) ∧ Below w.heap.size w w')) :
    Calls Tryz.prog 21 #[.agg #[.int .i64 k, .int .i64 a, .int .i64 b, .int .i64 c, .int .i64 d, .int .i64 e]] w fun e' w' => e' = .returned (.bool (okPl ⟨k, a, b, c, d, e⟩)) ∧ Below w.heap.size w w' := by
  have HJ : Hid (okPl ⟨k, a, b, c, d, e⟩ = samePl ⟨k, a, b, c, d, e⟩ (ownPl ⟨k, a, b, c, d, e⟩)) := by
    show _ = _
    have : inB a 0 59 = true := by unfold inB; simp; omega
    rw [own_same]; unfold okPl; simp [h1, this, h4, h5]
  clear h4 h5
  have g2 : decide (0 ≤ a) = true := by simp [h2]
  have g3 : decide (a < 60) = true := by simp [h3]
  unfold ownPl samePl sameB at HJ
  dsimp only at HJ
  generalize (if argK k = true then b else 0) = b' at HO HJ
  generalize (if argK k = true then c else 0) = c' at HO HJ
  generalize (if valK k = true then d else 0) = d' at HO HJ
  generalize (if valK k = true then e else 0) = e' at HO HJ
  go_enter Tryz.func21, Tryz.ntmps21
  go_wp2_with fail
  have H0 : Below w.heap.size w (w.alloc (.cells #[.int .i64 k, .int .i64 a, .int .i64 b, .int .i64 c, .int .i64 d, .int .i64 e] 37)) := by (repeat (first | (with_reducible refine Below.alloc ?_ ?_ _) | (with_reducible refine Below.setCell ?_ ?_ _) | (with_reducible refine Below.drew ?_) | (with_reducible exact Below.refl _ _) | (with_reducible refine Below.trans ?_ (Below.mono (by assumption) ?_)))) <;> (first | omega | (dsimp only; omega) | (simp; done) | (simp; omega) | (simp at *; omega))
  have x0 : (w.alloc (.cells #[.int .i64 k, .int .i64 a, .int .i64 b, .int .i64 c, .int .i64 d, .int .i64 e] 37)).cell? ⟨w.heap.size, 0, none⟩ = some (.int .i64 k) := by simp [go_sem]
  have x1 : (w.alloc (.cells #[.int .i64 k, .int .i64 a, .int .i64 b, .int .i64 c, .int .i64 d, .int .i64 e] 37)).cell? ⟨w.heap.size, 1, none⟩ = some (.int .i64 a) := by simp [go_sem]
  have x2 : (w.alloc (.cells #[.int .i64 k, .int .i64 a, .int .i64 b, .int .i64 c, .int .i64 d, .int .i64 e] 37)).cell? ⟨w.heap.size, 2, none⟩ = some (.int .i64 b) := by simp [go_sem]
  have x3 : (w.alloc (.cells #[.int .i64 k, .int .i64 a, .int .i64 b, .int .i64 c, .int .i64 d, .int .i64 e] 37)).cell? ⟨w.heap.size, 3, none⟩ = some (.int .i64 c) := by simp [go_sem]
  have x4 : (w.alloc (.cells #[.int .i64 k, .int .i64 a, .int .i64 b, .int .i64 c, .int .i64 d, .int .i64 e] 37)).cell? ⟨w.heap.size, 4, none⟩ = some (.int .i64 d) := by simp [go_sem]
  have x5 : (w.alloc (.cells #[.int .i64 k, .int .i64 a, .int .i64 b, .int .i64 c, .int .i64 d, .int .i64 e] 37)).cell? ⟨w.heap.size, 5, none⟩ = some (.int .i64 e) := by simp [go_sem]
  generalize (w.alloc (.cells #[.int .i64 k, .int .i64 a, .int .i64 b, .int .i64 c, .int .i64 d, .int .i64 e] 37)) = W at H0 x0 x1 x2 x3 x4 x5 ⊢
  have x0' := cell_regrown x0
  have x1' := cell_regrown x1
  have x2' := cell_regrown x2
  have x3' := cell_regrown x3
  have x4' := cell_regrown x4
  have x5' := cell_regrown x5
  have cK := fun q os => Calls.regrown_of (d := q) (os := os) (HK.out (grow (redrawn W q) os))
  have cO := fun q os => Calls.regrown_of (d := q) (os := os) (HO.out (grow (redrawn W q) os))
  have cA := fun q os => Calls.regrown_of (d := q) (os := os) (HA.out (grow (redrawn W q) os))
  have cV := fun q os => Calls.regrown_of (d := q) (os := os) (HB.out (grow (redrawn W q) os))
  refine wp_region_quiet_below (by kernel_rfl) (by kernel_rfl) ?_
  repeat (go_big_quiet_step (first | (go_at_call 65; exact cK _ _) | (go_at_call 33; exact cA _ _) | (go_at_call 33; exact cV _ _) | (go_at_call 66; exact cO _ _)))
  refine wpQuiet_step (fun K hK => ?_)
  go_simp
  refine ⟨.bool (decide (b = b') && decide (c = c') && decide (d = d') && decide (e = e')), fun r => ?_, hK _ ?_⟩
  · by_cases qb : b = b' <;> by_cases qc : c = c' <;> by_cases qd : d = d' <;> by_cases qe : e = e' <;> simp [qb, qc, qd, qe]
  clear hK K
  repeat (go_big_quiet_step (fail))
  all_goals
    refine wpQuiet_nil ?_
    intro _ hw'
    obtain ⟨⟨dq, osq⟩, hw''⟩ := hw'
    have HQ := H0.trans ((below_regrown W dq osq).mono H0.size)
    rw [← hw''] at HQ
    clear hw'' H0 cK cO cA cV x0 x1 x2 x3 x4 x5 x0' x1' x2' x3' x4' x5'
    go_wp2_with fail
    go_ret
    exact ⟨by rw [HJ.out]; simp [Bool.and_assoc], HQ⟩
set_option maxRecDepth 100000 in
set_option maxHeartbeats 4000000 in
theorem implPlateOk_any (p : Pl) (w : World) :
    Calls Tryz.prog 21 #[plV p] w fun e w' => e = .returned (.bool (okPl p)) ∧ Below w.heap.size w w' := by
  have HK := Lib.hid (isOfKind_any p)
  have HO := Lib.hid (withItsOwn_any p)
  obtain ⟨k, a, b, c, d, e⟩ := p
  unfold plV at HK HO ⊢
  simp only [ownPl] at HK HO ⊢
  have HA := Lib.hid (implValueOk_any b c)
  have HB := Lib.hid (implValueOk_any d e)
  have HH : Hid (okPl ⟨k, a, b, c, d, e⟩ = (inB k 1 8 && (decide (0 ≤ a) && decide (a < 60)) && okB b c && okB d e && samePl ⟨k, a, b, c, d, e⟩ (ownPl ⟨k, a, b, c, d, e⟩))) := by
    show _ = _
    have : inB a 0 59 = (decide (0 ≤ a) && decide (a < 60)) := by unfold inB; rw [show decide (a ≤ 59) = decide (a < 60) from by simp; omega]
    rw [own_same]; unfold okPl; simp only [Bool.and_assoc, this]
  cases h1 : inB k 1 8
  · rw [h1] at HK
    have HF := Lib.hid (HH.out.trans (show _ = false by simp only [h1, Bool.false_and]))
    go_enter Tryz.func21, Tryz.ntmps21
    go_wp2_with fail
    have H0 : Below w.heap.size w (w.alloc (.cells #[.int .i64 k, .int .i64 a, .int .i64 b, .int .i64 c, .int .i64 d, .int .i64 e] 37)) := by (repeat (first | (with_reducible refine Below.alloc ?_ ?_ _) | (with_reducible refine Below.setCell ?_ ?_ _) | (with_reducible refine Below.drew ?_) | (with_reducible exact Below.refl _ _) | (with_reducible refine Below.trans ?_ (Below.mono (by assumption) ?_)))) <;> (first | omega | (dsimp only; omega) | (simp; done) | (simp; omega) | (simp at *; omega))
    have x0 : (w.alloc (.cells #[.int .i64 k, .int .i64 a, .int .i64 b, .int .i64 c, .int .i64 d, .int .i64 e] 37)).cell? ⟨w.heap.size, 0, none⟩ = some (.int .i64 k) := by simp [go_sem]
    have x1 : (w.alloc (.cells #[.int .i64 k, .int .i64 a, .int .i64 b, .int .i64 c, .int .i64 d, .int .i64 e] 37)).cell? ⟨w.heap.size, 1, none⟩ = some (.int .i64 a) := by simp [go_sem]
    have x2 : (w.alloc (.cells #[.int .i64 k, .int .i64 a, .int .i64 b, .int .i64 c, .int .i64 d, .int .i64 e] 37)).cell? ⟨w.heap.size, 2, none⟩ = some (.int .i64 b) := by simp [go_sem]
    have x3 : (w.alloc (.cells #[.int .i64 k, .int .i64 a, .int .i64 b, .int .i64 c, .int .i64 d, .int .i64 e] 37)).cell? ⟨w.heap.size, 3, none⟩ = some (.int .i64 c) := by simp [go_sem]
    have x4 : (w.alloc (.cells #[.int .i64 k, .int .i64 a, .int .i64 b, .int .i64 c, .int .i64 d, .int .i64 e] 37)).cell? ⟨w.heap.size, 4, none⟩ = some (.int .i64 d) := by simp [go_sem]
    have x5 : (w.alloc (.cells #[.int .i64 k, .int .i64 a, .int .i64 b, .int .i64 c, .int .i64 d, .int .i64 e] 37)).cell? ⟨w.heap.size, 5, none⟩ = some (.int .i64 e) := by simp [go_sem]
    generalize (w.alloc (.cells #[.int .i64 k, .int .i64 a, .int .i64 b, .int .i64 c, .int .i64 d, .int .i64 e] 37)) = W at H0 x0 x1 x2 x3 x4 x5 ⊢
    have x0' := cell_regrown x0
    have x1' := cell_regrown x1
    have x2' := cell_regrown x2
    have x3' := cell_regrown x3
    have x4' := cell_regrown x4
    have x5' := cell_regrown x5
    have cK := fun q os => Calls.regrown_of (d := q) (os := os) (HK.out (grow (redrawn W q) os))
    have cO := fun q os => Calls.regrown_of (d := q) (os := os) (HO.out (grow (redrawn W q) os))
    have cA := fun q os => Calls.regrown_of (d := q) (os := os) (HA.out (grow (redrawn W q) os))
    have cV := fun q os => Calls.regrown_of (d := q) (os := os) (HB.out (grow (redrawn W q) os))
    refine wp_region_quiet_below (by kernel_rfl) (by kernel_rfl) ?_
    repeat (go_big_quiet_step (first | (go_at_call 65; exact cK _ _) | (go_at_call 33; exact cA _ _) | (go_at_call 33; exact cV _ _) | (go_at_call 66; exact cO _ _)))
    all_goals
      refine wpQuiet_nil ?_
      intro _ hw'
      obtain ⟨⟨dq, osq⟩, hw''⟩ := hw'
      have HQ := H0.trans ((below_regrown W dq osq).mono H0.size)
      rw [← hw''] at HQ
      clear hw'' H0 cK cO cA cV x0 x1 x2 x3 x4 x5 x0' x1' x2' x3' x4' x5'
      go_wp2_with fail
      go_ret
      exact ⟨by rw [HF.out]; rfl, HQ⟩
  ·
    rw [h1] at HK
    by_cases h2 : 0 ≤ a
    case neg =>
      have g2 : decide (0 ≤ a) = false := by simp [h2]
      have HF := Lib.hid (HH.out.trans (show _ = false by simp only [h1, g2, Bool.true_and, Bool.false_and]))
      go_enter Tryz.func21, Tryz.ntmps21
      go_wp2_with fail
      have H0 : Below w.heap.size w (w.alloc (.cells #[.int .i64 k, .int .i64 a, .int .i64 b, .int .i64 c, .int .i64 d, .int .i64 e] 37)) := by (repeat (first | (with_reducible refine Below.alloc ?_ ?_ _) | (with_reducible refine Below.setCell ?_ ?_ _) | (with_reducible refine Below.drew ?_) | (with_reducible exact Below.refl _ _) | (with_reducible refine Below.trans ?_ (Below.mono (by assumption) ?_)))) <;> (first | omega | (dsimp only; omega) | (simp; done) | (simp; omega) | (simp at *; omega))
      have x0 : (w.alloc (.cells #[.int .i64 k, .int .i64 a, .int .i64 b, .int .i64 c, .int .i64 d, .int .i64 e] 37)).cell? ⟨w.heap.size, 0, none⟩ = some (.int .i64 k) := by simp [go_sem]
      have x1 : (w.alloc (.cells #[.int .i64 k, .int .i64 a, .int .i64 b, .int .i64 c, .int .i64 d, .int .i64 e] 37)).cell? ⟨w.heap.size, 1, none⟩ = some (.int .i64 a) := by simp [go_sem]
      have x2 : (w.alloc (.cells #[.int .i64 k, .int .i64 a, .int .i64 b, .int .i64 c, .int .i64 d, .int .i64 e] 37)).cell? ⟨w.heap.size, 2, none⟩ = some (.int .i64 b) := by simp [go_sem]
      have x3 : (w.alloc (.cells #[.int .i64 k, .int .i64 a, .int .i64 b, .int .i64 c, .int .i64 d, .int .i64 e] 37)).cell? ⟨w.heap.size, 3, none⟩ = some (.int .i64 c) := by simp [go_sem]
      have x4 : (w.alloc (.cells #[.int .i64 k, .int .i64 a, .int .i64 b, .int .i64 c, .int .i64 d, .int .i64 e] 37)).cell? ⟨w.heap.size, 4, none⟩ = some (.int .i64 d) := by simp [go_sem]
      have x5 : (w.alloc (.cells #[.int .i64 k, .int .i64 a, .int .i64 b, .int .i64 c, .int .i64 d, .int .i64 e] 37)).cell? ⟨w.heap.size, 5, none⟩ = some (.int .i64 e) := by simp [go_sem]
      generalize (w.alloc (.cells #[.int .i64 k, .int .i64 a, .int .i64 b, .int .i64 c, .int .i64 d, .int .i64 e] 37)) = W at H0 x0 x1 x2 x3 x4 x5 ⊢
      have x0' := cell_regrown x0
      have x1' := cell_regrown x1
      have x2' := cell_regrown x2
      have x3' := cell_regrown x3
      have x4' := cell_regrown x4
      have x5' := cell_regrown x5
      have cK := fun q os => Calls.regrown_of (d := q) (os := os) (HK.out (grow (redrawn W q) os))
      have cO := fun q os => Calls.regrown_of (d := q) (os := os) (HO.out (grow (redrawn W q) os))
      have cA := fun q os => Calls.regrown_of (d := q) (os := os) (HA.out (grow (redrawn W q) os))
      have cV := fun q os => Calls.regrown_of (d := q) (os := os) (HB.out (grow (redrawn W q) os))
      refine wp_region_quiet_below (by kernel_rfl) (by kernel_rfl) ?_
      repeat (go_big_quiet_step (first | (go_at_call 65; exact cK _ _) | (go_at_call 33; exact cA _ _) | (go_at_call 33; exact cV _ _) | (go_at_call 66; exact cO _ _)))
      all_goals
        refine wpQuiet_nil ?_
        intro _ hw'
        obtain ⟨⟨dq, osq⟩, hw''⟩ := hw'
        have HQ := H0.trans ((below_regrown W dq osq).mono H0.size)
        rw [← hw''] at HQ
        clear hw'' H0 cK cO cA cV x0 x1 x2 x3 x4 x5 x0' x1' x2' x3' x4' x5'
        go_wp2_with fail
        go_ret
        exact ⟨by rw [HF.out]; rfl, HQ⟩
    have g2 : decide (0 ≤ a) = true := by simp [h2]
    by_cases h3 : a < 60
    case neg =>
      have g3 : decide (a < 60) = false := by simp [h3]
      have HF := Lib.hid (HH.out.trans (show _ = false by simp only [h1, g2, g3, Bool.and_false, Bool.false_and]))
      go_enter Tryz.func21, Tryz.ntmps21
      go_wp2_with fail
      have H0 : Below w.heap.size w (w.alloc (.cells #[.int .i64 k, .int .i64 a, .int .i64 b, .int .i64 c, .int .i64 d, .int .i64 e] 37)) := by (repeat (first | (with_reducible refine Below.alloc ?_ ?_ _) | (with_reducible refine Below.setCell ?_ ?_ _) | (with_reducible refine Below.drew ?_) | (with_reducible exact Below.refl _ _) | (with_reducible refine Below.trans ?_ (Below.mono (by assumption) ?_)))) <;> (first | omega | (dsimp only; omega) | (simp; done) | (simp; omega) | (simp at *; omega))
      have x0 : (w.alloc (.cells #[.int .i64 k, .int .i64 a, .int .i64 b, .int .i64 c, .int .i64 d, .int .i64 e] 37)).cell? ⟨w.heap.size, 0, none⟩ = some (.int .i64 k) := by simp [go_sem]
      have x1 : (w.alloc (.cells #[.int .i64 k, .int .i64 a, .int .i64 b, .int .i64 c, .int .i64 d, .int .i64 e] 37)).cell? ⟨w.heap.size, 1, none⟩ = some (.int .i64 a) := by simp [go_sem]
      have x2 : (w.alloc (.cells #[.int .i64 k, .int .i64 a, .int .i64 b, .int .i64 c, .int .i64 d, .int .i64 e] 37)).cell? ⟨w.heap.size, 2, none⟩ = some (.int .i64 b) := by simp [go_sem]
      have x3 : (w.alloc (.cells #[.int .i64 k, .int .i64 a, .int .i64 b, .int .i64 c, .int .i64 d, .int .i64 e] 37)).cell? ⟨w.heap.size, 3, none⟩ = some (.int .i64 c) := by simp [go_sem]
      have x4 : (w.alloc (.cells #[.int .i64 k, .int .i64 a, .int .i64 b, .int .i64 c, .int .i64 d, .int .i64 e] 37)).cell? ⟨w.heap.size, 4, none⟩ = some (.int .i64 d) := by simp [go_sem]
      have x5 : (w.alloc (.cells #[.int .i64 k, .int .i64 a, .int .i64 b, .int .i64 c, .int .i64 d, .int .i64 e] 37)).cell? ⟨w.heap.size, 5, none⟩ = some (.int .i64 e) := by simp [go_sem]
      generalize (w.alloc (.cells #[.int .i64 k, .int .i64 a, .int .i64 b, .int .i64 c, .int .i64 d, .int .i64 e] 37)) = W at H0 x0 x1 x2 x3 x4 x5 ⊢
      have x0' := cell_regrown x0
      have x1' := cell_regrown x1
      have x2' := cell_regrown x2
      have x3' := cell_regrown x3
      have x4' := cell_regrown x4
      have x5' := cell_regrown x5
      have cK := fun q os => Calls.regrown_of (d := q) (os := os) (HK.out (grow (redrawn W q) os))
      have cO := fun q os => Calls.regrown_of (d := q) (os := os) (HO.out (grow (redrawn W q) os))
      have cA := fun q os => Calls.regrown_of (d := q) (os := os) (HA.out (grow (redrawn W q) os))
      have cV := fun q os => Calls.regrown_of (d := q) (os := os) (HB.out (grow (redrawn W q) os))
      refine wp_region_quiet_below (by kernel_rfl) (by kernel_rfl) ?_
      repeat (go_big_quiet_step (first | (go_at_call 65; exact cK _ _) | (go_at_call 33; exact cA _ _) | (go_at_call 33; exact cV _ _) | (go_at_call 66; exact cO _ _)))
      all_goals
        refine wpQuiet_nil ?_
        intro _ hw'
        obtain ⟨⟨dq, osq⟩, hw''⟩ := hw'
        have HQ := H0.trans ((below_regrown W dq osq).mono H0.size)
        rw [← hw''] at HQ
        clear hw'' H0 cK cO cA cV x0 x1 x2 x3 x4 x5 x0' x1' x2' x3' x4' x5'
        go_wp2_with fail
        go_ret
        exact ⟨by rw [HF.out]; rfl, HQ⟩
    have g3 : decide (a < 60) = true := by simp [h3]
    cases h4 : okB b c
    case false =>
      rw [h4] at HA
      have HF := Lib.hid (HH.out.trans (show _ = false by simp only [h1, g2, g3, h4, Bool.and_false, Bool.false_and]))
      go_enter Tryz.func21, Tryz.ntmps21
      go_wp2_with fail
      have H0 : Below w.heap.size w (w.alloc (.cells #[.int .i64 k, .int .i64 a, .int .i64 b, .int .i64 c, .int .i64 d, .int .i64 e] 37)) := by (repeat (first | (with_reducible refine Below.alloc ?_ ?_ _) | (with_reducible refine Below.setCell ?_ ?_ _) | (with_reducible refine Below.drew ?_) | (with_reducible exact Below.refl _ _) | (with_reducible refine Below.trans ?_ (Below.mono (by assumption) ?_)))) <;> (first | omega | (dsimp only; omega) | (simp; done) | (simp; omega) | (simp at *; omega))
      have x0 : (w.alloc (.cells #[.int .i64 k, .int .i64 a, .int .i64 b, .int .i64 c, .int .i64 d, .int .i64 e] 37)).cell? ⟨w.heap.size, 0, none⟩ = some (.int .i64 k) := by simp [go_sem]
      have x1 : (w.alloc (.cells #[.int .i64 k, .int .i64 a, .int .i64 b, .int .i64 c, .int .i64 d, .int .i64 e] 37)).cell? ⟨w.heap.size, 1, none⟩ = some (.int .i64 a) := by simp [go_sem]
      have x2 : (w.alloc (.cells #[.int .i64 k, .int .i64 a, .int .i64 b, .int .i64 c, .int .i64 d, .int .i64 e] 37)).cell? ⟨w.heap.size, 2, none⟩ = some (.int .i64 b) := by simp [go_sem]
      have x3 : (w.alloc (.cells #[.int .i64 k, .int .i64 a, .int .i64 b, .int .i64 c, .int .i64 d, .int .i64 e] 37)).cell? ⟨w.heap.size, 3, none⟩ = some (.int .i64 c) := by simp [go_sem]
      have x4 : (w.alloc (.cells #[.int .i64 k, .int .i64 a, .int .i64 b, .int .i64 c, .int .i64 d, .int .i64 e] 37)).cell? ⟨w.heap.size, 4, none⟩ = some (.int .i64 d) := by simp [go_sem]
      have x5 : (w.alloc (.cells #[.int .i64 k, .int .i64 a, .int .i64 b, .int .i64 c, .int .i64 d, .int .i64 e] 37)).cell? ⟨w.heap.size, 5, none⟩ = some (.int .i64 e) := by simp [go_sem]
      generalize (w.alloc (.cells #[.int .i64 k, .int .i64 a, .int .i64 b, .int .i64 c, .int .i64 d, .int .i64 e] 37)) = W at H0 x0 x1 x2 x3 x4 x5 ⊢
      have x0' := cell_regrown x0
      have x1' := cell_regrown x1
      have x2' := cell_regrown x2
      have x3' := cell_regrown x3
      have x4' := cell_regrown x4
      have x5' := cell_regrown x5
      have cK := fun q os => Calls.regrown_of (d := q) (os := os) (HK.out (grow (redrawn W q) os))
      have cO := fun q os => Calls.regrown_of (d := q) (os := os) (HO.out (grow (redrawn W q) os))
      have cA := fun q os => Calls.regrown_of (d := q) (os := os) (HA.out (grow (redrawn W q) os))
      have cV := fun q os => Calls.regrown_of (d := q) (os := os) (HB.out (grow (redrawn W q) os))
      refine wp_region_quiet_below (by kernel_rfl) (by kernel_rfl) ?_
      repeat (go_big_quiet_step (first | (go_at_call 65; exact cK _ _) | (go_at_call 33; exact cA _ _) | (go_at_call 33; exact cV _ _) | (go_at_call 66; exact cO _ _)))
      all_goals
        refine wpQuiet_nil ?_
        intro _ hw'
        obtain ⟨⟨dq, osq⟩, hw''⟩ := hw'
        have HQ := H0.trans ((below_regrown W dq osq).mono H0.size)
        rw [← hw''] at HQ
        clear hw'' H0 cK cO cA cV x0 x1 x2 x3 x4 x5 x0' x1' x2' x3' x4' x5'
        go_wp2_with fail
        go_ret
        exact ⟨by rw [HF.out]; rfl, HQ⟩
    rw [h4] at HA
    cases h5 : okB d e
    case false =>
      rw [h5] at HB
      have HF := Lib.hid (HH.out.trans (show _ = false by simp only [h1, g2, g3, h4, h5, Bool.and_false, Bool.false_and]))
      go_enter Tryz.func21, Tryz.ntmps21
      go_wp2_with fail
      have H0 : Below w.heap.size w (w.alloc (.cells #[.int .i64 k, .int .i64 a, .int .i64 b, .int .i64 c, .int .i64 d, .int .i64 e] 37)) := by (repeat (first | (with_reducible refine Below.alloc ?_ ?_ _) | (with_reducible refine Below.setCell ?_ ?_ _) | (with_reducible refine Below.drew ?_) | (with_reducible exact Below.refl _ _) | (with_reducible refine Below.trans ?_ (Below.mono (by assumption) ?_)))) <;> (first | omega | (dsimp only; omega) | (simp; done) | (simp; omega) | (simp at *; omega))
      have x0 : (w.alloc (.cells #[.int .i64 k, .int .i64 a, .int .i64 b, .int .i64 c, .int .i64 d, .int .i64 e] 37)).cell? ⟨w.heap.size, 0, none⟩ = some (.int .i64 k) := by simp [go_sem]
      have x1 : (w.alloc (.cells #[.int .i64 k, .int .i64 a, .int .i64 b, .int .i64 c, .int .i64 d, .int .i64 e] 37)).cell? ⟨w.heap.size, 1, none⟩ = some (.int .i64 a) := by simp [go_sem]
      have x2 : (w.alloc (.cells #[.int .i64 k, .int .i64 a, .int .i64 b, .int .i64 c, .int .i64 d, .int .i64 e] 37)).cell? ⟨w.heap.size, 2, none⟩ = some (.int .i64 b) := by simp [go_sem]
      have x3 : (w.alloc (.cells #[.int .i64 k, .int .i64 a, .int .i64 b, .int .i64 c, .int .i64 d, .int .i64 e] 37)).cell? ⟨w.heap.size, 3, none⟩ = some (.int .i64 c) := by simp [go_sem]
      have x4 : (w.alloc (.cells #[.int .i64 k, .int .i64 a, .int .i64 b, .int .i64 c, .int .i64 d, .int .i64 e] 37)).cell? ⟨w.heap.size, 4, none⟩ = some (.int .i64 d) := by simp [go_sem]
      have x5 : (w.alloc (.cells #[.int .i64 k, .int .i64 a, .int .i64 b, .int .i64 c, .int .i64 d, .int .i64 e] 37)).cell? ⟨w.heap.size, 5, none⟩ = some (.int .i64 e) := by simp [go_sem]
      generalize (w.alloc (.cells #[.int .i64 k, .int .i64 a, .int .i64 b, .int .i64 c, .int .i64 d, .int .i64 e] 37)) = W at H0 x0 x1 x2 x3 x4 x5 ⊢
      have x0' := cell_regrown x0
      have x1' := cell_regrown x1
      have x2' := cell_regrown x2
      have x3' := cell_regrown x3
      have x4' := cell_regrown x4
      have x5' := cell_regrown x5
      have cK := fun q os => Calls.regrown_of (d := q) (os := os) (HK.out (grow (redrawn W q) os))
      have cO := fun q os => Calls.regrown_of (d := q) (os := os) (HO.out (grow (redrawn W q) os))
      have cA := fun q os => Calls.regrown_of (d := q) (os := os) (HA.out (grow (redrawn W q) os))
      have cV := fun q os => Calls.regrown_of (d := q) (os := os) (HB.out (grow (redrawn W q) os))
      refine wp_region_quiet_below (by kernel_rfl) (by kernel_rfl) ?_
      repeat (go_big_quiet_step (first | (go_at_call 65; exact cK _ _) | (go_at_call 33; exact cA _ _) | (go_at_call 33; exact cV _ _) | (go_at_call 66; exact cO _ _)))
      all_goals
        refine wpQuiet_nil ?_
        intro _ hw'
        obtain ⟨⟨dq, osq⟩, hw''⟩ := hw'
        have HQ := H0.trans ((below_regrown W dq osq).mono H0.size)
        rw [← hw''] at HQ
        clear hw'' H0 cK cO cA cV x0 x1 x2 x3 x4 x5 x0' x1' x2' x3' x4' x5'
        go_wp2_with fail
        go_ret
        exact ⟨by rw [HF.out]; rfl, HQ⟩
    rw [h5] at HB
    exact implPlateOk_yes k a b c d e w h1 h2 h3 h4 h5 HK HO HA HB

theorem isWrongPlate_any (p : Pl) (w : World) :
    Calls Tryz.prog 69 #[plV p] w fun e w' => e = .returned (.bool (!okPl p)) ∧ Below w.heap.size w w' := by
  have H := Lib.hid (implPlateOk_any p)
  obtain ⟨k, a, b, c, d, e⟩ := p
  unfold plV at H ⊢
  simp only at H ⊢
  generalize okPl ⟨k, a, b, c, d, e⟩ = q at H ⊢
  go_enter Tryz.func69, Tryz.ntmps69
  go_wp2_with fail
  refine (H.out _).mono ?_
  rintro e' w1 ⟨rfl, hb1⟩
  go_wp2_with fail
  go_ret
  refine ⟨rfl, ?_⟩
  (repeat (first | (with_reducible refine Below.alloc ?_ ?_ _) | (with_reducible refine Below.setCell ?_ ?_ _) | (with_reducible refine Below.drew ?_) | (with_reducible exact Below.refl _ _) | (with_reducible refine Below.trans ?_ (Below.mono (by assumption) ?_)))) <;> (first | omega | (dsimp only; omega) | (simp; done) | (simp; omega) | (simp at *; omega))

end L2
end Go.Proofs.YtkhjbhkbknennaaGreatDoor
