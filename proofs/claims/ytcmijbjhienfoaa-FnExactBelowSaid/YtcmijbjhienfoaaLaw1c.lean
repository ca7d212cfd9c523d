/-
  The walk of chapter 1's exact law on comparisons: it returns true, and nothing that was there turns.
-/
import Derived.Test.YtcmijbjhienfoaaLaw1b
namespace Go.Proofs.Ytcmijbjhienfoaa
open Go.RowKit
attribute [local go_sem ↓] Go.wp_at_zero Go.wp_at_succ
namespace L1

set_option maxHeartbeats 4000000 in
theorem lawBelow (a b c d : Int) (w : World) :
    Calls Try.prog 6 #[.agg #[.int .i64 a, .int .i64 b], .agg #[.int .i64 c, .int .i64 d]] w fun e w' => e = .returned (.bool true) ∧ Below w.heap.size w w' := by
  have hlt2 : w.heap.size < w.heap.size + 1 + 1 := by omega
  go_enter Try.func6, Try.ntmps6
  go_upto_region 1 with fail
  go_cut [5, 6] (fun s5 s6 wx => Mid w a b c d (lssN a b c d) (numB a b && numB c d) s5 s6 wx)
  case first =>
    go_region_held3 (fun w' => w'.cell? ⟨w.heap.size, 0, none⟩ = some (.int .i64 a) ∧ w'.cell? ⟨w.heap.size, 1, none⟩ = some (.int .i64 b) ∧ w'.cell? ⟨w.heap.size + 1, 0, none⟩ = some (.int .i64 c) ∧ w'.cell? ⟨w.heap.size + 1, 1, none⟩ = some (.int .i64 d) ∧ w.heap.size < w'.heap.size ∧ w.heap.size + 1 < w'.heap.size ∧ w'.heap.size ≠ w.heap.size ∧ w'.heap.size ≠ w.heap.size + 1)
      (((try dsimp only); refine ⟨?_, ?_, ?_, ?_, ?_, ?_, ?_, ?_⟩ <;> first | omega | (simp; omega) | (simp [*, World.cell?_alloc_some]; done) | (go_split_ands; exact cell_far2 (by assumption) (by omega))))
      (first | (go_at_call 9; refine (toValue_any _ _ _).mono ?_; rintro e w1 ⟨rfl, hb1⟩; have hs1 := hb1.size; have c00 := (bcell hb1).1 (w.heap.size) 0 (by first | omega | (simp; omega) | (simp at *; omega)); have c01 := (bcell hb1).1 (w.heap.size) 1 (by first | omega | (simp; omega) | (simp at *; omega)); have c10 := (bcell hb1).1 (w.heap.size + 1) 0 (by first | omega | (simp; omega) | (simp at *; omega)); have c11 := (bcell hb1).1 (w.heap.size + 1) 1 (by first | omega | (simp; omega) | (simp at *; omega)); have hz0 : w.heap.size < w1.heap.size := (by first | omega | (simp at hs1; omega)); have hz1 : w.heap.size + 1 < w1.heap.size := (by first | omega | (simp at hs1; omega)); (try (have hbb := bcomp1 (by assumption) hb1; clear hb1; have hb1 := hbb; clear hbb)); obtain ⟨hc1, hf1⟩ := bcell hb1) | (go_at_call 16; refine (specBelow_any _ _ _ _ _).mono ?_; rintro e w1 ⟨rfl, hb1⟩; have hs1 := hb1.size; have c00 := (bcell hb1).1 (w.heap.size) 0 (by first | omega | (simp; omega) | (simp at *; omega)); have c01 := (bcell hb1).1 (w.heap.size) 1 (by first | omega | (simp; omega) | (simp at *; omega)); have c10 := (bcell hb1).1 (w.heap.size + 1) 0 (by first | omega | (simp; omega) | (simp at *; omega)); have c11 := (bcell hb1).1 (w.heap.size + 1) 1 (by first | omega | (simp; omega) | (simp at *; omega)); have hz0 : w.heap.size < w1.heap.size := (by first | omega | (simp at hs1; omega)); have hz1 : w.heap.size + 1 < w1.heap.size := (by first | omega | (simp at hs1; omega)); (try (have hbb := bcomp1 (by assumption) hb1; clear hb1; have hb1 := hbb; clear hbb)); obtain ⟨hc1, hf1⟩ := bcell hb1))
    all_goals
      go_wp2_with fail
      go_meet
      go_light
      refine ⟨_, rfl, rfl, ?_, ?_, ?_, ?_, ?_, ?_, ?_, ?_, ?_⟩
      rotate_right 1
      · clear hc1 hf1
        (repeat (first | exact Below.refl _ _ | refine Below.drew ?_ | refine Below.alloc ?_ ?_ _ | refine Below.setCell ?_ ?_ _ | refine Below.trans ?_ (Below.mono (by assumption) ?_))) <;> (first | omega | (simp at *; done) | (simp at *; omega))
      all_goals first | omega | (simp; omega) | (go_split_ands; exact cell_far2 (by assumption) (by omega)) | (simp [*]; done) | exact (cell_two (by simp [hc1, go_sem]) (by simp [hc1, go_sem])).1 | exact (cell_two (by simp [hc1, go_sem]) (by simp [hc1, go_sem])).2 | (have := hb1.size; simp at this ⊢; omega)
  case rest =>
    obtain ⟨g, rfl, rfl, h0, h1, e0, e1, e2, e3, hg, hgs, hbw⟩ := hcut
    have hx0 : w.heap.size < wc.heap.size := by omega
    have hx1 : w.heap.size + 1 < wc.heap.size := by omega
    have hx2 : wc.heap.size ≠ w.heap.size := by omega
    have hx3 : wc.heap.size ≠ w.heap.size + 1 := by omega
    clear hlt2
    go_upto_region 2 with fail
    go_cut [7, 8] (fun s7 s8 wx => Mid2 w g (lssN a b c d) (numB a b && numB c d) s7 s8 wx)
    case first =>
      go_region_held3 (fun w' => w'.cell? ⟨w.heap.size, 0, none⟩ = some (.int .i64 a) ∧ w'.cell? ⟨w.heap.size, 1, none⟩ = some (.int .i64 b) ∧ w'.cell? ⟨w.heap.size + 1, 0, none⟩ = some (.int .i64 c) ∧ w'.cell? ⟨w.heap.size + 1, 1, none⟩ = some (.int .i64 d) ∧ w'.cell? ⟨g, 0, none⟩ = some (.int .i64 0) ∧ w'.cell? ⟨g, 1, none⟩ = some (.int .i64 (lssN a b c d)) ∧ w.heap.size < w'.heap.size ∧ w.heap.size + 1 < w'.heap.size ∧ g < w'.heap.size ∧ w'.heap.size ≠ w.heap.size ∧ w'.heap.size ≠ w.heap.size + 1 ∧ w'.heap.size ≠ g)
        (((try dsimp only); refine ⟨?_, ?_, ?_, ?_, ?_, ?_, ?_, ?_, ?_, ?_, ?_, ?_⟩ <;> first | omega | (simp; omega) | (simp [*, World.cell?_alloc_some]; done) | (go_split_ands; exact cell_far2 (by assumption) (by omega))))
        (first | (go_at_call 9; refine (toValue_any _ _ _).mono ?_; rintro e w1 ⟨rfl, hb1⟩; have hs1 := hb1.size; have c00 := (bcell hb1).1 (w.heap.size) 0 (by first | omega | (simp; omega) | (simp at *; omega)); have c01 := (bcell hb1).1 (w.heap.size) 1 (by first | omega | (simp; omega) | (simp at *; omega)); have c10 := (bcell hb1).1 (w.heap.size + 1) 0 (by first | omega | (simp; omega) | (simp at *; omega)); have c11 := (bcell hb1).1 (w.heap.size + 1) 1 (by first | omega | (simp; omega) | (simp at *; omega)); have hz0 : w.heap.size < w1.heap.size := (by first | omega | (simp at hs1; omega)); have hz1 : w.heap.size + 1 < w1.heap.size := (by first | omega | (simp at hs1; omega)); have cg0 := (bcell hb1).1 g 0 (by first | omega | (simp; omega) | (simp at *; omega)); have cg1 := (bcell hb1).1 g 1 (by first | omega | (simp; omega) | (simp at *; omega)); have hzg : g < w1.heap.size := (by first | omega | (simp at hs1; omega)); (try (have hbb := bcomp1 (by assumption) hb1; clear hb1; have hb1 := hbb; clear hbb)); obtain ⟨hc1, hf1⟩ := bcell hb1) | (go_at_call 17; refine (implBelow_any _ _ _ _ _).mono ?_; rintro e w1 ⟨rfl, hb1⟩; have hs1 := hb1.size; have c00 := (bcell hb1).1 (w.heap.size) 0 (by first | omega | (simp; omega) | (simp at *; omega)); have c01 := (bcell hb1).1 (w.heap.size) 1 (by first | omega | (simp; omega) | (simp at *; omega)); have c10 := (bcell hb1).1 (w.heap.size + 1) 0 (by first | omega | (simp; omega) | (simp at *; omega)); have c11 := (bcell hb1).1 (w.heap.size + 1) 1 (by first | omega | (simp; omega) | (simp at *; omega)); have hz0 : w.heap.size < w1.heap.size := (by first | omega | (simp at hs1; omega)); have hz1 : w.heap.size + 1 < w1.heap.size := (by first | omega | (simp at hs1; omega)); have cg0 := (bcell hb1).1 g 0 (by first | omega | (simp; omega) | (simp at *; omega)); have cg1 := (bcell hb1).1 g 1 (by first | omega | (simp; omega) | (simp at *; omega)); have hzg : g < w1.heap.size := (by first | omega | (simp at hs1; omega)); (try (have hbb := bcomp1 (by assumption) hb1; clear hb1; have hb1 := hbb; clear hbb)); obtain ⟨hc1, hf1⟩ := bcell hb1))
      all_goals
        go_wp2_with fail
        go_meet
        go_light
        refine ⟨_, rfl, rfl, ?_, ?_, ?_, ?_, ?_⟩
        rotate_right 1
        · clear hc1 hf1
          (repeat (first | exact Below.refl _ _ | refine Below.drew ?_ | refine Below.alloc ?_ ?_ _ | refine Below.setCell ?_ ?_ _ | refine Below.trans ?_ (Below.mono (by assumption) ?_))) <;> (first | omega | (simp at *; done) | (simp at *; omega))
        all_goals first | omega | (simp; omega) | (go_split_ands; exact cell_far2 (by assumption) (by omega)) | (simp [*]; done) | exact (cell_two (by simp [hc1, go_sem]) (by simp [hc1, go_sem])).1 | exact (cell_two (by simp [hc1, go_sem]) (by simp [hc1, go_sem])).2 | (have := hb1.size; simp at this ⊢; omega)
    case rest =>
      obtain ⟨h, rfl, rfl, f0, f1, f2, f3, hbv⟩ := hcut
      have hs := sameB_refl 0 (lssN a b c d)
      cases hn : (numB a b && numB c d)
      all_goals
        go_wp2_with (go_at_call 13; refine (eqValue_any _ _ _ _ _).mono ?_; rintro e w1 ⟨rfl, hb1⟩)
        go_ret
        refine ⟨by simp, ?_⟩
        exact hbv.trans (hb1.mono hbv.size)

end L1
end Go.Proofs.Ytcmijbjhienfoaa
