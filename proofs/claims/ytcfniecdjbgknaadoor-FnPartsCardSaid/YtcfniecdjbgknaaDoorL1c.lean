/-
  Chapter 1: sums and comparisons of numbers, each by a contract of its own.
-/
import Derived.Test.YtcfniecdjbgknaaDoorL1b
import Derived.Deep.RegionWith
namespace Go.Proofs.YtcfniecdjbgknaaDoor
open Go.RowKit
namespace L1

def addN (a b c d : Int) : Int := if numB a b && numB c d then clampI (b + d) else 0
def lssN (a b c d : Int) : Int := if numB a b && numB c d then (if b < d then 1 else 0) else 0

theorem num_bd {k n : Int} (h : numB k n = true) : k = 0 ∧ -1000000 ≤ n ∧ n ≤ 1000000 := by
  simpa [numB, inB] using h
theorem clamp0 : clampI 0 = 0 := rfl
theorem clamp1 : clampI 1 = 1 := rfl
theorem addN_no {a b c d : Int} (h : (numB a b && numB c d) = false) : addN a b c d = 0 := by unfold addN; rw [h]; rfl
theorem addN_yes {a b c d : Int} (h : (numB a b && numB c d) = true) : addN a b c d = clampI (b + d) := by unfold addN; rw [h]; rfl
theorem lssN_no {a b c d : Int} (h : (numB a b && numB c d) = false) : lssN a b c d = 0 := by unfold lssN; rw [h]; rfl
theorem lssN_yes {a b c d : Int} (h : (numB a b && numB c d) = true) : lssN a b c d = if b < d then 1 else 0 := by unfold lssN; rw [h]; rfl

set_option maxHeartbeats 1000000 in
theorem specAdded_any (a b c d : Int) (w : World) :
    Calls Tryd.prog 31 #[.agg #[.int .i64 a, .int .i64 b], .agg #[.int .i64 c, .int .i64 d]] w fun e w' => e = .returned (.tuple #[.agg #[.int .i64 0, .int .i64 (addN a b c d)], .bool (numB a b && numB c d)]) ∧ Below w.heap.size w w' := by
  cases hn : (numB a b && numB c d)
  · rw [addN_no hn]
    go_enter Tryd.func31, Tryd.ntmps31
    go_wp2_with (go_at_call 76; refine (l1Numbers_any _ _ _ _ _).mono ?_; rintro e w1 ⟨rfl, hb1⟩; have hs1 := hb1.size; obtain ⟨hc1, hf1⟩ := bcell hb1; have hz0 : w.heap.size < w1.heap.size := (by clear hc1 hf1; (try simp at hs1); omega); have hz1 : w.heap.size + 1 < w1.heap.size := (by clear hc1 hf1; (try simp at hs1); omega); have hz2 : w.heap.size + 1 + 1 < w1.heap.size := (by clear hc1 hf1; (try simp at hs1); omega))
    refine bodyPost_ret (v := .tuple #[.agg #[.int .i64 0, .int .i64 0], .bool false]) (by simp [results, Tryd.results31, go_sem, *]) rfl ⟨rfl, ?_⟩
    clear hc1 hf1
    (repeat (first | exact Below.refl _ _ | refine Below.drew ?_ | refine Below.alloc ?_ ?_ _ | refine Below.setCell ?_ ?_ _ | refine Below.trans ?_ (Below.mono (by assumption) ?_))) <;> (first | omega | (simp at *; done) | (simp at *; omega))
  · rw [addN_yes hn]
    have hb := num_bd (Bool.and_eq_true_iff.1 hn).1
    have hd := num_bd (Bool.and_eq_true_iff.1 hn).2
    obtain ⟨rfl, hb1, hb2⟩ := hb
    obtain ⟨rfl, hd1, hd2⟩ := hd
    go_enter Tryd.func31, Tryd.ntmps31
    go_wp2_with (first | (go_at_call 76; refine (l1Numbers_any _ _ _ _ _).mono ?_; rintro e w1 ⟨rfl, hb1⟩; have hs1 := hb1.size; obtain ⟨hc1, hf1⟩ := bcell hb1; have hz0 : w.heap.size < w1.heap.size := (by clear hc1 hf1; (try simp at hs1); omega); have hz1 : w.heap.size + 1 < w1.heap.size := (by clear hc1 hf1; (try simp at hs1); omega); have hz2 : w.heap.size + 1 + 1 < w1.heap.size := (by clear hc1 hf1; (try simp at hs1); omega)) | (go_at_call 28; refine (specNumber_any _ _).mono ?_; rintro e w1 ⟨rfl, hb1⟩; have hs1 := hb1.size; obtain ⟨hc1, hf1⟩ := bcell hb1; have hz0 : w.heap.size < w1.heap.size := (by clear hc1 hf1; (try simp at hs1); omega); have hz1 : w.heap.size + 1 < w1.heap.size := (by clear hc1 hf1; (try simp at hs1); omega); have hz2 : w.heap.size + 1 + 1 < w1.heap.size := (by clear hc1 hf1; (try simp at hs1); omega)))
    refine bodyPost_ret (v := .tuple #[.agg #[.int .i64 0, .int .i64 (clampI (b + d))], .bool true]) (by simp [results, Tryd.results31, go_sem, *]) rfl ⟨rfl, ?_⟩
    clear hc1 hf1
    (repeat (first | exact Below.refl _ _ | refine Below.drew ?_ | refine Below.alloc ?_ ?_ _ | refine Below.setCell ?_ ?_ _ | refine Below.trans ?_ (Below.mono (by assumption) ?_))) <;> (first | omega | (simp at *; done) | (simp at *; omega))

theorem plus_any (a b c d : Int) (w : World) (h1 : -1000000 ≤ b) (h2 : b ≤ 1000000) (h3 : -1000000 ≤ d) (h4 : d ≤ 1000000) :
    Calls Tryd.prog 68 #[.agg #[.int .i64 a, .int .i64 b], .agg #[.int .i64 c, .int .i64 d]] w fun e w' => e = .returned (.agg #[.int .i64 0, .int .i64 (clampI (b + d))]) ∧ Below w.heap.size w w' := by
  go_enter Tryd.func68, Tryd.ntmps68
  go_wp2_with (go_at_call 22; refine (implNumber_any _ _).mono ?_; rintro e w1 ⟨rfl, hb1⟩; have hs1 := hb1.size; obtain ⟨hc1, hf1⟩ := bcell hb1; have hz0 : w.heap.size < w1.heap.size := (by clear hc1 hf1; (try simp at hs1); omega); have hz1 : w.heap.size + 1 < w1.heap.size := (by clear hc1 hf1; (try simp at hs1); omega); have hz2 : w.heap.size + 1 + 1 < w1.heap.size := (by clear hc1 hf1; (try simp at hs1); omega))
  refine bodyPost_ret (v := .agg #[.int .i64 0, .int .i64 (clampI (b + d))]) (by simp [results, Tryd.results68, go_sem, *]) rfl ⟨rfl, ?_⟩
  clear hc1 hf1
  (repeat (first | exact Below.refl _ _ | refine Below.drew ?_ | refine Below.alloc ?_ ?_ _ | refine Below.setCell ?_ ?_ _ | refine Below.trans ?_ (Below.mono (by assumption) ?_))) <;> (first | omega | (simp at *; done) | (simp at *; omega))

theorem isLess_any (a b c d : Int) (w : World) :
    Calls Tryd.prog 69 #[.agg #[.int .i64 a, .int .i64 b], .agg #[.int .i64 c, .int .i64 d]] w fun e w' => e = .returned (.agg #[.int .i64 0, .int .i64 (if b < d then 1 else 0)]) ∧ Below w.heap.size w w' := by
  by_cases h : b < d
  · rw [if_pos h]
    go_enter Tryd.func69, Tryd.ntmps69
    go_wp2_with (go_at_call 22; refine (implNumber_any _ _).mono ?_; rintro e w1 ⟨rfl, hb1⟩; have hs1 := hb1.size; obtain ⟨hc1, hf1⟩ := bcell hb1; have hz0 : w.heap.size < w1.heap.size := (by clear hc1 hf1; (try simp at hs1); omega); have hz1 : w.heap.size + 1 < w1.heap.size := (by clear hc1 hf1; (try simp at hs1); omega); have hz2 : w.heap.size + 1 + 1 < w1.heap.size := (by clear hc1 hf1; (try simp at hs1); omega))
    refine bodyPost_ret (v := .agg #[.int .i64 0, .int .i64 1]) (by simp [results, Tryd.results69, go_sem, clamp1, *]) rfl ⟨rfl, ?_⟩
    clear hc1 hf1
    (repeat (first | exact Below.refl _ _ | refine Below.drew ?_ | refine Below.alloc ?_ ?_ _ | refine Below.setCell ?_ ?_ _ | refine Below.trans ?_ (Below.mono (by assumption) ?_))) <;> (first | omega | (simp at *; done) | (simp at *; omega))
  · rw [if_neg h]
    go_enter Tryd.func69, Tryd.ntmps69
    go_wp2_with (go_at_call 22; refine (implNumber_any _ _).mono ?_; rintro e w1 ⟨rfl, hb1⟩; have hs1 := hb1.size; obtain ⟨hc1, hf1⟩ := bcell hb1; have hz0 : w.heap.size < w1.heap.size := (by clear hc1 hf1; (try simp at hs1); omega); have hz1 : w.heap.size + 1 < w1.heap.size := (by clear hc1 hf1; (try simp at hs1); omega); have hz2 : w.heap.size + 1 + 1 < w1.heap.size := (by clear hc1 hf1; (try simp at hs1); omega))
    refine bodyPost_ret (v := .agg #[.int .i64 0, .int .i64 0]) (by simp [results, Tryd.results69, go_sem, clamp0, *]) rfl ⟨rfl, ?_⟩
    clear hc1 hf1
    (repeat (first | exact Below.refl _ _ | refine Below.drew ?_ | refine Below.alloc ?_ ?_ _ | refine Below.setCell ?_ ?_ _ | refine Below.trans ?_ (Below.mono (by assumption) ?_))) <;> (first | omega | (simp at *; done) | (simp at *; omega))

theorem isLess_y (a b c d : Int) (w : World) (h : b < d) :
    Calls Tryd.prog 69 #[.agg #[.int .i64 a, .int .i64 b], .agg #[.int .i64 c, .int .i64 d]] w fun e w' => e = .returned (.agg #[.int .i64 0, .int .i64 1]) ∧ Below w.heap.size w w' :=
  (isLess_any a b c d w).mono fun _ _ ⟨he, hb⟩ => ⟨by rw [he, if_pos h], hb⟩
theorem isLess_n (a b c d : Int) (w : World) (h : d ≤ b) :
    Calls Tryd.prog 69 #[.agg #[.int .i64 a, .int .i64 b], .agg #[.int .i64 c, .int .i64 d]] w fun e w' => e = .returned (.agg #[.int .i64 0, .int .i64 0]) ∧ Below w.heap.size w w' :=
  (isLess_any a b c d w).mono fun _ _ ⟨he, hb⟩ => ⟨by rw [he, if_neg (by omega)], hb⟩

theorem bothAre_any (a b c d : Int) (w : World) :
    Calls Tryd.prog 96 #[.func (.func 72) #[] #[], .agg #[.int .i64 a, .int .i64 b], .agg #[.int .i64 c, .int .i64 d]] w fun e w' => e = .returned (.bool (numB a b && numB c d)) ∧ Below w.heap.size w w' := by
  cases hn : numB a b
  all_goals
    go_enter Tryd.func96, Tryd.ntmps96
    go_wp2_with (go_at_call 72; refine (isNumber_any _ _ _).mono ?_; rintro e w1 ⟨rfl, hb1⟩; have hs1 := hb1.size; obtain ⟨hc1, hf1⟩ := bcell hb1; have hz0 : w.heap.size < w1.heap.size := (by clear hc1 hf1; (try simp at hs1); omega); have hz1 : w.heap.size + 1 < w1.heap.size := (by clear hc1 hf1; (try simp at hs1); omega))
    go_ret
    refine ⟨by simp, ?_⟩
    clear hc1 hf1
    (repeat (first | exact Below.refl _ _ | refine Below.drew ?_ | refine Below.alloc ?_ ?_ _ | refine Below.setCell ?_ ?_ _ | refine Below.trans ?_ (Below.mono (by assumption) ?_))) <;> (first | omega | (simp at *; done) | (simp at *; omega))

set_option maxHeartbeats 1000000 in
theorem ofPlus_any (a b c d : Int) (w : World) :
    Calls Tryd.prog 67 #[.agg #[.int .i64 a, .int .i64 b], .agg #[.int .i64 c, .int .i64 d], .func (.func 68) #[.agg #[.int .i64 a, .int .i64 b]] #[]] w fun e w' => e = .returned (.tuple #[.agg #[.int .i64 0, .int .i64 (addN a b c d)], .bool (numB a b && numB c d)]) ∧ Below w.heap.size w w' := by
  cases hn : (numB a b && numB c d)
  · rw [addN_no hn]
    go_enter Tryd.func67, Tryd.ntmps67
    go_wp2_with (go_at_call 96; refine (bothAre_any _ _ _ _ _).mono ?_; rintro e w1 ⟨rfl, hb1⟩; have hs1 := hb1.size; obtain ⟨hc1, hf1⟩ := bcell hb1; have hz0 : w.heap.size < w1.heap.size := (by clear hc1 hf1; (try simp at hs1); omega); have hz1 : w.heap.size + 1 < w1.heap.size := (by clear hc1 hf1; (try simp at hs1); omega); have hz2 : w.heap.size + 1 + 1 < w1.heap.size := (by clear hc1 hf1; (try simp at hs1); omega))
    refine bodyPost_ret (v := .tuple #[.agg #[.int .i64 0, .int .i64 0], .bool false]) (by simp [results, Tryd.results67, go_sem, *]) rfl ⟨rfl, ?_⟩
    clear hc1 hf1
    (repeat (first | exact Below.refl _ _ | refine Below.drew ?_ | refine Below.alloc ?_ ?_ _ | refine Below.setCell ?_ ?_ _ | refine Below.trans ?_ (Below.mono (by assumption) ?_))) <;> (first | omega | (simp at *; done) | (simp at *; omega))
  · rw [addN_yes hn]
    have hb := num_bd (Bool.and_eq_true_iff.1 hn).1
    have hd := num_bd (Bool.and_eq_true_iff.1 hn).2
    obtain ⟨rfl, hb1, hb2⟩ := hb
    obtain ⟨rfl, hd1, hd2⟩ := hd
    go_enter Tryd.func67, Tryd.ntmps67
    go_wp2_with (first | (go_at_call 96; refine (bothAre_any _ _ _ _ _).mono ?_; rintro e w1 ⟨rfl, hb1⟩; have hs1 := hb1.size; obtain ⟨hc1, hf1⟩ := bcell hb1; have hz0 : w.heap.size < w1.heap.size := (by clear hc1 hf1; (try simp at hs1); omega); have hz1 : w.heap.size + 1 < w1.heap.size := (by clear hc1 hf1; (try simp at hs1); omega); have hz2 : w.heap.size + 1 + 1 < w1.heap.size := (by clear hc1 hf1; (try simp at hs1); omega)) | (go_at_call 68; refine (plus_any _ _ _ _ _ (by assumption) (by assumption) (by assumption) (by assumption)).mono ?_; rintro e w1 ⟨rfl, hb1⟩; have hs1 := hb1.size; obtain ⟨hc1, hf1⟩ := bcell hb1; have hz0 : w.heap.size < w1.heap.size := (by clear hc1 hf1; (try simp at hs1); omega); have hz1 : w.heap.size + 1 < w1.heap.size := (by clear hc1 hf1; (try simp at hs1); omega); have hz2 : w.heap.size + 1 + 1 < w1.heap.size := (by clear hc1 hf1; (try simp at hs1); omega)))
    refine bodyPost_ret (v := .tuple #[.agg #[.int .i64 0, .int .i64 (clampI (b + d))], .bool true]) (by simp [results, Tryd.results67, go_sem, *]) rfl ⟨rfl, ?_⟩
    clear hc1 hf1
    (repeat (first | exact Below.refl _ _ | refine Below.drew ?_ | refine Below.alloc ?_ ?_ _ | refine Below.setCell ?_ ?_ _ | refine Below.trans ?_ (Below.mono (by assumption) ?_))) <;> (first | omega | (simp at *; done) | (simp at *; omega))

theorem implAdded_any (a b c d : Int) (w : World) :
    Calls Tryd.prog 19 #[.agg #[.int .i64 a, .int .i64 b], .agg #[.int .i64 c, .int .i64 d]] w fun e w' => e = .returned (.tuple #[.agg #[.int .i64 0, .int .i64 (addN a b c d)], .bool (numB a b && numB c d)]) ∧ Below w.heap.size w w' := by
  go_enter Tryd.func19, Tryd.ntmps19
  go_wp2_with (go_at_call 67; refine (ofPlus_any _ _ _ _ _).mono ?_; rintro e w1 ⟨rfl, hb1⟩; have hs1 := hb1.size; obtain ⟨hc1, hf1⟩ := bcell hb1; have hz0 : w.heap.size < w1.heap.size := (by clear hc1 hf1; (try simp at hs1); omega); have hz1 : w.heap.size + 1 < w1.heap.size := (by clear hc1 hf1; (try simp at hs1); omega); have hz2 : w.heap.size + 1 + 1 < w1.heap.size := (by clear hc1 hf1; (try simp at hs1); omega))
  refine bodyPost_ret (v := .tuple #[.agg #[.int .i64 0, .int .i64 (addN a b c d)], .bool (numB a b && numB c d)]) (by simp [results, Tryd.results19, go_sem, *]) rfl ⟨rfl, ?_⟩
  clear hc1 hf1
  (repeat (first | exact Below.refl _ _ | refine Below.drew ?_ | refine Below.alloc ?_ ?_ _ | refine Below.setCell ?_ ?_ _ | refine Below.trans ?_ (Below.mono (by assumption) ?_))) <;> (first | omega | (simp at *; done) | (simp at *; omega))

set_option maxHeartbeats 1000000 in
theorem ofLess_any (a b c d : Int) (w : World) :
    Calls Tryd.prog 67 #[.agg #[.int .i64 a, .int .i64 b], .agg #[.int .i64 c, .int .i64 d], .func (.func 69) #[.agg #[.int .i64 a, .int .i64 b]] #[]] w fun e w' => e = .returned (.tuple #[.agg #[.int .i64 0, .int .i64 (lssN a b c d)], .bool (numB a b && numB c d)]) ∧ Below w.heap.size w w' := by
  cases hn : (numB a b && numB c d)
  · rw [lssN_no hn]
    go_enter Tryd.func67, Tryd.ntmps67
    go_wp2_with (go_at_call 96; refine (bothAre_any _ _ _ _ _).mono ?_; rintro e w1 ⟨rfl, hb1⟩; have hs1 := hb1.size; obtain ⟨hc1, hf1⟩ := bcell hb1; have hz0 : w.heap.size < w1.heap.size := (by clear hc1 hf1; (try simp at hs1); omega); have hz1 : w.heap.size + 1 < w1.heap.size := (by clear hc1 hf1; (try simp at hs1); omega); have hz2 : w.heap.size + 1 + 1 < w1.heap.size := (by clear hc1 hf1; (try simp at hs1); omega))
    refine bodyPost_ret (v := .tuple #[.agg #[.int .i64 0, .int .i64 0], .bool false]) (by simp [results, Tryd.results67, go_sem, *]) rfl ⟨rfl, ?_⟩
    clear hc1 hf1
    (repeat (first | exact Below.refl _ _ | refine Below.drew ?_ | refine Below.alloc ?_ ?_ _ | refine Below.setCell ?_ ?_ _ | refine Below.trans ?_ (Below.mono (by assumption) ?_))) <;> (first | omega | (simp at *; done) | (simp at *; omega))
  · rw [lssN_yes hn]
    by_cases h : b < d
    · rw [if_pos h]
      go_enter Tryd.func67, Tryd.ntmps67
      go_wp2_with (first | (go_at_call 96; refine (bothAre_any _ _ _ _ _).mono ?_; rintro e w1 ⟨rfl, hb1⟩; have hs1 := hb1.size; obtain ⟨hc1, hf1⟩ := bcell hb1; have hz0 : w.heap.size < w1.heap.size := (by clear hc1 hf1; (try simp at hs1); omega); have hz1 : w.heap.size + 1 < w1.heap.size := (by clear hc1 hf1; (try simp at hs1); omega); have hz2 : w.heap.size + 1 + 1 < w1.heap.size := (by clear hc1 hf1; (try simp at hs1); omega)) | (go_at_call 69; refine (isLess_y _ _ _ _ _ (by assumption)).mono ?_; rintro e w1 ⟨rfl, hb1⟩; have hs1 := hb1.size; obtain ⟨hc1, hf1⟩ := bcell hb1; have hz0 : w.heap.size < w1.heap.size := (by clear hc1 hf1; (try simp at hs1); omega); have hz1 : w.heap.size + 1 < w1.heap.size := (by clear hc1 hf1; (try simp at hs1); omega); have hz2 : w.heap.size + 1 + 1 < w1.heap.size := (by clear hc1 hf1; (try simp at hs1); omega)))
      refine bodyPost_ret (v := .tuple #[.agg #[.int .i64 0, .int .i64 1], .bool true]) (by simp [results, Tryd.results67, go_sem, *]) rfl ⟨rfl, ?_⟩
      clear hc1 hf1
      (repeat (first | exact Below.refl _ _ | refine Below.drew ?_ | refine Below.alloc ?_ ?_ _ | refine Below.setCell ?_ ?_ _ | refine Below.trans ?_ (Below.mono (by assumption) ?_))) <;> (first | omega | (simp at *; done) | (simp at *; omega))
    · rw [if_neg h]
      go_enter Tryd.func67, Tryd.ntmps67
      go_wp2_with (first | (go_at_call 96; refine (bothAre_any _ _ _ _ _).mono ?_; rintro e w1 ⟨rfl, hb1⟩; have hs1 := hb1.size; obtain ⟨hc1, hf1⟩ := bcell hb1; have hz0 : w.heap.size < w1.heap.size := (by clear hc1 hf1; (try simp at hs1); omega); have hz1 : w.heap.size + 1 < w1.heap.size := (by clear hc1 hf1; (try simp at hs1); omega); have hz2 : w.heap.size + 1 + 1 < w1.heap.size := (by clear hc1 hf1; (try simp at hs1); omega)) | (go_at_call 69; refine (isLess_n _ _ _ _ _ (by omega)).mono ?_; rintro e w1 ⟨rfl, hb1⟩; have hs1 := hb1.size; obtain ⟨hc1, hf1⟩ := bcell hb1; have hz0 : w.heap.size < w1.heap.size := (by clear hc1 hf1; (try simp at hs1); omega); have hz1 : w.heap.size + 1 < w1.heap.size := (by clear hc1 hf1; (try simp at hs1); omega); have hz2 : w.heap.size + 1 + 1 < w1.heap.size := (by clear hc1 hf1; (try simp at hs1); omega)))
      refine bodyPost_ret (v := .tuple #[.agg #[.int .i64 0, .int .i64 0], .bool true]) (by simp [results, Tryd.results67, go_sem, *]) rfl ⟨rfl, ?_⟩
      clear hc1 hf1
      (repeat (first | exact Below.refl _ _ | refine Below.drew ?_ | refine Below.alloc ?_ ?_ _ | refine Below.setCell ?_ ?_ _ | refine Below.trans ?_ (Below.mono (by assumption) ?_))) <;> (first | omega | (simp at *; done) | (simp at *; omega))

theorem implBelow_any (a b c d : Int) (w : World) :
    Calls Tryd.prog 20 #[.agg #[.int .i64 a, .int .i64 b], .agg #[.int .i64 c, .int .i64 d]] w fun e w' => e = .returned (.tuple #[.agg #[.int .i64 0, .int .i64 (lssN a b c d)], .bool (numB a b && numB c d)]) ∧ Below w.heap.size w w' := by
  go_enter Tryd.func20, Tryd.ntmps20
  go_wp2_with (go_at_call 67; refine (ofLess_any _ _ _ _ _).mono ?_; rintro e w1 ⟨rfl, hb1⟩; have hs1 := hb1.size; obtain ⟨hc1, hf1⟩ := bcell hb1; have hz0 : w.heap.size < w1.heap.size := (by clear hc1 hf1; (try simp at hs1); omega); have hz1 : w.heap.size + 1 < w1.heap.size := (by clear hc1 hf1; (try simp at hs1); omega); have hz2 : w.heap.size + 1 + 1 < w1.heap.size := (by clear hc1 hf1; (try simp at hs1); omega))
  refine bodyPost_ret (v := .tuple #[.agg #[.int .i64 0, .int .i64 (lssN a b c d)], .bool (numB a b && numB c d)]) (by simp [results, Tryd.results20, go_sem, *]) rfl ⟨rfl, ?_⟩
  clear hc1 hf1
  (repeat (first | exact Below.refl _ _ | refine Below.drew ?_ | refine Below.alloc ?_ ?_ _ | refine Below.setCell ?_ ?_ _ | refine Below.trans ?_ (Below.mono (by assumption) ?_))) <;> (first | omega | (simp at *; done) | (simp at *; omega))

set_option maxHeartbeats 1000000 in
theorem specBelow_any (a b c d : Int) (w : World) :
    Calls Tryd.prog 32 #[.agg #[.int .i64 a, .int .i64 b], .agg #[.int .i64 c, .int .i64 d]] w fun e w' => e = .returned (.tuple #[.agg #[.int .i64 0, .int .i64 (lssN a b c d)], .bool (numB a b && numB c d)]) ∧ Below w.heap.size w w' := by
  cases hn : (numB a b && numB c d)
  · rw [lssN_no hn]
    go_enter Tryd.func32, Tryd.ntmps32
    go_wp2_with (go_at_call 76; refine (l1Numbers_any _ _ _ _ _).mono ?_; rintro e w1 ⟨rfl, hb1⟩; have hs1 := hb1.size; obtain ⟨hc1, hf1⟩ := bcell hb1; have hz0 : w.heap.size < w1.heap.size := (by clear hc1 hf1; (try simp at hs1); omega); have hz1 : w.heap.size + 1 < w1.heap.size := (by clear hc1 hf1; (try simp at hs1); omega); have hz2 : w.heap.size + 1 + 1 < w1.heap.size := (by clear hc1 hf1; (try simp at hs1); omega))
    refine bodyPost_ret (v := .tuple #[.agg #[.int .i64 0, .int .i64 0], .bool false]) (by simp [results, Tryd.results32, go_sem, *]) rfl ⟨rfl, ?_⟩
    clear hc1 hf1
    (repeat (first | exact Below.refl _ _ | refine Below.drew ?_ | refine Below.alloc ?_ ?_ _ | refine Below.setCell ?_ ?_ _ | refine Below.trans ?_ (Below.mono (by assumption) ?_))) <;> (first | omega | (simp at *; done) | (simp at *; omega))
  · rw [lssN_yes hn]
    by_cases h : b < d
    · rw [if_pos h]
      go_enter Tryd.func32, Tryd.ntmps32
      go_wp2_with (first | (go_at_call 76; refine (l1Numbers_any _ _ _ _ _).mono ?_; rintro e w1 ⟨rfl, hb1⟩; have hs1 := hb1.size; obtain ⟨hc1, hf1⟩ := bcell hb1; have hz0 : w.heap.size < w1.heap.size := (by clear hc1 hf1; (try simp at hs1); omega); have hz1 : w.heap.size + 1 < w1.heap.size := (by clear hc1 hf1; (try simp at hs1); omega); have hz2 : w.heap.size + 1 + 1 < w1.heap.size := (by clear hc1 hf1; (try simp at hs1); omega)) | (go_at_call 28; refine (specNumber_any _ _).mono ?_; rintro e w1 ⟨rfl, hb1⟩; have hs1 := hb1.size; obtain ⟨hc1, hf1⟩ := bcell hb1; have hz0 : w.heap.size < w1.heap.size := (by clear hc1 hf1; (try simp at hs1); omega); have hz1 : w.heap.size + 1 < w1.heap.size := (by clear hc1 hf1; (try simp at hs1); omega); have hz2 : w.heap.size + 1 + 1 < w1.heap.size := (by clear hc1 hf1; (try simp at hs1); omega)))
      refine bodyPost_ret (v := .tuple #[.agg #[.int .i64 0, .int .i64 1], .bool true]) (by simp [results, Tryd.results32, go_sem, clamp1, *]) rfl ⟨rfl, ?_⟩
      clear hc1 hf1
      (repeat (first | exact Below.refl _ _ | refine Below.drew ?_ | refine Below.alloc ?_ ?_ _ | refine Below.setCell ?_ ?_ _ | refine Below.trans ?_ (Below.mono (by assumption) ?_))) <;> (first | omega | (simp at *; done) | (simp at *; omega))
    · rw [if_neg h]
      go_enter Tryd.func32, Tryd.ntmps32
      go_wp2_with (first | (go_at_call 76; refine (l1Numbers_any _ _ _ _ _).mono ?_; rintro e w1 ⟨rfl, hb1⟩; have hs1 := hb1.size; obtain ⟨hc1, hf1⟩ := bcell hb1; have hz0 : w.heap.size < w1.heap.size := (by clear hc1 hf1; (try simp at hs1); omega); have hz1 : w.heap.size + 1 < w1.heap.size := (by clear hc1 hf1; (try simp at hs1); omega); have hz2 : w.heap.size + 1 + 1 < w1.heap.size := (by clear hc1 hf1; (try simp at hs1); omega)) | (go_at_call 28; refine (specNumber_any _ _).mono ?_; rintro e w1 ⟨rfl, hb1⟩; have hs1 := hb1.size; obtain ⟨hc1, hf1⟩ := bcell hb1; have hz0 : w.heap.size < w1.heap.size := (by clear hc1 hf1; (try simp at hs1); omega); have hz1 : w.heap.size + 1 < w1.heap.size := (by clear hc1 hf1; (try simp at hs1); omega); have hz2 : w.heap.size + 1 + 1 < w1.heap.size := (by clear hc1 hf1; (try simp at hs1); omega)))
      refine bodyPost_ret (v := .tuple #[.agg #[.int .i64 0, .int .i64 0], .bool true]) (by simp [results, Tryd.results32, go_sem, clamp0, *]) rfl ⟨rfl, ?_⟩
      clear hc1 hf1
      (repeat (first | exact Below.refl _ _ | refine Below.drew ?_ | refine Below.alloc ?_ ?_ _ | refine Below.setCell ?_ ?_ _ | refine Below.trans ?_ (Below.mono (by assumption) ?_))) <;> (first | omega | (simp at *; done) | (simp at *; omega))

theorem specIsNothing_any (a b : Int) (w : World) :
    Calls Tryd.prog 30 #[.agg #[.int .i64 a, .int .i64 b]] w fun e w' => e = .returned (.bool (sameB a b 0 0)) ∧ Below w.heap.size w w' := by
  by_cases h1 : a = 0 <;> by_cases h2 : b = 0
  all_goals
    have h1' : (a == 0) = decide (a = 0) := by by_cases h : a = 0 <;> simp [h]
    have h2' : (b == 0) = decide (b = 0) := by by_cases h : b = 0 <;> simp [h]
    simp only [h1, h2, decide_true, decide_false] at h1' h2'
    go_enter Tryd.func30, Tryd.ntmps30
    go_wp2
    go_ret
    refine ⟨by simp [sameB, h1, h2], ?_⟩
    (repeat (first | exact Below.refl _ _ | refine Below.drew ?_ | refine Below.alloc ?_ ?_ _ | refine Below.setCell ?_ ?_ _ | refine Below.trans ?_ (Below.mono (by assumption) ?_))) <;> (first | omega | (simp at *; done) | (simp at *; omega))

end L1
end Go.Proofs.YtcfniecdjbgknaaDoor
