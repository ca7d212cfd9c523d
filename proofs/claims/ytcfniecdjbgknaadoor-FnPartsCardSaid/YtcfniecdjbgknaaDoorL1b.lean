/-
  Chapter 1's functions on values, each by a contract of its own.
-/
import Derived.Test.YtcfniecdjbgknaaDoorL1
namespace Go.Proofs.YtcfniecdjbgknaaDoor
open Go.RowKit
namespace L1

theorem implValueOk_any (k n : Int) (w : World) :
    Calls Tryd.prog 26 #[.agg #[.int .i64 k, .int .i64 n]] w fun e w' => e = .returned (.bool (okB k n)) ∧ Below w.heap.size w w' := by
  cases hn : numB k n
  all_goals
    go_enter Tryd.func26, Tryd.ntmps26
    go_wp2_with (first | (go_at_call 72; refine (isNumber_any _ _ _).mono ?_; rintro e w1 ⟨rfl, hb1⟩; have hs1 := hb1.size; obtain ⟨hc1, hf1⟩ := bcell hb1) | (go_at_call 59; refine (isPiece_any _ _ _).mono ?_; rintro e w2 ⟨rfl, hb2⟩; have hs2 := hb2.size))
    go_ret
    refine ⟨by simp [okB, hn], ?_⟩
    (repeat (first | exact Below.refl _ _ | refine Below.drew ?_ | refine Below.alloc ?_ ?_ _ | refine Below.setCell ?_ ?_ _ | refine Below.trans ?_ (Below.mono (by assumption) ?_))) <;> (first | omega | (simp at *; done) | (simp at *; omega))

theorem l1Max_any (a b : Int) (w : World) :
    Calls Tryd.prog 75 #[.int .i64 a, .int .i64 b] w fun e w' => e = .returned (.int .i64 (if b < a then a else b)) ∧ w = w' := by
  by_cases h : b < a
  all_goals
    go_enter Tryd.func75, Tryd.ntmps75
    go_wp2
    go_ret
    exact ⟨by simp, rfl⟩

theorem l1Min_any (a b : Int) (w : World) :
    Calls Tryd.prog 74 #[.int .i64 a, .int .i64 b] w fun e w' => e = .returned (.int .i64 (if a < b then a else b)) ∧ w = w' := by
  by_cases h : a < b
  all_goals
    go_enter Tryd.func74, Tryd.ntmps74
    go_wp2
    go_ret
    exact ⟨by simp, rfl⟩

theorem clamp_spec (n : Int) : (if 1000000 < (if n < -1000000 then -1000000 else n) then 1000000 else (if n < -1000000 then -1000000 else n)) = clampI n := by
  unfold clampI; split <;> simp_all

theorem specNumber_any (n : Int) (w : World) :
    Calls Tryd.prog 28 #[.int .i64 n] w fun e w' => e = .returned (.agg #[.int .i64 0, .int .i64 (clampI n)]) ∧ Below w.heap.size w w' := by
  go_enter Tryd.func28, Tryd.ntmps28
  go_wp2_with (first | (go_at_call 75; refine (l1Max_any _ _ _).mono ?_; rintro e w1 ⟨rfl, rfl⟩) | (go_at_call 74; refine (l1Min_any _ _ _).mono ?_; rintro e w2 ⟨rfl, rfl⟩))
  all_goals
    refine bodyPost_ret (v := .agg #[.int .i64 0, .int .i64 (clampI n)]) ?_ rfl ⟨rfl, ?_⟩
    · simp [results, Tryd.results28, go_sem, clampI]; omega
    · (repeat (first | exact Below.refl _ _ | refine Below.drew ?_ | refine Below.alloc ?_ ?_ _ | refine Below.setCell ?_ ?_ _ | refine Below.trans ?_ (Below.mono (by assumption) ?_))) <;> (first | omega | (simp at *; done) | (simp at *; omega))

theorem implNumber_any (n : Int) (w : World) :
    Calls Tryd.prog 22 #[.int .i64 n] w fun e w' => e = .returned (.agg #[.int .i64 0, .int .i64 (clampI n)]) ∧ Below w.heap.size w w' := by
  go_enter Tryd.func22, Tryd.ntmps22
  go_wp2
  all_goals
    refine bodyPost_ret (v := .agg #[.int .i64 0, .int .i64 (clampI n)]) ?_ rfl ⟨rfl, ?_⟩
    · simp [results, Tryd.results22, go_sem, clampI]; omega
    · (repeat (first | exact Below.refl _ _ | refine Below.drew ?_ | refine Below.alloc ?_ ?_ _ | refine Below.setCell ?_ ?_ _ | refine Below.trans ?_ (Below.mono (by assumption) ?_))) <;> (first | omega | (simp at *; done) | (simp at *; omega))

theorem eqValue_any (a b c d : Int) (w : World) :
    Calls Tryd.prog 42 #[.agg #[.int .i64 a, .int .i64 b], .agg #[.int .i64 c, .int .i64 d]] w fun e w' => e = .returned (.bool (sameB a b c d)) ∧ Below w.heap.size w w' := by
  by_cases h1 : a = c <;> by_cases h2 : b = d
  all_goals
    have h1' : (a != c) = !decide (a = c) := by by_cases h : a = c <;> simp [h]
    have h2' : (b != d) = !decide (b = d) := by by_cases h : b = d <;> simp [h]
    simp only [h1, h2, decide_true, decide_false, Bool.not_true, Bool.not_false] at h1' h2'
    go_enter Tryd.func42, Tryd.ntmps42
    go_wp2
    go_ret
    refine ⟨by simp [sameB, h1, h2], ?_⟩
    (repeat (first | exact Below.refl _ _ | refine Below.drew ?_ | refine Below.alloc ?_ ?_ _ | refine Below.setCell ?_ ?_ _ | refine Below.trans ?_ (Below.mono (by assumption) ?_))) <;> (first | omega | (simp at *; done) | (simp at *; omega))

theorem num_of_ok (k n : Int) : numB k n = (decide (k = 0) && okB k n) := by
  by_cases h : k = 0 <;> simp [numB, okB, pieB, h]

set_option maxHeartbeats 2000000 in
theorem l1Numbers_any (a b c d : Int) (w : World) :
    Calls Tryd.prog 76 #[.agg #[.int .i64 a, .int .i64 b], .agg #[.int .i64 c, .int .i64 d]] w fun e w' => e = .returned (.bool (numB a b && numB c d)) ∧ Below w.heap.size w w' := by
  have HP : Hid (numB a b = (decide (a = 0) && okB a b) ∧ numB c d = (decide (c = 0) && okB c d)) := ⟨num_of_ok _ _, num_of_ok _ _⟩
  have h1' : (a == 0) = decide (a = 0) := by by_cases h : a = 0 <;> simp [h]
  have h2' : (c == 0) = decide (c = 0) := by by_cases h : c = 0 <;> simp [h]
  cases hn : okB a b
  · go_enter Tryd.func76, Tryd.ntmps76
    go_wp2_with (go_at_call 27; refine (specValueOk_any _ _ _).mono ?_; rintro e w1 ⟨rfl, hb1⟩; have hs1 := hb1.size; obtain ⟨hc1, hf1⟩ := bcell hb1; have hz0 : w.heap.size < w1.heap.size := (by clear hc1 hf1; (try simp at hs1); omega); have hz1 : w.heap.size + 1 < w1.heap.size := (by clear hc1 hf1; (try simp at hs1); omega))
    go_ret
    refine ⟨by rw [HP.out.1, hn]; simp, ?_⟩
    (repeat (first | exact Below.refl _ _ | refine Below.drew ?_ | refine Below.alloc ?_ ?_ _ | refine Below.setCell ?_ ?_ _ | refine Below.trans ?_ (Below.mono (by assumption) ?_))) <;> (first | omega | (simp at *; done) | (simp at *; omega))
  cases hm : okB c d
  · go_enter Tryd.func76, Tryd.ntmps76
    go_wp2_with (go_at_call 27; refine (specValueOk_any _ _ _).mono ?_; rintro e w1 ⟨rfl, hb1⟩; have hs1 := hb1.size; obtain ⟨hc1, hf1⟩ := bcell hb1; have hz0 : w.heap.size < w1.heap.size := (by clear hc1 hf1; (try simp at hs1); omega); have hz1 : w.heap.size + 1 < w1.heap.size := (by clear hc1 hf1; (try simp at hs1); omega))
    go_ret
    refine ⟨by rw [HP.out.2, hm]; simp, ?_⟩
    (repeat (first | exact Below.refl _ _ | refine Below.drew ?_ | refine Below.alloc ?_ ?_ _ | refine Below.setCell ?_ ?_ _ | refine Below.trans ?_ (Below.mono (by assumption) ?_))) <;> (first | omega | (simp at *; done) | (simp at *; omega))
  by_cases h1 : a = 0 <;> by_cases h2 : c = 0
  all_goals
    simp only [h1, h2, decide_true, decide_false] at h1' h2'
    have HH : Hid ((numB a b && numB c d) = (decide (a = 0) && decide (c = 0))) := (by show (numB a b && numB c d) = _; rw [HP.out.1, HP.out.2, hn, hm]; simp)
    try subst h1
    try subst h2
    go_enter Tryd.func76, Tryd.ntmps76
    go_wp2_with (go_at_call 27; refine (specValueOk_any _ _ _).mono ?_; rintro e w1 ⟨rfl, hb1⟩; have hs1 := hb1.size; obtain ⟨hc1, hf1⟩ := bcell hb1; have hz0 : w.heap.size < w1.heap.size := (by clear hc1 hf1; (try simp at hs1); omega); have hz1 : w.heap.size + 1 < w1.heap.size := (by clear hc1 hf1; (try simp at hs1); omega))
    go_ret
    refine ⟨by rw [HH.out]; simp [*], ?_⟩
    (repeat (first | exact Below.refl _ _ | refine Below.drew ?_ | refine Below.alloc ?_ ?_ _ | refine Below.setCell ?_ ?_ _ | refine Below.trans ?_ (Below.mono (by assumption) ?_))) <;> (first | omega | (simp at *; done) | (simp at *; omega))

end L1
end Go.Proofs.YtcfniecdjbgknaaDoor
