/-
  Gathered in one text, in this order: L1, L1b, L1c, L1d.
-/
import Derived.Test.YtkhjbhkbknennaaGreatDoorChecked
import Derived.WalkKit
import Derived.ProofKit
import Derived.OpenShut
import Derived.BigQuiet
import Derived.Deep.QuietTactic
import Derived.WalkLawsBesides
import Derived.Outline
import Derived.Lib.Hide
import Derived.Deep.RegionWith
/-
  Chapter 1's small functions, each by a contract of its own: what it returns, and that nothing that was there turns.
-/
namespace Go.Proofs.YtkhjbhkbknennaaGreatDoor
open Go.RowKit
namespace L1

def inB (x lo hi : Int) : Bool := decide (lo ≤ x) && decide (x ≤ hi)
def clampI (n : Int) : Int := if n < -1000000 then -1000000 else if 1000000 < n then 1000000 else n
def numB (k n : Int) : Bool := decide (k = 0) && inB n (-1000000) 1000000
def pieB (k n : Int) : Bool := decide (k = 1) && inB n 0 19
def okB (k n : Int) : Bool := numB k n || pieB k n
def sameB (a b c d : Int) : Bool := decide (a = c) && decide (b = d)

theorem bcell {W w1 : World} (hb : Below W.heap.size W w1) : (∀ b o, b < W.heap.size → w1.cell? ⟨b, o, none⟩ = W.cell? ⟨b, o, none⟩) ∧ (∀ b o, b < W.heap.size → w1.frozen? ⟨b, o, none⟩ = W.frozen? ⟨b, o, none⟩) :=
  ⟨fun b o h => hb.cell (p := ⟨b, o, none⟩) h, fun b o h => hb.frozen (p := ⟨b, o, none⟩) h⟩

theorem bsize {W w1 : World} (hb : Below W.heap.size W w1) : (∀ k, k < W.heap.size → k < w1.heap.size) ∧ (∀ k, k ≤ W.heap.size → k ≤ w1.heap.size) :=
  ⟨fun _ h => Nat.lt_of_lt_of_le h hb.size, fun _ h => Nat.le_trans h hb.size⟩

theorem bcomp {B : Nat} {a W w1 : World} (h : Below B a W) (hB : B ≤ W.heap.size) (hb : Below W.heap.size W w1) : Below B a w1 := h.trans (hb.mono hB)
theorem bcomp1 {a W w1 : World} (h : Below a.heap.size a W) (hb : Below W.heap.size W w1) : Below a.heap.size a w1 := h.trans (hb.mono h.size)

theorem l1In_any (x lo hi : Int) (w : World) :
    Calls Tryz.prog 67 #[.int .i64 x, .int .i64 lo, .int .i64 hi] w fun e w' => e = .returned (.bool (inB x lo hi)) ∧ w = w' := by
  by_cases h1 : lo ≤ x <;> by_cases h2 : x ≤ hi
  all_goals
    go_enter Tryz.func67, Tryz.ntmps67
    go_wp2
    go_ret
    exact ⟨by simp [inB, h1, h2], rfl⟩

theorem specValueOk_any (k n : Int) (w : World) :
    Calls Tryz.prog 40 #[.agg #[.int .i64 k, .int .i64 n]] w fun e w' => e = .returned (.bool (okB k n)) ∧ Below w.heap.size w w' := by
  by_cases h0 : k = 0
  · have h0' : (k == 0) = true := by simp [h0]
    go_enter Tryz.func40, Tryz.ntmps40
    go_wp2_with (go_at_call 67; refine (l1In_any _ _ _ _).mono ?_; rintro e w' ⟨rfl, rfl⟩)
    go_ret
    exact ⟨by simp [okB, numB, pieB, h0], (Below.refl _ _).alloc (Nat.le_refl _) _⟩
  · have h0' : (k == 0) = false := by simp [h0]
    by_cases h1 : k = 1
    all_goals
      go_enter Tryz.func40, Tryz.ntmps40
      go_wp2_with (go_at_call 67; refine (l1In_any _ _ _ _).mono ?_; rintro e w' ⟨rfl, rfl⟩)
      go_ret
      exact ⟨by simp [okB, numB, pieB, h0, h1], (Below.refl _ _).alloc (Nat.le_refl _) _⟩

theorem isNumber_any (k n : Int) (w : World) :
    Calls Tryz.prog 76 #[.agg #[.int .i64 k, .int .i64 n]] w fun e w' => e = .returned (.bool (numB k n)) ∧ Below w.heap.size w w' := by
  by_cases h0 : k = 0 <;> by_cases h1 : -1000000 ≤ n <;> by_cases h2 : n ≤ 1000000
  all_goals try (exfalso; omega)
  all_goals
    have h0' : (k == 0) = decide (k = 0) := by by_cases h : k = 0 <;> simp [h]
    simp only [h0, decide_true, decide_false] at h0'
    go_enter Tryz.func76, Tryz.ntmps76
    go_wp2
    go_ret
    exact ⟨by simp [numB, inB, h0, h1, h2], (Below.refl _ _).alloc (Nat.le_refl _) _⟩

theorem isPiece_any (k n : Int) (w : World) :
    Calls Tryz.prog 77 #[.agg #[.int .i64 k, .int .i64 n]] w fun e w' => e = .returned (.bool (pieB k n)) ∧ Below w.heap.size w w' := by
  by_cases h0 : k = 1 <;> by_cases h1 : 0 ≤ n <;> by_cases h2 : n < 20
  all_goals try (exfalso; omega)
  all_goals
    have h2' : decide (n ≤ 19) = decide (n < 20) := by simp; omega
    have h0' : (k == 1) = decide (k = 1) := by by_cases h : k = 1 <;> simp [h]
    simp only [h0, decide_true, decide_false] at h0'
    go_enter Tryz.func77, Tryz.ntmps77
    go_wp2
    go_ret
    exact ⟨by simp [pieB, inB, h0, h1, h2, h2'], (Below.refl _ _).alloc (Nat.le_refl _) _⟩

end L1
end Go.Proofs.YtkhjbhkbknennaaGreatDoor

/-
  Chapter 1's functions on values, each by a contract of its own.
-/
namespace Go.Proofs.YtkhjbhkbknennaaGreatDoor
open Go.RowKit
namespace L1

theorem implValueOk_any (k n : Int) (w : World) :
    Calls Tryz.prog 33 #[.agg #[.int .i64 k, .int .i64 n]] w fun e w' => e = .returned (.bool (okB k n)) ∧ Below w.heap.size w w' := by
  cases hn : numB k n
  all_goals
    go_enter Tryz.func33, Tryz.ntmps33
    go_wp2_with (first | (go_at_call 76; refine (isNumber_any _ _ _).mono ?_; rintro e w1 ⟨rfl, hb1⟩; have hs1 := hb1.size; obtain ⟨hc1, hf1⟩ := bcell hb1) | (go_at_call 77; refine (isPiece_any _ _ _).mono ?_; rintro e w2 ⟨rfl, hb2⟩; have hs2 := hb2.size))
    go_ret
    refine ⟨by simp [okB, hn], ?_⟩
    (repeat (first | exact Below.refl _ _ | refine Below.drew ?_ | refine Below.alloc ?_ ?_ _ | refine Below.setCell ?_ ?_ _ | refine Below.trans ?_ (Below.mono (by assumption) ?_))) <;> (first | omega | (simp at *; done) | (simp at *; omega))

theorem l1Max_any (a b : Int) (w : World) :
    Calls Tryz.prog 193 #[.int .i64 a, .int .i64 b] w fun e w' => e = .returned (.int .i64 (if b < a then a else b)) ∧ w = w' := by
  by_cases h : b < a
  all_goals
    go_enter Tryz.func193, Tryz.ntmps193
    go_wp2
    go_ret
    exact ⟨by simp, rfl⟩

theorem l1Min_any (a b : Int) (w : World) :
    Calls Tryz.prog 192 #[.int .i64 a, .int .i64 b] w fun e w' => e = .returned (.int .i64 (if a < b then a else b)) ∧ w = w' := by
  by_cases h : a < b
  all_goals
    go_enter Tryz.func192, Tryz.ntmps192
    go_wp2
    go_ret
    exact ⟨by simp, rfl⟩

theorem clamp_spec (n : Int) : (if 1000000 < (if n < -1000000 then -1000000 else n) then 1000000 else (if n < -1000000 then -1000000 else n)) = clampI n := by
  unfold clampI; split <;> simp_all

theorem specNumber_any (n : Int) (w : World) :
    Calls Tryz.prog 179 #[.int .i64 n] w fun e w' => e = .returned (.agg #[.int .i64 0, .int .i64 (clampI n)]) ∧ Below w.heap.size w w' := by
  go_enter Tryz.func179, Tryz.ntmps179
  go_wp2_with (first | (go_at_call 193; refine (l1Max_any _ _ _).mono ?_; rintro e w1 ⟨rfl, rfl⟩) | (go_at_call 192; refine (l1Min_any _ _ _).mono ?_; rintro e w2 ⟨rfl, rfl⟩))
  all_goals
    refine bodyPost_ret (v := .agg #[.int .i64 0, .int .i64 (clampI n)]) ?_ rfl ⟨rfl, ?_⟩
    · simp [results, Tryz.results179, go_sem, clampI]; omega
    · (repeat (first | exact Below.refl _ _ | refine Below.drew ?_ | refine Below.alloc ?_ ?_ _ | refine Below.setCell ?_ ?_ _ | refine Below.trans ?_ (Below.mono (by assumption) ?_))) <;> (first | omega | (simp at *; done) | (simp at *; omega))

theorem implNumber_any (n : Int) (w : World) :
    Calls Tryz.prog 93 #[.int .i64 n] w fun e w' => e = .returned (.agg #[.int .i64 0, .int .i64 (clampI n)]) ∧ Below w.heap.size w w' := by
  go_enter Tryz.func93, Tryz.ntmps93
  go_wp2
  all_goals
    refine bodyPost_ret (v := .agg #[.int .i64 0, .int .i64 (clampI n)]) ?_ rfl ⟨rfl, ?_⟩
    · simp [results, Tryz.results93, go_sem, clampI]; omega
    · (repeat (first | exact Below.refl _ _ | refine Below.drew ?_ | refine Below.alloc ?_ ?_ _ | refine Below.setCell ?_ ?_ _ | refine Below.trans ?_ (Below.mono (by assumption) ?_))) <;> (first | omega | (simp at *; done) | (simp at *; omega))

theorem num_of_ok (k n : Int) : numB k n = (decide (k = 0) && okB k n) := by
  by_cases h : k = 0 <;> simp [numB, okB, pieB, h]

set_option maxHeartbeats 2000000 in
theorem l1Numbers_any (a b c d : Int) (w : World) :
    Calls Tryz.prog 178 #[.agg #[.int .i64 a, .int .i64 b], .agg #[.int .i64 c, .int .i64 d]] w fun e w' => e = .returned (.bool (numB a b && numB c d)) ∧ Below w.heap.size w w' := by
  have HP : Hid (numB a b = (decide (a = 0) && okB a b) ∧ numB c d = (decide (c = 0) && okB c d)) := ⟨num_of_ok _ _, num_of_ok _ _⟩
  have h1' : (a == 0) = decide (a = 0) := by by_cases h : a = 0 <;> simp [h]
  have h2' : (c == 0) = decide (c = 0) := by by_cases h : c = 0 <;> simp [h]
  cases hn : okB a b
  · go_enter Tryz.func178, Tryz.ntmps178
    go_wp2_with (go_at_call 40; refine (specValueOk_any _ _ _).mono ?_; rintro e w1 ⟨rfl, hb1⟩; have hs1 := hb1.size; obtain ⟨hc1, hf1⟩ := bcell hb1; have hz0 : w.heap.size < w1.heap.size := (by clear hc1 hf1; (try simp at hs1); omega); have hz1 : w.heap.size + 1 < w1.heap.size := (by clear hc1 hf1; (try simp at hs1); omega))
    go_ret
    refine ⟨by rw [HP.out.1, hn]; simp, ?_⟩
    (repeat (first | exact Below.refl _ _ | refine Below.drew ?_ | refine Below.alloc ?_ ?_ _ | refine Below.setCell ?_ ?_ _ | refine Below.trans ?_ (Below.mono (by assumption) ?_))) <;> (first | omega | (simp at *; done) | (simp at *; omega))
  cases hm : okB c d
  · go_enter Tryz.func178, Tryz.ntmps178
    go_wp2_with (go_at_call 40; refine (specValueOk_any _ _ _).mono ?_; rintro e w1 ⟨rfl, hb1⟩; have hs1 := hb1.size; obtain ⟨hc1, hf1⟩ := bcell hb1; have hz0 : w.heap.size < w1.heap.size := (by clear hc1 hf1; (try simp at hs1); omega); have hz1 : w.heap.size + 1 < w1.heap.size := (by clear hc1 hf1; (try simp at hs1); omega))
    go_ret
    refine ⟨by rw [HP.out.2, hm]; simp, ?_⟩
    (repeat (first | exact Below.refl _ _ | refine Below.drew ?_ | refine Below.alloc ?_ ?_ _ | refine Below.setCell ?_ ?_ _ | refine Below.trans ?_ (Below.mono (by assumption) ?_))) <;> (first | omega | (simp at *; done) | (simp at *; omega))
  by_cases h1 : a = 0 <;> by_cases h2 : c = 0
  all_goals
    simp only [h1, h2, decide_true, decide_false] at h1' h2'
    have HH : Hid ((numB a b && numB c d) = (decide (a = 0) && decide (c = 0))) := (by show (numB a b && numB c d) = _; rw [HP.out.1, HP.out.2, hn, hm]; simp)
    try subst h1
    try subst h2
    go_enter Tryz.func178, Tryz.ntmps178
    go_wp2_with (go_at_call 40; refine (specValueOk_any _ _ _).mono ?_; rintro e w1 ⟨rfl, hb1⟩; have hs1 := hb1.size; obtain ⟨hc1, hf1⟩ := bcell hb1; have hz0 : w.heap.size < w1.heap.size := (by clear hc1 hf1; (try simp at hs1); omega); have hz1 : w.heap.size + 1 < w1.heap.size := (by clear hc1 hf1; (try simp at hs1); omega))
    go_ret
    refine ⟨by rw [HH.out]; simp [*], ?_⟩
    (repeat (first | exact Below.refl _ _ | refine Below.drew ?_ | refine Below.alloc ?_ ?_ _ | refine Below.setCell ?_ ?_ _ | refine Below.trans ?_ (Below.mono (by assumption) ?_))) <;> (first | omega | (simp at *; done) | (simp at *; omega))

end L1
end Go.Proofs.YtkhjbhkbknennaaGreatDoor

/-
  Chapter 1: sums and comparisons of numbers, each by a contract of its own.
-/
namespace Go.Proofs.YtkhjbhkbknennaaGreatDoor
open Go.RowKit
namespace L1

def addN (a b c d : Int) : Int := if numB a b && numB c d then clampI (b + d) else 0
def lssN (a b c d : Int) : Int := if numB a b && numB c d then (if b < d then 1 else 0) else 0

theorem num_bd {k n : Int} (h : numB k n = true) : k = 0 ∧ -1000000 ≤ n ∧ n ≤ 1000000 := by
  simpa [numB, inB] using h
theorem clamp0 : clampI 0 = 0 := rfl
theorem clamp1 : clampI 1 = 1 := rfl
theorem addN_no {a b c d : Int} (h : (numB a b && numB c d) = false) : addN a b c d = 0 := by unfold addN; rw [h]; rfl
theorem addN_yes {a b c d : Int} (h : (numB a b && numB c d) = true) : addN a b c d = clampI (b + d) := by unfold addN; rw [h]; rfl
theorem lssN_no {a b c d : Int} (h : (numB a b && numB c d) = false) : lssN a b c d = 0 := by unfold lssN; rw [h]; rfl
theorem lssN_yes {a b c d : Int} (h : (numB a b && numB c d) = true) : lssN a b c d = if b < d then 1 else 0 := by unfold lssN; rw [h]; rfl

set_option maxHeartbeats 1000000 in
theorem specAdded_any (a b c d : Int) (w : World) :
    Calls Tryz.prog 156 #[.agg #[.int .i64 a, .int .i64 b], .agg #[.int .i64 c, .int .i64 d]] w fun e w' => e = .returned (.tuple #[.agg #[.int .i64 0, .int .i64 (addN a b c d)], .bool (numB a b && numB c d)]) ∧ Below w.heap.size w w' := by
  cases hn : (numB a b && numB c d)
  · rw [addN_no hn]
    go_enter Tryz.func156, Tryz.ntmps156
    go_wp2_with (go_at_call 178; refine (l1Numbers_any _ _ _ _ _).mono ?_; rintro e w1 ⟨rfl, hb1⟩; have hs1 := hb1.size; obtain ⟨hc1, hf1⟩ := bcell hb1; have hz0 : w.heap.size < w1.heap.size := (by clear hc1 hf1; (try simp at hs1); omega); have hz1 : w.heap.size + 1 < w1.heap.size := (by clear hc1 hf1; (try simp at hs1); omega); have hz2 : w.heap.size + 1 + 1 < w1.heap.size := (by clear hc1 hf1; (try simp at hs1); omega))
    refine bodyPost_ret (v := .tuple #[.agg #[.int .i64 0, .int .i64 0], .bool false]) (by simp [results, Tryz.results156, go_sem, *]) rfl ⟨rfl, ?_⟩
    clear hc1 hf1
    (repeat (first | exact Below.refl _ _ | refine Below.drew ?_ | refine Below.alloc ?_ ?_ _ | refine Below.setCell ?_ ?_ _ | refine Below.trans ?_ (Below.mono (by assumption) ?_))) <;> (first | omega | (simp at *; done) | (simp at *; omega))
  · rw [addN_yes hn]
    have hb := num_bd (Bool.and_eq_true_iff.1 hn).1
    have hd := num_bd (Bool.and_eq_true_iff.1 hn).2
    obtain ⟨rfl, hb1, hb2⟩ := hb
    obtain ⟨rfl, hd1, hd2⟩ := hd
    go_enter Tryz.func156, Tryz.ntmps156
    go_wp2_with (first | (go_at_call 178; refine (l1Numbers_any _ _ _ _ _).mono ?_; rintro e w1 ⟨rfl, hb1⟩; have hs1 := hb1.size; obtain ⟨hc1, hf1⟩ := bcell hb1; have hz0 : w.heap.size < w1.heap.size := (by clear hc1 hf1; (try simp at hs1); omega); have hz1 : w.heap.size + 1 < w1.heap.size := (by clear hc1 hf1; (try simp at hs1); omega); have hz2 : w.heap.size + 1 + 1 < w1.heap.size := (by clear hc1 hf1; (try simp at hs1); omega)) | (go_at_call 179; refine (specNumber_any _ _).mono ?_; rintro e w1 ⟨rfl, hb1⟩; have hs1 := hb1.size; obtain ⟨hc1, hf1⟩ := bcell hb1; have hz0 : w.heap.size < w1.heap.size := (by clear hc1 hf1; (try simp at hs1); omega); have hz1 : w.heap.size + 1 < w1.heap.size := (by clear hc1 hf1; (try simp at hs1); omega); have hz2 : w.heap.size + 1 + 1 < w1.heap.size := (by clear hc1 hf1; (try simp at hs1); omega)))
    refine bodyPost_ret (v := .tuple #[.agg #[.int .i64 0, .int .i64 (clampI (b + d))], .bool true]) (by simp [results, Tryz.results156, go_sem, *]) rfl ⟨rfl, ?_⟩
    clear hc1 hf1
    (repeat (first | exact Below.refl _ _ | refine Below.drew ?_ | refine Below.alloc ?_ ?_ _ | refine Below.setCell ?_ ?_ _ | refine Below.trans ?_ (Below.mono (by assumption) ?_))) <;> (first | omega | (simp at *; done) | (simp at *; omega))

theorem plus_any (a b c d : Int) (w : World) (h1 : -1000000 ≤ b) (h2 : b ≤ 1000000) (h3 : -1000000 ≤ d) (h4 : d ≤ 1000000) :
    Calls Tryz.prog 118 #[.agg #[.int .i64 a, .int .i64 b], .agg #[.int .i64 c, .int .i64 d]] w fun e w' => e = .returned (.agg #[.int .i64 0, .int .i64 (clampI (b + d))]) ∧ Below w.heap.size w w' := by
  go_enter Tryz.func118, Tryz.ntmps118
  go_wp2_with (go_at_call 93; refine (implNumber_any _ _).mono ?_; rintro e w1 ⟨rfl, hb1⟩; have hs1 := hb1.size; obtain ⟨hc1, hf1⟩ := bcell hb1; have hz0 : w.heap.size < w1.heap.size := (by clear hc1 hf1; (try simp at hs1); omega); have hz1 : w.heap.size + 1 < w1.heap.size := (by clear hc1 hf1; (try simp at hs1); omega); have hz2 : w.heap.size + 1 + 1 < w1.heap.size := (by clear hc1 hf1; (try simp at hs1); omega))
  refine bodyPost_ret (v := .agg #[.int .i64 0, .int .i64 (clampI (b + d))]) (by simp [results, Tryz.results118, go_sem, *]) rfl ⟨rfl, ?_⟩
  clear hc1 hf1
  (repeat (first | exact Below.refl _ _ | refine Below.drew ?_ | refine Below.alloc ?_ ?_ _ | refine Below.setCell ?_ ?_ _ | refine Below.trans ?_ (Below.mono (by assumption) ?_))) <;> (first | omega | (simp at *; done) | (simp at *; omega))

theorem isLess_any (a b c d : Int) (w : World) :
    Calls Tryz.prog 119 #[.agg #[.int .i64 a, .int .i64 b], .agg #[.int .i64 c, .int .i64 d]] w fun e w' => e = .returned (.agg #[.int .i64 0, .int .i64 (if b < d then 1 else 0)]) ∧ Below w.heap.size w w' := by
  by_cases h : b < d
  · rw [if_pos h]
    go_enter Tryz.func119, Tryz.ntmps119
    go_wp2_with (go_at_call 93; refine (implNumber_any _ _).mono ?_; rintro e w1 ⟨rfl, hb1⟩; have hs1 := hb1.size; obtain ⟨hc1, hf1⟩ := bcell hb1; have hz0 : w.heap.size < w1.heap.size := (by clear hc1 hf1; (try simp at hs1); omega); have hz1 : w.heap.size + 1 < w1.heap.size := (by clear hc1 hf1; (try simp at hs1); omega); have hz2 : w.heap.size + 1 + 1 < w1.heap.size := (by clear hc1 hf1; (try simp at hs1); omega))
    refine bodyPost_ret (v := .agg #[.int .i64 0, .int .i64 1]) (by simp [results, Tryz.results119, go_sem, clamp1, *]) rfl ⟨rfl, ?_⟩
    clear hc1 hf1
    (repeat (first | exact Below.refl _ _ | refine Below.drew ?_ | refine Below.alloc ?_ ?_ _ | refine Below.setCell ?_ ?_ _ | refine Below.trans ?_ (Below.mono (by assumption) ?_))) <;> (first | omega | (simp at *; done) | (simp at *; omega))
  · rw [if_neg h]
    go_enter Tryz.func119, Tryz.ntmps119
    go_wp2_with (go_at_call 93; refine (implNumber_any _ _).mono ?_; rintro e w1 ⟨rfl, hb1⟩; have hs1 := hb1.size; obtain ⟨hc1, hf1⟩ := bcell hb1; have hz0 : w.heap.size < w1.heap.size := (by clear hc1 hf1; (try simp at hs1); omega); have hz1 : w.heap.size + 1 < w1.heap.size := (by clear hc1 hf1; (try simp at hs1); omega); have hz2 : w.heap.size + 1 + 1 < w1.heap.size := (by clear hc1 hf1; (try simp at hs1); omega))
    refine bodyPost_ret (v := .agg #[.int .i64 0, .int .i64 0]) (by simp [results, Tryz.results119, go_sem, clamp0, *]) rfl ⟨rfl, ?_⟩
    clear hc1 hf1
    (repeat (first | exact Below.refl _ _ | refine Below.drew ?_ | refine Below.alloc ?_ ?_ _ | refine Below.setCell ?_ ?_ _ | refine Below.trans ?_ (Below.mono (by assumption) ?_))) <;> (first | omega | (simp at *; done) | (simp at *; omega))

theorem isLess_y (a b c d : Int) (w : World) (h : b < d) :
    Calls Tryz.prog 119 #[.agg #[.int .i64 a, .int .i64 b], .agg #[.int .i64 c, .int .i64 d]] w fun e w' => e = .returned (.agg #[.int .i64 0, .int .i64 1]) ∧ Below w.heap.size w w' :=
  (isLess_any a b c d w).mono fun _ _ ⟨he, hb⟩ => ⟨by rw [he, if_pos h], hb⟩
theorem isLess_n (a b c d : Int) (w : World) (h : d ≤ b) :
    Calls Tryz.prog 119 #[.agg #[.int .i64 a, .int .i64 b], .agg #[.int .i64 c, .int .i64 d]] w fun e w' => e = .returned (.agg #[.int .i64 0, .int .i64 0]) ∧ Below w.heap.size w w' :=
  (isLess_any a b c d w).mono fun _ _ ⟨he, hb⟩ => ⟨by rw [he, if_neg (by omega)], hb⟩

theorem bothAre_any (a b c d : Int) (w : World) :
    Calls Tryz.prog 153 #[.func (.func 76) #[] #[], .agg #[.int .i64 a, .int .i64 b], .agg #[.int .i64 c, .int .i64 d]] w fun e w' => e = .returned (.bool (numB a b && numB c d)) ∧ Below w.heap.size w w' := by
  cases hn : numB a b
  all_goals
    go_enter Tryz.func153, Tryz.ntmps153
    go_wp2_with (go_at_call 76; refine (isNumber_any _ _ _).mono ?_; rintro e w1 ⟨rfl, hb1⟩; have hs1 := hb1.size; obtain ⟨hc1, hf1⟩ := bcell hb1; have hz0 : w.heap.size < w1.heap.size := (by clear hc1 hf1; (try simp at hs1); omega); have hz1 : w.heap.size + 1 < w1.heap.size := (by clear hc1 hf1; (try simp at hs1); omega))
    go_ret
    refine ⟨by simp, ?_⟩
    clear hc1 hf1
    (repeat (first | exact Below.refl _ _ | refine Below.drew ?_ | refine Below.alloc ?_ ?_ _ | refine Below.setCell ?_ ?_ _ | refine Below.trans ?_ (Below.mono (by assumption) ?_))) <;> (first | omega | (simp at *; done) | (simp at *; omega))

set_option maxHeartbeats 1000000 in
theorem ofPlus_any (a b c d : Int) (w : World) :
    Calls Tryz.prog 117 #[.agg #[.int .i64 a, .int .i64 b], .agg #[.int .i64 c, .int .i64 d], .func (.func 118) #[.agg #[.int .i64 a, .int .i64 b]] #[]] w fun e w' => e = .returned (.tuple #[.agg #[.int .i64 0, .int .i64 (addN a b c d)], .bool (numB a b && numB c d)]) ∧ Below w.heap.size w w' := by
  cases hn : (numB a b && numB c d)
  · rw [addN_no hn]
    go_enter Tryz.func117, Tryz.ntmps117
    go_wp2_with (go_at_call 153; refine (bothAre_any _ _ _ _ _).mono ?_; rintro e w1 ⟨rfl, hb1⟩; have hs1 := hb1.size; obtain ⟨hc1, hf1⟩ := bcell hb1; have hz0 : w.heap.size < w1.heap.size := (by clear hc1 hf1; (try simp at hs1); omega); have hz1 : w.heap.size + 1 < w1.heap.size := (by clear hc1 hf1; (try simp at hs1); omega); have hz2 : w.heap.size + 1 + 1 < w1.heap.size := (by clear hc1 hf1; (try simp at hs1); omega))
    refine bodyPost_ret (v := .tuple #[.agg #[.int .i64 0, .int .i64 0], .bool false]) (by simp [results, Tryz.results117, go_sem, *]) rfl ⟨rfl, ?_⟩
    clear hc1 hf1
    (repeat (first | exact Below.refl _ _ | refine Below.drew ?_ | refine Below.alloc ?_ ?_ _ | refine Below.setCell ?_ ?_ _ | refine Below.trans ?_ (Below.mono (by assumption) ?_))) <;> (first | omega | (simp at *; done) | (simp at *; omega))
  · rw [addN_yes hn]
    have hb := num_bd (Bool.and_eq_true_iff.1 hn).1
    have hd := num_bd (Bool.and_eq_true_iff.1 hn).2
    obtain ⟨rfl, hb1, hb2⟩ := hb
    obtain ⟨rfl, hd1, hd2⟩ := hd
    go_enter Tryz.func117, Tryz.ntmps117
    go_wp2_with (first | (go_at_call 153; refine (bothAre_any _ _ _ _ _).mono ?_; rintro e w1 ⟨rfl, hb1⟩; have hs1 := hb1.size; obtain ⟨hc1, hf1⟩ := bcell hb1; have hz0 : w.heap.size < w1.heap.size := (by clear hc1 hf1; (try simp at hs1); omega); have hz1 : w.heap.size + 1 < w1.heap.size := (by clear hc1 hf1; (try simp at hs1); omega); have hz2 : w.heap.size + 1 + 1 < w1.heap.size := (by clear hc1 hf1; (try simp at hs1); omega)) | (go_at_call 118; refine (plus_any _ _ _ _ _ (by assumption) (by assumption) (by assumption) (by assumption)).mono ?_; rintro e w1 ⟨rfl, hb1⟩; have hs1 := hb1.size; obtain ⟨hc1, hf1⟩ := bcell hb1; have hz0 : w.heap.size < w1.heap.size := (by clear hc1 hf1; (try simp at hs1); omega); have hz1 : w.heap.size + 1 < w1.heap.size := (by clear hc1 hf1; (try simp at hs1); omega); have hz2 : w.heap.size + 1 + 1 < w1.heap.size := (by clear hc1 hf1; (try simp at hs1); omega)))
    refine bodyPost_ret (v := .tuple #[.agg #[.int .i64 0, .int .i64 (clampI (b + d))], .bool true]) (by simp [results, Tryz.results117, go_sem, *]) rfl ⟨rfl, ?_⟩
    clear hc1 hf1
    (repeat (first | exact Below.refl _ _ | refine Below.drew ?_ | refine Below.alloc ?_ ?_ _ | refine Below.setCell ?_ ?_ _ | refine Below.trans ?_ (Below.mono (by assumption) ?_))) <;> (first | omega | (simp at *; done) | (simp at *; omega))

theorem implAdded_any (a b c d : Int) (w : World) :
    Calls Tryz.prog 82 #[.agg #[.int .i64 a, .int .i64 b], .agg #[.int .i64 c, .int .i64 d]] w fun e w' => e = .returned (.tuple #[.agg #[.int .i64 0, .int .i64 (addN a b c d)], .bool (numB a b && numB c d)]) ∧ Below w.heap.size w w' := by
  go_enter Tryz.func82, Tryz.ntmps82
  go_wp2_with (go_at_call 117; refine (ofPlus_any _ _ _ _ _).mono ?_; rintro e w1 ⟨rfl, hb1⟩; have hs1 := hb1.size; obtain ⟨hc1, hf1⟩ := bcell hb1; have hz0 : w.heap.size < w1.heap.size := (by clear hc1 hf1; (try simp at hs1); omega); have hz1 : w.heap.size + 1 < w1.heap.size := (by clear hc1 hf1; (try simp at hs1); omega); have hz2 : w.heap.size + 1 + 1 < w1.heap.size := (by clear hc1 hf1; (try simp at hs1); omega))
  refine bodyPost_ret (v := .tuple #[.agg #[.int .i64 0, .int .i64 (addN a b c d)], .bool (numB a b && numB c d)]) (by simp [results, Tryz.results82, go_sem, *]) rfl ⟨rfl, ?_⟩
  clear hc1 hf1
  (repeat (first | exact Below.refl _ _ | refine Below.drew ?_ | refine Below.alloc ?_ ?_ _ | refine Below.setCell ?_ ?_ _ | refine Below.trans ?_ (Below.mono (by assumption) ?_))) <;> (first | omega | (simp at *; done) | (simp at *; omega))

set_option maxHeartbeats 1000000 in
theorem ofLess_any (a b c d : Int) (w : World) :
    Calls Tryz.prog 117 #[.agg #[.int .i64 a, .int .i64 b], .agg #[.int .i64 c, .int .i64 d], .func (.func 119) #[.agg #[.int .i64 a, .int .i64 b]] #[]] w fun e w' => e = .returned (.tuple #[.agg #[.int .i64 0, .int .i64 (lssN a b c d)], .bool (numB a b && numB c d)]) ∧ Below w.heap.size w w' := by
  cases hn : (numB a b && numB c d)
  · rw [lssN_no hn]
    go_enter Tryz.func117, Tryz.ntmps117
    go_wp2_with (go_at_call 153; refine (bothAre_any _ _ _ _ _).mono ?_; rintro e w1 ⟨rfl, hb1⟩; have hs1 := hb1.size; obtain ⟨hc1, hf1⟩ := bcell hb1; have hz0 : w.heap.size < w1.heap.size := (by clear hc1 hf1; (try simp at hs1); omega); have hz1 : w.heap.size + 1 < w1.heap.size := (by clear hc1 hf1; (try simp at hs1); omega); have hz2 : w.heap.size + 1 + 1 < w1.heap.size := (by clear hc1 hf1; (try simp at hs1); omega))
    refine bodyPost_ret (v := .tuple #[.agg #[.int .i64 0, .int .i64 0], .bool false]) (by simp [results, Tryz.results117, go_sem, *]) rfl ⟨rfl, ?_⟩
    clear hc1 hf1
    (repeat (first | exact Below.refl _ _ | refine Below.drew ?_ | refine Below.alloc ?_ ?_ _ | refine Below.setCell ?_ ?_ _ | refine Below.trans ?_ (Below.mono (by assumption) ?_))) <;> (first | omega | (simp at *; done) | (simp at *; omega))
  · rw [lssN_yes hn]
    by_cases h : b < d
    · rw [if_pos h]
      go_enter Tryz.func117, Tryz.ntmps117
      go_wp2_with (first | (go_at_call 153; refine (bothAre_any _ _ _ _ _).mono ?_; rintro e w1 ⟨rfl, hb1⟩; have hs1 := hb1.size; obtain ⟨hc1, hf1⟩ := bcell hb1; have hz0 : w.heap.size < w1.heap.size := (by clear hc1 hf1; (try simp at hs1); omega); have hz1 : w.heap.size + 1 < w1.heap.size := (by clear hc1 hf1; (try simp at hs1); omega); have hz2 : w.heap.size + 1 + 1 < w1.heap.size := (by clear hc1 hf1; (try simp at hs1); omega)) | (go_at_call 119; refine (isLess_y _ _ _ _ _ (by assumption)).mono ?_; rintro e w1 ⟨rfl, hb1⟩; have hs1 := hb1.size; obtain ⟨hc1, hf1⟩ := bcell hb1; have hz0 : w.heap.size < w1.heap.size := (by clear hc1 hf1; (try simp at hs1); omega); have hz1 : w.heap.size + 1 < w1.heap.size := (by clear hc1 hf1; (try simp at hs1); omega); have hz2 : w.heap.size + 1 + 1 < w1.heap.size := (by clear hc1 hf1; (try simp at hs1); omega)))
      refine bodyPost_ret (v := .tuple #[.agg #[.int .i64 0, .int .i64 1], .bool true]) (by simp [results, Tryz.results117, go_sem, *]) rfl ⟨rfl, ?_⟩
      clear hc1 hf1
      (repeat (first | exact Below.refl _ _ | refine Below.drew ?_ | refine Below.alloc ?_ ?_ _ | refine Below.setCell ?_ ?_ _ | refine Below.trans ?_ (Below.mono (by assumption) ?_))) <;> (first | omega | (simp at *; done) | (simp at *; omega))
    · rw [if_neg h]
      go_enter Tryz.func117, Tryz.ntmps117
      go_wp2_with (first | (go_at_call 153; refine (bothAre_any _ _ _ _ _).mono ?_; rintro e w1 ⟨rfl, hb1⟩; have hs1 := hb1.size; obtain ⟨hc1, hf1⟩ := bcell hb1; have hz0 : w.heap.size < w1.heap.size := (by clear hc1 hf1; (try simp at hs1); omega); have hz1 : w.heap.size + 1 < w1.heap.size := (by clear hc1 hf1; (try simp at hs1); omega); have hz2 : w.heap.size + 1 + 1 < w1.heap.size := (by clear hc1 hf1; (try simp at hs1); omega)) | (go_at_call 119; refine (isLess_n _ _ _ _ _ (by omega)).mono ?_; rintro e w1 ⟨rfl, hb1⟩; have hs1 := hb1.size; obtain ⟨hc1, hf1⟩ := bcell hb1; have hz0 : w.heap.size < w1.heap.size := (by clear hc1 hf1; (try simp at hs1); omega); have hz1 : w.heap.size + 1 < w1.heap.size := (by clear hc1 hf1; (try simp at hs1); omega); have hz2 : w.heap.size + 1 + 1 < w1.heap.size := (by clear hc1 hf1; (try simp at hs1); omega)))
      refine bodyPost_ret (v := .tuple #[.agg #[.int .i64 0, .int .i64 0], .bool true]) (by simp [results, Tryz.results117, go_sem, *]) rfl ⟨rfl, ?_⟩
      clear hc1 hf1
      (repeat (first | exact Below.refl _ _ | refine Below.drew ?_ | refine Below.alloc ?_ ?_ _ | refine Below.setCell ?_ ?_ _ | refine Below.trans ?_ (Below.mono (by assumption) ?_))) <;> (first | omega | (simp at *; done) | (simp at *; omega))

theorem implBelow_any (a b c d : Int) (w : World) :
    Calls Tryz.prog 83 #[.agg #[.int .i64 a, .int .i64 b], .agg #[.int .i64 c, .int .i64 d]] w fun e w' => e = .returned (.tuple #[.agg #[.int .i64 0, .int .i64 (lssN a b c d)], .bool (numB a b && numB c d)]) ∧ Below w.heap.size w w' := by
  go_enter Tryz.func83, Tryz.ntmps83
  go_wp2_with (go_at_call 117; refine (ofLess_any _ _ _ _ _).mono ?_; rintro e w1 ⟨rfl, hb1⟩; have hs1 := hb1.size; obtain ⟨hc1, hf1⟩ := bcell hb1; have hz0 : w.heap.size < w1.heap.size := (by clear hc1 hf1; (try simp at hs1); omega); have hz1 : w.heap.size + 1 < w1.heap.size := (by clear hc1 hf1; (try simp at hs1); omega); have hz2 : w.heap.size + 1 + 1 < w1.heap.size := (by clear hc1 hf1; (try simp at hs1); omega))
  refine bodyPost_ret (v := .tuple #[.agg #[.int .i64 0, .int .i64 (lssN a b c d)], .bool (numB a b && numB c d)]) (by simp [results, Tryz.results83, go_sem, *]) rfl ⟨rfl, ?_⟩
  clear hc1 hf1
  (repeat (first | exact Below.refl _ _ | refine Below.drew ?_ | refine Below.alloc ?_ ?_ _ | refine Below.setCell ?_ ?_ _ | refine Below.trans ?_ (Below.mono (by assumption) ?_))) <;> (first | omega | (simp at *; done) | (simp at *; omega))

set_option maxHeartbeats 1000000 in
theorem specBelow_any (a b c d : Int) (w : World) :
    Calls Tryz.prog 157 #[.agg #[.int .i64 a, .int .i64 b], .agg #[.int .i64 c, .int .i64 d]] w fun e w' => e = .returned (.tuple #[.agg #[.int .i64 0, .int .i64 (lssN a b c d)], .bool (numB a b && numB c d)]) ∧ Below w.heap.size w w' := by
  cases hn : (numB a b && numB c d)
  · rw [lssN_no hn]
    go_enter Tryz.func157, Tryz.ntmps157
    go_wp2_with (go_at_call 178; refine (l1Numbers_any _ _ _ _ _).mono ?_; rintro e w1 ⟨rfl, hb1⟩; have hs1 := hb1.size; obtain ⟨hc1, hf1⟩ := bcell hb1; have hz0 : w.heap.size < w1.heap.size := (by clear hc1 hf1; (try simp at hs1); omega); have hz1 : w.heap.size + 1 < w1.heap.size := (by clear hc1 hf1; (try simp at hs1); omega); have hz2 : w.heap.size + 1 + 1 < w1.heap.size := (by clear hc1 hf1; (try simp at hs1); omega))
    refine bodyPost_ret (v := .tuple #[.agg #[.int .i64 0, .int .i64 0], .bool false]) (by simp [results, Tryz.results157, go_sem, *]) rfl ⟨rfl, ?_⟩
    clear hc1 hf1
    (repeat (first | exact Below.refl _ _ | refine Below.drew ?_ | refine Below.alloc ?_ ?_ _ | refine Below.setCell ?_ ?_ _ | refine Below.trans ?_ (Below.mono (by assumption) ?_))) <;> (first | omega | (simp at *; done) | (simp at *; omega))
  · rw [lssN_yes hn]
    by_cases h : b < d
    · rw [if_pos h]
      go_enter Tryz.func157, Tryz.ntmps157
      go_wp2_with (first | (go_at_call 178; refine (l1Numbers_any _ _ _ _ _).mono ?_; rintro e w1 ⟨rfl, hb1⟩; have hs1 := hb1.size; obtain ⟨hc1, hf1⟩ := bcell hb1; have hz0 : w.heap.size < w1.heap.size := (by clear hc1 hf1; (try simp at hs1); omega); have hz1 : w.heap.size + 1 < w1.heap.size := (by clear hc1 hf1; (try simp at hs1); omega); have hz2 : w.heap.size + 1 + 1 < w1.heap.size := (by clear hc1 hf1; (try simp at hs1); omega)) | (go_at_call 179; refine (specNumber_any _ _).mono ?_; rintro e w1 ⟨rfl, hb1⟩; have hs1 := hb1.size; obtain ⟨hc1, hf1⟩ := bcell hb1; have hz0 : w.heap.size < w1.heap.size := (by clear hc1 hf1; (try simp at hs1); omega); have hz1 : w.heap.size + 1 < w1.heap.size := (by clear hc1 hf1; (try simp at hs1); omega); have hz2 : w.heap.size + 1 + 1 < w1.heap.size := (by clear hc1 hf1; (try simp at hs1); omega)))
      refine bodyPost_ret (v := .tuple #[.agg #[.int .i64 0, .int .i64 1], .bool true]) (by simp [results, Tryz.results157, go_sem, clamp1, *]) rfl ⟨rfl, ?_⟩
      clear hc1 hf1
      (repeat (first | exact Below.refl _ _ | refine Below.drew ?_ | refine Below.alloc ?_ ?_ _ | refine Below.setCell ?_ ?_ _ | refine Below.trans ?_ (Below.mono (by assumption) ?_))) <;> (first | omega | (simp at *; done) | (simp at *; omega))
    · rw [if_neg h]
      go_enter Tryz.func157, Tryz.ntmps157
      go_wp2_with (first | (go_at_call 178; refine (l1Numbers_any _ _ _ _ _).mono ?_; rintro e w1 ⟨rfl, hb1⟩; have hs1 := hb1.size; obtain ⟨hc1, hf1⟩ := bcell hb1; have hz0 : w.heap.size < w1.heap.size := (by clear hc1 hf1; (try simp at hs1); omega); have hz1 : w.heap.size + 1 < w1.heap.size := (by clear hc1 hf1; (try simp at hs1); omega); have hz2 : w.heap.size + 1 + 1 < w1.heap.size := (by clear hc1 hf1; (try simp at hs1); omega)) | (go_at_call 179; refine (specNumber_any _ _).mono ?_; rintro e w1 ⟨rfl, hb1⟩; have hs1 := hb1.size; obtain ⟨hc1, hf1⟩ := bcell hb1; have hz0 : w.heap.size < w1.heap.size := (by clear hc1 hf1; (try simp at hs1); omega); have hz1 : w.heap.size + 1 < w1.heap.size := (by clear hc1 hf1; (try simp at hs1); omega); have hz2 : w.heap.size + 1 + 1 < w1.heap.size := (by clear hc1 hf1; (try simp at hs1); omega)))
      refine bodyPost_ret (v := .tuple #[.agg #[.int .i64 0, .int .i64 0], .bool true]) (by simp [results, Tryz.results157, go_sem, clamp0, *]) rfl ⟨rfl, ?_⟩
      clear hc1 hf1
      (repeat (first | exact Below.refl _ _ | refine Below.drew ?_ | refine Below.alloc ?_ ?_ _ | refine Below.setCell ?_ ?_ _ | refine Below.trans ?_ (Below.mono (by assumption) ?_))) <;> (first | omega | (simp at *; done) | (simp at *; omega))

end L1
end Go.Proofs.YtkhjbhkbknennaaGreatDoor

/-
  Chapter 1: is a value nothing: the program's own function.
-/
namespace Go.Proofs.YtkhjbhkbknennaaGreatDoor
open Go.RowKit
namespace L1

theorem cell_far2 {w : World} {b b' o : Nat} {u v x : Value} (h : w.cell? ⟨b', o, none⟩ = some x) (hne : b ≠ b') : ((w.setCell ⟨b, 0, none⟩ u).setCell ⟨b, 1, none⟩ v).cell? ⟨b', o, none⟩ = some x := by
  rw [World.cell?_setCell_other _ _ _ _ (by intro e; exact hne (congrArg Addr.block e)), World.cell?_setCell_other _ _ _ _ (by intro e; exact hne (congrArg Addr.block e))]
  exact h
theorem cell_two {w : World} {b : Nat} {u v : Value} (h0 : (w.cell? ⟨b, 0, none⟩).isSome = true) (h1 : (w.cell? ⟨b, 1, none⟩).isSome = true) :
    ((w.setCell ⟨b, 0, none⟩ u).setCell ⟨b, 1, none⟩ v).cell? ⟨b, 0, none⟩ = some u ∧ ((w.setCell ⟨b, 0, none⟩ u).setCell ⟨b, 1, none⟩ v).cell? ⟨b, 1, none⟩ = some v := by
  obtain ⟨x, hx⟩ := Option.isSome_iff_exists.1 h0
  obtain ⟨y, hy⟩ := Option.isSome_iff_exists.1 h1
  constructor
  · rw [World.cell?_setCell_other _ _ _ _ (by intro e; cases e)]
    simp [go_sem, hx]
  · have hy' : (w.setCell ⟨b, 0, none⟩ u).cell? ⟨b, 1, none⟩ = some y := by rw [World.cell?_setCell_other _ _ _ _ (by intro e; cases e)]; exact hy
    simp [go_sem, hy']
theorem implNumber0 (w : World) :
    Calls Tryz.prog 93 #[.int .i64 0] w fun e w' => e = .returned (.agg #[.int .i64 0, .int .i64 0]) ∧ Below w.heap.size w w' :=
  (implNumber_any 0 w).mono fun _ _ ⟨he, hb⟩ => ⟨by rw [he, clamp0], hb⟩

set_option maxHeartbeats 1000000 in
theorem implIsNothing_any (a b : Int) (w : World) :
    Calls Tryz.prog 124 #[.agg #[.int .i64 a, .int .i64 b]] w fun e w' => e = .returned (.bool (sameB a b 0 0)) ∧ Below w.heap.size w w' := by
  by_cases h1 : a = 0 <;> by_cases h2 : b = 0
  all_goals
    have h1' : (a == 0) = decide (a = 0) := by by_cases h : a = 0 <;> simp [h]
    have h2' : (b == 0) = decide (b = 0) := by by_cases h : b = 0 <;> simp [h]
    simp only [h1, h2, decide_true, decide_false] at h1' h2'
    go_enter Tryz.func124, Tryz.ntmps124
    go_wp2
    go_region_with (go_at_call 93; refine (implNumber0 _).mono ?_; rintro e w1 ⟨rfl, hb1⟩; have c0 := (bcell hb1).1 w.heap.size 0 (by simp); have c1 := (bcell hb1).1 w.heap.size 1 (by simp); have hs1 := hb1.size; simp at c0 c1 hs1)
    all_goals
      go_wp2
      go_ret
      refine ⟨by simp [sameB, h1, h2]; rfl, ?_⟩
      (repeat (first | exact Below.refl _ _ | refine Below.drew ?_ | refine Below.alloc ?_ ?_ _ | refine Below.setCell ?_ ?_ _ | refine Below.trans ?_ (Below.mono (by assumption) ?_))) <;> (first | omega | (simp at *; done) | (simp at *; omega))

end L1
end Go.Proofs.YtkhjbhkbknennaaGreatDoor
