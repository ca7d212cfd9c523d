/-
  Gathered in one text, in this order: L1, L1b, L1c, L1d.
-/
import Derived.Test.YthlpjpoekfhnfaaDoorChecked
import Derived.WalkKit
import Derived.ProofKit
import Derived.OpenShut
import Derived.BigQuiet
import Derived.Deep.QuietTactic
import Derived.WalkLawsBesides
import Derived.Outline
import Derived.Lib.Hide
import Derived.Deep.RegionWith
/-
  Chapter 1's small functions, each by a contract of its own: what it returns, and that nothing that was there turns.
-/
namespace Go.Proofs.YthlpjpoekfhnfaaDoor
open Go.RowKit
namespace L1

def inB (x lo hi : Int) : Bool := decide (lo ≤ x) && decide (x ≤ hi)
def clampI (n : Int) : Int := if n < -1000000 then -1000000 else if 1000000 < n then 1000000 else n
def numB (k n : Int) : Bool := decide (k = 0) && inB n (-1000000) 1000000
def pieB (k n : Int) : Bool := decide (k = 1) && inB n 0 19
def okB (k n : Int) : Bool := numB k n || pieB k n
def sameB (a b c d : Int) : Bool := decide (a = c) && decide (b = d)

theorem bcell {W w1 : World} (hb : Below W.heap.size W w1) : (∀ b o, b < W.heap.size → w1.cell? ⟨b, o, none⟩ = W.cell? ⟨b, o, none⟩) ∧ (∀ b o, b < W.heap.size → w1.frozen? ⟨b, o, none⟩ = W.frozen? ⟨b, o, none⟩) :=
  ⟨fun b o h => hb.cell (p := ⟨b, o, none⟩) h, fun b o h => hb.frozen (p := ⟨b, o, none⟩) h⟩

theorem bsize {W w1 : World} (hb : Below W.heap.size W w1) : (∀ k, k < W.heap.size → k < w1.heap.size) ∧ (∀ k, k ≤ W.heap.size → k ≤ w1.heap.size) :=
  ⟨fun _ h => Nat.lt_of_lt_of_le h hb.size, fun _ h => Nat.le_trans h hb.size⟩

theorem bcomp {B : Nat} {a W w1 : World} (h : Below B a W) (hB : B ≤ W.heap.size) (hb : Below W.heap.size W w1) : Below B a w1 := h.trans (hb.mono hB)
theorem bcomp1 {a W w1 : World} (h : Below a.heap.size a W) (hb : Below W.heap.size W w1) : Below a.heap.size a w1 := h.trans (hb.mono h.size)

theorem l1In_any (x lo hi : Int) (w : World) :
    Calls Tryd.prog 57 #[.int .i64 x, .int .i64 lo, .int .i64 hi] w fun e w' => e = .returned (.bool (inB x lo hi)) ∧ w = w' := by
  by_cases h1 : lo ≤ x <;> by_cases h2 : x ≤ hi
  all_goals
    go_enter Tryd.func57, Tryd.ntmps57
    go_wp2
    go_ret
    exact ⟨by simp [inB, h1, h2], rfl⟩

theorem isNumber_any (k n : Int) (w : World) :
    Calls Tryd.prog 65 #[.agg #[.int .i64 k, .int .i64 n]] w fun e w' => e = .returned (.bool (numB k n)) ∧ Below w.heap.size w w' := by
  by_cases h0 : k = 0 <;> by_cases h1 : -1000000 ≤ n <;> by_cases h2 : n ≤ 1000000
  all_goals try (exfalso; omega)
  all_goals
    have h0' : (k == 0) = decide (k = 0) := by by_cases h : k = 0 <;> simp [h]
    simp only [h0, decide_true, decide_false] at h0'
    go_enter Tryd.func65, Tryd.ntmps65
    go_wp2
    go_ret
    exact ⟨by simp [numB, inB, h0, h1, h2], (Below.refl _ _).alloc (Nat.le_refl _) _⟩

theorem isPiece_any (k n : Int) (w : World) :
    Calls Tryd.prog 82 #[.agg #[.int .i64 k, .int .i64 n]] w fun e w' => e = .returned (.bool (pieB k n)) ∧ Below w.heap.size w w' := by
  by_cases h0 : k = 1 <;> by_cases h1 : 0 ≤ n <;> by_cases h2 : n < 20
  all_goals try (exfalso; omega)
  all_goals
    have h2' : decide (n ≤ 19) = decide (n < 20) := by simp; omega
    have h0' : (k == 1) = decide (k = 1) := by by_cases h : k = 1 <;> simp [h]
    simp only [h0, decide_true, decide_false] at h0'
    go_enter Tryd.func82, Tryd.ntmps82
    go_wp2
    go_ret
    exact ⟨by simp [pieB, inB, h0, h1, h2, h2'], (Below.refl _ _).alloc (Nat.le_refl _) _⟩

end L1
end Go.Proofs.YthlpjpoekfhnfaaDoor

/-
  Chapter 1's functions on values, each by a contract of its own.
-/
namespace Go.Proofs.YthlpjpoekfhnfaaDoor
open Go.RowKit
namespace L1

theorem implValueOk_any (k n : Int) (w : World) :
    Calls Tryd.prog 80 #[.agg #[.int .i64 k, .int .i64 n]] w fun e w' => e = .returned (.bool (okB k n)) ∧ Below w.heap.size w w' := by
  cases hn : numB k n
  all_goals
    go_enter Tryd.func80, Tryd.ntmps80
    go_wp2_with (first | (go_at_call 65; refine (isNumber_any _ _ _).mono ?_; rintro e w1 ⟨rfl, hb1⟩; have hs1 := hb1.size; obtain ⟨hc1, hf1⟩ := bcell hb1) | (go_at_call 82; refine (isPiece_any _ _ _).mono ?_; rintro e w2 ⟨rfl, hb2⟩; have hs2 := hb2.size))
    go_ret
    refine ⟨by simp [okB, hn], ?_⟩
    (repeat (first | exact Below.refl _ _ | refine Below.drew ?_ | refine Below.alloc ?_ ?_ _ | refine Below.setCell ?_ ?_ _ | refine Below.trans ?_ (Below.mono (by assumption) ?_))) <;> (first | omega | (simp at *; done) | (simp at *; omega))

theorem clamp_spec (n : Int) : (if 1000000 < (if n < -1000000 then -1000000 else n) then 1000000 else (if n < -1000000 then -1000000 else n)) = clampI n := by
  unfold clampI; split <;> simp_all

theorem num_of_ok (k n : Int) : numB k n = (decide (k = 0) && okB k n) := by
  by_cases h : k = 0 <;> simp [numB, okB, pieB, h]

end L1
end Go.Proofs.YthlpjpoekfhnfaaDoor

/-
  Chapter 1: sums and comparisons of numbers, each by a contract of its own.
-/
namespace Go.Proofs.YthlpjpoekfhnfaaDoor
open Go.RowKit
namespace L1

def addN (a b c d : Int) : Int := if numB a b && numB c d then clampI (b + d) else 0
def lssN (a b c d : Int) : Int := if numB a b && numB c d then (if b < d then 1 else 0) else 0

theorem num_bd {k n : Int} (h : numB k n = true) : k = 0 ∧ -1000000 ≤ n ∧ n ≤ 1000000 := by
  simpa [numB, inB] using h
theorem clamp0 : clampI 0 = 0 := rfl
theorem clamp1 : clampI 1 = 1 := rfl
theorem addN_no {a b c d : Int} (h : (numB a b && numB c d) = false) : addN a b c d = 0 := by unfold addN; rw [h]; rfl
theorem addN_yes {a b c d : Int} (h : (numB a b && numB c d) = true) : addN a b c d = clampI (b + d) := by unfold addN; rw [h]; rfl
theorem lssN_no {a b c d : Int} (h : (numB a b && numB c d) = false) : lssN a b c d = 0 := by unfold lssN; rw [h]; rfl
theorem lssN_yes {a b c d : Int} (h : (numB a b && numB c d) = true) : lssN a b c d = if b < d then 1 else 0 := by unfold lssN; rw [h]; rfl

end L1
end Go.Proofs.YthlpjpoekfhnfaaDoor

/-
  Chapter 1: is a value nothing: the program's own function.
-/
namespace Go.Proofs.YthlpjpoekfhnfaaDoor
open Go.RowKit
namespace L1

theorem cell_far2 {w : World} {b b' o : Nat} {u v x : Value} (h : w.cell? ⟨b', o, none⟩ = some x) (hne : b ≠ b') : ((w.setCell ⟨b, 0, none⟩ u).setCell ⟨b, 1, none⟩ v).cell? ⟨b', o, none⟩ = some x := by
  rw [World.cell?_setCell_other _ _ _ _ (by intro e; exact hne (congrArg Addr.block e)), World.cell?_setCell_other _ _ _ _ (by intro e; exact hne (congrArg Addr.block e))]
  exact h
theorem cell_two {w : World} {b : Nat} {u v : Value} (h0 : (w.cell? ⟨b, 0, none⟩).isSome = true) (h1 : (w.cell? ⟨b, 1, none⟩).isSome = true) :
    ((w.setCell ⟨b, 0, none⟩ u).setCell ⟨b, 1, none⟩ v).cell? ⟨b, 0, none⟩ = some u ∧ ((w.setCell ⟨b, 0, none⟩ u).setCell ⟨b, 1, none⟩ v).cell? ⟨b, 1, none⟩ = some v := by
  obtain ⟨x, hx⟩ := Option.isSome_iff_exists.1 h0
  obtain ⟨y, hy⟩ := Option.isSome_iff_exists.1 h1
  constructor
  · rw [World.cell?_setCell_other _ _ _ _ (by intro e; cases e)]
    simp [go_sem, hx]
  · have hy' : (w.setCell ⟨b, 0, none⟩ u).cell? ⟨b, 1, none⟩ = some y := by rw [World.cell?_setCell_other _ _ _ _ (by intro e; cases e)]; exact hy
    simp [go_sem, hy']
end L1
end Go.Proofs.YthlpjpoekfhnfaaDoor
