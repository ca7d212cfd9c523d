/-
  Chapter 1's small functions, each by a contract of its own: what it returns, and that nothing that was there turns.
-/
import Derived.Test.YtcfniecdjbgknaaDoorChecked
import Derived.WalkKit
import Derived.ProofKit
import Derived.OpenShut
import Derived.BigQuiet
import Derived.Deep.QuietTactic
import Derived.WalkLawsBesides
import Derived.Outline
import Derived.Lib.Hide
namespace Go.Proofs.YtcfniecdjbgknaaDoor
open Go.RowKit
namespace L1

def inB (x lo hi : Int) : Bool := decide (lo ≤ x) && decide (x ≤ hi)
def clampI (n : Int) : Int := if n < -1000000 then -1000000 else if 1000000 < n then 1000000 else n
def numB (k n : Int) : Bool := decide (k = 0) && inB n (-1000000) 1000000
def pieB (k n : Int) : Bool := decide (k = 1) && inB n 0 19
def okB (k n : Int) : Bool := numB k n || pieB k n
def sameB (a b c d : Int) : Bool := decide (a = c) && decide (b = d)

theorem bcell {W w1 : World} (hb : Below W.heap.size W w1) : (∀ b o, b < W.heap.size → w1.cell? ⟨b, o, none⟩ = W.cell? ⟨b, o, none⟩) ∧ (∀ b o, b < W.heap.size → w1.frozen? ⟨b, o, none⟩ = W.frozen? ⟨b, o, none⟩) :=
  ⟨fun b o h => hb.cell (p := ⟨b, o, none⟩) h, fun b o h => hb.frozen (p := ⟨b, o, none⟩) h⟩

theorem bsize {W w1 : World} (hb : Below W.heap.size W w1) : (∀ k, k < W.heap.size → k < w1.heap.size) ∧ (∀ k, k ≤ W.heap.size → k ≤ w1.heap.size) :=
  ⟨fun _ h => Nat.lt_of_lt_of_le h hb.size, fun _ h => Nat.le_trans h hb.size⟩

theorem bcomp {B : Nat} {a W w1 : World} (h : Below B a W) (hB : B ≤ W.heap.size) (hb : Below W.heap.size W w1) : Below B a w1 := h.trans (hb.mono hB)
theorem bcomp1 {a W w1 : World} (h : Below a.heap.size a W) (hb : Below W.heap.size W w1) : Below a.heap.size a w1 := h.trans (hb.mono h.size)

theorem l1In_any (x lo hi : Int) (w : World) :
    Calls Tryd.prog 73 #[.int .i64 x, .int .i64 lo, .int .i64 hi] w fun e w' => e = .returned (.bool (inB x lo hi)) ∧ w = w' := by
  by_cases h1 : lo ≤ x <;> by_cases h2 : x ≤ hi
  all_goals
    go_enter Tryd.func73, Tryd.ntmps73
    go_wp2
    go_ret
    exact ⟨by simp [inB, h1, h2], rfl⟩

theorem toValue_any (k n : Int) (w : World) :
    Calls Tryd.prog 41 #[.agg #[.int .i64 k, .int .i64 n]] w fun e w' => e = .returned (.agg #[.int .i64 k, .int .i64 n]) ∧ Below w.heap.size w w' := by
  go_enter Tryd.func41, Tryd.ntmps41
  go_wp2
  exact bodyPost_ret (v := .agg #[.int .i64 k, .int .i64 n]) (by simp [results, Tryd.results41, go_sem]) rfl ⟨rfl, (((Below.refl _ _).alloc (Nat.le_refl _) _).alloc (by simp) _).alloc (by simp; omega) _⟩

theorem specValueOk_any (k n : Int) (w : World) :
    Calls Tryd.prog 27 #[.agg #[.int .i64 k, .int .i64 n]] w fun e w' => e = .returned (.bool (okB k n)) ∧ Below w.heap.size w w' := by
  by_cases h0 : k = 0
  · have h0' : (k == 0) = true := by simp [h0]
    go_enter Tryd.func27, Tryd.ntmps27
    go_wp2_with (go_at_call 73; refine (l1In_any _ _ _ _).mono ?_; rintro e w' ⟨rfl, rfl⟩)
    go_ret
    exact ⟨by simp [okB, numB, pieB, h0], (Below.refl _ _).alloc (Nat.le_refl _) _⟩
  · have h0' : (k == 0) = false := by simp [h0]
    by_cases h1 : k = 1
    all_goals
      go_enter Tryd.func27, Tryd.ntmps27
      go_wp2_with (go_at_call 73; refine (l1In_any _ _ _ _).mono ?_; rintro e w' ⟨rfl, rfl⟩)
      go_ret
      exact ⟨by simp [okB, numB, pieB, h0, h1], (Below.refl _ _).alloc (Nat.le_refl _) _⟩

theorem isNumber_any (k n : Int) (w : World) :
    Calls Tryd.prog 72 #[.agg #[.int .i64 k, .int .i64 n]] w fun e w' => e = .returned (.bool (numB k n)) ∧ Below w.heap.size w w' := by
  by_cases h0 : k = 0 <;> by_cases h1 : -1000000 ≤ n <;> by_cases h2 : n ≤ 1000000
  all_goals try (exfalso; omega)
  all_goals
    have h0' : (k == 0) = decide (k = 0) := by by_cases h : k = 0 <;> simp [h]
    simp only [h0, decide_true, decide_false] at h0'
    go_enter Tryd.func72, Tryd.ntmps72
    go_wp2
    go_ret
    exact ⟨by simp [numB, inB, h0, h1, h2], (Below.refl _ _).alloc (Nat.le_refl _) _⟩

theorem isPiece_any (k n : Int) (w : World) :
    Calls Tryd.prog 59 #[.agg #[.int .i64 k, .int .i64 n]] w fun e w' => e = .returned (.bool (pieB k n)) ∧ Below w.heap.size w w' := by
  by_cases h0 : k = 1 <;> by_cases h1 : 0 ≤ n <;> by_cases h2 : n < 20
  all_goals try (exfalso; omega)
  all_goals
    have h2' : decide (n ≤ 19) = decide (n < 20) := by simp; omega
    have h0' : (k == 1) = decide (k = 1) := by by_cases h : k = 1 <;> simp [h]
    simp only [h0, decide_true, decide_false] at h0'
    go_enter Tryd.func59, Tryd.ntmps59
    go_wp2
    go_ret
    exact ⟨by simp [pieB, inB, h0, h1, h2, h2'], (Below.refl _ _).alloc (Nat.le_refl _) _⟩

end L1
end Go.Proofs.YtcfniecdjbgknaaDoor
