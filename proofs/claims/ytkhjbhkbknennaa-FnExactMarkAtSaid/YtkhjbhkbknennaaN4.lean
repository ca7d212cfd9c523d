/-
  Lists of plates: the program's own tests; both compared.
-/
import Derived.Test.YtkhjbhkbknennaaN3
namespace Go.Proofs.Ytkhjbhkbknennaa
open Go.RowKit Go.Sort
namespace L2
open L1

theorem anyP_yes {ps : List Pl} {f : Pl → Bool} {k : Nat} (hk : k < ps.length) (h : f (ps.getD k p0) = true) : ps.any f = true := by
  rw [List.any_eq_true]
  exact ⟨ps[k], List.getElem_mem hk, by simpa [List.getD, hk] using h⟩
theorem anyP_no {ps : List Pl} {f : Pl → Bool} (h : ∀ j, j < ps.length → f (ps.getD j p0) = false) : ps.any f = false := by
  rw [List.any_eq_false]
  intro x hx
  obtain ⟨j, hj, rfl⟩ := List.mem_iff_getElem.1 hx
  have := h j hj
  simpa [List.getD, hj] using this
/-- What looking for a wrong plate leaves. -/
def WrongP (ps : List Pl) (w : World) (e : Ending) (w' : World) : Prop :=
  ∃ r : Int, e = .returned (.int .i64 r) ∧ decide (0 ≤ r) = (ps.any fun p => !okPl p) ∧ Below w.heap.size w w'

theorem okPls_any (ps : List Pl) : okPls ps = (decide (ps.length ≤ 60) && !(ps.any fun p => !okPl p)) := by
  unfold okPls
  congr 1
  induction ps with
  | nil => rfl
  | cons a r ih => simp only [List.all_cons, List.any_cons, ih, Bool.not_or, Bool.not_not]

/-- Are they as many, and each the same? -/
def samePls (ps qs : List Pl) : Bool := decide (ps.length = qs.length) && (List.range ps.length).all fun i => samePl (ps.getD i p0) (qs.getD i p0)
theorem samePls_len {ps qs : List Pl} (h : ¬ ps.length = qs.length) : samePls ps qs = false := by unfold samePls; simp [h]
theorem samePls_at {ps qs : List Pl} {k : Nat} (hk : k < ps.length) (h : samePl (ps.getD k p0) (qs.getD k p0) = false) : samePls ps qs = false := by
  unfold samePls
  have : ((List.range ps.length).all fun i => samePl (ps.getD i p0) (qs.getD i p0)) = false := by
    rw [List.all_eq_false]
    exact ⟨k, by simpa using hk, by simpa using h⟩
  rw [this, Bool.and_false]
theorem samePls_all {ps qs : List Pl} (hl : ps.length = qs.length) (h : ∀ k, k < ps.length → samePl (ps.getD k p0) (qs.getD k p0) = true) : samePls ps qs = true := by
  unfold samePls
  simp only [hl, decide_true, Bool.true_and, List.all_eq_true, List.mem_range]
  exact fun k hk => h k (by omega)

theorem grown_draws (w : World) (k : Nat) (row : Option Nat) : w.grownBy (w.drewN k) row := ⟨rfl, rfl, rfl, Nat.le_refl _, fun _ _ _ => rfl⟩
end L2
end Go.Proofs.Ytkhjbhkbknennaa
