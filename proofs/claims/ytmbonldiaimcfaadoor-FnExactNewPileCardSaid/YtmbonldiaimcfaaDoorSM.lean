/-
  Meanings held against each other: the model's own and the program's; lists of words compared whatever they are.
-/
import Derived.Test.YtmbonldiaimcfaaDoorGW
import Derived.Lib.Strings
namespace Go.Proofs.YtmbonldiaimcfaaDoor
open Go.RowKit
namespace L2
open L1

/-- Are they as many, and each the same? -/
def sameO (ss tt : List ByteArray) : Bool := decide (ss.length = tt.length) && (List.range ss.length).all fun i => (ss.getD i ByteArray.empty).toList == (tt.getD i ByteArray.empty).toList
theorem same_len {ss tt : List ByteArray} (h : ¬ ss.length = tt.length) : sameO ss tt = false := by unfold sameO; simp [h]
theorem same_at {ss tt : List ByteArray} {k : Nat} (hk : k < ss.length) (h : ((ss.getD k ByteArray.empty).toList == (tt.getD k ByteArray.empty).toList) = false) : sameO ss tt = false := by
  unfold sameO
  have : ((List.range ss.length).all fun i => (ss.getD i ByteArray.empty).toList == (tt.getD i ByteArray.empty).toList) = false := by
    rw [List.all_eq_false]
    exact ⟨k, by simpa using hk, by simpa using h⟩
  rw [this, Bool.and_false]
theorem same_all {ss tt : List ByteArray} (hl : ss.length = tt.length) (h : ∀ k, k < ss.length → ((ss.getD k ByteArray.empty).toList == (tt.getD k ByteArray.empty).toList) = true) : sameO ss tt = true := by
  unfold sameO
  simp only [hl, decide_true, Bool.true_and, List.all_eq_true, List.mem_range]
  exact fun k hk => h k (by omega)
theorem same_refl (ss : List ByteArray) : sameO ss ss = true := same_all rfl fun _ _ => by simp
theorem same_eq {ss tt : List ByteArray} (h : sameO ss tt = true) : ss = tt := by
  unfold sameO at h
  simp only [Bool.and_eq_true, decide_eq_true_eq, List.all_eq_true, List.mem_range, beq_iff_eq] at h
  obtain ⟨hl, ha⟩ := h
  apply List.ext_getElem hl
  intro i h1 h2
  have := ha i h1
  simp only [List.getD, List.getElem?_eq_getElem h1, List.getElem?_eq_getElem h2, Option.getD_some] at this
  have e : ∀ (a : ByteArray), a = ⟨a.toList.toArray⟩ := fun a => by rw [Lib.toList_data]
  rw [e ss[i], e tt[i], this]

/-- Two meanings, field by field. -/
def sameM (a b : Int) (t : Bool) (ss : List ByteArray) (q : Int) (a' b' : Int) (t' : Bool) (tt : List ByteArray) (q' : Int) : Bool := (decide (a = a') && decide (b = b')) && (t == t') && decide (q = q') && sameO ss tt
abbrev mgV (a b : Int) (t : Bool) (v : Value) (q : Int) : Value := .agg #[.int .i64 a, .int .i64 b, .bool t, v, .int .i64 q]

end L2
end Go.Proofs.YtmbonldiaimcfaaDoor
