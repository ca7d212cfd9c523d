/-
  The model's reader of a sum: where it, and all in it, begin, and where it ends.
-/
import Derived.Test.YtcfniecdjbgknaaDoorW9
namespace Go.Proofs.YtcfniecdjbgknaaDoor
open Go.RowKit
namespace L2
open S1 L1

/-- What reading leaves: no sum; or where it and all in it begin, in a new row, and where it ends. -/
def Starts (r : Option (List Nat × Nat)) (w : World) (e : Ending) (w' : World) : Prop :=
  Below w.heap.size w w' ∧ ((r = none ∧ ∃ v, e = .returned (.tuple #[v, .int .i64 (-1)])) ∨ ∃ m k v, r = some (m, k) ∧ e = .returned (.tuple #[v, .int .i64 ((k : Nat) : Int)]) ∧ OwI w' w.heap.size v m)

theorem many_len {g : Nat → Option (List Nat × Nat)} (hg : ∀ e r, g e = some r → r.1 ≠ [] ∧ e < r.2 ∧ r.1.length ≤ r.2 - e) (i : Nat) : ∀ (k : Nat) (acc : List Nat) (e : Nat) r, acc ≠ [] → i < e → acc.length ≤ e - i → many g k acc e = some r → r.1 ≠ [] ∧ r.1.length ≤ r.2 - i := by
  intro k
  induction k with
  | zero => intro acc e r h0 _ h1 h; cases h; exact ⟨h0, h1⟩
  | succ k ih =>
    intro acc e r h0 hie h1 h
    unfold many at h
    split at h
    · cases h
    · rename_i r1 hr1
      obtain ⟨a, b, c⟩ := hg e r1 hr1
      exact ih _ _ _ (by simp [h0]) (by omega) (by rw [List.length_append]; omega) h
theorem st_len (f : Nat) (ws : List (List UInt8)) : ∀ i r, st f ws i = some r → r.1 ≠ [] ∧ i < r.2 ∧ r.1.length ≤ r.2 - i := by
  induction f with
  | zero => intro i r h; cases h
  | succ f ih =>
    intro i r h
    have hb := (st_bd _ _ _ _ h).1
    unfold st at h
    split at h
    · cases h
    · rename_i e he
      have := headEnd_bd he
      obtain ⟨a, b⟩ := many_len ih i _ _ _ _ (by simp) this.1 (by simp; omega) h
      exact ⟨a, hb, b⟩

theorem st_none {f : Nat} {ws : List (List UInt8)} {i : Nat} (h : headEnd ws i = none) : st (f + 1) ws i = none := by rw [st, h]
theorem head_far {ws : List (List UInt8)} {i : Nat} (h : ws.length ≤ i) : headEnd ws i = none := by unfold headEnd; rw [List.getElem?_eq_none h]
theorem head_bad {ws : List (List UInt8)} {i : Nat} {x : List UInt8} (hx : ws[i]? = some x) (h : needs x < 0) : headEnd ws i = none := by unfold headEnd; rw [hx]; simp [h]
theorem head_plain {ws : List (List UInt8)} {i : Nat} {x : List UInt8} (hx : ws[i]? = some x) (h : ¬ needs x < 0) (hb : bindW x = false) : headEnd ws i = some (i + 1) := by unfold headEnd; rw [hx]; simp [h, hb]
theorem head_bind_far {ws : List (List UInt8)} {i : Nat} {x : List UInt8} (hx : ws[i]? = some x) (hb : bindW x = true) (hl : ws.length ≤ i + 1) : headEnd ws i = none := by
  unfold headEnd
  rw [hx, List.getElem?_eq_none hl]
  simp [hb]
theorem head_bind {ws : List (List UInt8)} {i : Nat} {x y : List UInt8} (hx : ws[i]? = some x) (h : ¬ needs x < 0) (hb : bindW x = true) (hy : ws[i + 1]? = some y) : headEnd ws i = if nameW y then some (i + 2) else none := by
  unfold headEnd
  rw [hx, hy]
  simp [h, hb]
theorem st_of {f : Nat} {ws : List (List UInt8)} {i e : Nat} (h : headEnd ws i = some e) : st (f + 1) ws i = many (st f ws) (kids ws i) [i] e := by rw [st, h]
theorem kids_of {ws : List (List UInt8)} {i : Nat} {x : List UInt8} (hx : ws[i]? = some x) : kids ws i = (needs x).toNat := by unfold kids; simp [List.getD, hx]

end L2
end Go.Proofs.YtcfniecdjbgknaaDoor
