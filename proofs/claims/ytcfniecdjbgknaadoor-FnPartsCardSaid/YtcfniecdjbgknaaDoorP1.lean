/-
  Plain facts on decimal numerals: nothing of the program stands here.
-/
import Derived.Lib.ItoaNum
import Derived.Lib.ParseIntB
namespace Go.Proofs.YtcfniecdjbgknaaDoor.P1
open Go.Lib

/-- What stands ahead of the digits that have been written: the numeral of what is left, but nothing where nothing is left and something has been written. -/
def ahead (u : Nat) (acc : List UInt8) : List UInt8 := if u = 0 ∧ acc ≠ [] then [] else decDigits u

theorem ahead_start (u : Nat) : ahead u [] = decDigits u := by simp [ahead]
theorem ahead_end {acc : List UInt8} (h : acc ≠ []) : ahead 0 acc = [] := by simp [ahead, h]
theorem ahead_step (u : Nat) (acc : List UInt8) (h : acc = [] ∨ u ≠ 0) : ahead u acc ++ acc = ahead (u / 10) (UInt8.ofNat (48 + u % 10) :: acc) ++ (UInt8.ofNat (48 + u % 10) :: acc) := by
  have h1 : ahead u acc = decDigits u := by
    unfold ahead; rw [if_neg]; intro ⟨a, b⟩; rcases h with h | h
    · exact b h
    · exact h a
  rw [h1]
  by_cases hu : u < 10
  · rw [decDigits, dif_pos hu]
    have : u / 10 = 0 := by omega
    rw [this, ahead_end (by simp), Nat.mod_eq_of_lt hu]; rfl
  · rw [decDigits, dif_neg hu]
    have h2 : ahead (u / 10) (UInt8.ofNat (48 + u % 10) :: acc) = decDigits (u / 10) := by
      unfold ahead; rw [if_neg]; intro ⟨a, _⟩; omega
    rw [h2, List.append_assoc]; rfl

theorem decDigits_ne (u : Nat) : decDigits u ≠ [] := by
  rw [decDigits]; split <;> simp

theorem decDigits_len (u k : Nat) (h : u < 10 ^ (k + 1)) : (decDigits u).length ≤ k + 1 := by
  induction k generalizing u with
  | zero => rw [decDigits, dif_pos (by simpa using h)]; simp
  | succ k ih =>
    rw [decDigits]; split
    · simp
    · have := ih (u / 10) (by rw [Nat.pow_succ] at h; omega)
      simp; omega

theorem round_pos {u0 u : Nat} {acc : List UInt8} (hk : ahead u acc ++ acc = decDigits u0) (h0 : u0 ≤ 1000000000000000000) (h : acc = [] ∨ u ≠ 0) :
    ahead (u / 10) (UInt8.ofNat (48 + u % 10) :: acc) ++ (UInt8.ofNat (48 + u % 10) :: acc) = decDigits u0 ∧ (UInt8.ofNat (48 + u % 10) :: acc).length ≤ 30 := by
  rw [ahead_step u acc h] at hk
  refine ⟨hk, ?_⟩
  have h1 := congrArg List.length hk
  have h2 := decDigits_len u0 18 (by omega)
  rw [List.length_append] at h1
  omega

end Go.Proofs.YtcfniecdjbgknaaDoor.P1
