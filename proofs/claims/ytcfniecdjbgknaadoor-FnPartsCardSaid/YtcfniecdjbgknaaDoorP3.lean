/-
  Plain facts on the stretch of a text that has been read: nothing of the program stands here.
-/
import Derived.Test.YtcfniecdjbgknaaDoorP2
namespace Go.Proofs.YtcfniecdjbgknaaDoor.P1
open Go.Lib

/-- What has been read: from place i on, ahead of place k. -/
def mid (l : List UInt8) (i k : Nat) : List UInt8 := (l.take k).drop i
theorem mid_start (l : List UInt8) (i : Nat) : mid l i i = [] := by simp [mid]
theorem mid_step (l : List UInt8) (i k : Nat) (hi : i ≤ k) (hk : k < l.length) : mid l i (k + 1) = mid l i k ++ [l[k]] := by
  unfold mid
  rw [List.take_succ_eq_append_getElem hk, List.drop_append_of_le_length (by simp; omega)]
theorem mid_end (l : List UInt8) (i : Nat) : mid l i l.length = l.drop i := by simp [mid]
theorem mid_len (l : List UInt8) (i k : Nat) (hk : k ≤ l.length) : (mid l i k).length = k - i := by simp [mid]; omega

theorem mag_no {l : List UInt8} (h : signed l = false) : magOf l = l.drop 0 := by unfold magOf; rw [h]; simp
theorem mag_yes {l : List UInt8} (h : signed l = true) : magOf l = l.drop 1 := by unfold magOf; rw [h]; simp

theorem rdN_no {l : List UInt8} (h : rdOk l = false) : rdN l = 0 := by unfold rdN; rw [h]; rfl
theorem rdN_yes {l : List UInt8} (h : rdOk l = true) : rdN l = if signed l then -(numOf 0 (magOf l) : Int) else (numOf 0 (magOf l) : Int) := by unfold rdN; rw [h]; rfl

theorem rd_len {l : List UInt8} {i : Nat} (hm : magOf l = l.drop i) (h : l.length < i + 1 ∨ i + 9 < l.length) : rdOk l = false := by
  have : (l.drop i).length = l.length - i := by simp
  unfold rdOk magOk
  rw [hm]
  rcases h with h | h
  · have : decide (1 ≤ (l.drop i).length) = false := by simp; omega
    rw [this]; rfl
  · have : decide ((l.drop i).length ≤ 9) = false := by simp; omega
    rw [this]; simp

theorem rd_digit {l : List UInt8} {i k : Nat} (hm : magOf l = l.drop i) (hi : i ≤ k) (hk : k < l.length) (h : dgB l[k] = false) : rdOk l = false := by
  have hx : (l.drop i).all dgB = false := by
    rw [List.all_eq_false]
    refine ⟨l[k], ?_, by rw [h]; simp⟩
    rw [List.mem_iff_getElem]
    exact ⟨k - i, by simp; omega, by simp; congr 1; omega⟩
  unfold rdOk magOk
  rw [hm, hx]
  simp

theorem rd_all {l : List UInt8} {i : Nat} (hm : magOf l = l.drop i) (h1 : i + 1 ≤ l.length) (h2 : l.length ≤ i + 9) (h : (l.drop i).all dgB = true) :
    rdOk l = !(decide (l[i] = 48) && (signed l || decide (i + 1 < l.length))) := by
  have e1 : decide (1 ≤ (l.drop i).length) = true := by simp; omega
  have e2 : decide ((l.drop i).length ≤ 9) = true := by simp; omega
  have e3 : (l.drop i).head? = some l[i] := by rw [List.head?_drop]; simp
  have e4 : decide (1 < (l.drop i).length) = decide (i + 1 < l.length) := by simp; omega
  unfold rdOk magOk
  rw [hm, h, e1, e2, e3, e4]
  simp

theorem num_small (l : List UInt8) (i k : Nat) (hk : k ≤ l.length) (h9 : k ≤ i + 9) (h : (mid l i k).all dgB = true) : numOf 0 (mid l i k) < 1000000000 := by
  have h1 := numOf_lt (mid l i k) 0 h
  rw [mid_len l i k hk, Nat.zero_add, Nat.one_mul] at h1
  have h2 : 10 ^ (k - i) ≤ 10 ^ 9 := Nat.pow_le_pow_right (by decide) (by omega)
  exact Nat.lt_of_lt_of_le h1 h2
theorem num_small8 (l : List UInt8) (i k : Nat) (hk : k ≤ l.length) (h9 : k ≤ i + 8) (h : (mid l i k).all dgB = true) : numOf 0 (mid l i k) < 100000000 := by
  have h1 := numOf_lt (mid l i k) 0 h
  rw [mid_len l i k hk, Nat.zero_add, Nat.one_mul] at h1
  have h2 : 10 ^ (k - i) ≤ 10 ^ 8 := Nat.pow_le_pow_right (by decide) (by omega)
  exact Nat.lt_of_lt_of_le h1 h2
theorem num_step (l : List UInt8) (i k : Nat) (hi : i ≤ k) (hk : k < l.length) : numOf 0 (mid l i (k + 1)) = numOf 0 (mid l i k) * 10 + (l[k].toNat - 48) := by
  rw [mid_step l i k hi hk, numOf_append, numOf_cons, numOf_nil]
theorem all_step (l : List UInt8) (i k : Nat) (hi : i ≤ k) (hk : k < l.length) (h : (mid l i k).all dgB = true) (hd : dgB l[k] = true) : (mid l i (k + 1)).all dgB = true := by
  rw [mid_step l i k hi hk, List.all_append, h, List.all_cons, hd]; rfl

end Go.Proofs.YtcfniecdjbgknaaDoor.P1
