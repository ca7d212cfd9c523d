/-
  Plain facts on reading decimal numerals: nothing of the program stands here.
-/
import Derived.Test.YtcfniecdjbgknaaDoorP1
namespace Go.Proofs.YtcfniecdjbgknaaDoor.P1
open Go.Lib

/-- Is the byte a digit? -/
def dgB (c : UInt8) : Bool := decide (48 ≤ c.toNat) && decide (c.toNat ≤ 57)
/-- The number that digits spell, behind acc. -/
def numOf (acc : Nat) (l : List UInt8) : Nat := l.foldl (fun a c => a * 10 + (c.toNat - 48)) acc
theorem numOf_nil (acc : Nat) : numOf acc [] = acc := by unfold numOf; exact List.foldl_nil
theorem numOf_cons (acc : Nat) (c : UInt8) (r : List UInt8) : numOf acc (c :: r) = numOf (acc * 10 + (c.toNat - 48)) r := by unfold numOf; exact List.foldl_cons ..
attribute [irreducible] numOf
/-- Digits alone, one to nine, no nought ahead but alone (and not behind a sign). -/
def magOk (neg : Bool) (l : List UInt8) : Bool := decide (1 ≤ l.length) && decide (l.length ≤ 9) && l.all dgB && !(decide (l.head? = some 48) && (neg || decide (1 < l.length)))
def signed (l : List UInt8) : Bool := decide (l.head? = some 45)
def magOf (l : List UInt8) : List UInt8 := if signed l then l.tail else l
def rdOk (l : List UInt8) : Bool := magOk (signed l) (magOf l)
def rdN (l : List UInt8) : Int := if rdOk l then (if signed l then -(numOf 0 (magOf l) : Int) else (numOf 0 (magOf l) : Int)) else 0

theorem dgB_iff {c : UInt8} : dgB c = true ↔ 48 ≤ c.toNat ∧ c.toNat ≤ 57 := by simp [dgB]
theorem dg_ofNat (d : Nat) (h : d < 10) : (UInt8.ofNat (48 + d)).toNat = 48 + d := by simp; omega

theorem numOf_append (acc : Nat) (l r : List UInt8) : numOf acc (l ++ r) = numOf (numOf acc l) r := by
  induction l generalizing acc with
  | nil => rw [List.nil_append, numOf_nil]
  | cons c l ih => rw [List.cons_append, numOf_cons, numOf_cons]; exact ih _

theorem numOf_lt (l : List UInt8) : ∀ (acc : Nat), l.all dgB = true → numOf acc l < (acc + 1) * 10 ^ l.length := by
  induction l with
  | nil => intro acc _; rw [numOf_nil, List.length_nil, Nat.pow_zero, Nat.mul_one]; exact Nat.lt_succ_self _
  | cons c l ih =>
    intro acc h
    rw [List.all_cons, Bool.and_eq_true] at h
    have hc := dgB_iff.1 h.1
    have h1 := ih (acc * 10 + (c.toNat - 48)) h.2
    have hx : acc * 10 + (c.toNat - 48) + 1 ≤ (acc + 1) * 10 := by clear h1 ih; omega
    have h2 := Nat.mul_le_mul_right (10 ^ l.length) hx
    rw [numOf_cons, List.length_cons, Nat.pow_succ, Nat.mul_comm (10 ^ l.length) 10, ← Nat.mul_assoc]
    exact Nat.lt_of_lt_of_le h1 h2

/-- THE DIGITS OF u: digits alone, they spell u, no nought ahead but alone. -/
theorem decDigits_all (u : Nat) : (decDigits u).all dgB = true := by
  induction u using Nat.strongRecOn with
  | _ u ih =>
    rw [decDigits]; split
    · rename_i h; simp only [List.all_cons, List.all_nil, Bool.and_true]; rw [dgB_iff, dg_ofNat u h]; omega
    · rw [List.all_append, ih (u / 10) (by omega)]
      simp only [List.all_cons, List.all_nil, Bool.and_true, Bool.true_and]; rw [dgB_iff, dg_ofNat _ (by omega)]; omega

theorem decDigits_num (u : Nat) : numOf 0 (decDigits u) = u := by
  induction u using Nat.strongRecOn with
  | _ u ih =>
    rw [decDigits]; split
    · rename_i h; rw [numOf_cons, numOf_nil, dg_ofNat u h]; omega
    · rw [numOf_append, ih (u / 10) (by omega)]
      rw [numOf_cons, numOf_nil, dg_ofNat _ (by omega)]; omega

theorem decDigits_head (u : Nat) (h : 0 < u) : (decDigits u).head? ≠ some 48 := by
  induction u using Nat.strongRecOn with
  | _ u ih =>
    rw [decDigits]; split
    · rename_i h'
      simp only [List.head?_cons]
      intro e
      have e2 := congrArg UInt8.toNat (Option.some.inj e)
      rw [dg_ofNat u h'] at e2
      have : (48 : UInt8).toNat = 48 := rfl
      omega
    · have := ih (u / 10) (by omega) (by omega)
      rw [List.head?_append]
      cases hd : (decDigits (u / 10)).head? with
      | none => rw [List.head?_eq_none_iff] at hd; exact absurd hd (decDigits_ne _)
      | some c => rw [hd] at this; simpa using this

/-- A NUMERAL IS THE DIGITS OF WHAT IT SPELLS. -/
theorem digits_back (l : List UInt8) (acc : Nat) (hp : 0 < acc) (h : l.all dgB = true) : decDigits (numOf acc l) = decDigits acc ++ l := by
  induction l generalizing acc with
  | nil => rw [numOf_nil, List.append_nil]
  | cons c l ih =>
    simp only [List.all_cons, Bool.and_eq_true] at h
    have hc := dgB_iff.1 h.1
    rw [numOf_cons, ih _ (by omega) h.2]
    have e : decDigits (acc * 10 + (c.toNat - 48)) = decDigits acc ++ [c] := by
      rw [decDigits, dif_neg (by omega)]
      have e1 : (acc * 10 + (c.toNat - 48)) / 10 = acc := by omega
      have e2 : 48 + (acc * 10 + (c.toNat - 48)) % 10 = c.toNat := by omega
      rw [e1, e2]; simp
    rw [e]; simp

theorem digits_of_num (l : List UInt8) (h : l.all dgB = true) (hn : l ≠ []) (h0 : l.head? ≠ some 48 ∨ l.length = 1) : decDigits (numOf 0 l) = l := by
  cases l with
  | nil => exact absurd rfl hn
  | cons c r =>
    simp only [List.all_cons, Bool.and_eq_true] at h
    have hc := dgB_iff.1 h.1
    by_cases hr : r = []
    · subst hr
      rw [numOf_cons, numOf_nil, decDigits, dif_pos (by omega)]
      have : 48 + (0 * 10 + (c.toNat - 48)) = c.toNat := by omega
      rw [this]; simp
    · have hne : c.toNat ≠ 48 := by
        rcases h0 with h0 | h0
        · intro e; apply h0
          simp only [List.head?_cons, Option.some.injEq]
          exact UInt8.toNat_inj.1 e
        · cases r with
          | nil => exact absurd rfl hr
          | cons d r => simp at h0
      rw [numOf_cons, digits_back r _ (by omega) h.2, decDigits, dif_pos (by omega)]
      have : 48 + (0 * 10 + (c.toNat - 48)) = c.toNat := by omega
      rw [this]; simp

/-- THE LIBRARY's READER AT DIGITS. -/
theorem parse_digits (M : Nat) (hM : 1000000000000000 ≤ M) (l : List UInt8) : ∀ (acc : Nat), l.all dgB = true → (acc + 1) * 10 ^ l.length ≤ 1000000000000000 → parseUintM M acc l = .ok (numOf acc l) := by
  induction l with
  | nil => intro acc _ _; rw [numOf_nil]; rfl
  | cons c l ih =>
    intro acc h hb
    rw [List.all_cons, Bool.and_eq_true] at h
    have hc := dgB_iff.1 h.1
    rw [List.length_cons, Nat.pow_succ, Nat.mul_comm (10 ^ l.length) 10, ← Nat.mul_assoc] at hb
    have hx : acc * 10 + (c.toNat - 48) + 1 ≤ (acc + 1) * 10 := by clear hb ih; omega
    have h2 := Nat.le_trans (Nat.mul_le_mul_right (10 ^ l.length) hx) hb
    have h4 : (acc + 1) * 10 ≤ 1000000000000000 := Nat.le_trans (Nat.le_mul_of_pos_right _ (Nat.pow_pos (by decide))) hb
    have h6 := ih _ h.2 h2
    clear h2 hb ih
    unfold parseUintM
    rw [if_pos ⟨hc.1, hc.2⟩, if_neg (by omega), if_neg (by omega), numOf_cons]
    exact h6

end Go.Proofs.YtcfniecdjbgknaaDoor.P1
