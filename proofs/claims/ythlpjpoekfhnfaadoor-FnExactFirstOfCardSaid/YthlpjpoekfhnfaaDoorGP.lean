/-
  Gathered in one text, in this order: P1, P2, P3, P4.
-/
import Derived.Lib.ItoaNum
import Derived.Lib.ParseIntB
/-
  Plain facts on decimal numerals: nothing of the program stands here.
-/
namespace Go.Proofs.YthlpjpoekfhnfaaDoor.P1
open Go.Lib

/-- What stands ahead of the digits that have been written: the numeral of what is left, but nothing where nothing is left and something has been written. -/
def ahead (u : Nat) (acc : List UInt8) : List UInt8 := if u = 0 ∧ acc ≠ [] then [] else decDigits u

theorem ahead_start (u : Nat) : ahead u [] = decDigits u := by simp [ahead]
theorem ahead_end {acc : List UInt8} (h : acc ≠ []) : ahead 0 acc = [] := by simp [ahead, h]
theorem ahead_step (u : Nat) (acc : List UInt8) (h : acc = [] ∨ u ≠ 0) : ahead u acc ++ acc = ahead (u / 10) (UInt8.ofNat (48 + u % 10) :: acc) ++ (UInt8.ofNat (48 + u % 10) :: acc) := by
  have h1 : ahead u acc = decDigits u := by
    unfold ahead; rw [if_neg]; intro ⟨a, b⟩; rcases h with h | h
    · exact b h
    · exact h a
  rw [h1]
  by_cases hu : u < 10
  · rw [decDigits, dif_pos hu]
    have : u / 10 = 0 := by omega
    rw [this, ahead_end (by simp), Nat.mod_eq_of_lt hu]; rfl
  · rw [decDigits, dif_neg hu]
    have h2 : ahead (u / 10) (UInt8.ofNat (48 + u % 10) :: acc) = decDigits (u / 10) := by
      unfold ahead; rw [if_neg]; intro ⟨a, _⟩; omega
    rw [h2, List.append_assoc]; rfl

theorem decDigits_ne (u : Nat) : decDigits u ≠ [] := by
  rw [decDigits]; split <;> simp

theorem decDigits_len (u k : Nat) (h : u < 10 ^ (k + 1)) : (decDigits u).length ≤ k + 1 := by
  induction k generalizing u with
  | zero => rw [decDigits, dif_pos (by simpa using h)]; simp
  | succ k ih =>
    rw [decDigits]; split
    · simp
    · have := ih (u / 10) (by rw [Nat.pow_succ] at h; omega)
      simp; omega

theorem round_pos {u0 u : Nat} {acc : List UInt8} (hk : ahead u acc ++ acc = decDigits u0) (h0 : u0 ≤ 1000000000000000000) (h : acc = [] ∨ u ≠ 0) :
    ahead (u / 10) (UInt8.ofNat (48 + u % 10) :: acc) ++ (UInt8.ofNat (48 + u % 10) :: acc) = decDigits u0 ∧ (UInt8.ofNat (48 + u % 10) :: acc).length ≤ 30 := by
  rw [ahead_step u acc h] at hk
  refine ⟨hk, ?_⟩
  have h1 := congrArg List.length hk
  have h2 := decDigits_len u0 18 (by omega)
  rw [List.length_append] at h1
  omega

end Go.Proofs.YthlpjpoekfhnfaaDoor.P1

/-
  Plain facts on reading decimal numerals: nothing of the program stands here.
-/
namespace Go.Proofs.YthlpjpoekfhnfaaDoor.P1
open Go.Lib

/-- Is the byte a digit? -/
def dgB (c : UInt8) : Bool := decide (48 ≤ c.toNat) && decide (c.toNat ≤ 57)
/-- The number that digits spell, behind acc. -/
def numOf (acc : Nat) (l : List UInt8) : Nat := l.foldl (fun a c => a * 10 + (c.toNat - 48)) acc
theorem numOf_nil (acc : Nat) : numOf acc [] = acc := by unfold numOf; exact List.foldl_nil
theorem numOf_cons (acc : Nat) (c : UInt8) (r : List UInt8) : numOf acc (c :: r) = numOf (acc * 10 + (c.toNat - 48)) r := by unfold numOf; exact List.foldl_cons ..
attribute [irreducible] numOf
/-- Digits alone, one to nine, no nought ahead but alone (and not behind a sign). -/
def magOk (neg : Bool) (l : List UInt8) : Bool := decide (1 ≤ l.length) && decide (l.length ≤ 9) && l.all dgB && !(decide (l.head? = some 48) && (neg || decide (1 < l.length)))
def signed (l : List UInt8) : Bool := decide (l.head? = some 45)
def magOf (l : List UInt8) : List UInt8 := if signed l then l.tail else l
def rdOk (l : List UInt8) : Bool := magOk (signed l) (magOf l)
def rdN (l : List UInt8) : Int := if rdOk l then (if signed l then -(numOf 0 (magOf l) : Int) else (numOf 0 (magOf l) : Int)) else 0

theorem dgB_iff {c : UInt8} : dgB c = true ↔ 48 ≤ c.toNat ∧ c.toNat ≤ 57 := by simp [dgB]
theorem dg_ofNat (d : Nat) (h : d < 10) : (UInt8.ofNat (48 + d)).toNat = 48 + d := by simp; omega

theorem numOf_append (acc : Nat) (l r : List UInt8) : numOf acc (l ++ r) = numOf (numOf acc l) r := by
  induction l generalizing acc with
  | nil => rw [List.nil_append, numOf_nil]
  | cons c l ih => rw [List.cons_append, numOf_cons, numOf_cons]; exact ih _

theorem numOf_lt (l : List UInt8) : ∀ (acc : Nat), l.all dgB = true → numOf acc l < (acc + 1) * 10 ^ l.length := by
  induction l with
  | nil => intro acc _; rw [numOf_nil, List.length_nil, Nat.pow_zero, Nat.mul_one]; exact Nat.lt_succ_self _
  | cons c l ih =>
    intro acc h
    rw [List.all_cons, Bool.and_eq_true] at h
    have hc := dgB_iff.1 h.1
    have h1 := ih (acc * 10 + (c.toNat - 48)) h.2
    have hx : acc * 10 + (c.toNat - 48) + 1 ≤ (acc + 1) * 10 := by clear h1 ih; omega
    have h2 := Nat.mul_le_mul_right (10 ^ l.length) hx
    rw [numOf_cons, List.length_cons, Nat.pow_succ, Nat.mul_comm (10 ^ l.length) 10, ← Nat.mul_assoc]
    exact Nat.lt_of_lt_of_le h1 h2

/-- THE DIGITS OF u: digits alone, they spell u, no nought ahead but alone. -/
theorem decDigits_all (u : Nat) : (decDigits u).all dgB = true := by
  induction u using Nat.strongRecOn with
  | _ u ih =>
    rw [decDigits]; split
    · rename_i h; simp only [List.all_cons, List.all_nil, Bool.and_true]; rw [dgB_iff, dg_ofNat u h]; omega
    · rw [List.all_append, ih (u / 10) (by omega)]
      simp only [List.all_cons, List.all_nil, Bool.and_true, Bool.true_and]; rw [dgB_iff, dg_ofNat _ (by omega)]; omega

theorem decDigits_num (u : Nat) : numOf 0 (decDigits u) = u := by
  induction u using Nat.strongRecOn with
  | _ u ih =>
    rw [decDigits]; split
    · rename_i h; rw [numOf_cons, numOf_nil, dg_ofNat u h]; omega
    · rw [numOf_append, ih (u / 10) (by omega)]
      rw [numOf_cons, numOf_nil, dg_ofNat _ (by omega)]; omega

theorem decDigits_head (u : Nat) (h : 0 < u) : (decDigits u).head? ≠ some 48 := by
  induction u using Nat.strongRecOn with
  | _ u ih =>
    rw [decDigits]; split
    · rename_i h'
      simp only [List.head?_cons]
      intro e
      have e2 := congrArg UInt8.toNat (Option.some.inj e)
      rw [dg_ofNat u h'] at e2
      have : (48 : UInt8).toNat = 48 := rfl
      omega
    · have := ih (u / 10) (by omega) (by omega)
      rw [List.head?_append]
      cases hd : (decDigits (u / 10)).head? with
      | none => rw [List.head?_eq_none_iff] at hd; exact absurd hd (decDigits_ne _)
      | some c => rw [hd] at this; simpa using this

/-- A NUMERAL IS THE DIGITS OF WHAT IT SPELLS. -/
theorem digits_back (l : List UInt8) (acc : Nat) (hp : 0 < acc) (h : l.all dgB = true) : decDigits (numOf acc l) = decDigits acc ++ l := by
  induction l generalizing acc with
  | nil => rw [numOf_nil, List.append_nil]
  | cons c l ih =>
    simp only [List.all_cons, Bool.and_eq_true] at h
    have hc := dgB_iff.1 h.1
    rw [numOf_cons, ih _ (by omega) h.2]
    have e : decDigits (acc * 10 + (c.toNat - 48)) = decDigits acc ++ [c] := by
      rw [decDigits, dif_neg (by omega)]
      have e1 : (acc * 10 + (c.toNat - 48)) / 10 = acc := by omega
      have e2 : 48 + (acc * 10 + (c.toNat - 48)) % 10 = c.toNat := by omega
      rw [e1, e2]; simp
    rw [e]; simp

theorem digits_of_num (l : List UInt8) (h : l.all dgB = true) (hn : l ≠ []) (h0 : l.head? ≠ some 48 ∨ l.length = 1) : decDigits (numOf 0 l) = l := by
  cases l with
  | nil => exact absurd rfl hn
  | cons c r =>
    simp only [List.all_cons, Bool.and_eq_true] at h
    have hc := dgB_iff.1 h.1
    by_cases hr : r = []
    · subst hr
      rw [numOf_cons, numOf_nil, decDigits, dif_pos (by omega)]
      have : 48 + (0 * 10 + (c.toNat - 48)) = c.toNat := by omega
      rw [this]; simp
    · have hne : c.toNat ≠ 48 := by
        rcases h0 with h0 | h0
        · intro e; apply h0
          simp only [List.head?_cons, Option.some.injEq]
          exact UInt8.toNat_inj.1 e
        · cases r with
          | nil => exact absurd rfl hr
          | cons d r => simp at h0
      rw [numOf_cons, digits_back r _ (by omega) h.2, decDigits, dif_pos (by omega)]
      have : 48 + (0 * 10 + (c.toNat - 48)) = c.toNat := by omega
      rw [this]; simp

/-- THE LIBRARY's READER AT DIGITS. -/
theorem parse_digits (M : Nat) (hM : 1000000000000000 ≤ M) (l : List UInt8) : ∀ (acc : Nat), l.all dgB = true → (acc + 1) * 10 ^ l.length ≤ 1000000000000000 → parseUintM M acc l = .ok (numOf acc l) := by
  induction l with
  | nil => intro acc _ _; rw [numOf_nil]; rfl
  | cons c l ih =>
    intro acc h hb
    rw [List.all_cons, Bool.and_eq_true] at h
    have hc := dgB_iff.1 h.1
    rw [List.length_cons, Nat.pow_succ, Nat.mul_comm (10 ^ l.length) 10, ← Nat.mul_assoc] at hb
    have hx : acc * 10 + (c.toNat - 48) + 1 ≤ (acc + 1) * 10 := by clear hb ih; omega
    have h2 := Nat.le_trans (Nat.mul_le_mul_right (10 ^ l.length) hx) hb
    have h4 : (acc + 1) * 10 ≤ 1000000000000000 := Nat.le_trans (Nat.le_mul_of_pos_right _ (Nat.pow_pos (by decide))) hb
    have h6 := ih _ h.2 h2
    clear h2 hb ih
    unfold parseUintM
    rw [if_pos ⟨hc.1, hc.2⟩, if_neg (by omega), if_neg (by omega), numOf_cons]
    exact h6

end Go.Proofs.YthlpjpoekfhnfaaDoor.P1

/-
  Plain facts on the stretch of a text that has been read: nothing of the program stands here.
-/
namespace Go.Proofs.YthlpjpoekfhnfaaDoor.P1
open Go.Lib

/-- What has been read: from place i on, ahead of place k. -/
def mid (l : List UInt8) (i k : Nat) : List UInt8 := (l.take k).drop i
theorem mid_start (l : List UInt8) (i : Nat) : mid l i i = [] := by simp [mid]
theorem mid_step (l : List UInt8) (i k : Nat) (hi : i ≤ k) (hk : k < l.length) : mid l i (k + 1) = mid l i k ++ [l[k]] := by
  unfold mid
  rw [List.take_succ_eq_append_getElem hk, List.drop_append_of_le_length (by simp; omega)]
theorem mid_end (l : List UInt8) (i : Nat) : mid l i l.length = l.drop i := by simp [mid]
theorem mid_len (l : List UInt8) (i k : Nat) (hk : k ≤ l.length) : (mid l i k).length = k - i := by simp [mid]; omega

theorem mag_no {l : List UInt8} (h : signed l = false) : magOf l = l.drop 0 := by unfold magOf; rw [h]; simp
theorem mag_yes {l : List UInt8} (h : signed l = true) : magOf l = l.drop 1 := by unfold magOf; rw [h]; simp

theorem rdN_no {l : List UInt8} (h : rdOk l = false) : rdN l = 0 := by unfold rdN; rw [h]; rfl
theorem rdN_yes {l : List UInt8} (h : rdOk l = true) : rdN l = if signed l then -(numOf 0 (magOf l) : Int) else (numOf 0 (magOf l) : Int) := by unfold rdN; rw [h]; rfl

theorem rd_len {l : List UInt8} {i : Nat} (hm : magOf l = l.drop i) (h : l.length < i + 1 ∨ i + 9 < l.length) : rdOk l = false := by
  have : (l.drop i).length = l.length - i := by simp
  unfold rdOk magOk
  rw [hm]
  rcases h with h | h
  · have : decide (1 ≤ (l.drop i).length) = false := by simp; omega
    rw [this]; rfl
  · have : decide ((l.drop i).length ≤ 9) = false := by simp; omega
    rw [this]; simp

theorem rd_digit {l : List UInt8} {i k : Nat} (hm : magOf l = l.drop i) (hi : i ≤ k) (hk : k < l.length) (h : dgB l[k] = false) : rdOk l = false := by
  have hx : (l.drop i).all dgB = false := by
    rw [List.all_eq_false]
    refine ⟨l[k], ?_, by rw [h]; simp⟩
    rw [List.mem_iff_getElem]
    exact ⟨k - i, by simp; omega, by simp; congr 1; omega⟩
  unfold rdOk magOk
  rw [hm, hx]
  simp

theorem rd_all {l : List UInt8} {i : Nat} (hm : magOf l = l.drop i) (h1 : i + 1 ≤ l.length) (h2 : l.length ≤ i + 9) (h : (l.drop i).all dgB = true) :
    rdOk l = !(decide (l[i] = 48) && (signed l || decide (i + 1 < l.length))) := by
  have e1 : decide (1 ≤ (l.drop i).length) = true := by simp; omega
  have e2 : decide ((l.drop i).length ≤ 9) = true := by simp; omega
  have e3 : (l.drop i).head? = some l[i] := by rw [List.head?_drop]; simp
  have e4 : decide (1 < (l.drop i).length) = decide (i + 1 < l.length) := by simp; omega
  unfold rdOk magOk
  rw [hm, h, e1, e2, e3, e4]
  simp

theorem num_small (l : List UInt8) (i k : Nat) (hk : k ≤ l.length) (h9 : k ≤ i + 9) (h : (mid l i k).all dgB = true) : numOf 0 (mid l i k) < 1000000000 := by
  have h1 := numOf_lt (mid l i k) 0 h
  rw [mid_len l i k hk, Nat.zero_add, Nat.one_mul] at h1
  have h2 : 10 ^ (k - i) ≤ 10 ^ 9 := Nat.pow_le_pow_right (by decide) (by omega)
  exact Nat.lt_of_lt_of_le h1 h2
theorem num_small8 (l : List UInt8) (i k : Nat) (hk : k ≤ l.length) (h9 : k ≤ i + 8) (h : (mid l i k).all dgB = true) : numOf 0 (mid l i k) < 100000000 := by
  have h1 := numOf_lt (mid l i k) 0 h
  rw [mid_len l i k hk, Nat.zero_add, Nat.one_mul] at h1
  have h2 : 10 ^ (k - i) ≤ 10 ^ 8 := Nat.pow_le_pow_right (by decide) (by omega)
  exact Nat.lt_of_lt_of_le h1 h2
theorem num_step (l : List UInt8) (i k : Nat) (hi : i ≤ k) (hk : k < l.length) : numOf 0 (mid l i (k + 1)) = numOf 0 (mid l i k) * 10 + (l[k].toNat - 48) := by
  rw [mid_step l i k hi hk, numOf_append, numOf_cons, numOf_nil]
theorem all_step (l : List UInt8) (i k : Nat) (hi : i ≤ k) (hk : k < l.length) (h : (mid l i k).all dgB = true) (hd : dgB l[k] = true) : (mid l i (k + 1)).all dgB = true := by
  rw [mid_step l i k hi hk, List.all_append, h, List.all_cons, hd]; rfl

end Go.Proofs.YthlpjpoekfhnfaaDoor.P1

/-
  Plain facts: a numeral that is read is the numeral that is written. Nothing of the program stands here.
-/
namespace Go.Proofs.YthlpjpoekfhnfaaDoor.P1
open Go.Lib

theorem rd_parts {l : List UInt8} (h : rdOk l = true) : 1 ≤ (magOf l).length ∧ (magOf l).length ≤ 9 ∧ (magOf l).all dgB = true ∧ ((magOf l).head? ≠ some 48 ∨ signed l = false ∧ (magOf l).length = 1) := by
  unfold rdOk magOk at h
  simp only [Bool.and_eq_true, decide_eq_true_eq] at h
  obtain ⟨⟨⟨h1, h2⟩, h3⟩, h4⟩ := h
  refine ⟨h1, h2, h3, ?_⟩
  by_cases hz : (magOf l).head? = some 48
  · right
    rw [hz] at h4
    simp at h4
    exact ⟨h4.1, by omega⟩
  · exact Or.inl hz

theorem head_dg {l : List UInt8} {c : UInt8} (h : l.all dgB = true) (hc : l.head? = some c) : 48 ≤ c.toNat ∧ c.toNat ≤ 57 := by
  cases l with
  | nil => cases hc
  | cons d r =>
    simp only [List.head?_cons, Option.some.injEq] at hc
    subst hc
    simp only [List.all_cons, Bool.and_eq_true] at h
    exact dgB_iff.1 h.1

/-- A. THE LIBRARY READS WHAT THE MODEL READS. -/
theorem parse_of_rd {l : List UInt8} (h : rdOk l = true) : parseIntB 64 l = .ok (rdN l) := by
  obtain ⟨h1, h2, h3, h4⟩ := rd_parts h
  have hp : parseUintM (2 ^ 64 - 1) 0 (magOf l) = .ok (numOf 0 (magOf l)) := by
    refine parse_digits _ (by decide) _ 0 h3 ?_
    have : 10 ^ (magOf l).length ≤ 10 ^ 9 := Nat.pow_le_pow_right (by decide) h2
    exact Nat.le_trans (by rw [Nat.zero_add, Nat.one_mul]; exact this) (by decide)
  have hlt : numOf 0 (magOf l) < 1000000000 := by
    have a := numOf_lt (magOf l) 0 h3
    have : 10 ^ (magOf l).length ≤ 10 ^ 9 := Nat.pow_le_pow_right (by decide) h2
    rw [Nat.zero_add, Nat.one_mul] at a
    exact Nat.lt_of_lt_of_le a this
  have hne : magOf l ≠ [] := by intro e; rw [e] at h1; simp at h1
  rw [rdN_yes h]
  cases l with
  | nil => exact absurd rfl hne
  | cons c r =>
    by_cases hs : c = 45
    · subst hs
      have sg : signed (45 :: r) = true := by simp [signed]
      have mg : magOf (45 :: r) = r := by rw [mag_yes sg]; rfl
      rw [sg]
      rw [mg] at hp hlt hne ⊢
      unfold parseIntB parseUintB
      have c45 : (45 : UInt8).toNat = 45 := rfl
      simp only [c45, or_true, if_true, hp, if_neg hne]
      rw [if_neg (by simp), if_neg (by omega)]
    · have sg : signed (c :: r) = false := by simp [signed, hs]
      have mg : magOf (c :: r) = c :: r := by rw [mag_no sg]; rfl
      rw [sg]
      rw [mg] at hp hlt hne h3 ⊢
      have hc := head_dg h3 (c := c) rfl
      unfold parseIntB parseUintB
      have n1 : ¬ c.toNat = 43 := by omega
      have n2 : ¬ c.toNat = 45 := by omega
      simp only [n1, n2, or_self, if_false, if_neg hne, hp]
      rw [if_neg (by omega), if_neg (by simp)]
      rfl

/-- B. WHAT IS READ IS WRITTEN AS IT STOOD. -/
theorem itoa_of_rd {l : List UInt8} (h : rdOk l = true) : itoa (rdN l) = l := by
  obtain ⟨h1, h2, h3, h4⟩ := rd_parts h
  have hne : magOf l ≠ [] := by intro e; rw [e] at h1; simp at h1
  have hd : decDigits (numOf 0 (magOf l)) = magOf l := digits_of_num _ h3 hne (by
    rcases h4 with h4 | h4
    · exact Or.inl h4
    · exact Or.inr h4.2)
  rw [rdN_yes h]
  cases hs : signed l
  · have mg : magOf l = l := by rw [mag_no hs]; rfl
    unfold itoa
    rw [if_neg (by simp)]
    simp only [Bool.false_eq_true, if_false, Int.toNat_natCast]
    rw [hd, mg]
  · have hz : 0 < numOf 0 (magOf l) := by
      rcases Nat.eq_zero_or_pos (numOf 0 (magOf l)) with e | e
      · rw [e] at hd
        have h0 : decDigits 0 = [48] := by rw [decDigits]; rfl
        rw [h0] at hd
        rcases h4 with h4 | h4
        · exact absurd (by rw [← hd]; rfl) h4
        · rw [hs] at h4; exact absurd h4.1 (by simp)
      · exact e
    have hl : l = 45 :: magOf l := by
      cases l with
      | nil => simp [signed] at hs
      | cons c r =>
        have : c = 45 := by simpa [signed] using hs
        subst this
        rw [mag_yes hs]; rfl
    unfold itoa
    rw [if_pos (by simp; omega)]
    simp only [if_true, Int.natAbs_neg, Int.natAbs_natCast]
    rw [hd]; exact hl.symm

/-- C. WHAT IS WRITTEN IS READ. -/
theorem rd_of_itoa (n : Int) (h1 : -1000000 ≤ n) (h2 : n ≤ 1000000) : rdOk (itoa n) = true ∧ rdN (itoa n) = n := by
  have key : ∀ u : Nat, u ≤ 1000000 → (decDigits u).all dgB = true ∧ 1 ≤ (decDigits u).length ∧ (decDigits u).length ≤ 9 ∧ numOf 0 (decDigits u) = u := fun u hu => by
    refine ⟨decDigits_all u, ?_, ?_, decDigits_num u⟩
    · exact List.length_pos_iff.2 (decDigits_ne u)
    · have := decDigits_len u 6 (by omega); omega
  by_cases hn : n < 0
  · have hi : itoa n = 45 :: decDigits n.natAbs := by unfold itoa; rw [if_pos hn]
    obtain ⟨a, b, c, d⟩ := key n.natAbs (by omega)
    have sg : signed (45 :: decDigits n.natAbs) = true := by simp [signed]
    have mg : magOf (45 :: decDigits n.natAbs) = decDigits n.natAbs := by rw [mag_yes sg]; rfl
    have hh := decDigits_head n.natAbs (by omega)
    have ok : rdOk (45 :: decDigits n.natAbs) = true := by
      unfold rdOk magOk
      rw [mg, a]
      simp [b, c, hh]
    rw [hi]
    refine ⟨ok, ?_⟩
    rw [rdN_yes ok, sg, mg, d]
    simp; omega
  · have hi : itoa n = decDigits n.toNat := by unfold itoa; rw [if_neg hn]
    obtain ⟨a, b, c, d⟩ := key n.toNat (by omega)
    have sg : signed (decDigits n.toNat) = false := by
      cases hx : signed (decDigits n.toNat) with
      | false => rfl
      | true =>
        have hx2 : (decDigits n.toNat).head? = some 45 := by simpa [signed] using hx
        have := head_dg a hx2
        have c45 : (45 : UInt8).toNat = 45 := rfl
        omega
    have mg : magOf (decDigits n.toNat) = decDigits n.toNat := by rw [mag_no sg]; rfl
    have ok : rdOk (decDigits n.toNat) = true := by
      unfold rdOk magOk
      rw [mg, a, sg]
      by_cases hz : n.toNat = 0
      · rw [hz]; have h0 : decDigits 0 = [48] := by rw [decDigits]; rfl
        rw [h0]; rfl
      · have hh := decDigits_head n.toNat (by omega)
        simp [b, c, hh]
    rw [hi]
    refine ⟨ok, ?_⟩
    rw [rdN_yes ok, sg, mg, d]
    simp; omega

end Go.Proofs.YthlpjpoekfhnfaaDoor.P1
