/-
  Plain facts: a numeral that is read is the numeral that is written. Nothing of the program stands here.
-/
import Derived.Test.YtcfniecdjbgknaaDoorP3
namespace Go.Proofs.YtcfniecdjbgknaaDoor.P1
open Go.Lib

theorem rd_parts {l : List UInt8} (h : rdOk l = true) : 1 ≤ (magOf l).length ∧ (magOf l).length ≤ 9 ∧ (magOf l).all dgB = true ∧ ((magOf l).head? ≠ some 48 ∨ signed l = false ∧ (magOf l).length = 1) := by
  unfold rdOk magOk at h
  simp only [Bool.and_eq_true, decide_eq_true_eq] at h
  obtain ⟨⟨⟨h1, h2⟩, h3⟩, h4⟩ := h
  refine ⟨h1, h2, h3, ?_⟩
  by_cases hz : (magOf l).head? = some 48
  · right
    rw [hz] at h4
    simp at h4
    exact ⟨h4.1, by omega⟩
  · exact Or.inl hz

theorem head_dg {l : List UInt8} {c : UInt8} (h : l.all dgB = true) (hc : l.head? = some c) : 48 ≤ c.toNat ∧ c.toNat ≤ 57 := by
  cases l with
  | nil => cases hc
  | cons d r =>
    simp only [List.head?_cons, Option.some.injEq] at hc
    subst hc
    simp only [List.all_cons, Bool.and_eq_true] at h
    exact dgB_iff.1 h.1

/-- A. THE LIBRARY READS WHAT THE MODEL READS. -/
theorem parse_of_rd {l : List UInt8} (h : rdOk l = true) : parseIntB 64 l = .ok (rdN l) := by
  obtain ⟨h1, h2, h3, h4⟩ := rd_parts h
  have hp : parseUintM (2 ^ 64 - 1) 0 (magOf l) = .ok (numOf 0 (magOf l)) := by
    refine parse_digits _ (by decide) _ 0 h3 ?_
    have : 10 ^ (magOf l).length ≤ 10 ^ 9 := Nat.pow_le_pow_right (by decide) h2
    exact Nat.le_trans (by rw [Nat.zero_add, Nat.one_mul]; exact this) (by decide)
  have hlt : numOf 0 (magOf l) < 1000000000 := by
    have a := numOf_lt (magOf l) 0 h3
    have : 10 ^ (magOf l).length ≤ 10 ^ 9 := Nat.pow_le_pow_right (by decide) h2
    rw [Nat.zero_add, Nat.one_mul] at a
    exact Nat.lt_of_lt_of_le a this
  have hne : magOf l ≠ [] := by intro e; rw [e] at h1; simp at h1
  rw [rdN_yes h]
  cases l with
  | nil => exact absurd rfl hne
  | cons c r =>
    by_cases hs : c = 45
    · subst hs
      have sg : signed (45 :: r) = true := by simp [signed]
      have mg : magOf (45 :: r) = r := by rw [mag_yes sg]; rfl
      rw [sg]
      rw [mg] at hp hlt hne ⊢
      unfold parseIntB parseUintB
      have c45 : (45 : UInt8).toNat = 45 := rfl
      simp only [c45, or_true, if_true, hp, if_neg hne]
      rw [if_neg (by simp), if_neg (by omega)]
    · have sg : signed (c :: r) = false := by simp [signed, hs]
      have mg : magOf (c :: r) = c :: r := by rw [mag_no sg]; rfl
      rw [sg]
      rw [mg] at hp hlt hne h3 ⊢
      have hc := head_dg h3 (c := c) rfl
      unfold parseIntB parseUintB
      have n1 : ¬ c.toNat = 43 := by omega
      have n2 : ¬ c.toNat = 45 := by omega
      simp only [n1, n2, or_self, if_false, if_neg hne, hp]
      rw [if_neg (by omega), if_neg (by simp)]
      rfl

/-- B. WHAT IS READ IS WRITTEN AS IT STOOD. -/
theorem itoa_of_rd {l : List UInt8} (h : rdOk l = true) : itoa (rdN l) = l := by
  obtain ⟨h1, h2, h3, h4⟩ := rd_parts h
  have hne : magOf l ≠ [] := by intro e; rw [e] at h1; simp at h1
  have hd : decDigits (numOf 0 (magOf l)) = magOf l := digits_of_num _ h3 hne (by
    rcases h4 with h4 | h4
    · exact Or.inl h4
    · exact Or.inr h4.2)
  rw [rdN_yes h]
  cases hs : signed l
  · have mg : magOf l = l := by rw [mag_no hs]; rfl
    unfold itoa
    rw [if_neg (by simp)]
    simp only [Bool.false_eq_true, if_false, Int.toNat_natCast]
    rw [hd, mg]
  · have hz : 0 < numOf 0 (magOf l) := by
      rcases Nat.eq_zero_or_pos (numOf 0 (magOf l)) with e | e
      · rw [e] at hd
        have h0 : decDigits 0 = [48] := by rw [decDigits]; rfl
        rw [h0] at hd
        rcases h4 with h4 | h4
        · exact absurd (by rw [← hd]; rfl) h4
        · rw [hs] at h4; exact absurd h4.1 (by simp)
      · exact e
    have hl : l = 45 :: magOf l := by
      cases l with
      | nil => simp [signed] at hs
      | cons c r =>
        have : c = 45 := by simpa [signed] using hs
        subst this
        rw [mag_yes hs]; rfl
    unfold itoa
    rw [if_pos (by simp; omega)]
    simp only [if_true, Int.natAbs_neg, Int.natAbs_natCast]
    rw [hd]; exact hl.symm

/-- C. WHAT IS WRITTEN IS READ. -/
theorem rd_of_itoa (n : Int) (h1 : -1000000 ≤ n) (h2 : n ≤ 1000000) : rdOk (itoa n) = true ∧ rdN (itoa n) = n := by
  have key : ∀ u : Nat, u ≤ 1000000 → (decDigits u).all dgB = true ∧ 1 ≤ (decDigits u).length ∧ (decDigits u).length ≤ 9 ∧ numOf 0 (decDigits u) = u := fun u hu => by
    refine ⟨decDigits_all u, ?_, ?_, decDigits_num u⟩
    · exact List.length_pos_iff.2 (decDigits_ne u)
    · have := decDigits_len u 6 (by omega); omega
  by_cases hn : n < 0
  · have hi : itoa n = 45 :: decDigits n.natAbs := by unfold itoa; rw [if_pos hn]
    obtain ⟨a, b, c, d⟩ := key n.natAbs (by omega)
    have sg : signed (45 :: decDigits n.natAbs) = true := by simp [signed]
    have mg : magOf (45 :: decDigits n.natAbs) = decDigits n.natAbs := by rw [mag_yes sg]; rfl
    have hh := decDigits_head n.natAbs (by omega)
    have ok : rdOk (45 :: decDigits n.natAbs) = true := by
      unfold rdOk magOk
      rw [mg, a]
      simp [b, c, hh]
    rw [hi]
    refine ⟨ok, ?_⟩
    rw [rdN_yes ok, sg, mg, d]
    simp; omega
  · have hi : itoa n = decDigits n.toNat := by unfold itoa; rw [if_neg hn]
    obtain ⟨a, b, c, d⟩ := key n.toNat (by omega)
    have sg : signed (decDigits n.toNat) = false := by
      cases hx : signed (decDigits n.toNat) with
      | false => rfl
      | true =>
        have hx2 : (decDigits n.toNat).head? = some 45 := by simpa [signed] using hx
        have := head_dg a hx2
        have c45 : (45 : UInt8).toNat = 45 := rfl
        omega
    have mg : magOf (decDigits n.toNat) = decDigits n.toNat := by rw [mag_no sg]; rfl
    have ok : rdOk (decDigits n.toNat) = true := by
      unfold rdOk magOk
      rw [mg, a, sg]
      by_cases hz : n.toNat = 0
      · rw [hz]; have h0 : decDigits 0 = [48] := by rw [decDigits]; rfl
        rw [h0]; rfl
      · have hh := decDigits_head n.toNat (by omega)
        simp [b, c, hh]
    rw [hi]
    refine ⟨ok, ?_⟩
    rw [rdN_yes ok, sg, mg, d]
    simp; omega

end Go.Proofs.YtcfniecdjbgknaaDoor.P1
