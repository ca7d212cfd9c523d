/-
  What chapter 1 promises of its values, as plain facts.
-/
import Derived.Test.YtcmijbjhienfoaaDoorRead5
namespace Go.Proofs.YtcmijbjhienfoaaDoor
open Go.RowKit
namespace L1

theorem clamp_ok (n : Int) : okB 0 (clampI n) = true := by
  have : -1000000 ≤ clampI n ∧ clampI n ≤ 1000000 := by unfold clampI; split <;> (try split) <;> omega
  simp [okB, numB, inB, this]

theorem sum_ok {a b c d : Int} (h : (numB a b && numB c d) = true) : okB 0 (addN a b c d) = true := by
  unfold addN
  rw [h, if_pos rfl]
  exact clamp_ok _

theorem less_is {a b c d : Int} (h : (numB a b && numB c d) = true) : decide (lssN a b c d = 1) = decide (b < d) := by
  unfold lssN
  rw [h, if_pos rfl]
  by_cases hb : b < d <;> simp [hb]

theorem show_read {l : List UInt8} (h : rvOk l = true) : showB (rvK l) (rvN l) = l := by
  have h1 : P1.rdOk (rvRest l) = true := by unfold rvOk at h; rw [Bool.and_eq_true] at h; exact h.1
  have hp := P1.parse_of_rd h1
  have hb := back_iff hp
  unfold rvK rvN
  rw [h, if_pos rfl, if_pos rfl]
  rw [h] at hb
  exact of_decide_eq_true hb.1

theorem show_empty (k n : Int) : decide (showB k n = []) = !okB k n := by
  cases h : okB k n
  · have : showB k n = [] := by unfold showB; rw [h]; rfl
    simp [this]
  · have : showB k n ≠ [] := by
      unfold showB
      rw [h, if_pos rfl]
      obtain ⟨_, h1, h2⟩ := ok_bd h
      split
      · simp
      · intro e
        have := (P1.rd_of_itoa n h1 h2).1
        rw [e] at this
        cases this
    simp [this]

theorem read_show {k n : Int} (h : okB k n = true) : rvOk (showB k n) = true ∧ rvK (showB k n) = k ∧ rvN (showB k n) = n := by
  obtain ⟨hk, h1, h2⟩ := ok_bd h
  obtain ⟨c1, c2⟩ := P1.rd_of_itoa n h1 h2
  have key : rvKind (showB k n) = k ∧ rvRest (showB k n) = Lib.itoa n := by
    unfold showB
    rw [h, if_pos rfl]
    rcases hk with rfl | rfl
    · rw [if_neg (by omega)]
      have hne : Lib.hasPrefix (Lib.itoa n) [112] = false := by
        rw [pre_head]
        simp only [decide_eq_false_iff_not]
        intro e
        have hp := P1.itoa_of_rd (l := Lib.itoa n) c1
        cases hi : Lib.itoa n with
        | nil => rw [hi] at e; simp at e
        | cons c r =>
          rw [hi] at e
          simp at e
          subst e
          rw [hi] at c1
          exact absurd c1 (by simp [P1.rdOk, P1.magOk, P1.magOf, P1.signed, P1.dgB])
      constructor
      · unfold rvKind; rw [hne]; rfl
      · unfold rvRest Lib.trimPrefix; rw [hne]; rfl
    · rw [if_pos rfl]
      constructor
      · unfold rvKind; rw [pre_head]; simp
      · unfold rvRest Lib.trimPrefix; rw [pre_head]; simp
  have hok : rvOk (showB k n) = true := by unfold rvOk; rw [key.1, key.2, c1, c2, h]; rfl
  refine ⟨hok, ?_, ?_⟩
  · unfold rvK; rw [hok, if_pos rfl, key.1]
  · unfold rvN; rw [hok, if_pos rfl, key.2, c2]

end L1
end Go.Proofs.YtcmijbjhienfoaaDoor
