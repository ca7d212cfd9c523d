/-
  The words of a sum, told apart by a number each: nothing of the program stands here.
-/
import Derived.Test.YtcfniecdjbgknaaDoorS1
namespace Go.Proofs.YtcfniecdjbgknaaDoor.S1
open Go.Lib

/-- Which word it is: arg 0, ask 1, say 2, throw 3, mark 4, cut 5, add 6, below 7, both 8, keep 9, bind 10, try 11, go 12, if 13; 14: none of them. -/
def code (l : List UInt8) : Nat := if l == [97, 114, 103] then 0 else if l == [97, 115, 107] then 1 else if l == [115, 97, 121] then 2 else if l == [116, 104, 114, 111, 119] then 3 else if l == [109, 97, 114, 107] then 4 else if l == [99, 117, 116] then 5 else if l == [97, 100, 100] then 6 else if l == [98, 101, 108, 111, 119] then 7 else if l == [98, 111, 116, 104] then 8 else if l == [107, 101, 101, 112] then 9 else if l == [98, 105, 110, 100] then 10 else if l == [116, 114, 121] then 11 else if l == [103, 111] then 12 else if l == [105, 102] then 13 else 14
theorem ite_le {p : Prop} [Decidable p] {a b n : Nat} (ha : a ≤ n) (hb : b ≤ n) : (if p then a else b) ≤ n := by
  by_cases h : p
  · rw [if_pos h]; exact ha
  · rw [if_neg h]; exact hb
theorem code_le (l : List UInt8) : code l ≤ 14 := by
  unfold code
  repeat (refine ite_le (by omega) ?_)
  exact Nat.le_refl _
set_option maxHeartbeats 2000000 in
theorem tests (l : List UInt8) : (l == [97, 114, 103]) = decide (code l = 0) ∧ (l == [97, 115, 107]) = decide (code l = 1) ∧ (l == [115, 97, 121]) = decide (code l = 2) ∧ (l == [116, 104, 114, 111, 119]) = decide (code l = 3) ∧ (l == [109, 97, 114, 107]) = decide (code l = 4) ∧ (l == [99, 117, 116]) = decide (code l = 5) ∧ (l == [97, 100, 100]) = decide (code l = 6) ∧ (l == [98, 101, 108, 111, 119]) = decide (code l = 7) ∧ (l == [98, 111, 116, 104]) = decide (code l = 8) ∧ (l == [107, 101, 101, 112]) = decide (code l = 9) ∧ (l == [98, 105, 110, 100]) = decide (code l = 10) ∧ (l == [116, 114, 121]) = decide (code l = 11) ∧ (l == [103, 111]) = decide (code l = 12) ∧ (l == [105, 102]) = decide (code l = 13) := by
  by_cases h0 : l = [97, 114, 103]
  · subst h0; decide +kernel
  by_cases h1 : l = [97, 115, 107]
  · subst h1; decide +kernel
  by_cases h2 : l = [115, 97, 121]
  · subst h2; decide +kernel
  by_cases h3 : l = [116, 104, 114, 111, 119]
  · subst h3; decide +kernel
  by_cases h4 : l = [109, 97, 114, 107]
  · subst h4; decide +kernel
  by_cases h5 : l = [99, 117, 116]
  · subst h5; decide +kernel
  by_cases h6 : l = [97, 100, 100]
  · subst h6; decide +kernel
  by_cases h7 : l = [98, 101, 108, 111, 119]
  · subst h7; decide +kernel
  by_cases h8 : l = [98, 111, 116, 104]
  · subst h8; decide +kernel
  by_cases h9 : l = [107, 101, 101, 112]
  · subst h9; decide +kernel
  by_cases h10 : l = [98, 105, 110, 100]
  · subst h10; decide +kernel
  by_cases h11 : l = [116, 114, 121]
  · subst h11; decide +kernel
  by_cases h12 : l = [103, 111]
  · subst h12; decide +kernel
  by_cases h13 : l = [105, 102]
  · subst h13; decide +kernel
  have hc : code l = 14 := by
    unfold code
    simp [h0, h1, h2, h3, h4, h5, h6, h7, h8, h9, h10, h11, h12, h13]
  rw [hc]
  simp [h0, h1, h2, h3, h4, h5, h6, h7, h8, h9, h10, h11, h12, h13]
def needsTab (c : Nat) (num : Bool) : Int := if c ≤ 1 then 0 else if c ≤ 5 then 1 else if c ≤ 12 then 2 else if c ≤ 13 then 3 else if num then 0 else -1
theorem needs_code (l : List UInt8) : needs l = needsTab (code l) (numW l) := by
  obtain ⟨t0, t1, t2, t3, t4, t5, t6, t7, t8, t9, t10, t11, t12, t13⟩ := tests l
  have hle := code_le l
  unfold needs is0 is1 is2 is3 needsTab
  rw [t0, t1, t2, t3, t4, t5, t6, t7, t8, t9, t10, t11, t12, t13]
  generalize code l = c at hle
  clear t0 t1 t2 t3 t4 t5 t6 t7 t8 t9 t10 t11 t12 t13
  have h : c = 0 ∨ c = 1 ∨ c = 2 ∨ c = 3 ∨ c = 4 ∨ c = 5 ∨ c = 6 ∨ c = 7 ∨ c = 8 ∨ c = 9 ∨ c = 10 ∨ c = 11 ∨ c = 12 ∨ c = 13 ∨ c = 14 := by omega
  rcases h with rfl | rfl | rfl | rfl | rfl | rfl | rfl | rfl | rfl | rfl | rfl | rfl | rfl | rfl | rfl
  all_goals rfl
theorem bind_code (l : List UInt8) : bindW l = (decide (code l = 10) || decide (code l = 1)) := by
  obtain ⟨t0, t1, t2, t3, t4, t5, t6, t7, t8, t9, t10, t11, t12, t13⟩ := tests l
  unfold bindW
  rw [t10, t1]
theorem piece_code (l : List UInt8) : pieceW l = ((decide (code l = 4) || decide (code l = 5)) || decide (code l = 12)) := by
  obtain ⟨t0, t1, t2, t3, t4, t5, t6, t7, t8, t9, t10, t11, t12, t13⟩ := tests l
  unfold pieceW
  rw [t4, t5, t12]

end Go.Proofs.YtcfniecdjbgknaaDoor.S1
