/-
  Chapter 2's words: what the model and the program say of one word, each by a contract.
-/
import Derived.Test.YtcfniecdjbgknaaDoorS2
import Derived.Test.YtcfniecdjbgknaaDoorRead5
namespace Go.Proofs.YtcfniecdjbgknaaDoor
open Go.RowKit
namespace L2
open S1 L1

theorem num_no {l : List UInt8} (h : P1.rdOk l = false) : numW l = false := by unfold numW; rw [h]; rfl
theorem num_yes {l : List UInt8} (h : P1.rdOk l = true) : numW l = inB (P1.rdN l) (-1000000) 1000000 := by unfold numW; rw [h]; rfl
theorem name_no {l : List UInt8} (h : P1.rdOk l = false) : nameW l = false := by unfold nameW; rw [h]; rfl
theorem name_yes {l : List UInt8} (h : P1.rdOk l = true) : nameW l = inB (P1.rdN l) 0 3 := by unfold nameW; rw [h]; rfl

theorem read_word (b : ByteArray) (hs : b.size ≤ maxLen) (w : World) :
    Calls Tryd.prog 70 #[.string b] w fun e w' => e = .returned (.tuple #[.int .i64 (P1.rdN b.toList), .bool (P1.rdOk b.toList)]) ∧ w = w' := by
  rw [Lib.toList_data]
  exact l1Read_any b hs w

theorem l2Number_any (b : ByteArray) (hs : b.size ≤ maxLen) (w : World) :
    Calls Tryd.prog 83 #[.string b] w fun e w' => e = .returned (.bool (numW b.toList)) ∧ w = w' := by
  have hc := read_word b hs
  cases ho : P1.rdOk b.toList
  · rw [num_no ho]
    rw [ho] at hc
    generalize P1.rdN b.toList = n at hc
    have Hc := Lib.hid hc
    clear hc ho
    go_enter Tryd.func83, Tryd.ntmps83
    go_wp2_with (go_at_call 70; refine (Hc.out _).mono ?_; rintro e w1 ⟨rfl, rfl⟩)
    go_ret
    exact ⟨rfl, rfl⟩
  · rw [num_yes ho]
    rw [ho] at hc
    generalize P1.rdN b.toList = n at hc ⊢
    have Hc := Lib.hid hc
    clear hc ho
    go_enter Tryd.func83, Tryd.ntmps83
    go_wp2_with (first | (go_at_call 70; refine (Hc.out _).mono ?_; rintro e w1 ⟨rfl, rfl⟩) | (go_at_call 73; refine (l1In_any _ _ _ _).mono ?_; rintro e w1 ⟨rfl, rfl⟩))
    go_ret
    exact ⟨rfl, rfl⟩

theorem l2Name_any (b : ByteArray) (hs : b.size ≤ maxLen) (w : World) :
    Calls Tryd.prog 100 #[.string b] w fun e w' => e = .returned (.bool (nameW b.toList)) ∧ w = w' := by
  have hc := read_word b hs
  cases ho : P1.rdOk b.toList
  · rw [name_no ho]
    rw [ho] at hc
    generalize P1.rdN b.toList = n at hc
    have Hc := Lib.hid hc
    clear hc ho
    go_enter Tryd.func100, Tryd.ntmps100
    go_wp2_with (go_at_call 70; refine (Hc.out _).mono ?_; rintro e w1 ⟨rfl, rfl⟩)
    go_ret
    exact ⟨rfl, rfl⟩
  · rw [name_yes ho]
    rw [ho] at hc
    generalize P1.rdN b.toList = n at hc ⊢
    have Hc := Lib.hid hc
    clear hc ho
    go_enter Tryd.func100, Tryd.ntmps100
    go_wp2_with (first | (go_at_call 70; refine (Hc.out _).mono ?_; rintro e w1 ⟨rfl, rfl⟩) | (go_at_call 73; refine (l1In_any _ _ _ _).mono ?_; rintro e w1 ⟨rfl, rfl⟩))
    go_ret
    exact ⟨rfl, rfl⟩

theorem isOfBound_any (b : ByteArray) (w : World) :
    Calls Tryd.prog 78 #[.string b] w fun e w' => e = .returned (.bool (bindW b.toList)) ∧ w = w' := by
  cases h1 : (b.toList == [98, 105, 110, 100]) <;> cases h2 : (b.toList == [97, 115, 107])
  all_goals
    have hv : Hid (bindW b.toList = ((b.toList == [98, 105, 110, 100]) || (b.toList == [97, 115, 107]))) := by exact rfl
    go_enter Tryd.func78, Tryd.ntmps78
    go_wp2
    go_ret
    exact ⟨by rw [hv.out, h1, h2]; rfl, rfl⟩

theorem isOfPieces_any (b : ByteArray) (w : World) :
    Calls Tryd.prog 87 #[.string b] w fun e w' => e = .returned (.bool (pieceW b.toList)) ∧ w = w' := by
  cases h1 : (b.toList == [109, 97, 114, 107]) <;> cases h2 : (b.toList == [99, 117, 116]) <;> cases h3 : (b.toList == [103, 111])
  all_goals
    have hv : Hid (pieceW b.toList = ((b.toList == [109, 97, 114, 107]) || (b.toList == [99, 117, 116]) || (b.toList == [103, 111]))) := by exact rfl
    go_enter Tryd.func87, Tryd.ntmps87
    go_wp2
    go_ret
    exact ⟨by rw [hv.out, h1, h2, h3]; rfl, rfl⟩

theorem needs_of {l : List UInt8} {c : Nat} (h : code l = c) : needs l = needsTab c (numW l) := by rw [needs_code, h]
theorem tests_of {l : List UInt8} {c : Nat} (h : code l = c) : (l == [97, 114, 103]) = decide (c = 0) ∧ (l == [97, 115, 107]) = decide (c = 1) ∧ (l == [115, 97, 121]) = decide (c = 2) ∧ (l == [116, 104, 114, 111, 119]) = decide (c = 3) ∧ (l == [109, 97, 114, 107]) = decide (c = 4) ∧ (l == [99, 117, 116]) = decide (c = 5) ∧ (l == [97, 100, 100]) = decide (c = 6) ∧ (l == [98, 101, 108, 111, 119]) = decide (c = 7) ∧ (l == [98, 111, 116, 104]) = decide (c = 8) ∧ (l == [107, 101, 101, 112]) = decide (c = 9) ∧ (l == [98, 105, 110, 100]) = decide (c = 10) ∧ (l == [116, 114, 121]) = decide (c = 11) ∧ (l == [103, 111]) = decide (c = 12) ∧ (l == [105, 102]) = decide (c = 13) := by
  rw [← h]; exact tests l

set_option maxRecDepth 100000 in
set_option maxHeartbeats 8000000 in
theorem specNeeds_any (b : ByteArray) (hs : b.size ≤ maxLen) (w : World) :
    Calls Tryd.prog 40 #[.string b] w fun e w' => e = .returned (.int .i64 (needs b.toList)) ∧ w = w' := by
  have hnum := l2Number_any b hs
  obtain ⟨c, hc⟩ : ∃ c, code b.toList = c := ⟨_, rfl⟩
  have hle := code_le b.toList
  have hv := needs_of hc
  have ht := tests_of hc
  rw [hc] at hle
  rw [hv]
  clear hv hc
  generalize numW b.toList = num at hnum ⊢
  have Hc := Lib.hid hnum
  clear hnum
  have h : c = 0 ∨ c = 1 ∨ c = 2 ∨ c = 3 ∨ c = 4 ∨ c = 5 ∨ c = 6 ∨ c = 7 ∨ c = 8 ∨ c = 9 ∨ c = 10 ∨ c = 11 ∨ c = 12 ∨ c = 13 ∨ c = 14 := by omega
  clear hle
  rcases h with rfl | rfl | rfl | rfl | rfl | rfl | rfl | rfl | rfl | rfl | rfl | rfl | rfl | rfl | rfl
  all_goals
    obtain ⟨t0, t1, t2, t3, t4, t5, t6, t7, t8, t9, t10, t11, t12, t13⟩ := ht
    simp only [Nat.reduceEqDiff, decide_true, decide_false] at t0 t1 t2 t3 t4 t5 t6 t7 t8 t9 t10 t11 t12 t13
    cases num
    all_goals
      go_enter Tryd.func40, Tryd.ntmps40
      go_wp2_with (go_at_call 83; refine (Hc.out _).mono ?_; rintro e w1 ⟨rfl, rfl⟩)
      go_ret
      exact ⟨rfl, rfl⟩

end L2
end Go.Proofs.YtcfniecdjbgknaaDoor
