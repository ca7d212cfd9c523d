/-
  Chapter 2's words: the program's own functions, and the laws on them.
-/
import Derived.Test.YtcfniecdjbgknaaDoorW1
namespace Go.Proofs.YtcfniecdjbgknaaDoor
open Go.RowKit
namespace L2
open S1 L1

/-- What the program finds: a number of a sum, and whether it is one. -/
def nIn (l : List UInt8) : Int := if numW l then P1.rdN l else 0

set_option maxRecDepth 100000 in
set_option maxHeartbeats 4000000 in
theorem numberIn_any (b : ByteArray) (hs : b.size ≤ 140737488351232) (w : World) (hV : Vars w) :
    Calls Tryd.prog 84 #[.string b] w fun e w' => e = .returned (.tuple #[.int .i64 (nIn b.toList), .bool (numW b.toList)]) ∧ Below w.heap.size w w' := by
  have hc : ∀ w, Vars w → Calls Tryd.prog 17 #[.string b] w fun e w' => e = .returned (.tuple #[.agg #[.int .i64 (rvK b.toList), .int .i64 (rvN b.toList)], .bool (rvOk b.toList)]) ∧ Below w.heap.size w w' := fun w hV => by
    rw [Lib.toList_data]
    exact implRead_any b hs w hV
  have hn := num_of_rv b.toList
  have hi : nIn b.toList = if numW b.toList then rvN b.toList else 0 := by
    unfold nIn
    cases h : numW b.toList
    · rfl
    · rw [(hn.2 h).2]
  rw [hi, ← hn.1]
  clear hi hn
  generalize rvK b.toList = k at hc ⊢
  generalize rvN b.toList = n at hc ⊢
  cases ho : rvOk b.toList
  · rw [ho] at hc
    have Hc := Lib.hid hc
    have HV := Lib.hid hV
    clear hc hV ho
    go_enter Tryd.func84, Tryd.ntmps84
    go_wp2_with fail
    refine (Hc.out _ HV.out).mono ?_
    rintro e w1 ⟨rfl, hb1⟩
    have hs1 := hb1.size
    obtain ⟨hc1, hf1⟩ := bcell hb1
    go_wp2_with fail
    go_ret2
    refine ⟨rfl, ?_⟩
    clear hc1 hf1
    (repeat (first | exact Below.refl _ _ | refine Below.drew ?_ | refine Below.alloc ?_ ?_ _ | refine Below.setCell ?_ ?_ _ | refine Below.trans ?_ (Below.mono (by assumption) ?_))) <;> (first | omega | (simp at *; done) | (simp at *; omega))
  · rw [ho] at hc
    have Hc := Lib.hid hc
    have HV := Lib.hid hV
    clear hc hV ho
    cases hm : numB k n
    all_goals
      go_enter Tryd.func84, Tryd.ntmps84
      go_wp2_with fail
      refine (Hc.out _ HV.out).mono ?_
      rintro e w1 ⟨rfl, hb1⟩
      have hs1 := hb1.size
      obtain ⟨hc1, hf1⟩ := bcell hb1
      go_wp2_with (go_at_call 72; refine (isNumber_any _ _ _).mono ?_; rintro e w2 ⟨rfl, hb2⟩; rw [hm]; have hs2 := hb2.size; obtain ⟨hc2, hf2⟩ := bcell hb2; have c0 := hc2 w.heap.size 0 (by simp; omega); have c1 := hc2 w.heap.size 1 (by simp; omega))
      go_ret2
      refine ⟨rfl, ?_⟩
      clear hc1 hf1 hc2 hf2 c0 c1
      (repeat (first | exact Below.refl _ _ | refine Below.drew ?_ | refine Below.alloc ?_ ?_ _ | refine Below.setCell ?_ ?_ _ | refine Below.trans ?_ (Below.mono (by assumption) ?_))) <;> (first | omega | (simp at *; done) | (simp at *; omega))

theorem name_in (l : List UInt8) : (numW l && (decide (0 ≤ nIn l) && decide (nIn l ≤ 3))) = nameW l := by
  rw [← name_of_num]
  unfold nIn
  cases numW l
  · rfl
  · rfl

set_option maxHeartbeats 1000000 in
theorem isBoundNumber_any (b : ByteArray) (hs : b.size ≤ 140737488351232) (w : World) (hV : Vars w) :
    Calls Tryd.prog 98 #[.string b] w fun e w' => e = .returned (.bool (nameW b.toList)) ∧ Below w.heap.size w w' := by
  have hc := numberIn_any b hs
  rw [← name_in]
  generalize nIn b.toList = n at hc ⊢
  cases ho : numW b.toList
  · rw [ho] at hc
    have Hc := Lib.hid hc
    have HV := Lib.hid hV
    clear hc hV ho
    go_enter Tryd.func98, Tryd.ntmps98
    go_wp2_with fail
    refine (Hc.out _ HV.out).mono ?_
    rintro e w1 ⟨rfl, hb1⟩
    go_wp2_with fail
    go_ret
    exact ⟨rfl, hb1⟩
  · rw [ho] at hc
    have Hc := Lib.hid hc
    have HV := Lib.hid hV
    clear hc hV ho
    by_cases h0 : 0 ≤ n <;> by_cases h3 : n ≤ 3
    all_goals try (exfalso; omega)
    all_goals
      go_enter Tryd.func98, Tryd.ntmps98
      go_wp2_with fail
      refine (Hc.out _ HV.out).mono ?_
      rintro e w1 ⟨rfl, hb1⟩
      go_wp2_with fail
      go_ret
      exact ⟨by simp [h0, h3], hb1⟩

set_option maxRecDepth 100000 in
set_option maxHeartbeats 8000000 in
theorem implNeeds_any (b : ByteArray) (hs : b.size ≤ 140737488351232) (w : World) (hV : Vars w) :
    Calls Tryd.prog 43 #[.string b] w fun e w' => e = .returned (.int .i64 (needs b.toList)) ∧ Below w.heap.size w w' := by
  have hnum := numberIn_any b hs w hV
  obtain ⟨c, hc⟩ : ∃ c, code b.toList = c := ⟨_, rfl⟩
  have hle := code_le b.toList
  have hv := needs_of hc
  have ht := tests_of hc
  rw [hc] at hle
  rw [hv]
  clear hv hc hV
  generalize numW b.toList = num at hnum ⊢
  generalize nIn b.toList = k at hnum
  have h : c = 0 ∨ c = 1 ∨ c = 2 ∨ c = 3 ∨ c = 4 ∨ c = 5 ∨ c = 6 ∨ c = 7 ∨ c = 8 ∨ c = 9 ∨ c = 10 ∨ c = 11 ∨ c = 12 ∨ c = 13 ∨ c = 14 := by omega
  clear hle
  rcases h with rfl | rfl | rfl | rfl | rfl | rfl | rfl | rfl | rfl | rfl | rfl | rfl | rfl | rfl | rfl
  all_goals
    obtain ⟨t0, t1, t2, t3, t4, t5, t6, t7, t8, t9, t10, t11, t12, t13⟩ := ht
    simp only [Nat.reduceEqDiff, decide_true, decide_false] at t0 t1 t2 t3 t4 t5 t6 t7 t8 t9 t10 t11 t12 t13
    cases num
    all_goals
      have Hc := Lib.hid hnum
      clear hnum
      go_enter Tryd.func43, Tryd.ntmps43
      go_wp2_with (go_at_call 84; refine (Hc.out).mono ?_; rintro e w1 ⟨rfl, hb1⟩)
      go_ret
      first
        | exact ⟨rfl, hb1⟩
        | exact ⟨rfl, Below.refl _ _⟩

theorem wordOk_bd (l : List UInt8) : decide (0 ≤ needs l) = !decide (needs l < 0) := by
  by_cases h : needs l < 0
  · have : ¬ 0 ≤ needs l := by omega
    simp [h]
  · have : 0 ≤ needs l := by omega
    simp [h, this]

def okW (l : List UInt8) : Bool := decide (0 ≤ needs l)

theorem implWordOk_any (b : ByteArray) (hs : b.size ≤ 140737488351232) (w : World) (hV : Vars w) :
    Calls Tryd.prog 51 #[.string b] w fun e w' => e = .returned (.bool (okW b.toList)) ∧ Below w.heap.size w w' := by
  have Hc := Lib.hid (implNeeds_any b hs w hV)
  clear hV
  go_enter Tryd.func51, Tryd.ntmps51
  go_wp2_with (go_at_call 43; refine (Hc.out).mono ?_; rintro e w1 ⟨rfl, hb1⟩)
  go_ret
  exact ⟨rfl, hb1⟩

theorem specWordOk_any (b : ByteArray) (hs : b.size ≤ maxLen) (w : World) :
    Calls Tryd.prog 50 #[.string b] w fun e w' => e = .returned (.bool (okW b.toList)) ∧ w = w' := by
  have Hc := Lib.hid (specNeeds_any b hs w)
  go_enter Tryd.func50, Tryd.ntmps50
  go_wp2_with (go_at_call 40; refine (Hc.out).mono ?_; rintro e w1 ⟨rfl, rfl⟩)
  go_ret
  exact ⟨rfl, rfl⟩

theorem lawNeedsOf (b : ByteArray) (hs : b.size ≤ maxLen) (w : World) (hV : Vars w) :
    Calls Tryd.prog 7 #[.string b] w fun e w' => e = .returned (.bool true) ∧ Below w.heap.size w w' := by
  by_cases hl : 1048576 < b.size
  · have h1 : (1048576 : Int) < (b.size : Int) := by omega
    unfold maxLen at hs
    go_enter Tryd.func7, Tryd.ntmps7
    go_wp2
    go_ret
    exact ⟨rfl, Below.refl _ _⟩
  · have h1 : ¬ (1048576 : Int) < (b.size : Int) := by omega
    have Hc := Lib.hid (implNeeds_any b (by omega) w hV)
    have Hd := Lib.hid (specNeeds_any b hs w)
    unfold maxLen at hs
    clear hV hl
    generalize needs b.toList = n at Hc Hd
    go_enter Tryd.func7, Tryd.ntmps7
    go_wp2_with (first | (go_at_call 40; refine (Hd.out).mono ?_; rintro e w1 ⟨rfl, rfl⟩) | (go_at_call 43; refine (Hc.out).mono ?_; rintro e w1 ⟨rfl, hb1⟩))
    go_ret
    exact ⟨rfl, hb1⟩

theorem lawWordOk (b : ByteArray) (hs : b.size ≤ maxLen) (w : World) (hV : Vars w) :
    Calls Tryd.prog 10 #[.string b] w fun e w' => e = .returned (.bool true) ∧ Below w.heap.size w w' := by
  by_cases hl : 1048576 < b.size
  · have h1 : (1048576 : Int) < (b.size : Int) := by omega
    unfold maxLen at hs
    go_enter Tryd.func10, Tryd.ntmps10
    go_wp2
    go_ret
    exact ⟨rfl, Below.refl _ _⟩
  · have h1 : ¬ (1048576 : Int) < (b.size : Int) := by omega
    have hc := implWordOk_any b (by omega) w hV
    have hd := specWordOk_any b hs w
    unfold maxLen at hs
    clear hV hl
    generalize okW b.toList = n at hc hd
    cases n
    all_goals
      have Hc := Lib.hid hc
      have Hd := Lib.hid hd
      clear hc hd
      go_enter Tryd.func10, Tryd.ntmps10
      go_wp2_with (first | (go_at_call 50; refine (Hd.out).mono ?_; rintro e w1 ⟨rfl, rfl⟩) | (go_at_call 51; refine (Hc.out).mono ?_; rintro e w1 ⟨rfl, hb1⟩))
      go_ret
      exact ⟨rfl, hb1⟩

end L2
end Go.Proofs.YtcfniecdjbgknaaDoor
