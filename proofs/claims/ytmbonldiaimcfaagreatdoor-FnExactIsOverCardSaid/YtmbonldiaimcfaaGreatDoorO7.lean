/-
  What is right of a pile: the program's small functions.
-/
import Derived.Test.YtmbonldiaimcfaaGreatDoorO3
namespace Go.Proofs.YtmbonldiaimcfaaGreatDoor
open Go.RowKit Go.Sort
namespace L2
open S1 L1

set_option maxRecDepth 100000 in
set_option maxHeartbeats 1000000 in
theorem tells_any (x : Pil) (cv pv sv : Value) (oq : Option Addr) (nq cq : Nat) (k n : Int) (w : World) :
    Calls Tryz.prog 142 #[pilV x cv pv (.slice oq nq cq) sv, .agg #[.int .i64 k, .int .i64 n]] w fun e w' => e = .returned (.bool (tellsB nq k n)) ∧ Below w.heap.size w w' := by
  have HN := Lib.hid (fun w1 => isNumber_any k n w1)
  have HP := Lib.hid (fun w1 => isPiece_any k n w1)
  rw [← tells_numB]
  unfold pilV
  cases h1 : numB k n
  · rw [h1] at HN
    cases h2 : pieB k n
    · rw [h2] at HP
      go_enter Tryz.func142, Tryz.ntmps142
      go_wp2_with fail
      refine (HN.out _).mono ?_
      rintro e w1 ⟨rfl, hb1⟩
      have hs1 := hb1.size
      have HB1 : Hid (Below w.heap.size w w1) := Lib.hid (by (repeat (first | (with_reducible refine Below.alloc ?_ ?_ _) | (with_reducible refine Below.setCell ?_ ?_ _) | (with_reducible refine Below.drew ?_) | (with_reducible exact Below.refl _ _) | (with_reducible refine Below.trans ?_ (Below.mono (by assumption) ?_)))) <;> (first | omega | (dsimp only; omega) | (simp; done) | (simp; omega) | (simp at *; omega)))
      obtain ⟨hc1, hf1⟩ := bcell hb1
      simp at hs1
      have z0 : w.heap.size < w1.heap.size := by omega
      have z1 : w.heap.size + 1 < w1.heap.size := by omega
      clear hb1
      go_wp2_with fail
      refine (HP.out _).mono ?_
      rintro e w2 ⟨rfl, hb2⟩
      have HB2 : Hid (Below w.heap.size w w2) := Lib.hid (HB1.out.trans (hb2.mono HB1.out.size))
      clear hb2 hc1 hf1
      go_wp2_with fail
      go_ret
      exact ⟨rfl, HB2.out⟩
    · rw [h2] at HP
      by_cases hd : n < (nq : Int)
      all_goals
        go_enter Tryz.func142, Tryz.ntmps142
        go_wp2_with fail
        refine (HN.out _).mono ?_
        rintro e w1 ⟨rfl, hb1⟩
        have hs1 := hb1.size
        have HB1 : Hid (Below w.heap.size w w1) := Lib.hid (by (repeat (first | (with_reducible refine Below.alloc ?_ ?_ _) | (with_reducible refine Below.setCell ?_ ?_ _) | (with_reducible refine Below.drew ?_) | (with_reducible exact Below.refl _ _) | (with_reducible refine Below.trans ?_ (Below.mono (by assumption) ?_)))) <;> (first | omega | (dsimp only; omega) | (simp; done) | (simp; omega) | (simp at *; omega)))
        obtain ⟨hc1, hf1⟩ := bcell hb1
        simp at hs1
        have z0 : w.heap.size < w1.heap.size := by omega
        have z1 : w.heap.size + 1 < w1.heap.size := by omega
        clear hb1
        go_wp2_with fail
        refine (HP.out _).mono ?_
        rintro e w2 ⟨rfl, hb2⟩
        have HB2 : Hid (Below w.heap.size w w2) := Lib.hid (HB1.out.trans (hb2.mono HB1.out.size))
        obtain ⟨hc2, hf2⟩ := bcell hb2
        have hs2 := hb2.size
        have z2 : w.heap.size < w2.heap.size := by omega
        have z3 : w.heap.size + 1 < w2.heap.size := by omega
        clear hb2
        go_wp2_with fail
        go_ret
        exact ⟨by simp [hd], HB2.out⟩
  · rw [h1] at HN
    go_enter Tryz.func142, Tryz.ntmps142
    go_wp2_with fail
    refine (HN.out _).mono ?_
    rintro e w1 ⟨rfl, hb1⟩
    have HB1 : Hid (Below w.heap.size w w1) := Lib.hid (by (repeat (first | (with_reducible refine Below.alloc ?_ ?_ _) | (with_reducible refine Below.setCell ?_ ?_ _) | (with_reducible refine Below.drew ?_) | (with_reducible exact Below.refl _ _) | (with_reducible refine Below.trans ?_ (Below.mono (by assumption) ?_)))) <;> (first | omega | (dsimp only; omega) | (simp; done) | (simp; omega) | (simp at *; omega)))
    clear hb1
    go_wp2_with fail
    go_ret
    exact ⟨rfl, HB1.out⟩

set_option maxRecDepth 100000 in
set_option maxHeartbeats 1000000 in
theorem beginsNothing_any (x : Pil) (cv pv qv sv : Value) (w : World) :
    Calls Tryz.prog 144 #[pilV x cv pv qv sv] w fun e w' => e = .returned (.bool (decide (x.a = 0) && sameB x.ak x.an 0 0)) ∧ Below w.heap.size w w' := by
  have H := Lib.hid (fun w1 => implIsNothing_any x.ak x.an w1)
  unfold pilV
  by_cases h : x.a = 0
  · rw [h]
    generalize sameB x.ak x.an 0 0 = t at H ⊢
    go_enter Tryz.func144, Tryz.ntmps144
    go_wp2_with fail
    refine (H.out _).mono ?_
    rintro e w1 ⟨rfl, hb1⟩
    have HB1 : Hid (Below w.heap.size w w1) := Lib.hid (by (repeat (first | (with_reducible refine Below.alloc ?_ ?_ _) | (with_reducible refine Below.setCell ?_ ?_ _) | (with_reducible refine Below.drew ?_) | (with_reducible exact Below.refl _ _) | (with_reducible refine Below.trans ?_ (Below.mono (by assumption) ?_)))) <;> (first | omega | (dsimp only; omega) | (simp; done) | (simp; omega) | (simp at *; omega)))
    clear hb1
    go_wp2_with fail
    go_ret
    exact ⟨rfl, HB1.out⟩
  · have h' : (x.a == 0) = false := by simpa using h
    have e : (decide (x.a = 0) && sameB x.ak x.an 0 0) = false := by simp [h]
    rw [e]
    go_enter Tryz.func144, Tryz.ntmps144
    go_wp2_with fail
    go_ret
    refine ⟨rfl, ?_⟩
    (repeat (first | (with_reducible refine Below.alloc ?_ ?_ _) | (with_reducible refine Below.setCell ?_ ?_ _) | (with_reducible refine Below.drew ?_) | (with_reducible exact Below.refl _ _) | (with_reducible refine Below.trans ?_ (Below.mono (by assumption) ?_)))) <;> (first | omega | (dsimp only; omega) | (simp; done) | (simp; omega) | (simp at *; omega))

theorem isShown_any (b : ByteArray) (hs : b.size ≤ 1048576) (w : World) (hV : Vars w) :
    Calls Tryz.prog 150 #[.string b] w fun e w' => e = .returned (.bool (rvOk b.toList)) ∧ Below w.heap.size w w' := by
  have H := Lib.hid (implRead_any b (by omega) w hV)
  rw [← Lib.toList_data] at H
  generalize rvOk b.toList = t at H ⊢
  clear hV hs
  go_enter Tryz.func150, Tryz.ntmps150
  go_wp2_with fail
  refine H.out.mono ?_
  rintro e w1 ⟨rfl, hb1⟩
  go_wp2_with fail
  go_ret
  exact ⟨rfl, hb1.alloc hb1.size _⟩

set_option maxRecDepth 100000 in
set_option maxHeartbeats 16000000 in
theorem isKindOf_any (k : Int) (b : ByteArray) (w : World) (hk : inB k 1 8 = true) :
    Calls Tryz.prog 196 #[.int .i64 k, .string b] w fun e w' => e = .returned (.bool (kindC k (S1.code b.toList))) ∧ w = w' := by
  obtain ⟨c, hc⟩ : ∃ c, S1.code b.toList = c := ⟨_, rfl⟩
  have hle := code_le b.toList
  have ht := tests_of hc
  rw [hc] at hle ⊢
  clear hc
  have h : c = 0 ∨ c = 1 ∨ c = 2 ∨ c = 3 ∨ c = 4 ∨ c = 5 ∨ c = 6 ∨ c = 7 ∨ c = 8 ∨ c = 9 ∨ c = 10 ∨ c = 11 ∨ c = 12 ∨ c = 13 ∨ c = 14 := by omega
  clear hle
  rcases h with rfl | rfl | rfl | rfl | rfl | rfl | rfl | rfl | rfl | rfl | rfl | rfl | rfl | rfl | rfl
  all_goals
    obtain ⟨t0, t1, t2, t3, t4, t5, t6, t7, t8, t9, t10, t11, t12, t13⟩ := ht
    simp only [Nat.reduceEqDiff, decide_true, decide_false] at t0 t1 t2 t3 t4 t5 t6 t7 t8 t9 t10 t11 t12 t13
    rcases kinds hk with rfl | rfl | rfl | rfl | rfl | rfl | rfl | rfl
    all_goals
      go_enter Tryz.func196, Tryz.ntmps196
      go_wp2_with fail
      go_ret
      exact ⟨rfl, rfl⟩

end L2
end Go.Proofs.YtmbonldiaimcfaaGreatDoor
