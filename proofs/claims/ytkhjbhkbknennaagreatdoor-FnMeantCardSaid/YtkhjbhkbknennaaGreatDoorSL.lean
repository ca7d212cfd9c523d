/-
  The law on SameMeaning: copied, measured, held against each other.
-/
import Derived.Test.YtkhjbhkbknennaaGreatDoorSM
import Derived.Deep.RegionWith
import Derived.Deep.DeepCutAuto
import Derived.Deep.Light
namespace Go.Proofs.YtkhjbhkbknennaaGreatDoor
open Go.RowKit
namespace L2
open L1

theorem size_set2 (A : World) (a : Addr) (u : Value) : (A.setCell a u).heap.size = A.heap.size := by simp [World.setCell]
theorem lst_set {A : World} {X : Nat} {ss : List ByteArray} {p : Addr} {u : Value} (h : Lst A X ss) (hp : X ≠ p.block) : Lst (A.setCell p u) X ss := (Below.heap_setCell _ _ _ _ hp).trans h
theorem below_undrew2 {w w' : World} (h : Below w.drew.heap.size w.drew w') : Below w.heap.size w w' := ⟨h.os, h.tape, h.output, h.size, h.block⟩
/-- What measuring leaves, from whatever is left on. -/
def Szed2 (ss : List ByteArray) (w : World) (e : Ending) (w' : World) : Prop :=
  w = w' ∧ (e = .returned (.int .i64 (-1)) ∨ ∃ x : Int, 0 ≤ x ∧ x ≤ 1048576 ∧ e = .returned (.int .i64 x) ∧ Small ss)

/-- What measuring a meaning leaves. -/
def SzedM (ss : List ByteArray) (w : World) (e : Ending) (w' : World) : Prop :=
  Below w.heap.size w w' ∧ (e = .returned (.int .i64 (-1)) ∨ ∃ x : Int, 0 ≤ x ∧ x ≤ 1048576 ∧ e = .returned (.int .i64 x) ∧ Small ss)
/-- What copying a meaning leaves. -/
def CopiedM (a b : Int) (t : Bool) (q : Int) (ss : List ByteArray) (w : World) (e : Ending) (w' : World) : Prop :=
  ∃ X, e = .returned (mgV a b t (.slice (some ⟨X, 0, none⟩) ss.length ss.length) q) ∧ Row w' (.slice (some ⟨X, 0, none⟩) ss.length ss.length) ss ∧ Below w.heap.size w w'
set_option maxRecDepth 100000 in
set_option maxHeartbeats 1000000 in
theorem specSameMeaning_any (a b : Int) (t : Bool) (v : Value) (q : Int) (ss : List ByteArray) (a' b' : Int) (t' : Bool) (v' : Value) (q' : Int) (tt : List ByteArray) (w : World) (hR : Row w v ss) (hR' : Row w v' tt) :
    Calls Tryz.prog 12 #[mgV a b t v q, mgV a' b' t' v' q'] w fun e w' => e = .returned (.bool (sameM a b t ss q a' b' t' tt q')) ∧ Below w.heap.size w w' := by
  have H := Lib.hid (fun w1 (hb : Below w.heap.size w w1) => l1SameTexts_any v v' ss tt w1 (hR.below hb) (hR'.below hb))
  clear hR hR'
  by_cases h1 : a = a'
  · subst h1
    by_cases h2 : b = b'
    · subst h2
      by_cases h3 : t = t'
      · subst h3
        cases hso : sameO ss tt
        · have e : sameM a b t ss q a b t tt q' = false := by unfold sameM; rw [hso, Bool.and_false]
          rw [hso] at H
          rw [e]
          go_enter Tryz.func12, Tryz.ntmps12
          go_wp2_with fail
          refine (H.out _ (by (repeat (first | (with_reducible refine Below.alloc ?_ ?_ _) | (with_reducible refine Below.setCell ?_ ?_ _) | (with_reducible refine Below.drew ?_) | (with_reducible exact Below.refl _ _) | (with_reducible refine Below.trans ?_ (Below.mono (by assumption) ?_)))) <;> (first | omega | (dsimp only; omega) | (simp; done) | (simp; omega) | (simp at *; omega)))).mono ?_
          rintro e w1 ⟨rfl, hb1⟩
          go_wp2_with fail
          go_ret
          refine ⟨rfl, ?_⟩
          (repeat (first | (with_reducible refine Below.alloc ?_ ?_ _) | (with_reducible refine Below.setCell ?_ ?_ _) | (with_reducible refine Below.drew ?_) | (with_reducible exact Below.refl _ _) | (with_reducible refine Below.trans ?_ (Below.mono (by assumption) ?_)))) <;> (first | omega | (dsimp only; omega) | (simp; done) | (simp; omega) | (simp at *; omega))
        · have e : sameM a b t ss q a b t tt q' = decide (q = q') := by unfold sameM; rw [hso]; simp
          rw [hso] at H
          rw [e]
          have hq : (q == q') = decide (q = q') := by by_cases h : q = q' <;> simp [h]
          generalize decide (q = q') = dq at hq ⊢
          go_enter Tryz.func12, Tryz.ntmps12
          go_wp2_with fail
          refine (H.out _ (by (repeat (first | (with_reducible refine Below.alloc ?_ ?_ _) | (with_reducible refine Below.setCell ?_ ?_ _) | (with_reducible refine Below.drew ?_) | (with_reducible exact Below.refl _ _) | (with_reducible refine Below.trans ?_ (Below.mono (by assumption) ?_)))) <;> (first | omega | (dsimp only; omega) | (simp; done) | (simp; omega) | (simp at *; omega)))).mono ?_
          rintro e w1 ⟨rfl, hb1⟩
          have hs1 := hb1.size
          obtain ⟨hc1, hf1⟩ := bcell hb1
          simp at hs1
          have z0 : w.heap.size < w1.heap.size := by omega
          have z1 : w.heap.size + 1 < w1.heap.size := by omega
          go_wp2_with fail
          go_ret
          refine ⟨rfl, ?_⟩
          clear hc1 hf1
          (repeat (first | (with_reducible refine Below.alloc ?_ ?_ _) | (with_reducible refine Below.setCell ?_ ?_ _) | (with_reducible refine Below.drew ?_) | (with_reducible exact Below.refl _ _) | (with_reducible refine Below.trans ?_ (Below.mono (by assumption) ?_)))) <;> (first | omega | (dsimp only; omega) | (simp; done) | (simp; omega) | (simp at *; omega))
      · have e : sameM a b t ss q a b t' tt q' = false := by unfold sameM; simp [h3]
        have h3' : (t == t') = false := by simpa using h3
        rw [e]
        go_enter Tryz.func12, Tryz.ntmps12
        go_wp2_with fail
        go_ret
        refine ⟨rfl, ?_⟩
        (repeat (first | (with_reducible refine Below.alloc ?_ ?_ _) | (with_reducible refine Below.setCell ?_ ?_ _) | (with_reducible refine Below.drew ?_) | (with_reducible exact Below.refl _ _) | (with_reducible refine Below.trans ?_ (Below.mono (by assumption) ?_)))) <;> (first | omega | (dsimp only; omega) | (simp; done) | (simp; omega) | (simp at *; omega))
    · have e : sameM a b t ss q a b' t' tt q' = false := by unfold sameM; simp [h2]
      have h2' : (b == b') = false := by simpa using h2
      rw [e]
      go_enter Tryz.func12, Tryz.ntmps12
      go_wp2_with fail
      go_ret
      refine ⟨rfl, ?_⟩
      (repeat (first | (with_reducible refine Below.alloc ?_ ?_ _) | (with_reducible refine Below.setCell ?_ ?_ _) | (with_reducible refine Below.drew ?_) | (with_reducible exact Below.refl _ _) | (with_reducible refine Below.trans ?_ (Below.mono (by assumption) ?_)))) <;> (first | omega | (dsimp only; omega) | (simp; done) | (simp; omega) | (simp at *; omega))
  · have e : sameM a b t ss q a' b' t' tt q' = false := by unfold sameM; simp [h1]
    have h1' : (a == a') = false := by simpa using h1
    rw [e]
    go_enter Tryz.func12, Tryz.ntmps12
    go_wp2_with fail
    go_ret
    refine ⟨rfl, ?_⟩
    (repeat (first | (with_reducible refine Below.alloc ?_ ?_ _) | (with_reducible refine Below.setCell ?_ ?_ _) | (with_reducible refine Below.drew ?_) | (with_reducible exact Below.refl _ _) | (with_reducible refine Below.trans ?_ (Below.mono (by assumption) ?_)))) <;> (first | omega | (dsimp only; omega) | (simp; done) | (simp; omega) | (simp at *; omega))

end L2
end Go.Proofs.YtkhjbhkbknennaaGreatDoor
