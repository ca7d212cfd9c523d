/-
  The law on SameMeaning: copied, measured, held against each other.
-/
import Derived.Test.YtmbonldiaimcfaaDoorSM
import Derived.Deep.RegionWith
import Derived.Deep.DeepCutAuto
import Derived.Deep.Light
namespace Go.Proofs.YtmbonldiaimcfaaDoor
open Go.RowKit
namespace L2
open L1

theorem size_set2 (A : World) (a : Addr) (u : Value) : (A.setCell a u).heap.size = A.heap.size := by simp [World.setCell]
theorem lst_set {A : World} {X : Nat} {ss : List ByteArray} {p : Addr} {u : Value} (h : Lst A X ss) (hp : X ≠ p.block) : Lst (A.setCell p u) X ss := (Below.heap_setCell _ _ _ _ hp).trans h
theorem below_undrew2 {w w' : World} (h : Below w.drew.heap.size w.drew w') : Below w.heap.size w w' := ⟨h.os, h.tape, h.output, h.size, h.block⟩
/-- What measuring leaves, from whatever is left on. -/
def Szed2 (ss : List ByteArray) (w : World) (e : Ending) (w' : World) : Prop :=
  w = w' ∧ (e = .returned (.int .i64 (-1)) ∨ ∃ x : Int, 0 ≤ x ∧ x ≤ 1048576 ∧ e = .returned (.int .i64 x) ∧ Small ss)

set_option maxRecDepth 100000 in
set_option maxHeartbeats 1000000 in
theorem szStringS_from (v : Value) (ss : List ByteArray) (y : Int) (hy0 : 0 ≤ y) (hy1 : y ≤ 1048576) (w : World) (hR : Row w v ss) (hz : ∀ i, i < ss.length → (ss.getD i ByteArray.empty).size ≤ maxLen) :
    Calls Tryd.prog 19 #[v, .int .i64 y] w (Szed2 ss w) := by
  obtain ⟨oa, cap, rfl, h1, h2, h3⟩ := hR
  obtain ⟨n, hn⟩ : ∃ n, ss.length = n := ⟨_, rfl⟩
  rw [hn] at h1 h3 hz ⊢
  have Hn := Lib.hid hn
  clear hn
  unfold maxLen at h2 hz
  by_cases hbig : y < (n : Int)
  · have hd : decide (y - (n : Int) < 0) = true := by simp; omega
    have hlt : y - (n : Int) < 0 := by omega
    clear h3 hz
    go_enter Tryd.func19, Tryd.ntmps19
    go_wp2
    go_ret
    exact ⟨rfl, Or.inl rfl⟩
  · have hd : decide (y - (n : Int) < 0) = false := by simp; omega
    have hge : ¬ y - (n : Int) < 0 := by omega
    go_enter Tryd.func19, Tryd.ntmps19
    go_wp2
    go_loop [1, 5] (fun l i => ∃ (k : Nat) (x : Int), k ≤ n ∧ 0 ≤ x ∧ x ≤ 1048576 ∧ l = .int .i64 x ∧ i = .int .i64 (k : Int) ∧ ∀ j, j < k → (ss.getD j ByteArray.empty).size ≤ 1048576) (fun _ i => n - (intOf i).toNat)
    case atStart => exact ⟨0, _, Nat.zero_le _, by omega, by omega, rfl, rfl, by intro j hj; omega⟩
    case round =>
      obtain ⟨k, x, hk, hx0, hx1, rfl, rfl, hall⟩ := hrel
      have Hall := Lib.hid hall
      clear hall
      by_cases hlt : k < n
      · obtain ⟨b, off, rfl, hb, hc⟩ := h3 k hlt
        have hzk := hz k hlt
        obtain ⟨s, hs⟩ : ∃ s, ss.getD k ByteArray.empty = s := ⟨_, rfl⟩
        rw [hs] at hc hzk
        have Hs := Lib.hid hs
        have H3 := Lib.hid h3
        have Hz := Lib.hid hz
        clear hs h3 hz hge hd
        have hki : (k : Int) < (n : Int) := by omega
        by_cases hneg : x - (s.size : Int) < 0
        · go_wp2
          go_ret
          exact ⟨rfl, Or.inl rfl⟩
        · go_wp2
          go_round
          case rel =>
            refine ⟨k + 1, _, by omega, ?_, ?_, rfl, by go_num, ?_⟩
            · omega
            · omega
            · intro j hj
              by_cases e : j = k
              · subst e; rw [Hs.out]; omega
              · exact Hall.out j (by omega)
          case measure => simp [intOf]; omega
      · have hki : ¬ (k : Int) < (n : Int) := by omega
        have H3 := Lib.hid h3
        have Hz := Lib.hid hz
        clear h3 hz hge hd
        go_wp2
        go_ret
        refine ⟨rfl, Or.inr ⟨x, hx0, hx1, rfl, by rw [Hn.out]; omega, fun j hj => Hall.out j (by rw [Hn.out] at hj; omega)⟩⟩


/-- What measuring a meaning leaves. -/
def SzedM (ss : List ByteArray) (w : World) (e : Ending) (w' : World) : Prop :=
  Below w.heap.size w w' ∧ (e = .returned (.int .i64 (-1)) ∨ ∃ x : Int, 0 ≤ x ∧ x ≤ 1048576 ∧ e = .returned (.int .i64 x) ∧ Small ss)
/-- What copying a meaning leaves. -/
def CopiedM (a b : Int) (t : Bool) (q : Int) (ss : List ByteArray) (w : World) (e : Ending) (w' : World) : Prop :=
  ∃ X, e = .returned (mgV a b t (.slice (some ⟨X, 0, none⟩) ss.length ss.length) q) ∧ Row w' (.slice (some ⟨X, 0, none⟩) ss.length ss.length) ss ∧ Below w.heap.size w w'
end L2
end Go.Proofs.YtmbonldiaimcfaaDoor
