/-
  Lists of words in memory: measured, copied, compared.
-/
import Derived.Test.YtcfniecdjbgknaaDoorW2
import Derived.Test.YtcfniecdjbgknaaDoorCur5
import Derived.Laws.OwnMore
import Derived.Deep.RegionHeld3
import Derived.Deep.DrawnRows
namespace Go.Proofs.YtcfniecdjbgknaaDoor
open Go.RowKit
namespace L2
open S1 L1

/-- A list of words in memory. -/
def Row (w : World) (v : Value) (ss : List ByteArray) : Prop :=
  ∃ oa cap, v = .slice oa ss.length cap ∧ ss.length ≤ cap ∧ cap ≤ maxLen ∧ ∀ i, i < ss.length → ∃ b off, oa = some ⟨b, off, none⟩ ∧ b < w.heap.size ∧ w.cell? ⟨b, off + i, none⟩ = some (.string (ss.getD i ByteArray.empty))
theorem Row.below {w w' : World} {v : Value} {ss : List ByteArray} (h : Row w v ss) (hb : Below w.heap.size w w') : Row w' v ss := by
  obtain ⟨oa, cap, hv, h1, h2, h3⟩ := h
  refine ⟨oa, cap, hv, h1, h2, fun i hi => ?_⟩
  obtain ⟨b, off, ho, hlt, hc⟩ := h3 i hi
  exact ⟨b, off, ho, Nat.lt_of_lt_of_le hlt hb.size, (hb.cell (p := ⟨b, off + i, none⟩) hlt).trans hc⟩
/-- No more than the laws let in. -/
def Small (ss : List ByteArray) : Prop := ss.length ≤ 1048576 ∧ ∀ i, i < ss.length → (ss.getD i ByteArray.empty).size ≤ 1048576
/-- A list of words that fills a block. -/
def Lst (w : World) (X : Nat) (ss : List ByteArray) : Prop := w.heap[X]? = some (.cells (ss.map Value.string).toArray 9 (0, 0))
theorem Lst.lt {w : World} {X : Nat} {ss : List ByteArray} (h : Lst w X ss) : X < w.heap.size := lt_of_block h
theorem Lst.row {w : World} {X : Nat} {ss : List ByteArray} (h : Lst w X ss) (hn : ss.length ≤ maxLen) : Row w (.slice (some ⟨X, 0, none⟩) ss.length ss.length) ss := by
  refine ⟨_, _, rfl, Nat.le_refl _, hn, fun i hi => ⟨X, 0, rfl, h.lt, ?_⟩⟩
  unfold Lst at h
  simp [World.cell?, h, hi, List.getD]
theorem Lst.below {w w' : World} {X : Nat} {ss : List ByteArray} (h : Lst w X ss) (hb : Below w.heap.size w w') : Lst w' X ss := (hb.block X h.lt).trans h
theorem Lst.kept {w w' : World} {X : Nat} {ss : List ByteArray} {row : Option Nat} (h : Lst w X ss) (hg : w.grownBy w' row) (hne : some X ≠ row) : Lst w' X ss := (hg.block X h.lt hne).trans h

/-- What measuring leaves. -/
def Szed (ss : List ByteArray) (w : World) (e : Ending) (w' : World) : Prop :=
  w = w' ∧ (e = .returned (.int .i64 (-1)) ∨ ∃ x : Int, 0 ≤ x ∧ e = .returned (.int .i64 x) ∧ Small ss)

set_option maxRecDepth 100000 in
set_option maxHeartbeats 1000000 in
theorem szStringS_any (v : Value) (ss : List ByteArray) (w : World) (hR : Row w v ss) (hz : ∀ i, i < ss.length → (ss.getD i ByteArray.empty).size ≤ maxLen) :
    Calls Tryd.prog 44 #[v, .int .i64 1048576] w (Szed ss w) := by
  obtain ⟨oa, cap, rfl, h1, h2, h3⟩ := hR
  obtain ⟨n, hn⟩ : ∃ n, ss.length = n := ⟨_, rfl⟩
  rw [hn] at h1 h3 hz ⊢
  have Hn := Lib.hid hn
  clear hn
  unfold maxLen at h2 hz
  by_cases hbig : 1048576 < n
  · have hd : decide ((1048576 : Int) - (n : Int) < 0) = true := by simp; omega
    have hlt : (1048576 : Int) - (n : Int) < 0 := by omega
    clear h3 hz
    go_enter Tryd.func44, Tryd.ntmps44
    go_wp2
    go_ret
    exact ⟨rfl, Or.inl rfl⟩
  · have hd : decide ((1048576 : Int) - (n : Int) < 0) = false := by simp; omega
    have hge : ¬ (1048576 : Int) - (n : Int) < 0 := by omega
    go_enter Tryd.func44, Tryd.ntmps44
    go_wp2
    go_loop [1, 5] (fun l i => ∃ (k : Nat) (x : Int), k ≤ n ∧ 0 ≤ x ∧ x ≤ 1048576 ∧ l = .int .i64 x ∧ i = .int .i64 (k : Int) ∧ ∀ j, j < k → (ss.getD j ByteArray.empty).size ≤ 1048576) (fun _ i => n - (intOf i).toNat)
    case atStart => exact ⟨0, _, Nat.zero_le _, by omega, by omega, rfl, rfl, by intro j hj; omega⟩
    case round =>
      obtain ⟨k, x, hk, hx0, hx1, rfl, rfl, hall⟩ := hrel
      have Hall := Lib.hid hall
      clear hall
      by_cases hlt : k < n
      · obtain ⟨b, off, rfl, hb, hc⟩ := h3 k hlt
        have hzk := hz k hlt
        obtain ⟨s, hs⟩ : ∃ s, ss.getD k ByteArray.empty = s := ⟨_, rfl⟩
        rw [hs] at hc hzk
        have Hs := Lib.hid hs
        have H3 := Lib.hid h3
        have Hz := Lib.hid hz
        clear hs h3 hz hge hd
        have hki : (k : Int) < (n : Int) := by omega
        by_cases hneg : x - (s.size : Int) < 0
        · go_wp2
          go_ret
          exact ⟨rfl, Or.inl rfl⟩
        · go_wp2
          go_round
          case rel =>
            refine ⟨k + 1, _, by omega, ?_, ?_, rfl, by go_num, ?_⟩
            · omega
            · omega
            · intro j hj
              by_cases e : j = k
              · subst e; rw [Hs.out]; omega
              · exact Hall.out j (by omega)
          case measure => simp [intOf]; omega
      · have hki : ¬ (k : Int) < (n : Int) := by omega
        have H3 := Lib.hid h3
        have Hz := Lib.hid hz
        clear h3 hz hge hd
        go_wp2
        go_ret
        refine ⟨rfl, Or.inr ⟨x, hx0, rfl, by rw [Hn.out]; omega, fun j hj => Hall.out j (by rw [Hn.out] at hj; omega)⟩⟩

end L2
end Go.Proofs.YtcfniecdjbgknaaDoor
