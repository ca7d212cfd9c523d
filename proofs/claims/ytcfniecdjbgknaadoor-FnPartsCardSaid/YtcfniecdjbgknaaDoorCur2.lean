/-
  The draws' cursor: a new one; values that are drawn.
-/
import Derived.Test.YtcfniecdjbgknaaDoorCur
namespace Go.Proofs.YtcfniecdjbgknaaDoor
open Go.RowKit
namespace D

/-- The bytes that came in: nil, or a row of an old block. -/
def Came (w : World) (v : Value) (n : Nat) : Prop :=
  (v = .slice none 0 0 ∧ n = 0) ∨ (∃ a cap, v = .slice (some a) 0 cap ∧ n = 0) ∨ ∃ b off cap, v = .slice (some ⟨b, off, none⟩) n cap ∧ n ≤ cap ∧ cap ≤ maxLen ∧ b < w.heap.size ∧ ∀ i, i < n → ∃ z : Int, 0 ≤ z ∧ z ≤ 255 ∧ w.cell? ⟨b, off + i, none⟩ = some (.int .u8 z)

theorem Came.below {w w' : World} {v : Value} {n : Nat} (h : Came w v n) (hb : Below w.heap.size w w') : Came w' v n := by
  rcases h with h | h | ⟨b, off, cap, hv, h1, h2, h3, h5⟩
  · exact Or.inl h
  · exact Or.inr (Or.inl h)
  · refine Or.inr (Or.inr ⟨b, off, cap, hv, h1, h2, Nat.lt_of_lt_of_le h3 hb.size, fun i hi => ?_⟩)
    obtain ⟨z, a, c, d⟩ := h5 i hi
    exact ⟨z, a, c, (hb.cell (p := ⟨b, off + i, none⟩) h3).trans d⟩

theorem Came.bytes {w : World} {v : Value} {n : Nat} (h : Came w v n) (o : Obj) : Bytes (w.alloc o) w.heap.size v n := by
  rcases h with h | h | ⟨b, off, cap, hv, h1, h2, h3, h5⟩
  · exact Or.inl h
  · exact Or.inr (Or.inl h)
  · refine Or.inr (Or.inr ⟨b, off, cap, hv, h1, h2, by simp; omega, by omega, fun i hi => ?_⟩)
    obtain ⟨z, a, c, d⟩ := h5 i hi
    exact ⟨z, a, c, (((Below.refl w.heap.size w).alloc (Nat.le_refl _) o).cell (p := ⟨b, off + i, none⟩) h3).trans d⟩

/-- What a new cursor is: a new block. -/
def Made (v : Value) (w : World) (e : Ending) (w' : World) : Prop :=
  ∃ h : Int, e = .returned (.pointer (some ⟨w.heap.size, 0, none⟩)) ∧ w' = w.alloc (.cells #[v, .int .i64 0, .int .i64 h] 83)

set_option maxRecDepth 100000 in
set_option maxHeartbeats 1000000 in
theorem l1New_any (v : Value) (n : Nat) (w : World) (hC : Came w v n) :
    Calls Tryd.prog 60 #[v] w (Made v w) := by
  rcases hC with ⟨rfl, rfl⟩ | ⟨a, cap, rfl, rfl⟩ | ⟨b, off, cap, rfl, hn, hm, hbs, hz⟩
  · go_enter Tryd.func60, Tryd.ntmps60
    go_wp2
    go_loop [3, 4] (fun h k => ∃ x : Int, h = .int .i64 x ∧ k = .int .i64 0) (fun _ _ => 0)
    case atStart => exact ⟨_, rfl, rfl⟩
    case round =>
      obtain ⟨x, rfl, rfl⟩ := hrel
      go_wp2
      go_ret
      exact ⟨_, rfl, rfl⟩
  · go_enter Tryd.func60, Tryd.ntmps60
    go_wp2
    go_loop [3, 4] (fun h k => ∃ x : Int, h = .int .i64 x ∧ k = .int .i64 0) (fun _ _ => 0)
    case atStart => exact ⟨_, rfl, rfl⟩
    case round =>
      obtain ⟨x, rfl, rfl⟩ := hrel
      go_wp2
      go_ret
      exact ⟨_, rfl, rfl⟩
  · unfold maxLen at hm
    go_enter Tryd.func60, Tryd.ntmps60
    go_wp2
    go_loop [3, 4] (fun h k => ∃ (x : Int) (j : Nat), j ≤ n ∧ h = .int .i64 x ∧ k = .int .i64 (j : Int)) (fun _ k => n - (intOf k).toNat)
    case atStart => exact ⟨_, 0, Nat.zero_le _, rfl, rfl⟩
    case round =>
      obtain ⟨x, j, hj, rfl, rfl⟩ := hrel
      by_cases hlt : j < n
      · obtain ⟨z, z0, z1, hcz⟩ := hz j hlt
        have hi1 : (j : Int) < (n : Int) := by omega
        clear hz
        go_wp2
        go_round
        case rel => exact ⟨_, j + 1, by omega, rfl, by go_num⟩
        case measure => simp [intOf]; omega
      · have hi1 : ¬ (j : Int) < (n : Int) := by omega
        clear hz
        go_wp2
        go_ret
        exact ⟨_, rfl, rfl⟩

theorem Cur.lt {w : World} {p : Nat} {v : Value} {n : Nat} (h : Cur w p v n) : p < w.heap.size := by
  obtain ⟨i, x, _, hb⟩ := h
  exact lt_of_block hb
theorem Cur.alloc {w : World} {p : Nat} {v : Value} {n : Nat} (h : Cur w p v n) (o : Obj) : Cur (w.alloc o) p v n := by
  have hlt := h.lt
  obtain ⟨i, x, hi, hb⟩ := h
  exact ⟨i, x, hi, (Below.heap_alloc w o p hlt).trans hb⟩
theorem Cur.setCell {w : World} {p : Nat} {v : Value} {n : Nat} (h : Cur w p v n) (a : Addr) (u : Value) (hne : p ≠ a.block) : Cur (w.setCell a u) p v n := by
  obtain ⟨i, x, hi, hb⟩ := h
  exact ⟨i, x, hi, (Below.heap_setCell w a u p hne).trans hb⟩
theorem grown_alloc {w w1 : World} {row : Option Nat} (h : w.grownBy w1 row) (o : Obj) : w.grownBy (w1.alloc o) row := h.trans (World.grownBy_alloc w1 o row)
theorem grown_new {w w1 : World} {row : Option Nat} (h : w.grownBy w1 row) (a : Addr) (u : Value) (ha : w.heap.size ≤ a.block) : w.grownBy (w1.setCell a u) row :=
  ⟨h.os, h.tape, h.output, by simpa [World.setCell] using h.size, fun k hk hne => (Below.heap_setCell w1 a u k (by omega)).trans (h.block k hk hne)⟩
/-- A cell of the call's own, and that it may be written, behind calls on the cursor. -/
theorem own_kept {w w1 : World} {p b o : Nat} {u : Value} (hg : w.grownBy w1 (some p)) (hc : w.cell? ⟨b, o, none⟩ = some u) (hf : w.frozen? ⟨b, o, none⟩ = false) (hne : b ≠ p) : w1.cell? ⟨b, o, none⟩ = some u ∧ w1.frozen? ⟨b, o, none⟩ = false := by
  have hlt := World.block_lt_of_cell? w ⟨b, o, none⟩ hc
  have hn : some b ≠ some p := fun e => hne (Option.some.inj e)
  exact ⟨hg.cell hc hn, (hg.frozen_far ⟨b, o, none⟩ hlt hn).trans hf⟩
/-- A new box of two cells: what it holds, behind calls on the cursor. -/
theorem box_kept {w w1 : World} {p : Nat} {x y : Value} {t : TypeId} (hg : (w.alloc (.cells #[x, y] t)).grownBy w1 (some p)) (hp : p < w.heap.size) :
    (w1.cell? ⟨w.heap.size, 0, none⟩ = some x ∧ w1.frozen? ⟨w.heap.size, 0, none⟩ = false) ∧ (w1.cell? ⟨w.heap.size, 1, none⟩ = some y ∧ w1.frozen? ⟨w.heap.size, 1, none⟩ = false) :=
  ⟨own_kept hg (by simp [go_sem]) (by simp [go_sem]) (by omega), own_kept hg (by simp [go_sem]) (by simp [go_sem]) (by omega)⟩

set_option maxHeartbeats 1000000 in
theorem drawValue_any (p : Nat) (v : Value) (n : Nat) (w : World) (hC : Cur w p v n) (hB : Bytes w p v n) :
    Calls Tryd.prog 61 #[.pointer (some ⟨p, 0, none⟩)] w (GotV p v n w) := by
  have hp := hC.lt
  have HC := Lib.hid (hC.alloc (.cells #[.int .i64 0, .int .i64 0] 25))
  have HB := Lib.hid (hB.kept (World.grownBy_alloc w (.cells #[.int .i64 0, .int .i64 0] 25) (some p)))
  clear hC hB
  go_enter Tryd.func61, Tryd.ntmps61
  go_wp2_with fail
  refine (l1Once_any p v n 5 (by omega) (by omega) _ HC.out HB.out).mono ?_
  rintro e w1 ⟨q, rfl, hC1, hg1⟩
  have HC1 := Lib.hid hC1
  have HB1 := Lib.hid (HB.out.kept hg1)
  clear hC1
  cases q
  · go_wp2_with fail
    refine (l1Below_any p v n 9 (by omega) (by omega) _ HC1.out HB1.out).mono ?_
    rintro e w2 ⟨x, rfl, hx0, hx1, hC2, hg2⟩
    have hbx := box_kept (hg1.trans hg2) hp
    obtain ⟨⟨c0, f0⟩, ⟨c1, f1⟩⟩ := hbx
    have HC2 := Lib.hid hC2
    clear hC2
    go_wp2
    refine bodyPost_ret (v := .agg #[.int .i64 0, .int .i64 (x - 3)]) (by simp [results, Tryd.results61, go_sem, c0, c1]) rfl ⟨_, _, rfl, (HC2.out.setCell _ _ (by simp; omega)).setCell _ _ (by simp; omega), ?_⟩
    exact grown_new (grown_new ((World.grownBy_alloc w _ (some p)).trans (hg1.trans hg2)) _ _ (by simp)) _ _ (by simp)
  · go_wp2_with fail
    refine (l1Below_any p v n 3 (by omega) (by omega) _ HC1.out HB1.out).mono ?_
    rintro e w2 ⟨x, rfl, hx0, hx1, hC2, hg2⟩
    have hbx := box_kept (hg1.trans hg2) hp
    obtain ⟨⟨c0, f0⟩, ⟨c1, f1⟩⟩ := hbx
    have HC2 := Lib.hid hC2
    clear hC2
    go_wp2
    refine bodyPost_ret (v := .agg #[.int .i64 1, .int .i64 x]) (by simp [results, Tryd.results61, go_sem, c0, c1]) rfl ⟨_, _, rfl, (HC2.out.setCell _ _ (by simp; omega)).setCell _ _ (by simp; omega), ?_⟩
    exact grown_new (grown_new ((World.grownBy_alloc w _ (some p)).trans (hg1.trans hg2)) _ _ (by simp)) _ _ (by simp)

/-- Two boxes of the call's own, behind calls on the cursor. -/
def Box (w : World) (b : Nat) (x y : Value) : Prop := (w.cell? ⟨b, 0, none⟩ = some x ∧ w.frozen? ⟨b, 0, none⟩ = false) ∧ (w.cell? ⟨b, 1, none⟩ = some y ∧ w.frozen? ⟨b, 1, none⟩ = false)
theorem Box.kept {w w1 : World} {p b : Nat} {x y : Value} (h : Box w b x y) (hg : w.grownBy w1 (some p)) (hne : b ≠ p) : Box w1 b x y :=
  ⟨own_kept hg h.1.1 h.1.2 hne, own_kept hg h.2.1 h.2.2 hne⟩
theorem box_new (w : World) (x y : Value) (t : TypeId) : Box (w.alloc (.cells #[x, y] t)) w.heap.size x y := ⟨⟨by simp [go_sem], by simp [go_sem]⟩, ⟨by simp [go_sem], by simp [go_sem]⟩⟩

/-- The values that one is drawn of. -/
def drawn : Array Value := #[.int .i64 (-1), .int .i64 19, .int .i64 20, .int .i64 1000000, .int .i64 1000001, .int .i64 (-1000000), .int .i64 (-1000001), .int .i64 4611686018427387904]
theorem drawn_cell (w : World) (t : TypeId) (j : Nat) (hj : j < 8) : ∃ u : Int, (w.alloc (.cells drawn t)).cell? ⟨w.heap.size, j, none⟩ = some (.int .i64 u) := by
  have h : j = 0 ∨ j = 1 ∨ j = 2 ∨ j = 3 ∨ j = 4 ∨ j = 5 ∨ j = 6 ∨ j = 7 := by omega
  rcases h with rfl | rfl | rfl | rfl | rfl | rfl | rfl | rfl <;> exact ⟨_, by simp [go_sem, drawn]; rfl⟩

set_option maxRecDepth 100000 in
set_option maxHeartbeats 4000000 in
theorem drawAny_any (p : Nat) (v : Value) (n : Nat) (w : World) (hC : Cur w p v n) (hB : Bytes w p v n) :
    Calls Tryd.prog 66 #[.pointer (some ⟨p, 0, none⟩)] w (GotV p v n w) := by
  have hp := hC.lt
  have HC := Lib.hid (hC.alloc (.cells #[.int .i64 0, .int .i64 0] 25))
  have HB := Lib.hid (hB.kept (World.grownBy_alloc w (.cells #[.int .i64 0, .int .i64 0] 25) (some p)))
  clear hC hB
  go_enter Tryd.func66, Tryd.ntmps66
  go_wp2_with fail
  refine (drawValue_any p v n _ HC.out HB.out).mono ?_
  rintro e w1 ⟨k, x, rfl, hC1, hg1⟩
  have HC1 := Lib.hid hC1
  have HB1 := Lib.hid (HB.out.kept hg1)
  clear hC1
  have HC1a := Lib.hid (HC1.out.alloc (.cells #[.int .i64 k, .int .i64 x] 25))
  have HB1a := Lib.hid (HB1.out.kept (World.grownBy_alloc w1 (.cells #[.int .i64 k, .int .i64 x] 25) (some p)))
  have hp1 := HC1.out.lt
  have hs1 := hg1.size
  have hA1 : Box w1 w.heap.size _ _ := Box.kept (box_new w _ _ _) hg1 (by omega)
  have hs1' : w.heap.size + 1 ≤ w1.heap.size := by rw [World.size_alloc] at hs1; exact hs1
  have hne : ¬ w.heap.size = w1.heap.size := by omega
  have hne' : ¬ w1.heap.size = w.heap.size := by omega
  have hpa : w.heap.size ≠ p := by omega
  have hpb : w1.heap.size ≠ p := by omega
  have hle : w.heap.size ≤ w1.heap.size := by omega
  go_wp2_with fail
  refine (l1Once_any p v n 6 (by omega) (by omega) _ HC1a.out HB1a.out).mono ?_
  rintro e w2 ⟨q, rfl, hC2, hg2⟩
  have HC2 := Lib.hid hC2
  have HB2 := Lib.hid (HB1a.out.kept hg2)
  clear hC2
  have hg12 : w1.grownBy w2 (some p) := (World.grownBy_alloc w1 _ (some p)).trans hg2
  have hA2 := hA1.kept hg12 hpa
  have hB2 := Box.kept (box_new w1 _ _ _) hg2 hpb
  have hgw : w.grownBy w2 (some p) := (World.grownBy_alloc w _ (some p)).trans (hg1.trans hg12)
  clear hA1
  cases q
  · obtain ⟨⟨a0, f0⟩, ⟨a1, f1⟩⟩ := hA2
    obtain ⟨⟨b0, _⟩, ⟨b1, _⟩⟩ := hB2
    go_wp2
    refine bodyPost_ret (v := .agg #[.int .i64 k, .int .i64 x]) (by simp [results, Tryd.results66, go_sem, a0, a1]) rfl ⟨_, _, rfl, (HC2.out.setCell _ _ (by simp; omega)).setCell _ _ (by simp; omega), ?_⟩
    exact grown_new (grown_new hgw _ _ (by simp)) _ _ (by simp)
  · go_wp2_with fail
    refine (l1Below_any p v n 2 (by omega) (by omega) _ HC2.out HB2.out).mono ?_
    rintro e w3 ⟨y, rfl, hy0, hy1, hC3, hg3⟩
    have HC3 := Lib.hid hC3
    have HB3 := Lib.hid (HB2.out.kept hg3)
    clear hC3
    have hA3 := hA2.kept hg3 hpa
    have hB3 := hB2.kept hg3 hpb
    have hgw3 := hgw.trans hg3
    have hs3 := hg12.size
    have hs4 := hg3.size
    clear hA2 hB2
    by_cases hy : y = 0
    · subst hy
      go_wp2_with fail
      refine (l1From_any p v n (-1) 2 (by omega) (by omega) (by omega) _ HC3.out HB3.out).mono ?_
      rintro e w4 ⟨z, rfl, hz0, hz1, hC4, hg4⟩
      have HC4 := Lib.hid hC4
      clear hC4
      have hA4 := hA3.kept hg4 hpa
      have hB4 := hB3.kept hg4 hpb
      have hgw4 := hgw3.trans hg4
      clear hA3 hB3
      obtain ⟨⟨a0, f0⟩, ⟨a1, f1⟩⟩ := hA4
      obtain ⟨⟨b0, e0⟩, ⟨b1, e1⟩⟩ := hB4
      go_wp2
      refine bodyPost_ret (v := .agg #[.int .i64 z, .int .i64 x]) (by simp [results, Tryd.results66, go_sem, a0, a1]) rfl ⟨_, _, rfl, ((HC4.out.setCell _ _ (by simp; omega)).setCell _ _ (by simp; omega)).setCell _ _ (by simp; omega), ?_⟩
      exact grown_new (grown_new (grown_new hgw4 _ _ (by simp; omega)) _ _ (by simp)) _ _ (by simp)
    · have hy' : y = 1 := by omega
      subst hy'
      have HC5 := Lib.hid (HC3.out.alloc (.cells drawn 2))
      have HB5 := Lib.hid (HB3.out.kept (World.grownBy_alloc w3 (.cells drawn 2) (some p)))
      have hp3 := HC3.out.lt
      go_wp2_with fail
      refine (l1Below_any p v n 8 (by omega) (by omega) _ HC5.out HB5.out).mono ?_
      rintro e w5 ⟨z, rfl, hz0, hz1, hC6, hg6⟩
      have HC6 := Lib.hid hC6
      clear hC6
      obtain ⟨j, rfl⟩ := Int.eq_ofNat_of_zero_le hz0
      have hj : j < 8 := by omega
      have hg5 : w3.grownBy w5 (some p) := (World.grownBy_alloc w3 _ (some p)).trans hg6
      obtain ⟨u, hu⟩ := drawn_cell w3 2 j hj
      have hu5 : w5.cell? ⟨w3.heap.size, j, none⟩ = some (.int .i64 u) := hg6.cell hu (by intro e; injection e with e; simp at e; omega)
      have hA5 := hA3.kept hg5 hpa
      have hB5 := hB3.kept hg5 hpb
      have hgw5 := hgw3.trans hg5
      clear hA3 hB3 hg6
      obtain ⟨⟨a0, f0⟩, ⟨a1, f1⟩⟩ := hA5
      obtain ⟨⟨b0, e0⟩, ⟨b1, e1⟩⟩ := hB5
      have hji : (j : Int) < 8 := by omega
      go_wp2
      refine bodyPost_ret (v := .agg #[.int .i64 k, .int .i64 u]) (by simp [results, Tryd.results66, go_sem, a0, a1]) rfl ⟨_, _, rfl, ((HC6.out.setCell _ _ (by simp; omega)).setCell _ _ (by simp; omega)).setCell _ _ (by simp; omega), ?_⟩
      exact grown_new (grown_new (grown_new hgw5 _ _ (by simp; omega)) _ _ (by simp)) _ _ (by simp)

end D
end Go.Proofs.YtcfniecdjbgknaaDoor
