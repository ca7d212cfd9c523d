/-
  Marks on what a new pile's code lies in; boxes of new piles (written by wip/gen_o15.py).
-/
import Derived.Test.YtmbonldiaimcfaaDoorO14
import Derived.Test.YtmbonldiaimcfaaDoorGY
import Derived.Deep.Light
import Derived.Deep.DeepCutAuto
import Derived.Lib.QuietBelow
import Derived.BigQuiet
namespace Go.Proofs.YtmbonldiaimcfaaDoor
open Go.RowKit Go.Sort
namespace L2
open S1 L1

set_option maxRecDepth 100000 in
set_option maxHeartbeats 2000000 in
theorem heldS_anyC (X n cap k0 : Nat) (w : World) (hM : Mem w X ((List.range n).map fun j => .string (mtxt (k0 + j)))) (_h1 : n ≤ cap) (hb : n ≤ 1048576) (hk0 : k0 ≤ 1000000000) :
    Calls Tryd.prog 31 #[.slice (some ⟨X, 0, none⟩) n cap, .int .i64 (k0 : Int)] w fun e w' => e = .returned (.int .i64 ((k0 + n : Nat) : Int)) ∧ Below w.heap.size w w' := by
  have HM := Lib.hid hM
  clear hM
  go_enter Tryd.func31, Tryd.ntmps31
  go_wp2
  go_loopw [1, 5] (fun q i wr => ∃ k : Nat, k ≤ n ∧ i = .int .i64 (k : Int) ∧ q = .int .i64 ((k0 + k : Nat) : Int) ∧ Below w.heap.size w wr) (fun _ i _ => n - (intOf i).toNat)
  case atStart => exact ⟨0, Nat.zero_le _, rfl, rfl, Below.refl _ _⟩
  case round =>
    obtain ⟨k, hk, rfl, rfl, hB⟩ := hrel
    have HB := Lib.hid hB
    clear hB
    by_cases hlt : k < n
    · have hki : (k : Int) < (n : Int) := by omega
      have hk00 : (0 : Int) ≤ (k : Int) := by omega
      have cK := (HM.out.below HB.out |>.2 k (by simpa using hlt)).1
      have e : ((List.range n).map fun j => Value.string (mtxt (k0 + j))).getD k (.int .i64 0) = .string (mtxt (k0 + k)) := by simp [List.getD, hlt]
      rw [e] at cK
      have hA : ∀ w', Below wr.heap.size wr w' → Calls Tryd.prog 55 #[.int .i64 ((k0 + k : Nat) : Int)] w' (fun e w'' => e = .returned (.string (mtxt (k0 + k))) ∧ Below w'.heap.size w' w'') := fun w' _ => markText_any (k0 + k) (by omega) w'
      obtain ⟨t, ht⟩ : ∃ t, mtxt (k0 + k) = t := ⟨_, rfl⟩
      rw [ht] at cK hA
      have cK' := cell_regrown cK
      have cA := fun d os => Calls.regrown_of (d := d) (os := os) (hA (grow (redrawn wr d) os) (below_regrown wr d os))
      clear hA e ht
      go_wp2_with fail
      refine wp_region_quiet_below (by kernel_rfl) (by kernel_rfl) ?_
      repeat (go_big_quiet_step (exact cA _ _))
      refine wpQuiet_nil ?_
      intro _ hw'
      obtain ⟨⟨dq, osq⟩, hw''⟩ := hw'
      have HQ := below_regrown wr dq osq
      rw [← hw''] at HQ
      have HQ' := Lib.hid (HB.out.trans (HQ.mono HB.out.size))
      clear hw'' cA cK cK' HQ
      go_wp2_with fail
      go_roundw
      case rel => exact ⟨k + 1, by omega, by go_num, by go_num, HQ'.out⟩
      case measure => simp [intOf]; omega
    · have hki : ¬ (k : Int) < (n : Int) := by omega
      have hkn : k = n := by omega
      have HK := Lib.hid hkn
      clear hkn
      go_wp2_with fail
      go_ret
      exact ⟨by rw [← HK.out]; rfl, HB.out⟩

/-- A row that was marked, or nothing. -/
def MkdC (w : World) (u : Value) (n k0 : Nat) : Prop := (u = .slice none 0 0 ∧ n = 0) ∨ ∃ X cap, u = .slice (some ⟨X, 0, none⟩) n cap ∧ n ≤ cap ∧ Mem w X ((List.range n).map fun j => .string (mtxt (k0 + j)))
theorem MkdC.below {w w' : World} {u : Value} {n k0 : Nat} (h : MkdC w u n k0) (hb : Below w.heap.size w w') : MkdC w' u n k0 := by
  rcases h with h | ⟨X, cap, e, h1, h2⟩
  · exact Or.inl h
  · exact Or.inr ⟨X, cap, e, h1, h2.below hb⟩

set_option maxRecDepth 100000 in
theorem markNoneC (k0 : Int) (w : World) : Calls Tryd.prog 26 #[.slice none 0 0, .int .i64 k0] w fun e w' => e = .returned (.int .i64 k0) ∧ w = w' := by
  go_enter Tryd.func26, Tryd.ntmps26
  go_wp2
  go_loop [1, 5] (fun q i => q = .int .i64 k0 ∧ i = .int .i64 0) (fun _ _ => 0)
  case atStart => exact ⟨rfl, rfl⟩
  case round =>
    obtain ⟨rfl, rfl⟩ := hrel
    go_wp2
    go_ret
    exact ⟨rfl, rfl⟩
set_option maxRecDepth 100000 in
theorem heldNoneC (k0 : Int) (w : World) : Calls Tryd.prog 31 #[.slice none 0 0, .int .i64 k0] w fun e w' => e = .returned (.int .i64 k0) ∧ w = w' := by
  go_enter Tryd.func31, Tryd.ntmps31
  go_wp2
  go_loop [1, 5] (fun q i => q = .int .i64 k0 ∧ i = .int .i64 0) (fun _ _ => 0)
  case atStart => exact ⟨rfl, rfl⟩
  case round =>
    obtain ⟨rfl, rfl⟩ := hrel
    go_wp2
    go_ret
    exact ⟨rfl, rfl⟩
/-- What marking leaves. -/
def MarkedUC (u : Value) (n k : Nat) (w : World) (e : Ending) (w' : World) : Prop := e = .returned (.int .i64 ((k + n : Nat) : Int)) ∧ MkdC w' u n k ∧ w.grownBy w' u.ownBlock
theorem markUC {B : Nat} (u : Value) (ss : List ByteArray) (k0 : Nat) (w : World) (hO : OwC w B u ss) (hn : ss.length ≤ 1048576) (hk : k0 ≤ 1000000000) : Calls Tryd.prog 26 #[u, .int .i64 (k0 : Int)] w (MarkedUC u ss.length k0 w) := by
  rcases hO.is with ⟨rfl, rfl⟩ | hO
  · exact (markNoneC (k0 : Int) w).mono fun _ _ ⟨he, hw⟩ => ⟨he, Or.inl ⟨rfl, rfl⟩, by rw [← hw]; exact World.grownBy.refl _ _⟩
  · obtain ⟨g, cap, rfl, h1, _⟩ := hO.form
    exact (markStringS_any g ss.length cap k0 w _ hO.mem (by simp) h1 hn hk).mono fun _ _ ⟨he, hm, hg⟩ => ⟨he, Or.inr ⟨g, cap, rfl, h1, hm⟩, hg⟩
theorem heldUC (u : Value) (n k0 : Nat) (w : World) (hM : MkdC w u n k0) (hn : n ≤ 1048576) (hk : k0 ≤ 1000000000) : Calls Tryd.prog 31 #[u, .int .i64 (k0 : Int)] w fun e w' => e = .returned (.int .i64 ((k0 + n : Nat) : Int)) ∧ Below w.heap.size w w' := by
  rcases hM with ⟨rfl, rfl⟩ | ⟨X, cap, rfl, h1, h2⟩
  · exact (heldNoneC (k0 : Int) w).mono fun _ _ ⟨he, hw⟩ => ⟨he, by rw [← hw]; exact Below.refl _ _⟩
  · exact heldS_anyC X n cap k0 w h2 h1 hn hk
set_option maxRecDepth 100000 in
theorem markPlateS_none (k0 : Int) (w : World) : Calls Tryd.prog 74 #[.slice none 0 0, .int .i64 k0] w fun e w' => e = .returned (.int .i64 k0) ∧ w = w' := by
  go_enter Tryd.func74, Tryd.ntmps74
  go_wp2
  go_loop [1, 5] (fun q i => q = .int .i64 k0 ∧ i = .int .i64 0) (fun _ _ => 0)
  case atStart => exact ⟨rfl, rfl⟩
  case round =>
    obtain ⟨rfl, rfl⟩ := hrel
    go_wp2
    go_ret
    exact ⟨rfl, rfl⟩
set_option maxRecDepth 100000 in
theorem markPieceS_none (k0 : Int) (w : World) : Calls Tryd.prog 75 #[.slice none 0 0, .int .i64 k0] w fun e w' => e = .returned (.int .i64 k0) ∧ w = w' := by
  go_enter Tryd.func75, Tryd.ntmps75
  go_wp2
  go_loop [1, 5] (fun q i => q = .int .i64 k0 ∧ i = .int .i64 0) (fun _ _ => 0)
  case atStart => exact ⟨rfl, rfl⟩
  case round =>
    obtain ⟨rfl, rfl⟩ := hrel
    go_wp2
    go_ret
    exact ⟨rfl, rfl⟩
set_option maxRecDepth 100000 in
theorem heldPlateS_none (k0 : Int) (w : World) : Calls Tryd.prog 76 #[.slice none 0 0, .int .i64 k0] w fun e w' => e = .returned (.int .i64 k0) ∧ w = w' := by
  go_enter Tryd.func76, Tryd.ntmps76
  go_wp2
  go_loop [1, 5] (fun q i => q = .int .i64 k0 ∧ i = .int .i64 0) (fun _ _ => 0)
  case atStart => exact ⟨rfl, rfl⟩
  case round =>
    obtain ⟨rfl, rfl⟩ := hrel
    go_wp2
    go_ret
    exact ⟨rfl, rfl⟩
set_option maxRecDepth 100000 in
theorem heldPieceS_none (k0 : Int) (w : World) : Calls Tryd.prog 77 #[.slice none 0 0, .int .i64 k0] w fun e w' => e = .returned (.int .i64 k0) ∧ w = w' := by
  go_enter Tryd.func77, Tryd.ntmps77
  go_wp2
  go_loop [1, 5] (fun q i => q = .int .i64 k0 ∧ i = .int .i64 0) (fun _ _ => 0)
  case atStart => exact ⟨rfl, rfl⟩
  case round =>
    obtain ⟨rfl, rfl⟩ := hrel
    go_wp2
    go_ret
    exact ⟨rfl, rfl⟩
set_option maxRecDepth 100000 in
set_option maxHeartbeats 1000000 in
theorem markPileC {B : Nat} (pk pn : Int) (u : Value) (ss : List ByteArray) (k0 : Nat) (w : World) (hO : OwC w B u ss) (hn : ss.length ≤ 1048576) (hk : k0 ≤ 1000000000) :
    Calls Tryd.prog 39 #[.agg #[u, .int .i64 0, .int .i64 0, .int .i64 pk, .int .i64 pn, .int .i64 0, .int .i64 0, .slice none 0 0, .slice none 0 0, .slice none 0 0], .int .i64 (k0 : Int)] w (MarkedUC u ss.length k0 w) := by
  obtain ⟨oa, c, rfl⟩ := hO.slice
  have H := Lib.hid (fun w1 (hb : Below w.heap.size w w1) => markUC _ ss k0 w1 (hO.below hb) hn hk)
  have hlt := fun (b : Nat) (e : (Value.slice oa ss.length c).ownBlock = some b) => (hO.lt' e).2
  clear hO
  generalize ss.length = n at H hn hlt ⊢
  go_enter Tryd.func39, Tryd.ntmps39
  go_wp2_with fail
  refine (H.out _ (by (repeat (first | (with_reducible refine Below.alloc ?_ ?_ _) | (with_reducible refine Below.setCell ?_ ?_ _) | (with_reducible refine Below.drew ?_) | (with_reducible exact Below.refl _ _) | (with_reducible refine Below.trans ?_ (Below.mono (by assumption) ?_)))) <;> (first | omega | (dsimp only; omega) | (simp; done) | (simp; omega) | (simp at *; omega)))).mono ?_
  rintro e w1 ⟨rfl, hm, hg⟩
  have HM := Lib.hid hm
  have hc := fun i => World.cell?_of_block (a := ⟨w.heap.size, i, none⟩) (hg.block w.heap.size (by simp) (fun e => by have := hlt _ e.symm; omega))
  have HG := Lib.hid hg
  clear hm hg
  have c7 := (hc 7).trans (by simp [go_sem] : _ = some (.slice none 0 0))
  have c8 := (hc 8).trans (by simp [go_sem] : _ = some (.slice none 0 0))
  have c9 := (hc 9).trans (by simp [go_sem] : _ = some (.slice none 0 0))
  clear hc
  go_wp2_with fail
  refine (markPlateS_none _ _).mono ?_
  rintro e w2 ⟨rfl, rfl⟩
  go_wp2_with fail
  refine (markPieceS_none _ _).mono ?_
  rintro e w2 ⟨rfl, rfl⟩
  go_wp2_with fail
  refine (markNoneC _ _).mono ?_
  rintro e w2 ⟨rfl, rfl⟩
  go_wp2_with fail
  go_ret
  exact ⟨rfl, HM.out, (World.grownBy_alloc _ _ _).trans HG.out⟩
set_option maxRecDepth 100000 in
set_option maxHeartbeats 1000000 in
theorem heldPileC (pk pn : Int) (u : Value) (n k0 : Nat) (w : World) (hu : ∃ oa c, u = .slice oa n c) (hM : MkdC w u n k0) (hn : n ≤ 1048576) (hk : k0 ≤ 1000000000) :
    Calls Tryd.prog 40 #[.agg #[u, .int .i64 0, .int .i64 0, .int .i64 pk, .int .i64 pn, .int .i64 0, .int .i64 0, .slice none 0 0, .slice none 0 0, .slice none 0 0], .int .i64 (k0 : Int)] w fun e w' => e = .returned (.int .i64 ((k0 + n : Nat) : Int)) ∧ Below w.heap.size w w' := by
  obtain ⟨oa, c, rfl⟩ := hu
  have H := Lib.hid (fun w1 (hb : Below w.heap.size w w1) => heldUC _ n k0 w1 (hM.below hb) hn hk)
  have hq : ¬ ((k0 + n : Nat) : Int) < 0 := by omega
  have hq' : ¬ (k0 : Int) + (n : Int) < 0 := by omega
  clear hM
  go_enter Tryd.func40, Tryd.ntmps40
  go_wp2_with fail
  refine (H.out _ (by (repeat (first | (with_reducible refine Below.alloc ?_ ?_ _) | (with_reducible refine Below.setCell ?_ ?_ _) | (with_reducible refine Below.drew ?_) | (with_reducible exact Below.refl _ _) | (with_reducible refine Below.trans ?_ (Below.mono (by assumption) ?_)))) <;> (first | omega | (dsimp only; omega) | (simp; done) | (simp; omega) | (simp at *; omega)))).mono ?_
  rintro e w1 ⟨rfl, hb1⟩
  have hs1 := hb1.size
  simp at hs1
  obtain ⟨hc1, hf1⟩ := bcell hb1
  have z0 : w.heap.size < w1.heap.size := by omega
  have HB1 : Hid (Below w.heap.size w w1) := Lib.hid (by clear hc1 hf1; (repeat (first | (with_reducible refine Below.alloc ?_ ?_ _) | (with_reducible refine Below.setCell ?_ ?_ _) | (with_reducible refine Below.drew ?_) | (with_reducible exact Below.refl _ _) | (with_reducible refine Below.trans ?_ (Below.mono (by assumption) ?_)))) <;> (first | omega | (dsimp only; omega) | (simp; done) | (simp; omega) | (simp at *; omega)))
  clear hb1
  go_wp2_with fail
  refine (heldPlateS_none _ _).mono ?_
  rintro e w2 ⟨rfl, rfl⟩
  go_wp2_with fail
  refine (heldPieceS_none _ _).mono ?_
  rintro e w2 ⟨rfl, rfl⟩
  go_wp2_with fail
  refine (heldNoneC _ _).mono ?_
  rintro e w2 ⟨rfl, rfl⟩
  go_wp2_with fail
  go_ret
  exact ⟨rfl, HB1.out⟩
theorem alloc_cellC (w : World) (cs : Array Value) (T : TypeId) (i : Nat) : (w.alloc (.cells cs T)).cell? ⟨w.heap.size, i, none⟩ = cs[i]? := by
  have h := heap_alloc_new w (.cells cs T)
  unfold World.cell?
  rw [h]
  simp
/-- A box of ten cells. -/
def BoxL (w : World) (g : Nat) : Prop := g < w.heap.size ∧ (∀ i, i < 10 → ∃ u, w.cell? ⟨g, i, none⟩ = some u) ∧ ∀ i, w.frozen? ⟨g, i, none⟩ = false
theorem BoxL.new (w : World) (u0 u1 u2 u3 u4 u5 u6 u7 u8 u9 : Value) (T : TypeId) : BoxL (w.alloc (.cells #[u0, u1, u2, u3, u4, u5, u6, u7, u8, u9] T)) w.heap.size := by
  have h := alloc_cellC w #[u0, u1, u2, u3, u4, u5, u6, u7, u8, u9] T
  refine ⟨by simp, fun i hi => ?_, fun i => ?_⟩
  · have : i = 0 ∨ i = 1 ∨ i = 2 ∨ i = 3 ∨ i = 4 ∨ i = 5 ∨ i = 6 ∨ i = 7 ∨ i = 8 ∨ i = 9 := by omega
    rcases this with rfl | rfl | rfl | rfl | rfl | rfl | rfl | rfl | rfl | rfl <;> exact ⟨_, h _⟩
  · have hb := heap_alloc_new w (.cells #[u0, u1, u2, u3, u4, u5, u6, u7, u8, u9] T)
    unfold World.frozen?
    rw [hb]
    simp
theorem BoxL.newd (w : World) (u0 u1 u2 u3 u4 u5 u6 u7 u8 u9 : Value) (T : TypeId) : BoxL (w.alloc (.cells #[u0, u1, u2, u3, u4, u5, u6, u7, u8, u9] T)).drew w.heap.size := BoxL.new w u0 u1 u2 u3 u4 u5 u6 u7 u8 u9 T
theorem BoxL.drew {w : World} {g : Nat} (h : BoxL w g) : BoxL w.drew g := h
theorem BoxL.below {w w' : World} {g : Nat} (h : BoxL w g) (hb : Below w.heap.size w w') : BoxL w' g := by
  obtain ⟨h1, h2, h3⟩ := h
  refine ⟨Nat.lt_of_lt_of_le h1 hb.size, fun i hi => ?_, fun i => (hb.frozen (p := ⟨g, i, none⟩) h1).trans (h3 i)⟩
  obtain ⟨u, hu⟩ := h2 i hi
  exact ⟨u, (hb.cell (p := ⟨g, i, none⟩) h1).trans hu⟩
theorem ownC_ne {pre w : World} {u : Value} {ss : List ByteArray} {g : Nat} (hO : OwC w pre.heap.size u ss) (hL : BoxL pre g) : u.ownBlock ≠ some g := fun e => by
  have h1 := (hO.lt' e).1
  have h2 := hL.1
  omega
/-- A new pile in a box. -/
def BoxP (w : World) (g : Nat) (pk pn : Int) (u : Value) : Prop := g < w.heap.size ∧ w.cell? ⟨g, 0, none⟩ = some (u) ∧ w.cell? ⟨g, 1, none⟩ = some (.int .i64 0) ∧ w.cell? ⟨g, 2, none⟩ = some (.int .i64 0) ∧ w.cell? ⟨g, 3, none⟩ = some (.int .i64 pk) ∧ w.cell? ⟨g, 4, none⟩ = some (.int .i64 pn) ∧ w.cell? ⟨g, 5, none⟩ = some (.int .i64 0) ∧ w.cell? ⟨g, 6, none⟩ = some (.int .i64 0) ∧ w.cell? ⟨g, 7, none⟩ = some (.slice none 0 0) ∧ w.cell? ⟨g, 8, none⟩ = some (.slice none 0 0) ∧ w.cell? ⟨g, 9, none⟩ = some (.slice none 0 0)
theorem BoxP.kept {w w' : World} {g : Nat} {pk pn : Int} {u : Value} {row : Option Nat} (h : BoxP w g pk pn u) (hg : w.grownBy w' row) (hne : some g ≠ row) : BoxP w' g pk pn u := by
  obtain ⟨h0, h1, h2, h3, h4, h5, h6, h7, h8, h9, h10⟩ := h
  have hc := fun i => World.cell?_of_block (a := ⟨g, i, none⟩) (hg.block g h0 hne)
  exact ⟨Nat.lt_of_lt_of_le h0 hg.size, (hc 0).trans h1, (hc 1).trans h2, (hc 2).trans h3, (hc 3).trans h4, (hc 4).trans h5, (hc 5).trans h6, (hc 6).trans h7, (hc 7).trans h8, (hc 8).trans h9, (hc 9).trans h10⟩
theorem BoxP.below {w w' : World} {g : Nat} {pk pn : Int} {u : Value} (h : BoxP w g pk pn u) (hb : Below w.heap.size w w') : BoxP w' g pk pn u := h.kept (D.grown_of_below hb none) (by simp)
/-- What a call was given, in a box. -/
def ArgC (w : World) (g : Nat) (a b : Int) : Prop := g < w.heap.size ∧ w.cell? ⟨g, 0, none⟩ = some (.int .i64 a) ∧ w.cell? ⟨g, 1, none⟩ = some (.int .i64 b)
theorem ArgC.kept {w w' : World} {g : Nat} {a b : Int} {row : Option Nat} (h : ArgC w g a b) (hg : w.grownBy w' row) (hne : some g ≠ row) : ArgC w' g a b := by
  obtain ⟨h0, h1, h2⟩ := h
  have hc := fun i => World.cell?_of_block (a := ⟨g, i, none⟩) (hg.block g h0 hne)
  exact ⟨Nat.lt_of_lt_of_le h0 hg.size, (hc 0).trans h1, (hc 1).trans h2⟩
theorem ArgC.below {w w' : World} {g : Nat} {a b : Int} (h : ArgC w g a b) (hb : Below w.heap.size w w') : ArgC w' g a b := h.kept (D.grown_of_below hb none) (by simp)
/-- Behind a call of NewPile whose pile lies in a box of its own. -/
def CutC (n : Nat) (wa : World) (cs : List ByteArray) (pk pn : Int) (s : Value) (wx : World) : Prop :=
  ∃ gb u, s = .pointer (some ⟨gb, 0, none⟩) ∧ n ≤ gb ∧ BoxP wx gb pk pn u ∧ Hid (OwC wx n u cs) ∧ u.ownBlock ≠ some gb ∧ Below n wa wx
theorem cutC_after {n : Nat} {wa w1 : World} {cs : List ByteArray} {pk pn : Int} {u : Value} {T : TypeId} (hb : Below n wa w1) (hn : n ≤ w1.heap.size) (hO : OwC w1 n u cs) :
    CutC n wa cs pk pn (.pointer (some ⟨w1.heap.size, 0, none⟩)) (w1.alloc (.cells #[u, .int .i64 0, .int .i64 0, .int .i64 pk, .int .i64 pn, .int .i64 0, .int .i64 0, .slice none 0 0, .slice none 0 0, .slice none 0 0] T)) := by
  refine ⟨_, u, rfl, hn, ⟨by simp, alloc_cellC _ _ _ 0, alloc_cellC _ _ _ 1, alloc_cellC _ _ _ 2, alloc_cellC _ _ _ 3, alloc_cellC _ _ _ 4, alloc_cellC _ _ _ 5, alloc_cellC _ _ _ 6, alloc_cellC _ _ _ 7, alloc_cellC _ _ _ 8, alloc_cellC _ _ _ 9⟩, hO.below ((Below.refl _ _).alloc (Nat.le_refl _) _), fun e => ?_, hb.alloc hn _⟩
  have := (hO.lt' e).2
  omega
theorem cutC_ahead {n : Nat} {wa w1 : World} {cs : List ByteArray} {pk pn : Int} {u : Value} {g : Nat} (hL : BoxL w1 g) (hg : n ≤ g) (hne : u.ownBlock ≠ some g) (hb : Below n wa w1) (hO : OwC w1 n u cs) :
    CutC n wa cs pk pn (.pointer (some ⟨g, 0, none⟩)) (((((((((((w1.setCell ⟨g, 0, none⟩ (u)).setCell ⟨g, 1, none⟩ (.int .i64 0)).setCell ⟨g, 2, none⟩ (.int .i64 0)).setCell ⟨g, 3, none⟩ (.int .i64 pk)).setCell ⟨g, 4, none⟩ (.int .i64 pn)).setCell ⟨g, 5, none⟩ (.int .i64 0)).setCell ⟨g, 6, none⟩ (.int .i64 0)).setCell ⟨g, 7, none⟩ (.slice none 0 0)).setCell ⟨g, 8, none⟩ (.slice none 0 0)).setCell ⟨g, 9, none⟩ (.slice none 0 0))) := by
  obtain ⟨hgl, hz, zf⟩ := hL
  obtain ⟨y0, z0⟩ := hz 0 (by omega)
  obtain ⟨y1, z1⟩ := hz 1 (by omega)
  obtain ⟨y2, z2⟩ := hz 2 (by omega)
  obtain ⟨y3, z3⟩ := hz 3 (by omega)
  obtain ⟨y4, z4⟩ := hz 4 (by omega)
  obtain ⟨y5, z5⟩ := hz 5 (by omega)
  obtain ⟨y6, z6⟩ := hz 6 (by omega)
  obtain ⟨y7, z7⟩ := hz 7 (by omega)
  obtain ⟨y8, z8⟩ := hz 8 (by omega)
  obtain ⟨y9, z9⟩ := hz 9 (by omega)
  refine ⟨g, u, rfl, hg, ⟨by simpa [World.setCell] using hgl, by simp [go_sem, z0, z1, z2, z3, z4, z5, z6, z7, z8, z9]⟩, ?_, hne, ?_⟩
  · show OwC _ _ _ _
    repeat (with_reducible refine OwC.set ?_ hne _)
    exact hO
  · repeat (with_reducible refine Below.setCell ?_ (by dsimp only; omega) _)
    exact hb

end L2
end Go.Proofs.YtmbonldiaimcfaaDoor
