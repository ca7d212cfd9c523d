/-
  The model's reading of a plate whose text has four pieces.
-/
import Derived.Test.YtkhjbhkbknennaaGreatDoorN14
import Derived.Test.YtkhjbhkbknennaaGreatDoorN3
import Derived.Deep.Light
import Derived.Deep.DeepCutAuto
namespace Go.Proofs.YtkhjbhkbknennaaGreatDoor
open Go.RowKit Go.Sort
namespace L2
open S1 L1

theorem held_set {w : World} {X i b j : Nat} {v : Value} (h : w.cell? ⟨b, j, none⟩ = some v) (hb : b ≠ X) (u : Value) : (w.setCell ⟨X, i, none⟩ u).cell? ⟨b, j, none⟩ = some v := (World.cell?_setCell_other _ _ _ _ (by intro e; injection e with e; exact hb e.symm)).trans h
theorem Px.drew {w : World} {X : Nat} (h : Px w X) : Px w.drew X := h
/-- Behind the making of a plate in a box of its own. -/
def CutR (n : Nat) (wa : World) (p : Pl) (q : Value) (wx : World) : Prop := ∃ gp, q = .pointer (some ⟨gp, 0, none⟩) ∧ n ≤ gp ∧ gp < wx.heap.size ∧ PlAt wx gp 0 p ∧ Below n wa wx
theorem cutR_after {n : Nat} {wa w1 : World} {p : Pl} {T : TypeId} (hb : Below n wa w1) (hn : n ≤ w1.heap.size) :
    CutR n wa p (.pointer (some ⟨w1.heap.size, 0, none⟩)) (w1.alloc (.cells #[.int .i64 p.k, .int .i64 p.a, .int .i64 p.ak, .int .i64 p.an, .int .i64 p.vk, .int .i64 p.vn] T)) :=
  ⟨_, rfl, hn, by simp, ⟨alloc_cellN _ _ _ 0, alloc_cellN _ _ _ 1, alloc_cellN _ _ _ 2, alloc_cellN _ _ _ 3, alloc_cellN _ _ _ 4, alloc_cellN _ _ _ 5⟩, hb.alloc hn _⟩
theorem cutR_ahead {n : Nat} {wa w1 : World} {p : Pl} {g : Nat} (hx : Px w1 g) (hg : n ≤ g) (hb : Below n wa w1) :
    CutR n wa p (.pointer (some ⟨g, 0, none⟩)) ((((((w1.setCell ⟨g, 0, none⟩ (.int .i64 p.k)).setCell ⟨g, 1, none⟩ (.int .i64 p.a)).setCell ⟨g, 2, none⟩ (.int .i64 p.ak)).setCell ⟨g, 3, none⟩ (.int .i64 p.an)).setCell ⟨g, 4, none⟩ (.int .i64 p.vk)).setCell ⟨g, 5, none⟩ (.int .i64 p.vn)) := by
  obtain ⟨hl, hz⟩ := hx
  have k0 := (hz 0 (by omega)).1
  have k1 := (hz 1 (by omega)).1
  have k2 := (hz 2 (by omega)).1
  have k3 := (hz 3 (by omega)).1
  have k4 := (hz 4 (by omega)).1
  have k5 := (hz 5 (by omega)).1
  refine ⟨g, rfl, hg, by simpa [World.setCell] using hl, ⟨by simp [go_sem, k0], by simp [go_sem, k1], by simp [go_sem, k2], by simp [go_sem, k3], by simp [go_sem, k4], by simp [go_sem, k5]⟩, ?_⟩
  repeat (with_reducible refine Below.setCell ?_ (by dsimp only; omega) _)
  exact hb
set_option maxRecDepth 100000 in
set_option maxHeartbeats 4000000 in
theorem specReadPlate_four (s : ByteArray) (hs : s.size ≤ 1048576) (h4 : (cutS s.toList).length = 4) (w : World) :
    Calls Tryz.prog 19 #[.string s] w fun e w' => e = .returned (.tuple #[plV (rdP s.toList), .bool (rdPOk s.toList)]) ∧ Below w.heap.size w w' := by
  have hok : rdPOk s.toList = (P1.rdOk ((cutS s.toList).getD 1 []) && rvOk ((cutS s.toList).getD 2 []) && rvOk ((cutS s.toList).getD 3 []) && okPl (plR (cutS s.toList))) := by
    unfold rdPOk
    rw [h4]; rfl
  have hrd : rdP s.toList = if rdPOk s.toList then ⟨kindN ((cutS s.toList).getD 0 []), P1.rdN ((cutS s.toList).getD 1 []), rvK ((cutS s.toList).getD 2 []), rvN ((cutS s.toList).getD 2 []), rvK ((cutS s.toList).getD 3 []), rvN ((cutS s.toList).getD 3 [])⟩ else noPl := rfl
  unfold plR at hok
  have hmx : (1048576 : Nat) ≤ maxLen := by unfold maxLen; omega
  have hR : ∀ i w1, Calls Tryz.prog 58 #[.string ((piecesS s).getD i ByteArray.empty)] w1 fun e w' => e = .returned (.tuple #[.int .i64 (P1.rdN ((cutS s.toList).getD i [])), .bool (P1.rdOk ((cutS s.toList).getD i []))]) ∧ w1 = w' := fun i w1 => by
    have h := l1Read_any ((piecesS s).getD i ByteArray.empty) (Nat.le_trans (piecesS_size s i) (Nat.le_trans hs hmx)) w1
    rw [← Lib.toList_data, piecesS_at] at h
    exact h
  have hV : ∀ i w1, Calls Tryz.prog 59 #[.string ((piecesS s).getD i ByteArray.empty)] w1 fun e w' => e = .returned (.tuple #[.agg #[.int .i64 (rvK ((cutS s.toList).getD i [])), .int .i64 (rvN ((cutS s.toList).getD i []))], .bool (rvOk ((cutS s.toList).getD i []))]) ∧ Below w1.heap.size w1 w' := fun i w1 => by
    have h := specRead_any ((piecesS s).getD i ByteArray.empty) (Nat.le_trans (piecesS_size s i) (Nat.le_trans hs hmx)) w1
    rw [← Lib.toList_data, piecesS_at] at h
    exact h
  have hK : ∀ g w1, g < w1.heap.size → (∀ j : Nat, j < 8 → w1.cell? ⟨g, j, none⟩ = some (.string (kindB ((j : Int) + 1)))) → Calls Tryz.prog 60 #[.slice (some ⟨g, 0, none⟩) 8 8, .string ((piecesS s).getD 0 ByteArray.empty)] w1 fun e w' => e = .returned (.int .i64 (kindN ((cutS s.toList).getD 0 []) - 1)) ∧ w1 = w' := fun g w1 h1 h2 => by
    have h := l1Kind_any g ((piecesS s).getD 0 ByteArray.empty) w1 h1 h2
    rw [piecesS_at] at h
    exact h
  have HR1 := Lib.hid (hR 1)
  have HV2 := Lib.hid (hV 2)
  have HV3 := Lib.hid (hV 3)
  have HK := Lib.hid hK
  have hkr := kindN_range ((cutS s.toList).getD 0 [])
  rw [hrd, hok]
  clear hR hV hK hrd hok hmx
  generalize kindN ((cutS s.toList).getD 0 []) = k at HK hkr ⊢
  generalize P1.rdN ((cutS s.toList).getD 1 []) = a at HR1 ⊢
  generalize P1.rdOk ((cutS s.toList).getD 1 []) = o1 at HR1 ⊢
  generalize rvK ((cutS s.toList).getD 2 []) = b at HV2 ⊢
  generalize rvN ((cutS s.toList).getD 2 []) = c at HV2 ⊢
  generalize rvOk ((cutS s.toList).getD 2 []) = o2 at HV2 ⊢
  generalize rvK ((cutS s.toList).getD 3 []) = d at HV3 ⊢
  generalize rvN ((cutS s.toList).getD 3 []) = e at HV3 ⊢
  generalize rvOk ((cutS s.toList).getD 3 []) = o3 at HV3 ⊢
  have HP := Lib.hid (specPlateOk_any ⟨k, a, b, c, d, e⟩)
  have zk : IntKind.i64.wrap (k - 1 + 1) = k := by rw [IntKind.wrap_i64]; omega
  have ZK := Lib.hid zk
  clear zk hkr
  obtain ⟨ok, hokk⟩ : ∃ ok, okPl ⟨k, a, b, c, d, e⟩ = ok := ⟨_, rfl⟩
  rw [hokk] at HP ⊢
  clear hokk
  go_enter Tryz.func19, Tryz.ntmps19
  go_wp2_with fail
  refine (l1SplitS_any s hs _).mono ?_
  rintro e1 w1 ⟨v, rfl, ho, hb1⟩
  obtain ⟨g, cp, rfl, -, -⟩ := ho.form
  obtain ⟨oa, cp', hvv, -, -, hcs⟩ := ho.row
  have hl : (piecesS s).length = 4 := by rw [piecesS_len, h4]
  rw [hl] at hcs hvv ⊢
  injection hvv with hv1 hv2 hv3
  subst hv1
  have cell : ∀ i, i < 4 → w1.cell? ⟨g, i, none⟩ = some (.string ((piecesS s).getD i ByteArray.empty)) := fun i hi => by
    obtain ⟨X, off, hX, -, hc⟩ := hcs i hi
    injection hX with hX
    injection hX with hX1 hX2
    subst hX1 hX2
    rw [Nat.zero_add] at hc
    exact hc
  have gl := World.block_lt_of_cell? w1 _ (cell 0 (by omega))
  have c0 := cell 0 (by omega)
  have c1 := cell 1 (by omega)
  have c2 := cell 2 (by omega)
  have c3 := cell 3 (by omega)
  generalize (piecesS s).getD 0 ByteArray.empty = p0 at c0 HK
  generalize (piecesS s).getD 1 ByteArray.empty = p1 at c1 HR1
  generalize (piecesS s).getD 2 ByteArray.empty = p2 at c2 HV2
  generalize (piecesS s).getD 3 ByteArray.empty = p3 at c3 HV3
  have HB1 : Hid (Below w.heap.size w w1) := Lib.hid (((Below.refl _ _).alloc (Nat.le_refl _) _).trans (hb1.mono (by simp)))
  have hsz1 := HB1.out.size
  have hs0 := hb1.size
  simp at hs0
  have PX1 := Lib.hid ((px_new w _).below hb1)
  have hwl : w.heap.size < w1.heap.size := by omega
  clear ho hcs cell hb1 hv2 hv3 hl
  dsimp only at gl
  go_wp2_with fail
  refine (HR1.out _).mono ?_
  rintro e2 w2 ⟨rfl, rfl⟩
  go_wp2_with fail
  refine (HV2.out _).mono ?_
  rintro e3 w3 ⟨rfl, hb3⟩
  have d0 := (hb3.cell (p := ⟨g, 0, none⟩) gl).trans c0
  have d3 := (hb3.cell (p := ⟨g, 3, none⟩) gl).trans c3
  have gl3 := Nat.lt_of_lt_of_le gl hb3.size
  have HB3 := Lib.hid (HB1.out.trans (hb3.mono hsz1))
  have hsz3 := HB3.out.size
  have PX3 := Lib.hid (PX1.out.below hb3)
  clear hb3 c0 c1 c2 c3
  have e3 := fun o => held_old d3 gl3 o
  go_wp2_with fail
  refine (HV3.out _).mono ?_
  rintro e4 w4 ⟨rfl, hb4⟩
  have c0 := (hb4.cell (p := ⟨g, 0, none⟩) (by simp; omega)).trans (held_old d0 gl3 _)
  have y0 := (hb4.cell (p := ⟨w3.heap.size, 0, none⟩) (by simp)).trans (alloc_cellN _ _ _ 0)
  have y1 := (hb4.cell (p := ⟨w3.heap.size, 1, none⟩) (by simp)).trans (alloc_cellN _ _ _ 1)
  have hs4 := hb4.size
  simp at hs4
  have gl4 : g < w4.heap.size := by omega
  have HB4 := Lib.hid ((HB3.out.alloc hsz3 _).trans (hb4.mono (by simp; omega)))
  have hsz4 := HB4.out.size
  have PX4 := Lib.hid ((PX3.out.alloc _).below hb4)
  clear hb4 d0 d3 e3
  have e4 := fun o => held_old c0 gl4 o
  go_wp2_with fail
  have a0 : (w4.alloc (.cells #[.int .i64 d, .int .i64 e] 26)).cell? ⟨g, 0, none⟩ = some (.string p0) := held_old c0 gl4 _
  have a1 : (w4.alloc (.cells #[.int .i64 d, .int .i64 e] 26)).cell? ⟨w3.heap.size, 0, none⟩ = some (.int .i64 b) := held_old y0 (by omega) _
  have a2 : (w4.alloc (.cells #[.int .i64 d, .int .i64 e] 26)).cell? ⟨w3.heap.size, 1, none⟩ = some (.int .i64 c) := held_old y1 (by omega) _
  have a3 : (w4.alloc (.cells #[.int .i64 d, .int .i64 e] 26)).cell? ⟨w4.heap.size, 0, none⟩ = some (.int .i64 d) := alloc_cellN _ _ _ 0
  have a4 : (w4.alloc (.cells #[.int .i64 d, .int .i64 e] 26)).cell? ⟨w4.heap.size, 1, none⟩ = some (.int .i64 e) := alloc_cellN _ _ _ 1
  have a5 : w4.heap.size < (w4.alloc (.cells #[.int .i64 d, .int .i64 e] 26)).heap.size := by simp
  have a6 : Hid (Below w.heap.size w (w4.alloc (.cells #[.int .i64 d, .int .i64 e] 26))) := Lib.hid (HB4.out.alloc hsz4 _)
  have a7 : Hid (Px (w4.alloc (.cells #[.int .i64 d, .int .i64 e] 26)) w.heap.size) := Lib.hid (PX4.out.alloc _)
  clear c0 y0 y1 e4 HB4 PX4
  generalize (w4.alloc (.cells #[.int .i64 d, .int .i64 e] 26)) = wa at a0 a1 a2 a3 a4 a5 a6 a7 ⊢
  have c0 := a0
  have y0 := a1
  have y1 := a2
  have z0 := a3
  have z1 := a4
  clear a0 a1 a2 a3 a4
  have zk := ZK.out
  have zk2 : IntKind.i64.wrap k = k := by have h := zk; rwa [show k - 1 + 1 = k by omega] at h
  have s8 := Below.refl wa.heap.size wa
  have s7 := Nat.le_refl wa.heap.size
  have hlw3 : w3.heap.size < wa.heap.size := by omega
  have hlg : g < wa.heap.size := by omega
  go_cut [11] (fun q wx => CutR wa.heap.size wa ⟨k, a, b, c, d, e⟩ q wx)
  case first =>
    go_region_held3 (fun w' => w'.cell? ⟨g, 0, none⟩ = some (.string p0) ∧ w'.cell? ⟨w3.heap.size, 0, none⟩ = some (.int .i64 b) ∧ w'.cell? ⟨w3.heap.size, 1, none⟩ = some (.int .i64 c) ∧ w'.cell? ⟨w4.heap.size, 0, none⟩ = some (.int .i64 d) ∧ w'.cell? ⟨w4.heap.size, 1, none⟩ = some (.int .i64 e) ∧ Below wa.heap.size wa w' ∧ wa.heap.size ≤ w'.heap.size)
      (((try dsimp only); (repeat' (refine And.intro ?_ ?_)) <;> first | (with_reducible assumption) | omega | ((repeat (first | (with_reducible assumption) | (with_reducible refine held_drewc ?_) | (with_reducible refine held_set ?_ ?_ _) | (with_reducible refine Below.setCell ?_ ?_ _) | (with_reducible refine held_old ?_ ?_ _) | (with_reducible refine Below.alloc ?_ ?_ _) | (with_reducible refine Below.drew ?_))) <;> first | omega | (simp; done) | (simp; omega)) | (simp; omega)))
      (first | (go_at_call 61; refine (l5Words_any _).mono ?_; rintro e5 w5 ⟨rfl, hc5, hb5, hl5⟩; (first | (have PP := ((px_new _ _).drew).below hb5; (try simp only [World.size_drew] at PP); have k0 := (PP.2 0 (by omega)).1; have l0 := (PP.2 0 (by omega)).2; have k1 := (PP.2 1 (by omega)).1; have l1 := (PP.2 1 (by omega)).2; have k2 := (PP.2 2 (by omega)).1; have l2 := (PP.2 2 (by omega)).2; have k3 := (PP.2 3 (by omega)).1; have l3 := (PP.2 3 (by omega)).2; have k4 := (PP.2 4 (by omega)).1; have l4 := (PP.2 4 (by omega)).2; have k5 := (PP.2 5 (by omega)).1; have l5 := (PP.2 5 (by omega)).2) | skip); (try simp only [World.size_drew, World.size_alloc] at hc5 hl5); have hbN : Below wa.heap.size wa w5 := held_below (by ((repeat (first | (with_reducible assumption) | (with_reducible refine Below.alloc ?_ ?_ _) | (with_reducible refine Below.drew ?_) | (with_reducible exact Below.refl _ _))) <;> first | omega | (simp; done) | (simp; omega))) hb5 (by first | omega | (simp; done) | (simp; omega)); have hsN := hbN.size; have c0N := (hbN.cell (p := ⟨g, 0, none⟩) (by (try dsimp only); omega)).trans c0; have y0N := (hbN.cell (p := ⟨w3.heap.size, 0, none⟩) (by (try dsimp only); omega)).trans y0; have y1N := (hbN.cell (p := ⟨w3.heap.size, 1, none⟩) (by (try dsimp only); omega)).trans y1; have z0N := (hbN.cell (p := ⟨w4.heap.size, 0, none⟩) (by (try dsimp only); omega)).trans z0; have z1N := (hbN.cell (p := ⟨w4.heap.size, 1, none⟩) (by (try dsimp only); omega)).trans z1) | (go_at_call 60; refine (HK.out _ _ ?_ ?_).mono ?_; (focus (first | exact hl5 | (simp; omega))); (focus (intro j hj; first | exact hc5 j hj | exact held_old (hc5 j hj) hl5 _)); rintro e6 w6 ⟨rfl, rfl⟩))
    all_goals
      rename_i hHeld
      go_wp2_with fail
      go_meet
      go_light
      clear hHeld
      first
        | with_reducible exact cutR_after hbN hsN
        | (with_reducible refine cutR_ahead (by first | exact PP | exact px_new _ _ | exact (px_new _ _).drew) (by first | exact Nat.le_refl _ | omega | (simp; omega)) (by with_reducible assumption))
  case rest =>
    obtain ⟨gp, rfl, hg1, hg2, hp, hB⟩ := hcut
    obtain ⟨q0, q1, q2, q3, q4, q5⟩ := hp
    dsimp only at q0 q1 q2 q3 q4 q5
    simp only [Nat.zero_add, Nat.reduceAdd] at q0 q1 q2 q3 q4 q5
    have PX := a7.out.below hB
    have HB : Hid (Below w.heap.size w wc) := Lib.hid (a6.out.trans (hB.mono a6.out.size))
    have hzw := HB.out.size
    obtain ⟨x0, f0⟩ := PX.2 0 (by omega)
    obtain ⟨x1, f1⟩ := PX.2 1 (by omega)
    obtain ⟨x2, f2⟩ := PX.2 2 (by omega)
    obtain ⟨x3, f3⟩ := PX.2 3 (by omega)
    obtain ⟨x4, f4⟩ := PX.2 4 (by omega)
    obtain ⟨x5, f5⟩ := PX.2 5 (by omega)
    clear HK HR1 HV2 HV3 c0 y0 y1 z0 z1 s8 s7 hB
    cases o1
    · clear PX
      go_wp2_with fail
      refine bodyPost_ret (v := .tuple #[.agg #[.int .i64 0, .int .i64 0, .int .i64 0, .int .i64 0, .int .i64 0, .int .i64 0], .bool false]) (by simp [results, Tryz.results19, go_sem, *]) rfl ⟨rfl, ?_⟩
      exact (((((HB.out.setCell (Nat.le_refl _) _).setCell (Nat.le_refl _) _).setCell (Nat.le_refl _) _).setCell (Nat.le_refl _) _).setCell (Nat.le_refl _) _).setCell (Nat.le_refl _) _
    cases o2
    · clear PX
      go_wp2_with fail
      refine bodyPost_ret (v := .tuple #[.agg #[.int .i64 0, .int .i64 0, .int .i64 0, .int .i64 0, .int .i64 0, .int .i64 0], .bool false]) (by simp [results, Tryz.results19, go_sem, *]) rfl ⟨rfl, ?_⟩
      exact (((((HB.out.setCell (Nat.le_refl _) _).setCell (Nat.le_refl _) _).setCell (Nat.le_refl _) _).setCell (Nat.le_refl _) _).setCell (Nat.le_refl _) _).setCell (Nat.le_refl _) _
    cases o3
    · clear PX
      go_wp2_with fail
      refine bodyPost_ret (v := .tuple #[.agg #[.int .i64 0, .int .i64 0, .int .i64 0, .int .i64 0, .int .i64 0, .int .i64 0], .bool false]) (by simp [results, Tryz.results19, go_sem, *]) rfl ⟨rfl, ?_⟩
      exact (((((HB.out.setCell (Nat.le_refl _) _).setCell (Nat.le_refl _) _).setCell (Nat.le_refl _) _).setCell (Nat.le_refl _) _).setCell (Nat.le_refl _) _).setCell (Nat.le_refl _) _
    unfold plV at HP
    simp only at HP
    go_wp2_with fail
    refine (HP.out _).mono ?_
    rintro e6 w6 ⟨rfl, hb6⟩
    have PX6 := PX.below hb6
    have hs6 := hb6.size
    have r0 := (hb6.cell (p := ⟨gp, 0, none⟩) hg2).trans q0
    have r1 := (hb6.cell (p := ⟨gp, 1, none⟩) hg2).trans q1
    have r2 := (hb6.cell (p := ⟨gp, 2, none⟩) hg2).trans q2
    have r3 := (hb6.cell (p := ⟨gp, 3, none⟩) hg2).trans q3
    have r4 := (hb6.cell (p := ⟨gp, 4, none⟩) hg2).trans q4
    have r5 := (hb6.cell (p := ⟨gp, 5, none⟩) hg2).trans q5
    have HB6 : Hid (Below w.heap.size w w6) := Lib.hid (HB.out.trans (hb6.mono HB.out.size))
    clear x0 x1 x2 x3 x4 x5 f0 f1 f2 f3 f4 f5 q0 q1 q2 q3 q4 q5 PX hb6
    obtain ⟨x0, f0⟩ := PX6.2 0 (by omega)
    obtain ⟨x1, f1⟩ := PX6.2 1 (by omega)
    obtain ⟨x2, f2⟩ := PX6.2 2 (by omega)
    obtain ⟨x3, f3⟩ := PX6.2 3 (by omega)
    obtain ⟨x4, f4⟩ := PX6.2 4 (by omega)
    obtain ⟨x5, f5⟩ := PX6.2 5 (by omega)
    clear PX6
    cases ok
    · go_wp2_with fail
      refine bodyPost_ret (v := .tuple #[.agg #[.int .i64 0, .int .i64 0, .int .i64 0, .int .i64 0, .int .i64 0, .int .i64 0], .bool false]) (by simp [results, Tryz.results19, go_sem, *]) rfl ⟨rfl, ?_⟩
      exact (((((HB6.out.setCell (Nat.le_refl _) _).setCell (Nat.le_refl _) _).setCell (Nat.le_refl _) _).setCell (Nat.le_refl _) _).setCell (Nat.le_refl _) _).setCell (Nat.le_refl _) _
    · go_wp2_with fail
      refine bodyPost_ret (v := .tuple #[.agg #[.int .i64 k, .int .i64 a, .int .i64 b, .int .i64 c, .int .i64 d, .int .i64 e], .bool true]) (by simp [results, Tryz.results19, go_sem, *]) rfl ⟨rfl, ?_⟩
      exact (((((HB6.out.setCell (Nat.le_refl _) _).setCell (Nat.le_refl _) _).setCell (Nat.le_refl _) _).setCell (Nat.le_refl _) _).setCell (Nat.le_refl _) _).setCell (Nat.le_refl _) _

end L2
end Go.Proofs.YtkhjbhkbknennaaGreatDoor
