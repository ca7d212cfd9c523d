/-
  The law on what is meant, and what is thrown, caught, kept.
-/
import Derived.Test.YtkhjbhkbknennaaGreatDoorU2
import Derived.Test.YtkhjbhkbknennaaGreatDoorU3
import Derived.Test.YtkhjbhkbknennaaGreatDoorU5
import Derived.Test.YtkhjbhkbknennaaGreatDoorS7
import Derived.Deep.RegionHeld3
namespace Go.Proofs.YtkhjbhkbknennaaGreatDoor
open Go.RowKit Go.Sort
namespace L2
open S1 L1 D

theorem likeSelf (a b : Int) (t : Bool) (v v' : Value) (q : Int) (ss : List ByteArray) (w : World) (hR : Row w v ss) (hR' : Row w v' ss) :
    Calls Tryz.prog 9 #[mgV a b t v q, mgV a b t v' q] w fun e w' => e = .returned (.bool true) ∧ Below w.heap.size w w' := by
  have h := likeMeaning_any a b t v q ss a b t v' q ss w hR hR'
  have e : sameM a b t ss q a b t ss q = true := by unfold sameM; simp [same_refl]
  rw [e] at h
  exact h

set_option maxRecDepth 100000 in
set_option maxHeartbeats 4000000 in
theorem lawMeants (v : Value) (n : Nat) (w : World) (hC : D.Came w v n) (hV : Vars w) :
    Calls Tryz.prog 3 #[v] w fun e w' => e = .returned (.bool true) ∧ Below w.heap.size w w' := by
  have HCC := Lib.hid (fun w1 (hb : Below w.heap.size w w1) => hC.below hb)
  have HVV := Lib.hid (fun w1 (hb : Below w.heap.size w w1) => hV.later hb)
  have HBG := Lib.hid (D.big_any v n w hC)
  clear hC hV
  by_cases hbig : 4096 < n
  · have hd : decide (4096 < n) = true := by simp [hbig]
    rw [hd] at HBG
    go_enter Tryz.func3, Tryz.ntmps3
    go_wp2_with fail
    refine HBG.out.mono ?_
    rintro e w0 ⟨rfl, hw⟩
    rw [hw]
    go_wp2_with fail
    go_ret
    exact ⟨rfl, Below.refl _ _⟩
  have hd : decide (4096 < n) = false := by simp [hbig]
  rw [hd] at HBG
  clear hd hbig
  go_enter Tryz.func3, Tryz.ntmps3
  go_wp2_with fail
  refine HBG.out.mono ?_
  rintro e w0 ⟨rfl, hw⟩
  rw [hw]
  clear hw
  go_wp2_with fail
  refine (drawMeant_any v n _ (HCC.out _ (Below.refl _ _))).mono ?_
  rintro e w1 ⟨ul, ss, a, b, rfl, hO, hl, hS, hb1⟩
  obtain ⟨g, cp, hu, -, -, hgW, hgl, -⟩ := hO.form
  subst hu
  have HS := Lib.hid (hS.small (by omega))
  have HR1 := Lib.hid (hO.row.below ((Below.refl _ _).alloc (Nat.le_refl _) (.cells #[.int .i64 a, .int .i64 b] 26)))
  have HB1 := Lib.hid (hb1.alloc hb1.size (.cells #[.int .i64 a, .int .i64 b] 26))
  have HA1 : Hid (ArgB (w1.alloc (.cells #[.int .i64 a, .int .i64 b] 26)) w1.heap.size a b) := Lib.hid ⟨by simp, alloc_cell _ _ _ 0, alloc_cell _ _ _ 1⟩
  have hz1 := hb1.size
  clear hO hS hb1
  go_wp2_with fail
  have hz2 : w1.heap.size < (w1.alloc (.cells #[.int .i64 a, .int .i64 b] 26)).heap.size := by simp
  generalize w1.alloc (.cells #[.int .i64 a, .int .i64 b] 26) = W1 at HR1 HB1 HA1 hz2 ⊢
  refine (implMeantQ _ ss a b W1 HR1.out HS.out (HVV.out _ HB1.out)).mono ?_
  have HM := Lib.hid (fun v' W' (hR' : Row W' v' ss) => specMeantQ v' ss a b W' hR' HS.out)
  have HTRY := Lib.hid (fun h1 h2 => meant_try (ws := wsOf ss) (k := a) (n := b) h1 h2)
  have HKEEP := Lib.hid (fun h1 h2 h3 => meant_keep (ws := wsOf ss) (k := a) (n := b) h1 h2 h3)
  have hgd := meant_good (wsOf ss) a b
  obtain ⟨o, hod⟩ : ∃ o, meant (wsOf ss) a b = o := ⟨_, rfl⟩
  rw [hod] at HM HTRY HKEEP hgd ⊢
  obtain ⟨ok, on, ot, os, oc⟩ := o
  have hoz : os.length ≤ 40 := hgd.len
  have HGD := Lib.hid hgd
  clear hod hgd
  rintro e w2 ⟨u1, rfl, hU, hb2⟩
  obtain ⟨ou1, cu1, rfl⟩ := hU.slice
  dsimp only at hU ⊢
  have hz3 := hb2.size
  have hbm : Below w2.heap.size w2 (w2.alloc (.cells #[.int .i64 ok, .int .i64 on, .bool ot, .slice ou1 os.length cu1, .int .i64 oc] 30)) := (Below.refl _ _).alloc (Nat.le_refl _) _
  have HM2 : Hid (BoxM (w2.alloc (.cells #[.int .i64 ok, .int .i64 on, .bool ot, .slice ou1 os.length cu1, .int .i64 oc] 30)) w2.heap.size ⟨ok, on, ot, os, oc⟩ (.slice ou1 os.length cu1)) := Lib.hid (BM.new w2 ⟨ok, on, ot, os, oc⟩ (.slice ou1 os.length cu1) 30).1
  have HR2 := Lib.hid ((HR1.out.below hb2).below hbm)
  have HA2 := Lib.hid ((HA1.out.below hb2).below hbm)
  have HU2 := Lib.hid (hU.row.below hbm)
  have HB2 := Lib.hid ((HB1.out.trans (hb2.mono HB1.out.size)).trans (hbm.mono (Nat.le_trans HB1.out.size hz3)))
  have hz4 : w2.heap.size < (w2.alloc (.cells #[.int .i64 ok, .int .i64 on, .bool ot, .slice ou1 os.length cu1, .int .i64 oc] 30)).heap.size := by simp
  unfold mgV
  clear hb2 hU hbm
  go_wp2_with fail
  generalize w2.alloc (.cells #[.int .i64 ok, .int .i64 on, .bool ot, .slice ou1 os.length cu1, .int .i64 oc] 30) = W2 at HM2 HR2 HA2 HU2 HB2 hz4 ⊢
  refine (drawSameMeaning_any v n W2 (HCC.out _ HB2.out)).mono ?_
  rintro e w3 ⟨k1, n1, t1, v1, q1, s1, k2, n2, t2, v2, q2, s2, rfl, hR5, hR6, hb3⟩
  have HRa3 := Lib.hid hR5
  have HRb3 := Lib.hid hR6
  obtain ⟨o1, c1, rfl, -⟩ := hR5
  obtain ⟨o2, c2, rfl, -⟩ := hR6
  have hz5 := hb3.size
  have hal := ((Below.refl w3.heap.size w3).alloc (Nat.le_refl _) (.cells #[.int .i64 k1, .int .i64 n1, .bool t1, .slice o1 s1.length c1, .int .i64 q1] 30)).alloc (by simp) (.cells #[.int .i64 k2, .int .i64 n2, .bool t2, .slice o2 s2.length c2, .int .i64 q2] 30)
  have HM5 := Lib.hid ((HM2.out.below hb3).below hal)
  have HA5 := Lib.hid ((HA2.out.below hb3).below hal)
  have HR5 := Lib.hid ((HR2.out.below hb3).below hal)
  have HU5 := Lib.hid ((HU2.out.below hb3).below hal)
  have HRa := Lib.hid (HRa3.out.below hal)
  have HRb := Lib.hid (HRb3.out.below hal)
  have HB5 := Lib.hid ((HB2.out.trans (hb3.mono HB2.out.size)).trans (hal.mono (Nat.le_trans HB2.out.size hz5)))
  have HX1 : Hid (BoxM ((w3.alloc (.cells #[.int .i64 k1, .int .i64 n1, .bool t1, .slice o1 s1.length c1, .int .i64 q1] 30)).alloc (.cells #[.int .i64 k2, .int .i64 n2, .bool t2, .slice o2 s2.length c2, .int .i64 q2] 30)) w3.heap.size ⟨k1, n1, t1, s1, q1⟩ (.slice o1 s1.length c1)) := Lib.hid ((BM.new w3 ⟨k1, n1, t1, s1, q1⟩ (.slice o1 s1.length c1) 30).1.below ((Below.refl _ _).alloc (Nat.le_refl _) _))
  have HX2 : Hid (BoxM ((w3.alloc (.cells #[.int .i64 k1, .int .i64 n1, .bool t1, .slice o1 s1.length c1, .int .i64 q1] 30)).alloc (.cells #[.int .i64 k2, .int .i64 n2, .bool t2, .slice o2 s2.length c2, .int .i64 q2] 30)) (w3.heap.size + 1) ⟨k2, n2, t2, s2, q2⟩ (.slice o2 s2.length c2)) := by
    have h := (BM.new (w3.alloc (.cells #[.int .i64 k1, .int .i64 n1, .bool t1, .slice o1 s1.length c1, .int .i64 q1] 30)) ⟨k2, n2, t2, s2, q2⟩ (.slice o2 s2.length c2) 30).1
    rw [World.size_alloc] at h
    exact Lib.hid h
  have hz6 : ((w3.alloc (.cells #[.int .i64 k1, .int .i64 n1, .bool t1, .slice o1 s1.length c1, .int .i64 q1] 30)).alloc (.cells #[.int .i64 k2, .int .i64 n2, .bool t2, .slice o2 s2.length c2, .int .i64 q2] 30)).heap.size = w3.heap.size + 2 := by simp
  have HI := Lib.hid (fun w1 h1 h2 => implSameMeaning_any k1 n1 t1 (.slice o1 s1.length c1) q1 s1 k2 n2 t2 (.slice o2 s2.length c2) q2 s2 w1 h1 h2)
  have HP := Lib.hid (fun w1 h1 h2 => specSameMeaning_any k1 n1 t1 (.slice o1 s1.length c1) q1 s1 k2 n2 t2 (.slice o2 s2.length c2) q2 s2 w1 h1 h2)
  have HL := Lib.hid (fun w1 h1 h2 => likeMeaning_any k1 n1 t1 (.slice o1 s1.length c1) q1 s1 k2 n2 t2 (.slice o2 s2.length c2) q2 s2 w1 h1 h2)
  obtain ⟨tm, htm⟩ : ∃ tm, sameM k1 n1 t1 s1 q1 k2 n2 t2 s2 q2 = tm := ⟨_, rfl⟩
  rw [htm] at HI HP HL
  unfold mgV at HI HP HL ⊢
  clear hb3 hal htm HRa3 HRb3
  go_wp2_with fail
  generalize (w3.alloc (.cells #[.int .i64 k1, .int .i64 n1, .bool t1, .slice o1 s1.length c1, .int .i64 q1] 30)).alloc (.cells #[.int .i64 k2, .int .i64 n2, .bool t2, .slice o2 s2.length c2, .int .i64 q2] 30) = W5 at HM5 HA5 HR5 HU5 HRa HRb HB5 HX1 HX2 hz6 ⊢
  obtain ⟨-, a0, a1, a2, a3, a4⟩ := HX1.out
  obtain ⟨-, b0, b1, b2, b3, b4⟩ := HX2.out
  dsimp only at a0 a1 a2 a3 a4 b0 b1 b2 b3 b4
  obtain ⟨-, m0, m1, m2, m3, m4⟩ := HM5.out
  obtain ⟨-, x0, x1⟩ := HA5.out
  dsimp only at m0 m1 m2 m3 m4
  have sB := Below.refl W5.heap.size W5
  have sL := Nat.le_refl W5.heap.size
  go_region_held3 (fun w' => w'.cell? ⟨w1.heap.size, 0, none⟩ = some (.int .i64 a) ∧ w'.cell? ⟨w1.heap.size, 1, none⟩ = some (.int .i64 b) ∧ w'.cell? ⟨w2.heap.size, 0, none⟩ = some (.int .i64 ok) ∧ w'.cell? ⟨w2.heap.size, 1, none⟩ = some (.int .i64 on) ∧ w'.cell? ⟨w2.heap.size, 2, none⟩ = some (.bool ot) ∧ w'.cell? ⟨w2.heap.size, 3, none⟩ = some (.slice ou1 os.length cu1) ∧ w'.cell? ⟨w2.heap.size, 4, none⟩ = some (.int .i64 oc) ∧ w'.cell? ⟨w3.heap.size, 0, none⟩ = some (.int .i64 k1) ∧ w'.cell? ⟨w3.heap.size, 1, none⟩ = some (.int .i64 n1) ∧ w'.cell? ⟨w3.heap.size, 2, none⟩ = some (.bool t1) ∧ w'.cell? ⟨w3.heap.size, 3, none⟩ = some (.slice o1 s1.length c1) ∧ w'.cell? ⟨w3.heap.size, 4, none⟩ = some (.int .i64 q1) ∧ w'.cell? ⟨(w3.heap.size + 1), 0, none⟩ = some (.int .i64 k2) ∧ w'.cell? ⟨(w3.heap.size + 1), 1, none⟩ = some (.int .i64 n2) ∧ w'.cell? ⟨(w3.heap.size + 1), 2, none⟩ = some (.bool t2) ∧ w'.cell? ⟨(w3.heap.size + 1), 3, none⟩ = some (.slice o2 s2.length c2) ∧ w'.cell? ⟨(w3.heap.size + 1), 4, none⟩ = some (.int .i64 q2) ∧ Below W5.heap.size W5 w' ∧ W5.heap.size ≤ w'.heap.size)
    (((try dsimp only); (repeat' (refine And.intro ?_ ?_)) <;> first | (with_reducible assumption) | omega | ((repeat (first | (with_reducible assumption) | (with_reducible refine held_drewc ?_) | (with_reducible refine held_old ?_ ?_ _) | (with_reducible refine held_setc ?_ ?_ _) | (with_reducible refine Below.alloc ?_ ?_ _) | (with_reducible refine Below.drew ?_) | (with_reducible refine Below.setCell ?_ ?_ _))) <;> first | omega | (simp; done) | (simp; omega)) | (simp; omega)))
    (first | (go_at_call 10; refine (HM.out _ _ ?_).mono ?_; (focus (exact HR5.out.below (show Below W5.heap.size W5 _ by ((repeat (first | (with_reducible assumption) | (with_reducible refine Below.alloc ?_ ?_ _) | (with_reducible refine Below.drew ?_) | (with_reducible exact Below.refl _ _))) <;> first | omega | (simp; done) | (simp; omega))))); rintro e wM ⟨u, rfl, hOM, hbM⟩; obtain ⟨ou, cu, rfl⟩ := hOM.slice; unfold mgV; (try dsimp only); (try clear k_x0 k_x1 k_m0 k_m1 k_m2 k_m3 k_m4 k_a0 k_a1 k_a2 k_a3 k_a4 k_b0 k_b1 k_b2 k_b3 k_b4); have hbM' : Below W5.heap.size W5 wM := held_below (by ((repeat (first | (with_reducible assumption) | (with_reducible refine Below.alloc ?_ ?_ _) | (with_reducible refine Below.drew ?_) | (with_reducible exact Below.refl _ _))) <;> first | omega | (simp; done) | (simp; omega))) hbM (by first | omega | (simp; done) | (simp; omega)); have hswM := hbM'.size; have k_x0 := (hbM'.cell (p := ⟨w1.heap.size, 0, none⟩) (by (try dsimp only); omega)).trans x0; have k_x1 := (hbM'.cell (p := ⟨w1.heap.size, 1, none⟩) (by (try dsimp only); omega)).trans x1; have k_m0 := (hbM'.cell (p := ⟨w2.heap.size, 0, none⟩) (by (try dsimp only); omega)).trans m0; have k_m1 := (hbM'.cell (p := ⟨w2.heap.size, 1, none⟩) (by (try dsimp only); omega)).trans m1; have k_m2 := (hbM'.cell (p := ⟨w2.heap.size, 2, none⟩) (by (try dsimp only); omega)).trans m2; have k_m3 := (hbM'.cell (p := ⟨w2.heap.size, 3, none⟩) (by (try dsimp only); omega)).trans m3; have k_m4 := (hbM'.cell (p := ⟨w2.heap.size, 4, none⟩) (by (try dsimp only); omega)).trans m4; have k_a0 := (hbM'.cell (p := ⟨w3.heap.size, 0, none⟩) (by (try dsimp only); omega)).trans a0; have k_a1 := (hbM'.cell (p := ⟨w3.heap.size, 1, none⟩) (by (try dsimp only); omega)).trans a1; have k_a2 := (hbM'.cell (p := ⟨w3.heap.size, 2, none⟩) (by (try dsimp only); omega)).trans a2; have k_a3 := (hbM'.cell (p := ⟨w3.heap.size, 3, none⟩) (by (try dsimp only); omega)).trans a3; have k_a4 := (hbM'.cell (p := ⟨w3.heap.size, 4, none⟩) (by (try dsimp only); omega)).trans a4; have k_b0 := (hbM'.cell (p := ⟨(w3.heap.size + 1), 0, none⟩) (by (try dsimp only); omega)).trans b0; have k_b1 := (hbM'.cell (p := ⟨(w3.heap.size + 1), 1, none⟩) (by (try dsimp only); omega)).trans b1; have k_b2 := (hbM'.cell (p := ⟨(w3.heap.size + 1), 2, none⟩) (by (try dsimp only); omega)).trans b2; have k_b3 := (hbM'.cell (p := ⟨(w3.heap.size + 1), 3, none⟩) (by (try dsimp only); omega)).trans b3; have k_b4 := (hbM'.cell (p := ⟨(w3.heap.size + 1), 4, none⟩) (by (try dsimp only); omega)).trans b4; have HOM := Lib.hid hOM.row) | (go_at_call_of 9 k1; refine (HL.out _ (HRa.out.below (show Below W5.heap.size W5 _ by ((repeat (first | (with_reducible assumption) | (with_reducible refine Below.alloc ?_ ?_ _) | (with_reducible refine Below.drew ?_) | (with_reducible exact Below.refl _ _))) <;> first | omega | (simp; done) | (simp; omega)))) (HRb.out.below (show Below W5.heap.size W5 _ by ((repeat (first | (with_reducible assumption) | (with_reducible refine Below.alloc ?_ ?_ _) | (with_reducible refine Below.drew ?_) | (with_reducible exact Below.refl _ _))) <;> first | omega | (simp; done) | (simp; omega))))).mono ?_; rintro e wL ⟨rfl, hbL⟩; (try clear k_x0 k_x1 k_m0 k_m1 k_m2 k_m3 k_m4 k_a0 k_a1 k_a2 k_a3 k_a4 k_b0 k_b1 k_b2 k_b3 k_b4); have hbL' : Below W5.heap.size W5 wL := held_below (by ((repeat (first | (with_reducible assumption) | (with_reducible refine Below.alloc ?_ ?_ _) | (with_reducible refine Below.drew ?_) | (with_reducible exact Below.refl _ _))) <;> first | omega | (simp; done) | (simp; omega))) hbL (by first | omega | (simp; done) | (simp; omega)); have hswL := hbL'.size; have k_x0 := (hbL'.cell (p := ⟨w1.heap.size, 0, none⟩) (by (try dsimp only); omega)).trans x0; have k_x1 := (hbL'.cell (p := ⟨w1.heap.size, 1, none⟩) (by (try dsimp only); omega)).trans x1; have k_m0 := (hbL'.cell (p := ⟨w2.heap.size, 0, none⟩) (by (try dsimp only); omega)).trans m0; have k_m1 := (hbL'.cell (p := ⟨w2.heap.size, 1, none⟩) (by (try dsimp only); omega)).trans m1; have k_m2 := (hbL'.cell (p := ⟨w2.heap.size, 2, none⟩) (by (try dsimp only); omega)).trans m2; have k_m3 := (hbL'.cell (p := ⟨w2.heap.size, 3, none⟩) (by (try dsimp only); omega)).trans m3; have k_m4 := (hbL'.cell (p := ⟨w2.heap.size, 4, none⟩) (by (try dsimp only); omega)).trans m4; have k_a0 := (hbL'.cell (p := ⟨w3.heap.size, 0, none⟩) (by (try dsimp only); omega)).trans a0; have k_a1 := (hbL'.cell (p := ⟨w3.heap.size, 1, none⟩) (by (try dsimp only); omega)).trans a1; have k_a2 := (hbL'.cell (p := ⟨w3.heap.size, 2, none⟩) (by (try dsimp only); omega)).trans a2; have k_a3 := (hbL'.cell (p := ⟨w3.heap.size, 3, none⟩) (by (try dsimp only); omega)).trans a3; have k_a4 := (hbL'.cell (p := ⟨w3.heap.size, 4, none⟩) (by (try dsimp only); omega)).trans a4; have k_b0 := (hbL'.cell (p := ⟨(w3.heap.size + 1), 0, none⟩) (by (try dsimp only); omega)).trans b0; have k_b1 := (hbL'.cell (p := ⟨(w3.heap.size + 1), 1, none⟩) (by (try dsimp only); omega)).trans b1; have k_b2 := (hbL'.cell (p := ⟨(w3.heap.size + 1), 2, none⟩) (by (try dsimp only); omega)).trans b2; have k_b3 := (hbL'.cell (p := ⟨(w3.heap.size + 1), 3, none⟩) (by (try dsimp only); omega)).trans b3; have k_b4 := (hbL'.cell (p := ⟨(w3.heap.size + 1), 4, none⟩) (by (try dsimp only); omega)).trans b4) | (go_at_call 9; refine (likeSelf _ _ _ _ _ _ _ _ (HU5.out.below (show Below W5.heap.size W5 _ by ((repeat (first | (with_reducible assumption) | (with_reducible refine Below.alloc ?_ ?_ _) | (with_reducible refine Below.drew ?_) | (with_reducible exact Below.refl _ _))) <;> first | omega | (simp; done) | (simp; omega)))) (HOM.out.below (show Below wM.heap.size wM _ by ((repeat (first | (with_reducible assumption) | (with_reducible refine Below.alloc ?_ ?_ _) | (with_reducible refine Below.drew ?_) | (with_reducible exact Below.refl _ _))) <;> first | omega | (simp; done) | (simp; omega))))).mono ?_; rintro e wK ⟨rfl, hbK⟩; (try clear k_x0 k_x1 k_m0 k_m1 k_m2 k_m3 k_m4 k_a0 k_a1 k_a2 k_a3 k_a4 k_b0 k_b1 k_b2 k_b3 k_b4); have hbK' : Below W5.heap.size W5 wK := held_below (by ((repeat (first | (with_reducible assumption) | (with_reducible refine Below.alloc ?_ ?_ _) | (with_reducible refine Below.drew ?_) | (with_reducible exact Below.refl _ _))) <;> first | omega | (simp; done) | (simp; omega))) hbK (by first | omega | (simp; done) | (simp; omega)); have hswK := hbK'.size; have k_x0 := (hbK'.cell (p := ⟨w1.heap.size, 0, none⟩) (by (try dsimp only); omega)).trans x0; have k_x1 := (hbK'.cell (p := ⟨w1.heap.size, 1, none⟩) (by (try dsimp only); omega)).trans x1; have k_m0 := (hbK'.cell (p := ⟨w2.heap.size, 0, none⟩) (by (try dsimp only); omega)).trans m0; have k_m1 := (hbK'.cell (p := ⟨w2.heap.size, 1, none⟩) (by (try dsimp only); omega)).trans m1; have k_m2 := (hbK'.cell (p := ⟨w2.heap.size, 2, none⟩) (by (try dsimp only); omega)).trans m2; have k_m3 := (hbK'.cell (p := ⟨w2.heap.size, 3, none⟩) (by (try dsimp only); omega)).trans m3; have k_m4 := (hbK'.cell (p := ⟨w2.heap.size, 4, none⟩) (by (try dsimp only); omega)).trans m4; have k_a0 := (hbK'.cell (p := ⟨w3.heap.size, 0, none⟩) (by (try dsimp only); omega)).trans a0; have k_a1 := (hbK'.cell (p := ⟨w3.heap.size, 1, none⟩) (by (try dsimp only); omega)).trans a1; have k_a2 := (hbK'.cell (p := ⟨w3.heap.size, 2, none⟩) (by (try dsimp only); omega)).trans a2; have k_a3 := (hbK'.cell (p := ⟨w3.heap.size, 3, none⟩) (by (try dsimp only); omega)).trans a3; have k_a4 := (hbK'.cell (p := ⟨w3.heap.size, 4, none⟩) (by (try dsimp only); omega)).trans a4; have k_b0 := (hbK'.cell (p := ⟨(w3.heap.size + 1), 0, none⟩) (by (try dsimp only); omega)).trans b0; have k_b1 := (hbK'.cell (p := ⟨(w3.heap.size + 1), 1, none⟩) (by (try dsimp only); omega)).trans b1; have k_b2 := (hbK'.cell (p := ⟨(w3.heap.size + 1), 2, none⟩) (by (try dsimp only); omega)).trans b2; have k_b3 := (hbK'.cell (p := ⟨(w3.heap.size + 1), 3, none⟩) (by (try dsimp only); omega)).trans b3; have k_b4 := (hbK'.cell (p := ⟨(w3.heap.size + 1), 4, none⟩) (by (try dsimp only); omega)).trans b4) | (go_at_call 11; refine (HI.out _ (HRa.out.below (show Below W5.heap.size W5 _ by ((repeat (first | (with_reducible assumption) | (with_reducible refine Below.alloc ?_ ?_ _) | (with_reducible refine Below.drew ?_) | (with_reducible exact Below.refl _ _))) <;> first | omega | (simp; done) | (simp; omega)))) (HRb.out.below (show Below W5.heap.size W5 _ by ((repeat (first | (with_reducible assumption) | (with_reducible refine Below.alloc ?_ ?_ _) | (with_reducible refine Below.drew ?_) | (with_reducible exact Below.refl _ _))) <;> first | omega | (simp; done) | (simp; omega))))).mono ?_; rintro e wI ⟨rfl, hbI⟩; (try clear k_x0 k_x1 k_m0 k_m1 k_m2 k_m3 k_m4 k_a0 k_a1 k_a2 k_a3 k_a4 k_b0 k_b1 k_b2 k_b3 k_b4); have hbI' : Below W5.heap.size W5 wI := held_below (by ((repeat (first | (with_reducible assumption) | (with_reducible refine Below.alloc ?_ ?_ _) | (with_reducible refine Below.drew ?_) | (with_reducible exact Below.refl _ _))) <;> first | omega | (simp; done) | (simp; omega))) hbI (by first | omega | (simp; done) | (simp; omega)); have hswI := hbI'.size; have k_x0 := (hbI'.cell (p := ⟨w1.heap.size, 0, none⟩) (by (try dsimp only); omega)).trans x0; have k_x1 := (hbI'.cell (p := ⟨w1.heap.size, 1, none⟩) (by (try dsimp only); omega)).trans x1; have k_m0 := (hbI'.cell (p := ⟨w2.heap.size, 0, none⟩) (by (try dsimp only); omega)).trans m0; have k_m1 := (hbI'.cell (p := ⟨w2.heap.size, 1, none⟩) (by (try dsimp only); omega)).trans m1; have k_m2 := (hbI'.cell (p := ⟨w2.heap.size, 2, none⟩) (by (try dsimp only); omega)).trans m2; have k_m3 := (hbI'.cell (p := ⟨w2.heap.size, 3, none⟩) (by (try dsimp only); omega)).trans m3; have k_m4 := (hbI'.cell (p := ⟨w2.heap.size, 4, none⟩) (by (try dsimp only); omega)).trans m4; have k_a0 := (hbI'.cell (p := ⟨w3.heap.size, 0, none⟩) (by (try dsimp only); omega)).trans a0; have k_a1 := (hbI'.cell (p := ⟨w3.heap.size, 1, none⟩) (by (try dsimp only); omega)).trans a1; have k_a2 := (hbI'.cell (p := ⟨w3.heap.size, 2, none⟩) (by (try dsimp only); omega)).trans a2; have k_a3 := (hbI'.cell (p := ⟨w3.heap.size, 3, none⟩) (by (try dsimp only); omega)).trans a3; have k_a4 := (hbI'.cell (p := ⟨w3.heap.size, 4, none⟩) (by (try dsimp only); omega)).trans a4; have k_b0 := (hbI'.cell (p := ⟨(w3.heap.size + 1), 0, none⟩) (by (try dsimp only); omega)).trans b0; have k_b1 := (hbI'.cell (p := ⟨(w3.heap.size + 1), 1, none⟩) (by (try dsimp only); omega)).trans b1; have k_b2 := (hbI'.cell (p := ⟨(w3.heap.size + 1), 2, none⟩) (by (try dsimp only); omega)).trans b2; have k_b3 := (hbI'.cell (p := ⟨(w3.heap.size + 1), 3, none⟩) (by (try dsimp only); omega)).trans b3; have k_b4 := (hbI'.cell (p := ⟨(w3.heap.size + 1), 4, none⟩) (by (try dsimp only); omega)).trans b4) | (go_at_call 12; refine (HP.out _ (HRa.out.below (show Below W5.heap.size W5 _ by ((repeat (first | (with_reducible assumption) | (with_reducible refine Below.alloc ?_ ?_ _) | (with_reducible refine Below.drew ?_) | (with_reducible exact Below.refl _ _))) <;> first | omega | (simp; done) | (simp; omega)))) (HRb.out.below (show Below W5.heap.size W5 _ by ((repeat (first | (with_reducible assumption) | (with_reducible refine Below.alloc ?_ ?_ _) | (with_reducible refine Below.drew ?_) | (with_reducible exact Below.refl _ _))) <;> first | omega | (simp; done) | (simp; omega))))).mono ?_; rintro e wP ⟨rfl, hbP⟩; (try clear k_x0 k_x1 k_m0 k_m1 k_m2 k_m3 k_m4 k_a0 k_a1 k_a2 k_a3 k_a4 k_b0 k_b1 k_b2 k_b3 k_b4); have hbP' : Below W5.heap.size W5 wP := held_below (by ((repeat (first | (with_reducible assumption) | (with_reducible refine Below.alloc ?_ ?_ _) | (with_reducible refine Below.drew ?_) | (with_reducible exact Below.refl _ _))) <;> first | omega | (simp; done) | (simp; omega))) hbP (by first | omega | (simp; done) | (simp; omega)); have hswP := hbP'.size; have k_x0 := (hbP'.cell (p := ⟨w1.heap.size, 0, none⟩) (by (try dsimp only); omega)).trans x0; have k_x1 := (hbP'.cell (p := ⟨w1.heap.size, 1, none⟩) (by (try dsimp only); omega)).trans x1; have k_m0 := (hbP'.cell (p := ⟨w2.heap.size, 0, none⟩) (by (try dsimp only); omega)).trans m0; have k_m1 := (hbP'.cell (p := ⟨w2.heap.size, 1, none⟩) (by (try dsimp only); omega)).trans m1; have k_m2 := (hbP'.cell (p := ⟨w2.heap.size, 2, none⟩) (by (try dsimp only); omega)).trans m2; have k_m3 := (hbP'.cell (p := ⟨w2.heap.size, 3, none⟩) (by (try dsimp only); omega)).trans m3; have k_m4 := (hbP'.cell (p := ⟨w2.heap.size, 4, none⟩) (by (try dsimp only); omega)).trans m4; have k_a0 := (hbP'.cell (p := ⟨w3.heap.size, 0, none⟩) (by (try dsimp only); omega)).trans a0; have k_a1 := (hbP'.cell (p := ⟨w3.heap.size, 1, none⟩) (by (try dsimp only); omega)).trans a1; have k_a2 := (hbP'.cell (p := ⟨w3.heap.size, 2, none⟩) (by (try dsimp only); omega)).trans a2; have k_a3 := (hbP'.cell (p := ⟨w3.heap.size, 3, none⟩) (by (try dsimp only); omega)).trans a3; have k_a4 := (hbP'.cell (p := ⟨w3.heap.size, 4, none⟩) (by (try dsimp only); omega)).trans a4; have k_b0 := (hbP'.cell (p := ⟨(w3.heap.size + 1), 0, none⟩) (by (try dsimp only); omega)).trans b0; have k_b1 := (hbP'.cell (p := ⟨(w3.heap.size + 1), 1, none⟩) (by (try dsimp only); omega)).trans b1; have k_b2 := (hbP'.cell (p := ⟨(w3.heap.size + 1), 2, none⟩) (by (try dsimp only); omega)).trans b2; have k_b3 := (hbP'.cell (p := ⟨(w3.heap.size + 1), 3, none⟩) (by (try dsimp only); omega)).trans b3; have k_b4 := (hbP'.cell (p := ⟨(w3.heap.size + 1), 4, none⟩) (by (try dsimp only); omega)).trans b4))
  have HRw := Lib.hid (HR5.out.below hbL')
  have HUw := Lib.hid (HU5.out.below hbL')
  have HMw := Lib.hid (HM5.out.below hbL')
  have HAw := Lib.hid (HA5.out.below hbL')
  have HBw := Lib.hid (HB5.out.trans (hbL'.mono HB5.out.size))
  have hzw : w3.heap.size + 2 ≤ wL.heap.size := by omega
  have hzm : w2.heap.size < w3.heap.size := by omega
  have hzx : w1.heap.size < w2.heap.size := by omega
  clear k_x0 k_x1 k_m0 k_m1 k_m2 k_m3 k_m4 k_a0 k_a1 k_a2 k_a3 k_a4 k_b0 k_b1 k_b2 k_b3 k_b4 x0 x1 m0 m1 m2 m3 m4 a0 a1 a2 a3 a4 b0 b1 b2 b3 b4 HL HI HP HX1 HX2 HM5 HA5 HR5 HU5 HRa HRb HB5 HOM HR1 HR2 HU2 HM2 HA1 HA2 HB1 HB2 sB sL
  clear hbL' hbL hbP' hbP hbI' hbI hbK' hbK hbM' hbM hOM
  obtain ⟨-, m0, m1, m2, m3, m4⟩ := HMw.out
  dsimp only at m0 m1 m2 m3 m4
  have hgo : ∀ wz, Below w.heap.size w wz → True := fun _ _ => trivial
  clear hgo
  by_cases hc : oc = 0
  · subst hc
    by_cases h56 : ss.length ≤ 56
    · have h56' : ¬ (56 : Int) < (ss.length : Int) := by omega
      by_cases h40 : os.length = 40
      · have h40' : ((os.length : Int) == 40) = true := by rw [h40]; rfl
        go_wp2_with fail
        go_ret
        exact ⟨rfl, HBw.out⟩
      · have h40' : ((os.length : Int) == 40) = false := by simp; omega
        have hwl : (wsOf ss).length ≤ 56 := by rw [ws_len]; exact h56
        have hT := HTRY.out rfl hwl
        have hK := HKEEP.out rfl hwl h40
        have eT : [[116, 114, 121], [116, 104, 114, 111, 119]] ++ (wsOf ss ++ [[97, 114, 103]]) = wsOf ([⟨#[116, 114, 121]⟩, ⟨#[116, 104, 114, 111, 119]⟩] ++ ss ++ [⟨#[97, 114, 103]⟩]) := by simp [wsOf, Lib.toList_data]
        have eK : [[107, 101, 101, 112]] ++ (wsOf ss ++ [[115, 97, 121], [56]]) = wsOf ([⟨#[107, 101, 101, 112]⟩] ++ ss ++ [⟨#[115, 97, 121]⟩, ⟨#[56]⟩]) := by simp [wsOf, Lib.toList_data]
        rw [eT] at hT
        rw [eK] at hK
        try dsimp only at hT hK
        have hST : Small ([⟨#[116, 114, 121]⟩, ⟨#[116, 104, 114, 111, 119]⟩] ++ ss ++ [⟨#[97, 114, 103]⟩]) := small_app (small_app (Short.small (fun s hs => by simp at hs; rcases hs with rfl | rfl <;> decide) (by simp)) HS.out (by simp; omega)) (Short.small (fun s hs => by simp at hs; subst hs; decide) (by simp)) (by simp; omega)
        have hSK : Small ([⟨#[107, 101, 101, 112]⟩] ++ ss ++ [⟨#[115, 97, 121]⟩, ⟨#[56]⟩]) := small_app (small_app (Short.small (fun s hs => by simp at hs; subst hs; decide) (by simp)) HS.out (by simp; omega)) (Short.small (fun s hs => by simp at hs; rcases hs with rfl | rfl <;> decide) (by simp)) (by simp; omega)
        have HMT := Lib.hid (fun v' W' (hR' : Row W' v' ([⟨#[116, 114, 121]⟩, ⟨#[116, 104, 114, 111, 119]⟩] ++ ss ++ [⟨#[97, 114, 103]⟩])) (hV' : Vars W') => implMeantQ v' _ a b W' hR' hST hV')
        have HMK := Lib.hid (fun v' W' (hR' : Row W' v' ([⟨#[107, 101, 101, 112]⟩] ++ ss ++ [⟨#[115, 97, 121]⟩, ⟨#[56]⟩])) (hV' : Vars W') => implMeantQ v' _ a b W' hR' hSK hV')
        rw [hT] at HMT
        rw [hK] at HMK
        obtain ⟨sk, hsk⟩ : ∃ sk, os ++ [(⟨#[56]⟩ : ByteArray)] = sk := ⟨_, rfl⟩
        rw [hsk] at HMK
        have HSK := Lib.hid hsk
        clear hsk
        clear hT hK eT eK hST hSK HTRY HKEEP HM HGD HCC HBG h40 hgW hgl hz1 hz2 hz3 hz4 hz5 hz6
        go_wp2_with fail
        have HR := HRw
        obtain ⟨-, x0, x1⟩ := HAw.out
        go_cut [8] (fun s wx => CutQ wL.heap.size wL ⟨ok, on, false, os, 0⟩ s wx)
        case first =>
          as_aux_lemma =>
            have sB := Below.refl wL.heap.size wL
            have sL := Nat.le_refl wL.heap.size
            go_region_held3 (fun w' => w'.cell? ⟨w1.heap.size, 0, none⟩ = some (.int .i64 a) ∧ w'.cell? ⟨w1.heap.size, 1, none⟩ = some (.int .i64 b) ∧ Below wL.heap.size wL w' ∧ wL.heap.size ≤ w'.heap.size)
              (((try dsimp only); (repeat' (refine And.intro ?_ ?_)) <;> first | (with_reducible assumption) | omega | ((repeat (first | (with_reducible assumption) | (with_reducible refine held_drewc ?_) | (with_reducible refine held_old ?_ ?_ _) | (with_reducible refine held_setc ?_ ?_ _) | (with_reducible refine Below.alloc ?_ ?_ _) | (with_reducible refine Below.drew ?_) | (with_reducible refine Below.setCell ?_ ?_ _))) <;> first | omega | (simp; done) | (simp; omega)) | (simp; omega)))
              (first | (refine step_appS (B := wL.heap.size) (xs := [⟨#[116, 114, 121]⟩, ⟨#[116, 104, 114, 111, 119]⟩]) (ys := ss) (.tmp 78) (.tmp 79) rfl rfl rfl (by first | rfl | (simp only [Act.eval]; rfl)) (by first | rfl | (simp only [Act.eval]; rfl)) (by ((repeat (first | (with_reducible refine lit2' _ _ _ _ _ ?_ ?_) | (with_reducible refine ows_drew ?_) | (with_reducible refine ows_alloc ?_ _))) <;> (first | omega | (simp; done) | (simp; omega)))) (HR.out.below (show Below wL.heap.size wL _ by ((repeat (first | (with_reducible assumption) | (with_reducible refine Below.alloc ?_ ?_ _) | (with_reducible refine Below.drew ?_) | (with_reducible exact Below.refl _ _))) <;> first | omega | (simp; done) | (simp; omega)))) (by simp; omega) (by (first | omega | (simp; done) | (simp; omega))) ?_; intro g3 c3 w3 hO3 hb3 hx3 hd3; (try simp at hd3); have hlt3 := ows_lt hO3; (first | (with_reducible have hLq := boxL_at hb3 hL) | (with_reducible have hLq := boxL_at hb3 (boxL_drew hL)) | (with_reducible have hLq := boxL_at hb3 (boxL_alloc hL _)) | (with_reducible have hLq := boxL_at hb3 (boxL_drew (boxL_alloc hL _))) | (with_reducible have hLq := boxL_at hb3 (boxL_alloc (boxL_alloc hL _) _)) | (with_reducible have hLq := boxL_at hb3 (boxL_drew (boxL_alloc (boxL_alloc hL _) _))) | (with_reducible have hLq := boxL_at hb3 (BoxL.new _ _ _ _ _ _ _)) | (with_reducible have hLq := boxL_at hb3 (boxL_drew (BoxL.new _ _ _ _ _ _ _))) | (with_reducible have hLq := boxL_at hb3 (boxL_alloc (BoxL.new _ _ _ _ _ _ _) _)) | (with_reducible have hLq := boxL_at hb3 (boxL_drew (boxL_alloc (BoxL.new _ _ _ _ _ _ _) _))) | (with_reducible have hLq := boxL_at hb3 (boxL_alloc (boxL_alloc (BoxL.new _ _ _ _ _ _ _) _) _)) | (with_reducible have hLq := boxL_at hb3 (boxL_drew (boxL_alloc (boxL_alloc (BoxL.new _ _ _ _ _ _ _) _) _))) | skip); (try (have hL := boxL_aside hx3 (by (first | omega | (simp; done) | (simp; omega))) hLq; clear hLq)); (first | (with_reducible have hRq := row_at 1 [⟨#[97, 114, 103]⟩] hb3 (lit1r _ _)) | (with_reducible have hRq := row_at 1 [⟨#[97, 114, 103]⟩] hb3 (row_drew (lit1r _ _))) | (with_reducible have hRq := row_at 1 [⟨#[97, 114, 103]⟩] hb3 (row_alloc (lit1r _ _) _)) | (with_reducible have hRq := row_at 1 [⟨#[97, 114, 103]⟩] hb3 (row_drew (row_alloc (lit1r _ _) _))) | (with_reducible have hRq := row_at 1 [⟨#[97, 114, 103]⟩] hb3 (row_alloc (row_alloc (lit1r _ _) _) _)) | (with_reducible have hRq := row_at 1 [⟨#[97, 114, 103]⟩] hb3 (row_drew (row_alloc (row_alloc (lit1r _ _) _) _))) | skip); (try (have hRw := row_aside hx3 (by (first | omega | (simp; done) | (simp; omega))) hRq; clear hRq; (try simp at hRw)));  have hw3 : Below wL.heap.size wL w3 := Below.trans (by ((repeat (first | (with_reducible assumption) | (with_reducible refine Below.alloc ?_ ?_ _) | (with_reducible refine Below.drew ?_) | (with_reducible exact Below.refl _ _))) <;> first | omega | (simp; done) | (simp; omega))) hb3; have hsz3 := hb3.size; (try simp at hsz3); have hs3 := hw3.size; have t1 := (hw3.cell (p := ⟨w1.heap.size, 0, none⟩) (by (try dsimp only); omega)).trans x0; have t2 := (hw3.cell (p := ⟨w1.heap.size, 1, none⟩) (by (try dsimp only); omega)).trans x1) | (refine step_appS (B := wL.heap.size) (xs := [⟨#[116, 114, 121]⟩, ⟨#[116, 104, 114, 111, 119]⟩] ++ ss) (ys := [⟨#[97, 114, 103]⟩]) (.tmp 80) (.tmp 81) rfl rfl rfl (by first | rfl | (simp only [Act.eval]; rfl)) (by first | rfl | (simp only [Act.eval]; rfl)) (by ((repeat (first | (with_reducible exact hO3) | (with_reducible refine ows_drew ?_) | (with_reducible refine ows_alloc ?_ _))))) (by ((repeat (first | (with_reducible exact hRw) | (with_reducible refine lit1r' _ _ _ ?_) | (with_reducible refine row_drew ?_) | (with_reducible refine row_alloc ?_ _))) <;> (first | omega | (simp; done) | (simp; omega)))) (by simp; omega) (by (first | omega | (simp; done) | (simp; omega))) ?_; intro g4 c4 w4 hO4 hb4 hx4 hd4; (try simp at hd4); have hlt4 := ows_lt hO4; (first | (with_reducible have hLq := boxL_at hb4 hL) | (with_reducible have hLq := boxL_at hb4 (boxL_drew hL)) | (with_reducible have hLq := boxL_at hb4 (boxL_alloc hL _)) | (with_reducible have hLq := boxL_at hb4 (boxL_drew (boxL_alloc hL _))) | (with_reducible have hLq := boxL_at hb4 (boxL_alloc (boxL_alloc hL _) _)) | (with_reducible have hLq := boxL_at hb4 (boxL_drew (boxL_alloc (boxL_alloc hL _) _))) | (with_reducible have hLq := boxL_at hb4 (BoxL.new _ _ _ _ _ _ _)) | (with_reducible have hLq := boxL_at hb4 (boxL_drew (BoxL.new _ _ _ _ _ _ _))) | (with_reducible have hLq := boxL_at hb4 (boxL_alloc (BoxL.new _ _ _ _ _ _ _) _)) | (with_reducible have hLq := boxL_at hb4 (boxL_drew (boxL_alloc (BoxL.new _ _ _ _ _ _ _) _))) | (with_reducible have hLq := boxL_at hb4 (boxL_alloc (boxL_alloc (BoxL.new _ _ _ _ _ _ _) _) _)) | (with_reducible have hLq := boxL_at hb4 (boxL_drew (boxL_alloc (boxL_alloc (BoxL.new _ _ _ _ _ _ _) _) _))) | skip); (try (have hL := boxL_aside hx4 (by (first | omega | (simp; done) | (simp; omega))) hLq; clear hLq));  have hw4 : Below wL.heap.size wL w4 := Below.trans (by ((repeat (first | (with_reducible assumption) | (with_reducible refine Below.alloc ?_ ?_ _) | (with_reducible refine Below.drew ?_) | (with_reducible exact Below.refl _ _))) <;> first | omega | (simp; done) | (simp; omega))) hb4; have hsz4 := hb4.size; (try simp at hsz4); have hs4 := hw4.size; have t1 := (hw4.cell (p := ⟨w1.heap.size, 0, none⟩) (by (try dsimp only); omega)).trans x0; have t2 := (hw4.cell (p := ⟨w1.heap.size, 1, none⟩) (by (try dsimp only); omega)).trans x1) | (go_at_call 7; refine (HMT.out _ _ ?_ (HVV.out _ (HBw.out.trans (Below.mono (show Below wL.heap.size wL _ by ((repeat (first | (with_reducible assumption) | (with_reducible refine Below.alloc ?_ ?_ _) | (with_reducible refine Below.drew ?_) | (with_reducible exact Below.refl _ _))) <;> first | omega | (simp; done) | (simp; omega))) HBw.out.size)))).mono ?_; (focus (refine OwS.row (B := wL.heap.size) ?_; ((repeat (first | (with_reducible exact hO4) | (with_reducible refine ows_drew ?_) | (with_reducible refine ows_alloc ?_ _)))))); rintro e wM ⟨u, rfl, hOM, hbM⟩; obtain ⟨ou, cu, rfl⟩ := hOM.slice; have hbM2 : Below wL.heap.size wL wM := held_below (by ((repeat (first | (with_reducible assumption) | (with_reducible refine Below.alloc ?_ ?_ _) | (with_reducible refine Below.drew ?_) | (with_reducible exact Below.refl _ _))) <;> first | omega | (simp; done) | (simp; omega))) hbM (by (first | omega | (simp; done) | (simp; omega))); have hsM := hbM2.size; have hOB : OwU wM wL.heap.size _ _ := OwU.base hOM (by (first | omega | (simp; done) | (simp; omega))); (first | (with_reducible have hLq := boxL_at hbM hL) | (with_reducible have hLq := boxL_at hbM (boxL_drew hL)) | (with_reducible have hLq := boxL_at hbM (boxL_alloc hL _)) | (with_reducible have hLq := boxL_at hbM (boxL_drew (boxL_alloc hL _))) | (with_reducible have hLq := boxL_at hbM (boxL_alloc (boxL_alloc hL _) _)) | (with_reducible have hLq := boxL_at hbM (boxL_drew (boxL_alloc (boxL_alloc hL _) _))) | (with_reducible have hLq := boxL_at hbM (BoxL.new _ _ _ _ _ _ _)) | (with_reducible have hLq := boxL_at hbM (boxL_drew (BoxL.new _ _ _ _ _ _ _))) | (with_reducible have hLq := boxL_at hbM (boxL_alloc (BoxL.new _ _ _ _ _ _ _) _)) | (with_reducible have hLq := boxL_at hbM (boxL_drew (boxL_alloc (BoxL.new _ _ _ _ _ _ _) _))) | (with_reducible have hLq := boxL_at hbM (boxL_alloc (boxL_alloc (BoxL.new _ _ _ _ _ _ _) _) _)) | (with_reducible have hLq := boxL_at hbM (boxL_drew (boxL_alloc (boxL_alloc (BoxL.new _ _ _ _ _ _ _) _) _))) | skip);  (try (have hLL := boxL_ne hbM hOM hLq; clear hLq; obtain ⟨hne, hL⟩ := hLL; (try simp at hL); (try simp at hne))); (try (have hL2 := hL; obtain ⟨hgl, ⟨⟨b0, z0⟩, ⟨b1, z1⟩, ⟨b2, z2⟩, ⟨b3, z3⟩, ⟨b4, z4⟩⟩, zf⟩ := hL2)); unfold mgV; (try dsimp only); have t1 := (hbM2.cell (p := ⟨w1.heap.size, 0, none⟩) (by (try dsimp only); omega)).trans x0; have t2 := (hbM2.cell (p := ⟨w1.heap.size, 1, none⟩) (by (try dsimp only); omega)).trans x1))
            all_goals
              go_wp2_with fail
              go_meet
              go_light
              first | with_reducible exact cutQ_after hbM2 hsM hOB | (with_reducible refine cutQ_ahead hL ?_ hne hbM2 hOB; omega)
        case rest =>
          obtain ⟨wz, rfl⟩ : ∃ w0 : World, w0 = wc := ⟨_, rfl⟩
          obtain ⟨gb, uc, rfl, hgn, hbx, HUc, hne0, hbc⟩ := hcut
          dsimp only at HUc
          obtain ⟨oc1, cc1, rfl⟩ := HUc.out.slice
          have HCz := Lib.hid hbx
          have HUcz := Lib.hid HUc.out.row
          have HRz := Lib.hid (HR.out.below hbc)
          have HUz := Lib.hid (HUw.out.below hbc)
          have HMz := Lib.hid (HMw.out.below hbc)
          have HAz := Lib.hid (HAw.out.below hbc)
          have HBz := Lib.hid (HBw.out.trans (hbc.mono HBw.out.size))
          have hzz := hbc.size
          have hgz : gb < wz.heap.size := hbx.1
          clear hbx HUc hne0 hbc HR HRw HUw HMw HAw HMT x0 x1 m0 m1 m2 m3 m4
          obtain ⟨-, x0, x1⟩ := HAz.out
          have HR := HRz
          go_wp2_with fail
          go_cut [9] (fun s wx => CutQ wz.heap.size wz ⟨ok, on, ot, sk, 0⟩ s wx)
          case first =>
            as_aux_lemma =>
              have sB := Below.refl wz.heap.size wz
              have sL := Nat.le_refl wz.heap.size
              go_region_held3 (fun w' => w'.cell? ⟨w1.heap.size, 0, none⟩ = some (.int .i64 a) ∧ w'.cell? ⟨w1.heap.size, 1, none⟩ = some (.int .i64 b) ∧ Below wz.heap.size wz w' ∧ wz.heap.size ≤ w'.heap.size)
                (((try dsimp only); (repeat' (refine And.intro ?_ ?_)) <;> first | (with_reducible assumption) | omega | ((repeat (first | (with_reducible assumption) | (with_reducible refine held_drewc ?_) | (with_reducible refine held_old ?_ ?_ _) | (with_reducible refine held_setc ?_ ?_ _) | (with_reducible refine Below.alloc ?_ ?_ _) | (with_reducible refine Below.drew ?_) | (with_reducible refine Below.setCell ?_ ?_ _))) <;> first | omega | (simp; done) | (simp; omega)) | (simp; omega)))
                (first | (refine step_appS (B := wz.heap.size) (xs := [⟨#[107, 101, 101, 112]⟩]) (ys := ss) (.tmp 85) (.tmp 86) rfl rfl rfl (by first | rfl | (simp only [Act.eval]; rfl)) (by first | rfl | (simp only [Act.eval]; rfl)) (by ((repeat (first | (with_reducible refine lit1' _ _ _ _ ?_ ?_) | (with_reducible refine ows_drew ?_) | (with_reducible refine ows_alloc ?_ _))) <;> (first | omega | (simp; done) | (simp; omega)))) (HR.out.below (show Below wz.heap.size wz _ by ((repeat (first | (with_reducible assumption) | (with_reducible refine Below.alloc ?_ ?_ _) | (with_reducible refine Below.drew ?_) | (with_reducible exact Below.refl _ _))) <;> first | omega | (simp; done) | (simp; omega)))) (by simp; omega) (by (first | omega | (simp; done) | (simp; omega))) ?_; intro g3 c3 w3 hO3 hb3 hx3 hd3; (try simp at hd3); have hlt3 := ows_lt hO3; (first | (with_reducible have hLq := boxL_at hb3 hL) | (with_reducible have hLq := boxL_at hb3 (boxL_drew hL)) | (with_reducible have hLq := boxL_at hb3 (boxL_alloc hL _)) | (with_reducible have hLq := boxL_at hb3 (boxL_drew (boxL_alloc hL _))) | (with_reducible have hLq := boxL_at hb3 (boxL_alloc (boxL_alloc hL _) _)) | (with_reducible have hLq := boxL_at hb3 (boxL_drew (boxL_alloc (boxL_alloc hL _) _))) | (with_reducible have hLq := boxL_at hb3 (BoxL.new _ _ _ _ _ _ _)) | (with_reducible have hLq := boxL_at hb3 (boxL_drew (BoxL.new _ _ _ _ _ _ _))) | (with_reducible have hLq := boxL_at hb3 (boxL_alloc (BoxL.new _ _ _ _ _ _ _) _)) | (with_reducible have hLq := boxL_at hb3 (boxL_drew (boxL_alloc (BoxL.new _ _ _ _ _ _ _) _))) | (with_reducible have hLq := boxL_at hb3 (boxL_alloc (boxL_alloc (BoxL.new _ _ _ _ _ _ _) _) _)) | (with_reducible have hLq := boxL_at hb3 (boxL_drew (boxL_alloc (boxL_alloc (BoxL.new _ _ _ _ _ _ _) _) _))) | skip); (try (have hL := boxL_aside hx3 (by (first | omega | (simp; done) | (simp; omega))) hLq; clear hLq)); (first | (with_reducible have hRq := row_at 2 [⟨#[115, 97, 121]⟩, ⟨#[56]⟩] hb3 (lit2r _ _ _)) | (with_reducible have hRq := row_at 2 [⟨#[115, 97, 121]⟩, ⟨#[56]⟩] hb3 (row_drew (lit2r _ _ _))) | (with_reducible have hRq := row_at 2 [⟨#[115, 97, 121]⟩, ⟨#[56]⟩] hb3 (row_alloc (lit2r _ _ _) _)) | (with_reducible have hRq := row_at 2 [⟨#[115, 97, 121]⟩, ⟨#[56]⟩] hb3 (row_drew (row_alloc (lit2r _ _ _) _))) | (with_reducible have hRq := row_at 2 [⟨#[115, 97, 121]⟩, ⟨#[56]⟩] hb3 (row_alloc (row_alloc (lit2r _ _ _) _) _)) | (with_reducible have hRq := row_at 2 [⟨#[115, 97, 121]⟩, ⟨#[56]⟩] hb3 (row_drew (row_alloc (row_alloc (lit2r _ _ _) _) _))) | skip); (try (have hRw := row_aside hx3 (by (first | omega | (simp; done) | (simp; omega))) hRq; clear hRq; (try simp at hRw)));  have hw3 : Below wz.heap.size wz w3 := Below.trans (by ((repeat (first | (with_reducible assumption) | (with_reducible refine Below.alloc ?_ ?_ _) | (with_reducible refine Below.drew ?_) | (with_reducible exact Below.refl _ _))) <;> first | omega | (simp; done) | (simp; omega))) hb3; have hsz3 := hb3.size; (try simp at hsz3); have hs3 := hw3.size; have t1 := (hw3.cell (p := ⟨w1.heap.size, 0, none⟩) (by (try dsimp only); omega)).trans x0; have t2 := (hw3.cell (p := ⟨w1.heap.size, 1, none⟩) (by (try dsimp only); omega)).trans x1) | (refine step_appS (B := wz.heap.size) (xs := [⟨#[107, 101, 101, 112]⟩] ++ ss) (ys := [⟨#[115, 97, 121]⟩, ⟨#[56]⟩]) (.tmp 87) (.tmp 88) rfl rfl rfl (by first | rfl | (simp only [Act.eval]; rfl)) (by first | rfl | (simp only [Act.eval]; rfl)) (by ((repeat (first | (with_reducible exact hO3) | (with_reducible refine ows_drew ?_) | (with_reducible refine ows_alloc ?_ _))))) (by ((repeat (first | (with_reducible exact hRw) | (with_reducible refine lit2r' _ _ _ _ ?_) | (with_reducible refine row_drew ?_) | (with_reducible refine row_alloc ?_ _))) <;> (first | omega | (simp; done) | (simp; omega)))) (by simp; omega) (by (first | omega | (simp; done) | (simp; omega))) ?_; intro g4 c4 w4 hO4 hb4 hx4 hd4; (try simp at hd4); have hlt4 := ows_lt hO4; (first | (with_reducible have hLq := boxL_at hb4 hL) | (with_reducible have hLq := boxL_at hb4 (boxL_drew hL)) | (with_reducible have hLq := boxL_at hb4 (boxL_alloc hL _)) | (with_reducible have hLq := boxL_at hb4 (boxL_drew (boxL_alloc hL _))) | (with_reducible have hLq := boxL_at hb4 (boxL_alloc (boxL_alloc hL _) _)) | (with_reducible have hLq := boxL_at hb4 (boxL_drew (boxL_alloc (boxL_alloc hL _) _))) | (with_reducible have hLq := boxL_at hb4 (BoxL.new _ _ _ _ _ _ _)) | (with_reducible have hLq := boxL_at hb4 (boxL_drew (BoxL.new _ _ _ _ _ _ _))) | (with_reducible have hLq := boxL_at hb4 (boxL_alloc (BoxL.new _ _ _ _ _ _ _) _)) | (with_reducible have hLq := boxL_at hb4 (boxL_drew (boxL_alloc (BoxL.new _ _ _ _ _ _ _) _))) | (with_reducible have hLq := boxL_at hb4 (boxL_alloc (boxL_alloc (BoxL.new _ _ _ _ _ _ _) _) _)) | (with_reducible have hLq := boxL_at hb4 (boxL_drew (boxL_alloc (boxL_alloc (BoxL.new _ _ _ _ _ _ _) _) _))) | skip); (try (have hL := boxL_aside hx4 (by (first | omega | (simp; done) | (simp; omega))) hLq; clear hLq));  have hw4 : Below wz.heap.size wz w4 := Below.trans (by ((repeat (first | (with_reducible assumption) | (with_reducible refine Below.alloc ?_ ?_ _) | (with_reducible refine Below.drew ?_) | (with_reducible exact Below.refl _ _))) <;> first | omega | (simp; done) | (simp; omega))) hb4; have hsz4 := hb4.size; (try simp at hsz4); have hs4 := hw4.size; have t1 := (hw4.cell (p := ⟨w1.heap.size, 0, none⟩) (by (try dsimp only); omega)).trans x0; have t2 := (hw4.cell (p := ⟨w1.heap.size, 1, none⟩) (by (try dsimp only); omega)).trans x1) | (go_at_call 7; refine (HMK.out _ _ ?_ (HVV.out _ (HBz.out.trans (Below.mono (show Below wz.heap.size wz _ by ((repeat (first | (with_reducible assumption) | (with_reducible refine Below.alloc ?_ ?_ _) | (with_reducible refine Below.drew ?_) | (with_reducible exact Below.refl _ _))) <;> first | omega | (simp; done) | (simp; omega))) HBz.out.size)))).mono ?_; (focus (refine OwS.row (B := wz.heap.size) ?_; ((repeat (first | (with_reducible exact hO4) | (with_reducible refine ows_drew ?_) | (with_reducible refine ows_alloc ?_ _)))))); rintro e wM ⟨u, rfl, hOM, hbM⟩; obtain ⟨ou, cu, rfl⟩ := hOM.slice; have hbM2 : Below wz.heap.size wz wM := held_below (by ((repeat (first | (with_reducible assumption) | (with_reducible refine Below.alloc ?_ ?_ _) | (with_reducible refine Below.drew ?_) | (with_reducible exact Below.refl _ _))) <;> first | omega | (simp; done) | (simp; omega))) hbM (by (first | omega | (simp; done) | (simp; omega))); have hsM := hbM2.size; have hOB : OwU wM wz.heap.size _ _ := OwU.base hOM (by (first | omega | (simp; done) | (simp; omega))); (first | (with_reducible have hLq := boxL_at hbM hL) | (with_reducible have hLq := boxL_at hbM (boxL_drew hL)) | (with_reducible have hLq := boxL_at hbM (boxL_alloc hL _)) | (with_reducible have hLq := boxL_at hbM (boxL_drew (boxL_alloc hL _))) | (with_reducible have hLq := boxL_at hbM (boxL_alloc (boxL_alloc hL _) _)) | (with_reducible have hLq := boxL_at hbM (boxL_drew (boxL_alloc (boxL_alloc hL _) _))) | (with_reducible have hLq := boxL_at hbM (BoxL.new _ _ _ _ _ _ _)) | (with_reducible have hLq := boxL_at hbM (boxL_drew (BoxL.new _ _ _ _ _ _ _))) | (with_reducible have hLq := boxL_at hbM (boxL_alloc (BoxL.new _ _ _ _ _ _ _) _)) | (with_reducible have hLq := boxL_at hbM (boxL_drew (boxL_alloc (BoxL.new _ _ _ _ _ _ _) _))) | (with_reducible have hLq := boxL_at hbM (boxL_alloc (boxL_alloc (BoxL.new _ _ _ _ _ _ _) _) _)) | (with_reducible have hLq := boxL_at hbM (boxL_drew (boxL_alloc (boxL_alloc (BoxL.new _ _ _ _ _ _ _) _) _))) | skip);  (try (have hLL := boxL_ne hbM hOM hLq; clear hLq; obtain ⟨hne, hL⟩ := hLL; (try simp at hL); (try simp at hne))); (try (have hL2 := hL; obtain ⟨hgl, ⟨⟨b0, z0⟩, ⟨b1, z1⟩, ⟨b2, z2⟩, ⟨b3, z3⟩, ⟨b4, z4⟩⟩, zf⟩ := hL2)); unfold mgV; (try dsimp only); have t1 := (hbM2.cell (p := ⟨w1.heap.size, 0, none⟩) (by (try dsimp only); omega)).trans x0; have t2 := (hbM2.cell (p := ⟨w1.heap.size, 1, none⟩) (by (try dsimp only); omega)).trans x1))
              all_goals
                go_wp2_with fail
                go_meet
                go_light
                first | with_reducible exact cutQ_after hbM2 hsM hOB | (with_reducible refine cutQ_ahead hL ?_ hne hbM2 hOB; omega)
          case rest =>
          obtain ⟨wy, rfl⟩ : ∃ w0 : World, w0 = wc := ⟨_, rfl⟩
          obtain ⟨gk, uk, rfl, hgn2, hbx, HUk, hne2, hbc⟩ := hcut
          have hsk := HSK.out
          subst hsk
          dsimp only at HUk
          have hks : OwS wy wz.heap.size uk (os ++ [⟨#[56]⟩]) := by
            rcases HUk.out.is with ⟨-, h0⟩ | h
            · exact absurd h0 (by simp)
            · exact h
          obtain ⟨hk, ck, hku, hkl, hkm, hkB, hklt, hkc⟩ := hks.form
          subst hku
          rw [List.length_append, List.length_singleton] at hkl hkc hbx hks
          have hk8 := (hkc os.length (by omega)).1
          have hk8' : (os ++ [(⟨#[56]⟩ : ByteArray)]).getD os.length ByteArray.empty = ⟨#[56]⟩ := by simp [List.getD]
          rw [hk8'] at hk8
          have HRk := Lib.hid (show Row wy (.slice (some ⟨hk, 0, none⟩) os.length ck) os from ⟨_, ck, rfl, by omega, hkm, fun i hi => ⟨hk, 0, rfl, hklt, by
            have h := (hkc i (by omega)).1
            have e : (os ++ [(⟨#[56]⟩ : ByteArray)]).getD i ByteArray.empty = os.getD i ByteArray.empty := by simp [List.getD, List.getElem?_append_left hi]
            rw [e] at h
            rw [Nat.zero_add]
            exact h⟩⟩)
          have HCy := Lib.hid (HCz.out.below hbc)
          have HUcy := Lib.hid (HUcz.out.below hbc)
          have HUy := Lib.hid (HUz.out.below hbc)
          have HMy := Lib.hid (HMz.out.below hbc)
          have HBy := Lib.hid (HBz.out.trans (hbc.mono HBz.out.size))
          have hzy := hbc.size
          obtain ⟨hky, r0, r1, r2, r3, r4⟩ := hbx
          obtain ⟨hcy, s0, s1, s2, s3, s4⟩ := HCy.out
          obtain ⟨hmy, m0, m1, m2, m3, m4⟩ := HMy.out
          dsimp only at r0 r1 r2 r3 r4 s0 s1 s2 s3 s4 m0 m1 m2 m3 m4
          clear hkc hk8' HUk hne2 hbc HR HRz HUz HMz HAz HCz HUcz HMK x0 x1 hks
          go_wp2_with fail
          refine (likeTextsQ_any _ _ os os wy HUcy.out HUy.out).mono ?_
          rintro e wx ⟨rfl, hbx⟩
          rw [same_refl]
          have r0 := (hbx.cell (p := ⟨gk, 0, none⟩) hky).trans r0
          have r1 := (hbx.cell (p := ⟨gk, 1, none⟩) hky).trans r1
          have r2 := (hbx.cell (p := ⟨gk, 2, none⟩) hky).trans r2
          have r3 := (hbx.cell (p := ⟨gk, 3, none⟩) hky).trans r3
          have r4 := (hbx.cell (p := ⟨gk, 4, none⟩) hky).trans r4
          have m0 := (hbx.cell (p := ⟨w2.heap.size, 0, none⟩) hmy).trans m0
          have m1 := (hbx.cell (p := ⟨w2.heap.size, 1, none⟩) hmy).trans m1
          have m2 := (hbx.cell (p := ⟨w2.heap.size, 2, none⟩) hmy).trans m2
          have m3 := (hbx.cell (p := ⟨w2.heap.size, 3, none⟩) hmy).trans m3
          have m4 := (hbx.cell (p := ⟨w2.heap.size, 4, none⟩) hmy).trans m4
          have hk8 := (hbx.cell (p := ⟨hk, os.length, none⟩) hklt).trans hk8
          have HRx := Lib.hid (HRk.out.below hbx)
          have HUx := Lib.hid (HUy.out.below hbx)
          have HBx := Lib.hid (HBy.out.trans (hbx.mono HBy.out.size))
          have hzx := hbx.size
          have hky2 := Nat.lt_of_lt_of_le hky hzx
          have hmy2 := Nat.lt_of_lt_of_le hmy hzx
          have hkl2 := Nat.lt_of_lt_of_le hklt hzx
          have hn0 : (0 : Int) ≤ (os.length : Int) := by omega
          have hn1 : (os.length : Int) ≤ (ck : Int) := by omega
          have hn2 : (os.length : Int) < (os.length : Int) + 1 := by omega
          have hn3 : os.length ≤ 40 := hoz
          have hn4 : IntKind.i64.wrap ((os.length : Int) + 1) = (os.length : Int) + 1 := by rw [IntKind.wrap_i64]; omega
          unfold maxLen at hkm
          clear hbx s0 s1 s2 s3 s4 HRk HUy HUcy HCy HMy HBy HBz HBw hcy
          go_wp2_with fail
          have cL := fun q t => Calls.regrown_of (d := q) (os := t) (likeTextsQ_any _ _ os os (grow (redrawn wx q) t) (HRx.out.below (below_regrown wx q t)) (HUx.out.below (below_regrown wx q t)))
          simp only [same_refl] at cL
          have m0' := cell_regrown m0
          have m1' := cell_regrown m1
          have m2' := cell_regrown m2
          have m3' := cell_regrown m3
          have m4' := cell_regrown m4
          have r0' := cell_regrown r0
          have r1' := cell_regrown r1
          have r2' := cell_regrown r2
          have r3' := cell_regrown r3
          have r4' := cell_regrown r4
          have k8' := cell_regrown hk8
          refine wp_region_quiet_below (by kernel_rfl) (by kernel_rfl) ?_
          repeat (go_big_quiet_step (first | (go_at_call 13; exact cL _ _)))
          refine wpQuiet_nil ?_
          intro w9 hw'
          obtain ⟨⟨dq, osq⟩, hw2⟩ := hw'
          have HQ := below_regrown wx dq osq
          rw [← hw2] at HQ
          have HEND := Lib.hid (HBx.out.trans (HQ.mono HBx.out.size))
          clear hw2 HQ cL m0 m1 m2 m3 m4 r0 r1 r2 r3 r4 hk8 m0' m1' m2' m3' m4' r0' r1' r2' r3' r4' k8'
          go_wp2_with fail
          go_ret
          exact ⟨rfl, HEND.out⟩
    · have h56' : (56 : Int) < (ss.length : Int) := by omega
      go_wp2_with fail
      go_ret
      exact ⟨rfl, HBw.out⟩
  · have hc' : (oc == 0) = false := by simpa using hc
    obtain ⟨-, -, ht0, hs0⟩ := HGD.out.err hc
    dsimp only at ht0 hs0
    subst ht0 hs0
    go_wp2_with fail
    go_ret
    exact ⟨rfl, HBw.out⟩

end L2
end Go.Proofs.YtkhjbhkbknennaaGreatDoor
