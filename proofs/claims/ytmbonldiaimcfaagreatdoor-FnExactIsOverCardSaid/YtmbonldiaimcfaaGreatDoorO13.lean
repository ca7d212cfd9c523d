/-
  The laws on PileOk and IsOver (written by wip/gen_o13.py).
-/
import Derived.Test.YtmbonldiaimcfaaGreatDoorO12
import Derived.Test.YtmbonldiaimcfaaGreatDoorO9
namespace Go.Proofs.YtmbonldiaimcfaaGreatDoor
open Go.RowKit Go.Sort
namespace L2
open L1

set_option maxRecDepth 100000 in
set_option maxHeartbeats 8000000 in
theorem lawPileOk (x : Pil) (cv pv qv sv : Value) (w : World) (hR : RowsPi w x cv pv qv sv) (hz : SizedPi x) (hV : Vars w) :
    Calls Tryz.prog 5 #[pilV x cv pv qv sv] w fun e w' => e = .returned (.bool true) ∧ Below w.heap.size w w' := by
  have HZ := fun w1 (hb : Below w.heap.size w w1) => szPile_any x cv pv qv sv 1048576 (by omega) (by omega) w1 (hR.below hb) hz
  have HT := fun (hf : FitPi x) w1 (hb : Below w.heap.size w w1) => toPile_any x cv pv qv sv w1 (hR.below hb) hf
  have HSP := fun (hf : FitPi x) cv pv qv sv w1 h => specPileOk_any x cv pv qv sv w1 h hf
  have HIP := fun (hf : FitPi x) cv pv qv sv w1 (hb : Below w.heap.size w w1) h => implPileOk_any x cv pv qv sv w1 h hf (hV.later hb)
  have HE := fun cv pv qv sv cv' pv' qv' sv' w1 h h' => eqPile_any x cv pv qv sv cv' pv' qv' sv' w1 h h'
  obtain ⟨s0, l0, c0, s1, l1, c1, s2, l2, c2, s3, l3, c3, e0, e1, e2, e3⟩ := hR.form
  subst e0 e1 e2 e3
  obtain ⟨tt, htt⟩ : ∃ tt, (okPil x) = tt := ⟨_, rfl⟩
  rw [htt] at HSP HIP
  obtain ⟨c, m, a, ak, an, vk, vn, ps, qs, sd⟩ := x
  unfold CopiedPi at HT
  unfold pilV at HZ HT HSP HIP HE ⊢
  simp only at HZ HT HSP HIP HE ⊢
  replace HZ := Lib.hid HZ
  replace HT := Lib.hid HT
  replace HSP := Lib.hid HSP
  replace HIP := Lib.hid HIP
  replace HE := Lib.hid HE
  clear hR hz hV htt
  go_enter Tryz.func5, Tryz.ntmps5
  go_wp2_with fail
  refine (HZ.out _ (by (repeat (first | (with_reducible refine Below.alloc ?_ ?_ _) | (with_reducible refine Below.setCell ?_ ?_ _) | (with_reducible refine Below.drew ?_) | (with_reducible exact Below.refl _ _) | (with_reducible refine Below.trans ?_ (Below.mono (by assumption) ?_)))) <;> (first | omega | (dsimp only; omega) | (simp; done) | (simp; omega) | (simp at *; omega)))).mono ?_
  rintro e w1 ⟨hb1, rfl | ⟨z1, hx0, hx1, rfl, hS⟩⟩
  · have HB1 : Hid (Below w.heap.size w w1) := Lib.hid (by (repeat (first | (with_reducible refine Below.alloc ?_ ?_ _) | (with_reducible refine Below.setCell ?_ ?_ _) | (with_reducible refine Below.drew ?_) | (with_reducible exact Below.refl _ _) | (with_reducible refine Below.trans ?_ (Below.mono (by assumption) ?_)))) <;> (first | omega | (dsimp only; omega) | (simp; done) | (simp; omega) | (simp at *; omega)))
    clear hb1
    go_wp2_with fail
    go_ret
    exact ⟨rfl, HB1.out⟩
  · have hs1 := hb1.size
    obtain ⟨hc1, hf1⟩ := bcell hb1
    simp at hs1
    have z0 : w.heap.size < w1.heap.size := by omega
    have hxn : ¬ z1 < 0 := by omega
    have HS := Lib.hid hS
    have HB1 : Hid (Below w.heap.size w w1) := Lib.hid (by clear hc1 hf1; (repeat (first | (with_reducible refine Below.alloc ?_ ?_ _) | (with_reducible refine Below.setCell ?_ ?_ _) | (with_reducible refine Below.drew ?_) | (with_reducible exact Below.refl _ _) | (with_reducible refine Below.trans ?_ (Below.mono (by assumption) ?_)))) <;> (first | omega | (dsimp only; omega) | (simp; done) | (simp; omega) | (simp at *; omega)))
    clear hS hb1
    have e0 : w1.cell? ⟨w.heap.size, 0, none⟩ = some (.slice s0 l0 c0) := by simp [hc1, go_sem]
    have e1 : w1.cell? ⟨w.heap.size, 1, none⟩ = some (.int .i64 m) := by simp [hc1, go_sem]
    have e2 : w1.cell? ⟨w.heap.size, 2, none⟩ = some (.int .i64 a) := by simp [hc1, go_sem]
    have e3 : w1.cell? ⟨w.heap.size, 3, none⟩ = some (.int .i64 ak) := by simp [hc1, go_sem]
    have e4 : w1.cell? ⟨w.heap.size, 4, none⟩ = some (.int .i64 an) := by simp [hc1, go_sem]
    have e5 : w1.cell? ⟨w.heap.size, 5, none⟩ = some (.int .i64 vk) := by simp [hc1, go_sem]
    have e6 : w1.cell? ⟨w.heap.size, 6, none⟩ = some (.int .i64 vn) := by simp [hc1, go_sem]
    have e7 : w1.cell? ⟨w.heap.size, 7, none⟩ = some (.slice s1 l1 c1) := by simp [hc1, go_sem]
    have e8 : w1.cell? ⟨w.heap.size, 8, none⟩ = some (.slice s2 l2 c2) := by simp [hc1, go_sem]
    have e9 : w1.cell? ⟨w.heap.size, 9, none⟩ = some (.slice s3 l3 c3) := by simp [hc1, go_sem]
    clear HZ hx0 hx1 hc1 hf1
    go_wp2_with fail
    refine (HT.out HS.out _ HB1.out).mono ?_
    rintro e w2 ⟨XA, YA, ZA, TA, rfl, hRA, hb2⟩
    have HB2 := Lib.hid (HB1.out.trans (hb2.mono HB1.out.size))
    have hs2 := hb2.size
    obtain ⟨hc2, hf2⟩ := bcell hb2
    clear hb2
    go_wp2_with fail
    refine (HSP.out HS.out _ _ _ _ _ hRA).mono ?_
    rintro e w3 ⟨rfl, hb3⟩
    have HB3 := Lib.hid (HB2.out.trans (hb3.mono HB2.out.size))
    have hs3 := hb3.size
    obtain ⟨hc3, hf3⟩ := bcell hb3
    have z3 : w.heap.size < w3.heap.size := by omega
    have z2 : w.heap.size < w2.heap.size := by omega
    clear hb3 hRA
    go_wp2_with fail
    refine (HT.out HS.out _ HB3.out).mono ?_
    rintro e w6 ⟨XC, YC, ZC, TC, rfl, hRC, hb6⟩
    have HB6 := Lib.hid (HB3.out.trans (hb6.mono HB3.out.size))
    have hs6 := hb6.size
    obtain ⟨hc6, hf6⟩ := bcell hb6
    have z60 : w.heap.size < w6.heap.size := by omega
    have HRC := Lib.hid hRC
    clear hb6 hRC
    go_wp2_with fail
    have hal := (Below.refl w6.heap.size w6).alloc (Nat.le_refl _) (.cells #[.slice (some ⟨XC, 0, none⟩) c.length c.length, .int .i64 m, .int .i64 a, .int .i64 ak, .int .i64 an, .int .i64 vk, .int .i64 vn, .slice (some ⟨YC, 0, none⟩) ps.length ps.length, .slice (some ⟨ZC, 0, none⟩) qs.length qs.length, .slice (some ⟨TC, 0, none⟩) sd.length sd.length] 58)
    have HAL := Lib.hid hal
    clear hal
    refine (HIP.out HS.out _ _ _ _ _ (HB6.out.trans (HAL.out.mono HB6.out.size)) (HRC.out.below HAL.out)).mono ?_
    rintro e w8 ⟨rfl, hb8⟩
    have hb8' : Below w6.heap.size w6 w8 := HAL.out.trans (hb8.mono HAL.out.size)
    have HB8 := Lib.hid (HB6.out.trans (hb8'.mono HB6.out.size))
    obtain ⟨hc8, hf8⟩ := bcell hb8
    have hz8 := hb8.size
    simp at hz8
    have z80 : w.heap.size < w8.heap.size := by omega
    have z82 : w6.heap.size < w8.heap.size := by omega
    have HRC8 := Lib.hid (HRC.out.below hb8')
    clear hb8 hb8'
    have p0 : w8.cell? ⟨w.heap.size, 0, none⟩ = some (.slice s0 l0 c0) := by simp [hc8, hc6, hc3, hc2, z0, z2, z3, z60, e0, go_sem]
    have p1 : w8.cell? ⟨w.heap.size, 1, none⟩ = some (.int .i64 m) := by simp [hc8, hc6, hc3, hc2, z0, z2, z3, z60, e1, go_sem]
    have p2 : w8.cell? ⟨w.heap.size, 2, none⟩ = some (.int .i64 a) := by simp [hc8, hc6, hc3, hc2, z0, z2, z3, z60, e2, go_sem]
    have p3 : w8.cell? ⟨w.heap.size, 3, none⟩ = some (.int .i64 ak) := by simp [hc8, hc6, hc3, hc2, z0, z2, z3, z60, e3, go_sem]
    have p4 : w8.cell? ⟨w.heap.size, 4, none⟩ = some (.int .i64 an) := by simp [hc8, hc6, hc3, hc2, z0, z2, z3, z60, e4, go_sem]
    have p5 : w8.cell? ⟨w.heap.size, 5, none⟩ = some (.int .i64 vk) := by simp [hc8, hc6, hc3, hc2, z0, z2, z3, z60, e5, go_sem]
    have p6 : w8.cell? ⟨w.heap.size, 6, none⟩ = some (.int .i64 vn) := by simp [hc8, hc6, hc3, hc2, z0, z2, z3, z60, e6, go_sem]
    have p7 : w8.cell? ⟨w.heap.size, 7, none⟩ = some (.slice s1 l1 c1) := by simp [hc8, hc6, hc3, hc2, z0, z2, z3, z60, e7, go_sem]
    have p8 : w8.cell? ⟨w.heap.size, 8, none⟩ = some (.slice s2 l2 c2) := by simp [hc8, hc6, hc3, hc2, z0, z2, z3, z60, e8, go_sem]
    have p9 : w8.cell? ⟨w.heap.size, 9, none⟩ = some (.slice s3 l3 c3) := by simp [hc8, hc6, hc3, hc2, z0, z2, z3, z60, e9, go_sem]
    have r0 : w8.cell? ⟨w6.heap.size, 0, none⟩ = some (.slice (some ⟨XC, 0, none⟩) c.length c.length) := by simp [hc8, go_sem]
    have r1 : w8.cell? ⟨w6.heap.size, 1, none⟩ = some (.int .i64 m) := by simp [hc8, go_sem]
    have r2 : w8.cell? ⟨w6.heap.size, 2, none⟩ = some (.int .i64 a) := by simp [hc8, go_sem]
    have r3 : w8.cell? ⟨w6.heap.size, 3, none⟩ = some (.int .i64 ak) := by simp [hc8, go_sem]
    have r4 : w8.cell? ⟨w6.heap.size, 4, none⟩ = some (.int .i64 an) := by simp [hc8, go_sem]
    have r5 : w8.cell? ⟨w6.heap.size, 5, none⟩ = some (.int .i64 vk) := by simp [hc8, go_sem]
    have r6 : w8.cell? ⟨w6.heap.size, 6, none⟩ = some (.int .i64 vn) := by simp [hc8, go_sem]
    have r7 : w8.cell? ⟨w6.heap.size, 7, none⟩ = some (.slice (some ⟨YC, 0, none⟩) ps.length ps.length) := by simp [hc8, go_sem]
    have r8 : w8.cell? ⟨w6.heap.size, 8, none⟩ = some (.slice (some ⟨ZC, 0, none⟩) qs.length qs.length) := by simp [hc8, go_sem]
    have r9 : w8.cell? ⟨w6.heap.size, 9, none⟩ = some (.slice (some ⟨TC, 0, none⟩) sd.length sd.length) := by simp [hc8, go_sem]
    clear hc2 hf2 hc3 hf3 hc6 hf6 hc8 hf8 e0 e1 e2 e3 e4 e5 e6 e7 e8 e9
    cases tt
    all_goals
      go_wp2_with fail
      go_region_with (first | (go_at_call_of 31 (Value.int IntKind.i64 m); refine (HT.out HS.out _ HB8.out.drew).mono ?_; rintro e w9 ⟨XE, YE, ZE, TE, rfl, hRE, hb9'⟩; have hb9 := below_undrew2 hb9'; clear hb9'; have hs9 := hb9.size; obtain ⟨hc9, hf9⟩ := bcell hb9; have z90 : w.heap.size < w9.heap.size := (by omega); have z92 : w6.heap.size < w9.heap.size := (by omega)) | (go_at_call 33; refine (HE.out _ _ _ _ _ _ _ _ _ (HRC8.out.below hb9) hRE).mono ?_; rintro e wa ⟨rfl, hba⟩; have hsa := hba.size))
      all_goals
        have HB9 := Lib.hid (HB8.out.trans (hb9.mono HB8.out.size))
        have HBA := Lib.hid (HB9.out.trans (hba.mono HB9.out.size))
        clear hb9 hba
        go_wp2_with fail
        go_ret
        exact ⟨rfl, HBA.out⟩

set_option maxRecDepth 100000 in
set_option maxHeartbeats 8000000 in
theorem lawIsOver (x : Pil) (cv pv qv sv : Value) (w : World) (hR : RowsPi w x cv pv qv sv) (hz : SizedPi x) (hV : Vars w) :
    Calls Tryz.prog 6 #[pilV x cv pv qv sv] w fun e w' => e = .returned (.bool true) ∧ Below w.heap.size w w' := by
  have HZ := fun w1 (hb : Below w.heap.size w w1) => szPile_any x cv pv qv sv 1048576 (by omega) (by omega) w1 (hR.below hb) hz
  have HT := fun (hf : FitPi x) w1 (hb : Below w.heap.size w w1) => toPile_any x cv pv qv sv w1 (hR.below hb) hf
  have HSP := fun (hf : FitPi x) cv pv qv sv w1 h => specIsOver_any x cv pv qv sv w1 h hf
  have HIP := fun (hf : FitPi x) cv pv qv sv w1 (hb : Below w.heap.size w w1) h => implIsOver_any x cv pv qv sv w1 h hf (hV.later hb)
  have HE := fun cv pv qv sv cv' pv' qv' sv' w1 h h' => eqPile_any x cv pv qv sv cv' pv' qv' sv' w1 h h'
  obtain ⟨s0, l0, c0, s1, l1, c1, s2, l2, c2, s3, l3, c3, e0, e1, e2, e3⟩ := hR.form
  subst e0 e1 e2 e3
  obtain ⟨tt, htt⟩ : ∃ tt, (okPil x && decide (3 ≤ x.m)) = tt := ⟨_, rfl⟩
  rw [htt] at HSP HIP
  obtain ⟨c, m, a, ak, an, vk, vn, ps, qs, sd⟩ := x
  unfold CopiedPi at HT
  unfold pilV at HZ HT HSP HIP HE ⊢
  simp only at HZ HT HSP HIP HE ⊢
  replace HZ := Lib.hid HZ
  replace HT := Lib.hid HT
  replace HSP := Lib.hid HSP
  replace HIP := Lib.hid HIP
  replace HE := Lib.hid HE
  clear hR hz hV htt
  go_enter Tryz.func6, Tryz.ntmps6
  go_wp2_with fail
  refine (HZ.out _ (by (repeat (first | (with_reducible refine Below.alloc ?_ ?_ _) | (with_reducible refine Below.setCell ?_ ?_ _) | (with_reducible refine Below.drew ?_) | (with_reducible exact Below.refl _ _) | (with_reducible refine Below.trans ?_ (Below.mono (by assumption) ?_)))) <;> (first | omega | (dsimp only; omega) | (simp; done) | (simp; omega) | (simp at *; omega)))).mono ?_
  rintro e w1 ⟨hb1, rfl | ⟨z1, hx0, hx1, rfl, hS⟩⟩
  · have HB1 : Hid (Below w.heap.size w w1) := Lib.hid (by (repeat (first | (with_reducible refine Below.alloc ?_ ?_ _) | (with_reducible refine Below.setCell ?_ ?_ _) | (with_reducible refine Below.drew ?_) | (with_reducible exact Below.refl _ _) | (with_reducible refine Below.trans ?_ (Below.mono (by assumption) ?_)))) <;> (first | omega | (dsimp only; omega) | (simp; done) | (simp; omega) | (simp at *; omega)))
    clear hb1
    go_wp2_with fail
    go_ret
    exact ⟨rfl, HB1.out⟩
  · have hs1 := hb1.size
    obtain ⟨hc1, hf1⟩ := bcell hb1
    simp at hs1
    have z0 : w.heap.size < w1.heap.size := by omega
    have hxn : ¬ z1 < 0 := by omega
    have HS := Lib.hid hS
    have HB1 : Hid (Below w.heap.size w w1) := Lib.hid (by clear hc1 hf1; (repeat (first | (with_reducible refine Below.alloc ?_ ?_ _) | (with_reducible refine Below.setCell ?_ ?_ _) | (with_reducible refine Below.drew ?_) | (with_reducible exact Below.refl _ _) | (with_reducible refine Below.trans ?_ (Below.mono (by assumption) ?_)))) <;> (first | omega | (dsimp only; omega) | (simp; done) | (simp; omega) | (simp at *; omega)))
    clear hS hb1
    have e0 : w1.cell? ⟨w.heap.size, 0, none⟩ = some (.slice s0 l0 c0) := by simp [hc1, go_sem]
    have e1 : w1.cell? ⟨w.heap.size, 1, none⟩ = some (.int .i64 m) := by simp [hc1, go_sem]
    have e2 : w1.cell? ⟨w.heap.size, 2, none⟩ = some (.int .i64 a) := by simp [hc1, go_sem]
    have e3 : w1.cell? ⟨w.heap.size, 3, none⟩ = some (.int .i64 ak) := by simp [hc1, go_sem]
    have e4 : w1.cell? ⟨w.heap.size, 4, none⟩ = some (.int .i64 an) := by simp [hc1, go_sem]
    have e5 : w1.cell? ⟨w.heap.size, 5, none⟩ = some (.int .i64 vk) := by simp [hc1, go_sem]
    have e6 : w1.cell? ⟨w.heap.size, 6, none⟩ = some (.int .i64 vn) := by simp [hc1, go_sem]
    have e7 : w1.cell? ⟨w.heap.size, 7, none⟩ = some (.slice s1 l1 c1) := by simp [hc1, go_sem]
    have e8 : w1.cell? ⟨w.heap.size, 8, none⟩ = some (.slice s2 l2 c2) := by simp [hc1, go_sem]
    have e9 : w1.cell? ⟨w.heap.size, 9, none⟩ = some (.slice s3 l3 c3) := by simp [hc1, go_sem]
    clear HZ hx0 hx1 hc1 hf1
    go_wp2_with fail
    refine (HT.out HS.out _ HB1.out).mono ?_
    rintro e w2 ⟨XA, YA, ZA, TA, rfl, hRA, hb2⟩
    have HB2 := Lib.hid (HB1.out.trans (hb2.mono HB1.out.size))
    have hs2 := hb2.size
    obtain ⟨hc2, hf2⟩ := bcell hb2
    clear hb2
    go_wp2_with fail
    refine (HSP.out HS.out _ _ _ _ _ hRA).mono ?_
    rintro e w3 ⟨rfl, hb3⟩
    have HB3 := Lib.hid (HB2.out.trans (hb3.mono HB2.out.size))
    have hs3 := hb3.size
    obtain ⟨hc3, hf3⟩ := bcell hb3
    have z3 : w.heap.size < w3.heap.size := by omega
    have z2 : w.heap.size < w2.heap.size := by omega
    clear hb3 hRA
    go_wp2_with fail
    refine (HT.out HS.out _ HB3.out).mono ?_
    rintro e w6 ⟨XC, YC, ZC, TC, rfl, hRC, hb6⟩
    have HB6 := Lib.hid (HB3.out.trans (hb6.mono HB3.out.size))
    have hs6 := hb6.size
    obtain ⟨hc6, hf6⟩ := bcell hb6
    have z60 : w.heap.size < w6.heap.size := by omega
    have HRC := Lib.hid hRC
    clear hb6 hRC
    go_wp2_with fail
    have hal := (Below.refl w6.heap.size w6).alloc (Nat.le_refl _) (.cells #[.slice (some ⟨XC, 0, none⟩) c.length c.length, .int .i64 m, .int .i64 a, .int .i64 ak, .int .i64 an, .int .i64 vk, .int .i64 vn, .slice (some ⟨YC, 0, none⟩) ps.length ps.length, .slice (some ⟨ZC, 0, none⟩) qs.length qs.length, .slice (some ⟨TC, 0, none⟩) sd.length sd.length] 58)
    have HAL := Lib.hid hal
    clear hal
    refine (HIP.out HS.out _ _ _ _ _ (HB6.out.trans (HAL.out.mono HB6.out.size)) (HRC.out.below HAL.out)).mono ?_
    rintro e w8 ⟨rfl, hb8⟩
    have hb8' : Below w6.heap.size w6 w8 := HAL.out.trans (hb8.mono HAL.out.size)
    have HB8 := Lib.hid (HB6.out.trans (hb8'.mono HB6.out.size))
    obtain ⟨hc8, hf8⟩ := bcell hb8
    have hz8 := hb8.size
    simp at hz8
    have z80 : w.heap.size < w8.heap.size := by omega
    have z82 : w6.heap.size < w8.heap.size := by omega
    have HRC8 := Lib.hid (HRC.out.below hb8')
    clear hb8 hb8'
    have p0 : w8.cell? ⟨w.heap.size, 0, none⟩ = some (.slice s0 l0 c0) := by simp [hc8, hc6, hc3, hc2, z0, z2, z3, z60, e0, go_sem]
    have p1 : w8.cell? ⟨w.heap.size, 1, none⟩ = some (.int .i64 m) := by simp [hc8, hc6, hc3, hc2, z0, z2, z3, z60, e1, go_sem]
    have p2 : w8.cell? ⟨w.heap.size, 2, none⟩ = some (.int .i64 a) := by simp [hc8, hc6, hc3, hc2, z0, z2, z3, z60, e2, go_sem]
    have p3 : w8.cell? ⟨w.heap.size, 3, none⟩ = some (.int .i64 ak) := by simp [hc8, hc6, hc3, hc2, z0, z2, z3, z60, e3, go_sem]
    have p4 : w8.cell? ⟨w.heap.size, 4, none⟩ = some (.int .i64 an) := by simp [hc8, hc6, hc3, hc2, z0, z2, z3, z60, e4, go_sem]
    have p5 : w8.cell? ⟨w.heap.size, 5, none⟩ = some (.int .i64 vk) := by simp [hc8, hc6, hc3, hc2, z0, z2, z3, z60, e5, go_sem]
    have p6 : w8.cell? ⟨w.heap.size, 6, none⟩ = some (.int .i64 vn) := by simp [hc8, hc6, hc3, hc2, z0, z2, z3, z60, e6, go_sem]
    have p7 : w8.cell? ⟨w.heap.size, 7, none⟩ = some (.slice s1 l1 c1) := by simp [hc8, hc6, hc3, hc2, z0, z2, z3, z60, e7, go_sem]
    have p8 : w8.cell? ⟨w.heap.size, 8, none⟩ = some (.slice s2 l2 c2) := by simp [hc8, hc6, hc3, hc2, z0, z2, z3, z60, e8, go_sem]
    have p9 : w8.cell? ⟨w.heap.size, 9, none⟩ = some (.slice s3 l3 c3) := by simp [hc8, hc6, hc3, hc2, z0, z2, z3, z60, e9, go_sem]
    have r0 : w8.cell? ⟨w6.heap.size, 0, none⟩ = some (.slice (some ⟨XC, 0, none⟩) c.length c.length) := by simp [hc8, go_sem]
    have r1 : w8.cell? ⟨w6.heap.size, 1, none⟩ = some (.int .i64 m) := by simp [hc8, go_sem]
    have r2 : w8.cell? ⟨w6.heap.size, 2, none⟩ = some (.int .i64 a) := by simp [hc8, go_sem]
    have r3 : w8.cell? ⟨w6.heap.size, 3, none⟩ = some (.int .i64 ak) := by simp [hc8, go_sem]
    have r4 : w8.cell? ⟨w6.heap.size, 4, none⟩ = some (.int .i64 an) := by simp [hc8, go_sem]
    have r5 : w8.cell? ⟨w6.heap.size, 5, none⟩ = some (.int .i64 vk) := by simp [hc8, go_sem]
    have r6 : w8.cell? ⟨w6.heap.size, 6, none⟩ = some (.int .i64 vn) := by simp [hc8, go_sem]
    have r7 : w8.cell? ⟨w6.heap.size, 7, none⟩ = some (.slice (some ⟨YC, 0, none⟩) ps.length ps.length) := by simp [hc8, go_sem]
    have r8 : w8.cell? ⟨w6.heap.size, 8, none⟩ = some (.slice (some ⟨ZC, 0, none⟩) qs.length qs.length) := by simp [hc8, go_sem]
    have r9 : w8.cell? ⟨w6.heap.size, 9, none⟩ = some (.slice (some ⟨TC, 0, none⟩) sd.length sd.length) := by simp [hc8, go_sem]
    clear hc2 hf2 hc3 hf3 hc6 hf6 hc8 hf8 e0 e1 e2 e3 e4 e5 e6 e7 e8 e9
    cases tt
    all_goals
      go_wp2_with fail
      go_region_with (first | (go_at_call_of 31 (Value.int IntKind.i64 m); refine (HT.out HS.out _ HB8.out.drew).mono ?_; rintro e w9 ⟨XE, YE, ZE, TE, rfl, hRE, hb9'⟩; have hb9 := below_undrew2 hb9'; clear hb9'; have hs9 := hb9.size; obtain ⟨hc9, hf9⟩ := bcell hb9; have z90 : w.heap.size < w9.heap.size := (by omega); have z92 : w6.heap.size < w9.heap.size := (by omega)) | (go_at_call 33; refine (HE.out _ _ _ _ _ _ _ _ _ (HRC8.out.below hb9) hRE).mono ?_; rintro e wa ⟨rfl, hba⟩; have hsa := hba.size))
      all_goals
        have HB9 := Lib.hid (HB8.out.trans (hb9.mono HB8.out.size))
        have HBA := Lib.hid (HB9.out.trans (hba.mono HB9.out.size))
        clear hb9 hba
        go_wp2_with fail
        go_ret
        exact ⟨rfl, HBA.out⟩

end L2
end Go.Proofs.YtmbonldiaimcfaaGreatDoor
