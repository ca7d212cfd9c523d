/-
  The law on SamePile: copied, measured, held against each other (written by wip/gen_o5.py).
-/
import Derived.Test.YtmbonldiaimcfaaO4
namespace Go.Proofs.Ytmbonldiaimcfaa
open Go.RowKit Go.Sort
namespace L2
open L1

set_option maxRecDepth 100000 in
set_option maxHeartbeats 8000000 in
theorem lawSamePile (x : Pil) (cv pv qv sv : Value) (y : Pil) (cv' pv' qv' sv' : Value) (w : World) (hR : RowsPi w x cv pv qv sv) (hz : SizedPi x) (hR' : RowsPi w y cv' pv' qv' sv') (hz' : SizedPi y) :
    Calls Try.prog 3 #[pilV x cv pv qv sv, pilV y cv' pv' qv' sv'] w fun e w' => e = .returned (.bool true) ∧ Below w.heap.size w w' := by
  have HZ := fun w1 (hb : Below w.heap.size w w1) => szPile_any x cv pv qv sv 1048576 (by omega) (by omega) w1 (hR.below hb) hz
  have HZ' := fun w1 z (h0 : 0 ≤ z) (h1 : z ≤ 1048576) (hb : Below w.heap.size w w1) => szPile_any y cv' pv' qv' sv' z h0 h1 w1 (hR'.below hb) hz'
  have HT := fun (hf : FitPi x) w1 (hb : Below w.heap.size w w1) => toPile_any x cv pv qv sv w1 (hR.below hb) hf
  have HT' := fun (hf : FitPi y) w1 (hb : Below w.heap.size w w1) => toPile_any y cv' pv' qv' sv' w1 (hR'.below hb) hf
  have HSP := fun cv pv qv sv cv' pv' qv' sv' w1 h h' => specSamePile_any x y cv pv qv sv cv' pv' qv' sv' w1 h h'
  have HIP := fun cv pv qv sv cv' pv' qv' sv' w1 h h' => implSamePile_any x y cv pv qv sv cv' pv' qv' sv' w1 h h'
  have HE := fun cv pv qv sv cv' pv' qv' sv' w1 h h' => eqPile_any x cv pv qv sv cv' pv' qv' sv' w1 h h'
  have HE' := fun cv pv qv sv cv' pv' qv' sv' w1 h h' => eqPile_any y cv pv qv sv cv' pv' qv' sv' w1 h h'
  obtain ⟨s0, l0, c0, s1, l1, c1, s2, l2, c2, s3, l3, c3, e0, e1, e2, e3⟩ := hR.form
  obtain ⟨t0, m0, d0, t1, m1, d1, t2, m2, d2, t3, m3, d3, f0, f1, f2, f3⟩ := hR'.form
  subst e0 e1 e2 e3 f0 f1 f2 f3
  obtain ⟨c, m, a, ak, an, vk, vn, ps, qs, sd⟩ := x
  obtain ⟨c', m', a', ak', an', vk', vn', ps', qs', sd'⟩ := y
  unfold CopiedPi at HT HT'
  unfold pilV at HZ HZ' HT HT' HSP HIP HE HE' ⊢
  simp only at HZ HZ' HT HT' HSP HIP HE HE' ⊢
  replace HZ := Lib.hid HZ
  replace HZ' := Lib.hid HZ'
  replace HT := Lib.hid HT
  replace HT' := Lib.hid HT'
  replace HSP := Lib.hid HSP
  replace HIP := Lib.hid HIP
  replace HE := Lib.hid HE
  replace HE' := Lib.hid HE'
  clear hR hR' hz hz'
  go_enter Try.func3, Try.ntmps3
  go_wp2_with fail
  refine (HZ.out _ (by (repeat (first | (with_reducible refine Below.alloc ?_ ?_ _) | (with_reducible refine Below.setCell ?_ ?_ _) | (with_reducible refine Below.drew ?_) | (with_reducible exact Below.refl _ _) | (with_reducible refine Below.trans ?_ (Below.mono (by assumption) ?_)))) <;> (first | omega | (dsimp only; omega) | (simp; done) | (simp; omega) | (simp at *; omega)))).mono ?_
  rintro e w1 ⟨hb1, rfl | ⟨z1, hx0, hx1, rfl, hS⟩⟩
  · have HB1 : Hid (Below w.heap.size w w1) := Lib.hid (by (repeat (first | (with_reducible refine Below.alloc ?_ ?_ _) | (with_reducible refine Below.setCell ?_ ?_ _) | (with_reducible refine Below.drew ?_) | (with_reducible exact Below.refl _ _) | (with_reducible refine Below.trans ?_ (Below.mono (by assumption) ?_)))) <;> (first | omega | (dsimp only; omega) | (simp; done) | (simp; omega) | (simp at *; omega)))
    clear hb1
    go_wp2_with fail
    go_ret
    exact ⟨rfl, HB1.out⟩
  · have hs1 := hb1.size
    obtain ⟨hc1, hf1⟩ := bcell hb1
    simp at hs1
    have z0 : w.heap.size < w1.heap.size := by omega
    have z1' : w.heap.size + 1 < w1.heap.size := by omega
    have hxn : ¬ z1 < 0 := by omega
    have HS := Lib.hid hS
    have HB1 : Hid (Below w.heap.size w w1) := Lib.hid (by clear hc1 hf1; (repeat (first | (with_reducible refine Below.alloc ?_ ?_ _) | (with_reducible refine Below.setCell ?_ ?_ _) | (with_reducible refine Below.drew ?_) | (with_reducible exact Below.refl _ _) | (with_reducible refine Below.trans ?_ (Below.mono (by assumption) ?_)))) <;> (first | omega | (dsimp only; omega) | (simp; done) | (simp; omega) | (simp at *; omega)))
    clear hS hb1
    go_wp2_with fail
    refine (HZ'.out _ z1 hx0 hx1 HB1.out).mono ?_
    rintro e w2 ⟨hb2, rfl | ⟨z2, hy0, hy1, rfl, hS'⟩⟩
    · have HB2 : Hid (Below w.heap.size w w2) := Lib.hid (HB1.out.trans (hb2.mono HB1.out.size))
      clear hb2
      go_wp2_with fail
      go_ret
      exact ⟨rfl, HB2.out⟩
    · have hs2 := hb2.size
      obtain ⟨hc2, hf2⟩ := bcell hb2
      have z20 : w.heap.size < w2.heap.size := by omega
      have z21 : w.heap.size + 1 < w2.heap.size := by omega
      have hyn : ¬ z2 < 0 := by omega
      have HS' := Lib.hid hS'
      have HB2 : Hid (Below w.heap.size w w2) := Lib.hid (HB1.out.trans (hb2.mono HB1.out.size))
      clear hS' hb2
      have e0 : w2.cell? ⟨w.heap.size, 0, none⟩ = some (.slice s0 l0 c0) := by simp [hc2, hc1, z0, go_sem]
      have e1 : w2.cell? ⟨w.heap.size, 1, none⟩ = some (.int .i64 m) := by simp [hc2, hc1, z0, go_sem]
      have e2 : w2.cell? ⟨w.heap.size, 2, none⟩ = some (.int .i64 a) := by simp [hc2, hc1, z0, go_sem]
      have e3 : w2.cell? ⟨w.heap.size, 3, none⟩ = some (.int .i64 ak) := by simp [hc2, hc1, z0, go_sem]
      have e4 : w2.cell? ⟨w.heap.size, 4, none⟩ = some (.int .i64 an) := by simp [hc2, hc1, z0, go_sem]
      have e5 : w2.cell? ⟨w.heap.size, 5, none⟩ = some (.int .i64 vk) := by simp [hc2, hc1, z0, go_sem]
      have e6 : w2.cell? ⟨w.heap.size, 6, none⟩ = some (.int .i64 vn) := by simp [hc2, hc1, z0, go_sem]
      have e7 : w2.cell? ⟨w.heap.size, 7, none⟩ = some (.slice s1 l1 c1) := by simp [hc2, hc1, z0, go_sem]
      have e8 : w2.cell? ⟨w.heap.size, 8, none⟩ = some (.slice s2 l2 c2) := by simp [hc2, hc1, z0, go_sem]
      have e9 : w2.cell? ⟨w.heap.size, 9, none⟩ = some (.slice s3 l3 c3) := by simp [hc2, hc1, z0, go_sem]
      have g0 : w2.cell? ⟨w.heap.size + 1, 0, none⟩ = some (.slice t0 m0 d0) := by simp [hc2, hc1, z1', go_sem]
      have g1 : w2.cell? ⟨w.heap.size + 1, 1, none⟩ = some (.int .i64 m') := by simp [hc2, hc1, z1', go_sem]
      have g2 : w2.cell? ⟨w.heap.size + 1, 2, none⟩ = some (.int .i64 a') := by simp [hc2, hc1, z1', go_sem]
      have g3 : w2.cell? ⟨w.heap.size + 1, 3, none⟩ = some (.int .i64 ak') := by simp [hc2, hc1, z1', go_sem]
      have g4 : w2.cell? ⟨w.heap.size + 1, 4, none⟩ = some (.int .i64 an') := by simp [hc2, hc1, z1', go_sem]
      have g5 : w2.cell? ⟨w.heap.size + 1, 5, none⟩ = some (.int .i64 vk') := by simp [hc2, hc1, z1', go_sem]
      have g6 : w2.cell? ⟨w.heap.size + 1, 6, none⟩ = some (.int .i64 vn') := by simp [hc2, hc1, z1', go_sem]
      have g7 : w2.cell? ⟨w.heap.size + 1, 7, none⟩ = some (.slice t1 m1 d1) := by simp [hc2, hc1, z1', go_sem]
      have g8 : w2.cell? ⟨w.heap.size + 1, 8, none⟩ = some (.slice t2 m2 d2) := by simp [hc2, hc1, z1', go_sem]
      have g9 : w2.cell? ⟨w.heap.size + 1, 9, none⟩ = some (.slice t3 m3 d3) := by simp [hc2, hc1, z1', go_sem]
      clear HZ HZ' hx0 hx1 hy0 hy1 hc1 hf1 hc2 hf2 HB1
      go_wp2_with fail
      go_cut [6] (fun s6 wx => s6 = .bool (samePil ⟨c, m, a, ak, an, vk, vn, ps, qs, sd⟩ ⟨c', m', a', ak', an', vk', vn', ps', qs', sd'⟩) ∧ Below w2.heap.size w2 wx)
      case first =>
        go_region_with (first | (go_at_call_of 6 (Value.int IntKind.i64 m); refine (HT.out HS.out _ HB2.out.drew).mono ?_; rintro e w3 ⟨XA, YA, ZA, TA, rfl, hRA, hb3'⟩; have hb3 := below_undrew2 hb3'; clear hb3'; have HB3 := Lib.hid (HB2.out.trans (hb3.mono HB2.out.size)); have hs3 := hb3.size; obtain ⟨hc3, hf3⟩ := bcell hb3; have zA : w.heap.size < w3.heap.size := (by omega); have zA' : w.heap.size + 1 < w3.heap.size := (by omega)) | (go_at_call_of 6 (Value.int IntKind.i64 m'); refine (HT'.out HS'.out _ HB3.out).mono ?_; rintro e w4 ⟨XB, YB, ZB, TB, rfl, hRB, hb4⟩) | (go_at_call 5; refine (HSP.out _ _ _ _ _ _ _ _ _ (hRA.below hb4) hRB).mono ?_; rintro e w5 ⟨rfl, hb5⟩))
        all_goals
          go_wp2_with fail
          go_meet
          go_light
          exact ⟨rfl, hb3.trans ((hb4.mono hb3.size).trans (hb5.mono (Nat.le_trans hb3.size hb4.size)))⟩
      case rest =>
        obtain ⟨rfl, hbx⟩ := hcut
        have HBX := Lib.hid (HB2.out.trans (hbx.mono HB2.out.size))
        have hsx := hbx.size
        obtain ⟨hcx, hfx⟩ := bcell hbx
        have zx0 : w.heap.size < wc.heap.size := by omega
        have zx1 : w.heap.size + 1 < wc.heap.size := by omega
        clear hbx
        go_wp2_with fail
        refine (HT.out HS.out _ HBX.out).mono ?_
        rintro e w6 ⟨XC, YC, ZC, TC, rfl, hRC, hb6⟩
        have HB6 := Lib.hid (HBX.out.trans (hb6.mono HBX.out.size))
        have hs6 := hb6.size
        obtain ⟨hc6, hf6⟩ := bcell hb6
        have z60 : w.heap.size < w6.heap.size := by omega
        have z61 : w.heap.size + 1 < w6.heap.size := by omega
        have HRC := Lib.hid hRC
        clear hb6 hRC
        go_wp2_with fail
        refine (HT'.out HS'.out _ (HB6.out.alloc HB6.out.size _)).mono ?_
        rintro e w7 ⟨XD, YD, ZD, TD, rfl, hRD, hb7⟩
        have hb7' : Below w6.heap.size w6 w7 := ((Below.refl _ _).alloc (Nat.le_refl _) _).trans (hb7.mono (by simp))
        have HB7 := Lib.hid (HB6.out.trans (hb7'.mono HB6.out.size))
        have hs7 := hb7'.size
        obtain ⟨hc7, hf7⟩ := bcell hb7
        have hz7 := hb7.size
        simp at hz7
        have z70 : w.heap.size < w7.heap.size := by omega
        have z71 : w.heap.size + 1 < w7.heap.size := by omega
        have z72 : w6.heap.size < w7.heap.size := by omega
        have HRC7 := Lib.hid (HRC.out.below hb7')
        have HRD := Lib.hid hRD
        clear hb7 hb7' hRD
        go_wp2_with fail
        have hal := (Below.refl w7.heap.size w7).alloc (Nat.le_refl _) (.cells #[.slice (some ⟨XD, 0, none⟩) c'.length c'.length, .int .i64 m', .int .i64 a', .int .i64 ak', .int .i64 an', .int .i64 vk', .int .i64 vn', .slice (some ⟨YD, 0, none⟩) ps'.length ps'.length, .slice (some ⟨ZD, 0, none⟩) qs'.length qs'.length, .slice (some ⟨TD, 0, none⟩) sd'.length sd'.length] 35)
        have HAL := Lib.hid hal
        clear hal
        refine (HIP.out _ _ _ _ _ _ _ _ _ (HRC7.out.below HAL.out) (HRD.out.below HAL.out)).mono ?_
        rintro e w8 ⟨rfl, hb8⟩
        have hb8' : Below w7.heap.size w7 w8 := HAL.out.trans (hb8.mono HAL.out.size)
        have HB8 := Lib.hid (HB7.out.trans (hb8'.mono HB7.out.size))
        obtain ⟨hc8, hf8⟩ := bcell hb8
        have hz8 := hb8.size
        simp at hz8
        have z80 : w.heap.size < w8.heap.size := by omega
        have z81 : w.heap.size + 1 < w8.heap.size := by omega
        have z82 : w6.heap.size < w8.heap.size := by omega
        have z83 : w7.heap.size < w8.heap.size := by omega
        have HRC8 := Lib.hid (HRC7.out.below hb8')
        have HRD8 := Lib.hid (HRD.out.below hb8')
        clear hb8 hb8'
        have p0 : w8.cell? ⟨w.heap.size, 0, none⟩ = some (.slice s0 l0 c0) := by simp [hc8, hc7, hc6, hcx, z20, zx0, z60, z70, e0, go_sem]
        have p1 : w8.cell? ⟨w.heap.size, 1, none⟩ = some (.int .i64 m) := by simp [hc8, hc7, hc6, hcx, z20, zx0, z60, z70, e1, go_sem]
        have p2 : w8.cell? ⟨w.heap.size, 2, none⟩ = some (.int .i64 a) := by simp [hc8, hc7, hc6, hcx, z20, zx0, z60, z70, e2, go_sem]
        have p3 : w8.cell? ⟨w.heap.size, 3, none⟩ = some (.int .i64 ak) := by simp [hc8, hc7, hc6, hcx, z20, zx0, z60, z70, e3, go_sem]
        have p4 : w8.cell? ⟨w.heap.size, 4, none⟩ = some (.int .i64 an) := by simp [hc8, hc7, hc6, hcx, z20, zx0, z60, z70, e4, go_sem]
        have p5 : w8.cell? ⟨w.heap.size, 5, none⟩ = some (.int .i64 vk) := by simp [hc8, hc7, hc6, hcx, z20, zx0, z60, z70, e5, go_sem]
        have p6 : w8.cell? ⟨w.heap.size, 6, none⟩ = some (.int .i64 vn) := by simp [hc8, hc7, hc6, hcx, z20, zx0, z60, z70, e6, go_sem]
        have p7 : w8.cell? ⟨w.heap.size, 7, none⟩ = some (.slice s1 l1 c1) := by simp [hc8, hc7, hc6, hcx, z20, zx0, z60, z70, e7, go_sem]
        have p8 : w8.cell? ⟨w.heap.size, 8, none⟩ = some (.slice s2 l2 c2) := by simp [hc8, hc7, hc6, hcx, z20, zx0, z60, z70, e8, go_sem]
        have p9 : w8.cell? ⟨w.heap.size, 9, none⟩ = some (.slice s3 l3 c3) := by simp [hc8, hc7, hc6, hcx, z20, zx0, z60, z70, e9, go_sem]
        have q0 : w8.cell? ⟨w.heap.size + 1, 0, none⟩ = some (.slice t0 m0 d0) := by simp [hc8, hc7, hc6, hcx, z21, zx1, z61, z71, z60, z70, g0, go_sem]
        have q1 : w8.cell? ⟨w.heap.size + 1, 1, none⟩ = some (.int .i64 m') := by simp [hc8, hc7, hc6, hcx, z21, zx1, z61, z71, z60, z70, g1, go_sem]
        have q2 : w8.cell? ⟨w.heap.size + 1, 2, none⟩ = some (.int .i64 a') := by simp [hc8, hc7, hc6, hcx, z21, zx1, z61, z71, z60, z70, g2, go_sem]
        have q3 : w8.cell? ⟨w.heap.size + 1, 3, none⟩ = some (.int .i64 ak') := by simp [hc8, hc7, hc6, hcx, z21, zx1, z61, z71, z60, z70, g3, go_sem]
        have q4 : w8.cell? ⟨w.heap.size + 1, 4, none⟩ = some (.int .i64 an') := by simp [hc8, hc7, hc6, hcx, z21, zx1, z61, z71, z60, z70, g4, go_sem]
        have q5 : w8.cell? ⟨w.heap.size + 1, 5, none⟩ = some (.int .i64 vk') := by simp [hc8, hc7, hc6, hcx, z21, zx1, z61, z71, z60, z70, g5, go_sem]
        have q6 : w8.cell? ⟨w.heap.size + 1, 6, none⟩ = some (.int .i64 vn') := by simp [hc8, hc7, hc6, hcx, z21, zx1, z61, z71, z60, z70, g6, go_sem]
        have q7 : w8.cell? ⟨w.heap.size + 1, 7, none⟩ = some (.slice t1 m1 d1) := by simp [hc8, hc7, hc6, hcx, z21, zx1, z61, z71, z60, z70, g7, go_sem]
        have q8 : w8.cell? ⟨w.heap.size + 1, 8, none⟩ = some (.slice t2 m2 d2) := by simp [hc8, hc7, hc6, hcx, z21, zx1, z61, z71, z60, z70, g8, go_sem]
        have q9 : w8.cell? ⟨w.heap.size + 1, 9, none⟩ = some (.slice t3 m3 d3) := by simp [hc8, hc7, hc6, hcx, z21, zx1, z61, z71, z60, z70, g9, go_sem]
        have r0 : w8.cell? ⟨w6.heap.size, 0, none⟩ = some (.slice (some ⟨XC, 0, none⟩) c.length c.length) := by simp [hc8, hc7, z72, go_sem]
        have r1 : w8.cell? ⟨w6.heap.size, 1, none⟩ = some (.int .i64 m) := by simp [hc8, hc7, z72, go_sem]
        have r2 : w8.cell? ⟨w6.heap.size, 2, none⟩ = some (.int .i64 a) := by simp [hc8, hc7, z72, go_sem]
        have r3 : w8.cell? ⟨w6.heap.size, 3, none⟩ = some (.int .i64 ak) := by simp [hc8, hc7, z72, go_sem]
        have r4 : w8.cell? ⟨w6.heap.size, 4, none⟩ = some (.int .i64 an) := by simp [hc8, hc7, z72, go_sem]
        have r5 : w8.cell? ⟨w6.heap.size, 5, none⟩ = some (.int .i64 vk) := by simp [hc8, hc7, z72, go_sem]
        have r6 : w8.cell? ⟨w6.heap.size, 6, none⟩ = some (.int .i64 vn) := by simp [hc8, hc7, z72, go_sem]
        have r7 : w8.cell? ⟨w6.heap.size, 7, none⟩ = some (.slice (some ⟨YC, 0, none⟩) ps.length ps.length) := by simp [hc8, hc7, z72, go_sem]
        have r8 : w8.cell? ⟨w6.heap.size, 8, none⟩ = some (.slice (some ⟨ZC, 0, none⟩) qs.length qs.length) := by simp [hc8, hc7, z72, go_sem]
        have r9 : w8.cell? ⟨w6.heap.size, 9, none⟩ = some (.slice (some ⟨TC, 0, none⟩) sd.length sd.length) := by simp [hc8, hc7, z72, go_sem]
        have s0' : w8.cell? ⟨w7.heap.size, 0, none⟩ = some (.slice (some ⟨XD, 0, none⟩) c'.length c'.length) := by simp [hc8, go_sem]
        have s1' : w8.cell? ⟨w7.heap.size, 1, none⟩ = some (.int .i64 m') := by simp [hc8, go_sem]
        have s2' : w8.cell? ⟨w7.heap.size, 2, none⟩ = some (.int .i64 a') := by simp [hc8, go_sem]
        have s3' : w8.cell? ⟨w7.heap.size, 3, none⟩ = some (.int .i64 ak') := by simp [hc8, go_sem]
        have s4' : w8.cell? ⟨w7.heap.size, 4, none⟩ = some (.int .i64 an') := by simp [hc8, go_sem]
        have s5' : w8.cell? ⟨w7.heap.size, 5, none⟩ = some (.int .i64 vk') := by simp [hc8, go_sem]
        have s6' : w8.cell? ⟨w7.heap.size, 6, none⟩ = some (.int .i64 vn') := by simp [hc8, go_sem]
        have s7' : w8.cell? ⟨w7.heap.size, 7, none⟩ = some (.slice (some ⟨YD, 0, none⟩) ps'.length ps'.length) := by simp [hc8, go_sem]
        have s8' : w8.cell? ⟨w7.heap.size, 8, none⟩ = some (.slice (some ⟨ZD, 0, none⟩) qs'.length qs'.length) := by simp [hc8, go_sem]
        have s9' : w8.cell? ⟨w7.heap.size, 9, none⟩ = some (.slice (some ⟨TD, 0, none⟩) sd'.length sd'.length) := by simp [hc8, go_sem]
        clear hcx hfx hc6 hf6 hc7 hf7 hc8 hf8 e0 g0 e1 g1 e2 g2 e3 g3 e4 g4 e5 g5 e6 g6 e7 g7 e8 g8 e9 g9
        generalize samePil ⟨c, m, a, ak, an, vk, vn, ps, qs, sd⟩ ⟨c', m', a', ak', an', vk', vn', ps', qs', sd'⟩ = sM
        go_wp2_with fail
        go_region_with (first | (go_at_call_of 6 (Value.int IntKind.i64 m); refine (HT.out HS.out _ HB8.out.drew).mono ?_; rintro e w9 ⟨XE, YE, ZE, TE, rfl, hRE, hb9'⟩; have hb9 := below_undrew2 hb9'; clear hb9'; have hs9 := hb9.size; obtain ⟨hc9, hf9⟩ := bcell hb9; have z90 : w.heap.size < w9.heap.size := (by omega); have z91 : w.heap.size + 1 < w9.heap.size := (by omega); have z92 : w6.heap.size < w9.heap.size := (by omega); have z93 : w7.heap.size < w9.heap.size := (by omega)) | (go_at_call 8; refine (HE.out _ _ _ _ _ _ _ _ _ (HRC8.out.below hb9) hRE).mono ?_; rintro e wa ⟨rfl, hba⟩; have hsa := hba.size; obtain ⟨hca, hfa⟩ := bcell hba; have za0 : w.heap.size < wa.heap.size := (by omega); have za1 : w.heap.size + 1 < wa.heap.size := (by omega); have za2 : w6.heap.size < wa.heap.size := (by omega); have za3 : w7.heap.size < wa.heap.size := (by omega)))
        all_goals
          have HB9 := Lib.hid (HB8.out.trans (hb9.mono HB8.out.size))
          have HBA := Lib.hid (HB9.out.trans (hba.mono HB9.out.size))
          have HRDA := Lib.hid ((HRD8.out.below hb9).below hba)
          clear hb9 hba
          go_wp2_with fail
          go_region_with (first | (go_at_call_of 6 (Value.int IntKind.i64 m'); refine (HT'.out HS'.out _ HBA.out.drew).mono ?_; rintro e wb ⟨XF, YF, ZF, TF, rfl, hRF, hbb'⟩; have hbb := below_undrew2 hbb'; clear hbb'; have hsb := hbb.size; obtain ⟨hcb, hfb⟩ := bcell hbb; have zb1 : w.heap.size + 1 < wb.heap.size := (by omega); have zb3 : w7.heap.size < wb.heap.size := (by omega)) | (go_at_call 8; refine (HE'.out _ _ _ _ _ _ _ _ _ (HRDA.out.below hbb) hRF).mono ?_; rintro e wd ⟨rfl, hbd⟩))
          all_goals
            have HBB := Lib.hid (HBA.out.trans (hbb.mono HBA.out.size))
            go_wp2_with fail
            go_ret
            exact ⟨rfl, HBB.out.trans (hbd.mono HBB.out.size)⟩

end L2
end Go.Proofs.Ytmbonldiaimcfaa
