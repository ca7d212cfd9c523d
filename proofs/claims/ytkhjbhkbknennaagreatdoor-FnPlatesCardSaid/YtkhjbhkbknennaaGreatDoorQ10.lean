/-
  The law on plates.
-/
import Derived.Test.YtkhjbhkbknennaaGreatDoorN18
import Derived.Test.YtkhjbhkbknennaaGreatDoorQ3
import Derived.Test.YtkhjbhkbknennaaGreatDoorQ4
import Derived.Test.YtkhjbhkbknennaaGreatDoorQ5
import Derived.Test.YtkhjbhkbknennaaGreatDoorQ6
import Derived.Test.YtkhjbhkbknennaaGreatDoorQ9
namespace Go.Proofs.YtkhjbhkbknennaaGreatDoor
open Go.RowKit Go.Sort
namespace L2
open L1

theorem toList_mkQ (l : List UInt8) : (⟨l.toArray⟩ : ByteArray).toList = l := by rw [Lib.toList_data]

set_option maxRecDepth 100000 in
set_option maxHeartbeats 4000000 in
theorem lawPlates (v : Value) (n : Nat) (w : World) (hC : D.Came w v n) (hV : Vars w) (hT : PT w) (hW : PW w) :
    Calls Tryz.prog 4 #[v] w fun e w' => e = .returned (.bool true) ∧ Below w.heap.size w w' := by
  have HCC := Lib.hid (fun w1 (hb : Below w.heap.size w w1) => hC.below hb)
  have HVV := Lib.hid (fun w1 (hb : Below w.heap.size w w1) => hV.later hb)
  have HTT := Lib.hid (fun w1 (hb : Below w.heap.size w w1) => PT.later hT hb)
  have HWW := Lib.hid (fun w1 (hb : Below w.heap.size w w1) => PW.later hW hb)
  have HBG := Lib.hid (D.big_any v n w hC)
  clear hC hV hT hW
  by_cases hbig : 4096 < n
  · have hd : decide (4096 < n) = true := by simp [hbig]
    rw [hd] at HBG
    go_enter Tryz.func4, Tryz.ntmps4
    go_wp2_with fail
    refine HBG.out.mono ?_
    rintro e w0 ⟨rfl, hw⟩
    rw [hw]
    go_wp2_with fail
    go_ret
    exact ⟨rfl, Below.refl _ _⟩
  have hd : decide (4096 < n) = false := by simp [hbig]
  rw [hd] at HBG
  clear hd hbig
  go_enter Tryz.func4, Tryz.ntmps4
  go_wp2_with fail
  refine HBG.out.mono ?_
  rintro e w0 ⟨rfl, hw⟩
  rw [hw]
  clear hw
  go_wp2_with fail
  refine (drawShowPlate_any v n _ (HCC.out _ (Below.refl _ _))).mono ?_
  rintro e w1 ⟨p, rfl, hb1⟩
  have HB1 := Lib.hid hb1
  have Z1 := pb_new w1 p 37
  have HS := Lib.hid (fun w1 hT hW => implShowPlate_any p w1 hT hW)
  obtain ⟨k, a, b, c, d, e⟩ := p
  unfold plV at HS ⊢
  simp only at HS Z1 ⊢
  clear hb1
  go_wp2_with fail
  refine (HS.out _ (HTT.out _ (HB1.out.alloc HB1.out.size _)) (HWW.out _ (HB1.out.alloc HB1.out.size _))).mono ?_
  rintro e2 w2 ⟨rfl, hb2⟩
  have HB2 : Hid (Below w.heap.size w w2) := Lib.hid ((HB1.out.alloc HB1.out.size _).trans (hb2.mono (HB1.out.alloc HB1.out.size _).size))
  go_wp2_with fail
  refine (drawReadPlate_any D.bends v n _ (HCC.out _ HB2.out)).mono ?_
  rintro e3 w3 ⟨t, rfl, ht, hb3⟩
  have HB3 := Lib.hid (HB2.out.trans (hb3.mono HB2.out.size))
  go_wp2_with fail
  refine (implReadPlate_any t ht _ (HVV.out _ HB3.out) (HTT.out _ HB3.out) (HWW.out _ HB3.out)).mono ?_
  rintro e4 w4 ⟨rfl, hb4⟩
  have HB4 := Lib.hid (HB3.out.trans (hb4.mono HB3.out.size))
  obtain ⟨x, hx⟩ : ∃ x, rdP t.toList = x := ⟨_, rfl⟩
  obtain ⟨ok, hok⟩ : ∃ ok, rdPOk t.toList = ok := ⟨_, rfl⟩
  rw [hx, hok]
  obtain ⟨xk, xa, xb, xc, xd, xe⟩ := x
  have Z4 := pb_new w4 ⟨xk, xa, xb, xc, xd, xe⟩ 37
  simp only at Z4
  unfold plV
  go_wp2_with fail
  refine (drawSamePlates_any v n _ (HCC.out _ (HB4.out.alloc HB4.out.size _))).mono ?_
  rintro e5 w5 ⟨u, u', ps, qs, rfl, hO, hO', hl, hl', hb5⟩
  obtain ⟨g1, cp1, hu, -⟩ := hO.form
  obtain ⟨g2, cp2, hu', -⟩ := hO'.form
  subst hu hu'
  have HB5 := Lib.hid ((HB4.out.alloc HB4.out.size _).trans (hb5.mono (HB4.out.alloc HB4.out.size _).size))
  have HRS := Lib.hid (specReadPlate_any t ht)
  rw [hx, hok] at HRS
  unfold plV at HRS
  simp only at HRS
  have HO := Lib.hid hO
  have HO' := Lib.hid hO'
  clear hO hO'
  go_wp2_with fail
  refine (HRS.out _).mono ?_
  rintro e6 w6 ⟨rfl, hb6⟩
  have HB6 := Lib.hid (HB5.out.trans (hb6.mono HB5.out.size))
  obtain ⟨hc2, hf2⟩ := bcell hb2
  obtain ⟨hc3, hf3⟩ := bcell hb3
  obtain ⟨hc4, hf4⟩ := bcell hb4
  obtain ⟨hc5, hf5⟩ := bcell hb5
  obtain ⟨hc6, hf6⟩ := bcell hb6
  have s2 := hb2.size
  have s3 := hb3.size
  have s4 := hb4.size
  have s5 := hb5.size
  have s6 := hb6.size
  simp only [World.size_alloc] at s2 s5
  have y2 : w1.heap.size < w2.heap.size := by omega
  have y3 : w1.heap.size < w3.heap.size := by omega
  have y4 : w1.heap.size < w4.heap.size := by omega
  have y5 : w1.heap.size < w5.heap.size := by omega
  have y5' : w4.heap.size < w5.heap.size := by omega
  have q0 : w6.cell? ⟨w1.heap.size, 0, none⟩ = some (.int .i64 k) := by simp [hc6, hc5, hc4, hc3, hc2, y2, y3, y4, y5, go_sem]
  have q1 : w6.cell? ⟨w1.heap.size, 1, none⟩ = some (.int .i64 a) := by simp [hc6, hc5, hc4, hc3, hc2, y2, y3, y4, y5, go_sem]
  have q2 : w6.cell? ⟨w1.heap.size, 2, none⟩ = some (.int .i64 b) := by simp [hc6, hc5, hc4, hc3, hc2, y2, y3, y4, y5, go_sem]
  have q3 : w6.cell? ⟨w1.heap.size, 3, none⟩ = some (.int .i64 c) := by simp [hc6, hc5, hc4, hc3, hc2, y2, y3, y4, y5, go_sem]
  have q4 : w6.cell? ⟨w1.heap.size, 4, none⟩ = some (.int .i64 d) := by simp [hc6, hc5, hc4, hc3, hc2, y2, y3, y4, y5, go_sem]
  have q5 : w6.cell? ⟨w1.heap.size, 5, none⟩ = some (.int .i64 e) := by simp [hc6, hc5, hc4, hc3, hc2, y2, y3, y4, y5, go_sem]
  have r0 : w6.cell? ⟨w4.heap.size, 0, none⟩ = some (.int .i64 xk) := by simp [hc6, hc5, y5', go_sem]
  have r1 : w6.cell? ⟨w4.heap.size, 1, none⟩ = some (.int .i64 xa) := by simp [hc6, hc5, y5', go_sem]
  have r2 : w6.cell? ⟨w4.heap.size, 2, none⟩ = some (.int .i64 xb) := by simp [hc6, hc5, y5', go_sem]
  have r3 : w6.cell? ⟨w4.heap.size, 3, none⟩ = some (.int .i64 xc) := by simp [hc6, hc5, y5', go_sem]
  have r4 : w6.cell? ⟨w4.heap.size, 4, none⟩ = some (.int .i64 xd) := by simp [hc6, hc5, y5', go_sem]
  have r5 : w6.cell? ⟨w4.heap.size, 5, none⟩ = some (.int .i64 xe) := by simp [hc6, hc5, y5', go_sem]
  have y6 : w1.heap.size < w6.heap.size := by omega
  have y6' : w4.heap.size < w6.heap.size := by omega
  clear hc2 hf2 hc3 hf3 hc4 hf4 hc5 hf5 hc6 hf6 Z1 Z4
  have HO6 := Lib.hid (HO.out.row.below hb6)
  have HO6' := Lib.hid (HO'.out.row.below hb6)
  clear hb2 hb3 hb4 hb5 hb6
  go_wp2_with fail
  have H7 : Below w6.heap.size w6 (w6.alloc (.cells #[.int .i64 xk, .int .i64 xa, .int .i64 xb, .int .i64 xc, .int .i64 xd, .int .i64 xe] 37)) := (Below.refl _ _).alloc (Nat.le_refl _) _
  have p0 := (H7.cell (p := ⟨w1.heap.size, 0, none⟩) y6).trans q0
  have p1 := (H7.cell (p := ⟨w1.heap.size, 1, none⟩) y6).trans q1
  have p2 := (H7.cell (p := ⟨w1.heap.size, 2, none⟩) y6).trans q2
  have p3 := (H7.cell (p := ⟨w1.heap.size, 3, none⟩) y6).trans q3
  have p4 := (H7.cell (p := ⟨w1.heap.size, 4, none⟩) y6).trans q4
  have p5 := (H7.cell (p := ⟨w1.heap.size, 5, none⟩) y6).trans q5
  have x0 := (H7.cell (p := ⟨w4.heap.size, 0, none⟩) y6').trans r0
  have x1 := (H7.cell (p := ⟨w4.heap.size, 1, none⟩) y6').trans r1
  have x2 := (H7.cell (p := ⟨w4.heap.size, 2, none⟩) y6').trans r2
  have x3 := (H7.cell (p := ⟨w4.heap.size, 3, none⟩) y6').trans r3
  have x4 := (H7.cell (p := ⟨w4.heap.size, 4, none⟩) y6').trans r4
  have x5 := (H7.cell (p := ⟨w4.heap.size, 5, none⟩) y6').trans r5
  have z0 : (w6.alloc (.cells #[.int .i64 xk, .int .i64 xa, .int .i64 xb, .int .i64 xc, .int .i64 xd, .int .i64 xe] 37)).cell? ⟨w6.heap.size, 0, none⟩ = some (.int .i64 xk) := by simp [go_sem]
  have z1 : (w6.alloc (.cells #[.int .i64 xk, .int .i64 xa, .int .i64 xb, .int .i64 xc, .int .i64 xd, .int .i64 xe] 37)).cell? ⟨w6.heap.size, 1, none⟩ = some (.int .i64 xa) := by simp [go_sem]
  have z2 : (w6.alloc (.cells #[.int .i64 xk, .int .i64 xa, .int .i64 xb, .int .i64 xc, .int .i64 xd, .int .i64 xe] 37)).cell? ⟨w6.heap.size, 2, none⟩ = some (.int .i64 xb) := by simp [go_sem]
  have z3 : (w6.alloc (.cells #[.int .i64 xk, .int .i64 xa, .int .i64 xb, .int .i64 xc, .int .i64 xd, .int .i64 xe] 37)).cell? ⟨w6.heap.size, 3, none⟩ = some (.int .i64 xc) := by simp [go_sem]
  have z4 : (w6.alloc (.cells #[.int .i64 xk, .int .i64 xa, .int .i64 xb, .int .i64 xc, .int .i64 xd, .int .i64 xe] 37)).cell? ⟨w6.heap.size, 4, none⟩ = some (.int .i64 xd) := by simp [go_sem]
  have z5 : (w6.alloc (.cells #[.int .i64 xk, .int .i64 xa, .int .i64 xb, .int .i64 xc, .int .i64 xd, .int .i64 xe] 37)).cell? ⟨w6.heap.size, 5, none⟩ = some (.int .i64 xe) := by simp [go_sem]
  have HO7 := Lib.hid (HO6.out.below H7)
  have HO7' := Lib.hid (HO6'.out.below H7)
  have HB7 := Lib.hid (HB6.out.trans (H7.mono HB6.out.size))
  have zz1 := Nat.lt_of_lt_of_le y6 H7.size
  have zz4 := Nat.lt_of_lt_of_le y6' H7.size
  clear q0 q1 q2 q3 q4 q5 r0 r1 r2 r3 r4 r5 H7 HO6 HO6' HO HO' HB1 HB2 HB3 HB4 HB5
  generalize (w6.alloc (.cells #[.int .i64 xk, .int .i64 xa, .int .i64 xb, .int .i64 xc, .int .i64 xd, .int .i64 xe] 37)) = W at p0 p1 p2 p3 p4 p5 x0 x1 x2 x3 x4 x5 z0 z1 z2 z3 z4 z5 HO7 HO7' HB7 zz1 zz4 ⊢
  have p0' := cell_regrown p0
  have p1' := cell_regrown p1
  have p2' := cell_regrown p2
  have p3' := cell_regrown p3
  have p4' := cell_regrown p4
  have p5' := cell_regrown p5
  have x0' := cell_regrown x0
  have x1' := cell_regrown x1
  have x2' := cell_regrown x2
  have x3' := cell_regrown x3
  have x4' := cell_regrown x4
  have x5' := cell_regrown x5
  have z0' := cell_regrown z0
  have z1' := cell_regrown z1
  have z2' := cell_regrown z2
  have z3' := cell_regrown z3
  have z4' := cell_regrown z4
  have z5' := cell_regrown z5
  have bB := fun q os => below_regrown W q os
  have cS := fun q os => Calls.regrown_of (d := q) (os := os) (specShowPlate_any ⟨k, a, b, c, d, e⟩ (grow (redrawn W q) os))
  have cI := fun q os => Calls.regrown_of (d := q) (os := os) (implPlateOk_any ⟨k, a, b, c, d, e⟩ (grow (redrawn W q) os))
  have cP := fun q os => Calls.regrown_of (d := q) (os := os) (specPlateOk_any ⟨k, a, b, c, d, e⟩ (grow (redrawn W q) os))
  have cA := fun q os => Calls.regrown_of (d := q) (os := os) (implPlatesOk_any _ ps (grow (redrawn W q) os) (HO7.out.below (bB q os)))
  have cB := fun q os => Calls.regrown_of (d := q) (os := os) (specPlatesOk_any _ ps (grow (redrawn W q) os) (HO7.out.below (bB q os)))
  have cC := fun q os => Calls.regrown_of (d := q) (os := os) (implSamePlates_any _ _ ps qs (grow (redrawn W q) os) (HO7.out.below (bB q os)) (HO7'.out.below (bB q os)))
  have cD := fun q os => Calls.regrown_of (d := q) (os := os) (likePlates_any _ _ ps qs (grow (redrawn W q) os) (HO7.out.below (bB q os)) (HO7'.out.below (bB q os)))
  obtain ⟨tk, htk⟩ : ∃ tk, okPl ⟨k, a, b, c, d, e⟩ = tk := ⟨_, rfl⟩
  obtain ⟨ta, hta⟩ : ∃ ta, okPls ps = ta := ⟨_, rfl⟩
  obtain ⟨tb, htb⟩ : ∃ tb, samePls ps qs = tb := ⟨_, rfl⟩
  obtain ⟨sp, hsp⟩ : ∃ sp, (⟨(showP ⟨k, a, b, c, d, e⟩).toArray⟩ : ByteArray) = sp := ⟨_, rfl⟩
  simp only [htk, hta, htb, hsp] at cS cI cP cA cB cC cD
  unfold plV at cS cI cP
  simp only at cS cI cP
  simp only [hsp]
  refine wp_region_quiet_below (by kernel_rfl) (by kernel_rfl) ?_
  repeat (go_big_quiet_step (first | (go_at_call 20; exact cS _ _) | (go_at_call 21; exact cI _ _) | (go_at_call 22; exact cP _ _) | (go_at_call 23; exact cA _ _) | (go_at_call 24; exact cB _ _) | (go_at_call 25; exact cC _ _) | (go_at_call 26; exact cD _ _)))
  all_goals
    refine wpQuiet_nil ?_
    intro w8 hw'
    obtain ⟨⟨dq, osq⟩, hw''⟩ := hw'
    have HQ := below_regrown W dq osq
    rw [← hw''] at HQ
    have HB8 := Lib.hid (HB7.out.trans (HQ.mono HB7.out.size))
    have m0 := (HQ.cell (p := ⟨w4.heap.size, 0, none⟩) zz4).trans x0
    have m1 := (HQ.cell (p := ⟨w4.heap.size, 1, none⟩) zz4).trans x1
    have m2 := (HQ.cell (p := ⟨w4.heap.size, 2, none⟩) zz4).trans x2
    have m3 := (HQ.cell (p := ⟨w4.heap.size, 3, none⟩) zz4).trans x3
    have m4 := (HQ.cell (p := ⟨w4.heap.size, 4, none⟩) zz4).trans x4
    have m5 := (HQ.cell (p := ⟨w4.heap.size, 5, none⟩) zz4).trans x5
    have n0 := (HQ.cell (p := ⟨w1.heap.size, 0, none⟩) zz1).trans p0
    have n1 := (HQ.cell (p := ⟨w1.heap.size, 1, none⟩) zz1).trans p1
    have n2 := (HQ.cell (p := ⟨w1.heap.size, 2, none⟩) zz1).trans p2
    have n3 := (HQ.cell (p := ⟨w1.heap.size, 3, none⟩) zz1).trans p3
    have n4 := (HQ.cell (p := ⟨w1.heap.size, 4, none⟩) zz1).trans p4
    have n5 := (HQ.cell (p := ⟨w1.heap.size, 5, none⟩) zz1).trans p5
    have k1 := Nat.lt_of_lt_of_le zz1 HQ.size
    have k4 := Nat.lt_of_lt_of_le zz4 HQ.size
    clear hw'' HQ p0 p1 p2 p3 p4 p5 x0 x1 x2 x3 x4 x5 z0 z1 z2 z3 z4 z5 p0' p1' p2' p3' p4' p5' x0' x1' x2' x3' x4' x5' z0' z1' z2' z3' z4' z5' cS cI cP cA cB cC cD bB zz1 zz4
    clear dq osq HRS HO7 HO7' HB7
    have HPK := Lib.hid (fun w1 => implPlateOk_any ⟨k, a, b, c, d, e⟩ w1)
    have HSX := Lib.hid (fun w1 hT hW => implShowPlate_any ⟨xk, xa, xb, xc, xd, xe⟩ w1 hT hW)
    have hsp2 : sp.toList = showP ⟨k, a, b, c, d, e⟩ := by rw [← hsp]; exact toList_mkQ _
    unfold plV at HPK HSX
    simp only [htk] at HPK HSX
    cases tk
    · have he : sp = ⟨#[]⟩ := by rw [← hsp, showP_none htk]
      subst he
      cases ok
      · go_wp2_with fail
        refine (HPK.out _).mono ?_
        rintro e9 w9 ⟨rfl, hb9⟩
        have HB9 := Lib.hid (HB8.out.trans (hb9.mono HB8.out.size))
        go_wp2_with fail
        go_ret
        exact ⟨rfl, HB9.out⟩
      · have hshow : (⟨(showP ⟨xk, xa, xb, xc, xd, xe⟩).toArray⟩ : ByteArray) = t := by
          have h1 := (show_rdP hok).2
          rw [hx] at h1
          rw [h1, Lib.toList_data]
        rw [hshow] at HSX
        go_wp2_with fail
        refine (HSX.out _ (HTT.out _ HB8.out) (HWW.out _ HB8.out)).mono ?_
        rintro e7 w7 ⟨rfl, hb7⟩
        have HB7 := Lib.hid (HB8.out.trans (hb7.mono HB8.out.size))
        have n0 := (hb7.cell (p := ⟨w1.heap.size, 0, none⟩) k1).trans n0
        have n1 := (hb7.cell (p := ⟨w1.heap.size, 1, none⟩) k1).trans n1
        have n2 := (hb7.cell (p := ⟨w1.heap.size, 2, none⟩) k1).trans n2
        have n3 := (hb7.cell (p := ⟨w1.heap.size, 3, none⟩) k1).trans n3
        have n4 := (hb7.cell (p := ⟨w1.heap.size, 4, none⟩) k1).trans n4
        have n5 := (hb7.cell (p := ⟨w1.heap.size, 5, none⟩) k1).trans n5
        have k1 := Nat.lt_of_lt_of_le k1 hb7.size
        clear hb7
        go_wp2_with fail
        refine (HPK.out _).mono ?_
        rintro e9 w9 ⟨rfl, hb9⟩
        have HB9 := Lib.hid (HB7.out.trans (hb9.mono HB7.out.size))
        go_wp2_with fail
        go_ret
        exact ⟨rfl, HB9.out⟩
    · have hne : sp.toList.isEmpty = false := by
        rw [hsp2]
        have := showP_some htk
        cases hq : showP ⟨k, a, b, c, d, e⟩ with
        | nil => exact absurd hq this
        | cons _ _ => rfl
      have hz : sp.size ≤ 1048576 := by
        have h1 := showP_len ⟨k, a, b, c, d, e⟩
        rw [← hsp2, ← size_list] at h1
        omega
      have HRD := Lib.hid (fun w1 hV hT hW => implReadPlate_any sp hz w1 hV hT hW)
      rw [hsp2, (read_showP htk).1, (read_showP htk).2] at HRD
      unfold plV at HRD
      simp only at HRD
      clear hsp2 hsp
      cases ok
      · go_wp2_with fail
        refine (HRD.out _ (HVV.out _ HB8.out) (HTT.out _ HB8.out) (HWW.out _ HB8.out)).mono ?_
        rintro e9 w9 ⟨rfl, hb9⟩
        have HB9 := Lib.hid (HB8.out.trans (hb9.mono HB8.out.size))
        have o0 := (hb9.cell (p := ⟨w1.heap.size, 0, none⟩) k1).trans n0
        have o1 := (hb9.cell (p := ⟨w1.heap.size, 1, none⟩) k1).trans n1
        have o2 := (hb9.cell (p := ⟨w1.heap.size, 2, none⟩) k1).trans n2
        have o3 := (hb9.cell (p := ⟨w1.heap.size, 3, none⟩) k1).trans n3
        have o4 := (hb9.cell (p := ⟨w1.heap.size, 4, none⟩) k1).trans n4
        have o5 := (hb9.cell (p := ⟨w1.heap.size, 5, none⟩) k1).trans n5
        have k9 := Nat.lt_of_lt_of_le k1 hb9.size
        clear hb9 n0 n1 n2 n3 n4 n5
        go_wp2_with fail
        go_ret
        exact ⟨rfl, HB9.out.alloc HB9.out.size _⟩
      · have hshow : (⟨(showP ⟨xk, xa, xb, xc, xd, xe⟩).toArray⟩ : ByteArray) = t := by
          have h1 := (show_rdP hok).2
          rw [hx] at h1
          rw [h1, Lib.toList_data]
        rw [hshow] at HSX
        go_wp2_with fail
        refine (HSX.out _ (HTT.out _ HB8.out) (HWW.out _ HB8.out)).mono ?_
        rintro e7 w7 ⟨rfl, hb7⟩
        have HB7 := Lib.hid (HB8.out.trans (hb7.mono HB8.out.size))
        have n0 := (hb7.cell (p := ⟨w1.heap.size, 0, none⟩) k1).trans n0
        have n1 := (hb7.cell (p := ⟨w1.heap.size, 1, none⟩) k1).trans n1
        have n2 := (hb7.cell (p := ⟨w1.heap.size, 2, none⟩) k1).trans n2
        have n3 := (hb7.cell (p := ⟨w1.heap.size, 3, none⟩) k1).trans n3
        have n4 := (hb7.cell (p := ⟨w1.heap.size, 4, none⟩) k1).trans n4
        have n5 := (hb7.cell (p := ⟨w1.heap.size, 5, none⟩) k1).trans n5
        have k1 := Nat.lt_of_lt_of_le k1 hb7.size
        clear hb7
        go_wp2_with fail
        refine (HRD.out _ (HVV.out _ HB7.out) (HTT.out _ HB7.out) (HWW.out _ HB7.out)).mono ?_
        rintro e9 w9 ⟨rfl, hb9⟩
        have HB9 := Lib.hid (HB7.out.trans (hb9.mono HB7.out.size))
        have o0 := (hb9.cell (p := ⟨w1.heap.size, 0, none⟩) k1).trans n0
        have o1 := (hb9.cell (p := ⟨w1.heap.size, 1, none⟩) k1).trans n1
        have o2 := (hb9.cell (p := ⟨w1.heap.size, 2, none⟩) k1).trans n2
        have o3 := (hb9.cell (p := ⟨w1.heap.size, 3, none⟩) k1).trans n3
        have o4 := (hb9.cell (p := ⟨w1.heap.size, 4, none⟩) k1).trans n4
        have o5 := (hb9.cell (p := ⟨w1.heap.size, 5, none⟩) k1).trans n5
        have k9 := Nat.lt_of_lt_of_le k1 hb9.size
        clear hb9 n0 n1 n2 n3 n4 n5
        go_wp2_with fail
        go_ret
        exact ⟨rfl, HB9.out.alloc HB9.out.size _⟩
end L2
end Go.Proofs.YtkhjbhkbknennaaGreatDoor
