/-
  Is a pile right, is it over: the model (written by wip/gen_o12.py).
-/
import Derived.Test.YtmbonldiaimcfaaGreatDoorO11
namespace Go.Proofs.YtmbonldiaimcfaaGreatDoor
open Go.RowKit Go.Sort
namespace L2
open S1 L1

theorem okPil_eq (x : Pil) : okPil x = (okSum (wsOf x.c) && ((fitQs x.c x.qs.length x.qs && fitS x.sd && fitPs x.c x.qs.length x.ps) && modeB x)) := by
  unfold okPil
  cases okSum (wsOf x.c) <;> cases modeB x <;> cases fitPs x.c x.qs.length x.ps <;> cases fitQs x.c x.qs.length x.qs <;> cases fitS x.sd <;> rfl
theorem same_zero {cnt : Nat} {k n : Int} (h : tellsB cnt k n = false) : sameB k n 0 0 = false := by
  cases e : sameB k n 0 0
  · rfl
  · simp only [sameB, Bool.and_eq_true, decide_eq_true_eq] at e
    obtain ⟨rfl, rfl⟩ := e
    rw [tells_zero] at h
    cases h
theorem modeB_far {x : Pil} (h : inB x.m 0 6 = false) : modeB x = false := by
  have h0 : ¬ (0 ≤ x.m ∧ x.m ≤ 6) := by
    intro ⟨a, b⟩
    simp [inB, a, b] at h
  unfold modeB
  rw [if_neg (by omega), if_neg (by omega), if_neg (by omega), if_neg (by omega), Bool.and_false]
theorem modeB_arg {x : Pil} (h : tellsB x.qs.length x.ak x.an = false) : modeB x = false := by
  unfold modeB
  by_cases e : x.m = 0
  · rw [if_pos e, h, Bool.and_false, Bool.false_and]
  · rw [if_neg e, same_zero h, Bool.and_false, Bool.false_and]
theorem modeB_val {x : Pil} (h : tellsB x.qs.length x.vk x.vn = false) : modeB x = false := by
  unfold modeB
  by_cases e : x.m = 0
  · rw [if_pos e, same_zero h, Bool.and_false]
  · rw [if_neg e]
    by_cases e1 : x.m = 1 ∨ x.m = 2
    · rw [if_pos e1, h, Bool.and_false]
    · rw [if_neg e1]
      by_cases e2 : x.m = 3 ∨ x.m = 4
      · rw [if_pos e2, h, Bool.false_and, Bool.and_false]
      · rw [if_neg e2]
        by_cases e3 : x.m = 5 ∨ x.m = 6
        · rw [if_pos e3, same_zero h, Bool.false_and, Bool.and_false]
        · rw [if_neg e3, Bool.and_false]
theorem modeB_begin {x : Pil} (hm : x.m = 0) (ha : tellsB x.qs.length x.ak x.an = true) : modeB x = (placeB x.c x.a && sameB x.vk x.vn 0 0) := by
  unfold modeB
  rw [if_pos hm, ha, Bool.and_true]
theorem modeB_low {x : Pil} (h1 : 1 ≤ x.m) (h2 : x.m < 3) (hv : tellsB x.qs.length x.vk x.vn = true) : modeB x = (decide (x.a = 0) && sameB x.ak x.an 0 0) := by
  unfold modeB
  rw [if_neg (by omega), if_pos (by omega), hv, Bool.and_true]
theorem modeB_mid {x : Pil} (h1 : 3 ≤ x.m) (h2 : x.m < 5) (hv : tellsB x.qs.length x.vk x.vn = true) : modeB x = (decide (x.a = 0) && sameB x.ak x.an 0 0 && decide (x.ps.length = 0)) := by
  unfold modeB
  rw [if_neg (by omega), if_neg (by omega), if_pos (by omega), hv, Bool.true_and]
theorem modeB_high {x : Pil} (h1 : 5 ≤ x.m) (h2 : x.m ≤ 6) : modeB x = (decide (x.a = 0) && sameB x.ak x.an 0 0 && (sameB x.vk x.vn 0 0 && decide (x.ps.length = 0))) := by
  unfold modeB
  rw [if_neg (by omega), if_neg (by omega), if_neg (by omega), if_pos (by omega)]

set_option maxRecDepth 100000 in
set_option maxHeartbeats 16000000 in
theorem specPileOk_any (x : Pil) (cv pv qv sv : Value) (w : World) (hR : RowsPi w x cv pv qv sv) (hf : FitPi x) :
    Calls Tryz.prog 30 #[pilV x cv pv qv sv] w fun e w' => e = .returned (.bool (okPil x)) ∧ Below w.heap.size w w' := by
  have HO := fun w1 (hb : Below w.heap.size w w1) => specSumOk_any cv x.c w1 (hR.c.below hb) hf.1
  have HI := fun w1 (hb : Below w.heap.size w w1) => (l1In_any x.m 0 6 w1).mono (R' := fun e w' => e = .returned (.bool (inB x.m 0 6)) ∧ Below w1.heap.size w1 w') (fun _ _ ⟨he, hw⟩ => ⟨he, by rw [← hw]; exact Below.refl _ _⟩)
  have HL := fun (ho : okSum (wsOf x.c) = true) w1 (hb : Below w.heap.size w w1) => l6Lists_any x cv pv qv sv w1 (hR.below hb) hf ho
  have HA := fun w1 (hb : Below w.heap.size w w1) => l6Value_any x.ak x.an x.qs.length w1
  have HV := fun w1 (hb : Below w.heap.size w w1) => l6Value_any x.vk x.vn x.qs.length w1
  have HS := fun (ho : okSum (wsOf x.c) = true) w1 (hb : Below w.heap.size w w1) => (specIsStart_any cv x.c x.a w1 (hR.c.below hb) hf.1).mono (R' := fun e w' => e = .returned (.bool (placeB x.c x.a)) ∧ Below w1.heap.size w1 w') (fun _ _ ⟨he, hw⟩ => ⟨by rw [he, startsI_place ho], hw⟩)
  have EQ := okPil_eq x
  have FAR := @modeB_far x
  have ARG := @modeB_arg x
  have VAL := @modeB_val x
  have BEG := @modeB_begin x
  have LOW := @modeB_low x
  have MID := @modeB_mid x
  have HIGH := @modeB_high x
  obtain ⟨oa, cap, rfl, -, -, -⟩ := hR.c
  obtain ⟨op, cp, rfl, -, -, -⟩ := hR.p
  obtain ⟨oq, cq, rfl, -, -, -⟩ := hR.q
  obtain ⟨os, cs, rfl, -, -, -⟩ := hR.s
  rw [EQ]
  clear hR hf EQ
  generalize modeB x = M at *
  obtain ⟨c, m, a, ak, an, vk, vn, ps, qs, sd⟩ := x
  unfold pilV at *
  simp only at *
  generalize okSum (wsOf c) = tO at *
  generalize (fitQs c qs.length qs && fitS sd && fitPs c qs.length ps) = tL at *
  generalize c.length = n at *
  generalize ps.length = np at *
  generalize qs.length = nq at *
  generalize sd.length = ns at *
  generalize tellsB nq ak an = tA at *
  generalize tellsB nq vk vn = tV at *
  generalize placeB c a = tS at *
  cases tO
  · rw [Bool.false_and]
    replace HO := Lib.hid HO
    clear HI HL HA HV HS
    clear FAR ARG VAL BEG LOW MID HIGH
    go_enter Tryz.func30, Tryz.ntmps30
    go_wp2_with fail
    refine (HO.out _ (by (repeat (first | (with_reducible refine Below.alloc ?_ ?_ _) | (with_reducible refine Below.setCell ?_ ?_ _) | (with_reducible refine Below.drew ?_) | (with_reducible exact Below.refl _ _) | (with_reducible refine Below.trans ?_ (Below.mono (by assumption) ?_)))) <;> (first | omega | (dsimp only; omega) | (simp; done) | (simp; omega) | (simp at *; omega)))).mono ?_
    rintro e w1 ⟨rfl, hb1⟩
    have hs1 := hb1.size
    have HB1 : Hid (Below w.heap.size w w1) := Lib.hid (by (repeat (first | (with_reducible refine Below.alloc ?_ ?_ _) | (with_reducible refine Below.setCell ?_ ?_ _) | (with_reducible refine Below.drew ?_) | (with_reducible exact Below.refl _ _) | (with_reducible refine Below.trans ?_ (Below.mono (by assumption) ?_)))) <;> (first | omega | (dsimp only; omega) | (simp; done) | (simp; omega) | (simp at *; omega)))
    obtain ⟨hc1, hf1⟩ := bcell hb1
    simp at hs1
    have z1 : w.heap.size < w1.heap.size := by omega
    clear hb1
    go_wp2_with fail
    go_ret
    exact ⟨rfl, HB1.out⟩
  · replace HL := HL rfl
    replace HS := HS rfl
    rw [Bool.true_and]
    cases h2 : inB m 0 6
    · rw [h2] at HI
      rw [FAR h2, Bool.and_false]
      replace HO := Lib.hid HO
      replace HI := Lib.hid HI
      clear HL HA HV HS
      clear FAR ARG VAL BEG LOW MID HIGH
      go_enter Tryz.func30, Tryz.ntmps30
      go_wp2_with fail
      refine (HO.out _ (by (repeat (first | (with_reducible refine Below.alloc ?_ ?_ _) | (with_reducible refine Below.setCell ?_ ?_ _) | (with_reducible refine Below.drew ?_) | (with_reducible exact Below.refl _ _) | (with_reducible refine Below.trans ?_ (Below.mono (by assumption) ?_)))) <;> (first | omega | (dsimp only; omega) | (simp; done) | (simp; omega) | (simp at *; omega)))).mono ?_
      rintro e w1 ⟨rfl, hb1⟩
      have hs1 := hb1.size
      have HB1 : Hid (Below w.heap.size w w1) := Lib.hid (by (repeat (first | (with_reducible refine Below.alloc ?_ ?_ _) | (with_reducible refine Below.setCell ?_ ?_ _) | (with_reducible refine Below.drew ?_) | (with_reducible exact Below.refl _ _) | (with_reducible refine Below.trans ?_ (Below.mono (by assumption) ?_)))) <;> (first | omega | (dsimp only; omega) | (simp; done) | (simp; omega) | (simp at *; omega)))
      obtain ⟨hc1, hf1⟩ := bcell hb1
      simp at hs1
      have z1 : w.heap.size < w1.heap.size := by omega
      clear hb1
      go_wp2_with fail
      refine (HI.out _ HB1.out).mono ?_
      rintro e w2 ⟨rfl, hb2⟩
      have hs2 := hb2.size
      have HB2 : Hid (Below w.heap.size w w2) := Lib.hid (HB1.out.trans (hb2.mono HB1.out.size))
      obtain ⟨hc2, hf2⟩ := bcell hb2
      have z2 : w.heap.size < w2.heap.size := by omega
      clear hb2
      go_wp2_with fail
      go_ret
      exact ⟨rfl, HB2.out⟩
    · rw [h2] at HI
      cases tL
      · rw [Bool.false_and]
        replace HO := Lib.hid HO
        replace HI := Lib.hid HI
        replace HL := Lib.hid HL
        clear HA HV HS
        clear FAR ARG VAL BEG LOW MID HIGH
        go_enter Tryz.func30, Tryz.ntmps30
        go_wp2_with fail
        refine (HO.out _ (by (repeat (first | (with_reducible refine Below.alloc ?_ ?_ _) | (with_reducible refine Below.setCell ?_ ?_ _) | (with_reducible refine Below.drew ?_) | (with_reducible exact Below.refl _ _) | (with_reducible refine Below.trans ?_ (Below.mono (by assumption) ?_)))) <;> (first | omega | (dsimp only; omega) | (simp; done) | (simp; omega) | (simp at *; omega)))).mono ?_
        rintro e w1 ⟨rfl, hb1⟩
        have hs1 := hb1.size
        have HB1 : Hid (Below w.heap.size w w1) := Lib.hid (by (repeat (first | (with_reducible refine Below.alloc ?_ ?_ _) | (with_reducible refine Below.setCell ?_ ?_ _) | (with_reducible refine Below.drew ?_) | (with_reducible exact Below.refl _ _) | (with_reducible refine Below.trans ?_ (Below.mono (by assumption) ?_)))) <;> (first | omega | (dsimp only; omega) | (simp; done) | (simp; omega) | (simp at *; omega)))
        obtain ⟨hc1, hf1⟩ := bcell hb1
        simp at hs1
        have z1 : w.heap.size < w1.heap.size := by omega
        clear hb1
        go_wp2_with fail
        refine (HI.out _ HB1.out).mono ?_
        rintro e w2 ⟨rfl, hb2⟩
        have hs2 := hb2.size
        have HB2 : Hid (Below w.heap.size w w2) := Lib.hid (HB1.out.trans (hb2.mono HB1.out.size))
        obtain ⟨hc2, hf2⟩ := bcell hb2
        have z2 : w.heap.size < w2.heap.size := by omega
        clear hb2
        go_wp2_with fail
        refine (HL.out _ HB2.out).mono ?_
        rintro e w3 ⟨rfl, hb3⟩
        have hs3 := hb3.size
        have HB3 : Hid (Below w.heap.size w w3) := Lib.hid (HB2.out.trans (hb3.mono HB2.out.size))
        obtain ⟨hc3, hf3⟩ := bcell hb3
        have z3 : w.heap.size < w3.heap.size := by omega
        clear hb3
        go_wp2_with fail
        go_ret
        exact ⟨rfl, HB3.out⟩
      · rw [Bool.true_and]
        cases tA
        · rw [ARG rfl]
          replace HO := Lib.hid HO
          replace HI := Lib.hid HI
          replace HL := Lib.hid HL
          replace HA := Lib.hid HA
          clear HV HS
          clear FAR ARG VAL BEG LOW MID HIGH
          go_enter Tryz.func30, Tryz.ntmps30
          go_wp2_with fail
          refine (HO.out _ (by (repeat (first | (with_reducible refine Below.alloc ?_ ?_ _) | (with_reducible refine Below.setCell ?_ ?_ _) | (with_reducible refine Below.drew ?_) | (with_reducible exact Below.refl _ _) | (with_reducible refine Below.trans ?_ (Below.mono (by assumption) ?_)))) <;> (first | omega | (dsimp only; omega) | (simp; done) | (simp; omega) | (simp at *; omega)))).mono ?_
          rintro e w1 ⟨rfl, hb1⟩
          have hs1 := hb1.size
          have HB1 : Hid (Below w.heap.size w w1) := Lib.hid (by (repeat (first | (with_reducible refine Below.alloc ?_ ?_ _) | (with_reducible refine Below.setCell ?_ ?_ _) | (with_reducible refine Below.drew ?_) | (with_reducible exact Below.refl _ _) | (with_reducible refine Below.trans ?_ (Below.mono (by assumption) ?_)))) <;> (first | omega | (dsimp only; omega) | (simp; done) | (simp; omega) | (simp at *; omega)))
          obtain ⟨hc1, hf1⟩ := bcell hb1
          simp at hs1
          have z1 : w.heap.size < w1.heap.size := by omega
          clear hb1
          go_wp2_with fail
          refine (HI.out _ HB1.out).mono ?_
          rintro e w2 ⟨rfl, hb2⟩
          have hs2 := hb2.size
          have HB2 : Hid (Below w.heap.size w w2) := Lib.hid (HB1.out.trans (hb2.mono HB1.out.size))
          obtain ⟨hc2, hf2⟩ := bcell hb2
          have z2 : w.heap.size < w2.heap.size := by omega
          clear hb2
          go_wp2_with fail
          refine (HL.out _ HB2.out).mono ?_
          rintro e w3 ⟨rfl, hb3⟩
          have hs3 := hb3.size
          have HB3 : Hid (Below w.heap.size w w3) := Lib.hid (HB2.out.trans (hb3.mono HB2.out.size))
          obtain ⟨hc3, hf3⟩ := bcell hb3
          have z3 : w.heap.size < w3.heap.size := by omega
          clear hb3
          go_wp2_with fail
          refine (HA.out _ HB3.out).mono ?_
          rintro e w4 ⟨rfl, hb4⟩
          have hs4 := hb4.size
          have HB4 : Hid (Below w.heap.size w w4) := Lib.hid (HB3.out.trans (hb4.mono HB3.out.size))
          obtain ⟨hc4, hf4⟩ := bcell hb4
          have z4 : w.heap.size < w4.heap.size := by omega
          clear hb4
          go_wp2_with fail
          go_ret
          exact ⟨rfl, HB4.out⟩
        · cases tV
          · rw [VAL rfl]
            replace HO := Lib.hid HO
            replace HI := Lib.hid HI
            replace HL := Lib.hid HL
            replace HA := Lib.hid HA
            replace HV := Lib.hid HV
            clear HS
            clear FAR ARG VAL BEG LOW MID HIGH
            go_enter Tryz.func30, Tryz.ntmps30
            go_wp2_with fail
            refine (HO.out _ (by (repeat (first | (with_reducible refine Below.alloc ?_ ?_ _) | (with_reducible refine Below.setCell ?_ ?_ _) | (with_reducible refine Below.drew ?_) | (with_reducible exact Below.refl _ _) | (with_reducible refine Below.trans ?_ (Below.mono (by assumption) ?_)))) <;> (first | omega | (dsimp only; omega) | (simp; done) | (simp; omega) | (simp at *; omega)))).mono ?_
            rintro e w1 ⟨rfl, hb1⟩
            have hs1 := hb1.size
            have HB1 : Hid (Below w.heap.size w w1) := Lib.hid (by (repeat (first | (with_reducible refine Below.alloc ?_ ?_ _) | (with_reducible refine Below.setCell ?_ ?_ _) | (with_reducible refine Below.drew ?_) | (with_reducible exact Below.refl _ _) | (with_reducible refine Below.trans ?_ (Below.mono (by assumption) ?_)))) <;> (first | omega | (dsimp only; omega) | (simp; done) | (simp; omega) | (simp at *; omega)))
            obtain ⟨hc1, hf1⟩ := bcell hb1
            simp at hs1
            have z1 : w.heap.size < w1.heap.size := by omega
            clear hb1
            go_wp2_with fail
            refine (HI.out _ HB1.out).mono ?_
            rintro e w2 ⟨rfl, hb2⟩
            have hs2 := hb2.size
            have HB2 : Hid (Below w.heap.size w w2) := Lib.hid (HB1.out.trans (hb2.mono HB1.out.size))
            obtain ⟨hc2, hf2⟩ := bcell hb2
            have z2 : w.heap.size < w2.heap.size := by omega
            clear hb2
            go_wp2_with fail
            refine (HL.out _ HB2.out).mono ?_
            rintro e w3 ⟨rfl, hb3⟩
            have hs3 := hb3.size
            have HB3 : Hid (Below w.heap.size w w3) := Lib.hid (HB2.out.trans (hb3.mono HB2.out.size))
            obtain ⟨hc3, hf3⟩ := bcell hb3
            have z3 : w.heap.size < w3.heap.size := by omega
            clear hb3
            go_wp2_with fail
            refine (HA.out _ HB3.out).mono ?_
            rintro e w4 ⟨rfl, hb4⟩
            have hs4 := hb4.size
            have HB4 : Hid (Below w.heap.size w w4) := Lib.hid (HB3.out.trans (hb4.mono HB3.out.size))
            obtain ⟨hc4, hf4⟩ := bcell hb4
            have z4 : w.heap.size < w4.heap.size := by omega
            clear hb4
            go_wp2_with fail
            refine (HV.out _ HB4.out).mono ?_
            rintro e w5 ⟨rfl, hb5⟩
            have hs5 := hb5.size
            have HB5 : Hid (Below w.heap.size w w5) := Lib.hid (HB4.out.trans (hb5.mono HB4.out.size))
            obtain ⟨hc5, hf5⟩ := bcell hb5
            have z5 : w.heap.size < w5.heap.size := by omega
            clear hb5
            go_wp2_with fail
            go_ret
            exact ⟨rfl, HB5.out⟩
          · have hm : 0 ≤ m ∧ m ≤ 6 := by simpa [inB] using h2
            clear h2
            by_cases m0 : m = 0
            · subst m0
              rw [BEG rfl rfl]
              cases tS
              · rw [Bool.false_and]
                replace HO := Lib.hid HO
                replace HI := Lib.hid HI
                replace HL := Lib.hid HL
                replace HA := Lib.hid HA
                replace HV := Lib.hid HV
                replace HS := Lib.hid HS
                clear FAR ARG VAL BEG LOW MID HIGH
                go_enter Tryz.func30, Tryz.ntmps30
                go_wp2_with fail
                refine (HO.out _ (by (repeat (first | (with_reducible refine Below.alloc ?_ ?_ _) | (with_reducible refine Below.setCell ?_ ?_ _) | (with_reducible refine Below.drew ?_) | (with_reducible exact Below.refl _ _) | (with_reducible refine Below.trans ?_ (Below.mono (by assumption) ?_)))) <;> (first | omega | (dsimp only; omega) | (simp; done) | (simp; omega) | (simp at *; omega)))).mono ?_
                rintro e w1 ⟨rfl, hb1⟩
                have hs1 := hb1.size
                have HB1 : Hid (Below w.heap.size w w1) := Lib.hid (by (repeat (first | (with_reducible refine Below.alloc ?_ ?_ _) | (with_reducible refine Below.setCell ?_ ?_ _) | (with_reducible refine Below.drew ?_) | (with_reducible exact Below.refl _ _) | (with_reducible refine Below.trans ?_ (Below.mono (by assumption) ?_)))) <;> (first | omega | (dsimp only; omega) | (simp; done) | (simp; omega) | (simp at *; omega)))
                obtain ⟨hc1, hf1⟩ := bcell hb1
                simp at hs1
                have z1 : w.heap.size < w1.heap.size := by omega
                clear hb1
                go_wp2_with fail
                refine (HI.out _ HB1.out).mono ?_
                rintro e w2 ⟨rfl, hb2⟩
                have hs2 := hb2.size
                have HB2 : Hid (Below w.heap.size w w2) := Lib.hid (HB1.out.trans (hb2.mono HB1.out.size))
                obtain ⟨hc2, hf2⟩ := bcell hb2
                have z2 : w.heap.size < w2.heap.size := by omega
                clear hb2
                go_wp2_with fail
                refine (HL.out _ HB2.out).mono ?_
                rintro e w3 ⟨rfl, hb3⟩
                have hs3 := hb3.size
                have HB3 : Hid (Below w.heap.size w w3) := Lib.hid (HB2.out.trans (hb3.mono HB2.out.size))
                obtain ⟨hc3, hf3⟩ := bcell hb3
                have z3 : w.heap.size < w3.heap.size := by omega
                clear hb3
                go_wp2_with fail
                refine (HA.out _ HB3.out).mono ?_
                rintro e w4 ⟨rfl, hb4⟩
                have hs4 := hb4.size
                have HB4 : Hid (Below w.heap.size w w4) := Lib.hid (HB3.out.trans (hb4.mono HB3.out.size))
                obtain ⟨hc4, hf4⟩ := bcell hb4
                have z4 : w.heap.size < w4.heap.size := by omega
                clear hb4
                go_wp2_with fail
                refine (HV.out _ HB4.out).mono ?_
                rintro e w5 ⟨rfl, hb5⟩
                have hs5 := hb5.size
                have HB5 : Hid (Below w.heap.size w w5) := Lib.hid (HB4.out.trans (hb5.mono HB4.out.size))
                obtain ⟨hc5, hf5⟩ := bcell hb5
                have z5 : w.heap.size < w5.heap.size := by omega
                clear hb5
                go_wp2_with fail
                refine (HS.out _ HB5.out).mono ?_
                rintro e w6 ⟨rfl, hb6⟩
                have hs6 := hb6.size
                have HB6 : Hid (Below w.heap.size w w6) := Lib.hid (HB5.out.trans (hb6.mono HB5.out.size))
                obtain ⟨hc6, hf6⟩ := bcell hb6
                have z6 : w.heap.size < w6.heap.size := by omega
                clear hb6
                go_wp2_with fail
                go_ret
                exact ⟨rfl, HB6.out⟩
              · rw [Bool.true_and]
                unfold sameB
                by_cases v0 : vk = 0
                · subst v0
                  by_cases v1 : vn = 0
                  · subst v1
                    replace HO := Lib.hid HO
                    replace HI := Lib.hid HI
                    replace HL := Lib.hid HL
                    replace HA := Lib.hid HA
                    replace HV := Lib.hid HV
                    replace HS := Lib.hid HS
                    clear FAR ARG VAL BEG LOW MID HIGH
                    go_enter Tryz.func30, Tryz.ntmps30
                    go_wp2_with fail
                    refine (HO.out _ (by (repeat (first | (with_reducible refine Below.alloc ?_ ?_ _) | (with_reducible refine Below.setCell ?_ ?_ _) | (with_reducible refine Below.drew ?_) | (with_reducible exact Below.refl _ _) | (with_reducible refine Below.trans ?_ (Below.mono (by assumption) ?_)))) <;> (first | omega | (dsimp only; omega) | (simp; done) | (simp; omega) | (simp at *; omega)))).mono ?_
                    rintro e w1 ⟨rfl, hb1⟩
                    have hs1 := hb1.size
                    have HB1 : Hid (Below w.heap.size w w1) := Lib.hid (by (repeat (first | (with_reducible refine Below.alloc ?_ ?_ _) | (with_reducible refine Below.setCell ?_ ?_ _) | (with_reducible refine Below.drew ?_) | (with_reducible exact Below.refl _ _) | (with_reducible refine Below.trans ?_ (Below.mono (by assumption) ?_)))) <;> (first | omega | (dsimp only; omega) | (simp; done) | (simp; omega) | (simp at *; omega)))
                    obtain ⟨hc1, hf1⟩ := bcell hb1
                    simp at hs1
                    have z1 : w.heap.size < w1.heap.size := by omega
                    clear hb1
                    go_wp2_with fail
                    refine (HI.out _ HB1.out).mono ?_
                    rintro e w2 ⟨rfl, hb2⟩
                    have hs2 := hb2.size
                    have HB2 : Hid (Below w.heap.size w w2) := Lib.hid (HB1.out.trans (hb2.mono HB1.out.size))
                    obtain ⟨hc2, hf2⟩ := bcell hb2
                    have z2 : w.heap.size < w2.heap.size := by omega
                    clear hb2
                    go_wp2_with fail
                    refine (HL.out _ HB2.out).mono ?_
                    rintro e w3 ⟨rfl, hb3⟩
                    have hs3 := hb3.size
                    have HB3 : Hid (Below w.heap.size w w3) := Lib.hid (HB2.out.trans (hb3.mono HB2.out.size))
                    obtain ⟨hc3, hf3⟩ := bcell hb3
                    have z3 : w.heap.size < w3.heap.size := by omega
                    clear hb3
                    go_wp2_with fail
                    refine (HA.out _ HB3.out).mono ?_
                    rintro e w4 ⟨rfl, hb4⟩
                    have hs4 := hb4.size
                    have HB4 : Hid (Below w.heap.size w w4) := Lib.hid (HB3.out.trans (hb4.mono HB3.out.size))
                    obtain ⟨hc4, hf4⟩ := bcell hb4
                    have z4 : w.heap.size < w4.heap.size := by omega
                    clear hb4
                    go_wp2_with fail
                    refine (HV.out _ HB4.out).mono ?_
                    rintro e w5 ⟨rfl, hb5⟩
                    have hs5 := hb5.size
                    have HB5 : Hid (Below w.heap.size w w5) := Lib.hid (HB4.out.trans (hb5.mono HB4.out.size))
                    obtain ⟨hc5, hf5⟩ := bcell hb5
                    have z5 : w.heap.size < w5.heap.size := by omega
                    clear hb5
                    go_wp2_with fail
                    refine (HS.out _ HB5.out).mono ?_
                    rintro e w6 ⟨rfl, hb6⟩
                    have hs6 := hb6.size
                    have HB6 : Hid (Below w.heap.size w w6) := Lib.hid (HB5.out.trans (hb6.mono HB5.out.size))
                    obtain ⟨hc6, hf6⟩ := bcell hb6
                    have z6 : w.heap.size < w6.heap.size := by omega
                    clear hb6
                    go_wp2_with fail
                    go_ret
                    exact ⟨rfl, HB6.out⟩
                  · have v1' : (vn == 0) = false := by simpa using v1
                    rw [show (decide ((0 : Int) = 0) && decide (vn = 0)) = false by simp [v1]]
                    replace HO := Lib.hid HO
                    replace HI := Lib.hid HI
                    replace HL := Lib.hid HL
                    replace HA := Lib.hid HA
                    replace HV := Lib.hid HV
                    replace HS := Lib.hid HS
                    clear FAR ARG VAL BEG LOW MID HIGH
                    go_enter Tryz.func30, Tryz.ntmps30
                    go_wp2_with fail
                    refine (HO.out _ (by (repeat (first | (with_reducible refine Below.alloc ?_ ?_ _) | (with_reducible refine Below.setCell ?_ ?_ _) | (with_reducible refine Below.drew ?_) | (with_reducible exact Below.refl _ _) | (with_reducible refine Below.trans ?_ (Below.mono (by assumption) ?_)))) <;> (first | omega | (dsimp only; omega) | (simp; done) | (simp; omega) | (simp at *; omega)))).mono ?_
                    rintro e w1 ⟨rfl, hb1⟩
                    have hs1 := hb1.size
                    have HB1 : Hid (Below w.heap.size w w1) := Lib.hid (by (repeat (first | (with_reducible refine Below.alloc ?_ ?_ _) | (with_reducible refine Below.setCell ?_ ?_ _) | (with_reducible refine Below.drew ?_) | (with_reducible exact Below.refl _ _) | (with_reducible refine Below.trans ?_ (Below.mono (by assumption) ?_)))) <;> (first | omega | (dsimp only; omega) | (simp; done) | (simp; omega) | (simp at *; omega)))
                    obtain ⟨hc1, hf1⟩ := bcell hb1
                    simp at hs1
                    have z1 : w.heap.size < w1.heap.size := by omega
                    clear hb1
                    go_wp2_with fail
                    refine (HI.out _ HB1.out).mono ?_
                    rintro e w2 ⟨rfl, hb2⟩
                    have hs2 := hb2.size
                    have HB2 : Hid (Below w.heap.size w w2) := Lib.hid (HB1.out.trans (hb2.mono HB1.out.size))
                    obtain ⟨hc2, hf2⟩ := bcell hb2
                    have z2 : w.heap.size < w2.heap.size := by omega
                    clear hb2
                    go_wp2_with fail
                    refine (HL.out _ HB2.out).mono ?_
                    rintro e w3 ⟨rfl, hb3⟩
                    have hs3 := hb3.size
                    have HB3 : Hid (Below w.heap.size w w3) := Lib.hid (HB2.out.trans (hb3.mono HB2.out.size))
                    obtain ⟨hc3, hf3⟩ := bcell hb3
                    have z3 : w.heap.size < w3.heap.size := by omega
                    clear hb3
                    go_wp2_with fail
                    refine (HA.out _ HB3.out).mono ?_
                    rintro e w4 ⟨rfl, hb4⟩
                    have hs4 := hb4.size
                    have HB4 : Hid (Below w.heap.size w w4) := Lib.hid (HB3.out.trans (hb4.mono HB3.out.size))
                    obtain ⟨hc4, hf4⟩ := bcell hb4
                    have z4 : w.heap.size < w4.heap.size := by omega
                    clear hb4
                    go_wp2_with fail
                    refine (HV.out _ HB4.out).mono ?_
                    rintro e w5 ⟨rfl, hb5⟩
                    have hs5 := hb5.size
                    have HB5 : Hid (Below w.heap.size w w5) := Lib.hid (HB4.out.trans (hb5.mono HB4.out.size))
                    obtain ⟨hc5, hf5⟩ := bcell hb5
                    have z5 : w.heap.size < w5.heap.size := by omega
                    clear hb5
                    go_wp2_with fail
                    refine (HS.out _ HB5.out).mono ?_
                    rintro e w6 ⟨rfl, hb6⟩
                    have hs6 := hb6.size
                    have HB6 : Hid (Below w.heap.size w w6) := Lib.hid (HB5.out.trans (hb6.mono HB5.out.size))
                    obtain ⟨hc6, hf6⟩ := bcell hb6
                    have z6 : w.heap.size < w6.heap.size := by omega
                    clear hb6
                    go_wp2_with fail
                    go_ret
                    exact ⟨rfl, HB6.out⟩
                · have v0' : (vk == 0) = false := by simpa using v0
                  rw [show (decide (vk = 0) && decide (vn = 0)) = false by simp [v0]]
                  replace HO := Lib.hid HO
                  replace HI := Lib.hid HI
                  replace HL := Lib.hid HL
                  replace HA := Lib.hid HA
                  replace HV := Lib.hid HV
                  replace HS := Lib.hid HS
                  clear FAR ARG VAL BEG LOW MID HIGH
                  go_enter Tryz.func30, Tryz.ntmps30
                  go_wp2_with fail
                  refine (HO.out _ (by (repeat (first | (with_reducible refine Below.alloc ?_ ?_ _) | (with_reducible refine Below.setCell ?_ ?_ _) | (with_reducible refine Below.drew ?_) | (with_reducible exact Below.refl _ _) | (with_reducible refine Below.trans ?_ (Below.mono (by assumption) ?_)))) <;> (first | omega | (dsimp only; omega) | (simp; done) | (simp; omega) | (simp at *; omega)))).mono ?_
                  rintro e w1 ⟨rfl, hb1⟩
                  have hs1 := hb1.size
                  have HB1 : Hid (Below w.heap.size w w1) := Lib.hid (by (repeat (first | (with_reducible refine Below.alloc ?_ ?_ _) | (with_reducible refine Below.setCell ?_ ?_ _) | (with_reducible refine Below.drew ?_) | (with_reducible exact Below.refl _ _) | (with_reducible refine Below.trans ?_ (Below.mono (by assumption) ?_)))) <;> (first | omega | (dsimp only; omega) | (simp; done) | (simp; omega) | (simp at *; omega)))
                  obtain ⟨hc1, hf1⟩ := bcell hb1
                  simp at hs1
                  have z1 : w.heap.size < w1.heap.size := by omega
                  clear hb1
                  go_wp2_with fail
                  refine (HI.out _ HB1.out).mono ?_
                  rintro e w2 ⟨rfl, hb2⟩
                  have hs2 := hb2.size
                  have HB2 : Hid (Below w.heap.size w w2) := Lib.hid (HB1.out.trans (hb2.mono HB1.out.size))
                  obtain ⟨hc2, hf2⟩ := bcell hb2
                  have z2 : w.heap.size < w2.heap.size := by omega
                  clear hb2
                  go_wp2_with fail
                  refine (HL.out _ HB2.out).mono ?_
                  rintro e w3 ⟨rfl, hb3⟩
                  have hs3 := hb3.size
                  have HB3 : Hid (Below w.heap.size w w3) := Lib.hid (HB2.out.trans (hb3.mono HB2.out.size))
                  obtain ⟨hc3, hf3⟩ := bcell hb3
                  have z3 : w.heap.size < w3.heap.size := by omega
                  clear hb3
                  go_wp2_with fail
                  refine (HA.out _ HB3.out).mono ?_
                  rintro e w4 ⟨rfl, hb4⟩
                  have hs4 := hb4.size
                  have HB4 : Hid (Below w.heap.size w w4) := Lib.hid (HB3.out.trans (hb4.mono HB3.out.size))
                  obtain ⟨hc4, hf4⟩ := bcell hb4
                  have z4 : w.heap.size < w4.heap.size := by omega
                  clear hb4
                  go_wp2_with fail
                  refine (HV.out _ HB4.out).mono ?_
                  rintro e w5 ⟨rfl, hb5⟩
                  have hs5 := hb5.size
                  have HB5 : Hid (Below w.heap.size w w5) := Lib.hid (HB4.out.trans (hb5.mono HB4.out.size))
                  obtain ⟨hc5, hf5⟩ := bcell hb5
                  have z5 : w.heap.size < w5.heap.size := by omega
                  clear hb5
                  go_wp2_with fail
                  refine (HS.out _ HB5.out).mono ?_
                  rintro e w6 ⟨rfl, hb6⟩
                  have hs6 := hb6.size
                  have HB6 : Hid (Below w.heap.size w w6) := Lib.hid (HB5.out.trans (hb6.mono HB5.out.size))
                  obtain ⟨hc6, hf6⟩ := bcell hb6
                  have z6 : w.heap.size < w6.heap.size := by omega
                  clear hb6
                  go_wp2_with fail
                  go_ret
                  exact ⟨rfl, HB6.out⟩
            · have m0' : (m == 0) = false := by simpa using m0
              unfold sameB at LOW MID HIGH
              by_cases m3 : m < 3
              · have HM := LOW (by omega) m3 rfl
                have m3' : ¬ 3 ≤ m := by omega
                have m5 : m < 5 := by omega
                by_cases a0 : a = 0
                · subst a0
                  by_cases a1 : ak = 0
                  · subst a1
                    by_cases a2 : an = 0
                    · subst a2
                      rw [show M = true by rw [HM]; simp]
                      clear HM
                      replace HO := Lib.hid HO
                      replace HI := Lib.hid HI
                      replace HL := Lib.hid HL
                      replace HA := Lib.hid HA
                      replace HV := Lib.hid HV
                      clear HS
                      clear FAR ARG VAL BEG LOW MID HIGH
                      go_enter Tryz.func30, Tryz.ntmps30
                      go_wp2_with fail
                      refine (HO.out _ (by (repeat (first | (with_reducible refine Below.alloc ?_ ?_ _) | (with_reducible refine Below.setCell ?_ ?_ _) | (with_reducible refine Below.drew ?_) | (with_reducible exact Below.refl _ _) | (with_reducible refine Below.trans ?_ (Below.mono (by assumption) ?_)))) <;> (first | omega | (dsimp only; omega) | (simp; done) | (simp; omega) | (simp at *; omega)))).mono ?_
                      rintro e w1 ⟨rfl, hb1⟩
                      have hs1 := hb1.size
                      have HB1 : Hid (Below w.heap.size w w1) := Lib.hid (by (repeat (first | (with_reducible refine Below.alloc ?_ ?_ _) | (with_reducible refine Below.setCell ?_ ?_ _) | (with_reducible refine Below.drew ?_) | (with_reducible exact Below.refl _ _) | (with_reducible refine Below.trans ?_ (Below.mono (by assumption) ?_)))) <;> (first | omega | (dsimp only; omega) | (simp; done) | (simp; omega) | (simp at *; omega)))
                      obtain ⟨hc1, hf1⟩ := bcell hb1
                      simp at hs1
                      have z1 : w.heap.size < w1.heap.size := by omega
                      clear hb1
                      go_wp2_with fail
                      refine (HI.out _ HB1.out).mono ?_
                      rintro e w2 ⟨rfl, hb2⟩
                      have hs2 := hb2.size
                      have HB2 : Hid (Below w.heap.size w w2) := Lib.hid (HB1.out.trans (hb2.mono HB1.out.size))
                      obtain ⟨hc2, hf2⟩ := bcell hb2
                      have z2 : w.heap.size < w2.heap.size := by omega
                      clear hb2
                      go_wp2_with fail
                      refine (HL.out _ HB2.out).mono ?_
                      rintro e w3 ⟨rfl, hb3⟩
                      have hs3 := hb3.size
                      have HB3 : Hid (Below w.heap.size w w3) := Lib.hid (HB2.out.trans (hb3.mono HB2.out.size))
                      obtain ⟨hc3, hf3⟩ := bcell hb3
                      have z3 : w.heap.size < w3.heap.size := by omega
                      clear hb3
                      go_wp2_with fail
                      refine (HA.out _ HB3.out).mono ?_
                      rintro e w4 ⟨rfl, hb4⟩
                      have hs4 := hb4.size
                      have HB4 : Hid (Below w.heap.size w w4) := Lib.hid (HB3.out.trans (hb4.mono HB3.out.size))
                      obtain ⟨hc4, hf4⟩ := bcell hb4
                      have z4 : w.heap.size < w4.heap.size := by omega
                      clear hb4
                      go_wp2_with fail
                      refine (HV.out _ HB4.out).mono ?_
                      rintro e w5 ⟨rfl, hb5⟩
                      have hs5 := hb5.size
                      have HB5 : Hid (Below w.heap.size w w5) := Lib.hid (HB4.out.trans (hb5.mono HB4.out.size))
                      obtain ⟨hc5, hf5⟩ := bcell hb5
                      have z5 : w.heap.size < w5.heap.size := by omega
                      clear hb5
                      go_wp2_with fail
                      go_ret
                      exact ⟨rfl, HB5.out⟩
                    · have a2' : (an == 0) = false := by simpa using a2
                      rw [show M = false by rw [HM]; simp [a2]]
                      clear HM
                      replace HO := Lib.hid HO
                      replace HI := Lib.hid HI
                      replace HL := Lib.hid HL
                      replace HA := Lib.hid HA
                      replace HV := Lib.hid HV
                      clear HS
                      clear FAR ARG VAL BEG LOW MID HIGH
                      go_enter Tryz.func30, Tryz.ntmps30
                      go_wp2_with fail
                      refine (HO.out _ (by (repeat (first | (with_reducible refine Below.alloc ?_ ?_ _) | (with_reducible refine Below.setCell ?_ ?_ _) | (with_reducible refine Below.drew ?_) | (with_reducible exact Below.refl _ _) | (with_reducible refine Below.trans ?_ (Below.mono (by assumption) ?_)))) <;> (first | omega | (dsimp only; omega) | (simp; done) | (simp; omega) | (simp at *; omega)))).mono ?_
                      rintro e w1 ⟨rfl, hb1⟩
                      have hs1 := hb1.size
                      have HB1 : Hid (Below w.heap.size w w1) := Lib.hid (by (repeat (first | (with_reducible refine Below.alloc ?_ ?_ _) | (with_reducible refine Below.setCell ?_ ?_ _) | (with_reducible refine Below.drew ?_) | (with_reducible exact Below.refl _ _) | (with_reducible refine Below.trans ?_ (Below.mono (by assumption) ?_)))) <;> (first | omega | (dsimp only; omega) | (simp; done) | (simp; omega) | (simp at *; omega)))
                      obtain ⟨hc1, hf1⟩ := bcell hb1
                      simp at hs1
                      have z1 : w.heap.size < w1.heap.size := by omega
                      clear hb1
                      go_wp2_with fail
                      refine (HI.out _ HB1.out).mono ?_
                      rintro e w2 ⟨rfl, hb2⟩
                      have hs2 := hb2.size
                      have HB2 : Hid (Below w.heap.size w w2) := Lib.hid (HB1.out.trans (hb2.mono HB1.out.size))
                      obtain ⟨hc2, hf2⟩ := bcell hb2
                      have z2 : w.heap.size < w2.heap.size := by omega
                      clear hb2
                      go_wp2_with fail
                      refine (HL.out _ HB2.out).mono ?_
                      rintro e w3 ⟨rfl, hb3⟩
                      have hs3 := hb3.size
                      have HB3 : Hid (Below w.heap.size w w3) := Lib.hid (HB2.out.trans (hb3.mono HB2.out.size))
                      obtain ⟨hc3, hf3⟩ := bcell hb3
                      have z3 : w.heap.size < w3.heap.size := by omega
                      clear hb3
                      go_wp2_with fail
                      refine (HA.out _ HB3.out).mono ?_
                      rintro e w4 ⟨rfl, hb4⟩
                      have hs4 := hb4.size
                      have HB4 : Hid (Below w.heap.size w w4) := Lib.hid (HB3.out.trans (hb4.mono HB3.out.size))
                      obtain ⟨hc4, hf4⟩ := bcell hb4
                      have z4 : w.heap.size < w4.heap.size := by omega
                      clear hb4
                      go_wp2_with fail
                      refine (HV.out _ HB4.out).mono ?_
                      rintro e w5 ⟨rfl, hb5⟩
                      have hs5 := hb5.size
                      have HB5 : Hid (Below w.heap.size w w5) := Lib.hid (HB4.out.trans (hb5.mono HB4.out.size))
                      obtain ⟨hc5, hf5⟩ := bcell hb5
                      have z5 : w.heap.size < w5.heap.size := by omega
                      clear hb5
                      go_wp2_with fail
                      go_ret
                      exact ⟨rfl, HB5.out⟩
                  · have a1' : (ak == 0) = false := by simpa using a1
                    rw [show M = false by rw [HM]; simp [a1]]
                    clear HM
                    replace HO := Lib.hid HO
                    replace HI := Lib.hid HI
                    replace HL := Lib.hid HL
                    replace HA := Lib.hid HA
                    replace HV := Lib.hid HV
                    clear HS
                    clear FAR ARG VAL BEG LOW MID HIGH
                    go_enter Tryz.func30, Tryz.ntmps30
                    go_wp2_with fail
                    refine (HO.out _ (by (repeat (first | (with_reducible refine Below.alloc ?_ ?_ _) | (with_reducible refine Below.setCell ?_ ?_ _) | (with_reducible refine Below.drew ?_) | (with_reducible exact Below.refl _ _) | (with_reducible refine Below.trans ?_ (Below.mono (by assumption) ?_)))) <;> (first | omega | (dsimp only; omega) | (simp; done) | (simp; omega) | (simp at *; omega)))).mono ?_
                    rintro e w1 ⟨rfl, hb1⟩
                    have hs1 := hb1.size
                    have HB1 : Hid (Below w.heap.size w w1) := Lib.hid (by (repeat (first | (with_reducible refine Below.alloc ?_ ?_ _) | (with_reducible refine Below.setCell ?_ ?_ _) | (with_reducible refine Below.drew ?_) | (with_reducible exact Below.refl _ _) | (with_reducible refine Below.trans ?_ (Below.mono (by assumption) ?_)))) <;> (first | omega | (dsimp only; omega) | (simp; done) | (simp; omega) | (simp at *; omega)))
                    obtain ⟨hc1, hf1⟩ := bcell hb1
                    simp at hs1
                    have z1 : w.heap.size < w1.heap.size := by omega
                    clear hb1
                    go_wp2_with fail
                    refine (HI.out _ HB1.out).mono ?_
                    rintro e w2 ⟨rfl, hb2⟩
                    have hs2 := hb2.size
                    have HB2 : Hid (Below w.heap.size w w2) := Lib.hid (HB1.out.trans (hb2.mono HB1.out.size))
                    obtain ⟨hc2, hf2⟩ := bcell hb2
                    have z2 : w.heap.size < w2.heap.size := by omega
                    clear hb2
                    go_wp2_with fail
                    refine (HL.out _ HB2.out).mono ?_
                    rintro e w3 ⟨rfl, hb3⟩
                    have hs3 := hb3.size
                    have HB3 : Hid (Below w.heap.size w w3) := Lib.hid (HB2.out.trans (hb3.mono HB2.out.size))
                    obtain ⟨hc3, hf3⟩ := bcell hb3
                    have z3 : w.heap.size < w3.heap.size := by omega
                    clear hb3
                    go_wp2_with fail
                    refine (HA.out _ HB3.out).mono ?_
                    rintro e w4 ⟨rfl, hb4⟩
                    have hs4 := hb4.size
                    have HB4 : Hid (Below w.heap.size w w4) := Lib.hid (HB3.out.trans (hb4.mono HB3.out.size))
                    obtain ⟨hc4, hf4⟩ := bcell hb4
                    have z4 : w.heap.size < w4.heap.size := by omega
                    clear hb4
                    go_wp2_with fail
                    refine (HV.out _ HB4.out).mono ?_
                    rintro e w5 ⟨rfl, hb5⟩
                    have hs5 := hb5.size
                    have HB5 : Hid (Below w.heap.size w w5) := Lib.hid (HB4.out.trans (hb5.mono HB4.out.size))
                    obtain ⟨hc5, hf5⟩ := bcell hb5
                    have z5 : w.heap.size < w5.heap.size := by omega
                    clear hb5
                    go_wp2_with fail
                    go_ret
                    exact ⟨rfl, HB5.out⟩
                · have a0' : (a == 0) = false := by simpa using a0
                  rw [show M = false by rw [HM]; simp [a0]]
                  clear HM
                  replace HO := Lib.hid HO
                  replace HI := Lib.hid HI
                  replace HL := Lib.hid HL
                  replace HA := Lib.hid HA
                  replace HV := Lib.hid HV
                  clear HS
                  clear FAR ARG VAL BEG LOW MID HIGH
                  go_enter Tryz.func30, Tryz.ntmps30
                  go_wp2_with fail
                  refine (HO.out _ (by (repeat (first | (with_reducible refine Below.alloc ?_ ?_ _) | (with_reducible refine Below.setCell ?_ ?_ _) | (with_reducible refine Below.drew ?_) | (with_reducible exact Below.refl _ _) | (with_reducible refine Below.trans ?_ (Below.mono (by assumption) ?_)))) <;> (first | omega | (dsimp only; omega) | (simp; done) | (simp; omega) | (simp at *; omega)))).mono ?_
                  rintro e w1 ⟨rfl, hb1⟩
                  have hs1 := hb1.size
                  have HB1 : Hid (Below w.heap.size w w1) := Lib.hid (by (repeat (first | (with_reducible refine Below.alloc ?_ ?_ _) | (with_reducible refine Below.setCell ?_ ?_ _) | (with_reducible refine Below.drew ?_) | (with_reducible exact Below.refl _ _) | (with_reducible refine Below.trans ?_ (Below.mono (by assumption) ?_)))) <;> (first | omega | (dsimp only; omega) | (simp; done) | (simp; omega) | (simp at *; omega)))
                  obtain ⟨hc1, hf1⟩ := bcell hb1
                  simp at hs1
                  have z1 : w.heap.size < w1.heap.size := by omega
                  clear hb1
                  go_wp2_with fail
                  refine (HI.out _ HB1.out).mono ?_
                  rintro e w2 ⟨rfl, hb2⟩
                  have hs2 := hb2.size
                  have HB2 : Hid (Below w.heap.size w w2) := Lib.hid (HB1.out.trans (hb2.mono HB1.out.size))
                  obtain ⟨hc2, hf2⟩ := bcell hb2
                  have z2 : w.heap.size < w2.heap.size := by omega
                  clear hb2
                  go_wp2_with fail
                  refine (HL.out _ HB2.out).mono ?_
                  rintro e w3 ⟨rfl, hb3⟩
                  have hs3 := hb3.size
                  have HB3 : Hid (Below w.heap.size w w3) := Lib.hid (HB2.out.trans (hb3.mono HB2.out.size))
                  obtain ⟨hc3, hf3⟩ := bcell hb3
                  have z3 : w.heap.size < w3.heap.size := by omega
                  clear hb3
                  go_wp2_with fail
                  refine (HA.out _ HB3.out).mono ?_
                  rintro e w4 ⟨rfl, hb4⟩
                  have hs4 := hb4.size
                  have HB4 : Hid (Below w.heap.size w w4) := Lib.hid (HB3.out.trans (hb4.mono HB3.out.size))
                  obtain ⟨hc4, hf4⟩ := bcell hb4
                  have z4 : w.heap.size < w4.heap.size := by omega
                  clear hb4
                  go_wp2_with fail
                  refine (HV.out _ HB4.out).mono ?_
                  rintro e w5 ⟨rfl, hb5⟩
                  have hs5 := hb5.size
                  have HB5 : Hid (Below w.heap.size w w5) := Lib.hid (HB4.out.trans (hb5.mono HB4.out.size))
                  obtain ⟨hc5, hf5⟩ := bcell hb5
                  have z5 : w.heap.size < w5.heap.size := by omega
                  clear hb5
                  go_wp2_with fail
                  go_ret
                  exact ⟨rfl, HB5.out⟩
              · by_cases m5 : m < 5
                · have HM := MID (by omega) m5 rfl
                  have m3' : 3 ≤ m := by omega
                  by_cases a0 : a = 0
                  · subst a0
                    by_cases a1 : ak = 0
                    · subst a1
                      by_cases a2 : an = 0
                      · subst a2
                        by_cases p0 : np = 0
                        · subst p0
                          rw [show M = true by rw [HM]; simp]
                          clear HM
                          replace HO := Lib.hid HO
                          replace HI := Lib.hid HI
                          replace HL := Lib.hid HL
                          replace HA := Lib.hid HA
                          replace HV := Lib.hid HV
                          clear HS
                          clear FAR ARG VAL BEG LOW MID HIGH
                          go_enter Tryz.func30, Tryz.ntmps30
                          go_wp2_with fail
                          refine (HO.out _ (by (repeat (first | (with_reducible refine Below.alloc ?_ ?_ _) | (with_reducible refine Below.setCell ?_ ?_ _) | (with_reducible refine Below.drew ?_) | (with_reducible exact Below.refl _ _) | (with_reducible refine Below.trans ?_ (Below.mono (by assumption) ?_)))) <;> (first | omega | (dsimp only; omega) | (simp; done) | (simp; omega) | (simp at *; omega)))).mono ?_
                          rintro e w1 ⟨rfl, hb1⟩
                          have hs1 := hb1.size
                          have HB1 : Hid (Below w.heap.size w w1) := Lib.hid (by (repeat (first | (with_reducible refine Below.alloc ?_ ?_ _) | (with_reducible refine Below.setCell ?_ ?_ _) | (with_reducible refine Below.drew ?_) | (with_reducible exact Below.refl _ _) | (with_reducible refine Below.trans ?_ (Below.mono (by assumption) ?_)))) <;> (first | omega | (dsimp only; omega) | (simp; done) | (simp; omega) | (simp at *; omega)))
                          obtain ⟨hc1, hf1⟩ := bcell hb1
                          simp at hs1
                          have z1 : w.heap.size < w1.heap.size := by omega
                          clear hb1
                          go_wp2_with fail
                          refine (HI.out _ HB1.out).mono ?_
                          rintro e w2 ⟨rfl, hb2⟩
                          have hs2 := hb2.size
                          have HB2 : Hid (Below w.heap.size w w2) := Lib.hid (HB1.out.trans (hb2.mono HB1.out.size))
                          obtain ⟨hc2, hf2⟩ := bcell hb2
                          have z2 : w.heap.size < w2.heap.size := by omega
                          clear hb2
                          go_wp2_with fail
                          refine (HL.out _ HB2.out).mono ?_
                          rintro e w3 ⟨rfl, hb3⟩
                          have hs3 := hb3.size
                          have HB3 : Hid (Below w.heap.size w w3) := Lib.hid (HB2.out.trans (hb3.mono HB2.out.size))
                          obtain ⟨hc3, hf3⟩ := bcell hb3
                          have z3 : w.heap.size < w3.heap.size := by omega
                          clear hb3
                          go_wp2_with fail
                          refine (HA.out _ HB3.out).mono ?_
                          rintro e w4 ⟨rfl, hb4⟩
                          have hs4 := hb4.size
                          have HB4 : Hid (Below w.heap.size w w4) := Lib.hid (HB3.out.trans (hb4.mono HB3.out.size))
                          obtain ⟨hc4, hf4⟩ := bcell hb4
                          have z4 : w.heap.size < w4.heap.size := by omega
                          clear hb4
                          go_wp2_with fail
                          refine (HV.out _ HB4.out).mono ?_
                          rintro e w5 ⟨rfl, hb5⟩
                          have hs5 := hb5.size
                          have HB5 : Hid (Below w.heap.size w w5) := Lib.hid (HB4.out.trans (hb5.mono HB4.out.size))
                          obtain ⟨hc5, hf5⟩ := bcell hb5
                          have z5 : w.heap.size < w5.heap.size := by omega
                          clear hb5
                          go_wp2_with fail
                          go_ret
                          exact ⟨rfl, HB5.out⟩
                        · have p0i : (0 : Int) < (np : Int) := by omega
                          rw [show M = false by rw [HM]; simp [p0]]
                          clear HM
                          replace HO := Lib.hid HO
                          replace HI := Lib.hid HI
                          replace HL := Lib.hid HL
                          replace HA := Lib.hid HA
                          replace HV := Lib.hid HV
                          clear HS
                          clear FAR ARG VAL BEG LOW MID HIGH
                          go_enter Tryz.func30, Tryz.ntmps30
                          go_wp2_with fail
                          refine (HO.out _ (by (repeat (first | (with_reducible refine Below.alloc ?_ ?_ _) | (with_reducible refine Below.setCell ?_ ?_ _) | (with_reducible refine Below.drew ?_) | (with_reducible exact Below.refl _ _) | (with_reducible refine Below.trans ?_ (Below.mono (by assumption) ?_)))) <;> (first | omega | (dsimp only; omega) | (simp; done) | (simp; omega) | (simp at *; omega)))).mono ?_
                          rintro e w1 ⟨rfl, hb1⟩
                          have hs1 := hb1.size
                          have HB1 : Hid (Below w.heap.size w w1) := Lib.hid (by (repeat (first | (with_reducible refine Below.alloc ?_ ?_ _) | (with_reducible refine Below.setCell ?_ ?_ _) | (with_reducible refine Below.drew ?_) | (with_reducible exact Below.refl _ _) | (with_reducible refine Below.trans ?_ (Below.mono (by assumption) ?_)))) <;> (first | omega | (dsimp only; omega) | (simp; done) | (simp; omega) | (simp at *; omega)))
                          obtain ⟨hc1, hf1⟩ := bcell hb1
                          simp at hs1
                          have z1 : w.heap.size < w1.heap.size := by omega
                          clear hb1
                          go_wp2_with fail
                          refine (HI.out _ HB1.out).mono ?_
                          rintro e w2 ⟨rfl, hb2⟩
                          have hs2 := hb2.size
                          have HB2 : Hid (Below w.heap.size w w2) := Lib.hid (HB1.out.trans (hb2.mono HB1.out.size))
                          obtain ⟨hc2, hf2⟩ := bcell hb2
                          have z2 : w.heap.size < w2.heap.size := by omega
                          clear hb2
                          go_wp2_with fail
                          refine (HL.out _ HB2.out).mono ?_
                          rintro e w3 ⟨rfl, hb3⟩
                          have hs3 := hb3.size
                          have HB3 : Hid (Below w.heap.size w w3) := Lib.hid (HB2.out.trans (hb3.mono HB2.out.size))
                          obtain ⟨hc3, hf3⟩ := bcell hb3
                          have z3 : w.heap.size < w3.heap.size := by omega
                          clear hb3
                          go_wp2_with fail
                          refine (HA.out _ HB3.out).mono ?_
                          rintro e w4 ⟨rfl, hb4⟩
                          have hs4 := hb4.size
                          have HB4 : Hid (Below w.heap.size w w4) := Lib.hid (HB3.out.trans (hb4.mono HB3.out.size))
                          obtain ⟨hc4, hf4⟩ := bcell hb4
                          have z4 : w.heap.size < w4.heap.size := by omega
                          clear hb4
                          go_wp2_with fail
                          refine (HV.out _ HB4.out).mono ?_
                          rintro e w5 ⟨rfl, hb5⟩
                          have hs5 := hb5.size
                          have HB5 : Hid (Below w.heap.size w w5) := Lib.hid (HB4.out.trans (hb5.mono HB4.out.size))
                          obtain ⟨hc5, hf5⟩ := bcell hb5
                          have z5 : w.heap.size < w5.heap.size := by omega
                          clear hb5
                          go_wp2_with fail
                          go_ret
                          exact ⟨rfl, HB5.out⟩
                      · have a2' : (an == 0) = false := by simpa using a2
                        rw [show M = false by rw [HM]; simp [a2]]
                        clear HM
                        replace HO := Lib.hid HO
                        replace HI := Lib.hid HI
                        replace HL := Lib.hid HL
                        replace HA := Lib.hid HA
                        replace HV := Lib.hid HV
                        clear HS
                        clear FAR ARG VAL BEG LOW MID HIGH
                        go_enter Tryz.func30, Tryz.ntmps30
                        go_wp2_with fail
                        refine (HO.out _ (by (repeat (first | (with_reducible refine Below.alloc ?_ ?_ _) | (with_reducible refine Below.setCell ?_ ?_ _) | (with_reducible refine Below.drew ?_) | (with_reducible exact Below.refl _ _) | (with_reducible refine Below.trans ?_ (Below.mono (by assumption) ?_)))) <;> (first | omega | (dsimp only; omega) | (simp; done) | (simp; omega) | (simp at *; omega)))).mono ?_
                        rintro e w1 ⟨rfl, hb1⟩
                        have hs1 := hb1.size
                        have HB1 : Hid (Below w.heap.size w w1) := Lib.hid (by (repeat (first | (with_reducible refine Below.alloc ?_ ?_ _) | (with_reducible refine Below.setCell ?_ ?_ _) | (with_reducible refine Below.drew ?_) | (with_reducible exact Below.refl _ _) | (with_reducible refine Below.trans ?_ (Below.mono (by assumption) ?_)))) <;> (first | omega | (dsimp only; omega) | (simp; done) | (simp; omega) | (simp at *; omega)))
                        obtain ⟨hc1, hf1⟩ := bcell hb1
                        simp at hs1
                        have z1 : w.heap.size < w1.heap.size := by omega
                        clear hb1
                        go_wp2_with fail
                        refine (HI.out _ HB1.out).mono ?_
                        rintro e w2 ⟨rfl, hb2⟩
                        have hs2 := hb2.size
                        have HB2 : Hid (Below w.heap.size w w2) := Lib.hid (HB1.out.trans (hb2.mono HB1.out.size))
                        obtain ⟨hc2, hf2⟩ := bcell hb2
                        have z2 : w.heap.size < w2.heap.size := by omega
                        clear hb2
                        go_wp2_with fail
                        refine (HL.out _ HB2.out).mono ?_
                        rintro e w3 ⟨rfl, hb3⟩
                        have hs3 := hb3.size
                        have HB3 : Hid (Below w.heap.size w w3) := Lib.hid (HB2.out.trans (hb3.mono HB2.out.size))
                        obtain ⟨hc3, hf3⟩ := bcell hb3
                        have z3 : w.heap.size < w3.heap.size := by omega
                        clear hb3
                        go_wp2_with fail
                        refine (HA.out _ HB3.out).mono ?_
                        rintro e w4 ⟨rfl, hb4⟩
                        have hs4 := hb4.size
                        have HB4 : Hid (Below w.heap.size w w4) := Lib.hid (HB3.out.trans (hb4.mono HB3.out.size))
                        obtain ⟨hc4, hf4⟩ := bcell hb4
                        have z4 : w.heap.size < w4.heap.size := by omega
                        clear hb4
                        go_wp2_with fail
                        refine (HV.out _ HB4.out).mono ?_
                        rintro e w5 ⟨rfl, hb5⟩
                        have hs5 := hb5.size
                        have HB5 : Hid (Below w.heap.size w w5) := Lib.hid (HB4.out.trans (hb5.mono HB4.out.size))
                        obtain ⟨hc5, hf5⟩ := bcell hb5
                        have z5 : w.heap.size < w5.heap.size := by omega
                        clear hb5
                        go_wp2_with fail
                        go_ret
                        exact ⟨rfl, HB5.out⟩
                    · have a1' : (ak == 0) = false := by simpa using a1
                      rw [show M = false by rw [HM]; simp [a1]]
                      clear HM
                      replace HO := Lib.hid HO
                      replace HI := Lib.hid HI
                      replace HL := Lib.hid HL
                      replace HA := Lib.hid HA
                      replace HV := Lib.hid HV
                      clear HS
                      clear FAR ARG VAL BEG LOW MID HIGH
                      go_enter Tryz.func30, Tryz.ntmps30
                      go_wp2_with fail
                      refine (HO.out _ (by (repeat (first | (with_reducible refine Below.alloc ?_ ?_ _) | (with_reducible refine Below.setCell ?_ ?_ _) | (with_reducible refine Below.drew ?_) | (with_reducible exact Below.refl _ _) | (with_reducible refine Below.trans ?_ (Below.mono (by assumption) ?_)))) <;> (first | omega | (dsimp only; omega) | (simp; done) | (simp; omega) | (simp at *; omega)))).mono ?_
                      rintro e w1 ⟨rfl, hb1⟩
                      have hs1 := hb1.size
                      have HB1 : Hid (Below w.heap.size w w1) := Lib.hid (by (repeat (first | (with_reducible refine Below.alloc ?_ ?_ _) | (with_reducible refine Below.setCell ?_ ?_ _) | (with_reducible refine Below.drew ?_) | (with_reducible exact Below.refl _ _) | (with_reducible refine Below.trans ?_ (Below.mono (by assumption) ?_)))) <;> (first | omega | (dsimp only; omega) | (simp; done) | (simp; omega) | (simp at *; omega)))
                      obtain ⟨hc1, hf1⟩ := bcell hb1
                      simp at hs1
                      have z1 : w.heap.size < w1.heap.size := by omega
                      clear hb1
                      go_wp2_with fail
                      refine (HI.out _ HB1.out).mono ?_
                      rintro e w2 ⟨rfl, hb2⟩
                      have hs2 := hb2.size
                      have HB2 : Hid (Below w.heap.size w w2) := Lib.hid (HB1.out.trans (hb2.mono HB1.out.size))
                      obtain ⟨hc2, hf2⟩ := bcell hb2
                      have z2 : w.heap.size < w2.heap.size := by omega
                      clear hb2
                      go_wp2_with fail
                      refine (HL.out _ HB2.out).mono ?_
                      rintro e w3 ⟨rfl, hb3⟩
                      have hs3 := hb3.size
                      have HB3 : Hid (Below w.heap.size w w3) := Lib.hid (HB2.out.trans (hb3.mono HB2.out.size))
                      obtain ⟨hc3, hf3⟩ := bcell hb3
                      have z3 : w.heap.size < w3.heap.size := by omega
                      clear hb3
                      go_wp2_with fail
                      refine (HA.out _ HB3.out).mono ?_
                      rintro e w4 ⟨rfl, hb4⟩
                      have hs4 := hb4.size
                      have HB4 : Hid (Below w.heap.size w w4) := Lib.hid (HB3.out.trans (hb4.mono HB3.out.size))
                      obtain ⟨hc4, hf4⟩ := bcell hb4
                      have z4 : w.heap.size < w4.heap.size := by omega
                      clear hb4
                      go_wp2_with fail
                      refine (HV.out _ HB4.out).mono ?_
                      rintro e w5 ⟨rfl, hb5⟩
                      have hs5 := hb5.size
                      have HB5 : Hid (Below w.heap.size w w5) := Lib.hid (HB4.out.trans (hb5.mono HB4.out.size))
                      obtain ⟨hc5, hf5⟩ := bcell hb5
                      have z5 : w.heap.size < w5.heap.size := by omega
                      clear hb5
                      go_wp2_with fail
                      go_ret
                      exact ⟨rfl, HB5.out⟩
                  · have a0' : (a == 0) = false := by simpa using a0
                    rw [show M = false by rw [HM]; simp [a0]]
                    clear HM
                    replace HO := Lib.hid HO
                    replace HI := Lib.hid HI
                    replace HL := Lib.hid HL
                    replace HA := Lib.hid HA
                    replace HV := Lib.hid HV
                    clear HS
                    clear FAR ARG VAL BEG LOW MID HIGH
                    go_enter Tryz.func30, Tryz.ntmps30
                    go_wp2_with fail
                    refine (HO.out _ (by (repeat (first | (with_reducible refine Below.alloc ?_ ?_ _) | (with_reducible refine Below.setCell ?_ ?_ _) | (with_reducible refine Below.drew ?_) | (with_reducible exact Below.refl _ _) | (with_reducible refine Below.trans ?_ (Below.mono (by assumption) ?_)))) <;> (first | omega | (dsimp only; omega) | (simp; done) | (simp; omega) | (simp at *; omega)))).mono ?_
                    rintro e w1 ⟨rfl, hb1⟩
                    have hs1 := hb1.size
                    have HB1 : Hid (Below w.heap.size w w1) := Lib.hid (by (repeat (first | (with_reducible refine Below.alloc ?_ ?_ _) | (with_reducible refine Below.setCell ?_ ?_ _) | (with_reducible refine Below.drew ?_) | (with_reducible exact Below.refl _ _) | (with_reducible refine Below.trans ?_ (Below.mono (by assumption) ?_)))) <;> (first | omega | (dsimp only; omega) | (simp; done) | (simp; omega) | (simp at *; omega)))
                    obtain ⟨hc1, hf1⟩ := bcell hb1
                    simp at hs1
                    have z1 : w.heap.size < w1.heap.size := by omega
                    clear hb1
                    go_wp2_with fail
                    refine (HI.out _ HB1.out).mono ?_
                    rintro e w2 ⟨rfl, hb2⟩
                    have hs2 := hb2.size
                    have HB2 : Hid (Below w.heap.size w w2) := Lib.hid (HB1.out.trans (hb2.mono HB1.out.size))
                    obtain ⟨hc2, hf2⟩ := bcell hb2
                    have z2 : w.heap.size < w2.heap.size := by omega
                    clear hb2
                    go_wp2_with fail
                    refine (HL.out _ HB2.out).mono ?_
                    rintro e w3 ⟨rfl, hb3⟩
                    have hs3 := hb3.size
                    have HB3 : Hid (Below w.heap.size w w3) := Lib.hid (HB2.out.trans (hb3.mono HB2.out.size))
                    obtain ⟨hc3, hf3⟩ := bcell hb3
                    have z3 : w.heap.size < w3.heap.size := by omega
                    clear hb3
                    go_wp2_with fail
                    refine (HA.out _ HB3.out).mono ?_
                    rintro e w4 ⟨rfl, hb4⟩
                    have hs4 := hb4.size
                    have HB4 : Hid (Below w.heap.size w w4) := Lib.hid (HB3.out.trans (hb4.mono HB3.out.size))
                    obtain ⟨hc4, hf4⟩ := bcell hb4
                    have z4 : w.heap.size < w4.heap.size := by omega
                    clear hb4
                    go_wp2_with fail
                    refine (HV.out _ HB4.out).mono ?_
                    rintro e w5 ⟨rfl, hb5⟩
                    have hs5 := hb5.size
                    have HB5 : Hid (Below w.heap.size w w5) := Lib.hid (HB4.out.trans (hb5.mono HB4.out.size))
                    obtain ⟨hc5, hf5⟩ := bcell hb5
                    have z5 : w.heap.size < w5.heap.size := by omega
                    clear hb5
                    go_wp2_with fail
                    go_ret
                    exact ⟨rfl, HB5.out⟩
                · have HM := HIGH (by omega) hm.2
                  have m3' : 3 ≤ m := by omega
                  by_cases a0 : a = 0
                  · subst a0
                    by_cases a1 : ak = 0
                    · subst a1
                      by_cases a2 : an = 0
                      · subst a2
                        by_cases p0 : np = 0
                        · subst p0
                          by_cases v0 : vk = 0
                          · subst v0
                            by_cases v1 : vn = 0
                            · subst v1
                              rw [show M = true by rw [HM]; simp]
                              clear HM
                              replace HO := Lib.hid HO
                              replace HI := Lib.hid HI
                              replace HL := Lib.hid HL
                              replace HA := Lib.hid HA
                              replace HV := Lib.hid HV
                              clear HS
                              clear FAR ARG VAL BEG LOW MID HIGH
                              go_enter Tryz.func30, Tryz.ntmps30
                              go_wp2_with fail
                              refine (HO.out _ (by (repeat (first | (with_reducible refine Below.alloc ?_ ?_ _) | (with_reducible refine Below.setCell ?_ ?_ _) | (with_reducible refine Below.drew ?_) | (with_reducible exact Below.refl _ _) | (with_reducible refine Below.trans ?_ (Below.mono (by assumption) ?_)))) <;> (first | omega | (dsimp only; omega) | (simp; done) | (simp; omega) | (simp at *; omega)))).mono ?_
                              rintro e w1 ⟨rfl, hb1⟩
                              have hs1 := hb1.size
                              have HB1 : Hid (Below w.heap.size w w1) := Lib.hid (by (repeat (first | (with_reducible refine Below.alloc ?_ ?_ _) | (with_reducible refine Below.setCell ?_ ?_ _) | (with_reducible refine Below.drew ?_) | (with_reducible exact Below.refl _ _) | (with_reducible refine Below.trans ?_ (Below.mono (by assumption) ?_)))) <;> (first | omega | (dsimp only; omega) | (simp; done) | (simp; omega) | (simp at *; omega)))
                              obtain ⟨hc1, hf1⟩ := bcell hb1
                              simp at hs1
                              have z1 : w.heap.size < w1.heap.size := by omega
                              clear hb1
                              go_wp2_with fail
                              refine (HI.out _ HB1.out).mono ?_
                              rintro e w2 ⟨rfl, hb2⟩
                              have hs2 := hb2.size
                              have HB2 : Hid (Below w.heap.size w w2) := Lib.hid (HB1.out.trans (hb2.mono HB1.out.size))
                              obtain ⟨hc2, hf2⟩ := bcell hb2
                              have z2 : w.heap.size < w2.heap.size := by omega
                              clear hb2
                              go_wp2_with fail
                              refine (HL.out _ HB2.out).mono ?_
                              rintro e w3 ⟨rfl, hb3⟩
                              have hs3 := hb3.size
                              have HB3 : Hid (Below w.heap.size w w3) := Lib.hid (HB2.out.trans (hb3.mono HB2.out.size))
                              obtain ⟨hc3, hf3⟩ := bcell hb3
                              have z3 : w.heap.size < w3.heap.size := by omega
                              clear hb3
                              go_wp2_with fail
                              refine (HA.out _ HB3.out).mono ?_
                              rintro e w4 ⟨rfl, hb4⟩
                              have hs4 := hb4.size
                              have HB4 : Hid (Below w.heap.size w w4) := Lib.hid (HB3.out.trans (hb4.mono HB3.out.size))
                              obtain ⟨hc4, hf4⟩ := bcell hb4
                              have z4 : w.heap.size < w4.heap.size := by omega
                              clear hb4
                              go_wp2_with fail
                              refine (HV.out _ HB4.out).mono ?_
                              rintro e w5 ⟨rfl, hb5⟩
                              have hs5 := hb5.size
                              have HB5 : Hid (Below w.heap.size w w5) := Lib.hid (HB4.out.trans (hb5.mono HB4.out.size))
                              obtain ⟨hc5, hf5⟩ := bcell hb5
                              have z5 : w.heap.size < w5.heap.size := by omega
                              clear hb5
                              go_wp2_with fail
                              go_ret
                              exact ⟨rfl, HB5.out⟩
                            · have v1' : (vn == 0) = false := by simpa using v1
                              rw [show M = false by rw [HM]; simp [v1]]
                              clear HM
                              replace HO := Lib.hid HO
                              replace HI := Lib.hid HI
                              replace HL := Lib.hid HL
                              replace HA := Lib.hid HA
                              replace HV := Lib.hid HV
                              clear HS
                              clear FAR ARG VAL BEG LOW MID HIGH
                              go_enter Tryz.func30, Tryz.ntmps30
                              go_wp2_with fail
                              refine (HO.out _ (by (repeat (first | (with_reducible refine Below.alloc ?_ ?_ _) | (with_reducible refine Below.setCell ?_ ?_ _) | (with_reducible refine Below.drew ?_) | (with_reducible exact Below.refl _ _) | (with_reducible refine Below.trans ?_ (Below.mono (by assumption) ?_)))) <;> (first | omega | (dsimp only; omega) | (simp; done) | (simp; omega) | (simp at *; omega)))).mono ?_
                              rintro e w1 ⟨rfl, hb1⟩
                              have hs1 := hb1.size
                              have HB1 : Hid (Below w.heap.size w w1) := Lib.hid (by (repeat (first | (with_reducible refine Below.alloc ?_ ?_ _) | (with_reducible refine Below.setCell ?_ ?_ _) | (with_reducible refine Below.drew ?_) | (with_reducible exact Below.refl _ _) | (with_reducible refine Below.trans ?_ (Below.mono (by assumption) ?_)))) <;> (first | omega | (dsimp only; omega) | (simp; done) | (simp; omega) | (simp at *; omega)))
                              obtain ⟨hc1, hf1⟩ := bcell hb1
                              simp at hs1
                              have z1 : w.heap.size < w1.heap.size := by omega
                              clear hb1
                              go_wp2_with fail
                              refine (HI.out _ HB1.out).mono ?_
                              rintro e w2 ⟨rfl, hb2⟩
                              have hs2 := hb2.size
                              have HB2 : Hid (Below w.heap.size w w2) := Lib.hid (HB1.out.trans (hb2.mono HB1.out.size))
                              obtain ⟨hc2, hf2⟩ := bcell hb2
                              have z2 : w.heap.size < w2.heap.size := by omega
                              clear hb2
                              go_wp2_with fail
                              refine (HL.out _ HB2.out).mono ?_
                              rintro e w3 ⟨rfl, hb3⟩
                              have hs3 := hb3.size
                              have HB3 : Hid (Below w.heap.size w w3) := Lib.hid (HB2.out.trans (hb3.mono HB2.out.size))
                              obtain ⟨hc3, hf3⟩ := bcell hb3
                              have z3 : w.heap.size < w3.heap.size := by omega
                              clear hb3
                              go_wp2_with fail
                              refine (HA.out _ HB3.out).mono ?_
                              rintro e w4 ⟨rfl, hb4⟩
                              have hs4 := hb4.size
                              have HB4 : Hid (Below w.heap.size w w4) := Lib.hid (HB3.out.trans (hb4.mono HB3.out.size))
                              obtain ⟨hc4, hf4⟩ := bcell hb4
                              have z4 : w.heap.size < w4.heap.size := by omega
                              clear hb4
                              go_wp2_with fail
                              refine (HV.out _ HB4.out).mono ?_
                              rintro e w5 ⟨rfl, hb5⟩
                              have hs5 := hb5.size
                              have HB5 : Hid (Below w.heap.size w w5) := Lib.hid (HB4.out.trans (hb5.mono HB4.out.size))
                              obtain ⟨hc5, hf5⟩ := bcell hb5
                              have z5 : w.heap.size < w5.heap.size := by omega
                              clear hb5
                              go_wp2_with fail
                              go_ret
                              exact ⟨(by show Ending.returned (Value.bool (decide (m < 5))) = _; rw [decide_eq_false (show ¬ m < 5 by omega)]), HB5.out⟩
                          · have v0' : (vk == 0) = false := by simpa using v0
                            rw [show M = false by rw [HM]; simp [v0]]
                            clear HM
                            replace HO := Lib.hid HO
                            replace HI := Lib.hid HI
                            replace HL := Lib.hid HL
                            replace HA := Lib.hid HA
                            replace HV := Lib.hid HV
                            clear HS
                            clear FAR ARG VAL BEG LOW MID HIGH
                            go_enter Tryz.func30, Tryz.ntmps30
                            go_wp2_with fail
                            refine (HO.out _ (by (repeat (first | (with_reducible refine Below.alloc ?_ ?_ _) | (with_reducible refine Below.setCell ?_ ?_ _) | (with_reducible refine Below.drew ?_) | (with_reducible exact Below.refl _ _) | (with_reducible refine Below.trans ?_ (Below.mono (by assumption) ?_)))) <;> (first | omega | (dsimp only; omega) | (simp; done) | (simp; omega) | (simp at *; omega)))).mono ?_
                            rintro e w1 ⟨rfl, hb1⟩
                            have hs1 := hb1.size
                            have HB1 : Hid (Below w.heap.size w w1) := Lib.hid (by (repeat (first | (with_reducible refine Below.alloc ?_ ?_ _) | (with_reducible refine Below.setCell ?_ ?_ _) | (with_reducible refine Below.drew ?_) | (with_reducible exact Below.refl _ _) | (with_reducible refine Below.trans ?_ (Below.mono (by assumption) ?_)))) <;> (first | omega | (dsimp only; omega) | (simp; done) | (simp; omega) | (simp at *; omega)))
                            obtain ⟨hc1, hf1⟩ := bcell hb1
                            simp at hs1
                            have z1 : w.heap.size < w1.heap.size := by omega
                            clear hb1
                            go_wp2_with fail
                            refine (HI.out _ HB1.out).mono ?_
                            rintro e w2 ⟨rfl, hb2⟩
                            have hs2 := hb2.size
                            have HB2 : Hid (Below w.heap.size w w2) := Lib.hid (HB1.out.trans (hb2.mono HB1.out.size))
                            obtain ⟨hc2, hf2⟩ := bcell hb2
                            have z2 : w.heap.size < w2.heap.size := by omega
                            clear hb2
                            go_wp2_with fail
                            refine (HL.out _ HB2.out).mono ?_
                            rintro e w3 ⟨rfl, hb3⟩
                            have hs3 := hb3.size
                            have HB3 : Hid (Below w.heap.size w w3) := Lib.hid (HB2.out.trans (hb3.mono HB2.out.size))
                            obtain ⟨hc3, hf3⟩ := bcell hb3
                            have z3 : w.heap.size < w3.heap.size := by omega
                            clear hb3
                            go_wp2_with fail
                            refine (HA.out _ HB3.out).mono ?_
                            rintro e w4 ⟨rfl, hb4⟩
                            have hs4 := hb4.size
                            have HB4 : Hid (Below w.heap.size w w4) := Lib.hid (HB3.out.trans (hb4.mono HB3.out.size))
                            obtain ⟨hc4, hf4⟩ := bcell hb4
                            have z4 : w.heap.size < w4.heap.size := by omega
                            clear hb4
                            go_wp2_with fail
                            refine (HV.out _ HB4.out).mono ?_
                            rintro e w5 ⟨rfl, hb5⟩
                            have hs5 := hb5.size
                            have HB5 : Hid (Below w.heap.size w w5) := Lib.hid (HB4.out.trans (hb5.mono HB4.out.size))
                            obtain ⟨hc5, hf5⟩ := bcell hb5
                            have z5 : w.heap.size < w5.heap.size := by omega
                            clear hb5
                            go_wp2_with fail
                            go_ret
                            exact ⟨(by show Ending.returned (Value.bool (decide (m < 5))) = _; rw [decide_eq_false (show ¬ m < 5 by omega)]), HB5.out⟩
                        · have p0i : (0 : Int) < (np : Int) := by omega
                          rw [show M = false by rw [HM]; simp [p0]]
                          clear HM
                          replace HO := Lib.hid HO
                          replace HI := Lib.hid HI
                          replace HL := Lib.hid HL
                          replace HA := Lib.hid HA
                          replace HV := Lib.hid HV
                          clear HS
                          clear FAR ARG VAL BEG LOW MID HIGH
                          go_enter Tryz.func30, Tryz.ntmps30
                          go_wp2_with fail
                          refine (HO.out _ (by (repeat (first | (with_reducible refine Below.alloc ?_ ?_ _) | (with_reducible refine Below.setCell ?_ ?_ _) | (with_reducible refine Below.drew ?_) | (with_reducible exact Below.refl _ _) | (with_reducible refine Below.trans ?_ (Below.mono (by assumption) ?_)))) <;> (first | omega | (dsimp only; omega) | (simp; done) | (simp; omega) | (simp at *; omega)))).mono ?_
                          rintro e w1 ⟨rfl, hb1⟩
                          have hs1 := hb1.size
                          have HB1 : Hid (Below w.heap.size w w1) := Lib.hid (by (repeat (first | (with_reducible refine Below.alloc ?_ ?_ _) | (with_reducible refine Below.setCell ?_ ?_ _) | (with_reducible refine Below.drew ?_) | (with_reducible exact Below.refl _ _) | (with_reducible refine Below.trans ?_ (Below.mono (by assumption) ?_)))) <;> (first | omega | (dsimp only; omega) | (simp; done) | (simp; omega) | (simp at *; omega)))
                          obtain ⟨hc1, hf1⟩ := bcell hb1
                          simp at hs1
                          have z1 : w.heap.size < w1.heap.size := by omega
                          clear hb1
                          go_wp2_with fail
                          refine (HI.out _ HB1.out).mono ?_
                          rintro e w2 ⟨rfl, hb2⟩
                          have hs2 := hb2.size
                          have HB2 : Hid (Below w.heap.size w w2) := Lib.hid (HB1.out.trans (hb2.mono HB1.out.size))
                          obtain ⟨hc2, hf2⟩ := bcell hb2
                          have z2 : w.heap.size < w2.heap.size := by omega
                          clear hb2
                          go_wp2_with fail
                          refine (HL.out _ HB2.out).mono ?_
                          rintro e w3 ⟨rfl, hb3⟩
                          have hs3 := hb3.size
                          have HB3 : Hid (Below w.heap.size w w3) := Lib.hid (HB2.out.trans (hb3.mono HB2.out.size))
                          obtain ⟨hc3, hf3⟩ := bcell hb3
                          have z3 : w.heap.size < w3.heap.size := by omega
                          clear hb3
                          go_wp2_with fail
                          refine (HA.out _ HB3.out).mono ?_
                          rintro e w4 ⟨rfl, hb4⟩
                          have hs4 := hb4.size
                          have HB4 : Hid (Below w.heap.size w w4) := Lib.hid (HB3.out.trans (hb4.mono HB3.out.size))
                          obtain ⟨hc4, hf4⟩ := bcell hb4
                          have z4 : w.heap.size < w4.heap.size := by omega
                          clear hb4
                          go_wp2_with fail
                          refine (HV.out _ HB4.out).mono ?_
                          rintro e w5 ⟨rfl, hb5⟩
                          have hs5 := hb5.size
                          have HB5 : Hid (Below w.heap.size w w5) := Lib.hid (HB4.out.trans (hb5.mono HB4.out.size))
                          obtain ⟨hc5, hf5⟩ := bcell hb5
                          have z5 : w.heap.size < w5.heap.size := by omega
                          clear hb5
                          go_wp2_with fail
                          go_ret
                          exact ⟨rfl, HB5.out⟩
                      · have a2' : (an == 0) = false := by simpa using a2
                        rw [show M = false by rw [HM]; simp [a2]]
                        clear HM
                        replace HO := Lib.hid HO
                        replace HI := Lib.hid HI
                        replace HL := Lib.hid HL
                        replace HA := Lib.hid HA
                        replace HV := Lib.hid HV
                        clear HS
                        clear FAR ARG VAL BEG LOW MID HIGH
                        go_enter Tryz.func30, Tryz.ntmps30
                        go_wp2_with fail
                        refine (HO.out _ (by (repeat (first | (with_reducible refine Below.alloc ?_ ?_ _) | (with_reducible refine Below.setCell ?_ ?_ _) | (with_reducible refine Below.drew ?_) | (with_reducible exact Below.refl _ _) | (with_reducible refine Below.trans ?_ (Below.mono (by assumption) ?_)))) <;> (first | omega | (dsimp only; omega) | (simp; done) | (simp; omega) | (simp at *; omega)))).mono ?_
                        rintro e w1 ⟨rfl, hb1⟩
                        have hs1 := hb1.size
                        have HB1 : Hid (Below w.heap.size w w1) := Lib.hid (by (repeat (first | (with_reducible refine Below.alloc ?_ ?_ _) | (with_reducible refine Below.setCell ?_ ?_ _) | (with_reducible refine Below.drew ?_) | (with_reducible exact Below.refl _ _) | (with_reducible refine Below.trans ?_ (Below.mono (by assumption) ?_)))) <;> (first | omega | (dsimp only; omega) | (simp; done) | (simp; omega) | (simp at *; omega)))
                        obtain ⟨hc1, hf1⟩ := bcell hb1
                        simp at hs1
                        have z1 : w.heap.size < w1.heap.size := by omega
                        clear hb1
                        go_wp2_with fail
                        refine (HI.out _ HB1.out).mono ?_
                        rintro e w2 ⟨rfl, hb2⟩
                        have hs2 := hb2.size
                        have HB2 : Hid (Below w.heap.size w w2) := Lib.hid (HB1.out.trans (hb2.mono HB1.out.size))
                        obtain ⟨hc2, hf2⟩ := bcell hb2
                        have z2 : w.heap.size < w2.heap.size := by omega
                        clear hb2
                        go_wp2_with fail
                        refine (HL.out _ HB2.out).mono ?_
                        rintro e w3 ⟨rfl, hb3⟩
                        have hs3 := hb3.size
                        have HB3 : Hid (Below w.heap.size w w3) := Lib.hid (HB2.out.trans (hb3.mono HB2.out.size))
                        obtain ⟨hc3, hf3⟩ := bcell hb3
                        have z3 : w.heap.size < w3.heap.size := by omega
                        clear hb3
                        go_wp2_with fail
                        refine (HA.out _ HB3.out).mono ?_
                        rintro e w4 ⟨rfl, hb4⟩
                        have hs4 := hb4.size
                        have HB4 : Hid (Below w.heap.size w w4) := Lib.hid (HB3.out.trans (hb4.mono HB3.out.size))
                        obtain ⟨hc4, hf4⟩ := bcell hb4
                        have z4 : w.heap.size < w4.heap.size := by omega
                        clear hb4
                        go_wp2_with fail
                        refine (HV.out _ HB4.out).mono ?_
                        rintro e w5 ⟨rfl, hb5⟩
                        have hs5 := hb5.size
                        have HB5 : Hid (Below w.heap.size w w5) := Lib.hid (HB4.out.trans (hb5.mono HB4.out.size))
                        obtain ⟨hc5, hf5⟩ := bcell hb5
                        have z5 : w.heap.size < w5.heap.size := by omega
                        clear hb5
                        go_wp2_with fail
                        go_ret
                        exact ⟨rfl, HB5.out⟩
                    · have a1' : (ak == 0) = false := by simpa using a1
                      rw [show M = false by rw [HM]; simp [a1]]
                      clear HM
                      replace HO := Lib.hid HO
                      replace HI := Lib.hid HI
                      replace HL := Lib.hid HL
                      replace HA := Lib.hid HA
                      replace HV := Lib.hid HV
                      clear HS
                      clear FAR ARG VAL BEG LOW MID HIGH
                      go_enter Tryz.func30, Tryz.ntmps30
                      go_wp2_with fail
                      refine (HO.out _ (by (repeat (first | (with_reducible refine Below.alloc ?_ ?_ _) | (with_reducible refine Below.setCell ?_ ?_ _) | (with_reducible refine Below.drew ?_) | (with_reducible exact Below.refl _ _) | (with_reducible refine Below.trans ?_ (Below.mono (by assumption) ?_)))) <;> (first | omega | (dsimp only; omega) | (simp; done) | (simp; omega) | (simp at *; omega)))).mono ?_
                      rintro e w1 ⟨rfl, hb1⟩
                      have hs1 := hb1.size
                      have HB1 : Hid (Below w.heap.size w w1) := Lib.hid (by (repeat (first | (with_reducible refine Below.alloc ?_ ?_ _) | (with_reducible refine Below.setCell ?_ ?_ _) | (with_reducible refine Below.drew ?_) | (with_reducible exact Below.refl _ _) | (with_reducible refine Below.trans ?_ (Below.mono (by assumption) ?_)))) <;> (first | omega | (dsimp only; omega) | (simp; done) | (simp; omega) | (simp at *; omega)))
                      obtain ⟨hc1, hf1⟩ := bcell hb1
                      simp at hs1
                      have z1 : w.heap.size < w1.heap.size := by omega
                      clear hb1
                      go_wp2_with fail
                      refine (HI.out _ HB1.out).mono ?_
                      rintro e w2 ⟨rfl, hb2⟩
                      have hs2 := hb2.size
                      have HB2 : Hid (Below w.heap.size w w2) := Lib.hid (HB1.out.trans (hb2.mono HB1.out.size))
                      obtain ⟨hc2, hf2⟩ := bcell hb2
                      have z2 : w.heap.size < w2.heap.size := by omega
                      clear hb2
                      go_wp2_with fail
                      refine (HL.out _ HB2.out).mono ?_
                      rintro e w3 ⟨rfl, hb3⟩
                      have hs3 := hb3.size
                      have HB3 : Hid (Below w.heap.size w w3) := Lib.hid (HB2.out.trans (hb3.mono HB2.out.size))
                      obtain ⟨hc3, hf3⟩ := bcell hb3
                      have z3 : w.heap.size < w3.heap.size := by omega
                      clear hb3
                      go_wp2_with fail
                      refine (HA.out _ HB3.out).mono ?_
                      rintro e w4 ⟨rfl, hb4⟩
                      have hs4 := hb4.size
                      have HB4 : Hid (Below w.heap.size w w4) := Lib.hid (HB3.out.trans (hb4.mono HB3.out.size))
                      obtain ⟨hc4, hf4⟩ := bcell hb4
                      have z4 : w.heap.size < w4.heap.size := by omega
                      clear hb4
                      go_wp2_with fail
                      refine (HV.out _ HB4.out).mono ?_
                      rintro e w5 ⟨rfl, hb5⟩
                      have hs5 := hb5.size
                      have HB5 : Hid (Below w.heap.size w w5) := Lib.hid (HB4.out.trans (hb5.mono HB4.out.size))
                      obtain ⟨hc5, hf5⟩ := bcell hb5
                      have z5 : w.heap.size < w5.heap.size := by omega
                      clear hb5
                      go_wp2_with fail
                      go_ret
                      exact ⟨rfl, HB5.out⟩
                  · have a0' : (a == 0) = false := by simpa using a0
                    rw [show M = false by rw [HM]; simp [a0]]
                    clear HM
                    replace HO := Lib.hid HO
                    replace HI := Lib.hid HI
                    replace HL := Lib.hid HL
                    replace HA := Lib.hid HA
                    replace HV := Lib.hid HV
                    clear HS
                    clear FAR ARG VAL BEG LOW MID HIGH
                    go_enter Tryz.func30, Tryz.ntmps30
                    go_wp2_with fail
                    refine (HO.out _ (by (repeat (first | (with_reducible refine Below.alloc ?_ ?_ _) | (with_reducible refine Below.setCell ?_ ?_ _) | (with_reducible refine Below.drew ?_) | (with_reducible exact Below.refl _ _) | (with_reducible refine Below.trans ?_ (Below.mono (by assumption) ?_)))) <;> (first | omega | (dsimp only; omega) | (simp; done) | (simp; omega) | (simp at *; omega)))).mono ?_
                    rintro e w1 ⟨rfl, hb1⟩
                    have hs1 := hb1.size
                    have HB1 : Hid (Below w.heap.size w w1) := Lib.hid (by (repeat (first | (with_reducible refine Below.alloc ?_ ?_ _) | (with_reducible refine Below.setCell ?_ ?_ _) | (with_reducible refine Below.drew ?_) | (with_reducible exact Below.refl _ _) | (with_reducible refine Below.trans ?_ (Below.mono (by assumption) ?_)))) <;> (first | omega | (dsimp only; omega) | (simp; done) | (simp; omega) | (simp at *; omega)))
                    obtain ⟨hc1, hf1⟩ := bcell hb1
                    simp at hs1
                    have z1 : w.heap.size < w1.heap.size := by omega
                    clear hb1
                    go_wp2_with fail
                    refine (HI.out _ HB1.out).mono ?_
                    rintro e w2 ⟨rfl, hb2⟩
                    have hs2 := hb2.size
                    have HB2 : Hid (Below w.heap.size w w2) := Lib.hid (HB1.out.trans (hb2.mono HB1.out.size))
                    obtain ⟨hc2, hf2⟩ := bcell hb2
                    have z2 : w.heap.size < w2.heap.size := by omega
                    clear hb2
                    go_wp2_with fail
                    refine (HL.out _ HB2.out).mono ?_
                    rintro e w3 ⟨rfl, hb3⟩
                    have hs3 := hb3.size
                    have HB3 : Hid (Below w.heap.size w w3) := Lib.hid (HB2.out.trans (hb3.mono HB2.out.size))
                    obtain ⟨hc3, hf3⟩ := bcell hb3
                    have z3 : w.heap.size < w3.heap.size := by omega
                    clear hb3
                    go_wp2_with fail
                    refine (HA.out _ HB3.out).mono ?_
                    rintro e w4 ⟨rfl, hb4⟩
                    have hs4 := hb4.size
                    have HB4 : Hid (Below w.heap.size w w4) := Lib.hid (HB3.out.trans (hb4.mono HB3.out.size))
                    obtain ⟨hc4, hf4⟩ := bcell hb4
                    have z4 : w.heap.size < w4.heap.size := by omega
                    clear hb4
                    go_wp2_with fail
                    refine (HV.out _ HB4.out).mono ?_
                    rintro e w5 ⟨rfl, hb5⟩
                    have hs5 := hb5.size
                    have HB5 : Hid (Below w.heap.size w w5) := Lib.hid (HB4.out.trans (hb5.mono HB4.out.size))
                    obtain ⟨hc5, hf5⟩ := bcell hb5
                    have z5 : w.heap.size < w5.heap.size := by omega
                    clear hb5
                    go_wp2_with fail
                    go_ret
                    exact ⟨rfl, HB5.out⟩

set_option maxRecDepth 100000 in
theorem specIsOver_any (x : Pil) (cv pv qv sv : Value) (w : World) (hR : RowsPi w x cv pv qv sv) (hf : FitPi x) :
    Calls Tryz.prog 34 #[pilV x cv pv qv sv] w fun e w' => e = .returned (.bool (okPil x && decide (3 ≤ x.m))) ∧ Below w.heap.size w w' := by
  have H := Lib.hid (fun w1 (hb : Below w.heap.size w w1) => specPileOk_any x cv pv qv sv w1 (hR.below hb) hf)
  clear hR hf
  unfold pilV at H ⊢
  cases h : okPil x
  · rw [h] at H
    go_enter Tryz.func34, Tryz.ntmps34
    go_wp2_with fail
    refine (H.out _ (by (repeat (first | (with_reducible refine Below.alloc ?_ ?_ _) | (with_reducible refine Below.setCell ?_ ?_ _) | (with_reducible refine Below.drew ?_) | (with_reducible exact Below.refl _ _) | (with_reducible refine Below.trans ?_ (Below.mono (by assumption) ?_)))) <;> (first | omega | (dsimp only; omega) | (simp; done) | (simp; omega) | (simp at *; omega)))).mono ?_
    rintro e w1 ⟨rfl, hb1⟩
    have HB1 : Hid (Below w.heap.size w w1) := Lib.hid (by (repeat (first | (with_reducible refine Below.alloc ?_ ?_ _) | (with_reducible refine Below.setCell ?_ ?_ _) | (with_reducible refine Below.drew ?_) | (with_reducible exact Below.refl _ _) | (with_reducible refine Below.trans ?_ (Below.mono (by assumption) ?_)))) <;> (first | omega | (dsimp only; omega) | (simp; done) | (simp; omega) | (simp at *; omega)))
    clear hb1
    go_wp2_with fail
    go_ret
    exact ⟨rfl, HB1.out⟩
  · rw [h] at H
    by_cases h3 : 3 ≤ x.m
    all_goals
      go_enter Tryz.func34, Tryz.ntmps34
      go_wp2_with fail
      refine (H.out _ (by (repeat (first | (with_reducible refine Below.alloc ?_ ?_ _) | (with_reducible refine Below.setCell ?_ ?_ _) | (with_reducible refine Below.drew ?_) | (with_reducible exact Below.refl _ _) | (with_reducible refine Below.trans ?_ (Below.mono (by assumption) ?_)))) <;> (first | omega | (dsimp only; omega) | (simp; done) | (simp; omega) | (simp at *; omega)))).mono ?_
      rintro e w1 ⟨rfl, hb1⟩
      have hs1 := hb1.size
      have HB1 : Hid (Below w.heap.size w w1) := Lib.hid (by (repeat (first | (with_reducible refine Below.alloc ?_ ?_ _) | (with_reducible refine Below.setCell ?_ ?_ _) | (with_reducible refine Below.drew ?_) | (with_reducible exact Below.refl _ _) | (with_reducible refine Below.trans ?_ (Below.mono (by assumption) ?_)))) <;> (first | omega | (dsimp only; omega) | (simp; done) | (simp; omega) | (simp at *; omega)))
      obtain ⟨hc1, hf1⟩ := bcell hb1
      simp at hs1
      have z0 : w.heap.size < w1.heap.size := by omega
      clear hb1
      go_wp2_with fail
      go_ret
      exact ⟨by simp [h3], HB1.out⟩

end L2
end Go.Proofs.YtmbonldiaimcfaaGreatDoor
