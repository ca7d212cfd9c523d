/-
  The parts of a sum: the face of the model, and the program.
-/
import Derived.Test.YtcfniecdjbgknaaDoorW15
namespace Go.Proofs.YtcfniecdjbgknaaDoor
open Go.RowKit
namespace L2
open S1 L1

theorem parts_no {ws : List (List UInt8)} (h : okSum ws = false) : parts ws = [] := by unfold parts; rw [h]; rfl
theorem parts_yes {ws : List (List UInt8)} (h : okSum ws = true) : parts ws = row ws (kids ws 0) (partsAt ws) := by unfold parts; rw [h]; rfl

set_option maxHeartbeats 1000000 in
theorem specPartsOf_any (v : Value) (ss : List ByteArray) (w : World) (hR : Row w v ss) (hS : Small ss) :
    Calls Tryd.prog 36 #[v] w (Rowed (parts (wsOf ss)) w) := by
  have H := specSumOk_any v ss w hR hS
  cases ho : okSum (wsOf ss)
  · rw [parts_no ho]
    rw [ho] at H
    have H := Lib.hid H
    clear hR hS ho
    go_enter Tryd.func36, Tryd.ntmps36
    go_wp2_with fail
    refine H.out.mono ?_
    rintro e w1 ⟨rfl, hb1⟩
    go_wp2_with fail
    go_ret
    exact ⟨_, rfl, (owI_new w1 w.heap.size hb1.size), hb1.alloc hb1.size _⟩
  · rw [parts_yes ho]
    rw [ho] at H
    obtain ⟨_, _, _, hh, ha⟩ := ok_head ho
    have hc := fun w1 (hb : Below w.heap.size w w1) => l2Parts_any v ss 0 _ _ w1 (hR.below hb) hS hh ha
    generalize row (wsOf ss) (kids (wsOf ss) 0) (partsAt (wsOf ss)) = XS at hc ⊢
    have H := Lib.hid H
    have Hc := Lib.hid hc
    clear hR hS ho hh ha hc
    go_enter Tryd.func36, Tryd.ntmps36
    go_wp2_with fail
    refine H.out.mono ?_
    rintro e w1 ⟨rfl, hb1⟩
    go_wp2_with fail
    refine (Hc.out _ hb1).mono ?_
    rintro e w2 ⟨vr, rfl, ho2, hb2⟩
    go_wp2_with fail
    go_ret
    exact ⟨_, rfl, ho2.base hb1.size, hb1.trans (hb2.mono hb1.size)⟩

set_option maxRecDepth 100000 in
set_option maxHeartbeats 4000000 in
theorem implPartsOf_any (v : Value) (ss : List ByteArray) (w : World) (hR : Row w v ss) (hS : Small ss) (hV : Vars w) :
    Calls Tryd.prog 34 #[v] w (Rowed (parts (wsOf ss)) w) := by
  have HR := Lib.hid hR
  have HS := Lib.hid hS
  have HV := Lib.hid hV
  cases ho : okSum (wsOf ss)
  · have hcall := fun w1 (hb : Below w.heap.size w w1) => implSumOk_any v ss w1 (hR.below hb) hS (hV.later hb)
    rw [ho] at hcall
    rw [parts_no ho]
    have Hc := Lib.hid hcall
    clear hR hS hV ho hcall
    go_enter Tryd.func34, Tryd.ntmps34
    go_wp2_with fail
    have hO0 := owI_new w w.heap.size (Nat.le_refl _)
    have hB0 : Below w.heap.size w (w.alloc (.cells #[] 2)) := (Below.refl _ _).alloc (Nat.le_refl _) _
    generalize Value.slice (some ⟨w.heap.size, 0, none⟩) 0 0 = v0 at hO0 ⊢
    generalize w.alloc (.cells #[] 2) = w0 at hO0 hB0 ⊢
    refine (Hc.out _ hB0).mono ?_
    rintro e w1 ⟨rfl, hb1⟩
    go_wp2_with fail
    go_ret
    exact ⟨_, rfl, hO0.below hb1, hB0.trans (hb1.mono hB0.size)⟩
  · have hcall := fun w1 (hb : Below w.heap.size w w1) => implSumOk_any v ss w1 (hR.below hb) hS (hV.later hb)
    rw [ho] at hcall
    rw [parts_yes ho]
    obtain ⟨hw60, hw0, _, hh, ha⟩ := ok_head ho
    have hl := ws_len ss
    rw [hl] at hw60 hw0
    obtain ⟨oa, cap, rfl, h1, h2, h3⟩ := hR
    obtain ⟨b, off, rfl, hb, hc⟩ := h3 0 hw0
    have hzs := hS.2 0 hw0
    have hws := ws_get hw0
    have hpa : partsAt (wsOf ss) = if bindW (ss.getD 0 ByteArray.empty).toList then 2 else 1 := by unfold partsAt; rw [ws_getD hw0]
    obtain ⟨s, hs⟩ : ∃ s, ss.getD 0 ByteArray.empty = s := ⟨_, rfl⟩
    rw [hs] at hc hzs hws hpa
    obtain ⟨n, hn⟩ : ∃ n, ss.length = n := ⟨_, rfl⟩
    rw [hn] at h1 hw60 hw0 hl HR ⊢ hcall
    have hok : okW s.toList = true := by
      unfold okW
      by_cases h : needs s.toList < 0
      · rw [head_bad hws h] at hh; cases hh
      · simp; omega
    obtain ⟨kd, hkd, hk3, hkn⟩ := needs_nat hok
    have hcn := fun w1 (hb : Below w.heap.size w w1) => implNeeds_any s (by omega) w1 (hV.later hb)
    rw [hkd] at hcn
    have hkids : kids (wsOf ss) 0 = kd := by rw [kids_of hws, hkn]
    rw [hkids] at ha ⊢
    have hpb := headEnd_bd hh
    rw [hl] at hpb
    obtain ⟨XS, hXS⟩ : ∃ XS, row (wsOf ss) kd (partsAt (wsOf ss)) = XS := ⟨_, rfl⟩
    rw [hXS]
    obtain ⟨e0, he0⟩ : ∃ e0, partsAt (wsOf ss) = e0 := ⟨_, rfl⟩
    rw [he0] at hXS ha hpa hpb
    rw [hl] at ha
    unfold maxLen at h2
    have Hc := Lib.hid hcall
    have Hcn := Lib.hid hcn
    have HX := Lib.hid hXS
    have HA := Lib.hid ha
    have HP := Lib.hid hpa
    have HL := Lib.hid hl
    have h01 : (0 : Int) < (n : Int) := by omega
    have hc' : w.cell? ⟨b, off, none⟩ = some (.string s) := hc
    have hcx := fun w1 (hb1 : Below w.heap.size w w1) => (hb1.cell (p := ⟨b, off, none⟩) hb).trans hc'
    have HC := Lib.hid hcx
    clear h3 hs hXS ha hh hcn hkids hkd hkn hws hok hn hl hS hV ho hcall hpa he0 hcx hc hc'
    cases hbw : bindW s.toList
    all_goals
      have HBW := Lib.hid hbw
      clear hbw
      go_enter Tryd.func34, Tryd.ntmps34
      go_wp2_with fail
      have hO0 := owI_new w w.heap.size (Nat.le_refl _)
      have hB0 : Below w.heap.size w (w.alloc (.cells #[] 2)) := (Below.refl _ _).alloc (Nat.le_refl _) _
      generalize Value.slice (some ⟨w.heap.size, 0, none⟩) 0 0 = v0 at hO0 ⊢
      generalize w.alloc (.cells #[] 2) = w0 at hO0 hB0 ⊢
      refine (Hc.out _ hB0).mono ?_
      rintro e w1 ⟨rfl, hb1⟩
      have HO1 := Lib.hid (hO0.below hb1)
      have HB1 := Lib.hid (hB0.trans (hb1.mono hB0.size))
      clear hO0 hb1 hB0
      have hc1 := HC.out _ HB1.out
      go_wp2_with fail
      refine (isOfBound_any s _).mono ?_
      rintro e w2 ⟨rfl, rfl⟩
      rw [HBW.out]
      go_wp2_with fail
      refine (Hcn.out _ HB1.out).mono ?_
      rintro e w2 ⟨rfl, hb2⟩
      have HO2 := Lib.hid (HO1.out.below hb2)
      have HB2 := Lib.hid (HB1.out.trans (hb2.mono HB1.out.size))
      clear hb2 hc1
      go_wp2_with fail
      go_loopw [3, 4, 20] (fun o e q wr => ∃ (k j x : Nat) (acc : List Nat), OwI wr w.heap.size o acc ∧ q = .int .i64 (j : Int) ∧ j + k = kd ∧ e = .int .i64 (x : Int) ∧ Below w.heap.size w wr ∧ acc ++ row (wsOf ss) k x = XS ∧ after (wsOf ss) k x = some n ∧ x ≤ n ∧ acc.length ≤ j) (fun _ _ q _ => kd - (intOf q).toNat)
      case atStart =>
        exact ⟨kd, 0, e0, [], HO2.out, rfl, by omega, by have := HP.out; rw [HBW.out] at this; subst this; rfl, HB2.out, HX.out, HA.out, hpb.2, Nat.le_refl _⟩
      case round =>
        obtain ⟨k, j, x, acc, hO, rfl, hj, rfl, hB, hX, hA, hx, hal⟩ := hrel
        obtain ⟨go1, co1, rfl, hq1, hq2, hgo1, hgw1, _⟩ := hO.form
        have HO := Lib.hid hO
        have HB := Lib.hid hB
        have HXr := Lib.hid hX
        have HAr := Lib.hid hA
        have HJ := Lib.hid hj
        clear hO hB hX hA hj
        cases k with
        | zero =>
          have hjk : ¬ (j : Int) < (kd : Int) := by have := HJ.out; omega
          go_wp2_with fail
          go_ret
          exact ⟨_, rfl, by have := HXr.out; simp only [row, List.append_nil] at this; rw [← this]; exact HO.out, HB.out⟩
        | succ k =>
          have hjk : (j : Int) < (kd : Int) := by have := HJ.out; omega
          have hjk3 : j + 1 ≤ kd := by have := HJ.out; omega
          obtain ⟨x', hx', hA'⟩ := after_split HAr.out
          have hxb := after_bd 1 x x' (by rw [HL.out]; exact hx) hx'
          rw [HL.out] at hxb
          obtain ⟨v3, w3, hr3, ho3, hg3⟩ := run_app1 (wr.alloc (.cells #[.int .i64 (x : Int)] 2)) w.heap.size _ acc (HO.out.alloc _) wr.heap.size x (by simp [go_sem]) (by omega) (by have := HB.out.size; simp; omega)
          have HB3 : Hid (Below w.heap.size w w3) := Lib.hid ((HB.out.alloc HB.out.size _).grown hg3 (by have := HB.out.size; simp; omega) (fun q e => by simp [Value.ownBlock] at e; omega))
          have HR3 := Lib.hid hr3
          have HO3 := Lib.hid ho3
          have hes := endI_of hx' (by rw [HL.out]; exact hw60) (by rw [HL.out]; exact hx)
          have hcall := implSumEnd_any _ ss x w3 (HR.out.below HB3.out) HS.out (by omega) (HV.out.later HB3.out)
          rw [hes] at hcall
          have Hcall := Lib.hid hcall
          have HX2 : Hid ((acc ++ [x]) ++ row (wsOf ss) k x' = XS) := Lib.hid (by rw [← HXr.out, row_step hx']; simp)
          have HA2 := Lib.hid hA'
          have hx2 : x' ≤ n := hxb.2
          clear hr3 ho3 hg3 hes hcall hA' hx' hxb
          go_wp2_with (at_builtin; refine wp_app rfl _ _ rfl rfl _ _ rfl rfl HR3.out ?_)
          refine Hcall.out.mono ?_
          rintro e w4 ⟨rfl, hb4⟩
          have HB4 := Lib.hid (HB3.out.trans (hb4.mono HB3.out.size))
          have HO4 := Lib.hid (HO3.out.below hb4)
          clear hb4
          go_wp2_with fail
          go_roundw
          case rel => exact ⟨k, j + 1, x', acc ++ [x], HO4.out, by go_num, by have := HJ.out; omega, rfl, HB4.out, HX2.out, HA2.out, hx2, by rw [List.length_append]; simp; omega⟩
          case measure => simp [intOf]; omega

end L2
end Go.Proofs.YtcfniecdjbgknaaDoor
