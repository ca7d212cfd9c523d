/-
  The law of chapter 3 on what is drawn.
-/
import Derived.Test.YtgcjmhecnbhhlaaGreatDoorT1
import Derived.Lib.QuietBelow
import Derived.BigQuiet
namespace Go.Proofs.YtgcjmhecnbhhlaaGreatDoor
open Go.RowKit Go.Sort
namespace L2
open S1 L1

theorem show_read {t : ByteArray} (h : readOk t = true) : showB (readS t) = t := by
  have hr : readS t = pieces t := by unfold readS; rw [h]; rfl
  have ho : okSum (wsOf (pieces t)) = true := by rw [ws_pieces]; exact h
  rw [hr, show_yes ho, ws_pieces, join_cut]
  exact (of_toList rfl).symm
theorem read_show {ss : List ByteArray} (h : okSum (wsOf ss) = true) : readOk (showB ss) = true ∧ readS (showB ss) = ss := by
  have hne : wsOf ss ≠ [] := by
    intro e
    have := (ok_head h).2.1
    rw [e] at this
    cases this
  have e : cutW (showB ss).toList = wsOf ss := by
    rw [show_yes h, Lib.toList_data]
    exact cut_join _ hne (ok_noblank h)
  have ho : readOk (showB ss) = true := by unfold readOk; rw [e]; exact h
  refine ⟨ho, ?_⟩
  unfold readS pieces
  rw [ho, e]
  exact (ws_inj rfl).symm
theorem show_some {ss : List ByteArray} (h : okSum (wsOf ss) = true) : (showB ss).toList.isEmpty = false := by
  have e : cutW (showB ss).toList = wsOf ss := by rw [← ws_pieces]; have := (read_show h).2; unfold readS at this; rw [(read_show h).1] at this; exact congrArg wsOf this
  cases hl : (showB ss).toList with
  | cons a r => rfl
  | nil =>
    rw [hl] at e
    have hw : wsOf ss = [[]] := by rw [← e]; rfl
    rw [hw] at h
    exact absurd h (by decide)
theorem deep_pos {ss : List ByteArray} (h : okSum (wsOf ss) = true) : 1 ≤ deepN (wsOf ss) := by
  obtain ⟨_, _, h3, hh, _⟩ := ok_head h
  unfold deepN
  rw [h, if_pos rfl, deep_eq hh h3]
  omega
theorem deep_no {ss : List ByteArray} (h : okSum (wsOf ss) = false) : deepN (wsOf ss) = 0 := by unfold deepN; rw [h]; rfl
theorem readS_small {t : ByteArray} (ht : t.size ≤ 1048576) : Small (readS t) := by
  unfold readS
  split
  · rename_i h
    have hl := (ok_head h).1
    rw [← ws_pieces, ws_len] at hl
    exact pieces_small ht (ws_pieces t) (by omega)
  · exact ⟨by simp, fun i hi => by simp at hi⟩
/-- A part of a sum: where it lies, and that it is less deep. -/
theorem part_of {ss : List ByteArray} (h : okSum (wsOf ss) = true) {p : Nat} (hm : p ∈ parts (wsOf ss)) : ∃ y : Nat, endS (wsOf ss) p = (y : Int) ∧ p < ss.length ∧ p ≤ y ∧ y ≤ ss.length ∧
    deepN (wsOf ((ss.drop p).take (y - p))) < deepN (wsOf ss) := by
  obtain ⟨h60, h0, _, hh, ha⟩ := ok_head h
  have hbd := headEnd_bd hh
  have hm2 : p ∈ row (wsOf ss) (kids (wsOf ss) 0) (partsAt (wsOf ss)) := by rw [← parts_yes h]; exact hm
  obtain ⟨h1, y, h2, h3⟩ := row_ends _ _ _ hbd.2 ha _ hm2
  have hby := after_bd _ _ _ h1 h2
  obtain ⟨_, _, _, _, hlt⟩ := sum_head h2
  have hd := part_deep h hm h2
  rw [ws_len] at hlt hby
  refine ⟨y, endS_of h2, hlt, hby.1, hby.2, ?_⟩
  have e : wsOf ((ss.drop p).take (y - p)) = ((wsOf ss).drop p).take (y - p) := by
    unfold wsOf
    rw [List.map_take, List.map_drop]
  rw [e]
  exact hd

set_option maxRecDepth 100000 in
set_option maxHeartbeats 16000000 in
theorem lawText (v : Value) (n : Nat) (w : World) (hC : D.Came w v n) (hV : Vars w) :
    Calls Tryz.prog 3 #[v] w fun e w' => e = .returned (.bool true) ∧ Below w.heap.size w w' := by
  have hC' := Lib.hid hC
  have HV := Lib.hid hV
  clear hC hV
  by_cases hn : 4096 < n
  · go_enter Tryz.func3, Tryz.ntmps3
    go_wp2_with fail
    refine (D.big_any v n _ hC'.out).mono ?_
    rintro e w1 ⟨rfl, hw⟩
    rw [hw]
    clear hw w1
    simp only [hn, decide_true]
    go_wp2_with fail
    go_ret
    exact ⟨rfl, Below.refl _ _⟩
  · go_enter Tryz.func3, Tryz.ntmps3
    go_wp2_with fail
    refine (D.big_any v n _ hC'.out).mono ?_
    rintro e w1 ⟨rfl, hw⟩
    rw [hw]
    clear hw w1
    simp only [hn, decide_false]
    go_wp2_with fail
    refine (drawShowSum_any v n w hC'.out).mono ?_
    rintro e w1 ⟨vl, ss, rfl, hol, hll, hsl, hb1⟩
    have HL1 := Lib.hid hol
    have HS := Lib.hid (hsl.small (by omega))
    have HB1 := Lib.hid hb1
    have hjl := join_short hsl hll
    obtain ⟨sb, hsb⟩ : ∃ sb, showB ss = sb := ⟨_, rfl⟩
    obtain ⟨dp, hdp⟩ : ∃ dp, deepN (wsOf ss) = dp := ⟨_, rfl⟩
    have HSB := Lib.hid hsb
    have HDP := Lib.hid hdp
    have hsbz : sb.size ≤ 1048576 := by
      rw [← hsb]
      unfold showB
      split
      · omega
      · decide
    clear hol hsl hb1 hsb hdp hjl
    cases hok : okSum (wsOf ss)
    · have HOK := Lib.hid hok
      clear hok
      obtain rfl : dp = 0 := by rw [← HDP.out]; exact deep_no HOK.out
      obtain rfl : sb = ⟨#[]⟩ := by rw [← HSB.out]; exact show_no HOK.out
      go_wp2_with fail
      refine (implShowSum_any vl ss w1 HL1.out.row HS.out (HV.out.later HB1.out)).mono ?_
      rintro e w2 ⟨rfl, hb2⟩
      rw [HSB.out]
      have HB2 := Lib.hid (HB1.out.trans (hb2.mono HB1.out.size))
      have HL2 := Lib.hid (HL1.out.below hb2)
      clear hb2
      go_wp2_with fail
      refine (drawReadSum_any v n w2 (hC'.out.below HB2.out)).mono ?_
      rintro e w3 ⟨t, rfl, htz, hb3⟩
      have HB3 := Lib.hid (HB2.out.trans (hb3.mono HB2.out.size))
      have HL3 := Lib.hid (HL2.out.below hb3)
      have ht2 : t.size ≤ 1048576 := by omega
      clear hb3
      cases hrd : readOk t
      · have HRD := Lib.hid hrd
        clear hrd
        go_wp2_with fail
        refine (implReadSum_any t w3 ht2 (HV.out.later HB3.out)).mono ?_
        rintro e w4 ⟨vx, rfl, hox, hb4⟩
        rw [HRD.out]
        have HB4 := Lib.hid (HB3.out.trans (hb4.mono HB3.out.size))
        have HL4 := Lib.hid (HL3.out.below hb4)
        have HX4 := Lib.hid hox
        clear hox hb4
        go_wp2_with fail
        refine (drawWordsIn_any v n w4 (hC'.out.below HB4.out)).mono ?_
        rintro e w5 ⟨vq, qs, wd, rfl, hoq, hlq, hsq, hwz, hb5⟩
        have HB5 := Lib.hid (HB4.out.trans (hb5.mono HB4.out.size))
        have HL5 := Lib.hid (HL4.out.below hb5)
        have HX5 := Lib.hid (HX4.out.below hb5)
        have HQ5 := Lib.hid hoq
        have HQS := Lib.hid (hsq.small (by omega))
        clear hoq hsq hb5
        go_wp2_with fail
        refine (implDepthOf_any vl ss w5 HL5.out.row HS.out (HV.out.later HB5.out)).mono ?_
        rintro e w6 ⟨rfl, hb6⟩
        rw [HDP.out]
        have HB6 := Lib.hid (HB5.out.trans (hb6.mono HB5.out.size))
        have HL6 := Lib.hid (HL5.out.below hb6)
        have HX6 := Lib.hid (HX5.out.below hb6)
        have HQ6 := Lib.hid (HQ5.out.below hb6)
        clear hb6
        go_wp2_with fail
        refine (specReadSum_any t w6 ht2).mono ?_
        rintro e w7 ⟨vy, rfl, hoy, hb7⟩
        rw [HRD.out]
        have HB7 := Lib.hid (HB6.out.trans (hb7.mono HB6.out.size))
        have HL7 := Lib.hid (HL6.out.below hb7)
        have HX7 := Lib.hid (HX6.out.below hb7)
        have HQ7 := Lib.hid (HQ6.out.below hb7)
        have HY7 := Lib.hid hoy
        clear hoy hb7
        go_wp2_with fail
        refine (likeTexts_any vx vy (readS t) w7 HX7.out.row HY7.out.row).mono ?_
        rintro e w8 ⟨rfl, hb8⟩
        have HB8 := Lib.hid (HB7.out.trans (hb8.mono HB7.out.size))
        have HL8 := Lib.hid (HL7.out.below hb8)
        have HX8 := Lib.hid (HX7.out.below hb8)
        have HQ8 := Lib.hid (HQ7.out.below hb8)
        clear hb8
        go_wp2_with fail
        refine (specShowSum_any vl ss w8 HL8.out.row HS.out).mono ?_
        rintro e w9 ⟨rfl, hb9⟩
        rw [HSB.out]
        have HB9 := Lib.hid (HB8.out.trans (hb9.mono HB8.out.size))
        have HL9 := Lib.hid (HL8.out.below hb9)
        have HX9 := Lib.hid (HX8.out.below hb9)
        have HQ9 := Lib.hid (HQ8.out.below hb9)
        clear hb9
        obtain ⟨wn, hwn⟩ : ∃ wn, wordsN (wsOf qs) wd.toList = wn := ⟨_, rfl⟩
        have HWN := Lib.hid hwn
        clear hwn
        go_wp2_with fail
        refine (implWordsIn_any vq qs wd w9 HQ9.out.row HQS.out (HV.out.later HB9.out)).mono ?_
        rintro e w10 ⟨rfl, hb10⟩
        rw [HWN.out]
        have HB10 := Lib.hid (HB9.out.trans (hb10.mono HB9.out.size))
        have HL10 := Lib.hid (HL9.out.below hb10)
        have HX10 := Lib.hid (HX9.out.below hb10)
        have HQ10 := Lib.hid (HQ9.out.below hb10)
        clear hb10
        go_wp2_with fail
        refine (specWordsIn_any vq qs wd w10 HQ10.out.row HQS.out).mono ?_
        rintro e w11 ⟨rfl, hb11⟩
        rw [HWN.out]
        have HB11 := Lib.hid (HB10.out.trans (hb11.mono HB10.out.size))
        have HL11 := Lib.hid (HL10.out.below hb11)
        have HX11 := Lib.hid (HX10.out.below hb11)
        clear hb11
        go_wp2_with fail
        refine (specDepthOf_any vl ss w11 HL11.out.row HS.out).mono ?_
        rintro e w12 ⟨rfl, hb12⟩
        rw [HDP.out]
        have HB12 := Lib.hid (HB11.out.trans (hb12.mono HB11.out.size))
        have HL12 := Lib.hid (HL11.out.below hb12)
        have HX12 := Lib.hid (HX11.out.below hb12)
        clear hb12
        go_wp2_with fail
        have HB13 := HB12
        have HL13 := HL12
        refine (implSumOk_any vl ss w12 HL13.out.row HS.out (HV.out.later HB13.out)).mono ?_
        rintro e w14 ⟨rfl, hb14⟩
        rw [HOK.out]
        have HB14 := Lib.hid (HB13.out.trans (hb14.mono HB13.out.size))
        clear hb14
        go_wp2_with fail
        go_ret
        exact ⟨rfl, HB14.out⟩
      · have HRD := Lib.hid hrd
        clear hrd
        go_wp2_with fail
        refine (implReadSum_any t w3 ht2 (HV.out.later HB3.out)).mono ?_
        rintro e w4 ⟨vx, rfl, hox, hb4⟩
        rw [HRD.out]
        have HB4 := Lib.hid (HB3.out.trans (hb4.mono HB3.out.size))
        have HL4 := Lib.hid (HL3.out.below hb4)
        have HX4 := Lib.hid hox
        clear hox hb4
        go_wp2_with fail
        refine (drawWordsIn_any v n w4 (hC'.out.below HB4.out)).mono ?_
        rintro e w5 ⟨vq, qs, wd, rfl, hoq, hlq, hsq, hwz, hb5⟩
        have HB5 := Lib.hid (HB4.out.trans (hb5.mono HB4.out.size))
        have HL5 := Lib.hid (HL4.out.below hb5)
        have HX5 := Lib.hid (HX4.out.below hb5)
        have HQ5 := Lib.hid hoq
        have HQS := Lib.hid (hsq.small (by omega))
        clear hoq hsq hb5
        go_wp2_with fail
        refine (implDepthOf_any vl ss w5 HL5.out.row HS.out (HV.out.later HB5.out)).mono ?_
        rintro e w6 ⟨rfl, hb6⟩
        rw [HDP.out]
        have HB6 := Lib.hid (HB5.out.trans (hb6.mono HB5.out.size))
        have HL6 := Lib.hid (HL5.out.below hb6)
        have HX6 := Lib.hid (HX5.out.below hb6)
        have HQ6 := Lib.hid (HQ5.out.below hb6)
        clear hb6
        go_wp2_with fail
        refine (specReadSum_any t w6 ht2).mono ?_
        rintro e w7 ⟨vy, rfl, hoy, hb7⟩
        rw [HRD.out]
        have HB7 := Lib.hid (HB6.out.trans (hb7.mono HB6.out.size))
        have HL7 := Lib.hid (HL6.out.below hb7)
        have HX7 := Lib.hid (HX6.out.below hb7)
        have HQ7 := Lib.hid (HQ6.out.below hb7)
        have HY7 := Lib.hid hoy
        clear hoy hb7
        go_wp2_with fail
        refine (likeTexts_any vx vy (readS t) w7 HX7.out.row HY7.out.row).mono ?_
        rintro e w8 ⟨rfl, hb8⟩
        have HB8 := Lib.hid (HB7.out.trans (hb8.mono HB7.out.size))
        have HL8 := Lib.hid (HL7.out.below hb8)
        have HX8 := Lib.hid (HX7.out.below hb8)
        have HQ8 := Lib.hid (HQ7.out.below hb8)
        clear hb8
        go_wp2_with fail
        refine (specShowSum_any vl ss w8 HL8.out.row HS.out).mono ?_
        rintro e w9 ⟨rfl, hb9⟩
        rw [HSB.out]
        have HB9 := Lib.hid (HB8.out.trans (hb9.mono HB8.out.size))
        have HL9 := Lib.hid (HL8.out.below hb9)
        have HX9 := Lib.hid (HX8.out.below hb9)
        have HQ9 := Lib.hid (HQ8.out.below hb9)
        clear hb9
        obtain ⟨wn, hwn⟩ : ∃ wn, wordsN (wsOf qs) wd.toList = wn := ⟨_, rfl⟩
        have HWN := Lib.hid hwn
        clear hwn
        go_wp2_with fail
        refine (implWordsIn_any vq qs wd w9 HQ9.out.row HQS.out (HV.out.later HB9.out)).mono ?_
        rintro e w10 ⟨rfl, hb10⟩
        rw [HWN.out]
        have HB10 := Lib.hid (HB9.out.trans (hb10.mono HB9.out.size))
        have HL10 := Lib.hid (HL9.out.below hb10)
        have HX10 := Lib.hid (HX9.out.below hb10)
        have HQ10 := Lib.hid (HQ9.out.below hb10)
        clear hb10
        go_wp2_with fail
        refine (specWordsIn_any vq qs wd w10 HQ10.out.row HQS.out).mono ?_
        rintro e w11 ⟨rfl, hb11⟩
        rw [HWN.out]
        have HB11 := Lib.hid (HB10.out.trans (hb11.mono HB10.out.size))
        have HL11 := Lib.hid (HL10.out.below hb11)
        have HX11 := Lib.hid (HX10.out.below hb11)
        clear hb11
        go_wp2_with fail
        refine (specDepthOf_any vl ss w11 HL11.out.row HS.out).mono ?_
        rintro e w12 ⟨rfl, hb12⟩
        rw [HDP.out]
        have HB12 := Lib.hid (HB11.out.trans (hb12.mono HB11.out.size))
        have HL12 := Lib.hid (HL11.out.below hb12)
        have HX12 := Lib.hid (HX11.out.below hb12)
        clear hb12
        go_wp2_with fail
        refine (implShowSum_any vx (readS t) w12 HX12.out.row (readS_small ht2) (HV.out.later HB12.out)).mono ?_
        rintro e w13 ⟨rfl, hb13⟩
        rw [show_read HRD.out]
        have HB13 := Lib.hid (HB12.out.trans (hb13.mono HB12.out.size))
        have HL13 := Lib.hid (HL12.out.below hb13)
        clear hb13
        go_wp2_with fail
        refine (implSumOk_any vl ss w13 HL13.out.row HS.out (HV.out.later HB13.out)).mono ?_
        rintro e w14 ⟨rfl, hb14⟩
        rw [HOK.out]
        have HB14 := Lib.hid (HB13.out.trans (hb14.mono HB13.out.size))
        clear hb14
        go_wp2_with fail
        go_ret
        exact ⟨rfl, HB14.out⟩
    · have HOK := Lib.hid hok
      clear hok
      have hne := show_some HOK.out
      rw [HSB.out] at hne
      have hd1 := deep_pos HOK.out
      rw [HDP.out] at hd1
      go_wp2_with fail
      refine (implShowSum_any vl ss w1 HL1.out.row HS.out (HV.out.later HB1.out)).mono ?_
      rintro e w2 ⟨rfl, hb2⟩
      rw [HSB.out]
      have HB2 := Lib.hid (HB1.out.trans (hb2.mono HB1.out.size))
      have HL2 := Lib.hid (HL1.out.below hb2)
      clear hb2
      go_wp2_with fail
      refine (drawReadSum_any v n w2 (hC'.out.below HB2.out)).mono ?_
      rintro e w3 ⟨t, rfl, htz, hb3⟩
      have HB3 := Lib.hid (HB2.out.trans (hb3.mono HB2.out.size))
      have HL3 := Lib.hid (HL2.out.below hb3)
      have ht2 : t.size ≤ 1048576 := by omega
      clear hb3
      cases hrd : readOk t
      · have HRD := Lib.hid hrd
        clear hrd
        go_wp2_with fail
        refine (implReadSum_any t w3 ht2 (HV.out.later HB3.out)).mono ?_
        rintro e w4 ⟨vx, rfl, hox, hb4⟩
        rw [HRD.out]
        have HB4 := Lib.hid (HB3.out.trans (hb4.mono HB3.out.size))
        have HL4 := Lib.hid (HL3.out.below hb4)
        have HX4 := Lib.hid hox
        clear hox hb4
        go_wp2_with fail
        refine (drawWordsIn_any v n w4 (hC'.out.below HB4.out)).mono ?_
        rintro e w5 ⟨vq, qs, wd, rfl, hoq, hlq, hsq, hwz, hb5⟩
        have HB5 := Lib.hid (HB4.out.trans (hb5.mono HB4.out.size))
        have HL5 := Lib.hid (HL4.out.below hb5)
        have HX5 := Lib.hid (HX4.out.below hb5)
        have HQ5 := Lib.hid hoq
        have HQS := Lib.hid (hsq.small (by omega))
        clear hoq hsq hb5
        go_wp2_with fail
        refine (implDepthOf_any vl ss w5 HL5.out.row HS.out (HV.out.later HB5.out)).mono ?_
        rintro e w6 ⟨rfl, hb6⟩
        rw [HDP.out]
        have HB6 := Lib.hid (HB5.out.trans (hb6.mono HB5.out.size))
        have HL6 := Lib.hid (HL5.out.below hb6)
        have HX6 := Lib.hid (HX5.out.below hb6)
        have HQ6 := Lib.hid (HQ5.out.below hb6)
        clear hb6
        go_wp2_with fail
        refine (specReadSum_any t w6 ht2).mono ?_
        rintro e w7 ⟨vy, rfl, hoy, hb7⟩
        rw [HRD.out]
        have HB7 := Lib.hid (HB6.out.trans (hb7.mono HB6.out.size))
        have HL7 := Lib.hid (HL6.out.below hb7)
        have HX7 := Lib.hid (HX6.out.below hb7)
        have HQ7 := Lib.hid (HQ6.out.below hb7)
        have HY7 := Lib.hid hoy
        clear hoy hb7
        go_wp2_with fail
        refine (likeTexts_any vx vy (readS t) w7 HX7.out.row HY7.out.row).mono ?_
        rintro e w8 ⟨rfl, hb8⟩
        have HB8 := Lib.hid (HB7.out.trans (hb8.mono HB7.out.size))
        have HL8 := Lib.hid (HL7.out.below hb8)
        have HX8 := Lib.hid (HX7.out.below hb8)
        have HQ8 := Lib.hid (HQ7.out.below hb8)
        clear hb8
        go_wp2_with fail
        refine (specShowSum_any vl ss w8 HL8.out.row HS.out).mono ?_
        rintro e w9 ⟨rfl, hb9⟩
        rw [HSB.out]
        have HB9 := Lib.hid (HB8.out.trans (hb9.mono HB8.out.size))
        have HL9 := Lib.hid (HL8.out.below hb9)
        have HX9 := Lib.hid (HX8.out.below hb9)
        have HQ9 := Lib.hid (HQ8.out.below hb9)
        clear hb9
        obtain ⟨wn, hwn⟩ : ∃ wn, wordsN (wsOf qs) wd.toList = wn := ⟨_, rfl⟩
        have HWN := Lib.hid hwn
        clear hwn
        go_wp2_with fail
        refine (implWordsIn_any vq qs wd w9 HQ9.out.row HQS.out (HV.out.later HB9.out)).mono ?_
        rintro e w10 ⟨rfl, hb10⟩
        rw [HWN.out]
        have HB10 := Lib.hid (HB9.out.trans (hb10.mono HB9.out.size))
        have HL10 := Lib.hid (HL9.out.below hb10)
        have HX10 := Lib.hid (HX9.out.below hb10)
        have HQ10 := Lib.hid (HQ9.out.below hb10)
        clear hb10
        go_wp2_with fail
        refine (specWordsIn_any vq qs wd w10 HQ10.out.row HQS.out).mono ?_
        rintro e w11 ⟨rfl, hb11⟩
        rw [HWN.out]
        have HB11 := Lib.hid (HB10.out.trans (hb11.mono HB10.out.size))
        have HL11 := Lib.hid (HL10.out.below hb11)
        have HX11 := Lib.hid (HX10.out.below hb11)
        clear hb11
        go_wp2_with fail
        refine (specDepthOf_any vl ss w11 HL11.out.row HS.out).mono ?_
        rintro e w12 ⟨rfl, hb12⟩
        rw [HDP.out]
        have HB12 := Lib.hid (HB11.out.trans (hb12.mono HB11.out.size))
        have HL12 := Lib.hid (HL11.out.below hb12)
        have HX12 := Lib.hid (HX11.out.below hb12)
        clear hb12
        go_wp2_with fail
        have HB13 := HB12
        have HL13 := HL12
        refine (specPartsOf_any vl ss w12 HL13.out.row HS.out).mono ?_
        rintro e w14 ⟨vp, rfl, hop, hb14⟩
        have hpl := parts_len (wsOf ss)
        have hpf := fun p (hp : p ∈ parts (wsOf ss)) => part_of HOK.out hp
        obtain ⟨ps, hps⟩ : ∃ ps, parts (wsOf ss) = ps := ⟨_, rfl⟩
        rw [hps] at hop hpl
        simp only [hps, HDP.out] at hpf
        have HPF := Lib.hid hpf
        obtain ⟨np, hnp⟩ : ∃ np, ps.length = np := ⟨_, rfl⟩
        have HNP := Lib.hid hnp
        obtain ⟨G, C, hvp, hq1, hq2, -, hG1, hcs⟩ := hop.form
        rw [hnp] at hvp hq1 hpl hcs
        unfold maxLen at hq2
        subst hvp
        have HCS := Lib.hid hcs
        have HB14 := Lib.hid (HB13.out.trans (hb14.mono HB13.out.size))
        have HL14 := Lib.hid (HL13.out.below hb14)
        obtain ⟨gl, cl, hvl, hl1, hl2, -, hgl, -⟩ := HL14.out.form
        obtain ⟨ln, hln⟩ : ∃ ln, ss.length = ln := ⟨_, rfl⟩
        rw [hln] at hvl hl1 hll
        have HLN := Lib.hid hln
        have HL2r : Hid (cl ≤ maxLen) := Lib.hid hl2
        have hrows : ∀ wr, Below w14.heap.size w14 wr → Row wr vl ss := fun wr hb => (HL14.out.below hb).row
        have HRW := Lib.hid hrows
        have HVL := Lib.hid hvl
        unfold maxLen at hl2
        clear hop hb14 hpf hps hnp hcs hvl hln hrows
        have HVL2 := HVL.out
        subst HVL2
        go_wp2_with fail
        go_loopw [14] (fun i wr => ∃ k : Nat, k ≤ np ∧ i = .int .i64 (k : Int) ∧ Below w14.heap.size w14 wr) (fun i _ => np - (intOf i).toNat)
        case atStart => exact ⟨0, Nat.zero_le _, rfl, Below.refl _ _⟩
        case round =>
          obtain ⟨k, hk, rfl, hB⟩ := hrel
          have HB := Lib.hid hB
          clear hB
          by_cases hlt : k < np
          · have hki : (k : Int) < (np : Int) := by omega
            have hk0 : (0 : Int) ≤ (k : Int) := by omega
            have cK := (HB.out.cell (p := ⟨G, k, none⟩) hG1).trans (HCS.out k hlt).1
            obtain ⟨y, hy, hp1, hp2, hp3, hdl⟩ := HPF.out (ps.getD k 0) (by have hk2 : k < ps.length := (by rw [HNP.out]; exact hlt); simp [List.getD, hk2])
            rw [HLN.out] at hp1 hp3
            have hA : ∀ w', Below wr.heap.size wr w' → Calls Tryz.prog 19 #[.slice (some ⟨gl, 0, none⟩) ln cl, .int .i64 ((ps.getD k 0 : Nat) : Int)] w' (fun e w'' => e = .returned (.int .i64 (y : Int)) ∧ Below w'.heap.size w' w'') := fun w' hb => by
              have h := specSumEnd_any _ ss (ps.getD k 0) w' (HRW.out _ (HB.out.trans (hb.mono HB.out.size))) HS.out
              rw [hy] at h
              exact h
            obtain ⟨dk, hdk⟩ : ∃ dk, deepN (wsOf ((ss.drop (ps.getD k 0)).take (y - ps.getD k 0))) = dk := ⟨_, rfl⟩
            rw [hdk] at hdl
            obtain ⟨p, hp⟩ : ∃ p : Nat, ps.getD k 0 = p := ⟨_, rfl⟩
            rw [hp] at cK hA hp1 hp2 hdk
            have hD : ∀ w', Below wr.heap.size wr w' → Calls Tryz.prog 10 #[.slice (some ⟨gl, p, none⟩) (y - p) (cl - p)] w' (fun e w'' => e = .returned (.int .i64 (dk : Int)) ∧ Below w'.heap.size w' w'') := fun w' hb => by
              have hbb := HB.out.trans (hb.mono HB.out.size)
              have hr := HRW.out _ hbb
              obtain ⟨oa, cc, hv, a1, a2, a3⟩ := hr
              have hv2 : oa = some ⟨gl, 0, none⟩ ∧ cc = cl := by
                injection hv with b1 b2 b3
                exact ⟨b1.symm, b3.symm⟩
              obtain ⟨rfl, rfl⟩ := hv2
              have hsub : ((ss.drop p).take (y - p)).length = y - p := by rw [List.length_take, List.length_drop, HLN.out]; omega
              have hrow := row_sub (w := w') (b := gl) (off := 0) (n := ln) (cap := cc) (ss := ss) HLN.out (by rw [HLN.out] at a1; exact a1) a2 (Nat.lt_of_lt_of_le hgl hbb.size) (fun i hi => by
                obtain ⟨b', o', e', _, hc⟩ := a3 i (by rw [HLN.out]; exact hi)
                cases e'
                exact hc) p (y - p) (y - p) hsub
              have hsm : Small ((ss.drop p).take (y - p)) := ⟨by rw [hsub]; omega, fun i hi => by
                have e : ((ss.drop p).take (y - p)).getD i ByteArray.empty = ss.getD (p + i) ByteArray.empty := by
                  rw [hsub] at hi
                  simp [List.getD, hi, List.getElem?_drop]
                rw [e]
                rw [hsub] at hi
                exact HS.out.2 (p + i) (by rw [HLN.out]; omega)⟩
              rw [Nat.zero_add] at hrow
              have h := implDepthOf_any _ _ w' hrow hsm (HV.out.later (HB14.out.trans (hbb.mono HB14.out.size)))
              rw [hdk] at h
              exact h
            have cK' := cell_regrown cK
            have cA := fun d os => Calls.regrown_of (d := d) (os := os) (hA (grow (redrawn wr d) os) (below_regrown wr d os))
            have cD := fun d os => Calls.regrown_of (d := d) (os := os) (hD (grow (redrawn wr d) os) (below_regrown wr d os))
            have hp0 : (0 : Int) ≤ (p : Int) := by omega
            have hpy : (p : Int) ≤ (y : Int) := by omega
            have hyc : (y : Int) ≤ (cl : Int) := by omega
            have hpc : ¬ cl = p := by omega
            have hty : ((y : Int) - (p : Int)).toNat = y - p := by omega
            have hdd : decide ((dp : Int) ≤ (dk : Int)) = false := by simp; omega
            have hnd : ¬ (dp : Int) ≤ (dk : Int) := by omega
            clear hA hD hy hp hdk hdl cK
            go_wp2_with fail
            refine wp_region_quiet_below (by kernel_rfl) (by kernel_rfl) ?_
            repeat (go_big_quiet_step (first | (go_at_call 19; exact cA _ _) | (go_at_call 10; exact cD _ _)))
            refine wpQuiet_nil ?_
            intro _ hw'
            obtain ⟨⟨dq, osq⟩, hw''⟩ := hw'
            have HQ := below_regrown wr dq osq
            rw [← hw''] at HQ
            have HQ' := Lib.hid (HB.out.trans (HQ.mono HB.out.size))
            clear hw'' cA cD cK' HQ
            go_wp2_with fail
            go_roundw
            case rel => exact ⟨k + 1, by omega, by go_num, HQ'.out⟩
            case measure => simp [intOf]; omega
          · have hkn : k = np := by omega
            have hki : ¬ (k : Int) < (np : Int) := by omega
            have HBr := Lib.hid (HB14.out.trans (HB.out.mono HB14.out.size))
            have HRr := Lib.hid (HRW.out _ HB.out)
            have hrs := read_show HOK.out
            rw [HSB.out] at hrs
            have hir := implReadSum_any sb wr hsbz (HV.out.later HBr.out)
            rw [hrs.1, hrs.2] at hir
            have HIR := Lib.hid hir
            have hd1' : (1 : Int) ≤ (dp : Int) := by omega
            clear hir hrs
            go_wp2_with fail
            refine HIR.out.mono ?_
            rintro e w20 ⟨v20, rfl, ho20, hb20⟩
            have HB20 := Lib.hid (HBr.out.trans (hb20.mono HBr.out.size))
            have HR20 := Lib.hid (HRr.out.below hb20)
            have HO20 := Lib.hid ho20
            clear hb20 ho20
            go_wp2_with fail
            refine (likeTexts_any v20 _ ss w20 HO20.out.row HR20.out).mono ?_
            rintro e w21 ⟨rfl, hb21⟩
            have HB21 := Lib.hid (HB20.out.trans (hb21.mono HB20.out.size))
            clear hb21
            go_wp2_with fail
            go_ret
            exact ⟨rfl, HB21.out⟩
      · have HRD := Lib.hid hrd
        clear hrd
        go_wp2_with fail
        refine (implReadSum_any t w3 ht2 (HV.out.later HB3.out)).mono ?_
        rintro e w4 ⟨vx, rfl, hox, hb4⟩
        rw [HRD.out]
        have HB4 := Lib.hid (HB3.out.trans (hb4.mono HB3.out.size))
        have HL4 := Lib.hid (HL3.out.below hb4)
        have HX4 := Lib.hid hox
        clear hox hb4
        go_wp2_with fail
        refine (drawWordsIn_any v n w4 (hC'.out.below HB4.out)).mono ?_
        rintro e w5 ⟨vq, qs, wd, rfl, hoq, hlq, hsq, hwz, hb5⟩
        have HB5 := Lib.hid (HB4.out.trans (hb5.mono HB4.out.size))
        have HL5 := Lib.hid (HL4.out.below hb5)
        have HX5 := Lib.hid (HX4.out.below hb5)
        have HQ5 := Lib.hid hoq
        have HQS := Lib.hid (hsq.small (by omega))
        clear hoq hsq hb5
        go_wp2_with fail
        refine (implDepthOf_any vl ss w5 HL5.out.row HS.out (HV.out.later HB5.out)).mono ?_
        rintro e w6 ⟨rfl, hb6⟩
        rw [HDP.out]
        have HB6 := Lib.hid (HB5.out.trans (hb6.mono HB5.out.size))
        have HL6 := Lib.hid (HL5.out.below hb6)
        have HX6 := Lib.hid (HX5.out.below hb6)
        have HQ6 := Lib.hid (HQ5.out.below hb6)
        clear hb6
        go_wp2_with fail
        refine (specReadSum_any t w6 ht2).mono ?_
        rintro e w7 ⟨vy, rfl, hoy, hb7⟩
        rw [HRD.out]
        have HB7 := Lib.hid (HB6.out.trans (hb7.mono HB6.out.size))
        have HL7 := Lib.hid (HL6.out.below hb7)
        have HX7 := Lib.hid (HX6.out.below hb7)
        have HQ7 := Lib.hid (HQ6.out.below hb7)
        have HY7 := Lib.hid hoy
        clear hoy hb7
        go_wp2_with fail
        refine (likeTexts_any vx vy (readS t) w7 HX7.out.row HY7.out.row).mono ?_
        rintro e w8 ⟨rfl, hb8⟩
        have HB8 := Lib.hid (HB7.out.trans (hb8.mono HB7.out.size))
        have HL8 := Lib.hid (HL7.out.below hb8)
        have HX8 := Lib.hid (HX7.out.below hb8)
        have HQ8 := Lib.hid (HQ7.out.below hb8)
        clear hb8
        go_wp2_with fail
        refine (specShowSum_any vl ss w8 HL8.out.row HS.out).mono ?_
        rintro e w9 ⟨rfl, hb9⟩
        rw [HSB.out]
        have HB9 := Lib.hid (HB8.out.trans (hb9.mono HB8.out.size))
        have HL9 := Lib.hid (HL8.out.below hb9)
        have HX9 := Lib.hid (HX8.out.below hb9)
        have HQ9 := Lib.hid (HQ8.out.below hb9)
        clear hb9
        obtain ⟨wn, hwn⟩ : ∃ wn, wordsN (wsOf qs) wd.toList = wn := ⟨_, rfl⟩
        have HWN := Lib.hid hwn
        clear hwn
        go_wp2_with fail
        refine (implWordsIn_any vq qs wd w9 HQ9.out.row HQS.out (HV.out.later HB9.out)).mono ?_
        rintro e w10 ⟨rfl, hb10⟩
        rw [HWN.out]
        have HB10 := Lib.hid (HB9.out.trans (hb10.mono HB9.out.size))
        have HL10 := Lib.hid (HL9.out.below hb10)
        have HX10 := Lib.hid (HX9.out.below hb10)
        have HQ10 := Lib.hid (HQ9.out.below hb10)
        clear hb10
        go_wp2_with fail
        refine (specWordsIn_any vq qs wd w10 HQ10.out.row HQS.out).mono ?_
        rintro e w11 ⟨rfl, hb11⟩
        rw [HWN.out]
        have HB11 := Lib.hid (HB10.out.trans (hb11.mono HB10.out.size))
        have HL11 := Lib.hid (HL10.out.below hb11)
        have HX11 := Lib.hid (HX10.out.below hb11)
        clear hb11
        go_wp2_with fail
        refine (specDepthOf_any vl ss w11 HL11.out.row HS.out).mono ?_
        rintro e w12 ⟨rfl, hb12⟩
        rw [HDP.out]
        have HB12 := Lib.hid (HB11.out.trans (hb12.mono HB11.out.size))
        have HL12 := Lib.hid (HL11.out.below hb12)
        have HX12 := Lib.hid (HX11.out.below hb12)
        clear hb12
        go_wp2_with fail
        refine (implShowSum_any vx (readS t) w12 HX12.out.row (readS_small ht2) (HV.out.later HB12.out)).mono ?_
        rintro e w13 ⟨rfl, hb13⟩
        rw [show_read HRD.out]
        have HB13 := Lib.hid (HB12.out.trans (hb13.mono HB12.out.size))
        have HL13 := Lib.hid (HL12.out.below hb13)
        clear hb13
        go_wp2_with fail
        refine (specPartsOf_any vl ss w13 HL13.out.row HS.out).mono ?_
        rintro e w14 ⟨vp, rfl, hop, hb14⟩
        have hpl := parts_len (wsOf ss)
        have hpf := fun p (hp : p ∈ parts (wsOf ss)) => part_of HOK.out hp
        obtain ⟨ps, hps⟩ : ∃ ps, parts (wsOf ss) = ps := ⟨_, rfl⟩
        rw [hps] at hop hpl
        simp only [hps, HDP.out] at hpf
        have HPF := Lib.hid hpf
        obtain ⟨np, hnp⟩ : ∃ np, ps.length = np := ⟨_, rfl⟩
        have HNP := Lib.hid hnp
        obtain ⟨G, C, hvp, hq1, hq2, -, hG1, hcs⟩ := hop.form
        rw [hnp] at hvp hq1 hpl hcs
        unfold maxLen at hq2
        subst hvp
        have HCS := Lib.hid hcs
        have HB14 := Lib.hid (HB13.out.trans (hb14.mono HB13.out.size))
        have HL14 := Lib.hid (HL13.out.below hb14)
        obtain ⟨gl, cl, hvl, hl1, hl2, -, hgl, -⟩ := HL14.out.form
        obtain ⟨ln, hln⟩ : ∃ ln, ss.length = ln := ⟨_, rfl⟩
        rw [hln] at hvl hl1 hll
        have HLN := Lib.hid hln
        have HL2r : Hid (cl ≤ maxLen) := Lib.hid hl2
        have hrows : ∀ wr, Below w14.heap.size w14 wr → Row wr vl ss := fun wr hb => (HL14.out.below hb).row
        have HRW := Lib.hid hrows
        have HVL := Lib.hid hvl
        unfold maxLen at hl2
        clear hop hb14 hpf hps hnp hcs hvl hln hrows
        have HVL2 := HVL.out
        subst HVL2
        go_wp2_with fail
        go_loopw [14] (fun i wr => ∃ k : Nat, k ≤ np ∧ i = .int .i64 (k : Int) ∧ Below w14.heap.size w14 wr) (fun i _ => np - (intOf i).toNat)
        case atStart => exact ⟨0, Nat.zero_le _, rfl, Below.refl _ _⟩
        case round =>
          obtain ⟨k, hk, rfl, hB⟩ := hrel
          have HB := Lib.hid hB
          clear hB
          by_cases hlt : k < np
          · have hki : (k : Int) < (np : Int) := by omega
            have hk0 : (0 : Int) ≤ (k : Int) := by omega
            have cK := (HB.out.cell (p := ⟨G, k, none⟩) hG1).trans (HCS.out k hlt).1
            obtain ⟨y, hy, hp1, hp2, hp3, hdl⟩ := HPF.out (ps.getD k 0) (by have hk2 : k < ps.length := (by rw [HNP.out]; exact hlt); simp [List.getD, hk2])
            rw [HLN.out] at hp1 hp3
            have hA : ∀ w', Below wr.heap.size wr w' → Calls Tryz.prog 19 #[.slice (some ⟨gl, 0, none⟩) ln cl, .int .i64 ((ps.getD k 0 : Nat) : Int)] w' (fun e w'' => e = .returned (.int .i64 (y : Int)) ∧ Below w'.heap.size w' w'') := fun w' hb => by
              have h := specSumEnd_any _ ss (ps.getD k 0) w' (HRW.out _ (HB.out.trans (hb.mono HB.out.size))) HS.out
              rw [hy] at h
              exact h
            obtain ⟨dk, hdk⟩ : ∃ dk, deepN (wsOf ((ss.drop (ps.getD k 0)).take (y - ps.getD k 0))) = dk := ⟨_, rfl⟩
            rw [hdk] at hdl
            obtain ⟨p, hp⟩ : ∃ p : Nat, ps.getD k 0 = p := ⟨_, rfl⟩
            rw [hp] at cK hA hp1 hp2 hdk
            have hD : ∀ w', Below wr.heap.size wr w' → Calls Tryz.prog 10 #[.slice (some ⟨gl, p, none⟩) (y - p) (cl - p)] w' (fun e w'' => e = .returned (.int .i64 (dk : Int)) ∧ Below w'.heap.size w' w'') := fun w' hb => by
              have hbb := HB.out.trans (hb.mono HB.out.size)
              have hr := HRW.out _ hbb
              obtain ⟨oa, cc, hv, a1, a2, a3⟩ := hr
              have hv2 : oa = some ⟨gl, 0, none⟩ ∧ cc = cl := by
                injection hv with b1 b2 b3
                exact ⟨b1.symm, b3.symm⟩
              obtain ⟨rfl, rfl⟩ := hv2
              have hsub : ((ss.drop p).take (y - p)).length = y - p := by rw [List.length_take, List.length_drop, HLN.out]; omega
              have hrow := row_sub (w := w') (b := gl) (off := 0) (n := ln) (cap := cc) (ss := ss) HLN.out (by rw [HLN.out] at a1; exact a1) a2 (Nat.lt_of_lt_of_le hgl hbb.size) (fun i hi => by
                obtain ⟨b', o', e', _, hc⟩ := a3 i (by rw [HLN.out]; exact hi)
                cases e'
                exact hc) p (y - p) (y - p) hsub
              have hsm : Small ((ss.drop p).take (y - p)) := ⟨by rw [hsub]; omega, fun i hi => by
                have e : ((ss.drop p).take (y - p)).getD i ByteArray.empty = ss.getD (p + i) ByteArray.empty := by
                  rw [hsub] at hi
                  simp [List.getD, hi, List.getElem?_drop]
                rw [e]
                rw [hsub] at hi
                exact HS.out.2 (p + i) (by rw [HLN.out]; omega)⟩
              rw [Nat.zero_add] at hrow
              have h := implDepthOf_any _ _ w' hrow hsm (HV.out.later (HB14.out.trans (hbb.mono HB14.out.size)))
              rw [hdk] at h
              exact h
            have cK' := cell_regrown cK
            have cA := fun d os => Calls.regrown_of (d := d) (os := os) (hA (grow (redrawn wr d) os) (below_regrown wr d os))
            have cD := fun d os => Calls.regrown_of (d := d) (os := os) (hD (grow (redrawn wr d) os) (below_regrown wr d os))
            have hp0 : (0 : Int) ≤ (p : Int) := by omega
            have hpy : (p : Int) ≤ (y : Int) := by omega
            have hyc : (y : Int) ≤ (cl : Int) := by omega
            have hpc : ¬ cl = p := by omega
            have hty : ((y : Int) - (p : Int)).toNat = y - p := by omega
            have hdd : decide ((dp : Int) ≤ (dk : Int)) = false := by simp; omega
            have hnd : ¬ (dp : Int) ≤ (dk : Int) := by omega
            clear hA hD hy hp hdk hdl cK
            go_wp2_with fail
            refine wp_region_quiet_below (by kernel_rfl) (by kernel_rfl) ?_
            repeat (go_big_quiet_step (first | (go_at_call 19; exact cA _ _) | (go_at_call 10; exact cD _ _)))
            refine wpQuiet_nil ?_
            intro _ hw'
            obtain ⟨⟨dq, osq⟩, hw''⟩ := hw'
            have HQ := below_regrown wr dq osq
            rw [← hw''] at HQ
            have HQ' := Lib.hid (HB.out.trans (HQ.mono HB.out.size))
            clear hw'' cA cD cK' HQ
            go_wp2_with fail
            go_roundw
            case rel => exact ⟨k + 1, by omega, by go_num, HQ'.out⟩
            case measure => simp [intOf]; omega
          · have hkn : k = np := by omega
            have hki : ¬ (k : Int) < (np : Int) := by omega
            have HBr := Lib.hid (HB14.out.trans (HB.out.mono HB14.out.size))
            have HRr := Lib.hid (HRW.out _ HB.out)
            have hrs := read_show HOK.out
            rw [HSB.out] at hrs
            have hir := implReadSum_any sb wr hsbz (HV.out.later HBr.out)
            rw [hrs.1, hrs.2] at hir
            have HIR := Lib.hid hir
            have hd1' : (1 : Int) ≤ (dp : Int) := by omega
            clear hir hrs
            go_wp2_with fail
            refine HIR.out.mono ?_
            rintro e w20 ⟨v20, rfl, ho20, hb20⟩
            have HB20 := Lib.hid (HBr.out.trans (hb20.mono HBr.out.size))
            have HR20 := Lib.hid (HRr.out.below hb20)
            have HO20 := Lib.hid ho20
            clear hb20 ho20
            go_wp2_with fail
            refine (likeTexts_any v20 _ ss w20 HO20.out.row HR20.out).mono ?_
            rintro e w21 ⟨rfl, hb21⟩
            have HB21 := Lib.hid (HB20.out.trans (hb21.mono HB20.out.size))
            clear hb21
            go_wp2_with fail
            go_ret
            exact ⟨rfl, HB21.out⟩

end L2
end Go.Proofs.YtgcjmhecnbhhlaaGreatDoor
