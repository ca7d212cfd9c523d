/-
  The law of chapter 2 on the parts of a draw.
-/
import Derived.Test.YtcfniecdjbgknaaDoorS3
import Derived.Test.YtcfniecdjbgknaaDoorD7
import Derived.Lib.QuietBelow
import Derived.BigQuiet
namespace Go.Proofs.YtcfniecdjbgknaaDoor
open Go.RowKit Go.Sort
namespace L2
open S1 L1

theorem owI_cell {w : World} {B g n cap : Nat} {xs : List Nat} (h : OwI w B (.slice (some ⟨g, 0, none⟩) n cap) xs) {i : Nat} (hi : i < xs.length) : w.cell? ⟨g, i, none⟩ = some (.int .i64 ((xs.getD i 0 : Nat) : Int)) := by
  obtain ⟨g', cap', hv, _, _, _, _, hc⟩ := h.form
  cases hv
  exact (hc i hi).1

set_option maxRecDepth 100000 in
set_option maxHeartbeats 8000000 in
theorem lawParts (v : Value) (n : Nat) (w : World) (hC : D.Came w v n) (hV : Vars w) :
    Calls Tryd.prog 4 #[v] w fun e w' => e = .returned (.bool true) ∧ Below w.heap.size w w' := by
  have hC' := Lib.hid hC
  have HV := Lib.hid hV
  clear hC hV
  by_cases hn : 4096 < n
  · go_enter Tryd.func4, Tryd.ntmps4
    go_wp2_with fail
    refine (D.big_any v n _ hC'.out).mono ?_
    rintro e w1 ⟨rfl, hw⟩
    rw [hw]
    clear hw w1
    simp only [hn, decide_true]
    go_wp2_with fail
    go_ret
    exact ⟨rfl, Below.refl _ _⟩
  · go_enter Tryd.func4, Tryd.ntmps4
    go_wp2_with fail
    refine (D.big_any v n _ hC'.out).mono ?_
    rintro e w1 ⟨rfl, hw⟩
    rw [hw]
    clear hw w1
    simp only [hn, decide_false]
    go_wp2_with fail
    refine (drawPartsOf_any v n w hC'.out).mono ?_
    rintro e w1 ⟨vl, ss, rfl, hol, hll, hsl, hb1⟩
    have HR := Lib.hid hol.row
    have HS := Lib.hid (hsl.small (by omega))
    have HB1 := Lib.hid hb1
    obtain ⟨ps, hps⟩ : ∃ ps, parts (wsOf ss) = ps := ⟨_, rfl⟩
    have hpl := parts_len (wsOf ss)
    rw [hps] at hpl
    have HPS := Lib.hid hps
    clear hol hsl hb1 hps
    go_wp2_with fail
    refine (implPartsOf_any vl ss w1 HR.out HS.out (HV.out.later HB1.out)).mono ?_
    rintro e w2 ⟨vp, rfl, ho2, hb2⟩
    rw [HPS.out] at ho2
    have HB2 := Lib.hid (HB1.out.trans (hb2.mono HB1.out.size))
    have HR2 := Lib.hid (HR.out.below hb2)
    have HO2 := Lib.hid ho2
    clear hb2 ho2
    go_wp2_with fail
    refine (specPartsOf_any vl ss w2 HR2.out HS.out).mono ?_
    rintro e w3 ⟨vq, rfl, ho3, hb3⟩
    rw [HPS.out] at ho3
    have HB3 := Lib.hid (HB2.out.trans (hb3.mono HB2.out.size))
    have HR3 := Lib.hid (HR2.out.below hb3)
    have HO3 := Lib.hid (HO2.out.below hb3)
    have HQ3 := Lib.hid ho3
    clear hb3 ho3
    go_wp2_with fail
    refine (likeInts_any _ _ ps _ _ w3 HO3.out HQ3.out).mono ?_
    rintro e w4 ⟨rfl, hb4⟩
    have HB4 := Lib.hid (HB3.out.trans (hb4.mono HB3.out.size))
    have HR4 := Lib.hid (HR3.out.below hb4)
    have HO4 := Lib.hid (HO3.out.below hb4)
    clear hb4
    obtain ⟨G, C, rfl, hq1, hq2, hG0, hG1, -⟩ := HO4.out.form
    unfold maxLen at hq2
    go_wp2_with fail
    refine (specSumOk_any vl ss w4 HR4.out HS.out).mono ?_
    rintro e w5 ⟨rfl, hb5⟩
    have HB5 := Lib.hid (HB4.out.trans (hb5.mono HB4.out.size))
    have HR5 := Lib.hid (HR4.out.below hb5)
    have HO5 := Lib.hid (HO4.out.below hb5)
    clear hb5
    obtain ⟨np, hnp⟩ : ∃ np, ps.length = np := ⟨_, rfl⟩
    rw [hnp] at hpl hq1 HO5 ⊢
    have HNP := Lib.hid hnp
    clear hnp
    cases hok : okSum (wsOf ss)
    · have hz : np = 0 := by
        have := parts_no hok
        rw [HPS.out] at this
        rw [← HNP.out, this]
        rfl
      subst hz
      have Hok := Lib.hid hok
      clear hok
      go_wp2_with fail
      go_ret
      exact ⟨rfl, HB5.out⟩
    · have hfit := parts_fit hok
      rw [HPS.out] at hfit
      have HF := Lib.hid hfit
      clear hfit hok
      go_wp2_with fail
      go_loopw [5] (fun i wr => ∃ k : Nat, k ≤ np ∧ i = .int .i64 (k : Int) ∧ Below w5.heap.size w5 wr) (fun i _ => np - (intOf i).toNat)
      case atStart => exact ⟨0, Nat.zero_le _, rfl, Below.refl _ _⟩
      case round =>
        obtain ⟨k, hk, rfl, hB⟩ := hrel
        have HB := Lib.hid hB
        clear hB
        have hB' := HB.out
        have HOr := Lib.hid (HO5.out.below hB')
        have HRr := Lib.hid (HR5.out.below hB')
        have HBr := Lib.hid (HB5.out.trans (hB'.mono HB5.out.size))
        clear hB'
        by_cases hlt : k < np
        · have hcs := fun i hi => owI_cell HOr.out (i := i) hi
          have hki : (k : Int) < (np : Int) := by omega
          have hk0 : (0 : Int) ≤ (k : Int) := by omega
          have hst := HF.out.starts k (by rw [HNP.out]; exact hlt)
          have hA : ∀ w', Below wr.heap.size wr w' → Calls Tryd.prog 38 #[vl, .int .i64 ((ps.getD k 0 : Nat) : Int)] w' (fun e w'' => e = .returned (.bool true) ∧ Below w'.heap.size w' w'') := fun w' hb => by
            have h := implIsStart_any vl ss ((ps.getD k 0 : Nat) : Int) w' (HRr.out.below hb) HS.out (HV.out.later (HBr.out.trans (hb.mono HBr.out.size)))
            rw [hst] at h
            exact h
          have cK := hcs k (by rw [HNP.out]; exact hlt)
          by_cases hz : k = 0
          · subst hz
            obtain ⟨x, hx⟩ : ∃ x : Nat, ps.getD 0 0 = x := ⟨_, rfl⟩
            rw [hx] at hA cK
            have cK' := cell_regrown cK
            have cA := fun d os => Calls.regrown_of (d := d) (os := os) (hA (grow (redrawn wr d) os) (below_regrown wr d os))
            have h0 : ((0 : Nat) : Int) = 0 := rfl
            rw [h0] at hki hk0 ⊢
            clear hA hst hcs hx h0
            go_wp2_with fail
            refine wp_region_quiet_below (by kernel_rfl) (by kernel_rfl) ?_
            repeat (go_big_quiet_step (exact cA _ _))
            refine wpQuiet_nil ?_
            intro _ hw'
            obtain ⟨⟨dq, osq⟩, hw''⟩ := hw'
            have HQ := below_regrown wr dq osq
            rw [← hw''] at HQ
            have HQ' := Lib.hid (HB.out.trans (HQ.mono HB.out.size))
            clear hw'' cA cK cK' HQ
            go_wp2_with fail
            go_roundw
            case rel => exact ⟨1, by omega, rfl, HQ'.out⟩
            case measure => simp [intOf]; omega
          · obtain ⟨j, rfl⟩ : ∃ j, k = j + 1 := ⟨k - 1, by omega⟩
            have hnx := HF.out.next j (by rw [HNP.out]; exact hlt)
            have hsm := HF.out.small j
            have hD : ∀ w', Below wr.heap.size wr w' → Calls Tryd.prog 39 #[vl, .int .i64 ((ps.getD j 0 : Nat) : Int)] w' (fun e w'' => e = .returned (.int .i64 ((ps.getD (j + 1) 0 : Nat) : Int)) ∧ Below w'.heap.size w' w'') := fun w' hb => by
              have h := implSumEnd_any vl ss (ps.getD j 0) w' (HRr.out.below hb) HS.out (by omega) (HV.out.later (HBr.out.trans (hb.mono HBr.out.size)))
              rw [hnx] at h
              exact h
            have cJ := hcs j (by rw [HNP.out]; omega)
            obtain ⟨x, hx⟩ : ∃ x : Nat, ps.getD (j + 1) 0 = x := ⟨_, rfl⟩
            obtain ⟨y, hy⟩ : ∃ y : Nat, ps.getD j 0 = y := ⟨_, rfl⟩
            rw [hx] at hA cK hD
            rw [hy] at hD cJ
            have cK' := cell_regrown cK
            have cJ' := cell_regrown cJ
            have cA := fun d os => Calls.regrown_of (d := d) (os := os) (hA (grow (redrawn wr d) os) (below_regrown wr d os))
            have cD := fun d os => Calls.regrown_of (d := d) (os := os) (hD (grow (redrawn wr d) os) (below_regrown wr d os))
            have hw1 : IntKind.i64.wrap (((j + 1 : Nat) : Int) - 1) = (j : Int) := by rw [IntKind.wrap_i64]; omega
            have hw2 : IntKind.i64.wrap ((j : Int) + 1 - 1) = (j : Int) := by rw [IntKind.wrap_i64]; omega
            have hw3 : IntKind.i64.wrap (j : Int) = (j : Int) := by rw [IntKind.wrap_i64]; omega
            have hj0 : (0 : Int) ≤ (j : Int) := by omega
            have hjn : (j : Int) < (np : Int) := by omega
            have hpos : (0 : Int) < (j : Int) + 1 := by omega
            have hpd : decide ((0 : Int) < (j : Int) + 1) = true := by first | (simp; done) | (simp; omega)
            clear hA hD hst hcs hx hy hnx hsm
            go_wp2_with fail
            refine wp_region_quiet_below (by kernel_rfl) (by kernel_rfl) ?_
            repeat (go_big_quiet_step (first | exact cA _ _ | exact cD _ _))
            refine wpQuiet_nil ?_
            intro _ hw'
            obtain ⟨⟨dq, osq⟩, hw''⟩ := hw'
            have HQ := below_regrown wr dq osq
            rw [← hw''] at HQ
            have HQ' := Lib.hid (HB.out.trans (HQ.mono HB.out.size))
            clear hw'' cA cD cK cK' cJ cJ' HQ hw1 hw2 hw3
            go_wp2_with fail
            go_roundw
            case rel => exact ⟨j + 1 + 1, by omega, by go_num, HQ'.out⟩
            case measure => simp [intOf]; omega
        · have hkn : k = np := by omega
          subst hkn
          have hki : ¬ (k : Int) < (k : Int) := by omega
          have hcount := HF.out.count
          have hsome := HF.out.some
          have hwl := ws_len ss
          rw [hwl] at hsome
          obtain ⟨oa, cap, rfl, hr1, hr2, hr3⟩ := HRr.out
          obtain ⟨b, off, rfl, hb, hc⟩ := hr3 0 hsome
          rw [ws_getD hsome, HNP.out] at hcount
          have hszs := HS.out.2 0 hsome
          obtain ⟨s, hs⟩ : ∃ s, ss.getD 0 ByteArray.empty = s := ⟨_, rfl⟩
          rw [hs] at hc hcount hszs
          obtain ⟨m, hm⟩ : ∃ m, ss.length = m := ⟨_, rfl⟩
          have hcn := specNeeds_any s (by unfold maxLen; omega)
          rw [hcount] at hcn
          have hc0 : wr.cell? ⟨b, off, none⟩ = some (.string s) := hc
          have Hcn := Lib.hid hcn
          have Hm := Lib.hid hm
          have Hwl := Lib.hid hwl
          rw [hm] at hr1 hsome ⊢
          have hm0 : (0 : Int) < (m : Int) := by omega
          unfold maxLen at hr2
          clear hcount hcn hs hr3 hc hm hwl hszs
          by_cases hz : k = 0
          · subst hz
            have h0 : ((0 : Nat) : Int) = 0 := rfl
            rw [h0] at Hcn hki ⊢
            clear h0
            go_wp2_with (go_at_call 40; refine (Hcn.out _).mono ?_; rintro e w' ⟨rfl, rfl⟩)
            go_ret
            exact ⟨rfl, HBr.out⟩
          · obtain ⟨q, rfl⟩ : ∃ q, k = q + 1 := ⟨k - 1, by omega⟩
            have hlast := HF.out.last q HNP.out.symm
            have hsm := HF.out.small q
            have hcq := owI_cell HOr.out (i := q) (by rw [HNP.out]; omega)
            have hne1 : (((q + 1 : Nat) : Int) == 0) = false := by simp; omega
            have hne2 : (((q : Int) + 1) == 0) = false := by simp; omega
            have hD := fun w' (hb : Below wr.heap.size wr w') => implSumEnd_any _ ss (ps.getD q 0) w' (HRr.out.below hb) HS.out (by omega) (HV.out.later (HBr.out.trans (hb.mono HBr.out.size)))
            rw [hlast, Hwl.out, Hm.out] at hD
            obtain ⟨x, hx⟩ : ∃ x : Nat, ps.getD q 0 = x := ⟨_, rfl⟩
            rw [hx] at hD hcq
            have HD := Lib.hid hD
            clear hD hx hlast hsm
            go_wp2_with (go_at_call 40; refine (Hcn.out _).mono ?_; rintro e w' ⟨rfl, rfl⟩)
            refine (HD.out _ (Below.refl _ _)).mono ?_
            rintro e w6 ⟨rfl, hb6⟩
            go_wp2_with fail
            go_ret
            exact ⟨rfl, HBr.out.trans (hb6.mono HBr.out.size)⟩

end L2
end Go.Proofs.YtcfniecdjbgknaaDoor
