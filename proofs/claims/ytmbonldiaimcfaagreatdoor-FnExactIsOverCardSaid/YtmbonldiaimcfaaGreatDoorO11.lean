/-
  What is right of a pile: the model's lists.
-/
import Derived.Test.YtmbonldiaimcfaaGreatDoorO10
namespace Go.Proofs.YtmbonldiaimcfaaGreatDoor
open Go.RowKit Go.Sort
namespace L2
open S1 L1

set_option maxRecDepth 100000 in
set_option maxHeartbeats 1000000 in
theorem l6Plates_any (v : Value) (ss : List ByteArray) (v' : Value) (ps : List Pl) (cnt : Nat) (w : World) (hR : Row w v ss) (hS : Small ss) (ho : okSum (wsOf ss) = true) (hP : RowP w v' ps) :
    Calls Tryz.prog 136 #[v, v', .int .i64 (cnt : Int)] w fun e w' => e = .returned (.bool (fitPs ss cnt ps)) ∧ Below w.heap.size w w' := by
  have HT := Lib.hid (fun p w1 (hb : Below w.heap.size w w1) => l6Plate_any v ss p cnt w1 (hR.below hb) hS ho)
  obtain ⟨oc, cc, rfl, -, -, -⟩ := hR
  obtain ⟨oa, cap, rfl, h1, h2, h3⟩ := hP
  obtain ⟨n, hn⟩ : ∃ n, ps.length = n := ⟨_, rfl⟩
  have HN := Lib.hid hn
  rw [hn] at h1 h3 ⊢
  unfold maxLen at h2
  have H3 := Lib.hid h3
  clear hn h3 hS ho
  go_enter Tryz.func136, Tryz.ntmps136
  go_wp2_with fail
  go_loopw [7] (fun i wr => ∃ k : Nat, k ≤ n ∧ i = .int .i64 (k : Int) ∧ Hid (∀ j, j < k → fitP ss cnt (ps.getD j p0) = true) ∧ Below w.heap.size w wr) (fun i _ => n - (intOf i).toNat)
  case atStart => exact ⟨0, Nat.zero_le _, rfl, Lib.hid (by intro j hj; omega), Below.refl _ _⟩
  case round =>
    obtain ⟨k, hk, rfl, hall, hB⟩ := hrel
    have HB := Lib.hid hB
    clear hB
    by_cases hlt : k < n
    · obtain ⟨b, off, rfl, hb, hc⟩ := H3.out k hlt
      have hc1 := hc.below HB.out hb
      clear hc
      obtain ⟨p, hp⟩ : ∃ p, ps.getD k p0 = p := ⟨_, rfl⟩
      have HP := Lib.hid hp
      rw [hp] at hc1
      clear hp
      have HT := Lib.hid (HT.out p)
      obtain ⟨t, ht⟩ : ∃ t, fitP ss cnt p = t := ⟨_, rfl⟩
      rw [ht] at HT
      have HK := Lib.hid ht
      clear ht
      obtain ⟨pk, pa, pb, pc, pd, pe⟩ := p
      obtain ⟨x0, x1, x2, x3, x4, x5⟩ := hc1
      dsimp only at x0 x1 x2 x3 x4 x5
      unfold plV at HT
      have hki : (k : Int) < (n : Int) := by omega
      go_wp2_with fail
      refine (HT.out _ HB.out).mono ?_
      rintro e w1 ⟨rfl, hb1⟩
      have HB1 := Lib.hid (HB.out.trans (hb1.mono HB.out.size))
      clear hb1 x0 x1 x2 x3 x4 x5
      cases t
      · go_wp2_with fail
        go_ret
        refine ⟨?_, HB1.out⟩
        have e : fitPs ss cnt ps = false := by unfold fitPs; rw [allG_no (z := p0) (by rw [HN.out]; exact hlt) (by rw [HP.out]; exact HK.out), Bool.and_false]
        rw [e]
        rfl
      · go_wp2_with fail
        go_roundw
        case rel =>
          refine ⟨k + 1, by omega, by go_num, Lib.hid (fun j hj => ?_), HB1.out⟩
          by_cases e : j = k
          · subst e; rw [HP.out]; exact HK.out
          · exact hall.out j (by omega)
        case measure => simp [intOf]; omega
    · have hki : ¬ (k : Int) < (n : Int) := by omega
      have hkn : k = n := by omega
      have e : fitPs ss cnt ps = decide (n ≤ 60) := by unfold fitPs; rw [allG_yes (z := p0) (fun j hj => hall.out j (by rw [HN.out] at hj; omega)), Bool.and_true, HN.out]
      have HE := Lib.hid e
      clear e hkn
      by_cases h60 : n ≤ 60
      · have h60i : (n : Int) ≤ 60 := by omega
        go_wp2_with fail
        go_ret
        exact ⟨(by rw [HE.out]; simp [h60]), HB.out⟩
      · have h60i : ¬ (n : Int) ≤ 60 := by omega
        go_wp2_with fail
        go_ret
        exact ⟨(by rw [HE.out]; simp [h60]), HB.out⟩

set_option maxRecDepth 100000 in
set_option maxHeartbeats 4000000 in
theorem l6Lists_any (x : Pil) (cv pv qv sv : Value) (w : World) (hR : RowsPi w x cv pv qv sv) (hf : FitPi x) (ho : okSum (wsOf x.c) = true) :
    Calls Tryz.prog 84 #[pilV x cv pv qv sv] w fun e w' => e = .returned (.bool (fitQs x.c x.qs.length x.qs && fitS x.sd && fitPs x.c x.qs.length x.ps)) ∧ Below w.heap.size w w' := by
  have HT := fun ps u w1 (hb : Below w.heap.size w w1) (hu : RowP w1 u ps) => l6Plates_any cv x.c u ps x.qs.length w1 (hR.c.below hb) hf.1 ho hu
  have HL := fun w1 (hb : Below w.heap.size w w1) => l6Plates_any cv x.c pv x.ps x.qs.length w1 (hR.c.below hb) hf.1 ho (hR.p.below hb)
  have HRV := fun (b : ByteArray) (hs : b.size ≤ 1048576) w1 => specRead_any b (Nat.le_trans hs (by unfold maxLen; omega)) w1
  simp only [← Lib.toList_data] at HRV
  have hsm := hf.2.2.2
  obtain ⟨oa, cap, rfl, -, -, -⟩ := hR.c
  obtain ⟨op, cp, rfl, -, -, -⟩ := hR.p
  obtain ⟨oq, cq, rfl, q1, q2, q3⟩ := hR.q
  obtain ⟨os, cs, rfl, s1, s2, s3⟩ := hR.s
  clear hR hf ho
  obtain ⟨xc, xm, xa, xak, xan, xvk, xvn, xps, xqs, xsd⟩ := x
  unfold pilV
  simp only at *
  obtain ⟨nq, hnq⟩ : ∃ n, xqs.length = n := ⟨_, rfl⟩
  obtain ⟨ns, hns⟩ : ∃ n, xsd.length = n := ⟨_, rfl⟩
  have HNQ := Lib.hid hnq
  have HNS := Lib.hid hns
  rw [hnq] at q1 q3 HT HL ⊢
  rw [hns] at s1 s3 ⊢
  generalize xc.length = n at *
  generalize xps.length = np at *
  have HT := Lib.hid HT
  have HL := Lib.hid HL
  have HRV := Lib.hid HRV
  have HSM := Lib.hid hsm
  have Q3 := Lib.hid q3
  have S3 := Lib.hid s3
  unfold maxLen at q2 s2
  clear q3 s3 hsm hnq hns
  go_enter Tryz.func84, Tryz.ntmps84
  go_wp2_with fail
  have H0 : Below w.heap.size w (w.alloc (.cells #[.slice oa n cap, .int .i64 xm, .int .i64 xa, .int .i64 xak, .int .i64 xan, .int .i64 xvk, .int .i64 xvn, .slice op np cp, .slice oq nq cq, .slice os ns cs] 58)) := by (repeat (first | (with_reducible refine Below.alloc ?_ ?_ _) | (with_reducible refine Below.setCell ?_ ?_ _) | (with_reducible refine Below.drew ?_) | (with_reducible exact Below.refl _ _) | (with_reducible refine Below.trans ?_ (Below.mono (by assumption) ?_)))) <;> (first | omega | (dsimp only; omega) | (simp; done) | (simp; omega) | (simp at *; omega))
  have zW : w.heap.size < ((w.alloc (.cells #[.slice oa n cap, .int .i64 xm, .int .i64 xa, .int .i64 xak, .int .i64 xan, .int .i64 xvk, .int .i64 xvn, .slice op np cp, .slice oq nq cq, .slice os ns cs] 58))).heap.size := by simp
  have x0 : ((w.alloc (.cells #[.slice oa n cap, .int .i64 xm, .int .i64 xa, .int .i64 xak, .int .i64 xan, .int .i64 xvk, .int .i64 xvn, .slice op np cp, .slice oq nq cq, .slice os ns cs] 58))).cell? ⟨w.heap.size, 0, none⟩ = some (.slice oa n cap) := by simp [go_sem]
  have x7 : ((w.alloc (.cells #[.slice oa n cap, .int .i64 xm, .int .i64 xa, .int .i64 xak, .int .i64 xan, .int .i64 xvk, .int .i64 xvn, .slice op np cp, .slice oq nq cq, .slice os ns cs] 58))).cell? ⟨w.heap.size, 7, none⟩ = some (.slice op np cp) := by simp [go_sem]
  have x8 : ((w.alloc (.cells #[.slice oa n cap, .int .i64 xm, .int .i64 xa, .int .i64 xak, .int .i64 xan, .int .i64 xvk, .int .i64 xvn, .slice op np cp, .slice oq nq cq, .slice os ns cs] 58))).cell? ⟨w.heap.size, 8, none⟩ = some (.slice oq nq cq) := by simp [go_sem]
  have x9 : ((w.alloc (.cells #[.slice oa n cap, .int .i64 xm, .int .i64 xa, .int .i64 xak, .int .i64 xan, .int .i64 xvk, .int .i64 xvn, .slice op np cp, .slice oq nq cq, .slice os ns cs] 58))).cell? ⟨w.heap.size, 9, none⟩ = some (.slice os ns cs) := by simp [go_sem]
  generalize (w.alloc (.cells #[.slice oa n cap, .int .i64 xm, .int .i64 xa, .int .i64 xak, .int .i64 xan, .int .i64 xvk, .int .i64 xvn, .slice op np cp, .slice oq nq cq, .slice os ns cs] 58)) = W at H0 x0 x7 x8 x9 zW ⊢
  have H0 := Lib.hid H0
  go_loopw [4] (fun i wr => ∃ k : Nat, k ≤ nq ∧ i = .int .i64 (k : Int) ∧ Hid (∀ j, j < k → fitPs xc nq (xqs.getD j []) = true) ∧ Below W.heap.size W wr) (fun i _ => nq - (intOf i).toNat)
  case atStart => exact ⟨0, Nat.zero_le _, rfl, Lib.hid (fun j hj => absurd hj (Nat.not_lt_zero _)), Below.refl _ _⟩
  case round =>
    obtain ⟨k, hk, rfl, hall, hB⟩ := hrel
    have HW := Lib.hid (H0.out.trans (hB.mono H0.out.size))
    have y0 := (hB.cell (p := ⟨w.heap.size, 0, none⟩) zW).trans x0
    have y7 := (hB.cell (p := ⟨w.heap.size, 7, none⟩) zW).trans x7
    have y8 := (hB.cell (p := ⟨w.heap.size, 8, none⟩) zW).trans x8
    have y9 := (hB.cell (p := ⟨w.heap.size, 9, none⟩) zW).trans x9
    have zr := Nat.lt_of_lt_of_le zW hB.size
    have HB := Lib.hid hB
    clear hB
    by_cases hlt : k < nq
    · obtain ⟨b, off, u, rfl, hb, hc, hP⟩ := Q3.out k hlt
      have y := (HW.out.cell (p := ⟨b, off + k, none⟩) hb).trans hc
      have cE := fun w1 (hb1 : Below wr.heap.size wr w1) => HT.out (xqs.getD k []) u w1 (HW.out.trans (hb1.mono HW.out.size)) ((hP.below HW.out).below hb1)
      obtain ⟨ou, cu, rfl, _⟩ := hP
      obtain ⟨t, ht⟩ : ∃ t, fitPs xc nq (xqs.getD k []) = t := ⟨_, rfl⟩
      rw [ht] at cE
      have HTT := Lib.hid ht
      generalize (xqs.getD k []).length = k1 at y cE
      have hk0 : (0 : Int) ≤ (k : Int) := by omega
      have hki : (k : Int) < (nq : Int) := by omega
      have y' := cell_regrown y
      have y0' := cell_regrown y0
      have y8' := cell_regrown y8
      have cE := fun q os => Calls.regrown_of (d := q) (os := os) (cE (grow (redrawn wr q) os) (below_regrown wr q os))
      clear hc ht hb y y0 y7 y8 y9 x0 x7 x8 x9
      go_wp2_with fail
      refine wp_region_quiet_below (by kernel_rfl) (by kernel_rfl) ?_
      repeat (go_big_quiet_step (first | (go_at_call 136; exact cE _ _)))
      refine wpQuiet_nil ?_
      intro _ hw'
      obtain ⟨⟨dq, osq⟩, hw''⟩ := hw'
      have HQ := below_regrown wr dq osq
      rw [← hw''] at HQ
      have HQ' := Lib.hid (HB.out.trans (HQ.mono HB.out.size))
      clear hw'' cE HQ y' y0' y8'
      cases t
      · go_wp2_with fail
        go_ret
        refine ⟨?_, H0.out.trans (HQ'.out.mono H0.out.size)⟩
        have e : fitQs xc nq xqs = false := by unfold fitQs; rw [allG_no (z := []) (by rw [HNQ.out]; exact hlt) HTT.out, Bool.and_false]
        rw [e]
        rfl
      · go_wp2_with fail
        go_roundw
        case rel =>
          refine ⟨k + 1, by omega, by go_num, Lib.hid (fun j hj => ?_), HQ'.out⟩
          by_cases e : j = k
          · subst e; exact HTT.out
          · exact hall.out j (by omega)
        case measure => simp [intOf]; omega
    · have hki : ¬ (k : Int) < (nq : Int) := by omega
      have hkn : k = nq := by omega
      have HQS := Lib.hid (show fitQs xc nq xqs = decide (nq ≤ 20) by unfold fitQs; rw [allG_yes (z := []) (fun j hj => hall.out j (by rw [HNQ.out] at hj; omega)), Bool.and_true, HNQ.out])
      clear hkn hall x0 x7 x8 x9
      go_wp2_with fail
      go_loopw [5] (fun i wt => ∃ j : Nat, j ≤ ns ∧ i = .int .i64 (j : Int) ∧ Hid (∀ m, m < j → rvOk (xsd.getD m ByteArray.empty).toList = true) ∧ Below wr.heap.size wr wt) (fun i _ => ns - (intOf i).toNat)
      case atStart => exact ⟨0, Nat.zero_le _, rfl, Lib.hid (fun j hj => absurd hj (Nat.not_lt_zero _)), Below.refl _ _⟩
      case round =>
        obtain ⟨j, hj, rfl, hall, hB⟩ := hrel
        have HW2 := Lib.hid (HW.out.trans (hB.mono HW.out.size))
        have v0 := (hB.cell (p := ⟨w.heap.size, 0, none⟩) zr).trans y0
        have v7 := (hB.cell (p := ⟨w.heap.size, 7, none⟩) zr).trans y7
        have v9 := (hB.cell (p := ⟨w.heap.size, 9, none⟩) zr).trans y9
        have HB2 := Lib.hid hB
        clear hB
        by_cases hlt : j < ns
        · obtain ⟨b, off, rfl, hb, hc⟩ := S3.out j hlt
          have y := (HW2.out.cell (p := ⟨b, off + j, none⟩) hb).trans hc
          have HR := Lib.hid (HRV.out (xsd.getD j ByteArray.empty) (HSM.out.2 j (by rw [HNS.out]; exact hlt)))
          obtain ⟨t, ht⟩ : ∃ t, rvOk (xsd.getD j ByteArray.empty).toList = t := ⟨_, rfl⟩
          rw [ht] at HR
          have HTT := Lib.hid ht
          generalize xsd.getD j ByteArray.empty = s at y HR
          have hk0 : (0 : Int) ≤ (j : Int) := by omega
          have hji : (j : Int) < (ns : Int) := by omega
          clear hc ht hb y0 y7 y8 y9
          go_wp2_with fail
          refine (HR.out _).mono ?_
          rintro e w1 ⟨rfl, hb1⟩
          have HB3 : Hid (Below wr.heap.size wr w1) := Lib.hid (by first | exact hb1 | exact (((Below.refl _ _).alloc (Nat.le_refl _) _).trans (hb1.mono (by simp))))
          have HB4 := Lib.hid (HB2.out.trans (HB3.out.mono HB2.out.size))
          clear hb1 y v0 v7 v9
          cases t
          · go_wp2_with fail
            go_ret
            refine ⟨?_, ?_⟩
            · have e : fitS xsd = false := by unfold fitS; rw [allG_no (z := ByteArray.empty) (f := fun s => rvOk s.toList) (by rw [HNS.out]; exact hlt) HTT.out, Bool.and_false]
              rw [e, Bool.and_false, Bool.false_and]
              rfl
            · have h := HW.out.trans (HB4.out.mono HW.out.size)
              first | exact h | exact h.alloc h.size _
          · go_wp2_with fail
            go_roundw
            case rel =>
              refine ⟨j + 1, by omega, by go_num, Lib.hid (fun m hm => ?_), ?_⟩
              · by_cases e : m = j
                · subst e; exact HTT.out
                · exact hall.out m (by omega)
              · have h := HB4.out
                first | exact h | exact h.alloc h.size _
            case measure => simp [intOf]; omega
        · have hji : ¬ (j : Int) < (ns : Int) := by omega
          have hjn : j = ns := by omega
          have HSS := Lib.hid (show fitS xsd = decide (ns ≤ 40) by unfold fitS; rw [allG_yes (z := ByteArray.empty) (f := fun s => rvOk s.toList) (fun m hm => hall.out m (by rw [HNS.out] at hm; omega)), Bool.and_true, HNS.out])
          clear hjn hall y0 y7 y8 y9
          by_cases h20 : nq ≤ 20
          · have h20i : (nq : Int) ≤ 20 := by omega
            by_cases h40 : ns ≤ 40
            · have h40i : (ns : Int) ≤ 40 := by omega
              have e : (fitQs xc nq xqs && fitS xsd && fitPs xc nq xps) = fitPs xc nq xps := by rw [HQS.out, HSS.out]; simp [h20, h40]
              have HL := Lib.hid (HL.out _ HW2.out)
              obtain ⟨tt, htt⟩ : ∃ tt, fitPs xc nq xps = tt := ⟨_, rfl⟩
              rw [htt] at HL
              have HE := Lib.hid (e.trans htt)
              clear e htt
              go_wp2_with fail
              refine HL.out.mono ?_
              rintro e w1 ⟨rfl, hb1⟩
              have HB3 := Lib.hid (HW2.out.trans (hb1.mono HW2.out.size))
              clear hb1 v0 v7 v9
              go_wp2_with fail
              go_ret
              exact ⟨by rw [HE.out]; rfl, HB3.out⟩
            · have h40i : ¬ (ns : Int) ≤ 40 := by omega
              have e : (fitQs xc nq xqs && fitS xsd && fitPs xc nq xps) = false := by rw [HSS.out]; simp [h40]
              have HE := Lib.hid e
              clear e
              go_wp2_with fail
              go_ret
              exact ⟨by rw [HE.out]; rfl, HW2.out⟩
          · have h20i : ¬ (nq : Int) ≤ 20 := by omega
            have e : (fitQs xc nq xqs && fitS xsd && fitPs xc nq xps) = false := by rw [HQS.out]; simp [h20]
            have HE := Lib.hid e
            clear e
            go_wp2_with fail
            go_ret
            exact ⟨by rw [HE.out]; rfl, HW2.out⟩

end L2
end Go.Proofs.YtmbonldiaimcfaaGreatDoor
