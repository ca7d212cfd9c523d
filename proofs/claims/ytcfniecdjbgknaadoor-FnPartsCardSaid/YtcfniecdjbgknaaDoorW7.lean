/-
  The program's reader of one sum: its walk.
-/
import Derived.Test.YtcfniecdjbgknaaDoorW6
namespace Go.Proofs.YtcfniecdjbgknaaDoor
open Go.RowKit
namespace L2
open S1 L1

theorem needs_nat {l : List UInt8} (h : okW l = true) : ∃ k : Nat, needs l = (k : Int) ∧ k ≤ 3 ∧ (needs l).toNat = k := by
  have h0 : 0 ≤ needs l := of_decide_eq_true h
  have := needs_bd l
  exact ⟨(needs l).toNat, by omega, by omega, rfl⟩

set_option maxRecDepth 100000 in
set_option maxHeartbeats 8000000 in
theorem wordsOfFirst_any (v : Value) (ss : List ByteArray) (w : World) (hR : Row w v ss) (hn : ss.length ≤ 60) (hz : ∀ i, i < ss.length → (ss.getD i ByteArray.empty).size ≤ 1048576) (hV : Vars w) :
    Calls Tryd.prog 82 #[v] w fun e w' => e = .returned (.int .i64 (cntI (wsOf ss))) ∧ Below w.heap.size w w' := by
  obtain ⟨oa, cap, rfl, h1, h2, h3⟩ := hR
  obtain ⟨n, hnn⟩ : ∃ n, ss.length = n := ⟨_, rfl⟩
  have HL := Lib.hid hnn
  have HW := Lib.hid (ws_len ss)
  have H3 := Lib.hid h3
  have HV := Lib.hid hV
  have Hz := Lib.hid hz
  rw [hnn] at h1 hn ⊢
  clear h3 hV hz hnn
  unfold maxLen at h2
  go_enter Tryd.func82, Tryd.ntmps82
  go_wp2_with fail
  refine Jumps.scope_labels_first (Lbl (.slice oa n cap) ss w) (mu n) ?_ ?_
  · intro l a w1 hJ
    obtain ⟨hB, read, m, r, x, u1, u5, u6, u7, u8, u9, u10, u11, u12, u13, u14, u15, u16, u17, u18, u19, u20, u21, u22, u23, u24, u25, u26, u27, u28, u29, u30, u31, u32, u33, u34, u35, u36, u37, u38, u39, u40, u41, u42, u43, u44, u45, u46, u47, u48, u49, rfl, rfl, rfl, hr, hm, hrel⟩ := hJ
    rw [HL.out] at hr
    have HB := Lib.hid hB
    have hl : l = 0 ∨ l = 1 ∨ l = 2 := by
      rcases hrel with ⟨h, _⟩ | ⟨h, _⟩ | ⟨h, _⟩
      · exact Or.inl h
      · exact Or.inr (Or.inl h)
      · exact Or.inr (Or.inr h)
    have HRel := Lib.hid hrel
    clear hrel hB
    rcases hl with rfl | rfl | rfl
    · refine ⟨_, rfl, ?_⟩
      cases m with
      | zero =>
        go_wp2_with fail
        try simp only [Jumps.ways]
        go_ret
        exact ⟨by rw [rel_end HRel.out]; rfl, HB.out⟩
      | succ m =>
        have hne : (((m + 1 : Nat) : Int) == 0) = false := by simp; omega
        have hne' : (((m : Int) + 1) == 0) = false := by simp; omega
        by_cases hrd : read < n
        · have hq : ((read : Int) == (n : Int)) = false := by simp; omega
          have hri : (read : Int) < (n : Int) := by omega
          obtain ⟨b, off, rfl, hb, hc⟩ := H3.out read (by rw [HL.out]; exact hrd)
          have hzs := Hz.out read (by rw [HL.out]; exact hrd)
          have hws := ws_get (ss := ss) (i := read) (by rw [HL.out]; exact hrd)
          obtain ⟨s, hs⟩ : ∃ s, ss.getD read ByteArray.empty = s := ⟨_, rfl⟩
          rw [hs] at hc hzs hws
          have Hws := Lib.hid hws
          clear hs hws
          have hc1 := (HB.out.cell (p := ⟨b, off + read, none⟩) hb).trans hc
          have HC := Lib.hid hc
          clear hc
          go_wp2_with fail
          refine (implWordOk_any s (by omega) _ (HV.out.later HB.out)).mono ?_
          rintro e w2 ⟨rfl, hb2⟩
          have HB2 := Lib.hid (HB.out.trans (hb2.mono HB.out.size))
          clear hb2 hc1
          have hc2 := (HB2.out.cell (p := ⟨b, off + read, none⟩) hb).trans HC.out
          cases hk : okW s.toList
          · have HX : Hid (Rel (wsOf ss) 1 read (m + 1)) := Lib.hid (rel_bad HRel.out Hws.out hk)
            clear hk
            go_wp2_with fail
            go_step3
            exact ⟨⟨HB2.out, read, m + 1, _, _, _, _, _, _, _, _, _, _, _, _, _, _, _, _, _, _, _, _, _, _, _, _, _, _, _, _, _, _, _, _, _, _, _, _, _, _, _, _, _, _, _, _, _, _, _, _, rfl, rfl, rfl, by rw [HL.out]; omega, by omega, HX.out⟩, by simp [mu, intOf]; omega⟩
          · obtain ⟨kd, hkd, hk3, hkn⟩ := needs_nat hk
            have hcn := implNeeds_any s (by omega) w2 (HV.out.later HB2.out)
            rw [hkd] at hcn
            have Hcn := Lib.hid hcn
            have HR0 := Lib.hid (fun hbw => rel_next HRel.out Hws.out hk hbw)
            have HR2 := Lib.hid (fun hbw => rel_bind HRel.out Hws.out hk hbw)
            rw [hkn] at HR0 HR2
            clear hk hkd hkn hcn
            go_wp2_with fail
            refine Hcn.out.mono ?_
            rintro e w3 ⟨rfl, hb3⟩
            have HB3 := Lib.hid (HB2.out.trans (hb3.mono HB2.out.size))
            clear hb3 hc2
            have hc3 := (HB3.out.cell (p := ⟨b, off + read, none⟩) hb).trans HC.out
            go_wp2_with fail
            refine (isOfBound_any s _).mono ?_
            rintro e w4 ⟨rfl, rfl⟩
            cases hbw : bindW s.toList
            · have HX := Lib.hid (HR0.out hbw)
              clear hbw HR0 HR2
              go_wp2_with fail
              go_step3
              exact ⟨⟨HB3.out, read + 1, kd + m, _, _, _, _, _, _, _, _, _, _, _, _, _, _, _, _, _, _, _, _, _, _, _, _, _, _, _, _, _, _, _, _, _, _, _, _, _, _, _, _, _, _, _, _, _, _, _, _, rfl, by omega, by omega, by rw [HL.out]; omega, by omega, HX.out⟩, by simp [mu, intOf]; omega⟩
            · have HX := Lib.hid (HR2.out hbw)
              clear hbw HR0 HR2
              go_wp2_with fail
              go_step3
              exact ⟨⟨HB3.out, read + 1, kd + m, _, _, _, _, _, _, _, _, _, _, _, _, _, _, _, _, _, _, _, _, _, _, _, _, _, _, _, _, _, _, _, _, _, _, _, _, _, _, _, _, _, _, _, _, _, _, _, _, rfl, by omega, by omega, by rw [HL.out]; omega, by omega, HX.out⟩, by simp [mu, intOf]; omega⟩
        · have hq : ((read : Int) == (n : Int)) = true := by simp; omega
          have HX : Hid (Rel (wsOf ss) 1 read (m + 1)) := Lib.hid (rel_far HRel.out (by rw [HW.out, HL.out]; omega))
          go_wp2_with fail
          go_step3
          exact ⟨⟨HB.out, read, m + 1, _, _, _, _, _, _, _, _, _, _, _, _, _, _, _, _, _, _, _, _, _, _, _, _, _, _, _, _, _, _, _, _, _, _, _, _, _, _, _, _, _, _, _, _, _, _, _, _, rfl, rfl, rfl, by rw [HL.out]; omega, by omega, HX.out⟩, by simp [mu, intOf]; omega⟩
    · refine ⟨_, rfl, ?_⟩
      go_wp2_with fail
      try simp only [Jumps.ways]
      go_ret
      exact ⟨by rw [rel_none HRel.out]; rfl, HB.out⟩
    · refine ⟨_, rfl, ?_⟩
      by_cases hrd : read < n
      · have hq : ((read : Int) == (n : Int)) = false := by simp; omega
        have hri : (read : Int) < (n : Int) := by omega
        obtain ⟨b, off, rfl, hb, hc⟩ := H3.out read (by rw [HL.out]; exact hrd)
        have hzs := Hz.out read (by rw [HL.out]; exact hrd)
        have hws := ws_get (ss := ss) (i := read) (by rw [HL.out]; exact hrd)
        obtain ⟨s, hs⟩ : ∃ s, ss.getD read ByteArray.empty = s := ⟨_, rfl⟩
        rw [hs] at hc hzs hws
        have Hws := Lib.hid hws
        clear hs hws
        have hc1 := (HB.out.cell (p := ⟨b, off + read, none⟩) hb).trans hc
        clear hc
        go_wp2_with fail
        refine (isBoundNumber_any s (by omega) _ (HV.out.later HB.out)).mono ?_
        rintro e w2 ⟨rfl, hb2⟩
        have HB2 := Lib.hid (HB.out.trans (hb2.mono HB.out.size))
        clear hb2 hc1
        cases hk : nameW s.toList
        · have HX : Hid (Rel (wsOf ss) 1 read m) := Lib.hid (rel_bad2 HRel.out Hws.out hk)
          clear hk
          go_wp2_with fail
          go_step3
          exact ⟨⟨HB2.out, read, m, _, _, _, _, _, _, _, _, _, _, _, _, _, _, _, _, _, _, _, _, _, _, _, _, _, _, _, _, _, _, _, _, _, _, _, _, _, _, _, _, _, _, _, _, _, _, _, _, rfl, rfl, rfl, by rw [HL.out]; omega, by omega, HX.out⟩, by simp [mu, intOf]; omega⟩
        · have HX := Lib.hid (rel_next2 HRel.out Hws.out hk)
          clear hk
          go_wp2_with fail
          go_step3
          exact ⟨⟨HB2.out, read + 1, m, _, _, _, _, _, _, _, _, _, _, _, _, _, _, _, _, _, _, _, _, _, _, _, _, _, _, _, _, _, _, _, _, _, _, _, _, _, _, _, _, _, _, _, _, _, _, _, _, rfl, by omega, by omega, by rw [HL.out]; omega, by omega, HX.out⟩, by simp [mu, intOf]; omega⟩
      · have hq : ((read : Int) == (n : Int)) = true := by simp; omega
        have HX : Hid (Rel (wsOf ss) 1 read m) := Lib.hid (rel_far2 HRel.out (by rw [HW.out, HL.out]; omega))
        go_wp2_with fail
        go_step3
        exact ⟨⟨HB.out, read, m, _, _, _, _, _, _, _, _, _, _, _, _, _, _, _, _, _, _, _, _, _, _, _, _, _, _, _, _, _, _, _, _, _, _, _, _, _, _, _, _, _, _, _, _, _, _, _, _, rfl, rfl, rfl, by rw [HL.out]; omega, by omega, HX.out⟩, by simp [mu, intOf]; omega⟩
  · intro hp
    have HP := Lib.hid hp
    clear hp
    go_wp2_with fail
    go_step3
    rename_i K hK
    refine hK _ _ ?_
    obtain ⟨rest, hr, hw⟩ := HP.out 0 _ _ ⟨Below.refl _ _, 0, 1, _, _, undef, undef, undef, undef, undef, undef, undef, undef, undef, undef, undef, undef, undef, undef, undef, undef, undef, undef, undef, undef, undef, undef, undef, undef, undef, undef, undef, undef, undef, undef, undef, undef, undef, undef, undef, undef, undef, undef, undef, undef, undef, undef, undef, undef, undef, undef, rfl, rfl, rfl, Nat.zero_le _, by omega, Or.inl ⟨rfl, rfl⟩⟩
    have he := Option.some.inj (hr.symm.trans rfl)
    injection he with _ he
    rw [he] at hw
    exact hw

end L2
end Go.Proofs.YtcfniecdjbgknaaDoor
