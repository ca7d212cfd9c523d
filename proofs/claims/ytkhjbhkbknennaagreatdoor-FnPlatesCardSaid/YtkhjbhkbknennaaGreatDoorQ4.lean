/-
  The laws' own comparing of lists of plates.
-/
import Derived.Test.YtkhjbhkbknennaaGreatDoorN4
namespace Go.Proofs.YtkhjbhkbknennaaGreatDoor
open Go.RowKit Go.Sort
namespace L2
open L1

set_option maxRecDepth 100000 in
set_option maxHeartbeats 2000000 in
theorem likePlates_any (v v' : Value) (ps qs : List Pl) (w : World) (hR : RowP w v ps) (hR' : RowP w v' qs) :
    Calls Tryz.prog 26 #[v, v'] w fun e w' => e = .returned (.bool (samePls ps qs)) ∧ Below w.heap.size w w' := by
  obtain ⟨oa, cap, rfl, h1, h2, h3⟩ := hR
  obtain ⟨oa', cap', rfl, h1', h2', h3'⟩ := hR'
  obtain ⟨n, hn⟩ : ∃ n, ps.length = n := ⟨_, rfl⟩
  obtain ⟨m, hm⟩ : ∃ m, qs.length = m := ⟨_, rfl⟩
  have HN := Lib.hid hn
  have HM := Lib.hid hm
  rw [hn] at h1 h3
  rw [hm] at h1' h3'
  unfold maxLen at h2 h2'
  by_cases hnm : n = m
  · subst hnm
    have H3 := Lib.hid h3
    have H3' := Lib.hid h3'
    clear hn hm h3 h3'
    rw [HN.out, HM.out]
    go_enter Tryz.func26, Tryz.ntmps26
    go_wp2_with fail
    go_loopw [5] (fun i wr => ∃ k : Nat, k ≤ n ∧ i = .int .i64 (k : Int) ∧ Hid (∀ j, j < k → samePl (ps.getD j p0) (qs.getD j p0) = true) ∧ Below w.heap.size w wr) (fun i _ => n - (intOf i).toNat)
    case atStart => exact ⟨0, Nat.zero_le _, rfl, Lib.hid (fun j hj => absurd hj (Nat.not_lt_zero _)), Below.refl _ _⟩
    case round =>
      obtain ⟨k, hk, rfl, hall, hB⟩ := hrel
      have HB := Lib.hid hB
      clear hB
      by_cases hlt : k < n
      · obtain ⟨b, off, rfl, hb, hc⟩ := H3.out k hlt
        obtain ⟨b', off', rfl, hb', hcc⟩ := H3'.out k hlt
        have hc1 := hc.below HB.out hb
        have hc2 := hcc.below HB.out hb'
        clear hc hcc
        obtain ⟨p, hp⟩ : ∃ p, ps.getD k p0 = p := ⟨_, rfl⟩
        obtain ⟨q, hq⟩ : ∃ q, qs.getD k p0 = q := ⟨_, rfl⟩
        rw [hp] at hc1
        rw [hq] at hc2
        have HP := Lib.hid hp
        have HQ := Lib.hid hq
        clear hp hq
        obtain ⟨pk, pa, pb, pc, pd, pe⟩ := p
        obtain ⟨qk, qa, qb, qc, qd, qe⟩ := q
        obtain ⟨x0, x1, x2, x3, x4, x5⟩ := hc1
        obtain ⟨y0, y1, y2, y3, y4, y5⟩ := hc2
        dsimp only at x0 x1 x2 x3 x4 x5 y0 y1 y2 y3 y4 y5
        have hk0 : (0 : Int) ≤ (k : Int) := by omega
        have hki : (k : Int) < (n : Int) := by omega
        go_wp2_with fail
        refine wp_region_quiet_lit (by kernel_rfl) (by kernel_rfl) ?_
        repeat (go_big_quiet_step (fail))
        refine wpQuiet_step (fun K hK => ?_)
        go_simp
        refine ⟨.bool (!samePl ⟨pk, pa, pb, pc, pd, pe⟩ ⟨qk, qa, qb, qc, qd, qe⟩), fun r => ?_, hK _ ?_⟩
        · by_cases q0 : pk = qk <;> by_cases q1 : pa = qa <;> by_cases q2 : pb = qb <;> by_cases q3 : pc = qc <;> by_cases q4 : pd = qd <;> by_cases q5 : pe = qe <;> simp [samePl, sameB, q0, q1, q2, q3, q4, q5]
        clear hK K
        refine wpQuiet_nil ?_
        intro _ hw'
        obtain ⟨nq, hw''⟩ := hw'
        have HB1 := Lib.hid (HB.out.grown (grown_draws wr nq none) HB.out.size (by simp))
        rw [← hw''] at HB1
        clear hw'' x0 x1 x2 x3 x4 x5 y0 y1 y2 y3 y4 y5
        obtain ⟨t, ht⟩ : ∃ t, samePl ⟨pk, pa, pb, pc, pd, pe⟩ ⟨qk, qa, qb, qc, qd, qe⟩ = t := ⟨_, rfl⟩
        rw [ht]
        have HT := Lib.hid ht
        clear ht
        cases t
        · go_wp2_with fail
          go_ret
          refine ⟨?_, HB1.out⟩
          rw [samePls_at (k := k) (by rw [HN.out]; exact hlt) (by rw [HP.out, HQ.out]; exact HT.out)]
          rfl
        · go_wp2_with fail
          go_roundw
          case rel =>
            refine ⟨k + 1, by omega, by go_num, Lib.hid (fun j hj => ?_), HB1.out⟩
            by_cases e : j = k
            · subst e; rw [HP.out, HQ.out]; exact HT.out
            · exact hall.out j (by omega)
          case measure => simp [intOf]; omega
      · have hki : ¬ (k : Int) < (n : Int) := by omega
        have hkn : k = n := by omega
        have HK := Lib.hid hkn
        clear hkn
        go_wp2_with fail
        go_ret
        refine ⟨?_, HB.out⟩
        rw [samePls_all (by rw [HN.out, HM.out]) (fun j hj => hall.out j (by rw [HK.out, ← HN.out]; exact hj))]
        rfl
  · have hd : ¬ (n : Int) = (m : Int) := by omega
    rw [samePls_len (by rw [hn, hm]; exact hnm)]
    rw [hn, hm]
    clear hn hm h3 h3' HN HM
    go_enter Tryz.func26, Tryz.ntmps26
    go_wp2_with fail
    go_ret
    exact ⟨rfl, Below.refl _ _⟩

end L2
end Go.Proofs.YtkhjbhkbknennaaGreatDoor
