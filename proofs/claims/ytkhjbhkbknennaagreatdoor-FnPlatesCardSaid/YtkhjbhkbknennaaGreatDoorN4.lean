/-
  Lists of plates: the program's own tests; both compared.
-/
import Derived.Test.YtkhjbhkbknennaaGreatDoorN3
namespace Go.Proofs.YtkhjbhkbknennaaGreatDoor
open Go.RowKit Go.Sort
namespace L2
open L1

theorem anyP_yes {ps : List Pl} {f : Pl → Bool} {k : Nat} (hk : k < ps.length) (h : f (ps.getD k p0) = true) : ps.any f = true := by
  rw [List.any_eq_true]
  exact ⟨ps[k], List.getElem_mem hk, by simpa [List.getD, hk] using h⟩
theorem anyP_no {ps : List Pl} {f : Pl → Bool} (h : ∀ j, j < ps.length → f (ps.getD j p0) = false) : ps.any f = false := by
  rw [List.any_eq_false]
  intro x hx
  obtain ⟨j, hj, rfl⟩ := List.mem_iff_getElem.1 hx
  have := h j hj
  simpa [List.getD, hj] using this
/-- What looking for a wrong plate leaves. -/
def WrongP (ps : List Pl) (w : World) (e : Ending) (w' : World) : Prop :=
  ∃ r : Int, e = .returned (.int .i64 r) ∧ decide (0 ≤ r) = (ps.any fun p => !okPl p) ∧ Below w.heap.size w w'

set_option maxRecDepth 100000 in
set_option maxHeartbeats 1000000 in
theorem indexFuncP_any (v : Value) (ps : List Pl) (w : World) (hR : RowP w v ps) :
    Calls Tryz.prog 106 #[v, .func (.func 69) #[] #[]] w (WrongP ps w) := by
  obtain ⟨oa, cap, rfl, h1, h2, h3⟩ := hR
  obtain ⟨n, hn⟩ : ∃ n, ps.length = n := ⟨_, rfl⟩
  have HN := Lib.hid hn
  rw [hn] at h1 h3 ⊢
  unfold maxLen at h2
  have H3 := Lib.hid h3
  clear hn h3
  go_enter Tryz.func106, Tryz.ntmps106
  go_wp2_with fail
  go_loopw [8] (fun i wr => ∃ k : Nat, k ≤ n ∧ i = .int .i64 (k : Int) ∧ Hid (∀ j, j < k → okPl (ps.getD j p0) = true) ∧ Below w.heap.size w wr) (fun i _ => n - (intOf i).toNat)
  case atStart => exact ⟨0, Nat.zero_le _, rfl, Lib.hid (by intro j hj; omega), Below.refl _ _⟩
  case round =>
    obtain ⟨k, hk, rfl, hall, hB⟩ := hrel
    have HB := Lib.hid hB
    clear hB
    by_cases hlt : k < n
    · obtain ⟨b, off, rfl, hb, hc⟩ := H3.out k hlt
      have hc1 := hc.below HB.out hb
      clear hc
      obtain ⟨p, hp⟩ : ∃ p, ps.getD k p0 = p := ⟨_, rfl⟩
      have HP := Lib.hid hp
      rw [hp] at hc1
      clear hp
      have HT := Lib.hid (isWrongPlate_any p)
      obtain ⟨t, ht⟩ : ∃ t, okPl p = t := ⟨_, rfl⟩
      rw [ht] at HT
      have HK := Lib.hid ht
      clear ht
      obtain ⟨pk, pa, pb, pc, pd, pe⟩ := p
      obtain ⟨x0, x1, x2, x3, x4, x5⟩ := hc1
      dsimp only at x0 x1 x2 x3 x4 x5
      unfold plV at HT
      have hki : (k : Int) < (n : Int) := by omega
      go_wp2_with fail
      refine (HT.out _).mono ?_
      rintro e w1 ⟨rfl, hb1⟩
      have HB1 := Lib.hid (HB.out.trans (hb1.mono HB.out.size))
      clear hb1 x0 x1 x2 x3 x4 x5
      cases t
      · have ha : (ps.any fun p => !okPl p) = true := anyP_yes (f := fun p => !okPl p) (k := k) (by rw [HN.out]; exact hlt) (by show (!okPl (ps.getD k p0)) = true; rw [HP.out, HK.out]; rfl)
        have HA := Lib.hid ha
        clear ha
        go_wp2_with fail
        go_ret
        exact ⟨_, rfl, by rw [HA.out]; simp, HB1.out⟩
      · go_wp2_with fail
        go_roundw
        case rel =>
          refine ⟨k + 1, by omega, by go_num, Lib.hid (fun j hj => ?_), HB1.out⟩
          by_cases e : j = k
          · subst e; rw [HP.out]; exact HK.out
          · exact hall.out j (by omega)
        case measure => simp [intOf]; omega
    · have hki : ¬ (k : Int) < (n : Int) := by omega
      have ha : (ps.any fun p => !okPl p) = false := anyP_no (f := fun p => !okPl p) (fun j hj => by show (!okPl (ps.getD j p0)) = false; rw [hall.out j (by rw [HN.out] at hj; omega)]; rfl)
      have HA := Lib.hid ha
      clear ha
      go_wp2_with fail
      go_ret
      exact ⟨_, rfl, by rw [HA.out]; rfl, HB.out⟩

theorem containsFuncP_any (v : Value) (ps : List Pl) (w : World) (hR : RowP w v ps) :
    Calls Tryz.prog 68 #[v, .func (.func 69) #[] #[]] w fun e w' => e = .returned (.bool (ps.any fun p => !okPl p)) ∧ Below w.heap.size w w' := by
  have H := Lib.hid (indexFuncP_any v ps w hR)
  clear hR
  go_enter Tryz.func68, Tryz.ntmps68
  go_wp2_with fail
  refine H.out.mono ?_
  rintro e w1 ⟨r, rfl, hr, hb⟩
  have Hr := Lib.hid hr
  have HB := Lib.hid hb
  clear hr hb
  go_wp2
  go_ret
  exact ⟨by rw [← Hr.out]; rfl, HB.out⟩
theorem okPls_any (ps : List Pl) : okPls ps = (decide (ps.length ≤ 60) && !(ps.any fun p => !okPl p)) := by
  unfold okPls
  congr 1
  induction ps with
  | nil => rfl
  | cons a r ih => simp only [List.all_cons, List.any_cons, ih, Bool.not_or, Bool.not_not]

set_option maxRecDepth 100000 in
theorem implPlatesOk_any (v : Value) (ps : List Pl) (w : World) (hR : RowP w v ps) :
    Calls Tryz.prog 23 #[v] w fun e w' => e = .returned (.bool (okPls ps)) ∧ Below w.heap.size w w' := by
  have H := Lib.hid (containsFuncP_any v ps w hR)
  have HE := Lib.hid (okPls_any ps)
  obtain ⟨oa, cap, rfl, h1, h2, -⟩ := hR
  obtain ⟨n, hn⟩ : ∃ n, ps.length = n := ⟨_, rfl⟩
  rw [hn] at h1 H HE ⊢
  unfold maxLen at h2
  generalize (ps.any fun p => !okPl p) = t at H HE
  clear hn
  by_cases h60 : n ≤ 60
  · have h60i : (n : Int) ≤ 60 := by omega
    have HF := Lib.hid (HE.out.trans (show _ = !t by simp [h60]))
    go_enter Tryz.func23, Tryz.ntmps23
    go_wp2_with (first | (go_at_call 68; refine H.out.mono ?_; rintro e w1 ⟨rfl, hb1⟩))
    go_ret
    exact ⟨by rw [HF.out]; rfl, hb1⟩
  · have h60i : ¬ (n : Int) ≤ 60 := by omega
    have HF := Lib.hid (HE.out.trans (show _ = false by simp [h60]))
    go_enter Tryz.func23, Tryz.ntmps23
    go_wp2_with fail
    go_ret
    exact ⟨by rw [HF.out]; rfl, Below.refl _ _⟩

/-- Are they as many, and each the same? -/
def samePls (ps qs : List Pl) : Bool := decide (ps.length = qs.length) && (List.range ps.length).all fun i => samePl (ps.getD i p0) (qs.getD i p0)
theorem samePls_len {ps qs : List Pl} (h : ¬ ps.length = qs.length) : samePls ps qs = false := by unfold samePls; simp [h]
theorem samePls_at {ps qs : List Pl} {k : Nat} (hk : k < ps.length) (h : samePl (ps.getD k p0) (qs.getD k p0) = false) : samePls ps qs = false := by
  unfold samePls
  have : ((List.range ps.length).all fun i => samePl (ps.getD i p0) (qs.getD i p0)) = false := by
    rw [List.all_eq_false]
    exact ⟨k, by simpa using hk, by simpa using h⟩
  rw [this, Bool.and_false]
theorem samePls_all {ps qs : List Pl} (hl : ps.length = qs.length) (h : ∀ k, k < ps.length → samePl (ps.getD k p0) (qs.getD k p0) = true) : samePls ps qs = true := by
  unfold samePls
  simp only [hl, decide_true, Bool.true_and, List.all_eq_true, List.mem_range]
  exact fun k hk => h k (by omega)

theorem grown_draws (w : World) (k : Nat) (row : Option Nat) : w.grownBy (w.drewN k) row := ⟨rfl, rfl, rfl, Nat.le_refl _, fun _ _ _ => rfl⟩
set_option maxRecDepth 100000 in
set_option maxHeartbeats 2000000 in
theorem slicesEqualP_any (v v' : Value) (ps qs : List Pl) (w : World) (hR : RowP w v ps) (hR' : RowP w v' qs) :
    Calls Tryz.prog 70 #[v, v'] w fun e w' => e = .returned (.bool (samePls ps qs)) ∧ Below w.heap.size w w' := by
  obtain ⟨oa, cap, rfl, h1, h2, h3⟩ := hR
  obtain ⟨oa', cap', rfl, h1', h2', h3'⟩ := hR'
  obtain ⟨n, hn⟩ : ∃ n, ps.length = n := ⟨_, rfl⟩
  obtain ⟨m, hm⟩ : ∃ m, qs.length = m := ⟨_, rfl⟩
  have HN := Lib.hid hn
  have HM := Lib.hid hm
  rw [hn] at h1 h3
  rw [hm] at h1' h3'
  unfold maxLen at h2 h2'
  by_cases hnm : n = m
  · subst hnm
    have H3 := Lib.hid h3
    have H3' := Lib.hid h3'
    clear hn hm h3 h3'
    rw [HN.out, HM.out]
    go_enter Tryz.func70, Tryz.ntmps70
    go_wp2_with fail
    go_loopw [13] (fun i wr => ∃ k : Nat, k ≤ n ∧ i = .int .i64 (k : Int) ∧ Hid (∀ j, j < k → samePl (ps.getD j p0) (qs.getD j p0) = true) ∧ Below w.heap.size w wr) (fun i _ => n - (intOf i).toNat)
    case atStart => exact ⟨0, Nat.zero_le _, rfl, Lib.hid (fun j hj => absurd hj (Nat.not_lt_zero _)), Below.refl _ _⟩
    case round =>
      obtain ⟨k, hk, rfl, hall, hB⟩ := hrel
      have HB := Lib.hid hB
      clear hB
      by_cases hlt : k < n
      · obtain ⟨b, off, rfl, hb, hc⟩ := H3.out k hlt
        obtain ⟨b', off', rfl, hb', hcc⟩ := H3'.out k hlt
        have hc1 := hc.below HB.out hb
        have hc2 := hcc.below HB.out hb'
        clear hc hcc
        obtain ⟨p, hp⟩ : ∃ p, ps.getD k p0 = p := ⟨_, rfl⟩
        obtain ⟨q, hq⟩ : ∃ q, qs.getD k p0 = q := ⟨_, rfl⟩
        rw [hp] at hc1
        rw [hq] at hc2
        have HP := Lib.hid hp
        have HQ := Lib.hid hq
        clear hp hq
        obtain ⟨pk, pa, pb, pc, pd, pe⟩ := p
        obtain ⟨qk, qa, qb, qc, qd, qe⟩ := q
        obtain ⟨x0, x1, x2, x3, x4, x5⟩ := hc1
        obtain ⟨y0, y1, y2, y3, y4, y5⟩ := hc2
        dsimp only at x0 x1 x2 x3 x4 x5 y0 y1 y2 y3 y4 y5
        have hk0 : (0 : Int) ≤ (k : Int) := by omega
        have hki : (k : Int) < (n : Int) := by omega
        go_wp2_with fail
        refine wp_region_quiet_lit (by kernel_rfl) (by kernel_rfl) ?_
        repeat (go_big_quiet_step (fail))
        refine wpQuiet_step (fun K hK => ?_)
        go_simp
        refine ⟨.bool (!samePl ⟨pk, pa, pb, pc, pd, pe⟩ ⟨qk, qa, qb, qc, qd, qe⟩), fun r => ?_, hK _ ?_⟩
        · by_cases q0 : pk = qk <;> by_cases q1 : pa = qa <;> by_cases q2 : pb = qb <;> by_cases q3 : pc = qc <;> by_cases q4 : pd = qd <;> by_cases q5 : pe = qe <;> simp [samePl, sameB, q0, q1, q2, q3, q4, q5]
        clear hK K
        refine wpQuiet_nil ?_
        intro _ hw'
        obtain ⟨nq, hw''⟩ := hw'
        have HB1 := Lib.hid (HB.out.grown (grown_draws wr nq none) HB.out.size (by simp))
        rw [← hw''] at HB1
        clear hw'' x0 x1 x2 x3 x4 x5 y0 y1 y2 y3 y4 y5
        obtain ⟨t, ht⟩ : ∃ t, samePl ⟨pk, pa, pb, pc, pd, pe⟩ ⟨qk, qa, qb, qc, qd, qe⟩ = t := ⟨_, rfl⟩
        rw [ht]
        have HT := Lib.hid ht
        clear ht
        cases t
        · go_wp2_with fail
          go_ret
          refine ⟨?_, HB1.out⟩
          rw [samePls_at (k := k) (by rw [HN.out]; exact hlt) (by rw [HP.out, HQ.out]; exact HT.out)]
          rfl
        · go_wp2_with fail
          go_roundw
          case rel =>
            refine ⟨k + 1, by omega, by go_num, Lib.hid (fun j hj => ?_), HB1.out⟩
            by_cases e : j = k
            · subst e; rw [HP.out, HQ.out]; exact HT.out
            · exact hall.out j (by omega)
          case measure => simp [intOf]; omega
      · have hki : ¬ (k : Int) < (n : Int) := by omega
        have hkn : k = n := by omega
        have HK := Lib.hid hkn
        clear hkn
        go_wp2_with fail
        go_ret
        refine ⟨?_, HB.out⟩
        rw [samePls_all (by rw [HN.out, HM.out]) (fun j hj => hall.out j (by rw [HK.out, ← HN.out]; exact hj))]
        rfl
  · have hd : ¬ (n : Int) = (m : Int) := by omega
    rw [samePls_len (by rw [hn, hm]; exact hnm)]
    rw [hn, hm]
    clear hn hm h3 h3' HN HM
    go_enter Tryz.func70, Tryz.ntmps70
    go_wp2_with fail
    go_ret
    exact ⟨rfl, Below.refl _ _⟩

theorem implSamePlates_any (v v' : Value) (ps qs : List Pl) (w : World) (hR : RowP w v ps) (hR' : RowP w v' qs) :
    Calls Tryz.prog 25 #[v, v'] w fun e w' => e = .returned (.bool (samePls ps qs)) ∧ Below w.heap.size w w' := by
  have H := Lib.hid (slicesEqualP_any v v' ps qs w hR hR')
  clear hR hR'
  generalize samePls ps qs = t at H ⊢
  go_enter Tryz.func25, Tryz.ntmps25
  go_wp2_with fail
  refine H.out.mono ?_
  rintro e w1 ⟨rfl, hb1⟩
  go_wp2_with fail
  go_ret
  exact ⟨rfl, hb1⟩

end L2
end Go.Proofs.YtkhjbhkbknennaaGreatDoor
