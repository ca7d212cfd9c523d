/-
  Meanings held against each other: the model's own and the program's; lists of words compared whatever they are.
-/
import Derived.Test.YtkhjbhkbknennaaGreatDoorGW
import Derived.Lib.Strings
namespace Go.Proofs.YtkhjbhkbknennaaGreatDoor
open Go.RowKit
namespace L2
open L1

/-- Are they as many, and each the same? -/
def sameO (ss tt : List ByteArray) : Bool := decide (ss.length = tt.length) && (List.range ss.length).all fun i => (ss.getD i ByteArray.empty).toList == (tt.getD i ByteArray.empty).toList
theorem same_len {ss tt : List ByteArray} (h : ¬ ss.length = tt.length) : sameO ss tt = false := by unfold sameO; simp [h]
theorem same_at {ss tt : List ByteArray} {k : Nat} (hk : k < ss.length) (h : ((ss.getD k ByteArray.empty).toList == (tt.getD k ByteArray.empty).toList) = false) : sameO ss tt = false := by
  unfold sameO
  have : ((List.range ss.length).all fun i => (ss.getD i ByteArray.empty).toList == (tt.getD i ByteArray.empty).toList) = false := by
    rw [List.all_eq_false]
    exact ⟨k, by simpa using hk, by simpa using h⟩
  rw [this, Bool.and_false]
theorem same_all {ss tt : List ByteArray} (hl : ss.length = tt.length) (h : ∀ k, k < ss.length → ((ss.getD k ByteArray.empty).toList == (tt.getD k ByteArray.empty).toList) = true) : sameO ss tt = true := by
  unfold sameO
  simp only [hl, decide_true, Bool.true_and, List.all_eq_true, List.mem_range]
  exact fun k hk => h k (by omega)
theorem same_refl (ss : List ByteArray) : sameO ss ss = true := same_all rfl fun _ _ => by simp
theorem same_eq {ss tt : List ByteArray} (h : sameO ss tt = true) : ss = tt := by
  unfold sameO at h
  simp only [Bool.and_eq_true, decide_eq_true_eq, List.all_eq_true, List.mem_range, beq_iff_eq] at h
  obtain ⟨hl, ha⟩ := h
  apply List.ext_getElem hl
  intro i h1 h2
  have := ha i h1
  simp only [List.getD, List.getElem?_eq_getElem h1, List.getElem?_eq_getElem h2, Option.getD_some] at this
  have e : ∀ (a : ByteArray), a = ⟨a.toList.toArray⟩ := fun a => by rw [Lib.toList_data]
  rw [e ss[i], e tt[i], this]

set_option maxRecDepth 100000 in
set_option maxHeartbeats 2000000 in
theorem l1SameTexts_any (v v' : Value) (ss tt : List ByteArray) (w : World) (hR : Row w v ss) (hR' : Row w v' tt) :
    Calls Tryz.prog 44 #[v, v'] w fun e w' => e = .returned (.bool (sameO ss tt)) ∧ Below w.heap.size w w' := by
  obtain ⟨oa, cap, rfl, h1, h2, h3⟩ := hR
  obtain ⟨oa', cap', rfl, h1', h2', h3'⟩ := hR'
  obtain ⟨n, hn⟩ : ∃ n, ss.length = n := ⟨_, rfl⟩
  obtain ⟨m, hm⟩ : ∃ m, tt.length = m := ⟨_, rfl⟩
  have HN := Lib.hid hn
  have HM := Lib.hid hm
  rw [hn] at h1 h3
  rw [hm] at h1' h3'
  unfold maxLen at h2 h2'
  by_cases hnm : n = m
  · subst hnm
    have H3 := Lib.hid h3
    have H3' := Lib.hid h3'
    clear hn hm h3 h3'
    rw [HN.out, HM.out]
    go_enter Tryz.func44, Tryz.ntmps44
    go_wp2
    go_loopw [5] (fun i wr => ∃ k : Nat, k ≤ n ∧ i = .int .i64 (k : Int) ∧ (∀ j, j < k → ((ss.getD j ByteArray.empty).toList == (tt.getD j ByteArray.empty).toList) = true) ∧ Below w.heap.size w wr) (fun i _ => n - (intOf i).toNat)
    case atStart => exact ⟨0, Nat.zero_le _, rfl, fun j hj => absurd hj (Nat.not_lt_zero _), Below.refl _ _⟩
    case round =>
      obtain ⟨k, hk, rfl, hall, hB⟩ := hrel
      have HB := Lib.hid hB
      have HA := Lib.hid hall
      clear hB hall
      by_cases hlt : k < n
      · obtain ⟨b, off, rfl, hb, hc⟩ := H3.out k hlt
        obtain ⟨b', off', rfl, hb', hcc⟩ := H3'.out k hlt
        have hc1 := (HB.out.cell (p := ⟨b, off + k, none⟩) hb).trans hc
        have hc2 := (HB.out.cell (p := ⟨b', off' + k, none⟩) hb').trans hcc
        clear hc hcc
        obtain ⟨s, hs2⟩ : ∃ s, ss.getD k ByteArray.empty = s := ⟨_, rfl⟩
        obtain ⟨t, ht2⟩ : ∃ t, tt.getD k ByteArray.empty = t := ⟨_, rfl⟩
        rw [hs2] at hc1
        rw [ht2] at hc2
        have HS := Lib.hid hs2
        have HT := Lib.hid ht2
        clear hs2 ht2
        have hk0 : (0 : Int) ≤ (k : Int) := by omega
        have hki : (k : Int) < (n : Int) := by omega
        cases hx : (s.toList == t.toList)
        · go_wp2
          go_quiet (fail)
          go_wp2
          go_ret
          refine ⟨?_, by first | exact HB.out | exact HB.out.drew | exact HB.out.grown (D.grown_draws _ _ none) HB.out.size (by simp)⟩
          rw [same_at (by rw [HN.out]; exact hlt) (by rw [HS.out, HT.out]; exact hx)]
          rfl
        · go_wp2
          go_quiet (fail)
          go_wp2
          go_roundw
          case rel =>
            refine ⟨k + 1, by omega, by go_num, fun j hj => ?_, by first | exact HB.out | exact HB.out.drew | exact HB.out.grown (D.grown_draws _ _ none) HB.out.size (by simp)⟩
            by_cases e : j = k
            · subst e; rw [HS.out, HT.out]; exact hx
            · exact HA.out j (by omega)
          case measure => simp [intOf]; omega
      · have hki : ¬ (k : Int) < (n : Int) := by omega
        have hkn : k = n := by omega
        have HK := Lib.hid hkn
        clear hkn
        go_wp2
        go_ret
        refine ⟨?_, HB.out⟩
        rw [same_all (by rw [HN.out, HM.out]) (fun j hj => HA.out j (by rw [HK.out, ← HN.out]; exact hj))]
        rfl
  · have hd : ¬ (n : Int) = (m : Int) := by omega
    rw [same_len (by rw [hn, hm]; exact hnm)]
    rw [hn, hm]
    clear hn hm h3 h3' HN HM
    go_enter Tryz.func44, Tryz.ntmps44
    go_wp2
    go_ret
    exact ⟨rfl, Below.refl _ _⟩

set_option maxRecDepth 100000 in
set_option maxHeartbeats 2000000 in
theorem slicesEqual_any (v v' : Value) (ss tt : List ByteArray) (w : World) (hR : Row w v ss) (hR' : Row w v' tt) :
    Calls Tryz.prog 43 #[v, v'] w fun e w' => e = .returned (.bool (sameO ss tt)) ∧ Below w.heap.size w w' := by
  obtain ⟨oa, cap, rfl, h1, h2, h3⟩ := hR
  obtain ⟨oa', cap', rfl, h1', h2', h3'⟩ := hR'
  obtain ⟨n, hn⟩ : ∃ n, ss.length = n := ⟨_, rfl⟩
  obtain ⟨m, hm⟩ : ∃ m, tt.length = m := ⟨_, rfl⟩
  have HN := Lib.hid hn
  have HM := Lib.hid hm
  rw [hn] at h1 h3
  rw [hm] at h1' h3'
  unfold maxLen at h2 h2'
  by_cases hnm : n = m
  · subst hnm
    have H3 := Lib.hid h3
    have H3' := Lib.hid h3'
    clear hn hm h3 h3'
    rw [HN.out, HM.out]
    go_enter Tryz.func43, Tryz.ntmps43
    go_wp2
    go_loopw [13] (fun i wr => ∃ k : Nat, k ≤ n ∧ i = .int .i64 (k : Int) ∧ (∀ j, j < k → ((ss.getD j ByteArray.empty).toList == (tt.getD j ByteArray.empty).toList) = true) ∧ Below w.heap.size w wr) (fun i _ => n - (intOf i).toNat)
    case atStart => exact ⟨0, Nat.zero_le _, rfl, fun j hj => absurd hj (Nat.not_lt_zero _), Below.refl _ _⟩
    case round =>
      obtain ⟨k, hk, rfl, hall, hB⟩ := hrel
      have HB := Lib.hid hB
      have HA := Lib.hid hall
      clear hB hall
      by_cases hlt : k < n
      · obtain ⟨b, off, rfl, hb, hc⟩ := H3.out k hlt
        obtain ⟨b', off', rfl, hb', hcc⟩ := H3'.out k hlt
        have hc1 := (HB.out.cell (p := ⟨b, off + k, none⟩) hb).trans hc
        have hc2 := (HB.out.cell (p := ⟨b', off' + k, none⟩) hb').trans hcc
        clear hc hcc
        obtain ⟨s, hs2⟩ : ∃ s, ss.getD k ByteArray.empty = s := ⟨_, rfl⟩
        obtain ⟨t, ht2⟩ : ∃ t, tt.getD k ByteArray.empty = t := ⟨_, rfl⟩
        rw [hs2] at hc1
        rw [ht2] at hc2
        have HS := Lib.hid hs2
        have HT := Lib.hid ht2
        clear hs2 ht2
        have hk0 : (0 : Int) ≤ (k : Int) := by omega
        have hki : (k : Int) < (n : Int) := by omega
        cases hx : (s.toList == t.toList)
        · go_wp2
          go_quiet (fail)
          go_wp2
          go_ret
          refine ⟨?_, by first | exact HB.out | exact HB.out.drew | exact HB.out.grown (D.grown_draws _ _ none) HB.out.size (by simp)⟩
          rw [same_at (by rw [HN.out]; exact hlt) (by rw [HS.out, HT.out]; exact hx)]
          rfl
        · go_wp2
          go_quiet (fail)
          go_wp2
          go_roundw
          case rel =>
            refine ⟨k + 1, by omega, by go_num, fun j hj => ?_, by first | exact HB.out | exact HB.out.drew | exact HB.out.grown (D.grown_draws _ _ none) HB.out.size (by simp)⟩
            by_cases e : j = k
            · subst e; rw [HS.out, HT.out]; exact hx
            · exact HA.out j (by omega)
          case measure => simp [intOf]; omega
      · have hki : ¬ (k : Int) < (n : Int) := by omega
        have hkn : k = n := by omega
        have HK := Lib.hid hkn
        clear hkn
        go_wp2
        go_ret
        refine ⟨?_, HB.out⟩
        rw [same_all (by rw [HN.out, HM.out]) (fun j hj => HA.out j (by rw [HK.out, ← HN.out]; exact hj))]
        rfl
  · have hd : ¬ (n : Int) = (m : Int) := by omega
    rw [same_len (by rw [hn, hm]; exact hnm)]
    rw [hn, hm]
    clear hn hm h3 h3' HN HM
    go_enter Tryz.func43, Tryz.ntmps43
    go_wp2
    go_ret
    exact ⟨rfl, Below.refl _ _⟩

/-- Two meanings, field by field. -/
def sameM (a b : Int) (t : Bool) (ss : List ByteArray) (q : Int) (a' b' : Int) (t' : Bool) (tt : List ByteArray) (q' : Int) : Bool := (decide (a = a') && decide (b = b')) && (t == t') && decide (q = q') && sameO ss tt
abbrev mgV (a b : Int) (t : Bool) (v : Value) (q : Int) : Value := .agg #[.int .i64 a, .int .i64 b, .bool t, v, .int .i64 q]

set_option maxRecDepth 100000 in
set_option maxHeartbeats 2000000 in
theorem implSameMeaning_any (a b : Int) (t : Bool) (v : Value) (q : Int) (ss : List ByteArray) (a' b' : Int) (t' : Bool) (v' : Value) (q' : Int) (tt : List ByteArray) (w : World) (hR : Row w v ss) (hR' : Row w v' tt) :
    Calls Tryz.prog 11 #[mgV a b t v q, mgV a' b' t' v' q'] w fun e w' => e = .returned (.bool (sameM a b t ss q a' b' t' tt q')) ∧ Below w.heap.size w w' := by
  have H := Lib.hid (fun w1 (hb : Below w.heap.size w w1) => slicesEqual_any v v' ss tt w1 (hR.below hb) (hR'.below hb))
  clear hR hR'
  by_cases h1 : a = a'
  · subst h1
    by_cases h2 : b = b'
    · subst h2
      by_cases h3 : t = t'
      · subst h3
        by_cases h4 : q = q'
        · subst h4
          have e : sameM a b t ss q a b t tt q = sameO ss tt := by unfold sameM; simp
          rw [e]
          go_enter Tryz.func11, Tryz.ntmps11
          go_wp2_with fail
          refine (H.out _ (by (repeat (first | exact Below.refl _ _ | refine Below.drew ?_ | refine Below.alloc ?_ ?_ _ | refine Below.setCell ?_ ?_ _ | refine Below.trans ?_ (Below.mono (by assumption) ?_))) <;> (first | omega | (simp at *; done) | (simp at *; omega)))).mono ?_
          rintro e w1 ⟨rfl, hb1⟩
          go_wp2_with fail
          go_ret
          refine ⟨rfl, ?_⟩
          (repeat (first | exact Below.refl _ _ | refine Below.drew ?_ | refine Below.alloc ?_ ?_ _ | refine Below.setCell ?_ ?_ _ | refine Below.trans ?_ (Below.mono (by assumption) ?_))) <;> (first | omega | (simp at *; done) | (simp at *; omega))
        · have e : sameM a b t ss q a b t tt q' = false := by unfold sameM; simp [h4]
          have h4' : (q == q') = false := by simpa using h4
          rw [e]
          go_enter Tryz.func11, Tryz.ntmps11
          go_wp2_with fail
          go_ret
          refine ⟨rfl, ?_⟩
          (repeat (first | exact Below.refl _ _ | refine Below.drew ?_ | refine Below.alloc ?_ ?_ _ | refine Below.setCell ?_ ?_ _ | refine Below.trans ?_ (Below.mono (by assumption) ?_))) <;> (first | omega | (simp at *; done) | (simp at *; omega))
      · have e : sameM a b t ss q a b t' tt q' = false := by unfold sameM; simp [h3]
        have h3' : (t == t') = false := by simpa using h3
        rw [e]
        go_enter Tryz.func11, Tryz.ntmps11
        go_wp2_with fail
        go_ret
        refine ⟨rfl, ?_⟩
        (repeat (first | exact Below.refl _ _ | refine Below.drew ?_ | refine Below.alloc ?_ ?_ _ | refine Below.setCell ?_ ?_ _ | refine Below.trans ?_ (Below.mono (by assumption) ?_))) <;> (first | omega | (simp at *; done) | (simp at *; omega))
    · have e : sameM a b t ss q a b' t' tt q' = false := by unfold sameM; simp [h2]
      have h2' : (b == b') = false := by simpa using h2
      rw [e]
      go_enter Tryz.func11, Tryz.ntmps11
      go_wp2_with fail
      go_ret
      refine ⟨rfl, ?_⟩
      (repeat (first | exact Below.refl _ _ | refine Below.drew ?_ | refine Below.alloc ?_ ?_ _ | refine Below.setCell ?_ ?_ _ | refine Below.trans ?_ (Below.mono (by assumption) ?_))) <;> (first | omega | (simp at *; done) | (simp at *; omega))
  · have e : sameM a b t ss q a' b' t' tt q' = false := by unfold sameM; simp [h1]
    have h1' : (a == a') = false := by simpa using h1
    rw [e]
    go_enter Tryz.func11, Tryz.ntmps11
    go_wp2_with fail
    go_ret
    refine ⟨rfl, ?_⟩
    (repeat (first | exact Below.refl _ _ | refine Below.drew ?_ | refine Below.alloc ?_ ?_ _ | refine Below.setCell ?_ ?_ _ | refine Below.trans ?_ (Below.mono (by assumption) ?_))) <;> (first | omega | (simp at *; done) | (simp at *; omega))

end L2
end Go.Proofs.YtkhjbhkbknennaaGreatDoor
