/-
  To look down: the topmost plate of which something is so, how many there are: the model's loops, and the program's count.
-/
import Derived.Test.YtkhjbhkbknennaaN3
namespace Go.Proofs.Ytkhjbhkbknennaa
open Go.RowKit Go.Sort
namespace L2
open L1

/-- The place of the topmost one of the first k of which that is so; -1 where there is none. -/
def topP (f : Pl → Bool) (ps : List Pl) : Nat → Int
  | 0 => -1
  | k + 1 => if f (ps.getD k p0) then (k : Int) else topP f ps k
theorem topP_yes {f : Pl → Bool} {ps : List Pl} {k : Nat} (h : f (ps.getD k p0) = true) : topP f ps (k + 1) = (k : Int) := by rw [topP, if_pos h]
theorem topP_no {f : Pl → Bool} {ps : List Pl} {k : Nat} (h : f (ps.getD k p0) = false) : topP f ps (k + 1) = topP f ps k := by rw [topP, h]; rfl
theorem topP_lo (f : Pl → Bool) (ps : List Pl) : ∀ k, -1 ≤ topP f ps k ∧ topP f ps k < k
  | 0 => ⟨Int.le_refl _, by simp [topP]⟩
  | k + 1 => by
    have := topP_lo f ps k
    rw [topP]
    split
    · omega
    · omega
/-- How many of the first k there are of which that is so. -/
def cntP (f : Pl → Bool) (ps : List Pl) : Nat → Nat
  | 0 => 0
  | k + 1 => cntP f ps k + if f (ps.getD k p0) then 1 else 0
theorem cntP_yes {f : Pl → Bool} {ps : List Pl} {k : Nat} (h : f (ps.getD k p0) = true) : cntP f ps (k + 1) = cntP f ps k + 1 := by rw [cntP, if_pos h]
theorem cntP_no {f : Pl → Bool} {ps : List Pl} {k : Nat} (h : f (ps.getD k p0) = false) : cntP f ps (k + 1) = cntP f ps k := by rw [cntP, h]; rfl
theorem cntP_le (f : Pl → Bool) (ps : List Pl) : ∀ k, cntP f ps k ≤ k
  | 0 => Nat.le_refl _
  | k + 1 => by
    have := cntP_le f ps k
    rw [cntP]
    split <;> omega
def isMarkP (p : Pl) : Bool := decide (p.k = 8)
def isCatchP (p : Pl) : Bool := decide (p.k = 7) || decide (p.k = 3)

set_option maxRecDepth 100000 in
set_option maxHeartbeats 1000000 in
theorem specMarkAt_any (v : Value) (ps : List Pl) (w : World) (hR : RowP w v ps) :
    Calls Try.prog 7 #[v] w fun e w' => e = .returned (.int .i64 (topP isMarkP ps ps.length)) ∧ Below w.heap.size w w' := by
  obtain ⟨oa, cap, rfl, h1, h2, h3⟩ := hR
  obtain ⟨n, hn⟩ : ∃ n, ps.length = n := ⟨_, rfl⟩
  rw [hn] at h1 h3 ⊢
  unfold maxLen at h2
  have H3 := Lib.hid h3
  clear hn h3
  go_enter Try.func7, Try.ntmps7
  go_wp2_with fail
  go_loopw [3] (fun i wr => ∃ k : Nat, k ≤ n ∧ i = .int .i64 ((k : Int) - 1) ∧ Hid (topP isMarkP ps n = topP isMarkP ps k) ∧ Below w.heap.size w wr) (fun i _ => (intOf i + 1).toNat)
  case atStart => exact ⟨n, Nat.le_refl _, rfl, Lib.hid rfl, Below.refl _ _⟩
  case round =>
    obtain ⟨k, hk, rfl, htop, hB⟩ := hrel
    have HB := Lib.hid hB
    clear hB
    cases k with
    | zero =>
      go_wp2_with fail
      go_ret
      exact ⟨by rw [htop.out]; rfl, HB.out⟩
    | succ j =>
      have hjn : j < n := by omega
      obtain ⟨b, off, rfl, hb, hc⟩ := H3.out j hjn
      have hc1 := hc.below HB.out hb
      clear hc
      obtain ⟨p, hp⟩ : ∃ p, ps.getD j p0 = p := ⟨_, rfl⟩
      have HP := Lib.hid hp
      rw [hp] at hc1
      clear hp
      obtain ⟨pk, pa, pb, pc, pd, pe⟩ := p
      obtain ⟨x0, x1, x2, x3, x4, x5⟩ := hc1
      dsimp only at x0 x1 x2 x3 x4 x5
      clear x1 x2 x3 x4 x5
      have hc2 : ((j + 1 : Nat) : Int) - 1 = (j : Int) := by omega
      rw [hc2]
      have hj0 : (0 : Int) ≤ (j : Int) := by omega
      have hji : (j : Int) < (n : Int) := by omega
      by_cases h8 : pk = 8
      · subst h8
        go_wp2_with fail
        go_ret
        refine ⟨?_, HB.out⟩
        rw [htop.out, topP_yes (by rw [HP.out]; rfl)]
        rfl
      · have h8' : (pk == 8) = false := by simpa using h8
        go_wp2_with fail
        go_roundw
        case rel => exact ⟨j, by omega, by go_num, Lib.hid (by rw [htop.out, topP_no (by rw [HP.out]; simp [isMarkP, h8])]), HB.out⟩
        case measure => first | (simp [intOf]; done) | (simp [intOf]; omega)

set_option maxRecDepth 100000 in
set_option maxHeartbeats 1000000 in
theorem specCatcherAt_any (v : Value) (ps : List Pl) (w : World) (hR : RowP w v ps) :
    Calls Try.prog 11 #[v] w fun e w' => e = .returned (.int .i64 (topP isCatchP ps ps.length)) ∧ Below w.heap.size w w' := by
  obtain ⟨oa, cap, rfl, h1, h2, h3⟩ := hR
  obtain ⟨n, hn⟩ : ∃ n, ps.length = n := ⟨_, rfl⟩
  rw [hn] at h1 h3 ⊢
  unfold maxLen at h2
  have H3 := Lib.hid h3
  clear hn h3
  go_enter Try.func11, Try.ntmps11
  go_wp2_with fail
  go_loopw [3] (fun i wr => ∃ k : Nat, k ≤ n ∧ i = .int .i64 ((k : Int) - 1) ∧ Hid (topP isCatchP ps n = topP isCatchP ps k) ∧ Below w.heap.size w wr) (fun i _ => (intOf i + 1).toNat)
  case atStart => exact ⟨n, Nat.le_refl _, rfl, Lib.hid rfl, Below.refl _ _⟩
  case round =>
    obtain ⟨k, hk, rfl, htop, hB⟩ := hrel
    have HB := Lib.hid hB
    clear hB
    cases k with
    | zero =>
      go_wp2_with fail
      go_ret
      exact ⟨by rw [htop.out]; rfl, HB.out⟩
    | succ j =>
      have hjn : j < n := by omega
      obtain ⟨b, off, rfl, hb, hc⟩ := H3.out j hjn
      have hc1 := hc.below HB.out hb
      clear hc
      obtain ⟨p, hp⟩ : ∃ p, ps.getD j p0 = p := ⟨_, rfl⟩
      have HP := Lib.hid hp
      rw [hp] at hc1
      clear hp
      obtain ⟨pk, pa, pb, pc, pd, pe⟩ := p
      obtain ⟨x0, x1, x2, x3, x4, x5⟩ := hc1
      dsimp only at x0 x1 x2 x3 x4 x5
      clear x1 x2 x3 x4 x5
      have hc2 : ((j + 1 : Nat) : Int) - 1 = (j : Int) := by omega
      rw [hc2]
      have hj0 : (0 : Int) ≤ (j : Int) := by omega
      have hji : (j : Int) < (n : Int) := by omega
      by_cases h7 : pk = 7
      · subst h7
        go_wp2_with fail
        go_ret
        refine ⟨?_, HB.out⟩
        rw [htop.out, topP_yes (by rw [HP.out]; rfl)]
        rfl
      · have h7' : (pk == 7) = false := by simpa using h7
        by_cases h3 : pk = 3
        · subst h3
          go_wp2_with fail
          go_ret
          refine ⟨?_, HB.out⟩
          rw [htop.out, topP_yes (by rw [HP.out]; rfl)]
          rfl
        · have h3' : (pk == 3) = false := by simpa using h3
          go_wp2_with fail
          go_roundw
          case rel => exact ⟨j, by omega, by go_num, Lib.hid (by rw [htop.out, topP_no (by rw [HP.out]; simp [isCatchP, h7, h3])]), HB.out⟩
          case measure => first | (simp [intOf]; done) | (simp [intOf]; omega)

set_option maxRecDepth 100000 in
set_option maxHeartbeats 1000000 in
theorem specCountOf_any (v : Value) (ps : List Pl) (q : Int) (w : World) (hR : RowP w v ps) :
    Calls Try.prog 13 #[v, .int .i64 q] w fun e w' => e = .returned (.int .i64 ((cntP (fun p => decide (p.k = q)) ps ps.length : Nat) : Int)) ∧ Below w.heap.size w w' := by
  obtain ⟨oa, cap, rfl, h1, h2, h3⟩ := hR
  obtain ⟨n, hn⟩ : ∃ n, ps.length = n := ⟨_, rfl⟩
  rw [hn] at h1 h3 ⊢
  unfold maxLen at h2
  have H3 := Lib.hid h3
  clear hn h3
  go_enter Try.func13, Try.ntmps13
  go_wp2_with fail
  go_loopw [5, 6] (fun m i wr => ∃ k c : Nat, k ≤ n ∧ i = .int .i64 (k : Int) ∧ m = .int .i64 (c : Int) ∧ Hid (cntP (fun p => decide (p.k = q)) ps k = c) ∧ Below w.heap.size w wr) (fun _ i _ => n - (intOf i).toNat)
  case atStart => exact ⟨0, 0, Nat.zero_le _, rfl, rfl, Lib.hid rfl, Below.refl _ _⟩
  case round =>
    obtain ⟨k, c, hk, rfl, rfl, hcnt, hB⟩ := hrel
    have hcl := cntP_le (fun p => decide (p.k = q)) ps k
    rw [hcnt.out] at hcl
    have HB := Lib.hid hB
    clear hB
    by_cases hlt : k < n
    · obtain ⟨b, off, rfl, hb, hc⟩ := H3.out k hlt
      have hc1 := hc.below HB.out hb
      clear hc
      obtain ⟨p, hp⟩ : ∃ p, ps.getD k p0 = p := ⟨_, rfl⟩
      have HP := Lib.hid hp
      rw [hp] at hc1
      clear hp
      obtain ⟨pk, pa, pb, pc, pd, pe⟩ := p
      obtain ⟨x0, x1, x2, x3, x4, x5⟩ := hc1
      dsimp only at x0 x1 x2 x3 x4 x5
      clear x1 x2 x3 x4 x5
      have hk0 : (0 : Int) ≤ (k : Int) := by omega
      have hki : (k : Int) < (n : Int) := by omega
      by_cases hq : pk = q
      · subst hq
        go_wp2_with fail
        go_roundw
        case rel => exact ⟨k + 1, c + 1, by omega, by go_num, by go_num, Lib.hid (by rw [cntP_yes (by rw [HP.out]; simp), hcnt.out]), HB.out⟩
        case measure => first | (simp [intOf]; done) | (simp [intOf]; omega)
      · have hq' : (pk == q) = false := by simpa using hq
        go_wp2_with fail
        go_roundw
        case rel => exact ⟨k + 1, c, by omega, by go_num, rfl, Lib.hid (by rw [cntP_no (by rw [HP.out]; simp [hq]), hcnt.out]), HB.out⟩
        case measure => first | (simp [intOf]; done) | (simp [intOf]; omega)
    · have hki : ¬ (k : Int) < (n : Int) := by omega
      have hkn : k = n := by omega
      have HK := Lib.hid hkn
      clear hkn
      go_wp2_with fail
      go_ret
      exact ⟨by rw [← HK.out, hcnt.out]; rfl, HB.out⟩

set_option maxRecDepth 100000 in
set_option maxHeartbeats 1000000 in
theorem implCountOf_any (v : Value) (ps : List Pl) (q : Int) (w : World) (hR : RowP w v ps) :
    Calls Try.prog 14 #[v, .int .i64 q] w fun e w' => e = .returned (.int .i64 ((cntP (fun p => decide (p.k = q)) ps ps.length : Nat) : Int)) ∧ Below w.heap.size w w' := by
  obtain ⟨oa, cap, rfl, h1, h2, h3⟩ := hR
  obtain ⟨n, hn⟩ : ∃ n, ps.length = n := ⟨_, rfl⟩
  rw [hn] at h1 h3 ⊢
  unfold maxLen at h2
  have H3 := Lib.hid h3
  clear hn h3
  go_enter Try.func14, Try.ntmps14
  go_wp2_with fail
  go_loopw [5, 10] (fun m i wr => ∃ k c : Nat, k ≤ n ∧ i = .int .i64 (k : Int) ∧ m = .int .i64 (c : Int) ∧ Hid (cntP (fun p => decide (p.k = q)) ps k = c) ∧ Below w.heap.size w wr) (fun _ i _ => n - (intOf i).toNat)
  case atStart => exact ⟨0, 0, Nat.zero_le _, rfl, rfl, Lib.hid rfl, Below.refl _ _⟩
  case round =>
    obtain ⟨k, c, hk, rfl, rfl, hcnt, hB⟩ := hrel
    have hcl := cntP_le (fun p => decide (p.k = q)) ps k
    rw [hcnt.out] at hcl
    have HB := Lib.hid hB
    clear hB
    by_cases hlt : k < n
    · obtain ⟨b, off, rfl, hb, hc⟩ := H3.out k hlt
      have hc1 := hc.below HB.out hb
      clear hc
      obtain ⟨p, hp⟩ : ∃ p, ps.getD k p0 = p := ⟨_, rfl⟩
      have HP := Lib.hid hp
      rw [hp] at hc1
      clear hp
      obtain ⟨pk, pa, pb, pc, pd, pe⟩ := p
      obtain ⟨x0, x1, x2, x3, x4, x5⟩ := hc1
      dsimp only at x0 x1 x2 x3 x4 x5
      have hk0 : (0 : Int) ≤ (k : Int) := by omega
      have hki : (k : Int) < (n : Int) := by omega
      by_cases hq : pk = q
      · subst hq
        go_wp2_with fail
        go_roundw
        case rel => exact ⟨k + 1, c + 1, by omega, by go_num, by go_num, Lib.hid (by rw [cntP_yes (by rw [HP.out]; simp), hcnt.out]), HB.out.alloc HB.out.size _⟩
        case measure => first | (simp [intOf]; done) | (simp [intOf]; omega)
      · have hq' : (pk == q) = false := by simpa using hq
        go_wp2_with fail
        go_roundw
        case rel => exact ⟨k + 1, c, by omega, by go_num, rfl, Lib.hid (by rw [cntP_no (by rw [HP.out]; simp [hq]), hcnt.out]), HB.out.alloc HB.out.size _⟩
        case measure => first | (simp [intOf]; done) | (simp [intOf]; omega)
    · have hki : ¬ (k : Int) < (n : Int) := by omega
      have hkn : k = n := by omega
      have HK := Lib.hid hkn
      clear hkn
      go_wp2_with fail
      go_ret
      exact ⟨by rw [← HK.out, hcnt.out]; rfl, HB.out⟩

end L2
end Go.Proofs.Ytkhjbhkbknennaa
