/-
  Does a sum begin there: the model and the program; the laws of chapter 2 on lists that answer yes or no.
-/
import Derived.Test.YtcfniecdjbgknaaDoorW12
namespace Go.Proofs.YtcfniecdjbgknaaDoor
open Go.RowKit
namespace L2
open S1 L1

/-- Does the sum, or one in it, begin at that place? -/
def startsI (ws : List (List UInt8)) (x : Int) : Bool := decide (0 ≤ x) && startsAt ws x.toNat

theorem startsI_no {ws : List (List UInt8)} {x : Int} (h : okSum ws = false) : startsI ws x = false := by
  unfold startsI startsAt
  rw [h]
  simp
theorem startsI_far {ws : List (List UInt8)} {x : Int} (h : (decide (0 ≤ x) && decide (x < (ws.length : Int))) = false) : startsI ws x = false := by
  rw [Bool.and_eq_false_iff] at h
  unfold startsI startsAt
  rcases h with h | h
  · rw [h]; rfl
  · have h' := of_decide_eq_false h
    have : decide (x.toNat < ws.length) = false ∨ decide (0 ≤ x) = false := by
      by_cases h0 : 0 ≤ x
      · left; simp; omega
      · right; simpa using h0
    rcases this with h2 | h2 <;> rw [h2] <;> simp

set_option maxRecDepth 100000 in
set_option maxHeartbeats 1000000 in
theorem specIsStart_any (v : Value) (ss : List ByteArray) (x : Int) (w : World) (hR : Row w v ss) (hS : Small ss) :
    Calls Tryd.prog 52 #[v, .int .i64 x] w fun e w' => e = .returned (.bool (startsI (wsOf ss) x)) ∧ Below w.heap.size w w' := by
  have H := specSumOk_any v ss w hR hS
  have HR := Lib.hid hR
  cases ho : okSum (wsOf ss)
  · rw [startsI_no ho]
    rw [ho] at H
    have H := Lib.hid H
    clear hR hS ho
    go_enter Tryd.func52, Tryd.ntmps52
    go_wp2_with fail
    refine H.out.mono ?_
    rintro e w1 ⟨rfl, hb1⟩
    go_wp2_with fail
    go_ret
    exact ⟨rfl, hb1⟩
  · rw [ho] at H
    obtain ⟨m, hE, hm⟩ := startsAt_mem ho
    have hml : m.length ≤ 60 := by
      have h1 := st_len _ _ _ _ hE
      have h2 := (ok_head ho).1
      simp only at h1
      omega
    have hc : ∀ w1, Below w.heap.size w w1 → Calls Tryd.prog 88 #[v, .int .i64 0] w1 (Starts (some (m, (wsOf ss).length)) w1) := fun w1 hb => by
      have h := starts_any ss hS ss.length v 0 w1 (HR.out.below hb) (by omega)
      rw [E_of_starts, hE] at h
      exact h
    have hv : startsI (wsOf ss) x = true ↔ 0 ≤ x ∧ x.toNat ∈ m := by
      rw [hm]
      unfold startsI
      simp
    obtain ⟨q, hq⟩ : ∃ q, startsI (wsOf ss) x = q := ⟨_, rfl⟩
    rw [hq] at hv ⊢
    have H := Lib.hid H
    have Hc := Lib.hid hc
    have Hv := Lib.hid hv
    generalize (wsOf ss).length = len at Hc
    clear hR hS ho hE hm hc hv hq
    go_enter Tryd.func52, Tryd.ntmps52
    go_wp2_with fail
    refine H.out.mono ?_
    rintro e w1 ⟨rfl, hb1⟩
    go_wp2_with fail
    refine (Hc.out _ hb1).mono ?_
    rintro e w2 ⟨hb2, ⟨hr, _⟩ | ⟨m', y, vm, hr, rfl, hom⟩⟩
    · cases hr
    cases hr
    obtain ⟨g, cap2, rfl, hc1, hc2, hg1, hg2, hcs⟩ := hom.form
    obtain ⟨n, hn⟩ : ∃ n, m.length = n := ⟨_, rfl⟩
    rw [hn] at hml hc1 hcs ⊢
    have HB2 := Lib.hid (hb1.trans (hb2.mono hb1.size))
    have HC := Lib.hid hcs
    have HN := Lib.hid hn
    unfold maxLen at hc2
    clear hb2 hcs hom hn
    go_wp2_with fail
    go_loop [7] (fun i => ∃ k : Nat, k ≤ n ∧ i = .int .i64 (k : Int) ∧ Hid (∀ j, j < k → ((m.getD j 0 : Nat) : Int) ≠ x)) (fun i => n - (intOf i).toNat)
    case atStart => exact ⟨0, Nat.zero_le _, rfl, Lib.hid (by intro j hj; omega)⟩
    case round =>
      obtain ⟨k, hk, rfl, hall⟩ := hrel
      by_cases hlt : k < n
      · have hcell := (HC.out k hlt).1
        have hki : (k : Int) < (n : Int) := by omega
        obtain ⟨z, hz⟩ : ∃ z : Nat, m.getD k 0 = z := ⟨_, rfl⟩
        rw [hz] at hcell
        have Hz := Lib.hid hz
        clear hz
        by_cases hx : (z : Int) = x
        · have hx' : ((z : Int) == x) = true := by simpa using hx
          have hin : q = true := Hv.out.2 (by
            refine ⟨by omega, ?_⟩
            have : x.toNat = z := by omega
            rw [this, ← Hz.out]
            have hlt' : k < m.length := by rw [HN.out]; exact hlt
            rw [List.mem_iff_getElem]
            exact ⟨k, hlt', by simp [List.getD, hlt']⟩)
          have Hin := Lib.hid hin
          have Hx := Lib.hid hx
          clear hin hx
          go_wp2_with fail
          go_ret
          exact ⟨by rw [Hin.out]; rfl, HB2.out⟩
        · have hx' : ((z : Int) == x) = false := by simpa using hx
          have Hx := Lib.hid hx
          clear hx
          go_wp2_with fail
          go_round
          case rel =>
            refine ⟨k + 1, by omega, by go_num, Lib.hid (fun j hj => ?_)⟩
            by_cases e : j = k
            · subst e; rw [Hz.out]; exact Hx.out
            · exact hall.out j (by omega)
          case measure => simp [intOf]; omega
      · have hki : ¬ (k : Int) < (n : Int) := by omega
        have hout : q = false := by
          cases q
          · rfl
          · obtain ⟨h0, hmem⟩ := Hv.out.1 rfl
            obtain ⟨j, hj, hje⟩ := List.mem_iff_getElem.1 hmem
            have := hall.out j (by rw [HN.out] at hj; omega)
            exfalso
            apply this
            simp [List.getD, hj, hje]
            omega
        have Hout := Lib.hid hout
        clear hout
        go_wp2_with fail
        go_ret
        exact ⟨by rw [Hout.out]; rfl, HB2.out⟩

theorem startsI_zero {ws : List (List UInt8)} (h : okSum ws = true) : startsI ws 0 = true := by
  have := (ok_head h).2.1
  unfold startsI startsAt
  rw [h]
  simp [this]
theorem startsI_in {ws : List (List UInt8)} {i : Nat} (h : okSum ws = true) (h0 : 0 < i) (hi : i < ws.length) : startsI ws (i : Int) = !bindW (ws.getD (i - 1) []) := by
  unfold startsI startsAt
  rw [h]
  have h1 : decide ((0 : Int) ≤ (i : Int)) = true := by simp
  have h2 : decide (i = 0) = false := by simp; omega
  rw [h1, Int.toNat_natCast, h2]
  simp [hi]

set_option maxHeartbeats 1000000 in
theorem implIsStart_any (v : Value) (ss : List ByteArray) (x : Int) (w : World) (hR : Row w v ss) (hS : Small ss) (hV : Vars w) :
    Calls Tryd.prog 38 #[v, .int .i64 x] w fun e w' => e = .returned (.bool (startsI (wsOf ss) x)) ∧ Below w.heap.size w w' := by
  have H := implSumOk_any v ss w hR hS hV
  have hl := ws_len ss
  cases ho : okSum (wsOf ss)
  · rw [startsI_no ho]
    rw [ho] at H
    have H := Lib.hid H
    clear hR hS ho hV hl
    go_enter Tryd.func38, Tryd.ntmps38
    go_wp2_with fail
    refine H.out.mono ?_
    rintro e w1 ⟨rfl, hb1⟩
    go_wp2_with fail
    go_ret
    exact ⟨rfl, hb1⟩
  · rw [ho] at H
    obtain ⟨oa, cap, rfl, h1, h2, h3⟩ := hR
    obtain ⟨n, hn⟩ : ∃ n, ss.length = n := ⟨_, rfl⟩
    rw [hn] at h1 h3 hl H ⊢
    have hn1 : n ≤ 1048576 := by rw [← hn]; exact hS.1
    unfold maxLen at h2
    cases hp : (decide ((0 : Int) ≤ x) && decide (x < (n : Int)))
    · rw [startsI_far (by rw [hl]; exact hp)]
      have H := Lib.hid H
      have HP := Lib.hid hp
      clear hS ho hV hl hn hp h3
      go_enter Tryd.func38, Tryd.ntmps38
      go_wp2_with fail
      refine H.out.mono ?_
      rintro e w1 ⟨rfl, hb1⟩
      go_wp2_with fail
      refine (isPlaceIn_any _ _ _ _ _).mono ?_
      rintro e w2 ⟨rfl, rfl⟩
      rw [HP.out]
      go_wp2_with fail
      go_ret
      exact ⟨rfl, hb1⟩
    · have hp' := hp
      rw [Bool.and_eq_true] at hp'
      have hx0 : 0 ≤ x := of_decide_eq_true hp'.1
      have hxn : x < (n : Int) := of_decide_eq_true hp'.2
      by_cases hz : x = 0
      · subst hz
        rw [startsI_zero ho]
        have H := Lib.hid H
        have HP := Lib.hid hp
        clear hS ho hV hl hn hp hp' h3
        go_enter Tryd.func38, Tryd.ntmps38
        go_wp2_with fail
        refine H.out.mono ?_
        rintro e w1 ⟨rfl, hb1⟩
        go_wp2_with fail
        refine (isPlaceIn_any _ _ _ _ _).mono ?_
        rintro e w2 ⟨rfl, rfl⟩
        rw [HP.out]
        go_wp2_with fail
        go_ret
        exact ⟨rfl, hb1⟩
      · obtain ⟨i, rfl⟩ : ∃ i : Nat, x = ((i + 1 : Nat) : Int) := ⟨(x - 1).toNat, by omega⟩
        have hi : i + 1 < n := by omega
        rw [startsI_in ho (by omega) (by omega), Nat.add_sub_cancel, ws_getD (by omega)]
        obtain ⟨b, off, rfl, hb, hc⟩ := h3 i (by omega)
        obtain ⟨s, hs⟩ : ∃ s, ss.getD i ByteArray.empty = s := ⟨_, rfl⟩
        rw [hs] at hc ⊢
        have H := Lib.hid H
        have HP := Lib.hid hp
        have hne : (((i + 1 : Nat) : Int) == 0) = false := by simp; omega
        have hne' : (((i : Int) + 1) == 0) = false := by simp; omega
        have hc1 := fun w1 (hb1 : Below w.heap.size w w1) => (hb1.cell (p := ⟨b, off + i, none⟩) hb).trans hc
        have HC := Lib.hid hc1
        generalize hq : bindW s.toList = q
        have HQ := Lib.hid hq
        clear hS ho hV hl hn hp hp' h3 hs hc hc1 hq hz
        go_enter Tryd.func38, Tryd.ntmps38
        go_wp2_with fail
        refine H.out.mono ?_
        rintro e w1 ⟨rfl, hb1⟩
        have hcx := HC.out _ hb1
        go_wp2_with fail
        refine (isPlaceIn_any _ _ _ _ _).mono ?_
        rintro e w2 ⟨rfl, rfl⟩
        have HP' : (decide ((0 : Int) ≤ (i : Int) + 1) && decide ((i : Int) + 1 < (n : Int))) = true := HP.out
        rw [HP']
        go_wp2_with fail
        refine (isOfBound_any s _).mono ?_
        rintro e w2 ⟨rfl, rfl⟩
        rw [HQ.out]
        go_wp2_with fail
        go_ret
        exact ⟨rfl, hb1⟩

end L2
end Go.Proofs.YtcfniecdjbgknaaDoor
