/-
  Lists of words in memory: searched.
-/
import Derived.Test.YtcfniecdjbgknaaDoorW4
namespace Go.Proofs.YtcfniecdjbgknaaDoor
open Go.RowKit
namespace L2
open S1 L1

/-- What looking for a word leaves. -/
def Found (ss : List ByteArray) (t : List UInt8) (w : World) (e : Ending) (w' : World) : Prop :=
  ∃ r : Int, e = .returned (.int .i64 r) ∧ decide (r < 0) = !(ss.any fun s => s.toList == t) ∧ w = w'

theorem any_yes {ss : List ByteArray} {f : ByteArray → Bool} {k : Nat} (hk : k < ss.length) (h : f (ss.getD k ByteArray.empty) = true) : ss.any f = true := by
  rw [List.any_eq_true]
  exact ⟨ss[k], List.getElem_mem hk, by simpa [List.getD, hk] using h⟩
theorem any_no {ss : List ByteArray} {f : ByteArray → Bool} (h : ∀ j, j < ss.length → f (ss.getD j ByteArray.empty) = false) : ss.any f = false := by
  rw [List.any_eq_false]
  intro x hx
  obtain ⟨j, hj, rfl⟩ := List.mem_iff_getElem.1 hx
  have := h j hj
  simpa [List.getD, hj] using this

set_option maxRecDepth 100000 in
set_option maxHeartbeats 1000000 in
theorem l1At_any (v : Value) (ss : List ByteArray) (t : ByteArray) (w : World) (hR : Row w v ss) :
    Calls Tryd.prog 85 #[v, .string t] w (Found ss t.toList w) := by
  obtain ⟨oa, cap, rfl, h1, h2, h3⟩ := hR
  obtain ⟨n, hn⟩ : ∃ n, ss.length = n := ⟨_, rfl⟩
  rw [hn] at h1 h3 ⊢
  unfold maxLen at h2
  have Hn := Lib.hid hn
  have H3 := Lib.hid h3
  clear hn h3
  go_enter Tryd.func85, Tryd.ntmps85
  go_wp2
  go_loop [5] (fun i => ∃ k : Nat, k ≤ n ∧ i = .int .i64 (k : Int) ∧ Hid (∀ j, j < k → ((ss.getD j ByteArray.empty).toList == t.toList) = false)) (fun i => n - (intOf i).toNat)
  case atStart => exact ⟨0, Nat.zero_le _, rfl, Lib.hid (by intro j hj; omega)⟩
  case round =>
    obtain ⟨k, hk, rfl, hall⟩ := hrel
    by_cases hlt : k < n
    · obtain ⟨b, off, rfl, hb, hc⟩ := H3.out k hlt
      obtain ⟨s, hs2⟩ : ∃ s, ss.getD k ByteArray.empty = s := ⟨_, rfl⟩
      rw [hs2] at hc
      have Hs := Lib.hid hs2
      clear hs2
      have hki : (k : Int) < (n : Int) := by omega
      cases hx : (s.toList == t.toList)
      · go_wp2
        go_round
        case rel =>
          refine ⟨k + 1, by omega, by go_num, Lib.hid (fun j hj => ?_)⟩
          by_cases e : j = k
          · subst e; rw [Hs.out]; exact hx
          · exact hall.out j (by omega)
        case measure => simp [intOf]; omega
      · have ha : ss.any (fun s => s.toList == t.toList) = true := any_yes (f := fun s => s.toList == t.toList) (k := k) (by rw [Hn.out]; exact hlt) (by show ((ss.getD k ByteArray.empty).toList == t.toList) = true; rw [Hs.out]; exact hx)
        have Ha := Lib.hid ha
        clear ha
        go_wp2
        go_ret
        exact ⟨_, rfl, by rw [Ha.out]; simp, rfl⟩
    · have hki : ¬ (k : Int) < (n : Int) := by omega
      have ha : ss.any (fun s => s.toList == t.toList) = false := any_no (f := fun s => s.toList == t.toList) (fun j hj => hall.out j (by rw [Hn.out] at hj; omega))
      have Ha := Lib.hid ha
      clear ha
      go_wp2
      go_ret
      exact ⟨_, rfl, by rw [Ha.out]; rfl, rfl⟩

theorem isPlaceIn_any (oa : Option Addr) (n cap : Nat) (at_ : Int) (w : World) :
    Calls Tryd.prog 81 #[.slice oa n cap, .int .i64 at_] w fun e w' => e = .returned (.bool (decide (0 ≤ at_) && decide (at_ < (n : Int)))) ∧ w = w' := by
  by_cases h0 : 0 ≤ at_ <;> by_cases h1 : at_ < (n : Int)
  all_goals
    go_enter Tryd.func81, Tryd.ntmps81
    go_wp2
    go_ret
    exact ⟨by simp [h0, h1], rfl⟩

/-- What looking for a word of pieces leaves. -/
def Piece (ss : List ByteArray) (w : World) (e : Ending) (w' : World) : Prop :=
  ∃ r : Int, e = .returned (.int .i64 r) ∧ decide (0 ≤ r) = (ss.any fun s => pieceW s.toList) ∧ w = w'

set_option maxRecDepth 100000 in
set_option maxHeartbeats 1000000 in
theorem indexFunc_any (v : Value) (ss : List ByteArray) (w : World) (hR : Row w v ss) :
    Calls Tryd.prog 99 #[v, .func (.func 87) #[] #[]] w (Piece ss w) := by
  obtain ⟨oa, cap, rfl, h1, h2, h3⟩ := hR
  obtain ⟨n, hn⟩ : ∃ n, ss.length = n := ⟨_, rfl⟩
  rw [hn] at h1 h3 ⊢
  unfold maxLen at h2
  have Hn := Lib.hid hn
  have H3 := Lib.hid h3
  clear hn h3
  go_enter Tryd.func99, Tryd.ntmps99
  go_wp2
  go_loop [8] (fun i => ∃ k : Nat, k ≤ n ∧ i = .int .i64 (k : Int) ∧ Hid (∀ j, j < k → pieceW (ss.getD j ByteArray.empty).toList = false)) (fun i => n - (intOf i).toNat)
  case atStart => exact ⟨0, Nat.zero_le _, rfl, Lib.hid (by intro j hj; omega)⟩
  case round =>
    obtain ⟨k, hk, rfl, hall⟩ := hrel
    by_cases hlt : k < n
    · obtain ⟨b, off, rfl, hb, hc⟩ := H3.out k hlt
      obtain ⟨s, hs2⟩ : ∃ s, ss.getD k ByteArray.empty = s := ⟨_, rfl⟩
      rw [hs2] at hc
      have Hs := Lib.hid hs2
      clear hs2
      have hki : (k : Int) < (n : Int) := by omega
      cases hx : pieceW s.toList
      · go_wp2_with (go_at_call 87; refine (isOfPieces_any _ _).mono ?_; rintro e w1 ⟨rfl, rfl⟩; rw [hx])
        go_round
        case rel =>
          refine ⟨k + 1, by omega, by go_num, Lib.hid (fun j hj => ?_)⟩
          by_cases e : j = k
          · subst e; rw [Hs.out]; exact hx
          · exact hall.out j (by omega)
        case measure => simp [intOf]; omega
      · have ha : ss.any (fun s => pieceW s.toList) = true := any_yes (f := fun s => pieceW s.toList) (k := k) (by rw [Hn.out]; exact hlt) (by show pieceW (ss.getD k ByteArray.empty).toList = true; rw [Hs.out]; exact hx)
        have Ha := Lib.hid ha
        clear ha
        go_wp2_with (go_at_call 87; refine (isOfPieces_any _ _).mono ?_; rintro e w1 ⟨rfl, rfl⟩; rw [hx])
        go_ret
        exact ⟨_, rfl, by rw [Ha.out]; simp, rfl⟩
    · have hki : ¬ (k : Int) < (n : Int) := by omega
      have ha : ss.any (fun s => pieceW s.toList) = false := any_no (f := fun s => pieceW s.toList) (fun j hj => hall.out j (by rw [Hn.out] at hj; omega))
      have Ha := Lib.hid ha
      clear ha
      go_wp2
      go_ret
      exact ⟨_, rfl, by rw [Ha.out]; rfl, rfl⟩

theorem containsFunc_any (v : Value) (ss : List ByteArray) (w : World) (hR : Row w v ss) :
    Calls Tryd.prog 86 #[v, .func (.func 87) #[] #[]] w fun e w' => e = .returned (.bool (ss.any fun s => pieceW s.toList)) ∧ w = w' := by
  have H := Lib.hid (indexFunc_any v ss w hR)
  clear hR
  go_enter Tryd.func86, Tryd.ntmps86
  go_wp2_with fail
  refine H.out.mono ?_
  rintro e w1 ⟨r, rfl, hr, rfl⟩
  have Hr := Lib.hid hr
  clear hr
  go_wp2
  go_ret
  exact ⟨by rw [← Hr.out]; rfl, rfl⟩

end L2
end Go.Proofs.YtcfniecdjbgknaaDoor
