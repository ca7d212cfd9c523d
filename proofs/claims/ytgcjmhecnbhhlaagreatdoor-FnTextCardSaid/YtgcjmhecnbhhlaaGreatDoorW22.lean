/-
  The program's ShowSum; the laws of chapter 3 on lists.
-/
import Derived.Test.YtgcjmhecnbhhlaaGreatDoorR3
import Derived.Test.YtgcjmhecnbhhlaaGreatDoorGY
import Derived.Test.YtgcjmhecnbhhlaaGreatDoorShelf2
namespace Go.Proofs.YtgcjmhecnbhhlaaGreatDoor
open Go.RowKit
namespace L2
open S1 L1

theorem lens_le {M : Nat} : ∀ {xs : List (List UInt8)}, (∀ x ∈ xs, x.length ≤ M) → Lib.lens xs ≤ xs.length * M
  | [], _ => by simp [Lib.lens]
  | x :: xs, h => by
    have h1 := h x (by simp)
    have h2 := lens_le (xs := xs) (fun y hy => h y (List.mem_cons_of_mem _ hy))
    simp only [Lib.lens, List.map_cons, List.sum_cons, List.length_cons] at h2 ⊢
    rw [Nat.succ_mul]
    omega
theorem join_le {M : Nat} {xs : List (List UInt8)} (h : ∀ x ∈ xs, x.length ≤ M) : (Lib.join xs [32]).length ≤ xs.length * (M + 1) := by
  cases xs with
  | nil => simp [Lib.join_nil]
  | cons x r =>
    have h1 := h x (by simp)
    have h2 := lens_le (xs := r) (fun y hy => h y (List.mem_cons_of_mem _ hy))
    rw [Lib.join_cons, List.length_append, Lib.joinTail_length]
    simp only [List.length_cons, List.length_nil]
    have e : (r.length + 1) * (M + 1) = r.length * M + r.length + (M + 1) := by rw [Nat.succ_mul, Nat.mul_succ]
    omega
theorem ws_data (ss : List ByteArray) : ss.map (·.data.toList) = wsOf ss := by
  unfold wsOf
  exact List.map_congr_left fun x _ => (Lib.toList_data x).symm
theorem small_words {ss : List ByteArray} (h : Small ss) : ∀ x ∈ wsOf ss, x.length ≤ 1048576 := by
  intro x hx
  unfold wsOf at hx
  obtain ⟨s, hs, rfl⟩ := List.mem_map.1 hx
  obtain ⟨j, hj, rfl⟩ := List.getElem_of_mem hs
  have := h.2 j hj
  have e : ss.getD j ByteArray.empty = ss[j] := by simp [List.getD, hj]
  rw [e, size_list] at this
  exact this

set_option maxHeartbeats 1000000 in
theorem implShowSum_any (v : Value) (ss : List ByteArray) (w : World) (hR : Row w v ss) (hS : Small ss) (hV : Vars w) :
    Calls Tryz.prog 6 #[v] w fun e w' => e = .returned (.string (showB ss)) ∧ Below w.heap.size w w' := by
  have H := implSumOk_any v ss w hR hS hV
  cases ho : okSum (wsOf ss)
  · rw [show_no ho]
    rw [ho] at H
    have H := Lib.hid H
    clear hR hS ho hV
    go_enter Tryz.func6, Tryz.ntmps6
    go_wp2_with fail
    refine H.out.mono ?_
    rintro e w1 ⟨rfl, hb1⟩
    go_wp2_with fail
    go_ret
    exact ⟨rfl, hb1⟩
  · obtain ⟨h60, hpos, _, _⟩ := ok_head ho
    rw [ws_len] at h60 hpos
    rw [show_yes ho]
    rw [ho] at H
    have hjl := join_le (small_words hS)
    rw [ws_len] at hjl
    obtain ⟨oa, cap, rfl, h1, h2, h3⟩ := hR
    obtain ⟨b, off, rfl, hb, _⟩ := h3 0 hpos
    have hcj : ∀ w1, Below w.heap.size w w1 → Calls Tryz.prog 21 #[.slice (some ⟨b, off, none⟩) ss.length cap, .string ⟨#[32]⟩] w1 fun e w' => e = .returned (.string ⟨(Lib.join (wsOf ss) [32]).toArray⟩) ∧ Below w1.heap.size w1 w' := fun w1 hb1 => by
      have h := Tryz.strings_Join b off cap ss ⟨#[32]⟩ w1 (fun j x hj => by
        obtain ⟨hlt, hx⟩ := List.getElem?_eq_some_iff.1 hj
        obtain ⟨b', off', e, hb', hc⟩ := h3 j hlt
        cases e
        have e2 : ss.getD j ByteArray.empty = x := by simp [List.getD, hj]
        rw [e2] at hc
        exact (hb1.cell (p := ⟨b, off + j, none⟩) hb).trans hc) (Nat.lt_of_lt_of_le hb hb1.size) (by omega) h1 (by rw [ws_data]; show (Lib.join (wsOf ss) [32]).length ≤ _; omega)
      rw [ws_data] at h
      exact h
    obtain ⟨n, hn⟩ : ∃ n, ss.length = n := ⟨_, rfl⟩
    rw [hn] at h1 h60 hpos H hcj ⊢
    unfold maxLen at h2
    have H := Lib.hid H
    have HJ := Lib.hid hcj
    clear hS ho hV h3 hjl hcj hn
    go_enter Tryz.func6, Tryz.ntmps6
    go_wp2_with fail
    refine H.out.mono ?_
    rintro e w1 ⟨rfl, hb1⟩
    go_wp2_with fail
    refine (HJ.out _ hb1).mono ?_
    rintro e w2 ⟨rfl, hb2⟩
    go_wp2_with fail
    go_ret
    exact ⟨rfl, hb1.trans (hb2.mono hb1.size)⟩

end L2
end Go.Proofs.YtgcjmhecnbhhlaaGreatDoor
