/-
  The program's ShowSum; the laws of chapter 3 on lists.
-/
import Derived.Test.YtgcjmhecnbhhlaaDoorR3
import Derived.Test.YtgcjmhecnbhhlaaDoorGY
import Derived.Test.YtgcjmhecnbhhlaaDoorShelf2
namespace Go.Proofs.YtgcjmhecnbhhlaaDoor
open Go.RowKit
namespace L2
open S1 L1

theorem lens_le {M : Nat} : ∀ {xs : List (List UInt8)}, (∀ x ∈ xs, x.length ≤ M) → Lib.lens xs ≤ xs.length * M
  | [], _ => by simp [Lib.lens]
  | x :: xs, h => by
    have h1 := h x (by simp)
    have h2 := lens_le (xs := xs) (fun y hy => h y (List.mem_cons_of_mem _ hy))
    simp only [Lib.lens, List.map_cons, List.sum_cons, List.length_cons] at h2 ⊢
    rw [Nat.succ_mul]
    omega
theorem join_le {M : Nat} {xs : List (List UInt8)} (h : ∀ x ∈ xs, x.length ≤ M) : (Lib.join xs [32]).length ≤ xs.length * (M + 1) := by
  cases xs with
  | nil => simp [Lib.join_nil]
  | cons x r =>
    have h1 := h x (by simp)
    have h2 := lens_le (xs := r) (fun y hy => h y (List.mem_cons_of_mem _ hy))
    rw [Lib.join_cons, List.length_append, Lib.joinTail_length]
    simp only [List.length_cons, List.length_nil]
    have e : (r.length + 1) * (M + 1) = r.length * M + r.length + (M + 1) := by rw [Nat.succ_mul, Nat.mul_succ]
    omega
theorem ws_data (ss : List ByteArray) : ss.map (·.data.toList) = wsOf ss := by
  unfold wsOf
  exact List.map_congr_left fun x _ => (Lib.toList_data x).symm
theorem small_words {ss : List ByteArray} (h : Small ss) : ∀ x ∈ wsOf ss, x.length ≤ 1048576 := by
  intro x hx
  unfold wsOf at hx
  obtain ⟨s, hs, rfl⟩ := List.mem_map.1 hx
  obtain ⟨j, hj, rfl⟩ := List.getElem_of_mem hs
  have := h.2 j hj
  have e : ss.getD j ByteArray.empty = ss[j] := by simp [List.getD, hj]
  rw [e, size_list] at this
  exact this

set_option maxHeartbeats 1000000 in
theorem implShowSum_any (v : Value) (ss : List ByteArray) (w : World) (hR : Row w v ss) (hS : Small ss) (hV : Vars w) :
    Calls Tryd.prog 51 #[v] w fun e w' => e = .returned (.string (showB ss)) ∧ Below w.heap.size w w' := by
  have H := implSumOk_any v ss w hR hS hV
  cases ho : okSum (wsOf ss)
  · rw [show_no ho]
    rw [ho] at H
    have H := Lib.hid H
    clear hR hS ho hV
    go_enter Tryd.func51, Tryd.ntmps51
    go_wp2_with fail
    refine H.out.mono ?_
    rintro e w1 ⟨rfl, hb1⟩
    go_wp2_with fail
    go_ret
    exact ⟨rfl, hb1⟩
  · obtain ⟨h60, hpos, _, _⟩ := ok_head ho
    rw [ws_len] at h60 hpos
    rw [show_yes ho]
    rw [ho] at H
    have hjl := join_le (small_words hS)
    rw [ws_len] at hjl
    obtain ⟨oa, cap, rfl, h1, h2, h3⟩ := hR
    obtain ⟨b, off, rfl, hb, _⟩ := h3 0 hpos
    have hcj : ∀ w1, Below w.heap.size w w1 → Calls Tryd.prog 95 #[.slice (some ⟨b, off, none⟩) ss.length cap, .string ⟨#[32]⟩] w1 fun e w' => e = .returned (.string ⟨(Lib.join (wsOf ss) [32]).toArray⟩) ∧ Below w1.heap.size w1 w' := fun w1 hb1 => by
      have h := Tryd.strings_Join b off cap ss ⟨#[32]⟩ w1 (fun j x hj => by
        obtain ⟨hlt, hx⟩ := List.getElem?_eq_some_iff.1 hj
        obtain ⟨b', off', e, hb', hc⟩ := h3 j hlt
        cases e
        have e2 : ss.getD j ByteArray.empty = x := by simp [List.getD, hj]
        rw [e2] at hc
        exact (hb1.cell (p := ⟨b, off + j, none⟩) hb).trans hc) (Nat.lt_of_lt_of_le hb hb1.size) (by omega) h1 (by rw [ws_data]; show (Lib.join (wsOf ss) [32]).length ≤ _; omega)
      rw [ws_data] at h
      exact h
    obtain ⟨n, hn⟩ : ∃ n, ss.length = n := ⟨_, rfl⟩
    rw [hn] at h1 h60 hpos H hcj ⊢
    unfold maxLen at h2
    have H := Lib.hid H
    have HJ := Lib.hid hcj
    clear hS ho hV h3 hjl hcj hn
    go_enter Tryd.func51, Tryd.ntmps51
    go_wp2_with fail
    refine H.out.mono ?_
    rintro e w1 ⟨rfl, hb1⟩
    go_wp2_with fail
    refine (HJ.out _ hb1).mono ?_
    rintro e w2 ⟨rfl, hb2⟩
    go_wp2_with fail
    go_ret
    exact ⟨rfl, hb1.trans (hb2.mono hb1.size)⟩

set_option maxRecDepth 100000 in
set_option maxHeartbeats 2000000 in
theorem lawShowSum (v : Value) (ss : List ByteArray) (w : World) (hR : Row w v ss) (hz : ∀ i, i < ss.length → (ss.getD i ByteArray.empty).size ≤ maxLen) (hV : Vars w) :
    Calls Tryd.prog 8 #[v] w fun e w' => e = .returned (.bool true) ∧ Below w.heap.size w w' := by
  have HV := Lib.hid hV
  have HR := Lib.hid hR
  have HZ := Lib.hid (szStringS_any v ss w hR hz)
  clear hV hR hz
  go_enter Tryd.func8, Tryd.ntmps8
  go_wp2_with fail
  refine HZ.out.mono ?_
  rintro e w1 ⟨rfl, rfl | ⟨y, hy, rfl, hS⟩⟩
  · go_wp2_with fail
    go_ret
    exact ⟨rfl, Below.refl _ _⟩
  · have HS := Lib.hid hS
    have hyn : ¬ y < 0 := by omega
    have hn : ss.length ≤ 1048576 := hS.1
    have hm : ss.length ≤ maxLen := by unfold maxLen; omega
    clear hS
    go_wp2_with fail
    refine (toStringS_any v ss w HR.out hn).mono ?_
    rintro e w1 ⟨rfl, hL1, hb1⟩
    go_wp2_with fail
    refine (specShowSum_any _ ss w1 (hL1.row hm) HS.out).mono ?_
    rintro e w2 ⟨rfl, hb2⟩
    have HB2 := Lib.hid (hb1.trans (hb2.mono hb1.size))
    clear hL1 hb1 hb2
    have hq : ∃ q, showB ss = q := ⟨_, rfl⟩
    obtain ⟨q, hq⟩ := hq
    rw [hq]
    have HQ := Lib.hid hq
    clear hq
    go_wp2_with fail
    refine (toStringS_any v ss w2 (HR.out.below HB2.out) hn).mono ?_
    rintro e w3 ⟨rfl, hL3, hb3⟩
    have HB3 := Lib.hid (HB2.out.trans (hb3.mono HB2.out.size))
    have HL3 := Lib.hid hL3
    clear hL3 hb3
    go_wp2_with fail
    refine (implShowSum_any _ ss w3 (HL3.out.row hm) HS.out (HV.out.later HB3.out)).mono ?_
    rintro e w4 ⟨rfl, hb4⟩
    rw [HQ.out]
    have HB4 := Lib.hid (HB3.out.trans (hb4.mono HB3.out.size))
    have HL4 := Lib.hid (HL3.out.below hb4)
    clear hb4
    go_wp2_with fail
    refine (toStringS_any v ss w4 (HR.out.below HB4.out) hn).mono ?_
    rintro e w5 ⟨rfl, hL5, hb5⟩
    have HB5 := Lib.hid (HB4.out.trans (hb5.mono HB4.out.size))
    have HL5 := Lib.hid (HL4.out.below hb5)
    have HN5 := Lib.hid hL5
    clear hL5 hb5
    go_wp2_with fail
    refine (eqStringS_any _ _ ss w5 (HL5.out.row hm) (HN5.out.row hm)).mono ?_
    rintro e w6 ⟨rfl, hb6⟩
    have HB6 := Lib.hid (HB5.out.trans (hb6.mono HB5.out.size))
    clear hb6
    go_wp2_with fail
    go_ret
    exact ⟨rfl, HB6.out⟩

set_option maxRecDepth 100000 in
set_option maxHeartbeats 2000000 in
theorem lawDepthOf (v : Value) (ss : List ByteArray) (w : World) (hR : Row w v ss) (hz : ∀ i, i < ss.length → (ss.getD i ByteArray.empty).size ≤ maxLen) (hV : Vars w) :
    Calls Tryd.prog 11 #[v] w fun e w' => e = .returned (.bool true) ∧ Below w.heap.size w w' := by
  have HV := Lib.hid hV
  have HR := Lib.hid hR
  have HZ := Lib.hid (szStringS_any v ss w hR hz)
  clear hV hR hz
  go_enter Tryd.func11, Tryd.ntmps11
  go_wp2_with fail
  refine HZ.out.mono ?_
  rintro e w1 ⟨rfl, rfl | ⟨y, hy, rfl, hS⟩⟩
  · go_wp2_with fail
    go_ret
    exact ⟨rfl, Below.refl _ _⟩
  · have HS := Lib.hid hS
    have hyn : ¬ y < 0 := by omega
    have hn : ss.length ≤ 1048576 := hS.1
    have hm : ss.length ≤ maxLen := by unfold maxLen; omega
    clear hS
    go_wp2_with fail
    refine (toStringS_any v ss w HR.out hn).mono ?_
    rintro e w1 ⟨rfl, hL1, hb1⟩
    go_wp2_with fail
    refine (specDepthOf_any _ ss w1 (hL1.row hm) HS.out).mono ?_
    rintro e w2 ⟨rfl, hb2⟩
    have HB2 := Lib.hid (hb1.trans (hb2.mono hb1.size))
    clear hL1 hb1 hb2
    have hq : ∃ q, deepN (wsOf ss) = q := ⟨_, rfl⟩
    obtain ⟨q, hq⟩ := hq
    rw [hq]
    have HQ := Lib.hid hq
    clear hq
    go_wp2_with fail
    refine (toStringS_any v ss w2 (HR.out.below HB2.out) hn).mono ?_
    rintro e w3 ⟨rfl, hL3, hb3⟩
    have HB3 := Lib.hid (HB2.out.trans (hb3.mono HB2.out.size))
    have HL3 := Lib.hid hL3
    clear hL3 hb3
    go_wp2_with fail
    refine (implDepthOf_any _ ss w3 (HL3.out.row hm) HS.out (HV.out.later HB3.out)).mono ?_
    rintro e w4 ⟨rfl, hb4⟩
    rw [HQ.out]
    have HB4 := Lib.hid (HB3.out.trans (hb4.mono HB3.out.size))
    have HL4 := Lib.hid (HL3.out.below hb4)
    clear hb4
    go_wp2_with fail
    refine (toStringS_any v ss w4 (HR.out.below HB4.out) hn).mono ?_
    rintro e w5 ⟨rfl, hL5, hb5⟩
    have HB5 := Lib.hid (HB4.out.trans (hb5.mono HB4.out.size))
    have HL5 := Lib.hid (HL4.out.below hb5)
    have HN5 := Lib.hid hL5
    clear hL5 hb5
    go_wp2_with fail
    refine (eqStringS_any _ _ ss w5 (HL5.out.row hm) (HN5.out.row hm)).mono ?_
    rintro e w6 ⟨rfl, hb6⟩
    have HB6 := Lib.hid (HB5.out.trans (hb6.mono HB5.out.size))
    clear hb6
    go_wp2_with fail
    go_ret
    exact ⟨rfl, HB6.out⟩

set_option maxRecDepth 100000 in
set_option maxHeartbeats 2000000 in
theorem lawWordsIn (v : Value) (ss : List ByteArray) (t : ByteArray) (_ht : t.size ≤ maxLen) (w : World) (hR : Row w v ss) (hz : ∀ i, i < ss.length → (ss.getD i ByteArray.empty).size ≤ maxLen) (hV : Vars w) :
    Calls Tryd.prog 10 #[v, .string t] w fun e w' => e = .returned (.bool true) ∧ Below w.heap.size w w' := by
  by_cases hbig : 1048576 < t.size
  · have h1 : (1048576 : Int) < (t.size : Int) := by omega
    clear hR hz hV
    go_enter Tryd.func10, Tryd.ntmps10
    go_wp2
    go_ret
    exact ⟨rfl, Below.refl _ _⟩
  have h1 : ¬ (1048576 : Int) < (t.size : Int) := by omega
  have HV := Lib.hid hV
  have HR := Lib.hid hR
  have HZ := Lib.hid (szStringS_any v ss w hR hz)
  clear hV hR hz
  go_enter Tryd.func10, Tryd.ntmps10
  go_wp2_with fail
  refine HZ.out.mono ?_
  rintro e w1 ⟨rfl, rfl | ⟨y, hy, rfl, hS⟩⟩
  · go_wp2_with fail
    go_ret
    exact ⟨rfl, Below.refl _ _⟩
  · have HS := Lib.hid hS
    have hyn : ¬ y < 0 := by omega
    have hn : ss.length ≤ 1048576 := hS.1
    have hm : ss.length ≤ maxLen := by unfold maxLen; omega
    clear hS
    go_wp2_with fail
    refine (toStringS_any v ss w HR.out hn).mono ?_
    rintro e w1 ⟨rfl, hL1, hb1⟩
    go_wp2_with fail
    refine (specWordsIn_any _ ss t w1 (hL1.row hm) HS.out).mono ?_
    rintro e w2 ⟨rfl, hb2⟩
    have HB2 := Lib.hid (hb1.trans (hb2.mono hb1.size))
    clear hL1 hb1 hb2
    have hq : ∃ q, wordsN (wsOf ss) t.toList = q := ⟨_, rfl⟩
    obtain ⟨q, hq⟩ := hq
    rw [hq]
    have HQ := Lib.hid hq
    clear hq
    go_wp2_with fail
    refine (toStringS_any v ss w2 (HR.out.below HB2.out) hn).mono ?_
    rintro e w3 ⟨rfl, hL3, hb3⟩
    have HB3 := Lib.hid (HB2.out.trans (hb3.mono HB2.out.size))
    have HL3 := Lib.hid hL3
    clear hL3 hb3
    go_wp2_with fail
    refine (implWordsIn_any _ ss t w3 (HL3.out.row hm) HS.out (HV.out.later HB3.out)).mono ?_
    rintro e w4 ⟨rfl, hb4⟩
    rw [HQ.out]
    have HB4 := Lib.hid (HB3.out.trans (hb4.mono HB3.out.size))
    have HL4 := Lib.hid (HL3.out.below hb4)
    clear hb4
    go_wp2_with fail
    refine (toStringS_any v ss w4 (HR.out.below HB4.out) hn).mono ?_
    rintro e w5 ⟨rfl, hL5, hb5⟩
    have HB5 := Lib.hid (HB4.out.trans (hb5.mono HB4.out.size))
    have HL5 := Lib.hid (HL4.out.below hb5)
    have HN5 := Lib.hid hL5
    clear hL5 hb5
    go_wp2_with fail
    refine (eqStringS_any _ _ ss w5 (HL5.out.row hm) (HN5.out.row hm)).mono ?_
    rintro e w6 ⟨rfl, hb6⟩
    have HB6 := Lib.hid (HB5.out.trans (hb6.mono HB5.out.size))
    clear hb6
    go_wp2_with fail
    go_ret
    exact ⟨rfl, HB6.out⟩

end L2
end Go.Proofs.YtgcjmhecnbhhlaaDoor
