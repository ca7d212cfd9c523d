/-
  Where a sum ends, for the program; and is a list a sum.
-/
import Derived.Test.YtcfniecdjbgknaaDoorW7
namespace Go.Proofs.YtcfniecdjbgknaaDoor
open Go.RowKit
namespace L2
open S1 L1

/-- What the program answers. -/
def endI (ws : List (List UInt8)) (i : Nat) : Int := match endP ws i with | none => -1 | some x => (x : Int)
theorem endI_cnt (ws : List (List UInt8)) (i : Nat) : endI ws i = if cntI ((ws.drop i).take 60) < 0 then -1 else (i : Int) + cntI ((ws.drop i).take 60) := by
  unfold endI endP cntI
  cases after ((ws.drop i).take 60) 1 0 with
  | none => rfl
  | some c =>
    simp only [Option.map_some]
    rw [if_neg (by omega)]
    omega
theorem endI_far {ws : List (List UInt8)} {i : Nat} (h : ws.length ≤ i) : endI ws i = -1 := by
  unfold endI endP
  rw [List.drop_eq_nil_of_le h]
  rfl
theorem cnt_bd (ws : List (List UInt8)) : -1 ≤ cntI ws ∧ cntI ws ≤ (ws.length : Int) := by
  unfold cntI
  cases h : after ws 1 0 with
  | none => simp only; omega
  | some c =>
    have := after_bd 1 0 c (Nat.zero_le _) h
    simp only
    omega
theorem ws_window (ss : List ByteArray) (i : Nat) : wsOf ((ss.drop i).take 60) = ((wsOf ss).drop i).take 60 := by
  unfold wsOf
  rw [List.map_take, List.map_drop]

theorem row_sub {w : World} {b off n cap : Nat} {ss : List ByteArray} (hn : ss.length = n) (h1 : n ≤ cap) (h2 : cap ≤ maxLen) (hb : b < w.heap.size) (h : ∀ i, i < n → w.cell? ⟨b, off + i, none⟩ = some (.string (ss.getD i ByteArray.empty))) (i k m : Nat) (hk : ((ss.drop i).take m).length = k) :
    Row w (.slice (some ⟨b, off + i, none⟩) k (cap - i)) ((ss.drop i).take m) := by
  subst hk
  refine ⟨_, _, rfl, ?_, by omega, fun j hj => ⟨b, off + i, rfl, hb, ?_⟩⟩
  · simp only [List.length_take, List.length_drop]; omega
  · have hj' : j < m ∧ i + j < n := by
      simp only [List.length_take, List.length_drop] at hj
      omega
    rw [Nat.add_assoc, h (i + j) hj'.2]
    have e : ((ss.drop i).take m).getD j ByteArray.empty = ss.getD (i + j) ByteArray.empty := by
      simp [List.getD, hj'.1, List.getElem?_drop]
    rw [e]

set_option maxRecDepth 100000 in
set_option maxHeartbeats 2000000 in
theorem implSumEnd_any (v : Value) (ss : List ByteArray) (i : Nat) (w : World) (hR : Row w v ss) (hS : Small ss) (hi : i ≤ 2000000) (hV : Vars w) :
    Calls Tryd.prog 39 #[v, .int .i64 (i : Int)] w fun e w' => e = .returned (.int .i64 (endI (wsOf ss) i)) ∧ Below w.heap.size w w' := by
  obtain ⟨oa, cap, rfl, h1, h2, h3⟩ := hR
  obtain ⟨hs1, hs2⟩ := hS
  obtain ⟨n, hnn⟩ : ∃ n, ss.length = n := ⟨_, rfl⟩
  rw [hnn] at h1 h3 hs1 ⊢
  have HL := Lib.hid hnn
  have HV := Lib.hid hV
  have Hz := Lib.hid hs2
  have hlen := ws_len ss
  have h2' := h2
  unfold maxLen at h2
  by_cases hlt : i < n
  · obtain ⟨b, off, rfl, hb, _⟩ := h3 i hlt
    have hc : ∀ j, j < n → w.cell? ⟨b, off + j, none⟩ = some (.string (ss.getD j ByteArray.empty)) := fun j hj => by
      obtain ⟨b', off', ho, _, hc⟩ := h3 j hj
      cases ho
      exact hc
    have hp1 : (decide ((0 : Int) ≤ (i : Int)) && decide ((i : Int) < (n : Int))) = true := by simp; omega
    have hcnt := cnt_bd (((wsOf ss).drop i).take 60)
    have hwl : (((wsOf ss).drop i).take 60).length ≤ 60 := by simp; omega
    have hval := endI_cnt (wsOf ss) i
    have hcall : ∀ k, ((ss.drop i).take 60).length = k → Calls Tryd.prog 82 #[.slice (some ⟨b, off + i, none⟩) k (cap - i)] w fun e w' => e = .returned (.int .i64 (cntI (((wsOf ss).drop i).take 60))) ∧ Below w.heap.size w w' := fun k hk => by
      have h := wordsOfFirst_any _ _ w (row_sub hnn h1 h2' hb hc i k 60 hk) (by simp; omega) (fun j hj => by
        have hj' : j < 60 ∧ i + j < n := by
          simp only [List.length_take, List.length_drop] at hj
          omega
        have e : ((ss.drop i).take 60).getD j ByteArray.empty = ss.getD (i + j) ByteArray.empty := by
          simp [List.getD, hj'.1, List.getElem?_drop]
        rw [e]
        exact hs2 (i + j) (by omega)) HV.out
      rw [ws_window] at h
      exact h
    have hk : ((ss.drop i).take 60).length = min 60 (n - i) := by simp; omega
    rw [hval]
    generalize cntI (((wsOf ss).drop i).take 60) = c at hcnt hcall ⊢
    have hic : i < cap := by omega
    have hici : ¬ cap = i := by omega
    have hi0 : (0 : Int) ≤ (i : Int) := by omega
    have hin : (i : Int) < (n : Int) := by omega
    have hc60 : c ≤ 60 := by omega
    have hc1 : -1 ≤ c := by omega
    have Hcall := Lib.hid hcall
    have Hk := Lib.hid hk
    clear hcall hk hval hlen hnn h3 hc hs2 hV HV hcnt hwl h2'
    by_cases hneg : c < 0
    all_goals
      go_enter Tryd.func39, Tryd.ntmps39
      go_wp2_with (go_at_call 81; refine (isPlaceIn_any _ _ _ _ _).mono ?_; rintro e w1 ⟨rfl, rfl⟩; rw [hp1])
      refine (Hcall.out _ (by rw [Hk.out]; omega)).mono ?_
      rintro e w1 ⟨rfl, hb1⟩
      go_wp2
      go_ret
      exact ⟨by first | rfl | rw [if_pos hneg] | rw [if_neg hneg] | simp, hb1⟩
  · have hp1 : (decide ((0 : Int) ≤ (i : Int)) && decide ((i : Int) < (n : Int))) = false := by simp; omega
    rw [endI_far (by rw [hlen, hnn]; omega)]
    clear hlen hnn h3 hs2 hV h2'
    go_enter Tryd.func39, Tryd.ntmps39
    go_wp2_with (go_at_call 81; refine (isPlaceIn_any _ _ _ _ _).mono ?_; rintro e w1 ⟨rfl, rfl⟩; rw [hp1])
    go_ret
    exact ⟨rfl, Below.refl _ _⟩

theorem end_all (ws : List (List UInt8)) : ((endI ws 0) == (ws.length : Int)) = okSum ws := by
  rw [← endP_all]
  unfold endI
  cases endP ws 0 with
  | none => simp
  | some x =>
    by_cases h : x = ws.length
    · simp [h]
    · simp [h]
      omega

set_option maxHeartbeats 1000000 in
theorem implSumOk_any (v : Value) (ss : List ByteArray) (w : World) (hR : Row w v ss) (hS : Small ss) (hV : Vars w) :
    Calls Tryd.prog 46 #[v] w fun e w' => e = .returned (.bool (okSum (wsOf ss))) ∧ Below w.heap.size w w' := by
  have H := implSumEnd_any v ss 0 w hR hS (by omega) hV
  have hv := end_all (wsOf ss)
  rw [ws_len] at hv
  obtain ⟨oa, cap, rfl, _, _, _⟩ := hR
  generalize endI (wsOf ss) 0 = x at H hv
  rw [← hv]
  have H := Lib.hid H
  clear hv hS hV
  go_enter Tryd.func46, Tryd.ntmps46
  go_wp2_with fail
  refine H.out.mono ?_
  rintro e w1 ⟨rfl, hb1⟩
  go_wp2
  go_ret
  exact ⟨rfl, hb1⟩

/-- Is it a sum without a word of pieces? -/
def plain (ws : List (List UInt8)) : Bool := okSum ws && !(ws.any pieceW)

theorem any_ws (ss : List ByteArray) (f : List UInt8 → Bool) : (ss.any fun s => f s.toList) = (wsOf ss).any f := by
  unfold wsOf
  rw [List.any_map]
  rfl

set_option maxHeartbeats 1000000 in
theorem implIsPlain_any (v : Value) (ss : List ByteArray) (w : World) (hR : Row w v ss) (hS : Small ss) (hV : Vars w) :
    Calls Tryd.prog 49 #[v] w fun e w' => e = .returned (.bool (plain (wsOf ss))) ∧ Below w.heap.size w w' := by
  have H := implSumOk_any v ss w hR hS hV
  have HR := Lib.hid hR
  have hv : plain (wsOf ss) = (okSum (wsOf ss) && !(ss.any fun s => pieceW s.toList)) := by unfold plain; rw [any_ws]
  rw [hv]
  clear hv hR hS hV
  generalize okSum (wsOf ss) = ok at H ⊢
  cases ok
  · have H := Lib.hid H
    go_enter Tryd.func49, Tryd.ntmps49
    go_wp2_with fail
    refine H.out.mono ?_
    rintro e w1 ⟨rfl, hb1⟩
    go_wp2_with fail
    go_ret
    exact ⟨rfl, hb1⟩
  · have H := Lib.hid H
    have hc := fun w1 hb => containsFunc_any v ss w1 (Row.below (w := w) HR.out hb)
    generalize (ss.any fun s => pieceW s.toList) = q at hc ⊢
    have Hc := Lib.hid hc
    clear hc
    go_enter Tryd.func49, Tryd.ntmps49
    go_wp2_with fail
    refine H.out.mono ?_
    rintro e w1 ⟨rfl, hb1⟩
    go_wp2_with fail
    refine (Hc.out _ hb1).mono ?_
    rintro e w2 ⟨rfl, rfl⟩
    go_wp2_with fail
    go_ret
    exact ⟨rfl, hb1⟩

end L2
end Go.Proofs.YtcfniecdjbgknaaDoor
