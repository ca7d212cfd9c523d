/-
  The model: where a sum ends, is a list a sum, a plain one, does one begin there.
-/
import Derived.Test.YtcfniecdjbgknaaDoorW11
namespace Go.Proofs.YtcfniecdjbgknaaDoor
open Go.RowKit
namespace L2
open S1 L1

/-- Where a sum ends, for the model. -/
def endS (ws : List (List UInt8)) (i : Nat) : Int := match after ws 1 i with | none => -1 | some x => (x : Int)
theorem E_of_starts (ss : List ByteArray) (i : Nat) : st ss.length (wsOf ss) i = E (wsOf ss) i := by unfold E; rw [ws_len]

/-- A call that reads: its answer, and that it makes memory at most. -/
def EndsAt (x : Int) (w : World) (e : Ending) (w' : World) : Prop := e = .returned (.int .i64 x) ∧ Below w.heap.size w w'

set_option maxHeartbeats 1000000 in
theorem specSumEnd_any (v : Value) (ss : List ByteArray) (i : Nat) (w : World) (hR : Row w v ss) (hS : Small ss) :
    Calls Tryd.prog 80 #[v, .int .i64 (i : Int)] w (EndsAt (endS (wsOf ss) i) w) := by
  have H := starts_any ss hS ss.length v i w hR (by omega)
  rw [E_of_starts] at H
  have hv : endS (wsOf ss) i = match E (wsOf ss) i with | none => -1 | some r => (r.2 : Int) := by
    unfold endS
    rw [after_one]
    cases E (wsOf ss) i <;> rfl
  rw [hv]
  clear hv hR hS
  generalize E (wsOf ss) i = R at H ⊢
  have H := Lib.hid H
  go_enter Tryd.func80, Tryd.ntmps80
  go_wp2_with fail
  refine H.out.mono ?_
  rintro e w1 ⟨hb1, ⟨rfl, vm, rfl⟩ | ⟨m, y, vm, rfl, rfl, hom⟩⟩
  · clear H
    go_wp2_with fail
    go_ret
    exact ⟨rfl, hb1⟩
  · clear H hom
    go_wp2_with fail
    go_ret
    exact ⟨rfl, hb1⟩

theorem endS_all (ws : List (List UInt8)) (h : ws.length ≤ 60) : (endS ws 0 == (ws.length : Int)) = okSum ws := by
  unfold okSum endS
  have : decide (ws.length ≤ 60) = true := by simpa using h
  rw [this]
  cases after ws 1 0 with
  | none => simp
  | some x =>
    by_cases h : x = ws.length
    · simp [h]
    · simp [h]
      omega
theorem ok_long {ws : List (List UInt8)} (h : 60 < ws.length) : okSum ws = false := by
  unfold okSum
  have : decide (ws.length ≤ 60) = false := by simpa using h
  rw [this]
  rfl
theorem ok_none {ws : List (List UInt8)} (h : ws.length = 0) : okSum ws = false := by
  have : ws = [] := List.eq_nil_of_length_eq_zero h
  subst this
  decide

set_option maxHeartbeats 1000000 in
theorem specSumOk_any (v : Value) (ss : List ByteArray) (w : World) (hR : Row w v ss) (hS : Small ss) :
    Calls Tryd.prog 37 #[v] w fun e w' => e = .returned (.bool (okSum (wsOf ss))) ∧ Below w.heap.size w w' := by
  have H := specSumEnd_any v ss 0 w hR hS
  have hl := ws_len ss
  obtain ⟨oa, cap, rfl, _, _, _⟩ := hR
  obtain ⟨n, hn⟩ : ∃ n, ss.length = n := ⟨_, rfl⟩
  rw [hn] at hl H ⊢
  have hnb : n ≤ 1048576 := by rw [← hn]; exact hS.1
  by_cases h60 : n ≤ 60
  · have hv := endS_all (wsOf ss) (by omega)
    rw [hl] at hv
    by_cases h0 : n = 0
    · rw [ok_none (by omega)]
      have hz : ¬ (0 : Int) < (n : Int) := by omega
      have h6 : (n : Int) ≤ 60 := by omega
      have hd : decide ((0 : Int) < (n : Int)) = false := by simpa using h0
      have H := Lib.hid H
      have Hh := Lib.hid h0
      clear hv hl hn h0
      go_enter Tryd.func37, Tryd.ntmps37
      go_wp2_with fail
      go_ret
      exact ⟨rfl, Below.refl _ _⟩
    · rw [← hv]
      have hz : (0 : Int) < (n : Int) := by omega
      have h6 : (n : Int) ≤ 60 := by omega
      have hd : decide ((0 : Int) < (n : Int)) = true := by simp; omega
      have hd' : decide (0 < n) = true := by simp; omega
      generalize endS (wsOf ss) 0 = x at H ⊢
      have H := Lib.hid H
      clear hv hl hn hS
      go_enter Tryd.func37, Tryd.ntmps37
      go_wp2_with fail
      refine H.out.mono ?_
      rintro e w1 ⟨rfl, hb1⟩
      go_wp2_with fail
      go_ret
      exact ⟨rfl, hb1⟩
  · rw [ok_long (by omega)]
    have h6 : ¬ (n : Int) ≤ 60 := by omega
    have hd : decide ((n : Int) ≤ 60) = false := by simp; omega
    clear hl hn hS H
    go_enter Tryd.func37, Tryd.ntmps37
    go_wp2_with fail
    go_ret
    exact ⟨rfl, Below.refl _ _⟩

theorem any_or (ss : List ByteArray) : (ss.any fun s => pieceW s.toList) = ((ss.any fun s => s.toList == [109, 97, 114, 107]) || (ss.any fun s => s.toList == [99, 117, 116]) || (ss.any fun s => s.toList == [103, 111])) := by
  induction ss with
  | nil => rfl
  | cons s r ih =>
    simp only [List.any_cons, ih]
    unfold pieceW
    cases (s.toList == [109, 97, 114, 107]) <;> cases (s.toList == [99, 117, 116]) <;> cases (s.toList == [103, 111]) <;> simp

/-- What is known of a place that was looked for. -/
theorem found_of {v : Value} {ss : List ByteArray} {t : ByteArray} {l : List UInt8} {q : Bool} (ht : t.toList = l) (hq : (ss.any fun s => s.toList == l) = q) (w : World) (hR : Row w v ss) :
    Calls Tryd.prog 85 #[v, .string t] w fun e w' => ∃ r : Int, e = .returned (.int .i64 r) ∧ decide (r < 0) = !q ∧ w = w' :=
  (l1At_any v ss t w hR).mono fun _ _ ⟨r, he, hr, hw⟩ => ⟨r, he, by rw [hr, ht, hq], hw⟩

set_option maxHeartbeats 2000000 in
theorem specIsPlain_any (v : Value) (ss : List ByteArray) (w : World) (hR : Row w v ss) (hS : Small ss) :
    Calls Tryd.prog 48 #[v] w fun e w' => e = .returned (.bool (plain (wsOf ss))) ∧ Below w.heap.size w w' := by
  have H := specSumOk_any v ss w hR hS
  have HR := Lib.hid hR
  have hv : plain (wsOf ss) = (okSum (wsOf ss) && !((ss.any fun s => s.toList == [109, 97, 114, 107]) || (ss.any fun s => s.toList == [99, 117, 116]) || (ss.any fun s => s.toList == [103, 111]))) := by
    unfold plain
    rw [← any_ws, any_or]
  rw [hv]
  clear hv hR hS
  have F1 := fun q hq w1 (hb : Below w.heap.size w w1) => found_of (v := v) (ss := ss) (t := ⟨#[109, 97, 114, 107]⟩) (l := [109, 97, 114, 107]) (q := q) (by rw [Lib.toList_data]) hq w1 (HR.out.below hb)
  have F2 := fun q hq w1 (hb : Below w.heap.size w w1) => found_of (v := v) (ss := ss) (t := ⟨#[99, 117, 116]⟩) (l := [99, 117, 116]) (q := q) (by rw [Lib.toList_data]) hq w1 (HR.out.below hb)
  have F3 := fun q hq w1 (hb : Below w.heap.size w w1) => found_of (v := v) (ss := ss) (t := ⟨#[103, 111]⟩) (l := [103, 111]) (q := q) (by rw [Lib.toList_data]) hq w1 (HR.out.below hb)
  generalize okSum (wsOf ss) = ok at H ⊢
  cases ok
  · rw [Bool.false_and]
    have G := Lib.hid H
    clear F1 F2 F3 H
    go_enter Tryd.func48, Tryd.ntmps48
    go_wp2_with fail
    refine G.out.mono ?_
    rintro e w1 ⟨rfl, hb1⟩
    go_wp2_with fail
    go_ret
    exact ⟨rfl, hb1⟩
  rw [Bool.true_and]
  cases hq1 : (ss.any fun s => s.toList == [109, 97, 114, 107])
  case true =>
    have G1 := Lib.hid (F1 _ hq1)
    clear hq1
    rw [Bool.true_or, Bool.true_or, Bool.not_true]
    have G := Lib.hid H
    clear F1 F2 F3 H
    go_enter Tryd.func48, Tryd.ntmps48
    go_wp2_with fail
    refine G.out.mono ?_
    rintro e w1 ⟨rfl, hb1⟩
    go_wp2_with fail
    refine (G1.out _ hb1).mono ?_
    rintro e w2 ⟨r1, rfl, hr1, rfl⟩
    replace hr1 : decide (r1 < 0) = false := hr1
    go_wp2_with fail
    go_ret
    exact ⟨rfl, hb1⟩
  cases hq2 : (ss.any fun s => s.toList == [99, 117, 116])
  case true =>
    have G1 := Lib.hid (F1 _ hq1)
    have G2 := Lib.hid (F2 _ hq2)
    clear hq1 hq2
    rw [Bool.false_or, Bool.true_or, Bool.not_true]
    have G := Lib.hid H
    clear F1 F2 F3 H
    go_enter Tryd.func48, Tryd.ntmps48
    go_wp2_with fail
    refine G.out.mono ?_
    rintro e w1 ⟨rfl, hb1⟩
    go_wp2_with fail
    refine (G1.out _ hb1).mono ?_
    rintro e w2 ⟨r1, rfl, hr1, rfl⟩
    replace hr1 : decide (r1 < 0) = true := hr1
    go_wp2_with fail
    refine (G2.out _ hb1).mono ?_
    rintro e w2 ⟨r2, rfl, hr2, rfl⟩
    replace hr2 : decide (r2 < 0) = false := hr2
    go_wp2_with fail
    go_ret
    exact ⟨rfl, hb1⟩
  cases hq3 : (ss.any fun s => s.toList == [103, 111])
  case true =>
    have G1 := Lib.hid (F1 _ hq1)
    have G2 := Lib.hid (F2 _ hq2)
    have G3 := Lib.hid (F3 _ hq3)
    clear hq1 hq2 hq3
    rw [Bool.false_or, Bool.false_or, Bool.not_true]
    have G := Lib.hid H
    clear F1 F2 F3 H
    go_enter Tryd.func48, Tryd.ntmps48
    go_wp2_with fail
    refine G.out.mono ?_
    rintro e w1 ⟨rfl, hb1⟩
    go_wp2_with fail
    refine (G1.out _ hb1).mono ?_
    rintro e w2 ⟨r1, rfl, hr1, rfl⟩
    replace hr1 : decide (r1 < 0) = true := hr1
    go_wp2_with fail
    refine (G2.out _ hb1).mono ?_
    rintro e w2 ⟨r2, rfl, hr2, rfl⟩
    replace hr2 : decide (r2 < 0) = true := hr2
    go_wp2_with fail
    refine (G3.out _ hb1).mono ?_
    rintro e w2 ⟨r3, rfl, hr3, rfl⟩
    replace hr3 : decide (r3 < 0) = false := hr3
    go_wp2_with fail
    go_ret
    exact ⟨rfl, hb1⟩
  case false =>
    have G1 := Lib.hid (F1 _ hq1)
    have G2 := Lib.hid (F2 _ hq2)
    have G3 := Lib.hid (F3 _ hq3)
    clear hq1 hq2 hq3
    rw [Bool.false_or, Bool.false_or, Bool.not_false]
    have G := Lib.hid H
    clear F1 F2 F3 H
    go_enter Tryd.func48, Tryd.ntmps48
    go_wp2_with fail
    refine G.out.mono ?_
    rintro e w1 ⟨rfl, hb1⟩
    go_wp2_with fail
    refine (G1.out _ hb1).mono ?_
    rintro e w2 ⟨r1, rfl, hr1, rfl⟩
    replace hr1 : decide (r1 < 0) = true := hr1
    go_wp2_with fail
    refine (G2.out _ hb1).mono ?_
    rintro e w2 ⟨r2, rfl, hr2, rfl⟩
    replace hr2 : decide (r2 < 0) = true := hr2
    go_wp2_with fail
    refine (G3.out _ hb1).mono ?_
    rintro e w2 ⟨r3, rfl, hr3, rfl⟩
    replace hr3 : decide (r3 < 0) = true := hr3
    go_wp2_with fail
    go_ret
    exact ⟨rfl, hb1⟩

end L2
end Go.Proofs.YtcfniecdjbgknaaDoor
