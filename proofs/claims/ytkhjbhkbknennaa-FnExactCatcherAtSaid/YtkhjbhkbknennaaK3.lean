/-
  The laws of chapter 7 on the topmost plate and on how many there are (written by wip/gen_k3.py).
-/
import Derived.Test.YtkhjbhkbknennaaK2
namespace Go.Proofs.Ytkhjbhkbknennaa
open Go.RowKit Go.Sort
namespace L2
open L1

set_option maxRecDepth 100000 in
set_option maxHeartbeats 1000000 in
theorem lawMarkAt (v : Value) (ps : List Pl) (w : World) (hR : RowP w v ps) :
    Calls Try.prog 3 #[v] w fun e w' => e = .returned (.bool true) ∧ Below w.heap.size w w' := by
  have HZ := Lib.hid (szPlateS_any v ps 1048576 w hR (by omega) (by omega))
  have HTT := Lib.hid (fun (hn : ps.length ≤ 1048576) w1 (hb : Below w.heap.size w w1) => toPlateS_any v ps w1 (hR.below hb) hn)
  have hv : ∃ oa l c, v = .slice oa l c := by obtain ⟨oa, c, e, _⟩ := hR; exact ⟨_, _, _, e⟩
  obtain ⟨oa, l, c, rfl⟩ := hv
  clear hR
  go_enter Try.func3, Try.ntmps3
  go_wp2_with fail
  refine HZ.out.mono ?_
  rintro e w1 ⟨rfl, rfl | ⟨y, hy, -, rfl, hn⟩⟩
  · go_wp2_with fail
    go_ret
    exact ⟨rfl, Below.refl _ _⟩
  have HT := Lib.hid (HTT.out hn)
  have hyn : ¬ y < 0 := by omega
  have hm : ps.length ≤ maxLen := by unfold maxLen; omega
  obtain ⟨t, ht⟩ : ∃ t : Int, topP isMarkP ps ps.length = t := ⟨_, rfl⟩
  have HK := Lib.hid ht
  clear ht HTT HZ
  go_wp2_with fail
  refine (HT.out _ (Below.refl _ _)).mono ?_
  rintro e w1 ⟨rfl, hL1, hb1⟩
  go_wp2_with fail
  refine (specMarkAt_any _ ps w1 (hL1.row hm)).mono ?_
  rintro e w2 ⟨rfl, hb2⟩
  rw [HK.out]
  have HB2 := Lib.hid (hb1.trans (hb2.mono hb1.size))
  clear hL1 hb1 hb2
  go_wp2_with fail
  refine (HT.out _ HB2.out).mono ?_
  rintro e w3 ⟨rfl, hL3, hb3⟩
  have HB3 := Lib.hid (HB2.out.trans (hb3.mono HB2.out.size))
  have HL3 := Lib.hid hL3
  clear hL3 hb3
  go_wp2_with fail
  refine (implMarkAt_any _ ps w3 (HL3.out.row hm)).mono ?_
  rintro e w4 ⟨rfl, hb4⟩
  rw [HK.out]
  have HB4 := Lib.hid (HB3.out.trans (hb4.mono HB3.out.size))
  have HL4 := Lib.hid (HL3.out.below hb4)
  clear hb4
  go_wp2_with fail
  refine (HT.out _ HB4.out).mono ?_
  rintro e w5 ⟨rfl, hL5, hb5⟩
  have HB5 := Lib.hid (HB4.out.trans (hb5.mono HB4.out.size))
  have HL5 := Lib.hid (HL4.out.below hb5)
  have HN5 := Lib.hid hL5
  clear hL5 hb5
  go_wp2_with fail
  refine (eqPlateS_any _ _ ps w5 (HL5.out.row hm) (HN5.out.row hm)).mono ?_
  rintro e w6 ⟨rfl, hb6⟩
  have HB6 := Lib.hid (HB5.out.trans (hb6.mono HB5.out.size))
  clear hb6
  go_wp2_with fail
  go_ret
  exact ⟨rfl, HB6.out⟩

set_option maxRecDepth 100000 in
set_option maxHeartbeats 1000000 in
theorem lawCatcherAt (v : Value) (ps : List Pl) (w : World) (hR : RowP w v ps) :
    Calls Try.prog 4 #[v] w fun e w' => e = .returned (.bool true) ∧ Below w.heap.size w w' := by
  have HZ := Lib.hid (szPlateS_any v ps 1048576 w hR (by omega) (by omega))
  have HTT := Lib.hid (fun (hn : ps.length ≤ 1048576) w1 (hb : Below w.heap.size w w1) => toPlateS_any v ps w1 (hR.below hb) hn)
  have hv : ∃ oa l c, v = .slice oa l c := by obtain ⟨oa, c, e, _⟩ := hR; exact ⟨_, _, _, e⟩
  obtain ⟨oa, l, c, rfl⟩ := hv
  clear hR
  go_enter Try.func4, Try.ntmps4
  go_wp2_with fail
  refine HZ.out.mono ?_
  rintro e w1 ⟨rfl, rfl | ⟨y, hy, -, rfl, hn⟩⟩
  · go_wp2_with fail
    go_ret
    exact ⟨rfl, Below.refl _ _⟩
  have HT := Lib.hid (HTT.out hn)
  have hyn : ¬ y < 0 := by omega
  have hm : ps.length ≤ maxLen := by unfold maxLen; omega
  obtain ⟨t, ht⟩ : ∃ t : Int, topP isCatchP ps ps.length = t := ⟨_, rfl⟩
  have HK := Lib.hid ht
  clear ht HTT HZ
  go_wp2_with fail
  refine (HT.out _ (Below.refl _ _)).mono ?_
  rintro e w1 ⟨rfl, hL1, hb1⟩
  go_wp2_with fail
  refine (specCatcherAt_any _ ps w1 (hL1.row hm)).mono ?_
  rintro e w2 ⟨rfl, hb2⟩
  rw [HK.out]
  have HB2 := Lib.hid (hb1.trans (hb2.mono hb1.size))
  clear hL1 hb1 hb2
  go_wp2_with fail
  refine (HT.out _ HB2.out).mono ?_
  rintro e w3 ⟨rfl, hL3, hb3⟩
  have HB3 := Lib.hid (HB2.out.trans (hb3.mono HB2.out.size))
  have HL3 := Lib.hid hL3
  clear hL3 hb3
  go_wp2_with fail
  refine (implCatcherAt_any _ ps w3 (HL3.out.row hm)).mono ?_
  rintro e w4 ⟨rfl, hb4⟩
  rw [HK.out]
  have HB4 := Lib.hid (HB3.out.trans (hb4.mono HB3.out.size))
  have HL4 := Lib.hid (HL3.out.below hb4)
  clear hb4
  go_wp2_with fail
  refine (HT.out _ HB4.out).mono ?_
  rintro e w5 ⟨rfl, hL5, hb5⟩
  have HB5 := Lib.hid (HB4.out.trans (hb5.mono HB4.out.size))
  have HL5 := Lib.hid (HL4.out.below hb5)
  have HN5 := Lib.hid hL5
  clear hL5 hb5
  go_wp2_with fail
  refine (eqPlateS_any _ _ ps w5 (HL5.out.row hm) (HN5.out.row hm)).mono ?_
  rintro e w6 ⟨rfl, hb6⟩
  have HB6 := Lib.hid (HB5.out.trans (hb6.mono HB5.out.size))
  clear hb6
  go_wp2_with fail
  go_ret
  exact ⟨rfl, HB6.out⟩

set_option maxRecDepth 100000 in
set_option maxHeartbeats 1000000 in
theorem lawCountOf (v : Value) (ps : List Pl) (q : Int) (w : World) (hR : RowP w v ps) :
    Calls Try.prog 5 #[v, .int .i64 q] w fun e w' => e = .returned (.bool true) ∧ Below w.heap.size w w' := by
  have HZ := Lib.hid (szPlateS_any v ps 1048576 w hR (by omega) (by omega))
  have HTT := Lib.hid (fun (hn : ps.length ≤ 1048576) w1 (hb : Below w.heap.size w w1) => toPlateS_any v ps w1 (hR.below hb) hn)
  have hv : ∃ oa l c, v = .slice oa l c := by obtain ⟨oa, c, e, _⟩ := hR; exact ⟨_, _, _, e⟩
  obtain ⟨oa, l, c, rfl⟩ := hv
  clear hR
  go_enter Try.func5, Try.ntmps5
  go_wp2_with fail
  refine HZ.out.mono ?_
  rintro e w1 ⟨rfl, rfl | ⟨y, hy, -, rfl, hn⟩⟩
  · go_wp2_with fail
    go_ret
    exact ⟨rfl, Below.refl _ _⟩
  have HT := Lib.hid (HTT.out hn)
  have hyn : ¬ y < 0 := by omega
  have hm : ps.length ≤ maxLen := by unfold maxLen; omega
  obtain ⟨t, ht⟩ : ∃ t : Int, ((cntP (fun p => decide (p.k = q)) ps ps.length : Nat) : Int) = t := ⟨_, rfl⟩
  have HK := Lib.hid ht
  clear ht HTT HZ
  go_wp2_with fail
  refine (HT.out _ (Below.refl _ _)).mono ?_
  rintro e w1 ⟨rfl, hL1, hb1⟩
  go_wp2_with fail
  refine (specCountOf_any _ ps q w1 (hL1.row hm)).mono ?_
  rintro e w2 ⟨rfl, hb2⟩
  rw [HK.out]
  have HB2 := Lib.hid (hb1.trans (hb2.mono hb1.size))
  clear hL1 hb1 hb2
  go_wp2_with fail
  refine (HT.out _ HB2.out).mono ?_
  rintro e w3 ⟨rfl, hL3, hb3⟩
  have HB3 := Lib.hid (HB2.out.trans (hb3.mono HB2.out.size))
  have HL3 := Lib.hid hL3
  clear hL3 hb3
  go_wp2_with fail
  refine (implCountOf_any _ ps q w3 (HL3.out.row hm)).mono ?_
  rintro e w4 ⟨rfl, hb4⟩
  rw [HK.out]
  have HB4 := Lib.hid (HB3.out.trans (hb4.mono HB3.out.size))
  have HL4 := Lib.hid (HL3.out.below hb4)
  clear hb4
  go_wp2_with fail
  refine (HT.out _ HB4.out).mono ?_
  rintro e w5 ⟨rfl, hL5, hb5⟩
  have HB5 := Lib.hid (HB4.out.trans (hb5.mono HB4.out.size))
  have HL5 := Lib.hid (HL4.out.below hb5)
  have HN5 := Lib.hid hL5
  clear hL5 hb5
  go_wp2_with fail
  refine (eqPlateS_any _ _ ps w5 (HL5.out.row hm) (HN5.out.row hm)).mono ?_
  rintro e w6 ⟨rfl, hb6⟩
  have HB6 := Lib.hid (HB5.out.trans (hb6.mono HB5.out.size))
  clear hb6
  go_wp2_with fail
  go_ret
  exact ⟨rfl, HB6.out⟩

end L2
end Go.Proofs.Ytkhjbhkbknennaa
