/-
  The laws of chapter 5 on plates and lists of plates.
-/
import Derived.Test.YtncaacljeeinpaaN4
namespace Go.Proofs.Ytncaacljeeinpaa
open Go.RowKit Go.Sort
namespace L2
open L1

set_option maxRecDepth 100000 in
theorem lawPlateOk (p : Pl) (w : World) :
    Calls Try.prog 3 #[plV p] w fun e w' => e = .returned (.bool true) ∧ Below w.heap.size w w' := by
  have HT := Lib.hid (toPlate_any p)
  have HS := Lib.hid (specPlateOk_any p)
  have HI := Lib.hid (implPlateOk_any p)
  obtain ⟨k, a, b, c, d, e⟩ := p
  unfold plV at HT HS HI ⊢
  simp only at HT HS HI ⊢
  generalize okPl ⟨k, a, b, c, d, e⟩ = t at HS HI
  go_enter Try.func3, Try.ntmps3
  go_wp2_with fail
  refine (HT.out _).mono ?_
  rintro e1 w1 ⟨rfl, hb1⟩
  have hs1 := hb1.size
  obtain ⟨hc1, hf1⟩ := bcell hb1
  simp at hs1
  have z1 : w.heap.size < w1.heap.size := by omega
  go_wp2_with fail
  refine (HS.out _).mono ?_
  rintro e2 w2 ⟨rfl, hb2⟩
  have hs2 := hb2.size
  obtain ⟨hc2, hf2⟩ := bcell hb2
  have z2 : w.heap.size < w2.heap.size := by omega
  go_wp2_with fail
  refine (HT.out _).mono ?_
  rintro e3 w3 ⟨rfl, hb3⟩
  have hs3 := hb3.size
  go_wp2_with fail
  refine (HI.out _).mono ?_
  rintro e4 w4 ⟨rfl, hb4⟩
  clear hc1 hf1 hc2 hf2
  cases t
  all_goals
    go_wp2_with fail
    go_ret
    refine ⟨rfl, ?_⟩
    have h1 : Below w.heap.size w w1 := by (repeat (first | (with_reducible refine Below.alloc ?_ ?_ _) | (with_reducible refine Below.setCell ?_ ?_ _) | (with_reducible refine Below.drew ?_) | (with_reducible exact Below.refl _ _) | (with_reducible refine Below.trans ?_ (Below.mono (by assumption) ?_)))) <;> (first | omega | (dsimp only; omega) | (simp; done) | (simp; omega) | (simp at *; omega))
    exact ((h1.trans (hb2.mono h1.size)).trans (hb3.mono (by omega))).trans (hb4.mono (by omega))

set_option maxRecDepth 100000 in
set_option maxHeartbeats 1000000 in
theorem lawPlatesOk (v : Value) (ps : List Pl) (w : World) (hR : RowP w v ps) :
    Calls Try.prog 4 #[v] w fun e w' => e = .returned (.bool true) ∧ Below w.heap.size w w' := by
  have HZ := Lib.hid (szPlateS_any v ps 1048576 w hR (by omega) (by omega))
  have HTT := Lib.hid (fun (hn : ps.length ≤ 1048576) w1 (hb : Below w.heap.size w w1) => toPlateS_any v ps w1 (hR.below hb) hn)
  have hv : ∃ oa l c, v = .slice oa l c := by obtain ⟨oa, c, e, _⟩ := hR; exact ⟨_, _, _, e⟩
  obtain ⟨oa, l, c, rfl⟩ := hv
  clear hR
  go_enter Try.func4, Try.ntmps4
  go_wp2_with fail
  refine HZ.out.mono ?_
  rintro e w1 ⟨rfl, rfl | ⟨y, hy, -, rfl, hn⟩⟩
  · go_wp2_with fail
    go_ret
    exact ⟨rfl, Below.refl _ _⟩
  have HT := Lib.hid (HTT.out hn)
  have hyn : ¬ y < 0 := by omega
  have hm : ps.length ≤ maxLen := by unfold maxLen; omega
  obtain ⟨t, ht⟩ : ∃ t, okPls ps = t := ⟨_, rfl⟩
  have HK := Lib.hid ht
  clear ht HTT HZ
  go_wp2_with fail
  refine (HT.out _ (Below.refl _ _)).mono ?_
  rintro e w1 ⟨rfl, hL1, hb1⟩
  go_wp2_with fail
  refine (specPlatesOk_any _ ps w1 (hL1.row hm)).mono ?_
  rintro e w2 ⟨rfl, hb2⟩
  rw [HK.out]
  have HB2 := Lib.hid (hb1.trans (hb2.mono hb1.size))
  clear hL1 hb1 hb2
  go_wp2_with fail
  refine (HT.out _ HB2.out).mono ?_
  rintro e w3 ⟨rfl, hL3, hb3⟩
  have HB3 := Lib.hid (HB2.out.trans (hb3.mono HB2.out.size))
  have HL3 := Lib.hid hL3
  clear hL3 hb3
  go_wp2_with fail
  refine (implPlatesOk_any _ ps w3 (HL3.out.row hm)).mono ?_
  rintro e w4 ⟨rfl, hb4⟩
  rw [HK.out]
  have HB4 := Lib.hid (HB3.out.trans (hb4.mono HB3.out.size))
  have HL4 := Lib.hid (HL3.out.below hb4)
  clear hb4
  cases t
  all_goals
    go_wp2_with fail
    refine (HT.out _ HB4.out).mono ?_
    rintro e w5 ⟨rfl, hL5, hb5⟩
    have HB5 := Lib.hid (HB4.out.trans (hb5.mono HB4.out.size))
    have HL5 := Lib.hid (HL4.out.below hb5)
    have HN5 := Lib.hid hL5
    clear hL5 hb5
    go_wp2_with fail
    refine (eqPlateS_any _ _ ps w5 (HL5.out.row hm) (HN5.out.row hm)).mono ?_
    rintro e w6 ⟨rfl, hb6⟩
    have HB6 := Lib.hid (HB5.out.trans (hb6.mono HB5.out.size))
    clear hb6
    go_wp2_with fail
    go_ret
    exact ⟨rfl, HB6.out⟩

set_option maxRecDepth 100000 in
set_option maxHeartbeats 2000000 in
theorem lawSamePlates (v : Value) (ps : List Pl) (v' : Value) (qs : List Pl) (w : World) (hR : RowP w v ps) (hR' : RowP w v' qs) :
    Calls Try.prog 5 #[v, v'] w fun e w' => e = .returned (.bool true) ∧ Below w.heap.size w w' := by
  have HZ := Lib.hid (szPlateS_any v ps 1048576 w hR (by omega) (by omega))
  have HZ' := Lib.hid (fun y h0 h1 => szPlateS_any v' qs y w hR' h0 h1)
  have HTT := Lib.hid (fun (hn : ps.length ≤ 1048576) w1 (hb : Below w.heap.size w w1) => toPlateS_any v ps w1 (hR.below hb) hn)
  have HTT' := Lib.hid (fun (hn : qs.length ≤ 1048576) w1 (hb : Below w.heap.size w w1) => toPlateS_any v' qs w1 (hR'.below hb) hn)
  have hv : ∃ oa l c, v = .slice oa l c := by obtain ⟨oa, c, e, _⟩ := hR; exact ⟨_, _, _, e⟩
  obtain ⟨oa, l, c, rfl⟩ := hv
  have hv' : ∃ oa l c, v' = .slice oa l c := by obtain ⟨oa, c, e, _⟩ := hR'; exact ⟨_, _, _, e⟩
  obtain ⟨oa', l', c', rfl⟩ := hv'
  clear hR hR'
  go_enter Try.func5, Try.ntmps5
  go_wp2_with fail
  refine HZ.out.mono ?_
  rintro e w1 ⟨rfl, rfl | ⟨y, hy, hy1, rfl, hn⟩⟩
  · go_wp2_with fail
    go_ret
    exact ⟨rfl, Below.refl _ _⟩
  have hyn : ¬ y < 0 := by omega
  go_wp2_with fail
  refine (HZ'.out y hy hy1).mono ?_
  rintro e w1 ⟨rfl, rfl | ⟨z, hz, hz1, rfl, hn'⟩⟩
  · go_wp2_with fail
    go_ret
    exact ⟨rfl, Below.refl _ _⟩
  have hzn : ¬ z < 0 := by omega
  have HT := Lib.hid (HTT.out hn)
  have HT' := Lib.hid (HTT'.out hn')
  have hm : ps.length ≤ maxLen := by unfold maxLen; omega
  have hm' : qs.length ≤ maxLen := by unfold maxLen; omega
  obtain ⟨t, ht⟩ : ∃ t, samePls ps qs = t := ⟨_, rfl⟩
  have HK := Lib.hid ht
  clear ht HTT HZ HTT' HZ'
  go_wp2_with fail
  refine (HT.out _ (Below.refl _ _)).mono ?_
  rintro e w1 ⟨rfl, hL1, hb1⟩
  have HB1 := Lib.hid hb1
  have HL1 := Lib.hid hL1
  clear hL1 hb1
  go_wp2_with fail
  refine (HT'.out _ HB1.out).mono ?_
  rintro e w2 ⟨rfl, hL2, hb2⟩
  have HB2 := Lib.hid (HB1.out.trans (hb2.mono HB1.out.size))
  have HL2 := Lib.hid hL2
  have HL1 := Lib.hid (HL1.out.below hb2)
  clear hL2 hb2
  go_wp2_with fail
  refine (specSamePlates_any _ _ ps qs w2 (HL1.out.row hm) (HL2.out.row hm')).mono ?_
  rintro e w3 ⟨rfl, hb3⟩
  rw [HK.out]
  have HB3 := Lib.hid (HB2.out.trans (hb3.mono HB2.out.size))
  clear hb3 HL1 HL2
  go_wp2_with fail
  refine (HT.out _ HB3.out).mono ?_
  rintro e w4 ⟨rfl, hL4, hb4⟩
  have HB4 := Lib.hid (HB3.out.trans (hb4.mono HB3.out.size))
  have HX := Lib.hid hL4
  clear hL4 hb4
  go_wp2_with fail
  refine (HT'.out _ HB4.out).mono ?_
  rintro e w5 ⟨rfl, hL5, hb5⟩
  have HB5 := Lib.hid (HB4.out.trans (hb5.mono HB4.out.size))
  have HX := Lib.hid (HX.out.below hb5)
  have HY := Lib.hid hL5
  clear hL5 hb5
  go_wp2_with fail
  refine (implSamePlates_any _ _ ps qs w5 (HX.out.row hm) (HY.out.row hm')).mono ?_
  rintro e w6 ⟨rfl, hb6⟩
  rw [HK.out]
  have HB6 := Lib.hid (HB5.out.trans (hb6.mono HB5.out.size))
  have HX := Lib.hid (HX.out.below hb6)
  have HY := Lib.hid (HY.out.below hb6)
  clear hb6
  cases t
  all_goals
    go_wp2_with fail
    refine (HT.out _ HB6.out).mono ?_
    rintro e w7 ⟨rfl, hL7, hb7⟩
    have HB7 := Lib.hid (HB6.out.trans (hb7.mono HB6.out.size))
    have HX := Lib.hid (HX.out.below hb7)
    have HY := Lib.hid (HY.out.below hb7)
    have HN7 := Lib.hid hL7
    clear hL7 hb7
    go_wp2_with fail
    refine (eqPlateS_any _ _ ps w7 (HX.out.row hm) (HN7.out.row hm)).mono ?_
    rintro e w8 ⟨rfl, hb8⟩
    have HB8 := Lib.hid (HB7.out.trans (hb8.mono HB7.out.size))
    have HY := Lib.hid (HY.out.below hb8)
    clear hb8
    go_wp2_with fail
    refine (HT'.out _ HB8.out).mono ?_
    rintro e w9 ⟨rfl, hL9, hb9⟩
    have HB9 := Lib.hid (HB8.out.trans (hb9.mono HB8.out.size))
    have HY := Lib.hid (HY.out.below hb9)
    have HN9 := Lib.hid hL9
    clear hL9 hb9
    go_wp2_with fail
    refine (eqPlateS_any _ _ qs w9 (HY.out.row hm') (HN9.out.row hm')).mono ?_
    rintro e w10 ⟨rfl, hb10⟩
    have HB10 := Lib.hid (HB9.out.trans (hb10.mono HB9.out.size))
    clear hb10
    go_wp2_with fail
    go_ret
    exact ⟨rfl, HB10.out⟩

end L2
end Go.Proofs.Ytncaacljeeinpaa
