/-
  The laws of chapter 2 on lists that answer yes or no.
-/
import Derived.Test.YtcfniecdjbgknaaDoorW13
namespace Go.Proofs.YtcfniecdjbgknaaDoor
open Go.RowKit
namespace L2
open S1 L1

theorem row_nil (W : World) : Row W (.slice none 0 0) [] := ⟨none, 0, rfl, Nat.le_refl _, by omega, by intro i hi; cases hi⟩
theorem row_of {W : World} {x : Addr} {l c : Nat} {ss : List ByteArray} (hl : l ≤ c) (hm : c ≤ maxLen) (hz : l ≤ ss.length) (hcell : ∀ i, i < ss.length → W.cell? (x.add i) = some (.string (ss.getD i ByteArray.empty))) (hsz : ∀ s ∈ ss, s.size ≤ maxLen) :
    Row W (.slice (some x) l c) (ss.take l) ∧ ∀ i, i < (ss.take l).length → ((ss.take l).getD i ByteArray.empty).size ≤ maxLen := by
  have hlen : (ss.take l).length = l := by simp; omega
  have hget : ∀ i, i < l → (ss.take l).getD i ByteArray.empty = ss.getD i ByteArray.empty := fun i hi => by simp [List.getD, hi]
  refine ⟨⟨some x, c, by rw [hlen], by rw [hlen]; exact hl, hm, fun i hi => ?_⟩, fun i hi => ?_⟩
  · rw [hlen] at hi
    obtain ⟨b, off, spot⟩ := x
    have h0 := hcell 0 (by omega)
    have hspot : spot = none := by simpa [Addr.add] using World.cell?_spot h0
    subst hspot
    have hadd : ∀ i, (⟨b, off, none⟩ : Addr).add i = ⟨b, off + i, none⟩ := by intro i; unfold Addr.add; split <;> simp_all
    have hc := hcell i (by omega)
    rw [hadd] at h0 hc
    exact ⟨b, off, rfl, World.block_lt_of_cell? W _ h0, by rw [hget i hi]; exact hc⟩
  · rw [hlen] at hi
    rw [hget i hi]
    have hi' : i < ss.length := by omega
    have : ss.getD i ByteArray.empty = ss[i] := by simp [List.getD, hi']
    rw [this]
    exact hsz _ (List.getElem_mem hi')

set_option maxRecDepth 100000 in
set_option maxHeartbeats 2000000 in
theorem lawSumOk (v : Value) (ss : List ByteArray) (w : World) (hR : Row w v ss) (hz : ∀ i, i < ss.length → (ss.getD i ByteArray.empty).size ≤ maxLen) (hV : Vars w) :
    Calls Tryd.prog 8 #[v] w fun e w' => e = .returned (.bool true) ∧ Below w.heap.size w w' := by
  have HV := Lib.hid hV
  have HR := Lib.hid hR
  have HZ := Lib.hid (szStringS_any v ss w hR hz)
  clear hV hR hz
  go_enter Tryd.func8, Tryd.ntmps8
  go_wp2_with fail
  refine HZ.out.mono ?_
  rintro e w1 ⟨rfl, rfl | ⟨y, hy, rfl, hS⟩⟩
  · go_wp2_with fail
    go_ret
    exact ⟨rfl, Below.refl _ _⟩
  · have HS := Lib.hid hS
    have hyn : ¬ y < 0 := by omega
    have hn : ss.length ≤ 1048576 := hS.1
    have hm : ss.length ≤ maxLen := by unfold maxLen; omega
    clear hS
    go_wp2_with fail
    refine (toStringS_any v ss w HR.out hn).mono ?_
    rintro e w1 ⟨rfl, hL1, hb1⟩
    go_wp2_with fail
    refine (specSumOk_any _ ss w1 (hL1.row hm) HS.out).mono ?_
    rintro e w2 ⟨rfl, hb2⟩
    have HB2 := Lib.hid (hb1.trans (hb2.mono hb1.size))
    clear hL1 hb1 hb2
    have hq : ∃ q, okSum (wsOf ss) = q := ⟨_, rfl⟩
    obtain ⟨q, hq⟩ := hq
    rw [hq]
    have HQ := Lib.hid hq
    clear hq
    go_wp2_with fail
    refine (toStringS_any v ss w2 (HR.out.below HB2.out) hn).mono ?_
    rintro e w3 ⟨rfl, hL3, hb3⟩
    have HB3 := Lib.hid (HB2.out.trans (hb3.mono HB2.out.size))
    have HL3 := Lib.hid hL3
    clear hL3 hb3
    go_wp2_with fail
    refine (implSumOk_any _ ss w3 (HL3.out.row hm) HS.out (HV.out.later HB3.out)).mono ?_
    rintro e w4 ⟨rfl, hb4⟩
    rw [HQ.out]
    have HB4 := Lib.hid (HB3.out.trans (hb4.mono HB3.out.size))
    have HL4 := Lib.hid (HL3.out.below hb4)
    clear hb4
    cases q
    all_goals
      go_wp2_with fail
      refine (toStringS_any v ss w4 (HR.out.below HB4.out) hn).mono ?_
      rintro e w5 ⟨rfl, hL5, hb5⟩
      have HB5 := Lib.hid (HB4.out.trans (hb5.mono HB4.out.size))
      have HL5 := Lib.hid (HL4.out.below hb5)
      have HN5 := Lib.hid hL5
      clear hL5 hb5
      go_wp2_with fail
      refine (eqStringS_any _ _ ss w5 (HL5.out.row hm) (HN5.out.row hm)).mono ?_
      rintro e w6 ⟨rfl, hb6⟩
      have HB6 := Lib.hid (HB5.out.trans (hb6.mono HB5.out.size))
      clear hb6
      go_wp2_with fail
      go_ret
      exact ⟨rfl, HB6.out⟩

set_option maxRecDepth 100000 in
set_option maxHeartbeats 2000000 in
theorem lawIsPlain (v : Value) (ss : List ByteArray) (w : World) (hR : Row w v ss) (hz : ∀ i, i < ss.length → (ss.getD i ByteArray.empty).size ≤ maxLen) (hV : Vars w) :
    Calls Tryd.prog 9 #[v] w fun e w' => e = .returned (.bool true) ∧ Below w.heap.size w w' := by
  have HV := Lib.hid hV
  have HR := Lib.hid hR
  have HZ := Lib.hid (szStringS_any v ss w hR hz)
  clear hV hR hz
  go_enter Tryd.func9, Tryd.ntmps9
  go_wp2_with fail
  refine HZ.out.mono ?_
  rintro e w1 ⟨rfl, rfl | ⟨y, hy, rfl, hS⟩⟩
  · go_wp2_with fail
    go_ret
    exact ⟨rfl, Below.refl _ _⟩
  · have HS := Lib.hid hS
    have hyn : ¬ y < 0 := by omega
    have hn : ss.length ≤ 1048576 := hS.1
    have hm : ss.length ≤ maxLen := by unfold maxLen; omega
    clear hS
    go_wp2_with fail
    refine (toStringS_any v ss w HR.out hn).mono ?_
    rintro e w1 ⟨rfl, hL1, hb1⟩
    go_wp2_with fail
    refine (specIsPlain_any _ ss w1 (hL1.row hm) HS.out).mono ?_
    rintro e w2 ⟨rfl, hb2⟩
    have HB2 := Lib.hid (hb1.trans (hb2.mono hb1.size))
    clear hL1 hb1 hb2
    have hq : ∃ q, plain (wsOf ss) = q := ⟨_, rfl⟩
    obtain ⟨q, hq⟩ := hq
    rw [hq]
    have HQ := Lib.hid hq
    clear hq
    go_wp2_with fail
    refine (toStringS_any v ss w2 (HR.out.below HB2.out) hn).mono ?_
    rintro e w3 ⟨rfl, hL3, hb3⟩
    have HB3 := Lib.hid (HB2.out.trans (hb3.mono HB2.out.size))
    have HL3 := Lib.hid hL3
    clear hL3 hb3
    go_wp2_with fail
    refine (implIsPlain_any _ ss w3 (HL3.out.row hm) HS.out (HV.out.later HB3.out)).mono ?_
    rintro e w4 ⟨rfl, hb4⟩
    rw [HQ.out]
    have HB4 := Lib.hid (HB3.out.trans (hb4.mono HB3.out.size))
    have HL4 := Lib.hid (HL3.out.below hb4)
    clear hb4
    cases q
    all_goals
      go_wp2_with fail
      refine (toStringS_any v ss w4 (HR.out.below HB4.out) hn).mono ?_
      rintro e w5 ⟨rfl, hL5, hb5⟩
      have HB5 := Lib.hid (HB4.out.trans (hb5.mono HB4.out.size))
      have HL5 := Lib.hid (HL4.out.below hb5)
      have HN5 := Lib.hid hL5
      clear hL5 hb5
      go_wp2_with fail
      refine (eqStringS_any _ _ ss w5 (HL5.out.row hm) (HN5.out.row hm)).mono ?_
      rintro e w6 ⟨rfl, hb6⟩
      have HB6 := Lib.hid (HB5.out.trans (hb6.mono HB5.out.size))
      clear hb6
      go_wp2_with fail
      go_ret
      exact ⟨rfl, HB6.out⟩

set_option maxRecDepth 100000 in
set_option maxHeartbeats 2000000 in
theorem lawIsStart (v : Value) (ss : List ByteArray) (x : Int) (w : World) (hR : Row w v ss) (hz : ∀ i, i < ss.length → (ss.getD i ByteArray.empty).size ≤ maxLen) (hV : Vars w) :
    Calls Tryd.prog 11 #[v, .int .i64 x] w fun e w' => e = .returned (.bool true) ∧ Below w.heap.size w w' := by
  have HV := Lib.hid hV
  have HR := Lib.hid hR
  have HZ := Lib.hid (szStringS_any v ss w hR hz)
  clear hV hR hz
  go_enter Tryd.func11, Tryd.ntmps11
  go_wp2_with fail
  refine HZ.out.mono ?_
  rintro e w1 ⟨rfl, rfl | ⟨y, hy, rfl, hS⟩⟩
  · go_wp2_with fail
    go_ret
    exact ⟨rfl, Below.refl _ _⟩
  · have HS := Lib.hid hS
    have hyn : ¬ y < 0 := by omega
    have hn : ss.length ≤ 1048576 := hS.1
    have hm : ss.length ≤ maxLen := by unfold maxLen; omega
    clear hS
    go_wp2_with fail
    refine (toStringS_any v ss w HR.out hn).mono ?_
    rintro e w1 ⟨rfl, hL1, hb1⟩
    go_wp2_with fail
    refine (specIsStart_any _ ss x w1 (hL1.row hm) HS.out).mono ?_
    rintro e w2 ⟨rfl, hb2⟩
    have HB2 := Lib.hid (hb1.trans (hb2.mono hb1.size))
    clear hL1 hb1 hb2
    have hq : ∃ q, startsI (wsOf ss) x = q := ⟨_, rfl⟩
    obtain ⟨q, hq⟩ := hq
    rw [hq]
    have HQ := Lib.hid hq
    clear hq
    go_wp2_with fail
    refine (toStringS_any v ss w2 (HR.out.below HB2.out) hn).mono ?_
    rintro e w3 ⟨rfl, hL3, hb3⟩
    have HB3 := Lib.hid (HB2.out.trans (hb3.mono HB2.out.size))
    have HL3 := Lib.hid hL3
    clear hL3 hb3
    go_wp2_with fail
    refine (implIsStart_any _ ss x w3 (HL3.out.row hm) HS.out (HV.out.later HB3.out)).mono ?_
    rintro e w4 ⟨rfl, hb4⟩
    rw [HQ.out]
    have HB4 := Lib.hid (HB3.out.trans (hb4.mono HB3.out.size))
    have HL4 := Lib.hid (HL3.out.below hb4)
    clear hb4
    cases q
    all_goals
      go_wp2_with fail
      refine (toStringS_any v ss w4 (HR.out.below HB4.out) hn).mono ?_
      rintro e w5 ⟨rfl, hL5, hb5⟩
      have HB5 := Lib.hid (HB4.out.trans (hb5.mono HB4.out.size))
      have HL5 := Lib.hid (HL4.out.below hb5)
      have HN5 := Lib.hid hL5
      clear hL5 hb5
      go_wp2_with fail
      refine (eqStringS_any _ _ ss w5 (HL5.out.row hm) (HN5.out.row hm)).mono ?_
      rintro e w6 ⟨rfl, hb6⟩
      have HB6 := Lib.hid (HB5.out.trans (hb6.mono HB5.out.size))
      clear hb6
      go_wp2_with fail
      go_ret
      exact ⟨rfl, HB6.out⟩

end L2
end Go.Proofs.YtcfniecdjbgknaaDoor
