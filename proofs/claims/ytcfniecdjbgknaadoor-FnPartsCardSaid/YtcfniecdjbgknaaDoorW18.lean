/-
  The law of chapter 2 on the parts of a sum.
-/
import Derived.Test.YtcfniecdjbgknaaDoorW14
import Derived.Test.YtcfniecdjbgknaaDoorW17
namespace Go.Proofs.YtcfniecdjbgknaaDoor
open Go.RowKit
namespace L2
open S1 L1

theorem parts_len (ws : List (List UInt8)) : (parts ws).length ≤ 3 := by
  unfold parts
  split
  · rw [row_len]; exact kids_le _ _
  · simp

set_option maxRecDepth 100000 in
set_option maxHeartbeats 4000000 in
theorem lawPartsOf (v : Value) (ss : List ByteArray) (w : World) (hR : Row w v ss) (hz : ∀ i, i < ss.length → (ss.getD i ByteArray.empty).size ≤ maxLen) (hV : Vars w) :
    Calls Tryd.prog 12 #[v] w fun e w' => e = .returned (.bool true) ∧ Below w.heap.size w w' := by
  have HV := Lib.hid hV
  have HR := Lib.hid hR
  have HZ := Lib.hid (szStringS_any v ss w hR hz)
  clear hV hR hz
  go_enter Tryd.func12, Tryd.ntmps12
  go_wp2_with fail
  refine HZ.out.mono ?_
  rintro e w1 ⟨rfl, rfl | ⟨y, hy, rfl, hS⟩⟩
  · go_wp2_with fail
    go_ret
    exact ⟨rfl, Below.refl _ _⟩
  · have HS := Lib.hid hS
    have hyn : ¬ y < 0 := by omega
    have hn : ss.length ≤ 1048576 := hS.1
    have hm : ss.length ≤ maxLen := by unfold maxLen; omega
    have hpl := parts_len (wsOf ss)
    clear hS
    obtain ⟨ps, hps⟩ : ∃ ps, parts (wsOf ss) = ps := ⟨_, rfl⟩
    rw [hps] at hpl
    have HPS := Lib.hid hps
    clear hps
    go_wp2_with fail
    refine (toStringS_any v ss w HR.out hn).mono ?_
    rintro e w1 ⟨rfl, hL1, hb1⟩
    go_wp2_with fail
    refine (specPartsOf_any _ ss w1 (hL1.row hm) HS.out).mono ?_
    rintro e w2 ⟨v0, rfl, ho, hb2⟩
    rw [HPS.out] at ho
    have HB2 := Lib.hid (hb1.trans (hb2.mono hb1.size))
    have HO2 := Lib.hid ho
    clear hL1 hb1 hb2 ho
    go_wp2_with fail
    refine (toStringS_any v ss w2 (HR.out.below HB2.out) hn).mono ?_
    rintro e w3 ⟨rfl, hL3, hb3⟩
    have HB3 := Lib.hid (HB2.out.trans (hb3.mono HB2.out.size))
    have HO3 := Lib.hid (HO2.out.below hb3)
    have HL3 := Lib.hid hL3
    have hX : w2.heap.size < w3.heap.size := hL3.lt
    have hXW : w.heap.size ≤ w2.heap.size := HB2.out.size
    clear hL3 hb3
    go_wp2_with fail
    refine (implPartsOf_any _ ss w3 (HL3.out.row hm) HS.out (HV.out.later HB3.out)).mono ?_
    rintro e w4 ⟨v4, rfl, ho4, hb4⟩
    rw [HPS.out] at ho4
    obtain ⟨G, cap, rfl, hcap, hcapm, hG3, hG4, _⟩ := ho4.form
    obtain ⟨G0, cap0, hv0, _, _, _, hG0, _⟩ := HO2.out.form
    have HV0 := Lib.hid hv0
    have HB4 := Lib.hid (HB3.out.trans (hb4.mono HB3.out.size))
    have HL4 := Lib.hid (HL3.out.below hb4)
    have HG4 := Lib.hid ho4
    have HO4 := Lib.hid (HO3.out.below hb4)
    clear hb4 ho4 hv0
    go_wp2_with fail
    refine (eqInt64S_any _ _ ps _ _ w4 HG4.out HO4.out).mono ?_
    rintro e w5 ⟨rfl, hb5⟩
    have HB5 := Lib.hid (HB4.out.trans (hb5.mono HB4.out.size))
    have HL5 := Lib.hid (HL4.out.below hb5)
    have HG5 := Lib.hid (HG4.out.below hb5)
    have HO5 := Lib.hid (HO4.out.below hb5)
    clear hb5
    go_wp2_with fail
    refine (toStringS_any v ss w5 (HR.out.below HB5.out) hn).mono ?_
    rintro e w6 ⟨rfl, hL6, hb6⟩
    have HB6 := Lib.hid (HB5.out.trans (hb6.mono HB5.out.size))
    have HL6 := Lib.hid (HL5.out.below hb6)
    have HG6 := Lib.hid (HG5.out.below hb6)
    have HO6 := Lib.hid (HO5.out.below hb6)
    have HN6 := Lib.hid hL6
    clear hL6 hb6
    go_wp2_with fail
    refine (eqStringS_any _ _ ss w6 (HL6.out.row hm) (HN6.out.row hm)).mono ?_
    rintro e w7 ⟨rfl, hb7⟩
    have HB7 := Lib.hid (HB6.out.trans (hb7.mono HB6.out.size))
    have HL7 := Lib.hid (HL6.out.below hb7)
    have HG7 := Lib.hid (HG6.out.below hb7)
    have HO7 := Lib.hid (HO6.out.below hb7)
    clear hb7
    go_wp2_with fail
    refine (markStringS_any w2.heap.size ss.length ss.length 1 w7 _ HL7.out.mem (by simp) (Nat.le_refl _) hn (by omega)).mono ?_
    rintro e w8 ⟨rfl, _, hg8⟩
    have HB8 := Lib.hid (HB7.out.grown hg8 HB7.out.size (fun q e => by injection e with e; omega))
    have HG8 : Hid (OwI w8 _ _ _) := Lib.hid (HG7.out.kept hg8 (by simp only [Value.ownBlock]; intro e; injection e with e; omega))
    have HO8 : Hid (OwI w8 _ _ _) := Lib.hid (HO7.out.kept hg8 (by rw [HV0.out]; simp only [Value.ownBlock]; intro e; injection e with e; omega))
    have h8 : ¬ ((1 + ss.length : Nat) : Int) < 0 := by omega
    have h8' : ¬ ((1 : Int) + (ss.length : Int)) < 0 := by omega
    clear hg8
    go_wp2_with fail
    refine (eqInt64S_any _ _ ps _ _ w8 HG8.out HO8.out).mono ?_
    rintro e w9 ⟨rfl, hb9⟩
    have HB9 := Lib.hid (HB8.out.trans (hb9.mono HB8.out.size))
    have HG9 := Lib.hid (HG8.out.below hb9)
    have HO9 := Lib.hid (HO8.out.below hb9)
    clear hb9
    go_wp2_with fail
    refine (markInt64S_any G ps.length cap 1 w9 _ HG9.out.mem (by simp) hcap (by omega) (by omega)).mono ?_
    rintro e w10 ⟨rfl, hM10, hg10⟩
    have HB10 := Lib.hid (HB9.out.grown hg10 HB9.out.size (fun q e => by injection e with e; omega))
    have HO10 : Hid (OwI w10 _ _ _) := Lib.hid (HO9.out.kept hg10 (by rw [HV0.out]; simp only [Value.ownBlock]; intro e; injection e with e; omega))
    have HM10 := Lib.hid hM10
    clear hg10 hM10
    go_wp2_with fail
    refine (heldInt64S_any G ps.length cap 1 w10 HM10.out hcap (by omega) (by omega)).mono ?_
    rintro e w11 ⟨rfl, rfl⟩
    have hq8 : ¬ ((1 + ps.length : Nat) : Int) < 0 := by omega
    have hq8' : ¬ ((1 : Int) + (ps.length : Int)) < 0 := by omega
    go_wp2_with fail
    refine (toStringS_any v ss w10 (HR.out.below HB10.out) hn).mono ?_
    rintro e w12 ⟨rfl, hL12, hb12⟩
    have HB12 := Lib.hid (HB10.out.trans (hb12.mono HB10.out.size))
    have HO12 := Lib.hid (HO10.out.below hb12)
    have HM12 := Lib.hid (HM10.out.below hb12)
    have HN12 := Lib.hid hL12
    clear hL12 hb12
    go_wp2_with fail
    refine (implPartsOf_any _ ss w12 (HN12.out.row hm) HS.out (HV.out.later HB12.out)).mono ?_
    rintro e w13 ⟨v13, rfl, ho13, hb13⟩
    rw [HPS.out] at ho13
    have HB13 := Lib.hid (HB12.out.trans (hb13.mono HB12.out.size))
    have HO13 := Lib.hid (HO12.out.below hb13)
    have HM13 := Lib.hid (HM12.out.below hb13)
    have HN13 := Lib.hid ho13
    clear ho13 hb13
    go_wp2_with fail
    refine (eqInt64S_any _ _ ps _ _ w13 HN13.out HO13.out).mono ?_
    rintro e w14 ⟨rfl, hb14⟩
    have HB14 := Lib.hid (HB13.out.trans (hb14.mono HB13.out.size))
    have HM14 := Lib.hid (HM13.out.below hb14)
    clear hb14
    go_wp2_with fail
    refine (heldInt64S_any G ps.length cap 1 w14 HM14.out hcap (by omega) (by omega)).mono ?_
    rintro e w15 ⟨rfl, rfl⟩
    go_wp2_with fail
    go_ret
    exact ⟨rfl, HB14.out⟩

end L2
end Go.Proofs.YtcfniecdjbgknaaDoor
