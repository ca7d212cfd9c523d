/-
  The model's sums that have none: what is given, a number.
-/
import Derived.Test.YtkhjbhkbknennaaGreatDoorM4
import Derived.Test.YtkhjbhkbknennaaGreatDoorGY
namespace Go.Proofs.YtkhjbhkbknennaaGreatDoor
open Go.RowKit
namespace L2
open S1 L1

set_option maxRecDepth 100000 in
set_option maxHeartbeats 2000000 in
theorem mean_arg {W : World} {v bv sv : Value} {ss sd : List ByteArray} {bs : Bs} {i : Nat} {a b : Int} {ps : List Nat} {x : ByteArray} (hR : Row W v ss) (hi : i < ss.length) (hx : ss.getD i ByteArray.empty = x) (hP : ∀ w, Below W.heap.size W w → Calls Tryz.prog 95 #[v, .int .i64 (i : Int)] w (Rowed ps w)) (hsd : Row W sv sd) (hbv : RowB W bv bs) (T0 : (x.toList == [97, 114, 103]) = true) :
    Calls Tryz.prog 41 #[v, .int .i64 (i : Int), .agg #[.int .i64 a, .int .i64 b], bv, sv] W (MeansS ⟨a, b, false, sd, 0⟩ W) := by
  have HP := Lib.hid hP
  have HSD := Lib.hid hsd
  obtain ⟨oa, ca, rfl, hv1, hv2, hv3⟩ := hR
  obtain ⟨os, cs, rfl, hs1, hs2, -⟩ := hsd
  obtain ⟨ob, cb, rfl, hb1, hb2, -⟩ := hbv
  obtain ⟨X, off, rfl, hX, hc⟩ := hv3 i hi
  rw [hx] at hc
  obtain ⟨sl, hsl⟩ : ∃ sl, sd.length = sl := ⟨_, rfl⟩
  have HSL := Lib.hid hsl
  obtain ⟨vl, hvl⟩ : ∃ vl, ss.length = vl := ⟨_, rfl⟩
  generalize bs.length = bl at hb1
  rw [hvl] at hv1 hi HP
  rw [hsl] at hs1 HSD
  have hi0 : (0 : Int) ≤ (i : Int) := by omega
  have hil : (i : Int) < (vl : Int) := by omega
  have hXa : X < W.heap.size + 1 := by omega
  unfold maxLen at hv2 hs2 hb2
  rw [hvl, hsl]
  clear hP hv3 hx hsl hvl
  go_enter Tryz.func41, Tryz.ntmps41
  go_wp2_with fail
  refine (HP.out _ (by (repeat (first | (with_reducible refine Below.alloc ?_ ?_ _) | (with_reducible refine Below.setCell ?_ ?_ _) | (with_reducible refine Below.drew ?_) | (with_reducible exact Below.refl _ _) | (with_reducible refine Below.trans ?_ (Below.mono (by assumption) ?_)))) <;> (first | omega | (dsimp only; omega) | (simp; done) | (simp; omega) | (simp at *; omega)))).mono ?_
  rintro e w1 ⟨pv, rfl, hO, hbz1⟩
  have hsz1 := hbz1.size
  obtain ⟨hc1, hf1⟩ := bcell hbz1
  simp at hsz1
  have z0 : W.heap.size < w1.heap.size := by omega
  have z1 : W.heap.size + 1 < w1.heap.size := by omega
  clear hO
  go_wp2_with fail
  refine bodyPost_ret (v := .agg #[.int .i64 a, .int .i64 b, .bool false, .slice os sl cs, .int .i64 0]) (by simp [results, Tryz.results41, go_sem, *]) rfl ?_
  have e := HSL.out
  subst e
  refine means_old (o := ⟨a, b, false, sd, 0⟩) HSD.out ?_
  clear hc1 hf1
  (repeat (first | (with_reducible refine Below.alloc ?_ ?_ _) | (with_reducible refine Below.setCell ?_ ?_ _) | (with_reducible refine Below.drew ?_) | (with_reducible exact Below.refl _ _) | (with_reducible refine Below.trans ?_ (Below.mono (by assumption) ?_)))) <;> (first | omega | (dsimp only; omega) | (simp; done) | (simp; omega) | (simp at *; omega))

set_option maxRecDepth 100000 in
set_option maxHeartbeats 2000000 in
theorem mean_num {W : World} {v bv sv : Value} {ss sd : List ByteArray} {bs : Bs} {i : Nat} {a b : Int} {x : ByteArray} (hR : Row W v ss) (hi : i < ss.length) (hx : ss.getD i ByteArray.empty = x) (hxs : x.size ≤ maxLen) (hP : ∀ w, Below W.heap.size W w → Calls Tryz.prog 95 #[v, .int .i64 (i : Int)] w (Rowed [] w)) (hsd : Row W sv sd) (hbv : RowB W bv bs) (T0 : (x.toList == [97, 114, 103]) = false) (T1 : (x.toList == [97, 115, 107]) = false) :
    Calls Tryz.prog 41 #[v, .int .i64 (i : Int), .agg #[.int .i64 a, .int .i64 b], bv, sv] W (MeansS ⟨0, P1.rdN x.toList, false, sd, 0⟩ W) := by
  have HP := Lib.hid hP
  have HSD := Lib.hid hsd
  have HRD := Lib.hid (fun w => read_word x hxs w)
  obtain ⟨oa, ca, rfl, hv1, hv2, hv3⟩ := hR
  obtain ⟨os, cs, rfl, hs1, hs2, -⟩ := hsd
  obtain ⟨ob, cb, rfl, hb1, hb2, -⟩ := hbv
  obtain ⟨X, off, rfl, hX, hc⟩ := hv3 i hi
  rw [hx] at hc
  obtain ⟨sl, hsl⟩ : ∃ sl, sd.length = sl := ⟨_, rfl⟩
  have HSL := Lib.hid hsl
  obtain ⟨vl, hvl⟩ : ∃ vl, ss.length = vl := ⟨_, rfl⟩
  generalize bs.length = bl at hb1
  rw [hvl] at hv1 hi HP
  rw [hsl] at hs1 HSD
  have hi0 : (0 : Int) ≤ (i : Int) := by omega
  have hil : (i : Int) < (vl : Int) := by omega
  have hXa : X < W.heap.size + 1 := by omega
  unfold maxLen at hv2 hs2 hb2
  rw [hvl, hsl]
  obtain ⟨num, hnum⟩ : ∃ num, P1.rdN x.toList = num := ⟨_, rfl⟩
  rw [hnum] at HRD ⊢
  clear hP hv3 hx hsl hvl hnum
  go_enter Tryz.func41, Tryz.ntmps41
  go_wp2_with fail
  refine (HP.out _ (by (repeat (first | (with_reducible refine Below.alloc ?_ ?_ _) | (with_reducible refine Below.setCell ?_ ?_ _) | (with_reducible refine Below.drew ?_) | (with_reducible exact Below.refl _ _) | (with_reducible refine Below.trans ?_ (Below.mono (by assumption) ?_)))) <;> (first | omega | (dsimp only; omega) | (simp; done) | (simp; omega) | (simp at *; omega)))).mono ?_
  rintro e w1 ⟨pv, rfl, hO, hbz1⟩
  have hsz1 := hbz1.size
  obtain ⟨hc1, hf1⟩ := bcell hbz1
  simp at hsz1
  have z0 : W.heap.size < w1.heap.size := by omega
  have z1 : W.heap.size + 1 < w1.heap.size := by omega
  obtain ⟨o2, c2, rfl, -⟩ := hO.form
  clear hO
  go_wp2_with (go_at_call 58; refine (HRD.out _).mono ?_; rintro e w2 ⟨rfl, rfl⟩)
  refine bodyPost_ret (v := .agg #[.int .i64 0, .int .i64 num, .bool false, .slice os sl cs, .int .i64 0]) (by simp [results, Tryz.results41, go_sem, *]) rfl ?_
  have e := HSL.out
  subst e
  refine means_old (o := ⟨0, num, false, sd, 0⟩) HSD.out ?_
  clear hc1 hf1
  (repeat (first | (with_reducible refine Below.alloc ?_ ?_ _) | (with_reducible refine Below.setCell ?_ ?_ _) | (with_reducible refine Below.drew ?_) | (with_reducible exact Below.refl _ _) | (with_reducible refine Below.trans ?_ (Below.mono (by assumption) ?_)))) <;> (first | omega | (dsimp only; omega) | (simp; done) | (simp; omega) | (simp at *; omega))

end L2
end Go.Proofs.YtkhjbhkbknennaaGreatDoor
