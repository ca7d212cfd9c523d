/-
  The model's ask: what is bound, the topmost first.
-/
import Derived.Test.YtkhjbhkbknennaaGreatDoorM7
namespace Go.Proofs.YtkhjbhkbknennaaGreatDoor
open Go.RowKit
namespace L2
open S1 L1

/-- What was asked for lies among the first k that are bound. -/
theorem look_step {bs : Bs} {y : List UInt8} {k : Nat} (hk : k < bs.length) : lookB y (toBd (bs.take (k + 1))) = if ((bs.getD k b0).1.toList == y) = true then some (bs.getD k b0).2 else lookB y (toBd (bs.take k)) := by
  have e : bs.take (k + 1) = bs.take k ++ [bs.getD k b0] := by
    rw [List.take_add_one]
    simp [List.getD, List.getElem?_eq_getElem hk]
  rw [e, toBd_snoc, lookB]
  have c : (y == (bs.getD k b0).1.toList) = ((bs.getD k b0).1.toList == y) := by
    by_cases h : y = (bs.getD k b0).1.toList
    · subst h; rfl
    · have h' : ¬ (bs.getD k b0).1.toList = y := fun e => h e.symm
      rw [beq_eq_false_iff_ne.2 h, beq_eq_false_iff_ne.2 h']
  rw [c]

set_option maxRecDepth 100000 in
set_option maxHeartbeats 2000000 in
theorem mean_ask {W : World} {v bv sv : Value} {ss sd : List ByteArray} {bs : Bs} {i : Nat} {a b : Int} {ps : List Nat} {x y : ByteArray} (hR : Row W v ss) (hi : i + 1 < ss.length) (hx : ss.getD i ByteArray.empty = x) (hy : ss.getD (i + 1) ByteArray.empty = y) (hP : ∀ w, Below W.heap.size W w → Calls Tryz.prog 95 #[v, .int .i64 (i : Int)] w (Rowed ps w)) (hsd : Row W sv sd) (hbv : RowB W bv bs) (T0 : (x.toList == [97, 114, 103]) = false) (T1 : (x.toList == [97, 115, 107]) = true) :
    Calls Tryz.prog 41 #[v, .int .i64 (i : Int), .agg #[.int .i64 a, .int .i64 b], bv, sv] W (MeansS (askD y.toList a b (toBd bs) sd) W) := by
  have HP := Lib.hid hP
  have HSD := Lib.hid hsd
  obtain ⟨oa, ca, rfl, hv1, hv2, hv3⟩ := hR
  obtain ⟨os, cs, rfl, hs1, hs2, -⟩ := hsd
  obtain ⟨ob, cb, rfl, hb1, hb2, hb3⟩ := hbv
  obtain ⟨X, off, rfl, hX, hc⟩ := hv3 i (by omega)
  obtain ⟨X', off', e', -, hc'⟩ := hv3 (i + 1) hi
  rw [hx] at hc
  rw [hy] at hc'
  simp only [Option.some.injEq, Addr.mk.injEq] at e'
  obtain ⟨rfl, rfl, -⟩ := e'
  have HB3 := Lib.hid hb3
  obtain ⟨sl, hsl⟩ : ∃ sl, sd.length = sl := ⟨_, rfl⟩
  have HSL := Lib.hid hsl
  obtain ⟨vl, hvl⟩ : ∃ vl, ss.length = vl := ⟨_, rfl⟩
  obtain ⟨bl, hbl⟩ : ∃ bl, bs.length = bl := ⟨_, rfl⟩
  have HBL := Lib.hid hbl
  rw [hvl] at hv1 hi HP
  rw [hsl] at hs1 HSD
  rw [hbl] at hb1
  have hi0 : (0 : Int) ≤ (i : Int) := by omega
  have hil : (i : Int) < (vl : Int) := by omega
  have hXa : X < W.heap.size + 1 := by omega
  unfold maxLen at hv2 hs2 hb2
  have hj0 : (0 : Int) ≤ (i : Int) + 1 := by omega
  have hjl : (i : Int) + 1 < (vl : Int) := by omega
  rw [hvl, hsl, hbl]
  have HL := Lib.hid (show bs.take bl = bs by rw [← hbl, List.take_length])
  clear hP hv3 hx hy hsl hvl hb3 hbl
  go_enter Tryz.func41, Tryz.ntmps41
  go_wp2_with fail
  refine (HP.out _ (by (repeat (first | (with_reducible refine Below.alloc ?_ ?_ _) | (with_reducible refine Below.setCell ?_ ?_ _) | (with_reducible refine Below.drew ?_) | (with_reducible exact Below.refl _ _) | (with_reducible refine Below.trans ?_ (Below.mono (by assumption) ?_)))) <;> (first | omega | (dsimp only; omega) | (simp; done) | (simp; omega) | (simp at *; omega)))).mono ?_
  rintro e w1 ⟨pv, rfl, hO, hbz1⟩
  have hsz1 := hbz1.size
  obtain ⟨hc1, hf1⟩ := bcell hbz1
  simp at hsz1
  have z0 : W.heap.size < w1.heap.size := by omega
  have z1 : W.heap.size + 1 < w1.heap.size := by omega
  clear hO
  go_wp2_with fail
  have hbW1 : Below W.heap.size W w1 := by (repeat (first | (with_reducible refine Below.alloc ?_ ?_ _) | (with_reducible refine Below.setCell ?_ ?_ _) | (with_reducible refine Below.drew ?_) | (with_reducible exact Below.refl _ _) | (with_reducible refine Below.trans ?_ (Below.mono (by assumption) ?_)))) <;> (first | omega | (dsimp only; omega) | (simp; done) | (simp; omega) | (simp at *; omega))
  have r0 : w1.cell? ⟨W.heap.size + 1, 0, none⟩ = some (.int .i64 0) ∧ w1.cell? ⟨W.heap.size + 1, 1, none⟩ = some (.int .i64 0) ∧ w1.cell? ⟨W.heap.size + 1, 2, none⟩ = some (.bool false) ∧ w1.cell? ⟨W.heap.size + 1, 3, none⟩ = some (.slice none 0 0) ∧ w1.cell? ⟨W.heap.size + 1, 4, none⟩ = some (.int .i64 0) := by simp [hc1, go_sem]
  have rf : ∀ i, w1.frozen? ⟨W.heap.size + 1, i, none⟩ = false := by simp [hf1, go_sem]
  have hcy := (hbW1.cell (p := ⟨X, off + (i + 1), none⟩) hX).trans hc'
  have HBW := Lib.hid hbW1
  clear hc1 hf1 hbz1 hc hc' hbW1 hsz1
  go_loopw [13] (fun iv wr => ∃ k : Nat, k ≤ bl ∧ iv = .int .i64 ((k : Int) - 1) ∧ lookB y.toList (toBd bs) = lookB y.toList (toBd (bs.take k)) ∧ Below w1.heap.size w1 wr) (fun iv _ => (intOf iv + 1).toNat)
  case atStart => exact ⟨bl, Nat.le_refl _, rfl, by rw [HL.out], Below.refl _ _⟩
  case round =>
    obtain ⟨k, hk, hiv, hlk, hB⟩ := hrel
    have HBr := Lib.hid hB
    have HW := Lib.hid (HBW.out.trans (hB.mono HBW.out.size))
    have hsr := hB.size
    obtain ⟨q0, q1, q2, q3, q4⟩ := r0
    have r0 := (hB.cell (p := ⟨W.heap.size + 1, 0, none⟩) z1).trans q0
    have r1 := (hB.cell (p := ⟨W.heap.size + 1, 1, none⟩) z1).trans q1
    have r2 := (hB.cell (p := ⟨W.heap.size + 1, 2, none⟩) z1).trans q2
    have r3 := (hB.cell (p := ⟨W.heap.size + 1, 3, none⟩) z1).trans q3
    have r4 := (hB.cell (p := ⟨W.heap.size + 1, 4, none⟩) z1).trans q4
    have rg := fun i => (hB.frozen (p := ⟨W.heap.size + 1, i, none⟩) z1).trans (rf i)
    have hcyr := (hB.cell (p := ⟨X, off + (i + 1), none⟩) (show X < w1.heap.size by omega)).trans hcy
    have z2 : W.heap.size + 1 < wr.heap.size := by omega
    clear q0 q1 q2 q3 q4 rf hcy hB
    have HLK := Lib.hid hlk
    clear hlk
    cases k with
    | zero =>
      subst hiv
      have HN := Lib.hid (show askD y.toList a b (toBd bs) sd = wrong 1 by unfold askD; rw [HLK.out]; rfl)
      rw [HN.out]
      clear hcyr
      go_wp2_with fail
      refine (l4Wrong_any 1 _).mono ?_
      rintro e w2 ⟨oa2, cp2, rfl, hr2, hb2'⟩
      have hs2' := hb2'.size
      have r0 := (hb2'.cell (p := ⟨W.heap.size + 1, 0, none⟩) z2).trans r0
      have r1 := (hb2'.cell (p := ⟨W.heap.size + 1, 1, none⟩) z2).trans r1
      have r2 := (hb2'.cell (p := ⟨W.heap.size + 1, 2, none⟩) z2).trans r2
      have r3 := (hb2'.cell (p := ⟨W.heap.size + 1, 3, none⟩) z2).trans r3
      have r4 := (hb2'.cell (p := ⟨W.heap.size + 1, 4, none⟩) z2).trans r4
      have rg := fun i => (hb2'.frozen (p := ⟨W.heap.size + 1, i, none⟩) z2).trans (rg i)
      have hww := HW.out.trans (hb2'.mono HW.out.size)
      have HRR := Lib.hid hr2
      have HWW := Lib.hid hww
      clear hb2' hr2 hww
      unfold outV wrong
      simp only [List.length_nil]
      go_wp2_with fail
      refine bodyPost_ret (v := .agg #[.int .i64 0, .int .i64 0, .bool false, .slice oa2 0 cp2, .int .i64 1]) (by simp [results, Tryz.results41, go_sem, *]) rfl ?_
      rw [HN.out]
      refine means_none (o := wrong 1) rfl HRR.out ?_
      have hww := HWW.out
      (repeat (first | (with_reducible refine Below.alloc ?_ ?_ _) | (with_reducible refine Below.setCell ?_ ?_ _) | (with_reducible refine Below.drew ?_) | (with_reducible exact Below.refl _ _) | (with_reducible refine Below.trans ?_ (Below.mono (by assumption) ?_)))) <;> (first | omega | (dsimp only; omega) | (simp; done) | (simp; omega) | (simp at *; omega))
    | succ j =>
      rw [show ((j + 1 : Nat) : Int) - 1 = (j : Int) by omega] at hiv
      subst hiv
      have hjl : j < bl := by omega
      have hji : (j : Int) < (bl : Int) := by omega
      have hjp : (0 : Int) ≤ (j : Int) := by omega
      have hjb : j < bs.length := by rw [HBL.out]; exact hjl
      rcases HB3.out with h0 | ⟨Y, oy, rfl, hY, hcb⟩
      · omega
      obtain ⟨g0, g1, g2⟩ := bcs_get bs j hjb
      have hst := look_step (y := y.toList) hjb
      generalize bs.getD j b0 = z at g0 g1 g2 hst
      obtain ⟨zn, zk, zi⟩ := z
      have HW2 := HW.out
      have m0 := (HW2.cell (p := ⟨Y, oy + j * 3, none⟩) hY).trans (hcb _ _ g0)
      have m1 : wr.cell? ⟨Y, oy + j * 3 + 1, none⟩ = _ := (HW2.cell (p := ⟨Y, oy + (j * 3 + 1), none⟩) hY).trans (hcb _ _ g1)
      have m2 : wr.cell? ⟨Y, oy + j * 3 + 1 + 1, none⟩ = _ := (HW2.cell (p := ⟨Y, oy + (j * 3 + 2), none⟩) hY).trans (hcb _ _ g2)
      dsimp only at m0 m1 m2 hst
      have HST := Lib.hid hst
      clear g0 g1 g2 hcb hst HW2
      cases hq : (zn.toList == y.toList)
      · go_wp2_with fail
        go_quiet (fail)
        go_wp2_with fail
        go_roundw
        case rel => exact ⟨j, by omega, rfl, by rw [HLK.out, HST.out, hq]; rfl, by first | exact HBr.out | exact HBr.out.drew | exact HBr.out.grown (D.grown_draws _ _ none) HBr.out.size (by simp)⟩
        case measure => simp [intOf]
      · have HN := Lib.hid (show askD y.toList a b (toBd bs) sd = ⟨zk, zi, false, sd, 0⟩ by unfold askD; rw [HLK.out, HST.out, hq]; rfl)
        rw [HN.out]
        go_wp2_with fail
        go_quiet (fail)
        go_wp2_with fail
        have HQ := Lib.hid hq
        clear hq
        refine bodyPost_ret (v := .agg #[.int .i64 zk, .int .i64 zi, .bool false, .slice os sl cs, .int .i64 0]) (by simp [results, Tryz.results41, go_sem, *]) rfl ?_
        have e := HSL.out
        subst e
        refine means_old (o := ⟨zk, zi, false, sd, 0⟩) HSD.out ?_
        have hww := HW.out.grown (D.grown_draws wr nq none) HW.out.size (by simp)
        refine ((((hww.setCell ?_ _).setCell ?_ _).setCell ?_ _).setCell ?_ _).setCell ?_ _ <;> (dsimp only; omega)

end L2
end Go.Proofs.YtkhjbhkbknennaaGreatDoor
