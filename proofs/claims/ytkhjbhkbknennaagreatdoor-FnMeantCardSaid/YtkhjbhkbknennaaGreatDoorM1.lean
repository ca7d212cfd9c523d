/-
  The model of what is meant: its small functions; what is bound, in memory.
-/
import Derived.Test.YtkhjbhkbknennaaGreatDoorS7
import Derived.Test.YtkhjbhkbknennaaGreatDoorGW
import Derived.Test.YtkhjbhkbknennaaGreatDoorGD
import Derived.Deep.RegionWith
namespace Go.Proofs.YtkhjbhkbknennaaGreatDoor
open Go.RowKit
namespace L2
open S1 L1

/-- What it comes to, as the model has it. -/
def outV (o : Out) (v : Value) : Value := .agg #[.int .i64 o.k, .int .i64 o.n, .bool o.thr, v, .int .i64 o.code]
/-- What the model's functions leave: what it comes to; the words that were said can be read. -/
def MeansS (o : Out) (W : World) (e : Ending) (W' : World) : Prop := ∃ oa cap, e = .returned (outV o (.slice oa o.said.length cap)) ∧ Row W' (.slice oa o.said.length cap) o.said ∧ Below W.heap.size W W'

set_option maxRecDepth 100000 in
theorem l4Wrong_any (c : Int) (W : World) : Calls Tryz.prog 96 #[.int .i64 c] W (MeansS (wrong c) W) := by
  go_enter Tryz.func96, Tryz.ntmps96
  go_wp2
  refine bodyPost_ret (v := .agg #[.int .i64 0, .int .i64 0, .bool false, .slice none 0 0, .int .i64 c]) (by simp [results, Tryz.results96, go_sem]) rfl ⟨none, 0, rfl, row_nil _, ?_⟩
  (repeat (first | (with_reducible refine Below.alloc ?_ ?_ _) | (with_reducible refine Below.setCell ?_ ?_ _) | (with_reducible refine Below.drew ?_) | (with_reducible exact Below.refl _ _) | (with_reducible refine Below.trans ?_ (Below.mono (by assumption) ?_)))) <;> (first | omega | (dsimp only; omega) | (simp; done) | (simp; omega) | (simp at *; omega))

/-- A copy of a list of words. -/
def CopiedS (ss : List ByteArray) (W : World) (e : Ending) (W' : World) : Prop := ∃ u, e = .returned u ∧ OwS W' W.heap.size u ss ∧ Below W.heap.size W W'
set_option maxRecDepth 100000 in
set_option maxHeartbeats 1000000 in
theorem l1Texts_any (v : Value) (ss : List ByteArray) (W : World) (hR : Row W v ss) (hl : ss.length ≤ 1000) : Calls Tryz.prog 42 #[v] W (CopiedS ss W) := by
  obtain ⟨oa, cap, rfl, h1, h2, h3⟩ := hR
  have hnew := owS_new W W.heap.size (Nat.le_refl _)
  have hal := (Below.refl W.heap.size W).alloc (Nat.le_refl _) (.cells #[] 9)
  have hrun : ∃ v' w', (Builtin.append_ #[24, 24] 24 #[.slice (some ⟨W.heap.size, 0, none⟩) 0 0, .slice oa ss.length cap]).run Tryz.prog (W.alloc (.cells #[] 9)) = .ok v' w' ∧ OwS w' W.heap.size v' ss ∧ (W.alloc (.cells #[] 9)).grownBy w' (some W.heap.size) := by
    cases oa with
    | none =>
      have he : ss = [] := by
        cases ss with
        | nil => rfl
        | cons a r => obtain ⟨b, off, e, _⟩ := h3 0 (by simp); cases e
      subst he
      refine ⟨.slice (some ⟨W.heap.size, 0, none⟩) 0 0, W.alloc (.cells #[] 9), ?_, hnew, D.grown_of_below (Below.refl _ _) _⟩
      simp [go_sem]
    | some ad =>
      obtain ⟨v', w', hr, ho, hg⟩ := run_appSA (W.alloc (.cells #[] 9)) W.heap.size _ [] hnew ad ss cap (fun j hj => by
        obtain ⟨b, off, e, hb, hc⟩ := h3 j hj
        injection e with e
        subst e
        have e2 : (⟨b, off, none⟩ : Addr).add j = ⟨b, off + j, none⟩ := by unfold Addr.add; split <;> simp_all
        rw [e2]
        exact (hal.cell (p := ⟨b, off + j, none⟩) hb).trans hc) (by simp; omega) hal.size
      exact ⟨v', w', hr, by simpa using ho, hg⟩
  obtain ⟨v', w', hr, ho, hg⟩ := hrun
  have hB : Below W.heap.size W w' := hal.grown hg hal.size (fun k e => by injection e with e; omega)
  have HR := Lib.hid hr
  have HO := Lib.hid ho
  have HB := Lib.hid hB
  clear hr ho hg hB hnew hal h3
  unfold maxLen at h2
  go_enter Tryz.func42, Tryz.ntmps42
  go_wp2_with (at_builtin; refine wp_app rfl _ _ rfl rfl _ _ rfl rfl HR.out ?_)
  go_ret
  exact ⟨_, rfl, HO.out, HB.out⟩

set_option maxRecDepth 100000 in
theorem worthOf_add (x : ByteArray) (a b c d : Int) (W : World) (h : (x.toList == [97, 100, 100]) = true) :
    Calls Tryz.prog 135 #[.string x, .agg #[.int .i64 a, .int .i64 b], .agg #[.int .i64 c, .int .i64 d]] W fun e W' => e = .returned (.tuple #[.agg #[.int .i64 (addG a b c d).1.1, .int .i64 (addG a b c d).1.2], .bool (addG a b c d).2]) ∧ Below W.heap.size W W' := by
  unfold addG
  simp only
  go_enter Tryz.func135, Tryz.ntmps135
  go_wp2_with fail
  refine (specAdded_any a b c d _).mono ?_
  rintro e w1 ⟨rfl, hb1⟩
  have hs1 := hb1.size
  obtain ⟨hc1, hf1⟩ := bcell hb1
  simp at hs1
  have z0 : W.heap.size + 2 < w1.heap.size := by omega
  go_wp2_with fail
  refine bodyPost_ret (v := .tuple #[.agg #[.int .i64 0, .int .i64 (addN a b c d)], .bool (numB a b && numB c d)]) (by simp [results, Tryz.results135, go_sem, *]) rfl ⟨rfl, ?_⟩
  clear hc1 hf1
  (repeat (first | (with_reducible refine Below.alloc ?_ ?_ _) | (with_reducible refine Below.setCell ?_ ?_ _) | (with_reducible refine Below.drew ?_) | (with_reducible exact Below.refl _ _) | (with_reducible refine Below.trans ?_ (Below.mono (by assumption) ?_)))) <;> (first | omega | (dsimp only; omega) | (simp; done) | (simp; omega) | (simp at *; omega))
set_option maxRecDepth 100000 in
theorem worthOf_below (x : ByteArray) (a b c d : Int) (W : World) (h0 : (x.toList == [97, 100, 100]) = false) (h : (x.toList == [98, 101, 108, 111, 119]) = true) :
    Calls Tryz.prog 135 #[.string x, .agg #[.int .i64 a, .int .i64 b], .agg #[.int .i64 c, .int .i64 d]] W fun e W' => e = .returned (.tuple #[.agg #[.int .i64 (lssG a b c d).1.1, .int .i64 (lssG a b c d).1.2], .bool (lssG a b c d).2]) ∧ Below W.heap.size W W' := by
  unfold lssG
  simp only
  go_enter Tryz.func135, Tryz.ntmps135
  go_wp2_with fail
  refine (specBelow_any a b c d _).mono ?_
  rintro e w1 ⟨rfl, hb1⟩
  have hs1 := hb1.size
  obtain ⟨hc1, hf1⟩ := bcell hb1
  simp at hs1
  have z0 : W.heap.size + 2 < w1.heap.size := by omega
  go_wp2_with fail
  refine bodyPost_ret (v := .tuple #[.agg #[.int .i64 0, .int .i64 (lssN a b c d)], .bool (numB a b && numB c d)]) (by simp [results, Tryz.results135, go_sem, *]) rfl ⟨rfl, ?_⟩
  clear hc1 hf1
  (repeat (first | (with_reducible refine Below.alloc ?_ ?_ _) | (with_reducible refine Below.setCell ?_ ?_ _) | (with_reducible refine Below.drew ?_) | (with_reducible exact Below.refl _ _) | (with_reducible refine Below.trans ?_ (Below.mono (by assumption) ?_)))) <;> (first | omega | (dsimp only; omega) | (simp; done) | (simp; omega) | (simp at *; omega))
set_option maxRecDepth 100000 in
theorem worthOf_both (x : ByteArray) (a b c d : Int) (W : World) (h0 : (x.toList == [97, 100, 100]) = false) (h1 : (x.toList == [98, 101, 108, 111, 119]) = false) (h : (x.toList == [98, 111, 116, 104]) = true) (ha : okB a b = true) (hb : okB c d = true) :
    Calls Tryz.prog 135 #[.string x, .agg #[.int .i64 a, .int .i64 b], .agg #[.int .i64 c, .int .i64 d]] W fun e W' => e = .returned (.tuple #[.agg #[.int .i64 (bothG a b c d).1.1, .int .i64 (bothG a b c d).1.2], .bool (bothG a b c d).2]) ∧ Below W.heap.size W W' := by
  unfold bothG
  simp only
  have HA := Lib.hid (fun w => specValueOk_any a b w)
  have HB := Lib.hid (fun w => specValueOk_any c d w)
  rw [ha] at HA
  rw [hb] at HB
  clear ha hb
  go_enter Tryz.func135, Tryz.ntmps135
  go_wp2_with fail
  refine (HA.out _).mono ?_
  rintro e w1 ⟨rfl, hb1⟩
  have hs1 := hb1.size
  obtain ⟨hc1, hf1⟩ := bcell hb1
  simp at hs1
  have z0 : W.heap.size + 2 < w1.heap.size := by omega
  have z1 : W.heap.size + 1 < w1.heap.size := by omega
  go_wp2_with fail
  refine (HB.out _).mono ?_
  rintro e w2 ⟨rfl, hb2⟩
  have hs2 := hb2.size
  obtain ⟨hc2, hf2⟩ := bcell hb2
  have z2 : W.heap.size + 2 < w2.heap.size := by omega
  have z3 : W.heap.size + 1 < w2.heap.size := by omega
  go_wp2_with fail
  refine bodyPost_ret (v := .tuple #[.agg #[.int .i64 c, .int .i64 d], .bool true]) (by simp [results, Tryz.results135, go_sem, *]) rfl ⟨rfl, ?_⟩
  clear hc1 hf1 hc2 hf2
  (repeat (first | (with_reducible refine Below.alloc ?_ ?_ _) | (with_reducible refine Below.setCell ?_ ?_ _) | (with_reducible refine Below.drew ?_) | (with_reducible exact Below.refl _ _) | (with_reducible refine Below.trans ?_ (Below.mono (by assumption) ?_)))) <;> (first | omega | (dsimp only; omega) | (simp; done) | (simp; omega) | (simp at *; omega))

end L2
end Go.Proofs.YtkhjbhkbknennaaGreatDoor
