/-
  A list of plates copied by the model; two lists of plates that are drawn.
-/
import Derived.Test.YtkhjbhkbknennaaGreatDoorQ8
import Derived.Test.YtkhjbhkbknennaaGreatDoorGC
namespace Go.Proofs.YtkhjbhkbknennaaGreatDoor
open Go.RowKit Go.Sort
namespace L2
open L1 D

theorem OwP.base {w : World} {B B' : Nat} {v : Value} {ps : List Pl} (h : OwP w B v ps) (hB : B' ≤ B) : OwP w B' v ps := by
  obtain ⟨⟨h0, h1⟩, hn⟩ := h
  refine ⟨⟨h0, ?_⟩, hn⟩
  rcases h1 with h1 | ⟨g, cap, cur, hv, hb, rest⟩
  · exact Or.inl h1
  · exact Or.inr ⟨g, cap, cur, hv, Nat.le_trans hB hb, rest⟩
set_option maxRecDepth 100000 in
set_option maxHeartbeats 1000000 in
theorem l5Copy_any {B : Nat} (v : Value) (ps : List Pl) (W : World) (hO : OwP W B v ps) (hl : ps.length ≤ 1000) :
    Calls Tryz.prog 56 #[v] W fun e w' => ∃ u, e = .returned u ∧ OwP w' W.heap.size u ps ∧ Below W.heap.size W w' := by
  obtain ⟨X, cap, rfl, h1, h2, -, hX, hc⟩ := hO.form
  have hnew := owP_new W W.heap.size (Nat.le_refl _)
  have hal := (Below.refl W.heap.size W).alloc (Nat.le_refl _) (.cells #[] 37)
  obtain ⟨i, hi, hz, hsz, hby⟩ := plt_info
  obtain ⟨v', w', hr, h5, h6, h7, h8⟩ := run_append_own_at (P := Tryz.prog) (W.alloc (.cells #[] 37)) W.heap.size 43 43 37 i _ 6 48 Tryz.underlying43 hi hz hsz hby rfl (by omega) _ 0 _ hnew.1 ⟨X, 0, none⟩ ps.length cap (pcs ps) (pcs_len ps)
    (fun j u hj => by
      rw [add0P]
      exact (hal.cell (p := ⟨X, j, none⟩) hX).trans (hc j u hj))
    (fun u hu => by
      simp only [pcs, List.mem_flatMap, List.mem_cons, List.not_mem_nil, or_false] at hu
      obtain ⟨b, _, hb⟩ := hu
      rcases hb with rfl | rfl | rfl | rfl | rfl | rfl <;> rfl) (by unfold maxLen; omega) (by omega) (by simp)
  have h6' : (W.alloc (.cells #[] 37)).grownBy w' (some W.heap.size) := h6
  have hB : Below W.heap.size W w' := hal.grown h6' hal.size (fun k e => by injection e with e; omega)
  have hQ : OwP w' W.heap.size v' ps := ⟨by simpa [pcs] using h5, fun e => by have := (h7.1 e).1; cases this⟩
  have HR := Lib.hid hr
  have HQ := Lib.hid hQ
  have HB := Lib.hid hB
  clear hr h5 h6 h7 h8 h6' hB hQ hnew hal hc hO
  unfold maxLen at h2
  go_enter Tryz.func56, Tryz.ntmps56
  go_wp2_with (at_builtin; refine wp_app rfl _ _ rfl rfl _ _ rfl rfl HR.out ?_)
  go_ret
  exact ⟨_, rfl, HQ.out, HB.out⟩

set_option maxRecDepth 100000 in
set_option maxHeartbeats 2000000 in
theorem drawSamePlates_any (v : Value) (n : Nat) (w : World) (hC : Came w v n) :
    Calls Tryz.prog 18 #[v] w fun e w' => ∃ u u' ps qs, e = .returned (.tuple #[u, u']) ∧ OwP w' w.heap.size u ps ∧ OwP w' w.heap.size u' qs ∧ ps.length ≤ 70 ∧ qs.length ≤ 70 ∧ Below w.heap.size w w' := by
  have hC' := Lib.hid hC
  clear hC
  go_enter Tryz.func18, Tryz.ntmps18
  go_wp2_with fail
  refine (l1New_any v n _ hC'.out).mono ?_
  rintro e w1 ⟨h, rfl, rfl⟩
  have HC1 := Lib.hid (cur_new w v n h)
  have HB1 := Lib.hid (hC'.out.bytes (.cells #[v, .int .i64 0, .int .i64 h] 93))
  go_wp2_with fail
  refine (l5DrawList_any _ v n _ HC1.out HB1.out).mono ?_
  rintro e w2 ⟨u, ps, rfl, hO2, hl2, hC2, hg2⟩
  have hsz : (w.alloc (.cells #[v, .int .i64 0, .int .i64 h] 93)).heap.size = w.heap.size + 1 := by simp
  rw [hsz] at hO2
  obtain ⟨g, cap, hu, -⟩ := hO2.form
  subst hu
  have HC2 := Lib.hid hC2
  have HB2 := Lib.hid (HB1.out.kept hg2)
  have HO2 := Lib.hid hO2
  have HG2 := Lib.hid hg2
  clear hC2 hO2 hg2
  go_wp2_with fail
  refine (l1Once_any _ v n 2 (by omega) (by omega) _ HC2.out HB2.out).mono ?_
  rintro e w3 ⟨q, rfl, hC3, hg3⟩
  have HC3 := Lib.hid hC3
  have HB3 := Lib.hid (HB2.out.kept hg3)
  have HO3 := Lib.hid (HO2.out.kept hg3 (fun e => by have := (World.ownsRow.lt HO2.out.1 _ e).1; omega))
  have HG3 := Lib.hid (HG2.out.trans hg3)
  have hs3 := HG3.out.size
  rw [hsz] at hs3
  clear hC3 hg3 HO2 HG2 HC2 HB2
  cases q
  · go_wp2_with fail
    refine (l5DrawList_any _ v n _ HC3.out HB3.out).mono ?_
    rintro e w4 ⟨u', qs, rfl, hO4, hl4, hC4, hg4⟩
    obtain ⟨g', cap', hu', -⟩ := hO4.form
    subst hu'
    have HO4 := Lib.hid (hO4.base (by omega : w.heap.size ≤ w3.heap.size))
    have HO5 := Lib.hid ((HO3.out.kept hg4 (fun e => by have := (World.ownsRow.lt HO3.out.1 _ e).1; omega)).base (Nat.le_succ _))
    have HG4 := Lib.hid (below_new _ _ _ (HG3.out.trans hg4))
    clear hO4 hC4 hg4
    go_wp2_with fail
    go_ret2
    exact ⟨_, _, ps, qs, rfl, HO5.out, HO4.out, hl2, hl4, HG4.out⟩
  · go_wp2_with fail
    refine (l5Copy_any _ ps _ HO3.out (by omega)).mono ?_
    rintro e w4 ⟨u', rfl, hO4, hb4⟩
    obtain ⟨g', cap', hu', -⟩ := hO4.form
    subst hu'
    have HO4 := Lib.hid (hO4.base (by omega : w.heap.size ≤ w3.heap.size))
    have hg4 := D.grown_of_below hb4 (some w.heap.size)
    have HO5 := Lib.hid ((HO3.out.kept hg4 (fun e => by have := (World.ownsRow.lt HO3.out.1 _ e).1; omega)).base (Nat.le_succ _))
    have HG4 := Lib.hid (below_new _ _ _ (HG3.out.trans hg4))
    clear hO4 hb4 hg4
    go_wp2_with fail
    go_ret2
    exact ⟨_, _, ps, ps, rfl, HO5.out, HO4.out, hl2, hl2, HG4.out⟩

end L2
end Go.Proofs.YtkhjbhkbknennaaGreatDoor
