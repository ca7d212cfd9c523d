/-
  The draws: values out of the bytes that came in.
-/
import Derived.Test.YtcfniecdjbgknaaDoorCur2
import Derived.Deep.RegionHeld3
import Derived.Deep.DrawnRows
import Derived.Deep.DeepCutAuto
import Derived.Deep.Light
namespace Go.Proofs.YtcfniecdjbgknaaDoor
open Go.RowKit
namespace D

/-- What a draw of one value leaves: some value, and no old block turned. -/
def DrewV (w : World) (e : Ending) (w' : World) : Prop := ∃ k x : Int, e = .returned (.agg #[.int .i64 k, .int .i64 x]) ∧ Below w.heap.size w w'
def DrewI (w : World) (e : Ending) (w' : World) : Prop := ∃ x : Int, e = .returned (.int .i64 x) ∧ Below w.heap.size w w'
def DrewVV (w : World) (e : Ending) (w' : World) : Prop := ∃ k x l y : Int, e = .returned (.tuple #[.agg #[.int .i64 k, .int .i64 x], .agg #[.int .i64 l, .int .i64 y]]) ∧ Below w.heap.size w w'

theorem Box.below {w w1 : World} {b : Nat} {x y : Value} (h : Box w b x y) (hb : Below w.heap.size w w1) : Box w1 b x y := by
  have hg : w.grownBy w1 none := ⟨hb.os, hb.tape, hb.output, hb.size, fun k hk _ => hb.block k hk⟩
  have hlt := World.block_lt_of_cell? w ⟨b, 0, none⟩ h.1.1
  exact ⟨⟨hg.cell h.1.1 (by simp), (hg.frozen_far ⟨b, 0, none⟩ hlt (by simp)).trans h.1.2⟩, ⟨hg.cell h.2.1 (by simp), (hg.frozen_far ⟨b, 1, none⟩ hlt (by simp)).trans h.2.2⟩⟩
theorem cur_new (w : World) (v : Value) (n : Nat) (h : Int) : Cur (w.alloc (.cells #[v, .int .i64 0, .int .i64 h] 83)) w.heap.size v n :=
  ⟨0, h, Nat.zero_le _, by unfold World.alloc; exact Array.getElem?_push_size⟩
theorem below_new (w w1 : World) (o : Obj) (hg : (w.alloc o).grownBy w1 (some w.heap.size)) : Below w.heap.size w w1 :=
  ((Below.refl w.heap.size w).alloc (Nat.le_refl _) o).grown hg (by simp) (fun k e => by cases e; exact Nat.le_refl _)

set_option maxRecDepth 100000 in
set_option maxHeartbeats 1000000 in
theorem drawValueOk_any (v : Value) (n : Nat) (w : World) (hC : Came w v n) : Calls Tryd.prog 57 #[v] w (DrewV w) := by
  have hC' := Lib.hid hC
  clear hC
  go_enter Tryd.func57, Tryd.ntmps57
  go_wp2_with fail
  refine (l1New_any v n _ (hC'.out.below ((Below.refl _ w).alloc (Nat.le_refl _) _))).mono ?_
  rintro e w1 ⟨h, rfl, rfl⟩
  have hsz : (w.alloc (.cells #[.int .i64 0, .int .i64 0] 25)).heap.size = w.heap.size + 1 := by simp
  have HC1 := cur_new (w.alloc (.cells #[.int .i64 0, .int .i64 0] 25)) v n h
  have HB1 := (hC'.out.below ((Below.refl _ w).alloc (Nat.le_refl _) (.cells #[.int .i64 0, .int .i64 0] 25))).bytes (.cells #[v, .int .i64 0, .int .i64 h] 83)
  rw [hsz] at HC1 HB1
  replace HC1 := Lib.hid HC1
  replace HB1 := Lib.hid HB1
  have hW1 : Below w.heap.size w ((w.alloc (.cells #[.int .i64 0, .int .i64 0] 25)).alloc (.cells #[v, .int .i64 0, .int .i64 h] 83)) := ((Below.refl _ w).alloc (Nat.le_refl _) _).alloc (by simp) _
  have hA1 : Box ((w.alloc (.cells #[.int .i64 0, .int .i64 0] 25)).alloc (.cells #[v, .int .i64 0, .int .i64 h] 83)) w.heap.size (.int .i64 0) (.int .i64 0) := ⟨⟨by simp [go_sem], by simp [go_sem]⟩, ⟨by simp [go_sem], by simp [go_sem]⟩⟩
  go_wp2_with fail
  refine (drawAny_any _ v n _ HC1.out HB1.out).mono ?_
  rintro e w3 ⟨k, x, rfl, hC3, hg3⟩
  have HC3 := Lib.hid hC3
  clear hC3
  have hA3 := hA1.kept hg3 (by omega)
  have hW3 := hW1.grown hg3 (by simp; omega) (fun k e => by cases e; omega)
  obtain ⟨⟨a0, f0⟩, ⟨a1, f1⟩⟩ := hA3
  go_wp2
  refine bodyPost_ret (v := .agg #[.int .i64 k, .int .i64 x]) (by simp [results, Tryd.results57, go_sem, a0, a1]) rfl ⟨_, _, rfl, ?_⟩
  exact (hW3.setCell (by simp) _).setCell (by simp) _

set_option maxRecDepth 100000 in
set_option maxHeartbeats 1000000 in
theorem drawShowValue_any (v : Value) (n : Nat) (w : World) (hC : Came w v n) : Calls Tryd.prog 14 #[v] w (DrewV w) := by
  have hC' := Lib.hid hC
  clear hC
  go_enter Tryd.func14, Tryd.ntmps14
  go_wp2_with fail
  refine (drawValueOk_any v n _ (hC'.out.below ((Below.refl _ w).alloc (Nat.le_refl _) _))).mono ?_
  rintro e w1 ⟨k, x, rfl, hb⟩
  have hb' : Below w.heap.size w w1 := ((Below.refl _ w).alloc (Nat.le_refl _) _).trans (hb.mono (by simp))
  have hlt : w.heap.size < (w.alloc (.cells #[.int .i64 0, .int .i64 0] 25)).heap.size := by simp
  obtain ⟨⟨a0, f0⟩, ⟨a1, f1⟩⟩ := (box_new w (.int .i64 0) (.int .i64 0) 25).below hb
  clear hb
  go_wp2
  refine bodyPost_ret (v := .agg #[.int .i64 k, .int .i64 x]) (by simp [results, Tryd.results14, go_sem, a0, a1]) rfl ⟨_, _, rfl, ?_⟩
  exact (hb'.setCell (by simp) _).setCell (by simp) _

set_option maxRecDepth 100000 in
set_option maxHeartbeats 1000000 in
theorem drawNumber_any (v : Value) (n : Nat) (w : World) (hC : Came w v n) : Calls Tryd.prog 21 #[v] w (DrewI w) := by
  have hC' := Lib.hid hC
  clear hC
  go_enter Tryd.func21, Tryd.ntmps21
  go_wp2_with fail
  refine (l1New_any v n _ hC'.out).mono ?_
  rintro e w1 ⟨h, rfl, rfl⟩
  go_wp2_with fail
  refine (drawAny_any _ v n _ (cur_new w v n h) (hC'.out.bytes _)).mono ?_
  rintro e w2 ⟨k, x, rfl, hC2, hg2⟩
  have HC2 := Lib.hid hC2
  clear hC2
  have hfd : ∀ w : World, Sem.run Tryd.prog (Instr.field 25 (.agg #[.int .i64 k, .int .i64 x]) 1) w = .ok (.int .i64 x) w := fun _ => by kernel_rfl
  go_wp2
  go_ret
  exact ⟨_, rfl, below_new _ _ _ hg2⟩

/-- What is held while the second value is drawn. -/
structure Pack (w : World) (p : Nat) (v : Value) (n : Nat) (w' : World) : Prop where
  c : Cur w' p v n
  b : Bytes w' p v n
  w : Below w.heap.size w w'
theorem Pack.drew {w : World} {p : Nat} {v : Value} {n : Nat} {w' : World} (h : Pack w p v n w') : Pack w p v n w'.drew := ⟨h.c, h.b, h.w.drew⟩
theorem Pack.kept {w : World} {v : Value} {n : Nat} {w' w1 : World} (h : Pack w (w.heap.size + 1 + 1) v n w') (hc : Cur w1 (w.heap.size + 1 + 1) v n) (hg : w'.grownBy w1 (some (w.heap.size + 1 + 1))) : Pack w (w.heap.size + 1 + 1) v n w1 :=
  ⟨hc, h.b.kept hg, h.w.grown hg h.w.size (fun k e => by cases e; omega)⟩
theorem Pack.setCell {w : World} {v : Value} {n : Nat} {w' : World} (h : Pack w (w.heap.size + 1 + 1) v n w') (a : Addr) (u : Value) (h1 : w.heap.size ≤ a.block) (h2 : a.block ≤ w.heap.size + 1) (hN : 0 < n → ∀ b off cap, v = .slice (some ⟨b, off, none⟩) n cap → b < w.heap.size) : Pack w (w.heap.size + 1 + 1) v n (w'.setCell a u) := by
  refine ⟨h.c.setCell a u (by omega), ?_, h.w.setCell h1 u⟩
  rcases h.b with hh | hh | ⟨b, off, cap, hv, q1, q2, q3, q4, q5⟩
  · exact Or.inl hh
  · exact Or.inr (Or.inl hh)
  · refine Or.inr (Or.inr ⟨b, off, cap, hv, q1, q2, by simpa [World.setCell] using q3, q4, fun i hi => ?_⟩)
    obtain ⟨z, z0, z1, hz⟩ := q5 i hi
    exact ⟨z, z0, z1, (World.cell?_setCell_far _ _ _ _ (by have := hN (by omega) b off cap hv; simp; omega)).trans hz⟩
theorem below_of_none {a b : World} (h : a.grownBy b none) : Below a.heap.size a b := ⟨h.os, h.tape, h.output, h.size, fun k hk => h.block k hk (by simp)⟩

set_option maxRecDepth 100000 in
set_option maxHeartbeats 1000000 in
theorem drawAdded_any (v : Value) (n : Nat) (w : World) (hC : Came w v n) : Calls Tryd.prog 18 #[v] w (DrewVV w) := by
  have hC' := Lib.hid hC
  clear hC
  go_enter Tryd.func18, Tryd.ntmps18
  go_wp2_with fail
  refine (l1New_any v n _ (hC'.out.below (((Below.refl _ w).alloc (Nat.le_refl _) _).alloc (by simp) _))).mono ?_
  rintro e w1 ⟨h, rfl, rfl⟩
  have hsz : ((w.alloc (.cells #[.int .i64 0, .int .i64 0] 25)).alloc (.cells #[.int .i64 0, .int .i64 0] 25)).heap.size = w.heap.size + 1 + 1 := by simp
  have HC1 := cur_new ((w.alloc (.cells #[.int .i64 0, .int .i64 0] 25)).alloc (.cells #[.int .i64 0, .int .i64 0] 25)) v n h
  have HB1 := (hC'.out.below (((Below.refl _ w).alloc (Nat.le_refl _) (.cells #[.int .i64 0, .int .i64 0] 25)).alloc (by simp) (.cells #[.int .i64 0, .int .i64 0] 25))).bytes (.cells #[v, .int .i64 0, .int .i64 h] 83)
  rw [hsz] at HC1 HB1
  replace HC1 := Lib.hid HC1
  replace HB1 := Lib.hid HB1
  have hW1 : w.grownBy (((w.alloc (.cells #[.int .i64 0, .int .i64 0] 25)).alloc (.cells #[.int .i64 0, .int .i64 0] 25)).alloc (.cells #[v, .int .i64 0, .int .i64 h] 83)) none := ((World.grownBy_alloc w _ none).trans (World.grownBy_alloc _ _ none)).trans (World.grownBy_alloc _ _ none)
  have hA1 : Box (((w.alloc (.cells #[.int .i64 0, .int .i64 0] 25)).alloc (.cells #[.int .i64 0, .int .i64 0] 25)).alloc (.cells #[v, .int .i64 0, .int .i64 h] 83)) w.heap.size (.int .i64 0) (.int .i64 0) := ⟨⟨by simp [go_sem], by simp [go_sem]⟩, ⟨by simp [go_sem], by simp [go_sem]⟩⟩
  have hB1 : Box (((w.alloc (.cells #[.int .i64 0, .int .i64 0] 25)).alloc (.cells #[.int .i64 0, .int .i64 0] 25)).alloc (.cells #[v, .int .i64 0, .int .i64 h] 83)) (w.heap.size + 1) (.int .i64 0) (.int .i64 0) := ⟨⟨by simp [go_sem], by simp [go_sem]⟩, ⟨by simp [go_sem], by simp [go_sem]⟩⟩
  go_wp2_with fail
  refine (drawAny_any _ v n _ HC1.out HB1.out).mono ?_
  rintro e w2 ⟨k, x, rfl, hC2, hg2⟩
  have HC2 := Lib.hid hC2
  have HB2 := Lib.hid (HB1.out.kept hg2)
  have HC3 := Lib.hid (hC2.alloc (.cells #[.int .i64 k, .int .i64 x] 25))
  have HB3 := Lib.hid (HB2.out.kept (World.grownBy_alloc w2 (.cells #[.int .i64 k, .int .i64 x] 25) (some (w.heap.size + 1 + 1))))
  clear hC2
  have hs2 := HC2.out.lt
  have hA2 := hA1.kept hg2 (by omega)
  have hB2 := hB1.kept hg2 (by omega)
  clear hA1 hB1
  have hg2' : w2.grownBy (w2.alloc (.cells #[.int .i64 k, .int .i64 x] 25)) (some (w.heap.size + 1 + 1)) := World.grownBy_alloc _ _ _
  have hA3 := hA2.kept hg2' (by omega)
  have hB3 := hB2.kept hg2' (by omega)
  have hW3 : Below w.heap.size w (w2.alloc (.cells #[.int .i64 k, .int .i64 x] 25)) := (below_of_none hW1).grown (hg2.trans hg2') (by simp; omega) (fun k e => by cases e; omega)
  have hN3 := box_new w2 (.int .i64 k) (.int .i64 x) 25
  have HH : Pack w (w.heap.size + 1 + 1) v n _ := ⟨HC3.out, HB3.out, hW3⟩
  obtain ⟨⟨n0, _⟩, ⟨n1, _⟩⟩ := hN3
  have hneN : w2.heap.size ≠ w.heap.size + 1 + 1 := by omega
  have hN : Hid (0 < n → ∀ b off cap, v = .slice (some ⟨b, off, none⟩) n cap → b < w.heap.size) := by
    intro h0 b off cap hv
    rcases hC'.out with ⟨hh, _⟩ | ⟨_, _, _, hh⟩ | ⟨b', off', cap', hh, _, _, hlt, _⟩
    · rw [hh] at hv; cases hv
    · omega
    · rw [hh] at hv; cases hv; exact hlt
  have hsN : w2.heap.size ≠ w.heap.size := by omega
  have hsM : w2.heap.size ≠ w.heap.size + 1 := by omega
  clear hA2 hB2 hW3 HC3 HB3 hg2' HC1 HB1 hW1 hg2 HC2 HB2 hC'
  go_upto_region 3 with fail
  go_region_held3 (fun w' => w'.cell? ⟨w2.heap.size, 0, none⟩ = some (.int .i64 k) ∧ w'.cell? ⟨w2.heap.size, 1, none⟩ = some (.int .i64 x) ∧ Pack w (w.heap.size + 1 + 1) v n w')
    (((try dsimp only); refine ⟨?_, ?_, ?_⟩ <;> first | (with_reducible assumption) | (with_reducible refine Pack.setCell (Pack.setCell ?_ _ _ ?_ ?_ hN.out) _ _ ?_ ?_ hN.out; (first | (with_reducible assumption) | (go_split_ands; with_reducible assumption)); all_goals (simp; done)) | (with_reducible refine Eq.trans (World.cell?_setCell_far _ _ _ _ ?_) (Eq.trans (World.cell?_setCell_far _ _ _ _ ?_) ?_); (simp; omega); (simp; omega); (first | (with_reducible assumption) | (go_split_ands; with_reducible assumption))) | exact n0 | exact n1 | exact Pack.drew HH))
    ((go_at_call 66; go_split_ands; refine (drawAny_any _ v n _ (Pack.c (by with_reducible assumption)) (Pack.b (by with_reducible assumption))).mono ?_; rintro e w3 ⟨l, y, rfl, hC4, hg4⟩
      have HP := Pack.kept (by with_reducible assumption) hC4 hg4
      have m0 := hg4.cell (a := ⟨w2.heap.size, 0, none⟩) (by with_reducible assumption) (by intro e; exact hneN (Option.some.inj e))
      have m1 := hg4.cell (a := ⟨w2.heap.size, 1, none⟩) (by with_reducible assumption) (by intro e; exact hneN (Option.some.inj e))
      have hA4 := hA3.kept ((grown_draws _ 1 _).trans hg4) (by omega)
      have hB4 := hB3.kept ((grown_draws _ 1 _).trans hg4) (by omega)
      obtain ⟨⟨a0, f0⟩, ⟨a1, f1⟩⟩ := hA4
      obtain ⟨⟨b0, e0⟩, ⟨b1, e1⟩⟩ := hB4
      clear hC4 hg4))
  have hW4 := HP.w
  go_split_ands
  clear m0 m1 HP
  go_wp2_with fail
  refine bodyPost_ret (v := .tuple #[.agg #[.int .i64 k, .int .i64 x], .agg #[.int .i64 l, .int .i64 y]]) (by simp [results, Tryd.results18, go_sem, a0, a1, b0, b1]) rfl ⟨_, _, _, _, rfl, ?_⟩
  exact (((hW4.setCell (by simp) _).setCell (by simp) _).setCell (by simp) _).setCell (by simp) _

set_option maxRecDepth 100000 in
set_option maxHeartbeats 1000000 in
theorem drawIsNothing_any (v : Value) (n : Nat) (w : World) (hC : Came w v n) : Calls Tryd.prog 23 #[v] w (DrewV w) := by
  have hC' := Lib.hid hC
  clear hC
  go_enter Tryd.func23, Tryd.ntmps23
  go_wp2_with fail
  refine (l1New_any v n _ (hC'.out.below ((Below.refl _ w).alloc (Nat.le_refl _) _))).mono ?_
  rintro e w1 ⟨h, rfl, rfl⟩
  have hsz : (w.alloc (.cells #[.int .i64 0, .int .i64 0] 25)).heap.size = w.heap.size + 1 := by simp
  have HC1 := cur_new (w.alloc (.cells #[.int .i64 0, .int .i64 0] 25)) v n h
  have HB1 := (hC'.out.below ((Below.refl _ w).alloc (Nat.le_refl _) (.cells #[.int .i64 0, .int .i64 0] 25))).bytes (.cells #[v, .int .i64 0, .int .i64 h] 83)
  rw [hsz] at HC1 HB1
  replace HC1 := Lib.hid HC1
  replace HB1 := Lib.hid HB1
  have hW1 : Below w.heap.size w ((w.alloc (.cells #[.int .i64 0, .int .i64 0] 25)).alloc (.cells #[v, .int .i64 0, .int .i64 h] 83)) := ((Below.refl _ w).alloc (Nat.le_refl _) _).alloc (by simp) _
  have hA1 : Box ((w.alloc (.cells #[.int .i64 0, .int .i64 0] 25)).alloc (.cells #[v, .int .i64 0, .int .i64 h] 83)) w.heap.size (.int .i64 0) (.int .i64 0) := ⟨⟨by simp [go_sem], by simp [go_sem]⟩, ⟨by simp [go_sem], by simp [go_sem]⟩⟩
  go_wp2_with fail
  refine (l1Once_any _ v n 2 (by omega) (by omega) _ HC1.out HB1.out).mono ?_
  rintro e w2 ⟨q, rfl, hC2, hg2⟩
  have HC2 := Lib.hid hC2
  have HB2 := Lib.hid (HB1.out.kept hg2)
  clear hC2
  have hA2 := hA1.kept hg2 (by omega)
  have hW2 := hW1.grown hg2 (by simp; omega) (fun k e => by cases e; omega)
  have hs2 := HC2.out.lt
  clear hA1
  cases q
  · go_wp2_with fail
    refine (drawAny_any _ v n _ HC2.out HB2.out).mono ?_
    rintro e w3 ⟨k, x, rfl, hC3, hg3⟩
    have HC3 := Lib.hid hC3
    clear hC3
    have hA3 := hA2.kept hg3 (by omega)
    have hW3 := hW2.grown hg3 (by omega) (fun k e => by cases e; omega)
    obtain ⟨⟨a0, f0⟩, ⟨a1, f1⟩⟩ := hA3
    go_wp2
    refine bodyPost_ret (v := .agg #[.int .i64 k, .int .i64 x]) (by simp [results, Tryd.results23, go_sem, a0, a1]) rfl ⟨_, _, rfl, ?_⟩
    exact (hW3.setCell (by simp) _).setCell (by simp) _
  · obtain ⟨⟨a0, f0⟩, ⟨a1, f1⟩⟩ := hA2
    go_wp2
    refine bodyPost_ret (v := .agg #[.int .i64 0, .int .i64 0]) (by simp [results, Tryd.results23, go_sem, a0, a1]) rfl ⟨_, _, rfl, ?_⟩
    exact (hW2.setCell (by simp) _).setCell (by simp) _

end D
end Go.Proofs.YtcfniecdjbgknaaDoor
