/-
  The walk of the law on values.
-/
import Derived.Test.YtcmijbjhienfoaaDoorV1
import Derived.Test.YtcmijbjhienfoaaDoorCur6
import Derived.Lib.QuietBelow
namespace Go.Proofs.YtcmijbjhienfoaaDoor
open Go.RowKit Go.Sort
namespace D

/-- The boxes that the law has made: where, and what they hold. -/
def Boxes (w : World) (l : List (Nat × Value × Value)) : Prop := ∀ t ∈ l, Box w t.1 t.2.1 t.2.2
theorem Boxes.below {w w1 : World} {l : List (Nat × Value × Value)} (h : Boxes w l) (hb : Below w.heap.size w w1) : Boxes w1 l := fun t ht => (h t ht).below hb
theorem Boxes.new {w : World} {l : List (Nat × Value × Value)} (h : Boxes w l) (x y : Value) (t : TypeId) : Boxes (w.alloc (.cells #[x, y] t)) ((w.heap.size, x, y) :: l) := by
  intro u hu
  rcases List.mem_cons.1 hu with rfl | hu
  · exact box_new w x y t
  · exact (h u hu).below ((Below.refl _ w).alloc (Nat.le_refl _) _)
theorem Boxes.get {w : World} {l : List (Nat × Value × Value)} (h : Boxes w l) (b : Nat) (x y : Value) (hm : (b, x, y) ∈ l) : w.cell? ⟨b, 0, none⟩ = some x ∧ w.cell? ⟨b, 1, none⟩ = some y :=
  ⟨(h _ hm).1.1, (h _ hm).2.1⟩

/-- What the law holds between its statements. -/
structure Hold (w0 : World) (v : Value) (n : Nat) (l : List (Nat × Value × Value)) (w : World) : Prop where
  b : Boxes w l
  w : Below w0.heap.size w0 w
theorem Hold.below {w0 w w1 : World} {v : Value} {n : Nat} {l : List (Nat × Value × Value)} (h : Hold w0 v n l w) (hb : Below w.heap.size w w1) : Hold w0 v n l w1 := ⟨h.b.below hb, h.w.trans (hb.mono h.w.size)⟩
theorem Hold.new {w0 w : World} {v : Value} {n : Nat} {l : List (Nat × Value × Value)} (h : Hold w0 v n l w) (x y : Value) (t : TypeId) : Hold w0 v n ((w.heap.size, x, y) :: l) (w.alloc (.cells #[x, y] t)) := ⟨h.b.new x y t, h.w.alloc h.w.size _⟩

theorem bytes_back (tb : ByteArray) : (ByteArray.mk tb.data.toList.toArray) = tb := by cases tb; simp
theorem read_shown {k n : Int} (ho : L1.okB k n = true) (W : World) (hW : L1.Vars W) :
    Calls Tryd.prog 10 #[.string ⟨(L1.showB k n).toArray⟩] W fun e w' => e = .returned (.tuple #[.agg #[.int .i64 k, .int .i64 n], .bool true]) ∧ Below W.heap.size W w' := by
  have hl := showB_len k n
  have h := L1.implRead_any ⟨(L1.showB k n).toArray⟩ (by simp [ByteArray.size]; omega) W hW
  have r := L1.read_show ho
  have e1 : L1.rvOk (ByteArray.mk (L1.showB k n).toArray).data.toList = true := r.1
  have e2 : L1.rvK (ByteArray.mk (L1.showB k n).toArray).data.toList = k := r.2.1
  have e3 : L1.rvN (ByteArray.mk (L1.showB k n).toArray).data.toList = n := r.2.2
  rw [e1, e2, e3] at h
  exact h
theorem shown_some {k n : Int} (ho : L1.okB k n = true) : (L1.showB k n).isEmpty = false := by
  cases h : (L1.showB k n).isEmpty
  · rfl
  · have h2 : L1.showB k n = [] := by simpa using h
    have h3 := L1.show_empty k n
    rw [h2, ho] at h3
    simp at h3
theorem shown_none {k n : Int} (ho : L1.okB k n = false) : L1.showB k n = [] := by unfold L1.showB; rw [ho]; rfl
theorem vars_below {w w' : World} (h : L1.Vars w) (hb : Below w.heap.size w w') : L1.Vars w' := fun w'' hb'' => h w'' (hb.trans (hb''.mono hb.size))

set_option maxRecDepth 100000 in
set_option maxHeartbeats 4000000 in
theorem lawValues (v : Value) (n : Nat) (w : World) (hC : Came w v n) (hV : L1.Vars w) :
    Calls Tryd.prog 3 #[v] w fun e w' => e = .returned (.bool true) ∧ Below w.heap.size w w' := by
  have hC' := Lib.hid hC
  have hV' := Lib.hid hV
  clear hC hV
  by_cases hn : 4096 < n
  · go_enter Tryd.func3, Tryd.ntmps3
    go_wp2_with fail
    refine (big_any v n _ hC'.out).mono ?_
    rintro e w1 ⟨rfl, hw⟩
    rw [hw]
    clear hw w1
    simp only [hn, decide_true]
    go_wp2_with fail
    go_ret
    exact ⟨rfl, Below.refl _ _⟩
  · go_enter Tryd.func3, Tryd.ntmps3
    go_wp2_with fail
    refine (big_any v n _ hC'.out).mono ?_
    rintro e w1 ⟨rfl, hw⟩
    rw [hw]
    clear hw w1
    simp only [hn, decide_false]
    go_wp2_with fail
    refine (drawShowValue_any v n _ hC'.out).mono ?_
    rintro e w1 ⟨k1, n1, rfl, hb1⟩
    have H0 : Hold w1 v n [] w1 := ⟨(by intro t ht; cases ht), Below.refl _ _⟩
    have H1 : Hold w v n [(w1.heap.size, .int .i64 k1, .int .i64 n1)] (w1.alloc (.cells #[.int .i64 k1, .int .i64 n1] 25)) := ⟨H0.b.new _ _ _, hb1.alloc hb1.size _⟩
    go_wp2_with fail
    refine (L1.implShow_any k1 n1 _ ((hV'.out _ H1.w).1)).mono ?_
    rintro e w2 ⟨rfl, hb2⟩
    have H2 := H1.below hb2
    clear hb2 H1 H0 hb1
    go_wp2_with fail
    refine (drawReadValue_any bends v n _ (hC'.out.below H2.w)).mono ?_
    rintro e w3 ⟨tb, rfl, htb, hb3⟩
    have H3 := H2.below hb3
    clear hb3 H2
    go_wp2_with fail
    refine (L1.implRead_any tb (by omega) _ (vars_below hV'.out H3.w)).mono ?_
    rintro e w4 ⟨rfl, hb4⟩
    have H4 := (H3.below hb4).new (.int .i64 (L1.rvK tb.data.toList)) (.int .i64 (L1.rvN tb.data.toList)) 25
    clear hb4 H3
    go_wp2_with fail
    refine (drawAdded_any v n _ (hC'.out.below H4.w)).mono ?_
    rintro e w5 ⟨ka, na, kb, nb, rfl, hb5⟩
    have H5 := H4.below hb5
    clear hb5 H4
    go_wp2_with fail
    have H5 := (H5.new (.int .i64 ka) (.int .i64 na) 25).new (.int .i64 kb) (.int .i64 nb) 25
    rw [World.size_alloc] at H5
    refine (L1.implAdded_any ka na kb nb _).mono ?_
    rintro e w6 ⟨rfl, hb6⟩
    have H6 := (H5.below hb6).new (.int .i64 0) (.int .i64 (L1.addN ka na kb nb)) 25
    clear hb6 H5
    obtain ⟨a0, a1⟩ := H6.b.get w5.heap.size (.int .i64 ka) (.int .i64 na) (by simp)
    obtain ⟨c0, c1⟩ := H6.b.get (w5.heap.size + 1) (.int .i64 kb) (.int .i64 nb) (by simp)
    go_wp2_with fail
    refine (L1.implBelow_any ka na kb nb _).mono ?_
    rintro e w7 ⟨rfl, hb7⟩
    have H7 := (H6.below hb7).new (.int .i64 0) (.int .i64 (L1.lssN ka na kb nb)) 25
    clear hb7 H6 a0 a1 c0 c1
    go_wp2_with fail
    refine (drawNumber_any v n _ (hC'.out.below H7.w)).mono ?_
    rintro e w8 ⟨nn, rfl, hb8⟩
    have H8 := H7.below hb8
    clear hb8 H7
    go_wp2_with fail
    refine (L1.implNumber_any nn _).mono ?_
    rintro e w9 ⟨rfl, hb9⟩
    have H9 := (H8.below hb9).new (.int .i64 0) (.int .i64 (L1.clampI nn)) 25
    clear hb9 H8
    go_wp2_with fail
    refine (drawIsNothing_any v n _ (hC'.out.below H9.w)).mono ?_
    rintro e w10 ⟨kz, nz, rfl, hb10⟩
    have H10 := (H9.below hb10).new (.int .i64 kz) (.int .i64 nz) 25
    clear hb10 H9
    go_wp2_with fail
    refine (L1.specRead_any tb (by unfold maxLen; omega) _).mono ?_
    rintro e w11 ⟨rfl, hb11⟩
    have H11 := (H10.below hb11).new (.int .i64 (L1.rvK tb.data.toList)) (.int .i64 (L1.rvN tb.data.toList)) 25
    clear hb11 H10
    go_wp2_with fail
    obtain ⟨x0, x1⟩ := H11.b.get w4.heap.size (.int .i64 (L1.rvK tb.data.toList)) (.int .i64 (L1.rvN tb.data.toList)) (by simp)
    obtain ⟨y0, y1⟩ := H11.b.get w11.heap.size (.int .i64 (L1.rvK tb.data.toList)) (.int .i64 (L1.rvN tb.data.toList)) (by simp)
    obtain ⟨v0, v1⟩ := H11.b.get w1.heap.size (.int .i64 k1) (.int .i64 n1) (by simp)
    obtain ⟨t0, t1⟩ := H11.b.get w9.heap.size (.int .i64 0) (.int .i64 (L1.clampI nn)) (by simp)
    obtain ⟨z0, z1⟩ := H11.b.get w10.heap.size (.int .i64 kz) (.int .i64 nz) (by simp)
    generalize (w11.alloc (.cells #[.int .i64 (L1.rvK tb.data.toList), .int .i64 (L1.rvN tb.data.toList)] 25)) = W at H11 x0 x1 y0 y1 v0 v1 t0 t1 z0 z1 ⊢
    have x0' := cell_regrown x0
    have x1' := cell_regrown x1
    have y0' := cell_regrown y0
    have y1' := cell_regrown y1
    have v0' := cell_regrown v0
    have v1' := cell_regrown v1
    have t0' := cell_regrown t0
    have t1' := cell_regrown t1
    have z0' := cell_regrown z0
    have z1' := cell_regrown z1
    have cS := fun d os => Calls.regrown_of (d := d) (os := os) (L1.specShow_any k1 n1 (grow (redrawn W d) os))
    have cI := fun d os => Calls.regrown_of (d := d) (os := os) (L1.implValueOk_any k1 n1 (grow (redrawn W d) os))
    have cJ := fun d os => Calls.regrown_of (d := d) (os := os) (L1.specValueOk_any k1 n1 (grow (redrawn W d) os))
    have cN := fun d os => Calls.regrown_of (d := d) (os := os) (L1.specNumber_any nn (grow (redrawn W d) os))
    have cY := fun d os => Calls.regrown_of (d := d) (os := os) (L1.implIsNothing_any kz nz (grow (redrawn W d) os))
    have cZ := fun d os => Calls.regrown_of (d := d) (os := os) (L1.specIsNothing_any kz nz (grow (redrawn W d) os))
    refine wp_region_quiet_below (by kernel_rfl) (by kernel_rfl) ?_
    repeat (quiet_step (first | exact cS _ _ | exact cI _ _ | exact cJ _ _ | exact cN _ _ | exact cY _ _ | exact cZ _ _))
    refine wpQuiet_nil ?_
    intro _ hw'
    obtain ⟨⟨dq, osq⟩, hw''⟩ := hw'
    have HQ := H11.below (below_regrown W dq osq)
    rw [← hw''] at HQ
    clear hw'' H11 cS cI cJ cN cY cZ x0 x1 y0 y1 v0 v1 t0 t1 z0 z1 x0' x1' y0' y1' v0' v1' t0' t1' z0' z1'
    have cA := L1.specAdded_any ka na kb nb
    have cB := L1.specBelow_any ka na kb nb
    have hq : (L1.numB ka na && L1.numB kb nb) = false ∨ ((L1.numB ka na && L1.numB kb nb) = true ∧ L1.lssN ka na kb nb = 1 ∧ na < nb) ∨ ((L1.numB ka na && L1.numB kb nb) = true ∧ L1.lssN ka na kb nb = 0 ∧ ¬ na < nb) := by
      cases hnum : (L1.numB ka na && L1.numB kb nb)
      · exact Or.inl rfl
      · have hl : L1.lssN ka na kb nb = if na < nb then 1 else 0 := by unfold L1.lssN; rw [hnum, if_pos rfl]
        by_cases hlt : na < nb
        · exact Or.inr (Or.inl ⟨rfl, by rw [hl, if_pos hlt], hlt⟩)
        · exact Or.inr (Or.inr ⟨rfl, by rw [hl, if_neg hlt], hlt⟩)
    have hsum : (L1.numB ka na && L1.numB kb nb) = true → L1.okB 0 (L1.addN ka na kb nb) = true := L1.sum_ok
    generalize (L1.numB ka na && L1.numB kb nb) = nums at cA cB hq hsum ⊢
    generalize L1.lssN ka na kb nb = less at HQ cB hq ⊢
    generalize L1.addN ka na kb nb = sum at HQ cA hsum ⊢
    obtain ⟨a0, a1⟩ := HQ.b.get w5.heap.size (.int .i64 ka) (.int .i64 na) (by simp)
    obtain ⟨c0, c1⟩ := HQ.b.get (w5.heap.size + 1) (.int .i64 kb) (.int .i64 nb) (by simp)
    go_wp2_with fail
    refine (cA _).mono ?_
    rintro e w12 ⟨rfl, hb12⟩
    have H12 := (HQ.below hb12).new (.int .i64 0) (.int .i64 sum) 25
    clear hb12 HQ a0 a1 c0 c1 cA
    have Hq : Hid (∀ W l, Hold w v n l W → (w7.heap.size, Value.int .i64 0, Value.int .i64 less) ∈ l → W.cell? ⟨w7.heap.size, 0, none⟩ = some (.int .i64 0) ∧ W.cell? ⟨w7.heap.size, 1, none⟩ = some (.int .i64 less)) := fun W l h hm => h.b.get _ _ _ hm
    have Hn : Hid (∀ W l, Hold w v n l W → Hold w v n ((W.heap.size, .int .i64 0, .int .i64 less) :: l) (W.alloc (.cells #[.int .i64 0, .int .i64 less] 25))) := fun W l h => h.new _ _ _
    rcases hq with rfl | ⟨rfl, rfl, hlt⟩ | ⟨rfl, rfl, hlt⟩
    all_goals
      try replace hsum := hsum rfl
      obtain ⟨p0, p1⟩ := H12.b.get w6.heap.size (.int .i64 0) (.int .i64 sum) (by simp)
      obtain ⟨a0, a1⟩ := H12.b.get w5.heap.size (.int .i64 ka) (.int .i64 na) (by simp)
      obtain ⟨c0, c1⟩ := H12.b.get (w5.heap.size + 1) (.int .i64 kb) (.int .i64 nb) (by simp)
      go_wp2_with (go_at_call 19; refine (L1.implValueOk_any _ _ _).mono ?_; rintro e w13 ⟨rfl, hb13⟩; rw [hsum]; have H12 := H12.below hb13; clear hb13 p0 p1 a0 a1 c0 c1; obtain ⟨a0, a1⟩ := H12.b.get w5.heap.size (.int .i64 ka) (.int .i64 na) (by simp); obtain ⟨c0, c1⟩ := H12.b.get (w5.heap.size + 1) (.int .i64 kb) (.int .i64 nb) (by simp))
      refine (cB _).mono ?_
      rintro e w14 ⟨rfl, hb14⟩
      have H14 := Hn.out _ _ (H12.below hb14)
      clear hb14 H12 cB Hn a0 a1 c0 c1
      obtain ⟨a0, a1⟩ := H14.b.get w5.heap.size (.int .i64 ka) (.int .i64 na) (by simp)
      obtain ⟨c0, c1⟩ := H14.b.get (w5.heap.size + 1) (.int .i64 kb) (.int .i64 nb) (by simp)
      obtain ⟨t0, t1⟩ := H14.b.get w9.heap.size (.int .i64 0) (.int .i64 (L1.clampI nn)) (by simp)
      obtain ⟨q0, q1⟩ := Hq.out _ _ H14 (by simp)
      clear Hq
      go_wp2_with fail
      refine (L1.implValueOk_any 0 (L1.clampI nn) _).mono ?_
      rintro e w15 ⟨rfl, hb15⟩
      rw [L1.clamp_ok]
      have H15 := H14.below hb15
      clear hb15 H14 q0 q1 a0 a1 c0 c1 t0 t1
      obtain ⟨x0, x1⟩ := H15.b.get w4.heap.size (.int .i64 (L1.rvK tb.data.toList)) (.int .i64 (L1.rvN tb.data.toList)) (by simp)
      obtain ⟨v0, v1⟩ := H15.b.get w1.heap.size (.int .i64 k1) (.int .i64 n1) (by simp)
      cases ho : L1.okB k1 n1
      · rw [shown_none ho]
        cases hr : L1.rvOk tb.data.toList
        all_goals
          go_wp2_with (first
            | (go_at_call 8; refine (L1.implShow_any _ _ _ ((hV'.out _ H15.w).1)).mono ?_; rintro e w16 ⟨rfl, hb16⟩; rw [L1.show_read hr, bytes_back]; have H15 := H15.below hb16; clear hb16; obtain ⟨v0, v1⟩ := H15.b.get w1.heap.size (.int .i64 k1) (.int .i64 n1) (by simp))
            | (go_at_call 19; refine (L1.implValueOk_any _ _ _).mono ?_; rintro e w17 ⟨rfl, hb17⟩; rw [ho]; have H15 := H15.below hb17; clear hb17))
          go_ret
          exact ⟨rfl, H15.w⟩
      · have hne := shown_some ho
        cases hr : L1.rvOk tb.data.toList
        all_goals
          go_wp2_with (first
            | (go_at_call 8; refine (L1.implShow_any _ _ _ ((hV'.out _ H15.w).1)).mono ?_; rintro e w16 ⟨rfl, hb16⟩; rw [L1.show_read hr, bytes_back]; have H15 := H15.below hb16; clear hb16; obtain ⟨v0, v1⟩ := H15.b.get w1.heap.size (.int .i64 k1) (.int .i64 n1) (by simp))
            | (go_at_call 10; refine (read_shown ho _ (vars_below hV'.out H15.w)).mono ?_; rintro e w17 ⟨rfl, hb17⟩; have H15 := (H15.below hb17).new (.int .i64 k1) (.int .i64 n1) 25; clear hb17; obtain ⟨v0, v1⟩ := H15.b.get w1.heap.size (.int .i64 k1) (.int .i64 n1) (by simp)))
          go_ret
          exact ⟨rfl, H15.w⟩

end D
end Go.Proofs.YtcmijbjhienfoaaDoor
