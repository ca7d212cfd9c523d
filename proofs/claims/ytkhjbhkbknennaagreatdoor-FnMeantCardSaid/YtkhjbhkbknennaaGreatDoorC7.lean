/-
  What goes on behind a first sum: one sum of two; what is bound (written by wip/gen_c7.py).
-/
import Derived.Test.YtkhjbhkbknennaaGreatDoorC6
namespace Go.Proofs.YtkhjbhkbknennaaGreatDoor
open Go.RowKit Go.Shelf
namespace L2
open S1 L1

theorem ok_kind {a b : Int} (h : okB a b = true) : numB a b = decide (a = 0) := by rw [num_of_ok, h, Bool.and_true]
set_option maxRecDepth 100000 in
set_option maxHeartbeats 2000000 in
/-- One sum of two. -/
theorem if_next {w0 W : World} {ow : Option Nat} {k n : Int} {av : Value} {bd : Bd} {q r : Nat} {f1 f2 : Value} {d1 d2 : Deed} (hk : okB k n = true) (hA0 : AskedAt W ow av bd) (hB0 : GoodB bd) (hq : Box W ow q 0 f2) (hr : Box W ow r 0 f1) (h1 : DeedAt w0 W ow f1 d1) (h2 : DeedAt w0 W ow f2 d2) :
    NextAt NoX w0 W ow (.func (.func 123) #[] #[.pointer (some ⟨q, 0, none⟩), .pointer (some ⟨r, 0, none⟩)]) k n av (fun a b sd => (if a = 0 then (if b = 0 then d2 k n bd sd else d1 k n bd sd) else wrong 1)) := by
  obtain ⟨g1, lb1, rfl, hE1, hc1'⟩ := h1
  obtain ⟨g2, lb2, rfl, hE2, hc2'⟩ := h2
  unfold Enters at hE1 hE2
  refine ⟨_, _, rfl, (enters_of Tryz.func123 (by kernel_rfl) rfl), fun W' a b v sd hrun hH hok hln hsh => ?_⟩
  have hA : Asks w0 W' k n av bd v sd := ⟨hH, hk, hA0.later hrun, hB0, hln, hsh⟩
  obtain ⟨ga, lba, rfl, -, -⟩ := hA.asked
  obtain ⟨oa, cp, rfl, hl1, hl2⟩ := hA.here.slice
  have hlt : ∀ b, (Value.slice oa sd.length cp).ownBlock = some b → b < W'.heap.size := fun b e => (hA.here.lt e).2
  have HW0 := Lib.hid hA.here.below.size
  have HH0 := Lib.hid hA.here
  have HLT := Lib.hid hlt
  have HAP0 := Lib.hid (show ∀ b, W'.heap.size ≤ b → b < W'.heap.size + 3 → (Value.slice oa sd.length cp).ownBlock ≠ some b from fun b h1 _ e => by have := hlt b e; omega)
  obtain ⟨c1, l1, -⟩ := hq.later hrun
  have l1a : q < W'.heap.size + 1 := by omega
  have l1b : q < W'.heap.size + 1 + 1 := by omega
  have l1c : q < W'.heap.size + 2 := by omega
  obtain ⟨c2, l2, -⟩ := hr.later hrun
  have l2a : r < W'.heap.size + 1 := by omega
  have l2b : r < W'.heap.size + 1 + 1 := by omega
  have l2c : r < W'.heap.size + 2 := by omega
  have HNUM := Lib.hid (fun W2 => isNumber_any a b W2)
  rw [ok_kind hok] at HNUM
  have HNOT := Lib.hid (fun W2 => implIsNothing_any a b W2)
  show Calls Tryz.prog 123 #[.agg #[.int .i64 a, .int .i64 b], scnV k n (.func (.func ga) #[] lba) (.slice oa sd.length cp), .pointer (some ⟨q, 0, none⟩), .pointer (some ⟨r, 0, none⟩)] W' (Did NoX w0 W' _ (if a = 0 then (if b = 0 then d2 k n bd sd else d1 k n bd sd) else wrong 1))
  by_cases h0 : a = 0
  · have h0' : decide (a = 0) = true := by simp [h0]
    rw [if_pos h0]
    rw [h0'] at HNUM
    by_cases h3 : b = 0
    · have h3' : sameB a b 0 0 = true := by simp [sameB, h0, h3]
      rw [if_pos h3]
      rw [h3'] at HNOT
      clear h0 h0' h3 h3'
      have HT := Lib.hid (fun Wa (hb : Below W'.heap.size W' Wa) => hc2' Wa k n _ bd _ sd (hrun.trans ((keeps_of_below hb).run _)) (hA.step hb))
      generalize d2 k n bd sd = o at HT ⊢
      obtain ⟨ok, on, ot, os, oc⟩ := o
      generalize sd.length = len at *
      unfold maxLen at hl2
      unfold scnV at HT ⊢
      clear hA hH hrun hA0 hlt hq hr hc1' hc2'
      go_enter Tryz.func123, Tryz.ntmps123
      go_wp2_with fail
      refine (HNUM.out _).mono ?_
      rintro e w1 ⟨rfl, hb1⟩
      have hs1 := hb1.size
      obtain ⟨hc1, hf1⟩ := bcell hb1
      try simp at hs1
      have z10 : W'.heap.size < w1.heap.size := by omega
      have z11 : W'.heap.size + 1 < w1.heap.size := by omega
      have z12 : W'.heap.size + 2 < w1.heap.size := by omega
      have y1q : q < w1.heap.size := by omega
      have y1r : r < w1.heap.size := by omega
      go_wp2_with fail
      refine (HNOT.out _).mono ?_
      rintro e w2 ⟨rfl, hb2⟩
      have hs2 := hb2.size
      obtain ⟨hc2, hf2⟩ := bcell hb2
      try simp at hs2
      have z20 : W'.heap.size < w2.heap.size := by omega
      have z21 : W'.heap.size + 1 < w2.heap.size := by omega
      have z22 : W'.heap.size + 2 < w2.heap.size := by omega
      have y2q : q < w2.heap.size := by omega
      have y2r : r < w2.heap.size := by omega
      go_wp2_with fail
      have hbk : ∀ Wa, Below W'.heap.size W' Wa → W'.heap.size + 3 ≤ Wa.heap.size → Calls Tryz.prog (g2 : Nat) _ Wa _ := fun Wa hb hs => (HT.out Wa hb).mono fun e w' hd => came_back HH0.out (Run.refl NoX W' _) (keeps_of_below hb) (Nat.le_refl _) hs HAP0.out (fun b x => x.elim) hd
      refine (hbk _ ?_ ?_).mono ?_
      · (repeat (first | (with_reducible refine Below.alloc ?_ ?_ _) | (with_reducible refine Below.setCell ?_ ?_ _) | (with_reducible refine Below.drew ?_) | (with_reducible exact Below.refl _ _) | (with_reducible refine Below.trans ?_ (Below.mono (by assumption) ?_)))) <;> (first | omega | (dsimp only; omega) | (simp; done) | (simp; omega) | (simp at *; omega))
      · first | (simp; done) | (simp; omega) | (simp at *; omega)
      clear hbk
      rintro e w3 ⟨v3, rfl, hH3, hR3, hcc, hap3, hs3⟩
      obtain ⟨oa3, cp3, rfl, hm3, hn3⟩ := hH3.slice
      have hlt3 : ∀ b, (Value.slice oa3 os.length cp3).ownBlock = some b → b < w3.heap.size := fun b e => (hH3.lt e).2
      have r32 := fun i => hcc (W'.heap.size + 2) i (by omega) (by omega)
      simp only [forall_and] at r32
      obtain ⟨r32, f32⟩ := r32
      try simp at hs3
      have z32 : W'.heap.size + 2 < w3.heap.size := by omega
      have HH3 := Lib.hid hH3
      have HR3 := Lib.hid hR3
      have HLT3 := Lib.hid hlt3
      have HAP3 := Lib.hid hap3
      have HZ3 := Lib.hid hs3
      generalize os.length = len3 at *
      unfold maxLen at hn3
      unfold meanV
      simp only
      clear hH3 hR3 hlt3 hap3 hcc
      go_wp2_with fail
      refine bodyPost_ret (v := .agg #[.int .i64 ok, .int .i64 on, .bool ot, .slice oa3 len3 cp3, .int .i64 oc]) (by simp [results, Tryz.results123, go_sem, *]) rfl ?_
      refine did_end (lo := W'.heap.size) (hi := W'.heap.size + 3) HH3.out HR3.out ?_ (Nat.le_refl _) HW0.out HAP3.out
      (repeat (first | (with_reducible refine Keeps.alloc ?_ _) | (with_reducible refine Keeps.setCell ?_ ?_ _) | (with_reducible refine Keeps.drew ?_) | (with_reducible exact Keeps.refl _ _) | (with_reducible refine Keeps.below ?_ (by assumption)))) <;> (first | exact Or.inl rfl | exact Or.inl (Or.inl rfl) | exact Or.inl (Or.inr rfl) | exact Or.inl ⟨by (try dsimp only); omega, by (try dsimp only); omega⟩ | exact Or.inr (by (try dsimp only); omega))
    · have h3' : sameB a b 0 0 = false := by simp [sameB, h3]
      rw [if_neg h3]
      rw [h3'] at HNOT
      clear h0 h0' h3 h3'
      have HT := Lib.hid (fun Wa (hb : Below W'.heap.size W' Wa) => hc1' Wa k n _ bd _ sd (hrun.trans ((keeps_of_below hb).run _)) (hA.step hb))
      generalize d1 k n bd sd = o at HT ⊢
      obtain ⟨ok, on, ot, os, oc⟩ := o
      generalize sd.length = len at *
      unfold maxLen at hl2
      unfold scnV at HT ⊢
      clear hA hH hrun hA0 hlt hq hr hc1' hc2'
      go_enter Tryz.func123, Tryz.ntmps123
      go_wp2_with fail
      refine (HNUM.out _).mono ?_
      rintro e w1 ⟨rfl, hb1⟩
      have hs1 := hb1.size
      obtain ⟨hc1, hf1⟩ := bcell hb1
      try simp at hs1
      have z10 : W'.heap.size < w1.heap.size := by omega
      have z11 : W'.heap.size + 1 < w1.heap.size := by omega
      have z12 : W'.heap.size + 2 < w1.heap.size := by omega
      have y1q : q < w1.heap.size := by omega
      have y1r : r < w1.heap.size := by omega
      go_wp2_with fail
      refine (HNOT.out _).mono ?_
      rintro e w2 ⟨rfl, hb2⟩
      have hs2 := hb2.size
      obtain ⟨hc2, hf2⟩ := bcell hb2
      try simp at hs2
      have z20 : W'.heap.size < w2.heap.size := by omega
      have z21 : W'.heap.size + 1 < w2.heap.size := by omega
      have z22 : W'.heap.size + 2 < w2.heap.size := by omega
      have y2q : q < w2.heap.size := by omega
      have y2r : r < w2.heap.size := by omega
      go_wp2_with fail
      have hbk : ∀ Wa, Below W'.heap.size W' Wa → W'.heap.size + 3 ≤ Wa.heap.size → Calls Tryz.prog (g1 : Nat) _ Wa _ := fun Wa hb hs => (HT.out Wa hb).mono fun e w' hd => came_back HH0.out (Run.refl NoX W' _) (keeps_of_below hb) (Nat.le_refl _) hs HAP0.out (fun b x => x.elim) hd
      refine (hbk _ ?_ ?_).mono ?_
      · (repeat (first | (with_reducible refine Below.alloc ?_ ?_ _) | (with_reducible refine Below.setCell ?_ ?_ _) | (with_reducible refine Below.drew ?_) | (with_reducible exact Below.refl _ _) | (with_reducible refine Below.trans ?_ (Below.mono (by assumption) ?_)))) <;> (first | omega | (dsimp only; omega) | (simp; done) | (simp; omega) | (simp at *; omega))
      · first | (simp; done) | (simp; omega) | (simp at *; omega)
      clear hbk
      rintro e w3 ⟨v3, rfl, hH3, hR3, hcc, hap3, hs3⟩
      obtain ⟨oa3, cp3, rfl, hm3, hn3⟩ := hH3.slice
      have hlt3 : ∀ b, (Value.slice oa3 os.length cp3).ownBlock = some b → b < w3.heap.size := fun b e => (hH3.lt e).2
      have r32 := fun i => hcc (W'.heap.size + 2) i (by omega) (by omega)
      simp only [forall_and] at r32
      obtain ⟨r32, f32⟩ := r32
      try simp at hs3
      have z32 : W'.heap.size + 2 < w3.heap.size := by omega
      have HH3 := Lib.hid hH3
      have HR3 := Lib.hid hR3
      have HLT3 := Lib.hid hlt3
      have HAP3 := Lib.hid hap3
      have HZ3 := Lib.hid hs3
      generalize os.length = len3 at *
      unfold maxLen at hn3
      unfold meanV
      simp only
      clear hH3 hR3 hlt3 hap3 hcc
      go_wp2_with fail
      refine bodyPost_ret (v := .agg #[.int .i64 ok, .int .i64 on, .bool ot, .slice oa3 len3 cp3, .int .i64 oc]) (by simp [results, Tryz.results123, go_sem, *]) rfl ?_
      refine did_end (lo := W'.heap.size) (hi := W'.heap.size + 3) HH3.out HR3.out ?_ (Nat.le_refl _) HW0.out HAP3.out
      (repeat (first | (with_reducible refine Keeps.alloc ?_ _) | (with_reducible refine Keeps.setCell ?_ ?_ _) | (with_reducible refine Keeps.drew ?_) | (with_reducible exact Keeps.refl _ _) | (with_reducible refine Keeps.below ?_ (by assumption)))) <;> (first | exact Or.inl rfl | exact Or.inl (Or.inl rfl) | exact Or.inl (Or.inr rfl) | exact Or.inl ⟨by (try dsimp only); omega, by (try dsimp only); omega⟩ | exact Or.inr (by (try dsimp only); omega))
  · have h0' : decide (a = 0) = false := by simp [h0]
    rw [if_neg h0]
    rw [h0'] at HNUM
    generalize sd.length = len at *
    unfold maxLen at hl2
    unfold scnV
    clear hA hH hrun hA0 hlt hq hr hc1' hc2' h0 h0'
    go_enter Tryz.func123, Tryz.ntmps123
    go_wp2_with fail
    refine (HNUM.out _).mono ?_
    rintro e w1 ⟨rfl, hb1⟩
    have hs1 := hb1.size
    obtain ⟨hc1, hf1⟩ := bcell hb1
    try simp at hs1
    have z10 : W'.heap.size < w1.heap.size := by omega
    have z11 : W'.heap.size + 1 < w1.heap.size := by omega
    have z12 : W'.heap.size + 2 < w1.heap.size := by omega
    go_wp2_with fail
    refine (endedBy_any _ _).mono ?_
    rintro e w2 ⟨rfl, hb2⟩
    have hs2 := hb2.size
    obtain ⟨hc2, hf2⟩ := bcell hb2
    try simp at hs2
    have z20 : W'.heap.size < w2.heap.size := by omega
    have z21 : W'.heap.size + 1 < w2.heap.size := by omega
    have z22 : W'.heap.size + 2 < w2.heap.size := by omega
    unfold meanV wrong
    simp only
    go_wp2_with fail
    refine bodyPost_ret (v := .agg #[.int .i64 0, .int .i64 0, .bool false, .slice none 0 0, .int .i64 1]) (by simp [results, Tryz.results123, go_sem, *]) rfl ?_
    refine did_wrong HH0.out.below ?_
    clear hc1 hf1 hc2 hf2
    (repeat (first | (with_reducible refine Below.alloc ?_ ?_ _) | (with_reducible refine Below.setCell ?_ ?_ _) | (with_reducible refine Below.drew ?_) | (with_reducible exact Below.refl _ _) | (with_reducible refine Below.trans ?_ (Below.mono (by assumption) ?_)))) <;> (first | omega | (dsimp only; omega) | (simp; done) | (simp; omega) | (simp at *; omega))

set_option maxRecDepth 100000 in
set_option maxHeartbeats 2000000 in
/-- What is bound, and what comes of it. -/
theorem bind_next {w0 W : World} {ow : Option Nat} {k n : Int} {av : Value} {bd : Bd} {q r : Nat} {y : ByteArray} {f1 : Value} {d1 : Deed} (hk : okB k n = true) (hA0 : AskedAt W ow av bd) (hB0 : GoodB bd) (hq : Box W ow q 0 (.string y)) (hr : Box W ow r 0 f1) (h1 : DeedAt w0 W ow f1 d1) :
    NextAt NoX w0 W ow (.func (.func 128) #[] #[.pointer (some ⟨q, 0, none⟩), .pointer (some ⟨r, 0, none⟩)]) k n av (fun a b sd => d1 k n ((y.toList, a, b) :: bd) sd) := by
  obtain ⟨g1, lb1, rfl, hE1, hc1'⟩ := h1
  unfold Enters at hE1
  refine ⟨_, _, rfl, (enters_of Tryz.func128 (by kernel_rfl) rfl), fun W' a b v sd hrun hH hok hln hsh => ?_⟩
  have hA : Asks w0 W' k n av bd v sd := ⟨hH, hk, hA0.later hrun, hB0, hln, hsh⟩
  obtain ⟨ga, lba, rfl, -, -⟩ := hA.asked
  obtain ⟨oa, cp, rfl, hl1, hl2⟩ := hA.here.slice
  have hlt : ∀ b, (Value.slice oa sd.length cp).ownBlock = some b → b < W'.heap.size := fun b e => (hA.here.lt e).2
  have HW0 := Lib.hid hA.here.below.size
  have HH0 := Lib.hid hA.here
  have HLT := Lib.hid hlt
  have HAP0 := Lib.hid (show ∀ b, W'.heap.size ≤ b → b < W'.heap.size + 3 → (Value.slice oa sd.length cp).ownBlock ≠ some b from fun b h1 _ e => by have := hlt b e; omega)
  obtain ⟨c1, l1, -⟩ := hq.later hrun
  have l1a : q < W'.heap.size + 1 := by omega
  have l1b : q < W'.heap.size + 1 + 1 := by omega
  have l1c : q < W'.heap.size + 2 := by omega
  obtain ⟨c2, l2, -⟩ := hr.later hrun
  have l2a : r < W'.heap.size + 1 := by omega
  have l2b : r < W'.heap.size + 1 + 1 := by omega
  have l2c : r < W'.heap.size + 2 := by omega
  have l2d : r < W'.heap.size + 1 + 1 + 1 := by omega
  have l2e : r < W'.heap.size + 1 + 1 + 1 + 1 := by omega
  have l2f : r < W'.heap.size + 1 + 1 + 1 + 1 + 1 := by omega
  have hne : ∀ b, W'.heap.size ≤ b → some b ≠ (Value.slice oa sd.length cp).ownBlock := fun b h e => by have := hlt _ e.symm; omega
  have HT := Lib.hid (fun (Wa : World) (p1 p2 p3 : Nat) (hb : Below W'.heap.size W' Wa) (x1 : Wa.cell? ⟨p1, 0, none⟩ = some (.string y)) (x2 : Wa.cell? ⟨p2, 0, none⟩ = some (.int .i64 a)) (x3 : Wa.cell? ⟨p2, 1, none⟩ = some (.int .i64 b)) (x4 : Wa.cell? ⟨p3, 0, none⟩ = some (.func (.func ga) #[] lba)) (hz : (W'.heap.size ≤ p1 ∧ p1 < Wa.heap.size) ∧ (W'.heap.size ≤ p2 ∧ p2 < Wa.heap.size) ∧ (W'.heap.size ≤ p3 ∧ p3 < Wa.heap.size)) =>
    hc1' Wa k n (.func (.func 154) #[] #[.pointer (some ⟨p1, 0, none⟩), .pointer (some ⟨p2, 0, none⟩), .pointer (some ⟨p3, 0, none⟩)]) ((y.toList, a, b) :: bd) _ sd (hrun.trans ((keeps_of_below hb).run _))
      ⟨hA.here.step hb, hk, bound_asked (hA.asked.later ((keeps_of_below hb).run _)) ⟨x1, hz.1.2, hne _ hz.1.1⟩ ⟨x2, hz.2.1.2, hne _ hz.2.1.1⟩ ⟨x3, hz.2.1.2, hne _ hz.2.1.1⟩ ⟨x4, hz.2.2.2, hne _ hz.2.2.1⟩,
        fun c hc => by rcases List.mem_cons.1 hc with rfl | hc; · exact hok
                       · exact hB0 c hc, hln, hsh⟩)
  show Calls Tryz.prog 128 #[.agg #[.int .i64 a, .int .i64 b], scnV k n (.func (.func ga) #[] lba) (.slice oa sd.length cp), .pointer (some ⟨q, 0, none⟩), .pointer (some ⟨r, 0, none⟩)] W' (Did NoX w0 W' _ (d1 k n ((y.toList, a, b) :: bd) sd))
  generalize d1 k n ((y.toList, a, b) :: bd) sd = o at HT ⊢
  obtain ⟨ok, on, ot, os, oc⟩ := o
  generalize sd.length = len at *
  unfold maxLen at hl2
  unfold scnV at HT ⊢
  clear hA hH hrun hA0 hlt hq hr hc1' hne
  go_enter Tryz.func128, Tryz.ntmps128
  go_wp2_with fail
  refine (boundTo_any _ _ _ _ _ _).mono ?_
  rintro e w1 ⟨rfl, rfl⟩
  go_wp2_with fail
  have hbk : ∀ (Wa : World) (p1 p2 p3 : Nat), Below W'.heap.size W' Wa → W'.heap.size + 3 ≤ Wa.heap.size → Wa.cell? ⟨p1, 0, none⟩ = some (.string y) → Wa.cell? ⟨p2, 0, none⟩ = some (.int .i64 a) → Wa.cell? ⟨p2, 1, none⟩ = some (.int .i64 b) → Wa.cell? ⟨p3, 0, none⟩ = some (.func (.func ga) #[] lba) → (W'.heap.size ≤ p1 ∧ p1 < Wa.heap.size) ∧ (W'.heap.size ≤ p2 ∧ p2 < Wa.heap.size) ∧ (W'.heap.size ≤ p3 ∧ p3 < Wa.heap.size) → Calls Tryz.prog g1 _ Wa _ := fun Wa p1 p2 p3 hb hs x1 x2 x3 x4 hz => (HT.out Wa p1 p2 p3 hb x1 x2 x3 x4 hz).mono fun e w' hd => came_back HH0.out (Run.refl NoX W' _) (keeps_of_below hb) (Nat.le_refl _) hs HAP0.out (fun b x => x.elim) hd
  refine (hbk _ _ _ _ ?_ ?_ ?_ ?_ ?_ ?_ ?_).mono ?_
  · (repeat (first | (with_reducible refine Below.alloc ?_ ?_ _) | (with_reducible refine Below.setCell ?_ ?_ _) | (with_reducible refine Below.drew ?_) | (with_reducible exact Below.refl _ _) | (with_reducible refine Below.trans ?_ (Below.mono (by assumption) ?_)))) <;> (first | omega | (dsimp only; omega) | (simp; done) | (simp; omega) | (simp at *; omega))
  · first | (simp; done) | (simp; omega)
  · simp [go_sem]
  · simp [go_sem]
  · simp [go_sem]
  · simp [go_sem]
  · first | (simp; done) | (simp; omega)
  clear hbk
  rintro e w1 ⟨v1, rfl, hH1, hR1, hcc, hap1, hs1⟩
  obtain ⟨oa1, cp1, rfl, hm1, hn1⟩ := hH1.slice
  have hlt1 : ∀ b, (Value.slice oa1 os.length cp1).ownBlock = some b → b < w1.heap.size := fun b e => (hH1.lt e).2
  have r12 := fun i => hcc (W'.heap.size + 2) i (by omega) (by omega)
  simp only [forall_and] at r12
  obtain ⟨r12, f12⟩ := r12
  try simp at hs1
  have z12 : W'.heap.size + 2 < w1.heap.size := by omega
  have HH1 := Lib.hid hH1
  have HR1 := Lib.hid hR1
  have HLT1 := Lib.hid hlt1
  have HAP1 := Lib.hid hap1
  have HZ1 := Lib.hid hs1
  generalize os.length = len1 at *
  unfold maxLen at hn1
  unfold meanV
  simp only
  clear hH1 hR1 hlt1 hap1 hcc
  go_wp2_with fail
  refine bodyPost_ret (v := .agg #[.int .i64 ok, .int .i64 on, .bool ot, .slice oa1 len1 cp1, .int .i64 oc]) (by simp [results, Tryz.results128, go_sem, *]) rfl ?_
  refine did_end (lo := W'.heap.size) (hi := W'.heap.size + 3) HH1.out HR1.out ?_ (Nat.le_refl _) HW0.out HAP1.out
  (repeat (first | (with_reducible refine Keeps.alloc ?_ _) | (with_reducible refine Keeps.setCell ?_ ?_ _) | (with_reducible refine Keeps.drew ?_) | (with_reducible exact Keeps.refl _ _) | (with_reducible refine Keeps.below ?_ (by assumption)))) <;> (first | exact Or.inl rfl | exact Or.inl (Or.inl rfl) | exact Or.inl (Or.inr rfl) | exact Or.inl ⟨by (try dsimp only); omega, by (try dsimp only); omega⟩ | exact Or.inr (by (try dsimp only); omega))

end L2
end Go.Proofs.YtkhjbhkbknennaaGreatDoor
