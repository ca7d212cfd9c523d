/-
  The closures that sums are made of, each by its contract (written by wip/gen_c4.py).
-/
import Derived.Test.YtkhjbhkbknennaaGreatDoorC3
namespace Go.Proofs.YtkhjbhkbknennaaGreatDoor
open Go.RowKit Go.Shelf
namespace L2
open S1 L1

set_option maxRecDepth 100000 in
set_option maxHeartbeats 2000000 in
/-- Two sums, and what is made of what they are worth. -/
theorem two_deed {w0 W : World} {ow : Option Nat} {p q r : Nat} {f0 : Value} {d0 : Deed} {F : Int → Int → Bd → Int → Int → List ByteArray → Out} (hp : Box W ow p 0 f0) (h0 : DeedAt w0 W ow f0 d0) (g0 : GoodD d0)
    (HN : ∀ W' k n av bd v sd, Run NoX W ow W' v.ownBlock → Asks w0 W' k n av bd v sd → NextAt NoX w0 W' v.ownBlock (.func (.func 115) #[] #[.pointer (some ⟨q, 0, none⟩), .pointer (some ⟨r, 0, none⟩)]) k n av (F k n bd)) :
    DeedAt w0 W ow (.func (.func 113) #[] #[.pointer (some ⟨p, 0, none⟩), .pointer (some ⟨q, 0, none⟩), .pointer (some ⟨r, 0, none⟩)]) (fun k n bd sd => thenD (d0 k n bd sd) fun a => F k n bd a.k a.n a.said) := by
  refine ⟨_, _, rfl, (enters_of Tryz.func113 (by kernel_rfl) rfl), fun W' k n av bd v sd hrun hA => ?_⟩
  have hN := HN W' k n av bd v sd hrun hA
  have hD := h0.later hrun
  obtain ⟨g, lb, rfl, -, -⟩ := h0
  obtain ⟨c1, l1, -⟩ := hp.later hrun
  obtain ⟨ga, lba, rfl, -, -⟩ := hA.asked
  obtain ⟨oa, cp, rfl, hl1, hl2⟩ := hA.here.slice
  have hlt : ∀ b, (Value.slice oa sd.length cp).ownBlock = some b → b < W'.heap.size := fun b e => (hA.here.lt e).2
  have HW0 := Lib.hid hA.here.below.size
  have HH0 := Lib.hid hA.here
  have HLT := Lib.hid hlt
  have HAP0 := Lib.hid (show ∀ b, W'.heap.size ≤ b → b < W'.heap.size + 2 → (Value.slice oa sd.length cp).ownBlock ≠ some b from fun b h1 _ e => by have := hlt b e; omega)
  have HT := Lib.hid (fun Wa (hb : Below W'.heap.size W' Wa) => then_any (hA.step hb) (hD.later ((keeps_of_below hb).run _)) g0 (hN.later ((keeps_of_below hb).run _)) (fun b x => x.elim))
  show Calls Tryz.prog 113 #[scnV k n (.func (.func ga) #[] lba) (.slice oa sd.length cp), .pointer (some ⟨p, 0, none⟩), .pointer (some ⟨q, 0, none⟩), .pointer (some ⟨r, 0, none⟩)] W' (Did NoX w0 W' _ (thenD (d0 k n bd sd) fun a => F k n bd a.k a.n a.said))
  generalize (thenD (d0 k n bd sd) fun a => F k n bd a.k a.n a.said) = o at HT ⊢
  obtain ⟨ok, on, ot, os, oc⟩ := o
  generalize sd.length = len at *
  unfold maxLen at hl2
  unfold scnV at HT ⊢
  clear hN hD hA hrun HN hp hlt
  go_enter Tryz.func113, Tryz.ntmps113
  go_wp2_with fail
  have hbk : ∀ Wa, Below W'.heap.size W' Wa → W'.heap.size + 2 ≤ Wa.heap.size → Calls Tryz.prog 114 _ Wa _ := fun Wa hb hs => (HT.out Wa hb).mono fun e w' hd => came_back HH0.out (Run.refl NoX W' _) (keeps_of_below hb) (Nat.le_refl _) hs HAP0.out (fun b x => x.elim) hd
  refine (hbk _ ?_ ?_).mono ?_
  · (repeat (first | (with_reducible refine Below.alloc ?_ ?_ _) | (with_reducible refine Below.setCell ?_ ?_ _) | (with_reducible refine Below.drew ?_) | (with_reducible exact Below.refl _ _) | (with_reducible refine Below.trans ?_ (Below.mono (by assumption) ?_)))) <;> (first | omega | (dsimp only; omega) | (simp; done) | (simp; omega) | (simp at *; omega))
  · first | (simp; done) | (simp; omega) | (simp at *; omega)
  clear hbk
  rintro e w1 ⟨v1, rfl, hH1, hR1, hcc, hap1, hs1⟩
  obtain ⟨oa1, cp1, rfl, hm1, hn1⟩ := hH1.slice
  have hlt1 : ∀ b, (Value.slice oa1 os.length cp1).ownBlock = some b → b < w1.heap.size := fun b e => (hH1.lt e).2
  have r11 := fun i => hcc (W'.heap.size + 1) i (by omega) (by omega)
  simp only [forall_and] at r11
  obtain ⟨r11, f11⟩ := r11
  try simp at hs1
  have z11 : W'.heap.size + 1 < w1.heap.size := by omega
  have HH1 := Lib.hid hH1
  have HR1 := Lib.hid hR1
  have HLT1 := Lib.hid hlt1
  have HAP1 := Lib.hid hap1
  have HZ1 := Lib.hid hs1
  generalize os.length = len1 at *
  unfold maxLen at hn1
  unfold meanV
  simp only
  clear hH1 hR1 hlt1 hap1 hcc
  go_wp2_with fail
  refine bodyPost_ret (v := .agg #[.int .i64 ok, .int .i64 on, .bool ot, .slice oa1 len1 cp1, .int .i64 oc]) (by simp [results, Tryz.results113, go_sem, *]) rfl ?_
  refine did_end (lo := W'.heap.size) (hi := W'.heap.size + 2) HH1.out HR1.out ?_ (Nat.le_refl _) HW0.out HAP1.out
  (repeat (first | (with_reducible refine Keeps.alloc ?_ _) | (with_reducible refine Keeps.setCell ?_ ?_ _) | (with_reducible refine Keeps.drew ?_) | (with_reducible exact Keeps.refl _ _) | (with_reducible refine Keeps.below ?_ (by assumption)))) <;> (first | exact Or.inl rfl | exact Or.inl (Or.inl rfl) | exact Or.inl (Or.inr rfl) | exact Or.inl ⟨by (try dsimp only); omega, by (try dsimp only); omega⟩ | exact Or.inr (by (try dsimp only); omega))

set_option maxRecDepth 100000 in
set_option maxHeartbeats 2000000 in
/-- A sum that is said. -/
theorem say_deed {w0 W : World} {ow : Option Nat} {p : Nat} {f0 : Value} {d0 : Deed} {F : Int → Int → Bd → Int → Int → List ByteArray → Out} (hp : Box W ow p 0 f0) (h0 : DeedAt w0 W ow f0 d0) (g0 : GoodD d0)
    (HN : ∀ W' k n av bd v sd, Run NoX W ow W' v.ownBlock → Asks w0 W' k n av bd v sd → NextAt NoX w0 W' v.ownBlock (.func (.func 121) #[] #[]) k n av (F k n bd)) :
    DeedAt w0 W ow (.func (.func 120) #[] #[.pointer (some ⟨p, 0, none⟩)]) (fun k n bd sd => thenD (d0 k n bd sd) fun a => F k n bd a.k a.n a.said) := by
  refine ⟨_, _, rfl, (enters_of Tryz.func120 (by kernel_rfl) rfl), fun W' k n av bd v sd hrun hA => ?_⟩
  have hN := HN W' k n av bd v sd hrun hA
  have hD := h0.later hrun
  obtain ⟨g, lb, rfl, -, -⟩ := h0
  obtain ⟨c1, l1, -⟩ := hp.later hrun
  obtain ⟨ga, lba, rfl, -, -⟩ := hA.asked
  obtain ⟨oa, cp, rfl, hl1, hl2⟩ := hA.here.slice
  have hlt : ∀ b, (Value.slice oa sd.length cp).ownBlock = some b → b < W'.heap.size := fun b e => (hA.here.lt e).2
  have HW0 := Lib.hid hA.here.below.size
  have HH0 := Lib.hid hA.here
  have HLT := Lib.hid hlt
  have HAP0 := Lib.hid (show ∀ b, W'.heap.size ≤ b → b < W'.heap.size + 2 → (Value.slice oa sd.length cp).ownBlock ≠ some b from fun b h1 _ e => by have := hlt b e; omega)
  have HT := Lib.hid (fun Wa (hb : Below W'.heap.size W' Wa) => then_any (hA.step hb) (hD.later ((keeps_of_below hb).run _)) g0 (hN.later ((keeps_of_below hb).run _)) (fun b x => x.elim))
  show Calls Tryz.prog 120 #[scnV k n (.func (.func ga) #[] lba) (.slice oa sd.length cp), .pointer (some ⟨p, 0, none⟩)] W' (Did NoX w0 W' _ (thenD (d0 k n bd sd) fun a => F k n bd a.k a.n a.said))
  generalize (thenD (d0 k n bd sd) fun a => F k n bd a.k a.n a.said) = o at HT ⊢
  obtain ⟨ok, on, ot, os, oc⟩ := o
  generalize sd.length = len at *
  unfold maxLen at hl2
  unfold scnV at HT ⊢
  clear hN hD hA hrun HN hp hlt
  go_enter Tryz.func120, Tryz.ntmps120
  go_wp2_with fail
  have hbk : ∀ Wa, Below W'.heap.size W' Wa → W'.heap.size + 2 ≤ Wa.heap.size → Calls Tryz.prog 114 _ Wa _ := fun Wa hb hs => (HT.out Wa hb).mono fun e w' hd => came_back HH0.out (Run.refl NoX W' _) (keeps_of_below hb) (Nat.le_refl _) hs HAP0.out (fun b x => x.elim) hd
  refine (hbk _ ?_ ?_).mono ?_
  · (repeat (first | (with_reducible refine Below.alloc ?_ ?_ _) | (with_reducible refine Below.setCell ?_ ?_ _) | (with_reducible refine Below.drew ?_) | (with_reducible exact Below.refl _ _) | (with_reducible refine Below.trans ?_ (Below.mono (by assumption) ?_)))) <;> (first | omega | (dsimp only; omega) | (simp; done) | (simp; omega) | (simp at *; omega))
  · first | (simp; done) | (simp; omega) | (simp at *; omega)
  clear hbk
  rintro e w1 ⟨v1, rfl, hH1, hR1, hcc, hap1, hs1⟩
  obtain ⟨oa1, cp1, rfl, hm1, hn1⟩ := hH1.slice
  have hlt1 : ∀ b, (Value.slice oa1 os.length cp1).ownBlock = some b → b < w1.heap.size := fun b e => (hH1.lt e).2
  have r11 := fun i => hcc (W'.heap.size + 1) i (by omega) (by omega)
  simp only [forall_and] at r11
  obtain ⟨r11, f11⟩ := r11
  try simp at hs1
  have z11 : W'.heap.size + 1 < w1.heap.size := by omega
  have HH1 := Lib.hid hH1
  have HR1 := Lib.hid hR1
  have HLT1 := Lib.hid hlt1
  have HAP1 := Lib.hid hap1
  have HZ1 := Lib.hid hs1
  generalize os.length = len1 at *
  unfold maxLen at hn1
  unfold meanV
  simp only
  clear hH1 hR1 hlt1 hap1 hcc
  go_wp2_with fail
  refine bodyPost_ret (v := .agg #[.int .i64 ok, .int .i64 on, .bool ot, .slice oa1 len1 cp1, .int .i64 oc]) (by simp [results, Tryz.results120, go_sem, *]) rfl ?_
  refine did_end (lo := W'.heap.size) (hi := W'.heap.size + 2) HH1.out HR1.out ?_ (Nat.le_refl _) HW0.out HAP1.out
  (repeat (first | (with_reducible refine Keeps.alloc ?_ _) | (with_reducible refine Keeps.setCell ?_ ?_ _) | (with_reducible refine Keeps.drew ?_) | (with_reducible exact Keeps.refl _ _) | (with_reducible refine Keeps.below ?_ (by assumption)))) <;> (first | exact Or.inl rfl | exact Or.inl (Or.inl rfl) | exact Or.inl (Or.inr rfl) | exact Or.inl ⟨by (try dsimp only); omega, by (try dsimp only); omega⟩ | exact Or.inr (by (try dsimp only); omega))

set_option maxRecDepth 100000 in
set_option maxHeartbeats 2000000 in
/-- One sum of two. -/
theorem if_deed {w0 W : World} {ow : Option Nat} {p q r : Nat} {f0 : Value} {d0 : Deed} {F : Int → Int → Bd → Int → Int → List ByteArray → Out} (hp : Box W ow p 0 f0) (h0 : DeedAt w0 W ow f0 d0) (g0 : GoodD d0)
    (HN : ∀ W' k n av bd v sd, Run NoX W ow W' v.ownBlock → Asks w0 W' k n av bd v sd → NextAt NoX w0 W' v.ownBlock (.func (.func 123) #[] #[.pointer (some ⟨q, 0, none⟩), .pointer (some ⟨r, 0, none⟩)]) k n av (F k n bd)) :
    DeedAt w0 W ow (.func (.func 122) #[] #[.pointer (some ⟨p, 0, none⟩), .pointer (some ⟨q, 0, none⟩), .pointer (some ⟨r, 0, none⟩)]) (fun k n bd sd => thenD (d0 k n bd sd) fun a => F k n bd a.k a.n a.said) := by
  refine ⟨_, _, rfl, (enters_of Tryz.func122 (by kernel_rfl) rfl), fun W' k n av bd v sd hrun hA => ?_⟩
  have hN := HN W' k n av bd v sd hrun hA
  have hD := h0.later hrun
  obtain ⟨g, lb, rfl, -, -⟩ := h0
  obtain ⟨c1, l1, -⟩ := hp.later hrun
  obtain ⟨ga, lba, rfl, -, -⟩ := hA.asked
  obtain ⟨oa, cp, rfl, hl1, hl2⟩ := hA.here.slice
  have hlt : ∀ b, (Value.slice oa sd.length cp).ownBlock = some b → b < W'.heap.size := fun b e => (hA.here.lt e).2
  have HW0 := Lib.hid hA.here.below.size
  have HH0 := Lib.hid hA.here
  have HLT := Lib.hid hlt
  have HAP0 := Lib.hid (show ∀ b, W'.heap.size ≤ b → b < W'.heap.size + 2 → (Value.slice oa sd.length cp).ownBlock ≠ some b from fun b h1 _ e => by have := hlt b e; omega)
  have HT := Lib.hid (fun Wa (hb : Below W'.heap.size W' Wa) => then_any (hA.step hb) (hD.later ((keeps_of_below hb).run _)) g0 (hN.later ((keeps_of_below hb).run _)) (fun b x => x.elim))
  show Calls Tryz.prog 122 #[scnV k n (.func (.func ga) #[] lba) (.slice oa sd.length cp), .pointer (some ⟨p, 0, none⟩), .pointer (some ⟨q, 0, none⟩), .pointer (some ⟨r, 0, none⟩)] W' (Did NoX w0 W' _ (thenD (d0 k n bd sd) fun a => F k n bd a.k a.n a.said))
  generalize (thenD (d0 k n bd sd) fun a => F k n bd a.k a.n a.said) = o at HT ⊢
  obtain ⟨ok, on, ot, os, oc⟩ := o
  generalize sd.length = len at *
  unfold maxLen at hl2
  unfold scnV at HT ⊢
  clear hN hD hA hrun HN hp hlt
  go_enter Tryz.func122, Tryz.ntmps122
  go_wp2_with fail
  have hbk : ∀ Wa, Below W'.heap.size W' Wa → W'.heap.size + 2 ≤ Wa.heap.size → Calls Tryz.prog 114 _ Wa _ := fun Wa hb hs => (HT.out Wa hb).mono fun e w' hd => came_back HH0.out (Run.refl NoX W' _) (keeps_of_below hb) (Nat.le_refl _) hs HAP0.out (fun b x => x.elim) hd
  refine (hbk _ ?_ ?_).mono ?_
  · (repeat (first | (with_reducible refine Below.alloc ?_ ?_ _) | (with_reducible refine Below.setCell ?_ ?_ _) | (with_reducible refine Below.drew ?_) | (with_reducible exact Below.refl _ _) | (with_reducible refine Below.trans ?_ (Below.mono (by assumption) ?_)))) <;> (first | omega | (dsimp only; omega) | (simp; done) | (simp; omega) | (simp at *; omega))
  · first | (simp; done) | (simp; omega) | (simp at *; omega)
  clear hbk
  rintro e w1 ⟨v1, rfl, hH1, hR1, hcc, hap1, hs1⟩
  obtain ⟨oa1, cp1, rfl, hm1, hn1⟩ := hH1.slice
  have hlt1 : ∀ b, (Value.slice oa1 os.length cp1).ownBlock = some b → b < w1.heap.size := fun b e => (hH1.lt e).2
  have r11 := fun i => hcc (W'.heap.size + 1) i (by omega) (by omega)
  simp only [forall_and] at r11
  obtain ⟨r11, f11⟩ := r11
  try simp at hs1
  have z11 : W'.heap.size + 1 < w1.heap.size := by omega
  have HH1 := Lib.hid hH1
  have HR1 := Lib.hid hR1
  have HLT1 := Lib.hid hlt1
  have HAP1 := Lib.hid hap1
  have HZ1 := Lib.hid hs1
  generalize os.length = len1 at *
  unfold maxLen at hn1
  unfold meanV
  simp only
  clear hH1 hR1 hlt1 hap1 hcc
  go_wp2_with fail
  refine bodyPost_ret (v := .agg #[.int .i64 ok, .int .i64 on, .bool ot, .slice oa1 len1 cp1, .int .i64 oc]) (by simp [results, Tryz.results122, go_sem, *]) rfl ?_
  refine did_end (lo := W'.heap.size) (hi := W'.heap.size + 2) HH1.out HR1.out ?_ (Nat.le_refl _) HW0.out HAP1.out
  (repeat (first | (with_reducible refine Keeps.alloc ?_ _) | (with_reducible refine Keeps.setCell ?_ ?_ _) | (with_reducible refine Keeps.drew ?_) | (with_reducible exact Keeps.refl _ _) | (with_reducible refine Keeps.below ?_ (by assumption)))) <;> (first | exact Or.inl rfl | exact Or.inl (Or.inl rfl) | exact Or.inl (Or.inr rfl) | exact Or.inl ⟨by (try dsimp only); omega, by (try dsimp only); omega⟩ | exact Or.inr (by (try dsimp only); omega))

set_option maxRecDepth 100000 in
set_option maxHeartbeats 2000000 in
/-- What is bound. -/
theorem bind_deed {w0 W : World} {ow : Option Nat} {p q r : Nat} {f0 : Value} {d0 : Deed} {F : Int → Int → Bd → Int → Int → List ByteArray → Out} (hp : Box W ow p 0 f0) (h0 : DeedAt w0 W ow f0 d0) (g0 : GoodD d0)
    (HN : ∀ W' k n av bd v sd, Run NoX W ow W' v.ownBlock → Asks w0 W' k n av bd v sd → NextAt NoX w0 W' v.ownBlock (.func (.func 128) #[] #[.pointer (some ⟨q, 0, none⟩), .pointer (some ⟨r, 0, none⟩)]) k n av (F k n bd)) :
    DeedAt w0 W ow (.func (.func 127) #[] #[.pointer (some ⟨p, 0, none⟩), .pointer (some ⟨q, 0, none⟩), .pointer (some ⟨r, 0, none⟩)]) (fun k n bd sd => thenD (d0 k n bd sd) fun a => F k n bd a.k a.n a.said) := by
  refine ⟨_, _, rfl, (enters_of Tryz.func127 (by kernel_rfl) rfl), fun W' k n av bd v sd hrun hA => ?_⟩
  have hN := HN W' k n av bd v sd hrun hA
  have hD := h0.later hrun
  obtain ⟨g, lb, rfl, -, -⟩ := h0
  obtain ⟨c1, l1, -⟩ := hp.later hrun
  obtain ⟨ga, lba, rfl, -, -⟩ := hA.asked
  obtain ⟨oa, cp, rfl, hl1, hl2⟩ := hA.here.slice
  have hlt : ∀ b, (Value.slice oa sd.length cp).ownBlock = some b → b < W'.heap.size := fun b e => (hA.here.lt e).2
  have HW0 := Lib.hid hA.here.below.size
  have HH0 := Lib.hid hA.here
  have HLT := Lib.hid hlt
  have HAP0 := Lib.hid (show ∀ b, W'.heap.size ≤ b → b < W'.heap.size + 2 → (Value.slice oa sd.length cp).ownBlock ≠ some b from fun b h1 _ e => by have := hlt b e; omega)
  have HT := Lib.hid (fun Wa (hb : Below W'.heap.size W' Wa) => then_any (hA.step hb) (hD.later ((keeps_of_below hb).run _)) g0 (hN.later ((keeps_of_below hb).run _)) (fun b x => x.elim))
  show Calls Tryz.prog 127 #[scnV k n (.func (.func ga) #[] lba) (.slice oa sd.length cp), .pointer (some ⟨p, 0, none⟩), .pointer (some ⟨q, 0, none⟩), .pointer (some ⟨r, 0, none⟩)] W' (Did NoX w0 W' _ (thenD (d0 k n bd sd) fun a => F k n bd a.k a.n a.said))
  generalize (thenD (d0 k n bd sd) fun a => F k n bd a.k a.n a.said) = o at HT ⊢
  obtain ⟨ok, on, ot, os, oc⟩ := o
  generalize sd.length = len at *
  unfold maxLen at hl2
  unfold scnV at HT ⊢
  clear hN hD hA hrun HN hp hlt
  go_enter Tryz.func127, Tryz.ntmps127
  go_wp2_with fail
  have hbk : ∀ Wa, Below W'.heap.size W' Wa → W'.heap.size + 2 ≤ Wa.heap.size → Calls Tryz.prog 114 _ Wa _ := fun Wa hb hs => (HT.out Wa hb).mono fun e w' hd => came_back HH0.out (Run.refl NoX W' _) (keeps_of_below hb) (Nat.le_refl _) hs HAP0.out (fun b x => x.elim) hd
  refine (hbk _ ?_ ?_).mono ?_
  · (repeat (first | (with_reducible refine Below.alloc ?_ ?_ _) | (with_reducible refine Below.setCell ?_ ?_ _) | (with_reducible refine Below.drew ?_) | (with_reducible exact Below.refl _ _) | (with_reducible refine Below.trans ?_ (Below.mono (by assumption) ?_)))) <;> (first | omega | (dsimp only; omega) | (simp; done) | (simp; omega) | (simp at *; omega))
  · first | (simp; done) | (simp; omega) | (simp at *; omega)
  clear hbk
  rintro e w1 ⟨v1, rfl, hH1, hR1, hcc, hap1, hs1⟩
  obtain ⟨oa1, cp1, rfl, hm1, hn1⟩ := hH1.slice
  have hlt1 : ∀ b, (Value.slice oa1 os.length cp1).ownBlock = some b → b < w1.heap.size := fun b e => (hH1.lt e).2
  have r11 := fun i => hcc (W'.heap.size + 1) i (by omega) (by omega)
  simp only [forall_and] at r11
  obtain ⟨r11, f11⟩ := r11
  try simp at hs1
  have z11 : W'.heap.size + 1 < w1.heap.size := by omega
  have HH1 := Lib.hid hH1
  have HR1 := Lib.hid hR1
  have HLT1 := Lib.hid hlt1
  have HAP1 := Lib.hid hap1
  have HZ1 := Lib.hid hs1
  generalize os.length = len1 at *
  unfold maxLen at hn1
  unfold meanV
  simp only
  clear hH1 hR1 hlt1 hap1 hcc
  go_wp2_with fail
  refine bodyPost_ret (v := .agg #[.int .i64 ok, .int .i64 on, .bool ot, .slice oa1 len1 cp1, .int .i64 oc]) (by simp [results, Tryz.results127, go_sem, *]) rfl ?_
  refine did_end (lo := W'.heap.size) (hi := W'.heap.size + 2) HH1.out HR1.out ?_ (Nat.le_refl _) HW0.out HAP1.out
  (repeat (first | (with_reducible refine Keeps.alloc ?_ _) | (with_reducible refine Keeps.setCell ?_ ?_ _) | (with_reducible refine Keeps.drew ?_) | (with_reducible exact Keeps.refl _ _) | (with_reducible refine Keeps.below ?_ (by assumption)))) <;> (first | exact Or.inl rfl | exact Or.inl (Or.inl rfl) | exact Or.inl (Or.inr rfl) | exact Or.inl ⟨by (try dsimp only); omega, by (try dsimp only); omega⟩ | exact Or.inr (by (try dsimp only); omega))

set_option maxRecDepth 100000 in
set_option maxHeartbeats 2000000 in
/-- What is thrown. -/
theorem throw_deed {w0 W : World} {ow : Option Nat} {p : Nat} {f0 : Value} {d0 : Deed} {F : Int → Int → Bd → Int → Int → List ByteArray → Out} (hp : Box W ow p 0 f0) (h0 : DeedAt w0 W ow f0 d0) (g0 : GoodD d0)
    (HN : ∀ W' k n av bd v sd, Run NoX W ow W' v.ownBlock → Asks w0 W' k n av bd v sd → NextAt NoX w0 W' v.ownBlock (.func (.func 131) #[] #[]) k n av (F k n bd)) :
    DeedAt w0 W ow (.func (.func 130) #[] #[.pointer (some ⟨p, 0, none⟩)]) (fun k n bd sd => thenD (d0 k n bd sd) fun a => F k n bd a.k a.n a.said) := by
  refine ⟨_, _, rfl, (enters_of Tryz.func130 (by kernel_rfl) rfl), fun W' k n av bd v sd hrun hA => ?_⟩
  have hN := HN W' k n av bd v sd hrun hA
  have hD := h0.later hrun
  obtain ⟨g, lb, rfl, -, -⟩ := h0
  obtain ⟨c1, l1, -⟩ := hp.later hrun
  obtain ⟨ga, lba, rfl, -, -⟩ := hA.asked
  obtain ⟨oa, cp, rfl, hl1, hl2⟩ := hA.here.slice
  have hlt : ∀ b, (Value.slice oa sd.length cp).ownBlock = some b → b < W'.heap.size := fun b e => (hA.here.lt e).2
  have HW0 := Lib.hid hA.here.below.size
  have HH0 := Lib.hid hA.here
  have HLT := Lib.hid hlt
  have HAP0 := Lib.hid (show ∀ b, W'.heap.size ≤ b → b < W'.heap.size + 2 → (Value.slice oa sd.length cp).ownBlock ≠ some b from fun b h1 _ e => by have := hlt b e; omega)
  have HT := Lib.hid (fun Wa (hb : Below W'.heap.size W' Wa) => then_any (hA.step hb) (hD.later ((keeps_of_below hb).run _)) g0 (hN.later ((keeps_of_below hb).run _)) (fun b x => x.elim))
  show Calls Tryz.prog 130 #[scnV k n (.func (.func ga) #[] lba) (.slice oa sd.length cp), .pointer (some ⟨p, 0, none⟩)] W' (Did NoX w0 W' _ (thenD (d0 k n bd sd) fun a => F k n bd a.k a.n a.said))
  generalize (thenD (d0 k n bd sd) fun a => F k n bd a.k a.n a.said) = o at HT ⊢
  obtain ⟨ok, on, ot, os, oc⟩ := o
  generalize sd.length = len at *
  unfold maxLen at hl2
  unfold scnV at HT ⊢
  clear hN hD hA hrun HN hp hlt
  go_enter Tryz.func130, Tryz.ntmps130
  go_wp2_with fail
  have hbk : ∀ Wa, Below W'.heap.size W' Wa → W'.heap.size + 2 ≤ Wa.heap.size → Calls Tryz.prog 114 _ Wa _ := fun Wa hb hs => (HT.out Wa hb).mono fun e w' hd => came_back HH0.out (Run.refl NoX W' _) (keeps_of_below hb) (Nat.le_refl _) hs HAP0.out (fun b x => x.elim) hd
  refine (hbk _ ?_ ?_).mono ?_
  · (repeat (first | (with_reducible refine Below.alloc ?_ ?_ _) | (with_reducible refine Below.setCell ?_ ?_ _) | (with_reducible refine Below.drew ?_) | (with_reducible exact Below.refl _ _) | (with_reducible refine Below.trans ?_ (Below.mono (by assumption) ?_)))) <;> (first | omega | (dsimp only; omega) | (simp; done) | (simp; omega) | (simp at *; omega))
  · first | (simp; done) | (simp; omega) | (simp at *; omega)
  clear hbk
  rintro e w1 ⟨v1, rfl, hH1, hR1, hcc, hap1, hs1⟩
  obtain ⟨oa1, cp1, rfl, hm1, hn1⟩ := hH1.slice
  have hlt1 : ∀ b, (Value.slice oa1 os.length cp1).ownBlock = some b → b < w1.heap.size := fun b e => (hH1.lt e).2
  have r11 := fun i => hcc (W'.heap.size + 1) i (by omega) (by omega)
  simp only [forall_and] at r11
  obtain ⟨r11, f11⟩ := r11
  try simp at hs1
  have z11 : W'.heap.size + 1 < w1.heap.size := by omega
  have HH1 := Lib.hid hH1
  have HR1 := Lib.hid hR1
  have HLT1 := Lib.hid hlt1
  have HAP1 := Lib.hid hap1
  have HZ1 := Lib.hid hs1
  generalize os.length = len1 at *
  unfold maxLen at hn1
  unfold meanV
  simp only
  clear hH1 hR1 hlt1 hap1 hcc
  go_wp2_with fail
  refine bodyPost_ret (v := .agg #[.int .i64 ok, .int .i64 on, .bool ot, .slice oa1 len1 cp1, .int .i64 oc]) (by simp [results, Tryz.results130, go_sem, *]) rfl ?_
  refine did_end (lo := W'.heap.size) (hi := W'.heap.size + 2) HH1.out HR1.out ?_ (Nat.le_refl _) HW0.out HAP1.out
  (repeat (first | (with_reducible refine Keeps.alloc ?_ _) | (with_reducible refine Keeps.setCell ?_ ?_ _) | (with_reducible refine Keeps.drew ?_) | (with_reducible exact Keeps.refl _ _) | (with_reducible refine Keeps.below ?_ (by assumption)))) <;> (first | exact Or.inl rfl | exact Or.inl (Or.inl rfl) | exact Or.inl (Or.inr rfl) | exact Or.inl ⟨by (try dsimp only); omega, by (try dsimp only); omega⟩ | exact Or.inr (by (try dsimp only); omega))

end L2
end Go.Proofs.YtkhjbhkbknennaaGreatDoor
