/-
  The closures that sums are made of, each by its contract (written by wip/gen_c4.py).
-/
import Derived.Test.YtncaacljeeinpaaGreatDoorC3
namespace Go.Proofs.YtncaacljeeinpaaGreatDoor
open Go.RowKit Go.Shelf
namespace L2
open S1 L1

set_option maxRecDepth 100000 in
set_option maxHeartbeats 2000000 in
/-- Two sums, and what is made of what they are worth. -/
theorem two_deed {w0 W : World} {ow : Option Nat} {p q r : Nat} {f0 : Value} {d0 : Deed} {F : Int → Int → Bd → Int → Int → List ByteArray → Out} (hp : Box W ow p 0 f0) (h0 : DeedAt w0 W ow f0 d0) (g0 : GoodD d0)
    (HN : ∀ W' k n av bd v sd, Run NoX W ow W' v.ownBlock → Asks w0 W' k n av bd v sd → NextAt NoX w0 W' v.ownBlock (.func (.func 127) #[] #[.pointer (some ⟨q, 0, none⟩), .pointer (some ⟨r, 0, none⟩)]) k n av (F k n bd)) :
    DeedAt w0 W ow (.func (.func 125) #[] #[.pointer (some ⟨p, 0, none⟩), .pointer (some ⟨q, 0, none⟩), .pointer (some ⟨r, 0, none⟩)]) (fun k n bd sd => thenD (d0 k n bd sd) fun a => F k n bd a.k a.n a.said) := by
  refine ⟨_, _, rfl, (enters_of Tryz.func125 (by kernel_rfl) rfl), fun W' k n av bd v sd hrun hA => ?_⟩
  have hN := HN W' k n av bd v sd hrun hA
  have hD := h0.later hrun
  obtain ⟨g, lb, rfl, -, -⟩ := h0
  obtain ⟨c1, l1, -⟩ := hp.later hrun
  obtain ⟨ga, lba, rfl, -, -⟩ := hA.asked
  obtain ⟨oa, cp, rfl, hl1, hl2⟩ := hA.here.slice
  have hlt : ∀ b, (Value.slice oa sd.length cp).ownBlock = some b → b < W'.heap.size := fun b e => (hA.here.lt e).2
  have HW0 := Lib.hid hA.here.below.size
  have HH0 := Lib.hid hA.here
  have HLT := Lib.hid hlt
  have HAP0 := Lib.hid (show ∀ b, W'.heap.size ≤ b → b < W'.heap.size + 2 → (Value.slice oa sd.length cp).ownBlock ≠ some b from fun b h1 _ e => by have := hlt b e; omega)
  have HT := Lib.hid (fun Wa (hb : Below W'.heap.size W' Wa) => then_any (hA.step hb) (hD.later ((keeps_of_below hb).run _)) g0 (hN.later ((keeps_of_below hb).run _)) (fun b x => x.elim))
  show Calls Tryz.prog 125 #[scnV k n (.func (.func ga) #[] lba) (.slice oa sd.length cp), .pointer (some ⟨p, 0, none⟩), .pointer (some ⟨q, 0, none⟩), .pointer (some ⟨r, 0, none⟩)] W' (Did NoX w0 W' _ (thenD (d0 k n bd sd) fun a => F k n bd a.k a.n a.said))
  generalize (thenD (d0 k n bd sd) fun a => F k n bd a.k a.n a.said) = o at HT ⊢
  obtain ⟨ok, on, ot, os, oc⟩ := o
  generalize sd.length = len at *
  unfold maxLen at hl2
  unfold scnV at HT ⊢
  clear hN hD hA hrun HN hp hlt
  go_enter Tryz.func125, Tryz.ntmps125
  go_wp2_with fail
  have hbk : ∀ Wa, Below W'.heap.size W' Wa → W'.heap.size + 2 ≤ Wa.heap.size → Calls Tryz.prog 126 _ Wa _ := fun Wa hb hs => (HT.out Wa hb).mono fun e w' hd => came_back HH0.out (Run.refl NoX W' _) (keeps_of_below hb) (Nat.le_refl _) hs HAP0.out (fun b x => x.elim) hd
  refine (hbk _ ?_ ?_).mono ?_
  · (repeat (first | (with_reducible refine Below.alloc ?_ ?_ _) | (with_reducible refine Below.setCell ?_ ?_ _) | (with_reducible refine Below.drew ?_) | (with_reducible exact Below.refl _ _) | (with_reducible refine Below.trans ?_ (Below.mono (by assumption) ?_)))) <;> (first | omega | (dsimp only; omega) | (simp; done) | (simp; omega) | (simp at *; omega))
  · first | (simp; done) | (simp; omega) | (simp at *; omega)
  clear hbk
  rintro e w1 ⟨v1, rfl, hH1, hR1, hcc, hap1, hs1⟩
  obtain ⟨oa1, cp1, rfl, hm1, hn1⟩ := hH1.slice
  have hlt1 : ∀ b, (Value.slice oa1 os.length cp1).ownBlock = some b → b < w1.heap.size := fun b e => (hH1.lt e).2
  have r11 := fun i => hcc (W'.heap.size + 1) i (by omega) (by omega)
  simp only [forall_and] at r11
  obtain ⟨r11, f11⟩ := r11
  try simp at hs1
  have z11 : W'.heap.size + 1 < w1.heap.size := by omega
  have HH1 := Lib.hid hH1
  have HR1 := Lib.hid hR1
  have HLT1 := Lib.hid hlt1
  have HAP1 := Lib.hid hap1
  have HZ1 := Lib.hid hs1
  generalize os.length = len1 at *
  unfold maxLen at hn1
  unfold meanV
  simp only
  clear hH1 hR1 hlt1 hap1 hcc
  go_wp2_with fail
  refine bodyPost_ret (v := .agg #[.int .i64 ok, .int .i64 on, .bool ot, .slice oa1 len1 cp1, .int .i64 oc]) (by simp [results, Tryz.results125, go_sem, *]) rfl ?_
  refine did_end (lo := W'.heap.size) (hi := W'.heap.size + 2) HH1.out HR1.out ?_ (Nat.le_refl _) HW0.out HAP1.out
  (repeat (first | (with_reducible refine Keeps.alloc ?_ _) | (with_reducible refine Keeps.setCell ?_ ?_ _) | (with_reducible refine Keeps.drew ?_) | (with_reducible exact Keeps.refl _ _) | (with_reducible refine Keeps.below ?_ (by assumption)))) <;> (first | exact Or.inl rfl | exact Or.inl (Or.inl rfl) | exact Or.inl (Or.inr rfl) | exact Or.inl ⟨by (try dsimp only); omega, by (try dsimp only); omega⟩ | exact Or.inr (by (try dsimp only); omega))

set_option maxRecDepth 100000 in
set_option maxHeartbeats 2000000 in
/-- A sum that is said. -/
theorem say_deed {w0 W : World} {ow : Option Nat} {p : Nat} {f0 : Value} {d0 : Deed} {F : Int → Int → Bd → Int → Int → List ByteArray → Out} (hp : Box W ow p 0 f0) (h0 : DeedAt w0 W ow f0 d0) (g0 : GoodD d0)
    (HN : ∀ W' k n av bd v sd, Run NoX W ow W' v.ownBlock → Asks w0 W' k n av bd v sd → NextAt NoX w0 W' v.ownBlock (.func (.func 133) #[] #[]) k n av (F k n bd)) :
    DeedAt w0 W ow (.func (.func 132) #[] #[.pointer (some ⟨p, 0, none⟩)]) (fun k n bd sd => thenD (d0 k n bd sd) fun a => F k n bd a.k a.n a.said) := by
  refine ⟨_, _, rfl, (enters_of Tryz.func132 (by kernel_rfl) rfl), fun W' k n av bd v sd hrun hA => ?_⟩
  have hN := HN W' k n av bd v sd hrun hA
  have hD := h0.later hrun
  obtain ⟨g, lb, rfl, -, -⟩ := h0
  obtain ⟨c1, l1, -⟩ := hp.later hrun
  obtain ⟨ga, lba, rfl, -, -⟩ := hA.asked
  obtain ⟨oa, cp, rfl, hl1, hl2⟩ := hA.here.slice
  have hlt : ∀ b, (Value.slice oa sd.length cp).ownBlock = some b → b < W'.heap.size := fun b e => (hA.here.lt e).2
  have HW0 := Lib.hid hA.here.below.size
  have HH0 := Lib.hid hA.here
  have HLT := Lib.hid hlt
  have HAP0 := Lib.hid (show ∀ b, W'.heap.size ≤ b → b < W'.heap.size + 2 → (Value.slice oa sd.length cp).ownBlock ≠ some b from fun b h1 _ e => by have := hlt b e; omega)
  have HT := Lib.hid (fun Wa (hb : Below W'.heap.size W' Wa) => then_any (hA.step hb) (hD.later ((keeps_of_below hb).run _)) g0 (hN.later ((keeps_of_below hb).run _)) (fun b x => x.elim))
  show Calls Tryz.prog 132 #[scnV k n (.func (.func ga) #[] lba) (.slice oa sd.length cp), .pointer (some ⟨p, 0, none⟩)] W' (Did NoX w0 W' _ (thenD (d0 k n bd sd) fun a => F k n bd a.k a.n a.said))
  generalize (thenD (d0 k n bd sd) fun a => F k n bd a.k a.n a.said) = o at HT ⊢
  obtain ⟨ok, on, ot, os, oc⟩ := o
  generalize sd.length = len at *
  unfold maxLen at hl2
  unfold scnV at HT ⊢
  clear hN hD hA hrun HN hp hlt
  go_enter Tryz.func132, Tryz.ntmps132
  go_wp2_with fail
  have hbk : ∀ Wa, Below W'.heap.size W' Wa → W'.heap.size + 2 ≤ Wa.heap.size → Calls Tryz.prog 126 _ Wa _ := fun Wa hb hs => (HT.out Wa hb).mono fun e w' hd => came_back HH0.out (Run.refl NoX W' _) (keeps_of_below hb) (Nat.le_refl _) hs HAP0.out (fun b x => x.elim) hd
  refine (hbk _ ?_ ?_).mono ?_
  · (repeat (first | (with_reducible refine Below.alloc ?_ ?_ _) | (with_reducible refine Below.setCell ?_ ?_ _) | (with_reducible refine Below.drew ?_) | (with_reducible exact Below.refl _ _) | (with_reducible refine Below.trans ?_ (Below.mono (by assumption) ?_)))) <;> (first | omega | (dsimp only; omega) | (simp; done) | (simp; omega) | (simp at *; omega))
  · first | (simp; done) | (simp; omega) | (simp at *; omega)
  clear hbk
  rintro e w1 ⟨v1, rfl, hH1, hR1, hcc, hap1, hs1⟩
  obtain ⟨oa1, cp1, rfl, hm1, hn1⟩ := hH1.slice
  have hlt1 : ∀ b, (Value.slice oa1 os.length cp1).ownBlock = some b → b < w1.heap.size := fun b e => (hH1.lt e).2
  have r11 := fun i => hcc (W'.heap.size + 1) i (by omega) (by omega)
  simp only [forall_and] at r11
  obtain ⟨r11, f11⟩ := r11
  try simp at hs1
  have z11 : W'.heap.size + 1 < w1.heap.size := by omega
  have HH1 := Lib.hid hH1
  have HR1 := Lib.hid hR1
  have HLT1 := Lib.hid hlt1
  have HAP1 := Lib.hid hap1
  have HZ1 := Lib.hid hs1
  generalize os.length = len1 at *
  unfold maxLen at hn1
  unfold meanV
  simp only
  clear hH1 hR1 hlt1 hap1 hcc
  go_wp2_with fail
  refine bodyPost_ret (v := .agg #[.int .i64 ok, .int .i64 on, .bool ot, .slice oa1 len1 cp1, .int .i64 oc]) (by simp [results, Tryz.results132, go_sem, *]) rfl ?_
  refine did_end (lo := W'.heap.size) (hi := W'.heap.size + 2) HH1.out HR1.out ?_ (Nat.le_refl _) HW0.out HAP1.out
  (repeat (first | (with_reducible refine Keeps.alloc ?_ _) | (with_reducible refine Keeps.setCell ?_ ?_ _) | (with_reducible refine Keeps.drew ?_) | (with_reducible exact Keeps.refl _ _) | (with_reducible refine Keeps.below ?_ (by assumption)))) <;> (first | exact Or.inl rfl | exact Or.inl (Or.inl rfl) | exact Or.inl (Or.inr rfl) | exact Or.inl ⟨by (try dsimp only); omega, by (try dsimp only); omega⟩ | exact Or.inr (by (try dsimp only); omega))

set_option maxRecDepth 100000 in
set_option maxHeartbeats 2000000 in
/-- One sum of two. -/
theorem if_deed {w0 W : World} {ow : Option Nat} {p q r : Nat} {f0 : Value} {d0 : Deed} {F : Int → Int → Bd → Int → Int → List ByteArray → Out} (hp : Box W ow p 0 f0) (h0 : DeedAt w0 W ow f0 d0) (g0 : GoodD d0)
    (HN : ∀ W' k n av bd v sd, Run NoX W ow W' v.ownBlock → Asks w0 W' k n av bd v sd → NextAt NoX w0 W' v.ownBlock (.func (.func 135) #[] #[.pointer (some ⟨q, 0, none⟩), .pointer (some ⟨r, 0, none⟩)]) k n av (F k n bd)) :
    DeedAt w0 W ow (.func (.func 134) #[] #[.pointer (some ⟨p, 0, none⟩), .pointer (some ⟨q, 0, none⟩), .pointer (some ⟨r, 0, none⟩)]) (fun k n bd sd => thenD (d0 k n bd sd) fun a => F k n bd a.k a.n a.said) := by
  refine ⟨_, _, rfl, (enters_of Tryz.func134 (by kernel_rfl) rfl), fun W' k n av bd v sd hrun hA => ?_⟩
  have hN := HN W' k n av bd v sd hrun hA
  have hD := h0.later hrun
  obtain ⟨g, lb, rfl, -, -⟩ := h0
  obtain ⟨c1, l1, -⟩ := hp.later hrun
  obtain ⟨ga, lba, rfl, -, -⟩ := hA.asked
  obtain ⟨oa, cp, rfl, hl1, hl2⟩ := hA.here.slice
  have hlt : ∀ b, (Value.slice oa sd.length cp).ownBlock = some b → b < W'.heap.size := fun b e => (hA.here.lt e).2
  have HW0 := Lib.hid hA.here.below.size
  have HH0 := Lib.hid hA.here
  have HLT := Lib.hid hlt
  have HAP0 := Lib.hid (show ∀ b, W'.heap.size ≤ b → b < W'.heap.size + 2 → (Value.slice oa sd.length cp).ownBlock ≠ some b from fun b h1 _ e => by have := hlt b e; omega)
  have HT := Lib.hid (fun Wa (hb : Below W'.heap.size W' Wa) => then_any (hA.step hb) (hD.later ((keeps_of_below hb).run _)) g0 (hN.later ((keeps_of_below hb).run _)) (fun b x => x.elim))
  show Calls Tryz.prog 134 #[scnV k n (.func (.func ga) #[] lba) (.slice oa sd.length cp), .pointer (some ⟨p, 0, none⟩), .pointer (some ⟨q, 0, none⟩), .pointer (some ⟨r, 0, none⟩)] W' (Did NoX w0 W' _ (thenD (d0 k n bd sd) fun a => F k n bd a.k a.n a.said))
  generalize (thenD (d0 k n bd sd) fun a => F k n bd a.k a.n a.said) = o at HT ⊢
  obtain ⟨ok, on, ot, os, oc⟩ := o
  generalize sd.length = len at *
  unfold maxLen at hl2
  unfold scnV at HT ⊢
  clear hN hD hA hrun HN hp hlt
  go_enter Tryz.func134, Tryz.ntmps134
  go_wp2_with fail
  have hbk : ∀ Wa, Below W'.heap.size W' Wa → W'.heap.size + 2 ≤ Wa.heap.size → Calls Tryz.prog 126 _ Wa _ := fun Wa hb hs => (HT.out Wa hb).mono fun e w' hd => came_back HH0.out (Run.refl NoX W' _) (keeps_of_below hb) (Nat.le_refl _) hs HAP0.out (fun b x => x.elim) hd
  refine (hbk _ ?_ ?_).mono ?_
  · (repeat (first | (with_reducible refine Below.alloc ?_ ?_ _) | (with_reducible refine Below.setCell ?_ ?_ _) | (with_reducible refine Below.drew ?_) | (with_reducible exact Below.refl _ _) | (with_reducible refine Below.trans ?_ (Below.mono (by assumption) ?_)))) <;> (first | omega | (dsimp only; omega) | (simp; done) | (simp; omega) | (simp at *; omega))
  · first | (simp; done) | (simp; omega) | (simp at *; omega)
  clear hbk
  rintro e w1 ⟨v1, rfl, hH1, hR1, hcc, hap1, hs1⟩
  obtain ⟨oa1, cp1, rfl, hm1, hn1⟩ := hH1.slice
  have hlt1 : ∀ b, (Value.slice oa1 os.length cp1).ownBlock = some b → b < w1.heap.size := fun b e => (hH1.lt e).2
  have r11 := fun i => hcc (W'.heap.size + 1) i (by omega) (by omega)
  simp only [forall_and] at r11
  obtain ⟨r11, f11⟩ := r11
  try simp at hs1
  have z11 : W'.heap.size + 1 < w1.heap.size := by omega
  have HH1 := Lib.hid hH1
  have HR1 := Lib.hid hR1
  have HLT1 := Lib.hid hlt1
  have HAP1 := Lib.hid hap1
  have HZ1 := Lib.hid hs1
  generalize os.length = len1 at *
  unfold maxLen at hn1
  unfold meanV
  simp only
  clear hH1 hR1 hlt1 hap1 hcc
  go_wp2_with fail
  refine bodyPost_ret (v := .agg #[.int .i64 ok, .int .i64 on, .bool ot, .slice oa1 len1 cp1, .int .i64 oc]) (by simp [results, Tryz.results134, go_sem, *]) rfl ?_
  refine did_end (lo := W'.heap.size) (hi := W'.heap.size + 2) HH1.out HR1.out ?_ (Nat.le_refl _) HW0.out HAP1.out
  (repeat (first | (with_reducible refine Keeps.alloc ?_ _) | (with_reducible refine Keeps.setCell ?_ ?_ _) | (with_reducible refine Keeps.drew ?_) | (with_reducible exact Keeps.refl _ _) | (with_reducible refine Keeps.below ?_ (by assumption)))) <;> (first | exact Or.inl rfl | exact Or.inl (Or.inl rfl) | exact Or.inl (Or.inr rfl) | exact Or.inl ⟨by (try dsimp only); omega, by (try dsimp only); omega⟩ | exact Or.inr (by (try dsimp only); omega))

set_option maxRecDepth 100000 in
set_option maxHeartbeats 2000000 in
/-- What is bound. -/
theorem bind_deed {w0 W : World} {ow : Option Nat} {p q r : Nat} {f0 : Value} {d0 : Deed} {F : Int → Int → Bd → Int → Int → List ByteArray → Out} (hp : Box W ow p 0 f0) (h0 : DeedAt w0 W ow f0 d0) (g0 : GoodD d0)
    (HN : ∀ W' k n av bd v sd, Run NoX W ow W' v.ownBlock → Asks w0 W' k n av bd v sd → NextAt NoX w0 W' v.ownBlock (.func (.func 140) #[] #[.pointer (some ⟨q, 0, none⟩), .pointer (some ⟨r, 0, none⟩)]) k n av (F k n bd)) :
    DeedAt w0 W ow (.func (.func 139) #[] #[.pointer (some ⟨p, 0, none⟩), .pointer (some ⟨q, 0, none⟩), .pointer (some ⟨r, 0, none⟩)]) (fun k n bd sd => thenD (d0 k n bd sd) fun a => F k n bd a.k a.n a.said) := by
  refine ⟨_, _, rfl, (enters_of Tryz.func139 (by kernel_rfl) rfl), fun W' k n av bd v sd hrun hA => ?_⟩
  have hN := HN W' k n av bd v sd hrun hA
  have hD := h0.later hrun
  obtain ⟨g, lb, rfl, -, -⟩ := h0
  obtain ⟨c1, l1, -⟩ := hp.later hrun
  obtain ⟨ga, lba, rfl, -, -⟩ := hA.asked
  obtain ⟨oa, cp, rfl, hl1, hl2⟩ := hA.here.slice
  have hlt : ∀ b, (Value.slice oa sd.length cp).ownBlock = some b → b < W'.heap.size := fun b e => (hA.here.lt e).2
  have HW0 := Lib.hid hA.here.below.size
  have HH0 := Lib.hid hA.here
  have HLT := Lib.hid hlt
  have HAP0 := Lib.hid (show ∀ b, W'.heap.size ≤ b → b < W'.heap.size + 2 → (Value.slice oa sd.length cp).ownBlock ≠ some b from fun b h1 _ e => by have := hlt b e; omega)
  have HT := Lib.hid (fun Wa (hb : Below W'.heap.size W' Wa) => then_any (hA.step hb) (hD.later ((keeps_of_below hb).run _)) g0 (hN.later ((keeps_of_below hb).run _)) (fun b x => x.elim))
  show Calls Tryz.prog 139 #[scnV k n (.func (.func ga) #[] lba) (.slice oa sd.length cp), .pointer (some ⟨p, 0, none⟩), .pointer (some ⟨q, 0, none⟩), .pointer (some ⟨r, 0, none⟩)] W' (Did NoX w0 W' _ (thenD (d0 k n bd sd) fun a => F k n bd a.k a.n a.said))
  generalize (thenD (d0 k n bd sd) fun a => F k n bd a.k a.n a.said) = o at HT ⊢
  obtain ⟨ok, on, ot, os, oc⟩ := o
  generalize sd.length = len at *
  unfold maxLen at hl2
  unfold scnV at HT ⊢
  clear hN hD hA hrun HN hp hlt
  go_enter Tryz.func139, Tryz.ntmps139
  go_wp2_with fail
  have hbk : ∀ Wa, Below W'.heap.size W' Wa → W'.heap.size + 2 ≤ Wa.heap.size → Calls Tryz.prog 126 _ Wa _ := fun Wa hb hs => (HT.out Wa hb).mono fun e w' hd => came_back HH0.out (Run.refl NoX W' _) (keeps_of_below hb) (Nat.le_refl _) hs HAP0.out (fun b x => x.elim) hd
  refine (hbk _ ?_ ?_).mono ?_
  · (repeat (first | (with_reducible refine Below.alloc ?_ ?_ _) | (with_reducible refine Below.setCell ?_ ?_ _) | (with_reducible refine Below.drew ?_) | (with_reducible exact Below.refl _ _) | (with_reducible refine Below.trans ?_ (Below.mono (by assumption) ?_)))) <;> (first | omega | (dsimp only; omega) | (simp; done) | (simp; omega) | (simp at *; omega))
  · first | (simp; done) | (simp; omega) | (simp at *; omega)
  clear hbk
  rintro e w1 ⟨v1, rfl, hH1, hR1, hcc, hap1, hs1⟩
  obtain ⟨oa1, cp1, rfl, hm1, hn1⟩ := hH1.slice
  have hlt1 : ∀ b, (Value.slice oa1 os.length cp1).ownBlock = some b → b < w1.heap.size := fun b e => (hH1.lt e).2
  have r11 := fun i => hcc (W'.heap.size + 1) i (by omega) (by omega)
  simp only [forall_and] at r11
  obtain ⟨r11, f11⟩ := r11
  try simp at hs1
  have z11 : W'.heap.size + 1 < w1.heap.size := by omega
  have HH1 := Lib.hid hH1
  have HR1 := Lib.hid hR1
  have HLT1 := Lib.hid hlt1
  have HAP1 := Lib.hid hap1
  have HZ1 := Lib.hid hs1
  generalize os.length = len1 at *
  unfold maxLen at hn1
  unfold meanV
  simp only
  clear hH1 hR1 hlt1 hap1 hcc
  go_wp2_with fail
  refine bodyPost_ret (v := .agg #[.int .i64 ok, .int .i64 on, .bool ot, .slice oa1 len1 cp1, .int .i64 oc]) (by simp [results, Tryz.results139, go_sem, *]) rfl ?_
  refine did_end (lo := W'.heap.size) (hi := W'.heap.size + 2) HH1.out HR1.out ?_ (Nat.le_refl _) HW0.out HAP1.out
  (repeat (first | (with_reducible refine Keeps.alloc ?_ _) | (with_reducible refine Keeps.setCell ?_ ?_ _) | (with_reducible refine Keeps.drew ?_) | (with_reducible exact Keeps.refl _ _) | (with_reducible refine Keeps.below ?_ (by assumption)))) <;> (first | exact Or.inl rfl | exact Or.inl (Or.inl rfl) | exact Or.inl (Or.inr rfl) | exact Or.inl ⟨by (try dsimp only); omega, by (try dsimp only); omega⟩ | exact Or.inr (by (try dsimp only); omega))

set_option maxRecDepth 100000 in
set_option maxHeartbeats 2000000 in
/-- What is thrown. -/
theorem throw_deed {w0 W : World} {ow : Option Nat} {p : Nat} {f0 : Value} {d0 : Deed} {F : Int → Int → Bd → Int → Int → List ByteArray → Out} (hp : Box W ow p 0 f0) (h0 : DeedAt w0 W ow f0 d0) (g0 : GoodD d0)
    (HN : ∀ W' k n av bd v sd, Run NoX W ow W' v.ownBlock → Asks w0 W' k n av bd v sd → NextAt NoX w0 W' v.ownBlock (.func (.func 143) #[] #[]) k n av (F k n bd)) :
    DeedAt w0 W ow (.func (.func 142) #[] #[.pointer (some ⟨p, 0, none⟩)]) (fun k n bd sd => thenD (d0 k n bd sd) fun a => F k n bd a.k a.n a.said) := by
  refine ⟨_, _, rfl, (enters_of Tryz.func142 (by kernel_rfl) rfl), fun W' k n av bd v sd hrun hA => ?_⟩
  have hN := HN W' k n av bd v sd hrun hA
  have hD := h0.later hrun
  obtain ⟨g, lb, rfl, -, -⟩ := h0
  obtain ⟨c1, l1, -⟩ := hp.later hrun
  obtain ⟨ga, lba, rfl, -, -⟩ := hA.asked
  obtain ⟨oa, cp, rfl, hl1, hl2⟩ := hA.here.slice
  have hlt : ∀ b, (Value.slice oa sd.length cp).ownBlock = some b → b < W'.heap.size := fun b e => (hA.here.lt e).2
  have HW0 := Lib.hid hA.here.below.size
  have HH0 := Lib.hid hA.here
  have HLT := Lib.hid hlt
  have HAP0 := Lib.hid (show ∀ b, W'.heap.size ≤ b → b < W'.heap.size + 2 → (Value.slice oa sd.length cp).ownBlock ≠ some b from fun b h1 _ e => by have := hlt b e; omega)
  have HT := Lib.hid (fun Wa (hb : Below W'.heap.size W' Wa) => then_any (hA.step hb) (hD.later ((keeps_of_below hb).run _)) g0 (hN.later ((keeps_of_below hb).run _)) (fun b x => x.elim))
  show Calls Tryz.prog 142 #[scnV k n (.func (.func ga) #[] lba) (.slice oa sd.length cp), .pointer (some ⟨p, 0, none⟩)] W' (Did NoX w0 W' _ (thenD (d0 k n bd sd) fun a => F k n bd a.k a.n a.said))
  generalize (thenD (d0 k n bd sd) fun a => F k n bd a.k a.n a.said) = o at HT ⊢
  obtain ⟨ok, on, ot, os, oc⟩ := o
  generalize sd.length = len at *
  unfold maxLen at hl2
  unfold scnV at HT ⊢
  clear hN hD hA hrun HN hp hlt
  go_enter Tryz.func142, Tryz.ntmps142
  go_wp2_with fail
  have hbk : ∀ Wa, Below W'.heap.size W' Wa → W'.heap.size + 2 ≤ Wa.heap.size → Calls Tryz.prog 126 _ Wa _ := fun Wa hb hs => (HT.out Wa hb).mono fun e w' hd => came_back HH0.out (Run.refl NoX W' _) (keeps_of_below hb) (Nat.le_refl _) hs HAP0.out (fun b x => x.elim) hd
  refine (hbk _ ?_ ?_).mono ?_
  · (repeat (first | (with_reducible refine Below.alloc ?_ ?_ _) | (with_reducible refine Below.setCell ?_ ?_ _) | (with_reducible refine Below.drew ?_) | (with_reducible exact Below.refl _ _) | (with_reducible refine Below.trans ?_ (Below.mono (by assumption) ?_)))) <;> (first | omega | (dsimp only; omega) | (simp; done) | (simp; omega) | (simp at *; omega))
  · first | (simp; done) | (simp; omega) | (simp at *; omega)
  clear hbk
  rintro e w1 ⟨v1, rfl, hH1, hR1, hcc, hap1, hs1⟩
  obtain ⟨oa1, cp1, rfl, hm1, hn1⟩ := hH1.slice
  have hlt1 : ∀ b, (Value.slice oa1 os.length cp1).ownBlock = some b → b < w1.heap.size := fun b e => (hH1.lt e).2
  have r11 := fun i => hcc (W'.heap.size + 1) i (by omega) (by omega)
  simp only [forall_and] at r11
  obtain ⟨r11, f11⟩ := r11
  try simp at hs1
  have z11 : W'.heap.size + 1 < w1.heap.size := by omega
  have HH1 := Lib.hid hH1
  have HR1 := Lib.hid hR1
  have HLT1 := Lib.hid hlt1
  have HAP1 := Lib.hid hap1
  have HZ1 := Lib.hid hs1
  generalize os.length = len1 at *
  unfold maxLen at hn1
  unfold meanV
  simp only
  clear hH1 hR1 hlt1 hap1 hcc
  go_wp2_with fail
  refine bodyPost_ret (v := .agg #[.int .i64 ok, .int .i64 on, .bool ot, .slice oa1 len1 cp1, .int .i64 oc]) (by simp [results, Tryz.results142, go_sem, *]) rfl ?_
  refine did_end (lo := W'.heap.size) (hi := W'.heap.size + 2) HH1.out HR1.out ?_ (Nat.le_refl _) HW0.out HAP1.out
  (repeat (first | (with_reducible refine Keeps.alloc ?_ _) | (with_reducible refine Keeps.setCell ?_ ?_ _) | (with_reducible refine Keeps.drew ?_) | (with_reducible exact Keeps.refl _ _) | (with_reducible refine Keeps.below ?_ (by assumption)))) <;> (first | exact Or.inl rfl | exact Or.inl (Or.inl rfl) | exact Or.inl (Or.inr rfl) | exact Or.inl ⟨by (try dsimp only); omega, by (try dsimp only); omega⟩ | exact Or.inr (by (try dsimp only); omega))

end L2
end Go.Proofs.YtncaacljeeinpaaGreatDoor
