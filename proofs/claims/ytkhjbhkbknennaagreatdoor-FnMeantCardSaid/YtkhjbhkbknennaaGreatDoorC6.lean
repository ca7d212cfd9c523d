/-
  What goes on behind a first sum: a second one, one of two, what is bound; a number (written by wip/gen_c6.py).
-/
import Derived.Test.YtkhjbhkbknennaaGreatDoorC5
namespace Go.Proofs.YtkhjbhkbknennaaGreatDoor
open Go.RowKit Go.Shelf
namespace L2
open S1 L1

set_option maxRecDepth 100000 in
set_option maxHeartbeats 2000000 in
/-- A number. -/
theorem num_deed {w0 W : World} {ow : Option Nat} {p : Nat} {x : Int} (hp : Box W ow p 0 (.int .i64 x)) (hx : clampI x = x) : DeedAt w0 W ow (.func (.func 91) #[] #[.pointer (some ⟨p, 0, none⟩)]) (numD x) := by
  refine ⟨_, _, rfl, (enters_of Tryz.func91 (by kernel_rfl) rfl), fun W' k n av bd v sd hrun hA => ?_⟩
  obtain ⟨c1, l1, -⟩ := hp.later hrun
  obtain ⟨ga, lba, rfl, -, -⟩ := hA.asked
  obtain ⟨oa, cp, rfl, hl1, hl2⟩ := hA.here.slice
  have hlt : ∀ b, (Value.slice oa sd.length cp).ownBlock = some b → b < W'.heap.size := fun b e => (hA.here.lt e).2
  have HW0 := Lib.hid hA.here.below.size
  have HH0 := Lib.hid hA.here
  have HLT := Lib.hid hlt
  have HAP0 := Lib.hid (show ∀ b, W'.heap.size ≤ b → b < W'.heap.size + 2 → (Value.slice oa sd.length cp).ownBlock ≠ some b from fun b h1 _ e => by have := hlt b e; omega)
  have HC := Lib.hid (fun W2 => implNumber_any x W2)
  rw [hx] at HC
  show Calls Tryz.prog 91 #[scnV k n (.func (.func ga) #[] lba) (.slice oa sd.length cp), .pointer (some ⟨p, 0, none⟩)] W' (Did NoX w0 W' _ ⟨0, x, false, sd, 0⟩)
  generalize sd.length = len at *
  unfold maxLen at hl2
  unfold scnV
  clear hA hrun hlt hp hx
  go_enter Tryz.func91, Tryz.ntmps91
  go_wp2
  go_region_with (first | (go_at_call 93; go_loud (refine (HC.out _).mono ?_; rintro e w1 ⟨rfl, hb1⟩; have hs1 := hb1.size; obtain ⟨hc1, hf1⟩ := bcell hb1; simp at hs1; have z10 : W'.heap.size < w1.heap.size := (by omega); have z11 : W'.heap.size + 1 < w1.heap.size := (by omega))) | (go_at_call 92; refine (worth_any k n 0 x ga lba oa len cp _).mono ?_; rintro e w2 ⟨rfl, hb2⟩; have hs2 := hb2.size; obtain ⟨hc2, hf2⟩ := bcell hb2; have z20 : W'.heap.size < w2.heap.size := (by omega); have z21 : W'.heap.size + 1 < w2.heap.size := (by omega)))
  all_goals
    go_wp2_with fail
    refine bodyPost_ret (v := .agg #[.int .i64 0, .int .i64 x, .bool false, .slice oa len cp, .int .i64 0]) (by simp [results, Tryz.results91, go_sem, *]) rfl ?_
    refine did_below HH0.out rfl ?_
    clear hc1 hf1 hc2 hf2
    (repeat (first | (with_reducible refine Below.alloc ?_ ?_ _) | (with_reducible refine Below.setCell ?_ ?_ _) | (with_reducible refine Below.drew ?_) | (with_reducible exact Below.refl _ _) | (with_reducible refine Below.trans ?_ (Below.mono (by assumption) ?_)))) <;> (first | omega | (dsimp only; omega) | (simp; done) | (simp; omega) | (simp at *; omega))

set_option maxRecDepth 100000 in
set_option maxHeartbeats 2000000 in
/-- What is made of two. -/
theorem two_last {w0 W : World} {ow : Option Nat} {k n : Int} {av : Value} {bd : Bd} {r pa : Nat} {gv : Value} {g : Wth} {a0 b0 : Int} (hk : okB k n = true) (hA0 : AskedAt W ow av bd) (hB0 : GoodB bd) (hr : Box W ow r 0 gv) (ha : Box W ow pa 0 (.int .i64 a0)) (hb : Box W ow pa 1 (.int .i64 b0)) (hg : WorthAt gv g) (ho : okB a0 b0 = true) :
    NextAt NoX w0 W ow (.func (.func 116) #[] #[.pointer (some ⟨r, 0, none⟩), .pointer (some ⟨pa, 0, none⟩)]) k n av (fun a b sd => if (g a0 b0 a b).2 = true then ⟨(g a0 b0 a b).1.1, (g a0 b0 a b).1.2, false, sd, 0⟩ else wrong 1) := by
  obtain ⟨gg, rfl, hE, hcg⟩ := hg
  refine ⟨_, _, rfl, (enters_of Tryz.func116 (by kernel_rfl) rfl), fun W' a b v sd hrun hH hok hln hsh => ?_⟩
  have hA : Asks w0 W' k n av bd v sd := ⟨hH, hk, hA0.later hrun, hB0, hln, hsh⟩
  obtain ⟨ga, lba, rfl, -, -⟩ := hA.asked
  obtain ⟨oa, cp, rfl, hl1, hl2⟩ := hA.here.slice
  have hlt : ∀ b, (Value.slice oa sd.length cp).ownBlock = some b → b < W'.heap.size := fun b e => (hA.here.lt e).2
  have HW0 := Lib.hid hA.here.below.size
  have HH0 := Lib.hid hA.here
  have HLT := Lib.hid hlt
  have HAP0 := Lib.hid (show ∀ b, W'.heap.size ≤ b → b < W'.heap.size + 3 → (Value.slice oa sd.length cp).ownBlock ≠ some b from fun b h1 _ e => by have := hlt b e; omega)
  obtain ⟨c1, l1, -⟩ := hr.later hrun
  have l1a : r < W'.heap.size + 1 := by omega
  have l1b : r < W'.heap.size + 1 + 1 := by omega
  have l1c : r < W'.heap.size + 2 := by omega
  obtain ⟨c2, l2, -⟩ := ha.later hrun
  have l2a : pa < W'.heap.size + 1 := by omega
  have l2b : pa < W'.heap.size + 1 + 1 := by omega
  have l2c : pa < W'.heap.size + 2 := by omega
  obtain ⟨c3, -, -⟩ := hb.later hrun
  have HC := Lib.hid (fun W2 => hcg W2 a0 b0 a b ho hok)
  show Calls Tryz.prog 116 #[.agg #[.int .i64 a, .int .i64 b], scnV k n (.func (.func ga) #[] lba) (.slice oa sd.length cp), .pointer (some ⟨r, 0, none⟩), .pointer (some ⟨pa, 0, none⟩)] W' (Did NoX w0 W' _ (if (g a0 b0 a b).2 = true then ⟨(g a0 b0 a b).1.1, (g a0 b0 a b).1.2, false, sd, 0⟩ else wrong 1))
  generalize g a0 b0 a b = t at HC ⊢
  obtain ⟨⟨ta, tb⟩, tf⟩ := t
  generalize sd.length = len at *
  unfold maxLen at hl2
  unfold scnV
  unfold Enters at hE
  simp only at HC ⊢
  clear hA hH hrun hA0 hlt hcg hr ha hb
  cases tf
  · go_enter Tryz.func116, Tryz.ntmps116
    go_wp2_with fail
    refine (HC.out _).mono ?_
    rintro e w1 ⟨rfl, hb1⟩
    have hs1 := hb1.size
    obtain ⟨hc1, hf1⟩ := bcell hb1
    try simp at hs1
    have z10 : W'.heap.size < w1.heap.size := by omega
    have z11 : W'.heap.size + 1 < w1.heap.size := by omega
    have z12 : W'.heap.size + 2 < w1.heap.size := by omega
    go_wp2_with fail
    refine (endedBy_any _ _).mono ?_
    rintro e w2 ⟨rfl, hb2⟩
    have hs2 := hb2.size
    obtain ⟨hc2, hf2⟩ := bcell hb2
    try simp at hs2
    have z20 : W'.heap.size < w2.heap.size := by omega
    have z21 : W'.heap.size + 1 < w2.heap.size := by omega
    have z22 : W'.heap.size + 2 < w2.heap.size := by omega
    unfold meanV wrong
    simp only
    go_wp2_with fail
    refine bodyPost_ret (v := .agg #[.int .i64 0, .int .i64 0, .bool false, .slice none 0 0, .int .i64 1]) (by simp [results, Tryz.results116, go_sem, *]) rfl ?_
    refine did_wrong HH0.out.below ?_
    clear hc1 hf1 hc2 hf2
    (repeat (first | (with_reducible refine Below.alloc ?_ ?_ _) | (with_reducible refine Below.setCell ?_ ?_ _) | (with_reducible refine Below.drew ?_) | (with_reducible exact Below.refl _ _) | (with_reducible refine Below.trans ?_ (Below.mono (by assumption) ?_)))) <;> (first | omega | (dsimp only; omega) | (simp; done) | (simp; omega) | (simp at *; omega))
  · go_enter Tryz.func116, Tryz.ntmps116
    go_wp2_with fail
    refine (HC.out _).mono ?_
    rintro e w1 ⟨rfl, hb1⟩
    have hs1 := hb1.size
    obtain ⟨hc1, hf1⟩ := bcell hb1
    try simp at hs1
    have z10 : W'.heap.size < w1.heap.size := by omega
    have z11 : W'.heap.size + 1 < w1.heap.size := by omega
    have z12 : W'.heap.size + 2 < w1.heap.size := by omega
    go_wp2_with fail
    refine (worth_any k n ta tb ga lba oa len cp _).mono ?_
    rintro e w2 ⟨rfl, hb2⟩
    have hs2 := hb2.size
    obtain ⟨hc2, hf2⟩ := bcell hb2
    try simp at hs2
    have z20 : W'.heap.size < w2.heap.size := by omega
    have z21 : W'.heap.size + 1 < w2.heap.size := by omega
    have z22 : W'.heap.size + 2 < w2.heap.size := by omega
    go_wp2_with fail
    refine bodyPost_ret (v := .agg #[.int .i64 ta, .int .i64 tb, .bool false, .slice oa len cp, .int .i64 0]) (by simp [results, Tryz.results116, go_sem, *]) rfl ?_
    refine did_below HH0.out rfl ?_
    clear hc1 hf1 hc2 hf2
    (repeat (first | (with_reducible refine Below.alloc ?_ ?_ _) | (with_reducible refine Below.setCell ?_ ?_ _) | (with_reducible refine Below.drew ?_) | (with_reducible exact Below.refl _ _) | (with_reducible refine Below.trans ?_ (Below.mono (by assumption) ?_)))) <;> (first | omega | (dsimp only; omega) | (simp; done) | (simp; omega) | (simp at *; omega))

set_option maxRecDepth 100000 in
set_option maxHeartbeats 2000000 in
/-- The second of two. -/
theorem two_next {w0 W : World} {ow : Option Nat} {k n : Int} {av : Value} {bd : Bd} {q r : Nat} {f1 gv : Value} {d1 : Deed} {g : Wth} (hk : okB k n = true) (hA0 : AskedAt W ow av bd) (hB0 : GoodB bd) (hq : Box W ow q 0 f1) (hr : Box W ow r 0 gv) (h1 : DeedAt w0 W ow f1 d1) (g1 : GoodD d1) (hg : WorthAt gv g) :
    NextAt NoX w0 W ow (.func (.func 115) #[] #[.pointer (some ⟨q, 0, none⟩), .pointer (some ⟨r, 0, none⟩)]) k n av (fun a b sd => (thenD (d1 k n bd sd) fun c => if (g a b c.k c.n).2 = true then ⟨(g a b c.k c.n).1.1, (g a b c.k c.n).1.2, false, c.said, 0⟩ else wrong 1)) := by
  refine ⟨_, _, rfl, (enters_of Tryz.func115 (by kernel_rfl) rfl), fun W' a b v sd hrun hH hok hln hsh => ?_⟩
  have hA : Asks w0 W' k n av bd v sd := ⟨hH, hk, hA0.later hrun, hB0, hln, hsh⟩
  obtain ⟨ga, lba, rfl, -, -⟩ := hA.asked
  obtain ⟨oa, cp, rfl, hl1, hl2⟩ := hA.here.slice
  have hlt : ∀ b, (Value.slice oa sd.length cp).ownBlock = some b → b < W'.heap.size := fun b e => (hA.here.lt e).2
  have HW0 := Lib.hid hA.here.below.size
  have HH0 := Lib.hid hA.here
  have HLT := Lib.hid hlt
  have HAP0 := Lib.hid (show ∀ b, W'.heap.size ≤ b → b < W'.heap.size + 3 → (Value.slice oa sd.length cp).ownBlock ≠ some b from fun b h1 _ e => by have := hlt b e; omega)
  have hD := h1.later hrun
  obtain ⟨gg, lb, rfl, -, -⟩ := h1
  have hr' := hr.later hrun
  obtain ⟨c1, l1, -⟩ := hq.later hrun
  have l1a : q < W'.heap.size + 1 := by omega
  have l1b : q < W'.heap.size + 1 + 1 := by omega
  have l1c : q < W'.heap.size + 2 := by omega
  have HT := Lib.hid (fun Wa (hb : Below W'.heap.size W' Wa) (x0 : Wa.cell? ⟨W'.heap.size, 0, none⟩ = some (.int .i64 a)) (x1 : Wa.cell? ⟨W'.heap.size, 1, none⟩ = some (.int .i64 b)) (x2 : W'.heap.size < Wa.heap.size) =>
    then_any (hA.step hb) (hD.later ((keeps_of_below hb).run _)) g1 (two_last (g := g) hk (hA.asked.later ((keeps_of_below hb).run _)) hB0 (hr'.later ((keeps_of_below hb).run _)) ⟨x0, x2, fun e => by have := hlt _ e.symm; omega⟩ ⟨x1, x2, fun e => by have := hlt _ e.symm; omega⟩ hg hok) (fun b x => x.elim))
  show Calls Tryz.prog 115 #[.agg #[.int .i64 a, .int .i64 b], scnV k n (.func (.func ga) #[] lba) (.slice oa sd.length cp), .pointer (some ⟨q, 0, none⟩), .pointer (some ⟨r, 0, none⟩)] W' (Did NoX w0 W' _ (thenD (d1 k n bd sd) fun c => if (g a b c.k c.n).2 = true then ⟨(g a b c.k c.n).1.1, (g a b c.k c.n).1.2, false, c.said, 0⟩ else wrong 1))
  generalize (thenD (d1 k n bd sd) fun c => if (g a b c.k c.n).2 = true then ⟨(g a b c.k c.n).1.1, (g a b c.k c.n).1.2, false, c.said, 0⟩ else wrong 1) = o at HT ⊢
  obtain ⟨ok, on, ot, os, oc⟩ := o
  generalize sd.length = len at *
  unfold maxLen at hl2
  unfold scnV at HT ⊢
  clear hD hA hH hrun hA0 hlt hq hr hr'
  go_enter Tryz.func115, Tryz.ntmps115
  go_wp2_with fail
  have hbk : ∀ Wa, Below W'.heap.size W' Wa → W'.heap.size + 3 ≤ Wa.heap.size → Wa.cell? ⟨W'.heap.size, 0, none⟩ = some (.int .i64 a) → Wa.cell? ⟨W'.heap.size, 1, none⟩ = some (.int .i64 b) → W'.heap.size < Wa.heap.size → Calls Tryz.prog 114 _ Wa _ := fun Wa hb hs x0 x1 x2 => (HT.out Wa hb x0 x1 x2).mono fun e w' hd => came_back HH0.out (Run.refl NoX W' _) (keeps_of_below hb) (Nat.le_refl _) hs HAP0.out (fun b x => x.elim) hd
  refine (hbk _ ?_ ?_ ?_ ?_ ?_).mono ?_
  · (repeat (first | (with_reducible refine Below.alloc ?_ ?_ _) | (with_reducible refine Below.setCell ?_ ?_ _) | (with_reducible refine Below.drew ?_) | (with_reducible exact Below.refl _ _) | (with_reducible refine Below.trans ?_ (Below.mono (by assumption) ?_)))) <;> (first | omega | (dsimp only; omega) | (simp; done) | (simp; omega) | (simp at *; omega))
  · first | (simp; done) | (simp; omega) | (simp at *; omega)
  · simp [go_sem]
  · simp [go_sem]
  · simp; omega
  clear hbk
  rintro e w1 ⟨v1, rfl, hH1, hR1, hcc, hap1, hs1⟩
  obtain ⟨oa1, cp1, rfl, hm1, hn1⟩ := hH1.slice
  have hlt1 : ∀ b, (Value.slice oa1 os.length cp1).ownBlock = some b → b < w1.heap.size := fun b e => (hH1.lt e).2
  have r12 := fun i => hcc (W'.heap.size + 2) i (by omega) (by omega)
  simp only [forall_and] at r12
  obtain ⟨r12, f12⟩ := r12
  try simp at hs1
  have z12 : W'.heap.size + 2 < w1.heap.size := by omega
  have HH1 := Lib.hid hH1
  have HR1 := Lib.hid hR1
  have HLT1 := Lib.hid hlt1
  have HAP1 := Lib.hid hap1
  have HZ1 := Lib.hid hs1
  generalize os.length = len1 at *
  unfold maxLen at hn1
  unfold meanV
  simp only
  clear hH1 hR1 hlt1 hap1 hcc
  go_wp2_with fail
  refine bodyPost_ret (v := .agg #[.int .i64 ok, .int .i64 on, .bool ot, .slice oa1 len1 cp1, .int .i64 oc]) (by simp [results, Tryz.results115, go_sem, *]) rfl ?_
  refine did_end (lo := W'.heap.size) (hi := W'.heap.size + 3) HH1.out HR1.out ?_ (Nat.le_refl _) HW0.out HAP1.out
  (repeat (first | (with_reducible refine Keeps.alloc ?_ _) | (with_reducible refine Keeps.setCell ?_ ?_ _) | (with_reducible refine Keeps.drew ?_) | (with_reducible exact Keeps.refl _ _) | (with_reducible refine Keeps.below ?_ (by assumption)))) <;> (first | exact Or.inl rfl | exact Or.inl (Or.inl rfl) | exact Or.inl (Or.inr rfl) | exact Or.inl ⟨by (try dsimp only); omega, by (try dsimp only); omega⟩ | exact Or.inr (by (try dsimp only); omega))

end L2
end Go.Proofs.YtkhjbhkbknennaaGreatDoor
