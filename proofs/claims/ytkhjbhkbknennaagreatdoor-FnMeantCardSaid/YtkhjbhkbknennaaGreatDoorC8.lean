/-
  What is kept, and what is tried (written by wip/gen_c8.py).
-/
import Derived.Test.YtkhjbhkbknennaaGreatDoorC7
namespace Go.Proofs.YtkhjbhkbknennaaGreatDoor
open Go.RowKit Go.Shelf
namespace L2
open S1 L1

set_option maxRecDepth 100000 in
set_option maxHeartbeats 2000000 in
/-- What is tried. -/
theorem try_deed {w0 W : World} {ow : Option Nat} {p q : Nat} {f0 f1 : Value} {d0 d1 : Deed} (hp : Box W ow p 0 f0) (hq : Box W ow q 0 f1) (h0 : DeedAt w0 W ow f0 d0) (g0 : GoodD d0) (h1 : DeedAt w0 W ow f1 d1) :
    DeedAt w0 W ow (.func (.func 133) #[] #[.pointer (some ⟨p, 0, none⟩), .pointer (some ⟨q, 0, none⟩)]) (tryD d0 d1) := by
  obtain ⟨g0', lb0, rfl, hE0, hc0'⟩ := h0
  obtain ⟨g1, lb1, rfl, hE1, hc1'⟩ := h1
  unfold Enters at hE0 hE1
  refine ⟨_, _, rfl, (enters_of Tryz.func133 (by kernel_rfl) rfl), fun W' k n av bd v sd hrun hA => ?_⟩
  obtain ⟨c1, l1, -⟩ := hp.later hrun
  have l1a : p < W'.heap.size + 1 := by omega
  have l1b : p < W'.heap.size + 1 + 1 := by omega
  have l1c : p < W'.heap.size + 2 := by omega
  obtain ⟨c2, l2, m2⟩ := hq.later hrun
  have l2a : q < W'.heap.size + 1 := by omega
  have l2b : q < W'.heap.size + 1 + 1 := by omega
  have l2c : q < W'.heap.size + 2 := by omega
  have hgo := g0 k n bd sd hA.ok hA.bound hA.len hA.short
  obtain ⟨ga, lba, rfl, -, -⟩ := hA.asked
  obtain ⟨oa, cp, rfl, hl1, hl2⟩ := hA.here.slice
  have hlt : ∀ b, (Value.slice oa sd.length cp).ownBlock = some b → b < W'.heap.size := fun b e => (hA.here.lt e).2
  have HW0 := Lib.hid hA.here.below.size
  have HH0 := Lib.hid hA.here
  have HLT := Lib.hid hlt
  have HAP0 := Lib.hid (show ∀ b, W'.heap.size ≤ b → b < W'.heap.size + 2 → (Value.slice oa sd.length cp).ownBlock ≠ some b from fun b h1 _ e => by have := hlt b e; omega)
  have HT := Lib.hid (fun Wa (hb : Below W'.heap.size W' Wa) => hc0' Wa k n _ bd _ sd (hrun.trans ((keeps_of_below hb).run _)) (hA.step hb))
  have HT2 := Lib.hid (fun a b v1 s1 Wb (hr : Run NoX W' _ Wb v1.ownBlock) (hh : Here w0 Wb v1 s1) (h1 : okB a b = true) (h2 : s1.length ≤ 40) (h3 : Short s1) => hc1' Wb a b _ bd v1 s1 (hrun.trans hr) ⟨hh, h1, hA.asked.later hr, hA.bound, h2, h3⟩)
  have HCQ := Lib.hid (fun w1 o1 (h : Run NoX W' (Value.slice oa sd.length cp).ownBlock w1 o1) => h.cell (b := q) (i := 0) l2 (fun x => x) m2)
  show Calls Tryz.prog 133 #[scnV k n (.func (.func ga) #[] lba) (.slice oa sd.length cp), .pointer (some ⟨p, 0, none⟩), .pointer (some ⟨q, 0, none⟩)] W' (Did NoX w0 W' _ (if (d0 k n bd sd).thr = true then d1 (d0 k n bd sd).k (d0 k n bd sd).n bd (d0 k n bd sd).said else d0 k n bd sd))
  generalize d0 k n bd sd = o at HT hgo ⊢
  obtain ⟨ok, on, ot, os, oc⟩ := o
  have HG := Lib.hid hgo
  generalize sd.length = len at *
  unfold maxLen at hl2
  unfold scnV at HT HT2 ⊢
  clear hA hrun hlt hp hq hc0' hc1' hgo
  cases ot
  · rw [if_neg (by simp)]
    go_enter Tryz.func133, Tryz.ntmps133
    go_wp2_with fail
    have hbk : ∀ Wa, Below W'.heap.size W' Wa → W'.heap.size + 2 ≤ Wa.heap.size → Calls Tryz.prog (g0' : Nat) _ Wa _ := fun Wa hb hs => (HT.out Wa hb).mono fun e w' hd => came_back HH0.out (Run.refl NoX W' _) (keeps_of_below hb) (Nat.le_refl _) hs HAP0.out (fun b x => x.elim) hd
    refine (hbk _ ?_ ?_).mono ?_
    · (repeat (first | (with_reducible refine Below.alloc ?_ ?_ _) | (with_reducible refine Below.setCell ?_ ?_ _) | (with_reducible refine Below.drew ?_) | (with_reducible exact Below.refl _ _) | (with_reducible refine Below.trans ?_ (Below.mono (by assumption) ?_)))) <;> (first | omega | (dsimp only; omega) | (simp; done) | (simp; omega) | (simp at *; omega))
    · first | (simp; done) | (simp; omega) | (simp at *; omega)
    clear hbk
    rintro e w1 ⟨v1, rfl, hH1, hR1, hcc, hap1, hs1⟩
    obtain ⟨oa1, cp1, rfl, hm1, hn1⟩ := hH1.slice
    have hlt1 : ∀ b, (Value.slice oa1 os.length cp1).ownBlock = some b → b < w1.heap.size := fun b e => (hH1.lt e).2
    have r10 := fun i => hcc (W'.heap.size) i (by omega) (by omega)
    simp only [forall_and] at r10
    obtain ⟨r10, f10⟩ := r10
    have r11 := fun i => hcc (W'.heap.size + 1) i (by omega) (by omega)
    simp only [forall_and] at r11
    obtain ⟨r11, f11⟩ := r11
    try simp at hs1
    have z10 : W'.heap.size < w1.heap.size := by omega
    have z11 : W'.heap.size + 1 < w1.heap.size := by omega
    have HH1 := Lib.hid hH1
    have HR1 := Lib.hid hR1
    have HLT1 := Lib.hid hlt1
    have HAP1 := Lib.hid hap1
    have HZ1 := Lib.hid hs1
    generalize os.length = len1 at *
    unfold maxLen at hn1
    unfold meanV
    simp only
    clear hH1 hR1 hlt1 hap1 hcc
    go_wp2_with fail
    refine bodyPost_ret (v := .agg #[.int .i64 ok, .int .i64 on, .bool false, .slice oa1 len1 cp1, .int .i64 oc]) (by simp [results, Tryz.results133, go_sem, *]) rfl ?_
    refine did_end (lo := W'.heap.size) (hi := W'.heap.size + 2) HH1.out HR1.out ?_ (Nat.le_refl _) HW0.out HAP1.out
    (repeat (first | (with_reducible refine Keeps.alloc ?_ _) | (with_reducible refine Keeps.setCell ?_ ?_ _) | (with_reducible refine Keeps.drew ?_) | (with_reducible exact Keeps.refl _ _) | (with_reducible refine Keeps.below ?_ (by assumption)))) <;> (first | exact Or.inl rfl | exact Or.inl (Or.inl rfl) | exact Or.inl (Or.inr rfl) | exact Or.inl ⟨by (try dsimp only); omega, by (try dsimp only); omega⟩ | exact Or.inr (by (try dsimp only); omega))
  · rw [if_pos rfl]
    have HT2 := Lib.hid (fun v1 Wb hr hh => HT2.out ok on v1 os Wb hr hh HG.out.val HG.out.len HG.out.short)
    generalize d1 ok on bd os = o2 at HT2 ⊢
    obtain ⟨ok2, on2, ot2, os2, oc2⟩ := o2
    go_enter Tryz.func133, Tryz.ntmps133
    go_wp2_with fail
    have hbk : ∀ Wa, Below W'.heap.size W' Wa → W'.heap.size + 2 ≤ Wa.heap.size → Calls Tryz.prog (g0' : Nat) _ Wa _ := fun Wa hb hs => (HT.out Wa hb).mono fun e w' hd => came_back HH0.out (Run.refl NoX W' _) (keeps_of_below hb) (Nat.le_refl _) hs HAP0.out (fun b x => x.elim) hd
    refine (hbk _ ?_ ?_).mono ?_
    · (repeat (first | (with_reducible refine Below.alloc ?_ ?_ _) | (with_reducible refine Below.setCell ?_ ?_ _) | (with_reducible refine Below.drew ?_) | (with_reducible exact Below.refl _ _) | (with_reducible refine Below.trans ?_ (Below.mono (by assumption) ?_)))) <;> (first | omega | (dsimp only; omega) | (simp; done) | (simp; omega) | (simp at *; omega))
    · first | (simp; done) | (simp; omega) | (simp at *; omega)
    clear hbk
    rintro e w1 ⟨v1, rfl, hH1, hR1, hcc, hap1, hs1⟩
    obtain ⟨oa1, cp1, rfl, hm1, hn1⟩ := hH1.slice
    have hlt1 : ∀ b, (Value.slice oa1 os.length cp1).ownBlock = some b → b < w1.heap.size := fun b e => (hH1.lt e).2
    have r10 := fun i => hcc (W'.heap.size) i (by omega) (by omega)
    simp only [forall_and] at r10
    obtain ⟨r10, f10⟩ := r10
    have r11 := fun i => hcc (W'.heap.size + 1) i (by omega) (by omega)
    simp only [forall_and] at r11
    obtain ⟨r11, f11⟩ := r11
    try simp at hs1
    have z10 : W'.heap.size < w1.heap.size := by omega
    have z11 : W'.heap.size + 1 < w1.heap.size := by omega
    have HH1 := Lib.hid hH1
    have HR1 := Lib.hid hR1
    have HLT1 := Lib.hid hlt1
    have HAP1 := Lib.hid hap1
    have HZ1 := Lib.hid hs1
    generalize os.length = len1 at *
    unfold maxLen at hn1
    unfold meanV
    simp only
    clear hH1 hR1 hlt1 hap1 hcc
    have l1x : p < w1.heap.size := by omega
    have l2x : q < w1.heap.size := by omega
    have k2 := (HCQ.out w1 _ HR1.out).trans c2
    have HT2 := Lib.hid (fun Wb (hk : Keeps (Mine W'.heap.size (W'.heap.size + 2)) w1 Wb) => HT2.out (.slice oa1 len1 cp1) Wb (HR1.out.keeps hk (fun b hb => Or.inr hb.1)) (HH1.out.keeps hk (fun b hb => Nat.le_trans HW0.out hb.1) (fun b hb => HAP1.out b hb.1 hb.2)))
    go_wp2_with fail
    have hbk : ∀ Wb, Keeps (Mine W'.heap.size (W'.heap.size + 2)) w1 Wb → W'.heap.size + 2 ≤ Wb.heap.size → Calls Tryz.prog (g1 : Nat) _ Wb _ := fun Wb hk hs => (HT2.out Wb hk).mono fun e w' hd => came_back HH1.out HR1.out hk (Nat.le_refl _) hs HAP1.out (fun b x => x.elim) hd
    refine (hbk _ ?_ ?_).mono ?_
    · (repeat (first | (with_reducible refine Keeps.alloc ?_ _) | (with_reducible refine Keeps.setCell ?_ ?_ _) | (with_reducible refine Keeps.drew ?_) | (with_reducible exact Keeps.refl _ _) | (with_reducible refine Keeps.below ?_ (by assumption)))) <;> (first | exact Or.inl rfl | exact Or.inl (Or.inl rfl) | exact Or.inl (Or.inr rfl) | exact Or.inl ⟨by (try dsimp only); omega, by (try dsimp only); omega⟩ | exact Or.inr (by (try dsimp only); omega))
    · first | (simp; done) | (simp; omega)
    clear hbk
    rintro e w2 ⟨v2, rfl, hH2, hR2, hcc, hap2, hs2⟩
    obtain ⟨oa2, cp2, rfl, hm2, hn2⟩ := hH2.slice
    have hlt2 : ∀ b, (Value.slice oa2 os2.length cp2).ownBlock = some b → b < w2.heap.size := fun b e => (hH2.lt e).2
    have r21 := fun i => hcc (W'.heap.size + 1) i (by omega) (by omega)
    simp only [forall_and] at r21
    obtain ⟨r21, f21⟩ := r21
    try simp at hs2
    have z21 : W'.heap.size + 1 < w2.heap.size := by omega
    have HH2 := Lib.hid hH2
    have HR2 := Lib.hid hR2
    have HLT2 := Lib.hid hlt2
    have HAP2 := Lib.hid hap2
    have HZ2 := Lib.hid hs2
    generalize os2.length = len2 at *
    unfold maxLen at hn2
    unfold meanV
    simp only
    clear hH2 hR2 hlt2 hap2 hcc
    go_wp2_with fail
    refine bodyPost_ret (v := .agg #[.int .i64 ok2, .int .i64 on2, .bool ot2, .slice oa2 len2 cp2, .int .i64 oc2]) (by simp [results, Tryz.results133, go_sem, *]) rfl ?_
    refine did_end (lo := W'.heap.size) (hi := W'.heap.size + 2) HH2.out HR2.out ?_ (Nat.le_refl _) HW0.out HAP2.out
    (repeat (first | (with_reducible refine Keeps.alloc ?_ _) | (with_reducible refine Keeps.setCell ?_ ?_ _) | (with_reducible refine Keeps.drew ?_) | (with_reducible exact Keeps.refl _ _) | (with_reducible refine Keeps.below ?_ (by assumption)))) <;> (first | exact Or.inl rfl | exact Or.inl (Or.inl rfl) | exact Or.inl (Or.inr rfl) | exact Or.inl ⟨by (try dsimp only); omega, by (try dsimp only); omega⟩ | exact Or.inr (by (try dsimp only); omega))

set_option maxRecDepth 100000 in
set_option maxHeartbeats 2000000 in
/-- What is kept stays what it was, behind a second sum that was worth something. -/
theorem keep_next {w0 W : World} {ow : Option Nat} {k n : Int} {av : Value} {bd : Bd} {c : Nat} {xk xn : Int} {xt : Bool} {xa : Option Addr} {xl xc : Nat} (hk : okB k n = true) (hA0 : AskedAt W ow av bd) (hB0 : GoodB bd) (hm0 : Box W ow c 0 (.int .i64 xk)) (hm1 : Box W ow c 1 (.int .i64 xn)) (hm2 : Box W ow c 2 (.bool xt)) (hm3 : Box W ow c 3 (.slice xa xl xc)) (hm4 : Box W ow c 4 (.int .i64 0)) (hmf : W.frozen? ⟨c, 3, none⟩ = false) (hw0 : w0.heap.size ≤ c) :
    NextAt (fun b => b = c) w0 W ow (.func (.func 126) #[] #[.pointer (some ⟨c, 0, none⟩)]) k n av (fun _ _ sd => ⟨xk, xn, xt, sd, 0⟩) := by
  refine ⟨_, _, rfl, (enters_of Tryz.func126 (by kernel_rfl) rfl), fun W' a b v sd hrun hH hok hln hsh => ?_⟩
  have hA : Asks w0 W' k n av bd v sd := ⟨hH, hk, hA0.later hrun, hB0, hln, hsh⟩
  obtain ⟨ga, lba, rfl, -, -⟩ := hA.asked
  obtain ⟨oa, cp, rfl, hl1, hl2⟩ := hA.here.slice
  have hlt : ∀ b, (Value.slice oa sd.length cp).ownBlock = some b → b < W'.heap.size := fun b e => (hA.here.lt e).2
  have HW0 := Lib.hid hA.here.below.size
  have HH0 := Lib.hid hA.here
  have HLT := Lib.hid hlt
  have HAP0 := Lib.hid (show ∀ b, W'.heap.size ≤ b → b < W'.heap.size + 3 → (Value.slice oa sd.length cp).ownBlock ≠ some b from fun b h1 _ e => by have := hlt b e; omega)
  obtain ⟨c0, l0, -⟩ := hm0.later hrun
  have l0a : c < W'.heap.size + 1 := by omega
  have l0b : c < W'.heap.size + 1 + 1 := by omega
  have l0c : c < W'.heap.size + 2 := by omega
  obtain ⟨c1, -, -⟩ := hm1.later hrun
  obtain ⟨c2, -, -⟩ := hm2.later hrun
  obtain ⟨c3, -, m3⟩ := hm3.later hrun
  obtain ⟨c4, -, -⟩ := hm4.later hrun
  have cf := (hrun.frozen (b := c) (i := 3) hm0.lt (fun x => x) hm0.ne).trans hmf
  have HNE := Lib.hid (show ∀ b, b = c → (Value.slice oa sd.length cp).ownBlock ≠ some b from fun b hb e => m3 (by rw [← hb]; exact e.symm))
  show Calls Tryz.prog 126 #[.agg #[.int .i64 a, .int .i64 b], scnV k n (.func (.func ga) #[] lba) (.slice oa sd.length cp), .pointer (some ⟨c, 0, none⟩)] W' (Did _ w0 W' _ ⟨xk, xn, xt, sd, 0⟩)
  have HDE := Lib.hid (fun Wf (hk : Keeps (fun b => b = c) W' Wf) => show Did (fun b => b = c) w0 W' (Value.slice oa sd.length cp).ownBlock ⟨xk, xn, xt, sd, 0⟩ (.returned (meanV ⟨xk, xn, xt, sd, 0⟩ (.slice oa sd.length cp))) Wf from
    ⟨_, rfl, HH0.out.keeps hk (fun b hb => by rw [hb]; exact hw0) HNE.out, hk.run _⟩)
  generalize sd.length = len at *
  unfold maxLen at hl2
  unfold scnV
  clear hA hH hrun hA0 hlt hm0 hm1 hm2 hm3 hm4 hmf m3
  go_enter Tryz.func126, Tryz.ntmps126
  go_wp2_with fail
  refine bodyPost_ret (v := .agg #[.int .i64 xk, .int .i64 xn, .bool xt, .slice oa len cp, .int .i64 0]) (by simp [results, Tryz.results126, go_sem, *]) rfl ?_
  refine HDE.out _ ?_
  (repeat (first | (with_reducible refine Keeps.alloc ?_ _) | (with_reducible refine Keeps.setCell ?_ ?_ _) | (with_reducible refine Keeps.drew ?_) | (with_reducible exact Keeps.refl _ _) | (with_reducible refine Keeps.below ?_ (by assumption)))) <;> (first | exact Or.inl rfl | exact Or.inl (Or.inl rfl) | exact Or.inl (Or.inr rfl) | exact Or.inl ⟨by (try dsimp only); omega, by (try dsimp only); omega⟩ | exact Or.inr (by (try dsimp only); omega))

set_option maxRecDepth 100000 in
set_option maxHeartbeats 2000000 in
/-- What is kept. -/
theorem keep_deed {w0 W : World} {ow : Option Nat} {p q : Nat} {f0 f1 : Value} {d0 d1 : Deed} (hp : Box W ow p 0 f0) (hq : Box W ow q 0 f1) (h0 : DeedAt w0 W ow f0 d0) (g0 : GoodD d0) (h1 : DeedAt w0 W ow f1 d1) (g1d : GoodD d1) :
    DeedAt w0 W ow (.func (.func 125) #[] #[.pointer (some ⟨p, 0, none⟩), .pointer (some ⟨q, 0, none⟩)]) (keepD d0 d1) := by
  obtain ⟨g0', lb0, rfl, hE0, hc0'⟩ := h0
  have hD1 := h1
  obtain ⟨g1, lb1, rfl, -, -⟩ := h1
  unfold Enters at hE0
  refine ⟨_, _, rfl, (enters_of Tryz.func125 (by kernel_rfl) rfl), fun W' k n av bd v sd hrun hA => ?_⟩
  obtain ⟨c1, l1, -⟩ := hp.later hrun
  have l1a : p < W'.heap.size + 1 := by omega
  have l1b : p < W'.heap.size + 1 + 1 := by omega
  have l1c : p < W'.heap.size + 2 := by omega
  obtain ⟨c2, l2, m2⟩ := hq.later hrun
  have l2a : q < W'.heap.size + 1 := by omega
  have l2b : q < W'.heap.size + 1 + 1 := by omega
  have l2c : q < W'.heap.size + 2 := by omega
  have hgo := g0 k n bd sd hA.ok hA.bound hA.len hA.short
  obtain ⟨ga, lba, rfl, -, -⟩ := hA.asked
  obtain ⟨oa, cp, rfl, hl1, hl2⟩ := hA.here.slice
  have hlt : ∀ b, (Value.slice oa sd.length cp).ownBlock = some b → b < W'.heap.size := fun b e => (hA.here.lt e).2
  have HW0 := Lib.hid hA.here.below.size
  have HH0 := Lib.hid hA.here
  have HLT := Lib.hid hlt
  have HAP0 := Lib.hid (show ∀ b, W'.heap.size ≤ b → b < W'.heap.size + 2 → (Value.slice oa sd.length cp).ownBlock ≠ some b from fun b h1 _ e => by have := hlt b e; omega)
  have HCQ := Lib.hid (fun w1 o1 (h : Run NoX W' (Value.slice oa sd.length cp).ownBlock w1 o1) => h.cell (b := q) (i := 0) l2 (fun x => x) m2)
  have HT := Lib.hid (fun Wa (hb : Below W'.heap.size W' Wa) => hc0' Wa k n _ bd _ sd (hrun.trans ((keeps_of_below hb).run _)) (hA.step hb))
  have HTK := Lib.hid (fun (ok on : Int) (ot : Bool) (v1 : Value) (os : List ByteArray) (w1 Wb : World) (c : Nat) (xa : Option Addr) (xl xc : Nat) (hr : Run NoX W' _ Wb v1.ownBlock) (hh : Here w0 Wb v1 os) (h2 : os.length ≤ 40) (h3 : Short os) (hn : some c ≠ v1.ownBlock) (hw : w0.heap.size ≤ w1.heap.size) (x0 : Wb.cell? ⟨c, 0, none⟩ = some (.int .i64 ok)) (x1 : Wb.cell? ⟨c, 1, none⟩ = some (.int .i64 on)) (x2 : Wb.cell? ⟨c, 2, none⟩ = some (.bool ot)) (x3 : Wb.cell? ⟨c, 3, none⟩ = some (.slice xa xl xc)) (x4 : Wb.cell? ⟨c, 4, none⟩ = some (.int .i64 0)) (x5 : Wb.frozen? ⟨c, 3, none⟩ = false) (x6 : w1.heap.size ≤ c ∧ c < Wb.heap.size) =>
    then_any (X := fun b => b = c) (f := fun _ _ sd => ⟨ok, on, ot, sd, 0⟩) ⟨hh, hA.ok, hA.asked.later hr, hA.bound, h2, h3⟩ (hD1.later (hrun.trans hr)) g1d (keep_next hA.ok (hA.asked.later hr) hA.bound ⟨x0, x6.2, hn⟩ ⟨x1, x6.2, hn⟩ ⟨x2, x6.2, hn⟩ ⟨x3, x6.2, hn⟩ ⟨x4, x6.2, hn⟩ x5 (Nat.le_trans hw x6.1)) (fun b hb => by subst hb; exact ⟨Nat.le_trans hw x6.1, x6.2⟩))
  show Calls Tryz.prog 125 #[scnV k n (.func (.func ga) #[] lba) (.slice oa sd.length cp), .pointer (some ⟨p, 0, none⟩), .pointer (some ⟨q, 0, none⟩)] W' (Did NoX w0 W' _ (if (d0 k n bd sd).code = 0 then thenD (d1 k n bd (d0 k n bd sd).said) (fun b => ⟨(d0 k n bd sd).k, (d0 k n bd sd).n, (d0 k n bd sd).thr, b.said, 0⟩) else d0 k n bd sd))
  generalize d0 k n bd sd = o at HT hgo ⊢
  obtain ⟨ok, on, ot, os, oc⟩ := o
  have HG := Lib.hid hgo
  generalize sd.length = len at *
  unfold maxLen at hl2
  unfold scnV at HT HTK ⊢
  clear hA hrun hlt hp hq hc0' hgo hD1
  by_cases hoc : oc = 0
  · subst hoc
    rw [if_pos rfl]
    have HT2 := Lib.hid (fun v1 w1 Wb c xa xl xc hr hh => HTK.out ok on ot v1 os w1 Wb c xa xl xc hr hh HG.out.len HG.out.short)
    simp only at HT2 ⊢
    generalize thenD (d1 k n bd os) (fun b => ⟨ok, on, ot, b.said, 0⟩) = o2 at HT2 ⊢
    obtain ⟨ok2, on2, ot2, os2, oc2⟩ := o2
    clear HTK
    go_enter Tryz.func125, Tryz.ntmps125
    go_wp2_with fail
    have hbk : ∀ Wa, Below W'.heap.size W' Wa → W'.heap.size + 2 ≤ Wa.heap.size → Calls Tryz.prog (g0' : Nat) _ Wa _ := fun Wa hb hs => (HT.out Wa hb).mono fun e w' hd => came_back HH0.out (Run.refl NoX W' _) (keeps_of_below hb) (Nat.le_refl _) hs HAP0.out (fun b x => x.elim) hd
    refine (hbk _ ?_ ?_).mono ?_
    · (repeat (first | (with_reducible refine Below.alloc ?_ ?_ _) | (with_reducible refine Below.setCell ?_ ?_ _) | (with_reducible refine Below.drew ?_) | (with_reducible exact Below.refl _ _) | (with_reducible refine Below.trans ?_ (Below.mono (by assumption) ?_)))) <;> (first | omega | (dsimp only; omega) | (simp; done) | (simp; omega) | (simp at *; omega))
    · first | (simp; done) | (simp; omega) | (simp at *; omega)
    clear hbk
    rintro e w1 ⟨v1, rfl, hH1, hR1, hcc, hap1, hs1⟩
    obtain ⟨oa1, cp1, rfl, hm1, hn1⟩ := hH1.slice
    have hlt1 : ∀ b, (Value.slice oa1 os.length cp1).ownBlock = some b → b < w1.heap.size := fun b e => (hH1.lt e).2
    have r10 := fun i => hcc (W'.heap.size) i (by omega) (by omega)
    simp only [forall_and] at r10
    obtain ⟨r10, f10⟩ := r10
    have r11 := fun i => hcc (W'.heap.size + 1) i (by omega) (by omega)
    simp only [forall_and] at r11
    obtain ⟨r11, f11⟩ := r11
    try simp at hs1
    have z10 : W'.heap.size < w1.heap.size := by omega
    have z11 : W'.heap.size + 1 < w1.heap.size := by omega
    have HH1 := Lib.hid hH1
    have HR1 := Lib.hid hR1
    have HLT1 := Lib.hid hlt1
    have HAP1 := Lib.hid hap1
    have HZ1 := Lib.hid hs1
    generalize os.length = len1 at *
    unfold maxLen at hn1
    unfold meanV
    simp only
    clear hH1 hR1 hlt1 hap1 hcc
    have l2x : q < w1.heap.size := by omega
    have k2 := (HCQ.out w1 _ HR1.out).trans c2
    have HT2 := Lib.hid (fun c Wb (hk : Keeps (Mine W'.heap.size (W'.heap.size + 2)) w1 Wb) x0 x1 x2 x3 x4 x5 x6 => HT2.out (.slice oa1 len1 cp1) w1 Wb c oa1 len1 cp1 (HR1.out.keeps hk (fun b hb => Or.inr hb.1)) (HH1.out.keeps hk (fun b hb => Nat.le_trans HW0.out hb.1) (fun b hb => HAP1.out b hb.1 hb.2)) (fun e => by have := HLT1.out _ e.symm; have := x6.1; omega) (Nat.le_trans HW0.out (by have := HZ1.out; omega)) x0 x1 x2 x3 x4 x5 x6)
    go_wp2_with fail
    have hbk : ∀ c Wb, Keeps (Mine W'.heap.size (W'.heap.size + 2)) w1 Wb → W'.heap.size + 2 ≤ Wb.heap.size → Wb.cell? ⟨c, 0, none⟩ = some (.int .i64 ok) → Wb.cell? ⟨c, 1, none⟩ = some (.int .i64 on) → Wb.cell? ⟨c, 2, none⟩ = some (.bool ot) → Wb.cell? ⟨c, 3, none⟩ = some (.slice oa1 len1 cp1) → Wb.cell? ⟨c, 4, none⟩ = some (.int .i64 0) → Wb.frozen? ⟨c, 3, none⟩ = false → (w1.heap.size ≤ c ∧ c < Wb.heap.size) → Calls Tryz.prog 114 _ Wb _ := fun c Wb hk hs x0 x1 x2 x3 x4 x5 x6 => (HT2.out c Wb hk x0 x1 x2 x3 x4 x5 x6).mono fun e w' hd => came_back HH1.out HR1.out.wide hk (Nat.le_refl _) hs HAP1.out (fun b x => Or.inr (by rw [x]; have := x6.1; have := HZ1.out; omega)) hd
    refine (hbk _ _ ?_ ?_ ?_ ?_ ?_ ?_ ?_ ?_ ?_).mono ?_
    · (repeat (first | (with_reducible refine Keeps.alloc ?_ _) | (with_reducible refine Keeps.setCell ?_ ?_ _) | (with_reducible refine Keeps.drew ?_) | (with_reducible exact Keeps.refl _ _) | (with_reducible refine Keeps.below ?_ (by assumption)))) <;> (first | exact Or.inl rfl | exact Or.inl (Or.inl rfl) | exact Or.inl (Or.inr rfl) | exact Or.inl ⟨by (try dsimp only); omega, by (try dsimp only); omega⟩ | exact Or.inr (by (try dsimp only); omega))
    · first | (simp; done) | (simp; omega)
    · simp [go_sem]
    · simp [go_sem]
    · simp [go_sem]
    · simp [go_sem]
    · simp [go_sem]
    · simp [go_sem]
    · simp [go_sem]
    clear hbk
    rintro e w2 ⟨v2, rfl, hH2, hR2, hcc, hap2, hs2⟩
    obtain ⟨oa2, cp2, rfl, hm2, hn2⟩ := hH2.slice
    have hlt2 : ∀ b, (Value.slice oa2 os2.length cp2).ownBlock = some b → b < w2.heap.size := fun b e => (hH2.lt e).2
    have r21 := fun i => hcc (W'.heap.size + 1) i (by omega) (by omega)
    simp only [forall_and] at r21
    obtain ⟨r21, f21⟩ := r21
    try simp at hs2
    have z21 : W'.heap.size + 1 < w2.heap.size := by omega
    have HH2 := Lib.hid hH2
    have HR2 := Lib.hid hR2
    have HLT2 := Lib.hid hlt2
    have HAP2 := Lib.hid hap2
    have HZ2 := Lib.hid hs2
    generalize os2.length = len2 at *
    unfold maxLen at hn2
    unfold meanV
    simp only
    clear hH2 hR2 hlt2 hap2 hcc
    go_wp2_with fail
    refine bodyPost_ret (v := .agg #[.int .i64 ok2, .int .i64 on2, .bool ot2, .slice oa2 len2 cp2, .int .i64 oc2]) (by simp [results, Tryz.results125, go_sem, *]) rfl ?_
    refine did_end (lo := W'.heap.size) (hi := W'.heap.size + 2) HH2.out (HR2.out.narrow (fun b hb => by rw [hb]; have := HZ1.out; omega)) ?_ (Nat.le_refl _) HW0.out HAP2.out
    (repeat (first | (with_reducible refine Keeps.alloc ?_ _) | (with_reducible refine Keeps.setCell ?_ ?_ _) | (with_reducible refine Keeps.drew ?_) | (with_reducible exact Keeps.refl _ _) | (with_reducible refine Keeps.below ?_ (by assumption)))) <;> (first | exact Or.inl rfl | exact Or.inl (Or.inl rfl) | exact Or.inl (Or.inr rfl) | exact Or.inl ⟨by (try dsimp only); omega, by (try dsimp only); omega⟩ | exact Or.inr (by (try dsimp only); omega))
  · rw [if_neg hoc]
    have hoc' : (oc == 0) = false := by simpa using hoc
    clear HTK
    go_enter Tryz.func125, Tryz.ntmps125
    go_wp2_with fail
    have hbk : ∀ Wa, Below W'.heap.size W' Wa → W'.heap.size + 2 ≤ Wa.heap.size → Calls Tryz.prog (g0' : Nat) _ Wa _ := fun Wa hb hs => (HT.out Wa hb).mono fun e w' hd => came_back HH0.out (Run.refl NoX W' _) (keeps_of_below hb) (Nat.le_refl _) hs HAP0.out (fun b x => x.elim) hd
    refine (hbk _ ?_ ?_).mono ?_
    · (repeat (first | (with_reducible refine Below.alloc ?_ ?_ _) | (with_reducible refine Below.setCell ?_ ?_ _) | (with_reducible refine Below.drew ?_) | (with_reducible exact Below.refl _ _) | (with_reducible refine Below.trans ?_ (Below.mono (by assumption) ?_)))) <;> (first | omega | (dsimp only; omega) | (simp; done) | (simp; omega) | (simp at *; omega))
    · first | (simp; done) | (simp; omega) | (simp at *; omega)
    clear hbk
    rintro e w1 ⟨v1, rfl, hH1, hR1, hcc, hap1, hs1⟩
    obtain ⟨oa1, cp1, rfl, hm1, hn1⟩ := hH1.slice
    have hlt1 : ∀ b, (Value.slice oa1 os.length cp1).ownBlock = some b → b < w1.heap.size := fun b e => (hH1.lt e).2
    have r10 := fun i => hcc (W'.heap.size) i (by omega) (by omega)
    simp only [forall_and] at r10
    obtain ⟨r10, f10⟩ := r10
    have r11 := fun i => hcc (W'.heap.size + 1) i (by omega) (by omega)
    simp only [forall_and] at r11
    obtain ⟨r11, f11⟩ := r11
    try simp at hs1
    have z10 : W'.heap.size < w1.heap.size := by omega
    have z11 : W'.heap.size + 1 < w1.heap.size := by omega
    have HH1 := Lib.hid hH1
    have HR1 := Lib.hid hR1
    have HLT1 := Lib.hid hlt1
    have HAP1 := Lib.hid hap1
    have HZ1 := Lib.hid hs1
    generalize os.length = len1 at *
    unfold maxLen at hn1
    unfold meanV
    simp only
    clear hH1 hR1 hlt1 hap1 hcc
    go_wp2_with fail
    refine bodyPost_ret (v := .agg #[.int .i64 ok, .int .i64 on, .bool ot, .slice oa1 len1 cp1, .int .i64 oc]) (by simp [results, Tryz.results125, go_sem, *]) rfl ?_
    refine did_end (lo := W'.heap.size) (hi := W'.heap.size + 2) HH1.out HR1.out ?_ (Nat.le_refl _) HW0.out HAP1.out
    (repeat (first | (with_reducible refine Keeps.alloc ?_ _) | (with_reducible refine Keeps.setCell ?_ ?_ _) | (with_reducible refine Keeps.drew ?_) | (with_reducible exact Keeps.refl _ _) | (with_reducible refine Keeps.below ?_ (by assumption)))) <;> (first | exact Or.inl rfl | exact Or.inl (Or.inl rfl) | exact Or.inl (Or.inr rfl) | exact Or.inl ⟨by (try dsimp only); omega, by (try dsimp only); omega⟩ | exact Or.inr (by (try dsimp only); omega))

end L2
end Go.Proofs.YtkhjbhkbknennaaGreatDoor
