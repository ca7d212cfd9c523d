/-
  'then': what a sum was worth is handed on; what was thrown, or went wrong, passes.
-/
import Derived.Test.YtkhjbhkbknennaaGreatDoorC2
namespace Go.Proofs.YtkhjbhkbknennaaGreatDoor
open Go.RowKit Go.Shelf
namespace L2
open S1 L1

set_option maxRecDepth 100000 in
set_option maxHeartbeats 2000000 in
theorem then_any {X : Nat → Prop} {w0 W : World} {k n : Int} {av : Value} {bd : Bd} {v : Value} {sd : List ByteArray} {dv nv : Value} {d : Deed} {f : Int → Int → List ByteArray → Out}
    (hA : Asks w0 W k n av bd v sd) (hD : DeedAt w0 W v.ownBlock dv d) (hG : GoodD d) (hN : NextAt X w0 W v.ownBlock nv k n av f) (hX : ∀ b, X b → w0.heap.size ≤ b ∧ b < W.heap.size) :
    Calls Tryz.prog 114 #[dv, scnV k n av v, nv] W (Did X w0 W v.ownBlock (thenD (d k n bd sd) fun a => f a.k a.n a.said)) := by
  have hgo := hG k n bd sd hA.ok hA.bound hA.len hA.short
  obtain ⟨g, lb, rfl, hE, hc⟩ := hD
  obtain ⟨g', lb', rfl, hE', hc'⟩ := hN
  obtain ⟨ga, lba, rfl, -, -⟩ := hA.asked
  obtain ⟨oa, cp, rfl, hl1, hl2⟩ := hA.here.slice
  have hlt : ∀ b, (Value.slice oa sd.length cp).ownBlock = some b → b < W.heap.size := fun b e => (hA.here.lt e).2
  have HW0 := Lib.hid hA.here.below.size
  have HH0 := Lib.hid hA.here
  have HAP0 := Lib.hid (show ∀ b, W.heap.size ≤ b → b < W.heap.size + 2 → (Value.slice oa sd.length cp).ownBlock ≠ some b from fun b h1 _ e => by have := hlt b e; omega)
  have HD := Lib.hid (fun W1 (hb : Below W.heap.size W W1) => hc W1 k n _ bd _ sd ((keeps_of_below hb).run _) (hA.step hb))
  have HN := Lib.hid hc'
  have HLT := Lib.hid hlt
  have HX := Lib.hid hX
  have HG := Lib.hid hgo
  unfold Enters at hE hE'
  generalize d k n bd sd = o at HD HG ⊢
  obtain ⟨ok, on, ot, os, oc⟩ := o
  generalize sd.length = len at *
  clear hc hc' hlt hX hgo hA hG
  unfold maxLen at hl2
  unfold scnV at HD HN
  show Calls Tryz.prog 114 #[.func (.func g) #[] lb, .agg #[.int .i64 k, .int .i64 n, .func (.func ga) #[] lba, .slice oa len cp], .func (.func g') #[] lb'] W _
  go_enter Tryz.func114, Tryz.ntmps114
  go_wp2_with fail
  have hbk : ∀ Wa, Keeps (Mine W.heap.size (W.heap.size + 2)) W Wa → Below W.heap.size W Wa → W.heap.size + 2 ≤ Wa.heap.size → Calls Tryz.prog g _ Wa _ := fun Wa hk hb hs => (HD.out Wa hb).mono fun e w' hd => came_back HH0.out (Run.refl NoX W _) hk (Nat.le_refl _) hs HAP0.out (fun b x => x.elim) hd
  refine (hbk _ ?_ ?_ ?_).mono ?_
  · (repeat (first | (with_reducible refine Keeps.alloc ?_ _) | (with_reducible refine Keeps.setCell ?_ ?_ _) | (with_reducible refine Keeps.drew ?_) | (with_reducible exact Keeps.refl _ _) | (with_reducible refine Keeps.below ?_ (by assumption)))) <;> (first | exact Or.inl rfl | exact Or.inl (Or.inl rfl) | exact Or.inl (Or.inr rfl) | exact Or.inl ⟨by (try dsimp only); omega, by (try dsimp only); omega⟩ | exact Or.inr (by (try dsimp only); omega))
  · (repeat (first | (with_reducible refine Below.alloc ?_ ?_ _) | (with_reducible refine Below.setCell ?_ ?_ _) | (with_reducible refine Below.drew ?_) | (with_reducible exact Below.refl _ _) | (with_reducible refine Below.trans ?_ (Below.mono (by assumption) ?_)))) <;> (first | omega | (dsimp only; omega) | (simp; done) | (simp; omega) | (simp at *; omega))
  · simp
  clear hbk
  rintro e w1 ⟨v1, rfl, hH1, hR1, hcc, hap1, hs1⟩
  obtain ⟨oa1, cp1, rfl, hm1, hm2⟩ := hH1.slice
  have hlt1 : ∀ b, (Value.slice oa1 os.length cp1).ownBlock = some b → b < w1.heap.size := fun b e => (hH1.lt e).2
  have r0 := fun i => hcc W.heap.size i (by omega) (by omega)
  have r1 := fun i => hcc (W.heap.size + 1) i (by omega) (by omega)
  simp only [forall_and] at r0 r1
  obtain ⟨r0, f0⟩ := r0
  obtain ⟨r1, f1⟩ := r1
  simp at hs1
  have z0 : W.heap.size < w1.heap.size := by omega
  have z1 : W.heap.size + 1 < w1.heap.size := by omega
  have HH1 := Lib.hid hH1
  have HR1 := Lib.hid hR1
  have HLT1 := Lib.hid hlt1
  have HAP1 := Lib.hid hap1
  have HZ := Lib.hid hs1
  generalize os.length = len1 at *
  unfold maxLen at hm2
  unfold meanV
  simp only
  clear hH1 hR1 hlt1 hap1 hcc
  cases ot
  · by_cases hoc : oc = 0
    · subst hoc
      have e : thenD ⟨ok, on, false, os, 0⟩ (fun a => f a.k a.n a.said) = f ok on os := by unfold thenD; simp
      have HE := Lib.hid e
      have HNX := Lib.hid (fun Wb hr hh => HN.out Wb ok on (.slice oa1 len1 cp1) os hr hh HG.out.val HG.out.len HG.out.short)
      generalize f ok on os = o2 at HNX HE
      obtain ⟨ok2, on2, ot2, os2, oc2⟩ := o2
      clear e HN HG
      go_wp2_with fail
      have hbk : ∀ Wb, Keeps (Mine W.heap.size (W.heap.size + 2)) w1 Wb → W.heap.size + 2 ≤ Wb.heap.size → Calls Tryz.prog g' _ Wb _ := fun Wb hk hs => (HNX.out Wb (HR1.out.keeps hk (fun b hb => Or.inr hb.1)) (HH1.out.keeps hk (fun b hb => Nat.le_trans HW0.out hb.1) (fun b hb => HAP1.out b hb.1 hb.2))).mono fun e w' hd => came_back HH1.out HR1.out.wide hk (Nat.le_refl _) hs HAP1.out (fun b x => Or.inl (HX.out b x).2) hd
      refine (hbk _ ?_ ?_).mono ?_
      · (repeat (first | (with_reducible refine Keeps.alloc ?_ _) | (with_reducible refine Keeps.setCell ?_ ?_ _) | (with_reducible refine Keeps.drew ?_) | (with_reducible exact Keeps.refl _ _) | (with_reducible refine Keeps.below ?_ (by assumption)))) <;> (first | exact Or.inl rfl | exact Or.inl (Or.inl rfl) | exact Or.inl (Or.inr rfl) | exact Or.inl ⟨by (try dsimp only); omega, by (try dsimp only); omega⟩ | exact Or.inr (by (try dsimp only); omega))
      · simp; omega
      clear hbk
      rintro e w2 ⟨v2, rfl, hH2, hR2, hcc, hap2, hs2⟩
      obtain ⟨oa2, cp2, rfl, hp1, hp2⟩ := hH2.slice
      have q1 := fun i => hcc (W.heap.size + 1) i (by omega) (by omega)
      simp only [forall_and] at q1
      obtain ⟨q1, g1⟩ := q1
      simp at hs2
      have z2 : W.heap.size + 1 < w2.heap.size := by omega
      have HH2 := Lib.hid hH2
      have HR2 := Lib.hid hR2
      have HAP2 := Lib.hid hap2
      generalize os2.length = len2 at *
      unfold maxLen at hp2
      unfold meanV
      simp only
      clear hH2 hR2 hap2 hcc
      go_wp2_with fail
      rw [HE.out]
      refine bodyPost_ret (v := .agg #[.int .i64 ok2, .int .i64 on2, .bool ot2, .slice oa2 len2 cp2, .int .i64 oc2]) (by simp [results, Tryz.results114, go_sem, *]) rfl ?_
      refine did_end (lo := W.heap.size) (hi := W.heap.size + 2) HH2.out HR2.out ?_ (Nat.le_refl _) HW0.out HAP2.out
      (repeat (first | (with_reducible refine Keeps.alloc ?_ _) | (with_reducible refine Keeps.setCell ?_ ?_ _) | (with_reducible refine Keeps.drew ?_) | (with_reducible exact Keeps.refl _ _) | (with_reducible refine Keeps.below ?_ (by assumption)))) <;> (first | exact Or.inl rfl | exact Or.inl (Or.inl rfl) | exact Or.inl (Or.inr rfl) | exact Or.inl ⟨by (try dsimp only); omega, by (try dsimp only); omega⟩ | exact Or.inr (by (try dsimp only); omega))
    · have hoc' : (oc == 0) = false := by simpa using hoc
      have e : thenD ⟨ok, on, false, os, oc⟩ (fun a => f a.k a.n a.said) = ⟨ok, on, false, os, oc⟩ := by unfold thenD; simp [hoc]
      have HE := Lib.hid e
      clear e HN HG
      go_wp2_with fail
      rw [HE.out]
      refine bodyPost_ret (v := .agg #[.int .i64 ok, .int .i64 on, .bool false, .slice oa1 len1 cp1, .int .i64 oc]) (by simp [results, Tryz.results114, go_sem, *]) rfl ?_
      refine did_end (lo := W.heap.size) (hi := W.heap.size + 2) HH1.out HR1.out.wide ?_ (Nat.le_refl _) HW0.out HAP1.out
      (repeat (first | (with_reducible refine Keeps.alloc ?_ _) | (with_reducible refine Keeps.setCell ?_ ?_ _) | (with_reducible refine Keeps.drew ?_) | (with_reducible exact Keeps.refl _ _) | (with_reducible refine Keeps.below ?_ (by assumption)))) <;> (first | exact Or.inl rfl | exact Or.inl (Or.inl rfl) | exact Or.inl (Or.inr rfl) | exact Or.inl ⟨by (try dsimp only); omega, by (try dsimp only); omega⟩ | exact Or.inr (by (try dsimp only); omega))
  · have e : thenD ⟨ok, on, true, os, oc⟩ (fun a => f a.k a.n a.said) = ⟨ok, on, true, os, oc⟩ := by unfold thenD; simp
    have HE := Lib.hid e
    clear e HN HG
    go_wp2_with fail
    rw [HE.out]
    refine bodyPost_ret (v := .agg #[.int .i64 ok, .int .i64 on, .bool true, .slice oa1 len1 cp1, .int .i64 oc]) (by simp [results, Tryz.results114, go_sem, *]) rfl ?_
    refine did_end (lo := W.heap.size) (hi := W.heap.size + 2) HH1.out HR1.out.wide ?_ (Nat.le_refl _) HW0.out HAP1.out
    (repeat (first | (with_reducible refine Keeps.alloc ?_ _) | (with_reducible refine Keeps.setCell ?_ ?_ _) | (with_reducible refine Keeps.drew ?_) | (with_reducible exact Keeps.refl _ _) | (with_reducible refine Keeps.below ?_ (by assumption)))) <;> (first | exact Or.inl rfl | exact Or.inl (Or.inl rfl) | exact Or.inl (Or.inr rfl) | exact Or.inl ⟨by (try dsimp only); omega, by (try dsimp only); omega⟩ | exact Or.inr (by (try dsimp only); omega))

end L2
end Go.Proofs.YtkhjbhkbknennaaGreatDoor
