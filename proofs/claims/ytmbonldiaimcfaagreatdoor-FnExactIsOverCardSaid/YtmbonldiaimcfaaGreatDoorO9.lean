/-
  Is a pile right, is it over: the program (written by wip/gen_o9.py).
-/
import Derived.Test.YtmbonldiaimcfaaGreatDoorO8
import Derived.Lib.QuietBelow
import Derived.BigQuiet
namespace Go.Proofs.YtmbonldiaimcfaaGreatDoor
open Go.RowKit Go.Sort
namespace L2
open S1 L1

set_option maxRecDepth 100000 in
set_option maxHeartbeats 8000000 in
theorem isOfMode_any (x : Pil) (cv pv qv sv : Value) (w : World) (hR : RowsPi w x cv pv qv sv) (hs : x.c.length ≤ 1048576) :
    Calls Tryz.prog 92 #[pilV x cv pv qv sv] w fun e w' => e = .returned (.bool (modeB x)) ∧ Below w.heap.size w w' := by
  have HS := fun w1 (hb : Below w.heap.size w w1) => (isStartIn_any cv x.c x.a w1 (hR.c.below hb) hs).mono (R' := fun e w' => e = .returned (.bool (placeB x.c x.a)) ∧ Below w1.heap.size w1 w') (fun _ _ ⟨he, hw⟩ => ⟨he, by rw [← hw]; exact Below.refl _ _⟩)
  obtain ⟨oa, cap, rfl, -, -, -⟩ := hR.c
  obtain ⟨op, cp, rfl, -, -, -⟩ := hR.p
  obtain ⟨oq, cq, rfl, -, -, -⟩ := hR.q
  obtain ⟨os, cs, rfl, -, -, -⟩ := hR.s
  have HT := fun k n w1 (hb : Below w.heap.size w w1) => tells_any x (.slice oa x.c.length cap) (.slice op x.ps.length cp) (.slice os x.sd.length cs) oq x.qs.length cq k n w1
  have HB := fun w1 (hb : Below w.heap.size w w1) => beginsNothing_any x (.slice oa x.c.length cap) (.slice op x.ps.length cp) (.slice oq x.qs.length cq) (.slice os x.sd.length cs) w1
  have HN := fun w1 (hb : Below w.heap.size w w1) => implIsNothing_any x.vk x.vn w1
  clear hR hs
  obtain ⟨xc, xm, xa, xak, xan, xvk, xvn, xps, xqs, xsd⟩ := x
  unfold pilV at *
  simp only at *
  unfold modeB
  simp only
  generalize xc.length = n at *
  generalize xps.length = np at *
  generalize xqs.length = nq at *
  generalize xsd.length = ns at *
  have HA := HT xak xan
  have HV := HT xvk xvn
  clear HT
  generalize placeB xc xa = tS at *
  generalize tellsB nq xak xan = tA at *
  generalize tellsB nq xvk xvn = tV at *
  generalize sameB xvk xvn 0 0 = tN at *
  generalize (decide (xa = 0) && sameB xak xan 0 0) = tB at *
  by_cases e0 : xm = 0
  · subst e0
    rw [if_pos rfl]
    cases tS
    · repeat (first | rw [Bool.false_and] | rw [Bool.true_and] | rw [Bool.and_true] | rw [Bool.and_false])
      go_enter Tryz.func92, Tryz.ntmps92
      go_wp2_with fail
      refine (HS _ (by (repeat (first | (with_reducible refine Below.alloc ?_ ?_ _) | (with_reducible refine Below.setCell ?_ ?_ _) | (with_reducible refine Below.drew ?_) | (with_reducible exact Below.refl _ _) | (with_reducible refine Below.trans ?_ (Below.mono (by assumption) ?_)))) <;> (first | omega | (dsimp only; omega) | (simp; done) | (simp; omega) | (simp at *; omega)))).mono ?_
      rintro e w1 ⟨rfl, hb1⟩
      have hs1 := hb1.size
      have HB1 : Hid (Below w.heap.size w w1) := Lib.hid (by (repeat (first | (with_reducible refine Below.alloc ?_ ?_ _) | (with_reducible refine Below.setCell ?_ ?_ _) | (with_reducible refine Below.drew ?_) | (with_reducible exact Below.refl _ _) | (with_reducible refine Below.trans ?_ (Below.mono (by assumption) ?_)))) <;> (first | omega | (dsimp only; omega) | (simp; done) | (simp; omega) | (simp at *; omega)))
      obtain ⟨hc1, hf1⟩ := bcell hb1
      simp at hs1
      have z1 : w.heap.size < w1.heap.size := by omega
      clear hb1
      go_wp2_with fail
      go_ret
      exact ⟨rfl, HB1.out⟩
    · cases tA
      · repeat (first | rw [Bool.false_and] | rw [Bool.true_and] | rw [Bool.and_true] | rw [Bool.and_false])
        go_enter Tryz.func92, Tryz.ntmps92
        go_wp2_with fail
        refine (HS _ (by (repeat (first | (with_reducible refine Below.alloc ?_ ?_ _) | (with_reducible refine Below.setCell ?_ ?_ _) | (with_reducible refine Below.drew ?_) | (with_reducible exact Below.refl _ _) | (with_reducible refine Below.trans ?_ (Below.mono (by assumption) ?_)))) <;> (first | omega | (dsimp only; omega) | (simp; done) | (simp; omega) | (simp at *; omega)))).mono ?_
        rintro e w1 ⟨rfl, hb1⟩
        have hs1 := hb1.size
        have HB1 : Hid (Below w.heap.size w w1) := Lib.hid (by (repeat (first | (with_reducible refine Below.alloc ?_ ?_ _) | (with_reducible refine Below.setCell ?_ ?_ _) | (with_reducible refine Below.drew ?_) | (with_reducible exact Below.refl _ _) | (with_reducible refine Below.trans ?_ (Below.mono (by assumption) ?_)))) <;> (first | omega | (dsimp only; omega) | (simp; done) | (simp; omega) | (simp at *; omega)))
        obtain ⟨hc1, hf1⟩ := bcell hb1
        simp at hs1
        have z1 : w.heap.size < w1.heap.size := by omega
        clear hb1
        go_wp2_with fail
        refine (HA _ HB1.out).mono ?_
        rintro e w2 ⟨rfl, hb2⟩
        have hs2 := hb2.size
        have HB2 : Hid (Below w.heap.size w w2) := Lib.hid (HB1.out.trans (hb2.mono HB1.out.size))
        obtain ⟨hc2, hf2⟩ := bcell hb2
        have z2 : w.heap.size < w2.heap.size := by omega
        clear hb2
        go_wp2_with fail
        go_ret
        exact ⟨rfl, HB2.out⟩
      · repeat (first | rw [Bool.false_and] | rw [Bool.true_and] | rw [Bool.and_true] | rw [Bool.and_false])
        go_enter Tryz.func92, Tryz.ntmps92
        go_wp2_with fail
        refine (HS _ (by (repeat (first | (with_reducible refine Below.alloc ?_ ?_ _) | (with_reducible refine Below.setCell ?_ ?_ _) | (with_reducible refine Below.drew ?_) | (with_reducible exact Below.refl _ _) | (with_reducible refine Below.trans ?_ (Below.mono (by assumption) ?_)))) <;> (first | omega | (dsimp only; omega) | (simp; done) | (simp; omega) | (simp at *; omega)))).mono ?_
        rintro e w1 ⟨rfl, hb1⟩
        have hs1 := hb1.size
        have HB1 : Hid (Below w.heap.size w w1) := Lib.hid (by (repeat (first | (with_reducible refine Below.alloc ?_ ?_ _) | (with_reducible refine Below.setCell ?_ ?_ _) | (with_reducible refine Below.drew ?_) | (with_reducible exact Below.refl _ _) | (with_reducible refine Below.trans ?_ (Below.mono (by assumption) ?_)))) <;> (first | omega | (dsimp only; omega) | (simp; done) | (simp; omega) | (simp at *; omega)))
        obtain ⟨hc1, hf1⟩ := bcell hb1
        simp at hs1
        have z1 : w.heap.size < w1.heap.size := by omega
        clear hb1
        go_wp2_with fail
        refine (HA _ HB1.out).mono ?_
        rintro e w2 ⟨rfl, hb2⟩
        have hs2 := hb2.size
        have HB2 : Hid (Below w.heap.size w w2) := Lib.hid (HB1.out.trans (hb2.mono HB1.out.size))
        obtain ⟨hc2, hf2⟩ := bcell hb2
        have z2 : w.heap.size < w2.heap.size := by omega
        clear hb2
        go_wp2_with fail
        refine (HN _ HB2.out).mono ?_
        rintro e w3 ⟨rfl, hb3⟩
        have hs3 := hb3.size
        have HB3 : Hid (Below w.heap.size w w3) := Lib.hid (HB2.out.trans (hb3.mono HB2.out.size))
        obtain ⟨hc3, hf3⟩ := bcell hb3
        have z3 : w.heap.size < w3.heap.size := by omega
        clear hb3
        go_wp2_with fail
        go_ret
        exact ⟨rfl, HB3.out⟩
  rw [if_neg e0]
  by_cases e1 : xm = 1
  · subst e1
    rw [if_pos (by decide)]
    cases tB
    · repeat (first | rw [Bool.false_and] | rw [Bool.true_and] | rw [Bool.and_true] | rw [Bool.and_false])
      go_enter Tryz.func92, Tryz.ntmps92
      go_wp2_with fail
      refine (HB _ (by (repeat (first | (with_reducible refine Below.alloc ?_ ?_ _) | (with_reducible refine Below.setCell ?_ ?_ _) | (with_reducible refine Below.drew ?_) | (with_reducible exact Below.refl _ _) | (with_reducible refine Below.trans ?_ (Below.mono (by assumption) ?_)))) <;> (first | omega | (dsimp only; omega) | (simp; done) | (simp; omega) | (simp at *; omega)))).mono ?_
      rintro e w1 ⟨rfl, hb1⟩
      have hs1 := hb1.size
      have HB1 : Hid (Below w.heap.size w w1) := Lib.hid (by (repeat (first | (with_reducible refine Below.alloc ?_ ?_ _) | (with_reducible refine Below.setCell ?_ ?_ _) | (with_reducible refine Below.drew ?_) | (with_reducible exact Below.refl _ _) | (with_reducible refine Below.trans ?_ (Below.mono (by assumption) ?_)))) <;> (first | omega | (dsimp only; omega) | (simp; done) | (simp; omega) | (simp at *; omega)))
      obtain ⟨hc1, hf1⟩ := bcell hb1
      simp at hs1
      have z1 : w.heap.size < w1.heap.size := by omega
      clear hb1
      go_wp2_with fail
      go_ret
      exact ⟨rfl, HB1.out⟩
    · repeat (first | rw [Bool.false_and] | rw [Bool.true_and] | rw [Bool.and_true] | rw [Bool.and_false])
      go_enter Tryz.func92, Tryz.ntmps92
      go_wp2_with fail
      refine (HB _ (by (repeat (first | (with_reducible refine Below.alloc ?_ ?_ _) | (with_reducible refine Below.setCell ?_ ?_ _) | (with_reducible refine Below.drew ?_) | (with_reducible exact Below.refl _ _) | (with_reducible refine Below.trans ?_ (Below.mono (by assumption) ?_)))) <;> (first | omega | (dsimp only; omega) | (simp; done) | (simp; omega) | (simp at *; omega)))).mono ?_
      rintro e w1 ⟨rfl, hb1⟩
      have hs1 := hb1.size
      have HB1 : Hid (Below w.heap.size w w1) := Lib.hid (by (repeat (first | (with_reducible refine Below.alloc ?_ ?_ _) | (with_reducible refine Below.setCell ?_ ?_ _) | (with_reducible refine Below.drew ?_) | (with_reducible exact Below.refl _ _) | (with_reducible refine Below.trans ?_ (Below.mono (by assumption) ?_)))) <;> (first | omega | (dsimp only; omega) | (simp; done) | (simp; omega) | (simp at *; omega)))
      obtain ⟨hc1, hf1⟩ := bcell hb1
      simp at hs1
      have z1 : w.heap.size < w1.heap.size := by omega
      clear hb1
      go_wp2_with fail
      refine (HV _ HB1.out).mono ?_
      rintro e w2 ⟨rfl, hb2⟩
      have hs2 := hb2.size
      have HB2 : Hid (Below w.heap.size w w2) := Lib.hid (HB1.out.trans (hb2.mono HB1.out.size))
      obtain ⟨hc2, hf2⟩ := bcell hb2
      have z2 : w.heap.size < w2.heap.size := by omega
      clear hb2
      go_wp2_with fail
      go_ret
      exact ⟨rfl, HB2.out⟩
  by_cases e2 : xm = 2
  · subst e2
    rw [if_pos (by decide)]
    cases tB
    · repeat (first | rw [Bool.false_and] | rw [Bool.true_and] | rw [Bool.and_true] | rw [Bool.and_false])
      go_enter Tryz.func92, Tryz.ntmps92
      go_wp2_with fail
      refine (HB _ (by (repeat (first | (with_reducible refine Below.alloc ?_ ?_ _) | (with_reducible refine Below.setCell ?_ ?_ _) | (with_reducible refine Below.drew ?_) | (with_reducible exact Below.refl _ _) | (with_reducible refine Below.trans ?_ (Below.mono (by assumption) ?_)))) <;> (first | omega | (dsimp only; omega) | (simp; done) | (simp; omega) | (simp at *; omega)))).mono ?_
      rintro e w1 ⟨rfl, hb1⟩
      have hs1 := hb1.size
      have HB1 : Hid (Below w.heap.size w w1) := Lib.hid (by (repeat (first | (with_reducible refine Below.alloc ?_ ?_ _) | (with_reducible refine Below.setCell ?_ ?_ _) | (with_reducible refine Below.drew ?_) | (with_reducible exact Below.refl _ _) | (with_reducible refine Below.trans ?_ (Below.mono (by assumption) ?_)))) <;> (first | omega | (dsimp only; omega) | (simp; done) | (simp; omega) | (simp at *; omega)))
      obtain ⟨hc1, hf1⟩ := bcell hb1
      simp at hs1
      have z1 : w.heap.size < w1.heap.size := by omega
      clear hb1
      go_wp2_with fail
      go_ret
      exact ⟨rfl, HB1.out⟩
    · repeat (first | rw [Bool.false_and] | rw [Bool.true_and] | rw [Bool.and_true] | rw [Bool.and_false])
      go_enter Tryz.func92, Tryz.ntmps92
      go_wp2_with fail
      refine (HB _ (by (repeat (first | (with_reducible refine Below.alloc ?_ ?_ _) | (with_reducible refine Below.setCell ?_ ?_ _) | (with_reducible refine Below.drew ?_) | (with_reducible exact Below.refl _ _) | (with_reducible refine Below.trans ?_ (Below.mono (by assumption) ?_)))) <;> (first | omega | (dsimp only; omega) | (simp; done) | (simp; omega) | (simp at *; omega)))).mono ?_
      rintro e w1 ⟨rfl, hb1⟩
      have hs1 := hb1.size
      have HB1 : Hid (Below w.heap.size w w1) := Lib.hid (by (repeat (first | (with_reducible refine Below.alloc ?_ ?_ _) | (with_reducible refine Below.setCell ?_ ?_ _) | (with_reducible refine Below.drew ?_) | (with_reducible exact Below.refl _ _) | (with_reducible refine Below.trans ?_ (Below.mono (by assumption) ?_)))) <;> (first | omega | (dsimp only; omega) | (simp; done) | (simp; omega) | (simp at *; omega)))
      obtain ⟨hc1, hf1⟩ := bcell hb1
      simp at hs1
      have z1 : w.heap.size < w1.heap.size := by omega
      clear hb1
      go_wp2_with fail
      refine (HV _ HB1.out).mono ?_
      rintro e w2 ⟨rfl, hb2⟩
      have hs2 := hb2.size
      have HB2 : Hid (Below w.heap.size w w2) := Lib.hid (HB1.out.trans (hb2.mono HB1.out.size))
      obtain ⟨hc2, hf2⟩ := bcell hb2
      have z2 : w.heap.size < w2.heap.size := by omega
      clear hb2
      go_wp2_with fail
      go_ret
      exact ⟨rfl, HB2.out⟩
  by_cases e3 : xm = 3
  · subst e3
    rw [if_neg (by decide), if_pos (by decide)]
    by_cases el : np = 0
    · have el2 : decide (np = 0) = true := by simp [el]
      rw [el2]
      subst el
      cases tB
      · repeat (first | rw [Bool.false_and] | rw [Bool.true_and] | rw [Bool.and_true] | rw [Bool.and_false])
        go_enter Tryz.func92, Tryz.ntmps92
        go_wp2_with fail
        refine (HB _ (by (repeat (first | (with_reducible refine Below.alloc ?_ ?_ _) | (with_reducible refine Below.setCell ?_ ?_ _) | (with_reducible refine Below.drew ?_) | (with_reducible exact Below.refl _ _) | (with_reducible refine Below.trans ?_ (Below.mono (by assumption) ?_)))) <;> (first | omega | (dsimp only; omega) | (simp; done) | (simp; omega) | (simp at *; omega)))).mono ?_
        rintro e w1 ⟨rfl, hb1⟩
        have hs1 := hb1.size
        have HB1 : Hid (Below w.heap.size w w1) := Lib.hid (by (repeat (first | (with_reducible refine Below.alloc ?_ ?_ _) | (with_reducible refine Below.setCell ?_ ?_ _) | (with_reducible refine Below.drew ?_) | (with_reducible exact Below.refl _ _) | (with_reducible refine Below.trans ?_ (Below.mono (by assumption) ?_)))) <;> (first | omega | (dsimp only; omega) | (simp; done) | (simp; omega) | (simp at *; omega)))
        obtain ⟨hc1, hf1⟩ := bcell hb1
        simp at hs1
        have z1 : w.heap.size < w1.heap.size := by omega
        clear hb1
        go_wp2_with fail
        go_ret
        exact ⟨rfl, HB1.out⟩
      · cases tV
        · repeat (first | rw [Bool.false_and] | rw [Bool.true_and] | rw [Bool.and_true] | rw [Bool.and_false])
          go_enter Tryz.func92, Tryz.ntmps92
          go_wp2_with fail
          refine (HB _ (by (repeat (first | (with_reducible refine Below.alloc ?_ ?_ _) | (with_reducible refine Below.setCell ?_ ?_ _) | (with_reducible refine Below.drew ?_) | (with_reducible exact Below.refl _ _) | (with_reducible refine Below.trans ?_ (Below.mono (by assumption) ?_)))) <;> (first | omega | (dsimp only; omega) | (simp; done) | (simp; omega) | (simp at *; omega)))).mono ?_
          rintro e w1 ⟨rfl, hb1⟩
          have hs1 := hb1.size
          have HB1 : Hid (Below w.heap.size w w1) := Lib.hid (by (repeat (first | (with_reducible refine Below.alloc ?_ ?_ _) | (with_reducible refine Below.setCell ?_ ?_ _) | (with_reducible refine Below.drew ?_) | (with_reducible exact Below.refl _ _) | (with_reducible refine Below.trans ?_ (Below.mono (by assumption) ?_)))) <;> (first | omega | (dsimp only; omega) | (simp; done) | (simp; omega) | (simp at *; omega)))
          obtain ⟨hc1, hf1⟩ := bcell hb1
          simp at hs1
          have z1 : w.heap.size < w1.heap.size := by omega
          clear hb1
          go_wp2_with fail
          refine (HV _ HB1.out).mono ?_
          rintro e w2 ⟨rfl, hb2⟩
          have hs2 := hb2.size
          have HB2 : Hid (Below w.heap.size w w2) := Lib.hid (HB1.out.trans (hb2.mono HB1.out.size))
          obtain ⟨hc2, hf2⟩ := bcell hb2
          have z2 : w.heap.size < w2.heap.size := by omega
          clear hb2
          go_wp2_with fail
          go_ret
          exact ⟨rfl, HB2.out⟩
        · repeat (first | rw [Bool.false_and] | rw [Bool.true_and] | rw [Bool.and_true] | rw [Bool.and_false])
          go_enter Tryz.func92, Tryz.ntmps92
          go_wp2_with fail
          refine (HB _ (by (repeat (first | (with_reducible refine Below.alloc ?_ ?_ _) | (with_reducible refine Below.setCell ?_ ?_ _) | (with_reducible refine Below.drew ?_) | (with_reducible exact Below.refl _ _) | (with_reducible refine Below.trans ?_ (Below.mono (by assumption) ?_)))) <;> (first | omega | (dsimp only; omega) | (simp; done) | (simp; omega) | (simp at *; omega)))).mono ?_
          rintro e w1 ⟨rfl, hb1⟩
          have hs1 := hb1.size
          have HB1 : Hid (Below w.heap.size w w1) := Lib.hid (by (repeat (first | (with_reducible refine Below.alloc ?_ ?_ _) | (with_reducible refine Below.setCell ?_ ?_ _) | (with_reducible refine Below.drew ?_) | (with_reducible exact Below.refl _ _) | (with_reducible refine Below.trans ?_ (Below.mono (by assumption) ?_)))) <;> (first | omega | (dsimp only; omega) | (simp; done) | (simp; omega) | (simp at *; omega)))
          obtain ⟨hc1, hf1⟩ := bcell hb1
          simp at hs1
          have z1 : w.heap.size < w1.heap.size := by omega
          clear hb1
          go_wp2_with fail
          refine (HV _ HB1.out).mono ?_
          rintro e w2 ⟨rfl, hb2⟩
          have hs2 := hb2.size
          have HB2 : Hid (Below w.heap.size w w2) := Lib.hid (HB1.out.trans (hb2.mono HB1.out.size))
          obtain ⟨hc2, hf2⟩ := bcell hb2
          have z2 : w.heap.size < w2.heap.size := by omega
          clear hb2
          go_wp2_with fail
          go_ret
          exact ⟨rfl, HB2.out⟩
    · have el2 : decide (np = 0) = false := by simp [el]
      have el3 : ((np : Int) == 0) = false := by simp; omega
      rw [el2]
      cases tB
      · repeat (first | rw [Bool.false_and] | rw [Bool.true_and] | rw [Bool.and_true] | rw [Bool.and_false])
        go_enter Tryz.func92, Tryz.ntmps92
        go_wp2_with fail
        refine (HB _ (by (repeat (first | (with_reducible refine Below.alloc ?_ ?_ _) | (with_reducible refine Below.setCell ?_ ?_ _) | (with_reducible refine Below.drew ?_) | (with_reducible exact Below.refl _ _) | (with_reducible refine Below.trans ?_ (Below.mono (by assumption) ?_)))) <;> (first | omega | (dsimp only; omega) | (simp; done) | (simp; omega) | (simp at *; omega)))).mono ?_
        rintro e w1 ⟨rfl, hb1⟩
        have hs1 := hb1.size
        have HB1 : Hid (Below w.heap.size w w1) := Lib.hid (by (repeat (first | (with_reducible refine Below.alloc ?_ ?_ _) | (with_reducible refine Below.setCell ?_ ?_ _) | (with_reducible refine Below.drew ?_) | (with_reducible exact Below.refl _ _) | (with_reducible refine Below.trans ?_ (Below.mono (by assumption) ?_)))) <;> (first | omega | (dsimp only; omega) | (simp; done) | (simp; omega) | (simp at *; omega)))
        obtain ⟨hc1, hf1⟩ := bcell hb1
        simp at hs1
        have z1 : w.heap.size < w1.heap.size := by omega
        clear hb1
        go_wp2_with fail
        go_ret
        exact ⟨rfl, HB1.out⟩
      · cases tV
        · repeat (first | rw [Bool.false_and] | rw [Bool.true_and] | rw [Bool.and_true] | rw [Bool.and_false])
          go_enter Tryz.func92, Tryz.ntmps92
          go_wp2_with fail
          refine (HB _ (by (repeat (first | (with_reducible refine Below.alloc ?_ ?_ _) | (with_reducible refine Below.setCell ?_ ?_ _) | (with_reducible refine Below.drew ?_) | (with_reducible exact Below.refl _ _) | (with_reducible refine Below.trans ?_ (Below.mono (by assumption) ?_)))) <;> (first | omega | (dsimp only; omega) | (simp; done) | (simp; omega) | (simp at *; omega)))).mono ?_
          rintro e w1 ⟨rfl, hb1⟩
          have hs1 := hb1.size
          have HB1 : Hid (Below w.heap.size w w1) := Lib.hid (by (repeat (first | (with_reducible refine Below.alloc ?_ ?_ _) | (with_reducible refine Below.setCell ?_ ?_ _) | (with_reducible refine Below.drew ?_) | (with_reducible exact Below.refl _ _) | (with_reducible refine Below.trans ?_ (Below.mono (by assumption) ?_)))) <;> (first | omega | (dsimp only; omega) | (simp; done) | (simp; omega) | (simp at *; omega)))
          obtain ⟨hc1, hf1⟩ := bcell hb1
          simp at hs1
          have z1 : w.heap.size < w1.heap.size := by omega
          clear hb1
          go_wp2_with fail
          refine (HV _ HB1.out).mono ?_
          rintro e w2 ⟨rfl, hb2⟩
          have hs2 := hb2.size
          have HB2 : Hid (Below w.heap.size w w2) := Lib.hid (HB1.out.trans (hb2.mono HB1.out.size))
          obtain ⟨hc2, hf2⟩ := bcell hb2
          have z2 : w.heap.size < w2.heap.size := by omega
          clear hb2
          go_wp2_with fail
          go_ret
          exact ⟨rfl, HB2.out⟩
        · repeat (first | rw [Bool.false_and] | rw [Bool.true_and] | rw [Bool.and_true] | rw [Bool.and_false])
          go_enter Tryz.func92, Tryz.ntmps92
          go_wp2_with fail
          refine (HB _ (by (repeat (first | (with_reducible refine Below.alloc ?_ ?_ _) | (with_reducible refine Below.setCell ?_ ?_ _) | (with_reducible refine Below.drew ?_) | (with_reducible exact Below.refl _ _) | (with_reducible refine Below.trans ?_ (Below.mono (by assumption) ?_)))) <;> (first | omega | (dsimp only; omega) | (simp; done) | (simp; omega) | (simp at *; omega)))).mono ?_
          rintro e w1 ⟨rfl, hb1⟩
          have hs1 := hb1.size
          have HB1 : Hid (Below w.heap.size w w1) := Lib.hid (by (repeat (first | (with_reducible refine Below.alloc ?_ ?_ _) | (with_reducible refine Below.setCell ?_ ?_ _) | (with_reducible refine Below.drew ?_) | (with_reducible exact Below.refl _ _) | (with_reducible refine Below.trans ?_ (Below.mono (by assumption) ?_)))) <;> (first | omega | (dsimp only; omega) | (simp; done) | (simp; omega) | (simp at *; omega)))
          obtain ⟨hc1, hf1⟩ := bcell hb1
          simp at hs1
          have z1 : w.heap.size < w1.heap.size := by omega
          clear hb1
          go_wp2_with fail
          refine (HV _ HB1.out).mono ?_
          rintro e w2 ⟨rfl, hb2⟩
          have hs2 := hb2.size
          have HB2 : Hid (Below w.heap.size w w2) := Lib.hid (HB1.out.trans (hb2.mono HB1.out.size))
          obtain ⟨hc2, hf2⟩ := bcell hb2
          have z2 : w.heap.size < w2.heap.size := by omega
          clear hb2
          go_wp2_with fail
          go_ret
          exact ⟨rfl, HB2.out⟩
  by_cases e4 : xm = 4
  · subst e4
    rw [if_neg (by decide), if_pos (by decide)]
    by_cases el : np = 0
    · have el2 : decide (np = 0) = true := by simp [el]
      rw [el2]
      subst el
      cases tB
      · repeat (first | rw [Bool.false_and] | rw [Bool.true_and] | rw [Bool.and_true] | rw [Bool.and_false])
        go_enter Tryz.func92, Tryz.ntmps92
        go_wp2_with fail
        refine (HB _ (by (repeat (first | (with_reducible refine Below.alloc ?_ ?_ _) | (with_reducible refine Below.setCell ?_ ?_ _) | (with_reducible refine Below.drew ?_) | (with_reducible exact Below.refl _ _) | (with_reducible refine Below.trans ?_ (Below.mono (by assumption) ?_)))) <;> (first | omega | (dsimp only; omega) | (simp; done) | (simp; omega) | (simp at *; omega)))).mono ?_
        rintro e w1 ⟨rfl, hb1⟩
        have hs1 := hb1.size
        have HB1 : Hid (Below w.heap.size w w1) := Lib.hid (by (repeat (first | (with_reducible refine Below.alloc ?_ ?_ _) | (with_reducible refine Below.setCell ?_ ?_ _) | (with_reducible refine Below.drew ?_) | (with_reducible exact Below.refl _ _) | (with_reducible refine Below.trans ?_ (Below.mono (by assumption) ?_)))) <;> (first | omega | (dsimp only; omega) | (simp; done) | (simp; omega) | (simp at *; omega)))
        obtain ⟨hc1, hf1⟩ := bcell hb1
        simp at hs1
        have z1 : w.heap.size < w1.heap.size := by omega
        clear hb1
        go_wp2_with fail
        go_ret
        exact ⟨rfl, HB1.out⟩
      · cases tV
        · repeat (first | rw [Bool.false_and] | rw [Bool.true_and] | rw [Bool.and_true] | rw [Bool.and_false])
          go_enter Tryz.func92, Tryz.ntmps92
          go_wp2_with fail
          refine (HB _ (by (repeat (first | (with_reducible refine Below.alloc ?_ ?_ _) | (with_reducible refine Below.setCell ?_ ?_ _) | (with_reducible refine Below.drew ?_) | (with_reducible exact Below.refl _ _) | (with_reducible refine Below.trans ?_ (Below.mono (by assumption) ?_)))) <;> (first | omega | (dsimp only; omega) | (simp; done) | (simp; omega) | (simp at *; omega)))).mono ?_
          rintro e w1 ⟨rfl, hb1⟩
          have hs1 := hb1.size
          have HB1 : Hid (Below w.heap.size w w1) := Lib.hid (by (repeat (first | (with_reducible refine Below.alloc ?_ ?_ _) | (with_reducible refine Below.setCell ?_ ?_ _) | (with_reducible refine Below.drew ?_) | (with_reducible exact Below.refl _ _) | (with_reducible refine Below.trans ?_ (Below.mono (by assumption) ?_)))) <;> (first | omega | (dsimp only; omega) | (simp; done) | (simp; omega) | (simp at *; omega)))
          obtain ⟨hc1, hf1⟩ := bcell hb1
          simp at hs1
          have z1 : w.heap.size < w1.heap.size := by omega
          clear hb1
          go_wp2_with fail
          refine (HV _ HB1.out).mono ?_
          rintro e w2 ⟨rfl, hb2⟩
          have hs2 := hb2.size
          have HB2 : Hid (Below w.heap.size w w2) := Lib.hid (HB1.out.trans (hb2.mono HB1.out.size))
          obtain ⟨hc2, hf2⟩ := bcell hb2
          have z2 : w.heap.size < w2.heap.size := by omega
          clear hb2
          go_wp2_with fail
          go_ret
          exact ⟨rfl, HB2.out⟩
        · repeat (first | rw [Bool.false_and] | rw [Bool.true_and] | rw [Bool.and_true] | rw [Bool.and_false])
          go_enter Tryz.func92, Tryz.ntmps92
          go_wp2_with fail
          refine (HB _ (by (repeat (first | (with_reducible refine Below.alloc ?_ ?_ _) | (with_reducible refine Below.setCell ?_ ?_ _) | (with_reducible refine Below.drew ?_) | (with_reducible exact Below.refl _ _) | (with_reducible refine Below.trans ?_ (Below.mono (by assumption) ?_)))) <;> (first | omega | (dsimp only; omega) | (simp; done) | (simp; omega) | (simp at *; omega)))).mono ?_
          rintro e w1 ⟨rfl, hb1⟩
          have hs1 := hb1.size
          have HB1 : Hid (Below w.heap.size w w1) := Lib.hid (by (repeat (first | (with_reducible refine Below.alloc ?_ ?_ _) | (with_reducible refine Below.setCell ?_ ?_ _) | (with_reducible refine Below.drew ?_) | (with_reducible exact Below.refl _ _) | (with_reducible refine Below.trans ?_ (Below.mono (by assumption) ?_)))) <;> (first | omega | (dsimp only; omega) | (simp; done) | (simp; omega) | (simp at *; omega)))
          obtain ⟨hc1, hf1⟩ := bcell hb1
          simp at hs1
          have z1 : w.heap.size < w1.heap.size := by omega
          clear hb1
          go_wp2_with fail
          refine (HV _ HB1.out).mono ?_
          rintro e w2 ⟨rfl, hb2⟩
          have hs2 := hb2.size
          have HB2 : Hid (Below w.heap.size w w2) := Lib.hid (HB1.out.trans (hb2.mono HB1.out.size))
          obtain ⟨hc2, hf2⟩ := bcell hb2
          have z2 : w.heap.size < w2.heap.size := by omega
          clear hb2
          go_wp2_with fail
          go_ret
          exact ⟨rfl, HB2.out⟩
    · have el2 : decide (np = 0) = false := by simp [el]
      have el3 : ((np : Int) == 0) = false := by simp; omega
      rw [el2]
      cases tB
      · repeat (first | rw [Bool.false_and] | rw [Bool.true_and] | rw [Bool.and_true] | rw [Bool.and_false])
        go_enter Tryz.func92, Tryz.ntmps92
        go_wp2_with fail
        refine (HB _ (by (repeat (first | (with_reducible refine Below.alloc ?_ ?_ _) | (with_reducible refine Below.setCell ?_ ?_ _) | (with_reducible refine Below.drew ?_) | (with_reducible exact Below.refl _ _) | (with_reducible refine Below.trans ?_ (Below.mono (by assumption) ?_)))) <;> (first | omega | (dsimp only; omega) | (simp; done) | (simp; omega) | (simp at *; omega)))).mono ?_
        rintro e w1 ⟨rfl, hb1⟩
        have hs1 := hb1.size
        have HB1 : Hid (Below w.heap.size w w1) := Lib.hid (by (repeat (first | (with_reducible refine Below.alloc ?_ ?_ _) | (with_reducible refine Below.setCell ?_ ?_ _) | (with_reducible refine Below.drew ?_) | (with_reducible exact Below.refl _ _) | (with_reducible refine Below.trans ?_ (Below.mono (by assumption) ?_)))) <;> (first | omega | (dsimp only; omega) | (simp; done) | (simp; omega) | (simp at *; omega)))
        obtain ⟨hc1, hf1⟩ := bcell hb1
        simp at hs1
        have z1 : w.heap.size < w1.heap.size := by omega
        clear hb1
        go_wp2_with fail
        go_ret
        exact ⟨rfl, HB1.out⟩
      · cases tV
        · repeat (first | rw [Bool.false_and] | rw [Bool.true_and] | rw [Bool.and_true] | rw [Bool.and_false])
          go_enter Tryz.func92, Tryz.ntmps92
          go_wp2_with fail
          refine (HB _ (by (repeat (first | (with_reducible refine Below.alloc ?_ ?_ _) | (with_reducible refine Below.setCell ?_ ?_ _) | (with_reducible refine Below.drew ?_) | (with_reducible exact Below.refl _ _) | (with_reducible refine Below.trans ?_ (Below.mono (by assumption) ?_)))) <;> (first | omega | (dsimp only; omega) | (simp; done) | (simp; omega) | (simp at *; omega)))).mono ?_
          rintro e w1 ⟨rfl, hb1⟩
          have hs1 := hb1.size
          have HB1 : Hid (Below w.heap.size w w1) := Lib.hid (by (repeat (first | (with_reducible refine Below.alloc ?_ ?_ _) | (with_reducible refine Below.setCell ?_ ?_ _) | (with_reducible refine Below.drew ?_) | (with_reducible exact Below.refl _ _) | (with_reducible refine Below.trans ?_ (Below.mono (by assumption) ?_)))) <;> (first | omega | (dsimp only; omega) | (simp; done) | (simp; omega) | (simp at *; omega)))
          obtain ⟨hc1, hf1⟩ := bcell hb1
          simp at hs1
          have z1 : w.heap.size < w1.heap.size := by omega
          clear hb1
          go_wp2_with fail
          refine (HV _ HB1.out).mono ?_
          rintro e w2 ⟨rfl, hb2⟩
          have hs2 := hb2.size
          have HB2 : Hid (Below w.heap.size w w2) := Lib.hid (HB1.out.trans (hb2.mono HB1.out.size))
          obtain ⟨hc2, hf2⟩ := bcell hb2
          have z2 : w.heap.size < w2.heap.size := by omega
          clear hb2
          go_wp2_with fail
          go_ret
          exact ⟨rfl, HB2.out⟩
        · repeat (first | rw [Bool.false_and] | rw [Bool.true_and] | rw [Bool.and_true] | rw [Bool.and_false])
          go_enter Tryz.func92, Tryz.ntmps92
          go_wp2_with fail
          refine (HB _ (by (repeat (first | (with_reducible refine Below.alloc ?_ ?_ _) | (with_reducible refine Below.setCell ?_ ?_ _) | (with_reducible refine Below.drew ?_) | (with_reducible exact Below.refl _ _) | (with_reducible refine Below.trans ?_ (Below.mono (by assumption) ?_)))) <;> (first | omega | (dsimp only; omega) | (simp; done) | (simp; omega) | (simp at *; omega)))).mono ?_
          rintro e w1 ⟨rfl, hb1⟩
          have hs1 := hb1.size
          have HB1 : Hid (Below w.heap.size w w1) := Lib.hid (by (repeat (first | (with_reducible refine Below.alloc ?_ ?_ _) | (with_reducible refine Below.setCell ?_ ?_ _) | (with_reducible refine Below.drew ?_) | (with_reducible exact Below.refl _ _) | (with_reducible refine Below.trans ?_ (Below.mono (by assumption) ?_)))) <;> (first | omega | (dsimp only; omega) | (simp; done) | (simp; omega) | (simp at *; omega)))
          obtain ⟨hc1, hf1⟩ := bcell hb1
          simp at hs1
          have z1 : w.heap.size < w1.heap.size := by omega
          clear hb1
          go_wp2_with fail
          refine (HV _ HB1.out).mono ?_
          rintro e w2 ⟨rfl, hb2⟩
          have hs2 := hb2.size
          have HB2 : Hid (Below w.heap.size w w2) := Lib.hid (HB1.out.trans (hb2.mono HB1.out.size))
          obtain ⟨hc2, hf2⟩ := bcell hb2
          have z2 : w.heap.size < w2.heap.size := by omega
          clear hb2
          go_wp2_with fail
          go_ret
          exact ⟨rfl, HB2.out⟩
  by_cases e5 : xm = 5
  · subst e5
    rw [if_neg (by decide), if_neg (by decide), if_pos (by decide)]
    by_cases el : np = 0
    · have el2 : decide (np = 0) = true := by simp [el]
      rw [el2]
      subst el
      cases tB
      · repeat (first | rw [Bool.false_and] | rw [Bool.true_and] | rw [Bool.and_true] | rw [Bool.and_false])
        go_enter Tryz.func92, Tryz.ntmps92
        go_wp2_with fail
        refine (HB _ (by (repeat (first | (with_reducible refine Below.alloc ?_ ?_ _) | (with_reducible refine Below.setCell ?_ ?_ _) | (with_reducible refine Below.drew ?_) | (with_reducible exact Below.refl _ _) | (with_reducible refine Below.trans ?_ (Below.mono (by assumption) ?_)))) <;> (first | omega | (dsimp only; omega) | (simp; done) | (simp; omega) | (simp at *; omega)))).mono ?_
        rintro e w1 ⟨rfl, hb1⟩
        have hs1 := hb1.size
        have HB1 : Hid (Below w.heap.size w w1) := Lib.hid (by (repeat (first | (with_reducible refine Below.alloc ?_ ?_ _) | (with_reducible refine Below.setCell ?_ ?_ _) | (with_reducible refine Below.drew ?_) | (with_reducible exact Below.refl _ _) | (with_reducible refine Below.trans ?_ (Below.mono (by assumption) ?_)))) <;> (first | omega | (dsimp only; omega) | (simp; done) | (simp; omega) | (simp at *; omega)))
        obtain ⟨hc1, hf1⟩ := bcell hb1
        simp at hs1
        have z1 : w.heap.size < w1.heap.size := by omega
        clear hb1
        go_wp2_with fail
        go_ret
        exact ⟨rfl, HB1.out⟩
      · cases tN
        · repeat (first | rw [Bool.false_and] | rw [Bool.true_and] | rw [Bool.and_true] | rw [Bool.and_false])
          go_enter Tryz.func92, Tryz.ntmps92
          go_wp2_with fail
          refine (HB _ (by (repeat (first | (with_reducible refine Below.alloc ?_ ?_ _) | (with_reducible refine Below.setCell ?_ ?_ _) | (with_reducible refine Below.drew ?_) | (with_reducible exact Below.refl _ _) | (with_reducible refine Below.trans ?_ (Below.mono (by assumption) ?_)))) <;> (first | omega | (dsimp only; omega) | (simp; done) | (simp; omega) | (simp at *; omega)))).mono ?_
          rintro e w1 ⟨rfl, hb1⟩
          have hs1 := hb1.size
          have HB1 : Hid (Below w.heap.size w w1) := Lib.hid (by (repeat (first | (with_reducible refine Below.alloc ?_ ?_ _) | (with_reducible refine Below.setCell ?_ ?_ _) | (with_reducible refine Below.drew ?_) | (with_reducible exact Below.refl _ _) | (with_reducible refine Below.trans ?_ (Below.mono (by assumption) ?_)))) <;> (first | omega | (dsimp only; omega) | (simp; done) | (simp; omega) | (simp at *; omega)))
          obtain ⟨hc1, hf1⟩ := bcell hb1
          simp at hs1
          have z1 : w.heap.size < w1.heap.size := by omega
          clear hb1
          go_wp2_with fail
          refine (HN _ HB1.out).mono ?_
          rintro e w2 ⟨rfl, hb2⟩
          have hs2 := hb2.size
          have HB2 : Hid (Below w.heap.size w w2) := Lib.hid (HB1.out.trans (hb2.mono HB1.out.size))
          obtain ⟨hc2, hf2⟩ := bcell hb2
          have z2 : w.heap.size < w2.heap.size := by omega
          clear hb2
          go_wp2_with fail
          go_ret
          exact ⟨rfl, HB2.out⟩
        · repeat (first | rw [Bool.false_and] | rw [Bool.true_and] | rw [Bool.and_true] | rw [Bool.and_false])
          go_enter Tryz.func92, Tryz.ntmps92
          go_wp2_with fail
          refine (HB _ (by (repeat (first | (with_reducible refine Below.alloc ?_ ?_ _) | (with_reducible refine Below.setCell ?_ ?_ _) | (with_reducible refine Below.drew ?_) | (with_reducible exact Below.refl _ _) | (with_reducible refine Below.trans ?_ (Below.mono (by assumption) ?_)))) <;> (first | omega | (dsimp only; omega) | (simp; done) | (simp; omega) | (simp at *; omega)))).mono ?_
          rintro e w1 ⟨rfl, hb1⟩
          have hs1 := hb1.size
          have HB1 : Hid (Below w.heap.size w w1) := Lib.hid (by (repeat (first | (with_reducible refine Below.alloc ?_ ?_ _) | (with_reducible refine Below.setCell ?_ ?_ _) | (with_reducible refine Below.drew ?_) | (with_reducible exact Below.refl _ _) | (with_reducible refine Below.trans ?_ (Below.mono (by assumption) ?_)))) <;> (first | omega | (dsimp only; omega) | (simp; done) | (simp; omega) | (simp at *; omega)))
          obtain ⟨hc1, hf1⟩ := bcell hb1
          simp at hs1
          have z1 : w.heap.size < w1.heap.size := by omega
          clear hb1
          go_wp2_with fail
          refine (HN _ HB1.out).mono ?_
          rintro e w2 ⟨rfl, hb2⟩
          have hs2 := hb2.size
          have HB2 : Hid (Below w.heap.size w w2) := Lib.hid (HB1.out.trans (hb2.mono HB1.out.size))
          obtain ⟨hc2, hf2⟩ := bcell hb2
          have z2 : w.heap.size < w2.heap.size := by omega
          clear hb2
          go_wp2_with fail
          go_ret
          exact ⟨rfl, HB2.out⟩
    · have el2 : decide (np = 0) = false := by simp [el]
      have el3 : ((np : Int) == 0) = false := by simp; omega
      rw [el2]
      cases tB
      · repeat (first | rw [Bool.false_and] | rw [Bool.true_and] | rw [Bool.and_true] | rw [Bool.and_false])
        go_enter Tryz.func92, Tryz.ntmps92
        go_wp2_with fail
        refine (HB _ (by (repeat (first | (with_reducible refine Below.alloc ?_ ?_ _) | (with_reducible refine Below.setCell ?_ ?_ _) | (with_reducible refine Below.drew ?_) | (with_reducible exact Below.refl _ _) | (with_reducible refine Below.trans ?_ (Below.mono (by assumption) ?_)))) <;> (first | omega | (dsimp only; omega) | (simp; done) | (simp; omega) | (simp at *; omega)))).mono ?_
        rintro e w1 ⟨rfl, hb1⟩
        have hs1 := hb1.size
        have HB1 : Hid (Below w.heap.size w w1) := Lib.hid (by (repeat (first | (with_reducible refine Below.alloc ?_ ?_ _) | (with_reducible refine Below.setCell ?_ ?_ _) | (with_reducible refine Below.drew ?_) | (with_reducible exact Below.refl _ _) | (with_reducible refine Below.trans ?_ (Below.mono (by assumption) ?_)))) <;> (first | omega | (dsimp only; omega) | (simp; done) | (simp; omega) | (simp at *; omega)))
        obtain ⟨hc1, hf1⟩ := bcell hb1
        simp at hs1
        have z1 : w.heap.size < w1.heap.size := by omega
        clear hb1
        go_wp2_with fail
        go_ret
        exact ⟨rfl, HB1.out⟩
      · cases tN
        · repeat (first | rw [Bool.false_and] | rw [Bool.true_and] | rw [Bool.and_true] | rw [Bool.and_false])
          go_enter Tryz.func92, Tryz.ntmps92
          go_wp2_with fail
          refine (HB _ (by (repeat (first | (with_reducible refine Below.alloc ?_ ?_ _) | (with_reducible refine Below.setCell ?_ ?_ _) | (with_reducible refine Below.drew ?_) | (with_reducible exact Below.refl _ _) | (with_reducible refine Below.trans ?_ (Below.mono (by assumption) ?_)))) <;> (first | omega | (dsimp only; omega) | (simp; done) | (simp; omega) | (simp at *; omega)))).mono ?_
          rintro e w1 ⟨rfl, hb1⟩
          have hs1 := hb1.size
          have HB1 : Hid (Below w.heap.size w w1) := Lib.hid (by (repeat (first | (with_reducible refine Below.alloc ?_ ?_ _) | (with_reducible refine Below.setCell ?_ ?_ _) | (with_reducible refine Below.drew ?_) | (with_reducible exact Below.refl _ _) | (with_reducible refine Below.trans ?_ (Below.mono (by assumption) ?_)))) <;> (first | omega | (dsimp only; omega) | (simp; done) | (simp; omega) | (simp at *; omega)))
          obtain ⟨hc1, hf1⟩ := bcell hb1
          simp at hs1
          have z1 : w.heap.size < w1.heap.size := by omega
          clear hb1
          go_wp2_with fail
          refine (HN _ HB1.out).mono ?_
          rintro e w2 ⟨rfl, hb2⟩
          have hs2 := hb2.size
          have HB2 : Hid (Below w.heap.size w w2) := Lib.hid (HB1.out.trans (hb2.mono HB1.out.size))
          obtain ⟨hc2, hf2⟩ := bcell hb2
          have z2 : w.heap.size < w2.heap.size := by omega
          clear hb2
          go_wp2_with fail
          go_ret
          exact ⟨rfl, HB2.out⟩
        · repeat (first | rw [Bool.false_and] | rw [Bool.true_and] | rw [Bool.and_true] | rw [Bool.and_false])
          go_enter Tryz.func92, Tryz.ntmps92
          go_wp2_with fail
          refine (HB _ (by (repeat (first | (with_reducible refine Below.alloc ?_ ?_ _) | (with_reducible refine Below.setCell ?_ ?_ _) | (with_reducible refine Below.drew ?_) | (with_reducible exact Below.refl _ _) | (with_reducible refine Below.trans ?_ (Below.mono (by assumption) ?_)))) <;> (first | omega | (dsimp only; omega) | (simp; done) | (simp; omega) | (simp at *; omega)))).mono ?_
          rintro e w1 ⟨rfl, hb1⟩
          have hs1 := hb1.size
          have HB1 : Hid (Below w.heap.size w w1) := Lib.hid (by (repeat (first | (with_reducible refine Below.alloc ?_ ?_ _) | (with_reducible refine Below.setCell ?_ ?_ _) | (with_reducible refine Below.drew ?_) | (with_reducible exact Below.refl _ _) | (with_reducible refine Below.trans ?_ (Below.mono (by assumption) ?_)))) <;> (first | omega | (dsimp only; omega) | (simp; done) | (simp; omega) | (simp at *; omega)))
          obtain ⟨hc1, hf1⟩ := bcell hb1
          simp at hs1
          have z1 : w.heap.size < w1.heap.size := by omega
          clear hb1
          go_wp2_with fail
          refine (HN _ HB1.out).mono ?_
          rintro e w2 ⟨rfl, hb2⟩
          have hs2 := hb2.size
          have HB2 : Hid (Below w.heap.size w w2) := Lib.hid (HB1.out.trans (hb2.mono HB1.out.size))
          obtain ⟨hc2, hf2⟩ := bcell hb2
          have z2 : w.heap.size < w2.heap.size := by omega
          clear hb2
          go_wp2_with fail
          go_ret
          exact ⟨rfl, HB2.out⟩
  by_cases e6 : xm = 6
  · subst e6
    rw [if_neg (by decide), if_neg (by decide), if_pos (by decide)]
    by_cases el : np = 0
    · have el2 : decide (np = 0) = true := by simp [el]
      rw [el2]
      subst el
      cases tB
      · repeat (first | rw [Bool.false_and] | rw [Bool.true_and] | rw [Bool.and_true] | rw [Bool.and_false])
        go_enter Tryz.func92, Tryz.ntmps92
        go_wp2_with fail
        refine (HB _ (by (repeat (first | (with_reducible refine Below.alloc ?_ ?_ _) | (with_reducible refine Below.setCell ?_ ?_ _) | (with_reducible refine Below.drew ?_) | (with_reducible exact Below.refl _ _) | (with_reducible refine Below.trans ?_ (Below.mono (by assumption) ?_)))) <;> (first | omega | (dsimp only; omega) | (simp; done) | (simp; omega) | (simp at *; omega)))).mono ?_
        rintro e w1 ⟨rfl, hb1⟩
        have hs1 := hb1.size
        have HB1 : Hid (Below w.heap.size w w1) := Lib.hid (by (repeat (first | (with_reducible refine Below.alloc ?_ ?_ _) | (with_reducible refine Below.setCell ?_ ?_ _) | (with_reducible refine Below.drew ?_) | (with_reducible exact Below.refl _ _) | (with_reducible refine Below.trans ?_ (Below.mono (by assumption) ?_)))) <;> (first | omega | (dsimp only; omega) | (simp; done) | (simp; omega) | (simp at *; omega)))
        obtain ⟨hc1, hf1⟩ := bcell hb1
        simp at hs1
        have z1 : w.heap.size < w1.heap.size := by omega
        clear hb1
        go_wp2_with fail
        go_ret
        exact ⟨rfl, HB1.out⟩
      · cases tN
        · repeat (first | rw [Bool.false_and] | rw [Bool.true_and] | rw [Bool.and_true] | rw [Bool.and_false])
          go_enter Tryz.func92, Tryz.ntmps92
          go_wp2_with fail
          refine (HB _ (by (repeat (first | (with_reducible refine Below.alloc ?_ ?_ _) | (with_reducible refine Below.setCell ?_ ?_ _) | (with_reducible refine Below.drew ?_) | (with_reducible exact Below.refl _ _) | (with_reducible refine Below.trans ?_ (Below.mono (by assumption) ?_)))) <;> (first | omega | (dsimp only; omega) | (simp; done) | (simp; omega) | (simp at *; omega)))).mono ?_
          rintro e w1 ⟨rfl, hb1⟩
          have hs1 := hb1.size
          have HB1 : Hid (Below w.heap.size w w1) := Lib.hid (by (repeat (first | (with_reducible refine Below.alloc ?_ ?_ _) | (with_reducible refine Below.setCell ?_ ?_ _) | (with_reducible refine Below.drew ?_) | (with_reducible exact Below.refl _ _) | (with_reducible refine Below.trans ?_ (Below.mono (by assumption) ?_)))) <;> (first | omega | (dsimp only; omega) | (simp; done) | (simp; omega) | (simp at *; omega)))
          obtain ⟨hc1, hf1⟩ := bcell hb1
          simp at hs1
          have z1 : w.heap.size < w1.heap.size := by omega
          clear hb1
          go_wp2_with fail
          refine (HN _ HB1.out).mono ?_
          rintro e w2 ⟨rfl, hb2⟩
          have hs2 := hb2.size
          have HB2 : Hid (Below w.heap.size w w2) := Lib.hid (HB1.out.trans (hb2.mono HB1.out.size))
          obtain ⟨hc2, hf2⟩ := bcell hb2
          have z2 : w.heap.size < w2.heap.size := by omega
          clear hb2
          go_wp2_with fail
          go_ret
          exact ⟨rfl, HB2.out⟩
        · repeat (first | rw [Bool.false_and] | rw [Bool.true_and] | rw [Bool.and_true] | rw [Bool.and_false])
          go_enter Tryz.func92, Tryz.ntmps92
          go_wp2_with fail
          refine (HB _ (by (repeat (first | (with_reducible refine Below.alloc ?_ ?_ _) | (with_reducible refine Below.setCell ?_ ?_ _) | (with_reducible refine Below.drew ?_) | (with_reducible exact Below.refl _ _) | (with_reducible refine Below.trans ?_ (Below.mono (by assumption) ?_)))) <;> (first | omega | (dsimp only; omega) | (simp; done) | (simp; omega) | (simp at *; omega)))).mono ?_
          rintro e w1 ⟨rfl, hb1⟩
          have hs1 := hb1.size
          have HB1 : Hid (Below w.heap.size w w1) := Lib.hid (by (repeat (first | (with_reducible refine Below.alloc ?_ ?_ _) | (with_reducible refine Below.setCell ?_ ?_ _) | (with_reducible refine Below.drew ?_) | (with_reducible exact Below.refl _ _) | (with_reducible refine Below.trans ?_ (Below.mono (by assumption) ?_)))) <;> (first | omega | (dsimp only; omega) | (simp; done) | (simp; omega) | (simp at *; omega)))
          obtain ⟨hc1, hf1⟩ := bcell hb1
          simp at hs1
          have z1 : w.heap.size < w1.heap.size := by omega
          clear hb1
          go_wp2_with fail
          refine (HN _ HB1.out).mono ?_
          rintro e w2 ⟨rfl, hb2⟩
          have hs2 := hb2.size
          have HB2 : Hid (Below w.heap.size w w2) := Lib.hid (HB1.out.trans (hb2.mono HB1.out.size))
          obtain ⟨hc2, hf2⟩ := bcell hb2
          have z2 : w.heap.size < w2.heap.size := by omega
          clear hb2
          go_wp2_with fail
          go_ret
          exact ⟨rfl, HB2.out⟩
    · have el2 : decide (np = 0) = false := by simp [el]
      have el3 : ((np : Int) == 0) = false := by simp; omega
      rw [el2]
      cases tB
      · repeat (first | rw [Bool.false_and] | rw [Bool.true_and] | rw [Bool.and_true] | rw [Bool.and_false])
        go_enter Tryz.func92, Tryz.ntmps92
        go_wp2_with fail
        refine (HB _ (by (repeat (first | (with_reducible refine Below.alloc ?_ ?_ _) | (with_reducible refine Below.setCell ?_ ?_ _) | (with_reducible refine Below.drew ?_) | (with_reducible exact Below.refl _ _) | (with_reducible refine Below.trans ?_ (Below.mono (by assumption) ?_)))) <;> (first | omega | (dsimp only; omega) | (simp; done) | (simp; omega) | (simp at *; omega)))).mono ?_
        rintro e w1 ⟨rfl, hb1⟩
        have hs1 := hb1.size
        have HB1 : Hid (Below w.heap.size w w1) := Lib.hid (by (repeat (first | (with_reducible refine Below.alloc ?_ ?_ _) | (with_reducible refine Below.setCell ?_ ?_ _) | (with_reducible refine Below.drew ?_) | (with_reducible exact Below.refl _ _) | (with_reducible refine Below.trans ?_ (Below.mono (by assumption) ?_)))) <;> (first | omega | (dsimp only; omega) | (simp; done) | (simp; omega) | (simp at *; omega)))
        obtain ⟨hc1, hf1⟩ := bcell hb1
        simp at hs1
        have z1 : w.heap.size < w1.heap.size := by omega
        clear hb1
        go_wp2_with fail
        go_ret
        exact ⟨rfl, HB1.out⟩
      · cases tN
        · repeat (first | rw [Bool.false_and] | rw [Bool.true_and] | rw [Bool.and_true] | rw [Bool.and_false])
          go_enter Tryz.func92, Tryz.ntmps92
          go_wp2_with fail
          refine (HB _ (by (repeat (first | (with_reducible refine Below.alloc ?_ ?_ _) | (with_reducible refine Below.setCell ?_ ?_ _) | (with_reducible refine Below.drew ?_) | (with_reducible exact Below.refl _ _) | (with_reducible refine Below.trans ?_ (Below.mono (by assumption) ?_)))) <;> (first | omega | (dsimp only; omega) | (simp; done) | (simp; omega) | (simp at *; omega)))).mono ?_
          rintro e w1 ⟨rfl, hb1⟩
          have hs1 := hb1.size
          have HB1 : Hid (Below w.heap.size w w1) := Lib.hid (by (repeat (first | (with_reducible refine Below.alloc ?_ ?_ _) | (with_reducible refine Below.setCell ?_ ?_ _) | (with_reducible refine Below.drew ?_) | (with_reducible exact Below.refl _ _) | (with_reducible refine Below.trans ?_ (Below.mono (by assumption) ?_)))) <;> (first | omega | (dsimp only; omega) | (simp; done) | (simp; omega) | (simp at *; omega)))
          obtain ⟨hc1, hf1⟩ := bcell hb1
          simp at hs1
          have z1 : w.heap.size < w1.heap.size := by omega
          clear hb1
          go_wp2_with fail
          refine (HN _ HB1.out).mono ?_
          rintro e w2 ⟨rfl, hb2⟩
          have hs2 := hb2.size
          have HB2 : Hid (Below w.heap.size w w2) := Lib.hid (HB1.out.trans (hb2.mono HB1.out.size))
          obtain ⟨hc2, hf2⟩ := bcell hb2
          have z2 : w.heap.size < w2.heap.size := by omega
          clear hb2
          go_wp2_with fail
          go_ret
          exact ⟨rfl, HB2.out⟩
        · repeat (first | rw [Bool.false_and] | rw [Bool.true_and] | rw [Bool.and_true] | rw [Bool.and_false])
          go_enter Tryz.func92, Tryz.ntmps92
          go_wp2_with fail
          refine (HB _ (by (repeat (first | (with_reducible refine Below.alloc ?_ ?_ _) | (with_reducible refine Below.setCell ?_ ?_ _) | (with_reducible refine Below.drew ?_) | (with_reducible exact Below.refl _ _) | (with_reducible refine Below.trans ?_ (Below.mono (by assumption) ?_)))) <;> (first | omega | (dsimp only; omega) | (simp; done) | (simp; omega) | (simp at *; omega)))).mono ?_
          rintro e w1 ⟨rfl, hb1⟩
          have hs1 := hb1.size
          have HB1 : Hid (Below w.heap.size w w1) := Lib.hid (by (repeat (first | (with_reducible refine Below.alloc ?_ ?_ _) | (with_reducible refine Below.setCell ?_ ?_ _) | (with_reducible refine Below.drew ?_) | (with_reducible exact Below.refl _ _) | (with_reducible refine Below.trans ?_ (Below.mono (by assumption) ?_)))) <;> (first | omega | (dsimp only; omega) | (simp; done) | (simp; omega) | (simp at *; omega)))
          obtain ⟨hc1, hf1⟩ := bcell hb1
          simp at hs1
          have z1 : w.heap.size < w1.heap.size := by omega
          clear hb1
          go_wp2_with fail
          refine (HN _ HB1.out).mono ?_
          rintro e w2 ⟨rfl, hb2⟩
          have hs2 := hb2.size
          have HB2 : Hid (Below w.heap.size w w2) := Lib.hid (HB1.out.trans (hb2.mono HB1.out.size))
          obtain ⟨hc2, hf2⟩ := bcell hb2
          have z2 : w.heap.size < w2.heap.size := by omega
          clear hb2
          go_wp2_with fail
          go_ret
          exact ⟨rfl, HB2.out⟩
  rw [if_neg (by omega), if_neg (by omega), if_neg (by omega), Bool.and_false]
  have n0 : (xm == 0) = false := by simpa using e0
  have n1 : (xm == 1) = false := by simpa using e1
  have n2 : (xm == 2) = false := by simpa using e2
  have n3 : (xm == 3) = false := by simpa using e3
  have n4 : (xm == 4) = false := by simpa using e4
  have n5 : (xm == 5) = false := by simpa using e5
  have n6 : (xm == 6) = false := by simpa using e6
  go_enter Tryz.func92, Tryz.ntmps92
  go_wp2_with fail
  go_ret
  refine ⟨rfl, ?_⟩
  (repeat (first | (with_reducible refine Below.alloc ?_ ?_ _) | (with_reducible refine Below.setCell ?_ ?_ _) | (with_reducible refine Below.drew ?_) | (with_reducible exact Below.refl _ _) | (with_reducible refine Below.trans ?_ (Below.mono (by assumption) ?_)))) <;> (first | omega | (dsimp only; omega) | (simp; done) | (simp; omega) | (simp at *; omega))

set_option maxRecDepth 100000 in
set_option maxHeartbeats 8000000 in
theorem implPileOk_any (x : Pil) (cv pv qv sv : Value) (w : World) (hR : RowsPi w x cv pv qv sv) (hf : FitPi x) (hV : Vars w) :
    Calls Tryz.prog 32 #[pilV x cv pv qv sv] w fun e w' => e = .returned (.bool (okPil x)) ∧ Below w.heap.size w w' := by
  have HO := fun w1 (hb : Below w.heap.size w w1) => implSumOk_any cv x.c w1 (hR.c.below hb) hf.1 (hV.later hb)
  have HM := fun w1 (hb : Below w.heap.size w w1) => isOfMode_any x cv pv qv sv w1 (hR.below hb) hf.1.1
  have HQ := fun w1 (hb : Below w.heap.size w w1) => hasPieces_any x cv pv qv sv w1 (hR.below hb) hf.1.1
  have HS := fun w1 (hb : Below w.heap.size w w1) => hasSaid_any x cv pv qv sv w1 (hR.below hb) hf.2.2.2 (hV.later hb)
  obtain ⟨oa, cap, rfl, -, -, -⟩ := hR.c
  obtain ⟨op, cp, rfl, -, -, -⟩ := hR.p
  obtain ⟨oq, cq, rfl, -, -, -⟩ := hR.q
  obtain ⟨os, cs, rfl, -, -, -⟩ := hR.s
  have HP := fun w1 (hb : Below w.heap.size w w1) => hasPlates_any x (.slice oa x.c.length cap) (.slice op x.ps.length cp) (.slice os x.sd.length cs) oq x.qs.length cq (.slice op x.ps.length cp) x.ps w1 (hR.c.below hb) hf.1.1 (hR.p.below hb)
  unfold okPil
  clear hR hf hV
  obtain ⟨xc, xm, xa, xak, xan, xvk, xvn, xps, xqs, xsd⟩ := x
  unfold pilV at *
  simp only at *
  generalize okSum (wsOf xc) = tO at *
  generalize modeB _ = tM at *
  generalize fitPs _ _ _ = tP at *
  generalize fitQs _ _ _ = tQ at *
  generalize fitS _ = tS at *
  generalize xc.length = n at *
  generalize xps.length = np at *
  generalize xqs.length = nq at *
  generalize xsd.length = ns at *
  cases tO
  · repeat (first | rw [Bool.false_and] | rw [Bool.true_and] | rw [Bool.and_true] | rw [Bool.and_false])
    go_enter Tryz.func32, Tryz.ntmps32
    go_wp2_with fail
    refine (HO _ (by (repeat (first | (with_reducible refine Below.alloc ?_ ?_ _) | (with_reducible refine Below.setCell ?_ ?_ _) | (with_reducible refine Below.drew ?_) | (with_reducible exact Below.refl _ _) | (with_reducible refine Below.trans ?_ (Below.mono (by assumption) ?_)))) <;> (first | omega | (dsimp only; omega) | (simp; done) | (simp; omega) | (simp at *; omega)))).mono ?_
    rintro e w1 ⟨rfl, hb1⟩
    have hs1 := hb1.size
    have HB1 : Hid (Below w.heap.size w w1) := Lib.hid (by (repeat (first | (with_reducible refine Below.alloc ?_ ?_ _) | (with_reducible refine Below.setCell ?_ ?_ _) | (with_reducible refine Below.drew ?_) | (with_reducible exact Below.refl _ _) | (with_reducible refine Below.trans ?_ (Below.mono (by assumption) ?_)))) <;> (first | omega | (dsimp only; omega) | (simp; done) | (simp; omega) | (simp at *; omega)))
    obtain ⟨hc1, hf1⟩ := bcell hb1
    simp at hs1
    have z1 : w.heap.size < w1.heap.size := by omega
    clear hb1
    go_wp2_with fail
    go_ret
    exact ⟨rfl, HB1.out⟩
  · cases tM
    · repeat (first | rw [Bool.false_and] | rw [Bool.true_and] | rw [Bool.and_true] | rw [Bool.and_false])
      go_enter Tryz.func32, Tryz.ntmps32
      go_wp2_with fail
      refine (HO _ (by (repeat (first | (with_reducible refine Below.alloc ?_ ?_ _) | (with_reducible refine Below.setCell ?_ ?_ _) | (with_reducible refine Below.drew ?_) | (with_reducible exact Below.refl _ _) | (with_reducible refine Below.trans ?_ (Below.mono (by assumption) ?_)))) <;> (first | omega | (dsimp only; omega) | (simp; done) | (simp; omega) | (simp at *; omega)))).mono ?_
      rintro e w1 ⟨rfl, hb1⟩
      have hs1 := hb1.size
      have HB1 : Hid (Below w.heap.size w w1) := Lib.hid (by (repeat (first | (with_reducible refine Below.alloc ?_ ?_ _) | (with_reducible refine Below.setCell ?_ ?_ _) | (with_reducible refine Below.drew ?_) | (with_reducible exact Below.refl _ _) | (with_reducible refine Below.trans ?_ (Below.mono (by assumption) ?_)))) <;> (first | omega | (dsimp only; omega) | (simp; done) | (simp; omega) | (simp at *; omega)))
      obtain ⟨hc1, hf1⟩ := bcell hb1
      simp at hs1
      have z1 : w.heap.size < w1.heap.size := by omega
      clear hb1
      go_wp2_with fail
      refine (HM _ HB1.out).mono ?_
      rintro e w2 ⟨rfl, hb2⟩
      have hs2 := hb2.size
      have HB2 : Hid (Below w.heap.size w w2) := Lib.hid (HB1.out.trans (hb2.mono HB1.out.size))
      obtain ⟨hc2, hf2⟩ := bcell hb2
      have z2 : w.heap.size < w2.heap.size := by omega
      clear hb2
      go_wp2_with fail
      go_ret
      exact ⟨rfl, HB2.out⟩
    · cases tP
      · repeat (first | rw [Bool.false_and] | rw [Bool.true_and] | rw [Bool.and_true] | rw [Bool.and_false])
        go_enter Tryz.func32, Tryz.ntmps32
        go_wp2_with fail
        refine (HO _ (by (repeat (first | (with_reducible refine Below.alloc ?_ ?_ _) | (with_reducible refine Below.setCell ?_ ?_ _) | (with_reducible refine Below.drew ?_) | (with_reducible exact Below.refl _ _) | (with_reducible refine Below.trans ?_ (Below.mono (by assumption) ?_)))) <;> (first | omega | (dsimp only; omega) | (simp; done) | (simp; omega) | (simp at *; omega)))).mono ?_
        rintro e w1 ⟨rfl, hb1⟩
        have hs1 := hb1.size
        have HB1 : Hid (Below w.heap.size w w1) := Lib.hid (by (repeat (first | (with_reducible refine Below.alloc ?_ ?_ _) | (with_reducible refine Below.setCell ?_ ?_ _) | (with_reducible refine Below.drew ?_) | (with_reducible exact Below.refl _ _) | (with_reducible refine Below.trans ?_ (Below.mono (by assumption) ?_)))) <;> (first | omega | (dsimp only; omega) | (simp; done) | (simp; omega) | (simp at *; omega)))
        obtain ⟨hc1, hf1⟩ := bcell hb1
        simp at hs1
        have z1 : w.heap.size < w1.heap.size := by omega
        clear hb1
        go_wp2_with fail
        refine (HM _ HB1.out).mono ?_
        rintro e w2 ⟨rfl, hb2⟩
        have hs2 := hb2.size
        have HB2 : Hid (Below w.heap.size w w2) := Lib.hid (HB1.out.trans (hb2.mono HB1.out.size))
        obtain ⟨hc2, hf2⟩ := bcell hb2
        have z2 : w.heap.size < w2.heap.size := by omega
        clear hb2
        go_wp2_with fail
        refine (HP _ HB2.out).mono ?_
        rintro e w3 ⟨rfl, hb3⟩
        have hs3 := hb3.size
        have HB3 : Hid (Below w.heap.size w w3) := Lib.hid (HB2.out.trans (hb3.mono HB2.out.size))
        obtain ⟨hc3, hf3⟩ := bcell hb3
        have z3 : w.heap.size < w3.heap.size := by omega
        clear hb3
        go_wp2_with fail
        go_ret
        exact ⟨rfl, HB3.out⟩
      · cases tQ
        · repeat (first | rw [Bool.false_and] | rw [Bool.true_and] | rw [Bool.and_true] | rw [Bool.and_false])
          go_enter Tryz.func32, Tryz.ntmps32
          go_wp2_with fail
          refine (HO _ (by (repeat (first | (with_reducible refine Below.alloc ?_ ?_ _) | (with_reducible refine Below.setCell ?_ ?_ _) | (with_reducible refine Below.drew ?_) | (with_reducible exact Below.refl _ _) | (with_reducible refine Below.trans ?_ (Below.mono (by assumption) ?_)))) <;> (first | omega | (dsimp only; omega) | (simp; done) | (simp; omega) | (simp at *; omega)))).mono ?_
          rintro e w1 ⟨rfl, hb1⟩
          have hs1 := hb1.size
          have HB1 : Hid (Below w.heap.size w w1) := Lib.hid (by (repeat (first | (with_reducible refine Below.alloc ?_ ?_ _) | (with_reducible refine Below.setCell ?_ ?_ _) | (with_reducible refine Below.drew ?_) | (with_reducible exact Below.refl _ _) | (with_reducible refine Below.trans ?_ (Below.mono (by assumption) ?_)))) <;> (first | omega | (dsimp only; omega) | (simp; done) | (simp; omega) | (simp at *; omega)))
          obtain ⟨hc1, hf1⟩ := bcell hb1
          simp at hs1
          have z1 : w.heap.size < w1.heap.size := by omega
          clear hb1
          go_wp2_with fail
          refine (HM _ HB1.out).mono ?_
          rintro e w2 ⟨rfl, hb2⟩
          have hs2 := hb2.size
          have HB2 : Hid (Below w.heap.size w w2) := Lib.hid (HB1.out.trans (hb2.mono HB1.out.size))
          obtain ⟨hc2, hf2⟩ := bcell hb2
          have z2 : w.heap.size < w2.heap.size := by omega
          clear hb2
          go_wp2_with fail
          refine (HP _ HB2.out).mono ?_
          rintro e w3 ⟨rfl, hb3⟩
          have hs3 := hb3.size
          have HB3 : Hid (Below w.heap.size w w3) := Lib.hid (HB2.out.trans (hb3.mono HB2.out.size))
          obtain ⟨hc3, hf3⟩ := bcell hb3
          have z3 : w.heap.size < w3.heap.size := by omega
          clear hb3
          go_wp2_with fail
          refine (HQ _ HB3.out).mono ?_
          rintro e w4 ⟨rfl, hb4⟩
          have hs4 := hb4.size
          have HB4 : Hid (Below w.heap.size w w4) := Lib.hid (HB3.out.trans (hb4.mono HB3.out.size))
          obtain ⟨hc4, hf4⟩ := bcell hb4
          have z4 : w.heap.size < w4.heap.size := by omega
          clear hb4
          go_wp2_with fail
          go_ret
          exact ⟨rfl, HB4.out⟩
        · repeat (first | rw [Bool.false_and] | rw [Bool.true_and] | rw [Bool.and_true] | rw [Bool.and_false])
          go_enter Tryz.func32, Tryz.ntmps32
          go_wp2_with fail
          refine (HO _ (by (repeat (first | (with_reducible refine Below.alloc ?_ ?_ _) | (with_reducible refine Below.setCell ?_ ?_ _) | (with_reducible refine Below.drew ?_) | (with_reducible exact Below.refl _ _) | (with_reducible refine Below.trans ?_ (Below.mono (by assumption) ?_)))) <;> (first | omega | (dsimp only; omega) | (simp; done) | (simp; omega) | (simp at *; omega)))).mono ?_
          rintro e w1 ⟨rfl, hb1⟩
          have hs1 := hb1.size
          have HB1 : Hid (Below w.heap.size w w1) := Lib.hid (by (repeat (first | (with_reducible refine Below.alloc ?_ ?_ _) | (with_reducible refine Below.setCell ?_ ?_ _) | (with_reducible refine Below.drew ?_) | (with_reducible exact Below.refl _ _) | (with_reducible refine Below.trans ?_ (Below.mono (by assumption) ?_)))) <;> (first | omega | (dsimp only; omega) | (simp; done) | (simp; omega) | (simp at *; omega)))
          obtain ⟨hc1, hf1⟩ := bcell hb1
          simp at hs1
          have z1 : w.heap.size < w1.heap.size := by omega
          clear hb1
          go_wp2_with fail
          refine (HM _ HB1.out).mono ?_
          rintro e w2 ⟨rfl, hb2⟩
          have hs2 := hb2.size
          have HB2 : Hid (Below w.heap.size w w2) := Lib.hid (HB1.out.trans (hb2.mono HB1.out.size))
          obtain ⟨hc2, hf2⟩ := bcell hb2
          have z2 : w.heap.size < w2.heap.size := by omega
          clear hb2
          go_wp2_with fail
          refine (HP _ HB2.out).mono ?_
          rintro e w3 ⟨rfl, hb3⟩
          have hs3 := hb3.size
          have HB3 : Hid (Below w.heap.size w w3) := Lib.hid (HB2.out.trans (hb3.mono HB2.out.size))
          obtain ⟨hc3, hf3⟩ := bcell hb3
          have z3 : w.heap.size < w3.heap.size := by omega
          clear hb3
          go_wp2_with fail
          refine (HQ _ HB3.out).mono ?_
          rintro e w4 ⟨rfl, hb4⟩
          have hs4 := hb4.size
          have HB4 : Hid (Below w.heap.size w w4) := Lib.hid (HB3.out.trans (hb4.mono HB3.out.size))
          obtain ⟨hc4, hf4⟩ := bcell hb4
          have z4 : w.heap.size < w4.heap.size := by omega
          clear hb4
          go_wp2_with fail
          refine (HS _ HB4.out).mono ?_
          rintro e w5 ⟨rfl, hb5⟩
          have hs5 := hb5.size
          have HB5 : Hid (Below w.heap.size w w5) := Lib.hid (HB4.out.trans (hb5.mono HB4.out.size))
          obtain ⟨hc5, hf5⟩ := bcell hb5
          have z5 : w.heap.size < w5.heap.size := by omega
          clear hb5
          go_wp2_with fail
          go_ret
          exact ⟨rfl, HB5.out⟩

set_option maxRecDepth 100000 in
theorem implIsOver_any (x : Pil) (cv pv qv sv : Value) (w : World) (hR : RowsPi w x cv pv qv sv) (hf : FitPi x) (hV : Vars w) :
    Calls Tryz.prog 35 #[pilV x cv pv qv sv] w fun e w' => e = .returned (.bool (okPil x && decide (3 ≤ x.m))) ∧ Below w.heap.size w w' := by
  have H := Lib.hid (fun w1 (hb : Below w.heap.size w w1) => implPileOk_any x cv pv qv sv w1 (hR.below hb) hf (hV.later hb))
  clear hR hf hV
  unfold pilV at H ⊢
  cases h : okPil x
  · rw [h] at H
    go_enter Tryz.func35, Tryz.ntmps35
    go_wp2_with fail
    refine (H.out _ (by (repeat (first | (with_reducible refine Below.alloc ?_ ?_ _) | (with_reducible refine Below.setCell ?_ ?_ _) | (with_reducible refine Below.drew ?_) | (with_reducible exact Below.refl _ _) | (with_reducible refine Below.trans ?_ (Below.mono (by assumption) ?_)))) <;> (first | omega | (dsimp only; omega) | (simp; done) | (simp; omega) | (simp at *; omega)))).mono ?_
    rintro e w1 ⟨rfl, hb1⟩
    have HB1 : Hid (Below w.heap.size w w1) := Lib.hid (by (repeat (first | (with_reducible refine Below.alloc ?_ ?_ _) | (with_reducible refine Below.setCell ?_ ?_ _) | (with_reducible refine Below.drew ?_) | (with_reducible exact Below.refl _ _) | (with_reducible refine Below.trans ?_ (Below.mono (by assumption) ?_)))) <;> (first | omega | (dsimp only; omega) | (simp; done) | (simp; omega) | (simp at *; omega)))
    clear hb1
    go_wp2_with fail
    go_ret
    exact ⟨rfl, HB1.out⟩
  · rw [h] at H
    by_cases h3 : 3 ≤ x.m
    all_goals
      go_enter Tryz.func35, Tryz.ntmps35
      go_wp2_with fail
      refine (H.out _ (by (repeat (first | (with_reducible refine Below.alloc ?_ ?_ _) | (with_reducible refine Below.setCell ?_ ?_ _) | (with_reducible refine Below.drew ?_) | (with_reducible exact Below.refl _ _) | (with_reducible refine Below.trans ?_ (Below.mono (by assumption) ?_)))) <;> (first | omega | (dsimp only; omega) | (simp; done) | (simp; omega) | (simp at *; omega)))).mono ?_
      rintro e w1 ⟨rfl, hb1⟩
      have hs1 := hb1.size
      have HB1 : Hid (Below w.heap.size w w1) := Lib.hid (by (repeat (first | (with_reducible refine Below.alloc ?_ ?_ _) | (with_reducible refine Below.setCell ?_ ?_ _) | (with_reducible refine Below.drew ?_) | (with_reducible exact Below.refl _ _) | (with_reducible refine Below.trans ?_ (Below.mono (by assumption) ?_)))) <;> (first | omega | (dsimp only; omega) | (simp; done) | (simp; omega) | (simp at *; omega)))
      obtain ⟨hc1, hf1⟩ := bcell hb1
      simp at hs1
      have z0 : w.heap.size < w1.heap.size := by omega
      clear hb1
      go_wp2_with fail
      go_ret
      exact ⟨by simp [h3], HB1.out⟩

end L2
end Go.Proofs.YtmbonldiaimcfaaGreatDoor
