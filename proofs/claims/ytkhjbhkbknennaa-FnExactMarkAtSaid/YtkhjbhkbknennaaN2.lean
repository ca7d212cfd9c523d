/-
  Plates: the program's own test of one, and two held against each other (written by wip/gen_n2.py).
-/
import Derived.Test.YtkhjbhkbknennaaN1
import Derived.Lib.QuietBelow
import Derived.BigQuiet
namespace Go.Proofs.Ytkhjbhkbknennaa
open Go.RowKit Go.Sort
namespace L2
open L1

set_option maxRecDepth 100000 in
set_option maxHeartbeats 1000000 in
theorem eqPlate_any (p q : Pl) (w : World) :
    Calls Try.prog 18 #[plV p, plV q] w fun e w' => e = .returned (.bool (samePl p q)) ∧ Below w.heap.size w w' := by
  obtain ⟨k, a, b, c, d, e⟩ := p
  obtain ⟨k', a', b', c', d', e'⟩ := q
  have HA := Lib.hid (eqValue_any b c b' c')
  have HB := Lib.hid (eqValue_any d e d' e')
  unfold plV
  simp only
  by_cases h1 : k = k'
  case neg =>
    have h1' : (k != k') = true := by simp [h1]
    have HH := Lib.hid (show samePl ⟨k, a, b, c, d, e⟩ ⟨k', a', b', c', d', e'⟩ = false by simp [samePl, h1])
    clear h1
    go_enter Try.func18, Try.ntmps18
    go_wp2_with fail
    go_ret
    refine ⟨by rw [HH.out]; rfl, ?_⟩
    (repeat (first | (with_reducible refine Below.alloc ?_ ?_ _) | (with_reducible refine Below.setCell ?_ ?_ _) | (with_reducible refine Below.drew ?_) | (with_reducible exact Below.refl _ _) | (with_reducible refine Below.trans ?_ (Below.mono (by assumption) ?_)))) <;> (first | omega | (dsimp only; omega) | (simp; done) | (simp; omega) | (simp at *; omega))
  subst h1
  by_cases h2 : a = a'
  case neg =>
    have h2' : (a != a') = true := by simp [h2]
    have HH := Lib.hid (show samePl ⟨k, a, b, c, d, e⟩ ⟨k, a', b', c', d', e'⟩ = false by simp [samePl, h2])
    clear h2
    go_enter Try.func18, Try.ntmps18
    go_wp2_with fail
    go_ret
    refine ⟨by rw [HH.out]; rfl, ?_⟩
    (repeat (first | (with_reducible refine Below.alloc ?_ ?_ _) | (with_reducible refine Below.setCell ?_ ?_ _) | (with_reducible refine Below.drew ?_) | (with_reducible exact Below.refl _ _) | (with_reducible refine Below.trans ?_ (Below.mono (by assumption) ?_)))) <;> (first | omega | (dsimp only; omega) | (simp; done) | (simp; omega) | (simp at *; omega))
  subst h2
  have HH := Lib.hid (show samePl ⟨k, a, b, c, d, e⟩ ⟨k, a, b', c', d', e'⟩ = (sameB b c b' c' && sameB d e d' e') by simp [samePl])
  generalize sameB b c b' c' = qa at HA HH
  generalize sameB d e d' e' = qb at HB HH
  cases qa <;> cases qb
  all_goals
    go_enter Try.func18, Try.ntmps18
    go_wp2_with (first | (go_at_call 22; (with_reducible refine (HA.out _).mono ?_); rintro e w1 ⟨rfl, hb1⟩; have hs1 := hb1.size; obtain ⟨hc1, hf1⟩ := bcell hb1; have hz0 : w.heap.size < w1.heap.size := (by clear hc1 hf1; (try simp at hs1); omega); have hz1 : w.heap.size + 1 < w1.heap.size := (by clear hc1 hf1; (try simp at hs1); omega)) | (go_at_call 22; (with_reducible refine (HB.out _).mono ?_); rintro e w1 ⟨rfl, hb1⟩; have hs1 := hb1.size; obtain ⟨hc1, hf1⟩ := bcell hb1; have hz0 : w.heap.size < w1.heap.size := (by clear hc1 hf1; (try simp at hs1); omega); have hz1 : w.heap.size + 1 < w1.heap.size := (by clear hc1 hf1; (try simp at hs1); omega)))
    go_ret
    refine ⟨by rw [HH.out]; rfl, ?_⟩
    clear hc1 hf1
    (repeat (first | (with_reducible refine Below.alloc ?_ ?_ _) | (with_reducible refine Below.setCell ?_ ?_ _) | (with_reducible refine Below.drew ?_) | (with_reducible exact Below.refl _ _) | (with_reducible refine Below.trans ?_ (Below.mono (by assumption) ?_)))) <;> (first | omega | (dsimp only; omega) | (simp; done) | (simp; omega) | (simp at *; omega))

end L2
end Go.Proofs.Ytkhjbhkbknennaa
