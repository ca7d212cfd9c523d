/-
  The walks of chapter 1's exact laws on values: each law returns true, and nothing that was there turns.
-/
import Derived.Test.YtcmijbjhienfoaaL1d
namespace Go.Proofs.Ytcmijbjhienfoaa
open Go.RowKit
namespace L1

theorem sameB_refl (a b : Int) : sameB a b a b = true := by simp [sameB]

theorem lawValueOk (k n : Int) (w : World) :
    Calls Try.prog 3 #[.agg #[.int .i64 k, .int .i64 n]] w fun e w' => e = .returned (.bool true) ∧ Below w.heap.size w w' := by
  cases hn : okB k n
  all_goals
    go_enter Try.func3, Try.ntmps3
    go_wp2_with (first | (go_at_call 9; refine (toValue_any _ _ _).mono ?_; rintro e w1 ⟨rfl, hb1⟩; have hs1 := hb1.size; obtain ⟨hc1, hf1⟩ := bcell hb1; have hz0 : w.heap.size < w1.heap.size := (by clear hc1 hf1; (try simp at hs1); omega)) | (go_at_call 8; refine (specValueOk_any _ _ _).mono ?_; rintro e w1 ⟨rfl, hb1⟩; have hs1 := hb1.size; obtain ⟨hc1, hf1⟩ := bcell hb1; have hz0 : w.heap.size < w1.heap.size := (by clear hc1 hf1; (try simp at hs1); omega)) | (go_at_call 10; refine (implValueOk_any _ _ _).mono ?_; rintro e w1 ⟨rfl, hb1⟩; have hs1 := hb1.size; obtain ⟨hc1, hf1⟩ := bcell hb1; have hz0 : w.heap.size < w1.heap.size := (by clear hc1 hf1; (try simp at hs1); omega)))
    go_ret
    refine ⟨by simp, ?_⟩
    clear hc1 hf1
    (repeat (first | exact Below.refl _ _ | refine Below.drew ?_ | refine Below.alloc ?_ ?_ _ | refine Below.setCell ?_ ?_ _ | refine Below.trans ?_ (Below.mono (by assumption) ?_))) <;> (first | omega | (simp at *; done) | (simp at *; omega))

theorem lawNumber (n : Int) (w : World) :
    Calls Try.prog 4 #[.int .i64 n] w fun e w' => e = .returned (.bool true) ∧ Below w.heap.size w w' := by
  have hs := sameB_refl 0 (clampI n)
  go_enter Try.func4, Try.ntmps4
  go_wp2_with (first | (go_at_call 11; refine (specNumber_any _ _).mono ?_; rintro e w1 ⟨rfl, hb1⟩; have hs1 := hb1.size) | (go_at_call 12; refine (implNumber_any _ _).mono ?_; rintro e w2 ⟨rfl, hb2⟩; have hs2 := hb2.size; have hz2 : w1.heap.size < w2.heap.size := (by simp at hs2; omega); obtain ⟨hc2, hf2⟩ := bcell hb2) | (go_at_call 13; refine (eqValue_any _ _ _ _ _).mono ?_; rintro e w3 ⟨rfl, hb3⟩; have hs3 := hb3.size))
  go_ret
  refine ⟨by simp, ?_⟩
  clear hc2 hf2
  (repeat (first | exact Below.refl _ _ | refine Below.drew ?_ | refine Below.alloc ?_ ?_ _ | refine Below.setCell ?_ ?_ _ | refine Below.trans ?_ (Below.mono (by assumption) ?_))) <;> (first | omega | (simp at *; done) | (simp at *; omega))

end L1
end Go.Proofs.Ytcmijbjhienfoaa
