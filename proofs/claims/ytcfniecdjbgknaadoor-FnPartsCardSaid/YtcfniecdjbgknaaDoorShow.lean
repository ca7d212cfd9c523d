/-
  A value's text: the model's own and the program's, each by a contract: both are one list of bytes.
-/
import Derived.Test.YtcfniecdjbgknaaDoorInt
import Derived.Test.YtcfniecdjbgknaaDoorShelf
import Derived.Lib.SmallJoins
import Derived.Lib.AppendIntMem
namespace Go.Proofs.YtcfniecdjbgknaaDoor
open Go.RowKit
namespace L1

def showB (k n : Int) : List UInt8 := if okB k n then (if k = 1 then 112 :: Lib.itoa n else Lib.itoa n) else []

theorem ok_bd {k n : Int} (h : okB k n = true) : (k = 0 ∨ k = 1) ∧ -1000000 ≤ n ∧ n ≤ 1000000 := by
  simp [okB, numB, pieB, inB] at h
  omega
theorem piece_of_ok {k n : Int} (h : okB k n = true) : pieB k n = decide (k = 1) := by
  simp [okB, numB, pieB, inB] at h ⊢
  omega
theorem itoa_len {n : Int} (h1 : -1000000 ≤ n) (h2 : n ≤ 1000000) : (Lib.itoa n).length ≤ 8 := by
  unfold Lib.itoa
  split
  · have := P1.decDigits_len n.natAbs 6 (by omega)
    simp; omega
  · have := P1.decDigits_len n.toNat 6 (by omega)
    omega

theorem specShow_any (k n : Int) (w : World) :
    Calls Tryd.prog 25 #[.agg #[.int .i64 k, .int .i64 n]] w fun e w' => e = .returned (.string ⟨(showB k n).toArray⟩) ∧ Below w.heap.size w w' := by
  cases hn : okB k n
  · have hs : showB k n = [] := by unfold showB; rw [hn]; rfl
    rw [hs]
    go_enter Tryd.func25, Tryd.ntmps25
    go_wp2_with (go_at_call 27; refine (specValueOk_any _ _ _).mono ?_; rintro e w1 ⟨rfl, hb1⟩; have hs1 := hb1.size; obtain ⟨hc1, hf1⟩ := bcell hb1; have hz0 : w.heap.size < w1.heap.size := (by clear hc1 hf1; (try simp at hs1); omega))
    go_ret
    refine ⟨rfl, ?_⟩
    clear hc1 hf1
    (repeat (first | exact Below.refl _ _ | refine Below.drew ?_ | refine Below.alloc ?_ ?_ _ | refine Below.setCell ?_ ?_ _ | refine Below.trans ?_ (Below.mono (by assumption) ?_))) <;> (first | omega | (simp at *; done) | (simp at *; omega))
  · obtain ⟨hk, h1, h2⟩ := ok_bd hn
    have hl := itoa_len h1 h2
    by_cases h : k = 1
    · have hs : showB k n = 112 :: Lib.itoa n := by unfold showB; rw [hn, if_pos h]; rfl
      rw [hs]
      subst h
      clear hk
      go_enter Tryd.func25, Tryd.ntmps25
      go_wp2_with (first | (go_at_call 27; refine (specValueOk_any _ _ _).mono ?_; rintro e w1 ⟨rfl, hb1⟩; have hs1 := hb1.size; obtain ⟨hc1, hf1⟩ := bcell hb1; have hz0 : w.heap.size < w1.heap.size := (by clear hc1 hf1; (try simp at hs1); omega)) | (go_at_call 71; refine (l1Int_any _ (by omega) (by omega) _).mono ?_; rintro e w1 ⟨rfl, hb1⟩; have hs1 := hb1.size; obtain ⟨hc1, hf1⟩ := bcell hb1; have hz0 : w.heap.size < w1.heap.size := (by clear hc1 hf1; (try simp at hs1); omega)))
      go_ret
      refine ⟨congrArg (fun x => Ending.returned (Value.string x)) (push_front 112 (Lib.itoa n)), ?_⟩
      clear hc1 hf1
      (repeat (first | exact Below.refl _ _ | refine Below.drew ?_ | refine Below.alloc ?_ ?_ _ | refine Below.setCell ?_ ?_ _ | refine Below.trans ?_ (Below.mono (by assumption) ?_))) <;> (first | omega | (simp at *; done) | (simp at *; omega))
    · have hs : showB k n = Lib.itoa n := by unfold showB; rw [hn, if_neg h]; rfl
      rw [hs]
      have hk1 : (k == 1) = false := by simpa using h
      clear hk
      go_enter Tryd.func25, Tryd.ntmps25
      go_wp2_with (first | (go_at_call 27; refine (specValueOk_any _ _ _).mono ?_; rintro e w1 ⟨rfl, hb1⟩; have hs1 := hb1.size; obtain ⟨hc1, hf1⟩ := bcell hb1; have hz0 : w.heap.size < w1.heap.size := (by clear hc1 hf1; (try simp at hs1); omega)) | (go_at_call 71; refine (l1Int_any _ (by omega) (by omega) _).mono ?_; rintro e w1 ⟨rfl, hb1⟩; have hs1 := hb1.size; obtain ⟨hc1, hf1⟩ := bcell hb1; have hz0 : w.heap.size < w1.heap.size := (by clear hc1 hf1; (try simp at hs1); omega)))
      go_ret
      refine ⟨rfl, ?_⟩
      clear hc1 hf1
      (repeat (first | exact Below.refl _ _ | refine Below.drew ?_ | refine Below.alloc ?_ ?_ _ | refine Below.setCell ?_ ?_ _ | refine Below.trans ?_ (Below.mono (by assumption) ?_))) <;> (first | omega | (simp at *; done) | (simp at *; omega))

/-- The library's contract, with what it leaves said in one word. -/
theorem fmt_any (n : Int) (h0 : -1000000 ≤ n) (h1 : n ≤ 1000000) (w : World) (htab : Lib.TabIs Tryd.prog w "internal/strconv.uint64pow10" .u64 Lib.pow10Tab) :
    Calls Tryd.prog 58 #[.int .i64 n, .int .i64 10] w fun e w' => e = .returned (.string ⟨(Lib.itoa n).toArray⟩) ∧ Below w.heap.size w w' :=
  (Tryd.strconv_FormatInt_10 n (by omega) (by omega) w htab).mono fun _ _ ⟨he, k, os, hw⟩ => ⟨he, by rw [hw]; exact Lib.below_grow _ _ (Nat.le_refl _) k os⟩

theorem implShow_any (k n : Int) (w : World) (htab : Lib.TabIs Tryd.prog w "internal/strconv.uint64pow10" .u64 Lib.pow10Tab) :
    Calls Tryd.prog 15 #[.agg #[.int .i64 k, .int .i64 n]] w fun e w' => e = .returned (.string ⟨(showB k n).toArray⟩) ∧ Below w.heap.size w w' := by
  have hg : Tryd.prog.globalNamed "internal/strconv.uint64pow10" = some 0 := by kernel_rfl
  have Htab : Hid (∀ w', Below w.heap.size w w' → Lib.TabIs Tryd.prog w' "internal/strconv.uint64pow10" .u64 Lib.pow10Tab) := fun w' hb => Joins.tab_stays hg htab hb (Nat.le_refl _)
  clear htab hg
  cases hn : okB k n
  · have hs : showB k n = [] := by unfold showB; rw [hn]; rfl
    rw [hs]
    go_enter Tryd.func15, Tryd.ntmps15
    go_wp2_with (go_at_call 26; refine (implValueOk_any _ _ _).mono ?_; rintro e w1 ⟨rfl, hb1⟩; have hs1 := hb1.size; obtain ⟨hc1, hf1⟩ := bcell hb1; have hz0 : w.heap.size < w1.heap.size := (by clear hc1 hf1; (try simp at hs1); omega))
    go_ret
    refine ⟨rfl, ?_⟩
    clear hc1 hf1
    (repeat (first | exact Below.refl _ _ | refine Below.drew ?_ | refine Below.alloc ?_ ?_ _ | refine Below.setCell ?_ ?_ _ | refine Below.trans ?_ (Below.mono (by assumption) ?_))) <;> (first | omega | (simp at *; done) | (simp at *; omega))
  · obtain ⟨hk, h1, h2⟩ := ok_bd hn
    have hp := piece_of_ok hn
    have hl := itoa_len h1 h2
    by_cases h : k = 1
    · have hs : showB k n = 112 :: Lib.itoa n := by unfold showB; rw [hn, if_pos h]; rfl
      rw [hs]
      subst h
      clear hk
      have hp' : pieB 1 n = true := by rw [hp]; rfl
      clear hp
      go_enter Tryd.func15, Tryd.ntmps15
      go_wp2_with (go_at_call 26; refine (implValueOk_any _ _ _).mono ?_; rintro e w1 ⟨rfl, hb1⟩; have hs1 := hb1.size; obtain ⟨hc1, hf1⟩ := bcell hb1; have hz0 : w.heap.size < w1.heap.size := (by clear hc1 hf1; (try simp at hs1); omega); have hB1 : Below w.heap.size w w1 := (((Below.refl _ _).alloc (Nat.le_refl _) _).trans (hb1.mono (by simp))))
      go_wp2_with (first | (go_at_call 58; refine (fmt_any _ (by omega) (by omega) _ (Htab.out _ hB1)).mono ?_; rintro e w1 ⟨rfl, hb1⟩; have hs1 := hb1.size; obtain ⟨hc1, hf1⟩ := bcell hb1; have hz0 : w.heap.size < w1.heap.size := (by clear hc1 hf1; (try simp at hs1); omega)) | (go_at_call 59; refine (isPiece_any _ _ _).mono ?_; rintro e w1 ⟨rfl, hb1⟩; have hs1 := hb1.size; obtain ⟨hc1, hf1⟩ := bcell hb1; have hz0 : w.heap.size < w1.heap.size := (by clear hc1 hf1; (try simp at hs1); omega)))
      go_ret
      refine ⟨congrArg (fun x => Ending.returned (Value.string x)) (push_front 112 (Lib.itoa n)), ?_⟩
      clear hc1 hf1
      (repeat (first | exact Below.refl _ _ | refine Below.drew ?_ | refine Below.alloc ?_ ?_ _ | refine Below.setCell ?_ ?_ _ | refine Below.trans ?_ (Below.mono (by assumption) ?_))) <;> (first | omega | (simp at *; done) | (simp at *; omega))
    · have hs : showB k n = Lib.itoa n := by unfold showB; rw [hn, if_neg h]; rfl
      rw [hs]
      have hp' : pieB k n = false := by rw [hp]; simpa using h
      clear hk hp
      go_enter Tryd.func15, Tryd.ntmps15
      go_wp2_with (go_at_call 26; refine (implValueOk_any _ _ _).mono ?_; rintro e w1 ⟨rfl, hb1⟩; have hs1 := hb1.size; obtain ⟨hc1, hf1⟩ := bcell hb1; have hz0 : w.heap.size < w1.heap.size := (by clear hc1 hf1; (try simp at hs1); omega); have hB1 : Below w.heap.size w w1 := (((Below.refl _ _).alloc (Nat.le_refl _) _).trans (hb1.mono (by simp))))
      go_wp2_with (first | (go_at_call 58; refine (fmt_any _ (by omega) (by omega) _ (Htab.out _ hB1)).mono ?_; rintro e w1 ⟨rfl, hb1⟩; have hs1 := hb1.size; obtain ⟨hc1, hf1⟩ := bcell hb1; have hz0 : w.heap.size < w1.heap.size := (by clear hc1 hf1; (try simp at hs1); omega)) | (go_at_call 59; refine (isPiece_any _ _ _).mono ?_; rintro e w1 ⟨rfl, hb1⟩; have hs1 := hb1.size; obtain ⟨hc1, hf1⟩ := bcell hb1; have hz0 : w.heap.size < w1.heap.size := (by clear hc1 hf1; (try simp at hs1); omega)))
      go_ret
      refine ⟨rfl, ?_⟩
      clear hc1 hf1
      (repeat (first | exact Below.refl _ _ | refine Below.drew ?_ | refine Below.alloc ?_ ?_ _ | refine Below.setCell ?_ ?_ _ | refine Below.trans ?_ (Below.mono (by assumption) ?_))) <;> (first | omega | (simp at *; done) | (simp at *; omega))

theorem lawShowValue (k n : Int) (w : World) (htab : Lib.TabIs Tryd.prog w "internal/strconv.uint64pow10" .u64 Lib.pow10Tab) :
    Calls Tryd.prog 5 #[.agg #[.int .i64 k, .int .i64 n]] w fun e w' => e = .returned (.bool true) ∧ Below w.heap.size w w' := by
  have hg : Tryd.prog.globalNamed "internal/strconv.uint64pow10" = some 0 := by kernel_rfl
  have Htab : Hid (∀ w', Below w.heap.size w w' → Lib.TabIs Tryd.prog w' "internal/strconv.uint64pow10" .u64 Lib.pow10Tab) := fun w' hb => Joins.tab_stays hg htab hb (Nat.le_refl _)
  clear htab hg
  go_enter Tryd.func5, Tryd.ntmps5
  go_wp2_with (first | (go_at_call 41; refine (toValue_any _ _ _).mono ?_; rintro e w1 ⟨rfl, hb1⟩; have hs1 := hb1.size; obtain ⟨hc1, hf1⟩ := bcell hb1; have hz0 : w.heap.size < w1.heap.size := (by clear hc1 hf1; (try simp at hs1); omega); have hB1 : Below w.heap.size w w1 := (by clear hc1 hf1; (repeat (first | exact Below.refl _ _ | refine Below.drew ?_ | refine Below.alloc ?_ ?_ _ | refine Below.setCell ?_ ?_ _ | refine Below.trans ?_ (Below.mono (by assumption) ?_))) <;> (first | omega | (simp at *; done) | (simp at *; omega)))) | (go_at_call 25; refine (specShow_any _ _ _).mono ?_; rintro e w1 ⟨rfl, hb1⟩; have hs1 := hb1.size; obtain ⟨hc1, hf1⟩ := bcell hb1; have hz0 : w.heap.size < w1.heap.size := (by clear hc1 hf1; (try simp at hs1); omega)) | (go_at_call 15; refine (implShow_any _ _ _ (Htab.out _ hB1)).mono ?_; rintro e w1 ⟨rfl, hb1⟩; have hs1 := hb1.size; obtain ⟨hc1, hf1⟩ := bcell hb1; have hz0 : w.heap.size < w1.heap.size := (by clear hc1 hf1; (try simp at hs1); omega)))
  go_ret
  refine ⟨by simp, ?_⟩
  clear hc1 hf1
  (repeat (first | exact Below.refl _ _ | refine Below.drew ?_ | refine Below.alloc ?_ ?_ _ | refine Below.setCell ?_ ?_ _ | refine Below.trans ?_ (Below.mono (by assumption) ?_))) <;> (first | omega | (simp at *; done) | (simp at *; omega))

end L1
end Go.Proofs.YtcfniecdjbgknaaDoor
