/-
  The program's reader of values, at every text: it answers as the model's does.
-/
import Derived.Test.YtcfniecdjbgknaaDoorRead3
import Derived.Test.YtcfniecdjbgknaaDoorP4
import Derived.Lib.AtoiErrMem
import Derived.Shelf.Strconv.ErrVarParseInt
namespace Go.Proofs.YtcfniecdjbgknaaDoor
open Go.RowKit
namespace L1

/-- D. The text that is made of what the library read is the text itself just where the model reads it. -/
theorem back_iff {l : List UInt8} {n : Int} (h : Lib.parseIntB 64 (rvRest l) = .ok n) : decide (showB (rvKind l) n = l) = rvOk l ∧ (rvOk l = true → P1.rdN (rvRest l) = n) := by
  have one : rvOk l = true → showB (rvKind l) n = l ∧ P1.rdN (rvRest l) = n := fun hv => by
    unfold rvOk at hv
    rw [Bool.and_eq_true] at hv
    have hp := P1.parse_of_rd hv.1
    rw [h] at hp
    have hn : P1.rdN (rvRest l) = n := by injection hp with e; exact e.symm
    have hi := P1.itoa_of_rd hv.1
    rw [hn] at hv hi
    refine ⟨?_, hn⟩
    unfold showB
    rw [hv.2, if_pos rfl, hi]
    unfold rvKind rvRest Lib.trimPrefix
    cases hx : Lib.hasPrefix l [112]
    · simp
    · rw [pre_head] at hx
      cases l with
      | nil => simp at hx
      | cons c r =>
        have : c = 112 := by simpa using hx
        subst this; rfl
  have two : showB (rvKind l) n = l → rvOk l = true := fun hs => by
    cases ho : okB (rvKind l) n
    · have : l = [] := by rw [← hs]; unfold showB; rw [ho]; rfl
      subst this
      rw [show rvRest [] = [] from rfl] at h
      cases h
    · obtain ⟨_, h1, h2⟩ := ok_bd ho
      obtain ⟨c1, c2⟩ := P1.rd_of_itoa n h1 h2
      have hr : rvRest l = Lib.itoa n := by
        unfold showB at hs
        rw [ho, if_pos rfl] at hs
        unfold rvKind at hs
        unfold rvRest Lib.trimPrefix
        cases hx : Lib.hasPrefix l [112]
        · rw [hx] at hs; simp at hs; simp [hs]
        · rw [hx] at hs; simp at hs; rw [← hs]; rfl
      unfold rvOk
      rw [hr, c1, c2, ho]; rfl
  refine ⟨?_, fun hv => (one hv).2⟩
  cases hv : rvOk l
  · simp only [decide_eq_false_iff_not]
    intro e
    rw [two e] at hv; cases hv
  · simp only [decide_eq_true_eq]
    exact (one hv).1

theorem no_parse {l : List UInt8} (h : ∀ n, Lib.parseIntB 64 (rvRest l) ≠ .ok n) : rvOk l = false := by
  unfold rvOk
  cases hr : P1.rdOk (rvRest l)
  · rfl
  · exact absurd (P1.parse_of_rd hr) (h _)

theorem parse_ok (b : ByteArray) (hmax : b.size ≤ 9223372036854775806) (n : Int) (h : Lib.parseIntB 64 b.data.toList = .ok n) (w : World) :
    Calls Tryd.prog 65 #[.string b, .int .i64 10, .int .i64 64] w fun e w' => e = .returned (.tuple #[.int .i64 n, .nilIface]) ∧ Below w.heap.size w w' :=
  (Tryd.strconv_ParseInt_10_at64_ok b hmax n h w).mono fun _ _ ⟨he, hw⟩ => ⟨he, by
    rcases hw with rfl | ⟨t, rfl⟩
    · exact Below.refl _ _
    · exact Lib.bytesWorld_below _ _ _⟩

/-- What a call that fails leaves: some number, an error that is not nil. -/
def Fell (w : World) (e : Ending) (w' : World) : Prop := ∃ (m : Int) (a : Nat), e = .returned (.tuple #[.int .i64 m, .iface 102 (.pointer (some ⟨a, 0, none⟩))]) ∧ Below w.heap.size w w'

theorem parse_no (b : ByteArray) (hlim : b.size ≤ 281474976710656) (h : ∀ n, Lib.parseIntB 64 b.data.toList ≠ .ok n) (w : World)
    (hS : ∃ tp p, w.var? Tryd.prog "strconv.ErrSyntax" = some #[.iface tp p]) (hR : ∃ tp p, w.var? Tryd.prog "strconv.ErrRange" = some #[.iface tp p]) :
    Calls Tryd.prog 65 #[.string b, .int .i64 10, .int .i64 64] w (Fell w) := by
  obtain ⟨tS, pS, hS⟩ := hS
  obtain ⟨tR, pR, hR⟩ := hR
  cases hx : Lib.parseIntB 64 b.data.toList
  · exact absurd hx (h _)
  · exact (Any.strconv_ParseInt_10_at64_syntax_var Tryd.laysC174 b hlim hx tS pS w hS).mono fun _ _ ⟨N, he, _, _, hb⟩ => ⟨0, N, he, hb⟩
  · exact (Any.strconv_ParseInt_10_at64_range_var Tryd.laysC174 b hlim hx tR pR w hR).mono fun _ _ ⟨N, he, _, _, hb⟩ => ⟨_, N, he, hb⟩

end L1
end Go.Proofs.YtcfniecdjbgknaaDoor
