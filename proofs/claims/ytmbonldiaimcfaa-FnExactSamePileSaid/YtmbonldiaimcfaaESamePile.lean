/-
  SamePile answers as its model at every two piles, whatever the input, and its arguments read as they did. Conditions: none beyond the row's own.
-/
import Derived.Test.YtmbonldiaimcfaaRows
import Derived.Test.YtmbonldiaimcfaaO5
import Derived.Test.YtmbonldiaimcfaaO6
import Derived.ChangeOld
import Derived.Lib.SmallJoins
namespace Go.Proofs.Ytmbonldiaimcfaa.eSamePile
open Go.ChangeShapes Go.WideShapes Go.ChangeAt Go.RowKit Go.Joins L2
set_option linter.unusedVariables false

theorem own : ownKnob Try.prog.godebug = none := by kernel_rfl
theorem laidOut : laidOutB Try.prog = true := by kernel_rfl
set_option maxRecDepth 100000 in
theorem lifted (os : Os) (started : os.Started) (H : Type) (enc : TypeId × Value → H) :
    ReturnsInHanded {} Try.checked os 3 .any (Rows.fnExactSamePileSpec.pre6 enc Try.prog Try.f3 Rows.fnExactSamePileRow.domain false) (Rows.fnExactSamePileSpec.post enc Try.prog Try.f3 false true false false) := by
  refine returnsInHanded_of_change (C := Try.checked) own started (by kernel_rfl) Try.func3
    (ChangeSpec.witness6 (enc := enc) (C := Try.checked) false ⟨#[], #[.agg #[.slice none 0 0, .int .i64 0, .int .i64 0, .int .i64 0, .int .i64 0, .int .i64 0, .int .i64 0, .slice none 0 0, .slice none 0 0, .slice none 0 0], .agg #[.slice none 0 0, .int .i64 0, .int .i64 0, .int .i64 0, .int .i64 0, .int .i64 0, .int .i64 0, .slice none 0 0, .slice none 0 0, .slice none 0 0]], []⟩ 8 (by kernel_rfl) (by kernel_rfl) (by kernel_rfl) (by kernel_rfl)) ?_
  intro W base args ds gs before hval0 hW hcnd _
  have hval : ∀ (j : Nat) t v, Try.f3.params[j]? = some t → args[j]? = some v → Value.okWide Try.prog W .any base t v := hval0
  have hW' := hW
  obtain ⟨p, q, hA0, hV, rfl, hfz, hnd⟩ := hW
  have hA : DataW.TrodAll enc Try.prog W 0 (fun _ => true) true Try.f3.params.toList args.toList ds p := hA0
  rw [Try.params3] at hA hval
  obtain ⟨v0, vs0, d0, ds0, p0, q0, hargs, rfl, rfl, h0, r0⟩ := trodAll_cons hA
  obtain ⟨v1, vs1, d1, ds1, p1, q1, rfl, rfl, rfl, h1, r1⟩ := trodAll_cons r0
  obtain ⟨rfl, rfl, rfl⟩ := trodAll_nil r1
  obtain rfl : args = #[v0, v1] := by cases args; simp_all
  obtain ⟨rfl, rfl⟩ := trodVars_none hV
  have k0 := h0
  have lt0 : ∀ x ∈ p0, x.block < W.heap.size := by obtain ⟨m, hm⟩ := k0; exact DataW.trod_lt m _ _ _ hm
  obtain ⟨x0, s0_0, l0_0, c0_0, s0_1, l0_1, c0_1, s0_2, l0_2, c0_2, s0_3, l0_3, c0_3, rfl, rows0, sized0⟩ := openPil (hval 0 28 v0 rfl rfl) h0
  have k1 := h1
  have lt1 : ∀ x ∈ p1, x.block < W.heap.size := by obtain ⟨m, hm⟩ := k1; exact DataW.trod_lt m _ _ _ hm
  obtain ⟨x1, s1_0, l1_0, c1_0, s1_1, l1_1, c1_1, s1_2, l1_2, c1_2, s1_3, l1_3, c1_3, rfl, rows1, sized1⟩ := openPil (hval 1 28 v1 rfl rfl) h1
  clear hA0 hval0
  refine (L2.lawSamePile x0 (.slice s0_0 l0_0 c0_0) (.slice s0_1 l0_1 c0_1) (.slice s0_2 l0_2 c0_2) (.slice s0_3 l0_3 c0_3) x1 (.slice s1_0 l1_0 c1_0) (.slice s1_1 l1_1 c1_1) (.slice s1_2 l1_2 c1_2) (.slice s1_3 l1_3 c1_3) W rows0 sized0 rows1 sized1).mono fun e W' ⟨he, hg⟩ => ?_
  subst he
  exact ⟨_, rfl, _, _, _, [], _, [], hW', (trodAll_cons_mk (shut_bool Try.underlying4 _) trodAll_mk0), (trodAll_cons_mk (Below.trod laidOut (by kernel_rfl) (of_decide_eq_true (by kernel_rfl)) k0 hg lt0) (trodAll_cons_mk (Below.trod laidOut (by kernel_rfl) (of_decide_eq_true (by kernel_rfl)) k1 hg lt1) trodAll_mk0)), rfl, hg.frame _, fun h => by cases h⟩
theorem over : Rows.fnExactSamePileRow.holds Try.pinned (OpenSpec.ofChange Rows.fnExactSamePileSpec) :=
  OpenClaim.holds_of_wide 3 Try.f3 rfl rfl rfl rfl rfl rfl rfl ⟨rfl, rfl, rfl, rfl, rfl⟩ rfl rfl rfl rfl rfl (by kernel_rfl) Try.func3 (by kernel_rfl)
    (of_decide_eq_true (by kernel_rfl)) (by unfold Func.isWrapper; first | (rw [if_pos (by decide +kernel)]; kernel_rfl) | (rw [if_neg (by decide +kernel)]; exact ⟨rfl, rfl⟩))
    (fun os started H enc _ => lifted os started H enc)

theorem proved : Rows.FnExactSamePileSaid :=
  over
#print axioms proved
end Go.Proofs.Ytmbonldiaimcfaa.eSamePile
