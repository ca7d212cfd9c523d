/-
  The model of what is meant: its small functions; what is bound, in memory.
-/
import Derived.Test.YtmbonldiaimcfaaDoorS7
import Derived.Test.YtmbonldiaimcfaaDoorGW
import Derived.Test.YtmbonldiaimcfaaDoorGD
import Derived.Deep.RegionWith
namespace Go.Proofs.YtmbonldiaimcfaaDoor
open Go.RowKit
namespace L2
open S1 L1

/-- What it comes to, as the model has it. -/
def outV (o : Out) (v : Value) : Value := .agg #[.int .i64 o.k, .int .i64 o.n, .bool o.thr, v, .int .i64 o.code]
/-- What the model's functions leave: what it comes to; the words that were said can be read. -/
def MeansS (o : Out) (W : World) (e : Ending) (W' : World) : Prop := ∃ oa cap, e = .returned (outV o (.slice oa o.said.length cap)) ∧ Row W' (.slice oa o.said.length cap) o.said ∧ Below W.heap.size W W'

/-- A copy of a list of words. -/
def CopiedS (ss : List ByteArray) (W : World) (e : Ending) (W' : World) : Prop := ∃ u, e = .returned u ∧ OwS W' W.heap.size u ss ∧ Below W.heap.size W W'
set_option maxRecDepth 100000 in
set_option maxHeartbeats 1000000 in
theorem l1Texts_any (v : Value) (ss : List ByteArray) (W : World) (hR : Row W v ss) (hl : ss.length ≤ 1000) : Calls Tryd.prog 69 #[v] W (CopiedS ss W) := by
  obtain ⟨oa, cap, rfl, h1, h2, h3⟩ := hR
  have hnew := owS_new W W.heap.size (Nat.le_refl _)
  have hal := (Below.refl W.heap.size W).alloc (Nat.le_refl _) (.cells #[] 9)
  have hrun : ∃ v' w', (Builtin.append_ #[24, 24] 24 #[.slice (some ⟨W.heap.size, 0, none⟩) 0 0, .slice oa ss.length cap]).run Tryd.prog (W.alloc (.cells #[] 9)) = .ok v' w' ∧ OwS w' W.heap.size v' ss ∧ (W.alloc (.cells #[] 9)).grownBy w' (some W.heap.size) := by
    cases oa with
    | none =>
      have he : ss = [] := by
        cases ss with
        | nil => rfl
        | cons a r => obtain ⟨b, off, e, _⟩ := h3 0 (by simp); cases e
      subst he
      refine ⟨.slice (some ⟨W.heap.size, 0, none⟩) 0 0, W.alloc (.cells #[] 9), ?_, hnew, D.grown_of_below (Below.refl _ _) _⟩
      simp [go_sem]
    | some ad =>
      obtain ⟨v', w', hr, ho, hg⟩ := run_appSA (W.alloc (.cells #[] 9)) W.heap.size _ [] hnew ad ss cap (fun j hj => by
        obtain ⟨b, off, e, hb, hc⟩ := h3 j hj
        injection e with e
        subst e
        have e2 : (⟨b, off, none⟩ : Addr).add j = ⟨b, off + j, none⟩ := by unfold Addr.add; split <;> simp_all
        rw [e2]
        exact (hal.cell (p := ⟨b, off + j, none⟩) hb).trans hc) (by simp; omega) hal.size
      exact ⟨v', w', hr, by simpa using ho, hg⟩
  obtain ⟨v', w', hr, ho, hg⟩ := hrun
  have hB : Below W.heap.size W w' := hal.grown hg hal.size (fun k e => by injection e with e; omega)
  have HR := Lib.hid hr
  have HO := Lib.hid ho
  have HB := Lib.hid hB
  clear hr ho hg hB hnew hal h3
  unfold maxLen at h2
  go_enter Tryd.func69, Tryd.ntmps69
  go_wp2_with (at_builtin; refine wp_app rfl _ _ rfl rfl _ _ rfl rfl HR.out ?_)
  go_ret
  exact ⟨_, rfl, HO.out, HB.out⟩

end L2
end Go.Proofs.YtmbonldiaimcfaaDoor
