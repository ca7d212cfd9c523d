/-
  What is bound, in the model's memory: a row of numbers with their values, the topmost last.
-/
import Derived.Test.YtkhjbhkbknennaaGreatDoorM1
namespace Go.Proofs.YtkhjbhkbknennaaGreatDoor
open Go.RowKit
namespace L2
open S1 L1

abbrev Bs := List (ByteArray × Int × Int)
def b0 : ByteArray × Int × Int := (ByteArray.empty, 0, 0)
/-- What is bound, the topmost first. -/
def toBd (bs : Bs) : Bd := bs.reverse.map fun b => (b.1.toList, b.2)
theorem toBd_snoc (bs : Bs) (b : ByteArray × Int × Int) : toBd (bs ++ [b]) = (b.1.toList, b.2) :: toBd bs := by simp [toBd]
/-- The cells of what is bound. -/
def bcs (bs : Bs) : List Value := bs.flatMap fun b => [.string b.1, .int .i64 b.2.1, .int .i64 b.2.2]
theorem bcs_len (bs : Bs) : (bcs bs).length = bs.length * 3 := by
  induction bs with
  | nil => rfl
  | cons a r ih => simp only [bcs, List.flatMap_cons, List.length_append, List.length_cons, List.length_nil] at ih ⊢; omega
theorem bcs_app (a b : Bs) : bcs (a ++ b) = bcs a ++ bcs b := by simp [bcs]
theorem bcs_get : ∀ (bs : Bs) (i : Nat), i < bs.length → (bcs bs)[i * 3]? = some (.string (bs.getD i b0).1) ∧ (bcs bs)[i * 3 + 1]? = some (.int .i64 (bs.getD i b0).2.1) ∧ (bcs bs)[i * 3 + 2]? = some (.int .i64 (bs.getD i b0).2.2)
  | [], i, h => by cases h
  | a :: r, 0, _ => ⟨rfl, rfl, rfl⟩
  | a :: r, i + 1, h => by
    have ih := bcs_get r i (by simpa using h)
    have e : bcs (a :: r) = .string a.1 :: .int .i64 a.2.1 :: .int .i64 a.2.2 :: bcs r := rfl
    have e2 : (a :: r).getD (i + 1) b0 = r.getD i b0 := by simp [List.getD]
    rw [e, e2]
    have k0 : (i + 1) * 3 = i * 3 + 1 + 1 + 1 := by omega
    rw [k0]
    simp only [List.getElem?_cons_succ]
    exact ih

/-- What is bound, in memory. -/
def RowB (W : World) (v : Value) (bs : Bs) : Prop :=
  ∃ ob cap, v = .slice ob bs.length cap ∧ bs.length ≤ cap ∧ cap ≤ maxLen ∧ (bs.length = 0 ∨ ∃ X off, ob = some ⟨X, off, none⟩ ∧ X < W.heap.size ∧ ∀ j u, (bcs bs)[j]? = some u → W.cell? ⟨X, off + j, none⟩ = some u)
theorem RowB.below {W W' : World} {v : Value} {bs : Bs} (h : RowB W v bs) (hb : Below W.heap.size W W') : RowB W' v bs := by
  obtain ⟨ob, cap, e, h1, h2, h3⟩ := h
  refine ⟨ob, cap, e, h1, h2, ?_⟩
  rcases h3 with h3 | ⟨X, off, ho, hX, hc⟩
  · exact Or.inl h3
  · exact Or.inr ⟨X, off, ho, Nat.lt_of_lt_of_le hX hb.size, fun j u hu => (hb.cell (p := ⟨X, off + j, none⟩) hX).trans (hc j u hu)⟩

theorem bnd_info' : (Tryz.prog.info? 112).map (fun i => (i.zero, i.size, i.bytes)) = some (some (.agg #[.string ByteArray.empty, .int .i64 0, .int .i64 0]), 3, 32) := by kernel_rfl
theorem bnd_info : ∃ i, Tryz.prog.info? 112 = some i ∧ i.zero = some (.agg #[.string ByteArray.empty, .int .i64 0, .int .i64 0]) ∧ i.size = 3 ∧ i.bytes = 32 := by
  have h := bnd_info'
  cases hi : Tryz.prog.info? 112 with
  | none => rw [hi] at h; cases h
  | some i =>
    rw [hi] at h
    simp only [Option.map_some, Option.some.injEq, Prod.mk.injEq] at h
    exact ⟨i, rfl, h.1, h.2.1, h.2.2⟩
/-- A row of what is bound, to which may be appended. -/
def OwB (w : World) (B : Nat) (v : Value) (bs : Bs) : Prop := w.ownsRow B 112 3 v bs.length (bcs bs) ∧ v ≠ .slice none 0 0
theorem OwB.form {w : World} {B : Nat} {v : Value} {bs : Bs} (h : OwB w B v bs) : ∃ g cap, v = .slice (some ⟨g, 0, none⟩) bs.length cap ∧ bs.length ≤ cap ∧ cap ≤ maxLen ∧ B ≤ g ∧ g < w.heap.size ∧ ∀ j u, (bcs bs)[j]? = some u → w.cell? ⟨g, j, none⟩ = some u := by
  obtain ⟨ho, hn⟩ := h
  rcases ho.2 with ⟨hv, _⟩ | ⟨g, cap, cur, hv, hb, hg, h1, h2, hs, ht⟩
  · exact absurd hv hn
  · refine ⟨g, cap, hv, h1, h2, hb, (Array.getElem?_eq_some_iff.1 hg).1, fun j u hu => ?_⟩
    have := ho.cells (g := g) (by rw [hv]; rfl) j u hu
    rwa [add0] at this
theorem OwB.row {w : World} {B : Nat} {v : Value} {bs : Bs} (h : OwB w B v bs) : RowB w v bs := by
  obtain ⟨g, cap, hv, h1, h2, h3, h4, h5⟩ := h.form
  exact ⟨_, cap, hv, h1, h2, Or.inr ⟨g, 0, rfl, h4, fun j u hu => by rw [Nat.zero_add]; exact h5 j u hu⟩⟩
set_option maxRecDepth 100000 in
/-- A copy of what is bound. -/
theorem bound_copy {w : World} {B g0 : Nat} {v : Value} {bs : Bs} (hR : RowB w v bs) (hg0 : w.heap[g0]? = some (.cells #[] 112 (0, 0))) (hB0 : B ≤ g0) (hl : bs.length ≤ 1000) :
    ∃ v' w', (Builtin.append_ #[69, 69] 69 #[.slice (some ⟨g0, 0, none⟩) 0 0, v]).run Tryz.prog w = .ok v' w' ∧ OwB w' B v' bs ∧ w.grownBy w' (some g0) := by
  have hlt : g0 < w.heap.size := (Array.getElem?_eq_some_iff.1 hg0).1
  have hnew : OwB w B (.slice (some ⟨g0, 0, none⟩) 0 0) [] := ⟨⟨rfl, Or.inr ⟨g0, 0, #[], rfl, hB0, hg0, Nat.le_refl _, by unfold maxLen; omega, by simp, by simp [bcs]⟩⟩, by simp⟩
  obtain ⟨ob, cap, rfl, h1, h2, h3⟩ := hR
  rcases h3 with h0 | ⟨X, off, rfl, hX, hc⟩
  · have he : bs = [] := by cases bs with | nil => rfl | cons a r => simp at h0
    subst he
    refine ⟨.slice (some ⟨g0, 0, none⟩) 0 0, w, ?_, hnew, D.grown_of_below (Below.refl _ _) _⟩
    cases ob <;> simp [go_sem]
  · obtain ⟨i, hi, hz, hsz, hby⟩ := bnd_info
    obtain ⟨v', w', hr, h5, h6, h7, h8⟩ := run_append_own_at (P := Tryz.prog) w B 69 69 112 i (.agg #[.string ByteArray.empty, .int .i64 0, .int .i64 0]) 3 32 Tryz.underlying69 hi hz hsz hby rfl (by omega) _ 0 _ hnew.1 ⟨X, off, none⟩ bs.length cap (bcs bs) (bcs_len bs)
      (fun j u hj => by
        have e2 : (⟨X, off, none⟩ : Addr).add j = ⟨X, off + j, none⟩ := by unfold Addr.add; split <;> simp_all
        rw [e2]
        exact hc j u hj)
      (fun u hu => by
        simp only [bcs, List.mem_flatMap, List.mem_cons, List.not_mem_nil, or_false] at hu
        obtain ⟨b, _, hb⟩ := hu
        rcases hb with rfl | rfl | rfl <;> rfl) (by unfold maxLen; omega) (by omega) (by omega)
    refine ⟨v', w', hr, ⟨by simpa [bcs] using h5, fun e => ?_⟩, h6⟩
    have := (h7.1 e).1
    cases this
set_option maxRecDepth 100000 in
/-- One more that is bound. -/
theorem bound_more {w : World} {B g : Nat} {v : Value} {bs : Bs} (hO : OwB w B v bs) (x : ByteArray × Int × Int) (hc : ∀ j u, (bcs [x])[j]? = some u → w.cell? ⟨g, j, none⟩ = some u) (hl : bs.length ≤ 1000) (hB : B ≤ w.heap.size) :
    ∃ v' w', (Builtin.append_ #[69, 69] 69 #[v, .slice (some ⟨g, 0, none⟩) 1 1]).run Tryz.prog w = .ok v' w' ∧ OwB w' B v' (bs ++ [x]) ∧ w.grownBy w' v.ownBlock := by
  obtain ⟨ho, hn⟩ := hO
  obtain ⟨i, hi, hz, hsz, hby⟩ := bnd_info
  obtain ⟨v', w', hr, h5, h6, h7, h8⟩ := run_append_own_at (P := Tryz.prog) w B 69 69 112 i (.agg #[.string ByteArray.empty, .int .i64 0, .int .i64 0]) 3 32 Tryz.underlying69 hi hz hsz hby rfl (by omega) v bs.length _ ho ⟨g, 0, none⟩ 1 1 (bcs [x]) (by rw [bcs_len]; rfl)
    (fun j u hj => by
      rw [add0]
      exact hc j u hj)
    (fun u hu => by
      simp only [bcs, List.mem_flatMap, List.mem_cons, List.not_mem_nil, or_false] at hu
      obtain ⟨b, _, hb⟩ := hu
      rcases hb with rfl | rfl | rfl <;> rfl) (by unfold maxLen; omega) (by omega) hB
  refine ⟨v', w', hr, ⟨?_, fun e => hn (h7.1 e).1⟩, h6⟩
  rw [bcs_app, List.length_append]
  exact h5

end L2
end Go.Proofs.YtkhjbhkbknennaaGreatDoor
