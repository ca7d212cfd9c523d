/-
  Rows of plates that a call owns: one more, a copy.
-/
import Derived.Test.YtkhjbhkbknennaaGreatDoorQ1
import Derived.Test.YtkhjbhkbknennaaGreatDoorGD
import Derived.Laws.OwnMore
namespace Go.Proofs.YtkhjbhkbknennaaGreatDoor
open Go.RowKit Go.Sort
namespace L2
open L1

/-- The cells of plates. -/
def pcs (ps : List Pl) : List Value := ps.flatMap fun p => [.int .i64 p.k, .int .i64 p.a, .int .i64 p.ak, .int .i64 p.an, .int .i64 p.vk, .int .i64 p.vn]
theorem pcs_len (ps : List Pl) : (pcs ps).length = ps.length * 6 := by
  induction ps with
  | nil => rfl
  | cons a r ih => simp only [pcs, List.flatMap_cons, List.length_append, List.length_cons, List.length_nil] at ih ⊢; omega
theorem pcs_app (a b : List Pl) : pcs (a ++ b) = pcs a ++ pcs b := by simp [pcs]
theorem pcs_get : ∀ (ps : List Pl) (i : Nat), i < ps.length → (pcs ps)[i * 6]? = some (.int .i64 (ps.getD i p0).k) ∧ (pcs ps)[i * 6 + 1]? = some (.int .i64 (ps.getD i p0).a) ∧ (pcs ps)[i * 6 + 1 + 1]? = some (.int .i64 (ps.getD i p0).ak) ∧ (pcs ps)[i * 6 + 1 + 1 + 1]? = some (.int .i64 (ps.getD i p0).an) ∧ (pcs ps)[i * 6 + 1 + 1 + 1 + 1]? = some (.int .i64 (ps.getD i p0).vk) ∧ (pcs ps)[i * 6 + 1 + 1 + 1 + 1 + 1]? = some (.int .i64 (ps.getD i p0).vn)
  | [], i, h => by cases h
  | a :: r, 0, _ => ⟨rfl, rfl, rfl, rfl, rfl, rfl⟩
  | a :: r, i + 1, h => by
    have ih := pcs_get r i (by simpa using h)
    have e : pcs (a :: r) = .int .i64 a.k :: .int .i64 a.a :: .int .i64 a.ak :: .int .i64 a.an :: .int .i64 a.vk :: .int .i64 a.vn :: pcs r := rfl
    have e2 : (a :: r).getD (i + 1) p0 = r.getD i p0 := by simp [List.getD]
    rw [e, e2]
    have k0 : (i + 1) * 6 = i * 6 + 1 + 1 + 1 + 1 + 1 + 1 := by omega
    rw [k0]
    simp only [List.getElem?_cons_succ]
    exact ih
theorem add0P (g j : Nat) : (⟨g, 0, none⟩ : Addr).add j = ⟨g, j, none⟩ := by unfold Addr.add; split <;> simp_all
/-- A row of plates, to which may be appended. -/
def OwP (w : World) (B : Nat) (v : Value) (ps : List Pl) : Prop := w.ownsRow B 37 6 v ps.length (pcs ps) ∧ v ≠ .slice none 0 0
theorem OwP.form {w : World} {B : Nat} {v : Value} {ps : List Pl} (h : OwP w B v ps) : ∃ g cap, v = .slice (some ⟨g, 0, none⟩) ps.length cap ∧ ps.length ≤ cap ∧ cap ≤ maxLen ∧ B ≤ g ∧ g < w.heap.size ∧ ∀ j u, (pcs ps)[j]? = some u → w.cell? ⟨g, j, none⟩ = some u := by
  obtain ⟨ho, hn⟩ := h
  rcases ho.2 with ⟨hv, _⟩ | ⟨g, cap, cur, hv, hb, hg, h1, h2, hs, ht⟩
  · exact absurd hv hn
  · refine ⟨g, cap, hv, h1, h2, hb, (Array.getElem?_eq_some_iff.1 hg).1, fun j u hu => ?_⟩
    have := ho.cells (g := g) (by rw [hv]; rfl) j u hu
    rwa [add0P] at this
theorem OwP.row {w : World} {B : Nat} {v : Value} {ps : List Pl} (h : OwP w B v ps) : RowP w v ps := by
  obtain ⟨g, cap, hv, h1, h2, h3, h4, h5⟩ := h.form
  refine ⟨_, cap, hv, h1, h2, fun i hi => ⟨g, 0, rfl, h4, ?_⟩⟩
  obtain ⟨c0, c1, c2, c3, c4, c5⟩ := pcs_get ps i hi
  rw [Nat.zero_add]
  exact ⟨h5 _ _ c0, h5 _ _ c1, h5 _ _ c2, h5 _ _ c3, h5 _ _ c4, h5 _ _ c5⟩
theorem OwP.kept {w w' : World} {B : Nat} {v : Value} {ps : List Pl} {row : Option Nat} (h : OwP w B v ps) (hg : w.grownBy w' row) (hne : v.ownBlock ≠ row) : OwP w' B v ps := ⟨h.1.kept hg (Or.inr hne), h.2⟩
theorem owP_new (w : World) (B : Nat) (hB : B ≤ w.heap.size) : OwP (w.alloc (.cells #[] 37)) B (.slice (some ⟨w.heap.size, 0, none⟩) 0 0) [] :=
  ⟨World.ownsRow_made w #[] 0 hB (by unfold maxLen; omega) (by simp), by simp⟩
set_option maxRecDepth 100000 in
/-- One plate more. -/
theorem plate_more {w : World} {B g : Nat} {v : Value} {ps : List Pl} (hO : OwP w B v ps) (x : Pl) (hc : ∀ j u, (pcs [x])[j]? = some u → w.cell? ⟨g, j, none⟩ = some u) (hl : ps.length ≤ 1000) (hB : B ≤ w.heap.size) :
    ∃ v' w', (Builtin.append_ #[43, 43] 43 #[v, .slice (some ⟨g, 0, none⟩) 1 1]).run Tryz.prog w = .ok v' w' ∧ OwP w' B v' (ps ++ [x]) ∧ w.grownBy w' v.ownBlock := by
  obtain ⟨ho, hn⟩ := hO
  obtain ⟨i, hi, hz, hsz, hby⟩ := plt_info
  obtain ⟨v', w', hr, h5, h6, h7, h8⟩ := run_append_own_at (P := Tryz.prog) w B 43 43 37 i _ 6 48 Tryz.underlying43 hi hz hsz hby rfl (by omega) v ps.length _ ho ⟨g, 0, none⟩ 1 1 (pcs [x]) (by rw [pcs_len]; rfl)
    (fun j u hj => by
      rw [add0P]
      exact hc j u hj)
    (fun u hu => by
      simp only [pcs, List.mem_flatMap, List.mem_cons, List.not_mem_nil, or_false] at hu
      obtain ⟨b, _, hb⟩ := hu
      rcases hb with rfl | rfl | rfl | rfl | rfl | rfl <;> rfl) (by unfold maxLen; omega) (by omega) hB
  refine ⟨v', w', hr, ⟨?_, fun e => hn (h7.1 e).1⟩, h6⟩
  rw [pcs_app, List.length_append]
  exact h5

end L2
end Go.Proofs.YtkhjbhkbknennaaGreatDoor
