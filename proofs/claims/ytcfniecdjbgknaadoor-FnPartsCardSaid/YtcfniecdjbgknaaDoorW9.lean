/-
  Rows of numbers that a call makes: what they hold, and what appending leaves of them.
-/
import Derived.Test.YtcfniecdjbgknaaDoorW8
namespace Go.Proofs.YtcfniecdjbgknaaDoor
open Go.RowKit
namespace L2
open S1 L1

theorem add0 (g j : Nat) : (⟨g, 0, none⟩ : Addr).add j = ⟨g, j, none⟩ := by unfold Addr.add; split <;> simp_all
def numV (k : Nat) : Value := .int .i64 (k : Int)
/-- A row of numbers in a block from B on, to which may be appended. -/
def OwI (w : World) (B : Nat) (v : Value) (xs : List Nat) : Prop :=
  w.ownsRow B 2 1 v xs.length (xs.map numV) ∧ v ≠ .slice none 0 0

theorem OwI.form {w : World} {B : Nat} {v : Value} {xs : List Nat} (h : OwI w B v xs) : ∃ g cap, v = .slice (some ⟨g, 0, none⟩) xs.length cap ∧ xs.length ≤ cap ∧ cap ≤ maxLen ∧ B ≤ g ∧ g < w.heap.size ∧ ∀ i, i < xs.length → w.cell? ⟨g, i, none⟩ = some (.int .i64 ((xs.getD i 0 : Nat) : Int)) ∧ w.frozen? ⟨g, i, none⟩ = false := by
  obtain ⟨ho, hn⟩ := h
  rcases ho.2 with ⟨hv, _⟩ | ⟨g, cap, cur, hv, hb, hg, h1, h2, hs, ht⟩
  · exact absurd hv hn
  · refine ⟨g, cap, hv, h1, h2, hb, (Array.getElem?_eq_some_iff.1 hg).1, fun i hi => ⟨?_, by simp [World.frozen?, hg]⟩⟩
    have hl : (xs.map numV)[i]? = some (.int .i64 ((xs.getD i 0 : Nat) : Int)) := by
      simp [List.getD, hi, numV]
    have := ho.cells (g := g) (by rw [hv]; rfl) i _ hl
    have hadd : (⟨g, 0, none⟩ : Addr).add i = ⟨g, i, none⟩ := by unfold Addr.add; split <;> simp_all
    rwa [hadd] at this
theorem OwI.kept {w w' : World} {B : Nat} {v : Value} {xs : List Nat} {row : Option Nat} (h : OwI w B v xs) (hg : w.grownBy w' row) (hne : v.ownBlock ≠ row) : OwI w' B v xs :=
  ⟨h.1.kept hg (Or.inr hne), h.2⟩
theorem OwI.below {w w' : World} {B : Nat} {v : Value} {xs : List Nat} (h : OwI w B v xs) (hb : Below w.heap.size w w') : OwI w' B v xs := by
  obtain ⟨g, cap, rfl, _⟩ := h.form
  exact h.kept (D.grown_of_below hb none) (by simp [Value.ownBlock])
theorem OwI.alloc {w : World} {B : Nat} {v : Value} {xs : List Nat} (h : OwI w B v xs) (o : Obj) : OwI (w.alloc o) B v xs := ⟨h.1.alloc o, h.2⟩
theorem OwI.base {w : World} {B B' : Nat} {v : Value} {xs : List Nat} (h : OwI w B v xs) (hB : B' ≤ B) : OwI w B' v xs := by
  obtain ⟨ho, hn⟩ := h
  refine ⟨⟨ho.1, ?_⟩, hn⟩
  rcases ho.2 with hv | ⟨g, cap, cur, hv, hb, rest⟩
  · exact Or.inl hv
  · exact Or.inr ⟨g, cap, cur, hv, Nat.le_trans hB hb, rest⟩
theorem owI_new (w : World) (B : Nat) (hB : B ≤ w.heap.size) : OwI (w.alloc (.cells #[] 2)) B (.slice (some ⟨w.heap.size, 0, none⟩) 0 0) [] :=
  ⟨World.ownsRow_made w #[] 0 hB (by unfold maxLen; omega) (by simp), by simp⟩

theorem i64_info' : (Tryd.prog.info? 2).map (fun i => (i.zero, i.size, i.bytes)) = some (some (.int .i64 0), 1, 8) := by kernel_rfl
theorem i64_info : ∃ i, Tryd.prog.info? 2 = some i ∧ i.zero = some (.int .i64 0) ∧ i.size = 1 ∧ i.bytes = 8 := by
  have h := i64_info'
  cases hi : Tryd.prog.info? 2 with
  | none => rw [hi] at h; cases h
  | some i =>
    rw [hi] at h
    simp only [Option.map_some, Option.some.injEq, Prod.mk.injEq] at h
    exact ⟨i, rfl, h.1, h.2.1, h.2.2⟩

/-- Appending numbers that lie at an address. -/
theorem run_appI (w : World) (B : Nat) (v : Value) (xs : List Nat) (hown : OwI w B v xs) (g : Nat) (ys : List Nat) (c : Nat)
    (hsrc : ∀ j, j < ys.length → w.cell? ⟨g, j, none⟩ = some (.int .i64 ((ys.getD j 0 : Nat) : Int))) (hs : xs.length + ys.length ≤ 10000000) (hB : B ≤ w.heap.size) :
    ∃ v' w', (Builtin.append_ #[39, 39] 39 #[v, .slice (some ⟨g, 0, none⟩) ys.length c]).run Tryd.prog w = .ok v' w' ∧ OwI w' B v' (xs ++ ys) ∧ w.grownBy w' v.ownBlock := by
  obtain ⟨ho, hn⟩ := hown
  obtain ⟨i, hi, hz, hsz, hby⟩ := i64_info
  obtain ⟨v', w', hr, h2, h3, h4, h5⟩ := run_append_own_at (P := Tryd.prog) w B 39 39 2 i (.int .i64 0) 1 8 Tryd.underlying39 hi hz hsz hby rfl (by omega) v xs.length _ ho ⟨g, 0, none⟩ ys.length c (ys.map numV) (by simp)
    (fun j u hj => by
      simp only [List.getElem?_map, Option.map_eq_some_iff] at hj
      obtain ⟨a, ha, rfl⟩ := hj
      have hlt := (List.getElem?_eq_some_iff.1 ha).1
      have := hsrc j hlt
      rw [add0]
      simpa [List.getD, ha, numV] using this)
    (fun u hu => by
      simp only [List.mem_map] at hu
      obtain ⟨a, _, rfl⟩ := hu
      rfl) (by unfold maxLen; omega) (by omega) hB
  refine ⟨v', w', hr, ⟨?_, fun e => hn (h4.1 e).1⟩, h3⟩
  rw [List.map_append, List.length_append]
  exact h2

end L2
end Go.Proofs.YtcfniecdjbgknaaDoor
