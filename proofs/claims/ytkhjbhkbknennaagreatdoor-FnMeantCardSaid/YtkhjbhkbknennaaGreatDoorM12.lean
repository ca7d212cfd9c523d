/-
  The law of chapter 4 on what is meant (written by wip/gen_m12.py).
-/
import Derived.Test.YtkhjbhkbknennaaGreatDoorM11
namespace Go.Proofs.YtkhjbhkbknennaaGreatDoor
open Go.RowKit Go.Sort
namespace L2
open S1 L1

theorem OwU.base {w : World} {B B' : Nat} {u : Value} {ss : List ByteArray} (h : OwU w B u ss) (hB : B' ≤ B) : OwU w B' u ss := by
  rcases h.is with ⟨rfl, rfl⟩ | h
  · exact World.ownsRow_nil _ _ _ _
  · exact (h.base hB).1
/-- A box of five cells. -/
def BoxL (w : World) (g : Nat) : Prop := g < w.heap.size ∧ ((∃ u, w.cell? ⟨g, 0, none⟩ = some u) ∧ (∃ u, w.cell? ⟨g, 1, none⟩ = some u) ∧ (∃ u, w.cell? ⟨g, 2, none⟩ = some u) ∧ (∃ u, w.cell? ⟨g, 3, none⟩ = some u) ∧ (∃ u, w.cell? ⟨g, 4, none⟩ = some u)) ∧ ∀ i, w.frozen? ⟨g, i, none⟩ = false
theorem BoxL.new (w : World) (u0 u1 u2 u3 u4 : Value) (T : TypeId) : BoxL (w.alloc (.cells #[u0, u1, u2, u3, u4] T)) w.heap.size := by
  have h := alloc_cell w #[u0, u1, u2, u3, u4] T
  refine ⟨by simp, ⟨⟨_, h 0⟩, ⟨_, h 1⟩, ⟨_, h 2⟩, ⟨_, h 3⟩, ⟨_, h 4⟩⟩, fun i => ?_⟩
  have hb := heap_alloc_new w (.cells #[u0, u1, u2, u3, u4] T)
  unfold World.frozen?
  rw [hb]
  simp
theorem BoxL.newd (w : World) (u0 u1 u2 u3 u4 : Value) (T : TypeId) : BoxL (w.alloc (.cells #[u0, u1, u2, u3, u4] T)).drew w.heap.size := BoxL.new w u0 u1 u2 u3 u4 T
theorem BoxL.drew {w : World} {g : Nat} (h : BoxL w g) : BoxL w.drew g := h
theorem BoxL.below {w w' : World} {g : Nat} (h : BoxL w g) (hb : Below w.heap.size w w') : BoxL w' g := by
  obtain ⟨h1, ⟨⟨u0, a0⟩, ⟨u1, a1⟩, ⟨u2, a2⟩, ⟨u3, a3⟩, ⟨u4, a4⟩⟩, h3⟩ := h
  have hc := fun i => hb.cell (p := ⟨g, i, none⟩) h1
  exact ⟨Nat.lt_of_lt_of_le h1 hb.size, ⟨⟨u0, (hc 0).trans a0⟩, ⟨u1, (hc 1).trans a1⟩, ⟨u2, (hc 2).trans a2⟩, ⟨u3, (hc 3).trans a3⟩, ⟨u4, (hc 4).trans a4⟩⟩, fun i => (hb.frozen (p := ⟨g, i, none⟩) h1).trans (h3 i)⟩
theorem ownU_ne {pre w : World} {u : Value} {ss : List ByteArray} {g : Nat} (hO : OwU w pre.heap.size u ss) (hL : BoxL pre g) : u.ownBlock ≠ some g := fun e => by
  have h1 := (hO.lt' e).1
  have h2 := hL.1
  omega
/-- A meaning in a box. -/
def BoxM (w : World) (g : Nat) (o : Out) (u : Value) : Prop := g < w.heap.size ∧ w.cell? ⟨g, 0, none⟩ = some (.int .i64 o.k) ∧ w.cell? ⟨g, 1, none⟩ = some (.int .i64 o.n) ∧ w.cell? ⟨g, 2, none⟩ = some (.bool o.thr) ∧ w.cell? ⟨g, 3, none⟩ = some u ∧ w.cell? ⟨g, 4, none⟩ = some (.int .i64 o.code)
theorem BoxM.kept {w w' : World} {g : Nat} {o : Out} {u : Value} {row : Option Nat} (h : BoxM w g o u) (hg : w.grownBy w' row) (hne : some g ≠ row) : BoxM w' g o u := by
  obtain ⟨h0, h1, h2, h3, h4, h5⟩ := h
  have hc := fun i => World.cell?_of_block (a := ⟨g, i, none⟩) (hg.block g h0 hne)
  exact ⟨Nat.lt_of_lt_of_le h0 hg.size, (hc 0).trans h1, (hc 1).trans h2, (hc 2).trans h3, (hc 3).trans h4, (hc 4).trans h5⟩
theorem BoxM.below {w w' : World} {g : Nat} {o : Out} {u : Value} (h : BoxM w g o u) (hb : Below w.heap.size w w') : BoxM w' g o u := h.kept (D.grown_of_below hb none) (by simp)
/-- What a call was given, in a box. -/
def ArgB (w : World) (g : Nat) (a b : Int) : Prop := g < w.heap.size ∧ w.cell? ⟨g, 0, none⟩ = some (.int .i64 a) ∧ w.cell? ⟨g, 1, none⟩ = some (.int .i64 b)
theorem ArgB.kept {w w' : World} {g : Nat} {a b : Int} {row : Option Nat} (h : ArgB w g a b) (hg : w.grownBy w' row) (hne : some g ≠ row) : ArgB w' g a b := by
  obtain ⟨h0, h1, h2⟩ := h
  have hc := fun i => World.cell?_of_block (a := ⟨g, i, none⟩) (hg.block g h0 hne)
  exact ⟨Nat.lt_of_lt_of_le h0 hg.size, (hc 0).trans h1, (hc 1).trans h2⟩
theorem ArgB.below {w w' : World} {g : Nat} {a b : Int} (h : ArgB w g a b) (hb : Below w.heap.size w w') : ArgB w' g a b := h.kept (D.grown_of_below hb none) (by simp)
/-- Behind a call of Meant whose meaning lies in a box of its own. -/
def CutQ (n : Nat) (wa : World) (o : Out) (s : Value) (wx : World) : Prop :=
  ∃ gb u, s = .pointer (some ⟨gb, 0, none⟩) ∧ n ≤ gb ∧ BoxM wx gb o u ∧ Hid (OwU wx n u o.said) ∧ u.ownBlock ≠ some gb ∧ Below n wa wx
theorem cutQ_after {n : Nat} {wa w1 : World} {o : Out} {u : Value} {T : TypeId} (hb : Below n wa w1) (hn : n ≤ w1.heap.size) (hO : OwU w1 n u o.said) :
    CutQ n wa o (.pointer (some ⟨w1.heap.size, 0, none⟩)) (w1.alloc (.cells #[.int .i64 o.k, .int .i64 o.n, .bool o.thr, u, .int .i64 o.code] T)) := by
  refine ⟨_, u, rfl, hn, ⟨by simp, alloc_cell _ _ _ 0, alloc_cell _ _ _ 1, alloc_cell _ _ _ 2, alloc_cell _ _ _ 3, alloc_cell _ _ _ 4⟩, hO.below ((Below.refl _ _).alloc (Nat.le_refl _) _), fun e => ?_, hb.alloc hn _⟩
  have := (hO.lt' e).2
  omega
theorem cutQ_ahead {n : Nat} {wa w1 : World} {o : Out} {u : Value} {g : Nat} (hL : BoxL w1 g) (hg : n ≤ g) (hne : u.ownBlock ≠ some g) (hb : Below n wa w1) (hO : OwU w1 n u o.said) :
    CutQ n wa o (.pointer (some ⟨g, 0, none⟩)) (((((w1.setCell ⟨g, 0, none⟩ (.int .i64 o.k)).setCell ⟨g, 1, none⟩ (.int .i64 o.n)).setCell ⟨g, 2, none⟩ (.bool o.thr)).setCell ⟨g, 3, none⟩ u).setCell ⟨g, 4, none⟩ (.int .i64 o.code)) := by
  obtain ⟨hgl, ⟨⟨u0, z0⟩, ⟨u1, z1⟩, ⟨u2, z2⟩, ⟨u3, z3⟩, ⟨u4, z4⟩⟩, zf⟩ := hL
  have hgr := ((((D.grown_set w1 g 0 (.int .i64 o.k)).trans (D.grown_set _ g 1 (.int .i64 o.n))).trans (D.grown_set _ g 2 (.bool o.thr))).trans (D.grown_set _ g 3 u)).trans (D.grown_set _ g 4 (.int .i64 o.code))
  refine ⟨g, u, rfl, hg, ⟨by simpa [World.setCell] using hgl, by simp [go_sem, z0, z1, z2, z3, z4]⟩, hO.kept hgr (Or.inr hne), hne, ?_⟩
  exact ((((hb.setCell (by dsimp only; omega) _).setCell (by dsimp only; omega) _).setCell (by dsimp only; omega) _).setCell (by dsimp only; omega) _).setCell (by dsimp only; omega) _

end L2
end Go.Proofs.YtkhjbhkbknennaaGreatDoor
