/-
  The law of chapter 4 on what is meant.
-/
import Derived.Test.YtkhjbhkbknennaaGreatDoorM10
import Derived.Test.YtkhjbhkbknennaaGreatDoorC13
import Derived.Test.YtkhjbhkbknennaaGreatDoorSL
import Derived.Lib.QuietBelow
import Derived.BigQuiet
namespace Go.Proofs.YtkhjbhkbknennaaGreatDoor
open Go.RowKit Go.Sort
namespace L2
open S1 L1

/-- A row of words that a call owns, or nothing. -/
def OwU (w : World) (B : Nat) (u : Value) (ss : List ByteArray) : Prop := w.ownsRow B 9 1 u ss.length (ss.map Value.string)
theorem OwU.is {w : World} {B : Nat} {u : Value} {ss : List ByteArray} (h : OwU w B u ss) : (u = .slice none 0 0 ∧ ss = []) ∨ OwS w B u ss := by
  by_cases hu : u = .slice none 0 0
  · rcases h.2 with ⟨_, h0⟩ | ⟨g, cap, cur, hv, _⟩
    · exact Or.inl ⟨hu, List.eq_nil_of_length_eq_zero h0⟩
    · rw [hu] at hv; cases hv
  · exact Or.inr ⟨h, hu⟩
theorem OwU.row {w : World} {B : Nat} {u : Value} {ss : List ByteArray} (h : OwU w B u ss) : Row w u ss := by
  rcases h.is with ⟨rfl, rfl⟩ | h
  · exact row_nil _
  · exact h.row
theorem OwU.kept {w w' : World} {B : Nat} {u : Value} {ss : List ByteArray} {row : Option Nat} (h : OwU w B u ss) (hg : w.grownBy w' row) (hne : u.ownBlock = none ∨ u.ownBlock ≠ row) : OwU w' B u ss := World.ownsRow.kept h hg hne
theorem OwU.below {w w' : World} {B : Nat} {u : Value} {ss : List ByteArray} (h : OwU w B u ss) (hb : Below w.heap.size w w') : OwU w' B u ss := by
  refine h.kept (D.grown_of_below hb none) ?_
  cases hu : u.ownBlock
  · exact Or.inl rfl
  · exact Or.inr (by simp)
theorem OwU.slice {w : World} {B : Nat} {u : Value} {ss : List ByteArray} (h : OwU w B u ss) : ∃ oa c, u = .slice oa ss.length c := by
  obtain ⟨oa, c, e, _⟩ := h.row
  exact ⟨oa, c, e⟩
theorem OwU.lt' {w : World} {B : Nat} {u : Value} {ss : List ByteArray} (h : OwU w B u ss) {b : Nat} (hb : u.ownBlock = some b) : B ≤ b ∧ b < w.heap.size := World.ownsRow.lt h b hb
/-- What is meant, as either answers it. -/
def MeantQ (X : World) (o : Out) (e : Ending) (W' : World) : Prop := ∃ u, e = .returned (mgV o.k o.n o.thr u o.code) ∧ OwU W' X.heap.size u o.said ∧ Below X.heap.size X W'
theorem specMeantQ (v : Value) (ss : List ByteArray) (a b : Int) (W : World) (hR : Row W v ss) (hS : Small ss) :
    Calls Tryz.prog 10 #[v, .agg #[.int .i64 a, .int .i64 b]] W (MeantQ W (meant (wsOf ss) a b)) :=
  (specMeant_any v ss a b W hR hS).mono fun _ _ ⟨u, he, ho, hb⟩ => ⟨u, he, ho, hb⟩
theorem implMeantQ (v : Value) (ss : List ByteArray) (a b : Int) (W : World) (hR : Row W v ss) (hS : Small ss) (hV : Vars W) :
    Calls Tryz.prog 7 #[v, .agg #[.int .i64 a, .int .i64 b]] W (MeantQ W (meant (wsOf ss) a b)) :=
  (implMeant_any v ss a b W hR hS hV).mono fun _ _ ⟨u, he, hh⟩ => ⟨u, he, hh.own, hh.below⟩
/-- A row that was marked, or nothing. -/
def Mkd (w : World) (u : Value) (n k0 : Nat) : Prop := (u = .slice none 0 0 ∧ n = 0) ∨ ∃ X cap, u = .slice (some ⟨X, 0, none⟩) n cap ∧ n ≤ cap ∧ Mem w X ((List.range n).map fun j => .string (mtxt (k0 + j)))
theorem Mkd.below {w w' : World} {u : Value} {n k0 : Nat} (h : Mkd w u n k0) (hb : Below w.heap.size w w') : Mkd w' u n k0 := by
  rcases h with h | ⟨X, cap, e, h1, h2⟩
  · exact Or.inl h
  · exact Or.inr ⟨X, cap, e, h1, h2.below hb⟩

/-- What marking leaves. -/
def MarkedU (u : Value) (n k : Nat) (w : World) (e : Ending) (w' : World) : Prop := e = .returned (.int .i64 ((k + n : Nat) : Int)) ∧ Mkd w' u n k ∧ w.grownBy w' u.ownBlock
end L2
end Go.Proofs.YtkhjbhkbknennaaGreatDoor
