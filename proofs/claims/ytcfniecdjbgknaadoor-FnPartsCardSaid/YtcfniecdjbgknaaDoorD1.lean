/-
  Rows of words that a call makes: what they hold, and what appending leaves of them.
-/
import Derived.Test.YtcfniecdjbgknaaDoorW18
import Derived.Test.YtcfniecdjbgknaaDoorCur6
namespace Go.Proofs.YtcfniecdjbgknaaDoor
open Go.RowKit
namespace L2
open S1 L1

/-- A row of words in a block from B on, to which may be appended. -/
def OwS (w : World) (B : Nat) (v : Value) (xs : List ByteArray) : Prop :=
  w.ownsRow B 9 1 v xs.length (xs.map Value.string) ∧ v ≠ .slice none 0 0

theorem OwS.form {w : World} {B : Nat} {v : Value} {xs : List ByteArray} (h : OwS w B v xs) : ∃ g cap, v = .slice (some ⟨g, 0, none⟩) xs.length cap ∧ xs.length ≤ cap ∧ cap ≤ maxLen ∧ B ≤ g ∧ g < w.heap.size ∧ ∀ i, i < xs.length → w.cell? ⟨g, i, none⟩ = some (.string (xs.getD i ByteArray.empty)) ∧ w.frozen? ⟨g, i, none⟩ = false := by
  obtain ⟨ho, hn⟩ := h
  rcases ho.2 with ⟨hv, _⟩ | ⟨g, cap, cur, hv, hb, hg, h1, h2, hs, ht⟩
  · exact absurd hv hn
  · refine ⟨g, cap, hv, h1, h2, hb, (Array.getElem?_eq_some_iff.1 hg).1, fun i hi => ⟨?_, by simp [World.frozen?, hg]⟩⟩
    have hl : (xs.map Value.string)[i]? = some (.string (xs.getD i ByteArray.empty)) := by
      simp [List.getD, hi]
    have := ho.cells (g := g) (by rw [hv]; rfl) i _ hl
    have hadd : (⟨g, 0, none⟩ : Addr).add i = ⟨g, i, none⟩ := by unfold Addr.add; split <;> simp_all
    rwa [hadd] at this
theorem OwS.kept {w w' : World} {B : Nat} {v : Value} {xs : List ByteArray} {row : Option Nat} (h : OwS w B v xs) (hg : w.grownBy w' row) (hne : v.ownBlock ≠ row) : OwS w' B v xs :=
  ⟨h.1.kept hg (Or.inr hne), h.2⟩
theorem OwS.below {w w' : World} {B : Nat} {v : Value} {xs : List ByteArray} (h : OwS w B v xs) (hb : Below w.heap.size w w') : OwS w' B v xs := by
  obtain ⟨g, cap, rfl, _⟩ := h.form
  exact h.kept (D.grown_of_below hb none) (by simp [Value.ownBlock])
theorem OwS.alloc {w : World} {B : Nat} {v : Value} {xs : List ByteArray} (h : OwS w B v xs) (o : Obj) : OwS (w.alloc o) B v xs := ⟨h.1.alloc o, h.2⟩
theorem OwS.base {w : World} {B B' : Nat} {v : Value} {xs : List ByteArray} (h : OwS w B v xs) (hB : B' ≤ B) : OwS w B' v xs := by
  obtain ⟨ho, hn⟩ := h
  refine ⟨⟨ho.1, ?_⟩, hn⟩
  rcases ho.2 with hv | ⟨g, cap, cur, hv, hb, rest⟩
  · exact Or.inl hv
  · exact Or.inr ⟨g, cap, cur, hv, Nat.le_trans hB hb, rest⟩
theorem owS_new (w : World) (B : Nat) (hB : B ≤ w.heap.size) : OwS (w.alloc (.cells #[] 9)) B (.slice (some ⟨w.heap.size, 0, none⟩) 0 0) [] :=
  ⟨World.ownsRow_made w #[] 0 hB (by unfold maxLen; omega) (by simp), by simp⟩

/-- Appending words that lie at an address. -/
theorem run_appS (w : World) (B : Nat) (v : Value) (xs : List ByteArray) (hown : OwS w B v xs) (g : Nat) (ys : List ByteArray) (c : Nat)
    (hsrc : ∀ j, j < ys.length → w.cell? ⟨g, j, none⟩ = some (.string (ys.getD j ByteArray.empty))) (hs : xs.length + ys.length ≤ 1000000) (hB : B ≤ w.heap.size) :
    ∃ v' w', (Builtin.append_ #[37, 37] 37 #[v, .slice (some ⟨g, 0, none⟩) ys.length c]).run Tryd.prog w = .ok v' w' ∧ OwS w' B v' (xs ++ ys) ∧ w.grownBy w' v.ownBlock := by
  obtain ⟨ho, hn⟩ := hown
  obtain ⟨i, hi, hz, hsz, hby⟩ := str_info
  obtain ⟨v', w', hr, h2, h3, h4, h5⟩ := run_append_own_at (P := Tryd.prog) w B 37 37 9 i (.string ByteArray.empty) 1 16 Tryd.underlying37 hi hz hsz hby rfl (by omega) v xs.length _ ho ⟨g, 0, none⟩ ys.length c (ys.map Value.string) (by simp)
    (fun j u hj => by
      simp only [List.getElem?_map, Option.map_eq_some_iff] at hj
      obtain ⟨a, ha, rfl⟩ := hj
      have hlt := (List.getElem?_eq_some_iff.1 ha).1
      have := hsrc j hlt
      rw [add0]
      simpa [List.getD, ha] using this)
    (fun u hu => by
      simp only [List.mem_map] at hu
      obtain ⟨a, _, rfl⟩ := hu
      rfl) (by unfold maxLen; omega) (by omega) hB
  refine ⟨v', w', hr, ⟨?_, fun e => hn (h4.1 e).1⟩, h3⟩
  rw [List.map_append, List.length_append]
  exact h2

theorem run_appS1 (w : World) (B : Nat) (v : Value) (xs : List ByteArray) (hown : OwS w B v xs) (g : Nat) (s : ByteArray)
    (hc : w.cell? ⟨g, 0, none⟩ = some (.string s)) (hs : xs.length ≤ 900000) (hB : B ≤ w.heap.size) :
    ∃ v' w', (Builtin.append_ #[37, 37] 37 #[v, .slice (some ⟨g, 0, none⟩) 1 1]).run Tryd.prog w = .ok v' w' ∧ OwS w' B v' (xs ++ [s]) ∧ w.grownBy w' v.ownBlock :=
  run_appS w B v xs hown g [s] 1 (fun j hj => by
    have : j = 0 := by simpa using hj
    subst this
    exact hc) (by simp; omega) hB

/-- Words written out. -/
theorem owS_lit (w : World) (B : Nat) (ss : List ByteArray) (hB : B ≤ w.heap.size) (hn : ss.length ≤ 1000) :
    OwS (w.alloc (.cells (ss.map Value.string).toArray 9)) B (.slice (some ⟨w.heap.size, 0, none⟩) ss.length ss.length) ss := by
  refine ⟨?_, by simp⟩
  have h := World.ownsRow_lit (base := B) (e := 9) (size := 1) w (ss.map Value.string).toArray ss.length hB (by unfold maxLen; omega) (by simp)
  simpa using h
theorem OwS.row {w : World} {B : Nat} {v : Value} {ss : List ByteArray} (h : OwS w B v ss) : Row w v ss := by
  obtain ⟨g, cap, hv, h1, h2, h3, h4, h5⟩ := h.form
  exact ⟨_, cap, hv, h1, h2, fun i hi => ⟨g, 0, rfl, h4, by rw [Nat.zero_add]; exact (h5 i hi).1⟩⟩

/-- Short words. -/
def Short (ss : List ByteArray) : Prop := ∀ s ∈ ss, s.size ≤ 20
theorem Short.append {a b : List ByteArray} (h : Short a) (k : Short b) : Short (a ++ b) := fun s hs => by
  rcases List.mem_append.1 hs with h1 | h1
  · exact h s h1
  · exact k s h1
theorem Short.small {ss : List ByteArray} (h : Short ss) (hn : ss.length ≤ 1000) : Small ss :=
  ⟨by omega, fun i hi => by
    have : ss.getD i ByteArray.empty = ss[i] := by simp [List.getD, hi]
    rw [this]
    have := h _ (List.getElem_mem hi)
    omega⟩

/-- The cursor, while the call makes memory of its own from w0 on. -/
structure Cu (p : Nat) (v : Value) (n : Nat) (w0 w : World) : Prop where
  c : D.Cur w p v n
  g : w0.grownBy w (some p)
theorem Cu.start {p n : Nat} {v : Value} {w : World} (h : D.Cur w p v n) : Cu p v n w w := ⟨h, ⟨rfl, rfl, rfl, Nat.le_refl _, fun _ _ _ => rfl⟩⟩
theorem Cu.got {p n : Nat} {v : Value} {w0 w w1 : World} (h : Cu p v n w0 w) (hc : D.Cur w1 p v n) (hg : w.grownBy w1 (some p)) : Cu p v n w0 w1 := ⟨hc, h.g.trans hg⟩
theorem Cu.alloc {p n : Nat} {v : Value} {w0 w : World} (h : Cu p v n w0 w) (o : Obj) : Cu p v n w0 (w.alloc o) := ⟨h.c.alloc o, D.grown_alloc h.g o⟩
theorem Cu.below {p n : Nat} {v : Value} {w0 w w1 : World} (h : Cu p v n w0 w) (hb : Below w.heap.size w w1) : Cu p v n w0 w1 := ⟨h.c.below hb, h.g.trans (D.grown_of_below hb _)⟩
theorem Cu.row {p n : Nat} {v : Value} {w0 w w1 : World} {row : Option Nat} (h : Cu p v n w0 w) (hp : p < w0.heap.size) (hg : w.grownBy w1 row) (hr : ∀ k, row = some k → w0.heap.size ≤ k) : Cu p v n w0 w1 := by
  have hne : some p ≠ row := fun e => by have := hr p e.symm; omega
  refine ⟨?_, hg.os.trans h.g.os, hg.tape.trans h.g.tape, hg.output.trans h.g.output, Nat.le_trans h.g.size hg.size, fun k hk hkp => ?_⟩
  · obtain ⟨i, x, hi, hh⟩ := h.c
    exact ⟨i, x, hi, (hg.block p (lt_of_block hh) hne).trans hh⟩
  · have hkr : some k ≠ row := fun e => by have := hr k e.symm; omega
    exact (hg.block k (Nat.lt_of_lt_of_le hk h.g.size) hkr).trans (h.g.block k hk hkp)

end L2
end Go.Proofs.YtcfniecdjbgknaaDoor
