/-
  Plates: what is right, on data; the model's and the program's small functions.
-/
import Derived.Test.YtkhjbhkbknennaaGL
namespace Go.Proofs.Ytkhjbhkbknennaa
open Go.RowKit
namespace L2
open L1

/-- A plate. -/
structure Pl where
  k : Int
  a : Int
  ak : Int
  an : Int
  vk : Int
  vn : Int
def plV (p : Pl) : Value := .agg #[.int .i64 p.k, .int .i64 p.a, .int .i64 p.ak, .int .i64 p.an, .int .i64 p.vk, .int .i64 p.vn]
/-- Which have what they are called with, and which a worth. -/
def argK (k : Int) : Bool := decide (k = 1) || decide (k = 3) || decide (k = 7)
def valK (k : Int) : Bool := decide (k = 2) || decide (k = 4) || decide (k = 5) || decide (k = 6)
def okPl (p : Pl) : Bool := inB p.k 1 8 && inB p.a 0 59 && okB p.ak p.an && okB p.vk p.vn && (argK p.k || sameB p.ak p.an 0 0) && (valK p.k || sameB p.vk p.vn 0 0)
def samePl (p q : Pl) : Bool := decide (p.k = q.k) && decide (p.a = q.a) && sameB p.ak p.an q.ak q.an && sameB p.vk p.vn q.vk q.vn
theorem samePl_iff {p q : Pl} : samePl p q = true ↔ p = q := by
  obtain ⟨k, a, b, c, d, e⟩ := p
  obtain ⟨k', a', b', c', d', e'⟩ := q
  simp [samePl, sameB]
  constructor
  · rintro ⟨⟨⟨h1, h2⟩, h3, h4⟩, h5, h6⟩; exact ⟨h1, h2, h3, h4, h5, h6⟩
  · rintro ⟨h1, h2, h3, h4, h5, h6⟩; exact ⟨⟨⟨h1, h2⟩, h3, h4⟩, h5, h6⟩
theorem samePl_refl (p : Pl) : samePl p p = true := samePl_iff.2 rfl

/-- A plate with no more than its kind has. -/
def ownPl (p : Pl) : Pl := ⟨p.k, p.a, if argK p.k then p.ak else 0, if argK p.k then p.an else 0, if valK p.k then p.vk else 0, if valK p.k then p.vn else 0⟩
theorem own_same (p : Pl) : samePl p (ownPl p) = ((argK p.k || sameB p.ak p.an 0 0) && (valK p.k || sameB p.vk p.vn 0 0)) := by
  unfold samePl ownPl
  cases argK p.k <;> cases valK p.k <;> simp [sameB]
theorem beq_int (a b : Int) : (a == b) = decide (a = b) := by by_cases h : a = b <;> simp [h]
/-- The kinds there are. -/
theorem kinds {k : Int} (h : inB k 1 8 = true) : k = 1 ∨ k = 2 ∨ k = 3 ∨ k = 4 ∨ k = 5 ∨ k = 6 ∨ k = 7 ∨ k = 8 := by
  simp [inB] at h
  omega

set_option maxRecDepth 100000 in
theorem toPlate_any (p : Pl) (w : World) :
    Calls Try.prog 15 #[plV p] w fun e w' => e = .returned (plV p) ∧ Below w.heap.size w w' := by
  obtain ⟨k, a, b, c, d, e⟩ := p
  unfold plV
  simp only
  go_enter Try.func15, Try.ntmps15
  go_wp2_with (go_at_call 20; refine (toValue_any _ _ _).mono ?_; rintro e w1 ⟨rfl, hb1⟩; have hs1 := hb1.size; obtain ⟨hc1, hf1⟩ := bcell hb1; have hz0 : w.heap.size < w1.heap.size := (by clear hc1 hf1; (try simp at hs1); omega); have hz1 : w.heap.size + 1 < w1.heap.size := (by clear hc1 hf1; (try simp at hs1); omega); have hz2 : w.heap.size + 1 + 1 < w1.heap.size := (by clear hc1 hf1; (try simp at hs1); omega))
  refine bodyPost_ret (v := .agg #[.int .i64 k, .int .i64 a, .int .i64 b, .int .i64 c, .int .i64 d, .int .i64 e]) (by simp [results, Try.results15, go_sem, *]) rfl ⟨rfl, ?_⟩
  clear hc1 hf1
  (repeat (first | (with_reducible refine Below.alloc ?_ ?_ _) | (with_reducible refine Below.setCell ?_ ?_ _) | (with_reducible refine Below.drew ?_) | (with_reducible exact Below.refl _ _) | (with_reducible refine Below.trans ?_ (Below.mono (by assumption) ?_)))) <;> (first | omega | (dsimp only; omega) | (simp; done) | (simp; omega) | (simp at *; omega))

-- GEN
end L2
end Go.Proofs.Ytkhjbhkbknennaa
