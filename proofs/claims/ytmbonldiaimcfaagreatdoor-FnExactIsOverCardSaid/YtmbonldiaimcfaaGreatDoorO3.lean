/-
  What is right of a pile, on data; the small functions that both sides ask.
-/
import Derived.Test.YtmbonldiaimcfaaGreatDoorO2
import Derived.Test.YtmbonldiaimcfaaGreatDoorGX
namespace Go.Proofs.YtmbonldiaimcfaaGreatDoor
open Go.RowKit Go.Sort
namespace L2
open S1 L1

/-- Is it a right value, and no piece beyond so many? -/
def tellsB (cnt : Nat) (k n : Int) : Bool := okB k n && (decide (k = 0) || decide (n < (cnt : Int)))
/-- The same, as the program asks it. -/
theorem tells_numB (cnt : Nat) (k n : Int) : (numB k n || (pieB k n && decide (n < (cnt : Int)))) = tellsB cnt k n := by
  unfold tellsB okB
  by_cases hk : k = 0
  · subst hk
    simp [numB, pieB]
  · simp [numB, hk]
theorem tells_zero (cnt : Nat) : tellsB cnt 0 0 = true := by unfold tellsB; rw [show okB 0 0 = true by decide]; simp
theorem tells_num {cnt : Nat} {n : Int} (h : numB 0 n = true) : tellsB cnt 0 n = true := by unfold tellsB okB; rw [h]; simp
/-- Which words a plate of a kind stands at: by the word's number. -/
def kindC (k : Int) (c : Nat) : Bool :=
  if k = 1 then decide (c = 6) || decide (c = 7) || decide (c = 8) || decide (c = 2) || decide (c = 13) || decide (c = 10) || decide (c = 3) || decide (c = 12)
  else if k = 2 then decide (c = 6) || decide (c = 7) || decide (c = 8) || decide (c = 12)
  else if k = 6 then decide (c = 10) else if k = 7 then decide (c = 11) else if k = 8 then decide (c = 4) else decide (c = 9)
/-- The word at a place. -/
def wordC (ss : List ByteArray) (x : Int) : Nat := S1.code (ss.getD x.toNat ByteArray.empty).toList
/-- Is a plate one of a pile with that code, and so many pieces? -/
def fitP (ss : List ByteArray) (cnt : Nat) (p : Pl) : Bool := okPl p && placeB ss p.a && tellsB cnt p.ak p.an && tellsB cnt p.vk p.vn && kindC p.k (wordC ss p.a)
def fitPs (ss : List ByteArray) (cnt : Nat) (ps : List Pl) : Bool := decide (ps.length ≤ 60) && ps.all (fitP ss cnt)
def fitQs (ss : List ByteArray) (cnt : Nat) (qs : List (List Pl)) : Bool := decide (qs.length ≤ 20) && qs.all (fitPs ss cnt)
def fitS (ss : List ByteArray) : Bool := decide (ss.length ≤ 40) && ss.all fun s => rvOk s.toList
/-- Is its mode one, and what goes with it? -/
def modeB (p : Pil) : Bool :=
  if p.m = 0 then placeB p.c p.a && tellsB p.qs.length p.ak p.an && sameB p.vk p.vn 0 0
  else decide (p.a = 0) && sameB p.ak p.an 0 0 &&
    (if p.m = 1 ∨ p.m = 2 then tellsB p.qs.length p.vk p.vn
     else if p.m = 3 ∨ p.m = 4 then tellsB p.qs.length p.vk p.vn && decide (p.ps.length = 0)
     else if p.m = 5 ∨ p.m = 6 then sameB p.vk p.vn 0 0 && decide (p.ps.length = 0)
     else false)
def okPil (p : Pil) : Bool := okSum (wsOf p.c) && modeB p && fitPs p.c p.qs.length p.ps && fitQs p.c p.qs.length p.qs && fitS p.sd

end L2
end Go.Proofs.YtmbonldiaimcfaaGreatDoor
