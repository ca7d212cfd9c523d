/-
  The draws' cursor: the block that it lies in, the bytes that it goes over, and what one byte of it leaves.
-/
import Derived.Test.YtcfniecdjbgknaaDoorChecked
import Derived.WalkKit
import Derived.ProofKit
import Derived.OpenShut
import Derived.BigQuiet
import Derived.Deep.QuietTactic
import Derived.WalkLawsBesides
import Derived.Outline
import Derived.Lib.Hide
import Derived.OneCell
import Derived.Maps.AppendAt
import Derived.Maps.Range
import Derived.Laws.BitsLemmas
import Derived.Deep.AppendLies
namespace Go.Proofs.YtcfniecdjbgknaaDoor
open Go.RowKit
namespace D

theorem and255 (n : Int) : bits .and .i64 n 255 = n % 256 := by
  have h : (BitVec.ofInt 64 255).toNat = 2 ^ 8 - 1 := by decide
  have key : (BitVec.ofInt 64 n &&& BitVec.ofInt 64 255).toNat = (n % ((2 ^ 64 : Nat) : Int)).toNat % 2 ^ 8 := by
    rw [BitVec.toNat_and, BitVec.toNat_ofInt, h, Nat.and_two_pow_sub_one_eq_mod]
  show IntKind.i64.wrap ((BitVec.ofInt 64 n &&& BitVec.ofInt 64 255).toNat : Nat) = n % 256
  rw [key, IntKind.wrap_i64]
  omega

/-- The bytes that came in: nil, or a row of a block that is not p's. -/
def Bytes (w : World) (p : Nat) (v : Value) (n : Nat) : Prop :=
  (v = .slice none 0 0 ∧ n = 0) ∨ (∃ a cap, v = .slice (some a) 0 cap ∧ n = 0) ∨ ∃ b off cap, v = .slice (some ⟨b, off, none⟩) n cap ∧ n ≤ cap ∧ cap ≤ maxLen ∧ b < w.heap.size ∧ b ≠ p ∧ ∀ i, i < n → ∃ z : Int, 0 ≤ z ∧ z ≤ 255 ∧ w.cell? ⟨b, off + i, none⟩ = some (.int .u8 z)

/-- The cursor in block p: the bytes, how many have been taken, the number that mixes. -/
def Cur (w : World) (p : Nat) (v : Value) (n : Nat) : Prop :=
  ∃ (i : Nat) (h : Int), i ≤ n ∧ w.heap[p]? = some (.cells #[v, .int .i64 (i : Int), .int .i64 h] 83 (0, 0))

theorem cell3 {w : World} {p : Nat} {a b c : Value} {t : TypeId} (h : w.heap[p]? = some (.cells #[a, b, c] t (0, 0))) :
    w.cell? ⟨p, 0, none⟩ = some a ∧ w.cell? ⟨p, 1, none⟩ = some b ∧ w.cell? ⟨p, 2, none⟩ = some c ∧ (∀ o, w.frozen? ⟨p, o, none⟩ = false) := by
  refine ⟨?_, ?_, ?_, ?_⟩ <;> simp [World.cell?, World.frozen?, h]

theorem set_block {w : World} {p o : Nat} {cs : Array Value} {t : TypeId} {u : Value} (h : w.heap[p]? = some (.cells cs t (0, 0))) : (w.setCell ⟨p, o, none⟩ u).heap[p]? = some (.cells (cs.setIfInBounds o u) t (0, 0)) := by
  have hlt := lt_of_block h
  have h' : w.heap[p] = .cells cs t (0, 0) := by simpa [Array.getElem?_eq_getElem hlt] using h
  show (w.heap.modify p _)[p]? = _
  rw [Array.getElem?_eq_getElem (by simpa using hlt), Array.getElem_modify_self, h']
  simp

/-- What one call on the cursor leaves: some number of that range, a cursor again, and nothing else turned. -/
def Got (p : Nat) (v : Value) (n : Nat) (lo hi : Int) (w : World) (e : Ending) (w' : World) : Prop :=
  ∃ x : Int, e = .returned (.int .i64 x) ∧ lo ≤ x ∧ x ≤ hi ∧ Cur w' p v n ∧ w.grownBy w' (some p)

theorem grown_set (w : World) (p o : Nat) (u : Value) : w.grownBy (w.setCell ⟨p, o, none⟩ u) (some p) :=
  ⟨rfl, rfl, rfl, by simp [World.setCell], fun k _ hne => Below.heap_setCell _ _ _ _ (by intro e; exact hne (by rw [e]))⟩
theorem grown_draws (w : World) (k : Nat) (row : Option Nat) : w.grownBy (w.drewN k) row := ⟨rfl, rfl, rfl, Nat.le_refl _, fun _ _ _ => rfl⟩

theorem Bytes.kept {w w' : World} {p : Nat} {v : Value} {n : Nat} (h : Bytes w p v n) (hg : w.grownBy w' (some p)) : Bytes w' p v n := by
  rcases h with h | h | ⟨b, off, cap, hv, h1, h2, h3, h4, h5⟩
  · exact Or.inl h
  · exact Or.inr (Or.inl h)
  · refine Or.inr (Or.inr ⟨b, off, cap, hv, h1, h2, Nat.lt_of_lt_of_le h3 hg.size, h4, fun i hi => ?_⟩)
    obtain ⟨z, a, c, d⟩ := h5 i hi
    exact ⟨z, a, c, hg.cell d (by intro e; exact h4 (by injection e))⟩

set_option maxRecDepth 100000 in
set_option maxHeartbeats 2000000 in
theorem l1Byte_any (p : Nat) (v : Value) (n : Nat) (w : World) (hC : Cur w p v n) (hB : Bytes w p v n) :
    Calls Tryd.prog 105 #[.pointer (some ⟨p, 0, none⟩)] w (Got p v n 0 255 w) := by
  obtain ⟨i, h, hi, hb⟩ := hC
  obtain ⟨c0, c1, c2, cf⟩ := cell3 hb
  have hf := cf 2
  have hf1 := cf 1
  have Hb := Lib.hid hb
  clear hb cf
  rcases hB with ⟨rfl, rfl⟩ | ⟨a, cap, rfl, rfl⟩ | ⟨b, off, cap, rfl, hn, hm, hbs, hbp, hz⟩
  · obtain rfl : i = 0 := by omega
    go_enter Tryd.func105, Tryd.ntmps105
    go_wp2
    go_quiet (fail)
    go_wp2
    go_quiet (fail)
    go_wp2
    go_ret
    exact ⟨_, rfl, by rw [and255]; omega, by rw [and255]; omega, ⟨0, _, hi, set_block (o := 2) Hb.out⟩, ((grown_set _ _ _ _).trans (grown_draws _ _ _)).trans (grown_draws _ _ _)⟩
  · obtain rfl : i = 0 := by omega
    go_enter Tryd.func105, Tryd.ntmps105
    go_wp2
    go_quiet (fail)
    go_wp2
    go_quiet (fail)
    go_wp2
    go_ret
    exact ⟨_, rfl, by rw [and255]; omega, by rw [and255]; omega, ⟨0, _, hi, set_block (o := 2) Hb.out⟩, ((grown_set _ _ _ _).trans (grown_draws _ _ _)).trans (grown_draws _ _ _)⟩
  · by_cases hlt : i < n
    · obtain ⟨z, z0, z1, hcz⟩ := hz i hlt
      have hi0 : (0 : Int) ≤ (i : Int) := by omega
      have hi1 : (i : Int) < (n : Int) := by omega
      have hbp' : ¬ p = b := fun e => hbp e.symm
      unfold maxLen at hm
      clear hz
      go_enter Tryd.func105, Tryd.ntmps105
      go_wp2
      go_quiet (fail)
      go_wp2
      go_quiet (fail)
      go_wp2
      go_quiet (fail)
      go_wp2
      go_ret
      exact ⟨_, rfl, by rw [and255]; omega, by rw [and255]; omega, ⟨i + 1, _, by omega, set_block (o := 1) (set_block (o := 2) Hb.out)⟩, ((grown_set _ _ _ _).trans (grown_draws _ _ _)).trans (grown_set _ _ _ _)⟩
    · have hi1 : ¬ (i : Int) < (n : Int) := by omega
      clear hz
      go_enter Tryd.func105, Tryd.ntmps105
      go_wp2
      go_quiet (fail)
      go_wp2
      go_quiet (fail)
      go_wp2
      go_ret
      exact ⟨_, rfl, by rw [and255]; omega, by rw [and255]; omega, ⟨i, _, hi, set_block (o := 2) Hb.out⟩, ((grown_set _ _ _ _).trans (grown_draws _ _ _)).trans (grown_draws _ _ _)⟩

/-- A cursor call handed on: what was left before, and what this call leaves. -/
theorem Got.base {p : Nat} {v : Value} {n : Nat} {lo hi : Int} {w w1 : World} {e : Ending} {w' : World} (hg : w.grownBy w1 (some p)) (h : Got p v n lo hi w1 e w') : Got p v n lo hi w e w' := by
  obtain ⟨x, he, h1, h2, hc, hk⟩ := h
  exact ⟨x, he, h1, h2, hc, hg.trans hk⟩

theorem l1Below_none (p : Nat) (v : Value) (n : Nat) (m : Int) (hm : m ≤ 0) (w : World) (hC : Cur w p v n) :
    Calls Tryd.prog 91 #[.pointer (some ⟨p, 0, none⟩), .int .i64 m] w (Got p v n 0 0 w) := by
  go_enter Tryd.func91, Tryd.ntmps91
  go_wp2
  go_ret
  exact ⟨0, rfl, by omega, by omega, hC, ⟨rfl, rfl, rfl, Nat.le_refl _, fun _ _ _ => rfl⟩⟩

theorem emod_bd (x m : Int) (hm : 0 < m) : 0 ≤ x % m ∧ x % m ≤ m - 1 := by
  have h1 := Int.emod_nonneg x (by omega : m ≠ 0)
  have h2 := Int.emod_lt_of_pos x hm
  omega

set_option maxHeartbeats 1000000 in
theorem l1Below_small (p : Nat) (v : Value) (n : Nat) (m : Int) (h0 : 0 < m) (h1 : m ≤ 256) (w : World) (hC : Cur w p v n) (hB : Bytes w p v n) :
    Calls Tryd.prog 91 #[.pointer (some ⟨p, 0, none⟩), .int .i64 m] w (Got p v n 0 (m - 1) w) := by
  have HC := Lib.hid hC
  have HB := Lib.hid hB
  clear hC hB
  go_enter Tryd.func91, Tryd.ntmps91
  go_wp2_with fail
  refine (l1Byte_any p v n _ HC.out HB.out).mono ?_
  rintro e w1 ⟨x, rfl, hx0, hx1, hC1, hg1⟩
  have HC1 := Lib.hid hC1
  clear hC1
  go_wp2
  go_ret
  exact ⟨_, rfl, (emod_bd x m h0).1, (emod_bd x m h0).2, HC1.out, hg1⟩

set_option maxHeartbeats 2000000 in
theorem l1Below_big (p : Nat) (v : Value) (n : Nat) (m : Int) (h1 : 256 < m) (h2 : m ≤ 9223372036854775807) (w : World) (hC : Cur w p v n) (hB : Bytes w p v n) :
    Calls Tryd.prog 91 #[.pointer (some ⟨p, 0, none⟩), .int .i64 m] w (Got p v n 0 (m - 1) w) := by
  have HC := Lib.hid hC
  have HB := Lib.hid hB
  clear hC hB
  go_enter Tryd.func91, Tryd.ntmps91
  go_wp2_with fail
  refine (l1Byte_any p v n _ HC.out HB.out).mono ?_
  rintro e w1 ⟨x, rfl, hx0, hx1, hC1, hg1⟩
  have HC1 := Lib.hid hC1
  have HB1 := Lib.hid (HB.out.kept hg1)
  clear hC1
  go_wp2_with fail
  refine (l1Byte_any p v n _ HC1.out HB1.out).mono ?_
  rintro e w2 ⟨y, rfl, hy0, hy1, hC2, hg2⟩
  have HC2 := Lib.hid hC2
  have HB2 := Lib.hid (HB1.out.kept hg2)
  clear hC2
  go_wp2_with fail
  refine (l1Byte_any p v n _ HC2.out HB2.out).mono ?_
  rintro e w3 ⟨z, rfl, hz0, hz1, hC3, hg3⟩
  have HC3 := Lib.hid hC3
  have HB3 := Lib.hid (HB2.out.kept hg3)
  clear hC3
  go_wp2_with fail
  refine (l1Byte_any p v n _ HC3.out HB3.out).mono ?_
  rintro e w4 ⟨u, rfl, hu0, hu1, hC4, hg4⟩
  have HC4 := Lib.hid hC4
  clear hC4
  go_wp2
  go_ret
  exact ⟨_, rfl, (emod_bd _ m (by omega)).1, (emod_bd _ m (by omega)).2, HC4.out, ((hg1.trans hg2).trans hg3).trans hg4⟩

/-- A number below m: nought where m is not above nought. -/
theorem l1Below_any (p : Nat) (v : Value) (n : Nat) (m : Int) (h0 : 0 < m) (h2 : m ≤ 9223372036854775807) (w : World) (hC : Cur w p v n) (hB : Bytes w p v n) :
    Calls Tryd.prog 91 #[.pointer (some ⟨p, 0, none⟩), .int .i64 m] w (Got p v n 0 (m - 1) w) := by
  by_cases h : m ≤ 256
  · exact l1Below_small p v n m h0 h w hC hB
  · exact l1Below_big p v n m (by omega) h2 w hC hB

/-- What a call on the cursor leaves that answers yes or no. -/
def GotB (p : Nat) (v : Value) (n : Nat) (w : World) (e : Ending) (w' : World) : Prop :=
  ∃ b : Bool, e = .returned (.bool b) ∧ Cur w' p v n ∧ w.grownBy w' (some p)

theorem l1Once_any (p : Nat) (v : Value) (n : Nat) (m : Int) (h0 : 0 < m) (h2 : m ≤ 9223372036854775807) (w : World) (hC : Cur w p v n) (hB : Bytes w p v n) :
    Calls Tryd.prog 62 #[.pointer (some ⟨p, 0, none⟩), .int .i64 m] w (GotB p v n w) := by
  have HC := Lib.hid hC
  have HB := Lib.hid hB
  clear hC hB
  go_enter Tryd.func62, Tryd.ntmps62
  go_wp2_with fail
  refine (l1Below_any p v n m h0 h2 _ HC.out HB.out).mono ?_
  rintro e w1 ⟨x, rfl, hx0, hx1, hC1, hg1⟩
  have HC1 := Lib.hid hC1
  clear hC1
  go_wp2
  go_ret
  exact ⟨_, rfl, HC1.out, hg1⟩

theorem l1From_any (p : Nat) (v : Value) (n : Nat) (lo hi : Int) (h0 : lo ≤ hi) (h1 : -1000000000000 ≤ lo) (h2 : hi ≤ 1000000000000) (w : World) (hC : Cur w p v n) (hB : Bytes w p v n) :
    Calls Tryd.prog 95 #[.pointer (some ⟨p, 0, none⟩), .int .i64 lo, .int .i64 hi] w (Got p v n lo hi w) := by
  have HC := Lib.hid hC
  have HB := Lib.hid hB
  clear hC hB
  go_enter Tryd.func95, Tryd.ntmps95
  go_wp2_with fail
  refine (l1Below_any p v n _ (by omega) (by omega) _ HC.out HB.out).mono ?_
  rintro e w1 ⟨x, rfl, hx0, hx1, hC1, hg1⟩
  have HC1 := Lib.hid hC1
  clear hC1
  go_wp2
  go_ret
  exact ⟨_, rfl, by omega, by omega, HC1.out, hg1⟩

/-- What a call on the cursor leaves that answers a value. -/
def GotV (p : Nat) (v : Value) (n : Nat) (w : World) (e : Ending) (w' : World) : Prop :=
  ∃ k x : Int, e = .returned (.agg #[.int .i64 k, .int .i64 x]) ∧ Cur w' p v n ∧ w.grownBy w' (some p)

end D
end Go.Proofs.YtcfniecdjbgknaaDoor
