/-
  Gathered in one text, in this order: Cur, Cur2, Cur3, Cur4, Cur5, Cur6.
-/
import Derived.Test.YtkhjbhkbknennaaGreatDoorChecked
import Derived.WalkKit
import Derived.ProofKit
import Derived.OpenShut
import Derived.BigQuiet
import Derived.Deep.QuietTactic
import Derived.WalkLawsBesides
import Derived.Outline
import Derived.Lib.Hide
import Derived.OneCell
import Derived.Maps.AppendAt
import Derived.Maps.Range
import Derived.Laws.BitsLemmas
import Derived.Deep.AppendLies
import Derived.Deep.RegionHeld3
import Derived.Deep.DrawnRows
import Derived.Deep.DeepCutAuto
import Derived.Deep.Light
import Derived.Test.YtkhjbhkbknennaaGreatDoorGA
import Derived.Laws.IdiomStrings
/-
  The draws' cursor: the block that it lies in, the bytes that it goes over, and what one byte of it leaves.
-/
namespace Go.Proofs.YtkhjbhkbknennaaGreatDoor
open Go.RowKit
namespace D

theorem and255 (n : Int) : bits .and .i64 n 255 = n % 256 := by
  have h : (BitVec.ofInt 64 255).toNat = 2 ^ 8 - 1 := by decide
  have key : (BitVec.ofInt 64 n &&& BitVec.ofInt 64 255).toNat = (n % ((2 ^ 64 : Nat) : Int)).toNat % 2 ^ 8 := by
    rw [BitVec.toNat_and, BitVec.toNat_ofInt, h, Nat.and_two_pow_sub_one_eq_mod]
  show IntKind.i64.wrap ((BitVec.ofInt 64 n &&& BitVec.ofInt 64 255).toNat : Nat) = n % 256
  rw [key, IntKind.wrap_i64]
  omega

/-- The bytes that came in: nil, or a row of a block that is not p's. -/
def Bytes (w : World) (p : Nat) (v : Value) (n : Nat) : Prop :=
  (v = .slice none 0 0 ∧ n = 0) ∨ (∃ a cap, v = .slice (some a) 0 cap ∧ n = 0) ∨ ∃ b off cap, v = .slice (some ⟨b, off, none⟩) n cap ∧ n ≤ cap ∧ cap ≤ maxLen ∧ b < w.heap.size ∧ b ≠ p ∧ ∀ i, i < n → ∃ z : Int, 0 ≤ z ∧ z ≤ 255 ∧ w.cell? ⟨b, off + i, none⟩ = some (.int .u8 z)

/-- The cursor in block p: the bytes, how many have been taken, the number that mixes. -/
def Cur (w : World) (p : Nat) (v : Value) (n : Nat) : Prop :=
  ∃ (i : Nat) (h : Int), i ≤ n ∧ w.heap[p]? = some (.cells #[v, .int .i64 (i : Int), .int .i64 h] 93 (0, 0))

theorem cell3 {w : World} {p : Nat} {a b c : Value} {t : TypeId} (h : w.heap[p]? = some (.cells #[a, b, c] t (0, 0))) :
    w.cell? ⟨p, 0, none⟩ = some a ∧ w.cell? ⟨p, 1, none⟩ = some b ∧ w.cell? ⟨p, 2, none⟩ = some c ∧ (∀ o, w.frozen? ⟨p, o, none⟩ = false) := by
  refine ⟨?_, ?_, ?_, ?_⟩ <;> simp [World.cell?, World.frozen?, h]

theorem set_block {w : World} {p o : Nat} {cs : Array Value} {t : TypeId} {u : Value} (h : w.heap[p]? = some (.cells cs t (0, 0))) : (w.setCell ⟨p, o, none⟩ u).heap[p]? = some (.cells (cs.setIfInBounds o u) t (0, 0)) := by
  have hlt := lt_of_block h
  have h' : w.heap[p] = .cells cs t (0, 0) := by simpa [Array.getElem?_eq_getElem hlt] using h
  show (w.heap.modify p _)[p]? = _
  rw [Array.getElem?_eq_getElem (by simpa using hlt), Array.getElem_modify_self, h']
  simp

/-- What one call on the cursor leaves: some number of that range, a cursor again, and nothing else turned. -/
def Got (p : Nat) (v : Value) (n : Nat) (lo hi : Int) (w : World) (e : Ending) (w' : World) : Prop :=
  ∃ x : Int, e = .returned (.int .i64 x) ∧ lo ≤ x ∧ x ≤ hi ∧ Cur w' p v n ∧ w.grownBy w' (some p)

theorem grown_set (w : World) (p o : Nat) (u : Value) : w.grownBy (w.setCell ⟨p, o, none⟩ u) (some p) :=
  ⟨rfl, rfl, rfl, by simp [World.setCell], fun k _ hne => Below.heap_setCell _ _ _ _ (by intro e; exact hne (by rw [e]))⟩
theorem grown_draws (w : World) (k : Nat) (row : Option Nat) : w.grownBy (w.drewN k) row := ⟨rfl, rfl, rfl, Nat.le_refl _, fun _ _ _ => rfl⟩

theorem Bytes.kept {w w' : World} {p : Nat} {v : Value} {n : Nat} (h : Bytes w p v n) (hg : w.grownBy w' (some p)) : Bytes w' p v n := by
  rcases h with h | h | ⟨b, off, cap, hv, h1, h2, h3, h4, h5⟩
  · exact Or.inl h
  · exact Or.inr (Or.inl h)
  · refine Or.inr (Or.inr ⟨b, off, cap, hv, h1, h2, Nat.lt_of_lt_of_le h3 hg.size, h4, fun i hi => ?_⟩)
    obtain ⟨z, a, c, d⟩ := h5 i hi
    exact ⟨z, a, c, hg.cell d (by intro e; exact h4 (by injection e))⟩

set_option maxRecDepth 100000 in
set_option maxHeartbeats 2000000 in
theorem l1Byte_any (p : Nat) (v : Value) (n : Nat) (w : World) (hC : Cur w p v n) (hB : Bytes w p v n) :
    Calls Tryz.prog 108 #[.pointer (some ⟨p, 0, none⟩)] w (Got p v n 0 255 w) := by
  obtain ⟨i, h, hi, hb⟩ := hC
  obtain ⟨c0, c1, c2, cf⟩ := cell3 hb
  have hf := cf 2
  have hf1 := cf 1
  have Hb := Lib.hid hb
  clear hb cf
  rcases hB with ⟨rfl, rfl⟩ | ⟨a, cap, rfl, rfl⟩ | ⟨b, off, cap, rfl, hn, hm, hbs, hbp, hz⟩
  · obtain rfl : i = 0 := by omega
    go_enter Tryz.func108, Tryz.ntmps108
    go_wp2
    go_quiet (fail)
    go_wp2
    go_quiet (fail)
    go_wp2
    go_ret
    exact ⟨_, rfl, by rw [and255]; omega, by rw [and255]; omega, ⟨0, _, hi, set_block (o := 2) Hb.out⟩, ((grown_set _ _ _ _).trans (grown_draws _ _ _)).trans (grown_draws _ _ _)⟩
  · obtain rfl : i = 0 := by omega
    go_enter Tryz.func108, Tryz.ntmps108
    go_wp2
    go_quiet (fail)
    go_wp2
    go_quiet (fail)
    go_wp2
    go_ret
    exact ⟨_, rfl, by rw [and255]; omega, by rw [and255]; omega, ⟨0, _, hi, set_block (o := 2) Hb.out⟩, ((grown_set _ _ _ _).trans (grown_draws _ _ _)).trans (grown_draws _ _ _)⟩
  · by_cases hlt : i < n
    · obtain ⟨z, z0, z1, hcz⟩ := hz i hlt
      have hi0 : (0 : Int) ≤ (i : Int) := by omega
      have hi1 : (i : Int) < (n : Int) := by omega
      have hbp' : ¬ p = b := fun e => hbp e.symm
      unfold maxLen at hm
      clear hz
      go_enter Tryz.func108, Tryz.ntmps108
      go_wp2
      go_quiet (fail)
      go_wp2
      go_quiet (fail)
      go_wp2
      go_quiet (fail)
      go_wp2
      go_ret
      exact ⟨_, rfl, by rw [and255]; omega, by rw [and255]; omega, ⟨i + 1, _, by omega, set_block (o := 1) (set_block (o := 2) Hb.out)⟩, ((grown_set _ _ _ _).trans (grown_draws _ _ _)).trans (grown_set _ _ _ _)⟩
    · have hi1 : ¬ (i : Int) < (n : Int) := by omega
      clear hz
      go_enter Tryz.func108, Tryz.ntmps108
      go_wp2
      go_quiet (fail)
      go_wp2
      go_quiet (fail)
      go_wp2
      go_ret
      exact ⟨_, rfl, by rw [and255]; omega, by rw [and255]; omega, ⟨i, _, hi, set_block (o := 2) Hb.out⟩, ((grown_set _ _ _ _).trans (grown_draws _ _ _)).trans (grown_draws _ _ _)⟩

/-- A cursor call handed on: what was left before, and what this call leaves. -/
theorem Got.base {p : Nat} {v : Value} {n : Nat} {lo hi : Int} {w w1 : World} {e : Ending} {w' : World} (hg : w.grownBy w1 (some p)) (h : Got p v n lo hi w1 e w') : Got p v n lo hi w e w' := by
  obtain ⟨x, he, h1, h2, hc, hk⟩ := h
  exact ⟨x, he, h1, h2, hc, hg.trans hk⟩

theorem l1Below_none (p : Nat) (v : Value) (n : Nat) (m : Int) (hm : m ≤ 0) (w : World) (hC : Cur w p v n) :
    Calls Tryz.prog 72 #[.pointer (some ⟨p, 0, none⟩), .int .i64 m] w (Got p v n 0 0 w) := by
  go_enter Tryz.func72, Tryz.ntmps72
  go_wp2
  go_ret
  exact ⟨0, rfl, by omega, by omega, hC, ⟨rfl, rfl, rfl, Nat.le_refl _, fun _ _ _ => rfl⟩⟩

theorem emod_bd (x m : Int) (hm : 0 < m) : 0 ≤ x % m ∧ x % m ≤ m - 1 := by
  have h1 := Int.emod_nonneg x (by omega : m ≠ 0)
  have h2 := Int.emod_lt_of_pos x hm
  omega

set_option maxHeartbeats 1000000 in
theorem l1Below_small (p : Nat) (v : Value) (n : Nat) (m : Int) (h0 : 0 < m) (h1 : m ≤ 256) (w : World) (hC : Cur w p v n) (hB : Bytes w p v n) :
    Calls Tryz.prog 72 #[.pointer (some ⟨p, 0, none⟩), .int .i64 m] w (Got p v n 0 (m - 1) w) := by
  have HC := Lib.hid hC
  have HB := Lib.hid hB
  clear hC hB
  go_enter Tryz.func72, Tryz.ntmps72
  go_wp2_with fail
  refine (l1Byte_any p v n _ HC.out HB.out).mono ?_
  rintro e w1 ⟨x, rfl, hx0, hx1, hC1, hg1⟩
  have HC1 := Lib.hid hC1
  clear hC1
  go_wp2
  go_ret
  exact ⟨_, rfl, (emod_bd x m h0).1, (emod_bd x m h0).2, HC1.out, hg1⟩

set_option maxHeartbeats 2000000 in
theorem l1Below_big (p : Nat) (v : Value) (n : Nat) (m : Int) (h1 : 256 < m) (h2 : m ≤ 9223372036854775807) (w : World) (hC : Cur w p v n) (hB : Bytes w p v n) :
    Calls Tryz.prog 72 #[.pointer (some ⟨p, 0, none⟩), .int .i64 m] w (Got p v n 0 (m - 1) w) := by
  have HC := Lib.hid hC
  have HB := Lib.hid hB
  clear hC hB
  go_enter Tryz.func72, Tryz.ntmps72
  go_wp2_with fail
  refine (l1Byte_any p v n _ HC.out HB.out).mono ?_
  rintro e w1 ⟨x, rfl, hx0, hx1, hC1, hg1⟩
  have HC1 := Lib.hid hC1
  have HB1 := Lib.hid (HB.out.kept hg1)
  clear hC1
  go_wp2_with fail
  refine (l1Byte_any p v n _ HC1.out HB1.out).mono ?_
  rintro e w2 ⟨y, rfl, hy0, hy1, hC2, hg2⟩
  have HC2 := Lib.hid hC2
  have HB2 := Lib.hid (HB1.out.kept hg2)
  clear hC2
  go_wp2_with fail
  refine (l1Byte_any p v n _ HC2.out HB2.out).mono ?_
  rintro e w3 ⟨z, rfl, hz0, hz1, hC3, hg3⟩
  have HC3 := Lib.hid hC3
  have HB3 := Lib.hid (HB2.out.kept hg3)
  clear hC3
  go_wp2_with fail
  refine (l1Byte_any p v n _ HC3.out HB3.out).mono ?_
  rintro e w4 ⟨u, rfl, hu0, hu1, hC4, hg4⟩
  have HC4 := Lib.hid hC4
  clear hC4
  go_wp2
  go_ret
  exact ⟨_, rfl, (emod_bd _ m (by omega)).1, (emod_bd _ m (by omega)).2, HC4.out, ((hg1.trans hg2).trans hg3).trans hg4⟩

/-- A number below m: nought where m is not above nought. -/
theorem l1Below_any (p : Nat) (v : Value) (n : Nat) (m : Int) (h0 : 0 < m) (h2 : m ≤ 9223372036854775807) (w : World) (hC : Cur w p v n) (hB : Bytes w p v n) :
    Calls Tryz.prog 72 #[.pointer (some ⟨p, 0, none⟩), .int .i64 m] w (Got p v n 0 (m - 1) w) := by
  by_cases h : m ≤ 256
  · exact l1Below_small p v n m h0 h w hC hB
  · exact l1Below_big p v n m (by omega) h2 w hC hB

/-- What a call on the cursor leaves that answers yes or no. -/
def GotB (p : Nat) (v : Value) (n : Nat) (w : World) (e : Ending) (w' : World) : Prop :=
  ∃ b : Bool, e = .returned (.bool b) ∧ Cur w' p v n ∧ w.grownBy w' (some p)

theorem l1Once_any (p : Nat) (v : Value) (n : Nat) (m : Int) (h0 : 0 < m) (h2 : m ≤ 9223372036854775807) (w : World) (hC : Cur w p v n) (hB : Bytes w p v n) :
    Calls Tryz.prog 29 #[.pointer (some ⟨p, 0, none⟩), .int .i64 m] w (GotB p v n w) := by
  have HC := Lib.hid hC
  have HB := Lib.hid hB
  clear hC hB
  go_enter Tryz.func29, Tryz.ntmps29
  go_wp2_with fail
  refine (l1Below_any p v n m h0 h2 _ HC.out HB.out).mono ?_
  rintro e w1 ⟨x, rfl, hx0, hx1, hC1, hg1⟩
  have HC1 := Lib.hid hC1
  clear hC1
  go_wp2
  go_ret
  exact ⟨_, rfl, HC1.out, hg1⟩

theorem l1From_any (p : Nat) (v : Value) (n : Nat) (lo hi : Int) (h0 : lo ≤ hi) (h1 : -1000000000000 ≤ lo) (h2 : hi ≤ 1000000000000) (w : World) (hC : Cur w p v n) (hB : Bytes w p v n) :
    Calls Tryz.prog 38 #[.pointer (some ⟨p, 0, none⟩), .int .i64 lo, .int .i64 hi] w (Got p v n lo hi w) := by
  have HC := Lib.hid hC
  have HB := Lib.hid hB
  clear hC hB
  go_enter Tryz.func38, Tryz.ntmps38
  go_wp2_with fail
  refine (l1Below_any p v n _ (by omega) (by omega) _ HC.out HB.out).mono ?_
  rintro e w1 ⟨x, rfl, hx0, hx1, hC1, hg1⟩
  have HC1 := Lib.hid hC1
  clear hC1
  go_wp2
  go_ret
  exact ⟨_, rfl, by omega, by omega, HC1.out, hg1⟩

/-- What a call on the cursor leaves that answers a value. -/
def GotV (p : Nat) (v : Value) (n : Nat) (w : World) (e : Ending) (w' : World) : Prop :=
  ∃ k x : Int, e = .returned (.agg #[.int .i64 k, .int .i64 x]) ∧ Cur w' p v n ∧ w.grownBy w' (some p)

end D
end Go.Proofs.YtkhjbhkbknennaaGreatDoor

/-
  The draws' cursor: a new one; values that are drawn.
-/
namespace Go.Proofs.YtkhjbhkbknennaaGreatDoor
open Go.RowKit
namespace D

/-- The bytes that came in: nil, or a row of an old block. -/
def Came (w : World) (v : Value) (n : Nat) : Prop :=
  (v = .slice none 0 0 ∧ n = 0) ∨ (∃ a cap, v = .slice (some a) 0 cap ∧ n = 0) ∨ ∃ b off cap, v = .slice (some ⟨b, off, none⟩) n cap ∧ n ≤ cap ∧ cap ≤ maxLen ∧ b < w.heap.size ∧ ∀ i, i < n → ∃ z : Int, 0 ≤ z ∧ z ≤ 255 ∧ w.cell? ⟨b, off + i, none⟩ = some (.int .u8 z)

theorem Came.below {w w' : World} {v : Value} {n : Nat} (h : Came w v n) (hb : Below w.heap.size w w') : Came w' v n := by
  rcases h with h | h | ⟨b, off, cap, hv, h1, h2, h3, h5⟩
  · exact Or.inl h
  · exact Or.inr (Or.inl h)
  · refine Or.inr (Or.inr ⟨b, off, cap, hv, h1, h2, Nat.lt_of_lt_of_le h3 hb.size, fun i hi => ?_⟩)
    obtain ⟨z, a, c, d⟩ := h5 i hi
    exact ⟨z, a, c, (hb.cell (p := ⟨b, off + i, none⟩) h3).trans d⟩

theorem Came.bytes {w : World} {v : Value} {n : Nat} (h : Came w v n) (o : Obj) : Bytes (w.alloc o) w.heap.size v n := by
  rcases h with h | h | ⟨b, off, cap, hv, h1, h2, h3, h5⟩
  · exact Or.inl h
  · exact Or.inr (Or.inl h)
  · refine Or.inr (Or.inr ⟨b, off, cap, hv, h1, h2, by simp; omega, by omega, fun i hi => ?_⟩)
    obtain ⟨z, a, c, d⟩ := h5 i hi
    exact ⟨z, a, c, (((Below.refl w.heap.size w).alloc (Nat.le_refl _) o).cell (p := ⟨b, off + i, none⟩) h3).trans d⟩

/-- What a new cursor is: a new block. -/
def Made (v : Value) (w : World) (e : Ending) (w' : World) : Prop :=
  ∃ h : Int, e = .returned (.pointer (some ⟨w.heap.size, 0, none⟩)) ∧ w' = w.alloc (.cells #[v, .int .i64 0, .int .i64 h] 93)

set_option maxRecDepth 100000 in
set_option maxHeartbeats 1000000 in
theorem l1New_any (v : Value) (n : Nat) (w : World) (hC : Came w v n) :
    Calls Tryz.prog 27 #[v] w (Made v w) := by
  rcases hC with ⟨rfl, rfl⟩ | ⟨a, cap, rfl, rfl⟩ | ⟨b, off, cap, rfl, hn, hm, hbs, hz⟩
  · go_enter Tryz.func27, Tryz.ntmps27
    go_wp2
    go_loop [3, 4] (fun h k => ∃ x : Int, h = .int .i64 x ∧ k = .int .i64 0) (fun _ _ => 0)
    case atStart => exact ⟨_, rfl, rfl⟩
    case round =>
      obtain ⟨x, rfl, rfl⟩ := hrel
      go_wp2
      go_ret
      exact ⟨_, rfl, rfl⟩
  · go_enter Tryz.func27, Tryz.ntmps27
    go_wp2
    go_loop [3, 4] (fun h k => ∃ x : Int, h = .int .i64 x ∧ k = .int .i64 0) (fun _ _ => 0)
    case atStart => exact ⟨_, rfl, rfl⟩
    case round =>
      obtain ⟨x, rfl, rfl⟩ := hrel
      go_wp2
      go_ret
      exact ⟨_, rfl, rfl⟩
  · unfold maxLen at hm
    go_enter Tryz.func27, Tryz.ntmps27
    go_wp2
    go_loop [3, 4] (fun h k => ∃ (x : Int) (j : Nat), j ≤ n ∧ h = .int .i64 x ∧ k = .int .i64 (j : Int)) (fun _ k => n - (intOf k).toNat)
    case atStart => exact ⟨_, 0, Nat.zero_le _, rfl, rfl⟩
    case round =>
      obtain ⟨x, j, hj, rfl, rfl⟩ := hrel
      by_cases hlt : j < n
      · obtain ⟨z, z0, z1, hcz⟩ := hz j hlt
        have hi1 : (j : Int) < (n : Int) := by omega
        clear hz
        go_wp2
        go_round
        case rel => exact ⟨_, j + 1, by omega, rfl, by go_num⟩
        case measure => simp [intOf]; omega
      · have hi1 : ¬ (j : Int) < (n : Int) := by omega
        clear hz
        go_wp2
        go_ret
        exact ⟨_, rfl, rfl⟩

theorem Cur.lt {w : World} {p : Nat} {v : Value} {n : Nat} (h : Cur w p v n) : p < w.heap.size := by
  obtain ⟨i, x, _, hb⟩ := h
  exact lt_of_block hb
theorem Cur.alloc {w : World} {p : Nat} {v : Value} {n : Nat} (h : Cur w p v n) (o : Obj) : Cur (w.alloc o) p v n := by
  have hlt := h.lt
  obtain ⟨i, x, hi, hb⟩ := h
  exact ⟨i, x, hi, (Below.heap_alloc w o p hlt).trans hb⟩
theorem Cur.setCell {w : World} {p : Nat} {v : Value} {n : Nat} (h : Cur w p v n) (a : Addr) (u : Value) (hne : p ≠ a.block) : Cur (w.setCell a u) p v n := by
  obtain ⟨i, x, hi, hb⟩ := h
  exact ⟨i, x, hi, (Below.heap_setCell w a u p hne).trans hb⟩
theorem grown_alloc {w w1 : World} {row : Option Nat} (h : w.grownBy w1 row) (o : Obj) : w.grownBy (w1.alloc o) row := h.trans (World.grownBy_alloc w1 o row)
theorem grown_new {w w1 : World} {row : Option Nat} (h : w.grownBy w1 row) (a : Addr) (u : Value) (ha : w.heap.size ≤ a.block) : w.grownBy (w1.setCell a u) row :=
  ⟨h.os, h.tape, h.output, by simpa [World.setCell] using h.size, fun k hk hne => (Below.heap_setCell w1 a u k (by omega)).trans (h.block k hk hne)⟩
/-- A cell of the call's own, and that it may be written, behind calls on the cursor. -/
theorem own_kept {w w1 : World} {p b o : Nat} {u : Value} (hg : w.grownBy w1 (some p)) (hc : w.cell? ⟨b, o, none⟩ = some u) (hf : w.frozen? ⟨b, o, none⟩ = false) (hne : b ≠ p) : w1.cell? ⟨b, o, none⟩ = some u ∧ w1.frozen? ⟨b, o, none⟩ = false := by
  have hlt := World.block_lt_of_cell? w ⟨b, o, none⟩ hc
  have hn : some b ≠ some p := fun e => hne (Option.some.inj e)
  exact ⟨hg.cell hc hn, (hg.frozen_far ⟨b, o, none⟩ hlt hn).trans hf⟩
/-- A new box of two cells: what it holds, behind calls on the cursor. -/
theorem box_kept {w w1 : World} {p : Nat} {x y : Value} {t : TypeId} (hg : (w.alloc (.cells #[x, y] t)).grownBy w1 (some p)) (hp : p < w.heap.size) :
    (w1.cell? ⟨w.heap.size, 0, none⟩ = some x ∧ w1.frozen? ⟨w.heap.size, 0, none⟩ = false) ∧ (w1.cell? ⟨w.heap.size, 1, none⟩ = some y ∧ w1.frozen? ⟨w.heap.size, 1, none⟩ = false) :=
  ⟨own_kept hg (by simp [go_sem]) (by simp [go_sem]) (by omega), own_kept hg (by simp [go_sem]) (by simp [go_sem]) (by omega)⟩

set_option maxHeartbeats 1000000 in
theorem drawValue_any (p : Nat) (v : Value) (n : Nat) (w : World) (hC : Cur w p v n) (hB : Bytes w p v n) :
    Calls Tryz.prog 37 #[.pointer (some ⟨p, 0, none⟩)] w (GotV p v n w) := by
  have hp := hC.lt
  have HC := Lib.hid (hC.alloc (.cells #[.int .i64 0, .int .i64 0] 26))
  have HB := Lib.hid (hB.kept (World.grownBy_alloc w (.cells #[.int .i64 0, .int .i64 0] 26) (some p)))
  clear hC hB
  go_enter Tryz.func37, Tryz.ntmps37
  go_wp2_with fail
  refine (l1Once_any p v n 5 (by omega) (by omega) _ HC.out HB.out).mono ?_
  rintro e w1 ⟨q, rfl, hC1, hg1⟩
  have HC1 := Lib.hid hC1
  have HB1 := Lib.hid (HB.out.kept hg1)
  clear hC1
  cases q
  · go_wp2_with fail
    refine (l1Below_any p v n 9 (by omega) (by omega) _ HC1.out HB1.out).mono ?_
    rintro e w2 ⟨x, rfl, hx0, hx1, hC2, hg2⟩
    have hbx := box_kept (hg1.trans hg2) hp
    obtain ⟨⟨c0, f0⟩, ⟨c1, f1⟩⟩ := hbx
    have HC2 := Lib.hid hC2
    clear hC2
    go_wp2
    refine bodyPost_ret (v := .agg #[.int .i64 0, .int .i64 (x - 3)]) (by simp [results, Tryz.results37, go_sem, c0, c1]) rfl ⟨_, _, rfl, (HC2.out.setCell _ _ (by simp; omega)).setCell _ _ (by simp; omega), ?_⟩
    exact grown_new (grown_new ((World.grownBy_alloc w _ (some p)).trans (hg1.trans hg2)) _ _ (by simp)) _ _ (by simp)
  · go_wp2_with fail
    refine (l1Below_any p v n 3 (by omega) (by omega) _ HC1.out HB1.out).mono ?_
    rintro e w2 ⟨x, rfl, hx0, hx1, hC2, hg2⟩
    have hbx := box_kept (hg1.trans hg2) hp
    obtain ⟨⟨c0, f0⟩, ⟨c1, f1⟩⟩ := hbx
    have HC2 := Lib.hid hC2
    clear hC2
    go_wp2
    refine bodyPost_ret (v := .agg #[.int .i64 1, .int .i64 x]) (by simp [results, Tryz.results37, go_sem, c0, c1]) rfl ⟨_, _, rfl, (HC2.out.setCell _ _ (by simp; omega)).setCell _ _ (by simp; omega), ?_⟩
    exact grown_new (grown_new ((World.grownBy_alloc w _ (some p)).trans (hg1.trans hg2)) _ _ (by simp)) _ _ (by simp)

/-- Two boxes of the call's own, behind calls on the cursor. -/
def Box (w : World) (b : Nat) (x y : Value) : Prop := (w.cell? ⟨b, 0, none⟩ = some x ∧ w.frozen? ⟨b, 0, none⟩ = false) ∧ (w.cell? ⟨b, 1, none⟩ = some y ∧ w.frozen? ⟨b, 1, none⟩ = false)
theorem Box.kept {w w1 : World} {p b : Nat} {x y : Value} (h : Box w b x y) (hg : w.grownBy w1 (some p)) (hne : b ≠ p) : Box w1 b x y :=
  ⟨own_kept hg h.1.1 h.1.2 hne, own_kept hg h.2.1 h.2.2 hne⟩
theorem box_new (w : World) (x y : Value) (t : TypeId) : Box (w.alloc (.cells #[x, y] t)) w.heap.size x y := ⟨⟨by simp [go_sem], by simp [go_sem]⟩, ⟨by simp [go_sem], by simp [go_sem]⟩⟩

/-- The values that one is drawn of. -/
def drawn : Array Value := #[.int .i64 (-1), .int .i64 19, .int .i64 20, .int .i64 1000000, .int .i64 1000001, .int .i64 (-1000000), .int .i64 (-1000001), .int .i64 4611686018427387904]
theorem drawn_cell (w : World) (t : TypeId) (j : Nat) (hj : j < 8) : ∃ u : Int, (w.alloc (.cells drawn t)).cell? ⟨w.heap.size, j, none⟩ = some (.int .i64 u) := by
  have h : j = 0 ∨ j = 1 ∨ j = 2 ∨ j = 3 ∨ j = 4 ∨ j = 5 ∨ j = 6 ∨ j = 7 := by omega
  rcases h with rfl | rfl | rfl | rfl | rfl | rfl | rfl | rfl <;> exact ⟨_, by simp [go_sem, drawn]; rfl⟩

set_option maxRecDepth 100000 in
set_option maxHeartbeats 4000000 in
theorem drawAny_any (p : Nat) (v : Value) (n : Nat) (w : World) (hC : Cur w p v n) (hB : Bytes w p v n) :
    Calls Tryz.prog 31 #[.pointer (some ⟨p, 0, none⟩)] w (GotV p v n w) := by
  have hp := hC.lt
  have HC := Lib.hid (hC.alloc (.cells #[.int .i64 0, .int .i64 0] 26))
  have HB := Lib.hid (hB.kept (World.grownBy_alloc w (.cells #[.int .i64 0, .int .i64 0] 26) (some p)))
  clear hC hB
  go_enter Tryz.func31, Tryz.ntmps31
  go_wp2_with fail
  refine (drawValue_any p v n _ HC.out HB.out).mono ?_
  rintro e w1 ⟨k, x, rfl, hC1, hg1⟩
  have HC1 := Lib.hid hC1
  have HB1 := Lib.hid (HB.out.kept hg1)
  clear hC1
  have HC1a := Lib.hid (HC1.out.alloc (.cells #[.int .i64 k, .int .i64 x] 26))
  have HB1a := Lib.hid (HB1.out.kept (World.grownBy_alloc w1 (.cells #[.int .i64 k, .int .i64 x] 26) (some p)))
  have hp1 := HC1.out.lt
  have hs1 := hg1.size
  have hA1 : Box w1 w.heap.size _ _ := Box.kept (box_new w _ _ _) hg1 (by omega)
  have hs1' : w.heap.size + 1 ≤ w1.heap.size := by rw [World.size_alloc] at hs1; exact hs1
  have hne : ¬ w.heap.size = w1.heap.size := by omega
  have hne' : ¬ w1.heap.size = w.heap.size := by omega
  have hpa : w.heap.size ≠ p := by omega
  have hpb : w1.heap.size ≠ p := by omega
  have hle : w.heap.size ≤ w1.heap.size := by omega
  go_wp2_with fail
  refine (l1Once_any p v n 6 (by omega) (by omega) _ HC1a.out HB1a.out).mono ?_
  rintro e w2 ⟨q, rfl, hC2, hg2⟩
  have HC2 := Lib.hid hC2
  have HB2 := Lib.hid (HB1a.out.kept hg2)
  clear hC2
  have hg12 : w1.grownBy w2 (some p) := (World.grownBy_alloc w1 _ (some p)).trans hg2
  have hA2 := hA1.kept hg12 hpa
  have hB2 := Box.kept (box_new w1 _ _ _) hg2 hpb
  have hgw : w.grownBy w2 (some p) := (World.grownBy_alloc w _ (some p)).trans (hg1.trans hg12)
  clear hA1
  cases q
  · obtain ⟨⟨a0, f0⟩, ⟨a1, f1⟩⟩ := hA2
    obtain ⟨⟨b0, _⟩, ⟨b1, _⟩⟩ := hB2
    go_wp2
    refine bodyPost_ret (v := .agg #[.int .i64 k, .int .i64 x]) (by simp [results, Tryz.results31, go_sem, a0, a1]) rfl ⟨_, _, rfl, (HC2.out.setCell _ _ (by simp; omega)).setCell _ _ (by simp; omega), ?_⟩
    exact grown_new (grown_new hgw _ _ (by simp)) _ _ (by simp)
  · go_wp2_with fail
    refine (l1Below_any p v n 2 (by omega) (by omega) _ HC2.out HB2.out).mono ?_
    rintro e w3 ⟨y, rfl, hy0, hy1, hC3, hg3⟩
    have HC3 := Lib.hid hC3
    have HB3 := Lib.hid (HB2.out.kept hg3)
    clear hC3
    have hA3 := hA2.kept hg3 hpa
    have hB3 := hB2.kept hg3 hpb
    have hgw3 := hgw.trans hg3
    have hs3 := hg12.size
    have hs4 := hg3.size
    clear hA2 hB2
    by_cases hy : y = 0
    · subst hy
      go_wp2_with fail
      refine (l1From_any p v n (-1) 2 (by omega) (by omega) (by omega) _ HC3.out HB3.out).mono ?_
      rintro e w4 ⟨z, rfl, hz0, hz1, hC4, hg4⟩
      have HC4 := Lib.hid hC4
      clear hC4
      have hA4 := hA3.kept hg4 hpa
      have hB4 := hB3.kept hg4 hpb
      have hgw4 := hgw3.trans hg4
      clear hA3 hB3
      obtain ⟨⟨a0, f0⟩, ⟨a1, f1⟩⟩ := hA4
      obtain ⟨⟨b0, e0⟩, ⟨b1, e1⟩⟩ := hB4
      go_wp2
      refine bodyPost_ret (v := .agg #[.int .i64 z, .int .i64 x]) (by simp [results, Tryz.results31, go_sem, a0, a1]) rfl ⟨_, _, rfl, ((HC4.out.setCell _ _ (by simp; omega)).setCell _ _ (by simp; omega)).setCell _ _ (by simp; omega), ?_⟩
      exact grown_new (grown_new (grown_new hgw4 _ _ (by simp; omega)) _ _ (by simp)) _ _ (by simp)
    · have hy' : y = 1 := by omega
      subst hy'
      have HC5 := Lib.hid (HC3.out.alloc (.cells drawn 2))
      have HB5 := Lib.hid (HB3.out.kept (World.grownBy_alloc w3 (.cells drawn 2) (some p)))
      have hp3 := HC3.out.lt
      go_wp2_with fail
      refine (l1Below_any p v n 8 (by omega) (by omega) _ HC5.out HB5.out).mono ?_
      rintro e w5 ⟨z, rfl, hz0, hz1, hC6, hg6⟩
      have HC6 := Lib.hid hC6
      clear hC6
      obtain ⟨j, rfl⟩ := Int.eq_ofNat_of_zero_le hz0
      have hj : j < 8 := by omega
      have hg5 : w3.grownBy w5 (some p) := (World.grownBy_alloc w3 _ (some p)).trans hg6
      obtain ⟨u, hu⟩ := drawn_cell w3 2 j hj
      have hu5 : w5.cell? ⟨w3.heap.size, j, none⟩ = some (.int .i64 u) := hg6.cell hu (by intro e; injection e with e; simp at e; omega)
      have hA5 := hA3.kept hg5 hpa
      have hB5 := hB3.kept hg5 hpb
      have hgw5 := hgw3.trans hg5
      clear hA3 hB3 hg6
      obtain ⟨⟨a0, f0⟩, ⟨a1, f1⟩⟩ := hA5
      obtain ⟨⟨b0, e0⟩, ⟨b1, e1⟩⟩ := hB5
      have hji : (j : Int) < 8 := by omega
      go_wp2
      refine bodyPost_ret (v := .agg #[.int .i64 k, .int .i64 u]) (by simp [results, Tryz.results31, go_sem, a0, a1]) rfl ⟨_, _, rfl, ((HC6.out.setCell _ _ (by simp; omega)).setCell _ _ (by simp; omega)).setCell _ _ (by simp; omega), ?_⟩
      exact grown_new (grown_new (grown_new hgw5 _ _ (by simp; omega)) _ _ (by simp)) _ _ (by simp)

end D
end Go.Proofs.YtkhjbhkbknennaaGreatDoor

/-
  The draws: values out of the bytes that came in.
-/
namespace Go.Proofs.YtkhjbhkbknennaaGreatDoor
open Go.RowKit
namespace D

/-- What a draw of one value leaves: some value, and no old block turned. -/
def DrewV (w : World) (e : Ending) (w' : World) : Prop := ∃ k x : Int, e = .returned (.agg #[.int .i64 k, .int .i64 x]) ∧ Below w.heap.size w w'
def DrewI (w : World) (e : Ending) (w' : World) : Prop := ∃ x : Int, e = .returned (.int .i64 x) ∧ Below w.heap.size w w'
def DrewVV (w : World) (e : Ending) (w' : World) : Prop := ∃ k x l y : Int, e = .returned (.tuple #[.agg #[.int .i64 k, .int .i64 x], .agg #[.int .i64 l, .int .i64 y]]) ∧ Below w.heap.size w w'

theorem Box.below {w w1 : World} {b : Nat} {x y : Value} (h : Box w b x y) (hb : Below w.heap.size w w1) : Box w1 b x y := by
  have hg : w.grownBy w1 none := ⟨hb.os, hb.tape, hb.output, hb.size, fun k hk _ => hb.block k hk⟩
  have hlt := World.block_lt_of_cell? w ⟨b, 0, none⟩ h.1.1
  exact ⟨⟨hg.cell h.1.1 (by simp), (hg.frozen_far ⟨b, 0, none⟩ hlt (by simp)).trans h.1.2⟩, ⟨hg.cell h.2.1 (by simp), (hg.frozen_far ⟨b, 1, none⟩ hlt (by simp)).trans h.2.2⟩⟩
theorem cur_new (w : World) (v : Value) (n : Nat) (h : Int) : Cur (w.alloc (.cells #[v, .int .i64 0, .int .i64 h] 93)) w.heap.size v n :=
  ⟨0, h, Nat.zero_le _, by unfold World.alloc; exact Array.getElem?_push_size⟩
theorem below_new (w w1 : World) (o : Obj) (hg : (w.alloc o).grownBy w1 (some w.heap.size)) : Below w.heap.size w w1 :=
  ((Below.refl w.heap.size w).alloc (Nat.le_refl _) o).grown hg (by simp) (fun k e => by cases e; exact Nat.le_refl _)

/-- What is held while the second value is drawn. -/
structure Pack (w : World) (p : Nat) (v : Value) (n : Nat) (w' : World) : Prop where
  c : Cur w' p v n
  b : Bytes w' p v n
  w : Below w.heap.size w w'
theorem Pack.drew {w : World} {p : Nat} {v : Value} {n : Nat} {w' : World} (h : Pack w p v n w') : Pack w p v n w'.drew := ⟨h.c, h.b, h.w.drew⟩
theorem Pack.kept {w : World} {v : Value} {n : Nat} {w' w1 : World} (h : Pack w (w.heap.size + 1 + 1) v n w') (hc : Cur w1 (w.heap.size + 1 + 1) v n) (hg : w'.grownBy w1 (some (w.heap.size + 1 + 1))) : Pack w (w.heap.size + 1 + 1) v n w1 :=
  ⟨hc, h.b.kept hg, h.w.grown hg h.w.size (fun k e => by cases e; omega)⟩
theorem Pack.setCell {w : World} {v : Value} {n : Nat} {w' : World} (h : Pack w (w.heap.size + 1 + 1) v n w') (a : Addr) (u : Value) (h1 : w.heap.size ≤ a.block) (h2 : a.block ≤ w.heap.size + 1) (hN : 0 < n → ∀ b off cap, v = .slice (some ⟨b, off, none⟩) n cap → b < w.heap.size) : Pack w (w.heap.size + 1 + 1) v n (w'.setCell a u) := by
  refine ⟨h.c.setCell a u (by omega), ?_, h.w.setCell h1 u⟩
  rcases h.b with hh | hh | ⟨b, off, cap, hv, q1, q2, q3, q4, q5⟩
  · exact Or.inl hh
  · exact Or.inr (Or.inl hh)
  · refine Or.inr (Or.inr ⟨b, off, cap, hv, q1, q2, by simpa [World.setCell] using q3, q4, fun i hi => ?_⟩)
    obtain ⟨z, z0, z1, hz⟩ := q5 i hi
    exact ⟨z, z0, z1, (World.cell?_setCell_far _ _ _ _ (by have := hN (by omega) b off cap hv; simp; omega)).trans hz⟩
theorem below_of_none {a b : World} (h : a.grownBy b none) : Below a.heap.size a b := ⟨h.os, h.tape, h.output, h.size, fun k hk => h.block k hk (by simp)⟩

end D
end Go.Proofs.YtkhjbhkbknennaaGreatDoor

/-
  The draws: a text to be read; and: is a draw too long?
-/
namespace Go.Proofs.YtkhjbhkbknennaaGreatDoor
open Go.RowKit
namespace D

/-- Is there more than that? -/
theorem big_any (v : Value) (n : Nat) (w : World) (hC : Came w v n) :
    Calls Tryz.prog 5 #[v] w fun e w' => e = .returned (.bool (decide (4096 < n))) ∧ w' = w := by
  rcases hC with ⟨rfl, rfl⟩ | ⟨a, cap, rfl, rfl⟩ | ⟨b, off, cap, rfl, hn, hm, hbs, hz⟩
  · go_enter Tryz.func5, Tryz.ntmps5
    go_wp2
    go_ret
    exact ⟨by simp, rfl⟩
  · go_enter Tryz.func5, Tryz.ntmps5
    go_wp2
    go_ret
    exact ⟨by simp, rfl⟩
  · clear hz
    go_enter Tryz.func5, Tryz.ntmps5
    go_wp2
    go_ret
    refine ⟨?_, rfl⟩
    congr 2
    simp
    omega

/-- What bending leaves: some text, at most two bytes longer; nothing old has turned but the cursor's block. -/
def Bends : Prop := ∀ (p : Nat) (v : Value) (n : Nat) (w : World) (s sg : ByteArray), s.size ≤ 4000 → 0 < sg.size → sg.size ≤ 100 → Cur w p v n → Bytes w p v n →
  Calls Tryz.prog 50 #[.pointer (some ⟨p, 0, none⟩), .string s, .string sg] w (fun e w' => ∃ t : ByteArray, e = .returned (.string t) ∧ t.size ≤ s.size + 2 ∧ Cur w' p v n ∧ w.grownBy w' (some p))

theorem showB_len (k n : Int) : (L1.showB k n).length ≤ 9 := by
  unfold L1.showB
  cases h : L1.okB k n
  · simp
  · have hb : -1000000 ≤ n ∧ n ≤ 1000000 := by
      simp [L1.okB, L1.numB, L1.pieB, L1.inB] at h
      omega
    have := L1.itoa_len hb.1 hb.2
    rw [if_pos rfl]
    split <;> simp <;> omega
theorem Cur.below {w w1 : World} {p : Nat} {v : Value} {n : Nat} (h : Cur w p v n) (hb : Below w.heap.size w w1) : Cur w1 p v n := by
  have hlt := h.lt
  obtain ⟨i, x, hi, hh⟩ := h
  exact ⟨i, x, hi, (hb.block p hlt).trans hh⟩
theorem grown_of_below {w w1 : World} (hb : Below w.heap.size w w1) (row : Option Nat) : w.grownBy w1 row := ⟨hb.os, hb.tape, hb.output, hb.size, fun k hk _ => hb.block k hk⟩

/-- What a draw of a text leaves. -/
def DrewS (w : World) (e : Ending) (w' : World) : Prop := ∃ t : ByteArray, e = .returned (.string t) ∧ t.size ≤ 1048576 ∧ Below w.heap.size w w'

end D
end Go.Proofs.YtkhjbhkbknennaaGreatDoor

/-
  Rows of bytes that a call makes: what they hold, and what appending leaves of them.
-/
namespace Go.Proofs.YtkhjbhkbknennaaGreatDoor
open Go.RowKit
namespace D

/-- A byte's cell. -/
def U8 (u : Value) : Prop := ∃ z : Int, 0 ≤ z ∧ z ≤ 255 ∧ u = .int .u8 z

/-- Bytes in a block from B on, that may be written. -/
def Rw (w : World) (B : Nat) (v : Value) (n : Nat) : Prop :=
  ∃ g cap, v = .slice (some ⟨g, 0, none⟩) n cap ∧ n ≤ cap ∧ cap ≤ maxLen ∧ B ≤ g ∧ g < w.heap.size ∧ ∀ i, i < n → (∃ z : Int, 0 ≤ z ∧ z ≤ 255 ∧ w.cell? ⟨g, i, none⟩ = some (.int .u8 z)) ∧ w.frozen? ⟨g, i, none⟩ = false

/-- A row of bytes that the call owns, to which it appends. -/
def Ow (w : World) (B : Nat) (v : Value) (n : Nat) : Prop :=
  ∃ xs, w.ownsRow B 5 1 v n xs ∧ v ≠ .slice none 0 0 ∧ ∀ u ∈ xs, U8 u

theorem Rw.kept {w w' : World} {B p n : Nat} {v : Value} (h : Rw w B v n) (hg : w.grownBy w' (some p)) (hp : p < B) : Rw w' B v n := by
  obtain ⟨g, cap, hv, h1, h2, h3, h4, h5⟩ := h
  have hne : some g ≠ some p := fun e => by have := Option.some.inj e; omega
  refine ⟨g, cap, hv, h1, h2, h3, Nat.lt_of_lt_of_le h4 hg.size, fun i hi => ?_⟩
  obtain ⟨⟨z, z0, z1, hz⟩, hf⟩ := h5 i hi
  exact ⟨⟨z, z0, z1, hg.cell hz hne⟩, (hg.frozen_far ⟨g, i, none⟩ h4 hne).trans hf⟩

theorem Ow.form {w : World} {B n : Nat} {v : Value} (h : Ow w B v n) : ∃ g cap, v = .slice (some ⟨g, 0, none⟩) n cap ∧ n ≤ cap ∧ cap ≤ maxLen ∧ B ≤ g ∧ g < w.heap.size := by
  obtain ⟨xs, ho, hn, _⟩ := h
  rcases ho.2 with ⟨hv, _⟩ | ⟨g, cap, cur, hv, hb, hg, h1, h2, _⟩
  · exact absurd hv hn
  · exact ⟨g, cap, hv, h1, h2, hb, (Array.getElem?_eq_some_iff.1 hg).1⟩

theorem Ow.rw {w : World} {B n : Nat} {v : Value} (h : Ow w B v n) : Rw w B v n := by
  obtain ⟨xs, ho, hn, hu⟩ := h
  rcases ho.2 with ⟨hv, _⟩ | ⟨g, cap, cur, rfl, hb, hg, h1, h2, hs, ht⟩
  · exact absurd hv hn
  · refine ⟨g, cap, rfl, h1, h2, hb, (Array.getElem?_eq_some_iff.1 hg).1, fun i hi => ⟨?_, by simp [World.frozen?, hg]⟩⟩
    have hlen := ho.1
    have hi' : i < xs.length := by omega
    obtain ⟨z, z0, z1, hz⟩ := hu xs[i] (List.getElem_mem hi')
    refine ⟨z, z0, z1, ?_⟩
    have := ho.cells (g := g) rfl i xs[i] (List.getElem?_eq_getElem hi')
    rw [hz] at this
    have hadd : (⟨g, 0, none⟩ : Addr).add i = ⟨g, i, none⟩ := by unfold Addr.add; split <;> simp_all
    rwa [hadd] at this

theorem Ow.kept {w w' : World} {B p n : Nat} {v : Value} (h : Ow w B v n) (hg : w.grownBy w' (some p)) (hp : p < B) : Ow w' B v n := by
  obtain ⟨xs, ho, hn, hu⟩ := h
  refine ⟨xs, ho.kept hg (Or.inr ?_), hn, hu⟩
  intro e
  have := (ho.lt p e).1
  omega
theorem Ow.alloc {w : World} {B n : Nat} {v : Value} (h : Ow w B v n) (o : Obj) : Ow (w.alloc o) B v n := by
  obtain ⟨xs, ho, hn, hu⟩ := h
  exact ⟨xs, ho.alloc o, hn, hu⟩
theorem Ow.drew {w : World} {B n : Nat} {v : Value} (h : Ow w B v n) : Ow w.drew B v n := by
  obtain ⟨xs, ho, hn, hu⟩ := h
  exact ⟨xs, ho, hn, hu⟩
theorem ow_new (w : World) (B : Nat) (hB : B ≤ w.heap.size) : Ow (w.alloc (.cells #[] 5)) B (.slice (some ⟨w.heap.size, 0, none⟩) 0 0) 0 :=
  ⟨[], World.ownsRow_made w #[] 0 hB (by unfold maxLen; omega) (by simp), by simp, by simp⟩

theorem u8_info' : (Tryz.prog.info? 5).map (fun i => (i.zero, i.size, i.bytes)) = some (some (.int .u8 0), 1, 1) := by kernel_rfl
theorem u8_info : ∃ i, Tryz.prog.info? 5 = some i ∧ i.zero = some (.int .u8 0) ∧ i.size = 1 ∧ i.bytes = 1 := by
  have h := u8_info'
  cases hi : Tryz.prog.info? 5 with
  | none => rw [hi] at h; cases h
  | some i =>
    rw [hi] at h
    simp only [Option.map_some, Option.some.injEq, Prod.mk.injEq] at h
    exact ⟨i, rfl, h.1, h.2.1, h.2.2⟩

/-- Appending a row of bytes. -/
theorem run_app (w : World) (B : Nat) (v : Value) (n : Nat) (hown : Ow w B v n) (ad : Addr) (m c : Nat)
    (hsrc : ∀ j, j < m → ∃ z : Int, 0 ≤ z ∧ z ≤ 255 ∧ w.cell? (ad.add j) = some (.int .u8 z)) (hs : n + m ≤ 100000) (hB : B ≤ w.heap.size) :
    ∃ v' w', (Builtin.append_ #[22, 22] 22 #[v, .slice (some ad) m c]).run Tryz.prog w = .ok v' w' ∧ Ow w' B v' (n + m) ∧ w.grownBy w' v.ownBlock ∧ (v'.ownBlock = v.ownBlock ∨ v'.ownBlock = some w.heap.size) := by
  obtain ⟨xs, ho, hn, hu⟩ := hown
  obtain ⟨i, hi, hz, hsz, hby⟩ := u8_info
  -- the cells to be appended, as a list
  have hl : ∃ news : List Value, news.length = m ∧ (∀ j u, news[j]? = some u → w.cell? (ad.add j) = some u) ∧ ∀ u ∈ news, U8 u := by
    clear hs
    induction m with
    | zero => exact ⟨[], rfl, by simp, by simp⟩
    | succ m ih =>
      obtain ⟨l, h1, h2, h3⟩ := ih (fun j hj => hsrc j (by omega))
      obtain ⟨z, z0, z1, hc⟩ := hsrc m (by omega)
      refine ⟨l ++ [.int .u8 z], by simp [h1], fun j u hj => ?_, fun u hu => ?_⟩
      · rcases Nat.lt_or_ge j l.length with hlt | hge
        · rw [List.getElem?_append_left hlt] at hj
          exact h2 j u hj
        · rw [List.getElem?_append_right hge] at hj
          have : j - l.length = 0 := by
            rcases Nat.eq_zero_or_pos (j - l.length) with h | h
            · exact h
            · rw [List.getElem?_eq_none (by simp; omega)] at hj; cases hj
          rw [this] at hj
          have hjm : j = m := by omega
          subst hjm
          simp at hj
          rw [← hj]
          exact hc
      · simp at hu
        rcases hu with hu | hu
        · exact h3 u hu
        · exact ⟨z, z0, z1, hu⟩
  obtain ⟨news, hl1, hl2, hl3⟩ := hl
  obtain ⟨v', w', hr, h2, h3, h4, h5⟩ := run_append_own_at (P := Tryz.prog) w B 22 22 5 i (.int .u8 0) 1 1 Tryz.underlying22 hi hz hsz hby rfl (by omega) v n xs ho ad m c news (by omega) hl2
    (fun u hu => by obtain ⟨z, _, _, rfl⟩ := hl3 u hu; rfl) (by unfold maxLen; omega) (by omega) hB
  refine ⟨v', w', hr, ⟨xs ++ news, h2, fun e => hn (h4.1 e).1, fun u hu' => ?_⟩, h3, h5⟩
  rcases List.mem_append.1 hu' with h | h
  · exact hu u h
  · exact hl3 u h

end D
end Go.Proofs.YtkhjbhkbknennaaGreatDoor

/-
  The draws: a text that is bent.
-/
namespace Go.Proofs.YtkhjbhkbknennaaGreatDoor
open Go.RowKit
attribute [local go_sem ↓] Go.wp_at_zero Go.wp_at_succ
namespace D

/-- Appending a row of bytes, as a step of a region that draws. -/
theorem step_app {ops : Array Oper} {o : Oper} {a : Act} {K : Act → World → Prop} {Q : Exit → Act → World → Prop} {E : Prop} (hgd : o.guard = none) (s x : Operand)
    (ho : o.op = .call { callee := .builtin .append, args := #[s, x], argTypes := #[22, 22] }) (hty : o.type = 22)
    (w : World) (B : Nat) (v : Value) (n : Nat) (hs : a.eval s = v) (hown : Ow w B v n) (ad : Addr) (m c : Nat) (hx : a.eval x = .slice (some ad) m c)
    (hsrc : ∀ j, j < m → ∃ z : Int, 0 ≤ z ∧ z ≤ 255 ∧ w.cell? (ad.add j) = some (.int .u8 z)) (hsm : n + m ≤ 100000) (hB : B ≤ w.heap.size)
    (h : ∀ v' w', Ow w' B v' (n + m) → w.grownBy w' v.ownBlock → (v'.ownBlock = v.ownBlock ∨ v'.ownBlock = some w.heap.size) → K (a.put o.dst v') w') :
    if Region.wanted o (yielded ops a.tmps) = true then Oper.wp Tryz.prog o a w K Q else E := by
  have hw : Region.wanted o (yielded ops a.tmps) = true := by simp [Region.wanted, hgd]
  rw [if_pos hw]
  obtain ⟨v', w', hr, h2, h3, h4⟩ := run_app w B v n hown ad m c hsrc hsm hB
  unfold Oper.wp execOp
  simp only [ho, resolve, invoke, builtin, Sem.run_bind, Sem.run_pure, Result.andThen_ok, List.map_toArray, List.map_cons, List.map_nil, hs, hx, hty, hr]
  exact h v' w' h2 h3 h4

/-- A byte of the row is set. -/
theorem Rw.store {w : World} {B g cap n : Nat} (h : Rw w B (.slice (some ⟨g, 0, none⟩) n cap) n) (k : Nat) (z : Int) (z0 : 0 ≤ z) (z1 : z ≤ 255) : Rw (w.setCell ⟨g, k, none⟩ (.int .u8 z)) B (.slice (some ⟨g, 0, none⟩) n cap) n := by
  obtain ⟨g', cap', hv, h1, h2, h3, h4, h5⟩ := h
  cases hv
  refine ⟨g, cap, rfl, h1, h2, h3, by simpa [World.setCell] using h4, fun i hi => ?_⟩
  obtain ⟨⟨y, y0, y1, hy⟩, hf⟩ := h5 i hi
  refine ⟨?_, by simpa [go_sem] using hf⟩
  by_cases e : i = k
  · subst e
    exact ⟨z, z0, z1, World.cell?_setCell_same' _ _ _ (by rw [hy]; rfl)⟩
  · exact ⟨y, y0, y1, (World.cell?_setCell_other _ _ _ _ (by intro h; injection h with _ h; exact e h.symm)).trans hy⟩

/-- What bending holds: the row, how many rounds are left, the cursor. -/
def Bent (w0 : World) (p : Nat) (v : Value) (n S : Nat) (b x : Value) (wx : World) : Prop :=
  ∃ m j : Nat, x = .int .i64 (j : Int) ∧ Rw wx w0.heap.size b m ∧ m + j ≤ S + 2 ∧ Cur wx p v n ∧ Bytes wx p v n ∧ w0.grownBy wx (some p)

/-- '[]byte(s)': a row. -/
theorem rw_made (w : World) (s : ByteArray) (hs : s.size ≤ 4000) : Rw (w.drew.alloc (.cells (bytesRow s (grownCap w s.size 0 5)) 5 ((bytesRow s (grownCap w s.size 0 5)).size, (bytesRow s (grownCap w s.size 0 5)).size + 1))) w.heap.size (.slice (some ⟨w.heap.size, 0, none⟩) s.size (grownCap w s.size 0 5)) s.size := by
  refine ⟨w.heap.size, _, rfl, grownCap_ge w s.size 0 5, grownCap_le_maxLen w s.size 0 5 (by unfold maxLen; omega), Nat.le_refl _, by simp [World.size_alloc], fun i hi => ⟨?_, ?_⟩⟩
  · have hi' : i < s.data.size := hi
    refine ⟨(s.data[i].toNat : Int), by omega, ?_, ?_⟩
    · have := s.data[i].toNat_lt
      omega
    · exact (World.cell?_alloc_mark w.drew _ _ _ i).trans (bytesRow_at s _ i hi')
  · refine (World.frozen?_alloc_mark w.drew _ _ _ _ i).trans ?_
    have : s.size ≤ (bytesRow s (grownCap w s.size 0 5)).size := by unfold bytesRow; rw [Array.size_append, Array.size_map]; exact Nat.le_add_right _ _
    rw [Bool.and_eq_false_iff]
    exact Or.inl (by simp; omega)

theorem Rw.shrink {w : World} {B g cap m : Nat} (h : Rw w B (.slice (some ⟨g, 0, none⟩) m cap) m) (k : Nat) (hk : k ≤ m) : Rw w B (.slice (some ⟨g, 0, none⟩) k cap) k := by
  obtain ⟨g', cap', hv, h1, h2, h3, h4, h5⟩ := h
  cases hv
  exact ⟨g, cap, rfl, by omega, h2, h3, h4, fun i hi => h5 i (by omega)⟩
theorem Rw.base {w : World} {B B' n : Nat} {v : Value} (h : Rw w B v n) (hB : B' ≤ B) : Rw w B' v n := by
  obtain ⟨g, cap, hv, h1, h2, h3, h4⟩ := h
  exact ⟨g, cap, hv, h1, h2, Nat.le_trans hB h3, h4⟩
theorem Ow.n {w : World} {B n n' : Nat} {v : Value} (h : Ow w B v n) (e : n = n') : Ow w B v n' := e ▸ h

/-- While a statement makes rows of its own: the cursor, and nothing else old has turned. -/
structure Fit (w4 : World) (p : Nat) (v : Value) (n : Nat) (w' : World) : Prop where
  c : Cur w' p v n
  g : w4.grownBy w' (some p)
theorem Fit.drew {w4 w' : World} {p n : Nat} {v : Value} (h : Fit w4 p v n w') : Fit w4 p v n w'.drew := ⟨h.c, h.g.trans (grown_draws w' 1 _)⟩
theorem Fit.alloc {w4 w' : World} {p n : Nat} {v : Value} (h : Fit w4 p v n w') (o : Obj) : Fit w4 p v n (w'.alloc o) := ⟨h.c.alloc o, h.g.trans (World.grownBy_alloc w' o _)⟩
theorem Fit.call {w4 w' w1 : World} {p n : Nat} {v : Value} (h : Fit w4 p v n w') (hc : Cur w1 p v n) (hg : w'.grownBy w1 (some p)) : Fit w4 p v n w1 := ⟨hc, h.g.trans hg⟩
theorem Fit.row {w4 w' w1 : World} {p n q : Nat} {v u : Value} (h : Fit w4 p v n w') (ho : Ow w' w4.heap.size u q) (hp : p < w4.heap.size) (hg : w'.grownBy w1 u.ownBlock) : Fit w4 p v n w1 := by
  obtain ⟨b, cap, rfl, _, _, hb, _⟩ := ho.form
  have hpl := h.c.lt
  obtain ⟨i, x, hi, hh⟩ := h.c
  refine ⟨⟨i, x, hi, (hg.block p hpl (by simp [Value.ownBlock]; omega)).trans hh⟩, ⟨hg.os.trans h.g.os, hg.tape.trans h.g.tape, hg.output.trans h.g.output, Nat.le_trans h.g.size hg.size, fun k hk hne => ?_⟩⟩
  exact (hg.block k (Nat.lt_of_lt_of_le hk h.g.size) (by simp [Value.ownBlock]; omega)).trans (h.g.block k hk hne)
/-- The bytes of the row that was there, read while rows are made. -/
theorem Fit.src {w4 w' : World} {p n B g cap M : Nat} {v : Value} (h : Fit w4 p v n w') (hR : Rw w4 B (.slice (some ⟨g, 0, none⟩) M cap) M) (hp : p < B) (off m : Nat) (hm : off + m ≤ M) :
    ∀ j, j < m → ∃ z : Int, 0 ≤ z ∧ z ≤ 255 ∧ w'.cell? ((⟨g, off, none⟩ : Addr).add j) = some (.int .u8 z) := by
  intro j hj
  obtain ⟨g', cap', hv, h1, h2, h3, h4, h5⟩ := hR.kept h.g hp
  cases hv
  obtain ⟨⟨z, z0, z1, hz⟩, _⟩ := h5 (off + j) (by omega)
  have hadd : (⟨g, off, none⟩ : Addr).add j = ⟨g, off + j, none⟩ := by unfold Addr.add; split <;> simp_all
  exact ⟨z, z0, z1, by rw [hadd]; exact hz⟩

theorem Fit.sz {w4 w' : World} {p n : Nat} {v : Value} (h : Fit w4 p v n w') : w4.heap.size ≤ w'.heap.size := h.g.size
/-- One byte that lies in a block of its own. -/
theorem src_one {W : World} {h : Nat} {u : Int} (u0 : 0 ≤ u) (u1 : u ≤ 255) (hc : W.cell? ⟨h, 0, none⟩ = some (.int .u8 u)) : ∀ j, j < 1 → ∃ z : Int, 0 ≤ z ∧ z ≤ 255 ∧ W.cell? ((⟨h, 0, none⟩ : Addr).add j) = some (.int .u8 z) := by
  intro j hj
  obtain rfl : j = 0 := by omega
  have hadd : (⟨h, 0, none⟩ : Addr).add 0 = ⟨h, 0, none⟩ := by unfold Addr.add; split <;> simp_all
  exact ⟨u, u0, u1, by rw [hadd]; exact hc⟩

/-- The row as a text. -/
theorem rw_back {w : World} {g cap m : Nat} (h : ∀ i, i < m → (∃ z : Int, 0 ≤ z ∧ z ≤ 255 ∧ w.cell? ⟨g, i, none⟩ = some (.int .u8 z)) ∧ w.frozen? ⟨g, i, none⟩ = false) :
    ∃ t : ByteArray, Sem.run Tryz.prog (convert 22 9 (.slice (some ⟨g, 0, none⟩) m cap)) w = .ok (.string t) w ∧ t.size = m := by
  have hl : ∃ l : List UInt8, l.length = m ∧ ∀ j (hj : j < l.length), w.cell? ⟨g, j, none⟩ = some (.int .u8 (l[j].toNat : Int)) := by
    induction m with
    | zero => exact ⟨[], rfl, by simp⟩
    | succ m ih =>
      obtain ⟨l, h1, h2⟩ := ih (fun i hi => h i (by omega))
      obtain ⟨⟨z, z0, z1, hz⟩, _⟩ := h m (by omega)
      refine ⟨l ++ [UInt8.ofNat z.toNat], by simp [h1], fun j hj => ?_⟩
      simp at hj
      by_cases e : j < l.length
      · rw [List.getElem_append_left e]
        exact h2 j e
      · have : j = m := by omega
        subst this
        have hj2 : j = l.length := by omega
        rw [List.getElem_append_right (by omega)]
        simp only [List.getElem_singleton]
        rw [hz]
        have : ((UInt8.ofNat z.toNat).toNat : Int) = z := by
          simp
          omega
        rw [this]
  obtain ⟨l, hl1, hl2⟩ := hl
  subst hl1
  refine ⟨⟨l.toArray⟩, run_convert_bytes_back w 22 9 5 ⟨g, 0, none⟩ cap l Tryz.underlying22 Tryz.underlying5 Tryz.underlying9 (fun j hj => ?_), by simp [ByteArray.size]⟩
  have hadd : (⟨g, 0, none⟩ : Addr).add j = ⟨g, j, none⟩ := by unfold Addr.add; split <;> simp_all
  rw [hadd]
  exact hl2 j hj

set_option maxRecDepth 100000 in
set_option maxHeartbeats 4000000 in
theorem bends : Bends := by
  intro p v n w s sg hs hsg0 hsg1 hC hB
  have hp := hC.lt
  have HC := Lib.hid hC
  have HB := Lib.hid hB
  clear hC hB
  obtain ⟨W1, cap1, hcv, hR1, HC1, HB1, hg1⟩ : ∃ W1 cap1, Sem.run Tryz.prog (convert 9 22 (.string s)) w = .ok (.slice (some ⟨w.heap.size, 0, none⟩) s.size cap1) W1 ∧ Rw W1 w.heap.size (.slice (some ⟨w.heap.size, 0, none⟩) s.size cap1) s.size ∧ Hid (Cur W1 p v n) ∧ Hid (Bytes W1 p v n) ∧ w.grownBy W1 (some p) :=
    ⟨_, _, run_bytes_of_string (P := Tryz.prog) w 9 22 5 s Tryz.underlying9 Tryz.underlying22 Tryz.underlying5, rw_made w s hs, Cur.alloc (w := w.drew) HC.out _, HB.out.kept ((grown_draws w 1 _).trans (World.grownBy_alloc _ _ _)), (grown_draws w 1 _).trans (World.grownBy_alloc _ _ _)⟩
  have HB0 := HB
  clear HC HB
  go_enter Tryz.func50, Tryz.ntmps50
  go_wp2_with fail
  refine (l1Below_any p v n 3 (by omega) (by omega) _ HC1.out HB1.out).mono ?_
  rintro e w2 ⟨y, rfl, hy0, hy1, hC2, hg2⟩
  have HC2 := Lib.hid hC2
  have HB2 := Lib.hid (HB1.out.kept hg2)
  clear hC2
  obtain ⟨j0, rfl⟩ := Int.eq_ofNat_of_zero_le hy0
  have hR2 := hR1.kept hg2 hp
  have hgw2 := hg1.trans hg2
  clear hR1 hcv
  go_wp2_with fail
  go_loopw [7, 8] (fun b x wx => Bent w p v n s.size b x wx) (fun _ x _ => (intOf x).toNat)
  case atStart => exact ⟨s.size, j0, rfl, hR2, by omega, HC2.out, HB2.out, hgw2⟩
  case round =>
    obtain ⟨m, j, rfl, hR, hmj, hC, hB, hgw⟩ := hrel
    have HC := Lib.hid hC
    have HB := Lib.hid hB
    obtain ⟨g, cap, rfl, hnc, hcm, hbg, hgl, hcells⟩ := hR
    have Hcells := Lib.hid hcells
    clear hC hB hcells
    unfold maxLen at hcm
    by_cases hj : 0 < j
    · by_cases hm : 0 < m
      · have hj' : (0 : Int) < (j : Int) := by omega
        have hm' : (0 : Int) < (m : Int) := by omega
        have hwp := hgw.size
        go_wp2_with fail
        refine (l1Below_any p v n (m : Int) (by omega) (by omega) _ HC.out HB.out).mono ?_
        rintro e w3 ⟨y, rfl, hy0, hy1, hC3, hg3⟩
        have HC3 := Lib.hid hC3
        have HB3 := Lib.hid (HB.out.kept hg3)
        clear hC3
        obtain ⟨k, rfl⟩ := Int.eq_ofNat_of_zero_le hy0
        have hgw3 := hgw.trans hg3
        have hR3 : Rw w3 w.heap.size (.slice (some ⟨g, 0, none⟩) m cap) m := Rw.kept ⟨g, cap, rfl, hnc, hcm, hbg, hgl, Hcells.out⟩ hg3 hp
        go_wp2_with fail
        refine (l1Below_any p v n 4 (by omega) (by omega) _ HC3.out HB3.out).mono ?_
        rintro e w4 ⟨r, rfl, hr0, hr1, hC4, hg4⟩
        have HC4 := Lib.hid hC4
        have HB4 := Lib.hid (HB3.out.kept hg4)
        clear hC4
        have hgw4 := hgw3.trans hg4
        have hR4 := hR3.kept hg4 hp
        have hkm : k < m := by omega
        have hk0 : (0 : Int) ≤ (k : Int) := by omega
        have hk1 : (k : Int) < (m : Int) := by omega
        clear hR3 Hcells
        obtain rfl | rfl | rfl | rfl : r = 0 ∨ r = 1 ∨ r = 2 ∨ r = 3 := by omega
        · -- a byte is set
          go_wp2_with fail
          refine (l1Below_any p v n (sg.size : Int) (by omega) (by omega) _ HC4.out HB4.out).mono ?_
          rintro e w5 ⟨q, rfl, hq0, hq1, hC5, hg5⟩
          have HC5 := Lib.hid hC5
          have HB5 := Lib.hid (HB4.out.kept hg5)
          clear hC5
          obtain ⟨q, rfl⟩ := Int.eq_ofNat_of_zero_le hq0
          have hq2 : (q : Int) < (sg.size : Int) := by omega
          have hgw5 := hgw4.trans hg5
          have hR5 := hR4.kept hg5 hp
          obtain ⟨z, z0, z1, hz, hf⟩ : ∃ z : Int, 0 ≤ z ∧ z ≤ 255 ∧ w5.cell? ⟨g, k, none⟩ = some (.int .u8 z) ∧ w5.frozen? ⟨g, k, none⟩ = false := by
            obtain ⟨g', cap', hv, q1, q2, q3, q4, q5⟩ := hR5
            cases hv
            obtain ⟨⟨z, z0, z1, hz⟩, hf⟩ := q5 k hkm
            exact ⟨z, z0, z1, hz, hf⟩
          go_wp2_with fail
          have hgf : w.grownBy (w5.setCell ⟨g, k, none⟩ (.int .u8 (sg[q].toNat : Int))) (some p) := grown_new hgw5 _ _ hbg
          exact ⟨⟨m, j - 1, by congr 1; omega, hR5.store k _ (by omega) (by have := sg[q].toNat_lt; omega), by omega, HC5.out.setCell _ _ (by simp; omega), HB0.out.kept hgf, hgf⟩, by simp [intOf]; omega⟩
        · -- cut off
          go_wp2_with fail
          exact ⟨⟨k, j - 1, by congr 1; omega, hR4.shrink k (by omega), by omega, HC4.out, HB4.out, hgw4⟩, by simp [intOf]; omega⟩
        · -- one byte left out
          have HF : Fit w4 p v n w4 := ⟨HC4.out, World.grownBy.refl _ _⟩
          have hw1 : IntKind.i64.wrap ((k : Int) + 1) = (k : Int) + 1 := by rw [IntKind.wrap_i64]; omega
          have hk2 : (0 : Int) ≤ (k : Int) + 1 := by omega
          have hk3 : (k : Int) + 1 ≤ (m : Int) := by omega
          have hmc : (m : Int) ≤ (cap : Int) := by omega
          have hkc : (k : Int) ≤ (cap : Int) := by omega
          have hp4 := HC4.out.lt
          have hp4' : p < w4.heap.size := hp4
          have hB4 := hgw4.size
          have HFa : Fit w4 p v n (w4.alloc (.cells #[] 5)).drew := (HF.alloc _).drew
          have HOa : Ow (w4.alloc (.cells #[] 5)).drew w4.heap.size (.slice (some ⟨w4.heap.size, 0, none⟩) 0 0) 0 := (ow_new w4 _ (Nat.le_refl _)).drew
          have hsa : w4.heap.size ≤ (w4.alloc (.cells #[] 5)).drew.heap.size := HFa.g.size
          obtain ⟨ad, hif, hsrc⟩ : ∃ ad : Addr, (if cap = k + 1 then some (⟨g, 0, none⟩ : Addr) else some ⟨g, k + 1, none⟩) = some ad ∧ Hid (∀ W, Fit w4 p v n W → ∀ j, j < m - (k + 1) → ∃ z : Int, 0 ≤ z ∧ z ≤ 255 ∧ W.cell? (ad.add j) = some (.int .u8 z)) := by
            by_cases hck : cap = k + 1
            · exact ⟨⟨g, 0, none⟩, if_pos hck, fun W _ j hj => absurd hj (by omega)⟩
            · exact ⟨⟨g, k + 1, none⟩, if_neg hck, fun W hW => Fit.src hW hR4 hp (k + 1) (m - (k + 1)) (by omega)⟩
          go_wp2_with fail
          go_region_held3 (fun w' => Fit w4 p v n w')
            ((first | (with_reducible assumption) | exact Fit.drew HF | exact HFa | fail))
            ((first
              | (refine step_app (by rfl) _ _ (by rfl) (by rfl) _ w4.heap.size _ _ (by rfl) HOa ⟨g, 0, none⟩ k _ (by rfl) (Fit.src HFa hR4 hp 0 k (by omega)) (by omega) hsa ?_
                 intro v1 x1 ho1 hg1 hb1
                 have hf1 := Fit.row (h := HFa) (ho := HOa) (hp := hp4') (hg := hg1)
                 have hs1 := hf1.g.size)
              | (refine step_app (by rfl) _ _ (by rfl) (by rfl) _ w4.heap.size v1 _ (by rfl) ho1 ad (m - (k + 1)) _ (by rfl) (hsrc.out _ hf1) (by omega) hs1 ?_
                 intro v2 x2 ho2 hg2 hb2
                 have hf2 := Fit.row (h := hf1) (ho := ho1) (hp := hp4') (hg := hg2))))
          go_wp2_with fail
          exact ⟨⟨_, j - 1, by congr 1; omega, ho2.rw.base hB4, by omega, hf2.c, HB0.out.kept (hgw4.trans hf2.g), hgw4.trans hf2.g⟩, by simp [intOf]; omega⟩
        · -- one byte put in
          have HF : Fit w4 p v n w4 := ⟨HC4.out, World.grownBy.refl _ _⟩
          have hmc : (m : Int) ≤ (cap : Int) := by omega
          have hkm' : (k : Int) ≤ (m : Int) := by omega
          have hkc : (k : Int) ≤ (cap : Int) := by omega
          have hck : ¬ cap = k := by omega
          have hp4' : p < w4.heap.size := HC4.out.lt
          have hB4 := hgw4.size
          have HFa : Fit w4 p v n (w4.alloc (.cells #[] 5)).drew := (HF.alloc _).drew
          have HOa : Ow (w4.alloc (.cells #[] 5)).drew w4.heap.size (.slice (some ⟨w4.heap.size, 0, none⟩) 0 0) 0 := (ow_new w4 _ (Nat.le_refl _)).drew
          have hsa : w4.heap.size + 1 ≤ (w4.alloc (.cells #[] 5)).drew.heap.size := Nat.le_of_eq (World.size_alloc w4 _).symm
          go_wp2_with fail
          go_region_held3 (fun w' => Fit w4 p v n w')
            ((first | (with_reducible assumption) | (with_reducible refine Fit.alloc ?_ _; with_reducible assumption) | exact Fit.drew HF | exact HFa | fail))
            ((first
              | (refine step_app (by rfl) _ _ (by rfl) (by rfl) _ w4.heap.size v2 _ (by rfl) ho2 ⟨g, k, none⟩ (m - k) _ (by rfl) (Fit.src hf2 hR4 hp k (m - k) (by omega)) (by omega) hf2.sz ?_
                 intro v3 x3 ho3 hg3' hb3
                 have hf3 := Fit.row (h := hf2) (ho := ho2) (hp := hp4') (hg := hg3'))
              | (refine step_app (by rfl) _ _ (by rfl) (by rfl) _ w4.heap.size v1 _ (by rfl) (by first | (with_reducible exact ho1) | (with_reducible exact ho1.alloc _) | (with_reducible exact HO6.alloc _)) _ 1 _ (by rfl) (src_one (u := (sg[q].toNat : Int)) (by omega) (by have := sg[q].toNat_lt; omega) (by first | (with_reducible exact hz1) | (simp [go_sem]; done))) (by omega) (Fit.sz (p := p) (v := v) (n := n) (by assumption)) ?_
                 intro v2 x2 ho2 hg2' hb2
                 have hf2 := Fit.row (w4 := w4) (p := p) (v := v) (n := n) (h := by assumption) (ho := by first | (with_reducible exact ho1) | (with_reducible exact ho1.alloc _) | (with_reducible exact HO6.alloc _)) (hp := hp4') (hg := hg2'))
              | (refine step_app (by rfl) _ _ (by rfl) (by rfl) _ w4.heap.size _ 0 (by rfl) (by first | exact HOa | (with_reducible exact HO5) | (with_reducible exact HO5.alloc _) | (with_reducible exact ow_new w5 _ hs5) | (with_reducible exact (ow_new w5 _ hs5).alloc _) | (have := ow_new (w5.alloc (.cells #[.int .u8 (sg[q].toNat : Int)] 5)) w4.heap.size (by simp; omega); simpa using this)) ⟨g, 0, none⟩ k _ (by rfl) (Fit.src (w4 := w4) (p := p) (v := v) (n := n) (by assumption) hR4 hp 0 k (by omega)) (by omega) (Fit.sz (p := p) (v := v) (n := n) (by assumption)) ?_
                 intro v1 x1 ho1 hg1' hb1
                 have hf1 := Fit.row (w4 := w4) (p := p) (v := v) (n := n) (h := by assumption) (ho := by first | exact HOa | (with_reducible exact HO5) | (with_reducible exact HO5.alloc _) | (with_reducible exact ow_new w5 _ hs5) | (with_reducible exact (ow_new w5 _ hs5).alloc _) | (have := ow_new (w5.alloc (.cells #[.int .u8 (sg[q].toNat : Int)] 5)) w4.heap.size (by simp; omega); simpa using this)) (hp := hp4') (hg := hg1')
                 try have hz1 : x1.cell? ⟨w5.heap.size, 0, none⟩ = some (.int .u8 (sg[q].toNat : Int)) := hg1'.cell (by simp [go_sem]) (by simp [Value.ownBlock]; omega)
                 try have hz1 : x1.cell? ⟨w5.heap.size + 1, 0, none⟩ = some (.int .u8 (sg[q].toNat : Int)) := hg1'.cell (by simp [go_sem]) (by simp [Value.ownBlock]))
              | (go_at_call 72
                 refine (l1Below_any p v n (sg.size : Int) (by omega) (by omega) _ (Fit.c (w4 := w4) (by assumption)) (HB4.out.kept (Fit.g (w4 := w4) (p := p) (v := v) (n := n) (by assumption)))).mono ?_
                 rintro e w5 ⟨q, rfl, hq0, hq1, hC5, hg5⟩
                 obtain ⟨q, rfl⟩ := Int.eq_ofNat_of_zero_le hq0
                 have hq2 : (q : Int) < (sg.size : Int) := by omega
                 have hq3 : q < sg.size := by omega
                 have hf5 := Fit.call (w4 := w4) (p := p) (v := v) (n := n) (by assumption) hC5 hg5
                 have hs5 := hf5.sz
                 try have HO5 := Ow.kept HOa hg5 hp4'
                 try have HO6 := Ow.kept ho1 hg5 hp4'
                 try have hs6 := Nat.le_trans hsa hg5.size
                 clear hC5 hg5)))
          all_goals
            go_wp2_with fail
            exact ⟨⟨_, j - 1, by congr 1; omega, ho3.rw.base hB4, by omega, hf3.c, HB0.out.kept (hgw4.trans hf3.g), hgw4.trans hf3.g⟩, by simp [intOf]; omega⟩
      · obtain rfl : m = 0 := by omega
        have hj' : (0 : Int) < (j : Int) := by omega
        obtain ⟨t, ht, hts⟩ := rw_back (cap := cap) Hcells.out
        go_wp2_with fail
        go_ret
        exact ⟨t, rfl, by omega, HC.out, hgw⟩
    · obtain rfl : j = 0 := by omega
      obtain ⟨t, ht, hts⟩ := rw_back (cap := cap) Hcells.out
      go_wp2_with fail
      go_ret
      exact ⟨t, rfl, by omega, HC.out, hgw⟩

end D
end Go.Proofs.YtkhjbhkbknennaaGreatDoor
