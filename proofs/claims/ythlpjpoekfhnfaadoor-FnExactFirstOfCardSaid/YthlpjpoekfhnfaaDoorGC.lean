/-
  Gathered in one text, in this order: Cur, Cur2, Cur3, Cur4, Cur5, Cur6.
-/
import Derived.Test.YthlpjpoekfhnfaaDoorChecked
import Derived.WalkKit
import Derived.ProofKit
import Derived.OpenShut
import Derived.BigQuiet
import Derived.Deep.QuietTactic
import Derived.WalkLawsBesides
import Derived.Outline
import Derived.Lib.Hide
import Derived.OneCell
import Derived.Maps.AppendAt
import Derived.Maps.Range
import Derived.Laws.BitsLemmas
import Derived.Deep.AppendLies
import Derived.Deep.RegionHeld3
import Derived.Deep.DrawnRows
import Derived.Deep.DeepCutAuto
import Derived.Deep.Light
import Derived.Test.YthlpjpoekfhnfaaDoorGA
import Derived.Laws.IdiomStrings
/-
  The draws' cursor: the block that it lies in, the bytes that it goes over, and what one byte of it leaves.
-/
namespace Go.Proofs.YthlpjpoekfhnfaaDoor
open Go.RowKit
namespace D

theorem and255 (n : Int) : bits .and .i64 n 255 = n % 256 := by
  have h : (BitVec.ofInt 64 255).toNat = 2 ^ 8 - 1 := by decide
  have key : (BitVec.ofInt 64 n &&& BitVec.ofInt 64 255).toNat = (n % ((2 ^ 64 : Nat) : Int)).toNat % 2 ^ 8 := by
    rw [BitVec.toNat_and, BitVec.toNat_ofInt, h, Nat.and_two_pow_sub_one_eq_mod]
  show IntKind.i64.wrap ((BitVec.ofInt 64 n &&& BitVec.ofInt 64 255).toNat : Nat) = n % 256
  rw [key, IntKind.wrap_i64]
  omega

/-- The bytes that came in: nil, or a row of a block that is not p's. -/
def Bytes (w : World) (p : Nat) (v : Value) (n : Nat) : Prop :=
  (v = .slice none 0 0 ∧ n = 0) ∨ (∃ a cap, v = .slice (some a) 0 cap ∧ n = 0) ∨ ∃ b off cap, v = .slice (some ⟨b, off, none⟩) n cap ∧ n ≤ cap ∧ cap ≤ maxLen ∧ b < w.heap.size ∧ b ≠ p ∧ ∀ i, i < n → ∃ z : Int, 0 ≤ z ∧ z ≤ 255 ∧ w.cell? ⟨b, off + i, none⟩ = some (.int .u8 z)

/-- The cursor in block p: the bytes, how many have been taken, the number that mixes. -/
def Cur (w : World) (p : Nat) (v : Value) (n : Nat) : Prop :=
  ∃ (i : Nat) (h : Int), i ≤ n ∧ w.heap[p]? = some (.cells #[v, .int .i64 (i : Int), .int .i64 h] 60 (0, 0))

theorem cell3 {w : World} {p : Nat} {a b c : Value} {t : TypeId} (h : w.heap[p]? = some (.cells #[a, b, c] t (0, 0))) :
    w.cell? ⟨p, 0, none⟩ = some a ∧ w.cell? ⟨p, 1, none⟩ = some b ∧ w.cell? ⟨p, 2, none⟩ = some c ∧ (∀ o, w.frozen? ⟨p, o, none⟩ = false) := by
  refine ⟨?_, ?_, ?_, ?_⟩ <;> simp [World.cell?, World.frozen?, h]

theorem set_block {w : World} {p o : Nat} {cs : Array Value} {t : TypeId} {u : Value} (h : w.heap[p]? = some (.cells cs t (0, 0))) : (w.setCell ⟨p, o, none⟩ u).heap[p]? = some (.cells (cs.setIfInBounds o u) t (0, 0)) := by
  have hlt := lt_of_block h
  have h' : w.heap[p] = .cells cs t (0, 0) := by simpa [Array.getElem?_eq_getElem hlt] using h
  show (w.heap.modify p _)[p]? = _
  rw [Array.getElem?_eq_getElem (by simpa using hlt), Array.getElem_modify_self, h']
  simp

/-- What one call on the cursor leaves: some number of that range, a cursor again, and nothing else turned. -/
def Got (p : Nat) (v : Value) (n : Nat) (lo hi : Int) (w : World) (e : Ending) (w' : World) : Prop :=
  ∃ x : Int, e = .returned (.int .i64 x) ∧ lo ≤ x ∧ x ≤ hi ∧ Cur w' p v n ∧ w.grownBy w' (some p)

theorem grown_set (w : World) (p o : Nat) (u : Value) : w.grownBy (w.setCell ⟨p, o, none⟩ u) (some p) :=
  ⟨rfl, rfl, rfl, by simp [World.setCell], fun k _ hne => Below.heap_setCell _ _ _ _ (by intro e; exact hne (by rw [e]))⟩
theorem grown_draws (w : World) (k : Nat) (row : Option Nat) : w.grownBy (w.drewN k) row := ⟨rfl, rfl, rfl, Nat.le_refl _, fun _ _ _ => rfl⟩

theorem Bytes.kept {w w' : World} {p : Nat} {v : Value} {n : Nat} (h : Bytes w p v n) (hg : w.grownBy w' (some p)) : Bytes w' p v n := by
  rcases h with h | h | ⟨b, off, cap, hv, h1, h2, h3, h4, h5⟩
  · exact Or.inl h
  · exact Or.inr (Or.inl h)
  · refine Or.inr (Or.inr ⟨b, off, cap, hv, h1, h2, Nat.lt_of_lt_of_le h3 hg.size, h4, fun i hi => ?_⟩)
    obtain ⟨z, a, c, d⟩ := h5 i hi
    exact ⟨z, a, c, hg.cell d (by intro e; exact h4 (by injection e))⟩

set_option maxRecDepth 100000 in
set_option maxHeartbeats 2000000 in
theorem l1Byte_any (p : Nat) (v : Value) (n : Nat) (w : World) (hC : Cur w p v n) (hB : Bytes w p v n) :
    Calls Tryd.prog 70 #[.pointer (some ⟨p, 0, none⟩)] w (Got p v n 0 255 w) := by
  obtain ⟨i, h, hi, hb⟩ := hC
  obtain ⟨c0, c1, c2, cf⟩ := cell3 hb
  have hf := cf 2
  have hf1 := cf 1
  have Hb := Lib.hid hb
  clear hb cf
  rcases hB with ⟨rfl, rfl⟩ | ⟨a, cap, rfl, rfl⟩ | ⟨b, off, cap, rfl, hn, hm, hbs, hbp, hz⟩
  · obtain rfl : i = 0 := by omega
    go_enter Tryd.func70, Tryd.ntmps70
    go_wp2
    go_quiet (fail)
    go_wp2
    go_quiet (fail)
    go_wp2
    go_ret
    exact ⟨_, rfl, by rw [and255]; omega, by rw [and255]; omega, ⟨0, _, hi, set_block (o := 2) Hb.out⟩, ((grown_set _ _ _ _).trans (grown_draws _ _ _)).trans (grown_draws _ _ _)⟩
  · obtain rfl : i = 0 := by omega
    go_enter Tryd.func70, Tryd.ntmps70
    go_wp2
    go_quiet (fail)
    go_wp2
    go_quiet (fail)
    go_wp2
    go_ret
    exact ⟨_, rfl, by rw [and255]; omega, by rw [and255]; omega, ⟨0, _, hi, set_block (o := 2) Hb.out⟩, ((grown_set _ _ _ _).trans (grown_draws _ _ _)).trans (grown_draws _ _ _)⟩
  · by_cases hlt : i < n
    · obtain ⟨z, z0, z1, hcz⟩ := hz i hlt
      have hi0 : (0 : Int) ≤ (i : Int) := by omega
      have hi1 : (i : Int) < (n : Int) := by omega
      have hbp' : ¬ p = b := fun e => hbp e.symm
      unfold maxLen at hm
      clear hz
      go_enter Tryd.func70, Tryd.ntmps70
      go_wp2
      go_quiet (fail)
      go_wp2
      go_quiet (fail)
      go_wp2
      go_quiet (fail)
      go_wp2
      go_ret
      exact ⟨_, rfl, by rw [and255]; omega, by rw [and255]; omega, ⟨i + 1, _, by omega, set_block (o := 1) (set_block (o := 2) Hb.out)⟩, ((grown_set _ _ _ _).trans (grown_draws _ _ _)).trans (grown_set _ _ _ _)⟩
    · have hi1 : ¬ (i : Int) < (n : Int) := by omega
      clear hz
      go_enter Tryd.func70, Tryd.ntmps70
      go_wp2
      go_quiet (fail)
      go_wp2
      go_quiet (fail)
      go_wp2
      go_ret
      exact ⟨_, rfl, by rw [and255]; omega, by rw [and255]; omega, ⟨i, _, hi, set_block (o := 2) Hb.out⟩, ((grown_set _ _ _ _).trans (grown_draws _ _ _)).trans (grown_draws _ _ _)⟩

/-- A cursor call handed on: what was left before, and what this call leaves. -/
theorem Got.base {p : Nat} {v : Value} {n : Nat} {lo hi : Int} {w w1 : World} {e : Ending} {w' : World} (hg : w.grownBy w1 (some p)) (h : Got p v n lo hi w1 e w') : Got p v n lo hi w e w' := by
  obtain ⟨x, he, h1, h2, hc, hk⟩ := h
  exact ⟨x, he, h1, h2, hc, hg.trans hk⟩

theorem l1Below_none (p : Nat) (v : Value) (n : Nat) (m : Int) (hm : m ≤ 0) (w : World) (hC : Cur w p v n) :
    Calls Tryd.prog 63 #[.pointer (some ⟨p, 0, none⟩), .int .i64 m] w (Got p v n 0 0 w) := by
  go_enter Tryd.func63, Tryd.ntmps63
  go_wp2
  go_ret
  exact ⟨0, rfl, by omega, by omega, hC, ⟨rfl, rfl, rfl, Nat.le_refl _, fun _ _ _ => rfl⟩⟩

theorem emod_bd (x m : Int) (hm : 0 < m) : 0 ≤ x % m ∧ x % m ≤ m - 1 := by
  have h1 := Int.emod_nonneg x (by omega : m ≠ 0)
  have h2 := Int.emod_lt_of_pos x hm
  omega

set_option maxHeartbeats 1000000 in
theorem l1Below_small (p : Nat) (v : Value) (n : Nat) (m : Int) (h0 : 0 < m) (h1 : m ≤ 256) (w : World) (hC : Cur w p v n) (hB : Bytes w p v n) :
    Calls Tryd.prog 63 #[.pointer (some ⟨p, 0, none⟩), .int .i64 m] w (Got p v n 0 (m - 1) w) := by
  have HC := Lib.hid hC
  have HB := Lib.hid hB
  clear hC hB
  go_enter Tryd.func63, Tryd.ntmps63
  go_wp2_with fail
  refine (l1Byte_any p v n _ HC.out HB.out).mono ?_
  rintro e w1 ⟨x, rfl, hx0, hx1, hC1, hg1⟩
  have HC1 := Lib.hid hC1
  clear hC1
  go_wp2
  go_ret
  exact ⟨_, rfl, (emod_bd x m h0).1, (emod_bd x m h0).2, HC1.out, hg1⟩

set_option maxHeartbeats 2000000 in
theorem l1Below_big (p : Nat) (v : Value) (n : Nat) (m : Int) (h1 : 256 < m) (h2 : m ≤ 9223372036854775807) (w : World) (hC : Cur w p v n) (hB : Bytes w p v n) :
    Calls Tryd.prog 63 #[.pointer (some ⟨p, 0, none⟩), .int .i64 m] w (Got p v n 0 (m - 1) w) := by
  have HC := Lib.hid hC
  have HB := Lib.hid hB
  clear hC hB
  go_enter Tryd.func63, Tryd.ntmps63
  go_wp2_with fail
  refine (l1Byte_any p v n _ HC.out HB.out).mono ?_
  rintro e w1 ⟨x, rfl, hx0, hx1, hC1, hg1⟩
  have HC1 := Lib.hid hC1
  have HB1 := Lib.hid (HB.out.kept hg1)
  clear hC1
  go_wp2_with fail
  refine (l1Byte_any p v n _ HC1.out HB1.out).mono ?_
  rintro e w2 ⟨y, rfl, hy0, hy1, hC2, hg2⟩
  have HC2 := Lib.hid hC2
  have HB2 := Lib.hid (HB1.out.kept hg2)
  clear hC2
  go_wp2_with fail
  refine (l1Byte_any p v n _ HC2.out HB2.out).mono ?_
  rintro e w3 ⟨z, rfl, hz0, hz1, hC3, hg3⟩
  have HC3 := Lib.hid hC3
  have HB3 := Lib.hid (HB2.out.kept hg3)
  clear hC3
  go_wp2_with fail
  refine (l1Byte_any p v n _ HC3.out HB3.out).mono ?_
  rintro e w4 ⟨u, rfl, hu0, hu1, hC4, hg4⟩
  have HC4 := Lib.hid hC4
  clear hC4
  go_wp2
  go_ret
  exact ⟨_, rfl, (emod_bd _ m (by omega)).1, (emod_bd _ m (by omega)).2, HC4.out, ((hg1.trans hg2).trans hg3).trans hg4⟩

/-- A number below m: nought where m is not above nought. -/
theorem l1Below_any (p : Nat) (v : Value) (n : Nat) (m : Int) (h0 : 0 < m) (h2 : m ≤ 9223372036854775807) (w : World) (hC : Cur w p v n) (hB : Bytes w p v n) :
    Calls Tryd.prog 63 #[.pointer (some ⟨p, 0, none⟩), .int .i64 m] w (Got p v n 0 (m - 1) w) := by
  by_cases h : m ≤ 256
  · exact l1Below_small p v n m h0 h w hC hB
  · exact l1Below_big p v n m (by omega) h2 w hC hB

/-- What a call on the cursor leaves that answers yes or no. -/
def GotB (p : Nat) (v : Value) (n : Nat) (w : World) (e : Ending) (w' : World) : Prop :=
  ∃ b : Bool, e = .returned (.bool b) ∧ Cur w' p v n ∧ w.grownBy w' (some p)

theorem l1Once_any (p : Nat) (v : Value) (n : Nat) (m : Int) (h0 : 0 < m) (h2 : m ≤ 9223372036854775807) (w : World) (hC : Cur w p v n) (hB : Bytes w p v n) :
    Calls Tryd.prog 62 #[.pointer (some ⟨p, 0, none⟩), .int .i64 m] w (GotB p v n w) := by
  have HC := Lib.hid hC
  have HB := Lib.hid hB
  clear hC hB
  go_enter Tryd.func62, Tryd.ntmps62
  go_wp2_with fail
  refine (l1Below_any p v n m h0 h2 _ HC.out HB.out).mono ?_
  rintro e w1 ⟨x, rfl, hx0, hx1, hC1, hg1⟩
  have HC1 := Lib.hid hC1
  clear hC1
  go_wp2
  go_ret
  exact ⟨_, rfl, HC1.out, hg1⟩

/-- What a call on the cursor leaves that answers a value. -/
def GotV (p : Nat) (v : Value) (n : Nat) (w : World) (e : Ending) (w' : World) : Prop :=
  ∃ k x : Int, e = .returned (.agg #[.int .i64 k, .int .i64 x]) ∧ Cur w' p v n ∧ w.grownBy w' (some p)

end D
end Go.Proofs.YthlpjpoekfhnfaaDoor

/-
  The draws' cursor: a new one; values that are drawn.
-/
namespace Go.Proofs.YthlpjpoekfhnfaaDoor
open Go.RowKit
namespace D

/-- The bytes that came in: nil, or a row of an old block. -/
def Came (w : World) (v : Value) (n : Nat) : Prop :=
  (v = .slice none 0 0 ∧ n = 0) ∨ (∃ a cap, v = .slice (some a) 0 cap ∧ n = 0) ∨ ∃ b off cap, v = .slice (some ⟨b, off, none⟩) n cap ∧ n ≤ cap ∧ cap ≤ maxLen ∧ b < w.heap.size ∧ ∀ i, i < n → ∃ z : Int, 0 ≤ z ∧ z ≤ 255 ∧ w.cell? ⟨b, off + i, none⟩ = some (.int .u8 z)

theorem Came.below {w w' : World} {v : Value} {n : Nat} (h : Came w v n) (hb : Below w.heap.size w w') : Came w' v n := by
  rcases h with h | h | ⟨b, off, cap, hv, h1, h2, h3, h5⟩
  · exact Or.inl h
  · exact Or.inr (Or.inl h)
  · refine Or.inr (Or.inr ⟨b, off, cap, hv, h1, h2, Nat.lt_of_lt_of_le h3 hb.size, fun i hi => ?_⟩)
    obtain ⟨z, a, c, d⟩ := h5 i hi
    exact ⟨z, a, c, (hb.cell (p := ⟨b, off + i, none⟩) h3).trans d⟩

theorem Came.bytes {w : World} {v : Value} {n : Nat} (h : Came w v n) (o : Obj) : Bytes (w.alloc o) w.heap.size v n := by
  rcases h with h | h | ⟨b, off, cap, hv, h1, h2, h3, h5⟩
  · exact Or.inl h
  · exact Or.inr (Or.inl h)
  · refine Or.inr (Or.inr ⟨b, off, cap, hv, h1, h2, by simp; omega, by omega, fun i hi => ?_⟩)
    obtain ⟨z, a, c, d⟩ := h5 i hi
    exact ⟨z, a, c, (((Below.refl w.heap.size w).alloc (Nat.le_refl _) o).cell (p := ⟨b, off + i, none⟩) h3).trans d⟩

/-- What a new cursor is: a new block. -/
def Made (v : Value) (w : World) (e : Ending) (w' : World) : Prop :=
  ∃ h : Int, e = .returned (.pointer (some ⟨w.heap.size, 0, none⟩)) ∧ w' = w.alloc (.cells #[v, .int .i64 0, .int .i64 h] 60)

set_option maxRecDepth 100000 in
set_option maxHeartbeats 1000000 in
theorem l1New_any (v : Value) (n : Nat) (w : World) (hC : Came w v n) :
    Calls Tryd.prog 50 #[v] w (Made v w) := by
  rcases hC with ⟨rfl, rfl⟩ | ⟨a, cap, rfl, rfl⟩ | ⟨b, off, cap, rfl, hn, hm, hbs, hz⟩
  · go_enter Tryd.func50, Tryd.ntmps50
    go_wp2
    go_loop [3, 4] (fun h k => ∃ x : Int, h = .int .i64 x ∧ k = .int .i64 0) (fun _ _ => 0)
    case atStart => exact ⟨_, rfl, rfl⟩
    case round =>
      obtain ⟨x, rfl, rfl⟩ := hrel
      go_wp2
      go_ret
      exact ⟨_, rfl, rfl⟩
  · go_enter Tryd.func50, Tryd.ntmps50
    go_wp2
    go_loop [3, 4] (fun h k => ∃ x : Int, h = .int .i64 x ∧ k = .int .i64 0) (fun _ _ => 0)
    case atStart => exact ⟨_, rfl, rfl⟩
    case round =>
      obtain ⟨x, rfl, rfl⟩ := hrel
      go_wp2
      go_ret
      exact ⟨_, rfl, rfl⟩
  · unfold maxLen at hm
    go_enter Tryd.func50, Tryd.ntmps50
    go_wp2
    go_loop [3, 4] (fun h k => ∃ (x : Int) (j : Nat), j ≤ n ∧ h = .int .i64 x ∧ k = .int .i64 (j : Int)) (fun _ k => n - (intOf k).toNat)
    case atStart => exact ⟨_, 0, Nat.zero_le _, rfl, rfl⟩
    case round =>
      obtain ⟨x, j, hj, rfl, rfl⟩ := hrel
      by_cases hlt : j < n
      · obtain ⟨z, z0, z1, hcz⟩ := hz j hlt
        have hi1 : (j : Int) < (n : Int) := by omega
        clear hz
        go_wp2
        go_round
        case rel => exact ⟨_, j + 1, by omega, rfl, by go_num⟩
        case measure => simp [intOf]; omega
      · have hi1 : ¬ (j : Int) < (n : Int) := by omega
        clear hz
        go_wp2
        go_ret
        exact ⟨_, rfl, rfl⟩

theorem Cur.lt {w : World} {p : Nat} {v : Value} {n : Nat} (h : Cur w p v n) : p < w.heap.size := by
  obtain ⟨i, x, _, hb⟩ := h
  exact lt_of_block hb
theorem Cur.alloc {w : World} {p : Nat} {v : Value} {n : Nat} (h : Cur w p v n) (o : Obj) : Cur (w.alloc o) p v n := by
  have hlt := h.lt
  obtain ⟨i, x, hi, hb⟩ := h
  exact ⟨i, x, hi, (Below.heap_alloc w o p hlt).trans hb⟩
theorem Cur.setCell {w : World} {p : Nat} {v : Value} {n : Nat} (h : Cur w p v n) (a : Addr) (u : Value) (hne : p ≠ a.block) : Cur (w.setCell a u) p v n := by
  obtain ⟨i, x, hi, hb⟩ := h
  exact ⟨i, x, hi, (Below.heap_setCell w a u p hne).trans hb⟩
theorem grown_alloc {w w1 : World} {row : Option Nat} (h : w.grownBy w1 row) (o : Obj) : w.grownBy (w1.alloc o) row := h.trans (World.grownBy_alloc w1 o row)
theorem grown_new {w w1 : World} {row : Option Nat} (h : w.grownBy w1 row) (a : Addr) (u : Value) (ha : w.heap.size ≤ a.block) : w.grownBy (w1.setCell a u) row :=
  ⟨h.os, h.tape, h.output, by simpa [World.setCell] using h.size, fun k hk hne => (Below.heap_setCell w1 a u k (by omega)).trans (h.block k hk hne)⟩
/-- A cell of the call's own, and that it may be written, behind calls on the cursor. -/
theorem own_kept {w w1 : World} {p b o : Nat} {u : Value} (hg : w.grownBy w1 (some p)) (hc : w.cell? ⟨b, o, none⟩ = some u) (hf : w.frozen? ⟨b, o, none⟩ = false) (hne : b ≠ p) : w1.cell? ⟨b, o, none⟩ = some u ∧ w1.frozen? ⟨b, o, none⟩ = false := by
  have hlt := World.block_lt_of_cell? w ⟨b, o, none⟩ hc
  have hn : some b ≠ some p := fun e => hne (Option.some.inj e)
  exact ⟨hg.cell hc hn, (hg.frozen_far ⟨b, o, none⟩ hlt hn).trans hf⟩
/-- A new box of two cells: what it holds, behind calls on the cursor. -/
theorem box_kept {w w1 : World} {p : Nat} {x y : Value} {t : TypeId} (hg : (w.alloc (.cells #[x, y] t)).grownBy w1 (some p)) (hp : p < w.heap.size) :
    (w1.cell? ⟨w.heap.size, 0, none⟩ = some x ∧ w1.frozen? ⟨w.heap.size, 0, none⟩ = false) ∧ (w1.cell? ⟨w.heap.size, 1, none⟩ = some y ∧ w1.frozen? ⟨w.heap.size, 1, none⟩ = false) :=
  ⟨own_kept hg (by simp [go_sem]) (by simp [go_sem]) (by omega), own_kept hg (by simp [go_sem]) (by simp [go_sem]) (by omega)⟩

/-- Two boxes of the call's own, behind calls on the cursor. -/
def Box (w : World) (b : Nat) (x y : Value) : Prop := (w.cell? ⟨b, 0, none⟩ = some x ∧ w.frozen? ⟨b, 0, none⟩ = false) ∧ (w.cell? ⟨b, 1, none⟩ = some y ∧ w.frozen? ⟨b, 1, none⟩ = false)
theorem Box.kept {w w1 : World} {p b : Nat} {x y : Value} (h : Box w b x y) (hg : w.grownBy w1 (some p)) (hne : b ≠ p) : Box w1 b x y :=
  ⟨own_kept hg h.1.1 h.1.2 hne, own_kept hg h.2.1 h.2.2 hne⟩
theorem box_new (w : World) (x y : Value) (t : TypeId) : Box (w.alloc (.cells #[x, y] t)) w.heap.size x y := ⟨⟨by simp [go_sem], by simp [go_sem]⟩, ⟨by simp [go_sem], by simp [go_sem]⟩⟩

/-- The values that one is drawn of. -/
def drawn : Array Value := #[.int .i64 (-1), .int .i64 19, .int .i64 20, .int .i64 1000000, .int .i64 1000001, .int .i64 (-1000000), .int .i64 (-1000001), .int .i64 4611686018427387904]
theorem drawn_cell (w : World) (t : TypeId) (j : Nat) (hj : j < 8) : ∃ u : Int, (w.alloc (.cells drawn t)).cell? ⟨w.heap.size, j, none⟩ = some (.int .i64 u) := by
  have h : j = 0 ∨ j = 1 ∨ j = 2 ∨ j = 3 ∨ j = 4 ∨ j = 5 ∨ j = 6 ∨ j = 7 := by omega
  rcases h with rfl | rfl | rfl | rfl | rfl | rfl | rfl | rfl <;> exact ⟨_, by simp [go_sem, drawn]; rfl⟩

end D
end Go.Proofs.YthlpjpoekfhnfaaDoor

/-
  The draws: values out of the bytes that came in.
-/
namespace Go.Proofs.YthlpjpoekfhnfaaDoor
open Go.RowKit
namespace D

/-- What a draw of one value leaves: some value, and no old block turned. -/
def DrewV (w : World) (e : Ending) (w' : World) : Prop := ∃ k x : Int, e = .returned (.agg #[.int .i64 k, .int .i64 x]) ∧ Below w.heap.size w w'
def DrewI (w : World) (e : Ending) (w' : World) : Prop := ∃ x : Int, e = .returned (.int .i64 x) ∧ Below w.heap.size w w'
def DrewVV (w : World) (e : Ending) (w' : World) : Prop := ∃ k x l y : Int, e = .returned (.tuple #[.agg #[.int .i64 k, .int .i64 x], .agg #[.int .i64 l, .int .i64 y]]) ∧ Below w.heap.size w w'

theorem Box.below {w w1 : World} {b : Nat} {x y : Value} (h : Box w b x y) (hb : Below w.heap.size w w1) : Box w1 b x y := by
  have hg : w.grownBy w1 none := ⟨hb.os, hb.tape, hb.output, hb.size, fun k hk _ => hb.block k hk⟩
  have hlt := World.block_lt_of_cell? w ⟨b, 0, none⟩ h.1.1
  exact ⟨⟨hg.cell h.1.1 (by simp), (hg.frozen_far ⟨b, 0, none⟩ hlt (by simp)).trans h.1.2⟩, ⟨hg.cell h.2.1 (by simp), (hg.frozen_far ⟨b, 1, none⟩ hlt (by simp)).trans h.2.2⟩⟩
theorem cur_new (w : World) (v : Value) (n : Nat) (h : Int) : Cur (w.alloc (.cells #[v, .int .i64 0, .int .i64 h] 60)) w.heap.size v n :=
  ⟨0, h, Nat.zero_le _, by unfold World.alloc; exact Array.getElem?_push_size⟩
theorem below_new (w w1 : World) (o : Obj) (hg : (w.alloc o).grownBy w1 (some w.heap.size)) : Below w.heap.size w w1 :=
  ((Below.refl w.heap.size w).alloc (Nat.le_refl _) o).grown hg (by simp) (fun k e => by cases e; exact Nat.le_refl _)

/-- What is held while the second value is drawn. -/
structure Pack (w : World) (p : Nat) (v : Value) (n : Nat) (w' : World) : Prop where
  c : Cur w' p v n
  b : Bytes w' p v n
  w : Below w.heap.size w w'
theorem Pack.drew {w : World} {p : Nat} {v : Value} {n : Nat} {w' : World} (h : Pack w p v n w') : Pack w p v n w'.drew := ⟨h.c, h.b, h.w.drew⟩
theorem Pack.kept {w : World} {v : Value} {n : Nat} {w' w1 : World} (h : Pack w (w.heap.size + 1 + 1) v n w') (hc : Cur w1 (w.heap.size + 1 + 1) v n) (hg : w'.grownBy w1 (some (w.heap.size + 1 + 1))) : Pack w (w.heap.size + 1 + 1) v n w1 :=
  ⟨hc, h.b.kept hg, h.w.grown hg h.w.size (fun k e => by cases e; omega)⟩
theorem Pack.setCell {w : World} {v : Value} {n : Nat} {w' : World} (h : Pack w (w.heap.size + 1 + 1) v n w') (a : Addr) (u : Value) (h1 : w.heap.size ≤ a.block) (h2 : a.block ≤ w.heap.size + 1) (hN : 0 < n → ∀ b off cap, v = .slice (some ⟨b, off, none⟩) n cap → b < w.heap.size) : Pack w (w.heap.size + 1 + 1) v n (w'.setCell a u) := by
  refine ⟨h.c.setCell a u (by omega), ?_, h.w.setCell h1 u⟩
  rcases h.b with hh | hh | ⟨b, off, cap, hv, q1, q2, q3, q4, q5⟩
  · exact Or.inl hh
  · exact Or.inr (Or.inl hh)
  · refine Or.inr (Or.inr ⟨b, off, cap, hv, q1, q2, by simpa [World.setCell] using q3, q4, fun i hi => ?_⟩)
    obtain ⟨z, z0, z1, hz⟩ := q5 i hi
    exact ⟨z, z0, z1, (World.cell?_setCell_far _ _ _ _ (by have := hN (by omega) b off cap hv; simp; omega)).trans hz⟩
theorem below_of_none {a b : World} (h : a.grownBy b none) : Below a.heap.size a b := ⟨h.os, h.tape, h.output, h.size, fun k hk => h.block k hk (by simp)⟩

end D
end Go.Proofs.YthlpjpoekfhnfaaDoor

/-
  The draws: a text to be read; and: is a draw too long?
-/
namespace Go.Proofs.YthlpjpoekfhnfaaDoor
open Go.RowKit
namespace D

/-- Is there more than that? -/
theorem big_any (v : Value) (n : Nat) (w : World) (hC : Came w v n) :
    Calls Tryd.prog 9 #[v] w fun e w' => e = .returned (.bool (decide (4096 < n))) ∧ w' = w := by
  rcases hC with ⟨rfl, rfl⟩ | ⟨a, cap, rfl, rfl⟩ | ⟨b, off, cap, rfl, hn, hm, hbs, hz⟩
  · go_enter Tryd.func9, Tryd.ntmps9
    go_wp2
    go_ret
    exact ⟨by simp, rfl⟩
  · go_enter Tryd.func9, Tryd.ntmps9
    go_wp2
    go_ret
    exact ⟨by simp, rfl⟩
  · clear hz
    go_enter Tryd.func9, Tryd.ntmps9
    go_wp2
    go_ret
    refine ⟨?_, rfl⟩
    congr 2
    simp
    omega

theorem showB_len (k n : Int) : (L1.showB k n).length ≤ 9 := by
  unfold L1.showB
  cases h : L1.okB k n
  · simp
  · have hb : -1000000 ≤ n ∧ n ≤ 1000000 := by
      simp [L1.okB, L1.numB, L1.pieB, L1.inB] at h
      omega
    have := L1.itoa_len hb.1 hb.2
    rw [if_pos rfl]
    split <;> simp <;> omega
theorem Cur.below {w w1 : World} {p : Nat} {v : Value} {n : Nat} (h : Cur w p v n) (hb : Below w.heap.size w w1) : Cur w1 p v n := by
  have hlt := h.lt
  obtain ⟨i, x, hi, hh⟩ := h
  exact ⟨i, x, hi, (hb.block p hlt).trans hh⟩
theorem grown_of_below {w w1 : World} (hb : Below w.heap.size w w1) (row : Option Nat) : w.grownBy w1 row := ⟨hb.os, hb.tape, hb.output, hb.size, fun k hk _ => hb.block k hk⟩

/-- What a draw of a text leaves. -/
def DrewS (w : World) (e : Ending) (w' : World) : Prop := ∃ t : ByteArray, e = .returned (.string t) ∧ t.size ≤ 1048576 ∧ Below w.heap.size w w'

end D
end Go.Proofs.YthlpjpoekfhnfaaDoor

/-
  Rows of bytes that a call makes: what they hold, and what appending leaves of them.
-/
namespace Go.Proofs.YthlpjpoekfhnfaaDoor
open Go.RowKit
namespace D

/-- A byte's cell. -/
def U8 (u : Value) : Prop := ∃ z : Int, 0 ≤ z ∧ z ≤ 255 ∧ u = .int .u8 z

/-- Bytes in a block from B on, that may be written. -/
def Rw (w : World) (B : Nat) (v : Value) (n : Nat) : Prop :=
  ∃ g cap, v = .slice (some ⟨g, 0, none⟩) n cap ∧ n ≤ cap ∧ cap ≤ maxLen ∧ B ≤ g ∧ g < w.heap.size ∧ ∀ i, i < n → (∃ z : Int, 0 ≤ z ∧ z ≤ 255 ∧ w.cell? ⟨g, i, none⟩ = some (.int .u8 z)) ∧ w.frozen? ⟨g, i, none⟩ = false

/-- A row of bytes that the call owns, to which it appends. -/
def Ow (w : World) (B : Nat) (v : Value) (n : Nat) : Prop :=
  ∃ xs, w.ownsRow B 5 1 v n xs ∧ v ≠ .slice none 0 0 ∧ ∀ u ∈ xs, U8 u

theorem Rw.kept {w w' : World} {B p n : Nat} {v : Value} (h : Rw w B v n) (hg : w.grownBy w' (some p)) (hp : p < B) : Rw w' B v n := by
  obtain ⟨g, cap, hv, h1, h2, h3, h4, h5⟩ := h
  have hne : some g ≠ some p := fun e => by have := Option.some.inj e; omega
  refine ⟨g, cap, hv, h1, h2, h3, Nat.lt_of_lt_of_le h4 hg.size, fun i hi => ?_⟩
  obtain ⟨⟨z, z0, z1, hz⟩, hf⟩ := h5 i hi
  exact ⟨⟨z, z0, z1, hg.cell hz hne⟩, (hg.frozen_far ⟨g, i, none⟩ h4 hne).trans hf⟩

theorem Ow.form {w : World} {B n : Nat} {v : Value} (h : Ow w B v n) : ∃ g cap, v = .slice (some ⟨g, 0, none⟩) n cap ∧ n ≤ cap ∧ cap ≤ maxLen ∧ B ≤ g ∧ g < w.heap.size := by
  obtain ⟨xs, ho, hn, _⟩ := h
  rcases ho.2 with ⟨hv, _⟩ | ⟨g, cap, cur, hv, hb, hg, h1, h2, _⟩
  · exact absurd hv hn
  · exact ⟨g, cap, hv, h1, h2, hb, (Array.getElem?_eq_some_iff.1 hg).1⟩

theorem Ow.rw {w : World} {B n : Nat} {v : Value} (h : Ow w B v n) : Rw w B v n := by
  obtain ⟨xs, ho, hn, hu⟩ := h
  rcases ho.2 with ⟨hv, _⟩ | ⟨g, cap, cur, rfl, hb, hg, h1, h2, hs, ht⟩
  · exact absurd hv hn
  · refine ⟨g, cap, rfl, h1, h2, hb, (Array.getElem?_eq_some_iff.1 hg).1, fun i hi => ⟨?_, by simp [World.frozen?, hg]⟩⟩
    have hlen := ho.1
    have hi' : i < xs.length := by omega
    obtain ⟨z, z0, z1, hz⟩ := hu xs[i] (List.getElem_mem hi')
    refine ⟨z, z0, z1, ?_⟩
    have := ho.cells (g := g) rfl i xs[i] (List.getElem?_eq_getElem hi')
    rw [hz] at this
    have hadd : (⟨g, 0, none⟩ : Addr).add i = ⟨g, i, none⟩ := by unfold Addr.add; split <;> simp_all
    rwa [hadd] at this

theorem Ow.kept {w w' : World} {B p n : Nat} {v : Value} (h : Ow w B v n) (hg : w.grownBy w' (some p)) (hp : p < B) : Ow w' B v n := by
  obtain ⟨xs, ho, hn, hu⟩ := h
  refine ⟨xs, ho.kept hg (Or.inr ?_), hn, hu⟩
  intro e
  have := (ho.lt p e).1
  omega
theorem Ow.alloc {w : World} {B n : Nat} {v : Value} (h : Ow w B v n) (o : Obj) : Ow (w.alloc o) B v n := by
  obtain ⟨xs, ho, hn, hu⟩ := h
  exact ⟨xs, ho.alloc o, hn, hu⟩
theorem Ow.drew {w : World} {B n : Nat} {v : Value} (h : Ow w B v n) : Ow w.drew B v n := by
  obtain ⟨xs, ho, hn, hu⟩ := h
  exact ⟨xs, ho, hn, hu⟩
theorem ow_new (w : World) (B : Nat) (hB : B ≤ w.heap.size) : Ow (w.alloc (.cells #[] 5)) B (.slice (some ⟨w.heap.size, 0, none⟩) 0 0) 0 :=
  ⟨[], World.ownsRow_made w #[] 0 hB (by unfold maxLen; omega) (by simp), by simp, by simp⟩

theorem u8_info' : (Tryd.prog.info? 5).map (fun i => (i.zero, i.size, i.bytes)) = some (some (.int .u8 0), 1, 1) := by kernel_rfl
theorem u8_info : ∃ i, Tryd.prog.info? 5 = some i ∧ i.zero = some (.int .u8 0) ∧ i.size = 1 ∧ i.bytes = 1 := by
  have h := u8_info'
  cases hi : Tryd.prog.info? 5 with
  | none => rw [hi] at h; cases h
  | some i =>
    rw [hi] at h
    simp only [Option.map_some, Option.some.injEq, Prod.mk.injEq] at h
    exact ⟨i, rfl, h.1, h.2.1, h.2.2⟩

/-- Appending a row of bytes. -/
theorem run_app (w : World) (B : Nat) (v : Value) (n : Nat) (hown : Ow w B v n) (ad : Addr) (m c : Nat)
    (hsrc : ∀ j, j < m → ∃ z : Int, 0 ≤ z ∧ z ≤ 255 ∧ w.cell? (ad.add j) = some (.int .u8 z)) (hs : n + m ≤ 100000) (hB : B ≤ w.heap.size) :
    ∃ v' w', (Builtin.append_ #[22, 22] 22 #[v, .slice (some ad) m c]).run Tryd.prog w = .ok v' w' ∧ Ow w' B v' (n + m) ∧ w.grownBy w' v.ownBlock ∧ (v'.ownBlock = v.ownBlock ∨ v'.ownBlock = some w.heap.size) := by
  obtain ⟨xs, ho, hn, hu⟩ := hown
  obtain ⟨i, hi, hz, hsz, hby⟩ := u8_info
  -- the cells to be appended, as a list
  have hl : ∃ news : List Value, news.length = m ∧ (∀ j u, news[j]? = some u → w.cell? (ad.add j) = some u) ∧ ∀ u ∈ news, U8 u := by
    clear hs
    induction m with
    | zero => exact ⟨[], rfl, by simp, by simp⟩
    | succ m ih =>
      obtain ⟨l, h1, h2, h3⟩ := ih (fun j hj => hsrc j (by omega))
      obtain ⟨z, z0, z1, hc⟩ := hsrc m (by omega)
      refine ⟨l ++ [.int .u8 z], by simp [h1], fun j u hj => ?_, fun u hu => ?_⟩
      · rcases Nat.lt_or_ge j l.length with hlt | hge
        · rw [List.getElem?_append_left hlt] at hj
          exact h2 j u hj
        · rw [List.getElem?_append_right hge] at hj
          have : j - l.length = 0 := by
            rcases Nat.eq_zero_or_pos (j - l.length) with h | h
            · exact h
            · rw [List.getElem?_eq_none (by simp; omega)] at hj; cases hj
          rw [this] at hj
          have hjm : j = m := by omega
          subst hjm
          simp at hj
          rw [← hj]
          exact hc
      · simp at hu
        rcases hu with hu | hu
        · exact h3 u hu
        · exact ⟨z, z0, z1, hu⟩
  obtain ⟨news, hl1, hl2, hl3⟩ := hl
  obtain ⟨v', w', hr, h2, h3, h4, h5⟩ := run_append_own_at (P := Tryd.prog) w B 22 22 5 i (.int .u8 0) 1 1 Tryd.underlying22 hi hz hsz hby rfl (by omega) v n xs ho ad m c news (by omega) hl2
    (fun u hu => by obtain ⟨z, _, _, rfl⟩ := hl3 u hu; rfl) (by unfold maxLen; omega) (by omega) hB
  refine ⟨v', w', hr, ⟨xs ++ news, h2, fun e => hn (h4.1 e).1, fun u hu' => ?_⟩, h3, h5⟩
  rcases List.mem_append.1 hu' with h | h
  · exact hu u h
  · exact hl3 u h

end D
end Go.Proofs.YthlpjpoekfhnfaaDoor

/-
  The draws: a text that is bent.
-/
namespace Go.Proofs.YthlpjpoekfhnfaaDoor
open Go.RowKit
attribute [local go_sem ↓] Go.wp_at_zero Go.wp_at_succ
namespace D

/-- Appending a row of bytes, as a step of a region that draws. -/
theorem step_app {ops : Array Oper} {o : Oper} {a : Act} {K : Act → World → Prop} {Q : Exit → Act → World → Prop} {E : Prop} (hgd : o.guard = none) (s x : Operand)
    (ho : o.op = .call { callee := .builtin .append, args := #[s, x], argTypes := #[22, 22] }) (hty : o.type = 22)
    (w : World) (B : Nat) (v : Value) (n : Nat) (hs : a.eval s = v) (hown : Ow w B v n) (ad : Addr) (m c : Nat) (hx : a.eval x = .slice (some ad) m c)
    (hsrc : ∀ j, j < m → ∃ z : Int, 0 ≤ z ∧ z ≤ 255 ∧ w.cell? (ad.add j) = some (.int .u8 z)) (hsm : n + m ≤ 100000) (hB : B ≤ w.heap.size)
    (h : ∀ v' w', Ow w' B v' (n + m) → w.grownBy w' v.ownBlock → (v'.ownBlock = v.ownBlock ∨ v'.ownBlock = some w.heap.size) → K (a.put o.dst v') w') :
    if Region.wanted o (yielded ops a.tmps) = true then Oper.wp Tryd.prog o a w K Q else E := by
  have hw : Region.wanted o (yielded ops a.tmps) = true := by simp [Region.wanted, hgd]
  rw [if_pos hw]
  obtain ⟨v', w', hr, h2, h3, h4⟩ := run_app w B v n hown ad m c hsrc hsm hB
  unfold Oper.wp execOp
  simp only [ho, resolve, invoke, builtin, Sem.run_bind, Sem.run_pure, Result.andThen_ok, List.map_toArray, List.map_cons, List.map_nil, hs, hx, hty, hr]
  exact h v' w' h2 h3 h4

/-- A byte of the row is set. -/
theorem Rw.store {w : World} {B g cap n : Nat} (h : Rw w B (.slice (some ⟨g, 0, none⟩) n cap) n) (k : Nat) (z : Int) (z0 : 0 ≤ z) (z1 : z ≤ 255) : Rw (w.setCell ⟨g, k, none⟩ (.int .u8 z)) B (.slice (some ⟨g, 0, none⟩) n cap) n := by
  obtain ⟨g', cap', hv, h1, h2, h3, h4, h5⟩ := h
  cases hv
  refine ⟨g, cap, rfl, h1, h2, h3, by simpa [World.setCell] using h4, fun i hi => ?_⟩
  obtain ⟨⟨y, y0, y1, hy⟩, hf⟩ := h5 i hi
  refine ⟨?_, by simpa [go_sem] using hf⟩
  by_cases e : i = k
  · subst e
    exact ⟨z, z0, z1, World.cell?_setCell_same' _ _ _ (by rw [hy]; rfl)⟩
  · exact ⟨y, y0, y1, (World.cell?_setCell_other _ _ _ _ (by intro h; injection h with _ h; exact e h.symm)).trans hy⟩

/-- What bending holds: the row, how many rounds are left, the cursor. -/
def Bent (w0 : World) (p : Nat) (v : Value) (n S : Nat) (b x : Value) (wx : World) : Prop :=
  ∃ m j : Nat, x = .int .i64 (j : Int) ∧ Rw wx w0.heap.size b m ∧ m + j ≤ S + 2 ∧ Cur wx p v n ∧ Bytes wx p v n ∧ w0.grownBy wx (some p)

/-- '[]byte(s)': a row. -/
theorem rw_made (w : World) (s : ByteArray) (hs : s.size ≤ 4000) : Rw (w.drew.alloc (.cells (bytesRow s (grownCap w s.size 0 5)) 5 ((bytesRow s (grownCap w s.size 0 5)).size, (bytesRow s (grownCap w s.size 0 5)).size + 1))) w.heap.size (.slice (some ⟨w.heap.size, 0, none⟩) s.size (grownCap w s.size 0 5)) s.size := by
  refine ⟨w.heap.size, _, rfl, grownCap_ge w s.size 0 5, grownCap_le_maxLen w s.size 0 5 (by unfold maxLen; omega), Nat.le_refl _, by simp [World.size_alloc], fun i hi => ⟨?_, ?_⟩⟩
  · have hi' : i < s.data.size := hi
    refine ⟨(s.data[i].toNat : Int), by omega, ?_, ?_⟩
    · have := s.data[i].toNat_lt
      omega
    · exact (World.cell?_alloc_mark w.drew _ _ _ i).trans (bytesRow_at s _ i hi')
  · refine (World.frozen?_alloc_mark w.drew _ _ _ _ i).trans ?_
    have : s.size ≤ (bytesRow s (grownCap w s.size 0 5)).size := by unfold bytesRow; rw [Array.size_append, Array.size_map]; exact Nat.le_add_right _ _
    rw [Bool.and_eq_false_iff]
    exact Or.inl (by simp; omega)

theorem Rw.shrink {w : World} {B g cap m : Nat} (h : Rw w B (.slice (some ⟨g, 0, none⟩) m cap) m) (k : Nat) (hk : k ≤ m) : Rw w B (.slice (some ⟨g, 0, none⟩) k cap) k := by
  obtain ⟨g', cap', hv, h1, h2, h3, h4, h5⟩ := h
  cases hv
  exact ⟨g, cap, rfl, by omega, h2, h3, h4, fun i hi => h5 i (by omega)⟩
theorem Rw.base {w : World} {B B' n : Nat} {v : Value} (h : Rw w B v n) (hB : B' ≤ B) : Rw w B' v n := by
  obtain ⟨g, cap, hv, h1, h2, h3, h4⟩ := h
  exact ⟨g, cap, hv, h1, h2, Nat.le_trans hB h3, h4⟩
theorem Ow.n {w : World} {B n n' : Nat} {v : Value} (h : Ow w B v n) (e : n = n') : Ow w B v n' := e ▸ h

/-- While a statement makes rows of its own: the cursor, and nothing else old has turned. -/
structure Fit (w4 : World) (p : Nat) (v : Value) (n : Nat) (w' : World) : Prop where
  c : Cur w' p v n
  g : w4.grownBy w' (some p)
theorem Fit.drew {w4 w' : World} {p n : Nat} {v : Value} (h : Fit w4 p v n w') : Fit w4 p v n w'.drew := ⟨h.c, h.g.trans (grown_draws w' 1 _)⟩
theorem Fit.alloc {w4 w' : World} {p n : Nat} {v : Value} (h : Fit w4 p v n w') (o : Obj) : Fit w4 p v n (w'.alloc o) := ⟨h.c.alloc o, h.g.trans (World.grownBy_alloc w' o _)⟩
theorem Fit.call {w4 w' w1 : World} {p n : Nat} {v : Value} (h : Fit w4 p v n w') (hc : Cur w1 p v n) (hg : w'.grownBy w1 (some p)) : Fit w4 p v n w1 := ⟨hc, h.g.trans hg⟩
theorem Fit.row {w4 w' w1 : World} {p n q : Nat} {v u : Value} (h : Fit w4 p v n w') (ho : Ow w' w4.heap.size u q) (hp : p < w4.heap.size) (hg : w'.grownBy w1 u.ownBlock) : Fit w4 p v n w1 := by
  obtain ⟨b, cap, rfl, _, _, hb, _⟩ := ho.form
  have hpl := h.c.lt
  obtain ⟨i, x, hi, hh⟩ := h.c
  refine ⟨⟨i, x, hi, (hg.block p hpl (by simp [Value.ownBlock]; omega)).trans hh⟩, ⟨hg.os.trans h.g.os, hg.tape.trans h.g.tape, hg.output.trans h.g.output, Nat.le_trans h.g.size hg.size, fun k hk hne => ?_⟩⟩
  exact (hg.block k (Nat.lt_of_lt_of_le hk h.g.size) (by simp [Value.ownBlock]; omega)).trans (h.g.block k hk hne)
/-- The bytes of the row that was there, read while rows are made. -/
theorem Fit.src {w4 w' : World} {p n B g cap M : Nat} {v : Value} (h : Fit w4 p v n w') (hR : Rw w4 B (.slice (some ⟨g, 0, none⟩) M cap) M) (hp : p < B) (off m : Nat) (hm : off + m ≤ M) :
    ∀ j, j < m → ∃ z : Int, 0 ≤ z ∧ z ≤ 255 ∧ w'.cell? ((⟨g, off, none⟩ : Addr).add j) = some (.int .u8 z) := by
  intro j hj
  obtain ⟨g', cap', hv, h1, h2, h3, h4, h5⟩ := hR.kept h.g hp
  cases hv
  obtain ⟨⟨z, z0, z1, hz⟩, _⟩ := h5 (off + j) (by omega)
  have hadd : (⟨g, off, none⟩ : Addr).add j = ⟨g, off + j, none⟩ := by unfold Addr.add; split <;> simp_all
  exact ⟨z, z0, z1, by rw [hadd]; exact hz⟩

theorem Fit.sz {w4 w' : World} {p n : Nat} {v : Value} (h : Fit w4 p v n w') : w4.heap.size ≤ w'.heap.size := h.g.size
/-- One byte that lies in a block of its own. -/
theorem src_one {W : World} {h : Nat} {u : Int} (u0 : 0 ≤ u) (u1 : u ≤ 255) (hc : W.cell? ⟨h, 0, none⟩ = some (.int .u8 u)) : ∀ j, j < 1 → ∃ z : Int, 0 ≤ z ∧ z ≤ 255 ∧ W.cell? ((⟨h, 0, none⟩ : Addr).add j) = some (.int .u8 z) := by
  intro j hj
  obtain rfl : j = 0 := by omega
  have hadd : (⟨h, 0, none⟩ : Addr).add 0 = ⟨h, 0, none⟩ := by unfold Addr.add; split <;> simp_all
  exact ⟨u, u0, u1, by rw [hadd]; exact hc⟩

/-- The row as a text. -/
theorem rw_back {w : World} {g cap m : Nat} (h : ∀ i, i < m → (∃ z : Int, 0 ≤ z ∧ z ≤ 255 ∧ w.cell? ⟨g, i, none⟩ = some (.int .u8 z)) ∧ w.frozen? ⟨g, i, none⟩ = false) :
    ∃ t : ByteArray, Sem.run Tryd.prog (convert 22 9 (.slice (some ⟨g, 0, none⟩) m cap)) w = .ok (.string t) w ∧ t.size = m := by
  have hl : ∃ l : List UInt8, l.length = m ∧ ∀ j (hj : j < l.length), w.cell? ⟨g, j, none⟩ = some (.int .u8 (l[j].toNat : Int)) := by
    induction m with
    | zero => exact ⟨[], rfl, by simp⟩
    | succ m ih =>
      obtain ⟨l, h1, h2⟩ := ih (fun i hi => h i (by omega))
      obtain ⟨⟨z, z0, z1, hz⟩, _⟩ := h m (by omega)
      refine ⟨l ++ [UInt8.ofNat z.toNat], by simp [h1], fun j hj => ?_⟩
      simp at hj
      by_cases e : j < l.length
      · rw [List.getElem_append_left e]
        exact h2 j e
      · have : j = m := by omega
        subst this
        have hj2 : j = l.length := by omega
        rw [List.getElem_append_right (by omega)]
        simp only [List.getElem_singleton]
        rw [hz]
        have : ((UInt8.ofNat z.toNat).toNat : Int) = z := by
          simp
          omega
        rw [this]
  obtain ⟨l, hl1, hl2⟩ := hl
  subst hl1
  refine ⟨⟨l.toArray⟩, run_convert_bytes_back w 22 9 5 ⟨g, 0, none⟩ cap l Tryd.underlying22 Tryd.underlying5 Tryd.underlying9 (fun j hj => ?_), by simp [ByteArray.size]⟩
  have hadd : (⟨g, 0, none⟩ : Addr).add j = ⟨g, j, none⟩ := by unfold Addr.add; split <;> simp_all
  rw [hadd]
  exact hl2 j hj

end D
end Go.Proofs.YthlpjpoekfhnfaaDoor
