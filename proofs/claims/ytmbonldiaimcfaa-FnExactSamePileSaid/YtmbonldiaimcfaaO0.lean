/-
  Lists of words in memory: measured, copied, compared: for a seat with plates and nothing else (gathered by wip/gen_o0.py out of W3 and W4).
-/
import Derived.Test.YtmbonldiaimcfaaGL
import Derived.WalkKit
import Derived.ProofKit
import Derived.OpenShut
import Derived.BigQuiet
import Derived.Deep.QuietTactic
import Derived.WalkLawsBesides
import Derived.Outline
import Derived.Lib.Hide
import Derived.Laws.OwnMore
import Derived.Deep.RegionHeld3
import Derived.Deep.DrawnRows
namespace Go.Proofs.Ytmbonldiaimcfaa
open Go.RowKit
namespace D
theorem set_block {w : World} {p o : Nat} {cs : Array Value} {t : TypeId} {u : Value} (h : w.heap[p]? = some (.cells cs t (0, 0))) : (w.setCell ⟨p, o, none⟩ u).heap[p]? = some (.cells (cs.setIfInBounds o u) t (0, 0)) := by
  have hlt := lt_of_block h
  have h' : w.heap[p] = .cells cs t (0, 0) := by simpa [Array.getElem?_eq_getElem hlt] using h
  show (w.heap.modify p _)[p]? = _
  rw [Array.getElem?_eq_getElem (by simpa using hlt), Array.getElem_modify_self, h']
  simp
theorem grown_draws (w : World) (k : Nat) (row : Option Nat) : w.grownBy (w.drewN k) row := ⟨rfl, rfl, rfl, Nat.le_refl _, fun _ _ _ => rfl⟩
theorem grown_of_below {w w1 : World} (hb : Below w.heap.size w w1) (row : Option Nat) : w.grownBy w1 row := ⟨hb.os, hb.tape, hb.output, hb.size, fun k hk _ => hb.block k hk⟩
end D
namespace L2
open L1

/-- A list of words in memory. -/
def Row (w : World) (v : Value) (ss : List ByteArray) : Prop :=
  ∃ oa cap, v = .slice oa ss.length cap ∧ ss.length ≤ cap ∧ cap ≤ maxLen ∧ ∀ i, i < ss.length → ∃ b off, oa = some ⟨b, off, none⟩ ∧ b < w.heap.size ∧ w.cell? ⟨b, off + i, none⟩ = some (.string (ss.getD i ByteArray.empty))
theorem Row.below {w w' : World} {v : Value} {ss : List ByteArray} (h : Row w v ss) (hb : Below w.heap.size w w') : Row w' v ss := by
  obtain ⟨oa, cap, hv, h1, h2, h3⟩ := h
  refine ⟨oa, cap, hv, h1, h2, fun i hi => ?_⟩
  obtain ⟨b, off, ho, hlt, hc⟩ := h3 i hi
  exact ⟨b, off, ho, Nat.lt_of_lt_of_le hlt hb.size, (hb.cell (p := ⟨b, off + i, none⟩) hlt).trans hc⟩
/-- No more than the laws let in. -/
def Small (ss : List ByteArray) : Prop := ss.length ≤ 1048576 ∧ ∀ i, i < ss.length → (ss.getD i ByteArray.empty).size ≤ 1048576
/-- A list of words that fills a block. -/
def Lst (w : World) (X : Nat) (ss : List ByteArray) : Prop := w.heap[X]? = some (.cells (ss.map Value.string).toArray 9 (0, 0))
theorem Lst.lt {w : World} {X : Nat} {ss : List ByteArray} (h : Lst w X ss) : X < w.heap.size := lt_of_block h
theorem Lst.row {w : World} {X : Nat} {ss : List ByteArray} (h : Lst w X ss) (hn : ss.length ≤ maxLen) : Row w (.slice (some ⟨X, 0, none⟩) ss.length ss.length) ss := by
  refine ⟨_, _, rfl, Nat.le_refl _, hn, fun i hi => ⟨X, 0, rfl, h.lt, ?_⟩⟩
  unfold Lst at h
  simp [World.cell?, h, hi, List.getD]
theorem Lst.below {w w' : World} {X : Nat} {ss : List ByteArray} (h : Lst w X ss) (hb : Below w.heap.size w w') : Lst w' X ss := (hb.block X h.lt).trans h
theorem Lst.kept {w w' : World} {X : Nat} {ss : List ByteArray} {row : Option Nat} (h : Lst w X ss) (hg : w.grownBy w' row) (hne : some X ≠ row) : Lst w' X ss := (hg.block X h.lt hne).trans h

/-- What measuring leaves. -/
def Szed (ss : List ByteArray) (w : World) (e : Ending) (w' : World) : Prop :=
  w = w' ∧ (e = .returned (.int .i64 (-1)) ∨ ∃ x : Int, 0 ≤ x ∧ e = .returned (.int .i64 x) ∧ Small ss)

set_option maxRecDepth 100000 in
set_option maxHeartbeats 1000000 in
theorem szStringS_any (v : Value) (ss : List ByteArray) (w : World) (hR : Row w v ss) (hz : ∀ i, i < ss.length → (ss.getD i ByteArray.empty).size ≤ maxLen) :
    Calls Try.prog 9 #[v, .int .i64 1048576] w (Szed ss w) := by
  obtain ⟨oa, cap, rfl, h1, h2, h3⟩ := hR
  obtain ⟨n, hn⟩ : ∃ n, ss.length = n := ⟨_, rfl⟩
  rw [hn] at h1 h3 hz ⊢
  have Hn := Lib.hid hn
  clear hn
  unfold maxLen at h2 hz
  by_cases hbig : 1048576 < n
  · have hd : decide ((1048576 : Int) - (n : Int) < 0) = true := by simp; omega
    have hlt : (1048576 : Int) - (n : Int) < 0 := by omega
    clear h3 hz
    go_enter Try.func9, Try.ntmps9
    go_wp2
    go_ret
    exact ⟨rfl, Or.inl rfl⟩
  · have hd : decide ((1048576 : Int) - (n : Int) < 0) = false := by simp; omega
    have hge : ¬ (1048576 : Int) - (n : Int) < 0 := by omega
    go_enter Try.func9, Try.ntmps9
    go_wp2
    go_loop [1, 5] (fun l i => ∃ (k : Nat) (x : Int), k ≤ n ∧ 0 ≤ x ∧ x ≤ 1048576 ∧ l = .int .i64 x ∧ i = .int .i64 (k : Int) ∧ ∀ j, j < k → (ss.getD j ByteArray.empty).size ≤ 1048576) (fun _ i => n - (intOf i).toNat)
    case atStart => exact ⟨0, _, Nat.zero_le _, by omega, by omega, rfl, rfl, by intro j hj; omega⟩
    case round =>
      obtain ⟨k, x, hk, hx0, hx1, rfl, rfl, hall⟩ := hrel
      have Hall := Lib.hid hall
      clear hall
      by_cases hlt : k < n
      · obtain ⟨b, off, rfl, hb, hc⟩ := h3 k hlt
        have hzk := hz k hlt
        obtain ⟨s, hs⟩ : ∃ s, ss.getD k ByteArray.empty = s := ⟨_, rfl⟩
        rw [hs] at hc hzk
        have Hs := Lib.hid hs
        have H3 := Lib.hid h3
        have Hz := Lib.hid hz
        clear hs h3 hz hge hd
        have hki : (k : Int) < (n : Int) := by omega
        by_cases hneg : x - (s.size : Int) < 0
        · go_wp2
          go_ret
          exact ⟨rfl, Or.inl rfl⟩
        · go_wp2
          go_round
          case rel =>
            refine ⟨k + 1, _, by omega, ?_, ?_, rfl, by go_num, ?_⟩
            · omega
            · omega
            · intro j hj
              by_cases e : j = k
              · subst e; rw [Hs.out]; omega
              · exact Hall.out j (by omega)
          case measure => simp [intOf]; omega
      · have hki : ¬ (k : Int) < (n : Int) := by omega
        have H3 := Lib.hid h3
        have Hz := Lib.hid hz
        clear h3 hz hge hd
        go_wp2
        go_ret
        refine ⟨rfl, Or.inr ⟨x, hx0, rfl, by rw [Hn.out]; omega, fun j hj => Hall.out j (by rw [Hn.out] at hj; omega)⟩⟩

theorem str_info' : (Try.prog.info? 9).map (fun i => (i.zero, i.size, i.bytes)) = some (some (.string ByteArray.empty), 1, 16) := by kernel_rfl
theorem str_info : ∃ i, Try.prog.info? 9 = some i ∧ i.zero = some (.string ByteArray.empty) ∧ i.size = 1 ∧ i.bytes = 16 := by
  have h := str_info'
  cases hi : Try.prog.info? 9 with
  | none => rw [hi] at h; cases h
  | some i =>
    rw [hi] at h
    simp only [Option.map_some, Option.some.injEq, Prod.mk.injEq] at h
    exact ⟨i, rfl, h.1, h.2.1, h.2.2⟩

/-- 'make([]string, n)'. -/
theorem run_mk (n : Nat) (hn : n ≤ 1048576) : ∃ C : Array Value, C.size = n ∧ ∀ w : World, (Instr.makeSlice 22 (.int .i64 (n : Int)) (.int .i64 (n : Int))).run Try.prog w = .ok (.slice (some ⟨w.heap.size, 0, none⟩) n n) (w.alloc (.cells C 9)) := by
  obtain ⟨i, hi, hz, hs, hb⟩ := str_info
  refine ⟨madeCells (Value.string ByteArray.empty).cells (n * i.size), by rw [size_madeCells, hs, Nat.mul_one], fun w => ?_⟩
  have h := run_make (P := Try.prog) w 22 9 i (.string ByteArray.empty) Try.underlying22 hi hz .i64 .i64 (n : Int) (n : Int) (by omega) (Int.le_refl _) (by rw [hb]; omega) (by omega)
  simpa only [Int.toNat_natCast] using h

/-- What copying leaves. -/
def Copied (ss : List ByteArray) (w : World) (e : Ending) (w' : World) : Prop :=
  e = .returned (.slice (some ⟨w.heap.size, 0, none⟩) ss.length ss.length) ∧ Lst w' w.heap.size ss ∧ Below w.heap.size w w'

/-- The block that is being filled: k words of it. -/
def Fill (w : World) (X : Nat) (ss : List ByteArray) (n k : Nat) : Prop :=
  ∃ cur : Array Value, w.heap[X]? = some (.cells cur 9 (0, 0)) ∧ cur.size = n ∧ ∀ j, j < k → cur[j]? = some (.string (ss.getD j ByteArray.empty))
theorem Fill.cell {w : World} {X n k : Nat} {ss : List ByteArray} (h : Fill w X ss n k) {j : Nat} (hj : j < n) : (∃ u, w.cell? ⟨X, j, none⟩ = some u) ∧ w.frozen? ⟨X, j, none⟩ = false := by
  obtain ⟨cur, hb, hs, _⟩ := h
  have hj' : j < cur.size := by omega
  exact ⟨⟨cur[j], by simp [World.cell?, hb, hj']⟩, by simp [World.frozen?, hb]⟩
theorem Fill.store {w : World} {X n k : Nat} {ss : List ByteArray} (h : Fill w X ss n k) (hk : k < n) : Fill (w.setCell ⟨X, k, none⟩ (.string (ss.getD k ByteArray.empty))) X ss n (k + 1) := by
  obtain ⟨cur, hb, hs, hc⟩ := h
  refine ⟨_, D.set_block hb, by simpa using hs, fun j hj => ?_⟩
  by_cases e : j = k
  · subst e; rw [Array.getElem?_setIfInBounds_self_of_lt (by omega)]
  · rw [Array.getElem?_setIfInBounds_ne (by omega)]
    exact hc j (by omega)
theorem Fill.lst {w : World} {X n : Nat} {ss : List ByteArray} (h : Fill w X ss n n) (hn : ss.length = n) : Lst w X ss := by
  obtain ⟨cur, hb, hs, hc⟩ := h
  have : cur = (ss.map Value.string).toArray := by
    apply Array.ext_getElem?
    intro j
    by_cases hj : j < n
    · rw [hc j hj]
      have : j < ss.length := by omega
      simp [List.getD, this]
    · rw [Array.getElem?_eq_none (by omega), Array.getElem?_eq_none (by simp; omega)]
  unfold Lst
  rw [hb, this]

set_option maxRecDepth 100000 in
set_option maxHeartbeats 1000000 in
theorem toStringS_any (v : Value) (ss : List ByteArray) (w : World) (hR : Row w v ss) (hs : ss.length ≤ 1048576) :
    Calls Try.prog 14 #[v] w (Copied ss w) := by
  obtain ⟨oa, cap, rfl, h1, h2, h3⟩ := hR
  unfold Copied
  obtain ⟨n, hn⟩ : ∃ n, ss.length = n := ⟨_, rfl⟩
  rw [hn] at h1 h3 hs ⊢
  have Hn := Lib.hid hn
  clear hn
  unfold maxLen at h2
  obtain ⟨C, hC, hmk⟩ := run_mk n hs
  have hF : Fill (w.alloc (.cells C 9)) w.heap.size ss n 0 := ⟨C, heap_alloc_new w _, hC, by intro j hj; omega⟩
  have HF := Lib.hid hF
  have H3 := Lib.hid h3
  clear hF hC h3
  go_enter Try.func14, Try.ntmps14
  go_wp2
  go_loopw [4] (fun i wr => ∃ k : Nat, k ≤ n ∧ i = .int .i64 (k : Int) ∧ Fill wr w.heap.size ss n k ∧ Below w.heap.size w wr) (fun i _ => n - (intOf i).toNat)
  case atStart => exact ⟨0, Nat.zero_le _, rfl, HF.out, (Below.refl _ _).alloc (Nat.le_refl _) _⟩
  case round =>
    obtain ⟨k, hk, rfl, hF, hB⟩ := hrel
    have HB := Lib.hid hB
    clear hB hmk
    by_cases hlt : k < n
    · obtain ⟨b, off, rfl, hb, hc⟩ := H3.out k hlt
      have hc' := (HB.out.cell (p := ⟨b, off + k, none⟩) hb).trans hc
      obtain ⟨⟨u, hu⟩, hfz⟩ := hF.cell hlt
      have HF2 := Lib.hid (hF.store hlt)
      clear hF hc
      obtain ⟨s, hs2⟩ : ∃ s, ss.getD k ByteArray.empty = s := ⟨_, rfl⟩
      rw [hs2] at hc' HF2
      clear hs2
      have hki : (k : Int) < (n : Int) := by omega
      go_wp2
      go_roundw
      case rel => exact ⟨k + 1, by omega, by go_num, HF2.out, HB.out.setCell (Nat.le_refl _) _⟩
      case measure => simp [intOf]; omega
    · have hki : ¬ (k : Int) < (n : Int) := by omega
      have hkn : k = n := by omega
      have HF2 := Lib.hid hF
      clear hF
      go_wp2
      go_ret
      exact ⟨rfl, Fill.lst (by rw [hkn] at HF2; exact HF2.out) Hn.out, HB.out⟩

set_option maxRecDepth 100000 in
set_option maxHeartbeats 1000000 in
theorem eqStringS_any (v v' : Value) (ss : List ByteArray) (w : World) (hR : Row w v ss) (hR' : Row w v' ss) :
    Calls Try.prog 22 #[v, v'] w fun e w' => e = .returned (.bool true) ∧ Below w.heap.size w w' := by
  obtain ⟨oa, cap, rfl, h1, h2, h3⟩ := hR
  obtain ⟨oa', cap', rfl, h1', h2', h3'⟩ := hR'
  obtain ⟨n, hn⟩ : ∃ n, ss.length = n := ⟨_, rfl⟩
  rw [hn] at h1 h3 h1' h3' ⊢
  unfold maxLen at h2 h2'
  have H3 := Lib.hid h3
  have H3' := Lib.hid h3'
  clear hn h3 h3'
  go_enter Try.func22, Try.ntmps22
  go_wp2
  go_loopw [5] (fun i wr => ∃ k : Nat, k ≤ n ∧ i = .int .i64 (k : Int) ∧ Below w.heap.size w wr) (fun i _ => n - (intOf i).toNat)
  case atStart => exact ⟨0, Nat.zero_le _, rfl, Below.refl _ _⟩
  case round =>
    obtain ⟨k, hk, rfl, hB⟩ := hrel
    have HB := Lib.hid hB
    clear hB
    by_cases hlt : k < n
    · obtain ⟨b, off, rfl, hb, hc⟩ := H3.out k hlt
      obtain ⟨b', off', rfl, hb', hcc⟩ := H3'.out k hlt
      have hc1 := (HB.out.cell (p := ⟨b, off + k, none⟩) hb).trans hc
      have hc2 := (HB.out.cell (p := ⟨b', off' + k, none⟩) hb').trans hcc
      clear hc hcc
      obtain ⟨s, hs2⟩ : ∃ s, ss.getD k ByteArray.empty = s := ⟨_, rfl⟩
      rw [hs2] at hc1 hc2
      clear hs2
      have hk0 : (0 : Int) ≤ (k : Int) := by omega
      have hki : (k : Int) < (n : Int) := by omega
      go_wp2
      go_quiet (fail)
      go_wp2
      go_roundw
      case rel => exact ⟨k + 1, by omega, by go_num, by first | exact HB.out | exact HB.out.drew | exact HB.out.grown (D.grown_draws _ _ none) HB.out.size (by simp)⟩
      case measure => simp [intOf]; omega
    · have hki : ¬ (k : Int) < (n : Int) := by omega
      go_wp2
      go_ret
      exact ⟨rfl, HB.out⟩

end L2
end Go.Proofs.Ytmbonldiaimcfaa
