/-
  Lists of words in memory: copied, compared, searched.
-/
import Derived.Test.YtcfniecdjbgknaaDoorW3
namespace Go.Proofs.YtcfniecdjbgknaaDoor
open Go.RowKit
namespace L2
open S1 L1

theorem str_info' : (Tryd.prog.info? 9).map (fun i => (i.zero, i.size, i.bytes)) = some (some (.string ByteArray.empty), 1, 16) := by kernel_rfl
theorem str_info : ∃ i, Tryd.prog.info? 9 = some i ∧ i.zero = some (.string ByteArray.empty) ∧ i.size = 1 ∧ i.bytes = 16 := by
  have h := str_info'
  cases hi : Tryd.prog.info? 9 with
  | none => rw [hi] at h; cases h
  | some i =>
    rw [hi] at h
    simp only [Option.map_some, Option.some.injEq, Prod.mk.injEq] at h
    exact ⟨i, rfl, h.1, h.2.1, h.2.2⟩

/-- 'make([]string, n)'. -/
theorem run_mk (n : Nat) (hn : n ≤ 1048576) : ∃ C : Array Value, C.size = n ∧ ∀ w : World, (Instr.makeSlice 37 (.int .i64 (n : Int)) (.int .i64 (n : Int))).run Tryd.prog w = .ok (.slice (some ⟨w.heap.size, 0, none⟩) n n) (w.alloc (.cells C 9)) := by
  obtain ⟨i, hi, hz, hs, hb⟩ := str_info
  refine ⟨madeCells (Value.string ByteArray.empty).cells (n * i.size), by rw [size_madeCells, hs, Nat.mul_one], fun w => ?_⟩
  have h := run_make (P := Tryd.prog) w 37 9 i (.string ByteArray.empty) Tryd.underlying37 hi hz .i64 .i64 (n : Int) (n : Int) (by omega) (Int.le_refl _) (by rw [hb]; omega) (by omega)
  simpa only [Int.toNat_natCast] using h

/-- What copying leaves. -/
def Copied (ss : List ByteArray) (w : World) (e : Ending) (w' : World) : Prop :=
  e = .returned (.slice (some ⟨w.heap.size, 0, none⟩) ss.length ss.length) ∧ Lst w' w.heap.size ss ∧ Below w.heap.size w w'

/-- The block that is being filled: k words of it. -/
def Fill (w : World) (X : Nat) (ss : List ByteArray) (n k : Nat) : Prop :=
  ∃ cur : Array Value, w.heap[X]? = some (.cells cur 9 (0, 0)) ∧ cur.size = n ∧ ∀ j, j < k → cur[j]? = some (.string (ss.getD j ByteArray.empty))
theorem Fill.cell {w : World} {X n k : Nat} {ss : List ByteArray} (h : Fill w X ss n k) {j : Nat} (hj : j < n) : (∃ u, w.cell? ⟨X, j, none⟩ = some u) ∧ w.frozen? ⟨X, j, none⟩ = false := by
  obtain ⟨cur, hb, hs, _⟩ := h
  have hj' : j < cur.size := by omega
  exact ⟨⟨cur[j], by simp [World.cell?, hb, hj']⟩, by simp [World.frozen?, hb]⟩
theorem Fill.store {w : World} {X n k : Nat} {ss : List ByteArray} (h : Fill w X ss n k) (hk : k < n) : Fill (w.setCell ⟨X, k, none⟩ (.string (ss.getD k ByteArray.empty))) X ss n (k + 1) := by
  obtain ⟨cur, hb, hs, hc⟩ := h
  refine ⟨_, D.set_block hb, by simpa using hs, fun j hj => ?_⟩
  by_cases e : j = k
  · subst e; rw [Array.getElem?_setIfInBounds_self_of_lt (by omega)]
  · rw [Array.getElem?_setIfInBounds_ne (by omega)]
    exact hc j (by omega)
theorem Fill.lst {w : World} {X n : Nat} {ss : List ByteArray} (h : Fill w X ss n n) (hn : ss.length = n) : Lst w X ss := by
  obtain ⟨cur, hb, hs, hc⟩ := h
  have : cur = (ss.map Value.string).toArray := by
    apply Array.ext_getElem?
    intro j
    by_cases hj : j < n
    · rw [hc j hj]
      have : j < ss.length := by omega
      simp [List.getD, this]
    · rw [Array.getElem?_eq_none (by omega), Array.getElem?_eq_none (by simp; omega)]
  unfold Lst
  rw [hb, this]

set_option maxRecDepth 100000 in
set_option maxHeartbeats 1000000 in
theorem toStringS_any (v : Value) (ss : List ByteArray) (w : World) (hR : Row w v ss) (hs : ss.length ≤ 1048576) :
    Calls Tryd.prog 45 #[v] w (Copied ss w) := by
  obtain ⟨oa, cap, rfl, h1, h2, h3⟩ := hR
  unfold Copied
  obtain ⟨n, hn⟩ : ∃ n, ss.length = n := ⟨_, rfl⟩
  rw [hn] at h1 h3 hs ⊢
  have Hn := Lib.hid hn
  clear hn
  unfold maxLen at h2
  obtain ⟨C, hC, hmk⟩ := run_mk n hs
  have hF : Fill (w.alloc (.cells C 9)) w.heap.size ss n 0 := ⟨C, heap_alloc_new w _, hC, by intro j hj; omega⟩
  have HF := Lib.hid hF
  have H3 := Lib.hid h3
  clear hF hC h3
  go_enter Tryd.func45, Tryd.ntmps45
  go_wp2
  go_loopw [4] (fun i wr => ∃ k : Nat, k ≤ n ∧ i = .int .i64 (k : Int) ∧ Fill wr w.heap.size ss n k ∧ Below w.heap.size w wr) (fun i _ => n - (intOf i).toNat)
  case atStart => exact ⟨0, Nat.zero_le _, rfl, HF.out, (Below.refl _ _).alloc (Nat.le_refl _) _⟩
  case round =>
    obtain ⟨k, hk, rfl, hF, hB⟩ := hrel
    have HB := Lib.hid hB
    clear hB hmk
    by_cases hlt : k < n
    · obtain ⟨b, off, rfl, hb, hc⟩ := H3.out k hlt
      have hc' := (HB.out.cell (p := ⟨b, off + k, none⟩) hb).trans hc
      obtain ⟨⟨u, hu⟩, hfz⟩ := hF.cell hlt
      have HF2 := Lib.hid (hF.store hlt)
      clear hF hc
      obtain ⟨s, hs2⟩ : ∃ s, ss.getD k ByteArray.empty = s := ⟨_, rfl⟩
      rw [hs2] at hc' HF2
      clear hs2
      have hki : (k : Int) < (n : Int) := by omega
      go_wp2
      go_roundw
      case rel => exact ⟨k + 1, by omega, by go_num, HF2.out, HB.out.setCell (Nat.le_refl _) _⟩
      case measure => simp [intOf]; omega
    · have hki : ¬ (k : Int) < (n : Int) := by omega
      have hkn : k = n := by omega
      have HF2 := Lib.hid hF
      clear hF
      go_wp2
      go_ret
      exact ⟨rfl, Fill.lst (by rw [hkn] at HF2; exact HF2.out) Hn.out, HB.out⟩

set_option maxRecDepth 100000 in
set_option maxHeartbeats 1000000 in
theorem eqStringS_any (v v' : Value) (ss : List ByteArray) (w : World) (hR : Row w v ss) (hR' : Row w v' ss) :
    Calls Tryd.prog 47 #[v, v'] w fun e w' => e = .returned (.bool true) ∧ Below w.heap.size w w' := by
  obtain ⟨oa, cap, rfl, h1, h2, h3⟩ := hR
  obtain ⟨oa', cap', rfl, h1', h2', h3'⟩ := hR'
  obtain ⟨n, hn⟩ : ∃ n, ss.length = n := ⟨_, rfl⟩
  rw [hn] at h1 h3 h1' h3' ⊢
  unfold maxLen at h2 h2'
  have H3 := Lib.hid h3
  have H3' := Lib.hid h3'
  clear hn h3 h3'
  go_enter Tryd.func47, Tryd.ntmps47
  go_wp2
  go_loopw [5] (fun i wr => ∃ k : Nat, k ≤ n ∧ i = .int .i64 (k : Int) ∧ Below w.heap.size w wr) (fun i _ => n - (intOf i).toNat)
  case atStart => exact ⟨0, Nat.zero_le _, rfl, Below.refl _ _⟩
  case round =>
    obtain ⟨k, hk, rfl, hB⟩ := hrel
    have HB := Lib.hid hB
    clear hB
    by_cases hlt : k < n
    · obtain ⟨b, off, rfl, hb, hc⟩ := H3.out k hlt
      obtain ⟨b', off', rfl, hb', hcc⟩ := H3'.out k hlt
      have hc1 := (HB.out.cell (p := ⟨b, off + k, none⟩) hb).trans hc
      have hc2 := (HB.out.cell (p := ⟨b', off' + k, none⟩) hb').trans hcc
      clear hc hcc
      obtain ⟨s, hs2⟩ : ∃ s, ss.getD k ByteArray.empty = s := ⟨_, rfl⟩
      rw [hs2] at hc1 hc2
      clear hs2
      have hk0 : (0 : Int) ≤ (k : Int) := by omega
      have hki : (k : Int) < (n : Int) := by omega
      go_wp2
      go_quiet (fail)
      go_wp2
      go_roundw
      case rel => exact ⟨k + 1, by omega, by go_num, by first | exact HB.out | exact HB.out.drew | exact HB.out.grown (D.grown_draws _ _ none) HB.out.size (by simp)⟩
      case measure => simp [intOf]; omega
    · have hki : ¬ (k : Int) < (n : Int) := by omega
      go_wp2
      go_ret
      exact ⟨rfl, HB.out⟩

end L2
end Go.Proofs.YtcfniecdjbgknaaDoor
