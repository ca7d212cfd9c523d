/-
  Gathered in one text, in this order: W3, W4, W5, Goto, W6, W7, W8.
-/
import Derived.Test.YthlpjpoekfhnfaaDoorGS
import Derived.Test.YthlpjpoekfhnfaaDoorGC
import Derived.Laws.OwnMore
import Derived.Deep.RegionHeld3
import Derived.Deep.DrawnRows
import Derived.Test.YthlpjpoekfhnfaaDoorChecked
import Derived.Scope
import Derived.Tactics
import Derived.WalkMore
/-
  Lists of words in memory: measured, copied, compared.
-/
namespace Go.Proofs.YthlpjpoekfhnfaaDoor
open Go.RowKit
namespace L2
open S1 L1

/-- A list of words in memory. -/
def Row (w : World) (v : Value) (ss : List ByteArray) : Prop :=
  ∃ oa cap, v = .slice oa ss.length cap ∧ ss.length ≤ cap ∧ cap ≤ maxLen ∧ ∀ i, i < ss.length → ∃ b off, oa = some ⟨b, off, none⟩ ∧ b < w.heap.size ∧ w.cell? ⟨b, off + i, none⟩ = some (.string (ss.getD i ByteArray.empty))
theorem Row.below {w w' : World} {v : Value} {ss : List ByteArray} (h : Row w v ss) (hb : Below w.heap.size w w') : Row w' v ss := by
  obtain ⟨oa, cap, hv, h1, h2, h3⟩ := h
  refine ⟨oa, cap, hv, h1, h2, fun i hi => ?_⟩
  obtain ⟨b, off, ho, hlt, hc⟩ := h3 i hi
  exact ⟨b, off, ho, Nat.lt_of_lt_of_le hlt hb.size, (hb.cell (p := ⟨b, off + i, none⟩) hlt).trans hc⟩
/-- No more than the laws let in. -/
def Small (ss : List ByteArray) : Prop := ss.length ≤ 1048576 ∧ ∀ i, i < ss.length → (ss.getD i ByteArray.empty).size ≤ 1048576
/-- A list of words that fills a block. -/
def Lst (w : World) (X : Nat) (ss : List ByteArray) : Prop := w.heap[X]? = some (.cells (ss.map Value.string).toArray 9 (0, 0))
theorem Lst.lt {w : World} {X : Nat} {ss : List ByteArray} (h : Lst w X ss) : X < w.heap.size := lt_of_block h
theorem Lst.row {w : World} {X : Nat} {ss : List ByteArray} (h : Lst w X ss) (hn : ss.length ≤ maxLen) : Row w (.slice (some ⟨X, 0, none⟩) ss.length ss.length) ss := by
  refine ⟨_, _, rfl, Nat.le_refl _, hn, fun i hi => ⟨X, 0, rfl, h.lt, ?_⟩⟩
  unfold Lst at h
  simp [World.cell?, h, hi, List.getD]
theorem Lst.below {w w' : World} {X : Nat} {ss : List ByteArray} (h : Lst w X ss) (hb : Below w.heap.size w w') : Lst w' X ss := (hb.block X h.lt).trans h
theorem Lst.kept {w w' : World} {X : Nat} {ss : List ByteArray} {row : Option Nat} (h : Lst w X ss) (hg : w.grownBy w' row) (hne : some X ≠ row) : Lst w' X ss := (hg.block X h.lt hne).trans h

/-- What measuring leaves. -/
def Szed (ss : List ByteArray) (w : World) (e : Ending) (w' : World) : Prop :=
  w = w' ∧ (e = .returned (.int .i64 (-1)) ∨ ∃ x : Int, 0 ≤ x ∧ e = .returned (.int .i64 x) ∧ Small ss)

set_option maxRecDepth 100000 in
set_option maxHeartbeats 1000000 in
theorem szStringS_any (v : Value) (ss : List ByteArray) (w : World) (hR : Row w v ss) (hz : ∀ i, i < ss.length → (ss.getD i ByteArray.empty).size ≤ maxLen) :
    Calls Tryd.prog 18 #[v, .int .i64 1048576] w (Szed ss w) := by
  obtain ⟨oa, cap, rfl, h1, h2, h3⟩ := hR
  obtain ⟨n, hn⟩ : ∃ n, ss.length = n := ⟨_, rfl⟩
  rw [hn] at h1 h3 hz ⊢
  have Hn := Lib.hid hn
  clear hn
  unfold maxLen at h2 hz
  by_cases hbig : 1048576 < n
  · have hd : decide ((1048576 : Int) - (n : Int) < 0) = true := by simp; omega
    have hlt : (1048576 : Int) - (n : Int) < 0 := by omega
    clear h3 hz
    go_enter Tryd.func18, Tryd.ntmps18
    go_wp2
    go_ret
    exact ⟨rfl, Or.inl rfl⟩
  · have hd : decide ((1048576 : Int) - (n : Int) < 0) = false := by simp; omega
    have hge : ¬ (1048576 : Int) - (n : Int) < 0 := by omega
    go_enter Tryd.func18, Tryd.ntmps18
    go_wp2
    go_loop [1, 5] (fun l i => ∃ (k : Nat) (x : Int), k ≤ n ∧ 0 ≤ x ∧ x ≤ 1048576 ∧ l = .int .i64 x ∧ i = .int .i64 (k : Int) ∧ ∀ j, j < k → (ss.getD j ByteArray.empty).size ≤ 1048576) (fun _ i => n - (intOf i).toNat)
    case atStart => exact ⟨0, _, Nat.zero_le _, by omega, by omega, rfl, rfl, by intro j hj; omega⟩
    case round =>
      obtain ⟨k, x, hk, hx0, hx1, rfl, rfl, hall⟩ := hrel
      have Hall := Lib.hid hall
      clear hall
      by_cases hlt : k < n
      · obtain ⟨b, off, rfl, hb, hc⟩ := h3 k hlt
        have hzk := hz k hlt
        obtain ⟨s, hs⟩ : ∃ s, ss.getD k ByteArray.empty = s := ⟨_, rfl⟩
        rw [hs] at hc hzk
        have Hs := Lib.hid hs
        have H3 := Lib.hid h3
        have Hz := Lib.hid hz
        clear hs h3 hz hge hd
        have hki : (k : Int) < (n : Int) := by omega
        by_cases hneg : x - (s.size : Int) < 0
        · go_wp2
          go_ret
          exact ⟨rfl, Or.inl rfl⟩
        · go_wp2
          go_round
          case rel =>
            refine ⟨k + 1, _, by omega, ?_, ?_, rfl, by go_num, ?_⟩
            · omega
            · omega
            · intro j hj
              by_cases e : j = k
              · subst e; rw [Hs.out]; omega
              · exact Hall.out j (by omega)
          case measure => simp [intOf]; omega
      · have hki : ¬ (k : Int) < (n : Int) := by omega
        have H3 := Lib.hid h3
        have Hz := Lib.hid hz
        clear h3 hz hge hd
        go_wp2
        go_ret
        refine ⟨rfl, Or.inr ⟨x, hx0, rfl, by rw [Hn.out]; omega, fun j hj => Hall.out j (by rw [Hn.out] at hj; omega)⟩⟩

end L2
end Go.Proofs.YthlpjpoekfhnfaaDoor

/-
  Lists of words in memory: copied, compared, searched.
-/
namespace Go.Proofs.YthlpjpoekfhnfaaDoor
open Go.RowKit
namespace L2
open S1 L1

theorem str_info' : (Tryd.prog.info? 9).map (fun i => (i.zero, i.size, i.bytes)) = some (some (.string ByteArray.empty), 1, 16) := by kernel_rfl
theorem str_info : ∃ i, Tryd.prog.info? 9 = some i ∧ i.zero = some (.string ByteArray.empty) ∧ i.size = 1 ∧ i.bytes = 16 := by
  have h := str_info'
  cases hi : Tryd.prog.info? 9 with
  | none => rw [hi] at h; cases h
  | some i =>
    rw [hi] at h
    simp only [Option.map_some, Option.some.injEq, Prod.mk.injEq] at h
    exact ⟨i, rfl, h.1, h.2.1, h.2.2⟩

/-- 'make([]string, n)'. -/
theorem run_mk (n : Nat) (hn : n ≤ 1048576) : ∃ C : Array Value, C.size = n ∧ ∀ w : World, (Instr.makeSlice 24 (.int .i64 (n : Int)) (.int .i64 (n : Int))).run Tryd.prog w = .ok (.slice (some ⟨w.heap.size, 0, none⟩) n n) (w.alloc (.cells C 9)) := by
  obtain ⟨i, hi, hz, hs, hb⟩ := str_info
  refine ⟨madeCells (Value.string ByteArray.empty).cells (n * i.size), by rw [size_madeCells, hs, Nat.mul_one], fun w => ?_⟩
  have h := run_make (P := Tryd.prog) w 24 9 i (.string ByteArray.empty) Tryd.underlying24 hi hz .i64 .i64 (n : Int) (n : Int) (by omega) (Int.le_refl _) (by rw [hb]; omega) (by omega)
  simpa only [Int.toNat_natCast] using h

/-- What copying leaves. -/
def Copied (ss : List ByteArray) (w : World) (e : Ending) (w' : World) : Prop :=
  e = .returned (.slice (some ⟨w.heap.size, 0, none⟩) ss.length ss.length) ∧ Lst w' w.heap.size ss ∧ Below w.heap.size w w'

/-- The block that is being filled: k words of it. -/
def Fill (w : World) (X : Nat) (ss : List ByteArray) (n k : Nat) : Prop :=
  ∃ cur : Array Value, w.heap[X]? = some (.cells cur 9 (0, 0)) ∧ cur.size = n ∧ ∀ j, j < k → cur[j]? = some (.string (ss.getD j ByteArray.empty))
theorem Fill.cell {w : World} {X n k : Nat} {ss : List ByteArray} (h : Fill w X ss n k) {j : Nat} (hj : j < n) : (∃ u, w.cell? ⟨X, j, none⟩ = some u) ∧ w.frozen? ⟨X, j, none⟩ = false := by
  obtain ⟨cur, hb, hs, _⟩ := h
  have hj' : j < cur.size := by omega
  exact ⟨⟨cur[j], by simp [World.cell?, hb, hj']⟩, by simp [World.frozen?, hb]⟩
theorem Fill.store {w : World} {X n k : Nat} {ss : List ByteArray} (h : Fill w X ss n k) (hk : k < n) : Fill (w.setCell ⟨X, k, none⟩ (.string (ss.getD k ByteArray.empty))) X ss n (k + 1) := by
  obtain ⟨cur, hb, hs, hc⟩ := h
  refine ⟨_, D.set_block hb, by simpa using hs, fun j hj => ?_⟩
  by_cases e : j = k
  · subst e; rw [Array.getElem?_setIfInBounds_self_of_lt (by omega)]
  · rw [Array.getElem?_setIfInBounds_ne (by omega)]
    exact hc j (by omega)
theorem Fill.lst {w : World} {X n : Nat} {ss : List ByteArray} (h : Fill w X ss n n) (hn : ss.length = n) : Lst w X ss := by
  obtain ⟨cur, hb, hs, hc⟩ := h
  have : cur = (ss.map Value.string).toArray := by
    apply Array.ext_getElem?
    intro j
    by_cases hj : j < n
    · rw [hc j hj]
      have : j < ss.length := by omega
      simp [List.getD, this]
    · rw [Array.getElem?_eq_none (by omega), Array.getElem?_eq_none (by simp; omega)]
  unfold Lst
  rw [hb, this]

set_option maxRecDepth 100000 in
set_option maxHeartbeats 1000000 in
theorem toStringS_any (v : Value) (ss : List ByteArray) (w : World) (hR : Row w v ss) (hs : ss.length ≤ 1048576) :
    Calls Tryd.prog 20 #[v] w (Copied ss w) := by
  obtain ⟨oa, cap, rfl, h1, h2, h3⟩ := hR
  unfold Copied
  obtain ⟨n, hn⟩ : ∃ n, ss.length = n := ⟨_, rfl⟩
  rw [hn] at h1 h3 hs ⊢
  have Hn := Lib.hid hn
  clear hn
  unfold maxLen at h2
  obtain ⟨C, hC, hmk⟩ := run_mk n hs
  have hF : Fill (w.alloc (.cells C 9)) w.heap.size ss n 0 := ⟨C, heap_alloc_new w _, hC, by intro j hj; omega⟩
  have HF := Lib.hid hF
  have H3 := Lib.hid h3
  clear hF hC h3
  go_enter Tryd.func20, Tryd.ntmps20
  go_wp2
  go_loopw [4] (fun i wr => ∃ k : Nat, k ≤ n ∧ i = .int .i64 (k : Int) ∧ Fill wr w.heap.size ss n k ∧ Below w.heap.size w wr) (fun i _ => n - (intOf i).toNat)
  case atStart => exact ⟨0, Nat.zero_le _, rfl, HF.out, (Below.refl _ _).alloc (Nat.le_refl _) _⟩
  case round =>
    obtain ⟨k, hk, rfl, hF, hB⟩ := hrel
    have HB := Lib.hid hB
    clear hB hmk
    by_cases hlt : k < n
    · obtain ⟨b, off, rfl, hb, hc⟩ := H3.out k hlt
      have hc' := (HB.out.cell (p := ⟨b, off + k, none⟩) hb).trans hc
      obtain ⟨⟨u, hu⟩, hfz⟩ := hF.cell hlt
      have HF2 := Lib.hid (hF.store hlt)
      clear hF hc
      obtain ⟨s, hs2⟩ : ∃ s, ss.getD k ByteArray.empty = s := ⟨_, rfl⟩
      rw [hs2] at hc' HF2
      clear hs2
      have hki : (k : Int) < (n : Int) := by omega
      go_wp2
      go_roundw
      case rel => exact ⟨k + 1, by omega, by go_num, HF2.out, HB.out.setCell (Nat.le_refl _) _⟩
      case measure => simp [intOf]; omega
    · have hki : ¬ (k : Int) < (n : Int) := by omega
      have hkn : k = n := by omega
      have HF2 := Lib.hid hF
      clear hF
      go_wp2
      go_ret
      exact ⟨rfl, Fill.lst (by rw [hkn] at HF2; exact HF2.out) Hn.out, HB.out⟩

set_option maxRecDepth 100000 in
set_option maxHeartbeats 1000000 in
theorem eqStringS_any (v v' : Value) (ss : List ByteArray) (w : World) (hR : Row w v ss) (hR' : Row w v' ss) :
    Calls Tryd.prog 22 #[v, v'] w fun e w' => e = .returned (.bool true) ∧ Below w.heap.size w w' := by
  obtain ⟨oa, cap, rfl, h1, h2, h3⟩ := hR
  obtain ⟨oa', cap', rfl, h1', h2', h3'⟩ := hR'
  obtain ⟨n, hn⟩ : ∃ n, ss.length = n := ⟨_, rfl⟩
  rw [hn] at h1 h3 h1' h3' ⊢
  unfold maxLen at h2 h2'
  have H3 := Lib.hid h3
  have H3' := Lib.hid h3'
  clear hn h3 h3'
  go_enter Tryd.func22, Tryd.ntmps22
  go_wp2
  go_loopw [5] (fun i wr => ∃ k : Nat, k ≤ n ∧ i = .int .i64 (k : Int) ∧ Below w.heap.size w wr) (fun i _ => n - (intOf i).toNat)
  case atStart => exact ⟨0, Nat.zero_le _, rfl, Below.refl _ _⟩
  case round =>
    obtain ⟨k, hk, rfl, hB⟩ := hrel
    have HB := Lib.hid hB
    clear hB
    by_cases hlt : k < n
    · obtain ⟨b, off, rfl, hb, hc⟩ := H3.out k hlt
      obtain ⟨b', off', rfl, hb', hcc⟩ := H3'.out k hlt
      have hc1 := (HB.out.cell (p := ⟨b, off + k, none⟩) hb).trans hc
      have hc2 := (HB.out.cell (p := ⟨b', off' + k, none⟩) hb').trans hcc
      clear hc hcc
      obtain ⟨s, hs2⟩ : ∃ s, ss.getD k ByteArray.empty = s := ⟨_, rfl⟩
      rw [hs2] at hc1 hc2
      clear hs2
      have hk0 : (0 : Int) ≤ (k : Int) := by omega
      have hki : (k : Int) < (n : Int) := by omega
      go_wp2
      go_quiet (fail)
      go_wp2
      go_roundw
      case rel => exact ⟨k + 1, by omega, by go_num, by first | exact HB.out | exact HB.out.drew | exact HB.out.grown (D.grown_draws _ _ none) HB.out.size (by simp)⟩
      case measure => simp [intOf]; omega
    · have hki : ¬ (k : Int) < (n : Int) := by omega
      go_wp2
      go_ret
      exact ⟨rfl, HB.out⟩

end L2
end Go.Proofs.YthlpjpoekfhnfaaDoor

/-
  Lists of words in memory: searched.
-/
namespace Go.Proofs.YthlpjpoekfhnfaaDoor
open Go.RowKit
namespace L2
open S1 L1

/-- What looking for a word leaves. -/
def Found (ss : List ByteArray) (t : List UInt8) (w : World) (e : Ending) (w' : World) : Prop :=
  ∃ r : Int, e = .returned (.int .i64 r) ∧ decide (r < 0) = !(ss.any fun s => s.toList == t) ∧ w = w'

theorem any_yes {ss : List ByteArray} {f : ByteArray → Bool} {k : Nat} (hk : k < ss.length) (h : f (ss.getD k ByteArray.empty) = true) : ss.any f = true := by
  rw [List.any_eq_true]
  exact ⟨ss[k], List.getElem_mem hk, by simpa [List.getD, hk] using h⟩
theorem any_no {ss : List ByteArray} {f : ByteArray → Bool} (h : ∀ j, j < ss.length → f (ss.getD j ByteArray.empty) = false) : ss.any f = false := by
  rw [List.any_eq_false]
  intro x hx
  obtain ⟨j, hj, rfl⟩ := List.mem_iff_getElem.1 hx
  have := h j hj
  simpa [List.getD, hj] using this

set_option maxRecDepth 100000 in
set_option maxHeartbeats 1000000 in
theorem l1At_any (v : Value) (ss : List ByteArray) (t : ByteArray) (w : World) (hR : Row w v ss) :
    Calls Tryd.prog 43 #[v, .string t] w (Found ss t.toList w) := by
  obtain ⟨oa, cap, rfl, h1, h2, h3⟩ := hR
  obtain ⟨n, hn⟩ : ∃ n, ss.length = n := ⟨_, rfl⟩
  rw [hn] at h1 h3 ⊢
  unfold maxLen at h2
  have Hn := Lib.hid hn
  have H3 := Lib.hid h3
  clear hn h3
  go_enter Tryd.func43, Tryd.ntmps43
  go_wp2
  go_loop [5] (fun i => ∃ k : Nat, k ≤ n ∧ i = .int .i64 (k : Int) ∧ Hid (∀ j, j < k → ((ss.getD j ByteArray.empty).toList == t.toList) = false)) (fun i => n - (intOf i).toNat)
  case atStart => exact ⟨0, Nat.zero_le _, rfl, Lib.hid (by intro j hj; omega)⟩
  case round =>
    obtain ⟨k, hk, rfl, hall⟩ := hrel
    by_cases hlt : k < n
    · obtain ⟨b, off, rfl, hb, hc⟩ := H3.out k hlt
      obtain ⟨s, hs2⟩ : ∃ s, ss.getD k ByteArray.empty = s := ⟨_, rfl⟩
      rw [hs2] at hc
      have Hs := Lib.hid hs2
      clear hs2
      have hki : (k : Int) < (n : Int) := by omega
      cases hx : (s.toList == t.toList)
      · go_wp2
        go_round
        case rel =>
          refine ⟨k + 1, by omega, by go_num, Lib.hid (fun j hj => ?_)⟩
          by_cases e : j = k
          · subst e; rw [Hs.out]; exact hx
          · exact hall.out j (by omega)
        case measure => simp [intOf]; omega
      · have ha : ss.any (fun s => s.toList == t.toList) = true := any_yes (f := fun s => s.toList == t.toList) (k := k) (by rw [Hn.out]; exact hlt) (by show ((ss.getD k ByteArray.empty).toList == t.toList) = true; rw [Hs.out]; exact hx)
        have Ha := Lib.hid ha
        clear ha
        go_wp2
        go_ret
        exact ⟨_, rfl, by rw [Ha.out]; simp, rfl⟩
    · have hki : ¬ (k : Int) < (n : Int) := by omega
      have ha : ss.any (fun s => s.toList == t.toList) = false := any_no (f := fun s => s.toList == t.toList) (fun j hj => hall.out j (by rw [Hn.out] at hj; omega))
      have Ha := Lib.hid ha
      clear ha
      go_wp2
      go_ret
      exact ⟨_, rfl, by rw [Ha.out]; rfl, rfl⟩

theorem isPlaceIn_any (oa : Option Addr) (n cap : Nat) (at_ : Int) (w : World) :
    Calls Tryd.prog 40 #[.slice oa n cap, .int .i64 at_] w fun e w' => e = .returned (.bool (decide (0 ≤ at_) && decide (at_ < (n : Int)))) ∧ w = w' := by
  by_cases h0 : 0 ≤ at_ <;> by_cases h1 : at_ < (n : Int)
  all_goals
    go_enter Tryd.func40, Tryd.ntmps40
    go_wp2
    go_ret
    exact ⟨by simp [h0, h1], rfl⟩

/-- What looking for a word of pieces leaves. -/
def Piece (ss : List ByteArray) (w : World) (e : Ending) (w' : World) : Prop :=
  ∃ r : Int, e = .returned (.int .i64 r) ∧ decide (0 ≤ r) = (ss.any fun s => pieceW s.toList) ∧ w = w'

set_option maxRecDepth 100000 in
set_option maxHeartbeats 1000000 in
theorem indexFunc_any (v : Value) (ss : List ByteArray) (w : World) (hR : Row w v ss) :
    Calls Tryd.prog 58 #[v, .func (.func 45) #[] #[]] w (Piece ss w) := by
  obtain ⟨oa, cap, rfl, h1, h2, h3⟩ := hR
  obtain ⟨n, hn⟩ : ∃ n, ss.length = n := ⟨_, rfl⟩
  rw [hn] at h1 h3 ⊢
  unfold maxLen at h2
  have Hn := Lib.hid hn
  have H3 := Lib.hid h3
  clear hn h3
  go_enter Tryd.func58, Tryd.ntmps58
  go_wp2
  go_loop [8] (fun i => ∃ k : Nat, k ≤ n ∧ i = .int .i64 (k : Int) ∧ Hid (∀ j, j < k → pieceW (ss.getD j ByteArray.empty).toList = false)) (fun i => n - (intOf i).toNat)
  case atStart => exact ⟨0, Nat.zero_le _, rfl, Lib.hid (by intro j hj; omega)⟩
  case round =>
    obtain ⟨k, hk, rfl, hall⟩ := hrel
    by_cases hlt : k < n
    · obtain ⟨b, off, rfl, hb, hc⟩ := H3.out k hlt
      obtain ⟨s, hs2⟩ : ∃ s, ss.getD k ByteArray.empty = s := ⟨_, rfl⟩
      rw [hs2] at hc
      have Hs := Lib.hid hs2
      clear hs2
      have hki : (k : Int) < (n : Int) := by omega
      cases hx : pieceW s.toList
      · go_wp2_with (go_at_call 45; refine (isOfPieces_any _ _).mono ?_; rintro e w1 ⟨rfl, rfl⟩; rw [hx])
        go_round
        case rel =>
          refine ⟨k + 1, by omega, by go_num, Lib.hid (fun j hj => ?_)⟩
          by_cases e : j = k
          · subst e; rw [Hs.out]; exact hx
          · exact hall.out j (by omega)
        case measure => simp [intOf]; omega
      · have ha : ss.any (fun s => pieceW s.toList) = true := any_yes (f := fun s => pieceW s.toList) (k := k) (by rw [Hn.out]; exact hlt) (by show pieceW (ss.getD k ByteArray.empty).toList = true; rw [Hs.out]; exact hx)
        have Ha := Lib.hid ha
        clear ha
        go_wp2_with (go_at_call 45; refine (isOfPieces_any _ _).mono ?_; rintro e w1 ⟨rfl, rfl⟩; rw [hx])
        go_ret
        exact ⟨_, rfl, by rw [Ha.out]; simp, rfl⟩
    · have hki : ¬ (k : Int) < (n : Int) := by omega
      have ha : ss.any (fun s => pieceW s.toList) = false := any_no (f := fun s => pieceW s.toList) (fun j hj => hall.out j (by rw [Hn.out] at hj; omega))
      have Ha := Lib.hid ha
      clear ha
      go_wp2
      go_ret
      exact ⟨_, rfl, by rw [Ha.out]; rfl, rfl⟩

theorem containsFunc_any (v : Value) (ss : List ByteArray) (w : World) (hR : Row w v ss) :
    Calls Tryd.prog 44 #[v, .func (.func 45) #[] #[]] w fun e w' => e = .returned (.bool (ss.any fun s => pieceW s.toList)) ∧ w = w' := by
  have H := Lib.hid (indexFunc_any v ss w hR)
  clear hR
  go_enter Tryd.func44, Tryd.ntmps44
  go_wp2_with fail
  refine H.out.mono ?_
  rintro e w1 ⟨r, rfl, hr, rfl⟩
  have Hr := Lib.hid hr
  clear hr
  go_wp2
  go_ret
  exact ⟨by rw [← Hr.out]; rfl, rfl⟩

end L2
end Go.Proofs.YthlpjpoekfhnfaaDoor

/-
  A scope in which the run jumps to several labels: what holds at each of them, and a measure that each passage lowers.
-/
namespace Go.Proofs.YthlpjpoekfhnfaaDoor
namespace Jumps

/-- As Q; by a goto to a label: J of that label. -/
def ways (J : Nat → Act → World → Prop) (Q : Exit → Act → World → Prop) : Exit → Act → World → Prop
  | .goto l, a, w => J l a w
  | e, a, w => Q e a w

theorem scope_labels {P : Program} {a : Act} {w : World} {Q : Exit → Act → World → Prop} {c : Code} (J : Nat → Act → World → Prop) (μ : Nat → Act → World → Nat)
    (first : c.wp P (ways J Q) a w)
    (pass : ∀ l a w, J l a w → ∃ rest, findLabel c l = some rest ∧ rest.wp P (ways (fun l' a' w' => J l' a' w' ∧ μ l' a' w' < μ l a w) Q) a w) : (Code.scope c).wp P Q a w := by
  intro b k cs
  have jump : ∀ l rest, findLabel c l = some rest → gotoIn l (.inScope c :: k) = some (.code rest :: .inScope c :: k) := fun l rest h => by simp [gotoIn, h]
  -- from a label on, whatever the measure
  have key : ∀ n l a w, μ l a w ≤ n → J l a w → ∀ rest, findLabel c l = some rest → ∃ e a' w', Q e a' w' ∧ Arrives P (lone (b.at a (.code rest :: .inScope c :: k)) cs w) b k cs e a' w' := by
    intro n
    induction n with
    | zero =>
      intro l a w hn hJ rest hr
      obtain ⟨rest', hr', hw⟩ := pass l a w hJ
      obtain rfl : rest = rest' := Option.some.inj (hr.symm.trans hr')
      obtain ⟨e, a1, w1, hq, har⟩ := hw b (.inScope c :: k) cs
      cases e with
      | normal => exact ⟨.normal, a1, w1, hq, Steps.trans har (.one step_inScope)⟩
      | exit id => exact ⟨.exit id, a1, w1, hq, fun k' hk => har k' (by simp [exitTo, hk])⟩
      | goto l' => obtain ⟨_, hlt⟩ := hq; omega
      | ret => exact ⟨_, a1, w1, hq, har⟩
      | panic ch => exact ⟨_, a1, w1, hq, har⟩
      | outgrown => exact ⟨_, a1, w1, hq, har⟩
    | succ n ih =>
      intro l a w hn hJ rest hr
      obtain ⟨rest', hr', hw⟩ := pass l a w hJ
      obtain rfl : rest = rest' := Option.some.inj (hr.symm.trans hr')
      obtain ⟨e, a1, w1, hq, har⟩ := hw b (.inScope c :: k) cs
      cases e with
      | normal => exact ⟨.normal, a1, w1, hq, Steps.trans har (.one step_inScope)⟩
      | exit id => exact ⟨.exit id, a1, w1, hq, fun k' hk => har k' (by simp [exitTo, hk])⟩
      | goto l' =>
        obtain ⟨hJ', hlt⟩ := hq
        obtain ⟨r2, h2, _⟩ := pass l' a1 w1 hJ'
        obtain ⟨e2, a2, w2, hq2, har2⟩ := ih l' a1 w1 (by omega) hJ' r2 h2
        exact ⟨e2, a2, w2, hq2, .of_steps (har _ (jump l' r2 h2)) har2⟩
      | ret => exact ⟨_, a1, w1, hq, har⟩
      | panic ch => exact ⟨_, a1, w1, hq, har⟩
      | outgrown => exact ⟨_, a1, w1, hq, har⟩
  obtain ⟨e, a1, w1, hq, har⟩ := first b (.inScope c :: k) cs
  cases e with
  | normal => exact ⟨.normal, a1, w1, hq, .head step_scope (Steps.trans har (.one step_inScope))⟩
  | exit id => exact ⟨.exit id, a1, w1, hq, fun k' hk => .head step_scope (har k' (by simp [exitTo, hk]))⟩
  | goto l' =>
    obtain ⟨r2, h2, _⟩ := pass l' a1 w1 hq
    obtain ⟨e2, a2, w2, hq2, har2⟩ := key _ l' a1 w1 (Nat.le_refl _) hq r2 h2
    exact ⟨e2, a2, w2, hq2, .of_steps (.head step_scope (har _ (jump l' r2 h2))) har2⟩
  | ret => exact ⟨_, a1, w1, hq, .of_steps (.one step_scope) har⟩
  | panic ch => exact ⟨_, a1, w1, hq, .of_steps (.one step_scope) har⟩
  | outgrown => exact ⟨_, a1, w1, hq, .of_steps (.one step_scope) har⟩

/-- The lemma with the first passage given what holds of all; a label's code stands behind the label. -/
theorem scope_labels_first {P : Program} {a : Act} {w : World} {Q : Exit → Act → World → Prop} {c : Code} (J : Nat → Act → World → Prop) (μ : Nat → Act → World → Nat)
    (pass : ∀ l a w, J l a w → ∃ rest, findLabel c l = some (.seq .skip rest) ∧ rest.wp P (ways (fun l' a' w' => J l' a' w' ∧ μ l' a' w' < μ l a w) Q) a w)
    (first : (∀ l a w, J l a w → ∃ rest, findLabel c l = some (.seq .skip rest) ∧ rest.wp P (ways J Q) a w) → c.wp P (ways J Q) a w) : (Code.scope c).wp P Q a w :=
  scope_labels J μ (first fun l a w h => by
    obtain ⟨rest, hr, hw⟩ := pass l a w h
    refine ⟨rest, hr, Code.wp_mono (fun e a' w' hq => ?_) hw⟩
    cases e with
    | goto l' => exact hq.1
    | normal => exact hq
    | exit id => exact hq
    | ret => exact hq
    | panic ch => exact hq
    | outgrown => exact hq) fun l a w h => by
    obtain ⟨rest, hr, hw⟩ := pass l a w h
    exact ⟨_, hr, wp_seq (wp_skip hw)⟩

end Jumps
end Go.Proofs.YthlpjpoekfhnfaaDoor

/-
  The program's reader of one sum: its labels.
-/
namespace Go.Proofs.YthlpjpoekfhnfaaDoor
open Go.RowKit
namespace L2
open S1 L1

/-- The words, as lists of bytes. -/
def wsOf (ss : List ByteArray) : List (List UInt8) := ss.map (·.toList)
theorem ws_len (ss : List ByteArray) : (wsOf ss).length = ss.length := by simp [wsOf]
theorem ws_get {ss : List ByteArray} {i : Nat} (h : i < ss.length) : (wsOf ss)[i]? = some (ss.getD i ByteArray.empty).toList := by simp [wsOf, List.getD, h]
theorem ws_getD {ss : List ByteArray} {i : Nat} (h : i < ss.length) : (wsOf ss).getD i [] = (ss.getD i ByteArray.empty).toList := by simp [wsOf, List.getD, h]

/-- What holds at a label: 0: the next word; 1: no sum; 2: the number behind a word that binds. -/
def Rel (ws : List (List UInt8)) (l read m : Nat) : Prop :=
  (l = 0 ∧ after ws m read = after ws 1 0) ∨ (l = 1 ∧ after ws 1 0 = none) ∨ (l = 2 ∧ (match ws[read]? with | none => none | some y => if nameW y then after ws m (read + 1) else none) = after ws 1 0)
def Lbl (v : Value) (ss : List ByteArray) (w0 : World) (l : Nat) (a : Act) (w : World) : Prop :=
  Below w0.heap.size w0 w ∧ ∃ (read m : Nat) (r x : Int) (u1 u5 u6 u7 u8 u9 u10 u11 u12 u13 u14 u15 u16 u17 u18 u19 u20 u21 u22 u23 u24 u25 u26 u27 u28 u29 u30 u31 u32 u33 u34 u35 u36 u37 u38 u39 u40 u41 u42 u43 u44 u45 u46 u47 u48 u49 : Value), a = { tmps := #[v, u1, .int .i64 0, .int .i64 r, .int .i64 x, u5, u6, u7, u8, u9, u10, u11, u12, u13, u14, u15, u16, u17, u18, u19, u20, u21, u22, u23, u24, u25, u26, u27, u28, u29, u30, u31, u32, u33, u34, u35, u36, u37, u38, u39, u40, u41, u42, u43, u44, u45, u46, u47, u48, u49], defers := [] } ∧ r = (read : Int) ∧ x = (m : Int) ∧ read ≤ ss.length ∧ m ≤ 3 * read + 1 ∧ Rel (wsOf ss) l read m
def mu (n : Nat) (l : Nat) (a : Act) (_ : World) : Nat := if l = 1 then 0 else n + 1 - (intOf (a.tmps.getD 3 undef)).toNat

/-- What the program answers of it. -/
def cntI (ws : List (List UInt8)) : Int := match after ws 1 0 with | none => -1 | some c => (c : Int)

theorem rel_end {ws : List (List UInt8)} {read : Nat} (h : Rel ws 0 read 0) : cntI ws = (read : Int) := by
  rcases h with ⟨_, h⟩ | ⟨h, _⟩ | ⟨h, _⟩
  · unfold cntI; rw [← h]; rfl
  · cases h
  · cases h
theorem rel_none {ws : List (List UInt8)} {read m : Nat} (h : Rel ws 1 read m) : cntI ws = -1 := by
  rcases h with ⟨h, _⟩ | ⟨_, h⟩ | ⟨h, _⟩
  · cases h
  · unfold cntI; rw [h]
  · cases h
theorem rel_far {ws : List (List UInt8)} {read m k : Nat} (h : Rel ws 0 read (m + 1)) (hr : ws.length ≤ read) : Rel ws 1 read k := by
  rcases h with ⟨_, h⟩ | ⟨h, _⟩ | ⟨h, _⟩
  · refine Or.inr (Or.inl ⟨rfl, ?_⟩)
    rw [← h, after_succ]
    have : headEnd ws read = none := by unfold headEnd; rw [List.getElem?_eq_none hr]
    rw [this]
  · cases h
  · cases h
theorem rel_bad {ws : List (List UInt8)} {read m k : Nat} {x : List UInt8} (h : Rel ws 0 read (m + 1)) (hx : ws[read]? = some x) (hb : okW x = false) : Rel ws 1 read k := by
  rcases h with ⟨_, h⟩ | ⟨h, _⟩ | ⟨h, _⟩
  · refine Or.inr (Or.inl ⟨rfl, ?_⟩)
    rw [← h, after_succ]
    have : headEnd ws read = none := by
      unfold headEnd
      rw [hx]
      have : needs x < 0 := by unfold okW at hb; simpa using hb
      simp only [this, if_true]
    rw [this]
  · cases h
  · cases h
theorem rel_next {ws : List (List UInt8)} {read m : Nat} {x : List UInt8} (h : Rel ws 0 read (m + 1)) (hx : ws[read]? = some x) (hb : okW x = true) (hn : bindW x = false) : Rel ws 0 (read + 1) ((needs x).toNat + m) := by
  rcases h with ⟨_, h⟩ | ⟨h, _⟩ | ⟨h, _⟩
  · refine Or.inl ⟨rfl, ?_⟩
    rw [← h, after_succ]
    have h0 : ¬ needs x < 0 := by unfold okW at hb; have := of_decide_eq_true hb; omega
    have : headEnd ws read = some (read + 1) := by
      unfold headEnd
      rw [hx]
      simp [h0, hn]
    rw [this]
    have hk : kids ws read = (needs x).toNat := by unfold kids; simp [List.getD, hx]
    simp only
    rw [hk]
  · cases h
  · cases h
theorem rel_bind {ws : List (List UInt8)} {read m : Nat} {x : List UInt8} (h : Rel ws 0 read (m + 1)) (hx : ws[read]? = some x) (hb : okW x = true) (hn : bindW x = true) : Rel ws 2 (read + 1) ((needs x).toNat + m) := by
  rcases h with ⟨_, h⟩ | ⟨h, _⟩ | ⟨h, _⟩
  · refine Or.inr (Or.inr ⟨rfl, ?_⟩)
    rw [← h, after_succ]
    have h0 : ¬ needs x < 0 := by unfold okW at hb; have := of_decide_eq_true hb; omega
    have hk : kids ws read = (needs x).toNat := by unfold kids; simp [List.getD, hx]
    have : headEnd ws read = match ws[read + 1]? with | none => none | some y => if nameW y then some (read + 2) else none := by
      unfold headEnd
      rw [hx]
      simp only [if_neg h0, hn, if_true]
      cases ws[read + 1]? <;> rfl
    rw [this]
    cases ws[read + 1]? with
    | none => rfl
    | some y =>
      simp only
      cases nameW y
      · rfl
      · simp only [if_true]
        rw [hk]
  · cases h
  · cases h
theorem rel_far2 {ws : List (List UInt8)} {read m k : Nat} (h : Rel ws 2 read m) (hr : ws.length ≤ read) : Rel ws 1 read k := by
  rcases h with ⟨h, _⟩ | ⟨h, _⟩ | ⟨_, h⟩
  · cases h
  · cases h
  · refine Or.inr (Or.inl ⟨rfl, ?_⟩)
    rw [← h, List.getElem?_eq_none hr]
theorem rel_bad2 {ws : List (List UInt8)} {read m k : Nat} {x : List UInt8} (h : Rel ws 2 read m) (hx : ws[read]? = some x) (hn : nameW x = false) : Rel ws 1 read k := by
  rcases h with ⟨h, _⟩ | ⟨h, _⟩ | ⟨_, h⟩
  · cases h
  · cases h
  · refine Or.inr (Or.inl ⟨rfl, ?_⟩)
    rw [← h, hx]
    simp [hn]
theorem rel_next2 {ws : List (List UInt8)} {read m : Nat} {x : List UInt8} (h : Rel ws 2 read m) (hx : ws[read]? = some x) (hn : nameW x = true) : Rel ws 0 (read + 1) m := by
  rcases h with ⟨h, _⟩ | ⟨h, _⟩ | ⟨_, h⟩
  · cases h
  · cases h
  · refine Or.inl ⟨rfl, ?_⟩
    rw [← h, hx]
    simp [hn]

end L2
end Go.Proofs.YthlpjpoekfhnfaaDoor

/-
  The program's reader of one sum: its walk.
-/
namespace Go.Proofs.YthlpjpoekfhnfaaDoor
open Go.RowKit
namespace L2
open S1 L1

theorem needs_nat {l : List UInt8} (h : okW l = true) : ∃ k : Nat, needs l = (k : Int) ∧ k ≤ 3 ∧ (needs l).toNat = k := by
  have h0 : 0 ≤ needs l := of_decide_eq_true h
  have := needs_bd l
  exact ⟨(needs l).toNat, by omega, by omega, rfl⟩

set_option maxRecDepth 100000 in
set_option maxHeartbeats 8000000 in
theorem wordsOfFirst_any (v : Value) (ss : List ByteArray) (w : World) (hR : Row w v ss) (hn : ss.length ≤ 60) (hz : ∀ i, i < ss.length → (ss.getD i ByteArray.empty).size ≤ 1048576) (hV : Vars w) :
    Calls Tryd.prog 41 #[v] w fun e w' => e = .returned (.int .i64 (cntI (wsOf ss))) ∧ Below w.heap.size w w' := by
  obtain ⟨oa, cap, rfl, h1, h2, h3⟩ := hR
  obtain ⟨n, hnn⟩ : ∃ n, ss.length = n := ⟨_, rfl⟩
  have HL := Lib.hid hnn
  have HW := Lib.hid (ws_len ss)
  have H3 := Lib.hid h3
  have HV := Lib.hid hV
  have Hz := Lib.hid hz
  rw [hnn] at h1 hn ⊢
  clear h3 hV hz hnn
  unfold maxLen at h2
  go_enter Tryd.func41, Tryd.ntmps41
  go_wp2_with fail
  refine Jumps.scope_labels_first (Lbl (.slice oa n cap) ss w) (mu n) ?_ ?_
  · intro l a w1 hJ
    obtain ⟨hB, read, m, r, x, u1, u5, u6, u7, u8, u9, u10, u11, u12, u13, u14, u15, u16, u17, u18, u19, u20, u21, u22, u23, u24, u25, u26, u27, u28, u29, u30, u31, u32, u33, u34, u35, u36, u37, u38, u39, u40, u41, u42, u43, u44, u45, u46, u47, u48, u49, rfl, rfl, rfl, hr, hm, hrel⟩ := hJ
    rw [HL.out] at hr
    have HB := Lib.hid hB
    have hl : l = 0 ∨ l = 1 ∨ l = 2 := by
      rcases hrel with ⟨h, _⟩ | ⟨h, _⟩ | ⟨h, _⟩
      · exact Or.inl h
      · exact Or.inr (Or.inl h)
      · exact Or.inr (Or.inr h)
    have HRel := Lib.hid hrel
    clear hrel hB
    rcases hl with rfl | rfl | rfl
    · refine ⟨_, rfl, ?_⟩
      cases m with
      | zero =>
        go_wp2_with fail
        try simp only [Jumps.ways]
        go_ret
        exact ⟨by rw [rel_end HRel.out]; rfl, HB.out⟩
      | succ m =>
        have hne : (((m + 1 : Nat) : Int) == 0) = false := by simp; omega
        have hne' : (((m : Int) + 1) == 0) = false := by simp; omega
        by_cases hrd : read < n
        · have hq : ((read : Int) == (n : Int)) = false := by simp; omega
          have hri : (read : Int) < (n : Int) := by omega
          obtain ⟨b, off, rfl, hb, hc⟩ := H3.out read (by rw [HL.out]; exact hrd)
          have hzs := Hz.out read (by rw [HL.out]; exact hrd)
          have hws := ws_get (ss := ss) (i := read) (by rw [HL.out]; exact hrd)
          obtain ⟨s, hs⟩ : ∃ s, ss.getD read ByteArray.empty = s := ⟨_, rfl⟩
          rw [hs] at hc hzs hws
          have Hws := Lib.hid hws
          clear hs hws
          have hc1 := (HB.out.cell (p := ⟨b, off + read, none⟩) hb).trans hc
          have HC := Lib.hid hc
          clear hc
          go_wp2_with fail
          refine (implWordOk_any s (by omega) _ (HV.out.later HB.out)).mono ?_
          rintro e w2 ⟨rfl, hb2⟩
          have HB2 := Lib.hid (HB.out.trans (hb2.mono HB.out.size))
          clear hb2 hc1
          have hc2 := (HB2.out.cell (p := ⟨b, off + read, none⟩) hb).trans HC.out
          cases hk : okW s.toList
          · have HX : Hid (Rel (wsOf ss) 1 read (m + 1)) := Lib.hid (rel_bad HRel.out Hws.out hk)
            clear hk
            go_wp2_with fail
            go_step3
            exact ⟨⟨HB2.out, read, m + 1, _, _, _, _, _, _, _, _, _, _, _, _, _, _, _, _, _, _, _, _, _, _, _, _, _, _, _, _, _, _, _, _, _, _, _, _, _, _, _, _, _, _, _, _, _, _, _, _, rfl, rfl, rfl, by rw [HL.out]; omega, by omega, HX.out⟩, by simp [mu, intOf]; omega⟩
          · obtain ⟨kd, hkd, hk3, hkn⟩ := needs_nat hk
            have hcn := implNeeds_any s (by omega) w2 (HV.out.later HB2.out)
            rw [hkd] at hcn
            have Hcn := Lib.hid hcn
            have HR0 := Lib.hid (fun hbw => rel_next HRel.out Hws.out hk hbw)
            have HR2 := Lib.hid (fun hbw => rel_bind HRel.out Hws.out hk hbw)
            rw [hkn] at HR0 HR2
            clear hk hkd hkn hcn
            go_wp2_with fail
            refine Hcn.out.mono ?_
            rintro e w3 ⟨rfl, hb3⟩
            have HB3 := Lib.hid (HB2.out.trans (hb3.mono HB2.out.size))
            clear hb3 hc2
            have hc3 := (HB3.out.cell (p := ⟨b, off + read, none⟩) hb).trans HC.out
            go_wp2_with fail
            refine (isOfBound_any s _).mono ?_
            rintro e w4 ⟨rfl, rfl⟩
            cases hbw : bindW s.toList
            · have HX := Lib.hid (HR0.out hbw)
              clear hbw HR0 HR2
              go_wp2_with fail
              go_step3
              exact ⟨⟨HB3.out, read + 1, kd + m, _, _, _, _, _, _, _, _, _, _, _, _, _, _, _, _, _, _, _, _, _, _, _, _, _, _, _, _, _, _, _, _, _, _, _, _, _, _, _, _, _, _, _, _, _, _, _, _, rfl, by omega, by omega, by rw [HL.out]; omega, by omega, HX.out⟩, by simp [mu, intOf]; omega⟩
            · have HX := Lib.hid (HR2.out hbw)
              clear hbw HR0 HR2
              go_wp2_with fail
              go_step3
              exact ⟨⟨HB3.out, read + 1, kd + m, _, _, _, _, _, _, _, _, _, _, _, _, _, _, _, _, _, _, _, _, _, _, _, _, _, _, _, _, _, _, _, _, _, _, _, _, _, _, _, _, _, _, _, _, _, _, _, _, rfl, by omega, by omega, by rw [HL.out]; omega, by omega, HX.out⟩, by simp [mu, intOf]; omega⟩
        · have hq : ((read : Int) == (n : Int)) = true := by simp; omega
          have HX : Hid (Rel (wsOf ss) 1 read (m + 1)) := Lib.hid (rel_far HRel.out (by rw [HW.out, HL.out]; omega))
          go_wp2_with fail
          go_step3
          exact ⟨⟨HB.out, read, m + 1, _, _, _, _, _, _, _, _, _, _, _, _, _, _, _, _, _, _, _, _, _, _, _, _, _, _, _, _, _, _, _, _, _, _, _, _, _, _, _, _, _, _, _, _, _, _, _, _, rfl, rfl, rfl, by rw [HL.out]; omega, by omega, HX.out⟩, by simp [mu, intOf]; omega⟩
    · refine ⟨_, rfl, ?_⟩
      go_wp2_with fail
      try simp only [Jumps.ways]
      go_ret
      exact ⟨by rw [rel_none HRel.out]; rfl, HB.out⟩
    · refine ⟨_, rfl, ?_⟩
      by_cases hrd : read < n
      · have hq : ((read : Int) == (n : Int)) = false := by simp; omega
        have hri : (read : Int) < (n : Int) := by omega
        obtain ⟨b, off, rfl, hb, hc⟩ := H3.out read (by rw [HL.out]; exact hrd)
        have hzs := Hz.out read (by rw [HL.out]; exact hrd)
        have hws := ws_get (ss := ss) (i := read) (by rw [HL.out]; exact hrd)
        obtain ⟨s, hs⟩ : ∃ s, ss.getD read ByteArray.empty = s := ⟨_, rfl⟩
        rw [hs] at hc hzs hws
        have Hws := Lib.hid hws
        clear hs hws
        have hc1 := (HB.out.cell (p := ⟨b, off + read, none⟩) hb).trans hc
        clear hc
        go_wp2_with fail
        refine (isBoundNumber_any s (by omega) _ (HV.out.later HB.out)).mono ?_
        rintro e w2 ⟨rfl, hb2⟩
        have HB2 := Lib.hid (HB.out.trans (hb2.mono HB.out.size))
        clear hb2 hc1
        cases hk : nameW s.toList
        · have HX : Hid (Rel (wsOf ss) 1 read m) := Lib.hid (rel_bad2 HRel.out Hws.out hk)
          clear hk
          go_wp2_with fail
          go_step3
          exact ⟨⟨HB2.out, read, m, _, _, _, _, _, _, _, _, _, _, _, _, _, _, _, _, _, _, _, _, _, _, _, _, _, _, _, _, _, _, _, _, _, _, _, _, _, _, _, _, _, _, _, _, _, _, _, _, rfl, rfl, rfl, by rw [HL.out]; omega, by omega, HX.out⟩, by simp [mu, intOf]; omega⟩
        · have HX := Lib.hid (rel_next2 HRel.out Hws.out hk)
          clear hk
          go_wp2_with fail
          go_step3
          exact ⟨⟨HB2.out, read + 1, m, _, _, _, _, _, _, _, _, _, _, _, _, _, _, _, _, _, _, _, _, _, _, _, _, _, _, _, _, _, _, _, _, _, _, _, _, _, _, _, _, _, _, _, _, _, _, _, _, rfl, by omega, by omega, by rw [HL.out]; omega, by omega, HX.out⟩, by simp [mu, intOf]; omega⟩
      · have hq : ((read : Int) == (n : Int)) = true := by simp; omega
        have HX : Hid (Rel (wsOf ss) 1 read m) := Lib.hid (rel_far2 HRel.out (by rw [HW.out, HL.out]; omega))
        go_wp2_with fail
        go_step3
        exact ⟨⟨HB.out, read, m, _, _, _, _, _, _, _, _, _, _, _, _, _, _, _, _, _, _, _, _, _, _, _, _, _, _, _, _, _, _, _, _, _, _, _, _, _, _, _, _, _, _, _, _, _, _, _, _, rfl, rfl, rfl, by rw [HL.out]; omega, by omega, HX.out⟩, by simp [mu, intOf]; omega⟩
  · intro hp
    have HP := Lib.hid hp
    clear hp
    go_wp2_with fail
    go_step3
    rename_i K hK
    refine hK _ _ ?_
    obtain ⟨rest, hr, hw⟩ := HP.out 0 _ _ ⟨Below.refl _ _, 0, 1, _, _, undef, undef, undef, undef, undef, undef, undef, undef, undef, undef, undef, undef, undef, undef, undef, undef, undef, undef, undef, undef, undef, undef, undef, undef, undef, undef, undef, undef, undef, undef, undef, undef, undef, undef, undef, undef, undef, undef, undef, undef, undef, undef, undef, undef, undef, undef, rfl, rfl, rfl, Nat.zero_le _, by omega, Or.inl ⟨rfl, rfl⟩⟩
    have he := Option.some.inj (hr.symm.trans rfl)
    injection he with _ he
    rw [he] at hw
    exact hw

end L2
end Go.Proofs.YthlpjpoekfhnfaaDoor

/-
  Where a sum ends, for the program; and is a list a sum.
-/
namespace Go.Proofs.YthlpjpoekfhnfaaDoor
open Go.RowKit
namespace L2
open S1 L1

/-- What the program answers. -/
def endI (ws : List (List UInt8)) (i : Nat) : Int := match endP ws i with | none => -1 | some x => (x : Int)
theorem endI_cnt (ws : List (List UInt8)) (i : Nat) : endI ws i = if cntI ((ws.drop i).take 60) < 0 then -1 else (i : Int) + cntI ((ws.drop i).take 60) := by
  unfold endI endP cntI
  cases after ((ws.drop i).take 60) 1 0 with
  | none => rfl
  | some c =>
    simp only [Option.map_some]
    rw [if_neg (by omega)]
    omega
theorem endI_far {ws : List (List UInt8)} {i : Nat} (h : ws.length ≤ i) : endI ws i = -1 := by
  unfold endI endP
  rw [List.drop_eq_nil_of_le h]
  rfl
theorem cnt_bd (ws : List (List UInt8)) : -1 ≤ cntI ws ∧ cntI ws ≤ (ws.length : Int) := by
  unfold cntI
  cases h : after ws 1 0 with
  | none => simp only; omega
  | some c =>
    have := after_bd 1 0 c (Nat.zero_le _) h
    simp only
    omega
theorem ws_window (ss : List ByteArray) (i : Nat) : wsOf ((ss.drop i).take 60) = ((wsOf ss).drop i).take 60 := by
  unfold wsOf
  rw [List.map_take, List.map_drop]

theorem row_sub {w : World} {b off n cap : Nat} {ss : List ByteArray} (hn : ss.length = n) (h1 : n ≤ cap) (h2 : cap ≤ maxLen) (hb : b < w.heap.size) (h : ∀ i, i < n → w.cell? ⟨b, off + i, none⟩ = some (.string (ss.getD i ByteArray.empty))) (i k m : Nat) (hk : ((ss.drop i).take m).length = k) :
    Row w (.slice (some ⟨b, off + i, none⟩) k (cap - i)) ((ss.drop i).take m) := by
  subst hk
  refine ⟨_, _, rfl, ?_, by omega, fun j hj => ⟨b, off + i, rfl, hb, ?_⟩⟩
  · simp only [List.length_take, List.length_drop]; omega
  · have hj' : j < m ∧ i + j < n := by
      simp only [List.length_take, List.length_drop] at hj
      omega
    rw [Nat.add_assoc, h (i + j) hj'.2]
    have e : ((ss.drop i).take m).getD j ByteArray.empty = ss.getD (i + j) ByteArray.empty := by
      simp [List.getD, hj'.1, List.getElem?_drop]
    rw [e]

set_option maxRecDepth 100000 in
set_option maxHeartbeats 2000000 in
theorem implSumEnd_any (v : Value) (ss : List ByteArray) (i : Nat) (w : World) (hR : Row w v ss) (hS : Small ss) (hi : i ≤ 2000000) (hV : Vars w) :
    Calls Tryd.prog 16 #[v, .int .i64 (i : Int)] w fun e w' => e = .returned (.int .i64 (endI (wsOf ss) i)) ∧ Below w.heap.size w w' := by
  obtain ⟨oa, cap, rfl, h1, h2, h3⟩ := hR
  obtain ⟨hs1, hs2⟩ := hS
  obtain ⟨n, hnn⟩ : ∃ n, ss.length = n := ⟨_, rfl⟩
  rw [hnn] at h1 h3 hs1 ⊢
  have HL := Lib.hid hnn
  have HV := Lib.hid hV
  have Hz := Lib.hid hs2
  have hlen := ws_len ss
  have h2' := h2
  unfold maxLen at h2
  by_cases hlt : i < n
  · obtain ⟨b, off, rfl, hb, _⟩ := h3 i hlt
    have hc : ∀ j, j < n → w.cell? ⟨b, off + j, none⟩ = some (.string (ss.getD j ByteArray.empty)) := fun j hj => by
      obtain ⟨b', off', ho, _, hc⟩ := h3 j hj
      cases ho
      exact hc
    have hp1 : (decide ((0 : Int) ≤ (i : Int)) && decide ((i : Int) < (n : Int))) = true := by simp; omega
    have hcnt := cnt_bd (((wsOf ss).drop i).take 60)
    have hwl : (((wsOf ss).drop i).take 60).length ≤ 60 := by simp; omega
    have hval := endI_cnt (wsOf ss) i
    have hcall : ∀ k, ((ss.drop i).take 60).length = k → Calls Tryd.prog 41 #[.slice (some ⟨b, off + i, none⟩) k (cap - i)] w fun e w' => e = .returned (.int .i64 (cntI (((wsOf ss).drop i).take 60))) ∧ Below w.heap.size w w' := fun k hk => by
      have h := wordsOfFirst_any _ _ w (row_sub hnn h1 h2' hb hc i k 60 hk) (by simp; omega) (fun j hj => by
        have hj' : j < 60 ∧ i + j < n := by
          simp only [List.length_take, List.length_drop] at hj
          omega
        have e : ((ss.drop i).take 60).getD j ByteArray.empty = ss.getD (i + j) ByteArray.empty := by
          simp [List.getD, hj'.1, List.getElem?_drop]
        rw [e]
        exact hs2 (i + j) (by omega)) HV.out
      rw [ws_window] at h
      exact h
    have hk : ((ss.drop i).take 60).length = min 60 (n - i) := by simp; omega
    rw [hval]
    generalize cntI (((wsOf ss).drop i).take 60) = c at hcnt hcall ⊢
    have hic : i < cap := by omega
    have hici : ¬ cap = i := by omega
    have hi0 : (0 : Int) ≤ (i : Int) := by omega
    have hin : (i : Int) < (n : Int) := by omega
    have hc60 : c ≤ 60 := by omega
    have hc1 : -1 ≤ c := by omega
    have Hcall := Lib.hid hcall
    have Hk := Lib.hid hk
    clear hcall hk hval hlen hnn h3 hc hs2 hV HV hcnt hwl h2'
    by_cases hneg : c < 0
    all_goals
      go_enter Tryd.func16, Tryd.ntmps16
      go_wp2_with (go_at_call 40; refine (isPlaceIn_any _ _ _ _ _).mono ?_; rintro e w1 ⟨rfl, rfl⟩; rw [hp1])
      refine (Hcall.out _ (by rw [Hk.out]; omega)).mono ?_
      rintro e w1 ⟨rfl, hb1⟩
      go_wp2
      go_ret
      exact ⟨by first | rfl | rw [if_pos hneg] | rw [if_neg hneg] | simp, hb1⟩
  · have hp1 : (decide ((0 : Int) ≤ (i : Int)) && decide ((i : Int) < (n : Int))) = false := by simp; omega
    rw [endI_far (by rw [hlen, hnn]; omega)]
    clear hlen hnn h3 hs2 hV h2'
    go_enter Tryd.func16, Tryd.ntmps16
    go_wp2_with (go_at_call 40; refine (isPlaceIn_any _ _ _ _ _).mono ?_; rintro e w1 ⟨rfl, rfl⟩; rw [hp1])
    go_ret
    exact ⟨rfl, Below.refl _ _⟩

theorem end_all (ws : List (List UInt8)) : ((endI ws 0) == (ws.length : Int)) = okSum ws := by
  rw [← endP_all]
  unfold endI
  cases endP ws 0 with
  | none => simp
  | some x =>
    by_cases h : x = ws.length
    · simp [h]
    · simp [h]
      omega

set_option maxHeartbeats 1000000 in
theorem implSumOk_any (v : Value) (ss : List ByteArray) (w : World) (hR : Row w v ss) (hS : Small ss) (hV : Vars w) :
    Calls Tryd.prog 34 #[v] w fun e w' => e = .returned (.bool (okSum (wsOf ss))) ∧ Below w.heap.size w w' := by
  have H := implSumEnd_any v ss 0 w hR hS (by omega) hV
  have hv := end_all (wsOf ss)
  rw [ws_len] at hv
  obtain ⟨oa, cap, rfl, _, _, _⟩ := hR
  generalize endI (wsOf ss) 0 = x at H hv
  rw [← hv]
  have H := Lib.hid H
  clear hv hS hV
  go_enter Tryd.func34, Tryd.ntmps34
  go_wp2_with fail
  refine H.out.mono ?_
  rintro e w1 ⟨rfl, hb1⟩
  go_wp2
  go_ret
  exact ⟨rfl, hb1⟩

/-- Is it a sum without a word of pieces? -/
def plain (ws : List (List UInt8)) : Bool := okSum ws && !(ws.any pieceW)

theorem any_ws (ss : List ByteArray) (f : List UInt8 → Bool) : (ss.any fun s => f s.toList) = (wsOf ss).any f := by
  unfold wsOf
  rw [List.any_map]
  rfl

set_option maxHeartbeats 1000000 in
theorem implIsPlain_any (v : Value) (ss : List ByteArray) (w : World) (hR : Row w v ss) (hS : Small ss) (hV : Vars w) :
    Calls Tryd.prog 21 #[v] w fun e w' => e = .returned (.bool (plain (wsOf ss))) ∧ Below w.heap.size w w' := by
  have H := implSumOk_any v ss w hR hS hV
  have HR := Lib.hid hR
  have hv : plain (wsOf ss) = (okSum (wsOf ss) && !(ss.any fun s => pieceW s.toList)) := by unfold plain; rw [any_ws]
  rw [hv]
  clear hv hR hS hV
  generalize okSum (wsOf ss) = ok at H ⊢
  cases ok
  · have H := Lib.hid H
    go_enter Tryd.func21, Tryd.ntmps21
    go_wp2_with fail
    refine H.out.mono ?_
    rintro e w1 ⟨rfl, hb1⟩
    go_wp2_with fail
    go_ret
    exact ⟨rfl, hb1⟩
  · have H := Lib.hid H
    have hc := fun w1 hb => containsFunc_any v ss w1 (Row.below (w := w) HR.out hb)
    generalize (ss.any fun s => pieceW s.toList) = q at hc ⊢
    have Hc := Lib.hid hc
    clear hc
    go_enter Tryd.func21, Tryd.ntmps21
    go_wp2_with fail
    refine H.out.mono ?_
    rintro e w1 ⟨rfl, hb1⟩
    go_wp2_with fail
    refine (Hc.out _ hb1).mono ?_
    rintro e w2 ⟨rfl, rfl⟩
    go_wp2_with fail
    go_ret
    exact ⟨rfl, hb1⟩

end L2
end Go.Proofs.YthlpjpoekfhnfaaDoor
