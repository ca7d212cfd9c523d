/-
  Lists of plates in memory: measured, copied, compared, asked.
-/
import Derived.Test.YtkhjbhkbknennaaGreatDoorN2
import Derived.Laws.OwnMore
import Derived.Laws.MakeOwn
import Derived.Deep.RegionHeld3
namespace Go.Proofs.YtkhjbhkbknennaaGreatDoor
open Go.RowKit Go.Sort
namespace L2
open L1

def p0 : Pl := ⟨0, 0, 0, 0, 0, 0⟩
/-- A plate in memory. -/
def PlAt (w : World) (b o : Nat) (p : Pl) : Prop :=
  w.cell? ⟨b, o, none⟩ = some (.int .i64 p.k) ∧ w.cell? ⟨b, o + 1, none⟩ = some (.int .i64 p.a) ∧ w.cell? ⟨b, o + 1 + 1, none⟩ = some (.int .i64 p.ak) ∧ w.cell? ⟨b, o + 1 + 1 + 1, none⟩ = some (.int .i64 p.an) ∧ w.cell? ⟨b, o + 1 + 1 + 1 + 1, none⟩ = some (.int .i64 p.vk) ∧ w.cell? ⟨b, o + 1 + 1 + 1 + 1 + 1, none⟩ = some (.int .i64 p.vn)
theorem PlAt.of {w w' : World} {b o : Nat} {p : Pl} (h : PlAt w b o p) (hc : ∀ j, w'.cell? ⟨b, j, none⟩ = w.cell? ⟨b, j, none⟩) : PlAt w' b o p := by
  obtain ⟨h0, h1, h2, h3, h4, h5⟩ := h
  exact ⟨(hc _).trans h0, (hc _).trans h1, (hc _).trans h2, (hc _).trans h3, (hc _).trans h4, (hc _).trans h5⟩
theorem PlAt.below {n : Nat} {w w' : World} {b o : Nat} {p : Pl} (h : PlAt w b o p) (hb : Below n w w') (hl : b < n) : PlAt w' b o p := h.of fun j => hb.cell (p := ⟨b, j, none⟩) hl
/-- A list of plates in memory. -/
def RowP (w : World) (v : Value) (ps : List Pl) : Prop :=
  ∃ oa cap, v = .slice oa ps.length cap ∧ ps.length ≤ cap ∧ cap ≤ maxLen ∧ ∀ i, i < ps.length → ∃ b off, oa = some ⟨b, off, none⟩ ∧ b < w.heap.size ∧ PlAt w b (off + i * 6) (ps.getD i p0)
theorem RowP.below {w w' : World} {v : Value} {ps : List Pl} (h : RowP w v ps) (hb : Below w.heap.size w w') : RowP w' v ps := by
  obtain ⟨oa, cap, hv, h1, h2, h3⟩ := h
  refine ⟨oa, cap, hv, h1, h2, fun i hi => ?_⟩
  obtain ⟨b, off, ho, hlt, hc⟩ := h3 i hi
  exact ⟨b, off, ho, Nat.lt_of_lt_of_le hlt hb.size, hc.below hb hlt⟩
/-- A block that is being filled: k plates of it. -/
structure FillP (w : World) (X : Nat) (ps : List Pl) (n k : Nat) : Prop where
  lt : X < w.heap.size
  cell : ∀ j, j < n * 6 → (∃ u, w.cell? ⟨X, j, none⟩ = some u) ∧ w.frozen? ⟨X, j, none⟩ = false
  done : ∀ i, i < k → PlAt w X (i * 6) (ps.getD i p0)
/-- A list of plates that fills a block. -/
def LstP (w : World) (X : Nat) (ps : List Pl) : Prop := FillP w X ps ps.length ps.length
theorem LstP.row {w : World} {X : Nat} {ps : List Pl} (h : LstP w X ps) (hn : ps.length ≤ maxLen) : RowP w (.slice (some ⟨X, 0, none⟩) ps.length ps.length) ps :=
  ⟨_, _, rfl, Nat.le_refl _, hn, fun i hi => ⟨X, 0, rfl, h.lt, by rw [Nat.zero_add]; exact h.done i hi⟩⟩
theorem LstP.below {w w' : World} {X : Nat} {ps : List Pl} (h : LstP w X ps) (hb : Below w.heap.size w w') : LstP w' X ps :=
  ⟨Nat.lt_of_lt_of_le h.lt hb.size, fun j hj => ⟨by rw [hb.cell (p := ⟨X, j, none⟩) h.lt]; exact (h.cell j hj).1, by rw [hb.frozen (p := ⟨X, j, none⟩) h.lt]; exact (h.cell j hj).2⟩, fun i hi => (h.done i hi).below hb h.lt⟩

/-- What measuring leaves. -/
def SzedP (ps : List Pl) (x : Int) (w : World) (e : Ending) (w' : World) : Prop :=
  w = w' ∧ (e = .returned (.int .i64 (-1)) ∨ ∃ y : Int, 0 ≤ y ∧ y ≤ x ∧ e = .returned (.int .i64 y) ∧ ps.length ≤ 1048576)
theorem plt_info' : (Tryz.prog.info? 37).map (fun i => (i.zero, i.size, i.bytes)) = some (some (.agg #[.int .i64 0, .int .i64 0, .int .i64 0, .int .i64 0, .int .i64 0, .int .i64 0]), 6, 48) := by kernel_rfl
theorem plt_info : ∃ i, Tryz.prog.info? 37 = some i ∧ i.zero = some (.agg #[.int .i64 0, .int .i64 0, .int .i64 0, .int .i64 0, .int .i64 0, .int .i64 0]) ∧ i.size = 6 ∧ i.bytes = 48 := by
  have h := plt_info'
  cases hi : Tryz.prog.info? 37 with
  | none => rw [hi] at h; cases h
  | some i =>
    rw [hi] at h
    simp only [Option.map_some, Option.some.injEq, Prod.mk.injEq] at h
    exact ⟨i, rfl, h.1, h.2.1, h.2.2⟩
/-- 'make([]Plate, n)'. -/
theorem run_mkP (n : Nat) (hn : n ≤ 1048576) : ∃ C : Array Value, C.size = n * 6 ∧ ∀ w : World, (Instr.makeSlice 43 (.int .i64 (n : Int)) (.int .i64 (n : Int))).run Tryz.prog w = .ok (.slice (some ⟨w.heap.size, 0, none⟩) n n) (w.alloc (.cells C 37)) := by
  obtain ⟨i, hi, hz, hs, hb⟩ := plt_info
  refine ⟨madeCells (Value.agg #[.int .i64 0, .int .i64 0, .int .i64 0, .int .i64 0, .int .i64 0, .int .i64 0]).cells (n * i.size), by rw [size_madeCells, hs], fun w => ?_⟩
  have h := run_make (P := Tryz.prog) w 43 37 i _ Tryz.underlying43 hi hz .i64 .i64 (n : Int) (n : Int) (by omega) (Int.le_refl _) (by rw [hb]; omega) (by omega)
  simpa only [Int.toNat_natCast] using h
theorem fill_new (w : World) (C : Array Value) (n : Nat) (hC : C.size = n * 6) (ps : List Pl) : FillP (w.alloc (.cells C 37)) w.heap.size ps n 0 := by
  have hb := heap_alloc_new w (.cells C 37)
  refine ⟨by simp, fun j hj => ?_, fun i hi => by omega⟩
  have hj' : j < C.size := by omega
  exact ⟨⟨C[j], by unfold World.cell?; rw [hb]; simp [hj']⟩, by unfold World.frozen?; rw [hb]; simp⟩

theorem cell_set_ne {w : World} {X i j : Nat} (h : j ≠ i) (u : Value) : (w.setCell ⟨X, i, none⟩ u).cell? ⟨X, j, none⟩ = w.cell? ⟨X, j, none⟩ := World.cell?_setCell_other _ _ _ _ (by intro e; injection e with _ e; exact h e.symm)
theorem cell_set_is {w : World} {X i : Nat} {v : Value} (h : w.cell? ⟨X, i, none⟩ = some v) (u : Value) : (w.setCell ⟨X, i, none⟩ u).cell? ⟨X, i, none⟩ = some u := World.cell?_setCell_same' _ _ _ (by rw [h]; rfl)
theorem cell_set_some {w : World} {X i j : Nat} (h : ∃ v, w.cell? ⟨X, j, none⟩ = some v) (u : Value) : ∃ v, (w.setCell ⟨X, i, none⟩ u).cell? ⟨X, j, none⟩ = some v := by
  obtain ⟨v, hv⟩ := h
  by_cases e : j = i
  · subst e; exact ⟨u, cell_set_is hv u⟩
  · exact ⟨v, (cell_set_ne e u).trans hv⟩
/-- A plate stored. -/
def set6 (w : World) (X o : Nat) (p : Pl) : World := ((((((w.setCell ⟨X, o, none⟩ (.int .i64 p.k)).setCell ⟨X, o + 1, none⟩ (.int .i64 p.a)).setCell ⟨X, o + 1 + 1, none⟩ (.int .i64 p.ak)).setCell ⟨X, o + 1 + 1 + 1, none⟩ (.int .i64 p.an)).setCell ⟨X, o + 1 + 1 + 1 + 1, none⟩ (.int .i64 p.vk)).setCell ⟨X, o + 1 + 1 + 1 + 1 + 1, none⟩ (.int .i64 p.vn))
theorem set6_ne {w : World} {X o j : Nat} {p : Pl} (h : j < o ∨ o + 6 ≤ j) : (set6 w X o p).cell? ⟨X, j, none⟩ = w.cell? ⟨X, j, none⟩ := by
  unfold set6
  rw [cell_set_ne (by omega), cell_set_ne (by omega), cell_set_ne (by omega), cell_set_ne (by omega), cell_set_ne (by omega), cell_set_ne (by omega)]
theorem set6_some {w : World} {X o j : Nat} {p : Pl} (h : ∃ v, w.cell? ⟨X, j, none⟩ = some v) : ∃ v, (set6 w X o p).cell? ⟨X, j, none⟩ = some v := by
  unfold set6
  exact cell_set_some (cell_set_some (cell_set_some (cell_set_some (cell_set_some (cell_set_some h _) _) _) _) _) _
theorem set6_is {w : World} {X o : Nat} {p : Pl} (h : ∀ j, o ≤ j → j < o + 6 → ∃ v, w.cell? ⟨X, j, none⟩ = some v) : PlAt (set6 w X o p) X o p := by
  have key : ∀ (A : World) (i : Nat) (u : Value), (∀ j, o ≤ j → j < o + 6 → ∃ v, A.cell? ⟨X, j, none⟩ = some v) → ∀ j, o ≤ j → j < o + 6 → ∃ v, (A.setCell ⟨X, i, none⟩ u).cell? ⟨X, j, none⟩ = some v := fun A i u hA j h1 h2 => cell_set_some (hA j h1 h2) u
  have put : ∀ (A : World) (i : Nat) (u : Value), o ≤ i → i < o + 6 → (∀ j, o ≤ j → j < o + 6 → ∃ v, A.cell? ⟨X, j, none⟩ = some v) → (A.setCell ⟨X, i, none⟩ u).cell? ⟨X, i, none⟩ = some u := fun A i u h1 h2 hA => by
    obtain ⟨v, hv⟩ := hA i h1 h2
    exact cell_set_is hv u
  have h1 := key _ o (.int .i64 p.k) h
  have h2 := key _ (o + 1) (.int .i64 p.a) h1
  have h3 := key _ (o + 1 + 1) (.int .i64 p.ak) h2
  have h4 := key _ (o + 1 + 1 + 1) (.int .i64 p.an) h3
  have h5 := key _ (o + 1 + 1 + 1 + 1) (.int .i64 p.vk) h4
  unfold set6
  refine ⟨?_, ?_, ?_, ?_, ?_, ?_⟩
  · rw [cell_set_ne (by omega), cell_set_ne (by omega), cell_set_ne (by omega), cell_set_ne (by omega), cell_set_ne (by omega)]; exact put _ _ _ (by omega) (by omega) h
  · rw [cell_set_ne (by omega), cell_set_ne (by omega), cell_set_ne (by omega), cell_set_ne (by omega)]; exact put _ _ _ (by omega) (by omega) h1
  · rw [cell_set_ne (by omega), cell_set_ne (by omega), cell_set_ne (by omega)]; exact put _ _ _ (by omega) (by omega) h2
  · rw [cell_set_ne (by omega), cell_set_ne (by omega)]; exact put _ _ _ (by omega) (by omega) h3
  · rw [cell_set_ne (by omega)]; exact put _ _ _ (by omega) (by omega) h4
  · exact put _ _ _ (by omega) (by omega) h5
theorem set6_frozen {w : World} {X o j : Nat} {p : Pl} : (set6 w X o p).frozen? ⟨X, j, none⟩ = w.frozen? ⟨X, j, none⟩ := by unfold set6; simp [go_sem]
theorem set6_size {w : World} {X o : Nat} {p : Pl} : (set6 w X o p).heap.size = w.heap.size := by unfold set6; simp [World.setCell]
theorem set6_below {n : Nat} {a w : World} {X o : Nat} {p : Pl} (h : Below n a w) (hX : n ≤ X) : Below n a (set6 w X o p) := (((((h.setCell hX _).setCell hX _).setCell hX _).setCell hX _).setCell hX _).setCell hX _
theorem FillP.at_ {w : World} {X n k : Nat} {ps : List Pl} (h : FillP w X ps n k) {i : Nat} (hi : i < n) (j : Nat) (h1 : i * 6 ≤ j) (h2 : j < i * 6 + 6) : ∃ v, w.cell? ⟨X, j, none⟩ = some v := (h.cell j (by omega)).1
theorem FillP.below {w w' : World} {X n k : Nat} {ps : List Pl} (h : FillP w X ps n k) (hb : Below w.heap.size w w') : FillP w' X ps n k :=
  ⟨Nat.lt_of_lt_of_le h.lt hb.size, fun j hj => ⟨by rw [hb.cell (p := ⟨X, j, none⟩) h.lt]; exact (h.cell j hj).1, by rw [hb.frozen (p := ⟨X, j, none⟩) h.lt]; exact (h.cell j hj).2⟩, fun i hi => (h.done i hi).below hb h.lt⟩
theorem FillP.store {w : World} {X n k : Nat} {ps : List Pl} (h : FillP w X ps n k) (hk : k < n) : FillP (set6 w X (k * 6) (ps.getD k p0)) X ps n (k + 1) := by
  refine ⟨by rw [set6_size]; exact h.lt, fun j hj => ⟨set6_some (h.cell j hj).1, by rw [set6_frozen]; exact (h.cell j hj).2⟩, fun i hi => ?_⟩
  by_cases e : i = k
  · subst e; exact set6_is fun j h1 h2 => h.at_ hk j h1 h2
  · have hlt : i < k := by omega
    obtain ⟨h0, h1, h2, h3, h4, h5⟩ := h.done i hlt
    refine ⟨?_, ?_, ?_, ?_, ?_, ?_⟩
    · rw [set6_ne (by omega)]; exact h0
    · rw [set6_ne (by omega)]; exact h1
    · rw [set6_ne (by omega)]; exact h2
    · rw [set6_ne (by omega)]; exact h3
    · rw [set6_ne (by omega)]; exact h4
    · rw [set6_ne (by omega)]; exact h5

/-- What copying leaves. -/
def CopiedP (ps : List Pl) (w : World) (e : Ending) (w' : World) : Prop :=
  e = .returned (.slice (some ⟨w.heap.size, 0, none⟩) ps.length ps.length) ∧ LstP w' w.heap.size ps ∧ Below w.heap.size w w'

/-- Are all right, and no more than there may be? -/
def okPls (ps : List Pl) : Bool := decide (ps.length ≤ 60) && ps.all okPl
theorem all_no {ps : List Pl} {k : Nat} (hk : k < ps.length) (h : okPl (ps.getD k p0) = false) : ps.all okPl = false := by
  rw [List.all_eq_false]
  exact ⟨ps[k], List.getElem_mem hk, by simpa [List.getD, hk] using h⟩
theorem all_yes {ps : List Pl} (h : ∀ j, j < ps.length → okPl (ps.getD j p0) = true) : ps.all okPl = true := by
  rw [List.all_eq_true]
  intro x hx
  obtain ⟨j, hj, rfl⟩ := List.mem_iff_getElem.1 hx
  have := h j hj
  simpa [List.getD, hj] using this

set_option maxRecDepth 100000 in
set_option maxHeartbeats 1000000 in
theorem specPlatesOk_any (v : Value) (ps : List Pl) (w : World) (hR : RowP w v ps) :
    Calls Tryz.prog 24 #[v] w fun e w' => e = .returned (.bool (okPls ps)) ∧ Below w.heap.size w w' := by
  obtain ⟨oa, cap, rfl, h1, h2, h3⟩ := hR
  obtain ⟨n, hn⟩ : ∃ n, ps.length = n := ⟨_, rfl⟩
  have HN := Lib.hid hn
  rw [hn] at h1 h3 ⊢
  unfold maxLen at h2
  have H3 := Lib.hid h3
  clear hn h3
  go_enter Tryz.func24, Tryz.ntmps24
  go_wp2_with fail
  go_loopw [3] (fun i wr => ∃ k : Nat, k ≤ n ∧ i = .int .i64 (k : Int) ∧ Hid (∀ j, j < k → okPl (ps.getD j p0) = true) ∧ Below w.heap.size w wr) (fun i _ => n - (intOf i).toNat)
  case atStart => exact ⟨0, Nat.zero_le _, rfl, Lib.hid (by intro j hj; omega), Below.refl _ _⟩
  case round =>
    obtain ⟨k, hk, rfl, hall, hB⟩ := hrel
    have HB := Lib.hid hB
    clear hB
    by_cases hlt : k < n
    · obtain ⟨b, off, rfl, hb, hc⟩ := H3.out k hlt
      have hc1 := hc.below HB.out hb
      clear hc
      obtain ⟨p, hp⟩ : ∃ p, ps.getD k p0 = p := ⟨_, rfl⟩
      have HP := Lib.hid hp
      rw [hp] at hc1
      clear hp
      have HT := Lib.hid (specPlateOk_any p)
      obtain ⟨t, ht⟩ : ∃ t, okPl p = t := ⟨_, rfl⟩
      rw [ht] at HT
      have HK := Lib.hid ht
      clear ht
      obtain ⟨pk, pa, pb, pc, pd, pe⟩ := p
      obtain ⟨x0, x1, x2, x3, x4, x5⟩ := hc1
      dsimp only at x0 x1 x2 x3 x4 x5
      unfold plV at HT
      have hki : (k : Int) < (n : Int) := by omega
      go_wp2_with fail
      refine (HT.out _).mono ?_
      rintro e w1 ⟨rfl, hb1⟩
      have HB1 := Lib.hid (HB.out.trans (hb1.mono HB.out.size))
      clear hb1 x0 x1 x2 x3 x4 x5
      cases t
      · go_wp2_with fail
        go_ret
        refine ⟨?_, HB1.out⟩
        have e : okPls ps = false := by unfold okPls; rw [all_no (by rw [HN.out]; exact hlt) (by rw [HP.out]; exact HK.out), Bool.and_false]
        rw [e]
        rfl
      · go_wp2_with fail
        go_roundw
        case rel =>
          refine ⟨k + 1, by omega, by go_num, Lib.hid (fun j hj => ?_), HB1.out⟩
          by_cases e : j = k
          · subst e; rw [HP.out]; exact HK.out
          · exact hall.out j (by omega)
        case measure => simp [intOf]; omega
    · have hki : ¬ (k : Int) < (n : Int) := by omega
      have hkn : k = n := by omega
      have e : okPls ps = decide (n ≤ 60) := by unfold okPls; rw [all_yes (fun j hj => hall.out j (by rw [HN.out] at hj; omega)), Bool.and_true, HN.out]
      have HE := Lib.hid e
      clear e hkn
      by_cases h60 : n ≤ 60
      · have h60i : (n : Int) ≤ 60 := by omega
        go_wp2_with fail
        go_ret
        exact ⟨(by rw [HE.out]; simp [h60]), HB.out⟩
      · have h60i : ¬ (n : Int) ≤ 60 := by omega
        go_wp2_with fail
        go_ret
        exact ⟨(by rw [HE.out]; simp [h60]), HB.out⟩

end L2
end Go.Proofs.YtkhjbhkbknennaaGreatDoor
