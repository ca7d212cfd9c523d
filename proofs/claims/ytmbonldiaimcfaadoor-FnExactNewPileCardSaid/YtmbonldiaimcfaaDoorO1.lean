/-
  Pieces as data and in memory: measured, copied, compared.
-/
import Derived.Test.YtmbonldiaimcfaaDoorN4
import Derived.Test.YtmbonldiaimcfaaDoorSL
namespace Go.Proofs.YtmbonldiaimcfaaDoor
open Go.RowKit Go.Sort
namespace L2
open L1

/-- Nothing turns from block b on. -/
structure Away (b : Nat) (w w' : World) : Prop where
  size : w.heap.size ≤ w'.heap.size
  block : ∀ c, c < w.heap.size → b ≤ c → w'.heap[c]? = w.heap[c]?
theorem Away.refl (b : Nat) (w : World) : Away b w w := ⟨Nat.le_refl _, fun _ _ _ => rfl⟩
theorem Away.set {b : Nat} {w w' : World} {p : Addr} (h : Away b w w') (hp : p.block < b) (u : Value) : Away b w (w'.setCell p u) :=
  ⟨Nat.le_trans h.size (by simp [World.setCell]), fun c hc hn => (Below.heap_setCell _ _ _ _ (by omega)).trans (h.block c hc hn)⟩
theorem Away.new {b : Nat} {w w' : World} (h : Away b w w') (o : Obj) : Away b w (w'.alloc o) :=
  ⟨Nat.le_trans h.size (by simp), fun c hc hn => (Below.heap_alloc _ _ _ (Nat.lt_of_lt_of_le hc h.size)).trans (h.block c hc hn)⟩
theorem Away.below {b : Nat} {w w1 w2 : World} (h : Away b w w1) (hb : Below w1.heap.size w1 w2) : Away b w w2 :=
  ⟨Nat.le_trans h.size hb.size, fun c hc hn => (hb.block c (Nat.lt_of_lt_of_le hc h.size)).trans (h.block c hc hn)⟩
theorem Away.trans {b : Nat} {w w1 w2 : World} (h : Away b w w1) (k : Away b w1 w2) : Away b w w2 :=
  ⟨Nat.le_trans h.size k.size, fun c hc hn => (k.block c (Nat.lt_of_lt_of_le hc h.size) hn).trans (h.block c hc hn)⟩
theorem Lst.away {b : Nat} {w w' : World} {X : Nat} {ss : List ByteArray} (h : Lst w X ss) (hk : Away b w w') (hne : b ≤ X) : Lst w' X ss := (hk.block X h.lt hne).trans h
theorem FillP.away {b : Nat} {w w' : World} {X n k : Nat} {ps : List Pl} (h : FillP w X ps n k) (hk : Away b w w') (hne : b ≤ X) : FillP w' X ps n k := by
  have hb := hk.block X h.lt hne
  have hc : ∀ j, w'.cell? ⟨X, j, none⟩ = w.cell? ⟨X, j, none⟩ := fun j => World.cell?_of_block (a := ⟨X, j, none⟩) hb
  have hf : ∀ j, w'.frozen? ⟨X, j, none⟩ = w.frozen? ⟨X, j, none⟩ := fun j => by unfold World.frozen?; rw [hb]
  exact ⟨Nat.lt_of_lt_of_le h.lt hk.size, fun j hj => ⟨by rw [hc]; exact (h.cell j hj).1, by rw [hf]; exact (h.cell j hj).2⟩, fun i hi => (h.done i hi).of hc⟩
theorem LstP.away {b : Nat} {w w' : World} {X : Nat} {ps : List Pl} (h : LstP w X ps) (hk : Away b w w') (hne : b ≤ X) : LstP w' X ps := FillP.away h hk hne

/-- A list of pieces in memory: the plates of each. -/
def RowQ (w : World) (v : Value) (qs : List (List Pl)) : Prop :=
  ∃ oa cap, v = .slice oa qs.length cap ∧ qs.length ≤ cap ∧ cap ≤ maxLen ∧ ∀ i, i < qs.length → ∃ b off u, oa = some ⟨b, off, none⟩ ∧ b < w.heap.size ∧ w.cell? ⟨b, off + i, none⟩ = some u ∧ RowP w u (qs.getD i [])
theorem RowQ.below {w w' : World} {v : Value} {qs : List (List Pl)} (h : RowQ w v qs) (hb : Below w.heap.size w w') : RowQ w' v qs := by
  obtain ⟨oa, cap, hv, h1, h2, h3⟩ := h
  refine ⟨oa, cap, hv, h1, h2, fun i hi => ?_⟩
  obtain ⟨b, off, u, ho, hlt, hc, hp⟩ := h3 i hi
  exact ⟨b, off, u, ho, Nat.lt_of_lt_of_le hlt hb.size, (hb.cell (p := ⟨b, off + i, none⟩) hlt).trans hc, hp.below hb⟩
theorem rowQ_nil (w : World) : RowQ w (.slice none 0 0) [] := ⟨none, 0, rfl, Nat.le_refl _, by omega, fun i hi => by cases hi⟩
theorem rowP_nil (w : World) : RowP w (.slice none 0 0) [] := ⟨none, 0, rfl, Nat.le_refl _, by omega, fun i hi => by cases hi⟩
/-- A block that is being filled with pieces: k of them. -/
structure FillQ (w : World) (X : Nat) (qs : List (List Pl)) (n k : Nat) : Prop where
  lt : X < w.heap.size
  cell : ∀ j, j < n → (∃ u, w.cell? ⟨X, j, none⟩ = some u) ∧ w.frozen? ⟨X, j, none⟩ = false
  done : ∀ i, i < k → ∃ Y, X < Y ∧ w.cell? ⟨X, i, none⟩ = some (.slice (some ⟨Y, 0, none⟩) (qs.getD i []).length (qs.getD i []).length) ∧ LstP w Y (qs.getD i [])
/-- A list of pieces that fills a block. -/
def LstQ (w : World) (X : Nat) (qs : List (List Pl)) : Prop := FillQ w X qs qs.length qs.length
theorem FillQ.away {b : Nat} {w w' : World} {X n k : Nat} {qs : List (List Pl)} (h : FillQ w X qs n k) (hk : Away b w w') (hne : b ≤ X) : FillQ w' X qs n k := by
  have hb := hk.block X h.lt hne
  have hc : ∀ j, w'.cell? ⟨X, j, none⟩ = w.cell? ⟨X, j, none⟩ := fun j => World.cell?_of_block (a := ⟨X, j, none⟩) hb
  have hf : ∀ j, w'.frozen? ⟨X, j, none⟩ = w.frozen? ⟨X, j, none⟩ := fun j => by unfold World.frozen?; rw [hb]
  refine ⟨Nat.lt_of_lt_of_le h.lt hk.size, fun j hj => ⟨by rw [hc]; exact (h.cell j hj).1, by rw [hf]; exact (h.cell j hj).2⟩, fun i hi => ?_⟩
  obtain ⟨Y, hY, hcl, hl⟩ := h.done i hi
  exact ⟨Y, hY, (hc i).trans hcl, hl.away hk (by omega)⟩
theorem LstQ.away {b : Nat} {w w' : World} {X : Nat} {qs : List (List Pl)} (h : LstQ w X qs) (hk : Away b w w') (hne : b ≤ X) : LstQ w' X qs := FillQ.away h hk hne
theorem FillQ.below {w w' : World} {X n k : Nat} {qs : List (List Pl)} (h : FillQ w X qs n k) (hb : Below w.heap.size w w') : FillQ w' X qs n k := by
  refine ⟨Nat.lt_of_lt_of_le h.lt hb.size, fun j hj => ⟨by rw [hb.cell (p := ⟨X, j, none⟩) h.lt]; exact (h.cell j hj).1, by rw [hb.frozen (p := ⟨X, j, none⟩) h.lt]; exact (h.cell j hj).2⟩, fun i hi => ?_⟩
  obtain ⟨Y, hY, hcl, hl⟩ := h.done i hi
  exact ⟨Y, hY, (hb.cell (p := ⟨X, i, none⟩) h.lt).trans hcl, hl.below hb⟩
theorem LstQ.below {w w' : World} {X : Nat} {qs : List (List Pl)} (h : LstQ w X qs) (hb : Below w.heap.size w w') : LstQ w' X qs := FillQ.below h hb
theorem LstQ.row {w : World} {X : Nat} {qs : List (List Pl)} (h : LstQ w X qs) (hn : qs.length ≤ maxLen) (hs : ∀ i, i < qs.length → (qs.getD i []).length ≤ maxLen) : RowQ w (.slice (some ⟨X, 0, none⟩) qs.length qs.length) qs := by
  refine ⟨_, _, rfl, Nat.le_refl _, hn, fun i hi => ?_⟩
  obtain ⟨Y, hY, hcl, hl⟩ := h.done i hi
  exact ⟨X, 0, _, rfl, h.lt, by rw [Nat.zero_add]; exact hcl, hl.row (hs i hi)⟩
theorem FillQ.store {w : World} {X n k Y : Nat} {qs : List (List Pl)} (h : FillQ w X qs n k) (hk : k < n) (hY : X < Y) (hl : LstP w Y (qs.getD k [])) :
    FillQ (w.setCell ⟨X, k, none⟩ (.slice (some ⟨Y, 0, none⟩) (qs.getD k []).length (qs.getD k []).length)) X qs n (k + 1) := by
  have hA : Away (X + 1) w (w.setCell ⟨X, k, none⟩ (.slice (some ⟨Y, 0, none⟩) (qs.getD k []).length (qs.getD k []).length)) := (Away.refl _ w).set (by show X < X + 1; omega) _
  obtain ⟨u, hu⟩ := (h.cell k hk).1
  refine ⟨Nat.lt_of_lt_of_le h.lt hA.size, fun j hj => ⟨cell_set_some (h.cell j hj).1 _, by have := (h.cell j hj).2; simp [go_sem]; exact this⟩, fun i hi => ?_⟩
  by_cases e : i = k
  · subst e
    exact ⟨Y, hY, cell_set_is hu _, hl.away hA (by omega)⟩
  · obtain ⟨Z, hZ, hcl, hlz⟩ := h.done i (by omega)
    exact ⟨Z, hZ, (cell_set_ne e _).trans hcl, hlz.away hA (by omega)⟩

theorem pie_info' : (Tryd.prog.info? 103).map (fun i => (i.zero, i.size, i.bytes)) = some (some (.agg #[.slice none 0 0]), 1, 24) := by kernel_rfl
theorem pie_info : ∃ i, Tryd.prog.info? 103 = some i ∧ i.zero = some (.agg #[.slice none 0 0]) ∧ i.size = 1 ∧ i.bytes = 24 := by
  have h := pie_info'
  cases hi : Tryd.prog.info? 103 with
  | none => rw [hi] at h; cases h
  | some i =>
    rw [hi] at h
    simp only [Option.map_some, Option.some.injEq, Prod.mk.injEq] at h
    exact ⟨i, rfl, h.1, h.2.1, h.2.2⟩
/-- 'make([]Piece, n)'. -/
theorem run_mkQ (n : Nat) (hn : n ≤ 1048576) : ∃ C : Array Value, C.size = n ∧ ∀ w : World, (Instr.makeSlice 49 (.int .i64 (n : Int)) (.int .i64 (n : Int))).run Tryd.prog w = .ok (.slice (some ⟨w.heap.size, 0, none⟩) n n) (w.alloc (.cells C 103)) := by
  obtain ⟨i, hi, hz, hs, hb⟩ := pie_info
  refine ⟨madeCells (Value.agg #[.slice none 0 0]).cells (n * i.size), by rw [size_madeCells, hs, Nat.mul_one], fun w => ?_⟩
  have h := run_make (P := Tryd.prog) w 49 103 i _ Tryd.underlying49 hi hz .i64 .i64 (n : Int) (n : Int) (by omega) (Int.le_refl _) (by rw [hb]; omega) (by omega)
  simpa only [Int.toNat_natCast] using h
theorem fillQ_new (w : World) (C : Array Value) (n : Nat) (hC : C.size = n) (qs : List (List Pl)) : FillQ (w.alloc (.cells C 103)) w.heap.size qs n 0 := by
  have hb := heap_alloc_new w (.cells C 103)
  refine ⟨by simp, fun j hj => ?_, fun i hi => by omega⟩
  have hj' : j < C.size := by omega
  exact ⟨⟨C[j], by unfold World.cell?; rw [hb]; simp [hj']⟩, by unfold World.frozen?; rw [hb]; simp⟩

/-- What measuring a piece leaves, and a list of them. -/
def SzedQ (qs : List (List Pl)) (x : Int) (w : World) (e : Ending) (w' : World) : Prop :=
  Below w.heap.size w w' ∧ (e = .returned (.int .i64 (-1)) ∨ ∃ y : Int, 0 ≤ y ∧ y ≤ x ∧ e = .returned (.int .i64 y) ∧ qs.length ≤ 1048576 ∧ ∀ i, i < qs.length → (qs.getD i []).length ≤ 1048576)
/-- What copying a piece leaves. -/
def CopiedQ1 (ps : List Pl) (w : World) (e : Ending) (w' : World) : Prop :=
  ∃ Y, w.heap.size ≤ Y ∧ e = .returned (.agg #[.slice (some ⟨Y, 0, none⟩) ps.length ps.length]) ∧ LstP w' Y ps ∧ Below w.heap.size w w'
/-- What copying pieces leaves. -/
def CopiedQ (qs : List (List Pl)) (w : World) (e : Ending) (w' : World) : Prop :=
  e = .returned (.slice (some ⟨w.heap.size, 0, none⟩) qs.length qs.length) ∧ LstQ w' w.heap.size qs ∧ Below w.heap.size w w'
theorem eqPiece_any (v v' : Value) (ps : List Pl) (w : World) (hR : RowP w v ps) (hR' : RowP w v' ps) :
    Calls Tryd.prog 94 #[.agg #[v], .agg #[v']] w fun e w' => e = .returned (.bool true) ∧ Below w.heap.size w w' := by
  have H := Lib.hid (fun w1 (hb : Below w.heap.size w w1) => eqPlateS_any v v' ps w1 (hR.below hb) (hR'.below hb))
  obtain ⟨oa, cap, rfl, _⟩ := hR
  obtain ⟨oa', cap', rfl, _⟩ := hR'
  go_enter Tryd.func94, Tryd.ntmps94
  go_wp2_with fail
  refine (H.out _ (by (repeat (first | (with_reducible refine Below.alloc ?_ ?_ _) | (with_reducible refine Below.setCell ?_ ?_ _) | (with_reducible refine Below.drew ?_) | (with_reducible exact Below.refl _ _) | (with_reducible refine Below.trans ?_ (Below.mono (by assumption) ?_)))) <;> (first | omega | (dsimp only; omega) | (simp; done) | (simp; omega) | (simp at *; omega)))).mono ?_
  rintro e w1 ⟨rfl, hb1⟩
  have HB1 : Hid (Below w.heap.size w w1) := Lib.hid (by (repeat (first | (with_reducible refine Below.alloc ?_ ?_ _) | (with_reducible refine Below.setCell ?_ ?_ _) | (with_reducible refine Below.drew ?_) | (with_reducible exact Below.refl _ _) | (with_reducible refine Below.trans ?_ (Below.mono (by assumption) ?_)))) <;> (first | omega | (dsimp only; omega) | (simp; done) | (simp; omega) | (simp at *; omega)))
  clear hb1
  go_wp2_with fail
  go_ret
  exact ⟨rfl, HB1.out⟩

set_option maxRecDepth 100000 in
set_option maxHeartbeats 1000000 in
theorem eqPieceS_any (v v' : Value) (qs : List (List Pl)) (w : World) (hR : RowQ w v qs) (hR' : RowQ w v' qs) :
    Calls Tryd.prog 73 #[v, v'] w fun e w' => e = .returned (.bool true) ∧ Below w.heap.size w w' := by
  obtain ⟨oa, cap, rfl, h1, h2, h3⟩ := hR
  obtain ⟨oa', cap', rfl, h1', h2', h3'⟩ := hR'
  obtain ⟨n, hn⟩ : ∃ n, qs.length = n := ⟨_, rfl⟩
  rw [hn] at h1 h3 h1' h3' ⊢
  unfold maxLen at h2 h2'
  have H3 := Lib.hid h3
  have H3' := Lib.hid h3'
  clear hn h3 h3'
  go_enter Tryd.func73, Tryd.ntmps73
  go_wp2_with fail
  go_loopw [5] (fun i wr => ∃ k : Nat, k ≤ n ∧ i = .int .i64 (k : Int) ∧ Below w.heap.size w wr) (fun i _ => n - (intOf i).toNat)
  case atStart => exact ⟨0, Nat.zero_le _, rfl, Below.refl _ _⟩
  case round =>
    obtain ⟨k, hk, rfl, hB⟩ := hrel
    have HB := Lib.hid hB
    clear hB
    by_cases hlt : k < n
    · obtain ⟨b, off, u, rfl, hb, hc, hP⟩ := H3.out k hlt
      obtain ⟨b', off', u', rfl, hb', hcc, hP'⟩ := H3'.out k hlt
      have hc1 := (HB.out.cell (p := ⟨b, off + k, none⟩) hb).trans hc
      have hc2 := (HB.out.cell (p := ⟨b', off' + k, none⟩) hb').trans hcc
      have cE := fun w1 (hb1 : Below wr.heap.size wr w1) => eqPiece_any u u' (qs.getD k []) w1 ((hP.below HB.out).below hb1) ((hP'.below HB.out).below hb1)
      obtain ⟨oa, cap, rfl, _⟩ := hP
      obtain ⟨oa', cap', rfl, _⟩ := hP'
      generalize (qs.getD k []).length = m at hc1 hc2 cE
      have hk0 : (0 : Int) ≤ (k : Int) := by omega
      have hki : (k : Int) < (n : Int) := by omega
      have x0' := cell_regrown hc1
      have y0' := cell_regrown hc2
      have cE := fun q os => Calls.regrown_of (d := q) (os := os) (cE (grow (redrawn wr q) os) (below_regrown wr q os))
      clear hc hcc hc1 hc2
      go_wp2_with fail
      refine wp_region_quiet_below (by kernel_rfl) (by kernel_rfl) ?_
      repeat (go_big_quiet_step (first | (go_at_call 94; exact cE _ _)))
      refine wpQuiet_nil ?_
      intro _ hw'
      obtain ⟨⟨dq, osq⟩, hw''⟩ := hw'
      have HQ := below_regrown wr dq osq
      rw [← hw''] at HQ
      have HQ' := Lib.hid (HB.out.trans (HQ.mono HB.out.size))
      clear hw'' cE HQ x0' y0'
      go_wp2_with fail
      go_roundw
      case rel => exact ⟨k + 1, by omega, by go_num, HQ'.out⟩
      case measure => simp [intOf]; omega
    · have hki : ¬ (k : Int) < (n : Int) := by omega
      go_wp2
      go_ret
      exact ⟨rfl, HB.out⟩

end L2
end Go.Proofs.YtmbonldiaimcfaaDoor
