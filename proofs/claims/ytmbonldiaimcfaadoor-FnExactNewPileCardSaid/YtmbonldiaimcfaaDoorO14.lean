/-
  A new pile: the model's and the program's.
-/
import Derived.Test.YtmbonldiaimcfaaDoorO2
import Derived.Test.YtmbonldiaimcfaaDoorGX
import Derived.Test.YtmbonldiaimcfaaDoorM1
import Derived.Lib.SliceRun
namespace Go.Proofs.YtmbonldiaimcfaaDoor
open Go.RowKit Go.Sort
namespace L2
open S1 L1

/-- A row of words that a call owns, or nothing. -/
def OwC (w : World) (B : Nat) (u : Value) (ss : List ByteArray) : Prop := w.ownsRow B 9 1 u ss.length (ss.map Value.string)
theorem OwC.is {w : World} {B : Nat} {u : Value} {ss : List ByteArray} (h : OwC w B u ss) : (u = .slice none 0 0 ∧ ss = []) ∨ OwS w B u ss := by
  by_cases hu : u = .slice none 0 0
  · rcases h.2 with ⟨_, h0⟩ | ⟨g, cap, cur, hv, _⟩
    · exact Or.inl ⟨hu, List.eq_nil_of_length_eq_zero h0⟩
    · rw [hu] at hv; cases hv
  · exact Or.inr ⟨h, hu⟩
theorem OwC.row {w : World} {B : Nat} {u : Value} {ss : List ByteArray} (h : OwC w B u ss) : Row w u ss := by
  rcases h.is with ⟨rfl, rfl⟩ | h
  · exact row_nil _
  · exact h.row
theorem OwC.kept {w w' : World} {B : Nat} {u : Value} {ss : List ByteArray} {row : Option Nat} (h : OwC w B u ss) (hg : w.grownBy w' row) (hne : u.ownBlock = none ∨ u.ownBlock ≠ row) : OwC w' B u ss := World.ownsRow.kept h hg hne
theorem OwC.below {w w' : World} {B : Nat} {u : Value} {ss : List ByteArray} (h : OwC w B u ss) (hb : Below w.heap.size w w') : OwC w' B u ss := by
  refine h.kept (D.grown_of_below hb none) ?_
  cases hu : u.ownBlock
  · exact Or.inl rfl
  · exact Or.inr (by simp)
theorem OwC.slice {w : World} {B : Nat} {u : Value} {ss : List ByteArray} (h : OwC w B u ss) : ∃ oa c, u = .slice oa ss.length c := by
  obtain ⟨oa, c, e, _⟩ := h.row
  exact ⟨oa, c, e⟩
theorem OwC.lt' {w : World} {B : Nat} {u : Value} {ss : List ByteArray} (h : OwC w B u ss) {b : Nat} (hb : u.ownBlock = some b) : B ≤ b ∧ b < w.heap.size := World.ownsRow.lt h b hb
theorem OwC.base {w : World} {B B' : Nat} {u : Value} {ss : List ByteArray} (h : OwC w B u ss) (hB : B' ≤ B) : OwC w B' u ss := by
  rcases h.is with ⟨rfl, rfl⟩ | h
  · exact World.ownsRow_nil _ _ _ _
  · exact (h.base hB).1
theorem OwC.set {w : World} {B : Nat} {u : Value} {ss : List ByteArray} {g i : Nat} (h : OwC w B u ss) (hne : u.ownBlock ≠ some g) (v : Value) : OwC (w.setCell ⟨g, i, none⟩ v) B u ss := h.kept (D.grown_set w g i v) (Or.inr hne)

/-- Is a pile begun so? -/
def newB (ss : List ByteArray) (a b : Int) : Bool := okSum (wsOf ss) && numB a b
/-- The pile that is begun so, or none. -/
def newP (ss : List ByteArray) (a b : Int) : Pil := if newB ss a b then ⟨ss, 0, 0, a, b, 0, 0, [], [], []⟩ else ⟨[], 0, 0, 0, 0, 0, 0, [], [], []⟩
theorem newP_yes {ss : List ByteArray} {a b : Int} (h : newB ss a b = true) : newP ss a b = ⟨ss, 0, 0, a, b, 0, 0, [], [], []⟩ := if_pos h
theorem newP_no {ss : List ByteArray} {a b : Int} (h : newB ss a b = false) : newP ss a b = ⟨[], 0, 0, 0, 0, 0, 0, [], [], []⟩ := if_neg (by rw [h]; exact Bool.false_ne_true)
/-- What a new pile is, as either answers it. -/
def NewQ (X : World) (x : Pil) (ok : Bool) (e : Ending) (W' : World) : Prop := ∃ u, e = .returned (.tuple #[pilV x u (.slice none 0 0) (.slice none 0 0) (.slice none 0 0), .bool ok]) ∧ OwC W' X.heap.size u x.c ∧ Below X.heap.size X W'
theorem newQ_no {X W' : World} {e : Ending} {ss : List ByteArray} {a b : Int} (h : newB ss a b = false) (he : e = .returned (.tuple #[.agg #[.slice none 0 0, .int .i64 0, .int .i64 0, .int .i64 0, .int .i64 0, .int .i64 0, .int .i64 0, .slice none 0 0, .slice none 0 0, .slice none 0 0], .bool false])) (hb : Below X.heap.size X W') : NewQ X (newP ss a b) (newB ss a b) e W' := by
  rw [newP_no h, h]
  exact ⟨.slice none 0 0, he, World.ownsRow_nil _ _ _ _, hb⟩
theorem num_ok {a b : Int} (h : okB a b = true) (ha : a = 0) : numB a b = true := by
  subst ha
  simp only [okB, pieB] at h
  simpa using h

set_option maxRecDepth 100000 in
set_option maxHeartbeats 4000000 in
theorem specNewPile_any (v : Value) (ss : List ByteArray) (a b : Int) (w : World) (hR : Row w v ss) (hS : Small ss) :
    Calls Tryd.prog 35 #[v, .agg #[.int .i64 a, .int .i64 b]] w (NewQ w (newP ss a b) (newB ss a b)) := by
  have H := fun w1 (hb : Below w.heap.size w w1) => specSumOk_any v ss w1 (hR.below hb) hS
  have HV := fun w1 => specValueOk_any a b w1
  have HT := fun (hl : ss.length ≤ 1000) w1 (hb : Below w.heap.size w w1) => l1Texts_any v ss w1 (hR.below hb) hl
  obtain ⟨oa, cap, rfl, -, -, -⟩ := hR
  obtain ⟨n, hn⟩ : ∃ n, ss.length = n := ⟨_, rfl⟩
  rw [hn] at H HT ⊢
  cases ho : okSum (wsOf ss)
  · have hF : newB ss a b = false := by unfold newB; rw [ho]; rfl
    rw [ho] at H
    replace H := Lib.hid H
    clear HV HT hS ho hn
    go_enter Tryd.func35, Tryd.ntmps35
    go_wp2_with fail
    refine (H.out _ (by (repeat (first | (with_reducible refine Below.alloc ?_ ?_ _) | (with_reducible refine Below.setCell ?_ ?_ _) | (with_reducible refine Below.drew ?_) | (with_reducible exact Below.refl _ _) | (with_reducible refine Below.trans ?_ (Below.mono (by assumption) ?_)))) <;> (first | omega | (dsimp only; omega) | (simp; done) | (simp; omega) | (simp at *; omega)))).mono ?_
    rintro e w1 ⟨rfl, hb1⟩
    have hs1 := hb1.size
    obtain ⟨hc1, hf1⟩ := bcell hb1
    simp at hs1
    have z0 : w.heap.size < w1.heap.size := by omega
    have z1 : w.heap.size + 1 < w1.heap.size := by omega
    have HB1 : Hid (Below w.heap.size w w1) := Lib.hid (by clear hc1 hf1; (repeat (first | (with_reducible refine Below.alloc ?_ ?_ _) | (with_reducible refine Below.setCell ?_ ?_ _) | (with_reducible refine Below.drew ?_) | (with_reducible exact Below.refl _ _) | (with_reducible refine Below.trans ?_ (Below.mono (by assumption) ?_)))) <;> (first | omega | (dsimp only; omega) | (simp; done) | (simp; omega) | (simp at *; omega)))
    clear hb1
    go_wp2_with fail
    refine bodyPost_ret (v := .tuple #[.agg #[.slice none 0 0, .int .i64 0, .int .i64 0, .int .i64 0, .int .i64 0, .int .i64 0, .int .i64 0, .slice none 0 0, .slice none 0 0, .slice none 0 0], .bool false]) (by simp [results, Tryd.results35, go_sem, *]) rfl (newQ_no hF rfl ?_)
    clear hc1 hf1
    have hh := HB1.out
    (repeat (first | (with_reducible refine Below.alloc ?_ ?_ _) | (with_reducible refine Below.setCell ?_ ?_ _) | (with_reducible refine Below.drew ?_) | (with_reducible exact Below.refl _ _) | (with_reducible refine Below.trans ?_ (Below.mono (by assumption) ?_)))) <;> (first | omega | (dsimp only; omega) | (simp; done) | (simp; omega) | (simp at *; omega))
  · rw [ho] at H
    have hl : n ≤ 60 := by have := (ok_head ho).1; have := ws_len ss; omega
    have hn1 : 1 ≤ n := by
      have h1 := (ok_head ho).2.1
      have := ws_len ss
      omega
    replace H := Lib.hid H
    cases hv : okB a b
    · have hF : newB ss a b = false := by
        unfold newB
        have : numB a b = false := by cases e : numB a b <;> simp_all [okB]
        rw [this, Bool.and_false]
      rw [hv] at HV
      replace HV := Lib.hid HV
      clear HT hS ho hv
      go_enter Tryd.func35, Tryd.ntmps35
      go_wp2_with fail
      refine (H.out _ (by (repeat (first | (with_reducible refine Below.alloc ?_ ?_ _) | (with_reducible refine Below.setCell ?_ ?_ _) | (with_reducible refine Below.drew ?_) | (with_reducible exact Below.refl _ _) | (with_reducible refine Below.trans ?_ (Below.mono (by assumption) ?_)))) <;> (first | omega | (dsimp only; omega) | (simp; done) | (simp; omega) | (simp at *; omega)))).mono ?_
      rintro e w1 ⟨rfl, hb1⟩
      have hs1 := hb1.size
      obtain ⟨hc1, hf1⟩ := bcell hb1
      simp at hs1
      have z0 : w.heap.size < w1.heap.size := by omega
      have z1 : w.heap.size + 1 < w1.heap.size := by omega
      have HB1 : Hid (Below w.heap.size w w1) := Lib.hid (by clear hc1 hf1; (repeat (first | (with_reducible refine Below.alloc ?_ ?_ _) | (with_reducible refine Below.setCell ?_ ?_ _) | (with_reducible refine Below.drew ?_) | (with_reducible exact Below.refl _ _) | (with_reducible refine Below.trans ?_ (Below.mono (by assumption) ?_)))) <;> (first | omega | (dsimp only; omega) | (simp; done) | (simp; omega) | (simp at *; omega)))
      clear hb1
      go_wp2_with fail
      refine (HV.out _).mono ?_
      rintro e w2 ⟨rfl, hb2⟩
      have hs2 := hb2.size
      obtain ⟨hc2, hf2⟩ := bcell hb2
      have z2 : w.heap.size < w2.heap.size := by omega
      have z3 : w.heap.size + 1 < w2.heap.size := by omega
      have HB2 : Hid (Below w.heap.size w w2) := Lib.hid (HB1.out.trans (hb2.mono HB1.out.size))
      clear hb2
      go_wp2_with fail
      refine bodyPost_ret (v := .tuple #[.agg #[.slice none 0 0, .int .i64 0, .int .i64 0, .int .i64 0, .int .i64 0, .int .i64 0, .int .i64 0, .slice none 0 0, .slice none 0 0, .slice none 0 0], .bool false]) (by simp [results, Tryd.results35, go_sem, *]) rfl (newQ_no hF rfl ?_)
      clear hc1 hf1 hc2 hf2
      have hh := HB2.out
      (repeat (first | (with_reducible refine Below.alloc ?_ ?_ _) | (with_reducible refine Below.setCell ?_ ?_ _) | (with_reducible refine Below.drew ?_) | (with_reducible exact Below.refl _ _) | (with_reducible refine Below.trans ?_ (Below.mono (by assumption) ?_)))) <;> (first | omega | (dsimp only; omega) | (simp; done) | (simp; omega) | (simp at *; omega))
    · rw [hv] at HV
      replace HV := Lib.hid HV
      by_cases ha : a = 0
      case neg =>
        have hF : newB ss a b = false := by
          unfold newB numB
          simp [ha]
        have ha' : (a == 0) = false := by simpa using ha
        clear HT hS ho hv
        go_enter Tryd.func35, Tryd.ntmps35
        go_wp2_with fail
        refine (H.out _ (by (repeat (first | (with_reducible refine Below.alloc ?_ ?_ _) | (with_reducible refine Below.setCell ?_ ?_ _) | (with_reducible refine Below.drew ?_) | (with_reducible exact Below.refl _ _) | (with_reducible refine Below.trans ?_ (Below.mono (by assumption) ?_)))) <;> (first | omega | (dsimp only; omega) | (simp; done) | (simp; omega) | (simp at *; omega)))).mono ?_
        rintro e w1 ⟨rfl, hb1⟩
        have hs1 := hb1.size
        obtain ⟨hc1, hf1⟩ := bcell hb1
        simp at hs1
        have z0 : w.heap.size < w1.heap.size := by omega
        have z1 : w.heap.size + 1 < w1.heap.size := by omega
        have HB1 : Hid (Below w.heap.size w w1) := Lib.hid (by clear hc1 hf1; (repeat (first | (with_reducible refine Below.alloc ?_ ?_ _) | (with_reducible refine Below.setCell ?_ ?_ _) | (with_reducible refine Below.drew ?_) | (with_reducible exact Below.refl _ _) | (with_reducible refine Below.trans ?_ (Below.mono (by assumption) ?_)))) <;> (first | omega | (dsimp only; omega) | (simp; done) | (simp; omega) | (simp at *; omega)))
        clear hb1
        go_wp2_with fail
        refine (HV.out _).mono ?_
        rintro e w2 ⟨rfl, hb2⟩
        have hs2 := hb2.size
        obtain ⟨hc2, hf2⟩ := bcell hb2
        have z2 : w.heap.size < w2.heap.size := by omega
        have z3 : w.heap.size + 1 < w2.heap.size := by omega
        have HB2 : Hid (Below w.heap.size w w2) := Lib.hid (HB1.out.trans (hb2.mono HB1.out.size))
        clear hb2
        go_wp2_with fail
        refine bodyPost_ret (v := .tuple #[.agg #[.slice none 0 0, .int .i64 0, .int .i64 0, .int .i64 0, .int .i64 0, .int .i64 0, .int .i64 0, .slice none 0 0, .slice none 0 0, .slice none 0 0], .bool false]) (by simp [results, Tryd.results35, go_sem, *]) rfl (newQ_no hF rfl ?_)
        clear hc1 hf1 hc2 hf2
        have hh := HB2.out
        (repeat (first | (with_reducible refine Below.alloc ?_ ?_ _) | (with_reducible refine Below.setCell ?_ ?_ _) | (with_reducible refine Below.drew ?_) | (with_reducible exact Below.refl _ _) | (with_reducible refine Below.trans ?_ (Below.mono (by assumption) ?_)))) <;> (first | omega | (dsimp only; omega) | (simp; done) | (simp; omega) | (simp at *; omega))
      have hY : newB ss a b = true := by
        unfold newB
        rw [ho, num_ok hv ha]
        rfl
      rw [newP_yes hY, hY]
      replace HT := Lib.hid (HT (by omega))
      subst ha
      clear hS ho hv hY
      go_enter Tryd.func35, Tryd.ntmps35
      go_wp2_with fail
      refine (H.out _ (by (repeat (first | (with_reducible refine Below.alloc ?_ ?_ _) | (with_reducible refine Below.setCell ?_ ?_ _) | (with_reducible refine Below.drew ?_) | (with_reducible exact Below.refl _ _) | (with_reducible refine Below.trans ?_ (Below.mono (by assumption) ?_)))) <;> (first | omega | (dsimp only; omega) | (simp; done) | (simp; omega) | (simp at *; omega)))).mono ?_
      rintro e w1 ⟨rfl, hb1⟩
      have hs1 := hb1.size
      obtain ⟨hc1, hf1⟩ := bcell hb1
      simp at hs1
      have z0 : w.heap.size < w1.heap.size := by omega
      have z1 : w.heap.size + 1 < w1.heap.size := by omega
      have HB1 : Hid (Below w.heap.size w w1) := Lib.hid (by clear hc1 hf1; (repeat (first | (with_reducible refine Below.alloc ?_ ?_ _) | (with_reducible refine Below.setCell ?_ ?_ _) | (with_reducible refine Below.drew ?_) | (with_reducible exact Below.refl _ _) | (with_reducible refine Below.trans ?_ (Below.mono (by assumption) ?_)))) <;> (first | omega | (dsimp only; omega) | (simp; done) | (simp; omega) | (simp at *; omega)))
      clear hb1
      go_wp2_with fail
      refine (HV.out _).mono ?_
      rintro e w2 ⟨rfl, hb2⟩
      have hs2 := hb2.size
      obtain ⟨hc2, hf2⟩ := bcell hb2
      have z2 : w.heap.size < w2.heap.size := by omega
      have z3 : w.heap.size + 1 < w2.heap.size := by omega
      have HB2 : Hid (Below w.heap.size w w2) := Lib.hid (HB1.out.trans (hb2.mono HB1.out.size))
      clear hb2
      go_wp2_with fail
      go_region_with (first | (go_at_call 69; refine (HT.out _ HB2.out.drew).mono ?_; rintro e w3 ⟨u, rfl, hO, hb3'⟩; have hb3 := below_undrew2 hb3'; clear hb3'; obtain ⟨gu, cu, rfl, hu1, hu2, hu3, hu4, -⟩ := hO.form; have hs3 := hb3.size; obtain ⟨hc3, hf3⟩ := bcell hb3; have z4 : w.heap.size < w3.heap.size := (by omega); have z5 : w.heap.size + 1 < w3.heap.size := (by omega)))
      all_goals
        have HB3 : Hid (Below w.heap.size w w3) := Lib.hid (HB2.out.trans (hb3.mono HB2.out.size))
        clear hb3
        go_wp2_with fail
        refine bodyPost_ret (v := .tuple #[.agg #[.slice (some ⟨gu, 0, none⟩) n cu, .int .i64 0, .int .i64 0, .int .i64 0, .int .i64 b, .int .i64 0, .int .i64 0, .slice none 0 0, .slice none 0 0, .slice none 0 0], .bool true]) (by simp [results, Tryd.results35, go_sem, *]) rfl ⟨.slice (some ⟨gu, 0, none⟩) n cu, rfl, ?_, ?_⟩
        · clear hc1 hf1 hc2 hf2 hc3 hf3
          have hO1 : OwC w3 w2.heap.size (.slice (some ⟨gu, 0, none⟩) ss.length cu) ss := hO.1
          rw [hn] at hO1
          have hO' : OwC w3 w.heap.size (.slice (some ⟨gu, 0, none⟩) n cu) ss := OwC.base hO1 HB2.out.size
          have hne : (Value.slice (some ⟨gu, 0, none⟩) n cu).ownBlock ≠ some (w.heap.size + 1) := fun e => by
            have e' : gu = w.heap.size + 1 := Option.some.inj e
            have h3 : w2.heap.size ≤ gu := hu3
            omega
          repeat (with_reducible refine OwC.set ?_ hne _)
          exact hO'
        · clear hc1 hf1 hc2 hf2 hc3 hf3
          have hh := HB3.out
          (repeat (first | (with_reducible refine Below.alloc ?_ ?_ _) | (with_reducible refine Below.setCell ?_ ?_ _) | (with_reducible refine Below.drew ?_) | (with_reducible exact Below.refl _ _) | (with_reducible refine Below.trans ?_ (Below.mono (by assumption) ?_)))) <;> (first | omega | (dsimp only; omega) | (simp; done) | (simp; omega) | (simp at *; omega))

set_option maxRecDepth 100000 in
set_option maxHeartbeats 1000000 in
theorem cloneS_any (v : Value) (ss : List ByteArray) (W : World) (hR : Row W v ss) (hl : ss.length ≤ 1000) (h0 : 0 < ss.length) : Calls Tryd.prog 71 #[v] W (CopiedS ss W) := by
  obtain ⟨oa, cap, rfl, h1, h2, h3⟩ := hR
  have hnew := owS_new W W.heap.size (Nat.le_refl _)
  have hal := (Below.refl W.heap.size W).alloc (Nat.le_refl _) (.cells #[] 9)
  obtain ⟨b0, off0, rfl, -, -⟩ := h3 0 h0
  obtain ⟨v', w', hr, ho, hg⟩ := run_appSA (W.alloc (.cells #[] 9)) W.heap.size _ [] hnew ⟨b0, off0, none⟩ ss cap (fun j hj => by
    obtain ⟨b, off, e, hb, hc⟩ := h3 j hj
    injection e with e
    injection e with e1 e2
    subst e1 e2
    have e2 : (⟨b0, off0, none⟩ : Addr).add j = ⟨b0, off0 + j, none⟩ := by unfold Addr.add; split <;> simp_all
    rw [e2]
    exact (hal.cell (p := ⟨b0, off0 + j, none⟩) hb).trans hc) (by simp; omega) hal.size
  have ho' : OwS w' W.heap.size v' ss := by simpa using ho
  have hg : (W.alloc (.cells #[] 9)).grownBy w' (some W.heap.size) := hg
  have hE := fun (w : World) => Go.Lib.run_eql_slice_nil (P := Tryd.prog) w 24 9 (some ⟨b0, off0, none⟩) ss.length cap 0 0 Tryd.underlying24
  have hB : Below W.heap.size W w' := hal.grown hg hal.size (fun k e => by injection e with e; omega)
  have HR := Lib.hid hr
  have HO := Lib.hid ho'
  have HB := Lib.hid hB
  clear hr ho ho' hg hB hnew hal h3
  unfold maxLen at h2
  go_enter Tryd.func71, Tryd.ntmps71
  go_wp2_with (at_builtin; refine wp_app rfl _ _ rfl rfl _ _ rfl rfl HR.out ?_)
  go_ret
  exact ⟨_, rfl, HO.out, HB.out⟩

set_option maxRecDepth 100000 in
set_option maxHeartbeats 4000000 in
theorem implNewPile_any (v : Value) (ss : List ByteArray) (a b : Int) (w : World) (hR : Row w v ss) (hS : Small ss) (hVs : Vars w) :
    Calls Tryd.prog 37 #[v, .agg #[.int .i64 a, .int .i64 b]] w (NewQ w (newP ss a b) (newB ss a b)) := by
  have H := fun w1 (hb : Below w.heap.size w w1) => implSumOk_any v ss w1 (hR.below hb) hS (hVs.later hb)
  have HV := fun w1 => isNumber_any a b w1
  have HT := fun (hl : ss.length ≤ 1000) (h0 : 0 < ss.length) w1 (hb : Below w.heap.size w w1) => cloneS_any v ss w1 (hR.below hb) hl h0
  obtain ⟨oa, cap, rfl, -, -, -⟩ := hR
  obtain ⟨n, hn⟩ : ∃ n, ss.length = n := ⟨_, rfl⟩
  rw [hn] at H HT ⊢
  cases ho : okSum (wsOf ss)
  · have hF : newB ss a b = false := by unfold newB; rw [ho]; rfl
    rw [ho] at H
    replace H := Lib.hid H
    clear HV HT hS hVs ho hn
    go_enter Tryd.func37, Tryd.ntmps37
    go_wp2_with fail
    refine (H.out _ (by (repeat (first | (with_reducible refine Below.alloc ?_ ?_ _) | (with_reducible refine Below.setCell ?_ ?_ _) | (with_reducible refine Below.drew ?_) | (with_reducible exact Below.refl _ _) | (with_reducible refine Below.trans ?_ (Below.mono (by assumption) ?_)))) <;> (first | omega | (dsimp only; omega) | (simp; done) | (simp; omega) | (simp at *; omega)))).mono ?_
    rintro e w1 ⟨rfl, hb1⟩
    have hs1 := hb1.size
    obtain ⟨hc1, hf1⟩ := bcell hb1
    simp at hs1
    have z0 : w.heap.size < w1.heap.size := by omega
    have z1 : w.heap.size + 1 < w1.heap.size := by omega
    have HB1 : Hid (Below w.heap.size w w1) := Lib.hid (by clear hc1 hf1; (repeat (first | (with_reducible refine Below.alloc ?_ ?_ _) | (with_reducible refine Below.setCell ?_ ?_ _) | (with_reducible refine Below.drew ?_) | (with_reducible exact Below.refl _ _) | (with_reducible refine Below.trans ?_ (Below.mono (by assumption) ?_)))) <;> (first | omega | (dsimp only; omega) | (simp; done) | (simp; omega) | (simp at *; omega)))
    clear hb1
    go_wp2_with fail
    refine bodyPost_ret (v := .tuple #[.agg #[.slice none 0 0, .int .i64 0, .int .i64 0, .int .i64 0, .int .i64 0, .int .i64 0, .int .i64 0, .slice none 0 0, .slice none 0 0, .slice none 0 0], .bool false]) (by simp [results, Tryd.results37, go_sem, *]) rfl (newQ_no hF rfl ?_)
    clear hc1 hf1
    have hh := HB1.out
    (repeat (first | (with_reducible refine Below.alloc ?_ ?_ _) | (with_reducible refine Below.setCell ?_ ?_ _) | (with_reducible refine Below.drew ?_) | (with_reducible exact Below.refl _ _) | (with_reducible refine Below.trans ?_ (Below.mono (by assumption) ?_)))) <;> (first | omega | (dsimp only; omega) | (simp; done) | (simp; omega) | (simp at *; omega))
  · rw [ho] at H
    have hl : n ≤ 60 := by have := (ok_head ho).1; have := ws_len ss; omega
    have hn1 : 1 ≤ n := by
      have h1 := (ok_head ho).2.1
      have := ws_len ss
      omega
    replace H := Lib.hid H
    cases hv : numB a b
    · have hF : newB ss a b = false := by
        unfold newB
        rw [hv, Bool.and_false]
      rw [hv] at HV
      replace HV := Lib.hid HV
      clear HT hS hVs ho hv
      go_enter Tryd.func37, Tryd.ntmps37
      go_wp2_with fail
      refine (H.out _ (by (repeat (first | (with_reducible refine Below.alloc ?_ ?_ _) | (with_reducible refine Below.setCell ?_ ?_ _) | (with_reducible refine Below.drew ?_) | (with_reducible exact Below.refl _ _) | (with_reducible refine Below.trans ?_ (Below.mono (by assumption) ?_)))) <;> (first | omega | (dsimp only; omega) | (simp; done) | (simp; omega) | (simp at *; omega)))).mono ?_
      rintro e w1 ⟨rfl, hb1⟩
      have hs1 := hb1.size
      obtain ⟨hc1, hf1⟩ := bcell hb1
      simp at hs1
      have z0 : w.heap.size < w1.heap.size := by omega
      have z1 : w.heap.size + 1 < w1.heap.size := by omega
      have HB1 : Hid (Below w.heap.size w w1) := Lib.hid (by clear hc1 hf1; (repeat (first | (with_reducible refine Below.alloc ?_ ?_ _) | (with_reducible refine Below.setCell ?_ ?_ _) | (with_reducible refine Below.drew ?_) | (with_reducible exact Below.refl _ _) | (with_reducible refine Below.trans ?_ (Below.mono (by assumption) ?_)))) <;> (first | omega | (dsimp only; omega) | (simp; done) | (simp; omega) | (simp at *; omega)))
      clear hb1
      go_wp2_with fail
      refine (HV.out _).mono ?_
      rintro e w2 ⟨rfl, hb2⟩
      have hs2 := hb2.size
      obtain ⟨hc2, hf2⟩ := bcell hb2
      have z2 : w.heap.size < w2.heap.size := by omega
      have z3 : w.heap.size + 1 < w2.heap.size := by omega
      have HB2 : Hid (Below w.heap.size w w2) := Lib.hid (HB1.out.trans (hb2.mono HB1.out.size))
      clear hb2
      go_wp2_with fail
      refine bodyPost_ret (v := .tuple #[.agg #[.slice none 0 0, .int .i64 0, .int .i64 0, .int .i64 0, .int .i64 0, .int .i64 0, .int .i64 0, .slice none 0 0, .slice none 0 0, .slice none 0 0], .bool false]) (by simp [results, Tryd.results37, go_sem, *]) rfl (newQ_no hF rfl ?_)
      clear hc1 hf1 hc2 hf2
      have hh := HB2.out
      (repeat (first | (with_reducible refine Below.alloc ?_ ?_ _) | (with_reducible refine Below.setCell ?_ ?_ _) | (with_reducible refine Below.drew ?_) | (with_reducible exact Below.refl _ _) | (with_reducible refine Below.trans ?_ (Below.mono (by assumption) ?_)))) <;> (first | omega | (dsimp only; omega) | (simp; done) | (simp; omega) | (simp at *; omega))
    · rw [hv] at HV
      replace HV := Lib.hid HV
      have ha : a = 0 := by
        simp only [numB, Bool.and_eq_true, decide_eq_true_eq] at hv
        exact hv.1
      have hY : newB ss a b = true := by
        unfold newB
        rw [ho, hv]
        rfl
      rw [newP_yes hY, hY]
      replace HT := Lib.hid (HT (by omega) (by omega))
      subst ha
      clear hS hVs ho hv hY
      go_enter Tryd.func37, Tryd.ntmps37
      go_wp2_with fail
      refine (H.out _ (by (repeat (first | (with_reducible refine Below.alloc ?_ ?_ _) | (with_reducible refine Below.setCell ?_ ?_ _) | (with_reducible refine Below.drew ?_) | (with_reducible exact Below.refl _ _) | (with_reducible refine Below.trans ?_ (Below.mono (by assumption) ?_)))) <;> (first | omega | (dsimp only; omega) | (simp; done) | (simp; omega) | (simp at *; omega)))).mono ?_
      rintro e w1 ⟨rfl, hb1⟩
      have hs1 := hb1.size
      obtain ⟨hc1, hf1⟩ := bcell hb1
      simp at hs1
      have z0 : w.heap.size < w1.heap.size := by omega
      have z1 : w.heap.size + 1 < w1.heap.size := by omega
      have HB1 : Hid (Below w.heap.size w w1) := Lib.hid (by clear hc1 hf1; (repeat (first | (with_reducible refine Below.alloc ?_ ?_ _) | (with_reducible refine Below.setCell ?_ ?_ _) | (with_reducible refine Below.drew ?_) | (with_reducible exact Below.refl _ _) | (with_reducible refine Below.trans ?_ (Below.mono (by assumption) ?_)))) <;> (first | omega | (dsimp only; omega) | (simp; done) | (simp; omega) | (simp at *; omega)))
      clear hb1
      go_wp2_with fail
      refine (HV.out _).mono ?_
      rintro e w2 ⟨rfl, hb2⟩
      have hs2 := hb2.size
      obtain ⟨hc2, hf2⟩ := bcell hb2
      have z2 : w.heap.size < w2.heap.size := by omega
      have z3 : w.heap.size + 1 < w2.heap.size := by omega
      have HB2 : Hid (Below w.heap.size w w2) := Lib.hid (HB1.out.trans (hb2.mono HB1.out.size))
      clear hb2
      go_wp2_with fail
      go_region_with (first | (go_at_call 71; refine (HT.out _ HB2.out.drew).mono ?_; rintro e w3 ⟨u, rfl, hO, hb3'⟩; have hb3 := below_undrew2 hb3'; clear hb3'; obtain ⟨gu, cu, rfl, hu1, hu2, hu3, hu4, -⟩ := hO.form; have hs3 := hb3.size; obtain ⟨hc3, hf3⟩ := bcell hb3; have z4 : w.heap.size < w3.heap.size := (by omega); have z5 : w.heap.size + 1 < w3.heap.size := (by omega)))
      all_goals
        have HB3 : Hid (Below w.heap.size w w3) := Lib.hid (HB2.out.trans (hb3.mono HB2.out.size))
        clear hb3
        go_wp2_with fail
        refine bodyPost_ret (v := .tuple #[.agg #[.slice (some ⟨gu, 0, none⟩) n cu, .int .i64 0, .int .i64 0, .int .i64 0, .int .i64 b, .int .i64 0, .int .i64 0, .slice none 0 0, .slice none 0 0, .slice none 0 0], .bool true]) (by simp [results, Tryd.results37, go_sem, *]) rfl ⟨.slice (some ⟨gu, 0, none⟩) n cu, rfl, ?_, ?_⟩
        · clear hc1 hf1 hc2 hf2 hc3 hf3
          have hO1 : OwC w3 w2.heap.size (.slice (some ⟨gu, 0, none⟩) ss.length cu) ss := hO.1
          rw [hn] at hO1
          have hO' : OwC w3 w.heap.size (.slice (some ⟨gu, 0, none⟩) n cu) ss := OwC.base hO1 HB2.out.size
          have hne : (Value.slice (some ⟨gu, 0, none⟩) n cu).ownBlock ≠ some (w.heap.size + 1) := fun e => by
            have e' : gu = w.heap.size + 1 := Option.some.inj e
            have h3 : w2.heap.size ≤ gu := hu3
            omega
          repeat (with_reducible refine OwC.set ?_ hne _)
          exact hO'
        · clear hc1 hf1 hc2 hf2 hc3 hf3
          have hh := HB3.out
          (repeat (first | (with_reducible refine Below.alloc ?_ ?_ _) | (with_reducible refine Below.setCell ?_ ?_ _) | (with_reducible refine Below.drew ?_) | (with_reducible exact Below.refl _ _) | (with_reducible refine Below.trans ?_ (Below.mono (by assumption) ?_)))) <;> (first | omega | (dsimp only; omega) | (simp; done) | (simp; omega) | (simp at *; omega))

end L2
end Go.Proofs.YtmbonldiaimcfaaDoor
