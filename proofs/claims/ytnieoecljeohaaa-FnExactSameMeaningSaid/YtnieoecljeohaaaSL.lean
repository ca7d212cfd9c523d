/-
  The law on SameMeaning: copied, measured, held against each other.
-/
import Derived.Test.YtnieoecljeohaaaSM
import Derived.Deep.RegionWith
import Derived.Deep.DeepCutAuto
import Derived.Deep.Light
namespace Go.Proofs.Ytnieoecljeohaaa
open Go.RowKit
namespace L2
open L1

theorem size_set2 (A : World) (a : Addr) (u : Value) : (A.setCell a u).heap.size = A.heap.size := by simp [World.setCell]
theorem lst_set {A : World} {X : Nat} {ss : List ByteArray} {p : Addr} {u : Value} (h : Lst A X ss) (hp : X ≠ p.block) : Lst (A.setCell p u) X ss := (Below.heap_setCell _ _ _ _ hp).trans h
theorem below_undrew2 {w w' : World} (h : Below w.drew.heap.size w.drew w') : Below w.heap.size w w' := ⟨h.os, h.tape, h.output, h.size, h.block⟩
/-- What measuring leaves, from whatever is left on. -/
def Szed2 (ss : List ByteArray) (w : World) (e : Ending) (w' : World) : Prop :=
  w = w' ∧ (e = .returned (.int .i64 (-1)) ∨ ∃ x : Int, 0 ≤ x ∧ x ≤ 1048576 ∧ e = .returned (.int .i64 x) ∧ Small ss)

set_option maxRecDepth 100000 in
set_option maxHeartbeats 1000000 in
theorem szStringS_from (v : Value) (ss : List ByteArray) (y : Int) (hy0 : 0 ≤ y) (hy1 : y ≤ 1048576) (w : World) (hR : Row w v ss) (hz : ∀ i, i < ss.length → (ss.getD i ByteArray.empty).size ≤ maxLen) :
    Calls Try.prog 9 #[v, .int .i64 y] w (Szed2 ss w) := by
  obtain ⟨oa, cap, rfl, h1, h2, h3⟩ := hR
  obtain ⟨n, hn⟩ : ∃ n, ss.length = n := ⟨_, rfl⟩
  rw [hn] at h1 h3 hz ⊢
  have Hn := Lib.hid hn
  clear hn
  unfold maxLen at h2 hz
  by_cases hbig : y < (n : Int)
  · have hd : decide (y - (n : Int) < 0) = true := by simp; omega
    have hlt : y - (n : Int) < 0 := by omega
    clear h3 hz
    go_enter Try.func9, Try.ntmps9
    go_wp2
    go_ret
    exact ⟨rfl, Or.inl rfl⟩
  · have hd : decide (y - (n : Int) < 0) = false := by simp; omega
    have hge : ¬ y - (n : Int) < 0 := by omega
    go_enter Try.func9, Try.ntmps9
    go_wp2
    go_loop [1, 5] (fun l i => ∃ (k : Nat) (x : Int), k ≤ n ∧ 0 ≤ x ∧ x ≤ 1048576 ∧ l = .int .i64 x ∧ i = .int .i64 (k : Int) ∧ ∀ j, j < k → (ss.getD j ByteArray.empty).size ≤ 1048576) (fun _ i => n - (intOf i).toNat)
    case atStart => exact ⟨0, _, Nat.zero_le _, by omega, by omega, rfl, rfl, by intro j hj; omega⟩
    case round =>
      obtain ⟨k, x, hk, hx0, hx1, rfl, rfl, hall⟩ := hrel
      have Hall := Lib.hid hall
      clear hall
      by_cases hlt : k < n
      · obtain ⟨b, off, rfl, hb, hc⟩ := h3 k hlt
        have hzk := hz k hlt
        obtain ⟨s, hs⟩ : ∃ s, ss.getD k ByteArray.empty = s := ⟨_, rfl⟩
        rw [hs] at hc hzk
        have Hs := Lib.hid hs
        have H3 := Lib.hid h3
        have Hz := Lib.hid hz
        clear hs h3 hz hge hd
        have hki : (k : Int) < (n : Int) := by omega
        by_cases hneg : x - (s.size : Int) < 0
        · go_wp2
          go_ret
          exact ⟨rfl, Or.inl rfl⟩
        · go_wp2
          go_round
          case rel =>
            refine ⟨k + 1, _, by omega, ?_, ?_, rfl, by go_num, ?_⟩
            · omega
            · omega
            · intro j hj
              by_cases e : j = k
              · subst e; rw [Hs.out]; omega
              · exact Hall.out j (by omega)
          case measure => simp [intOf]; omega
      · have hki : ¬ (k : Int) < (n : Int) := by omega
        have H3 := Lib.hid h3
        have Hz := Lib.hid hz
        clear h3 hz hge hd
        go_wp2
        go_ret
        refine ⟨rfl, Or.inr ⟨x, hx0, hx1, rfl, by rw [Hn.out]; omega, fun j hj => Hall.out j (by rw [Hn.out] at hj; omega)⟩⟩


/-- What measuring a meaning leaves. -/
def SzedM (ss : List ByteArray) (w : World) (e : Ending) (w' : World) : Prop :=
  Below w.heap.size w w' ∧ (e = .returned (.int .i64 (-1)) ∨ ∃ x : Int, 0 ≤ x ∧ x ≤ 1048576 ∧ e = .returned (.int .i64 x) ∧ Small ss)
set_option maxRecDepth 100000 in
theorem szMeaning_any (a b : Int) (t : Bool) (v : Value) (q : Int) (ss : List ByteArray) (y : Int) (hy0 : 0 ≤ y) (hy1 : y ≤ 1048576) (w : World) (hR : Row w v ss) (hz : ∀ i, i < ss.length → (ss.getD i ByteArray.empty).size ≤ maxLen) :
    Calls Try.prog 4 #[mgV a b t v q, .int .i64 y] w (SzedM ss w) := by
  have H := Lib.hid (fun w1 (hb : Below w.heap.size w w1) => szStringS_from v ss y hy0 hy1 w1 (hR.below hb) hz)
  obtain ⟨oa, cap, rfl, h1, h2, h3⟩ := hR
  generalize ss.length = n at h1 H
  unfold maxLen at h2
  clear h3 hz
  go_enter Try.func4, Try.ntmps4
  go_wp2_with fail
  refine (H.out _ (by (repeat (first | (with_reducible refine Below.alloc ?_ ?_ _) | (with_reducible refine Below.setCell ?_ ?_ _) | (with_reducible refine Below.drew ?_) | (with_reducible exact Below.refl _ _) | (with_reducible refine Below.trans ?_ (Below.mono (by assumption) ?_)))) <;> (first | omega | (dsimp only; omega) | (simp; done) | (simp; omega) | (simp at *; omega)))).mono ?_
  rintro e w1 ⟨rfl, rfl | ⟨x, hx0, hx1, rfl, hS⟩⟩
  · go_wp2_with fail
    go_ret
    exact ⟨by (repeat (first | (with_reducible refine Below.alloc ?_ ?_ _) | (with_reducible refine Below.setCell ?_ ?_ _) | (with_reducible refine Below.drew ?_) | (with_reducible exact Below.refl _ _) | (with_reducible refine Below.trans ?_ (Below.mono (by assumption) ?_)))) <;> (first | omega | (dsimp only; omega) | (simp; done) | (simp; omega) | (simp at *; omega)), Or.inl rfl⟩
  · have hxn : ¬ x < 0 := by omega
    have HS := Lib.hid hS
    clear hS
    go_wp2_with fail
    go_ret
    exact ⟨by (repeat (first | (with_reducible refine Below.alloc ?_ ?_ _) | (with_reducible refine Below.setCell ?_ ?_ _) | (with_reducible refine Below.drew ?_) | (with_reducible exact Below.refl _ _) | (with_reducible refine Below.trans ?_ (Below.mono (by assumption) ?_)))) <;> (first | omega | (dsimp only; omega) | (simp; done) | (simp; omega) | (simp at *; omega)), Or.inr ⟨x, hx0, hx1, rfl, HS.out⟩⟩

/-- What copying a meaning leaves. -/
def CopiedM (a b : Int) (t : Bool) (q : Int) (ss : List ByteArray) (w : World) (e : Ending) (w' : World) : Prop :=
  ∃ X, e = .returned (mgV a b t (.slice (some ⟨X, 0, none⟩) ss.length ss.length) q) ∧ Row w' (.slice (some ⟨X, 0, none⟩) ss.length ss.length) ss ∧ Below w.heap.size w w'
set_option maxRecDepth 100000 in
set_option maxHeartbeats 1000000 in
theorem toMeaning_any (a b : Int) (t : Bool) (v : Value) (q : Int) (ss : List ByteArray) (w : World) (hR : Row w v ss) (hs : ss.length ≤ 1048576) :
    Calls Try.prog 6 #[mgV a b t v q] w (CopiedM a b t q ss w) := by
  have H := Lib.hid (fun w1 (hb : Below w.heap.size w w1) => toStringS_any v ss w1 (hR.below hb) hs)
  obtain ⟨oa, cap, rfl, h1, h2, h3⟩ := hR
  obtain ⟨n, hn⟩ : ∃ n, ss.length = n := ⟨_, rfl⟩
  have HN := Lib.hid hn
  rw [hn] at h1 H hs ⊢
  unfold maxLen at h2
  clear h3 hn
  go_enter Try.func6, Try.ntmps6
  go_wp2_with fail
  refine (toValue_any a b _).mono ?_
  rintro e w1 ⟨rfl, hb1⟩
  have hs1 := hb1.size
  obtain ⟨hc1, hf1⟩ := bcell hb1
  simp at hs1
  have z0 : w.heap.size < w1.heap.size := by omega
  have z1 : w.heap.size + 1 < w1.heap.size := by omega
  have z2 : w.heap.size + 1 + 1 < w1.heap.size := by omega
  have z2' : w.heap.size + 2 < w1.heap.size := by omega
  go_wp2_with fail
  refine (H.out _ (by (repeat (first | (with_reducible refine Below.alloc ?_ ?_ _) | (with_reducible refine Below.setCell ?_ ?_ _) | (with_reducible refine Below.drew ?_) | (with_reducible exact Below.refl _ _) | (with_reducible refine Below.trans ?_ (Below.mono (by assumption) ?_)))) <;> (first | omega | (dsimp only; omega) | (simp; done) | (simp; omega) | (simp at *; omega)))).mono ?_
  rintro e w2 ⟨rfl, hL, hb2⟩
  have hX : w1.heap.size ≤ w2.heap.size := by
    have hs2 := hb2.size
    clear hc1 hf1 hL hb2
    simp only [size_set2] at hs2
    exact hs2
  obtain ⟨hc2, hf2⟩ := bcell hb2
  have z3 : w.heap.size < w2.heap.size := by omega
  have z4 : w.heap.size + 1 < w2.heap.size := by omega
  have z5 : w.heap.size + 1 + 1 < w2.heap.size := by omega
  have z5' : w.heap.size + 2 < w2.heap.size := by omega
  have HLL := Lib.hid hL
  rw [size_set2, size_set2, size_set2] at HLL
  rw [HN.out]
  clear hL
  go_wp2_with fail
  refine bodyPost_ret (v := mgV a b t (.slice (some ⟨w1.heap.size, 0, none⟩) n n) q) (by simp [results, Try.results6, go_sem, *]) rfl ⟨w1.heap.size, by have e := HN.out; subst e; rfl, ?_, ?_⟩
  · refine Lst.row ?_ (by unfold maxLen; rw [HN.out]; omega)
    have hl := HLL.out
    repeat (with_reducible refine lst_set ?_ ?_)
    all_goals (first | (with_reducible exact hl) | (dsimp only; omega))
  · clear hc1 hf1 hc2 hf2
    (repeat (first | (with_reducible refine Below.alloc ?_ ?_ _) | (with_reducible refine Below.setCell ?_ ?_ _) | (with_reducible refine Below.drew ?_) | (with_reducible exact Below.refl _ _) | (with_reducible refine Below.trans ?_ (Below.mono (by assumption) ?_)))) <;> (first | omega | (dsimp only; omega) | (simp; done) | (simp; omega) | (simp at *; omega))

set_option maxRecDepth 100000 in
set_option maxHeartbeats 1000000 in
theorem eqMeaning_any (a b : Int) (t : Bool) (v v' : Value) (q : Int) (ss : List ByteArray) (w : World) (hR : Row w v ss) (hR' : Row w v' ss) :
    Calls Try.prog 8 #[mgV a b t v q, mgV a b t v' q] w fun e w' => e = .returned (.bool true) ∧ Below w.heap.size w w' := by
  have H := Lib.hid (fun w1 (hb : Below w.heap.size w w1) => eqStringS_any v v' ss w1 (hR.below hb) (hR'.below hb))
  have HV := Lib.hid (fun w1 => eqValue_any a b a b w1)
  have hsv : sameB a b a b = true := by simp [sameB]
  rw [hsv] at HV
  obtain ⟨oa, cap, rfl, h1, h2, _⟩ := hR
  obtain ⟨oa', cap', rfl, h1', h2', _⟩ := hR'
  clear hsv
  go_enter Try.func8, Try.ntmps8
  go_wp2_with fail
  refine (HV.out _).mono ?_
  rintro e w1 ⟨rfl, hb1⟩
  have hs1 := hb1.size
  obtain ⟨hc1, hf1⟩ := bcell hb1
  simp at hs1
  have z0 : w.heap.size < w1.heap.size := by omega
  have z1 : w.heap.size + 1 < w1.heap.size := by omega
  go_wp2_with fail
  refine (H.out _ (by (repeat (first | (with_reducible refine Below.alloc ?_ ?_ _) | (with_reducible refine Below.setCell ?_ ?_ _) | (with_reducible refine Below.drew ?_) | (with_reducible exact Below.refl _ _) | (with_reducible refine Below.trans ?_ (Below.mono (by assumption) ?_)))) <;> (first | omega | (dsimp only; omega) | (simp; done) | (simp; omega) | (simp at *; omega)))).mono ?_
  rintro e w2 ⟨rfl, hb2⟩
  have hs2 := hb2.size
  obtain ⟨hc2, hf2⟩ := bcell hb2
  have z2 : w.heap.size < w2.heap.size := by omega
  have z3 : w.heap.size + 1 < w2.heap.size := by omega
  go_wp2_with fail
  go_ret
  refine ⟨rfl, ?_⟩
  clear hc1 hf1 hc2 hf2
  (repeat (first | (with_reducible refine Below.alloc ?_ ?_ _) | (with_reducible refine Below.setCell ?_ ?_ _) | (with_reducible refine Below.drew ?_) | (with_reducible exact Below.refl _ _) | (with_reducible refine Below.trans ?_ (Below.mono (by assumption) ?_)))) <;> (first | omega | (dsimp only; omega) | (simp; done) | (simp; omega) | (simp at *; omega))

set_option maxRecDepth 100000 in
set_option maxHeartbeats 1000000 in
theorem specSameMeaning_any (a b : Int) (t : Bool) (v : Value) (q : Int) (ss : List ByteArray) (a' b' : Int) (t' : Bool) (v' : Value) (q' : Int) (tt : List ByteArray) (w : World) (hR : Row w v ss) (hR' : Row w v' tt) :
    Calls Try.prog 5 #[mgV a b t v q, mgV a' b' t' v' q'] w fun e w' => e = .returned (.bool (sameM a b t ss q a' b' t' tt q')) ∧ Below w.heap.size w w' := by
  have H := Lib.hid (fun w1 (hb : Below w.heap.size w w1) => l1SameTexts_any v v' ss tt w1 (hR.below hb) (hR'.below hb))
  clear hR hR'
  by_cases h1 : a = a'
  · subst h1
    by_cases h2 : b = b'
    · subst h2
      by_cases h3 : t = t'
      · subst h3
        cases hso : sameO ss tt
        · have e : sameM a b t ss q a b t tt q' = false := by unfold sameM; rw [hso, Bool.and_false]
          rw [hso] at H
          rw [e]
          go_enter Try.func5, Try.ntmps5
          go_wp2_with fail
          refine (H.out _ (by (repeat (first | (with_reducible refine Below.alloc ?_ ?_ _) | (with_reducible refine Below.setCell ?_ ?_ _) | (with_reducible refine Below.drew ?_) | (with_reducible exact Below.refl _ _) | (with_reducible refine Below.trans ?_ (Below.mono (by assumption) ?_)))) <;> (first | omega | (dsimp only; omega) | (simp; done) | (simp; omega) | (simp at *; omega)))).mono ?_
          rintro e w1 ⟨rfl, hb1⟩
          go_wp2_with fail
          go_ret
          refine ⟨rfl, ?_⟩
          (repeat (first | (with_reducible refine Below.alloc ?_ ?_ _) | (with_reducible refine Below.setCell ?_ ?_ _) | (with_reducible refine Below.drew ?_) | (with_reducible exact Below.refl _ _) | (with_reducible refine Below.trans ?_ (Below.mono (by assumption) ?_)))) <;> (first | omega | (dsimp only; omega) | (simp; done) | (simp; omega) | (simp at *; omega))
        · have e : sameM a b t ss q a b t tt q' = decide (q = q') := by unfold sameM; rw [hso]; simp
          rw [hso] at H
          rw [e]
          have hq : (q == q') = decide (q = q') := by by_cases h : q = q' <;> simp [h]
          generalize decide (q = q') = dq at hq ⊢
          go_enter Try.func5, Try.ntmps5
          go_wp2_with fail
          refine (H.out _ (by (repeat (first | (with_reducible refine Below.alloc ?_ ?_ _) | (with_reducible refine Below.setCell ?_ ?_ _) | (with_reducible refine Below.drew ?_) | (with_reducible exact Below.refl _ _) | (with_reducible refine Below.trans ?_ (Below.mono (by assumption) ?_)))) <;> (first | omega | (dsimp only; omega) | (simp; done) | (simp; omega) | (simp at *; omega)))).mono ?_
          rintro e w1 ⟨rfl, hb1⟩
          have hs1 := hb1.size
          obtain ⟨hc1, hf1⟩ := bcell hb1
          simp at hs1
          have z0 : w.heap.size < w1.heap.size := by omega
          have z1 : w.heap.size + 1 < w1.heap.size := by omega
          go_wp2_with fail
          go_ret
          refine ⟨rfl, ?_⟩
          clear hc1 hf1
          (repeat (first | (with_reducible refine Below.alloc ?_ ?_ _) | (with_reducible refine Below.setCell ?_ ?_ _) | (with_reducible refine Below.drew ?_) | (with_reducible exact Below.refl _ _) | (with_reducible refine Below.trans ?_ (Below.mono (by assumption) ?_)))) <;> (first | omega | (dsimp only; omega) | (simp; done) | (simp; omega) | (simp at *; omega))
      · have e : sameM a b t ss q a b t' tt q' = false := by unfold sameM; simp [h3]
        have h3' : (t == t') = false := by simpa using h3
        rw [e]
        go_enter Try.func5, Try.ntmps5
        go_wp2_with fail
        go_ret
        refine ⟨rfl, ?_⟩
        (repeat (first | (with_reducible refine Below.alloc ?_ ?_ _) | (with_reducible refine Below.setCell ?_ ?_ _) | (with_reducible refine Below.drew ?_) | (with_reducible exact Below.refl _ _) | (with_reducible refine Below.trans ?_ (Below.mono (by assumption) ?_)))) <;> (first | omega | (dsimp only; omega) | (simp; done) | (simp; omega) | (simp at *; omega))
    · have e : sameM a b t ss q a b' t' tt q' = false := by unfold sameM; simp [h2]
      have h2' : (b == b') = false := by simpa using h2
      rw [e]
      go_enter Try.func5, Try.ntmps5
      go_wp2_with fail
      go_ret
      refine ⟨rfl, ?_⟩
      (repeat (first | (with_reducible refine Below.alloc ?_ ?_ _) | (with_reducible refine Below.setCell ?_ ?_ _) | (with_reducible refine Below.drew ?_) | (with_reducible exact Below.refl _ _) | (with_reducible refine Below.trans ?_ (Below.mono (by assumption) ?_)))) <;> (first | omega | (dsimp only; omega) | (simp; done) | (simp; omega) | (simp at *; omega))
  · have e : sameM a b t ss q a' b' t' tt q' = false := by unfold sameM; simp [h1]
    have h1' : (a == a') = false := by simpa using h1
    rw [e]
    go_enter Try.func5, Try.ntmps5
    go_wp2_with fail
    go_ret
    refine ⟨rfl, ?_⟩
    (repeat (first | (with_reducible refine Below.alloc ?_ ?_ _) | (with_reducible refine Below.setCell ?_ ?_ _) | (with_reducible refine Below.drew ?_) | (with_reducible exact Below.refl _ _) | (with_reducible refine Below.trans ?_ (Below.mono (by assumption) ?_)))) <;> (first | omega | (dsimp only; omega) | (simp; done) | (simp; omega) | (simp at *; omega))

set_option maxRecDepth 100000 in
set_option maxHeartbeats 4000000 in
theorem lawSame (a b : Int) (t : Bool) (v : Value) (ss : List ByteArray) (q : Int) (a' b' : Int) (t' : Bool) (v' : Value) (tt : List ByteArray) (q' : Int) (w : World) (hR : Row w v ss) (hR' : Row w v' tt) (hz : ∀ i, i < ss.length → (ss.getD i ByteArray.empty).size ≤ maxLen) (hz' : ∀ i, i < tt.length → (tt.getD i ByteArray.empty).size ≤ maxLen) :
    Calls Try.prog 3 #[mgV a b t v q, mgV a' b' t' v' q'] w fun e w' => e = .returned (.bool true) ∧ Below w.heap.size w w' := by
  have HZ := Lib.hid (fun w1 (hb : Below w.heap.size w w1) => szMeaning_any a b t v q ss 1048576 (by omega) (by omega) w1 (hR.below hb) hz)
  have HZ' := Lib.hid (fun w1 y (h0 : 0 ≤ y) (h1 : y ≤ 1048576) (hb : Below w.heap.size w w1) => szMeaning_any a' b' t' v' q' tt y h0 h1 w1 (hR'.below hb) hz')
  have HT := Lib.hid (fun (hs : ss.length ≤ 1048576) w1 (hb : Below w.heap.size w w1) => toMeaning_any a b t v q ss w1 (hR.below hb) hs)
  have HT' := Lib.hid (fun (hs : tt.length ≤ 1048576) w1 (hb : Below w.heap.size w w1) => toMeaning_any a' b' t' v' q' tt w1 (hR'.below hb) hs)
  have hv : ∃ oa l c, v = .slice oa l c := by obtain ⟨oa, c, e, _⟩ := hR; exact ⟨_, _, _, e⟩
  have hv' : ∃ oa l c, v' = .slice oa l c := by obtain ⟨oa, c, e, _⟩ := hR'; exact ⟨_, _, _, e⟩
  obtain ⟨oa, l, c, rfl⟩ := hv
  obtain ⟨oa', l', c', rfl⟩ := hv'
  clear hR hR' hz hz'
  go_enter Try.func3, Try.ntmps3
  go_wp2_with fail
  refine (HZ.out _ (by (repeat (first | (with_reducible refine Below.alloc ?_ ?_ _) | (with_reducible refine Below.setCell ?_ ?_ _) | (with_reducible refine Below.drew ?_) | (with_reducible exact Below.refl _ _) | (with_reducible refine Below.trans ?_ (Below.mono (by assumption) ?_)))) <;> (first | omega | (dsimp only; omega) | (simp; done) | (simp; omega) | (simp at *; omega)))).mono ?_
  rintro e w1 ⟨hb1, rfl | ⟨x, hx0, hx1, rfl, hS⟩⟩
  · go_wp2_with fail
    go_ret
    refine ⟨rfl, ?_⟩
    (repeat (first | (with_reducible refine Below.alloc ?_ ?_ _) | (with_reducible refine Below.setCell ?_ ?_ _) | (with_reducible refine Below.drew ?_) | (with_reducible exact Below.refl _ _) | (with_reducible refine Below.trans ?_ (Below.mono (by assumption) ?_)))) <;> (first | omega | (dsimp only; omega) | (simp; done) | (simp; omega) | (simp at *; omega))
  · have hs1 := hb1.size
    obtain ⟨hc1, hf1⟩ := bcell hb1
    simp at hs1
    have z0 : w.heap.size < w1.heap.size := by omega
    have z1 : w.heap.size + 1 < w1.heap.size := by omega
    have hxn : ¬ x < 0 := by omega
    have HS := Lib.hid hS
    have HB1 : Hid (Below w.heap.size w w1) := Lib.hid (by clear hc1 hf1; (repeat (first | (with_reducible refine Below.alloc ?_ ?_ _) | (with_reducible refine Below.setCell ?_ ?_ _) | (with_reducible refine Below.drew ?_) | (with_reducible exact Below.refl _ _) | (with_reducible refine Below.trans ?_ (Below.mono (by assumption) ?_)))) <;> (first | omega | (dsimp only; omega) | (simp; done) | (simp; omega) | (simp at *; omega)))
    clear hS
    go_wp2_with fail
    refine (HZ'.out _ x hx0 hx1 HB1.out).mono ?_
    rintro e w2 ⟨hb2, rfl | ⟨y, hy0, hy1, rfl, hS'⟩⟩
    · go_wp2_with fail
      go_ret
      refine ⟨rfl, HB1.out.trans (hb2.mono HB1.out.size)⟩
    · have hs2 := hb2.size
      obtain ⟨hc2, hf2⟩ := bcell hb2
      have z2 : w.heap.size < w2.heap.size := by omega
      have z3 : w.heap.size + 1 < w2.heap.size := by omega
      have hyn : ¬ y < 0 := by omega
      have HS' := Lib.hid hS'
      have HB2 : Hid (Below w.heap.size w w2) := Lib.hid (HB1.out.trans (hb2.mono HB1.out.size))
      clear hS' hb2
      have hn := HS.out.1
      have hn' := HS'.out.1
      have e0 : w2.cell? ⟨w.heap.size, 0, none⟩ = some (.int .i64 a) := by simp [hc2, hc1, z0, z1, go_sem]
      have e1 : w2.cell? ⟨w.heap.size, 1, none⟩ = some (.int .i64 b) := by simp [hc2, hc1, z0, z1, go_sem]
      have e2 : w2.cell? ⟨w.heap.size, 2, none⟩ = some (.bool t) := by simp [hc2, hc1, z0, z1, go_sem]
      have e3 : w2.cell? ⟨w.heap.size, 3, none⟩ = some (.slice oa l c) := by simp [hc2, hc1, z0, z1, go_sem]
      have e4 : w2.cell? ⟨w.heap.size, 4, none⟩ = some (.int .i64 q) := by simp [hc2, hc1, z0, z1, go_sem]
      have d0 : w2.cell? ⟨w.heap.size + 1, 0, none⟩ = some (.int .i64 a') := by simp [hc2, hc1, z0, z1, go_sem]
      have d1 : w2.cell? ⟨w.heap.size + 1, 1, none⟩ = some (.int .i64 b') := by simp [hc2, hc1, z0, z1, go_sem]
      have d2 : w2.cell? ⟨w.heap.size + 1, 2, none⟩ = some (.bool t') := by simp [hc2, hc1, z0, z1, go_sem]
      have d3 : w2.cell? ⟨w.heap.size + 1, 3, none⟩ = some (.slice oa' l' c') := by simp [hc2, hc1, z0, z1, go_sem]
      have d4 : w2.cell? ⟨w.heap.size + 1, 4, none⟩ = some (.int .i64 q') := by simp [hc2, hc1, z0, z1, go_sem]
      clear HZ HZ' hx0 hx1 hy0 hy1 hc1 hf1 hc2 hf2 hb1
      go_wp2_with fail
      go_cut [6] (fun s6 wx => s6 = .bool (sameM a b t ss q a' b' t' tt q') ∧ Below w2.heap.size w2 wx)
      case first =>
        go_region_with (first | (go_at_call_of 6 (Value.int IntKind.i64 a); refine (HT.out hn _ HB2.out.drew).mono ?_; rintro e w3 ⟨XA, rfl, hRA, hb3'⟩; have hb3 := below_undrew2 hb3'; clear hb3'; have HB3 := Lib.hid (HB2.out.trans (hb3.mono HB2.out.size)); have hs3 := hb3.size; obtain ⟨hc3, hf3⟩ := bcell hb3; have zA : w.heap.size < w3.heap.size := (by omega); have zA' : w.heap.size + 1 < w3.heap.size := (by omega)) | (go_at_call_of 6 (Value.int IntKind.i64 a'); refine (HT'.out hn' _ HB3.out).mono ?_; rintro e w4 ⟨XB, rfl, hRB, hb4⟩) | (go_at_call 5; refine (specSameMeaning_any a b t _ q ss a' b' t' _ q' tt _ (hRA.below hb4) hRB).mono ?_; rintro e w5 ⟨rfl, hb5⟩))
        all_goals
          go_wp2_with fail
          go_meet
          go_light
          exact ⟨rfl, hb3.trans ((hb4.mono hb3.size).trans (hb5.mono (Nat.le_trans hb3.size hb4.size)))⟩
      case rest =>
        obtain ⟨rfl, hbx⟩ := hcut
        have HBX := Lib.hid (HB2.out.trans (hbx.mono HB2.out.size))
        have hsx := hbx.size
        obtain ⟨hcx, hfx⟩ := bcell hbx
        have zx0 : w.heap.size < wc.heap.size := by omega
        have zx1 : w.heap.size + 1 < wc.heap.size := by omega
        clear hbx
        go_wp2_with fail
        refine (HT.out hn _ HBX.out).mono ?_
        rintro e w6 ⟨XC, rfl, hRC, hb6⟩
        have HB6 := Lib.hid (HBX.out.trans (hb6.mono HBX.out.size))
        have hs6 := hb6.size
        obtain ⟨hc6, hf6⟩ := bcell hb6
        have z60 : w.heap.size < w6.heap.size := by omega
        have z61 : w.heap.size + 1 < w6.heap.size := by omega
        have HRC := Lib.hid hRC
        clear hb6 hRC
        go_wp2_with fail
        refine (HT'.out hn' _ (HB6.out.alloc HB6.out.size _)).mono ?_
        rintro e w7 ⟨XD, rfl, hRD, hb7⟩
        have hb7' : Below w6.heap.size w6 w7 := ((Below.refl _ _).alloc (Nat.le_refl _) _).trans (hb7.mono (by simp))
        have HB7 := Lib.hid (HB6.out.trans (hb7'.mono HB6.out.size))
        have hs7 := hb7'.size
        obtain ⟨hc7, hf7⟩ := bcell hb7
        have hz7 := hb7.size
        simp at hz7
        have z70 : w.heap.size < w7.heap.size := by omega
        have z71 : w.heap.size + 1 < w7.heap.size := by omega
        have z72 : w6.heap.size < w7.heap.size := by omega
        have HRC7 := Lib.hid (HRC.out.below hb7')
        have HRD := Lib.hid hRD
        clear hb7 hb7' hRD
        have hal := (Below.refl w7.heap.size w7).alloc (Nat.le_refl _) (.cells #[.int .i64 a', .int .i64 b', .bool t', .slice (some ⟨XD, 0, none⟩) tt.length tt.length, .int .i64 q'] 31)
        have HAL := Lib.hid hal
        clear hal
        go_wp2_with fail
        refine (implSameMeaning_any a b t _ q ss a' b' t' _ q' tt _ (HRC7.out.below HAL.out) (HRD.out.below HAL.out)).mono ?_
        rintro e w8 ⟨rfl, hb8⟩
        have hb8' : Below w7.heap.size w7 w8 := HAL.out.trans (hb8.mono HAL.out.size)
        have HB8 := Lib.hid (HB7.out.trans (hb8'.mono HB7.out.size))
        obtain ⟨hc8, hf8⟩ := bcell hb8
        have hz8 := hb8.size
        simp at hz8
        have z80 : w.heap.size < w8.heap.size := by omega
        have z81 : w.heap.size + 1 < w8.heap.size := by omega
        have z82 : w6.heap.size < w8.heap.size := by omega
        have z83 : w7.heap.size < w8.heap.size := by omega
        have HRC8 := Lib.hid (HRC7.out.below hb8')
        have HRD8 := Lib.hid (HRD.out.below hb8')
        clear hb8 hb8'
        generalize sameM a b t ss q a' b' t' tt q' = sM
        go_wp2_with fail
        go_region_with (first | (go_at_call_of 6 (Value.int IntKind.i64 a); refine (HT.out hn _ HB8.out.drew).mono ?_; rintro e w9 ⟨XE, rfl, hRE, hb9'⟩; have hb9 := below_undrew2 hb9'; clear hb9'; have hs9 := hb9.size; obtain ⟨hc9, hf9⟩ := bcell hb9; have z90 : w.heap.size < w9.heap.size := (by omega); have z91 : w.heap.size + 1 < w9.heap.size := (by omega); have z92 : w6.heap.size < w9.heap.size := (by omega); have z93 : w7.heap.size < w9.heap.size := (by omega)) | (go_at_call 8; refine (eqMeaning_any a b t _ _ q ss _ (HRC8.out.below hb9) hRE).mono ?_; rintro e wa ⟨rfl, hba⟩; have hsa := hba.size; obtain ⟨hca, hfa⟩ := bcell hba; have za0 : w.heap.size < wa.heap.size := (by omega); have za1 : w.heap.size + 1 < wa.heap.size := (by omega); have za2 : w6.heap.size < wa.heap.size := (by omega); have za3 : w7.heap.size < wa.heap.size := (by omega)))
        all_goals
          have HB9 := Lib.hid (HB8.out.trans (hb9.mono HB8.out.size))
          have HBA := Lib.hid (HB9.out.trans (hba.mono HB9.out.size))
          have HRDA := Lib.hid ((HRD8.out.below hb9).below hba)
          clear hb9 hba
          go_wp2_with fail
          go_region_with (first | (go_at_call_of 6 (Value.int IntKind.i64 a'); refine (HT'.out hn' _ HBA.out.drew).mono ?_; rintro e wb ⟨XF, rfl, hRF, hbb'⟩; have hbb := below_undrew2 hbb'; clear hbb'; have hsb := hbb.size; obtain ⟨hcb, hfb⟩ := bcell hbb; have zb1 : w.heap.size + 1 < wb.heap.size := (by omega); have zb3 : w7.heap.size < wb.heap.size := (by omega)) | (go_at_call 8; refine (eqMeaning_any a' b' t' _ _ q' tt _ (HRDA.out.below hbb) hRF).mono ?_; rintro e wd ⟨rfl, hbd⟩))
          all_goals
            have HBB := Lib.hid (HBA.out.trans (hbb.mono HBA.out.size))
            go_wp2_with fail
            go_ret
            exact ⟨rfl, HBB.out.trans (hbd.mono HBB.out.size)⟩

end L2
end Go.Proofs.Ytnieoecljeohaaa
