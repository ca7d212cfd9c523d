/-
  The law of chapter 4 on what is meant.
-/
import Derived.Test.YtncaacljeeinpaaGreatDoorM10
import Derived.Test.YtncaacljeeinpaaGreatDoorC13
import Derived.Test.YtncaacljeeinpaaGreatDoorSL
import Derived.Lib.QuietBelow
import Derived.BigQuiet
namespace Go.Proofs.YtncaacljeeinpaaGreatDoor
open Go.RowKit Go.Sort
namespace L2
open S1 L1

set_option maxRecDepth 100000 in
set_option maxHeartbeats 2000000 in
theorem heldS_any (X n cap k0 : Nat) (w : World) (hM : Mem w X ((List.range n).map fun j => .string (mtxt (k0 + j)))) (_h1 : n ≤ cap) (hb : n ≤ 1048576) (hk0 : k0 ≤ 1000000000) :
    Calls Tryz.prog 82 #[.slice (some ⟨X, 0, none⟩) n cap, .int .i64 (k0 : Int)] w fun e w' => e = .returned (.int .i64 ((k0 + n : Nat) : Int)) ∧ Below w.heap.size w w' := by
  have HM := Lib.hid hM
  clear hM
  go_enter Tryz.func82, Tryz.ntmps82
  go_wp2
  go_loopw [1, 5] (fun q i wr => ∃ k : Nat, k ≤ n ∧ i = .int .i64 (k : Int) ∧ q = .int .i64 ((k0 + k : Nat) : Int) ∧ Below w.heap.size w wr) (fun _ i _ => n - (intOf i).toNat)
  case atStart => exact ⟨0, Nat.zero_le _, rfl, rfl, Below.refl _ _⟩
  case round =>
    obtain ⟨k, hk, rfl, rfl, hB⟩ := hrel
    have HB := Lib.hid hB
    clear hB
    by_cases hlt : k < n
    · have hki : (k : Int) < (n : Int) := by omega
      have hk00 : (0 : Int) ≤ (k : Int) := by omega
      have cK := (HM.out.below HB.out |>.2 k (by simpa using hlt)).1
      have e : ((List.range n).map fun j => Value.string (mtxt (k0 + j))).getD k (.int .i64 0) = .string (mtxt (k0 + k)) := by simp [List.getD, hlt]
      rw [e] at cK
      have hA : ∀ w', Below wr.heap.size wr w' → Calls Tryz.prog 81 #[.int .i64 ((k0 + k : Nat) : Int)] w' (fun e w'' => e = .returned (.string (mtxt (k0 + k))) ∧ Below w'.heap.size w' w'') := fun w' _ => markText_any (k0 + k) (by omega) w'
      obtain ⟨t, ht⟩ : ∃ t, mtxt (k0 + k) = t := ⟨_, rfl⟩
      rw [ht] at cK hA
      have cK' := cell_regrown cK
      have cA := fun d os => Calls.regrown_of (d := d) (os := os) (hA (grow (redrawn wr d) os) (below_regrown wr d os))
      clear hA e ht
      go_wp2_with fail
      refine wp_region_quiet_below (by kernel_rfl) (by kernel_rfl) ?_
      repeat (go_big_quiet_step (exact cA _ _))
      refine wpQuiet_nil ?_
      intro _ hw'
      obtain ⟨⟨dq, osq⟩, hw''⟩ := hw'
      have HQ := below_regrown wr dq osq
      rw [← hw''] at HQ
      have HQ' := Lib.hid (HB.out.trans (HQ.mono HB.out.size))
      clear hw'' cA cK cK' HQ
      go_wp2_with fail
      go_roundw
      case rel => exact ⟨k + 1, by omega, by go_num, by go_num, HQ'.out⟩
      case measure => simp [intOf]; omega
    · have hki : ¬ (k : Int) < (n : Int) := by omega
      have hkn : k = n := by omega
      have HK := Lib.hid hkn
      clear hkn
      go_wp2_with fail
      go_ret
      exact ⟨by rw [← HK.out]; rfl, HB.out⟩

/-- A row of words that a call owns, or nothing. -/
def OwU (w : World) (B : Nat) (u : Value) (ss : List ByteArray) : Prop := w.ownsRow B 9 1 u ss.length (ss.map Value.string)
theorem OwU.is {w : World} {B : Nat} {u : Value} {ss : List ByteArray} (h : OwU w B u ss) : (u = .slice none 0 0 ∧ ss = []) ∨ OwS w B u ss := by
  by_cases hu : u = .slice none 0 0
  · rcases h.2 with ⟨_, h0⟩ | ⟨g, cap, cur, hv, _⟩
    · exact Or.inl ⟨hu, List.eq_nil_of_length_eq_zero h0⟩
    · rw [hu] at hv; cases hv
  · exact Or.inr ⟨h, hu⟩
theorem OwU.row {w : World} {B : Nat} {u : Value} {ss : List ByteArray} (h : OwU w B u ss) : Row w u ss := by
  rcases h.is with ⟨rfl, rfl⟩ | h
  · exact row_nil _
  · exact h.row
theorem OwU.kept {w w' : World} {B : Nat} {u : Value} {ss : List ByteArray} {row : Option Nat} (h : OwU w B u ss) (hg : w.grownBy w' row) (hne : u.ownBlock = none ∨ u.ownBlock ≠ row) : OwU w' B u ss := World.ownsRow.kept h hg hne
theorem OwU.below {w w' : World} {B : Nat} {u : Value} {ss : List ByteArray} (h : OwU w B u ss) (hb : Below w.heap.size w w') : OwU w' B u ss := by
  refine h.kept (D.grown_of_below hb none) ?_
  cases hu : u.ownBlock
  · exact Or.inl rfl
  · exact Or.inr (by simp)
theorem OwU.slice {w : World} {B : Nat} {u : Value} {ss : List ByteArray} (h : OwU w B u ss) : ∃ oa c, u = .slice oa ss.length c := by
  obtain ⟨oa, c, e, _⟩ := h.row
  exact ⟨oa, c, e⟩
theorem OwU.lt' {w : World} {B : Nat} {u : Value} {ss : List ByteArray} (h : OwU w B u ss) {b : Nat} (hb : u.ownBlock = some b) : B ≤ b ∧ b < w.heap.size := World.ownsRow.lt h b hb
/-- What is meant, as either answers it. -/
def MeantQ (X : World) (o : Out) (e : Ending) (W' : World) : Prop := ∃ u, e = .returned (mgV o.k o.n o.thr u o.code) ∧ OwU W' X.heap.size u o.said ∧ Below X.heap.size X W'
theorem specMeantQ (v : Value) (ss : List ByteArray) (a b : Int) (W : World) (hR : Row W v ss) (hS : Small ss) :
    Calls Tryz.prog 11 #[v, .agg #[.int .i64 a, .int .i64 b]] W (MeantQ W (meant (wsOf ss) a b)) :=
  (specMeant_any v ss a b W hR hS).mono fun _ _ ⟨u, he, ho, hb⟩ => ⟨u, he, ho, hb⟩
theorem implMeantQ (v : Value) (ss : List ByteArray) (a b : Int) (W : World) (hR : Row W v ss) (hS : Small ss) (hV : Vars W) :
    Calls Tryz.prog 8 #[v, .agg #[.int .i64 a, .int .i64 b]] W (MeantQ W (meant (wsOf ss) a b)) :=
  (implMeant_any v ss a b W hR hS hV).mono fun _ _ ⟨u, he, hh⟩ => ⟨u, he, hh.own, hh.below⟩
/-- A row that was marked, or nothing. -/
def Mkd (w : World) (u : Value) (n k0 : Nat) : Prop := (u = .slice none 0 0 ∧ n = 0) ∨ ∃ X cap, u = .slice (some ⟨X, 0, none⟩) n cap ∧ n ≤ cap ∧ Mem w X ((List.range n).map fun j => .string (mtxt (k0 + j)))
theorem Mkd.below {w w' : World} {u : Value} {n k0 : Nat} (h : Mkd w u n k0) (hb : Below w.heap.size w w') : Mkd w' u n k0 := by
  rcases h with h | ⟨X, cap, e, h1, h2⟩
  · exact Or.inl h
  · exact Or.inr ⟨X, cap, e, h1, h2.below hb⟩

set_option maxRecDepth 100000 in
theorem markNone (k0 : Int) (w : World) : Calls Tryz.prog 33 #[.slice none 0 0, .int .i64 k0] w fun e w' => e = .returned (.int .i64 k0) ∧ w = w' := by
  go_enter Tryz.func33, Tryz.ntmps33
  go_wp2
  go_loop [1, 5] (fun q i => q = .int .i64 k0 ∧ i = .int .i64 0) (fun _ _ => 0)
  case atStart => exact ⟨rfl, rfl⟩
  case round =>
    obtain ⟨rfl, rfl⟩ := hrel
    go_wp2
    go_ret
    exact ⟨rfl, rfl⟩
set_option maxRecDepth 100000 in
theorem heldNone (k0 : Int) (w : World) : Calls Tryz.prog 82 #[.slice none 0 0, .int .i64 k0] w fun e w' => e = .returned (.int .i64 k0) ∧ w = w' := by
  go_enter Tryz.func82, Tryz.ntmps82
  go_wp2
  go_loop [1, 5] (fun q i => q = .int .i64 k0 ∧ i = .int .i64 0) (fun _ _ => 0)
  case atStart => exact ⟨rfl, rfl⟩
  case round =>
    obtain ⟨rfl, rfl⟩ := hrel
    go_wp2
    go_ret
    exact ⟨rfl, rfl⟩
/-- What marking leaves. -/
def MarkedU (u : Value) (n k : Nat) (w : World) (e : Ending) (w' : World) : Prop := e = .returned (.int .i64 ((k + n : Nat) : Int)) ∧ Mkd w' u n k ∧ w.grownBy w' u.ownBlock
theorem markU {B : Nat} (u : Value) (ss : List ByteArray) (k0 : Nat) (w : World) (hO : OwU w B u ss) (hn : ss.length ≤ 1048576) (hk : k0 ≤ 1000000000) : Calls Tryz.prog 33 #[u, .int .i64 (k0 : Int)] w (MarkedU u ss.length k0 w) := by
  rcases hO.is with ⟨rfl, rfl⟩ | hO
  · exact (markNone (k0 : Int) w).mono fun _ _ ⟨he, hw⟩ => ⟨he, Or.inl ⟨rfl, rfl⟩, by rw [← hw]; exact World.grownBy.refl _ _⟩
  · obtain ⟨g, cap, rfl, h1, _⟩ := hO.form
    exact (markStringS_any g ss.length cap k0 w _ hO.mem (by simp) h1 hn hk).mono fun _ _ ⟨he, hm, hg⟩ => ⟨he, Or.inr ⟨g, cap, rfl, h1, hm⟩, hg⟩
theorem heldU (u : Value) (n k0 : Nat) (w : World) (hM : Mkd w u n k0) (hn : n ≤ 1048576) (hk : k0 ≤ 1000000000) : Calls Tryz.prog 82 #[u, .int .i64 (k0 : Int)] w fun e w' => e = .returned (.int .i64 ((k0 + n : Nat) : Int)) ∧ Below w.heap.size w w' := by
  rcases hM with ⟨rfl, rfl⟩ | ⟨X, cap, rfl, h1, h2⟩
  · exact (heldNone (k0 : Int) w).mono fun _ _ ⟨he, hw⟩ => ⟨he, by rw [← hw]; exact Below.refl _ _⟩
  · exact heldS_any X n cap k0 w h2 h1 hn hk
set_option maxRecDepth 100000 in
theorem markMeaningU {B : Nat} (a b : Int) (t : Bool) (q : Int) (u : Value) (ss : List ByteArray) (k0 : Nat) (w : World) (hO : OwU w B u ss) (hn : ss.length ≤ 1048576) (hk : k0 ≤ 1000000000) :
    Calls Tryz.prog 34 #[mgV a b t u q, .int .i64 (k0 : Int)] w (MarkedU u ss.length k0 w) := by
  obtain ⟨oa, c, rfl⟩ := hO.slice
  have H := Lib.hid (fun w1 (hb : Below w.heap.size w w1) => markU _ ss k0 w1 (hO.below hb) hn hk)
  clear hO
  unfold mgV
  generalize ss.length = n at H hn ⊢
  go_enter Tryz.func34, Tryz.ntmps34
  go_wp2_with fail
  refine (H.out _ (by (repeat (first | (with_reducible refine Below.alloc ?_ ?_ _) | (with_reducible refine Below.setCell ?_ ?_ _) | (with_reducible refine Below.drew ?_) | (with_reducible exact Below.refl _ _) | (with_reducible refine Below.trans ?_ (Below.mono (by assumption) ?_)))) <;> (first | omega | (dsimp only; omega) | (simp; done) | (simp; omega) | (simp at *; omega)))).mono ?_
  rintro e w1 ⟨rfl, hm, hg⟩
  have HM := Lib.hid hm
  have HG := Lib.hid hg
  clear hm hg
  go_wp2_with fail
  go_ret
  exact ⟨rfl, HM.out, (World.grownBy_alloc _ _ _).trans HG.out⟩
set_option maxRecDepth 100000 in
theorem heldMeaningU (a b : Int) (t : Bool) (q : Int) (u : Value) (n k0 : Nat) (w : World) (hu : ∃ oa c, u = .slice oa n c) (hM : Mkd w u n k0) (hn : n ≤ 1048576) (hk : k0 ≤ 1000000000) :
    Calls Tryz.prog 35 #[mgV a b t u q, .int .i64 (k0 : Int)] w fun e w' => e = .returned (.int .i64 ((k0 + n : Nat) : Int)) ∧ Below w.heap.size w w' := by
  obtain ⟨oa, c, rfl⟩ := hu
  have H := Lib.hid (fun w1 (hb : Below w.heap.size w w1) => heldU _ n k0 w1 (hM.below hb) hn hk)
  have hq : ¬ ((k0 + n : Nat) : Int) < 0 := by omega
  have hq' : ¬ (k0 : Int) + (n : Int) < 0 := by omega
  clear hM
  unfold mgV
  go_enter Tryz.func35, Tryz.ntmps35
  go_wp2_with fail
  refine (H.out _ (by (repeat (first | (with_reducible refine Below.alloc ?_ ?_ _) | (with_reducible refine Below.setCell ?_ ?_ _) | (with_reducible refine Below.drew ?_) | (with_reducible exact Below.refl _ _) | (with_reducible refine Below.trans ?_ (Below.mono (by assumption) ?_)))) <;> (first | omega | (dsimp only; omega) | (simp; done) | (simp; omega) | (simp at *; omega)))).mono ?_
  rintro e w1 ⟨rfl, hb1⟩
  have hs1 := hb1.size
  go_wp2_with fail
  go_ret
  refine ⟨rfl, ?_⟩
  (repeat (first | (with_reducible refine Below.alloc ?_ ?_ _) | (with_reducible refine Below.setCell ?_ ?_ _) | (with_reducible refine Below.drew ?_) | (with_reducible exact Below.refl _ _) | (with_reducible refine Below.trans ?_ (Below.mono (by assumption) ?_)))) <;> (first | omega | (dsimp only; omega) | (simp; done) | (simp; omega) | (simp at *; omega))

end L2
end Go.Proofs.YtncaacljeeinpaaGreatDoor
