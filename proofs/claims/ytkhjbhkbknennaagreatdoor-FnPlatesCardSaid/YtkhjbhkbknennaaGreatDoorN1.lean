/-
  Plates: what is right, on data; the model's and the program's small functions.
-/
import Derived.Test.YtkhjbhkbknennaaGreatDoorGL
namespace Go.Proofs.YtkhjbhkbknennaaGreatDoor
open Go.RowKit
namespace L2
open L1

/-- A plate. -/
structure Pl where
  k : Int
  a : Int
  ak : Int
  an : Int
  vk : Int
  vn : Int
def plV (p : Pl) : Value := .agg #[.int .i64 p.k, .int .i64 p.a, .int .i64 p.ak, .int .i64 p.an, .int .i64 p.vk, .int .i64 p.vn]
/-- Which have what they are called with, and which a worth. -/
def argK (k : Int) : Bool := decide (k = 1) || decide (k = 3) || decide (k = 7)
def valK (k : Int) : Bool := decide (k = 2) || decide (k = 4) || decide (k = 5) || decide (k = 6)
def okPl (p : Pl) : Bool := inB p.k 1 8 && inB p.a 0 59 && okB p.ak p.an && okB p.vk p.vn && (argK p.k || sameB p.ak p.an 0 0) && (valK p.k || sameB p.vk p.vn 0 0)
def samePl (p q : Pl) : Bool := decide (p.k = q.k) && decide (p.a = q.a) && sameB p.ak p.an q.ak q.an && sameB p.vk p.vn q.vk q.vn
theorem samePl_iff {p q : Pl} : samePl p q = true ↔ p = q := by
  obtain ⟨k, a, b, c, d, e⟩ := p
  obtain ⟨k', a', b', c', d', e'⟩ := q
  simp [samePl, sameB]
  constructor
  · rintro ⟨⟨⟨h1, h2⟩, h3, h4⟩, h5, h6⟩; exact ⟨h1, h2, h3, h4, h5, h6⟩
  · rintro ⟨h1, h2, h3, h4, h5, h6⟩; exact ⟨⟨⟨h1, h2⟩, h3, h4⟩, h5, h6⟩
theorem samePl_refl (p : Pl) : samePl p p = true := samePl_iff.2 rfl

/-- A plate with no more than its kind has. -/
def ownPl (p : Pl) : Pl := ⟨p.k, p.a, if argK p.k then p.ak else 0, if argK p.k then p.an else 0, if valK p.k then p.vk else 0, if valK p.k then p.vn else 0⟩
theorem own_same (p : Pl) : samePl p (ownPl p) = ((argK p.k || sameB p.ak p.an 0 0) && (valK p.k || sameB p.vk p.vn 0 0)) := by
  unfold samePl ownPl
  cases argK p.k <;> cases valK p.k <;> simp [sameB]
theorem beq_int (a b : Int) : (a == b) = decide (a = b) := by by_cases h : a = b <;> simp [h]
/-- The kinds there are. -/
theorem kinds {k : Int} (h : inB k 1 8 = true) : k = 1 ∨ k = 2 ∨ k = 3 ∨ k = 4 ∨ k = 5 ∨ k = 6 ∨ k = 7 ∨ k = 8 := by
  simp [inB] at h
  omega

set_option maxRecDepth 100000 in
set_option maxHeartbeats 2000000 in
theorem withItsOwn_at (k a b c d e : Int) (w : World) :
    Calls Tryz.prog 66 #[plV ⟨k, a, b, c, d, e⟩] w fun e' w' => e' = .returned (plV (ownPl ⟨k, a, b, c, d, e⟩)) ∧ Below w.heap.size w w' := by
  have key : k = 1 ∨ k = 2 ∨ k = 3 ∨ k = 4 ∨ k = 5 ∨ k = 6 ∨ k = 7 ∨ (argK k = false ∧ valK k = false ∧ (k == 1) = false ∧ (k == 2) = false ∧ (k == 3) = false ∧ (k == 4) = false ∧ (k == 5) = false ∧ (k == 6) = false ∧ (k == 7) = false) := by
    simp [argK, valK]; omega
  rcases key with rfl | rfl | rfl | rfl | rfl | rfl | rfl | ⟨ha, hv, h1, h2, h3, h4, h5, h6, h7⟩
  · show Calls _ _ _ _ fun e' w' => e' = .returned (plV ⟨1, a, b, c, 0, 0⟩) ∧ _
    unfold plV
    simp only
    go_enter Tryz.func66, Tryz.ntmps66
    go_wp2_with fail
    refine bodyPost_ret (v := .agg #[.int .i64 1, .int .i64 a, .int .i64 b, .int .i64 c, .int .i64 0, .int .i64 0]) (by simp [results, Tryz.results66, go_sem]) rfl ⟨rfl, ?_⟩
    (repeat (first | (with_reducible refine Below.alloc ?_ ?_ _) | (with_reducible refine Below.setCell ?_ ?_ _) | (with_reducible refine Below.drew ?_) | (with_reducible exact Below.refl _ _) | (with_reducible refine Below.trans ?_ (Below.mono (by assumption) ?_)))) <;> (first | omega | (dsimp only; omega) | (simp; done) | (simp; omega) | (simp at *; omega))
  · show Calls _ _ _ _ fun e' w' => e' = .returned (plV ⟨2, a, 0, 0, d, e⟩) ∧ _
    unfold plV
    simp only
    go_enter Tryz.func66, Tryz.ntmps66
    go_wp2_with fail
    refine bodyPost_ret (v := .agg #[.int .i64 2, .int .i64 a, .int .i64 0, .int .i64 0, .int .i64 d, .int .i64 e]) (by simp [results, Tryz.results66, go_sem]) rfl ⟨rfl, ?_⟩
    (repeat (first | (with_reducible refine Below.alloc ?_ ?_ _) | (with_reducible refine Below.setCell ?_ ?_ _) | (with_reducible refine Below.drew ?_) | (with_reducible exact Below.refl _ _) | (with_reducible refine Below.trans ?_ (Below.mono (by assumption) ?_)))) <;> (first | omega | (dsimp only; omega) | (simp; done) | (simp; omega) | (simp at *; omega))
  · show Calls _ _ _ _ fun e' w' => e' = .returned (plV ⟨3, a, b, c, 0, 0⟩) ∧ _
    unfold plV
    simp only
    go_enter Tryz.func66, Tryz.ntmps66
    go_wp2_with fail
    refine bodyPost_ret (v := .agg #[.int .i64 3, .int .i64 a, .int .i64 b, .int .i64 c, .int .i64 0, .int .i64 0]) (by simp [results, Tryz.results66, go_sem]) rfl ⟨rfl, ?_⟩
    (repeat (first | (with_reducible refine Below.alloc ?_ ?_ _) | (with_reducible refine Below.setCell ?_ ?_ _) | (with_reducible refine Below.drew ?_) | (with_reducible exact Below.refl _ _) | (with_reducible refine Below.trans ?_ (Below.mono (by assumption) ?_)))) <;> (first | omega | (dsimp only; omega) | (simp; done) | (simp; omega) | (simp at *; omega))
  · show Calls _ _ _ _ fun e' w' => e' = .returned (plV ⟨4, a, 0, 0, d, e⟩) ∧ _
    unfold plV
    simp only
    go_enter Tryz.func66, Tryz.ntmps66
    go_wp2_with fail
    refine bodyPost_ret (v := .agg #[.int .i64 4, .int .i64 a, .int .i64 0, .int .i64 0, .int .i64 d, .int .i64 e]) (by simp [results, Tryz.results66, go_sem]) rfl ⟨rfl, ?_⟩
    (repeat (first | (with_reducible refine Below.alloc ?_ ?_ _) | (with_reducible refine Below.setCell ?_ ?_ _) | (with_reducible refine Below.drew ?_) | (with_reducible exact Below.refl _ _) | (with_reducible refine Below.trans ?_ (Below.mono (by assumption) ?_)))) <;> (first | omega | (dsimp only; omega) | (simp; done) | (simp; omega) | (simp at *; omega))
  · show Calls _ _ _ _ fun e' w' => e' = .returned (plV ⟨5, a, 0, 0, d, e⟩) ∧ _
    unfold plV
    simp only
    go_enter Tryz.func66, Tryz.ntmps66
    go_wp2_with fail
    refine bodyPost_ret (v := .agg #[.int .i64 5, .int .i64 a, .int .i64 0, .int .i64 0, .int .i64 d, .int .i64 e]) (by simp [results, Tryz.results66, go_sem]) rfl ⟨rfl, ?_⟩
    (repeat (first | (with_reducible refine Below.alloc ?_ ?_ _) | (with_reducible refine Below.setCell ?_ ?_ _) | (with_reducible refine Below.drew ?_) | (with_reducible exact Below.refl _ _) | (with_reducible refine Below.trans ?_ (Below.mono (by assumption) ?_)))) <;> (first | omega | (dsimp only; omega) | (simp; done) | (simp; omega) | (simp at *; omega))
  · show Calls _ _ _ _ fun e' w' => e' = .returned (plV ⟨6, a, 0, 0, d, e⟩) ∧ _
    unfold plV
    simp only
    go_enter Tryz.func66, Tryz.ntmps66
    go_wp2_with fail
    refine bodyPost_ret (v := .agg #[.int .i64 6, .int .i64 a, .int .i64 0, .int .i64 0, .int .i64 d, .int .i64 e]) (by simp [results, Tryz.results66, go_sem]) rfl ⟨rfl, ?_⟩
    (repeat (first | (with_reducible refine Below.alloc ?_ ?_ _) | (with_reducible refine Below.setCell ?_ ?_ _) | (with_reducible refine Below.drew ?_) | (with_reducible exact Below.refl _ _) | (with_reducible refine Below.trans ?_ (Below.mono (by assumption) ?_)))) <;> (first | omega | (dsimp only; omega) | (simp; done) | (simp; omega) | (simp at *; omega))
  · show Calls _ _ _ _ fun e' w' => e' = .returned (plV ⟨7, a, b, c, 0, 0⟩) ∧ _
    unfold plV
    simp only
    go_enter Tryz.func66, Tryz.ntmps66
    go_wp2_with fail
    refine bodyPost_ret (v := .agg #[.int .i64 7, .int .i64 a, .int .i64 b, .int .i64 c, .int .i64 0, .int .i64 0]) (by simp [results, Tryz.results66, go_sem]) rfl ⟨rfl, ?_⟩
    (repeat (first | (with_reducible refine Below.alloc ?_ ?_ _) | (with_reducible refine Below.setCell ?_ ?_ _) | (with_reducible refine Below.drew ?_) | (with_reducible exact Below.refl _ _) | (with_reducible refine Below.trans ?_ (Below.mono (by assumption) ?_)))) <;> (first | omega | (dsimp only; omega) | (simp; done) | (simp; omega) | (simp at *; omega))
  · have e : ownPl ⟨k, a, b, c, d, e⟩ = ⟨k, a, 0, 0, 0, 0⟩ := by unfold ownPl; simp [ha, hv]
    rw [e]
    clear ha hv e
    unfold plV
    simp only
    go_enter Tryz.func66, Tryz.ntmps66
    go_wp2_with fail
    refine bodyPost_ret (v := .agg #[.int .i64 k, .int .i64 a, .int .i64 0, .int .i64 0, .int .i64 0, .int .i64 0]) (by simp [results, Tryz.results66, go_sem]) rfl ⟨rfl, ?_⟩
    (repeat (first | (with_reducible refine Below.alloc ?_ ?_ _) | (with_reducible refine Below.setCell ?_ ?_ _) | (with_reducible refine Below.drew ?_) | (with_reducible exact Below.refl _ _) | (with_reducible refine Below.trans ?_ (Below.mono (by assumption) ?_)))) <;> (first | omega | (dsimp only; omega) | (simp; done) | (simp; omega) | (simp at *; omega))
theorem withItsOwn_any (p : Pl) (w : World) : Calls Tryz.prog 66 #[plV p] w fun e w' => e = .returned (plV (ownPl p)) ∧ Below w.heap.size w w' := by
  obtain ⟨k, a, b, c, d, e⟩ := p
  exact withItsOwn_at k a b c d e w

set_option maxRecDepth 100000 in
set_option maxHeartbeats 2000000 in
theorem specPlateOk_any (p : Pl) (w : World) :
    Calls Tryz.prog 22 #[plV p] w fun e w' => e = .returned (.bool (okPl p)) ∧ Below w.heap.size w w' := by
  obtain ⟨k, a, b, c, d, e⟩ := p
  unfold plV
  simp only
  cases h1 : inB k 1 8
  · go_enter Tryz.func22, Tryz.ntmps22
    go_wp2_with (first | (go_at_call 67; refine (l1In_any _ _ _ _).mono ?_; rintro e w1 ⟨rfl, rfl⟩) | (go_at_call 40; refine (specValueOk_any _ _ _).mono ?_; rintro e w1 ⟨rfl, hb1⟩; have hs1 := hb1.size; obtain ⟨hc1, hf1⟩ := bcell hb1; have hz0 : w.heap.size < w1.heap.size := (by clear hc1 hf1; (try simp at hs1); omega)))
    go_ret
    refine ⟨by simp [okPl, h1], ?_⟩
    (try clear hc1 hf1)
    (repeat (first | (with_reducible refine Below.alloc ?_ ?_ _) | (with_reducible refine Below.setCell ?_ ?_ _) | (with_reducible refine Below.drew ?_) | (with_reducible exact Below.refl _ _) | (with_reducible refine Below.trans ?_ (Below.mono (by assumption) ?_)))) <;> (first | omega | (dsimp only; omega) | (simp; done) | (simp; omega) | (simp at *; omega))
  ·
    cases h2 : inB a 0 59
    · go_enter Tryz.func22, Tryz.ntmps22
      go_wp2_with (first | (go_at_call 67; refine (l1In_any _ _ _ _).mono ?_; rintro e w1 ⟨rfl, rfl⟩) | (go_at_call 40; refine (specValueOk_any _ _ _).mono ?_; rintro e w1 ⟨rfl, hb1⟩; have hs1 := hb1.size; obtain ⟨hc1, hf1⟩ := bcell hb1; have hz0 : w.heap.size < w1.heap.size := (by clear hc1 hf1; (try simp at hs1); omega)))
      go_ret
      refine ⟨by simp [okPl, h1, h2], ?_⟩
      (try clear hc1 hf1)
      (repeat (first | (with_reducible refine Below.alloc ?_ ?_ _) | (with_reducible refine Below.setCell ?_ ?_ _) | (with_reducible refine Below.drew ?_) | (with_reducible exact Below.refl _ _) | (with_reducible refine Below.trans ?_ (Below.mono (by assumption) ?_)))) <;> (first | omega | (dsimp only; omega) | (simp; done) | (simp; omega) | (simp at *; omega))
    ·
      cases h3 : okB b c
      · go_enter Tryz.func22, Tryz.ntmps22
        go_wp2_with (first | (go_at_call 67; refine (l1In_any _ _ _ _).mono ?_; rintro e w1 ⟨rfl, rfl⟩) | (go_at_call 40; refine (specValueOk_any _ _ _).mono ?_; rintro e w1 ⟨rfl, hb1⟩; have hs1 := hb1.size; obtain ⟨hc1, hf1⟩ := bcell hb1; have hz0 : w.heap.size < w1.heap.size := (by clear hc1 hf1; (try simp at hs1); omega)))
        go_ret
        refine ⟨by simp [okPl, h1, h2, h3], ?_⟩
        (try clear hc1 hf1)
        (repeat (first | (with_reducible refine Below.alloc ?_ ?_ _) | (with_reducible refine Below.setCell ?_ ?_ _) | (with_reducible refine Below.drew ?_) | (with_reducible exact Below.refl _ _) | (with_reducible refine Below.trans ?_ (Below.mono (by assumption) ?_)))) <;> (first | omega | (dsimp only; omega) | (simp; done) | (simp; omega) | (simp at *; omega))
      ·
        cases h4 : okB d e
        · go_enter Tryz.func22, Tryz.ntmps22
          go_wp2_with (first | (go_at_call 67; refine (l1In_any _ _ _ _).mono ?_; rintro e w1 ⟨rfl, rfl⟩) | (go_at_call 40; refine (specValueOk_any _ _ _).mono ?_; rintro e w1 ⟨rfl, hb1⟩; have hs1 := hb1.size; obtain ⟨hc1, hf1⟩ := bcell hb1; have hz0 : w.heap.size < w1.heap.size := (by clear hc1 hf1; (try simp at hs1); omega)))
          go_ret
          refine ⟨by simp [okPl, h1, h2, h3, h4], ?_⟩
          (try clear hc1 hf1)
          (repeat (first | (with_reducible refine Below.alloc ?_ ?_ _) | (with_reducible refine Below.setCell ?_ ?_ _) | (with_reducible refine Below.drew ?_) | (with_reducible exact Below.refl _ _) | (with_reducible refine Below.trans ?_ (Below.mono (by assumption) ?_)))) <;> (first | omega | (dsimp only; omega) | (simp; done) | (simp; omega) | (simp at *; omega))
        ·
          have hk := kinds h1
          have HH : Hid (okPl ⟨k, a, b, c, d, e⟩ = ((argK k || (decide (b = 0) && decide (c = 0))) && (valK k || (decide (d = 0) && decide (e = 0))))) := by show okPl ⟨k, a, b, c, d, e⟩ = _; unfold okPl; simp only [h1, h2, h3, h4, sameB, Bool.true_and]
          rcases hk with rfl | rfl | rfl | rfl | rfl | rfl | rfl | rfl
          ·
            go_enter Tryz.func22, Tryz.ntmps22
            go_wp2_with (first | (go_at_call 67; refine (l1In_any _ _ _ _).mono ?_; rintro e w1 ⟨rfl, rfl⟩) | (go_at_call 40; refine (specValueOk_any _ _ _).mono ?_; rintro e w1 ⟨rfl, hb1⟩; have hs1 := hb1.size; obtain ⟨hc1, hf1⟩ := bcell hb1; have hz0 : w.heap.size < w1.heap.size := (by clear hc1 hf1; (try simp at hs1); omega)))
            all_goals
              go_ret
              refine ⟨by rw [HH.out]; simp [argK, valK, *], ?_⟩
              (try clear hc1 hf1)
              (repeat (first | (with_reducible refine Below.alloc ?_ ?_ _) | (with_reducible refine Below.setCell ?_ ?_ _) | (with_reducible refine Below.drew ?_) | (with_reducible exact Below.refl _ _) | (with_reducible refine Below.trans ?_ (Below.mono (by assumption) ?_)))) <;> (first | omega | (dsimp only; omega) | (simp; done) | (simp; omega) | (simp at *; omega))
          ·
            go_enter Tryz.func22, Tryz.ntmps22
            go_wp2_with (first | (go_at_call 67; refine (l1In_any _ _ _ _).mono ?_; rintro e w1 ⟨rfl, rfl⟩) | (go_at_call 40; refine (specValueOk_any _ _ _).mono ?_; rintro e w1 ⟨rfl, hb1⟩; have hs1 := hb1.size; obtain ⟨hc1, hf1⟩ := bcell hb1; have hz0 : w.heap.size < w1.heap.size := (by clear hc1 hf1; (try simp at hs1); omega)))
            all_goals
              go_ret
              refine ⟨by rw [HH.out]; simp [argK, valK, *], ?_⟩
              (try clear hc1 hf1)
              (repeat (first | (with_reducible refine Below.alloc ?_ ?_ _) | (with_reducible refine Below.setCell ?_ ?_ _) | (with_reducible refine Below.drew ?_) | (with_reducible exact Below.refl _ _) | (with_reducible refine Below.trans ?_ (Below.mono (by assumption) ?_)))) <;> (first | omega | (dsimp only; omega) | (simp; done) | (simp; omega) | (simp at *; omega))
          ·
            go_enter Tryz.func22, Tryz.ntmps22
            go_wp2_with (first | (go_at_call 67; refine (l1In_any _ _ _ _).mono ?_; rintro e w1 ⟨rfl, rfl⟩) | (go_at_call 40; refine (specValueOk_any _ _ _).mono ?_; rintro e w1 ⟨rfl, hb1⟩; have hs1 := hb1.size; obtain ⟨hc1, hf1⟩ := bcell hb1; have hz0 : w.heap.size < w1.heap.size := (by clear hc1 hf1; (try simp at hs1); omega)))
            all_goals
              go_ret
              refine ⟨by rw [HH.out]; simp [argK, valK, *], ?_⟩
              (try clear hc1 hf1)
              (repeat (first | (with_reducible refine Below.alloc ?_ ?_ _) | (with_reducible refine Below.setCell ?_ ?_ _) | (with_reducible refine Below.drew ?_) | (with_reducible exact Below.refl _ _) | (with_reducible refine Below.trans ?_ (Below.mono (by assumption) ?_)))) <;> (first | omega | (dsimp only; omega) | (simp; done) | (simp; omega) | (simp at *; omega))
          ·
            go_enter Tryz.func22, Tryz.ntmps22
            go_wp2_with (first | (go_at_call 67; refine (l1In_any _ _ _ _).mono ?_; rintro e w1 ⟨rfl, rfl⟩) | (go_at_call 40; refine (specValueOk_any _ _ _).mono ?_; rintro e w1 ⟨rfl, hb1⟩; have hs1 := hb1.size; obtain ⟨hc1, hf1⟩ := bcell hb1; have hz0 : w.heap.size < w1.heap.size := (by clear hc1 hf1; (try simp at hs1); omega)))
            all_goals
              go_ret
              refine ⟨by rw [HH.out]; simp [argK, valK, *], ?_⟩
              (try clear hc1 hf1)
              (repeat (first | (with_reducible refine Below.alloc ?_ ?_ _) | (with_reducible refine Below.setCell ?_ ?_ _) | (with_reducible refine Below.drew ?_) | (with_reducible exact Below.refl _ _) | (with_reducible refine Below.trans ?_ (Below.mono (by assumption) ?_)))) <;> (first | omega | (dsimp only; omega) | (simp; done) | (simp; omega) | (simp at *; omega))
          ·
            go_enter Tryz.func22, Tryz.ntmps22
            go_wp2_with (first | (go_at_call 67; refine (l1In_any _ _ _ _).mono ?_; rintro e w1 ⟨rfl, rfl⟩) | (go_at_call 40; refine (specValueOk_any _ _ _).mono ?_; rintro e w1 ⟨rfl, hb1⟩; have hs1 := hb1.size; obtain ⟨hc1, hf1⟩ := bcell hb1; have hz0 : w.heap.size < w1.heap.size := (by clear hc1 hf1; (try simp at hs1); omega)))
            all_goals
              go_ret
              refine ⟨by rw [HH.out]; simp [argK, valK, *], ?_⟩
              (try clear hc1 hf1)
              (repeat (first | (with_reducible refine Below.alloc ?_ ?_ _) | (with_reducible refine Below.setCell ?_ ?_ _) | (with_reducible refine Below.drew ?_) | (with_reducible exact Below.refl _ _) | (with_reducible refine Below.trans ?_ (Below.mono (by assumption) ?_)))) <;> (first | omega | (dsimp only; omega) | (simp; done) | (simp; omega) | (simp at *; omega))
          ·
            go_enter Tryz.func22, Tryz.ntmps22
            go_wp2_with (first | (go_at_call 67; refine (l1In_any _ _ _ _).mono ?_; rintro e w1 ⟨rfl, rfl⟩) | (go_at_call 40; refine (specValueOk_any _ _ _).mono ?_; rintro e w1 ⟨rfl, hb1⟩; have hs1 := hb1.size; obtain ⟨hc1, hf1⟩ := bcell hb1; have hz0 : w.heap.size < w1.heap.size := (by clear hc1 hf1; (try simp at hs1); omega)))
            all_goals
              go_ret
              refine ⟨by rw [HH.out]; simp [argK, valK, *], ?_⟩
              (try clear hc1 hf1)
              (repeat (first | (with_reducible refine Below.alloc ?_ ?_ _) | (with_reducible refine Below.setCell ?_ ?_ _) | (with_reducible refine Below.drew ?_) | (with_reducible exact Below.refl _ _) | (with_reducible refine Below.trans ?_ (Below.mono (by assumption) ?_)))) <;> (first | omega | (dsimp only; omega) | (simp; done) | (simp; omega) | (simp at *; omega))
          ·
            go_enter Tryz.func22, Tryz.ntmps22
            go_wp2_with (first | (go_at_call 67; refine (l1In_any _ _ _ _).mono ?_; rintro e w1 ⟨rfl, rfl⟩) | (go_at_call 40; refine (specValueOk_any _ _ _).mono ?_; rintro e w1 ⟨rfl, hb1⟩; have hs1 := hb1.size; obtain ⟨hc1, hf1⟩ := bcell hb1; have hz0 : w.heap.size < w1.heap.size := (by clear hc1 hf1; (try simp at hs1); omega)))
            all_goals
              go_ret
              refine ⟨by rw [HH.out]; simp [argK, valK, *], ?_⟩
              (try clear hc1 hf1)
              (repeat (first | (with_reducible refine Below.alloc ?_ ?_ _) | (with_reducible refine Below.setCell ?_ ?_ _) | (with_reducible refine Below.drew ?_) | (with_reducible exact Below.refl _ _) | (with_reducible refine Below.trans ?_ (Below.mono (by assumption) ?_)))) <;> (first | omega | (dsimp only; omega) | (simp; done) | (simp; omega) | (simp at *; omega))
          ·
            go_enter Tryz.func22, Tryz.ntmps22
            go_wp2_with (first | (go_at_call 67; refine (l1In_any _ _ _ _).mono ?_; rintro e w1 ⟨rfl, rfl⟩) | (go_at_call 40; refine (specValueOk_any _ _ _).mono ?_; rintro e w1 ⟨rfl, hb1⟩; have hs1 := hb1.size; obtain ⟨hc1, hf1⟩ := bcell hb1; have hz0 : w.heap.size < w1.heap.size := (by clear hc1 hf1; (try simp at hs1); omega)))
            all_goals
              go_ret
              refine ⟨by rw [HH.out]; simp [argK, valK, *], ?_⟩
              (try clear hc1 hf1)
              (repeat (first | (with_reducible refine Below.alloc ?_ ?_ _) | (with_reducible refine Below.setCell ?_ ?_ _) | (with_reducible refine Below.drew ?_) | (with_reducible exact Below.refl _ _) | (with_reducible refine Below.trans ?_ (Below.mono (by assumption) ?_)))) <;> (first | omega | (dsimp only; omega) | (simp; done) | (simp; omega) | (simp at *; omega))
-- END

end L2
end Go.Proofs.YtkhjbhkbknennaaGreatDoor
