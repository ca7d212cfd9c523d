/-
  The program's text of a plate, and the law on it (written by wip/gen_n8.py).
-/
import Derived.Test.YtkhjbhkbknennaaGreatDoorN7
namespace Go.Proofs.YtkhjbhkbknennaaGreatDoor
open Go.RowKit Go.Sort
namespace L2
open S1 L1

theorem lensS_le {M : Nat} : ∀ {xs : List (List UInt8)}, (∀ x ∈ xs, x.length ≤ M) → Lib.lens xs ≤ xs.length * M
  | [], _ => by simp [Lib.lens]
  | x :: xs, h => by
    have h1 := h x (by simp)
    have h2 := lensS_le (xs := xs) (fun y hy => h y (List.mem_cons_of_mem _ hy))
    simp only [Lib.lens, List.map_cons, List.sum_cons, List.length_cons] at h2 ⊢
    rw [Nat.succ_mul]
    omega
theorem joinS_le {M : Nat} {xs : List (List UInt8)} (h : ∀ x ∈ xs, x.length ≤ M) : (Lib.join xs [47]).length ≤ xs.length * (M + 1) := by
  cases xs with
  | nil => simp [Lib.join_nil]
  | cons x r =>
    have h1 := h x (by simp)
    have h2 := lensS_le (xs := r) (fun y hy => h y (List.mem_cons_of_mem _ hy))
    rw [Lib.join_cons, List.length_append, Lib.joinTail_length]
    simp only [List.length_cons, List.length_nil]
    have e : (r.length + 1) * (M + 1) = r.length * M + r.length + (M + 1) := by rw [Nat.succ_mul, Nat.mul_succ]
    omega
theorem wsS_data (ss : List ByteArray) : ss.map (·.data.toList) = wsOf ss := by
  unfold wsOf
  exact List.map_congr_left fun x _ => (Lib.toList_data x).symm
theorem joinS_any (v : Value) (ss : List ByteArray) (w : World) (hR : Row w v ss) (hpos : 0 < ss.length) (hn : ss.length ≤ 100) (hs : ∀ i, i < ss.length → (ss.getD i ByteArray.empty).size ≤ 1000) :
    Calls Tryz.prog 47 #[v, .string ⟨#[47]⟩] w fun e w' => e = .returned (.string ⟨(Lib.join (wsOf ss) [47]).toArray⟩) ∧ Below w.heap.size w w' := by
  obtain ⟨oa, cap, rfl, h1, h2, h3⟩ := hR
  obtain ⟨b, off, rfl, hb, _⟩ := h3 0 hpos
  have hx : ∀ x ∈ wsOf ss, x.length ≤ 1000 := by
    intro x hx
    unfold wsOf at hx
    obtain ⟨s, hs', rfl⟩ := List.mem_map.1 hx
    obtain ⟨j, hj, rfl⟩ := List.getElem_of_mem hs'
    have := hs j hj
    have e : ss.getD j ByteArray.empty = ss[j] := by simp [List.getD, hj]
    rw [e, size_list] at this
    exact this
  have hjl := joinS_le hx
  rw [ws_len] at hjl
  have h := Tryz.strings_Join b off cap ss ⟨#[47]⟩ w (fun j x hj => by
    obtain ⟨hlt, hx⟩ := List.getElem?_eq_some_iff.1 hj
    obtain ⟨b', off', e, hb', hc⟩ := h3 j hlt
    cases e
    have e2 : ss.getD j ByteArray.empty = x := by simp [List.getD, hj]
    rw [e2] at hc
    exact hc) hb (by omega) h1 (by rw [wsS_data]; show (Lib.join (wsOf ss) [47]).length ≤ _; have : ss.length * (1000 + 1) ≤ 100 * 1001 := Nat.mul_le_mul_right _ hn; omega)
  rw [wsS_data] at h
  exact h
/-- The program's table of words holds them, also later. -/
def PW (w : World) : Prop := ∀ w', Below w.heap.size w w' → ∀ k : Nat, k < 9 → w'.cell? ⟨0, k, none⟩ = some (.string (kindB (k : Int)))
theorem PW.later {w w' : World} (h : PW w) (hb : Below w.heap.size w w') : PW w' := fun w'' hb'' => h w'' (hb.trans (hb''.mono hb.size))
/-- The library's table holds its numbers, also later. -/
def PT (w : World) : Prop := ∀ w', Below w.heap.size w w' → Lib.TabIs Tryz.prog w' "internal/strconv.uint64pow10" .u64 Lib.pow10Tab
theorem PT.later {w w' : World} (h : PT w) (hb : Below w.heap.size w w') : PT w' := fun w'' hb'' => h w'' (hb.trans (hb''.mono hb.size))

set_option maxRecDepth 100000 in
set_option maxHeartbeats 4000000 in
theorem implShowPlate_any (p : Pl) (w : World) (hT : PT w) (hW : PW w) :
    Calls Tryz.prog 15 #[plV p] w fun e w' => e = .returned (.string ⟨(showP p).toArray⟩) ∧ Below w.heap.size w w' := by
  have HP := Lib.hid (implPlateOk_any p)
  cases hok : okPl p
  · have hs : showP p = [] := by unfold showP; rw [hok]; rfl
    rw [hs]
    rw [hok] at HP
    obtain ⟨k, a, b, c, d, e⟩ := p
    unfold plV at HP ⊢
    clear hs hok hT hW
    go_enter Tryz.func15, Tryz.ntmps15
    go_wp2_with fail
    refine (HP.out _).mono ?_
    rintro e1 w1 ⟨rfl, hb1⟩
    go_wp2_with fail
    go_ret
    refine ⟨rfl, ?_⟩
    (repeat (first | (with_reducible refine Below.alloc ?_ ?_ _) | (with_reducible refine Below.setCell ?_ ?_ _) | (with_reducible refine Below.drew ?_) | (with_reducible exact Below.refl _ _) | (with_reducible refine Below.trans ?_ (Below.mono (by assumption) ?_)))) <;> (first | omega | (dsimp only; omega) | (simp; done) | (simp; omega) | (simp at *; omega))
  · have hs : showP p = Lib.join (wsOf (partsB p)) [47] := by unfold showP; rw [hok]; rfl
    obtain ⟨⟨hk1, hk2⟩, ⟨ha1, ha2⟩, hb, hc⟩ := okPl_parts hok
    have hsm := parts_small hok
    have HJ := Lib.hid (fun w1 v (hR : Row w1 v (partsB p)) => joinS_any v (partsB p) w1 hR (by show 0 < 4; omega) (by show 4 ≤ 100; omega) (fun i hi => by have := hsm i hi; omega))
    rw [hs]
    rw [hok] at HP
    obtain ⟨k, a, b, c, d, e⟩ := p
    dsimp only at hk1 hk2 ha1 ha2 hb hc
    have HA := Lib.hid (fun w1 (hb1 : Below w.heap.size w w1) => fmt_any a (by omega) (by omega) w1 (hT w1 hb1))
    have HB := Lib.hid (fun w1 (hb1 : Below w.heap.size w w1) => implShow_any b c w1 (hT w1 hb1))
    have HC := Lib.hid (fun w1 (hb1 : Below w.heap.size w w1) => implShow_any d e w1 (hT w1 hb1))
    have HTB := Lib.hid (fun w1 (hb1 : Below w.heap.size w w1) => hW w1 hb1 k.toNat (by omega))
    rw [show ((k.toNat : Nat) : Int) = k by omega] at HTB
    unfold partsB at HJ ⊢
    dsimp only at HJ ⊢
    unfold plV at HP ⊢
    dsimp only at HP ⊢
    generalize (⟨(Lib.itoa a).toArray⟩ : ByteArray) = sa at HA HJ ⊢
    generalize (⟨(L1.showB b c).toArray⟩ : ByteArray) = sb at HB HJ ⊢
    generalize (⟨(L1.showB d e).toArray⟩ : ByteArray) = sd at HC HJ ⊢
    generalize kindB k = sk at HTB HJ ⊢
    have k0 : 0 ≤ k := by omega
    have k9 : k < 9 := by omega
    clear hs hok hsm hb hc ha1 ha2 hT hW hk1 hk2
    go_enter Tryz.func15, Tryz.ntmps15
    go_wp2_with fail
    refine (HP.out _).mono ?_
    rintro e1 w1 ⟨rfl, hb1⟩
    have hs1 := hb1.size
    simp at hs1
    have y0 := fun i => hb1.cell (p := ⟨w.heap.size, i, none⟩) (by simp)
    have hw1 : w.heap.size < w1.heap.size := by omega
    have HB1 : Hid (Below w.heap.size w w1) := Lib.hid (by clear y0; (repeat (first | (with_reducible refine Below.alloc ?_ ?_ _) | (with_reducible refine Below.setCell ?_ ?_ _) | (with_reducible refine Below.drew ?_) | (with_reducible exact Below.refl _ _) | (with_reducible refine Below.trans ?_ (Below.mono (by assumption) ?_)))) <;> (first | omega | (dsimp only; omega) | (simp; done) | (simp; omega) | (simp at *; omega)))
    have xa : w1.cell? ⟨w.heap.size, 1, none⟩ = some (.int .i64 a) := (y0 1).trans (alloc_cellN _ _ _ 1)
    clear hb1 hs1
    go_wp2_with fail
    refine (HA.out _ HB1.out).mono ?_
    rintro e2 w2 ⟨rfl, hb2⟩
    have hs2 := hb2.size
    have x0 : w2.cell? ⟨w.heap.size, 0, none⟩ = some (.int .i64 k) := (hb2.cell (p := ⟨w.heap.size, 0, none⟩) hw1).trans ((y0 0).trans (alloc_cellN _ _ _ 0))
    have x2 : w2.cell? ⟨w.heap.size, 2, none⟩ = some (.int .i64 b) := (hb2.cell (p := ⟨w.heap.size, 2, none⟩) hw1).trans ((y0 2).trans (alloc_cellN _ _ _ 2))
    have x3 : w2.cell? ⟨w.heap.size, 3, none⟩ = some (.int .i64 c) := (hb2.cell (p := ⟨w.heap.size, 3, none⟩) hw1).trans ((y0 3).trans (alloc_cellN _ _ _ 3))
    have x4 : w2.cell? ⟨w.heap.size, 4, none⟩ = some (.int .i64 d) := (hb2.cell (p := ⟨w.heap.size, 4, none⟩) hw1).trans ((y0 4).trans (alloc_cellN _ _ _ 4))
    have x5 : w2.cell? ⟨w.heap.size, 5, none⟩ = some (.int .i64 e) := (hb2.cell (p := ⟨w.heap.size, 5, none⟩) hw1).trans ((y0 5).trans (alloc_cellN _ _ _ 5))
    have HB2 := Lib.hid (HB1.out.trans (hb2.mono HB1.out.size))
    have xt := HTB.out w2 HB2.out
    have xtl := World.block_lt_of_cell? w2 _ xt
    have hw2 : w.heap.size < w2.heap.size := by omega
    clear y0 xa hb2 hs2 hw1 HB1
    go_wp2_with fail
    have s8 := Below.refl w2.heap.size w2
    have s7 := Nat.le_refl w2.heap.size
    go_region_held3 (fun w' => w'.cell? ⟨w.heap.size, 0, none⟩ = some (.int .i64 k) ∧ w'.cell? ⟨0, k.toNat, none⟩ = some (.string sk) ∧ w'.cell? ⟨w.heap.size, 2, none⟩ = some (.int .i64 b) ∧ w'.cell? ⟨w.heap.size, 3, none⟩ = some (.int .i64 c) ∧ w'.cell? ⟨w.heap.size, 4, none⟩ = some (.int .i64 d) ∧ w'.cell? ⟨w.heap.size, 5, none⟩ = some (.int .i64 e) ∧ Below w2.heap.size w2 w' ∧ w2.heap.size ≤ w'.heap.size)
      (((try dsimp only); (repeat' (refine And.intro ?_ ?_)) <;> first | (with_reducible assumption) | omega | ((repeat (first | (with_reducible assumption) | (with_reducible refine held_drewc ?_) | (with_reducible refine held_old ?_ ?_ _) | (with_reducible refine Below.alloc ?_ ?_ _) | (with_reducible refine Below.drew ?_))) <;> first | omega | (simp; done) | (simp; omega)) | (simp; omega)))
      (first | (go_at_call 48; (with_reducible refine (HB.out _ ?_).mono ?_); (focus (exact HB2.out.trans (Below.mono (show Below w2.heap.size w2 _ by ((repeat (first | (with_reducible assumption) | (with_reducible refine Below.alloc ?_ ?_ _) | (with_reducible refine Below.drew ?_) | (with_reducible exact Below.refl _ _))) <;> first | omega | (simp; done) | (simp; omega))) HB2.out.size))); rintro e4 w4 ⟨rfl, hb4⟩; have hbN : Below w2.heap.size w2 w4 := held_below (by ((repeat (first | (with_reducible assumption) | (with_reducible refine Below.alloc ?_ ?_ _) | (with_reducible refine Below.drew ?_) | (with_reducible exact Below.refl _ _))) <;> first | omega | (simp; done) | (simp; omega))) hb4 (by first | omega | (simp; done) | (simp; omega)); have hsN := hbN.size; have c0 := (hbN.cell (p := ⟨w.heap.size, 0, none⟩) (by (try dsimp only); omega)).trans x0; have ct := (hbN.cell (p := ⟨0, k.toNat, none⟩) (by (try dsimp only); omega)).trans xt; have c2 := (hbN.cell (p := ⟨w.heap.size, 2, none⟩) (by (try dsimp only); omega)).trans x2; have c3 := (hbN.cell (p := ⟨w.heap.size, 3, none⟩) (by (try dsimp only); omega)).trans x3; have c4 := (hbN.cell (p := ⟨w.heap.size, 4, none⟩) (by (try dsimp only); omega)).trans x4; have c5 := (hbN.cell (p := ⟨w.heap.size, 5, none⟩) (by (try dsimp only); omega)).trans x5) | (go_at_call 48; (with_reducible refine (HC.out _ ?_).mono ?_); (focus (exact HB2.out.trans (Below.mono (show Below w2.heap.size w2 _ by ((repeat (first | (with_reducible assumption) | (with_reducible refine Below.alloc ?_ ?_ _) | (with_reducible refine Below.drew ?_) | (with_reducible exact Below.refl _ _))) <;> first | omega | (simp; done) | (simp; omega))) HB2.out.size))); rintro e5 w5 ⟨rfl, hb5⟩; have hbN : Below w2.heap.size w2 w5 := held_below (by ((repeat (first | (with_reducible assumption) | (with_reducible refine Below.alloc ?_ ?_ _) | (with_reducible refine Below.drew ?_) | (with_reducible exact Below.refl _ _))) <;> first | omega | (simp; done) | (simp; omega))) hb5 (by first | omega | (simp; done) | (simp; omega)); have hsN := hbN.size; have c0 := (hbN.cell (p := ⟨w.heap.size, 0, none⟩) (by (try dsimp only); omega)).trans x0; have ct := (hbN.cell (p := ⟨0, k.toNat, none⟩) (by (try dsimp only); omega)).trans xt; have c2 := (hbN.cell (p := ⟨w.heap.size, 2, none⟩) (by (try dsimp only); omega)).trans x2; have c3 := (hbN.cell (p := ⟨w.heap.size, 3, none⟩) (by (try dsimp only); omega)).trans x3; have c4 := (hbN.cell (p := ⟨w.heap.size, 4, none⟩) (by (try dsimp only); omega)).trans x4; have c5 := (hbN.cell (p := ⟨w.heap.size, 5, none⟩) (by (try dsimp only); omega)).trans x5) | (go_at_call 47; refine (HJ.out _ _ ?_).mono ?_; (focus (first | exact row_lit4 _ _ _ _ _ _)); rintro e6 w6 ⟨rfl, hb6⟩; have hbN : Below w2.heap.size w2 w6 := held_below (by ((repeat (first | (with_reducible assumption) | (with_reducible refine Below.alloc ?_ ?_ _) | (with_reducible refine Below.drew ?_) | (with_reducible exact Below.refl _ _))) <;> first | omega | (simp; done) | (simp; omega))) hb6 (by first | omega | (simp; done) | (simp; omega)); have hsN := hbN.size; have c0 := (hbN.cell (p := ⟨w.heap.size, 0, none⟩) (by (try dsimp only); omega)).trans x0; have ct := (hbN.cell (p := ⟨0, k.toNat, none⟩) (by (try dsimp only); omega)).trans xt; have c2 := (hbN.cell (p := ⟨w.heap.size, 2, none⟩) (by (try dsimp only); omega)).trans x2; have c3 := (hbN.cell (p := ⟨w.heap.size, 3, none⟩) (by (try dsimp only); omega)).trans x3; have c4 := (hbN.cell (p := ⟨w.heap.size, 4, none⟩) (by (try dsimp only); omega)).trans x4; have c5 := (hbN.cell (p := ⟨w.heap.size, 5, none⟩) (by (try dsimp only); omega)).trans x5))
    all_goals
      go_wp2_with fail
      go_ret
      refine ⟨rfl, ?_⟩
      exact HB2.out.trans (Below.mono hbN HB2.out.size)

end L2
end Go.Proofs.YtkhjbhkbknennaaGreatDoor
