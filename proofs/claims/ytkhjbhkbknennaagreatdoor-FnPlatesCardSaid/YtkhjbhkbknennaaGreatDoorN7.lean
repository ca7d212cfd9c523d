/-
  The text of a plate: the model and the program (written by wip/gen_n7.py).
-/
import Derived.Test.YtkhjbhkbknennaaGreatDoorN2
import Derived.Test.YtkhjbhkbknennaaGreatDoorGT
import Derived.Test.YtkhjbhkbknennaaGreatDoorShelf2
import Derived.Lib.Join
import Derived.Deep.RegionLaw
import Derived.Deep.RegionHeld3
namespace Go.Proofs.YtkhjbhkbknennaaGreatDoor
open Go.RowKit Go.Sort
namespace L2
open S1 L1

theorem join_takeS {ws : List (List UInt8)} {k : Nat} (hk : k + 1 < ws.length) : Lib.join (ws.take (k + 2)) [47] = Lib.join (ws.take (k + 1)) [47] ++ 47 :: ws.getD (k + 1) [] := by
  cases ws with
  | nil => simp at hk
  | cons x r =>
    have hk' : k < r.length := by simpa using hk
    rw [List.take_succ_cons, List.take_succ_cons, Lib.join_cons, Lib.join_cons, Lib.joinTail_take_succ [47] r k (r.getD k []) (by simp [List.getD, hk'])]
    simp
theorem join_takeS1 {ws : List (List UInt8)} (hk : 0 < ws.length) : Lib.join (ws.take 1) [47] = ws.getD 0 [] := by
  cases ws with
  | nil => simp at hk
  | cons x r => simp [Lib.join_one]

set_option maxRecDepth 100000 in
set_option maxHeartbeats 1000000 in
theorem l1WordsS_any (v : Value) (ss : List ByteArray) (w : World) (hR : Row w v ss) (hn : ss.length ≤ 100) (hS : Small ss) :
    Calls Tryz.prog 62 #[v, .string ⟨#[47]⟩] w fun e w' => e = .returned (.string ⟨(Lib.join (wsOf ss) [47]).toArray⟩) ∧ w = w' := by
  obtain ⟨oa, cap, rfl, h1, h2, h3⟩ := hR
  have hl := ws_len ss
  obtain ⟨n, hnn⟩ : ∃ n, ss.length = n := ⟨_, rfl⟩
  rw [hnn] at h1 h3 hn hl ⊢
  unfold maxLen at h2
  have HN := Lib.hid hnn
  have H3 := Lib.hid h3
  have HS := Lib.hid hS
  have HL := Lib.hid hl
  clear hnn h3 hS hl
  go_enter Tryz.func62, Tryz.ntmps62
  go_wp2
  go_loop [5, 6] (fun s i => ∃ (k : Nat) (b : ByteArray), k ≤ n ∧ i = .int .i64 (k : Int) ∧ s = .string b ∧ Hid (b.toList = Lib.join ((wsOf ss).take k) [47]) ∧ b.size ≤ k * 1048577) (fun _ i => n - (intOf i).toNat)
  case atStart => exact ⟨0, ⟨#[]⟩, Nat.zero_le _, rfl, rfl, Lib.hid (by rw [Lib.toList_data]; rfl), by simp [ByteArray.size]⟩
  case round =>
    obtain ⟨k, b, hk, rfl, rfl, hb, hz⟩ := hrel
    by_cases hlt : k < n
    · obtain ⟨X, off, rfl, hX, hc⟩ := H3.out k hlt
      have hsz := HS.out.2 k (by rw [HN.out]; exact hlt)
      have hws : (wsOf ss).getD k [] = (ss.getD k ByteArray.empty).toList := ws_getD (by rw [HN.out]; exact hlt)
      obtain ⟨s, hs⟩ : ∃ s, ss.getD k ByteArray.empty = s := ⟨_, rfl⟩
      rw [hs] at hc hsz hws
      have HW := Lib.hid hws
      clear hs hws
      have hki : (k : Int) < (n : Int) := by omega
      have hzl : b.size ≤ 200000000 := by omega
      have HZ := Lib.hid hz
      clear hz
      by_cases hpos : (0 : Int) < (k : Int)
      · have hkp : ∃ j, k = j + 1 := ⟨k - 1, by omega⟩
        have HK := Lib.hid hkp
        clear hkp
        go_wp2
        go_round
        case rel =>
          refine ⟨k + 1, _, by omega, by go_num, rfl, ?_, ?_⟩
          · obtain ⟨j, rfl⟩ := HK.out
            show _ = _
            rw [toList_cat, toList_cat, hb.out, join_takeS (by rw [HL.out]; omega), HW.out]
            simp [Lib.toList_data]
          · rw [ByteArray.size_append, ByteArray.size_append]
            have : (⟨#[47]⟩ : ByteArray).size = 1 := rfl
            have := HZ.out
            omega
        case measure => simp [intOf]; omega
      · have hk0 : k = 0 := by omega
        have HK := Lib.hid hk0
        clear hk0
        go_wp2
        go_round
        case rel =>
          refine ⟨k + 1, _, by omega, by go_num, rfl, ?_, ?_⟩
          · have hk0 := HK.out
            subst hk0
            show _ = _
            rw [toList_cat, hb.out, join_takeS1 (by rw [HL.out]; omega), HW.out]
            simp [Lib.join_nil]
          · rw [ByteArray.size_append]; have := HZ.out; omega
        case measure => simp [intOf]; omega
    · have hki : ¬ (k : Int) < (n : Int) := by omega
      go_wp2
      go_ret
      refine ⟨?_, rfl⟩
      have e := hb.out
      rw [List.take_of_length_le (by rw [HL.out]; omega)] at e
      rw [← of_toList e]
      rfl

theorem held_drewc {w : World} {p : Addr} {u : Value} (h : w.cell? p = some u) : w.drew.cell? p = some u := h
theorem held_old {w : World} {b i : Nat} {u : Value} (h : w.cell? ⟨b, i, none⟩ = some u) (hl : b < w.heap.size) (o : Obj) : (w.alloc o).cell? ⟨b, i, none⟩ = some u := (World.cell?_of_block (a := ⟨b, i, none⟩) (Below.heap_alloc w o b hl)).trans h
theorem wpAnyH_turn {P : Program} {md : Region.Mode} {ops : Array Oper} {Q : Exit → Act → World → Prop} {S S' : World → Prop} (h : ∀ w, S' w → S w) :
    ∀ (fuel : Nat) (listed : Array Bool) (a : Act) (w : World), wpAnyH P md ops Q S' fuel listed a w → wpAnyH P md ops Q S fuel listed a w
  | 0, _, _, _, H => H
  | fuel + 1, _, _, _, H => ⟨H.1, fun i hi => wpOp_mono (fun a' w' h' => ⟨h _ h'.1, wpAnyH_turn h fuel _ a' w' h'.2⟩) (H.2 i hi)⟩
theorem held_below {n : Nat} {a w w' : World} (h : Below n a w) (hb : Below w.heap.size w w') (hn : n ≤ w.heap.size) : Below n a w' := h.trans (hb.mono hn)
/-- The words of the kinds. -/
def kindW (k : Int) : List UInt8 := [[], [102, 105, 114, 115, 116], [115, 101, 99, 111, 110, 100], [107, 101, 101, 112], [103, 105, 118, 101], [116, 111, 115, 115], [98, 105, 110, 100], [116, 114, 121], [109, 97, 114, 107]].getD k.toNat []
def kindB (k : Int) : ByteArray := ⟨(kindW k).toArray⟩
/-- The parts of a plate's text. -/
def partsB (p : Pl) : List ByteArray := [kindB p.k, ⟨(Lib.itoa p.a).toArray⟩, ⟨(L1.showB p.ak p.an).toArray⟩, ⟨(L1.showB p.vk p.vn).toArray⟩]
/-- A plate's text. -/
def showP (p : Pl) : List UInt8 := if okPl p then Lib.join (wsOf (partsB p)) [47] else []
theorem okPl_parts {p : Pl} (h : okPl p = true) : (1 ≤ p.k ∧ p.k ≤ 8) ∧ (0 ≤ p.a ∧ p.a ≤ 59) ∧ okB p.ak p.an = true ∧ okB p.vk p.vn = true := by
  unfold okPl at h
  simp only [Bool.and_eq_true] at h
  obtain ⟨⟨⟨⟨⟨h1, h2⟩, h3⟩, h4⟩, _⟩, _⟩ := h
  simp [inB] at h1 h2
  exact ⟨h1, h2, h3, h4⟩
theorem kindW_len (k : Int) : (kindW k).length ≤ 6 := by
  unfold kindW
  match k.toNat with
  | 0 => decide
  | 1 => decide
  | 2 => decide
  | 3 => decide
  | 4 => decide
  | 5 => decide
  | 6 => decide
  | 7 => decide
  | 8 => decide
  | n + 9 => simp
theorem size_mk (l : List UInt8) : (⟨l.toArray⟩ : ByteArray).size = l.length := by simp [ByteArray.size]
theorem showB_short {k n : Int} (h : okB k n = true) : (L1.showB k n).length ≤ 9 := by
  obtain ⟨_, h1, h2⟩ := ok_bd h
  have := itoa_len h1 h2
  unfold L1.showB
  rw [h, if_pos rfl]
  split <;> (simp; omega)
theorem parts_small {p : Pl} (h : okPl p = true) : ∀ i, i < 4 → ((partsB p).getD i ByteArray.empty).size ≤ 20 := by
  obtain ⟨_, ha, hb, hc⟩ := okPl_parts h
  have h1 := kindW_len p.k
  have h2 := itoa_len (n := p.a) (by omega) (by omega)
  have h3 := showB_short hb
  have h4 := showB_short hc
  intro i hi
  match i, hi with
  | 0, _ => show (kindB p.k).size ≤ 20; unfold kindB; rw [size_mk]; omega
  | 1, _ => show (⟨(Lib.itoa p.a).toArray⟩ : ByteArray).size ≤ 20; rw [size_mk]; omega
  | 2, _ => show (⟨(L1.showB p.ak p.an).toArray⟩ : ByteArray).size ≤ 20; rw [size_mk]; omega
  | 3, _ => show (⟨(L1.showB p.vk p.vn).toArray⟩ : ByteArray).size ≤ 20; rw [size_mk]; omega
theorem alloc_cellN (w : World) (arr : Array Value) (T : TypeId) (i : Nat) : (w.alloc (.cells arr T)).cell? ⟨w.heap.size, i, none⟩ = arr[i]? := by
  have h := heap_alloc_new w (.cells arr T)
  simp only [World.cell?, h]
  rfl
theorem row_lit4 (w : World) (a b c d : ByteArray) (T : TypeId) : Row (w.alloc (.cells #[.string a, .string b, .string c, .string d] T)) (.slice (some ⟨w.heap.size, 0, none⟩) 4 4) [a, b, c, d] := by
  refine ⟨_, 4, rfl, Nat.le_refl _, by unfold maxLen; omega, fun i hi => ⟨w.heap.size, 0, rfl, by simp, ?_⟩⟩
  rw [Nat.zero_add, alloc_cellN]
  match i, hi with
  | 0, _ => rfl
  | 1, _ => rfl
  | 2, _ => rfl
  | 3, _ => rfl

/-- What the model's words leave. -/
def Words8 (w : World) (e : Ending) (w' : World) : Prop := e = .returned (.slice (some ⟨w.heap.size, 0, none⟩) 8 8) ∧ (∀ j : Nat, j < 8 → w'.cell? ⟨w.heap.size, j, none⟩ = some (.string (kindB ((j : Int) + 1)))) ∧ Below w.heap.size w w' ∧ w.heap.size < w'.heap.size
set_option maxRecDepth 100000 in
theorem l5Words_any (w : World) : Calls Tryz.prog 61 #[] w (Words8 w) := by
  go_enter Tryz.func61, Tryz.ntmps61
  go_wp2
  go_ret
  refine ⟨rfl, fun j hj => ?_, (Below.refl _ _).alloc (Nat.le_refl _) _, by simp⟩
  rw [alloc_cellN]
  match j, hj with
  | 0, _ => rfl
  | 1, _ => rfl
  | 2, _ => rfl
  | 3, _ => rfl
  | 4, _ => rfl
  | 5, _ => rfl
  | 6, _ => rfl
  | 7, _ => rfl
set_option maxRecDepth 100000 in
set_option maxHeartbeats 4000000 in
theorem specShowPlate_any (p : Pl) (w : World) :
    Calls Tryz.prog 20 #[plV p] w fun e w' => e = .returned (.string ⟨(showP p).toArray⟩) ∧ Below w.heap.size w w' := by
  have HP := Lib.hid (specPlateOk_any p)
  cases hok : okPl p
  · have hs : showP p = [] := by unfold showP; rw [hok]; rfl
    rw [hs]
    rw [hok] at HP
    obtain ⟨k, a, b, c, d, e⟩ := p
    unfold plV at HP ⊢
    clear hs hok
    go_enter Tryz.func20, Tryz.ntmps20
    go_wp2_with fail
    refine (HP.out _).mono ?_
    rintro e1 w1 ⟨rfl, hb1⟩
    go_wp2_with fail
    go_ret
    refine ⟨rfl, ?_⟩
    (repeat (first | (with_reducible refine Below.alloc ?_ ?_ _) | (with_reducible refine Below.setCell ?_ ?_ _) | (with_reducible refine Below.drew ?_) | (with_reducible exact Below.refl _ _) | (with_reducible refine Below.trans ?_ (Below.mono (by assumption) ?_)))) <;> (first | omega | (dsimp only; omega) | (simp; done) | (simp; omega) | (simp at *; omega))
  · have hs : showP p = Lib.join (wsOf (partsB p)) [47] := by unfold showP; rw [hok]; rfl
    obtain ⟨⟨hk1, hk2⟩, ⟨ha1, ha2⟩, hb, hc⟩ := okPl_parts hok
    have hsm := parts_small hok
    have HW := Lib.hid (fun w1 v (hR : Row w1 v (partsB p)) => l1WordsS_any v (partsB p) w1 hR (by show 4 ≤ 100; omega) ⟨by show 4 ≤ 1048576; omega, fun i hi => by have := hsm i hi; omega⟩)
    rw [hs]
    rw [hok] at HP
    obtain ⟨k, a, b, c, d, e⟩ := p
    dsimp only at hk1 hk2 ha1 ha2 hb hc
    have HA := Lib.hid (fun w1 => l1Int_any a (by omega) (by omega) w1)
    have HB := Lib.hid (specShow_any b c)
    have HC := Lib.hid (specShow_any d e)
    obtain ⟨kn, hkn⟩ : ∃ kn : Nat, k = (kn : Int) + 1 := ⟨(k - 1).toNat, by omega⟩
    have hkl : kn < 8 := by omega
    have HK : Hid (kindB ((kn : Int) + 1) = kindB k) := Lib.hid (by rw [hkn])
    have HKN := Lib.hid hkn
    unfold partsB at HW ⊢
    dsimp only at HW ⊢
    unfold plV at HP ⊢
    dsimp only at HP ⊢
    generalize (⟨(Lib.itoa a).toArray⟩ : ByteArray) = sa at HA HW ⊢
    generalize (⟨(L1.showB b c).toArray⟩ : ByteArray) = sb at HB HW ⊢
    generalize (⟨(L1.showB d e).toArray⟩ : ByteArray) = sd at HC HW ⊢
    generalize kindB k = sk at HK HW ⊢
    have zw : IntKind.i64.wrap (k - 1) = k - 1 := by rw [IntKind.wrap_i64]; omega
    have z0 : 0 ≤ k - 1 := by omega
    have z1 : 1 ≤ k := by omega
    have zl : k - 1 < 8 := by omega
    have zt : (k - 1).toNat = kn := by omega
    have ZZ := Lib.hid (And.intro zw (And.intro z0 (And.intro z1 (And.intro zl zt))))
    clear hs hok hsm hb hc hkn zw z0 z1 zl zt hk1 hk2 ha1 ha2
    go_enter Tryz.func20, Tryz.ntmps20
    go_wp2_with fail
    refine (HP.out _).mono ?_
    rintro e1 w1 ⟨rfl, hb1⟩
    have hs1 := hb1.size
    simp at hs1
    have x0 : w1.cell? ⟨w.heap.size, 0, none⟩ = some (.int .i64 k) := (hb1.cell (p := ⟨w.heap.size, 0, none⟩) (by simp)).trans (alloc_cellN _ _ _ 0)
    have x1 : w1.cell? ⟨w.heap.size, 1, none⟩ = some (.int .i64 a) := (hb1.cell (p := ⟨w.heap.size, 1, none⟩) (by simp)).trans (alloc_cellN _ _ _ 1)
    have x2 : w1.cell? ⟨w.heap.size, 2, none⟩ = some (.int .i64 b) := (hb1.cell (p := ⟨w.heap.size, 2, none⟩) (by simp)).trans (alloc_cellN _ _ _ 2)
    have x3 : w1.cell? ⟨w.heap.size, 3, none⟩ = some (.int .i64 c) := (hb1.cell (p := ⟨w.heap.size, 3, none⟩) (by simp)).trans (alloc_cellN _ _ _ 3)
    have x4 : w1.cell? ⟨w.heap.size, 4, none⟩ = some (.int .i64 d) := (hb1.cell (p := ⟨w.heap.size, 4, none⟩) (by simp)).trans (alloc_cellN _ _ _ 4)
    have x5 : w1.cell? ⟨w.heap.size, 5, none⟩ = some (.int .i64 e) := (hb1.cell (p := ⟨w.heap.size, 5, none⟩) (by simp)).trans (alloc_cellN _ _ _ 5)
    have hw1 : w.heap.size < w1.heap.size := by omega
    have HB1 : Hid (Below w.heap.size w w1) := Lib.hid (by (repeat (first | (with_reducible refine Below.alloc ?_ ?_ _) | (with_reducible refine Below.setCell ?_ ?_ _) | (with_reducible refine Below.drew ?_) | (with_reducible exact Below.refl _ _) | (with_reducible refine Below.trans ?_ (Below.mono (by assumption) ?_)))) <;> (first | omega | (dsimp only; omega) | (simp; done) | (simp; omega) | (simp at *; omega)))
    clear hb1 hs1
    go_wp2_with fail
    obtain ⟨zw, z0, z1, zl, zt⟩ := ZZ.out
    have s8 := Below.refl w1.heap.size w1
    have s7 := Nat.le_refl w1.heap.size
    refine wp_region_noPanic ?_
    refine wp_region_held_drew (S := (fun w' => w'.cell? ⟨w.heap.size, 0, none⟩ = some (.int .i64 k) ∧ w'.cell? ⟨w.heap.size, 1, none⟩ = some (.int .i64 a) ∧ w'.cell? ⟨w.heap.size, 2, none⟩ = some (.int .i64 b) ∧ w'.cell? ⟨w.heap.size, 3, none⟩ = some (.int .i64 c) ∧ w'.cell? ⟨w.heap.size, 4, none⟩ = some (.int .i64 d) ∧ w'.cell? ⟨w.heap.size, 5, none⟩ = some (.int .i64 e) ∧ Below w1.heap.size w1 w' ∧ w1.heap.size ≤ w'.heap.size)) (by kernel_rfl) ?_ (fun hHeld => ?_)
    · (((try dsimp only); (repeat' (refine And.intro ?_ ?_)) <;> first | (with_reducible assumption) | omega | ((repeat (first | (with_reducible assumption) | (with_reducible refine held_drewc ?_) | (with_reducible refine held_old ?_ ?_ _) | (with_reducible refine Below.alloc ?_ ?_ _) | (with_reducible refine Below.drew ?_))) <;> first | omega | (simp; done) | (simp; omega)) | (simp; omega)))
    refine wpAnyH_take (i := 1) (v := ?v1) rfl (by kernel_rfl) (by kernel_rfl) (by kernel_rfl) (fun _ _ _ h => h) (Or.inl ⟨by rfl, ?hy1⟩) (by assumption) ?rest1
    case hy1 => (intro w' hSw; (try dsimp only at hSw); go_simp <;> with_reducible rfl)
    (try simp only [Act.put, List.getElem_toArray, List.getElem_cons_succ, List.getElem_cons_zero, List.setIfInBounds_toArray, List.set_cons_zero, List.set_cons_succ])
    refine wpAnyH_take (i := 2) (v := ?v2) rfl (by kernel_rfl) (by kernel_rfl) (by kernel_rfl) (fun _ _ _ h => h) (Or.inl ⟨by rfl, ?hy2⟩) (by assumption) ?rest2
    case hy2 => (intro w' hSw; (try dsimp only at hSw); go_simp <;> with_reducible rfl)
    (try simp only [Act.put, List.getElem_toArray, List.getElem_cons_succ, List.getElem_cons_zero, List.setIfInBounds_toArray, List.set_cons_zero, List.set_cons_succ])
    refine wpAnyH_take (i := 3) (v := ?v3) rfl (by kernel_rfl) (by kernel_rfl) (by kernel_rfl) (fun _ _ _ h => h) (Or.inl ⟨by rfl, ?hy3⟩) (by assumption) ?rest3
    case hy3 => (intro w' hSw; (try dsimp only at hSw); go_simp <;> with_reducible rfl)
    (try simp only [Act.put, List.getElem_toArray, List.getElem_cons_succ, List.getElem_cons_zero, List.setIfInBounds_toArray, List.set_cons_zero, List.set_cons_succ])
    refine wpAnyH_take (i := 6) (v := ?v6) rfl (by kernel_rfl) (by kernel_rfl) (by kernel_rfl) (fun _ _ _ h => h) (Or.inl ⟨by rfl, ?hy6⟩) (by assumption) ?rest6
    case hy6 => (intro w' hSw; (try dsimp only at hSw); go_simp <;> with_reducible rfl)
    (try simp only [Act.put, List.getElem_toArray, List.getElem_cons_succ, List.getElem_cons_zero, List.setIfInBounds_toArray, List.set_cons_zero, List.set_cons_succ])
    refine wpAnyH_take (i := 7) (v := ?v7) rfl (by kernel_rfl) (by kernel_rfl) (by kernel_rfl) (fun _ _ _ h => h) (Or.inl ⟨by rfl, ?hy7⟩) (by assumption) ?rest7
    case hy7 => (intro w' hSw; (try dsimp only at hSw); go_simp <;> with_reducible rfl)
    (try simp only [Act.put, List.getElem_toArray, List.getElem_cons_succ, List.getElem_cons_zero, List.setIfInBounds_toArray, List.set_cons_zero, List.set_cons_succ])
    refine wpAnyH_take (i := 9) (v := ?v9) rfl (by kernel_rfl) (by kernel_rfl) (by kernel_rfl) (fun _ _ _ h => h) (Or.inl ⟨by rfl, ?hy9⟩) (by assumption) ?rest9
    case hy9 => (intro w' hSw; (try dsimp only at hSw); go_simp <;> with_reducible rfl)
    (try simp only [Act.put, List.getElem_toArray, List.getElem_cons_succ, List.getElem_cons_zero, List.setIfInBounds_toArray, List.set_cons_zero, List.set_cons_succ])
    refine wpAnyH_take (i := 10) (v := ?v10) rfl (by kernel_rfl) (by kernel_rfl) (by kernel_rfl) (fun _ _ _ h => h) (Or.inl ⟨by rfl, ?hy10⟩) (by assumption) ?rest10
    case hy10 => (intro w' hSw; (try dsimp only at hSw); go_simp <;> with_reducible rfl)
    (try simp only [Act.put, List.getElem_toArray, List.getElem_cons_succ, List.getElem_cons_zero, List.setIfInBounds_toArray, List.set_cons_zero, List.set_cons_succ])
    refine wpAnyH_take (i := 12) (v := ?v12) rfl (by kernel_rfl) (by kernel_rfl) (by kernel_rfl) (fun _ _ _ h => h) (Or.inl ⟨by rfl, ?hy12⟩) (by assumption) ?rest12
    case hy12 => (intro w' hSw; (try dsimp only at hSw); go_simp <;> with_reducible rfl)
    (try simp only [Act.put, List.getElem_toArray, List.getElem_cons_succ, List.getElem_cons_zero, List.setIfInBounds_toArray, List.set_cons_zero, List.set_cons_succ])
    refine wpAnyH_take (i := 13) (v := ?v13) rfl (by kernel_rfl) (by kernel_rfl) (by kernel_rfl) (fun _ _ _ h => h) (Or.inl ⟨by rfl, ?hy13⟩) (by assumption) ?rest13
    case hy13 => (intro w' hSw; (try dsimp only at hSw); go_simp <;> with_reducible rfl)
    (try simp only [Act.put, List.getElem_toArray, List.getElem_cons_succ, List.getElem_cons_zero, List.setIfInBounds_toArray, List.set_cons_zero, List.set_cons_succ])
    refine wpAnyH_ready (rs := [0]) (by kernel_rfl) (by simp) ?_
    refine AllReadyH.cons rfl (fun K hK => ?_) AllReadyH.nil
    go_simp
    (go_at_call 61; refine (l5Words_any _).mono ?_; rintro e2 w2 ⟨rfl, hc2, hb2, hl2⟩; have kw := hc2 kn hkl; rw [HK.out] at kw; (try simp only [World.size_drew] at kw hl2); have kl := hl2; clear hc2; have hbN : Below w1.heap.size w1 w2 := held_below (by ((repeat (first | (with_reducible assumption) | (with_reducible refine Below.alloc ?_ ?_ _) | (with_reducible refine Below.drew ?_) | (with_reducible exact Below.refl _ _))) <;> first | omega | (simp; done) | (simp; omega))) hb2 (by first | omega | (simp; done) | (simp; omega)); have hsN := hbN.size; have c0 := (hbN.cell (p := ⟨w.heap.size, 0, none⟩) (by (try dsimp only); omega)).trans x0; have c1 := (hbN.cell (p := ⟨w.heap.size, 1, none⟩) (by (try dsimp only); omega)).trans x1; have c2 := (hbN.cell (p := ⟨w.heap.size, 2, none⟩) (by (try dsimp only); omega)).trans x2; have c3 := (hbN.cell (p := ⟨w.heap.size, 3, none⟩) (by (try dsimp only); omega)).trans x3; have c4 := (hbN.cell (p := ⟨w.heap.size, 4, none⟩) (by (try dsimp only); omega)).trans x4; have c5 := (hbN.cell (p := ⟨w.heap.size, 5, none⟩) (by (try dsimp only); omega)).trans x5)
    go_wp2_with fail
    refine hK.out _ _ ?_ (fun hHeld => ?_)
    · (((try dsimp only); (repeat' (refine And.intro ?_ ?_)) <;> first | (with_reducible assumption) | omega | ((repeat (first | (with_reducible assumption) | (with_reducible refine held_drewc ?_) | (with_reducible refine held_old ?_ ?_ _) | (with_reducible refine Below.alloc ?_ ?_ _) | (with_reducible refine Below.drew ?_))) <;> first | omega | (simp; done) | (simp; omega)) | (simp; omega)))
    clear hK K
    (try simp only [Act.put, List.getElem_toArray, List.getElem_cons_succ, List.getElem_cons_zero, List.setIfInBounds_toArray, List.set_cons_zero, List.set_cons_succ])
    refine wpAnyH_turn (S' := (fun w' => w'.cell? ⟨w.heap.size, 0, none⟩ = some (.int .i64 k) ∧ w'.cell? ⟨w.heap.size, 1, none⟩ = some (.int .i64 a) ∧ w'.cell? ⟨w.heap.size, 2, none⟩ = some (.int .i64 b) ∧ w'.cell? ⟨w.heap.size, 3, none⟩ = some (.int .i64 c) ∧ w'.cell? ⟨w.heap.size, 4, none⟩ = some (.int .i64 d) ∧ w'.cell? ⟨w.heap.size, 5, none⟩ = some (.int .i64 e) ∧ Below w1.heap.size w1 w' ∧ w1.heap.size ≤ w'.heap.size ∧ w'.cell? ⟨w1.heap.size, kn, none⟩ = some (.string sk) ∧ w1.heap.size < w'.heap.size)) (fun w' h => ⟨h.1, h.2.1, h.2.2.1, h.2.2.2.1, h.2.2.2.2.1, h.2.2.2.2.2.1, h.2.2.2.2.2.2.1, h.2.2.2.2.2.2.2.1⟩) _ _ _ _ ?_
    have hHeld2 := hHeld
    obtain ⟨-, -, -, -, -, -, q8, q9⟩ := hHeld2
    have hHeld3 : (fun w' => w'.cell? ⟨w.heap.size, 0, none⟩ = some (.int .i64 k) ∧ w'.cell? ⟨w.heap.size, 1, none⟩ = some (.int .i64 a) ∧ w'.cell? ⟨w.heap.size, 2, none⟩ = some (.int .i64 b) ∧ w'.cell? ⟨w.heap.size, 3, none⟩ = some (.int .i64 c) ∧ w'.cell? ⟨w.heap.size, 4, none⟩ = some (.int .i64 d) ∧ w'.cell? ⟨w.heap.size, 5, none⟩ = some (.int .i64 e) ∧ Below w1.heap.size w1 w' ∧ w1.heap.size ≤ w'.heap.size ∧ w'.cell? ⟨w1.heap.size, kn, none⟩ = some (.string sk) ∧ w1.heap.size < w'.heap.size) _ := ⟨hHeld.1, hHeld.2.1, hHeld.2.2.1, hHeld.2.2.2.1, hHeld.2.2.2.2.1, hHeld.2.2.2.2.2.1, q8, q9, kw, kl⟩
    refine wpAnyH_take (i := 4) (v := ?v4) rfl (by kernel_rfl) (by kernel_rfl) (by kernel_rfl) (fun _ _ _ h => h) (Or.inl ⟨by rfl, ?hy4⟩) (by assumption) ?rest4
    case hy4 => (intro w' hSw; (try dsimp only at hSw); go_simp <;> with_reducible rfl)
    (try simp only [Act.put, List.getElem_toArray, List.getElem_cons_succ, List.getElem_cons_zero, List.setIfInBounds_toArray, List.set_cons_zero, List.set_cons_succ])
    refine wpAnyH_take (i := 5) (v := ?v5) rfl (by kernel_rfl) (by kernel_rfl) (by kernel_rfl) (fun _ _ _ h => h) (Or.inl ⟨by rfl, ?hy5⟩) (by assumption) ?rest5
    case hy5 => (intro w' hSw; (try dsimp only at hSw); go_simp <;> with_reducible rfl)
    (try simp only [Act.put, List.getElem_toArray, List.getElem_cons_succ, List.getElem_cons_zero, List.setIfInBounds_toArray, List.set_cons_zero, List.set_cons_succ])
    refine wpAnyH_ready (rs := [8]) (by kernel_rfl) (by simp) ?_
    refine AllReadyH.cons rfl (fun K hK => ?_) AllReadyH.nil
    go_simp
    (go_at_call 63; refine (HA.out _).mono ?_; rintro e3 w3 ⟨rfl, hb3⟩; (try (have kw := (hb3.cell (p := ⟨w1.heap.size, kn, none⟩) (by first | assumption | omega | (simp; omega))).trans kw; have kl := Nat.lt_of_lt_of_le kl hb3.size)); have hbN : Below w1.heap.size w1 w3 := held_below (by ((repeat (first | (with_reducible assumption) | (with_reducible refine Below.alloc ?_ ?_ _) | (with_reducible refine Below.drew ?_) | (with_reducible exact Below.refl _ _))) <;> first | omega | (simp; done) | (simp; omega))) hb3 (by first | omega | (simp; done) | (simp; omega)); have hsN := hbN.size; have c0 := (hbN.cell (p := ⟨w.heap.size, 0, none⟩) (by (try dsimp only); omega)).trans x0; have c1 := (hbN.cell (p := ⟨w.heap.size, 1, none⟩) (by (try dsimp only); omega)).trans x1; have c2 := (hbN.cell (p := ⟨w.heap.size, 2, none⟩) (by (try dsimp only); omega)).trans x2; have c3 := (hbN.cell (p := ⟨w.heap.size, 3, none⟩) (by (try dsimp only); omega)).trans x3; have c4 := (hbN.cell (p := ⟨w.heap.size, 4, none⟩) (by (try dsimp only); omega)).trans x4; have c5 := (hbN.cell (p := ⟨w.heap.size, 5, none⟩) (by (try dsimp only); omega)).trans x5)
    go_wp2_with fail
    refine hK.out _ _ ?_ (fun hHeld => ?_)
    · (((try dsimp only); (repeat' (refine And.intro ?_ ?_)) <;> first | (with_reducible assumption) | omega | ((repeat (first | (with_reducible assumption) | (with_reducible refine held_drewc ?_) | (with_reducible refine held_old ?_ ?_ _) | (with_reducible refine Below.alloc ?_ ?_ _) | (with_reducible refine Below.drew ?_))) <;> first | omega | (simp; done) | (simp; omega)) | (simp; omega)))
    clear hK K
    (try simp only [Act.put, List.getElem_toArray, List.getElem_cons_succ, List.getElem_cons_zero, List.setIfInBounds_toArray, List.set_cons_zero, List.set_cons_succ])
    refine wpAnyH_ready (rs := [11]) (by kernel_rfl) (by simp) ?_
    refine AllReadyH.cons rfl (fun K hK => ?_) AllReadyH.nil
    go_simp
    (go_at_call 64; (with_reducible refine (HB.out _).mono ?_); rintro e4 w4 ⟨rfl, hb4⟩; (try (have kw := (hb4.cell (p := ⟨w1.heap.size, kn, none⟩) (by first | assumption | omega | (simp; omega))).trans kw; have kl := Nat.lt_of_lt_of_le kl hb4.size)); have hbN : Below w1.heap.size w1 w4 := held_below (by ((repeat (first | (with_reducible assumption) | (with_reducible refine Below.alloc ?_ ?_ _) | (with_reducible refine Below.drew ?_) | (with_reducible exact Below.refl _ _))) <;> first | omega | (simp; done) | (simp; omega))) hb4 (by first | omega | (simp; done) | (simp; omega)); have hsN := hbN.size; have c0 := (hbN.cell (p := ⟨w.heap.size, 0, none⟩) (by (try dsimp only); omega)).trans x0; have c1 := (hbN.cell (p := ⟨w.heap.size, 1, none⟩) (by (try dsimp only); omega)).trans x1; have c2 := (hbN.cell (p := ⟨w.heap.size, 2, none⟩) (by (try dsimp only); omega)).trans x2; have c3 := (hbN.cell (p := ⟨w.heap.size, 3, none⟩) (by (try dsimp only); omega)).trans x3; have c4 := (hbN.cell (p := ⟨w.heap.size, 4, none⟩) (by (try dsimp only); omega)).trans x4; have c5 := (hbN.cell (p := ⟨w.heap.size, 5, none⟩) (by (try dsimp only); omega)).trans x5)
    go_wp2_with fail
    refine hK.out _ _ ?_ (fun hHeld => ?_)
    · (((try dsimp only); (repeat' (refine And.intro ?_ ?_)) <;> first | (with_reducible assumption) | omega | ((repeat (first | (with_reducible assumption) | (with_reducible refine held_drewc ?_) | (with_reducible refine held_old ?_ ?_ _) | (with_reducible refine Below.alloc ?_ ?_ _) | (with_reducible refine Below.drew ?_))) <;> first | omega | (simp; done) | (simp; omega)) | (simp; omega)))
    clear hK K
    (try simp only [Act.put, List.getElem_toArray, List.getElem_cons_succ, List.getElem_cons_zero, List.setIfInBounds_toArray, List.set_cons_zero, List.set_cons_succ])
    refine wpAnyH_ready (rs := [14]) (by kernel_rfl) (by simp) ?_
    refine AllReadyH.cons rfl (fun K hK => ?_) AllReadyH.nil
    go_simp
    (go_at_call 64; (with_reducible refine (HC.out _).mono ?_); rintro e5 w5 ⟨rfl, hb5⟩; (try (have kw := (hb5.cell (p := ⟨w1.heap.size, kn, none⟩) (by first | assumption | omega | (simp; omega))).trans kw; have kl := Nat.lt_of_lt_of_le kl hb5.size)); have hbN : Below w1.heap.size w1 w5 := held_below (by ((repeat (first | (with_reducible assumption) | (with_reducible refine Below.alloc ?_ ?_ _) | (with_reducible refine Below.drew ?_) | (with_reducible exact Below.refl _ _))) <;> first | omega | (simp; done) | (simp; omega))) hb5 (by first | omega | (simp; done) | (simp; omega)); have hsN := hbN.size; have c0 := (hbN.cell (p := ⟨w.heap.size, 0, none⟩) (by (try dsimp only); omega)).trans x0; have c1 := (hbN.cell (p := ⟨w.heap.size, 1, none⟩) (by (try dsimp only); omega)).trans x1; have c2 := (hbN.cell (p := ⟨w.heap.size, 2, none⟩) (by (try dsimp only); omega)).trans x2; have c3 := (hbN.cell (p := ⟨w.heap.size, 3, none⟩) (by (try dsimp only); omega)).trans x3; have c4 := (hbN.cell (p := ⟨w.heap.size, 4, none⟩) (by (try dsimp only); omega)).trans x4; have c5 := (hbN.cell (p := ⟨w.heap.size, 5, none⟩) (by (try dsimp only); omega)).trans x5)
    go_wp2_with fail
    refine hK.out _ _ ?_ (fun hHeld => ?_)
    · (((try dsimp only); (repeat' (refine And.intro ?_ ?_)) <;> first | (with_reducible assumption) | omega | ((repeat (first | (with_reducible assumption) | (with_reducible refine held_drewc ?_) | (with_reducible refine held_old ?_ ?_ _) | (with_reducible refine Below.alloc ?_ ?_ _) | (with_reducible refine Below.drew ?_))) <;> first | omega | (simp; done) | (simp; omega)) | (simp; omega)))
    clear hK K
    (try simp only [Act.put, List.getElem_toArray, List.getElem_cons_succ, List.getElem_cons_zero, List.setIfInBounds_toArray, List.set_cons_zero, List.set_cons_succ])
    refine wpAnyH_ready (rs := [15]) (by kernel_rfl) (by simp) ?_
    refine AllReadyH.cons rfl (fun K hK => ?_) AllReadyH.nil
    go_simp
    refine hK.out _ _ ?_ (fun hHeld => ?_)
    · (((try dsimp only); (repeat' (refine And.intro ?_ ?_)) <;> first | (with_reducible assumption) | omega | ((repeat (first | (with_reducible assumption) | (with_reducible refine held_drewc ?_) | (with_reducible refine held_old ?_ ?_ _) | (with_reducible refine Below.alloc ?_ ?_ _) | (with_reducible refine Below.drew ?_))) <;> first | omega | (simp; done) | (simp; omega)) | (simp; omega)))
    clear hK K
    (try simp only [Act.put, List.getElem_toArray, List.getElem_cons_succ, List.getElem_cons_zero, List.setIfInBounds_toArray, List.set_cons_zero, List.set_cons_succ])
    refine wpAnyH_ready (rs := [16]) (by kernel_rfl) (by simp) ?_
    refine AllReadyH.cons rfl (fun K hK => ?_) AllReadyH.nil
    go_simp
    (go_at_call 62; refine (HW.out _ _ ?_).mono ?_; (focus (first | exact row_lit4 _ _ _ _ _ _)); rintro e6 w6 ⟨rfl, rfl⟩)
    go_wp2_with fail
    refine hK.out _ _ ?_ (fun hHeld => ?_)
    · (((try dsimp only); (repeat' (refine And.intro ?_ ?_)) <;> first | (with_reducible assumption) | omega | ((repeat (first | (with_reducible assumption) | (with_reducible refine held_drewc ?_) | (with_reducible refine held_old ?_ ?_ _) | (with_reducible refine Below.alloc ?_ ?_ _) | (with_reducible refine Below.drew ?_))) <;> first | omega | (simp; done) | (simp; omega)) | (simp; omega)))
    clear hK K
    (try simp only [Act.put, List.getElem_toArray, List.getElem_cons_succ, List.getElem_cons_zero, List.setIfInBounds_toArray, List.set_cons_zero, List.set_cons_succ])
    refine wpAnyH_take (i := 17) (v := ?v17) rfl (by kernel_rfl) (by kernel_rfl) (by kernel_rfl) (fun _ _ _ h => h) (Or.inl ⟨by rfl, ?hy17⟩) (by assumption) ?rest17
    case hy17 => (intro w' hSw; (try dsimp only at hSw); go_simp <;> with_reducible rfl)
    (try simp only [Act.put, List.getElem_toArray, List.getElem_cons_succ, List.getElem_cons_zero, List.setIfInBounds_toArray, List.set_cons_zero, List.set_cons_succ])
    refine wpAnyH_done (by kernel_rfl) ?_ _
    refine NoPanic.normal ?_
    all_goals
      go_wp2_with fail
      go_ret
      refine ⟨rfl, ?_⟩
      exact HB1.out.trans (Below.mono (show Below w1.heap.size w1 _ by ((repeat (first | (with_reducible assumption) | (with_reducible refine Below.alloc ?_ ?_ _) | (with_reducible refine Below.drew ?_) | (with_reducible exact Below.refl _ _))) <;> first | omega | (simp; done) | (simp; omega))) HB1.out.size)

end L2
end Go.Proofs.YtkhjbhkbknennaaGreatDoor
