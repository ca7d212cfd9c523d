/-
  What is right of a pile: the model.
-/
import Derived.Test.YtmbonldiaimcfaaGreatDoorO9
namespace Go.Proofs.YtmbonldiaimcfaaGreatDoor
open Go.RowKit Go.Sort
namespace L2
open S1 L1

set_option maxRecDepth 100000 in
set_option maxHeartbeats 1000000 in
theorem l6Value_any (k n : Int) (cnt : Nat) (w : World) :
    Calls Tryz.prog 85 #[.agg #[.int .i64 k, .int .i64 n], .int .i64 (cnt : Int)] w fun e w' => e = .returned (.bool (tellsB cnt k n)) ∧ Below w.heap.size w w' := by
  have H := Lib.hid (fun w1 => specValueOk_any k n w1)
  cases h : okB k n
  · rw [h] at H
    have e : tellsB cnt k n = false := by unfold tellsB; rw [h]; rfl
    rw [e]
    go_enter Tryz.func85, Tryz.ntmps85
    go_wp2_with fail
    refine (H.out _).mono ?_
    rintro e w1 ⟨rfl, hb1⟩
    have HB1 : Hid (Below w.heap.size w w1) := Lib.hid (by (repeat (first | (with_reducible refine Below.alloc ?_ ?_ _) | (with_reducible refine Below.setCell ?_ ?_ _) | (with_reducible refine Below.drew ?_) | (with_reducible exact Below.refl _ _) | (with_reducible refine Below.trans ?_ (Below.mono (by assumption) ?_)))) <;> (first | omega | (dsimp only; omega) | (simp; done) | (simp; omega) | (simp at *; omega)))
    clear hb1
    go_wp2_with fail
    go_ret
    exact ⟨rfl, HB1.out⟩
  · rw [h] at H
    have e : tellsB cnt k n = (decide (k = 0) || decide (n < (cnt : Int))) := by unfold tellsB; rw [h]; rfl
    rw [e]
    by_cases hk : k = 0
    · subst hk
      go_enter Tryz.func85, Tryz.ntmps85
      go_wp2_with fail
      refine (H.out _).mono ?_
      rintro e w1 ⟨rfl, hb1⟩
      have hs1 := hb1.size
      have HB1 : Hid (Below w.heap.size w w1) := Lib.hid (by (repeat (first | (with_reducible refine Below.alloc ?_ ?_ _) | (with_reducible refine Below.setCell ?_ ?_ _) | (with_reducible refine Below.drew ?_) | (with_reducible exact Below.refl _ _) | (with_reducible refine Below.trans ?_ (Below.mono (by assumption) ?_)))) <;> (first | omega | (dsimp only; omega) | (simp; done) | (simp; omega) | (simp at *; omega)))
      obtain ⟨hc1, hf1⟩ := bcell hb1
      simp at hs1
      have z0 : w.heap.size < w1.heap.size := by omega
      clear hb1
      go_wp2_with fail
      go_ret
      exact ⟨rfl, HB1.out⟩
    · have hk' : (k == 0) = false := by simpa using hk
      by_cases hd : n < (cnt : Int)
      all_goals
        go_enter Tryz.func85, Tryz.ntmps85
        go_wp2_with fail
        refine (H.out _).mono ?_
        rintro e w1 ⟨rfl, hb1⟩
        have hs1 := hb1.size
        have HB1 : Hid (Below w.heap.size w w1) := Lib.hid (by (repeat (first | (with_reducible refine Below.alloc ?_ ?_ _) | (with_reducible refine Below.setCell ?_ ?_ _) | (with_reducible refine Below.drew ?_) | (with_reducible exact Below.refl _ _) | (with_reducible refine Below.trans ?_ (Below.mono (by assumption) ?_)))) <;> (first | omega | (dsimp only; omega) | (simp; done) | (simp; omega) | (simp at *; omega)))
        obtain ⟨hc1, hf1⟩ := bcell hb1
        simp at hs1
        have z0 : w.heap.size < w1.heap.size := by omega
        clear hb1
        go_wp2_with fail
        go_ret
        exact ⟨by simp [hk, hd], HB1.out⟩

-- GEN
theorem lit_row (w : World) (ss : List ByteArray) (T : TypeId) (hn : ss.length ≤ 1000) : Row (w.alloc (.cells (ss.map Value.string).toArray T)) (.slice (some ⟨w.heap.size, 0, none⟩) ss.length ss.length) ss := by
  have hb := heap_alloc_new w (.cells (ss.map Value.string).toArray T)
  refine ⟨_, _, rfl, Nat.le_refl _, by unfold maxLen; omega, fun i hi => ⟨w.heap.size, 0, rfl, by simp, ?_⟩⟩
  unfold World.cell?
  rw [hb]
  simp [hi, List.getD]
theorem beq_turn (a b : List UInt8) : (a == b) = (b == a) := by
  rw [Bool.eq_iff_iff, beq_iff_eq, beq_iff_eq]
  exact eq_comm
theorem any_kind1 (s : ByteArray) : (([(⟨#[97, 100, 100]⟩ : ByteArray), (⟨#[98, 101, 108, 111, 119]⟩ : ByteArray), (⟨#[98, 111, 116, 104]⟩ : ByteArray), (⟨#[115, 97, 121]⟩ : ByteArray), (⟨#[105, 102]⟩ : ByteArray), (⟨#[98, 105, 110, 100]⟩ : ByteArray), (⟨#[116, 104, 114, 111, 119]⟩ : ByteArray), (⟨#[103, 111]⟩ : ByteArray)] : List ByteArray).any fun x => x.toList == s.toList) = kindC 1 (S1.code s.toList) := by
  obtain ⟨t0, t1, t2, t3, t4, t5, t6, t7, t8, t9, t10, t11, t12, t13⟩ := S1.tests s.toList
  have e : ∀ (l : List UInt8), (⟨l.toArray⟩ : ByteArray).toList = l := fun l => by rw [Lib.toList_data]
  simp only [List.any_cons, List.any_nil, show (⟨#[97, 100, 100]⟩ : ByteArray).toList = [97, 100, 100] from e [97, 100, 100], show (⟨#[98, 101, 108, 111, 119]⟩ : ByteArray).toList = [98, 101, 108, 111, 119] from e [98, 101, 108, 111, 119], show (⟨#[98, 111, 116, 104]⟩ : ByteArray).toList = [98, 111, 116, 104] from e [98, 111, 116, 104], show (⟨#[115, 97, 121]⟩ : ByteArray).toList = [115, 97, 121] from e [115, 97, 121], show (⟨#[105, 102]⟩ : ByteArray).toList = [105, 102] from e [105, 102], show (⟨#[98, 105, 110, 100]⟩ : ByteArray).toList = [98, 105, 110, 100] from e [98, 105, 110, 100], show (⟨#[116, 104, 114, 111, 119]⟩ : ByteArray).toList = [116, 104, 114, 111, 119] from e [116, 104, 114, 111, 119], show (⟨#[103, 111]⟩ : ByteArray).toList = [103, 111] from e [103, 111], beq_turn _ s.toList, t6, t7, t8, t2, t13, t10, t3, t12]
  simp [kindC, Bool.or_assoc]
theorem any_kind2 (s : ByteArray) : (([(⟨#[97, 100, 100]⟩ : ByteArray), (⟨#[98, 101, 108, 111, 119]⟩ : ByteArray), (⟨#[98, 111, 116, 104]⟩ : ByteArray), (⟨#[103, 111]⟩ : ByteArray)] : List ByteArray).any fun x => x.toList == s.toList) = kindC 2 (S1.code s.toList) := by
  obtain ⟨t0, t1, t2, t3, t4, t5, t6, t7, t8, t9, t10, t11, t12, t13⟩ := S1.tests s.toList
  have e : ∀ (l : List UInt8), (⟨l.toArray⟩ : ByteArray).toList = l := fun l => by rw [Lib.toList_data]
  simp only [List.any_cons, List.any_nil, show (⟨#[97, 100, 100]⟩ : ByteArray).toList = [97, 100, 100] from e [97, 100, 100], show (⟨#[98, 101, 108, 111, 119]⟩ : ByteArray).toList = [98, 101, 108, 111, 119] from e [98, 101, 108, 111, 119], show (⟨#[98, 111, 116, 104]⟩ : ByteArray).toList = [98, 111, 116, 104] from e [98, 111, 116, 104], show (⟨#[103, 111]⟩ : ByteArray).toList = [103, 111] from e [103, 111], beq_turn _ s.toList, t6, t7, t8, t12]
  simp [kindC, Bool.or_assoc]

set_option maxRecDepth 100000 in
set_option maxHeartbeats 8000000 in
theorem l6Plate_any (v : Value) (ss : List ByteArray) (p : Pl) (cnt : Nat) (w : World) (hR : Row w v ss) (hS : Small ss) (ho : okSum (wsOf ss) = true) :
    Calls Tryz.prog 191 #[v, plV p, .int .i64 (cnt : Int)] w fun e w' => e = .returned (.bool (fitP ss cnt p)) ∧ Below w.heap.size w w' := by
  have HK := fun w1 (hb : Below w.heap.size w w1) => specPlateOk_any p w1
  have HT := fun k n w1 (hb : Below w.heap.size w w1) => l6Value_any k n cnt w1
  have HS := fun w1 (hb : Below w.heap.size w w1) => specIsStart_any v ss p.a w1 (hR.below hb) hS
  rw [startsI_place ho] at HS
  have HH : fitP ss cnt p = (okPl p && placeB ss p.a && tellsB cnt p.ak p.an && tellsB cnt p.vk p.vn && kindC p.k (wordC ss p.a)) := rfl
  obtain ⟨oa, cap, rfl, r1, r2, r3⟩ := hR
  obtain ⟨n, hn⟩ : ∃ n, ss.length = n := ⟨_, rfl⟩
  have hplace : placeB ss p.a = true → ∃ (i : Nat) (b off : Nat) (s : ByteArray), p.a = (i : Int) ∧ i < n ∧ oa = some ⟨b, off, none⟩ ∧ b < w.heap.size ∧ w.cell? ⟨b, off + i, none⟩ = some (.string s) ∧ wordC ss p.a = S1.code s.toList := fun h => by
    unfold placeB at h
    simp only [Bool.and_eq_true, decide_eq_true_eq] at h
    obtain ⟨⟨h0, h1⟩, -⟩ := h
    have hi : p.a.toNat < ss.length := by omega
    obtain ⟨b, off, ho, hb, hc⟩ := r3 p.a.toNat hi
    exact ⟨p.a.toNat, b, off, _, by omega, by omega, ho, hb, hc, rfl⟩
  have hkind : okPl p = true → inB p.k 1 8 = true := fun h => by
    unfold okPl at h
    simp only [Bool.and_eq_true] at h
    exact h.1.1.1.1.1
  obtain ⟨k, a, b, c, d, e⟩ := p
  rw [HH]
  simp only at hplace hkind HK HS ⊢
  rw [hn] at r1 HS ⊢
  unfold maxLen at r2
  unfold plV at HK ⊢
  simp only at HK ⊢
  clear r3 HH hn hS ho
  have HA := HT b c
  have HV := HT d e
  clear HT
  cases h1 : okPl ⟨k, a, b, c, d, e⟩
  · rw [h1] at HK
    repeat (first | rw [Bool.false_and] | rw [Bool.true_and] | rw [Bool.and_true] | rw [Bool.and_false])
    clear hplace hkind h1
    go_enter Tryz.func191, Tryz.ntmps191
    go_wp2_with fail
    refine (HK _ (by (repeat (first | (with_reducible refine Below.alloc ?_ ?_ _) | (with_reducible refine Below.setCell ?_ ?_ _) | (with_reducible refine Below.drew ?_) | (with_reducible exact Below.refl _ _) | (with_reducible refine Below.trans ?_ (Below.mono (by assumption) ?_)))) <;> (first | omega | (dsimp only; omega) | (simp; done) | (simp; omega) | (simp at *; omega)))).mono ?_
    rintro e w1 ⟨rfl, hb1⟩
    have hs1 := hb1.size
    have HB1 : Hid (Below w.heap.size w w1) := Lib.hid (by (repeat (first | (with_reducible refine Below.alloc ?_ ?_ _) | (with_reducible refine Below.setCell ?_ ?_ _) | (with_reducible refine Below.drew ?_) | (with_reducible exact Below.refl _ _) | (with_reducible refine Below.trans ?_ (Below.mono (by assumption) ?_)))) <;> (first | omega | (dsimp only; omega) | (simp; done) | (simp; omega) | (simp at *; omega)))
    obtain ⟨hc1, hf1⟩ := bcell hb1
    simp at hs1
    have z1 : w.heap.size < w1.heap.size := by omega
    clear hb1
    go_wp2_with fail
    go_ret
    exact ⟨rfl, HB1.out⟩
  · rw [h1] at HK
    cases h2 : placeB ss a
    · rw [h2] at HS
      repeat (first | rw [Bool.false_and] | rw [Bool.true_and] | rw [Bool.and_true] | rw [Bool.and_false])
      clear hplace hkind h1 h2
      go_enter Tryz.func191, Tryz.ntmps191
      go_wp2_with fail
      refine (HK _ (by (repeat (first | (with_reducible refine Below.alloc ?_ ?_ _) | (with_reducible refine Below.setCell ?_ ?_ _) | (with_reducible refine Below.drew ?_) | (with_reducible exact Below.refl _ _) | (with_reducible refine Below.trans ?_ (Below.mono (by assumption) ?_)))) <;> (first | omega | (dsimp only; omega) | (simp; done) | (simp; omega) | (simp at *; omega)))).mono ?_
      rintro e w1 ⟨rfl, hb1⟩
      have hs1 := hb1.size
      have HB1 : Hid (Below w.heap.size w w1) := Lib.hid (by (repeat (first | (with_reducible refine Below.alloc ?_ ?_ _) | (with_reducible refine Below.setCell ?_ ?_ _) | (with_reducible refine Below.drew ?_) | (with_reducible exact Below.refl _ _) | (with_reducible refine Below.trans ?_ (Below.mono (by assumption) ?_)))) <;> (first | omega | (dsimp only; omega) | (simp; done) | (simp; omega) | (simp at *; omega)))
      obtain ⟨hc1, hf1⟩ := bcell hb1
      simp at hs1
      have z1 : w.heap.size < w1.heap.size := by omega
      clear hb1
      go_wp2_with fail
      refine (HS _ HB1.out).mono ?_
      rintro e w2 ⟨rfl, hb2⟩
      have hs2 := hb2.size
      have HB2 : Hid (Below w.heap.size w w2) := Lib.hid (HB1.out.trans (hb2.mono HB1.out.size))
      obtain ⟨hc2, hf2⟩ := bcell hb2
      have z2 : w.heap.size < w2.heap.size := by omega
      clear hb2
      go_wp2_with fail
      go_ret
      exact ⟨rfl, HB2.out⟩
    · rw [h2] at HS
      cases h3 : tellsB cnt b c
      · rw [h3] at HA
        repeat (first | rw [Bool.false_and] | rw [Bool.true_and] | rw [Bool.and_true] | rw [Bool.and_false])
        clear hplace hkind h1 h2 h3
        go_enter Tryz.func191, Tryz.ntmps191
        go_wp2_with fail
        refine (HK _ (by (repeat (first | (with_reducible refine Below.alloc ?_ ?_ _) | (with_reducible refine Below.setCell ?_ ?_ _) | (with_reducible refine Below.drew ?_) | (with_reducible exact Below.refl _ _) | (with_reducible refine Below.trans ?_ (Below.mono (by assumption) ?_)))) <;> (first | omega | (dsimp only; omega) | (simp; done) | (simp; omega) | (simp at *; omega)))).mono ?_
        rintro e w1 ⟨rfl, hb1⟩
        have hs1 := hb1.size
        have HB1 : Hid (Below w.heap.size w w1) := Lib.hid (by (repeat (first | (with_reducible refine Below.alloc ?_ ?_ _) | (with_reducible refine Below.setCell ?_ ?_ _) | (with_reducible refine Below.drew ?_) | (with_reducible exact Below.refl _ _) | (with_reducible refine Below.trans ?_ (Below.mono (by assumption) ?_)))) <;> (first | omega | (dsimp only; omega) | (simp; done) | (simp; omega) | (simp at *; omega)))
        obtain ⟨hc1, hf1⟩ := bcell hb1
        simp at hs1
        have z1 : w.heap.size < w1.heap.size := by omega
        clear hb1
        go_wp2_with fail
        refine (HS _ HB1.out).mono ?_
        rintro e w2 ⟨rfl, hb2⟩
        have hs2 := hb2.size
        have HB2 : Hid (Below w.heap.size w w2) := Lib.hid (HB1.out.trans (hb2.mono HB1.out.size))
        obtain ⟨hc2, hf2⟩ := bcell hb2
        have z2 : w.heap.size < w2.heap.size := by omega
        clear hb2
        go_wp2_with fail
        refine (HA _ HB2.out).mono ?_
        rintro e w3 ⟨rfl, hb3⟩
        have hs3 := hb3.size
        have HB3 : Hid (Below w.heap.size w w3) := Lib.hid (HB2.out.trans (hb3.mono HB2.out.size))
        obtain ⟨hc3, hf3⟩ := bcell hb3
        have z3 : w.heap.size < w3.heap.size := by omega
        clear hb3
        go_wp2_with fail
        go_ret
        exact ⟨rfl, HB3.out⟩
      · rw [h3] at HA
        cases h4 : tellsB cnt d e
        · rw [h4] at HV
          repeat (first | rw [Bool.false_and] | rw [Bool.true_and] | rw [Bool.and_true] | rw [Bool.and_false])
          clear hplace hkind h1 h2 h3 h4
          go_enter Tryz.func191, Tryz.ntmps191
          go_wp2_with fail
          refine (HK _ (by (repeat (first | (with_reducible refine Below.alloc ?_ ?_ _) | (with_reducible refine Below.setCell ?_ ?_ _) | (with_reducible refine Below.drew ?_) | (with_reducible exact Below.refl _ _) | (with_reducible refine Below.trans ?_ (Below.mono (by assumption) ?_)))) <;> (first | omega | (dsimp only; omega) | (simp; done) | (simp; omega) | (simp at *; omega)))).mono ?_
          rintro e w1 ⟨rfl, hb1⟩
          have hs1 := hb1.size
          have HB1 : Hid (Below w.heap.size w w1) := Lib.hid (by (repeat (first | (with_reducible refine Below.alloc ?_ ?_ _) | (with_reducible refine Below.setCell ?_ ?_ _) | (with_reducible refine Below.drew ?_) | (with_reducible exact Below.refl _ _) | (with_reducible refine Below.trans ?_ (Below.mono (by assumption) ?_)))) <;> (first | omega | (dsimp only; omega) | (simp; done) | (simp; omega) | (simp at *; omega)))
          obtain ⟨hc1, hf1⟩ := bcell hb1
          simp at hs1
          have z1 : w.heap.size < w1.heap.size := by omega
          clear hb1
          go_wp2_with fail
          refine (HS _ HB1.out).mono ?_
          rintro e w2 ⟨rfl, hb2⟩
          have hs2 := hb2.size
          have HB2 : Hid (Below w.heap.size w w2) := Lib.hid (HB1.out.trans (hb2.mono HB1.out.size))
          obtain ⟨hc2, hf2⟩ := bcell hb2
          have z2 : w.heap.size < w2.heap.size := by omega
          clear hb2
          go_wp2_with fail
          refine (HA _ HB2.out).mono ?_
          rintro e w3 ⟨rfl, hb3⟩
          have hs3 := hb3.size
          have HB3 : Hid (Below w.heap.size w w3) := Lib.hid (HB2.out.trans (hb3.mono HB2.out.size))
          obtain ⟨hc3, hf3⟩ := bcell hb3
          have z3 : w.heap.size < w3.heap.size := by omega
          clear hb3
          go_wp2_with fail
          refine (HV _ HB3.out).mono ?_
          rintro e w4 ⟨rfl, hb4⟩
          have hs4 := hb4.size
          have HB4 : Hid (Below w.heap.size w w4) := Lib.hid (HB3.out.trans (hb4.mono HB3.out.size))
          obtain ⟨hc4, hf4⟩ := bcell hb4
          have z4 : w.heap.size < w4.heap.size := by omega
          clear hb4
          go_wp2_with fail
          go_ret
          exact ⟨rfl, HB4.out⟩
        · rw [h4] at HV
          obtain ⟨i, b0, off, s, rfl, hi, rfl, hb0, hcell, hw⟩ := hplace h2
          rw [hw]
          repeat (first | rw [Bool.false_and] | rw [Bool.true_and] | rw [Bool.and_true] | rw [Bool.and_false])
          have hi0 : (0 : Int) ≤ (i : Int) := by omega
          have hin : (i : Int) < (n : Int) := by omega
          have hk := hkind h1
          have ht := S1.tests s.toList
          clear hplace hkind h1 h2 h3 h4 hw
          obtain ⟨t0, t1, t2, t3, t4, t5, t6, t7, t8, t9, t10, t11, t12, t13⟩ := ht
          have hK1 := any_kind1 s
          have hK2 := any_kind2 s
          generalize S1.code s.toList = wc at *
          rcases kinds hk with rfl | rfl | rfl | rfl | rfl | rfl | rfl | rfl
          · go_enter Tryz.func191, Tryz.ntmps191
            go_wp2_with fail
            refine (HK _ (by (repeat (first | (with_reducible refine Below.alloc ?_ ?_ _) | (with_reducible refine Below.setCell ?_ ?_ _) | (with_reducible refine Below.drew ?_) | (with_reducible exact Below.refl _ _) | (with_reducible refine Below.trans ?_ (Below.mono (by assumption) ?_)))) <;> (first | omega | (dsimp only; omega) | (simp; done) | (simp; omega) | (simp at *; omega)))).mono ?_
            rintro e w1 ⟨rfl, hb1⟩
            have hs1 := hb1.size
            have HB1 : Hid (Below w.heap.size w w1) := Lib.hid (by (repeat (first | (with_reducible refine Below.alloc ?_ ?_ _) | (with_reducible refine Below.setCell ?_ ?_ _) | (with_reducible refine Below.drew ?_) | (with_reducible exact Below.refl _ _) | (with_reducible refine Below.trans ?_ (Below.mono (by assumption) ?_)))) <;> (first | omega | (dsimp only; omega) | (simp; done) | (simp; omega) | (simp at *; omega)))
            obtain ⟨hc1, hf1⟩ := bcell hb1
            simp at hs1
            have z1 : w.heap.size < w1.heap.size := by omega
            clear hb1
            go_wp2_with fail
            refine (HS _ HB1.out).mono ?_
            rintro e w2 ⟨rfl, hb2⟩
            have hs2 := hb2.size
            have HB2 : Hid (Below w.heap.size w w2) := Lib.hid (HB1.out.trans (hb2.mono HB1.out.size))
            obtain ⟨hc2, hf2⟩ := bcell hb2
            have z2 : w.heap.size < w2.heap.size := by omega
            clear hb2
            go_wp2_with fail
            refine (HA _ HB2.out).mono ?_
            rintro e w3 ⟨rfl, hb3⟩
            have hs3 := hb3.size
            have HB3 : Hid (Below w.heap.size w w3) := Lib.hid (HB2.out.trans (hb3.mono HB2.out.size))
            obtain ⟨hc3, hf3⟩ := bcell hb3
            have z3 : w.heap.size < w3.heap.size := by omega
            clear hb3
            go_wp2_with fail
            refine (HV _ HB3.out).mono ?_
            rintro e w4 ⟨rfl, hb4⟩
            have hs4 := hb4.size
            have HB4 : Hid (Below w.heap.size w w4) := Lib.hid (HB3.out.trans (hb4.mono HB3.out.size))
            obtain ⟨hc4, hf4⟩ := bcell hb4
            have z4 : w.heap.size < w4.heap.size := by omega
            have q0 := (HB4.out.cell (p := ⟨b0, off + i, none⟩) hb0).trans hcell
            clear hb4
            go_wp2_with fail
            have hr := lit_row w4 [(⟨#[97, 100, 100]⟩ : ByteArray), (⟨#[98, 101, 108, 111, 119]⟩ : ByteArray), (⟨#[98, 111, 116, 104]⟩ : ByteArray), (⟨#[115, 97, 121]⟩ : ByteArray), (⟨#[105, 102]⟩ : ByteArray), (⟨#[98, 105, 110, 100]⟩ : ByteArray), (⟨#[116, 104, 114, 111, 119]⟩ : ByteArray), (⟨#[103, 111]⟩ : ByteArray)] 9 (by decide)
            refine (l1At_any _ _ s _ hr).mono ?_
            rintro e w5 ⟨r, rfl, hr2, rfl⟩
            rw [hK1] at hr2
            have hr3 : decide (0 ≤ r) = kindC 1 wc := by rw [show decide (0 ≤ r) = !decide (r < 0) by by_cases h : r < 0 <;> simp [h] <;> omega, hr2, Bool.not_not]
            clear hr hr2
            go_wp2_with fail
            go_ret
            exact ⟨by rw [← hr3]; rfl, HB4.out.alloc HB4.out.size _⟩
          · go_enter Tryz.func191, Tryz.ntmps191
            go_wp2_with fail
            refine (HK _ (by (repeat (first | (with_reducible refine Below.alloc ?_ ?_ _) | (with_reducible refine Below.setCell ?_ ?_ _) | (with_reducible refine Below.drew ?_) | (with_reducible exact Below.refl _ _) | (with_reducible refine Below.trans ?_ (Below.mono (by assumption) ?_)))) <;> (first | omega | (dsimp only; omega) | (simp; done) | (simp; omega) | (simp at *; omega)))).mono ?_
            rintro e w1 ⟨rfl, hb1⟩
            have hs1 := hb1.size
            have HB1 : Hid (Below w.heap.size w w1) := Lib.hid (by (repeat (first | (with_reducible refine Below.alloc ?_ ?_ _) | (with_reducible refine Below.setCell ?_ ?_ _) | (with_reducible refine Below.drew ?_) | (with_reducible exact Below.refl _ _) | (with_reducible refine Below.trans ?_ (Below.mono (by assumption) ?_)))) <;> (first | omega | (dsimp only; omega) | (simp; done) | (simp; omega) | (simp at *; omega)))
            obtain ⟨hc1, hf1⟩ := bcell hb1
            simp at hs1
            have z1 : w.heap.size < w1.heap.size := by omega
            clear hb1
            go_wp2_with fail
            refine (HS _ HB1.out).mono ?_
            rintro e w2 ⟨rfl, hb2⟩
            have hs2 := hb2.size
            have HB2 : Hid (Below w.heap.size w w2) := Lib.hid (HB1.out.trans (hb2.mono HB1.out.size))
            obtain ⟨hc2, hf2⟩ := bcell hb2
            have z2 : w.heap.size < w2.heap.size := by omega
            clear hb2
            go_wp2_with fail
            refine (HA _ HB2.out).mono ?_
            rintro e w3 ⟨rfl, hb3⟩
            have hs3 := hb3.size
            have HB3 : Hid (Below w.heap.size w w3) := Lib.hid (HB2.out.trans (hb3.mono HB2.out.size))
            obtain ⟨hc3, hf3⟩ := bcell hb3
            have z3 : w.heap.size < w3.heap.size := by omega
            clear hb3
            go_wp2_with fail
            refine (HV _ HB3.out).mono ?_
            rintro e w4 ⟨rfl, hb4⟩
            have hs4 := hb4.size
            have HB4 : Hid (Below w.heap.size w w4) := Lib.hid (HB3.out.trans (hb4.mono HB3.out.size))
            obtain ⟨hc4, hf4⟩ := bcell hb4
            have z4 : w.heap.size < w4.heap.size := by omega
            have q0 := (HB4.out.cell (p := ⟨b0, off + i, none⟩) hb0).trans hcell
            clear hb4
            go_wp2_with fail
            have hr := lit_row w4 [(⟨#[97, 100, 100]⟩ : ByteArray), (⟨#[98, 101, 108, 111, 119]⟩ : ByteArray), (⟨#[98, 111, 116, 104]⟩ : ByteArray), (⟨#[103, 111]⟩ : ByteArray)] 9 (by decide)
            refine (l1At_any _ _ s _ hr).mono ?_
            rintro e w5 ⟨r, rfl, hr2, rfl⟩
            rw [hK2] at hr2
            have hr3 : decide (0 ≤ r) = kindC 2 wc := by rw [show decide (0 ≤ r) = !decide (r < 0) by by_cases h : r < 0 <;> simp [h] <;> omega, hr2, Bool.not_not]
            clear hr hr2
            go_wp2_with fail
            go_ret
            exact ⟨by rw [← hr3]; rfl, HB4.out.alloc HB4.out.size _⟩
          · rw [show kindC _ wc = decide (wc = 9) from rfl]
            cases hx : decide (wc = 9)
            all_goals
              rw [hx] at t9
              go_enter Tryz.func191, Tryz.ntmps191
              go_wp2_with fail
              refine (HK _ (by (repeat (first | (with_reducible refine Below.alloc ?_ ?_ _) | (with_reducible refine Below.setCell ?_ ?_ _) | (with_reducible refine Below.drew ?_) | (with_reducible exact Below.refl _ _) | (with_reducible refine Below.trans ?_ (Below.mono (by assumption) ?_)))) <;> (first | omega | (dsimp only; omega) | (simp; done) | (simp; omega) | (simp at *; omega)))).mono ?_
              rintro e w1 ⟨rfl, hb1⟩
              have hs1 := hb1.size
              have HB1 : Hid (Below w.heap.size w w1) := Lib.hid (by (repeat (first | (with_reducible refine Below.alloc ?_ ?_ _) | (with_reducible refine Below.setCell ?_ ?_ _) | (with_reducible refine Below.drew ?_) | (with_reducible exact Below.refl _ _) | (with_reducible refine Below.trans ?_ (Below.mono (by assumption) ?_)))) <;> (first | omega | (dsimp only; omega) | (simp; done) | (simp; omega) | (simp at *; omega)))
              obtain ⟨hc1, hf1⟩ := bcell hb1
              simp at hs1
              have z1 : w.heap.size < w1.heap.size := by omega
              clear hb1
              go_wp2_with fail
              refine (HS _ HB1.out).mono ?_
              rintro e w2 ⟨rfl, hb2⟩
              have hs2 := hb2.size
              have HB2 : Hid (Below w.heap.size w w2) := Lib.hid (HB1.out.trans (hb2.mono HB1.out.size))
              obtain ⟨hc2, hf2⟩ := bcell hb2
              have z2 : w.heap.size < w2.heap.size := by omega
              clear hb2
              go_wp2_with fail
              refine (HA _ HB2.out).mono ?_
              rintro e w3 ⟨rfl, hb3⟩
              have hs3 := hb3.size
              have HB3 : Hid (Below w.heap.size w w3) := Lib.hid (HB2.out.trans (hb3.mono HB2.out.size))
              obtain ⟨hc3, hf3⟩ := bcell hb3
              have z3 : w.heap.size < w3.heap.size := by omega
              clear hb3
              go_wp2_with fail
              refine (HV _ HB3.out).mono ?_
              rintro e w4 ⟨rfl, hb4⟩
              have hs4 := hb4.size
              have HB4 : Hid (Below w.heap.size w w4) := Lib.hid (HB3.out.trans (hb4.mono HB3.out.size))
              obtain ⟨hc4, hf4⟩ := bcell hb4
              have z4 : w.heap.size < w4.heap.size := by omega
              have q0 := (HB4.out.cell (p := ⟨b0, off + i, none⟩) hb0).trans hcell
              clear hb4
              go_wp2_with fail
              go_ret
              exact ⟨rfl, HB4.out⟩
          · rw [show kindC _ wc = decide (wc = 9) from rfl]
            cases hx : decide (wc = 9)
            all_goals
              rw [hx] at t9
              go_enter Tryz.func191, Tryz.ntmps191
              go_wp2_with fail
              refine (HK _ (by (repeat (first | (with_reducible refine Below.alloc ?_ ?_ _) | (with_reducible refine Below.setCell ?_ ?_ _) | (with_reducible refine Below.drew ?_) | (with_reducible exact Below.refl _ _) | (with_reducible refine Below.trans ?_ (Below.mono (by assumption) ?_)))) <;> (first | omega | (dsimp only; omega) | (simp; done) | (simp; omega) | (simp at *; omega)))).mono ?_
              rintro e w1 ⟨rfl, hb1⟩
              have hs1 := hb1.size
              have HB1 : Hid (Below w.heap.size w w1) := Lib.hid (by (repeat (first | (with_reducible refine Below.alloc ?_ ?_ _) | (with_reducible refine Below.setCell ?_ ?_ _) | (with_reducible refine Below.drew ?_) | (with_reducible exact Below.refl _ _) | (with_reducible refine Below.trans ?_ (Below.mono (by assumption) ?_)))) <;> (first | omega | (dsimp only; omega) | (simp; done) | (simp; omega) | (simp at *; omega)))
              obtain ⟨hc1, hf1⟩ := bcell hb1
              simp at hs1
              have z1 : w.heap.size < w1.heap.size := by omega
              clear hb1
              go_wp2_with fail
              refine (HS _ HB1.out).mono ?_
              rintro e w2 ⟨rfl, hb2⟩
              have hs2 := hb2.size
              have HB2 : Hid (Below w.heap.size w w2) := Lib.hid (HB1.out.trans (hb2.mono HB1.out.size))
              obtain ⟨hc2, hf2⟩ := bcell hb2
              have z2 : w.heap.size < w2.heap.size := by omega
              clear hb2
              go_wp2_with fail
              refine (HA _ HB2.out).mono ?_
              rintro e w3 ⟨rfl, hb3⟩
              have hs3 := hb3.size
              have HB3 : Hid (Below w.heap.size w w3) := Lib.hid (HB2.out.trans (hb3.mono HB2.out.size))
              obtain ⟨hc3, hf3⟩ := bcell hb3
              have z3 : w.heap.size < w3.heap.size := by omega
              clear hb3
              go_wp2_with fail
              refine (HV _ HB3.out).mono ?_
              rintro e w4 ⟨rfl, hb4⟩
              have hs4 := hb4.size
              have HB4 : Hid (Below w.heap.size w w4) := Lib.hid (HB3.out.trans (hb4.mono HB3.out.size))
              obtain ⟨hc4, hf4⟩ := bcell hb4
              have z4 : w.heap.size < w4.heap.size := by omega
              have q0 := (HB4.out.cell (p := ⟨b0, off + i, none⟩) hb0).trans hcell
              clear hb4
              go_wp2_with fail
              go_ret
              exact ⟨rfl, HB4.out⟩
          · rw [show kindC _ wc = decide (wc = 9) from rfl]
            cases hx : decide (wc = 9)
            all_goals
              rw [hx] at t9
              go_enter Tryz.func191, Tryz.ntmps191
              go_wp2_with fail
              refine (HK _ (by (repeat (first | (with_reducible refine Below.alloc ?_ ?_ _) | (with_reducible refine Below.setCell ?_ ?_ _) | (with_reducible refine Below.drew ?_) | (with_reducible exact Below.refl _ _) | (with_reducible refine Below.trans ?_ (Below.mono (by assumption) ?_)))) <;> (first | omega | (dsimp only; omega) | (simp; done) | (simp; omega) | (simp at *; omega)))).mono ?_
              rintro e w1 ⟨rfl, hb1⟩
              have hs1 := hb1.size
              have HB1 : Hid (Below w.heap.size w w1) := Lib.hid (by (repeat (first | (with_reducible refine Below.alloc ?_ ?_ _) | (with_reducible refine Below.setCell ?_ ?_ _) | (with_reducible refine Below.drew ?_) | (with_reducible exact Below.refl _ _) | (with_reducible refine Below.trans ?_ (Below.mono (by assumption) ?_)))) <;> (first | omega | (dsimp only; omega) | (simp; done) | (simp; omega) | (simp at *; omega)))
              obtain ⟨hc1, hf1⟩ := bcell hb1
              simp at hs1
              have z1 : w.heap.size < w1.heap.size := by omega
              clear hb1
              go_wp2_with fail
              refine (HS _ HB1.out).mono ?_
              rintro e w2 ⟨rfl, hb2⟩
              have hs2 := hb2.size
              have HB2 : Hid (Below w.heap.size w w2) := Lib.hid (HB1.out.trans (hb2.mono HB1.out.size))
              obtain ⟨hc2, hf2⟩ := bcell hb2
              have z2 : w.heap.size < w2.heap.size := by omega
              clear hb2
              go_wp2_with fail
              refine (HA _ HB2.out).mono ?_
              rintro e w3 ⟨rfl, hb3⟩
              have hs3 := hb3.size
              have HB3 : Hid (Below w.heap.size w w3) := Lib.hid (HB2.out.trans (hb3.mono HB2.out.size))
              obtain ⟨hc3, hf3⟩ := bcell hb3
              have z3 : w.heap.size < w3.heap.size := by omega
              clear hb3
              go_wp2_with fail
              refine (HV _ HB3.out).mono ?_
              rintro e w4 ⟨rfl, hb4⟩
              have hs4 := hb4.size
              have HB4 : Hid (Below w.heap.size w w4) := Lib.hid (HB3.out.trans (hb4.mono HB3.out.size))
              obtain ⟨hc4, hf4⟩ := bcell hb4
              have z4 : w.heap.size < w4.heap.size := by omega
              have q0 := (HB4.out.cell (p := ⟨b0, off + i, none⟩) hb0).trans hcell
              clear hb4
              go_wp2_with fail
              go_ret
              exact ⟨rfl, HB4.out⟩
          · rw [show kindC _ wc = decide (wc = 10) from rfl]
            cases hx : decide (wc = 10)
            all_goals
              rw [hx] at t10
              go_enter Tryz.func191, Tryz.ntmps191
              go_wp2_with fail
              refine (HK _ (by (repeat (first | (with_reducible refine Below.alloc ?_ ?_ _) | (with_reducible refine Below.setCell ?_ ?_ _) | (with_reducible refine Below.drew ?_) | (with_reducible exact Below.refl _ _) | (with_reducible refine Below.trans ?_ (Below.mono (by assumption) ?_)))) <;> (first | omega | (dsimp only; omega) | (simp; done) | (simp; omega) | (simp at *; omega)))).mono ?_
              rintro e w1 ⟨rfl, hb1⟩
              have hs1 := hb1.size
              have HB1 : Hid (Below w.heap.size w w1) := Lib.hid (by (repeat (first | (with_reducible refine Below.alloc ?_ ?_ _) | (with_reducible refine Below.setCell ?_ ?_ _) | (with_reducible refine Below.drew ?_) | (with_reducible exact Below.refl _ _) | (with_reducible refine Below.trans ?_ (Below.mono (by assumption) ?_)))) <;> (first | omega | (dsimp only; omega) | (simp; done) | (simp; omega) | (simp at *; omega)))
              obtain ⟨hc1, hf1⟩ := bcell hb1
              simp at hs1
              have z1 : w.heap.size < w1.heap.size := by omega
              clear hb1
              go_wp2_with fail
              refine (HS _ HB1.out).mono ?_
              rintro e w2 ⟨rfl, hb2⟩
              have hs2 := hb2.size
              have HB2 : Hid (Below w.heap.size w w2) := Lib.hid (HB1.out.trans (hb2.mono HB1.out.size))
              obtain ⟨hc2, hf2⟩ := bcell hb2
              have z2 : w.heap.size < w2.heap.size := by omega
              clear hb2
              go_wp2_with fail
              refine (HA _ HB2.out).mono ?_
              rintro e w3 ⟨rfl, hb3⟩
              have hs3 := hb3.size
              have HB3 : Hid (Below w.heap.size w w3) := Lib.hid (HB2.out.trans (hb3.mono HB2.out.size))
              obtain ⟨hc3, hf3⟩ := bcell hb3
              have z3 : w.heap.size < w3.heap.size := by omega
              clear hb3
              go_wp2_with fail
              refine (HV _ HB3.out).mono ?_
              rintro e w4 ⟨rfl, hb4⟩
              have hs4 := hb4.size
              have HB4 : Hid (Below w.heap.size w w4) := Lib.hid (HB3.out.trans (hb4.mono HB3.out.size))
              obtain ⟨hc4, hf4⟩ := bcell hb4
              have z4 : w.heap.size < w4.heap.size := by omega
              have q0 := (HB4.out.cell (p := ⟨b0, off + i, none⟩) hb0).trans hcell
              clear hb4
              go_wp2_with fail
              go_ret
              exact ⟨rfl, HB4.out⟩
          · rw [show kindC _ wc = decide (wc = 11) from rfl]
            cases hx : decide (wc = 11)
            all_goals
              rw [hx] at t11
              go_enter Tryz.func191, Tryz.ntmps191
              go_wp2_with fail
              refine (HK _ (by (repeat (first | (with_reducible refine Below.alloc ?_ ?_ _) | (with_reducible refine Below.setCell ?_ ?_ _) | (with_reducible refine Below.drew ?_) | (with_reducible exact Below.refl _ _) | (with_reducible refine Below.trans ?_ (Below.mono (by assumption) ?_)))) <;> (first | omega | (dsimp only; omega) | (simp; done) | (simp; omega) | (simp at *; omega)))).mono ?_
              rintro e w1 ⟨rfl, hb1⟩
              have hs1 := hb1.size
              have HB1 : Hid (Below w.heap.size w w1) := Lib.hid (by (repeat (first | (with_reducible refine Below.alloc ?_ ?_ _) | (with_reducible refine Below.setCell ?_ ?_ _) | (with_reducible refine Below.drew ?_) | (with_reducible exact Below.refl _ _) | (with_reducible refine Below.trans ?_ (Below.mono (by assumption) ?_)))) <;> (first | omega | (dsimp only; omega) | (simp; done) | (simp; omega) | (simp at *; omega)))
              obtain ⟨hc1, hf1⟩ := bcell hb1
              simp at hs1
              have z1 : w.heap.size < w1.heap.size := by omega
              clear hb1
              go_wp2_with fail
              refine (HS _ HB1.out).mono ?_
              rintro e w2 ⟨rfl, hb2⟩
              have hs2 := hb2.size
              have HB2 : Hid (Below w.heap.size w w2) := Lib.hid (HB1.out.trans (hb2.mono HB1.out.size))
              obtain ⟨hc2, hf2⟩ := bcell hb2
              have z2 : w.heap.size < w2.heap.size := by omega
              clear hb2
              go_wp2_with fail
              refine (HA _ HB2.out).mono ?_
              rintro e w3 ⟨rfl, hb3⟩
              have hs3 := hb3.size
              have HB3 : Hid (Below w.heap.size w w3) := Lib.hid (HB2.out.trans (hb3.mono HB2.out.size))
              obtain ⟨hc3, hf3⟩ := bcell hb3
              have z3 : w.heap.size < w3.heap.size := by omega
              clear hb3
              go_wp2_with fail
              refine (HV _ HB3.out).mono ?_
              rintro e w4 ⟨rfl, hb4⟩
              have hs4 := hb4.size
              have HB4 : Hid (Below w.heap.size w w4) := Lib.hid (HB3.out.trans (hb4.mono HB3.out.size))
              obtain ⟨hc4, hf4⟩ := bcell hb4
              have z4 : w.heap.size < w4.heap.size := by omega
              have q0 := (HB4.out.cell (p := ⟨b0, off + i, none⟩) hb0).trans hcell
              clear hb4
              go_wp2_with fail
              go_ret
              exact ⟨rfl, HB4.out⟩
          · rw [show kindC _ wc = decide (wc = 4) from rfl]
            cases hx : decide (wc = 4)
            all_goals
              rw [hx] at t4
              go_enter Tryz.func191, Tryz.ntmps191
              go_wp2_with fail
              refine (HK _ (by (repeat (first | (with_reducible refine Below.alloc ?_ ?_ _) | (with_reducible refine Below.setCell ?_ ?_ _) | (with_reducible refine Below.drew ?_) | (with_reducible exact Below.refl _ _) | (with_reducible refine Below.trans ?_ (Below.mono (by assumption) ?_)))) <;> (first | omega | (dsimp only; omega) | (simp; done) | (simp; omega) | (simp at *; omega)))).mono ?_
              rintro e w1 ⟨rfl, hb1⟩
              have hs1 := hb1.size
              have HB1 : Hid (Below w.heap.size w w1) := Lib.hid (by (repeat (first | (with_reducible refine Below.alloc ?_ ?_ _) | (with_reducible refine Below.setCell ?_ ?_ _) | (with_reducible refine Below.drew ?_) | (with_reducible exact Below.refl _ _) | (with_reducible refine Below.trans ?_ (Below.mono (by assumption) ?_)))) <;> (first | omega | (dsimp only; omega) | (simp; done) | (simp; omega) | (simp at *; omega)))
              obtain ⟨hc1, hf1⟩ := bcell hb1
              simp at hs1
              have z1 : w.heap.size < w1.heap.size := by omega
              clear hb1
              go_wp2_with fail
              refine (HS _ HB1.out).mono ?_
              rintro e w2 ⟨rfl, hb2⟩
              have hs2 := hb2.size
              have HB2 : Hid (Below w.heap.size w w2) := Lib.hid (HB1.out.trans (hb2.mono HB1.out.size))
              obtain ⟨hc2, hf2⟩ := bcell hb2
              have z2 : w.heap.size < w2.heap.size := by omega
              clear hb2
              go_wp2_with fail
              refine (HA _ HB2.out).mono ?_
              rintro e w3 ⟨rfl, hb3⟩
              have hs3 := hb3.size
              have HB3 : Hid (Below w.heap.size w w3) := Lib.hid (HB2.out.trans (hb3.mono HB2.out.size))
              obtain ⟨hc3, hf3⟩ := bcell hb3
              have z3 : w.heap.size < w3.heap.size := by omega
              clear hb3
              go_wp2_with fail
              refine (HV _ HB3.out).mono ?_
              rintro e w4 ⟨rfl, hb4⟩
              have hs4 := hb4.size
              have HB4 : Hid (Below w.heap.size w w4) := Lib.hid (HB3.out.trans (hb4.mono HB3.out.size))
              obtain ⟨hc4, hf4⟩ := bcell hb4
              have z4 : w.heap.size < w4.heap.size := by omega
              have q0 := (HB4.out.cell (p := ⟨b0, off + i, none⟩) hb0).trans hcell
              clear hb4
              go_wp2_with fail
              go_ret
              exact ⟨rfl, HB4.out⟩

end L2
end Go.Proofs.YtmbonldiaimcfaaGreatDoor
