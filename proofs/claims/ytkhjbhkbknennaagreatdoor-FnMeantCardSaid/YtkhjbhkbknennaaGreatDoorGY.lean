/-
  Gathered in one text, in this order: W14, W15, W16, W17, W18, S3.
-/
import Derived.Test.YtkhjbhkbknennaaGreatDoorGX
/-
  The laws of chapter 2 on lists that answer yes or no.
-/
namespace Go.Proofs.YtkhjbhkbknennaaGreatDoor
open Go.RowKit
namespace L2
open S1 L1

theorem row_nil (W : World) : Row W (.slice none 0 0) [] := ⟨none, 0, rfl, Nat.le_refl _, by omega, by intro i hi; cases hi⟩
theorem row_of {W : World} {x : Addr} {l c : Nat} {ss : List ByteArray} (hl : l ≤ c) (hm : c ≤ maxLen) (hz : l ≤ ss.length) (hcell : ∀ i, i < ss.length → W.cell? (x.add i) = some (.string (ss.getD i ByteArray.empty))) (hsz : ∀ s ∈ ss, s.size ≤ maxLen) :
    Row W (.slice (some x) l c) (ss.take l) ∧ ∀ i, i < (ss.take l).length → ((ss.take l).getD i ByteArray.empty).size ≤ maxLen := by
  have hlen : (ss.take l).length = l := by simp; omega
  have hget : ∀ i, i < l → (ss.take l).getD i ByteArray.empty = ss.getD i ByteArray.empty := fun i hi => by simp [List.getD, hi]
  refine ⟨⟨some x, c, by rw [hlen], by rw [hlen]; exact hl, hm, fun i hi => ?_⟩, fun i hi => ?_⟩
  · rw [hlen] at hi
    obtain ⟨b, off, spot⟩ := x
    have h0 := hcell 0 (by omega)
    have hspot : spot = none := by simpa [Addr.add] using World.cell?_spot h0
    subst hspot
    have hadd : ∀ i, (⟨b, off, none⟩ : Addr).add i = ⟨b, off + i, none⟩ := by intro i; unfold Addr.add; split <;> simp_all
    have hc := hcell i (by omega)
    rw [hadd] at h0 hc
    exact ⟨b, off, rfl, World.block_lt_of_cell? W _ h0, by rw [hget i hi]; exact hc⟩
  · rw [hlen] at hi
    rw [hget i hi]
    have hi' : i < ss.length := by omega
    have : ss.getD i ByteArray.empty = ss[i] := by simp [List.getD, hi']
    rw [this]
    exact hsz _ (List.getElem_mem hi')

end L2
end Go.Proofs.YtkhjbhkbknennaaGreatDoor

/-
  The parts of a sum: the model and the program.
-/
namespace Go.Proofs.YtkhjbhkbknennaaGreatDoor
open Go.RowKit
namespace L2
open S1 L1

/-- What a call leaves that answers a new row of numbers. -/
def Rowed (xs : List Nat) (w : World) (e : Ending) (w' : World) : Prop := ∃ v, e = .returned v ∧ OwI w' w.heap.size v xs ∧ Below w.heap.size w w'

theorem row_step {ws : List (List UInt8)} {k x y : Nat} (h : after ws 1 x = some y) : row ws (k + 1) x = x :: row ws k y := by rw [row, h]; rfl
theorem after_split {ws : List (List UInt8)} {k x z : Nat} (h : after ws (k + 1) x = some z) : ∃ y, after ws 1 x = some y ∧ after ws k y = some z := by
  rw [Nat.add_comm] at h
  exact after_part h
theorem endS_of {ws : List (List UInt8)} {x y : Nat} (h : after ws 1 x = some y) : endS ws x = (y : Int) := by unfold endS; rw [h]
theorem endI_of {ws : List (List UInt8)} {x y : Nat} (h : after ws 1 x = some y) (hl : ws.length ≤ 60) (hx : x ≤ ws.length) : endI ws x = (y : Int) := by unfold endI; rw [endP_short hl hx, h]
theorem bind_word {l : List UInt8} (h : (l == [98, 105, 110, 100]) = true) : bindW l = true := by unfold bindW; rw [h]; rfl
theorem no_bind_word {l : List UInt8} (h : (l == [98, 105, 110, 100]) = false) (hk : 0 < (needs l).toNat) : bindW l = false := by
  unfold bindW
  rw [h, Bool.false_or]
  cases h2 : (l == [97, 115, 107])
  · rfl
  · have : l = [97, 115, 107] := by simpa using h2
    subst this
    exact absurd hk (by decide)

set_option maxRecDepth 100000 in
set_option maxHeartbeats 4000000 in
theorem l2Parts_any (v : Value) (ss : List ByteArray) (i e0 z : Nat) (w : World) (hR : Row w v ss) (hS : Small ss) (hh : headEnd (wsOf ss) i = some e0) (ha : after (wsOf ss) (kids (wsOf ss) i) e0 = some z) :
    Calls Tryz.prog 95 #[v, .int .i64 (i : Int)] w (Rowed (row (wsOf ss) (kids (wsOf ss) i) e0) w) := by
  have hbd := headEnd_bd hh
  have hl := ws_len ss
  rw [hl] at hbd
  have hs1 := hS.1
  have hlt : i < ss.length := by omega
  have HR := Lib.hid hR
  have HS := Lib.hid hS
  obtain ⟨oa, cap, rfl, h1, h2, h3⟩ := hR
  obtain ⟨b, off, rfl, hb, hc⟩ := h3 i hlt
  have hzs := hS.2 i hlt
  have hws := ws_get hlt
  obtain ⟨s, hs⟩ : ∃ s, ss.getD i ByteArray.empty = s := ⟨_, rfl⟩
  rw [hs] at hc hzs hws
  obtain ⟨n, hn⟩ : ∃ n, ss.length = n := ⟨_, rfl⟩
  rw [hn] at h1 hs1 hlt hl hbd HR ⊢
  have hok : okW s.toList = true := by
    unfold okW
    by_cases h : needs s.toList < 0
    · rw [head_bad hws h] at hh; cases hh
    · simp; omega
  obtain ⟨kd, hkd, hk3, hkn⟩ := needs_nat hok
  have hcn := specNeeds_any s (by unfold maxLen; omega)
  rw [hkd] at hcn
  have hkids : kids (wsOf ss) i = kd := by rw [kids_of hws, hkn]
  rw [hkids] at ha ⊢
  obtain ⟨XS, hXS⟩ : ∃ XS, row (wsOf ss) kd e0 = XS := ⟨_, rfl⟩
  rw [hXS]
  have hneg : ¬ needs s.toList < 0 := by omega
  have hz := after_bd kd e0 z (by rw [hl]; exact hbd.2) ha
  rw [hl] at hz
  -- where the parts begin, if there are any
  have hstart : ∀ t, (s.toList == [98, 105, 110, 100]) = t → 0 < kd → e0 = i + (if t then 2 else 1) := fun t ht hk => by
    cases t
    · have hbw := no_bind_word ht (by omega)
      rw [head_plain hws hneg hbw] at hh
      cases hh; rfl
    · have hbw := bind_word ht
      by_cases hend : n ≤ i + 1
      · rw [head_bind_far hws hbw (by omega)] at hh; cases hh
      · have hwy := ws_get (ss := ss) (i := i + 1) (by omega)
        rw [head_bind hws hneg hbw hwy] at hh
        split at hh
        · cases hh; rfl
        · cases hh
  unfold maxLen at h2
  have Hcn := Lib.hid hcn
  have HX := Lib.hid hXS
  have HA := Lib.hid ha
  have hi0 : (0 : Int) ≤ (i : Int) := by omega
  have hin1 : (i : Int) < (n : Int) := by omega
  clear h3 hs hXS ha hh hcn hkids hkd hkn hws hok hneg hn hl hS
  cases ht : (s.toList == [98, 105, 110, 100])
  all_goals
    have hst := hstart _ ht
    have HST := Lib.hid hst
    clear hst hstart
    go_enter Tryz.func95, Tryz.ntmps95
    go_wp2_with fail
    have hO0 := owI_new w w.heap.size (Nat.le_refl _)
    have hB0 : Below w.heap.size w (w.alloc (.cells #[] 2)) := (Below.refl _ _).alloc (Nat.le_refl _) _
    have hc0 := (hB0.cell (p := ⟨b, off + i, none⟩) hb).trans hc
    generalize Value.slice (some ⟨w.heap.size, 0, none⟩) 0 0 = v0 at hO0 ⊢
    generalize w.alloc (.cells #[] 2) = w0 at hO0 hB0 hc0 ⊢
    have HO0 := Lib.hid hO0
    have HB0 := Lib.hid hB0
    clear hO0 hB0
    refine (Hcn.out _).mono ?_
    rintro e w' ⟨rfl, rfl⟩
    go_wp2_with fail
    go_loopw [5, 6, 7] (fun o q e wr => ∃ (k x : Nat) (y : Int) (acc : List Nat), OwI wr w.heap.size o acc ∧ q = .int .i64 (k : Int) ∧ e = .int .i64 y ∧ (0 < k → y = (x : Int)) ∧ Below w.heap.size w wr ∧ acc ++ row (wsOf ss) k x = XS ∧ after (wsOf ss) k x = some z ∧ x ≤ n ∧ acc.length + k ≤ 3) (fun _ q _ _ => (intOf q).toNat)
    case atStart =>
      exact ⟨kd, e0, _, [], HO0.out, rfl, rfl, fun hk => by have := HST.out hk; simp at this; omega, HB0.out, HX.out, HA.out, hbd.2, by simpa using hk3⟩
    case round =>
      obtain ⟨k, x, y, acc, hO, rfl, rfl, hy, hB, hX, hA, hx, hk⟩ := hrel
      obtain ⟨go1, co1, rfl, hq1, hq2, hgo1, hgw1, _⟩ := hO.form
      have HO := Lib.hid hO
      have HB := Lib.hid hB
      have HXr := Lib.hid hX
      have HAr := Lib.hid hA
      have HY := Lib.hid hy
      clear hO hB hX hA hy
      cases k with
      | zero =>
        go_wp2_with fail
        go_ret
        exact ⟨_, rfl, by have := HXr.out; simp only [row, List.append_nil] at this; rw [← this]; exact HO.out, HB.out⟩
      | succ k =>
        obtain rfl : y = (x : Int) := HY.out (by omega)
        obtain ⟨x', hx', hA'⟩ := after_split HAr.out
        have hxb := after_bd 1 x x' (by have := HR.out; obtain ⟨_, _, he, _⟩ := this; injection he with _ he; rw [ws_len, ← he]; exact hx) hx'
        have hxl : x' ≤ n := by have := HR.out; obtain ⟨_, _, he, _⟩ := this; injection he with _ he; rw [ws_len, ← he] at hxb; exact hxb.2
        obtain ⟨v3, w3, hr3, ho3, hg3⟩ := run_app1 (wr.alloc (.cells #[.int .i64 (x : Int)] 2)) w.heap.size _ acc (HO.out.alloc _) wr.heap.size x (by simp [go_sem]) (by omega) (by have := HB.out.size; simp; omega)
        have HB3 : Hid (Below w.heap.size w w3) := Lib.hid ((HB.out.alloc HB.out.size _).grown hg3 (by have := HB.out.size; simp; omega) (fun q e => by simp [Value.ownBlock] at e; omega))
        have HR3 := Lib.hid hr3
        have HO3 := Lib.hid ho3
        have hes := endS_of hx'
        have hcall := specSumEnd_any _ ss x w3 (HR.out.below HB3.out) HS.out
        rw [hes] at hcall
        have Hcall := Lib.hid hcall
        have HX2 : Hid ((acc ++ [x]) ++ row (wsOf ss) k x' = XS) := Lib.hid (by rw [← HXr.out, row_step hx']; simp)
        have HA2 := Lib.hid hA'
        clear hr3 ho3 hg3 hes hcall hA' hx' hxb
        go_wp2_with (at_builtin; refine wp_app rfl _ _ rfl rfl _ _ rfl rfl HR3.out ?_)
        refine Hcall.out.mono ?_
        rintro e w4 ⟨rfl, hb4⟩
        have HB4 := Lib.hid (HB3.out.trans (hb4.mono HB3.out.size))
        have HO4 := Lib.hid (HO3.out.below hb4)
        clear hb4
        go_wp2_with fail
        go_roundw
        case rel => exact ⟨k, x', _, acc ++ [x], HO4.out, by go_num, rfl, fun _ => rfl, HB4.out, HX2.out, HA2.out, hxl, by rw [List.length_append]; simp; omega⟩
        case measure => simp [intOf]

end L2
end Go.Proofs.YtkhjbhkbknennaaGreatDoor

/-
  The parts of a sum: the face of the model, and the program.
-/
namespace Go.Proofs.YtkhjbhkbknennaaGreatDoor
open Go.RowKit
namespace L2
open S1 L1

theorem parts_no {ws : List (List UInt8)} (h : okSum ws = false) : parts ws = [] := by unfold parts; rw [h]; rfl
theorem parts_yes {ws : List (List UInt8)} (h : okSum ws = true) : parts ws = row ws (kids ws 0) (partsAt ws) := by unfold parts; rw [h]; rfl

set_option maxRecDepth 100000 in
set_option maxHeartbeats 4000000 in
theorem implPartsOf_any (v : Value) (ss : List ByteArray) (w : World) (hR : Row w v ss) (hS : Small ss) (hV : Vars w) :
    Calls Tryz.prog 111 #[v] w (Rowed (parts (wsOf ss)) w) := by
  have HR := Lib.hid hR
  have HS := Lib.hid hS
  have HV := Lib.hid hV
  cases ho : okSum (wsOf ss)
  · have hcall := fun w1 (hb : Below w.heap.size w w1) => implSumOk_any v ss w1 (hR.below hb) hS (hV.later hb)
    rw [ho] at hcall
    rw [parts_no ho]
    have Hc := Lib.hid hcall
    clear hR hS hV ho hcall
    go_enter Tryz.func111, Tryz.ntmps111
    go_wp2_with fail
    have hO0 := owI_new w w.heap.size (Nat.le_refl _)
    have hB0 : Below w.heap.size w (w.alloc (.cells #[] 2)) := (Below.refl _ _).alloc (Nat.le_refl _) _
    generalize Value.slice (some ⟨w.heap.size, 0, none⟩) 0 0 = v0 at hO0 ⊢
    generalize w.alloc (.cells #[] 2) = w0 at hO0 hB0 ⊢
    refine (Hc.out _ hB0).mono ?_
    rintro e w1 ⟨rfl, hb1⟩
    go_wp2_with fail
    go_ret
    exact ⟨_, rfl, hO0.below hb1, hB0.trans (hb1.mono hB0.size)⟩
  · have hcall := fun w1 (hb : Below w.heap.size w w1) => implSumOk_any v ss w1 (hR.below hb) hS (hV.later hb)
    rw [ho] at hcall
    rw [parts_yes ho]
    obtain ⟨hw60, hw0, _, hh, ha⟩ := ok_head ho
    have hl := ws_len ss
    rw [hl] at hw60 hw0
    obtain ⟨oa, cap, rfl, h1, h2, h3⟩ := hR
    obtain ⟨b, off, rfl, hb, hc⟩ := h3 0 hw0
    have hzs := hS.2 0 hw0
    have hws := ws_get hw0
    have hpa : partsAt (wsOf ss) = if bindW (ss.getD 0 ByteArray.empty).toList then 2 else 1 := by unfold partsAt; rw [ws_getD hw0]
    obtain ⟨s, hs⟩ : ∃ s, ss.getD 0 ByteArray.empty = s := ⟨_, rfl⟩
    rw [hs] at hc hzs hws hpa
    obtain ⟨n, hn⟩ : ∃ n, ss.length = n := ⟨_, rfl⟩
    rw [hn] at h1 hw60 hw0 hl HR ⊢ hcall
    have hok : okW s.toList = true := by
      unfold okW
      by_cases h : needs s.toList < 0
      · rw [head_bad hws h] at hh; cases hh
      · simp; omega
    obtain ⟨kd, hkd, hk3, hkn⟩ := needs_nat hok
    have hcn := fun w1 (hb : Below w.heap.size w w1) => implNeeds_any s (by omega) w1 (hV.later hb)
    rw [hkd] at hcn
    have hkids : kids (wsOf ss) 0 = kd := by rw [kids_of hws, hkn]
    rw [hkids] at ha ⊢
    have hpb := headEnd_bd hh
    rw [hl] at hpb
    obtain ⟨XS, hXS⟩ : ∃ XS, row (wsOf ss) kd (partsAt (wsOf ss)) = XS := ⟨_, rfl⟩
    rw [hXS]
    obtain ⟨e0, he0⟩ : ∃ e0, partsAt (wsOf ss) = e0 := ⟨_, rfl⟩
    rw [he0] at hXS ha hpa hpb
    rw [hl] at ha
    unfold maxLen at h2
    have Hc := Lib.hid hcall
    have Hcn := Lib.hid hcn
    have HX := Lib.hid hXS
    have HA := Lib.hid ha
    have HP := Lib.hid hpa
    have HL := Lib.hid hl
    have h01 : (0 : Int) < (n : Int) := by omega
    have hc' : w.cell? ⟨b, off, none⟩ = some (.string s) := hc
    have hcx := fun w1 (hb1 : Below w.heap.size w w1) => (hb1.cell (p := ⟨b, off, none⟩) hb).trans hc'
    have HC := Lib.hid hcx
    clear h3 hs hXS ha hh hcn hkids hkd hkn hws hok hn hl hS hV ho hcall hpa he0 hcx hc hc'
    cases hbw : bindW s.toList
    all_goals
      have HBW := Lib.hid hbw
      clear hbw
      go_enter Tryz.func111, Tryz.ntmps111
      go_wp2_with fail
      have hO0 := owI_new w w.heap.size (Nat.le_refl _)
      have hB0 : Below w.heap.size w (w.alloc (.cells #[] 2)) := (Below.refl _ _).alloc (Nat.le_refl _) _
      generalize Value.slice (some ⟨w.heap.size, 0, none⟩) 0 0 = v0 at hO0 ⊢
      generalize w.alloc (.cells #[] 2) = w0 at hO0 hB0 ⊢
      refine (Hc.out _ hB0).mono ?_
      rintro e w1 ⟨rfl, hb1⟩
      have HO1 := Lib.hid (hO0.below hb1)
      have HB1 := Lib.hid (hB0.trans (hb1.mono hB0.size))
      clear hO0 hb1 hB0
      have hc1 := HC.out _ HB1.out
      go_wp2_with fail
      refine (isOfBound_any s _).mono ?_
      rintro e w2 ⟨rfl, rfl⟩
      rw [HBW.out]
      go_wp2_with fail
      refine (Hcn.out _ HB1.out).mono ?_
      rintro e w2 ⟨rfl, hb2⟩
      have HO2 := Lib.hid (HO1.out.below hb2)
      have HB2 := Lib.hid (HB1.out.trans (hb2.mono HB1.out.size))
      clear hb2 hc1
      go_wp2_with fail
      go_loopw [3, 4, 20] (fun o e q wr => ∃ (k j x : Nat) (acc : List Nat), OwI wr w.heap.size o acc ∧ q = .int .i64 (j : Int) ∧ j + k = kd ∧ e = .int .i64 (x : Int) ∧ Below w.heap.size w wr ∧ acc ++ row (wsOf ss) k x = XS ∧ after (wsOf ss) k x = some n ∧ x ≤ n ∧ acc.length ≤ j) (fun _ _ q _ => kd - (intOf q).toNat)
      case atStart =>
        exact ⟨kd, 0, e0, [], HO2.out, rfl, by omega, by have := HP.out; rw [HBW.out] at this; subst this; rfl, HB2.out, HX.out, HA.out, hpb.2, Nat.le_refl _⟩
      case round =>
        obtain ⟨k, j, x, acc, hO, rfl, hj, rfl, hB, hX, hA, hx, hal⟩ := hrel
        obtain ⟨go1, co1, rfl, hq1, hq2, hgo1, hgw1, _⟩ := hO.form
        have HO := Lib.hid hO
        have HB := Lib.hid hB
        have HXr := Lib.hid hX
        have HAr := Lib.hid hA
        have HJ := Lib.hid hj
        clear hO hB hX hA hj
        cases k with
        | zero =>
          have hjk : ¬ (j : Int) < (kd : Int) := by have := HJ.out; omega
          go_wp2_with fail
          go_ret
          exact ⟨_, rfl, by have := HXr.out; simp only [row, List.append_nil] at this; rw [← this]; exact HO.out, HB.out⟩
        | succ k =>
          have hjk : (j : Int) < (kd : Int) := by have := HJ.out; omega
          have hjk3 : j + 1 ≤ kd := by have := HJ.out; omega
          obtain ⟨x', hx', hA'⟩ := after_split HAr.out
          have hxb := after_bd 1 x x' (by rw [HL.out]; exact hx) hx'
          rw [HL.out] at hxb
          obtain ⟨v3, w3, hr3, ho3, hg3⟩ := run_app1 (wr.alloc (.cells #[.int .i64 (x : Int)] 2)) w.heap.size _ acc (HO.out.alloc _) wr.heap.size x (by simp [go_sem]) (by omega) (by have := HB.out.size; simp; omega)
          have HB3 : Hid (Below w.heap.size w w3) := Lib.hid ((HB.out.alloc HB.out.size _).grown hg3 (by have := HB.out.size; simp; omega) (fun q e => by simp [Value.ownBlock] at e; omega))
          have HR3 := Lib.hid hr3
          have HO3 := Lib.hid ho3
          have hes := endI_of hx' (by rw [HL.out]; exact hw60) (by rw [HL.out]; exact hx)
          have hcall := implSumEnd_any _ ss x w3 (HR.out.below HB3.out) HS.out (by omega) (HV.out.later HB3.out)
          rw [hes] at hcall
          have Hcall := Lib.hid hcall
          have HX2 : Hid ((acc ++ [x]) ++ row (wsOf ss) k x' = XS) := Lib.hid (by rw [← HXr.out, row_step hx']; simp)
          have HA2 := Lib.hid hA'
          have hx2 : x' ≤ n := hxb.2
          clear hr3 ho3 hg3 hes hcall hA' hx' hxb
          go_wp2_with (at_builtin; refine wp_app rfl _ _ rfl rfl _ _ rfl rfl HR3.out ?_)
          refine Hcall.out.mono ?_
          rintro e w4 ⟨rfl, hb4⟩
          have HB4 := Lib.hid (HB3.out.trans (hb4.mono HB3.out.size))
          have HO4 := Lib.hid (HO3.out.below hb4)
          clear hb4
          go_wp2_with fail
          go_roundw
          case rel => exact ⟨k, j + 1, x', acc ++ [x], HO4.out, by go_num, by have := HJ.out; omega, rfl, HB4.out, HX2.out, HA2.out, hx2, by rw [List.length_append]; simp; omega⟩
          case measure => simp [intOf]; omega

end L2
end Go.Proofs.YtkhjbhkbknennaaGreatDoor

/-
  Rows compared, marked and looked at again: what the laws do with an answer's memory.
-/
namespace Go.Proofs.YtkhjbhkbknennaaGreatDoor
open Go.RowKit
namespace L2
open S1 L1

/-- The text of a mark. -/
def mtxt (k : Nat) : ByteArray := ⟨(109 :: Lib.decDigits k).toArray⟩

/-- What lies at the head of a block, that may be written. -/
def Mem (w : World) (X : Nat) (xs : List Value) : Prop :=
  X < w.heap.size ∧ ∀ j, j < xs.length → w.cell? ⟨X, j, none⟩ = some (xs.getD j (.int .i64 0)) ∧ w.frozen? ⟨X, j, none⟩ = false
theorem Mem.below {w w' : World} {X : Nat} {xs : List Value} (h : Mem w X xs) (hb : Below w.heap.size w w') : Mem w' X xs :=
  ⟨Nat.lt_of_lt_of_le h.1 hb.size, fun j hj => ⟨(hb.cell (p := ⟨X, j, none⟩) h.1).trans (h.2 j hj).1, (hb.frozen (p := ⟨X, j, none⟩) h.1).trans (h.2 j hj).2⟩⟩
theorem Lst.mem {w : World} {X : Nat} {ss : List ByteArray} (h : Lst w X ss) : Mem w X (ss.map Value.string) := by
  refine ⟨h.lt, fun j hj => ?_⟩
  unfold Lst at h
  have hj' : j < ss.length := by simpa using hj
  simp [World.cell?, World.frozen?, h, hj', List.getD]
theorem OwI.mem {w : World} {B g cap n : Nat} {xs : List Nat} (h : OwI w B (.slice (some ⟨g, 0, none⟩) n cap) xs) : Mem w g (xs.map numV) := by
  obtain ⟨g', cap', hv, _, _, _, hlt, hc⟩ := h.form
  cases hv
  refine ⟨hlt, fun j hj => ?_⟩
  have hj' : j < xs.length := by simpa using hj
  have := hc j hj'
  simpa [List.getD, hj', numV] using this

/-- Some cells marked already: the first k of them by f, the others still as they were. -/
def Part (w : World) (X n k : Nat) (f : Nat → Value) : Prop :=
  X < w.heap.size ∧ ∀ j, j < n → (∃ u, w.cell? ⟨X, j, none⟩ = some u ∧ (j < k → u = f j)) ∧ w.frozen? ⟨X, j, none⟩ = false
theorem Mem.part {w : World} {X : Nat} {xs : List Value} (h : Mem w X xs) (f : Nat → Value) : Part w X xs.length 0 f :=
  ⟨h.1, fun j hj => ⟨⟨_, (h.2 j hj).1, fun hk => by omega⟩, (h.2 j hj).2⟩⟩
theorem Part.mem {w : World} {X n : Nat} {f : Nat → Value} (h : Part w X n n f) : Mem w X ((List.range n).map f) := by
  refine ⟨h.1, fun j hj => ?_⟩
  have hj' : j < n := by simpa using hj
  obtain ⟨⟨u, hu, hf⟩, hz⟩ := h.2 j hj'
  rw [hf hj'] at hu
  refine ⟨?_, hz⟩
  rw [hu]
  simp [List.getD, hj']
theorem Part.below {w w' : World} {X n k : Nat} {f : Nat → Value} (h : Part w X n k f) (hb : Below w.heap.size w w') : Part w' X n k f :=
  ⟨Nat.lt_of_lt_of_le h.1 hb.size, fun j hj => by
    obtain ⟨⟨u, hu, hf⟩, hz⟩ := h.2 j hj
    exact ⟨⟨u, (hb.cell (p := ⟨X, j, none⟩) h.1).trans hu, hf⟩, (hb.frozen (p := ⟨X, j, none⟩) h.1).trans hz⟩⟩
theorem Part.store {w : World} {X n k : Nat} {f : Nat → Value} (h : Part w X n k f) (hk : k < n) : Part (w.setCell ⟨X, k, none⟩ (f k)) X n (k + 1) f := by
  refine ⟨by simpa [World.setCell] using h.1, fun j hj => ?_⟩
  obtain ⟨⟨u, hu, hf⟩, hz⟩ := h.2 j hj
  refine ⟨?_, by simpa [go_sem] using hz⟩
  by_cases e : j = k
  · subst e
    exact ⟨f j, World.cell?_setCell_same' _ _ _ (by rw [hu]; rfl), fun _ => rfl⟩
  · exact ⟨u, (World.cell?_setCell_other _ _ _ _ (by intro h; injection h with _ h; exact e h.symm)).trans hu, fun hj2 => hf (by omega)⟩

/-- What marking a row leaves: it is marked, and no other old block has turned. -/
def Marked (X n k : Nat) (f : Nat → Value) (w : World) (e : Ending) (w' : World) : Prop :=
  e = .returned (.int .i64 ((k + n : Nat) : Int)) ∧ Mem w' X ((List.range n).map f) ∧ w.grownBy w' (some X)

end L2
end Go.Proofs.YtkhjbhkbknennaaGreatDoor

/-
  The law of chapter 2 on the parts of a sum.
-/
namespace Go.Proofs.YtkhjbhkbknennaaGreatDoor
open Go.RowKit
namespace L2
open S1 L1

theorem parts_len (ws : List (List UInt8)) : (parts ws).length ≤ 3 := by
  unfold parts
  split
  · rw [row_len]; exact kids_le _ _
  · simp

end L2
end Go.Proofs.YtkhjbhkbknennaaGreatDoor

/-
  The parts of a sum, one behind the other: nothing of the program stands here.
-/
namespace Go.Proofs.YtkhjbhkbknennaaGreatDoor.L2
open S1 L1

theorem row_get {ws : List (List UInt8)} : ∀ (k e z : Nat), after ws k e = some z → ∀ i, i < k → after ws i e = some ((row ws k e).getD i 0) := by
  intro k
  induction k with
  | zero => intro e z _ i hi; omega
  | succ k ih =>
    intro e z h i hi
    obtain ⟨y, hy, hz⟩ := after_split h
    rw [row_step hy]
    cases i with
    | zero => rfl
    | succ i =>
      have := ih y z hz i (by omega)
      rw [show i + 1 = 1 + i from Nat.add_comm _ _, after_add, hy]
      simp only
      rw [this]
      simp [List.getD, Nat.add_comm 1 i]

theorem after_bound {ws : List (List UInt8)} : ∀ (k e z : Nat), bindW (ws.getD (e - 1) []) = false → after ws k e = some z → bindW (ws.getD (z - 1) []) = false := by
  intro k
  induction k with
  | zero => intro e z h hz; cases hz; exact h
  | succ k ih =>
    intro e z h hz
    rw [after_step] at hz
    cases hE : E ws e with
    | none => rw [hE] at hz; cases hz
    | some r =>
      rw [hE] at hz
      exact ih r.2 z (st_covers _ _ _ _ hE).2.2 hz

/-- What the law asks of the parts. -/
structure PartsFit (ws : List (List UInt8)) (ps : List Nat) : Prop where
  starts : ∀ i, i < ps.length → startsI ws ((ps.getD i 0 : Nat) : Int) = true
  next : ∀ i, i + 1 < ps.length → endI ws (ps.getD i 0) = ((ps.getD (i + 1) 0 : Nat) : Int)
  last : ∀ i, i + 1 = ps.length → endI ws (ps.getD i 0) = (ws.length : Int)
  count : needs (ws.getD 0 []) = (ps.length : Int)
  small : ∀ i, ps.getD i 0 ≤ 60
  some : 0 < ws.length

theorem parts_fit {ws : List (List UInt8)} (h : okSum ws = true) : PartsFit ws (parts ws) := by
  obtain ⟨h60, h0, _, hh, ha⟩ := ok_head h
  rw [parts_yes h]
  have hlen := row_len ws (kids ws 0) (partsAt ws)
  have hb0 : bindW (ws.getD (partsAt ws - 1) []) = false := (head_covers hh).2.2
  have hbd := headEnd_bd hh
  have hget := row_get _ _ _ ha
  have hone : ∀ i, i < kids ws 0 → ∃ y, after ws 1 ((row ws (kids ws 0) (partsAt ws)).getD i 0) = some y ∧ after ws (i + 1) (partsAt ws) = some y := fun i hi => by
    have h1 := hget i hi
    have h2 : after ws ((i + 1) + (kids ws 0 - (i + 1))) (partsAt ws) = some ws.length := by rw [show i + 1 + (kids ws 0 - (i + 1)) = kids ws 0 from by omega]; exact ha
    obtain ⟨y, hy, _⟩ := after_part h2
    exact ⟨y, by rw [← after_snoc ws i _ _ h1]; exact hy, hy⟩
  have hle : ∀ i, i < kids ws 0 → (row ws (kids ws 0) (partsAt ws)).getD i 0 ≤ ws.length := fun i hi => (after_bd i _ _ hbd.2 (hget i hi)).2
  refine ⟨fun i hi => ?_, fun i hi => ?_, fun i hi => ?_, ?_, fun i => ?_, h0⟩
  · rw [hlen] at hi
    obtain ⟨y, hy, _⟩ := hone i hi
    have hx := hle i hi
    have hlt : (row ws (kids ws 0) (partsAt ws)).getD i 0 < ws.length := by
      rw [after_one] at hy
      cases hE : E ws ((row ws (kids ws 0) (partsAt ws)).getD i 0) with
      | none => rw [hE] at hy; cases hy
      | some r => have := E_bd hE; omega
    have hbw := after_bound i _ _ hb0 (hget i hi)
    generalize (row ws (kids ws 0) (partsAt ws)).getD i 0 = x at hlt hbw ⊢
    unfold startsI startsAt
    rw [h, Int.toNat_natCast, hbw]
    simp [hlt]
  · rw [hlen] at hi
    obtain ⟨y, hy, hy2⟩ := hone i (by omega)
    rw [endI_of hy h60 (hle i (by omega))]
    have := hget (i + 1) hi
    rw [hy2] at this
    injection this with this
    rw [this]
  · rw [hlen] at hi
    obtain ⟨y, hy, hy2⟩ := hone i (by omega)
    rw [endI_of hy h60 (hle i (by omega))]
    rw [hi, ha] at hy2
    injection hy2 with hy2
    rw [hy2]
  · rw [hlen]
    unfold kids
    have h1 : ¬ needs (ws.getD 0 []) < 0 := by
      intro hn
      have hx : ws[0]? = some (ws.getD 0 []) := by simp [List.getD, h0]
      rw [head_bad hx hn] at hh
      cases hh
    omega
  · by_cases hi : i < kids ws 0
    · have := hle i hi; omega
    · have : (row ws (kids ws 0) (partsAt ws)).getD i 0 = 0 := by
        rw [List.getD, List.getElem?_eq_none (by omega)]
        rfl
      omega

end Go.Proofs.YtkhjbhkbknennaaGreatDoor.L2
