/-
  Gathered in one text, in this order: W14, W15, W16, W17, W18, S3.
-/
import Derived.Test.YthlpjpoekfhnfaaDoorGX
/-
  The laws of chapter 2 on lists that answer yes or no.
-/
namespace Go.Proofs.YthlpjpoekfhnfaaDoor
open Go.RowKit
namespace L2
open S1 L1

theorem row_nil (W : World) : Row W (.slice none 0 0) [] := ⟨none, 0, rfl, Nat.le_refl _, by omega, by intro i hi; cases hi⟩
theorem row_of {W : World} {x : Addr} {l c : Nat} {ss : List ByteArray} (hl : l ≤ c) (hm : c ≤ maxLen) (hz : l ≤ ss.length) (hcell : ∀ i, i < ss.length → W.cell? (x.add i) = some (.string (ss.getD i ByteArray.empty))) (hsz : ∀ s ∈ ss, s.size ≤ maxLen) :
    Row W (.slice (some x) l c) (ss.take l) ∧ ∀ i, i < (ss.take l).length → ((ss.take l).getD i ByteArray.empty).size ≤ maxLen := by
  have hlen : (ss.take l).length = l := by simp; omega
  have hget : ∀ i, i < l → (ss.take l).getD i ByteArray.empty = ss.getD i ByteArray.empty := fun i hi => by simp [List.getD, hi]
  refine ⟨⟨some x, c, by rw [hlen], by rw [hlen]; exact hl, hm, fun i hi => ?_⟩, fun i hi => ?_⟩
  · rw [hlen] at hi
    obtain ⟨b, off, spot⟩ := x
    have h0 := hcell 0 (by omega)
    have hspot : spot = none := by simpa [Addr.add] using World.cell?_spot h0
    subst hspot
    have hadd : ∀ i, (⟨b, off, none⟩ : Addr).add i = ⟨b, off + i, none⟩ := by intro i; unfold Addr.add; split <;> simp_all
    have hc := hcell i (by omega)
    rw [hadd] at h0 hc
    exact ⟨b, off, rfl, World.block_lt_of_cell? W _ h0, by rw [hget i hi]; exact hc⟩
  · rw [hlen] at hi
    rw [hget i hi]
    have hi' : i < ss.length := by omega
    have : ss.getD i ByteArray.empty = ss[i] := by simp [List.getD, hi']
    rw [this]
    exact hsz _ (List.getElem_mem hi')

set_option maxRecDepth 100000 in
set_option maxHeartbeats 2000000 in
theorem lawIsPlain (v : Value) (ss : List ByteArray) (w : World) (hR : Row w v ss) (hz : ∀ i, i < ss.length → (ss.getD i ByteArray.empty).size ≤ maxLen) (hV : Vars w) :
    Calls Tryd.prog 4 #[v] w fun e w' => e = .returned (.bool true) ∧ Below w.heap.size w w' := by
  have HV := Lib.hid hV
  have HR := Lib.hid hR
  have HZ := Lib.hid (szStringS_any v ss w hR hz)
  clear hV hR hz
  go_enter Tryd.func4, Tryd.ntmps4
  go_wp2_with fail
  refine HZ.out.mono ?_
  rintro e w1 ⟨rfl, rfl | ⟨y, hy, rfl, hS⟩⟩
  · go_wp2_with fail
    go_ret
    exact ⟨rfl, Below.refl _ _⟩
  · have HS := Lib.hid hS
    have hyn : ¬ y < 0 := by omega
    have hn : ss.length ≤ 1048576 := hS.1
    have hm : ss.length ≤ maxLen := by unfold maxLen; omega
    clear hS
    go_wp2_with fail
    refine (toStringS_any v ss w HR.out hn).mono ?_
    rintro e w1 ⟨rfl, hL1, hb1⟩
    go_wp2_with fail
    refine (specIsPlain_any _ ss w1 (hL1.row hm) HS.out).mono ?_
    rintro e w2 ⟨rfl, hb2⟩
    have HB2 := Lib.hid (hb1.trans (hb2.mono hb1.size))
    clear hL1 hb1 hb2
    have hq : ∃ q, plain (wsOf ss) = q := ⟨_, rfl⟩
    obtain ⟨q, hq⟩ := hq
    rw [hq]
    have HQ := Lib.hid hq
    clear hq
    go_wp2_with fail
    refine (toStringS_any v ss w2 (HR.out.below HB2.out) hn).mono ?_
    rintro e w3 ⟨rfl, hL3, hb3⟩
    have HB3 := Lib.hid (HB2.out.trans (hb3.mono HB2.out.size))
    have HL3 := Lib.hid hL3
    clear hL3 hb3
    go_wp2_with fail
    refine (implIsPlain_any _ ss w3 (HL3.out.row hm) HS.out (HV.out.later HB3.out)).mono ?_
    rintro e w4 ⟨rfl, hb4⟩
    rw [HQ.out]
    have HB4 := Lib.hid (HB3.out.trans (hb4.mono HB3.out.size))
    have HL4 := Lib.hid (HL3.out.below hb4)
    clear hb4
    cases q
    all_goals
      go_wp2_with fail
      refine (toStringS_any v ss w4 (HR.out.below HB4.out) hn).mono ?_
      rintro e w5 ⟨rfl, hL5, hb5⟩
      have HB5 := Lib.hid (HB4.out.trans (hb5.mono HB4.out.size))
      have HL5 := Lib.hid (HL4.out.below hb5)
      have HN5 := Lib.hid hL5
      clear hL5 hb5
      go_wp2_with fail
      refine (eqStringS_any _ _ ss w5 (HL5.out.row hm) (HN5.out.row hm)).mono ?_
      rintro e w6 ⟨rfl, hb6⟩
      have HB6 := Lib.hid (HB5.out.trans (hb6.mono HB5.out.size))
      clear hb6
      go_wp2_with fail
      go_ret
      exact ⟨rfl, HB6.out⟩

set_option maxRecDepth 100000 in
set_option maxHeartbeats 2000000 in
theorem lawIsStart (v : Value) (ss : List ByteArray) (x : Int) (w : World) (hR : Row w v ss) (hz : ∀ i, i < ss.length → (ss.getD i ByteArray.empty).size ≤ maxLen) (hV : Vars w) :
    Calls Tryd.prog 5 #[v, .int .i64 x] w fun e w' => e = .returned (.bool true) ∧ Below w.heap.size w w' := by
  have HV := Lib.hid hV
  have HR := Lib.hid hR
  have HZ := Lib.hid (szStringS_any v ss w hR hz)
  clear hV hR hz
  go_enter Tryd.func5, Tryd.ntmps5
  go_wp2_with fail
  refine HZ.out.mono ?_
  rintro e w1 ⟨rfl, rfl | ⟨y, hy, rfl, hS⟩⟩
  · go_wp2_with fail
    go_ret
    exact ⟨rfl, Below.refl _ _⟩
  · have HS := Lib.hid hS
    have hyn : ¬ y < 0 := by omega
    have hn : ss.length ≤ 1048576 := hS.1
    have hm : ss.length ≤ maxLen := by unfold maxLen; omega
    clear hS
    go_wp2_with fail
    refine (toStringS_any v ss w HR.out hn).mono ?_
    rintro e w1 ⟨rfl, hL1, hb1⟩
    go_wp2_with fail
    refine (specIsStart_any _ ss x w1 (hL1.row hm) HS.out).mono ?_
    rintro e w2 ⟨rfl, hb2⟩
    have HB2 := Lib.hid (hb1.trans (hb2.mono hb1.size))
    clear hL1 hb1 hb2
    have hq : ∃ q, startsI (wsOf ss) x = q := ⟨_, rfl⟩
    obtain ⟨q, hq⟩ := hq
    rw [hq]
    have HQ := Lib.hid hq
    clear hq
    go_wp2_with fail
    refine (toStringS_any v ss w2 (HR.out.below HB2.out) hn).mono ?_
    rintro e w3 ⟨rfl, hL3, hb3⟩
    have HB3 := Lib.hid (HB2.out.trans (hb3.mono HB2.out.size))
    have HL3 := Lib.hid hL3
    clear hL3 hb3
    go_wp2_with fail
    refine (implIsStart_any _ ss x w3 (HL3.out.row hm) HS.out (HV.out.later HB3.out)).mono ?_
    rintro e w4 ⟨rfl, hb4⟩
    rw [HQ.out]
    have HB4 := Lib.hid (HB3.out.trans (hb4.mono HB3.out.size))
    have HL4 := Lib.hid (HL3.out.below hb4)
    clear hb4
    cases q
    all_goals
      go_wp2_with fail
      refine (toStringS_any v ss w4 (HR.out.below HB4.out) hn).mono ?_
      rintro e w5 ⟨rfl, hL5, hb5⟩
      have HB5 := Lib.hid (HB4.out.trans (hb5.mono HB4.out.size))
      have HL5 := Lib.hid (HL4.out.below hb5)
      have HN5 := Lib.hid hL5
      clear hL5 hb5
      go_wp2_with fail
      refine (eqStringS_any _ _ ss w5 (HL5.out.row hm) (HN5.out.row hm)).mono ?_
      rintro e w6 ⟨rfl, hb6⟩
      have HB6 := Lib.hid (HB5.out.trans (hb6.mono HB5.out.size))
      clear hb6
      go_wp2_with fail
      go_ret
      exact ⟨rfl, HB6.out⟩

end L2
end Go.Proofs.YthlpjpoekfhnfaaDoor

/-
  The parts of a sum: the model and the program.
-/
namespace Go.Proofs.YthlpjpoekfhnfaaDoor
open Go.RowKit
namespace L2
open S1 L1

/-- What a call leaves that answers a new row of numbers. -/
def Rowed (xs : List Nat) (w : World) (e : Ending) (w' : World) : Prop := ∃ v, e = .returned v ∧ OwI w' w.heap.size v xs ∧ Below w.heap.size w w'

theorem row_step {ws : List (List UInt8)} {k x y : Nat} (h : after ws 1 x = some y) : row ws (k + 1) x = x :: row ws k y := by rw [row, h]; rfl
theorem after_split {ws : List (List UInt8)} {k x z : Nat} (h : after ws (k + 1) x = some z) : ∃ y, after ws 1 x = some y ∧ after ws k y = some z := by
  rw [Nat.add_comm] at h
  exact after_part h
theorem endS_of {ws : List (List UInt8)} {x y : Nat} (h : after ws 1 x = some y) : endS ws x = (y : Int) := by unfold endS; rw [h]
theorem endI_of {ws : List (List UInt8)} {x y : Nat} (h : after ws 1 x = some y) (hl : ws.length ≤ 60) (hx : x ≤ ws.length) : endI ws x = (y : Int) := by unfold endI; rw [endP_short hl hx, h]
theorem bind_word {l : List UInt8} (h : (l == [98, 105, 110, 100]) = true) : bindW l = true := by unfold bindW; rw [h]; rfl
theorem no_bind_word {l : List UInt8} (h : (l == [98, 105, 110, 100]) = false) (hk : 0 < (needs l).toNat) : bindW l = false := by
  unfold bindW
  rw [h, Bool.false_or]
  cases h2 : (l == [97, 115, 107])
  · rfl
  · have : l = [97, 115, 107] := by simpa using h2
    subst this
    exact absurd hk (by decide)

set_option maxRecDepth 100000 in
set_option maxHeartbeats 4000000 in
theorem l2Parts_any (v : Value) (ss : List ByteArray) (i e0 z : Nat) (w : World) (hR : Row w v ss) (hS : Small ss) (hh : headEnd (wsOf ss) i = some e0) (ha : after (wsOf ss) (kids (wsOf ss) i) e0 = some z) :
    Calls Tryd.prog 37 #[v, .int .i64 (i : Int)] w (Rowed (row (wsOf ss) (kids (wsOf ss) i) e0) w) := by
  have hbd := headEnd_bd hh
  have hl := ws_len ss
  rw [hl] at hbd
  have hs1 := hS.1
  have hlt : i < ss.length := by omega
  have HR := Lib.hid hR
  have HS := Lib.hid hS
  obtain ⟨oa, cap, rfl, h1, h2, h3⟩ := hR
  obtain ⟨b, off, rfl, hb, hc⟩ := h3 i hlt
  have hzs := hS.2 i hlt
  have hws := ws_get hlt
  obtain ⟨s, hs⟩ : ∃ s, ss.getD i ByteArray.empty = s := ⟨_, rfl⟩
  rw [hs] at hc hzs hws
  obtain ⟨n, hn⟩ : ∃ n, ss.length = n := ⟨_, rfl⟩
  rw [hn] at h1 hs1 hlt hl hbd HR ⊢
  have hok : okW s.toList = true := by
    unfold okW
    by_cases h : needs s.toList < 0
    · rw [head_bad hws h] at hh; cases hh
    · simp; omega
  obtain ⟨kd, hkd, hk3, hkn⟩ := needs_nat hok
  have hcn := specNeeds_any s (by unfold maxLen; omega)
  rw [hkd] at hcn
  have hkids : kids (wsOf ss) i = kd := by rw [kids_of hws, hkn]
  rw [hkids] at ha ⊢
  obtain ⟨XS, hXS⟩ : ∃ XS, row (wsOf ss) kd e0 = XS := ⟨_, rfl⟩
  rw [hXS]
  have hneg : ¬ needs s.toList < 0 := by omega
  have hz := after_bd kd e0 z (by rw [hl]; exact hbd.2) ha
  rw [hl] at hz
  -- where the parts begin, if there are any
  have hstart : ∀ t, (s.toList == [98, 105, 110, 100]) = t → 0 < kd → e0 = i + (if t then 2 else 1) := fun t ht hk => by
    cases t
    · have hbw := no_bind_word ht (by omega)
      rw [head_plain hws hneg hbw] at hh
      cases hh; rfl
    · have hbw := bind_word ht
      by_cases hend : n ≤ i + 1
      · rw [head_bind_far hws hbw (by omega)] at hh; cases hh
      · have hwy := ws_get (ss := ss) (i := i + 1) (by omega)
        rw [head_bind hws hneg hbw hwy] at hh
        split at hh
        · cases hh; rfl
        · cases hh
  unfold maxLen at h2
  have Hcn := Lib.hid hcn
  have HX := Lib.hid hXS
  have HA := Lib.hid ha
  have hi0 : (0 : Int) ≤ (i : Int) := by omega
  have hin1 : (i : Int) < (n : Int) := by omega
  clear h3 hs hXS ha hh hcn hkids hkd hkn hws hok hneg hn hl hS
  cases ht : (s.toList == [98, 105, 110, 100])
  all_goals
    have hst := hstart _ ht
    have HST := Lib.hid hst
    clear hst hstart
    go_enter Tryd.func37, Tryd.ntmps37
    go_wp2_with fail
    have hO0 := owI_new w w.heap.size (Nat.le_refl _)
    have hB0 : Below w.heap.size w (w.alloc (.cells #[] 2)) := (Below.refl _ _).alloc (Nat.le_refl _) _
    have hc0 := (hB0.cell (p := ⟨b, off + i, none⟩) hb).trans hc
    generalize Value.slice (some ⟨w.heap.size, 0, none⟩) 0 0 = v0 at hO0 ⊢
    generalize w.alloc (.cells #[] 2) = w0 at hO0 hB0 hc0 ⊢
    have HO0 := Lib.hid hO0
    have HB0 := Lib.hid hB0
    clear hO0 hB0
    refine (Hcn.out _).mono ?_
    rintro e w' ⟨rfl, rfl⟩
    go_wp2_with fail
    go_loopw [5, 6, 7] (fun o q e wr => ∃ (k x : Nat) (y : Int) (acc : List Nat), OwI wr w.heap.size o acc ∧ q = .int .i64 (k : Int) ∧ e = .int .i64 y ∧ (0 < k → y = (x : Int)) ∧ Below w.heap.size w wr ∧ acc ++ row (wsOf ss) k x = XS ∧ after (wsOf ss) k x = some z ∧ x ≤ n ∧ acc.length + k ≤ 3) (fun _ q _ _ => (intOf q).toNat)
    case atStart =>
      exact ⟨kd, e0, _, [], HO0.out, rfl, rfl, fun hk => by have := HST.out hk; simp at this; omega, HB0.out, HX.out, HA.out, hbd.2, by simpa using hk3⟩
    case round =>
      obtain ⟨k, x, y, acc, hO, rfl, rfl, hy, hB, hX, hA, hx, hk⟩ := hrel
      obtain ⟨go1, co1, rfl, hq1, hq2, hgo1, hgw1, _⟩ := hO.form
      have HO := Lib.hid hO
      have HB := Lib.hid hB
      have HXr := Lib.hid hX
      have HAr := Lib.hid hA
      have HY := Lib.hid hy
      clear hO hB hX hA hy
      cases k with
      | zero =>
        go_wp2_with fail
        go_ret
        exact ⟨_, rfl, by have := HXr.out; simp only [row, List.append_nil] at this; rw [← this]; exact HO.out, HB.out⟩
      | succ k =>
        obtain rfl : y = (x : Int) := HY.out (by omega)
        obtain ⟨x', hx', hA'⟩ := after_split HAr.out
        have hxb := after_bd 1 x x' (by have := HR.out; obtain ⟨_, _, he, _⟩ := this; injection he with _ he; rw [ws_len, ← he]; exact hx) hx'
        have hxl : x' ≤ n := by have := HR.out; obtain ⟨_, _, he, _⟩ := this; injection he with _ he; rw [ws_len, ← he] at hxb; exact hxb.2
        obtain ⟨v3, w3, hr3, ho3, hg3⟩ := run_app1 (wr.alloc (.cells #[.int .i64 (x : Int)] 2)) w.heap.size _ acc (HO.out.alloc _) wr.heap.size x (by simp [go_sem]) (by omega) (by have := HB.out.size; simp; omega)
        have HB3 : Hid (Below w.heap.size w w3) := Lib.hid ((HB.out.alloc HB.out.size _).grown hg3 (by have := HB.out.size; simp; omega) (fun q e => by simp [Value.ownBlock] at e; omega))
        have HR3 := Lib.hid hr3
        have HO3 := Lib.hid ho3
        have hes := endS_of hx'
        have hcall := specSumEnd_any _ ss x w3 (HR.out.below HB3.out) HS.out
        rw [hes] at hcall
        have Hcall := Lib.hid hcall
        have HX2 : Hid ((acc ++ [x]) ++ row (wsOf ss) k x' = XS) := Lib.hid (by rw [← HXr.out, row_step hx']; simp)
        have HA2 := Lib.hid hA'
        clear hr3 ho3 hg3 hes hcall hA' hx' hxb
        go_wp2_with (at_builtin; refine wp_app rfl _ _ rfl rfl _ _ rfl rfl HR3.out ?_)
        refine Hcall.out.mono ?_
        rintro e w4 ⟨rfl, hb4⟩
        have HB4 := Lib.hid (HB3.out.trans (hb4.mono HB3.out.size))
        have HO4 := Lib.hid (HO3.out.below hb4)
        clear hb4
        go_wp2_with fail
        go_roundw
        case rel => exact ⟨k, x', _, acc ++ [x], HO4.out, by go_num, rfl, fun _ => rfl, HB4.out, HX2.out, HA2.out, hxl, by rw [List.length_append]; simp; omega⟩
        case measure => simp [intOf]

end L2
end Go.Proofs.YthlpjpoekfhnfaaDoor

/-
  The parts of a sum: the face of the model, and the program.
-/
namespace Go.Proofs.YthlpjpoekfhnfaaDoor
open Go.RowKit
namespace L2
open S1 L1

theorem parts_no {ws : List (List UInt8)} (h : okSum ws = false) : parts ws = [] := by unfold parts; rw [h]; rfl
theorem parts_yes {ws : List (List UInt8)} (h : okSum ws = true) : parts ws = row ws (kids ws 0) (partsAt ws) := by unfold parts; rw [h]; rfl

set_option maxHeartbeats 1000000 in
theorem specPartsOf_any (v : Value) (ss : List ByteArray) (w : World) (hR : Row w v ss) (hS : Small ss) :
    Calls Tryd.prog 13 #[v] w (Rowed (parts (wsOf ss)) w) := by
  have H := specSumOk_any v ss w hR hS
  cases ho : okSum (wsOf ss)
  · rw [parts_no ho]
    rw [ho] at H
    have H := Lib.hid H
    clear hR hS ho
    go_enter Tryd.func13, Tryd.ntmps13
    go_wp2_with fail
    refine H.out.mono ?_
    rintro e w1 ⟨rfl, hb1⟩
    go_wp2_with fail
    go_ret
    exact ⟨_, rfl, (owI_new w1 w.heap.size hb1.size), hb1.alloc hb1.size _⟩
  · rw [parts_yes ho]
    rw [ho] at H
    obtain ⟨_, _, _, hh, ha⟩ := ok_head ho
    have hc := fun w1 (hb : Below w.heap.size w w1) => l2Parts_any v ss 0 _ _ w1 (hR.below hb) hS hh ha
    generalize row (wsOf ss) (kids (wsOf ss) 0) (partsAt (wsOf ss)) = XS at hc ⊢
    have H := Lib.hid H
    have Hc := Lib.hid hc
    clear hR hS ho hh ha hc
    go_enter Tryd.func13, Tryd.ntmps13
    go_wp2_with fail
    refine H.out.mono ?_
    rintro e w1 ⟨rfl, hb1⟩
    go_wp2_with fail
    refine (Hc.out _ hb1).mono ?_
    rintro e w2 ⟨vr, rfl, ho2, hb2⟩
    go_wp2_with fail
    go_ret
    exact ⟨_, rfl, ho2.base hb1.size, hb1.trans (hb2.mono hb1.size)⟩

set_option maxRecDepth 100000 in
set_option maxHeartbeats 4000000 in
theorem implPartsOf_any (v : Value) (ss : List ByteArray) (w : World) (hR : Row w v ss) (hS : Small ss) (hV : Vars w) :
    Calls Tryd.prog 11 #[v] w (Rowed (parts (wsOf ss)) w) := by
  have HR := Lib.hid hR
  have HS := Lib.hid hS
  have HV := Lib.hid hV
  cases ho : okSum (wsOf ss)
  · have hcall := fun w1 (hb : Below w.heap.size w w1) => implSumOk_any v ss w1 (hR.below hb) hS (hV.later hb)
    rw [ho] at hcall
    rw [parts_no ho]
    have Hc := Lib.hid hcall
    clear hR hS hV ho hcall
    go_enter Tryd.func11, Tryd.ntmps11
    go_wp2_with fail
    have hO0 := owI_new w w.heap.size (Nat.le_refl _)
    have hB0 : Below w.heap.size w (w.alloc (.cells #[] 2)) := (Below.refl _ _).alloc (Nat.le_refl _) _
    generalize Value.slice (some ⟨w.heap.size, 0, none⟩) 0 0 = v0 at hO0 ⊢
    generalize w.alloc (.cells #[] 2) = w0 at hO0 hB0 ⊢
    refine (Hc.out _ hB0).mono ?_
    rintro e w1 ⟨rfl, hb1⟩
    go_wp2_with fail
    go_ret
    exact ⟨_, rfl, hO0.below hb1, hB0.trans (hb1.mono hB0.size)⟩
  · have hcall := fun w1 (hb : Below w.heap.size w w1) => implSumOk_any v ss w1 (hR.below hb) hS (hV.later hb)
    rw [ho] at hcall
    rw [parts_yes ho]
    obtain ⟨hw60, hw0, _, hh, ha⟩ := ok_head ho
    have hl := ws_len ss
    rw [hl] at hw60 hw0
    obtain ⟨oa, cap, rfl, h1, h2, h3⟩ := hR
    obtain ⟨b, off, rfl, hb, hc⟩ := h3 0 hw0
    have hzs := hS.2 0 hw0
    have hws := ws_get hw0
    have hpa : partsAt (wsOf ss) = if bindW (ss.getD 0 ByteArray.empty).toList then 2 else 1 := by unfold partsAt; rw [ws_getD hw0]
    obtain ⟨s, hs⟩ : ∃ s, ss.getD 0 ByteArray.empty = s := ⟨_, rfl⟩
    rw [hs] at hc hzs hws hpa
    obtain ⟨n, hn⟩ : ∃ n, ss.length = n := ⟨_, rfl⟩
    rw [hn] at h1 hw60 hw0 hl HR ⊢ hcall
    have hok : okW s.toList = true := by
      unfold okW
      by_cases h : needs s.toList < 0
      · rw [head_bad hws h] at hh; cases hh
      · simp; omega
    obtain ⟨kd, hkd, hk3, hkn⟩ := needs_nat hok
    have hcn := fun w1 (hb : Below w.heap.size w w1) => implNeeds_any s (by omega) w1 (hV.later hb)
    rw [hkd] at hcn
    have hkids : kids (wsOf ss) 0 = kd := by rw [kids_of hws, hkn]
    rw [hkids] at ha ⊢
    have hpb := headEnd_bd hh
    rw [hl] at hpb
    obtain ⟨XS, hXS⟩ : ∃ XS, row (wsOf ss) kd (partsAt (wsOf ss)) = XS := ⟨_, rfl⟩
    rw [hXS]
    obtain ⟨e0, he0⟩ : ∃ e0, partsAt (wsOf ss) = e0 := ⟨_, rfl⟩
    rw [he0] at hXS ha hpa hpb
    rw [hl] at ha
    unfold maxLen at h2
    have Hc := Lib.hid hcall
    have Hcn := Lib.hid hcn
    have HX := Lib.hid hXS
    have HA := Lib.hid ha
    have HP := Lib.hid hpa
    have HL := Lib.hid hl
    have h01 : (0 : Int) < (n : Int) := by omega
    have hc' : w.cell? ⟨b, off, none⟩ = some (.string s) := hc
    have hcx := fun w1 (hb1 : Below w.heap.size w w1) => (hb1.cell (p := ⟨b, off, none⟩) hb).trans hc'
    have HC := Lib.hid hcx
    clear h3 hs hXS ha hh hcn hkids hkd hkn hws hok hn hl hS hV ho hcall hpa he0 hcx hc hc'
    cases hbw : bindW s.toList
    all_goals
      have HBW := Lib.hid hbw
      clear hbw
      go_enter Tryd.func11, Tryd.ntmps11
      go_wp2_with fail
      have hO0 := owI_new w w.heap.size (Nat.le_refl _)
      have hB0 : Below w.heap.size w (w.alloc (.cells #[] 2)) := (Below.refl _ _).alloc (Nat.le_refl _) _
      generalize Value.slice (some ⟨w.heap.size, 0, none⟩) 0 0 = v0 at hO0 ⊢
      generalize w.alloc (.cells #[] 2) = w0 at hO0 hB0 ⊢
      refine (Hc.out _ hB0).mono ?_
      rintro e w1 ⟨rfl, hb1⟩
      have HO1 := Lib.hid (hO0.below hb1)
      have HB1 := Lib.hid (hB0.trans (hb1.mono hB0.size))
      clear hO0 hb1 hB0
      have hc1 := HC.out _ HB1.out
      go_wp2_with fail
      refine (isOfBound_any s _).mono ?_
      rintro e w2 ⟨rfl, rfl⟩
      rw [HBW.out]
      go_wp2_with fail
      refine (Hcn.out _ HB1.out).mono ?_
      rintro e w2 ⟨rfl, hb2⟩
      have HO2 := Lib.hid (HO1.out.below hb2)
      have HB2 := Lib.hid (HB1.out.trans (hb2.mono HB1.out.size))
      clear hb2 hc1
      go_wp2_with fail
      go_loopw [3, 4, 20] (fun o e q wr => ∃ (k j x : Nat) (acc : List Nat), OwI wr w.heap.size o acc ∧ q = .int .i64 (j : Int) ∧ j + k = kd ∧ e = .int .i64 (x : Int) ∧ Below w.heap.size w wr ∧ acc ++ row (wsOf ss) k x = XS ∧ after (wsOf ss) k x = some n ∧ x ≤ n ∧ acc.length ≤ j) (fun _ _ q _ => kd - (intOf q).toNat)
      case atStart =>
        exact ⟨kd, 0, e0, [], HO2.out, rfl, by omega, by have := HP.out; rw [HBW.out] at this; subst this; rfl, HB2.out, HX.out, HA.out, hpb.2, Nat.le_refl _⟩
      case round =>
        obtain ⟨k, j, x, acc, hO, rfl, hj, rfl, hB, hX, hA, hx, hal⟩ := hrel
        obtain ⟨go1, co1, rfl, hq1, hq2, hgo1, hgw1, _⟩ := hO.form
        have HO := Lib.hid hO
        have HB := Lib.hid hB
        have HXr := Lib.hid hX
        have HAr := Lib.hid hA
        have HJ := Lib.hid hj
        clear hO hB hX hA hj
        cases k with
        | zero =>
          have hjk : ¬ (j : Int) < (kd : Int) := by have := HJ.out; omega
          go_wp2_with fail
          go_ret
          exact ⟨_, rfl, by have := HXr.out; simp only [row, List.append_nil] at this; rw [← this]; exact HO.out, HB.out⟩
        | succ k =>
          have hjk : (j : Int) < (kd : Int) := by have := HJ.out; omega
          have hjk3 : j + 1 ≤ kd := by have := HJ.out; omega
          obtain ⟨x', hx', hA'⟩ := after_split HAr.out
          have hxb := after_bd 1 x x' (by rw [HL.out]; exact hx) hx'
          rw [HL.out] at hxb
          obtain ⟨v3, w3, hr3, ho3, hg3⟩ := run_app1 (wr.alloc (.cells #[.int .i64 (x : Int)] 2)) w.heap.size _ acc (HO.out.alloc _) wr.heap.size x (by simp [go_sem]) (by omega) (by have := HB.out.size; simp; omega)
          have HB3 : Hid (Below w.heap.size w w3) := Lib.hid ((HB.out.alloc HB.out.size _).grown hg3 (by have := HB.out.size; simp; omega) (fun q e => by simp [Value.ownBlock] at e; omega))
          have HR3 := Lib.hid hr3
          have HO3 := Lib.hid ho3
          have hes := endI_of hx' (by rw [HL.out]; exact hw60) (by rw [HL.out]; exact hx)
          have hcall := implSumEnd_any _ ss x w3 (HR.out.below HB3.out) HS.out (by omega) (HV.out.later HB3.out)
          rw [hes] at hcall
          have Hcall := Lib.hid hcall
          have HX2 : Hid ((acc ++ [x]) ++ row (wsOf ss) k x' = XS) := Lib.hid (by rw [← HXr.out, row_step hx']; simp)
          have HA2 := Lib.hid hA'
          have hx2 : x' ≤ n := hxb.2
          clear hr3 ho3 hg3 hes hcall hA' hx' hxb
          go_wp2_with (at_builtin; refine wp_app rfl _ _ rfl rfl _ _ rfl rfl HR3.out ?_)
          refine Hcall.out.mono ?_
          rintro e w4 ⟨rfl, hb4⟩
          have HB4 := Lib.hid (HB3.out.trans (hb4.mono HB3.out.size))
          have HO4 := Lib.hid (HO3.out.below hb4)
          clear hb4
          go_wp2_with fail
          go_roundw
          case rel => exact ⟨k, j + 1, x', acc ++ [x], HO4.out, by go_num, by have := HJ.out; omega, rfl, HB4.out, HX2.out, HA2.out, hx2, by rw [List.length_append]; simp; omega⟩
          case measure => simp [intOf]; omega

end L2
end Go.Proofs.YthlpjpoekfhnfaaDoor

/-
  Rows compared, marked and looked at again: what the laws do with an answer's memory.
-/
namespace Go.Proofs.YthlpjpoekfhnfaaDoor
open Go.RowKit
namespace L2
open S1 L1

set_option maxRecDepth 100000 in
set_option maxHeartbeats 1000000 in
theorem eqInt64S_any (v v' : Value) (xs : List Nat) (B B' : Nat) (w : World) (hO : OwI w B v xs) (hO' : OwI w B' v' xs) :
    Calls Tryd.prog 24 #[v, v'] w fun e w' => e = .returned (.bool true) ∧ Below w.heap.size w w' := by
  obtain ⟨g, cap, rfl, h1, h2, h3, h4, h5⟩ := hO.form
  obtain ⟨g', cap', rfl, h1', h2', h3', h4', h5'⟩ := hO'.form
  obtain ⟨n, hn⟩ : ∃ n, xs.length = n := ⟨_, rfl⟩
  rw [hn] at h1 h5 h1' h5' ⊢
  unfold maxLen at h2 h2'
  have H5 := Lib.hid h5
  have H5' := Lib.hid h5'
  clear hn h5 h5' hO hO'
  go_enter Tryd.func24, Tryd.ntmps24
  go_wp2
  go_loopw [5] (fun i wr => ∃ k : Nat, k ≤ n ∧ i = .int .i64 (k : Int) ∧ Below w.heap.size w wr) (fun i _ => n - (intOf i).toNat)
  case atStart => exact ⟨0, Nat.zero_le _, rfl, Below.refl _ _⟩
  case round =>
    obtain ⟨k, hk, rfl, hB⟩ := hrel
    have HB := Lib.hid hB
    clear hB
    by_cases hlt : k < n
    · have hc1 := (HB.out.cell (p := ⟨g, k, none⟩) h4).trans (H5.out k hlt).1
      have hc2 := (HB.out.cell (p := ⟨g', k, none⟩) h4').trans (H5'.out k hlt).1
      obtain ⟨z, hz⟩ : ∃ z : Nat, xs.getD k 0 = z := ⟨_, rfl⟩
      rw [hz] at hc1 hc2
      clear hz
      have hk0 : (0 : Int) ≤ (k : Int) := by omega
      have hki : (k : Int) < (n : Int) := by omega
      go_wp2
      go_quiet (fail)
      go_wp2
      go_roundw
      case rel => exact ⟨k + 1, by omega, by go_num, by first | exact HB.out | exact HB.out.drew | exact HB.out.grown (D.grown_draws _ _ none) HB.out.size (by simp)⟩
      case measure => simp [intOf]; omega
    · have hki : ¬ (k : Int) < (n : Int) := by omega
      go_wp2
      go_ret
      exact ⟨rfl, HB.out⟩

/-- The text of a mark. -/
def mtxt (k : Nat) : ByteArray := ⟨(109 :: Lib.decDigits k).toArray⟩

set_option maxRecDepth 100000 in
set_option maxHeartbeats 1000000 in
theorem markText_any (u0 : Nat) (h0 : u0 ≤ 1000000000000000000) (w : World) :
    Calls Tryd.prog 47 #[.int .i64 (u0 : Int)] w fun e w' => e = .returned (.string (mtxt u0)) ∧ Below w.heap.size w w' := by
  by_cases hz : u0 = 0
  · subst hz
    have hd : mtxt 0 = ⟨#[109, 48]⟩ := by unfold mtxt; rw [Lib.decDigits]; rfl
    rw [hd]
    go_enter Tryd.func47, Tryd.ntmps47
    go_wp2
    go_ret
    exact ⟨rfl, Below.refl _ _⟩
  have hnn : ¬ ((u0 : Int) ≤ 0) := by omega
  have hnd : decide ((u0 : Int) ≤ 0) = false := by simp; omega
  unfold mtxt
  go_enter Tryd.func47, Tryd.ntmps47
  go_wp2
  go_loopw [0, 3] (fun n s wr => ∃ (u : Nat) (acc : List UInt8), n = .int .i64 (u : Int) ∧ s = .string ⟨acc.toArray⟩ ∧ P1.ahead u acc ++ acc = Lib.decDigits u0 ∧ u ≤ u0 ∧ acc.length ≤ 30 ∧ (u = 0 → acc ≠ []) ∧ Below w.heap.size w wr) (fun n _ _ => (intOf n).toNat)
  case atStart => exact ⟨u0, [], rfl, rfl, by rw [P1.ahead_start]; simp, Nat.le_refl _, by simp, fun h => absurd h hz, Below.refl _ _⟩
  case round =>
    obtain ⟨u, acc, rfl, rfl, hk, hu, hl, hne, hb⟩ := hrel
    have kc := conv1 u wr
    have HB := Lib.hid hb
    have HNE := Lib.hid hne
    clear hb hne
    by_cases hx : u = 0
    · have Hk := Lib.hid hk
      have hacc := HNE.out hx
      subst hx
      have Hacc := Lib.hid hacc
      clear hk kc hacc
      go_wp2
      go_ret
      refine ⟨?_, HB.out⟩
      rw [← Hk.out, P1.ahead_end Hacc.out]
      exact congrArg (fun x => Ending.returned (Value.string x)) (push_front 109 acc)
    · have hr := P1.round_pos hk h0 (Or.inr hx)
      have Hr := Lib.hid hr
      have hpos : (0 : Int) < (u : Int) := by omega
      clear hr hk
      cases acc with
      | nil =>
        go_wp2
        rw [push_front0]
        refine ⟨⟨u / 10, [digB u], by simp, rfl, Hr.out.1, by omega, Hr.out.2, fun _ => by simp, HB.out.alloc HB.out.size _⟩, ?_⟩
        simp [intOf]; omega
      | cons c r =>
        have hl2 : r.length ≤ 29 := by simpa using hl
        go_wp2
        rw [push_front]
        refine ⟨⟨u / 10, digB u :: c :: r, by simp, rfl, Hr.out.1, by omega, Hr.out.2, fun _ => by simp, HB.out.alloc HB.out.size _⟩, ?_⟩
        simp [intOf]; omega

/-- What lies at the head of a block, that may be written. -/
def Mem (w : World) (X : Nat) (xs : List Value) : Prop :=
  X < w.heap.size ∧ ∀ j, j < xs.length → w.cell? ⟨X, j, none⟩ = some (xs.getD j (.int .i64 0)) ∧ w.frozen? ⟨X, j, none⟩ = false
theorem Mem.below {w w' : World} {X : Nat} {xs : List Value} (h : Mem w X xs) (hb : Below w.heap.size w w') : Mem w' X xs :=
  ⟨Nat.lt_of_lt_of_le h.1 hb.size, fun j hj => ⟨(hb.cell (p := ⟨X, j, none⟩) h.1).trans (h.2 j hj).1, (hb.frozen (p := ⟨X, j, none⟩) h.1).trans (h.2 j hj).2⟩⟩
theorem Lst.mem {w : World} {X : Nat} {ss : List ByteArray} (h : Lst w X ss) : Mem w X (ss.map Value.string) := by
  refine ⟨h.lt, fun j hj => ?_⟩
  unfold Lst at h
  have hj' : j < ss.length := by simpa using hj
  simp [World.cell?, World.frozen?, h, hj', List.getD]
theorem OwI.mem {w : World} {B g cap n : Nat} {xs : List Nat} (h : OwI w B (.slice (some ⟨g, 0, none⟩) n cap) xs) : Mem w g (xs.map numV) := by
  obtain ⟨g', cap', hv, _, _, _, hlt, hc⟩ := h.form
  cases hv
  refine ⟨hlt, fun j hj => ?_⟩
  have hj' : j < xs.length := by simpa using hj
  have := hc j hj'
  simpa [List.getD, hj', numV] using this

/-- Some cells marked already: the first k of them by f, the others still as they were. -/
def Part (w : World) (X n k : Nat) (f : Nat → Value) : Prop :=
  X < w.heap.size ∧ ∀ j, j < n → (∃ u, w.cell? ⟨X, j, none⟩ = some u ∧ (j < k → u = f j)) ∧ w.frozen? ⟨X, j, none⟩ = false
theorem Mem.part {w : World} {X : Nat} {xs : List Value} (h : Mem w X xs) (f : Nat → Value) : Part w X xs.length 0 f :=
  ⟨h.1, fun j hj => ⟨⟨_, (h.2 j hj).1, fun hk => by omega⟩, (h.2 j hj).2⟩⟩
theorem Part.mem {w : World} {X n : Nat} {f : Nat → Value} (h : Part w X n n f) : Mem w X ((List.range n).map f) := by
  refine ⟨h.1, fun j hj => ?_⟩
  have hj' : j < n := by simpa using hj
  obtain ⟨⟨u, hu, hf⟩, hz⟩ := h.2 j hj'
  rw [hf hj'] at hu
  refine ⟨?_, hz⟩
  rw [hu]
  simp [List.getD, hj']
theorem Part.below {w w' : World} {X n k : Nat} {f : Nat → Value} (h : Part w X n k f) (hb : Below w.heap.size w w') : Part w' X n k f :=
  ⟨Nat.lt_of_lt_of_le h.1 hb.size, fun j hj => by
    obtain ⟨⟨u, hu, hf⟩, hz⟩ := h.2 j hj
    exact ⟨⟨u, (hb.cell (p := ⟨X, j, none⟩) h.1).trans hu, hf⟩, (hb.frozen (p := ⟨X, j, none⟩) h.1).trans hz⟩⟩
theorem Part.store {w : World} {X n k : Nat} {f : Nat → Value} (h : Part w X n k f) (hk : k < n) : Part (w.setCell ⟨X, k, none⟩ (f k)) X n (k + 1) f := by
  refine ⟨by simpa [World.setCell] using h.1, fun j hj => ?_⟩
  obtain ⟨⟨u, hu, hf⟩, hz⟩ := h.2 j hj
  refine ⟨?_, by simpa [go_sem] using hz⟩
  by_cases e : j = k
  · subst e
    exact ⟨f j, World.cell?_setCell_same' _ _ _ (by rw [hu]; rfl), fun _ => rfl⟩
  · exact ⟨u, (World.cell?_setCell_other _ _ _ _ (by intro h; injection h with _ h; exact e h.symm)).trans hu, fun hj2 => hf (by omega)⟩

/-- What marking a row leaves: it is marked, and no other old block has turned. -/
def Marked (X n k : Nat) (f : Nat → Value) (w : World) (e : Ending) (w' : World) : Prop :=
  e = .returned (.int .i64 ((k + n : Nat) : Int)) ∧ Mem w' X ((List.range n).map f) ∧ w.grownBy w' (some X)

set_option maxRecDepth 100000 in
set_option maxHeartbeats 1000000 in
theorem markStringS_any (X n cap k0 : Nat) (w : World) (xs : List Value) (hM : Mem w X xs) (hn : xs.length = n) (h1 : n ≤ cap) (hb : n ≤ 1048576) (hk0 : k0 ≤ 1000000000) :
    Calls Tryd.prog 25 #[.slice (some ⟨X, 0, none⟩) n cap, .int .i64 (k0 : Int)] w (Marked X n k0 (fun j => .string (mtxt (k0 + j))) w) := by
  have hP := hM.part (fun j => .string (mtxt (k0 + j)))
  rw [hn] at hP
  have HP := Lib.hid hP
  clear hM hn hP
  go_enter Tryd.func25, Tryd.ntmps25
  go_wp2
  go_loopw [1, 5] (fun q i wr => ∃ k : Nat, k ≤ n ∧ i = .int .i64 (k : Int) ∧ q = .int .i64 ((k0 + k : Nat) : Int) ∧ Part wr X n k (fun j => .string (mtxt (k0 + j))) ∧ w.grownBy wr (some X)) (fun _ i _ => n - (intOf i).toNat)
  case atStart => exact ⟨0, Nat.zero_le _, rfl, rfl, HP.out, ⟨rfl, rfl, rfl, Nat.le_refl _, fun _ _ _ => rfl⟩⟩
  case round =>
    obtain ⟨k, hk, rfl, rfl, hP, hG⟩ := hrel
    have HP := Lib.hid hP
    have HG := Lib.hid hG
    clear hP hG
    by_cases hlt : k < n
    · have hki : (k : Int) < (n : Int) := by omega
      have hcall := markText_any (k0 + k) (by omega) wr
      obtain ⟨t, ht⟩ : ∃ t, mtxt (k0 + k) = t := ⟨_, rfl⟩
      rw [ht] at hcall
      have Ht := Lib.hid ht
      have Hc := Lib.hid hcall
      clear ht hcall
      go_wp2_with fail
      refine Hc.out.mono ?_
      rintro e w1 ⟨rfl, hb1⟩
      have HP1 := Lib.hid (HP.out.below hb1)
      have HG1 := Lib.hid (HG.out.trans (D.grown_of_below hb1 (some X)))
      obtain ⟨⟨u, hu, _⟩, hz⟩ := HP1.out.2 k hlt
      have HS := Lib.hid (HP1.out.store hlt)
      rw [Ht.out] at HS
      clear hb1
      go_wp2_with fail
      go_roundw
      case rel => exact ⟨k + 1, by omega, by go_num, by go_num, HS.out, HG1.out.trans (D.grown_set _ _ _ _)⟩
      case measure => simp [intOf]; omega
    · have hki : ¬ (k : Int) < (n : Int) := by omega
      have hkn : k = n := by omega
      subst hkn
      go_wp2_with fail
      go_ret
      exact ⟨rfl, HP.out.mem, HG.out⟩

set_option maxRecDepth 100000 in
set_option maxHeartbeats 1000000 in
theorem markInt64S_any (X n cap k0 : Nat) (w : World) (xs : List Value) (hM : Mem w X xs) (hn : xs.length = n) (h1 : n ≤ cap) (hb : n ≤ 1048576) (hk0 : k0 ≤ 1000000000) :
    Calls Tryd.prog 26 #[.slice (some ⟨X, 0, none⟩) n cap, .int .i64 (k0 : Int)] w (Marked X n k0 (fun j => numV (k0 + j)) w) := by
  have hP := hM.part (fun j => numV (k0 + j))
  rw [hn] at hP
  have HP := Lib.hid hP
  clear hM hn hP
  go_enter Tryd.func26, Tryd.ntmps26
  go_wp2
  go_loopw [1, 5] (fun q i wr => ∃ k : Nat, k ≤ n ∧ i = .int .i64 (k : Int) ∧ q = .int .i64 ((k0 + k : Nat) : Int) ∧ Part wr X n k (fun j => numV (k0 + j)) ∧ w.grownBy wr (some X)) (fun _ i _ => n - (intOf i).toNat)
  case atStart => exact ⟨0, Nat.zero_le _, rfl, rfl, HP.out, ⟨rfl, rfl, rfl, Nat.le_refl _, fun _ _ _ => rfl⟩⟩
  case round =>
    obtain ⟨k, hk, rfl, rfl, hP, hG⟩ := hrel
    have HP := Lib.hid hP
    have HG := Lib.hid hG
    clear hP hG
    by_cases hlt : k < n
    · have hki : (k : Int) < (n : Int) := by omega
      obtain ⟨⟨u, hu, _⟩, hz⟩ := HP.out.2 k hlt
      have HS := Lib.hid (HP.out.store hlt)
      simp only [numV] at HS
      go_wp2_with fail
      go_roundw
      case rel => exact ⟨k + 1, by omega, by go_num, by go_num, HS.out, HG.out.trans (D.grown_set _ _ _ _)⟩
      case measure => simp [intOf]; omega
    · have hki : ¬ (k : Int) < (n : Int) := by omega
      have hkn : k = n := by omega
      subst hkn
      go_wp2_with fail
      go_ret
      exact ⟨rfl, HP.out.mem, HG.out⟩

set_option maxRecDepth 100000 in
set_option maxHeartbeats 1000000 in
theorem heldInt64S_any (X n cap k0 : Nat) (w : World) (hM : Mem w X ((List.range n).map fun j => numV (k0 + j))) (h1 : n ≤ cap) (hb : n ≤ 1048576) (hk0 : k0 ≤ 1000000000) :
    Calls Tryd.prog 27 #[.slice (some ⟨X, 0, none⟩) n cap, .int .i64 (k0 : Int)] w fun e w' => e = .returned (.int .i64 ((k0 + n : Nat) : Int)) ∧ w = w' := by
  have HM := Lib.hid hM
  clear hM
  go_enter Tryd.func27, Tryd.ntmps27
  go_wp2
  go_loop [1, 5] (fun q i => ∃ k : Nat, k ≤ n ∧ i = .int .i64 (k : Int) ∧ q = .int .i64 ((k0 + k : Nat) : Int)) (fun _ i => n - (intOf i).toNat)
  case atStart => exact ⟨0, Nat.zero_le _, rfl, rfl⟩
  case round =>
    obtain ⟨k, hk, rfl, rfl⟩ := hrel
    by_cases hlt : k < n
    · have hki : (k : Int) < (n : Int) := by omega
      have hc := (HM.out.2 k (by simpa using hlt)).1
      have e : ((List.range n).map fun j => numV (k0 + j)).getD k (.int .i64 0) = .int .i64 ((k0 + k : Nat) : Int) := by simp [List.getD, hlt, numV]
      rw [e] at hc
      clear e
      go_wp2
      go_round
      case rel => exact ⟨k + 1, by omega, by go_num, by go_num⟩
      case measure => simp [intOf]; omega
    · have hki : ¬ (k : Int) < (n : Int) := by omega
      have hkn : k = n := by omega
      subst hkn
      go_wp2
      go_ret
      exact ⟨rfl, rfl⟩

end L2
end Go.Proofs.YthlpjpoekfhnfaaDoor

/-
  The law of chapter 2 on the parts of a sum.
-/
namespace Go.Proofs.YthlpjpoekfhnfaaDoor
open Go.RowKit
namespace L2
open S1 L1

theorem parts_len (ws : List (List UInt8)) : (parts ws).length ≤ 3 := by
  unfold parts
  split
  · rw [row_len]; exact kids_le _ _
  · simp

set_option maxRecDepth 100000 in
set_option maxHeartbeats 4000000 in
theorem lawPartsOf (v : Value) (ss : List ByteArray) (w : World) (hR : Row w v ss) (hz : ∀ i, i < ss.length → (ss.getD i ByteArray.empty).size ≤ maxLen) (hV : Vars w) :
    Calls Tryd.prog 6 #[v] w fun e w' => e = .returned (.bool true) ∧ Below w.heap.size w w' := by
  have HV := Lib.hid hV
  have HR := Lib.hid hR
  have HZ := Lib.hid (szStringS_any v ss w hR hz)
  clear hV hR hz
  go_enter Tryd.func6, Tryd.ntmps6
  go_wp2_with fail
  refine HZ.out.mono ?_
  rintro e w1 ⟨rfl, rfl | ⟨y, hy, rfl, hS⟩⟩
  · go_wp2_with fail
    go_ret
    exact ⟨rfl, Below.refl _ _⟩
  · have HS := Lib.hid hS
    have hyn : ¬ y < 0 := by omega
    have hn : ss.length ≤ 1048576 := hS.1
    have hm : ss.length ≤ maxLen := by unfold maxLen; omega
    have hpl := parts_len (wsOf ss)
    clear hS
    obtain ⟨ps, hps⟩ : ∃ ps, parts (wsOf ss) = ps := ⟨_, rfl⟩
    rw [hps] at hpl
    have HPS := Lib.hid hps
    clear hps
    go_wp2_with fail
    refine (toStringS_any v ss w HR.out hn).mono ?_
    rintro e w1 ⟨rfl, hL1, hb1⟩
    go_wp2_with fail
    refine (specPartsOf_any _ ss w1 (hL1.row hm) HS.out).mono ?_
    rintro e w2 ⟨v0, rfl, ho, hb2⟩
    rw [HPS.out] at ho
    have HB2 := Lib.hid (hb1.trans (hb2.mono hb1.size))
    have HO2 := Lib.hid ho
    clear hL1 hb1 hb2 ho
    go_wp2_with fail
    refine (toStringS_any v ss w2 (HR.out.below HB2.out) hn).mono ?_
    rintro e w3 ⟨rfl, hL3, hb3⟩
    have HB3 := Lib.hid (HB2.out.trans (hb3.mono HB2.out.size))
    have HO3 := Lib.hid (HO2.out.below hb3)
    have HL3 := Lib.hid hL3
    have hX : w2.heap.size < w3.heap.size := hL3.lt
    have hXW : w.heap.size ≤ w2.heap.size := HB2.out.size
    clear hL3 hb3
    go_wp2_with fail
    refine (implPartsOf_any _ ss w3 (HL3.out.row hm) HS.out (HV.out.later HB3.out)).mono ?_
    rintro e w4 ⟨v4, rfl, ho4, hb4⟩
    rw [HPS.out] at ho4
    obtain ⟨G, cap, rfl, hcap, hcapm, hG3, hG4, _⟩ := ho4.form
    obtain ⟨G0, cap0, hv0, _, _, _, hG0, _⟩ := HO2.out.form
    have HV0 := Lib.hid hv0
    have HB4 := Lib.hid (HB3.out.trans (hb4.mono HB3.out.size))
    have HL4 := Lib.hid (HL3.out.below hb4)
    have HG4 := Lib.hid ho4
    have HO4 := Lib.hid (HO3.out.below hb4)
    clear hb4 ho4 hv0
    go_wp2_with fail
    refine (eqInt64S_any _ _ ps _ _ w4 HG4.out HO4.out).mono ?_
    rintro e w5 ⟨rfl, hb5⟩
    have HB5 := Lib.hid (HB4.out.trans (hb5.mono HB4.out.size))
    have HL5 := Lib.hid (HL4.out.below hb5)
    have HG5 := Lib.hid (HG4.out.below hb5)
    have HO5 := Lib.hid (HO4.out.below hb5)
    clear hb5
    go_wp2_with fail
    refine (toStringS_any v ss w5 (HR.out.below HB5.out) hn).mono ?_
    rintro e w6 ⟨rfl, hL6, hb6⟩
    have HB6 := Lib.hid (HB5.out.trans (hb6.mono HB5.out.size))
    have HL6 := Lib.hid (HL5.out.below hb6)
    have HG6 := Lib.hid (HG5.out.below hb6)
    have HO6 := Lib.hid (HO5.out.below hb6)
    have HN6 := Lib.hid hL6
    clear hL6 hb6
    go_wp2_with fail
    refine (eqStringS_any _ _ ss w6 (HL6.out.row hm) (HN6.out.row hm)).mono ?_
    rintro e w7 ⟨rfl, hb7⟩
    have HB7 := Lib.hid (HB6.out.trans (hb7.mono HB6.out.size))
    have HL7 := Lib.hid (HL6.out.below hb7)
    have HG7 := Lib.hid (HG6.out.below hb7)
    have HO7 := Lib.hid (HO6.out.below hb7)
    clear hb7
    go_wp2_with fail
    refine (markStringS_any w2.heap.size ss.length ss.length 1 w7 _ HL7.out.mem (by simp) (Nat.le_refl _) hn (by omega)).mono ?_
    rintro e w8 ⟨rfl, _, hg8⟩
    have HB8 := Lib.hid (HB7.out.grown hg8 HB7.out.size (fun q e => by injection e with e; omega))
    have HG8 : Hid (OwI w8 _ _ _) := Lib.hid (HG7.out.kept hg8 (by simp only [Value.ownBlock]; intro e; injection e with e; omega))
    have HO8 : Hid (OwI w8 _ _ _) := Lib.hid (HO7.out.kept hg8 (by rw [HV0.out]; simp only [Value.ownBlock]; intro e; injection e with e; omega))
    have h8 : ¬ ((1 + ss.length : Nat) : Int) < 0 := by omega
    have h8' : ¬ ((1 : Int) + (ss.length : Int)) < 0 := by omega
    clear hg8
    go_wp2_with fail
    refine (eqInt64S_any _ _ ps _ _ w8 HG8.out HO8.out).mono ?_
    rintro e w9 ⟨rfl, hb9⟩
    have HB9 := Lib.hid (HB8.out.trans (hb9.mono HB8.out.size))
    have HG9 := Lib.hid (HG8.out.below hb9)
    have HO9 := Lib.hid (HO8.out.below hb9)
    clear hb9
    go_wp2_with fail
    refine (markInt64S_any G ps.length cap 1 w9 _ HG9.out.mem (by simp) hcap (by omega) (by omega)).mono ?_
    rintro e w10 ⟨rfl, hM10, hg10⟩
    have HB10 := Lib.hid (HB9.out.grown hg10 HB9.out.size (fun q e => by injection e with e; omega))
    have HO10 : Hid (OwI w10 _ _ _) := Lib.hid (HO9.out.kept hg10 (by rw [HV0.out]; simp only [Value.ownBlock]; intro e; injection e with e; omega))
    have HM10 := Lib.hid hM10
    clear hg10 hM10
    go_wp2_with fail
    refine (heldInt64S_any G ps.length cap 1 w10 HM10.out hcap (by omega) (by omega)).mono ?_
    rintro e w11 ⟨rfl, rfl⟩
    have hq8 : ¬ ((1 + ps.length : Nat) : Int) < 0 := by omega
    have hq8' : ¬ ((1 : Int) + (ps.length : Int)) < 0 := by omega
    go_wp2_with fail
    refine (toStringS_any v ss w10 (HR.out.below HB10.out) hn).mono ?_
    rintro e w12 ⟨rfl, hL12, hb12⟩
    have HB12 := Lib.hid (HB10.out.trans (hb12.mono HB10.out.size))
    have HO12 := Lib.hid (HO10.out.below hb12)
    have HM12 := Lib.hid (HM10.out.below hb12)
    have HN12 := Lib.hid hL12
    clear hL12 hb12
    go_wp2_with fail
    refine (implPartsOf_any _ ss w12 (HN12.out.row hm) HS.out (HV.out.later HB12.out)).mono ?_
    rintro e w13 ⟨v13, rfl, ho13, hb13⟩
    rw [HPS.out] at ho13
    have HB13 := Lib.hid (HB12.out.trans (hb13.mono HB12.out.size))
    have HO13 := Lib.hid (HO12.out.below hb13)
    have HM13 := Lib.hid (HM12.out.below hb13)
    have HN13 := Lib.hid ho13
    clear ho13 hb13
    go_wp2_with fail
    refine (eqInt64S_any _ _ ps _ _ w13 HN13.out HO13.out).mono ?_
    rintro e w14 ⟨rfl, hb14⟩
    have HB14 := Lib.hid (HB13.out.trans (hb14.mono HB13.out.size))
    have HM14 := Lib.hid (HM13.out.below hb14)
    clear hb14
    go_wp2_with fail
    refine (heldInt64S_any G ps.length cap 1 w14 HM14.out hcap (by omega) (by omega)).mono ?_
    rintro e w15 ⟨rfl, rfl⟩
    go_wp2_with fail
    go_ret
    exact ⟨rfl, HB14.out⟩

end L2
end Go.Proofs.YthlpjpoekfhnfaaDoor

/-
  The parts of a sum, one behind the other: nothing of the program stands here.
-/
namespace Go.Proofs.YthlpjpoekfhnfaaDoor.L2
open S1 L1

theorem row_get {ws : List (List UInt8)} : ∀ (k e z : Nat), after ws k e = some z → ∀ i, i < k → after ws i e = some ((row ws k e).getD i 0) := by
  intro k
  induction k with
  | zero => intro e z _ i hi; omega
  | succ k ih =>
    intro e z h i hi
    obtain ⟨y, hy, hz⟩ := after_split h
    rw [row_step hy]
    cases i with
    | zero => rfl
    | succ i =>
      have := ih y z hz i (by omega)
      rw [show i + 1 = 1 + i from Nat.add_comm _ _, after_add, hy]
      simp only
      rw [this]
      simp [List.getD, Nat.add_comm 1 i]

theorem after_bound {ws : List (List UInt8)} : ∀ (k e z : Nat), bindW (ws.getD (e - 1) []) = false → after ws k e = some z → bindW (ws.getD (z - 1) []) = false := by
  intro k
  induction k with
  | zero => intro e z h hz; cases hz; exact h
  | succ k ih =>
    intro e z h hz
    rw [after_step] at hz
    cases hE : E ws e with
    | none => rw [hE] at hz; cases hz
    | some r =>
      rw [hE] at hz
      exact ih r.2 z (st_covers _ _ _ _ hE).2.2 hz

/-- What the law asks of the parts. -/
structure PartsFit (ws : List (List UInt8)) (ps : List Nat) : Prop where
  starts : ∀ i, i < ps.length → startsI ws ((ps.getD i 0 : Nat) : Int) = true
  next : ∀ i, i + 1 < ps.length → endI ws (ps.getD i 0) = ((ps.getD (i + 1) 0 : Nat) : Int)
  last : ∀ i, i + 1 = ps.length → endI ws (ps.getD i 0) = (ws.length : Int)
  count : needs (ws.getD 0 []) = (ps.length : Int)
  small : ∀ i, ps.getD i 0 ≤ 60
  some : 0 < ws.length

theorem parts_fit {ws : List (List UInt8)} (h : okSum ws = true) : PartsFit ws (parts ws) := by
  obtain ⟨h60, h0, _, hh, ha⟩ := ok_head h
  rw [parts_yes h]
  have hlen := row_len ws (kids ws 0) (partsAt ws)
  have hb0 : bindW (ws.getD (partsAt ws - 1) []) = false := (head_covers hh).2.2
  have hbd := headEnd_bd hh
  have hget := row_get _ _ _ ha
  have hone : ∀ i, i < kids ws 0 → ∃ y, after ws 1 ((row ws (kids ws 0) (partsAt ws)).getD i 0) = some y ∧ after ws (i + 1) (partsAt ws) = some y := fun i hi => by
    have h1 := hget i hi
    have h2 : after ws ((i + 1) + (kids ws 0 - (i + 1))) (partsAt ws) = some ws.length := by rw [show i + 1 + (kids ws 0 - (i + 1)) = kids ws 0 from by omega]; exact ha
    obtain ⟨y, hy, _⟩ := after_part h2
    exact ⟨y, by rw [← after_snoc ws i _ _ h1]; exact hy, hy⟩
  have hle : ∀ i, i < kids ws 0 → (row ws (kids ws 0) (partsAt ws)).getD i 0 ≤ ws.length := fun i hi => (after_bd i _ _ hbd.2 (hget i hi)).2
  refine ⟨fun i hi => ?_, fun i hi => ?_, fun i hi => ?_, ?_, fun i => ?_, h0⟩
  · rw [hlen] at hi
    obtain ⟨y, hy, _⟩ := hone i hi
    have hx := hle i hi
    have hlt : (row ws (kids ws 0) (partsAt ws)).getD i 0 < ws.length := by
      rw [after_one] at hy
      cases hE : E ws ((row ws (kids ws 0) (partsAt ws)).getD i 0) with
      | none => rw [hE] at hy; cases hy
      | some r => have := E_bd hE; omega
    have hbw := after_bound i _ _ hb0 (hget i hi)
    generalize (row ws (kids ws 0) (partsAt ws)).getD i 0 = x at hlt hbw ⊢
    unfold startsI startsAt
    rw [h, Int.toNat_natCast, hbw]
    simp [hlt]
  · rw [hlen] at hi
    obtain ⟨y, hy, hy2⟩ := hone i (by omega)
    rw [endI_of hy h60 (hle i (by omega))]
    have := hget (i + 1) hi
    rw [hy2] at this
    injection this with this
    rw [this]
  · rw [hlen] at hi
    obtain ⟨y, hy, hy2⟩ := hone i (by omega)
    rw [endI_of hy h60 (hle i (by omega))]
    rw [hi, ha] at hy2
    injection hy2 with hy2
    rw [hy2]
  · rw [hlen]
    unfold kids
    have h1 : ¬ needs (ws.getD 0 []) < 0 := by
      intro hn
      have hx : ws[0]? = some (ws.getD 0 []) := by simp [List.getD, h0]
      rw [head_bad hx hn] at hh
      cases hh
    omega
  · by_cases hi : i < kids ws 0
    · have := hle i hi; omega
    · have : (row ws (kids ws 0) (partsAt ws)).getD i 0 = 0 := by
        rw [List.getD, List.getElem?_eq_none (by omega)]
        rfl
      omega

end Go.Proofs.YthlpjpoekfhnfaaDoor.L2
