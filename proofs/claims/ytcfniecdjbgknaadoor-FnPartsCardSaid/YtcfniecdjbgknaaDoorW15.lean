/-
  The parts of a sum: the model and the program.
-/
import Derived.Test.YtcfniecdjbgknaaDoorW13
namespace Go.Proofs.YtcfniecdjbgknaaDoor
open Go.RowKit
namespace L2
open S1 L1

/-- What a call leaves that answers a new row of numbers. -/
def Rowed (xs : List Nat) (w : World) (e : Ending) (w' : World) : Prop := ∃ v, e = .returned v ∧ OwI w' w.heap.size v xs ∧ Below w.heap.size w w'

theorem row_step {ws : List (List UInt8)} {k x y : Nat} (h : after ws 1 x = some y) : row ws (k + 1) x = x :: row ws k y := by rw [row, h]; rfl
theorem after_split {ws : List (List UInt8)} {k x z : Nat} (h : after ws (k + 1) x = some z) : ∃ y, after ws 1 x = some y ∧ after ws k y = some z := by
  rw [Nat.add_comm] at h
  exact after_part h
theorem endS_of {ws : List (List UInt8)} {x y : Nat} (h : after ws 1 x = some y) : endS ws x = (y : Int) := by unfold endS; rw [h]
theorem endI_of {ws : List (List UInt8)} {x y : Nat} (h : after ws 1 x = some y) (hl : ws.length ≤ 60) (hx : x ≤ ws.length) : endI ws x = (y : Int) := by unfold endI; rw [endP_short hl hx, h]
theorem bind_word {l : List UInt8} (h : (l == [98, 105, 110, 100]) = true) : bindW l = true := by unfold bindW; rw [h]; rfl
theorem no_bind_word {l : List UInt8} (h : (l == [98, 105, 110, 100]) = false) (hk : 0 < (needs l).toNat) : bindW l = false := by
  unfold bindW
  rw [h, Bool.false_or]
  cases h2 : (l == [97, 115, 107])
  · rfl
  · have : l = [97, 115, 107] := by simpa using h2
    subst this
    exact absurd hk (by decide)

set_option maxRecDepth 100000 in
set_option maxHeartbeats 4000000 in
theorem l2Parts_any (v : Value) (ss : List ByteArray) (i e0 z : Nat) (w : World) (hR : Row w v ss) (hS : Small ss) (hh : headEnd (wsOf ss) i = some e0) (ha : after (wsOf ss) (kids (wsOf ss) i) e0 = some z) :
    Calls Tryd.prog 79 #[v, .int .i64 (i : Int)] w (Rowed (row (wsOf ss) (kids (wsOf ss) i) e0) w) := by
  have hbd := headEnd_bd hh
  have hl := ws_len ss
  rw [hl] at hbd
  have hs1 := hS.1
  have hlt : i < ss.length := by omega
  have HR := Lib.hid hR
  have HS := Lib.hid hS
  obtain ⟨oa, cap, rfl, h1, h2, h3⟩ := hR
  obtain ⟨b, off, rfl, hb, hc⟩ := h3 i hlt
  have hzs := hS.2 i hlt
  have hws := ws_get hlt
  obtain ⟨s, hs⟩ : ∃ s, ss.getD i ByteArray.empty = s := ⟨_, rfl⟩
  rw [hs] at hc hzs hws
  obtain ⟨n, hn⟩ : ∃ n, ss.length = n := ⟨_, rfl⟩
  rw [hn] at h1 hs1 hlt hl hbd HR ⊢
  have hok : okW s.toList = true := by
    unfold okW
    by_cases h : needs s.toList < 0
    · rw [head_bad hws h] at hh; cases hh
    · simp; omega
  obtain ⟨kd, hkd, hk3, hkn⟩ := needs_nat hok
  have hcn := specNeeds_any s (by unfold maxLen; omega)
  rw [hkd] at hcn
  have hkids : kids (wsOf ss) i = kd := by rw [kids_of hws, hkn]
  rw [hkids] at ha ⊢
  obtain ⟨XS, hXS⟩ : ∃ XS, row (wsOf ss) kd e0 = XS := ⟨_, rfl⟩
  rw [hXS]
  have hneg : ¬ needs s.toList < 0 := by omega
  have hz := after_bd kd e0 z (by rw [hl]; exact hbd.2) ha
  rw [hl] at hz
  -- where the parts begin, if there are any
  have hstart : ∀ t, (s.toList == [98, 105, 110, 100]) = t → 0 < kd → e0 = i + (if t then 2 else 1) := fun t ht hk => by
    cases t
    · have hbw := no_bind_word ht (by omega)
      rw [head_plain hws hneg hbw] at hh
      cases hh; rfl
    · have hbw := bind_word ht
      by_cases hend : n ≤ i + 1
      · rw [head_bind_far hws hbw (by omega)] at hh; cases hh
      · have hwy := ws_get (ss := ss) (i := i + 1) (by omega)
        rw [head_bind hws hneg hbw hwy] at hh
        split at hh
        · cases hh; rfl
        · cases hh
  unfold maxLen at h2
  have Hcn := Lib.hid hcn
  have HX := Lib.hid hXS
  have HA := Lib.hid ha
  have hi0 : (0 : Int) ≤ (i : Int) := by omega
  have hin1 : (i : Int) < (n : Int) := by omega
  clear h3 hs hXS ha hh hcn hkids hkd hkn hws hok hneg hn hl hS
  cases ht : (s.toList == [98, 105, 110, 100])
  all_goals
    have hst := hstart _ ht
    have HST := Lib.hid hst
    clear hst hstart
    go_enter Tryd.func79, Tryd.ntmps79
    go_wp2_with fail
    have hO0 := owI_new w w.heap.size (Nat.le_refl _)
    have hB0 : Below w.heap.size w (w.alloc (.cells #[] 2)) := (Below.refl _ _).alloc (Nat.le_refl _) _
    have hc0 := (hB0.cell (p := ⟨b, off + i, none⟩) hb).trans hc
    generalize Value.slice (some ⟨w.heap.size, 0, none⟩) 0 0 = v0 at hO0 ⊢
    generalize w.alloc (.cells #[] 2) = w0 at hO0 hB0 hc0 ⊢
    have HO0 := Lib.hid hO0
    have HB0 := Lib.hid hB0
    clear hO0 hB0
    refine (Hcn.out _).mono ?_
    rintro e w' ⟨rfl, rfl⟩
    go_wp2_with fail
    go_loopw [5, 6, 7] (fun o q e wr => ∃ (k x : Nat) (y : Int) (acc : List Nat), OwI wr w.heap.size o acc ∧ q = .int .i64 (k : Int) ∧ e = .int .i64 y ∧ (0 < k → y = (x : Int)) ∧ Below w.heap.size w wr ∧ acc ++ row (wsOf ss) k x = XS ∧ after (wsOf ss) k x = some z ∧ x ≤ n ∧ acc.length + k ≤ 3) (fun _ q _ _ => (intOf q).toNat)
    case atStart =>
      exact ⟨kd, e0, _, [], HO0.out, rfl, rfl, fun hk => by have := HST.out hk; simp at this; omega, HB0.out, HX.out, HA.out, hbd.2, by simpa using hk3⟩
    case round =>
      obtain ⟨k, x, y, acc, hO, rfl, rfl, hy, hB, hX, hA, hx, hk⟩ := hrel
      obtain ⟨go1, co1, rfl, hq1, hq2, hgo1, hgw1, _⟩ := hO.form
      have HO := Lib.hid hO
      have HB := Lib.hid hB
      have HXr := Lib.hid hX
      have HAr := Lib.hid hA
      have HY := Lib.hid hy
      clear hO hB hX hA hy
      cases k with
      | zero =>
        go_wp2_with fail
        go_ret
        exact ⟨_, rfl, by have := HXr.out; simp only [row, List.append_nil] at this; rw [← this]; exact HO.out, HB.out⟩
      | succ k =>
        obtain rfl : y = (x : Int) := HY.out (by omega)
        obtain ⟨x', hx', hA'⟩ := after_split HAr.out
        have hxb := after_bd 1 x x' (by have := HR.out; obtain ⟨_, _, he, _⟩ := this; injection he with _ he; rw [ws_len, ← he]; exact hx) hx'
        have hxl : x' ≤ n := by have := HR.out; obtain ⟨_, _, he, _⟩ := this; injection he with _ he; rw [ws_len, ← he] at hxb; exact hxb.2
        obtain ⟨v3, w3, hr3, ho3, hg3⟩ := run_app1 (wr.alloc (.cells #[.int .i64 (x : Int)] 2)) w.heap.size _ acc (HO.out.alloc _) wr.heap.size x (by simp [go_sem]) (by omega) (by have := HB.out.size; simp; omega)
        have HB3 : Hid (Below w.heap.size w w3) := Lib.hid ((HB.out.alloc HB.out.size _).grown hg3 (by have := HB.out.size; simp; omega) (fun q e => by simp [Value.ownBlock] at e; omega))
        have HR3 := Lib.hid hr3
        have HO3 := Lib.hid ho3
        have hes := endS_of hx'
        have hcall := specSumEnd_any _ ss x w3 (HR.out.below HB3.out) HS.out
        rw [hes] at hcall
        have Hcall := Lib.hid hcall
        have HX2 : Hid ((acc ++ [x]) ++ row (wsOf ss) k x' = XS) := Lib.hid (by rw [← HXr.out, row_step hx']; simp)
        have HA2 := Lib.hid hA'
        clear hr3 ho3 hg3 hes hcall hA' hx' hxb
        go_wp2_with (at_builtin; refine wp_app rfl _ _ rfl rfl _ _ rfl rfl HR3.out ?_)
        refine Hcall.out.mono ?_
        rintro e w4 ⟨rfl, hb4⟩
        have HB4 := Lib.hid (HB3.out.trans (hb4.mono HB3.out.size))
        have HO4 := Lib.hid (HO3.out.below hb4)
        clear hb4
        go_wp2_with fail
        go_roundw
        case rel => exact ⟨k, x', _, acc ++ [x], HO4.out, by go_num, rfl, fun _ => rfl, HB4.out, HX2.out, HA2.out, hxl, by rw [List.length_append]; simp; omega⟩
        case measure => simp [intOf]

end L2
end Go.Proofs.YtcfniecdjbgknaaDoor
