/-
  A sum that stands in a sum: each place at which one begins; where its parts begin; the model's and the program's FirstOf.
-/
import Derived.Test.YthlpjpoekfhnfaaDoorGY
import Derived.Test.YthlpjpoekfhnfaaDoorGT
namespace Go.Proofs.YthlpjpoekfhnfaaDoor
open Go.RowKit
namespace L2
open S1 L1

theorem many_mem {g : Nat → Option (List Nat × Nat)} (hb : ∀ e r, g e = some r → e < r.2) : ∀ (k : Nat) (acc : List Nat) (e : Nat) r, many g k acc e = some r → ∀ j, j ∈ r.1 → j ∈ acc ∨ ∃ e' r1, g e' = some r1 ∧ j ∈ r1.1 ∧ e ≤ e' := by
  intro k
  induction k with
  | zero => intro acc e r h j hj; cases h; exact Or.inl hj
  | succ k ih =>
    intro acc e r h j hj
    unfold many at h
    split at h
    · cases h
    · rename_i r1 h1
      have h2 := hb _ _ h1
      rcases ih _ _ _ h j hj with h3 | ⟨e', r2, h3, h4, h5⟩
      · rw [List.mem_append] at h3
        rcases h3 with h3 | h3
        · exact Or.inl h3
        · exact Or.inr ⟨e, r1, h1, h3, Nat.le_refl _⟩
      · exact Or.inr ⟨e', r2, h3, h4, by omega⟩
/-- At each place at which a sum begins there is one. -/
theorem E_mem (ws : List (List UInt8)) : ∀ (n i : Nat) r, ws.length - i ≤ n → E ws i = some r → ∀ j, j ∈ r.1 → ∃ r', E ws j = some r' := by
  intro n
  induction n with
  | zero =>
    intro i r hn h j hj
    have := E_bd h
    omega
  | succ n ih =>
    intro i r hn h j hj
    have h0 := h
    rw [E_eq] at h
    cases hh : headEnd ws i with
    | none => rw [hh] at h; cases h
    | some e =>
      rw [hh] at h
      have hbd := headEnd_bd hh
      rcases many_mem (fun e r h => (E_bd h).1) _ _ _ _ h j hj with h3 | ⟨e', r1, h3, h4, h5⟩
      · rw [List.mem_singleton] at h3
        subst h3
        exact ⟨r, h0⟩
      · have := E_bd h3
        exact ih e' r1 (by omega) h3 j h4
/-- What there is at a place at which a sum begins: its head, its parts, its end. -/
theorem start_of {ws : List (List UInt8)} {x : Int} (h : startsI ws x = true) : okSum ws = true ∧ ∃ (i e y : Nat), x = (i : Int) ∧ i < ws.length ∧ headEnd ws i = some e ∧ after ws (kids ws i) e = some y ∧ after ws 1 i = some y := by
  unfold startsI at h
  rw [Bool.and_eq_true, decide_eq_true_eq] at h
  obtain ⟨hx, h⟩ := h
  have ho : okSum ws = true := by
    unfold startsAt at h
    cases hk : okSum ws
    · rw [hk] at h; simp at h
    · rfl
  obtain ⟨m, hE, hm⟩ := startsAt_mem ho
  obtain ⟨r, hr⟩ := E_mem ws _ 0 _ (Nat.le_refl _) hE _ ((hm _).2 h)
  have h1 : after ws 1 x.toNat = some r.2 := by rw [after_one, hr]; rfl
  have h2 := h1
  rw [after_succ] at h2
  cases hh : headEnd ws x.toNat with
  | none => rw [hh] at h2; cases h2
  | some e =>
    rw [hh] at h2
    have hbd := headEnd_bd hh
    exact ⟨ho, x.toNat, e, r.2, by omega, by omega, hh, h2, h1⟩

/-- Where the sums begin that belong to the word there. -/
def pts (ws : List (List UInt8)) (i : Nat) : List Nat := match headEnd ws i with | none => [] | some e => row ws (kids ws i) e
/-- The k-th of them, where a sum begins there that has as many. -/
def nthI (ws : List (List UInt8)) (x : Int) (k : Nat) : Int := if startsI ws x && decide (k < kids ws x.toNat) then (((pts ws x.toNat).getD k 0 : Nat) : Int) else -1
theorem nthI_no {ws : List (List UInt8)} {x : Int} {k : Nat} (h : startsI ws x = false) : nthI ws x k = -1 := by unfold nthI; rw [h]; rfl
theorem nthI_yes {ws : List (List UInt8)} {i e k : Nat} (h : startsI ws (i : Int) = true) (hh : headEnd ws i = some e) : nthI ws (i : Int) k = if k < kids ws i then (((row ws (kids ws i) e).getD k 0 : Nat) : Int) else -1 := by
  unfold nthI pts
  rw [h, Int.toNat_natCast, hh]
  simp

/-- A sum that is cut out: it is one, and its parts are where they were. -/
theorem sub_sum {ws : List (List UInt8)} {i e y : Nat} (h60 : ws.length ≤ 60) (hi : i < ws.length) (hh : headEnd ws i = some e) (ha : after ws (kids ws i) e = some y) (h1 : after ws 1 i = some y) :
    okSum ((ws.drop i).take (y - i)) = true ∧ parts ((ws.drop i).take (y - i)) = (row ws (kids ws i) e).map (· - i) := by
  have hbd := headEnd_bd hh
  have hby := after_bd _ _ _ (Nat.le_of_lt hi) h1
  have hbe := after_bd _ _ _ hbd.2 ha
  have d1 := after_drop1 (Nat.le_refl i) (Nat.le_of_lt hi) h1
  rw [Nat.sub_self] at d1
  have t1 := after_take _ 1 0 (y - i) (Nat.le_refl _) (Nat.zero_le _) d1 (Nat.le_refl _)
  have hl : ((ws.drop i).take (y - i)).length = y - i := by simp; omega
  have ho : okSum ((ws.drop i).take (y - i)) = true := by
    unfold okSum
    rw [hl, t1]
    simp
    omega
  refine ⟨ho, ?_⟩
  have hd : headEnd (ws.drop i) 0 = some (e - i) := by rw [headEnd_drop, Nat.add_zero, hh]; rfl
  have ht := headEnd_take (n := y - i) hd (by omega)
  have hk : kids ((ws.drop i).take (y - i)) 0 = kids ws i := by rw [kids_take (by omega), kids_drop, Nat.add_zero]
  have hp : partsAt ((ws.drop i).take (y - i)) = e - i := by
    have := (ok_head ho).2.2.2.1
    rw [ht] at this
    injection this with this
    exact this.symm
  have d2 := after_drop1 (a := i) (by omega) hbd.2 ha
  rw [parts_yes ho, hk, hp, row_take _ _ _ (by simp; omega) d2 (Nat.le_refl _), row_drop _ _ _ (by omega) hbd.2 ha]

theorem row_head {ws : List (List UInt8)} {k e : Nat} (hk : 0 < k) : (row ws k e).getD 0 0 = e := by
  cases k with
  | zero => omega
  | succ k => rfl

set_option maxRecDepth 100000 in
set_option maxHeartbeats 2000000 in
theorem specFirstOf_any (v : Value) (ss : List ByteArray) (x : Int) (w : World) (hR : Row w v ss) (hS : Small ss) :
    Calls Tryd.prog 31 #[v, .int .i64 x] w fun e w' => e = .returned (.int .i64 (nthI (wsOf ss) x 0)) ∧ Below w.heap.size w w' := by
  have H := specIsStart_any v ss x w hR hS
  cases ho : startsI (wsOf ss) x
  · rw [nthI_no ho]
    rw [ho] at H
    have H := Lib.hid H
    clear hR hS ho
    go_enter Tryd.func31, Tryd.ntmps31
    go_wp2_with fail
    refine H.out.mono ?_
    rintro e w1 ⟨rfl, hb1⟩
    go_wp2_with fail
    go_ret
    exact ⟨rfl, hb1⟩
  · rw [ho] at H
    obtain ⟨hok, i, e0, y, rfl, hi, hh, ha, -⟩ := start_of ho
    rw [nthI_yes ho hh]
    have hP := fun w1 (hb1 : Below w.heap.size w w1) => l2Parts_any v ss i e0 y w1 (hR.below hb1) hS hh ha
    have hl := ws_len ss
    rw [hl] at hi
    obtain ⟨oa, cap, rfl, h1, h2, h3⟩ := hR
    obtain ⟨b, off, rfl, hb, hc⟩ := h3 i hi
    have hws := ws_get hi
    have hzs := hS.2 i hi
    obtain ⟨s, hs⟩ : ∃ s, ss.getD i ByteArray.empty = s := ⟨_, rfl⟩
    rw [hs] at hc hzs hws
    have hok : okW s.toList = true := by
      unfold okW
      by_cases h : needs s.toList < 0
      · rw [head_bad hws h] at hh; cases hh
      · simp; omega
    obtain ⟨kd, hkd, hk3, hkn⟩ := needs_nat hok
    have hcn := specNeeds_any s (by unfold maxLen; omega)
    rw [hkd] at hcn
    have hkids : kids (wsOf ss) i = kd := by rw [kids_of hws, hkn]
    rw [hkids] at hP ⊢
    obtain ⟨n, hn⟩ : ∃ n, ss.length = n := ⟨_, rfl⟩
    rw [hn] at h1 hi H hP ⊢
    have hi0 : (0 : Int) ≤ (i : Int) := by omega
    have hin1 : (i : Int) < (n : Int) := by omega
    have hcx := fun w1 (hb1 : Below w.heap.size w w1) => (hb1.cell (p := ⟨b, off + i, none⟩) hb).trans hc
    have HC := Lib.hid hcx
    unfold maxLen at h2
    have hrl := row_len (wsOf ss) kd e0
    obtain ⟨XS, hXS⟩ : ∃ XS, row (wsOf ss) kd e0 = XS := ⟨_, rfl⟩
    rw [hXS] at hP hrl ⊢
    have Hcn := Lib.hid hcn
    have H := Lib.hid H
    have HP := Lib.hid hP
    cases kd with
    | zero =>
      clear hS ho hh ha hl h3 hs hws hzs hok hkd hk3 hkn hcn hkids hn hcx hc hP hXS hrl hi
      go_enter Tryd.func31, Tryd.ntmps31
      go_wp2_with fail
      refine H.out.mono ?_
      rintro e w1 ⟨rfl, hb1⟩
      have hc1 := HC.out _ hb1
      go_wp2_with fail
      refine (Hcn.out _).mono ?_
      rintro e w2 ⟨rfl, rfl⟩
      go_wp2_with fail
      go_ret
      exact ⟨rfl, hb1⟩
    | succ kd =>
      have hk1 : ¬ (((kd + 1 : Nat) : Int) < 1) := by omega
      have HRL := Lib.hid hrl
      clear hS ho hh ha hl h3 hs hws hzs hok hkd hkn hcn hkids hn hcx hc hP hXS hrl hi
      go_enter Tryd.func31, Tryd.ntmps31
      go_wp2_with fail
      refine H.out.mono ?_
      rintro e w1 ⟨rfl, hb1⟩
      have hc1 := HC.out _ hb1
      go_wp2_with fail
      refine (Hcn.out _).mono ?_
      rintro e w2 ⟨rfl, rfl⟩
      go_wp2_with fail
      refine (HP.out _ hb1).mono ?_
      rintro e w2 ⟨vr, rfl, ho2, hb2⟩
      obtain ⟨g, cap2, rfl, hq1, hq2, hg1, hg2, hcs⟩ := ho2.form
      have hg0 := (hcs 0 (by rw [HRL.out]; omega)).1
      rw [HRL.out] at hq1 ⊢
      have HB2 := Lib.hid (hb1.trans (hb2.mono hb1.size))
      unfold maxLen at hq2
      clear hcs ho2 hb1 hb2 hc1
      go_wp2_with fail
      go_ret
      refine ⟨?_, HB2.out⟩
      simp

set_option maxRecDepth 100000 in
set_option maxHeartbeats 2000000 in
theorem implFirstOf_any (v : Value) (ss : List ByteArray) (x : Int) (w : World) (hR : Row w v ss) (hS : Small ss) (hV : Vars w) :
    Calls Tryd.prog 32 #[v, .int .i64 x] w fun e w' => e = .returned (.int .i64 (nthI (wsOf ss) x 0)) ∧ Below w.heap.size w w' := by
  have H := implIsStart_any v ss x w hR hS hV
  cases ho : startsI (wsOf ss) x
  · rw [nthI_no ho]
    rw [ho] at H
    have H := Lib.hid H
    clear hR hS ho hV
    go_enter Tryd.func32, Tryd.ntmps32
    go_wp2_with fail
    refine H.out.mono ?_
    rintro e w1 ⟨rfl, hb1⟩
    go_wp2_with fail
    go_ret
    exact ⟨rfl, hb1⟩
  · rw [ho] at H
    obtain ⟨hok, i, e0, y, rfl, hi, hh, ha, hy⟩ := start_of ho
    rw [nthI_yes ho hh]
    obtain ⟨h60, -⟩ := ok_head hok
    obtain ⟨-, hps⟩ := sub_sum h60 hi hh ha hy
    have hby := after_bd _ _ _ (Nat.le_of_lt hi) hy
    have hbd := headEnd_bd hh
    have hl := ws_len ss
    have hE := fun w1 (hb1 : Below w.heap.size w w1) => implSumEnd_any v ss i w1 (hR.below hb1) hS (by omega) (hV.later hb1)
    rw [endI_of hy h60 (Nat.le_of_lt hi)] at hE
    rw [hl] at h60 hi hby hbd
    obtain ⟨oa, cap, rfl, h1, h2, h3⟩ := hR
    obtain ⟨b, off, rfl, hb, -⟩ := h3 i hi
    have h4 : ∀ j, j < ss.length → w.cell? ⟨b, off + j, none⟩ = some (.string (ss.getD j ByteArray.empty)) := fun j hj => by
      obtain ⟨b', off', he, -, hc⟩ := h3 j hj
      injection he with he
      injection he with he1 he2
      subst he1 he2
      exact hc
    have hsubl : ((ss.drop i).take (y - i)).length = y - i := by simp; omega
    have hsub := row_sub rfl h1 h2 hb h4 i (y - i) (y - i) hsubl
    have hsubS : Small ((ss.drop i).take (y - i)) := ⟨by rw [hsubl]; omega, fun j hj => by
      rw [hsubl] at hj
      have e : ((ss.drop i).take (y - i)).getD j ByteArray.empty = ss.getD (i + j) ByteArray.empty := by
        simp [List.getD, hj, List.getElem?_drop]
      rw [e]
      exact hS.2 _ (by omega)⟩
    have hP := fun w1 (hb1 : Below w.heap.size w w1) => implPartsOf_any _ _ w1 (hsub.below hb1) hsubS (hV.later hb1)
    have hwsub : wsOf ((ss.drop i).take (y - i)) = ((wsOf ss).drop i).take (y - i) := by unfold wsOf; rw [List.map_take, List.map_drop]
    rw [hwsub, hps] at hP
    have hrl := row_len (wsOf ss) (kids (wsOf ss) i) e0
    have hrh : 0 < kids (wsOf ss) i → (row (wsOf ss) (kids (wsOf ss) i) e0).getD 0 0 = e0 := row_head
    have hk3 := kids_le (wsOf ss) i
    obtain ⟨kd, hkd⟩ : ∃ kd, kids (wsOf ss) i = kd := ⟨_, rfl⟩
    rw [hkd] at hP hrl hrh hk3 ⊢
    obtain ⟨XS, hXS⟩ : ∃ XS, row (wsOf ss) kd e0 = XS := ⟨_, rfl⟩
    rw [hXS] at hP hrl hrh ⊢
    obtain ⟨n, hn⟩ : ∃ n, ss.length = n := ⟨_, rfl⟩
    rw [hn] at h1 hi H hE hby hbd h60 ⊢
    unfold maxLen at h2
    have hml : (XS.map (· - i)).length = kd := by rw [List.length_map, hrl]
    have hmg : ∀ j, j < kd → (XS.map (· - i)).getD j 0 = XS.getD j 0 - i := fun j hj => by
      have : j < XS.length := by omega
      simp [List.getD, this]
    obtain ⟨YS, hYS⟩ : ∃ YS, XS.map (· - i) = YS := ⟨_, rfl⟩
    rw [hYS] at hP hml hmg
    have H := Lib.hid H
    have HE := Lib.hid hE
    have HP := Lib.hid hP
    have HML := Lib.hid hml
    have hi0 : (0 : Int) ≤ (i : Int) := by omega
    have hiy : (i : Int) ≤ (y : Int) := by omega
    have hy0 : (0 : Int) ≤ (y : Int) := by omega
    have hyn : (y : Int) ≤ (cap : Int) := by omega
    have hyn2 : (y : Int) ≤ (n : Int) := by omega
    have hnc : i < cap := by omega
    cases kd with
    | zero =>
      clear hS ho hh ha hl h3 h4 hn hXS hYS hrl hrh hmg hml hP hE hkd hsub hsubS hwsub hsubl hps hok hV hy
      go_enter Tryd.func32, Tryd.ntmps32
      go_wp2_with fail
      refine H.out.mono ?_
      rintro e w1 ⟨rfl, hb1⟩
      go_wp2_with fail
      refine (HE.out _ hb1).mono ?_
      rintro e w2 ⟨rfl, hb2⟩
      have HB2 := Lib.hid (hb1.trans (hb2.mono hb1.size))
      go_wp2_with fail
      all_goals
      refine (HP.out _ HB2.out).mono ?_
      rintro e w3 ⟨vr, rfl, ho3, hb3⟩
      obtain ⟨g, cap2, rfl, hq1, hq2, hg1, hg2, hcs⟩ := ho3.form
      have HB3 := Lib.hid (HB2.out.trans (hb3.mono HB2.out.size))
      rw [HML.out]
      clear hcs ho3 hb3
      go_wp2_with fail
      go_ret
      exact ⟨rfl, HB3.out⟩
    | succ kd =>
      have hrh := hrh (by omega)
      have hmg := hmg 0 (by omega)
      rw [hrh] at hmg ⊢
      have HMG := Lib.hid hmg
      have hne : (((kd + 1 : Nat) : Int) == 0) = false := by simp; omega
      have hle : (i : Int) + ((e0 - i : Nat) : Int) = (e0 : Int) := by omega
      have HLE := Lib.hid hle
      have hbig : e0 ≤ 60 := by omega
      clear hS ho hh ha hl h3 h4 hn hXS hYS hrl hrh hmg hml hP hE hkd hsub hsubS hwsub hsubl hps hok hV hy hle
      go_enter Tryd.func32, Tryd.ntmps32
      go_wp2_with fail
      refine H.out.mono ?_
      rintro e w1 ⟨rfl, hb1⟩
      go_wp2_with fail
      refine (HE.out _ hb1).mono ?_
      rintro e w2 ⟨rfl, hb2⟩
      have HB2 := Lib.hid (hb1.trans (hb2.mono hb1.size))
      go_wp2_with fail
      all_goals
      refine (HP.out _ HB2.out).mono ?_
      rintro e w3 ⟨vr, rfl, ho3, hb3⟩
      obtain ⟨g, cap2, rfl, hq1, hq2, hg1, hg2, hcs⟩ := ho3.form
      have HB3 := Lib.hid (HB2.out.trans (hb3.mono HB2.out.size))
      have hg0 := (hcs 0 (by rw [HML.out]; omega)).1
      rw [HMG.out] at hg0
      rw [HML.out] at hq1 ⊢
      unfold maxLen at hq2
      clear hcs ho3 hb3
      go_wp2_with fail
      go_ret
      refine ⟨?_, HB3.out⟩
      rw [← HLE.out]
      simp

set_option maxRecDepth 100000 in
set_option maxHeartbeats 2000000 in
theorem lawFirstOf (v : Value) (ss : List ByteArray) (x : Int) (w : World) (hR : Row w v ss) (hz : ∀ i, i < ss.length → (ss.getD i ByteArray.empty).size ≤ maxLen) (hV : Vars w) :
    Calls Tryd.prog 8 #[v, .int .i64 x] w fun e w' => e = .returned (.bool true) ∧ Below w.heap.size w w' := by
  have HV := Lib.hid hV
  have HR := Lib.hid hR
  have HZ := Lib.hid (szStringS_any v ss w hR hz)
  clear hV hR hz
  go_enter Tryd.func8, Tryd.ntmps8
  go_wp2_with fail
  refine HZ.out.mono ?_
  rintro e w1 ⟨rfl, rfl | ⟨y, hy, rfl, hS⟩⟩
  · go_wp2_with fail
    go_ret
    exact ⟨rfl, Below.refl _ _⟩
  · have HS := Lib.hid hS
    have hyn : ¬ y < 0 := by omega
    have hn : ss.length ≤ 1048576 := hS.1
    have hm : ss.length ≤ maxLen := by unfold maxLen; omega
    clear hS
    go_wp2_with fail
    refine (toStringS_any v ss w HR.out hn).mono ?_
    rintro e w1 ⟨rfl, hL1, hb1⟩
    go_wp2_with fail
    refine (specFirstOf_any _ ss x w1 (hL1.row hm) HS.out).mono ?_
    rintro e w2 ⟨rfl, hb2⟩
    have HB2 := Lib.hid (hb1.trans (hb2.mono hb1.size))
    clear hL1 hb1 hb2
    have hq : ∃ q, nthI (wsOf ss) x 0 = q := ⟨_, rfl⟩
    obtain ⟨q, hq⟩ := hq
    rw [hq]
    have HQ := Lib.hid hq
    clear hq
    go_wp2_with fail
    refine (toStringS_any v ss w2 (HR.out.below HB2.out) hn).mono ?_
    rintro e w3 ⟨rfl, hL3, hb3⟩
    have HB3 := Lib.hid (HB2.out.trans (hb3.mono HB2.out.size))
    have HL3 := Lib.hid hL3
    clear hL3 hb3
    go_wp2_with fail
    refine (implFirstOf_any _ ss x w3 (HL3.out.row hm) HS.out (HV.out.later HB3.out)).mono ?_
    rintro e w4 ⟨rfl, hb4⟩
    rw [HQ.out]
    have HB4 := Lib.hid (HB3.out.trans (hb4.mono HB3.out.size))
    have HL4 := Lib.hid (HL3.out.below hb4)
    clear hb4
    go_wp2_with fail
    refine (toStringS_any v ss w4 (HR.out.below HB4.out) hn).mono ?_
    rintro e w5 ⟨rfl, hL5, hb5⟩
    have HB5 := Lib.hid (HB4.out.trans (hb5.mono HB4.out.size))
    have HL5 := Lib.hid (HL4.out.below hb5)
    have HN5 := Lib.hid hL5
    clear hL5 hb5
    go_wp2_with fail
    refine (eqStringS_any _ _ ss w5 (HL5.out.row hm) (HN5.out.row hm)).mono ?_
    rintro e w6 ⟨rfl, hb6⟩
    have HB6 := Lib.hid (HB5.out.trans (hb6.mono HB5.out.size))
    clear hb6
    go_wp2_with fail
    go_ret
    exact ⟨rfl, HB6.out⟩

end L2
end Go.Proofs.YthlpjpoekfhnfaaDoor
