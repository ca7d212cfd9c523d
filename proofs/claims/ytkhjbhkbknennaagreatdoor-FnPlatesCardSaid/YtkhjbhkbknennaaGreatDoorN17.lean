/-
  The program's reading of a plate.
-/
import Derived.Test.YtkhjbhkbknennaaGreatDoorN16
import Derived.Test.YtkhjbhkbknennaaGreatDoorN8
import Derived.Test.YtkhjbhkbknennaaGreatDoorGS
import Derived.Handy
namespace Go.Proofs.YtkhjbhkbknennaaGreatDoor
open Go.RowKit Go.Sort
namespace L2
open S1 L1

set_option maxRecDepth 100000 in
theorem splitN_any (s : ByteArray) (hs : s.size ≤ 1048576) (w : World) :
    Calls Tryz.prog 51 #[.string s, .string ⟨#[47]⟩, .int .i64 4] w (SplitQ s w) := by
  have H := Lib.hid (genSplit_any s hs w)
  go_enter Tryz.func51, Tryz.ntmps51
  go_wp2_with fail
  refine H.out.mono ?_
  rintro e w1 ⟨X, cap, ws, rfl, hR, h4, hx, hb⟩
  have HR := Lib.hid hR
  have H4 := Lib.hid h4
  have HX := Lib.hid hx
  have HB := Lib.hid hb
  clear hR h4 hx hb
  go_wp2_with fail
  go_ret
  exact ⟨X, cap, ws, rfl, HR.out, H4.out, HX.out, HB.out⟩

-- GEN
theorem kindB_list (k : Int) : (kindB k).toList = kindW k := list_of _
theorem cell_word {w : World} (hW : PW w) (k : Nat) (hk : k < 9) : w.cell? ⟨0, k, none⟩ = some (.string (kindB (k : Int))) := hW w (Below.refl _ _) k hk
set_option maxRecDepth 100000 in
set_option maxHeartbeats 4000000 in
theorem kindOf_any (t : ByteArray) (w : World) (hW : PW w) :
    Calls Tryz.prog 52 #[.string t] w fun e w' => e = .returned (.int .i64 (kindN t.toList)) ∧ w = w' := by
  have c0 := cell_word hW 0 (by omega)
  have c1 := cell_word hW 1 (by omega)
  have c2 := cell_word hW 2 (by omega)
  have c3 := cell_word hW 3 (by omega)
  have c4 := cell_word hW 4 (by omega)
  have c5 := cell_word hW 5 (by omega)
  have c6 := cell_word hW 6 (by omega)
  have c7 := cell_word hW 7 (by omega)
  have c8 := cell_word hW 8 (by omega)
  have f0 : ((kindB ((0 : Nat) : Int)).toList == t.toList) = decide (t.toList = kindW 0) := by rw [kindB_list, Bool.eq_iff_iff, beq_iff_eq, decide_eq_true_eq]; exact eq_comm
  have f1 : ((kindB ((1 : Nat) : Int)).toList == t.toList) = decide (t.toList = kindW 1) := by rw [kindB_list, Bool.eq_iff_iff, beq_iff_eq, decide_eq_true_eq]; exact eq_comm
  have f2 : ((kindB ((2 : Nat) : Int)).toList == t.toList) = decide (t.toList = kindW 2) := by rw [kindB_list, Bool.eq_iff_iff, beq_iff_eq, decide_eq_true_eq]; exact eq_comm
  have f3 : ((kindB ((3 : Nat) : Int)).toList == t.toList) = decide (t.toList = kindW 3) := by rw [kindB_list, Bool.eq_iff_iff, beq_iff_eq, decide_eq_true_eq]; exact eq_comm
  have f4 : ((kindB ((4 : Nat) : Int)).toList == t.toList) = decide (t.toList = kindW 4) := by rw [kindB_list, Bool.eq_iff_iff, beq_iff_eq, decide_eq_true_eq]; exact eq_comm
  have f5 : ((kindB ((5 : Nat) : Int)).toList == t.toList) = decide (t.toList = kindW 5) := by rw [kindB_list, Bool.eq_iff_iff, beq_iff_eq, decide_eq_true_eq]; exact eq_comm
  have f6 : ((kindB ((6 : Nat) : Int)).toList == t.toList) = decide (t.toList = kindW 6) := by rw [kindB_list, Bool.eq_iff_iff, beq_iff_eq, decide_eq_true_eq]; exact eq_comm
  have f7 : ((kindB ((7 : Nat) : Int)).toList == t.toList) = decide (t.toList = kindW 7) := by rw [kindB_list, Bool.eq_iff_iff, beq_iff_eq, decide_eq_true_eq]; exact eq_comm
  have f8 : ((kindB ((8 : Nat) : Int)).toList == t.toList) = decide (t.toList = kindW 8) := by rw [kindB_list, Bool.eq_iff_iff, beq_iff_eq, decide_eq_true_eq]; exact eq_comm
  obtain ⟨s0, e0⟩ : ∃ b, kindB ((0 : Nat) : Int) = b := ⟨_, rfl⟩
  rw [e0] at c0 f0
  obtain ⟨s1, e1⟩ : ∃ b, kindB ((1 : Nat) : Int) = b := ⟨_, rfl⟩
  rw [e1] at c1 f1
  obtain ⟨s2, e2⟩ : ∃ b, kindB ((2 : Nat) : Int) = b := ⟨_, rfl⟩
  rw [e2] at c2 f2
  obtain ⟨s3, e3⟩ : ∃ b, kindB ((3 : Nat) : Int) = b := ⟨_, rfl⟩
  rw [e3] at c3 f3
  obtain ⟨s4, e4⟩ : ∃ b, kindB ((4 : Nat) : Int) = b := ⟨_, rfl⟩
  rw [e4] at c4 f4
  obtain ⟨s5, e5⟩ : ∃ b, kindB ((5 : Nat) : Int) = b := ⟨_, rfl⟩
  rw [e5] at c5 f5
  obtain ⟨s6, e6⟩ : ∃ b, kindB ((6 : Nat) : Int) = b := ⟨_, rfl⟩
  rw [e6] at c6 f6
  obtain ⟨s7, e7⟩ : ∃ b, kindB ((7 : Nat) : Int) = b := ⟨_, rfl⟩
  rw [e7] at c7 f7
  obtain ⟨s8, e8⟩ : ∃ b, kindB ((8 : Nat) : Int) = b := ⟨_, rfl⟩
  rw [e8] at c8 f8
  have i0 : ∀ w : World, (Instr.index 73 (.agg #[.string s0, .string s1, .string s2, .string s3, .string s4, .string s5, .string s6, .string s7, .string s8]) (.int .i64 0)).run Tryz.prog w = .ok (.string s0) w := fun _ => by kernel_rfl
  have i1 : ∀ w : World, (Instr.index 73 (.agg #[.string s0, .string s1, .string s2, .string s3, .string s4, .string s5, .string s6, .string s7, .string s8]) (.int .i64 1)).run Tryz.prog w = .ok (.string s1) w := fun _ => by kernel_rfl
  have i2 : ∀ w : World, (Instr.index 73 (.agg #[.string s0, .string s1, .string s2, .string s3, .string s4, .string s5, .string s6, .string s7, .string s8]) (.int .i64 2)).run Tryz.prog w = .ok (.string s2) w := fun _ => by kernel_rfl
  have i3 : ∀ w : World, (Instr.index 73 (.agg #[.string s0, .string s1, .string s2, .string s3, .string s4, .string s5, .string s6, .string s7, .string s8]) (.int .i64 3)).run Tryz.prog w = .ok (.string s3) w := fun _ => by kernel_rfl
  have i4 : ∀ w : World, (Instr.index 73 (.agg #[.string s0, .string s1, .string s2, .string s3, .string s4, .string s5, .string s6, .string s7, .string s8]) (.int .i64 4)).run Tryz.prog w = .ok (.string s4) w := fun _ => by kernel_rfl
  have i5 : ∀ w : World, (Instr.index 73 (.agg #[.string s0, .string s1, .string s2, .string s3, .string s4, .string s5, .string s6, .string s7, .string s8]) (.int .i64 5)).run Tryz.prog w = .ok (.string s5) w := fun _ => by kernel_rfl
  have i6 : ∀ w : World, (Instr.index 73 (.agg #[.string s0, .string s1, .string s2, .string s3, .string s4, .string s5, .string s6, .string s7, .string s8]) (.int .i64 6)).run Tryz.prog w = .ok (.string s6) w := fun _ => by kernel_rfl
  have i7 : ∀ w : World, (Instr.index 73 (.agg #[.string s0, .string s1, .string s2, .string s3, .string s4, .string s5, .string s6, .string s7, .string s8]) (.int .i64 7)).run Tryz.prog w = .ok (.string s7) w := fun _ => by kernel_rfl
  have i8 : ∀ w : World, (Instr.index 73 (.agg #[.string s0, .string s1, .string s2, .string s3, .string s4, .string s5, .string s6, .string s7, .string s8]) (.int .i64 8)).run Tryz.prog w = .ok (.string s8) w := fun _ => by kernel_rfl
  clear hW e0 e1 e2 e3 e4 e5 e6 e7 e8
  by_cases h0 : t.toList = kindW 0
  · have hk : kindN t.toList = 0 := by rw [h0]; decide +kernel
    rw [hk]
    rw [decide_eq_true h0] at f0
    clear f1 f2 f3 f4 f5 f6 f7 f8
    clear hk h0
    go_enter Tryz.func52, Tryz.ntmps52
    go_wp2_with fail
    go_rounds 10
    all_goals
      go_ret
      exact ⟨rfl, rfl⟩
  by_cases h1 : t.toList = kindW 1
  · have hk : kindN t.toList = 1 := by rw [h1]; decide +kernel
    rw [hk]
    rw [decide_eq_false h0] at f0
    rw [decide_eq_true h1] at f1
    clear f2 f3 f4 f5 f6 f7 f8
    clear hk h0 h1
    go_enter Tryz.func52, Tryz.ntmps52
    go_wp2_with fail
    go_rounds 10
    all_goals
      go_ret
      exact ⟨rfl, rfl⟩
  by_cases h2 : t.toList = kindW 2
  · have hk : kindN t.toList = 2 := by rw [h2]; decide +kernel
    rw [hk]
    rw [decide_eq_false h0] at f0
    rw [decide_eq_false h1] at f1
    rw [decide_eq_true h2] at f2
    clear f3 f4 f5 f6 f7 f8
    clear hk h0 h1 h2
    go_enter Tryz.func52, Tryz.ntmps52
    go_wp2_with fail
    go_rounds 10
    all_goals
      go_ret
      exact ⟨rfl, rfl⟩
  by_cases h3 : t.toList = kindW 3
  · have hk : kindN t.toList = 3 := by rw [h3]; decide +kernel
    rw [hk]
    rw [decide_eq_false h0] at f0
    rw [decide_eq_false h1] at f1
    rw [decide_eq_false h2] at f2
    rw [decide_eq_true h3] at f3
    clear f4 f5 f6 f7 f8
    clear hk h0 h1 h2 h3
    go_enter Tryz.func52, Tryz.ntmps52
    go_wp2_with fail
    go_rounds 10
    all_goals
      go_ret
      exact ⟨rfl, rfl⟩
  by_cases h4 : t.toList = kindW 4
  · have hk : kindN t.toList = 4 := by rw [h4]; decide +kernel
    rw [hk]
    rw [decide_eq_false h0] at f0
    rw [decide_eq_false h1] at f1
    rw [decide_eq_false h2] at f2
    rw [decide_eq_false h3] at f3
    rw [decide_eq_true h4] at f4
    clear f5 f6 f7 f8
    clear hk h0 h1 h2 h3 h4
    go_enter Tryz.func52, Tryz.ntmps52
    go_wp2_with fail
    go_rounds 10
    all_goals
      go_ret
      exact ⟨rfl, rfl⟩
  by_cases h5 : t.toList = kindW 5
  · have hk : kindN t.toList = 5 := by rw [h5]; decide +kernel
    rw [hk]
    rw [decide_eq_false h0] at f0
    rw [decide_eq_false h1] at f1
    rw [decide_eq_false h2] at f2
    rw [decide_eq_false h3] at f3
    rw [decide_eq_false h4] at f4
    rw [decide_eq_true h5] at f5
    clear f6 f7 f8
    clear hk h0 h1 h2 h3 h4 h5
    go_enter Tryz.func52, Tryz.ntmps52
    go_wp2_with fail
    go_rounds 10
    all_goals
      go_ret
      exact ⟨rfl, rfl⟩
  by_cases h6 : t.toList = kindW 6
  · have hk : kindN t.toList = 6 := by rw [h6]; decide +kernel
    rw [hk]
    rw [decide_eq_false h0] at f0
    rw [decide_eq_false h1] at f1
    rw [decide_eq_false h2] at f2
    rw [decide_eq_false h3] at f3
    rw [decide_eq_false h4] at f4
    rw [decide_eq_false h5] at f5
    rw [decide_eq_true h6] at f6
    clear f7 f8
    clear hk h0 h1 h2 h3 h4 h5 h6
    go_enter Tryz.func52, Tryz.ntmps52
    go_wp2_with fail
    go_rounds 10
    all_goals
      go_ret
      exact ⟨rfl, rfl⟩
  by_cases h7 : t.toList = kindW 7
  · have hk : kindN t.toList = 7 := by rw [h7]; decide +kernel
    rw [hk]
    rw [decide_eq_false h0] at f0
    rw [decide_eq_false h1] at f1
    rw [decide_eq_false h2] at f2
    rw [decide_eq_false h3] at f3
    rw [decide_eq_false h4] at f4
    rw [decide_eq_false h5] at f5
    rw [decide_eq_false h6] at f6
    rw [decide_eq_true h7] at f7
    clear f8
    clear hk h0 h1 h2 h3 h4 h5 h6 h7
    go_enter Tryz.func52, Tryz.ntmps52
    go_wp2_with fail
    go_rounds 10
    all_goals
      go_ret
      exact ⟨rfl, rfl⟩
  by_cases h8 : t.toList = kindW 8
  · have hk : kindN t.toList = 8 := by rw [h8]; decide +kernel
    rw [hk]
    rw [decide_eq_false h0] at f0
    rw [decide_eq_false h1] at f1
    rw [decide_eq_false h2] at f2
    rw [decide_eq_false h3] at f3
    rw [decide_eq_false h4] at f4
    rw [decide_eq_false h5] at f5
    rw [decide_eq_false h6] at f6
    rw [decide_eq_false h7] at f7
    rw [decide_eq_true h8] at f8
    clear hk h0 h1 h2 h3 h4 h5 h6 h7 h8
    go_enter Tryz.func52, Tryz.ntmps52
    go_wp2_with fail
    go_rounds 10
    all_goals
      go_ret
      exact ⟨rfl, rfl⟩
  have hk : kindN t.toList = 0 := by unfold kindN; rw [if_neg h1, if_neg h2, if_neg h3, if_neg h4, if_neg h5, if_neg h6, if_neg h7, if_neg h8]
  rw [hk]
  rw [decide_eq_false h0] at f0
  rw [decide_eq_false h1] at f1
  rw [decide_eq_false h2] at f2
  rw [decide_eq_false h3] at f3
  rw [decide_eq_false h4] at f4
  rw [decide_eq_false h5] at f5
  rw [decide_eq_false h6] at f6
  rw [decide_eq_false h7] at f7
  rw [decide_eq_false h8] at f8
  clear hk h0 h1 h2 h3 h4 h5 h6 h7 h8
  go_enter Tryz.func52, Tryz.ntmps52
  go_wp2_with fail
  go_rounds 10
  all_goals
    go_ret
    exact ⟨rfl, rfl⟩
theorem Px.other {A : World} {X g i : Nat} (h : Px A X) (hne : X ≠ g) (u : Value) : Px (A.setCell ⟨g, i, none⟩ u) X := by
  refine ⟨by simpa [World.setCell] using h.1, fun j hj => ⟨?_, ?_⟩⟩
  · exact (World.cell?_setCell_other _ _ _ _ (by intro e; injection e with e; exact hne e.symm)).trans (h.2 j hj).1
  · simpa [go_sem] using (h.2 j hj).2

theorem size_setR (A : World) (a : Addr) (u : Value) : (A.setCell a u).heap.size = A.heap.size := by simp [World.setCell]
set_option maxRecDepth 100000 in
set_option maxHeartbeats 4000000 in
theorem implReadPlate_any (s : ByteArray) (hs : s.size ≤ 1048576) (w : World) (hV : Vars w) (hT : PT w) (hW : PW w) :
    Calls Tryz.prog 17 #[.string s] w fun e w' => e = .returned (.tuple #[plV (rdP s.toList), .bool (rdPOk s.toList)]) ∧ Below w.heap.size w w' := by
  have HVV := Lib.hid (fun w1 (hb : Below w.heap.size w w1) => hV.later hb)
  have HTT := Lib.hid (fun w1 (hb : Below w.heap.size w w1) => PT.later hT hb)
  have HWW := Lib.hid (fun w1 (hb : Below w.heap.size w w1) => PW.later hW hb)
  have HSP := Lib.hid (splitN_any s hs)
  clear hV hT hW
  go_enter Tryz.func17, Tryz.ntmps17
  go_wp2_with fail
  refine (HSP.out _).mono ?_
  rintro e w1 ⟨X, cap, ws, rfl, hR, h4, hx, hb1⟩
  have hs1 := hb1.size
  simp at hs1
  have HB1 : Hid (Below w.heap.size w w1) := Lib.hid (((Below.refl _ _).alloc (Nat.le_refl _) _).trans (hb1.mono (by simp)))
  have PX1 := (px_new w _).below hb1
  clear hb1
  obtain ⟨n, hn⟩ : ∃ n, ws.length = n := ⟨_, rfl⟩
  by_cases hn4 : n = 4
  case neg =>
    have hne : ((n : Int) == 4) = false := by simp; omega
    have hno := split4_few h4 (by rw [ws_len, hn]; exact hn4)
    have hrd : rdP s.toList = noPl := by unfold rdP; rw [hno]; rfl
    rw [hn]
    have HRD := Lib.hid hrd
    have HNO := Lib.hid hno
    obtain ⟨x0, f0⟩ := PX1.2 0 (by omega)
    obtain ⟨x1, f1⟩ := PX1.2 1 (by omega)
    obtain ⟨x2, f2⟩ := PX1.2 2 (by omega)
    obtain ⟨x3, f3⟩ := PX1.2 3 (by omega)
    obtain ⟨x4, f4⟩ := PX1.2 4 (by omega)
    obtain ⟨x5, f5⟩ := PX1.2 5 (by omega)
    clear hR h4 hx hn hno hrd PX1
    go_wp2_with fail
    refine bodyPost_ret (v := .tuple #[.agg #[.int .i64 0, .int .i64 0, .int .i64 0, .int .i64 0, .int .i64 0, .int .i64 0], .bool false]) (by simp [results, Tryz.results17, go_sem, *]) rfl ⟨by rw [HRD.out, HNO.out]; rfl, ?_⟩
    exact (((((HB1.out.setCell (Nat.le_refl _) _).setCell (Nat.le_refl _) _).setCell (Nat.le_refl _) _).setCell (Nat.le_refl _) _).setCell (Nat.le_refl _) _).setCell (Nat.le_refl _) _
  case pos =>
    subst hn4
    rw [hn]
    obtain ⟨oa', cap', hvv, -, -, hcs⟩ := hR
    rw [hn] at hvv hcs
    injection hvv with hv1 hv2 hv3
    subst hv1
    have cell : ∀ i, i < 4 → w1.cell? ⟨X, i, none⟩ = some (.string (ws.getD i ByteArray.empty)) := fun i hi => by
      obtain ⟨b, off, hX, -, hc⟩ := hcs i hi
      injection hX with hX
      injection hX with hX1 hX2
      subst hX1 hX2
      rw [Nat.zero_add] at hc
      exact hc
    have c0 := cell 0 (by omega)
    have c1 := cell 1 (by omega)
    have c2 := cell 2 (by omega)
    have c3 := cell 3 (by omega)
    have xl := World.block_lt_of_cell? w1 _ c0
    dsimp only at xl
    have sz : ∀ i, i < 4 → (ws.getD i ByteArray.empty).size ≤ 140737488351232 := fun i hi => by
      have hi' : i < ws.length := by omega
      have e : ws.getD i ByteArray.empty = ws[i] := by simp [List.getD, hi']
      rw [e]
      exact Nat.le_trans (hx _ (List.getElem_mem hi')) (by omega)
    have hK := fun w1 hW => kindOf_any (ws.getD 0 ByteArray.empty) w1 hW
    have hN := fun w1 hV => numberIn_any (ws.getD 1 ByteArray.empty) (sz 1 (by omega)) w1 hV
    have hA := fun w1 hV => implRead_any (ws.getD 2 ByteArray.empty) (sz 2 (by omega)) w1 hV
    have hB := fun w1 hV => implRead_any (ws.getD 3 ByteArray.empty) (sz 3 (by omega)) w1 hV
    rw [← Lib.toList_data] at hA hB
    have hge : ∀ i, i < 4 → (ws.getD i ByteArray.empty).toList = (wsOf ws).getD i [] := fun i hi => by rw [ws_getD (by omega)]
    rw [hge 0 (by omega)] at hK
    rw [hge 1 (by omega)] at hN
    rw [hge 2 (by omega)] at hA
    rw [hge 3 (by omega)] at hB
    obtain ⟨hsame, hval⟩ := read_same h4 (by rw [ws_len, hn])
    have hp : plI (wsOf ws) = ⟨kindN ((wsOf ws).getD 0 []), nIn ((wsOf ws).getD 1 []), rvK ((wsOf ws).getD 2 []), rvN ((wsOf ws).getD 2 []), rvK ((wsOf ws).getD 3 []), rvN ((wsOf ws).getD 3 [])⟩ := rfl
    have hrd : rdP s.toList = if rdPOk s.toList then plI (wsOf ws) else noPl := by
      unfold rdP
      by_cases e : rdPOk s.toList = true
      · rw [if_pos e, if_pos e, hval e]
      · rw [if_neg e, if_neg e]
    rw [← hsame, hp] at hrd
    rw [hp] at hsame
    clear hval hcs cell hx h4 hge hp hn sz hv2 hv3
    generalize kindN ((wsOf ws).getD 0 []) = k at hK hrd hsame
    generalize nIn ((wsOf ws).getD 1 []) = a at hN hrd hsame
    generalize numW ((wsOf ws).getD 1 []) = o1 at hN
    generalize rvK ((wsOf ws).getD 2 []) = b at hA hrd hsame
    generalize rvN ((wsOf ws).getD 2 []) = c at hA hrd hsame
    generalize rvOk ((wsOf ws).getD 2 []) = o2 at hA
    generalize rvK ((wsOf ws).getD 3 []) = d at hB hrd hsame
    generalize rvN ((wsOf ws).getD 3 []) = e at hB hrd hsame
    generalize rvOk ((wsOf ws).getD 3 []) = o3 at hB
    generalize ws.getD 0 ByteArray.empty = p0 at c0 hK
    generalize ws.getD 1 ByteArray.empty = p1 at c1 hN
    generalize ws.getD 2 ByteArray.empty = p2 at c2 hA
    generalize ws.getD 3 ByteArray.empty = p3 at c3 hB
    have HF1 := Lib.hid hrd
    have HF2 := Lib.hid hsame
    clear hrd hsame
    have HK := Lib.hid hK
    have HN := Lib.hid hN
    have HA := Lib.hid hA
    have HBB := Lib.hid hB
    have HSH := Lib.hid (fun w1 hT hW => implShowPlate_any ⟨k, a, b, c, d, e⟩ w1 hT hW)
    clear hK hN hA hB
    have xr : w.heap.size < w1.heap.size := by omega
    go_wp2_with fail
    refine (HK.out w1 (HWW.out _ HB1.out)).mono ?_
    rintro e1 w1' ⟨rfl, rfl⟩
    go_wp2_with fail
    refine (HN.out _ (HVV.out _ (HB1.out.alloc HB1.out.size _))).mono ?_
    rintro e2 w2 ⟨rfl, hb2⟩
    have hs2 := hb2.size
    obtain ⟨hc2, hf2⟩ := bcell hb2
    simp at hs2
    have zp2 : w1.heap.size < w2.heap.size := by omega
    have zx2 : X < w2.heap.size := by omega
    have zr2 : w.heap.size < w2.heap.size := by omega
    have HB2 : Hid (Below w.heap.size w w2) := Lib.hid ((HB1.out.alloc HB1.out.size _).trans (hb2.mono (by simp; omega)))
    have PX2 := (PX1.alloc _).below hb2
    clear hb2 PX1
    have hne : w.heap.size ≠ w1.heap.size := by omega
    go_wp2_with fail
    refine (HA.out _ (HVV.out _ (Below.setCell HB2.out (by dsimp only; omega) _))).mono ?_
    rintro e3 w3 ⟨rfl, hb3⟩
    have hs3 := hb3.size
    obtain ⟨hc3, hf3⟩ := bcell hb3
    simp only [size_setR] at hs3
    have zp3 : w1.heap.size < w3.heap.size := by omega
    have zx3 : X < w3.heap.size := by omega
    have zr3 : w.heap.size < w3.heap.size := by omega
    have HB3 : Hid (Below w.heap.size w w3) := Lib.hid (Below.trans (Below.setCell HB2.out (by dsimp only; omega) _) (hb3.mono (by simp only [size_setR]; omega)))
    have PX3 := Px.below (PX2.other hne _) hb3
    clear hb3
    go_wp2_with fail
    refine (HBB.out _ (HVV.out _ (Below.setCell (Below.setCell HB3.out (by dsimp only; omega) _) (by dsimp only; omega) _))).mono ?_
    rintro e4 w4 ⟨rfl, hb4⟩
    have hs4 := hb4.size
    obtain ⟨hc4, hf4⟩ := bcell hb4
    simp only [size_setR] at hs4
    have zp4 : w1.heap.size < w4.heap.size := by omega
    have zx4 : X < w4.heap.size := by omega
    have zr4 : w.heap.size < w4.heap.size := by omega
    have HB4 : Hid (Below w.heap.size w w4) := Lib.hid (Below.trans (Below.setCell (Below.setCell HB3.out (by dsimp only; omega) _) (by dsimp only; omega) _) (hb4.mono (by simp only [size_setR]; omega)))
    have PX4 := Px.below ((PX3.other hne _).other hne _) hb4
    clear hb4
    go_wp2_with fail
    unfold plV at HSH
    simp only at HSH
    refine (HSH.out _ (HTT.out _ (Below.setCell (Below.setCell HB4.out (by dsimp only; omega) _) (by dsimp only; omega) _)) (HWW.out _ (Below.setCell (Below.setCell HB4.out (by dsimp only; omega) _) (by dsimp only; omega) _))).mono ?_
    rintro e5 w5 ⟨rfl, hb5⟩
    have hs5 := hb5.size
    obtain ⟨hc5, hf5⟩ := bcell hb5
    simp only [size_setR] at hs5
    have zp5 : w1.heap.size < w5.heap.size := by omega
    have zr5 : w.heap.size < w5.heap.size := by omega
    have HB5 : Hid (Below w.heap.size w w5) := Lib.hid (Below.trans (Below.setCell (Below.setCell HB4.out (by dsimp only; omega) _) (by dsimp only; omega) _) (hb5.mono (by simp only [size_setR]; omega)))
    have PX5 := Px.below ((PX4.other hne _).other hne _) hb5
    clear hb5
    obtain ⟨v0, u0⟩ := PX5.2 0 (by omega)
    obtain ⟨v1, u1⟩ := PX5.2 1 (by omega)
    obtain ⟨v2, u2⟩ := PX5.2 2 (by omega)
    obtain ⟨v3, u3⟩ := PX5.2 3 (by omega)
    obtain ⟨v4, u4⟩ := PX5.2 4 (by omega)
    obtain ⟨v5, u5⟩ := PX5.2 5 (by omega)
    clear PX2 PX3 PX4 PX5
    have q0 : w5.cell? ⟨w1.heap.size, 0, none⟩ = some (.int .i64 k) := by simp [hc5, hc4, hc3, hc2, zp2, zp3, zp4, go_sem]
    have q1 : w5.cell? ⟨w1.heap.size, 1, none⟩ = some (.int .i64 a) := by simp [hc5, hc4, hc3, hc2, zp2, zp3, zp4, go_sem]
    have q2 : w5.cell? ⟨w1.heap.size, 2, none⟩ = some (.int .i64 b) := by simp [hc5, hc4, hc3, hc2, zp2, zp3, zp4, go_sem]
    have q3 : w5.cell? ⟨w1.heap.size, 3, none⟩ = some (.int .i64 c) := by simp [hc5, hc4, hc3, hc2, zp2, zp3, zp4, go_sem]
    have q4 : w5.cell? ⟨w1.heap.size, 4, none⟩ = some (.int .i64 d) := by simp [hc5, hc4, hc3, hc2, zp2, zp3, zp4, go_sem]
    have q5 : w5.cell? ⟨w1.heap.size, 5, none⟩ = some (.int .i64 e) := by simp [hc5, hc4, hc3, hc2, zp2, zp3, zp4, go_sem]
    clear hc2 hf2 hc3 hf3 hc4 hf4 hc5 hf5 c0 c1 c2 c3
    obtain ⟨sp, hsp⟩ : ∃ sp, (⟨(showP ⟨k, a, b, c, d, e⟩).toArray⟩ : ByteArray) = sp := ⟨_, rfl⟩
    obtain ⟨tt, htt⟩ : ∃ tt, decide (showP ⟨k, a, b, c, d, e⟩ = s.toList) = tt := ⟨_, rfl⟩
    have hcmp : (sp.toList == s.toList) = tt := by rw [← hsp, list_of, ← htt, Bool.eq_iff_iff, beq_iff_eq, decide_eq_true_eq]
    rw [hsp]
    have hf1 := HF1.out
    have hf2 := HF2.out
    rw [htt] at hf1 hf2
    have HF1 := Lib.hid hf1
    have HF2 := Lib.hid hf2
    clear hf1 hf2
    clear hsp htt
    cases tt
    · go_wp2_with fail
      refine bodyPost_ret (v := .tuple #[.agg #[.int .i64 0, .int .i64 0, .int .i64 0, .int .i64 0, .int .i64 0, .int .i64 0], .bool false]) (by simp [results, Tryz.results17, go_sem, *]) rfl ⟨by rw [HF1.out, ← HF2.out]; rfl, ?_⟩
      exact (((((HB5.out.setCell (Nat.le_refl _) _).setCell (Nat.le_refl _) _).setCell (Nat.le_refl _) _).setCell (Nat.le_refl _) _).setCell (Nat.le_refl _) _).setCell (Nat.le_refl _) _
    · go_wp2_with fail
      refine bodyPost_ret (v := .tuple #[.agg #[.int .i64 k, .int .i64 a, .int .i64 b, .int .i64 c, .int .i64 d, .int .i64 e], .bool true]) (by simp [results, Tryz.results17, go_sem, *]) rfl ⟨by rw [HF1.out, ← HF2.out]; rfl, ?_⟩
      exact (((((HB5.out.setCell (Nat.le_refl _) _).setCell (Nat.le_refl _) _).setCell (Nat.le_refl _) _).setCell (Nat.le_refl _) _).setCell (Nat.le_refl _) _).setCell (Nat.le_refl _) _

end L2
end Go.Proofs.YtkhjbhkbknennaaGreatDoor
