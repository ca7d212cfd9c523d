/-
  Chapter 3's model on lists: laid together, counted, how deep.
-/
import Derived.Test.YtgcjmhecnbhhlaaGreatDoorS5
import Derived.Test.YtgcjmhecnbhhlaaGreatDoorGY
namespace Go.Proofs.YtgcjmhecnbhhlaaGreatDoor
open Go.RowKit
namespace L2
open S1 L1

theorem toList_cat (a b : ByteArray) : (a ++ b).toList = a.toList ++ b.toList := by
  rw [Lib.toList_data, Lib.toList_data, Lib.toList_data, ByteArray.data_append, Array.toList_append]
theorem of_toList {b : ByteArray} {l : List UInt8} (h : b.toList = l) : b = ⟨l.toArray⟩ := by
  rw [← h, Lib.toList_data]
theorem size_list (b : ByteArray) : b.size = b.toList.length := by
  rw [Lib.toList_data]; rfl
theorem join_take {ws : List (List UInt8)} {k : Nat} (hk : k + 1 < ws.length) : Lib.join (ws.take (k + 2)) [32] = Lib.join (ws.take (k + 1)) [32] ++ 32 :: ws.getD (k + 1) [] := by
  cases ws with
  | nil => simp at hk
  | cons x r =>
    have hk' : k < r.length := by simpa using hk
    rw [List.take_succ_cons, List.take_succ_cons, Lib.join_cons, Lib.join_cons, Lib.joinTail_take_succ [32] r k (r.getD k []) (by simp [List.getD, hk'])]
    simp
theorem join_take1 {ws : List (List UInt8)} (hk : 0 < ws.length) : Lib.join (ws.take 1) [32] = ws.getD 0 [] := by
  cases ws with
  | nil => simp at hk
  | cons x r => simp [Lib.join_one]

set_option maxRecDepth 100000 in
set_option maxHeartbeats 1000000 in
theorem l1Words_any (v : Value) (ss : List ByteArray) (w : World) (hR : Row w v ss) (hn : ss.length ≤ 100) (hS : Small ss) :
    Calls Tryz.prog 23 #[v, .string ⟨#[32]⟩] w fun e w' => e = .returned (.string ⟨(Lib.join (wsOf ss) [32]).toArray⟩) ∧ w = w' := by
  obtain ⟨oa, cap, rfl, h1, h2, h3⟩ := hR
  have hl := ws_len ss
  obtain ⟨n, hnn⟩ : ∃ n, ss.length = n := ⟨_, rfl⟩
  rw [hnn] at h1 h3 hn hl ⊢
  unfold maxLen at h2
  have HN := Lib.hid hnn
  have H3 := Lib.hid h3
  have HS := Lib.hid hS
  have HL := Lib.hid hl
  clear hnn h3 hS hl
  go_enter Tryz.func23, Tryz.ntmps23
  go_wp2
  go_loop [5, 6] (fun s i => ∃ (k : Nat) (b : ByteArray), k ≤ n ∧ i = .int .i64 (k : Int) ∧ s = .string b ∧ Hid (b.toList = Lib.join ((wsOf ss).take k) [32]) ∧ b.size ≤ k * 1048577) (fun _ i => n - (intOf i).toNat)
  case atStart => exact ⟨0, ⟨#[]⟩, Nat.zero_le _, rfl, rfl, Lib.hid (by rw [Lib.toList_data]; rfl), by simp [ByteArray.size]⟩
  case round =>
    obtain ⟨k, b, hk, rfl, rfl, hb, hz⟩ := hrel
    by_cases hlt : k < n
    · obtain ⟨X, off, rfl, hX, hc⟩ := H3.out k hlt
      have hsz := HS.out.2 k (by rw [HN.out]; exact hlt)
      have hws : (wsOf ss).getD k [] = (ss.getD k ByteArray.empty).toList := ws_getD (by rw [HN.out]; exact hlt)
      obtain ⟨s, hs⟩ : ∃ s, ss.getD k ByteArray.empty = s := ⟨_, rfl⟩
      rw [hs] at hc hsz hws
      have HW := Lib.hid hws
      clear hs hws
      have hki : (k : Int) < (n : Int) := by omega
      have hzl : b.size ≤ 200000000 := by omega
      have HZ := Lib.hid hz
      clear hz
      by_cases hpos : (0 : Int) < (k : Int)
      · have hkp : ∃ j, k = j + 1 := ⟨k - 1, by omega⟩
        have HK := Lib.hid hkp
        clear hkp
        go_wp2
        go_round
        case rel =>
          refine ⟨k + 1, _, by omega, by go_num, rfl, ?_, ?_⟩
          · obtain ⟨j, rfl⟩ := HK.out
            show _ = _
            rw [toList_cat, toList_cat, hb.out, join_take (by rw [HL.out]; omega), HW.out]
            simp [Lib.toList_data]
          · rw [ByteArray.size_append, ByteArray.size_append]
            have : (⟨#[32]⟩ : ByteArray).size = 1 := rfl
            have := HZ.out
            omega
        case measure => simp [intOf]; omega
      · have hk0 : k = 0 := by omega
        have HK := Lib.hid hk0
        clear hk0
        go_wp2
        go_round
        case rel =>
          refine ⟨k + 1, _, by omega, by go_num, rfl, ?_, ?_⟩
          · have hk0 := HK.out
            subst hk0
            show _ = _
            rw [toList_cat, hb.out, join_take1 (by rw [HL.out]; omega), HW.out]
            simp [Lib.join_nil]
          · rw [ByteArray.size_append]; have := HZ.out; omega
        case measure => simp [intOf]; omega
    · have hki : ¬ (k : Int) < (n : Int) := by omega
      go_wp2
      go_ret
      refine ⟨?_, rfl⟩
      have e := hb.out
      rw [List.take_of_length_le (by rw [HL.out]; omega)] at e
      rw [← of_toList e]
      rfl

/-- The text of a sum. -/
def showB (ss : List ByteArray) : ByteArray := if okSum (wsOf ss) then ⟨(Lib.join (wsOf ss) [32]).toArray⟩ else ⟨#[]⟩
theorem show_yes {ss : List ByteArray} (h : okSum (wsOf ss) = true) : showB ss = ⟨(Lib.join (wsOf ss) [32]).toArray⟩ := by unfold showB; rw [h]; rfl
theorem show_no {ss : List ByteArray} (h : okSum (wsOf ss) = false) : showB ss = ⟨#[]⟩ := by unfold showB; rw [h]; rfl

theorem specShowSum_any (v : Value) (ss : List ByteArray) (w : World) (hR : Row w v ss) (hS : Small ss) :
    Calls Tryz.prog 13 #[v] w fun e w' => e = .returned (.string (showB ss)) ∧ Below w.heap.size w w' := by
  have H := specSumOk_any v ss w hR hS
  cases ho : okSum (wsOf ss)
  · rw [show_no ho]
    rw [ho] at H
    have H := Lib.hid H
    clear hR hS ho
    go_enter Tryz.func13, Tryz.ntmps13
    go_wp2_with fail
    refine H.out.mono ?_
    rintro e w1 ⟨rfl, hb1⟩
    go_wp2_with fail
    go_ret
    exact ⟨rfl, hb1⟩
  · have h60 := (ok_head ho).1
    rw [ws_len] at h60
    rw [show_yes ho]
    rw [ho] at H
    have H := Lib.hid H
    have HR := Lib.hid hR
    have HS := Lib.hid hS
    clear hR hS ho
    go_enter Tryz.func13, Tryz.ntmps13
    go_wp2_with fail
    refine H.out.mono ?_
    rintro e w1 ⟨rfl, hb1⟩
    go_wp2_with fail
    refine (l1Words_any v ss w1 (HR.out.below hb1) (by omega) HS.out).mono ?_
    rintro e w2 ⟨rfl, rfl⟩
    go_wp2_with fail
    go_ret
    exact ⟨rfl, hb1⟩

theorem deep_bd (ws : List (List UInt8)) : ∀ (f i : Nat), dep f ws i ≤ f := by
  intro f
  induction f with
  | zero => intro i; exact Nat.le_refl _
  | succ f ih =>
    intro i
    rw [dep]
    have : ∀ (l : List Nat), maxL (l.map (dep f ws)) ≤ f := by
      intro l
      induction l with
      | nil => simp [maxL]
      | cons a l ihl => simp only [List.map_cons, maxL]; have := ih a; omega
    have := this (row ws (kids ws i) ((headEnd ws i).getD 0))
    omega
theorem maxL_take (l : List Nat) {k : Nat} (hk : k < l.length) : maxL (l.take (k + 1)) = max (maxL (l.take k)) (l.getD k 0) := by
  rw [List.take_add_one]
  have : l[k]? = some (l.getD k 0) := by simp [List.getD, hk]
  rw [this]
  exact maxL_snoc _ _
theorem maxL_le {l : List Nat} {b : Nat} (h : ∀ x ∈ l, x ≤ b) : maxL l ≤ b := by
  induction l with
  | nil => simp [maxL]
  | cons a l ih =>
    have h1 := h a (by simp)
    have h2 := ih (fun x hx => h x (List.mem_cons_of_mem _ hx))
    simp only [maxL]
    omega

theorem l1Max_nat (a b : Nat) (w : World) : Calls Tryz.prog 48 #[.int .i64 (a : Int), .int .i64 (b : Int)] w fun e w' => e = .returned (.int .i64 ((max a b : Nat) : Int)) ∧ w = w' := by
  by_cases h : b < a
  · have h1 : (b : Int) < (a : Int) := by omega
    have e : max a b = a := by omega
    rw [e]
    clear e
    go_enter Tryz.func48, Tryz.ntmps48
    go_wp2
    go_ret
    exact ⟨rfl, rfl⟩
  · have h1 : ¬ (b : Int) < (a : Int) := by omega
    have e : max a b = b := by omega
    rw [e]
    clear e
    go_enter Tryz.func48, Tryz.ntmps48
    go_wp2
    go_ret
    exact ⟨rfl, rfl⟩

set_option maxRecDepth 100000 in
set_option maxHeartbeats 2000000 in
theorem l3Depth_any (ss : List ByteArray) (hS : Small ss) : ∀ (f : Nat) (v : Value) (i x : Nat) (w : World), f ≤ 100 → Row w v ss → ss.length ≤ i + f → after (wsOf ss) 1 i = some x →
    Calls Tryz.prog 34 #[v, .int .i64 (i : Int)] w fun e w' => e = .returned (.int .i64 ((dep f (wsOf ss) i : Nat) : Int)) ∧ Below w.heap.size w w' := by
  intro f
  induction f with
  | zero =>
    intro v i x w hf hR h2 ha
    obtain ⟨_, _, _, _, hlt⟩ := sum_head ha
    rw [ws_len] at hlt
    omega
  | succ f ih =>
    intro v i x w hf hR h2 ha
    obtain ⟨e0, he, hk, hie, hil⟩ := sum_head ha
    have hparts := l2Parts_any v ss i e0 x w hR hS he hk
    have hdep : dep (f + 1) (wsOf ss) i = 1 + maxL ((row (wsOf ss) (kids (wsOf ss) i) e0).map (dep f (wsOf ss))) := by rw [dep, he, Option.getD_some]
    have hps : ∀ p ∈ row (wsOf ss) (kids (wsOf ss) i) e0, e0 ≤ p ∧ ∃ y, after (wsOf ss) 1 p = some y := row_parts _ _ _ hk
    have hlen : (row (wsOf ss) (kids (wsOf ss) i) e0).length ≤ 3 := by rw [row_len]; exact kids_le _ _
    rw [hdep]
    obtain ⟨ps, hpe⟩ : ∃ ps, row (wsOf ss) (kids (wsOf ss) i) e0 = ps := ⟨_, rfl⟩
    rw [hpe] at hparts hps hlen ⊢
    have hmx : ∀ k, maxL ((ps.map (dep f (wsOf ss))).take k) ≤ 100 := fun k => maxL_le (fun y hy => by
      have hy' := List.mem_of_mem_take hy
      obtain ⟨p, _, rfl⟩ := List.mem_map.1 hy'
      have := deep_bd (wsOf ss) f p
      omega)
    have hrec : ∀ k, k < ps.length → ∀ wr, Below w.heap.size w wr → Calls Tryz.prog 34 #[v, .int .i64 ((ps.getD k 0 : Nat) : Int)] wr fun e w' => e = .returned (.int .i64 ((((ps.map (dep f (wsOf ss))).getD k 0 : Nat)) : Int)) ∧ Below wr.heap.size wr w' := fun k hkl wr hb => by
      have hm : ps.getD k 0 ∈ ps := by simp [List.getD, hkl]
      obtain ⟨h3, y, hy⟩ := hps _ hm
      have e : (ps.map (dep f (wsOf ss))).getD k 0 = dep f (wsOf ss) (ps.getD k 0) := by simp [List.getD, hkl]
      rw [e]
      exact ih v (ps.getD k 0) y wr (by omega) (hR.below hb) (by omega) hy
    obtain ⟨ds, hde⟩ : ∃ ds, ps.map (dep f (wsOf ss)) = ds := ⟨_, rfl⟩
    have hdl : ds.length = ps.length := by rw [← hde]; simp
    rw [hde] at hmx hrec ⊢
    have HP := Lib.hid hparts
    have HX := Lib.hid hmx
    have HC := Lib.hid hrec
    have HD := Lib.hid hdl
    clear hparts hdep hps hpe hde hmx hrec ih he hk hR ha hdl
    go_enter Tryz.func34, Tryz.ntmps34
    go_wp2_with fail
    refine HP.out.mono ?_
    rintro e w1 ⟨u, rfl, ho, hb1⟩
    obtain ⟨g, cap, rfl, hc1, hc2, hg1, hg2, hcs⟩ := ho.form
    obtain ⟨n, hn⟩ : ∃ n, ps.length = n := ⟨_, rfl⟩
    rw [hn] at hlen hc1 hcs HC HD ⊢
    have HB1 := Lib.hid hb1
    have HS := Lib.hid hcs
    unfold maxLen at hc2
    clear ho hb1 hcs hn
    go_wp2_with fail
    go_loopw [6, 7] (fun q i wr => ∃ k : Nat, k ≤ n ∧ i = .int .i64 (k : Int) ∧ q = .int .i64 ((maxL (ds.take k) : Nat) : Int) ∧ Below w1.heap.size w1 wr) (fun _ i _ => n - (intOf i).toNat)
    case atStart => exact ⟨0, Nat.zero_le _, rfl, rfl, Below.refl _ _⟩
    case round =>
      obtain ⟨k, hk, rfl, rfl, hb⟩ := hrel
      have HB := Lib.hid hb
      clear hb
      by_cases hlt : k < n
      · have hcell := (HB.out.cell (p := ⟨g, k, none⟩) hg2).trans (HS.out k hlt).1
        have hki : (k : Int) < (n : Int) := by omega
        have hcall := HC.out k hlt wr (HB1.out.trans (HB.out.mono HB1.out.size))
        have hmt := maxL_take ds (k := k) (by rw [HD.out]; exact hlt)
        obtain ⟨z, hz⟩ : ∃ z : Nat, ps.getD k 0 = z := ⟨_, rfl⟩
        obtain ⟨d, hd⟩ : ∃ d : Nat, ds.getD k 0 = d := ⟨_, rfl⟩
        rw [hz] at hcell hcall
        rw [hd] at hcall hmt
        have HMT := Lib.hid hmt
        have HCL := Lib.hid hcall
        clear hz hd hcall hmt
        go_wp2_with fail
        refine HCL.out.mono ?_
        rintro e w2 ⟨rfl, hb2⟩
        go_wp2_with fail
        refine (l1Max_nat _ _ _).mono ?_
        rintro e w3 ⟨rfl, rfl⟩
        go_wp2_with fail
        go_roundw
        case rel => exact ⟨k + 1, by omega, by go_num, by rw [HMT.out], HB.out.trans (hb2.mono HB.out.size)⟩
        case measure => simp [intOf]; omega
      · have hki : ¬ (k : Int) < (n : Int) := by omega
        have hall : ds.take k = ds := List.take_of_length_le (by rw [HD.out]; omega)
        have hb100 := HX.out k
        have HA := Lib.hid hall
        clear hall
        go_wp2_with fail
        go_ret
        refine ⟨?_, HB1.out.trans (HB.out.mono HB1.out.size)⟩
        show Ending.returned (Value.int .i64 (((maxL (ds.take k) : Nat) : Int) + 1)) = Ending.returned (Value.int .i64 ((1 + maxL ds : Nat) : Int))
        rw [HA.out]
        congr 2
        omega

theorem specDepthOf_any (v : Value) (ss : List ByteArray) (w : World) (hR : Row w v ss) (hS : Small ss) :
    Calls Tryz.prog 16 #[v] w fun e w' => e = .returned (.int .i64 ((deepN (wsOf ss) : Nat) : Int)) ∧ Below w.heap.size w w' := by
  have H := specSumOk_any v ss w hR hS
  cases ho : okSum (wsOf ss)
  · have hd : deepN (wsOf ss) = 0 := by unfold deepN; rw [ho]; rfl
    rw [hd]
    rw [ho] at H
    have H := Lib.hid H
    clear hR hS ho hd
    go_enter Tryz.func16, Tryz.ntmps16
    go_wp2_with fail
    refine H.out.mono ?_
    rintro e w1 ⟨rfl, hb1⟩
    go_wp2_with fail
    go_ret
    exact ⟨rfl, hb1⟩
  · obtain ⟨h60, _, h3, _⟩ := ok_head ho
    rw [ws_len] at h60
    have hd : deepN (wsOf ss) = dep ss.length (wsOf ss) 0 := by unfold deepN deep; rw [ho, ws_len]; rfl
    have hc : ∀ w1, Below w.heap.size w w1 → _ := fun w1 hb => l3Depth_any ss hS ss.length v 0 _ w1 (by omega) (hR.below hb) (by omega) h3
    rw [hd]
    rw [ho] at H
    have H := Lib.hid H
    have HC := Lib.hid hc
    generalize dep ss.length (wsOf ss) 0 = d at HC
    clear hR hS ho hd h3 hc
    go_enter Tryz.func16, Tryz.ntmps16
    go_wp2_with fail
    refine H.out.mono ?_
    rintro e w1 ⟨rfl, hb1⟩
    go_wp2_with fail
    refine (HC.out _ hb1).mono ?_
    rintro e w2 ⟨rfl, hb2⟩
    go_wp2_with fail
    go_ret
    exact ⟨rfl, hb1.trans (hb2.mono hb1.size)⟩

theorem beg_st (ss : List ByteArray) (i : Nat) : begB ss i = stB (wsOf ss) i := rfl

set_option maxRecDepth 100000 in
set_option maxHeartbeats 2000000 in
theorem specWordsIn_any (v : Value) (ss : List ByteArray) (t : ByteArray) (w : World) (hR : Row w v ss) (hS : Small ss) :
    Calls Tryz.prog 15 #[v, .string t] w fun e w' => e = .returned (.int .i64 ((wordsN (wsOf ss) t.toList : Nat) : Int)) ∧ Below w.heap.size w w' := by
  have H := fun w1 (hb : Below w.heap.size w w1) => specSumOk_any v ss w1 (hR.below hb) hS
  have HR := Lib.hid hR
  have HS := Lib.hid hS
  have hl := ws_len ss
  obtain ⟨oa, cap, rfl, h1, h2, h3⟩ := hR
  obtain ⟨n, hn⟩ : ∃ n, ss.length = n := ⟨_, rfl⟩
  have HN := Lib.hid hn
  have hs1 := hS.1
  rw [hn] at h1 h3 hl H HR hs1 ⊢
  unfold maxLen at h2
  cases ho : okSum (wsOf ss)
  · have hw0 : wordsN (wsOf ss) t.toList = 0 := by unfold wordsN; rw [ho]; rfl
    rw [hw0]
    simp only [ho] at H
    have H := Lib.hid H
    clear hS ho hl h3 hw0 hn
    go_enter Tryz.func15, Tryz.ntmps15
    go_wp2_with fail
    go_loopw [5, 6] (fun q i wr => i = .int .i64 0 ∧ q = .int .i64 0 ∧ Below w.heap.size w wr) (fun _ _ _ => 0)
    case atStart => exact ⟨rfl, rfl, Below.refl _ _⟩
    case round =>
      obtain ⟨rfl, rfl, hb⟩ := hrel
      have HB := Lib.hid hb
      clear hb
      by_cases hlt : (0 : Int) < (n : Int)
      · go_wp2_with fail
        refine (H.out _ HB.out).mono ?_
        rintro e w1 ⟨rfl, hb1⟩
        go_wp2_with fail
        go_ret
        exact ⟨rfl, HB.out.trans (hb1.mono HB.out.size)⟩
      · go_wp2_with fail
        go_ret
        exact ⟨rfl, HB.out⟩
  · have hw0 : wordsN (wsOf ss) t.toList = wcnt (wsOf ss) t.toList n := by unfold wordsN; rw [ho, hl]; rfl
    rw [hw0]
    simp only [ho] at H
    have H := Lib.hid H
    have HO := Lib.hid ho
    have H3 := Lib.hid h3
    have HI := fun (k : Nat) w1 (hb : Below w.heap.size w w1) => specIsStart_any _ ss (k : Int) w1 (HR.out.below hb) HS.out
    have HIS := Lib.hid HI
    clear hS ho hl h3 hw0 hn HI
    go_enter Tryz.func15, Tryz.ntmps15
    go_wp2_with fail
    go_loopw [5, 6] (fun q i wr => ∃ k : Nat, k ≤ n ∧ i = .int .i64 (k : Int) ∧ q = .int .i64 ((wcnt (wsOf ss) t.toList k : Nat) : Int) ∧ Below w.heap.size w wr) (fun _ i _ => n - (intOf i).toNat)
    case atStart => exact ⟨0, Nat.zero_le _, rfl, rfl, Below.refl _ _⟩
    case round =>
      obtain ⟨k, hk, rfl, rfl, hb⟩ := hrel
      have HB := Lib.hid hb
      clear hb
      by_cases hlt : k < n
      · obtain ⟨X, off, rfl, hX, hc⟩ := H3.out k hlt
        have hws : (wsOf ss).getD k [] = (ss.getD k ByteArray.empty).toList := ws_getD (by rw [HN.out]; exact hlt)
        obtain ⟨s, hs⟩ : ∃ s, ss.getD k ByteArray.empty = s := ⟨_, rfl⟩
        have hki : (k : Int) < (n : Int) := by omega
        have hcn := wcnt_le (wsOf ss) t.toList k
        have hstep : wcnt (wsOf ss) t.toList (k + 1) = wcnt (wsOf ss) t.toList k + if stB (wsOf ss) k && (s.toList == t.toList) then 1 else 0 := by rw [wcnt, hws, hs]
        have hst := startsI_beg HO.out (i := k) (by rw [HN.out]; exact hlt)
        rw [beg_st] at hst
        rw [hs] at hc
        generalize wcnt (wsOf ss) t.toList k = c at hcn hstep
        generalize stB (wsOf ss) k = sb at hstep hst
        have HST := Lib.hid hst
        have HSP := Lib.hid hstep
        clear hs hws hst hstep
        go_wp2_with fail
        refine (H.out _ HB.out).mono ?_
        rintro e w1 ⟨rfl, hb1⟩
        have HB1 := Lib.hid (HB.out.trans (hb1.mono HB.out.size))
        have hc1 := (HB1.out.cell (p := ⟨X, off + k, none⟩) hX).trans hc
        clear hb1 hc
        cases hx : (s.toList == t.toList)
        · go_wp2_with fail
          go_roundw
          case rel => exact ⟨k + 1, by omega, by go_num, by rw [HSP.out, hx]; simp, HB1.out⟩
          case measure => simp [intOf]; omega
        · go_wp2_with fail
          refine (HIS.out k _ HB1.out).mono ?_
          rintro e w2 ⟨rfl, hb2⟩
          rw [HST.out]
          have HB2 := Lib.hid (HB1.out.trans (hb2.mono HB1.out.size))
          clear hb2
          cases sb
          · go_wp2_with fail
            go_roundw
            case rel => exact ⟨k + 1, by omega, by go_num, by rw [HSP.out]; simp, HB2.out⟩
            case measure => simp [intOf]; omega
          · go_wp2_with fail
            go_roundw
            case rel => exact ⟨k + 1, by omega, by go_num, by rw [HSP.out, hx]; go_num, HB2.out⟩
            case measure => simp [intOf]; omega
      · have hki : ¬ (k : Int) < (n : Int) := by omega
        have hkn : n = k := by omega
        have HK := Lib.hid hkn
        clear hkn
        go_wp2_with fail
        go_ret
        exact ⟨by rw [HK.out]; rfl, HB.out⟩

end L2
end Go.Proofs.YtgcjmhecnbhhlaaGreatDoor
