/-
  A sum is made ready, by induction on its length (written by wip/gen_c12.py).
-/
import Derived.Test.YtkhjbhkbknennaaGreatDoorC11
namespace Go.Proofs.YtkhjbhkbknennaaGreatDoor
open Go.RowKit Go.Shelf
namespace L2
open S1 L1

set_option maxRecDepth 100000 in
theorem mk_ofTwo (g0 g1 : Nat) (l0 l1 : Array Value) (gv : Nat) (W : World) :
    Calls Tryz.prog 81 #[.func (.func g0) #[] l0, .func (.func g1) #[] l1, .func (.func gv) #[] #[]] W fun e W' => e = .returned (.func (.func 113) #[] #[.pointer (some ⟨W.heap.size, 0, none⟩), .pointer (some ⟨W.heap.size + 1, 0, none⟩), .pointer (some ⟨W.heap.size + 1 + 1, 0, none⟩)]) ∧ ∃ t0 t1 t2, W' = box3 W (.func (.func g0) #[] l0) (.func (.func g1) #[] l1) (.func (.func gv) #[] #[]) t0 t1 t2 := by
  go_enter Tryz.func81, Tryz.ntmps81
  go_wp2
  go_ret
  exact ⟨rfl, _, _, _, rfl⟩
set_option maxRecDepth 100000 in
theorem mk_saying (g0 : Nat) (l0 : Array Value) (W : World) :
    Calls Tryz.prog 85 #[.func (.func g0) #[] l0] W fun e W' => e = .returned (.func (.func 120) #[] #[.pointer (some ⟨W.heap.size, 0, none⟩)]) ∧ ∃ t0, W' = box1 W (.func (.func g0) #[] l0) t0 := by
  go_enter Tryz.func85, Tryz.ntmps85
  go_wp2
  go_ret
  exact ⟨rfl, _, rfl⟩
set_option maxRecDepth 100000 in
theorem mk_throwing (g0 : Nat) (l0 : Array Value) (W : World) :
    Calls Tryz.prog 89 #[.func (.func g0) #[] l0] W fun e W' => e = .returned (.func (.func 130) #[] #[.pointer (some ⟨W.heap.size, 0, none⟩)]) ∧ ∃ t0, W' = box1 W (.func (.func g0) #[] l0) t0 := by
  go_enter Tryz.func89, Tryz.ntmps89
  go_wp2
  go_ret
  exact ⟨rfl, _, rfl⟩
set_option maxRecDepth 100000 in
theorem mk_choosing (g0 g1 g2 : Nat) (l0 l1 l2 : Array Value) (W : World) :
    Calls Tryz.prog 86 #[.func (.func g0) #[] l0, .func (.func g1) #[] l1, .func (.func g2) #[] l2] W fun e W' => e = .returned (.func (.func 122) #[] #[.pointer (some ⟨W.heap.size, 0, none⟩), .pointer (some ⟨W.heap.size + 1 + 1, 0, none⟩), .pointer (some ⟨W.heap.size + 1, 0, none⟩)]) ∧ ∃ t0 t1 t2, W' = box3 W (.func (.func g0) #[] l0) (.func (.func g1) #[] l1) (.func (.func g2) #[] l2) t0 t1 t2 := by
  go_enter Tryz.func86, Tryz.ntmps86
  go_wp2
  go_ret
  exact ⟨rfl, _, _, _, rfl⟩
set_option maxRecDepth 100000 in
theorem mk_keeping (g0 g1 : Nat) (l0 l1 : Array Value) (W : World) :
    Calls Tryz.prog 87 #[.func (.func g0) #[] l0, .func (.func g1) #[] l1] W fun e W' => e = .returned (.func (.func 125) #[] #[.pointer (some ⟨W.heap.size, 0, none⟩), .pointer (some ⟨W.heap.size + 1, 0, none⟩)]) ∧ ∃ t0 t1, W' = box2 W (.func (.func g0) #[] l0) (.func (.func g1) #[] l1) t0 t1 := by
  go_enter Tryz.func87, Tryz.ntmps87
  go_wp2
  go_ret
  exact ⟨rfl, _, _, rfl⟩
set_option maxRecDepth 100000 in
theorem mk_trying (g0 g1 : Nat) (l0 l1 : Array Value) (W : World) :
    Calls Tryz.prog 90 #[.func (.func g0) #[] l0, .func (.func g1) #[] l1] W fun e W' => e = .returned (.func (.func 133) #[] #[.pointer (some ⟨W.heap.size, 0, none⟩), .pointer (some ⟨W.heap.size + 1, 0, none⟩)]) ∧ ∃ t0 t1, W' = box2 W (.func (.func g0) #[] l0) (.func (.func g1) #[] l1) t0 t1 := by
  go_enter Tryz.func90, Tryz.ntmps90
  go_wp2
  go_ret
  exact ⟨rfl, _, _, rfl⟩
set_option maxRecDepth 100000 in
theorem mk_binding (y : ByteArray) (g0 g1 : Nat) (l0 l1 : Array Value) (W : World) :
    Calls Tryz.prog 88 #[.string y, .func (.func g0) #[] l0, .func (.func g1) #[] l1] W fun e W' => e = .returned (.func (.func 127) #[] #[.pointer (some ⟨W.heap.size + 1, 0, none⟩), .pointer (some ⟨W.heap.size, 0, none⟩), .pointer (some ⟨W.heap.size + 1 + 1, 0, none⟩)]) ∧ ∃ t0 t1 t2, W' = box3 W (.string y) (.func (.func g0) #[] l0) (.func (.func g1) #[] l1) t0 t1 t2 := by
  go_enter Tryz.func88, Tryz.ntmps88
  go_wp2
  go_ret
  exact ⟨rfl, _, _, _, rfl⟩
set_option maxRecDepth 100000 in
theorem mk_asking (y : ByteArray) (W : World) :
    Calls Tryz.prog 80 #[.string y] W fun e W' => e = .returned (.func (.func 112) #[] #[.pointer (some ⟨W.heap.size, 0, none⟩)]) ∧ ∃ t0, W' = box1 W (.string y) t0 := by
  go_enter Tryz.func80, Tryz.ntmps80
  go_wp2
  go_ret
  exact ⟨rfl, _, rfl⟩

theorem mean_head {ws : List (List UInt8)} (h : okSum ws = true) : mean ws 0 = sem (code (ws.getD 0 [])) (ws.getD 0 []) (nameAt ws 0) ((parts ws).map (mean ws)) := by
  obtain ⟨_, _, h3, hh, _⟩ := ok_head h
  rw [mean_eq hh h3, parts_yes h]
theorem getD_deeds {ps : List Nat} (f : Nat → Deed) {i : Nat} (h : i < ps.length) : (ps.map f).getD i noD = f (ps.getD i 0) := by simp [List.getD, h]
theorem parts_kids {ws : List (List UInt8)} (h : okSum ws = true) : (parts ws).length = kids ws 0 := by rw [parts_yes h, row_len]
theorem parts_good {ws : List (List UInt8)} (h : okSum ws = true) (hp : ws.any pieceW = false) {i : Nat} (hi : i < (parts ws).length) : GoodD (mean ws ((parts ws).getD i 0)) := by
  obtain ⟨p, y, e, _, _, _, hy⟩ := part_at h hi
  rw [e]
  exact mean_good hp hy
theorem below_box1 {B : Nat} {a w : World} (h : Below B a w) (hB : B ≤ w.heap.size) (u : Value) (t : TypeId) : Below B a (box1 w u t) := h.alloc hB _
theorem below_box2 {B : Nat} {a w : World} (h : Below B a w) (hB : B ≤ w.heap.size) (u v : Value) (t t' : TypeId) : Below B a (box2 w u v t t') := below_box1 (below_box1 h hB u t) (by rw [box1_size]; omega) v t'
theorem below_box3 {B : Nat} {a w : World} (h : Below B a w) (hB : B ≤ w.heap.size) (u v x : Value) (t t' t'' : TypeId) : Below B a (box3 w u v x t t' t'') := below_box1 (below_box2 h hB u v t t') (by rw [box2_size]; omega) x t''
theorem needs_of_code {x : List UInt8} {c : Nat} (h : code x = c) : needs x = needsTab c (numW x) := by rw [needs_code, h]

set_option maxRecDepth 100000 in
set_option maxHeartbeats 4000000 in
theorem makes_0 {w0 : World} (hV : Vars w0) {N : Nat} (IH : MakesF w0 N) (v : Value) (ss : List ByteArray) (W : World) (hN : ss.length ≤ N) (hB : Below w0.heap.size w0 W) (hR : Row W v ss) (hS : Small ss) (ho : okSum (wsOf ss) = true) (hp : (wsOf ss).any pieceW = false) (hc : code ((wsOf ss).getD 0 []) = 0) :
    Calls Tryz.prog 35 #[v] W (MadeF w0 ss W) := by
  have hwl := ws_len ss
  obtain ⟨h60, hpos, _, hhd, _⟩ := ok_head ho
  rw [hwl] at h60 hpos
  have hDI := deedsIn_any hV IH v ss W hN hB hR hS ho hp
  have hk : (parts (wsOf ss)).length = 0 := by
    rw [parts_kids ho]
    have h := (head_ok hp hhd).2
    rw [needs_of_code hc] at h
    have e : needsTab 0 (numW ((wsOf ss).getD 0 [])) = 0 := rfl
    omega
  have hm : mean (wsOf ss) 0 = argD := by
    rw [mean_head ho, hc]
    rfl
  obtain ⟨t0, t1, t2, t3, t4, t5, t6, t7, t8, t9, t10, t11, t12, t13⟩ := tests ((wsOf ss).getD 0 [])
  rw [hc, ws_getD hpos] at t0 t1 t2 t3 t4 t5 t6 t7 t8 t9 t10 t11 t12 t13
  have hwd := fun w1 (hb : Below W.heap.size W w1) => (hR.below hb)
  obtain ⟨oa, cap, rfl, h1, h2, h3⟩ := hR
  obtain ⟨b, off, rfl, hbl, _⟩ := h3 0 hpos
  have hcl := fun w1 hb => (hwd w1 hb).cells
  have hsz := hS.2 0 hpos
  have HCL := Lib.hid hcl
  have HM := Lib.hid hm
  have HDI := Lib.hid hDI
  have HK := Lib.hid hk
  obtain ⟨len, hlen⟩ : ∃ len, ss.length = len := ⟨_, rfl⟩
  have HL := Lib.hid hlen
  have HPOS := Lib.hid hpos
  obtain ⟨x, hx⟩ : ∃ x, ss.getD 0 ByteArray.empty = x := ⟨_, rfl⟩
  have T0 : (x.toList == [97, 114, 103]) = true := by rw [hx] at t0; exact t0
  have HX := Lib.hid hx
  rw [hlen] at h1 hpos HDI
  unfold maxLen at h2
  have hpos' : (0 : Int) < (len : Int) := by omega
  rw [HL.out]
  clear hwl h60 hhd hDI hk hm t0 t1 t2 t3 t4 t5 t6 t7 t8 t9 t10 t11 t12 t13 hwd h3 hcl hsz hc hp ho hS hB IH hV hN hlen hx
  go_enter Tryz.func35, Tryz.ntmps35
  go_wp2_with fail
  refine HDI.out.mono ?_
  rintro e w1 ⟨g, cp, fs, S, rfl, hfl, hcap, hmx, hgW, hgl, hcs, hds, hb1⟩
  have hx0 := (HCL.out w1 hb1 0 HPOS.out).2
  rw [HX.out, Nat.add_zero] at hx0
  rw [HK.out] at hfl
  rw [hfl] at hcap hcs hds ⊢
  have hW1 := hb1.size
  have HB1 := Lib.hid hb1
  have HW1 := Lib.hid hW1
  unfold maxLen at hmx
  clear hb1 hcs hds hfl
  go_wp2_with fail
  go_ret
  refine ⟨_, fun _ => False, rfl, ?_, ?_, HB1.out⟩
  · rw [HM.out]
    exact arg_made w0 w1
  · exact fun b x => x.elim

set_option maxRecDepth 100000 in
set_option maxHeartbeats 4000000 in
theorem makes_1 {w0 : World} (hV : Vars w0) {N : Nat} (IH : MakesF w0 N) (v : Value) (ss : List ByteArray) (W : World) (hN : ss.length ≤ N) (hB : Below w0.heap.size w0 W) (hR : Row W v ss) (hS : Small ss) (ho : okSum (wsOf ss) = true) (hp : (wsOf ss).any pieceW = false) (hc : code ((wsOf ss).getD 0 []) = 1) :
    Calls Tryz.prog 35 #[v] W (MadeF w0 ss W) := by
  have hwl := ws_len ss
  obtain ⟨h60, hpos, _, hhd, _⟩ := ok_head ho
  rw [hwl] at h60 hpos
  have hDI := deedsIn_any hV IH v ss W hN hB hR hS ho hp
  have hk : (parts (wsOf ss)).length = 0 := by
    rw [parts_kids ho]
    have h := (head_ok hp hhd).2
    rw [needs_of_code hc] at h
    have e : needsTab 1 (numW ((wsOf ss).getD 0 [])) = 0 := rfl
    omega
  have hbw : bindW ((wsOf ss).getD 0 []) = true := by rw [bind_code, hc]; rfl
  have hl2 : 1 < ss.length := by
    have h := headEnd_bd hhd
    rw [hwl] at h
    have e : partsAt (wsOf ss) = 2 := by unfold partsAt; rw [hbw]; rfl
    omega
  have hnm : nameAt (wsOf ss) 0 = (ss.getD 1 ByteArray.empty).toList := by unfold nameAt; rw [hbw, if_pos rfl, ws_getD hl2]
  have hm : mean (wsOf ss) 0 = (askD (ss.getD 1 ByteArray.empty).toList) := by
    rw [mean_head ho, hc]
    rw [hnm]
    rfl
  obtain ⟨t0, t1, t2, t3, t4, t5, t6, t7, t8, t9, t10, t11, t12, t13⟩ := tests ((wsOf ss).getD 0 [])
  rw [hc, ws_getD hpos] at t0 t1 t2 t3 t4 t5 t6 t7 t8 t9 t10 t11 t12 t13
  have hwd := fun w1 (hb : Below W.heap.size W w1) => (hR.below hb)
  obtain ⟨oa, cap, rfl, h1, h2, h3⟩ := hR
  obtain ⟨b, off, rfl, hbl, _⟩ := h3 0 hpos
  have hcl := fun w1 hb => (hwd w1 hb).cells
  have hsz := hS.2 0 hpos
  have HCL := Lib.hid hcl
  have HM := Lib.hid hm
  have HDI := Lib.hid hDI
  have HK := Lib.hid hk
  obtain ⟨len, hlen⟩ : ∃ len, ss.length = len := ⟨_, rfl⟩
  have HL := Lib.hid hlen
  have HPOS := Lib.hid hpos
  have HL2 := Lib.hid hl2
  obtain ⟨x, hx⟩ : ∃ x, ss.getD 0 ByteArray.empty = x := ⟨_, rfl⟩
  have T0 : (x.toList == [97, 114, 103]) = false := by rw [hx] at t0; exact t0
  have T1 : (x.toList == [97, 115, 107]) = true := by rw [hx] at t1; exact t1
  have HX := Lib.hid hx
  rw [hlen] at h1 hpos HDI
  unfold maxLen at h2
  rw [hlen] at hl2
  have hl2' : (1 : Int) < (len : Int) := by omega
  have hpos' : (0 : Int) < (len : Int) := by omega
  rw [HL.out]
  clear hwl h60 hhd hDI hk hm t0 t1 t2 t3 t4 t5 t6 t7 t8 t9 t10 t11 t12 t13 hwd h3 hcl hsz hc hp ho hS hB IH hV hN hlen hx hbw hnm
  go_enter Tryz.func35, Tryz.ntmps35
  go_wp2_with fail
  refine HDI.out.mono ?_
  rintro e w1 ⟨g, cp, fs, S, rfl, hfl, hcap, hmx, hgW, hgl, hcs, hds, hb1⟩
  have hx0 := (HCL.out w1 hb1 0 HPOS.out).2
  rw [HX.out, Nat.add_zero] at hx0
  rw [HK.out] at hfl
  rw [hfl] at hcap hcs hds ⊢
  have hW1 := hb1.size
  have hx1 := (HCL.out w1 hb1 1 HL2.out).2
  obtain ⟨y, hy⟩ : ∃ y, ss.getD 1 ByteArray.empty = y := ⟨_, rfl⟩
  rw [hy] at hx1 HM
  have HB1 := Lib.hid hb1
  have HW1 := Lib.hid hW1
  unfold maxLen at hmx
  clear hb1 hcs hds hfl hy
  go_wp2_with fail
  refine (mk_asking y _).mono ?_
  rintro e w2 ⟨rfl, ta, rfl⟩
  go_wp2_with fail
  go_ret
  refine ⟨_, And1 w1 1 fun _ => False, rfl, ?_, ?_, below_box1 HB1.out HW1.out _ _⟩
  · rw [HM.out]
    exact ask_made w0 w1 y ta
  · exact fun b x => x.elim (fun x => x.elim) (fun x => Nat.le_trans HW1.out x.1)

set_option maxRecDepth 100000 in
set_option maxHeartbeats 4000000 in
theorem makes_2 {w0 : World} (hV : Vars w0) {N : Nat} (IH : MakesF w0 N) (v : Value) (ss : List ByteArray) (W : World) (hN : ss.length ≤ N) (hB : Below w0.heap.size w0 W) (hR : Row W v ss) (hS : Small ss) (ho : okSum (wsOf ss) = true) (hp : (wsOf ss).any pieceW = false) (hc : code ((wsOf ss).getD 0 []) = 2) :
    Calls Tryz.prog 35 #[v] W (MadeF w0 ss W) := by
  have hwl := ws_len ss
  obtain ⟨h60, hpos, _, hhd, _⟩ := ok_head ho
  rw [hwl] at h60 hpos
  have hDI := deedsIn_any hV IH v ss W hN hB hR hS ho hp
  have hk : (parts (wsOf ss)).length = 1 := by
    rw [parts_kids ho]
    have h := (head_ok hp hhd).2
    rw [needs_of_code hc] at h
    have e : needsTab 2 (numW ((wsOf ss).getD 0 [])) = 1 := rfl
    omega
  have hm : mean (wsOf ss) 0 = (sayD (mean (wsOf ss) ((parts (wsOf ss)).getD 0 0))) := by
    rw [mean_head ho, hc]
    show sayD (((parts (wsOf ss)).map (mean (wsOf ss))).getD 0 noD) = _
    rw [getD_deeds _ (show 0 < (parts (wsOf ss)).length by omega)]
  have hg0 := parts_good ho hp (i := 0) (by omega)
  obtain ⟨t0, t1, t2, t3, t4, t5, t6, t7, t8, t9, t10, t11, t12, t13⟩ := tests ((wsOf ss).getD 0 [])
  rw [hc, ws_getD hpos] at t0 t1 t2 t3 t4 t5 t6 t7 t8 t9 t10 t11 t12 t13
  have hwd := fun w1 (hb : Below W.heap.size W w1) => (hR.below hb)
  obtain ⟨oa, cap, rfl, h1, h2, h3⟩ := hR
  obtain ⟨b, off, rfl, hbl, _⟩ := h3 0 hpos
  have hcl := fun w1 hb => (hwd w1 hb).cells
  have hsz := hS.2 0 hpos
  have HCL := Lib.hid hcl
  have HVV := Lib.hid hV
  have HM := Lib.hid hm
  have HDI := Lib.hid hDI
  have HK := Lib.hid hk
  have HG0 := Lib.hid hg0
  obtain ⟨len, hlen⟩ : ∃ len, ss.length = len := ⟨_, rfl⟩
  have HL := Lib.hid hlen
  have HPOS := Lib.hid hpos
  obtain ⟨x, hx⟩ : ∃ x, ss.getD 0 ByteArray.empty = x := ⟨_, rfl⟩
  have T0 : (x.toList == [97, 114, 103]) = false := by rw [hx] at t0; exact t0
  have T1 : (x.toList == [97, 115, 107]) = false := by rw [hx] at t1; exact t1
  have T2 : (x.toList == [115, 97, 121]) = true := by rw [hx] at t2; exact t2
  have T6 : (x.toList == [97, 100, 100]) = false := by rw [hx] at t6; exact t6
  have T7 : (x.toList == [98, 101, 108, 111, 119]) = false := by rw [hx] at t7; exact t7
  have T8 : (x.toList == [98, 111, 116, 104]) = false := by rw [hx] at t8; exact t8
  have HX := Lib.hid hx
  rw [hlen] at h1 hpos HDI
  unfold maxLen at h2
  have hpos' : (0 : Int) < (len : Int) := by omega
  rw [HL.out]
  clear hwl h60 hhd hDI hk hm t0 t1 t2 t3 t4 t5 t6 t7 t8 t9 t10 t11 t12 t13 hwd h3 hcl hsz hc hp ho hS hB IH hV hN hlen hx hg0
  go_enter Tryz.func35, Tryz.ntmps35
  go_wp2_with fail
  refine HDI.out.mono ?_
  rintro e w1 ⟨g, cp, fs, S, rfl, hfl, hcap, hmx, hgW, hgl, hcs, hds, hb1⟩
  have hx0 := (HCL.out w1 hb1 0 HPOS.out).2
  rw [HX.out, Nat.add_zero] at hx0
  rw [HK.out] at hfl
  rw [hfl] at hcap hcs hds ⊢
  have hW1 := hb1.size
  have q0 := hcs 0 (by omega)
  obtain ⟨D0, B0⟩ := hds 0 (by omega)
  obtain ⟨f0, hf0⟩ : ∃ f, fs.getD 0 .nilFunc = f := ⟨_, rfl⟩
  rw [hf0] at q0 D0
  obtain ⟨g0, l0, rfl⟩ := D0.fn
  have HD0 := Lib.hid D0
  have HB0 := Lib.hid B0
  have HB1 := Lib.hid hb1
  have HW1 := Lib.hid hW1
  unfold maxLen at hmx
  clear hb1 hcs hds hfl D0 B0 hf0
  go_wp2_with fail
  refine (mk_saying g0 l0 _).mono ?_
  rintro e w2 ⟨rfl, ta, rfl⟩
  go_wp2_with fail
  go_ret
  refine ⟨_, And1 w1 1 (S 0), rfl, ?_, ?_, below_box1 HB1.out HW1.out _ _⟩
  · rw [HM.out]
    exact say_made HD0.out HG0.out HVV.out ta
  · exact fun b x => x.elim (fun x => HB0.out b x) (fun x => Nat.le_trans HW1.out x.1)

set_option maxRecDepth 100000 in
set_option maxHeartbeats 4000000 in
theorem makes_3 {w0 : World} (hV : Vars w0) {N : Nat} (IH : MakesF w0 N) (v : Value) (ss : List ByteArray) (W : World) (hN : ss.length ≤ N) (hB : Below w0.heap.size w0 W) (hR : Row W v ss) (hS : Small ss) (ho : okSum (wsOf ss) = true) (hp : (wsOf ss).any pieceW = false) (hc : code ((wsOf ss).getD 0 []) = 3) :
    Calls Tryz.prog 35 #[v] W (MadeF w0 ss W) := by
  have hwl := ws_len ss
  obtain ⟨h60, hpos, _, hhd, _⟩ := ok_head ho
  rw [hwl] at h60 hpos
  have hDI := deedsIn_any hV IH v ss W hN hB hR hS ho hp
  have hk : (parts (wsOf ss)).length = 1 := by
    rw [parts_kids ho]
    have h := (head_ok hp hhd).2
    rw [needs_of_code hc] at h
    have e : needsTab 3 (numW ((wsOf ss).getD 0 [])) = 1 := rfl
    omega
  have hm : mean (wsOf ss) 0 = (throwD (mean (wsOf ss) ((parts (wsOf ss)).getD 0 0))) := by
    rw [mean_head ho, hc]
    show throwD (((parts (wsOf ss)).map (mean (wsOf ss))).getD 0 noD) = _
    rw [getD_deeds _ (show 0 < (parts (wsOf ss)).length by omega)]
  have hg0 := parts_good ho hp (i := 0) (by omega)
  obtain ⟨t0, t1, t2, t3, t4, t5, t6, t7, t8, t9, t10, t11, t12, t13⟩ := tests ((wsOf ss).getD 0 [])
  rw [hc, ws_getD hpos] at t0 t1 t2 t3 t4 t5 t6 t7 t8 t9 t10 t11 t12 t13
  have hwd := fun w1 (hb : Below W.heap.size W w1) => (hR.below hb)
  obtain ⟨oa, cap, rfl, h1, h2, h3⟩ := hR
  obtain ⟨b, off, rfl, hbl, _⟩ := h3 0 hpos
  have hcl := fun w1 hb => (hwd w1 hb).cells
  have hsz := hS.2 0 hpos
  have HCL := Lib.hid hcl
  have HM := Lib.hid hm
  have HDI := Lib.hid hDI
  have HK := Lib.hid hk
  have HG0 := Lib.hid hg0
  obtain ⟨len, hlen⟩ : ∃ len, ss.length = len := ⟨_, rfl⟩
  have HL := Lib.hid hlen
  have HPOS := Lib.hid hpos
  obtain ⟨x, hx⟩ : ∃ x, ss.getD 0 ByteArray.empty = x := ⟨_, rfl⟩
  have T0 : (x.toList == [97, 114, 103]) = false := by rw [hx] at t0; exact t0
  have T1 : (x.toList == [97, 115, 107]) = false := by rw [hx] at t1; exact t1
  have T2 : (x.toList == [115, 97, 121]) = false := by rw [hx] at t2; exact t2
  have T3 : (x.toList == [116, 104, 114, 111, 119]) = true := by rw [hx] at t3; exact t3
  have T6 : (x.toList == [97, 100, 100]) = false := by rw [hx] at t6; exact t6
  have T7 : (x.toList == [98, 101, 108, 111, 119]) = false := by rw [hx] at t7; exact t7
  have T8 : (x.toList == [98, 111, 116, 104]) = false := by rw [hx] at t8; exact t8
  have T9 : (x.toList == [107, 101, 101, 112]) = false := by rw [hx] at t9; exact t9
  have T10 : (x.toList == [98, 105, 110, 100]) = false := by rw [hx] at t10; exact t10
  have T13 : (x.toList == [105, 102]) = false := by rw [hx] at t13; exact t13
  have HX := Lib.hid hx
  rw [hlen] at h1 hpos HDI
  unfold maxLen at h2
  have hpos' : (0 : Int) < (len : Int) := by omega
  rw [HL.out]
  clear hwl h60 hhd hDI hk hm t0 t1 t2 t3 t4 t5 t6 t7 t8 t9 t10 t11 t12 t13 hwd h3 hcl hsz hc hp ho hS hB IH hV hN hlen hx hg0
  go_enter Tryz.func35, Tryz.ntmps35
  go_wp2_with fail
  refine HDI.out.mono ?_
  rintro e w1 ⟨g, cp, fs, S, rfl, hfl, hcap, hmx, hgW, hgl, hcs, hds, hb1⟩
  have hx0 := (HCL.out w1 hb1 0 HPOS.out).2
  rw [HX.out, Nat.add_zero] at hx0
  rw [HK.out] at hfl
  rw [hfl] at hcap hcs hds ⊢
  have hW1 := hb1.size
  have q0 := hcs 0 (by omega)
  obtain ⟨D0, B0⟩ := hds 0 (by omega)
  obtain ⟨f0, hf0⟩ : ∃ f, fs.getD 0 .nilFunc = f := ⟨_, rfl⟩
  rw [hf0] at q0 D0
  obtain ⟨g0, l0, rfl⟩ := D0.fn
  have HD0 := Lib.hid D0
  have HB0 := Lib.hid B0
  have HB1 := Lib.hid hb1
  have HW1 := Lib.hid hW1
  unfold maxLen at hmx
  clear hb1 hcs hds hfl D0 B0 hf0
  go_wp2_with fail
  refine (mk_throwing g0 l0 _).mono ?_
  rintro e w2 ⟨rfl, ta, rfl⟩
  go_wp2_with fail
  go_ret
  refine ⟨_, And1 w1 1 (S 0), rfl, ?_, ?_, below_box1 HB1.out HW1.out _ _⟩
  · rw [HM.out]
    exact throw_made HD0.out HG0.out ta
  · exact fun b x => x.elim (fun x => HB0.out b x) (fun x => Nat.le_trans HW1.out x.1)

set_option maxRecDepth 100000 in
set_option maxHeartbeats 4000000 in
theorem makes_6 {w0 : World} (hV : Vars w0) {N : Nat} (IH : MakesF w0 N) (v : Value) (ss : List ByteArray) (W : World) (hN : ss.length ≤ N) (hB : Below w0.heap.size w0 W) (hR : Row W v ss) (hS : Small ss) (ho : okSum (wsOf ss) = true) (hp : (wsOf ss).any pieceW = false) (hc : code ((wsOf ss).getD 0 []) = 6) :
    Calls Tryz.prog 35 #[v] W (MadeF w0 ss W) := by
  have hwl := ws_len ss
  obtain ⟨h60, hpos, _, hhd, _⟩ := ok_head ho
  rw [hwl] at h60 hpos
  have hDI := deedsIn_any hV IH v ss W hN hB hR hS ho hp
  have hk : (parts (wsOf ss)).length = 2 := by
    rw [parts_kids ho]
    have h := (head_ok hp hhd).2
    rw [needs_of_code hc] at h
    have e : needsTab 6 (numW ((wsOf ss).getD 0 [])) = 2 := rfl
    omega
  have hm : mean (wsOf ss) 0 = (twoD addG (mean (wsOf ss) ((parts (wsOf ss)).getD 0 0)) (mean (wsOf ss) ((parts (wsOf ss)).getD 1 0))) := by
    rw [mean_head ho, hc]
    show twoD addG (((parts (wsOf ss)).map (mean (wsOf ss))).getD 0 noD) (((parts (wsOf ss)).map (mean (wsOf ss))).getD 1 noD) = _
    rw [getD_deeds _ (show 0 < (parts (wsOf ss)).length by omega), getD_deeds _ (show 1 < (parts (wsOf ss)).length by omega)]
  have hg0 := parts_good ho hp (i := 0) (by omega)
  have hg1 := parts_good ho hp (i := 1) (by omega)
  obtain ⟨t0, t1, t2, t3, t4, t5, t6, t7, t8, t9, t10, t11, t12, t13⟩ := tests ((wsOf ss).getD 0 [])
  rw [hc, ws_getD hpos] at t0 t1 t2 t3 t4 t5 t6 t7 t8 t9 t10 t11 t12 t13
  have hwd := fun w1 (hb : Below W.heap.size W w1) => (hR.below hb)
  obtain ⟨oa, cap, rfl, h1, h2, h3⟩ := hR
  obtain ⟨b, off, rfl, hbl, _⟩ := h3 0 hpos
  have hcl := fun w1 hb => (hwd w1 hb).cells
  have hsz := hS.2 0 hpos
  have HCL := Lib.hid hcl
  have HM := Lib.hid hm
  have HDI := Lib.hid hDI
  have HK := Lib.hid hk
  have HG0 := Lib.hid hg0
  have HG1 := Lib.hid hg1
  obtain ⟨len, hlen⟩ : ∃ len, ss.length = len := ⟨_, rfl⟩
  have HL := Lib.hid hlen
  have HPOS := Lib.hid hpos
  obtain ⟨x, hx⟩ : ∃ x, ss.getD 0 ByteArray.empty = x := ⟨_, rfl⟩
  have T0 : (x.toList == [97, 114, 103]) = false := by rw [hx] at t0; exact t0
  have T1 : (x.toList == [97, 115, 107]) = false := by rw [hx] at t1; exact t1
  have T6 : (x.toList == [97, 100, 100]) = true := by rw [hx] at t6; exact t6
  have HX := Lib.hid hx
  rw [hlen] at h1 hpos HDI
  unfold maxLen at h2
  have hpos' : (0 : Int) < (len : Int) := by omega
  rw [HL.out]
  clear hwl h60 hhd hDI hk hm t0 t1 t2 t3 t4 t5 t6 t7 t8 t9 t10 t11 t12 t13 hwd h3 hcl hsz hc hp ho hS hB IH hV hN hlen hx hg0 hg1
  go_enter Tryz.func35, Tryz.ntmps35
  go_wp2_with fail
  refine HDI.out.mono ?_
  rintro e w1 ⟨g, cp, fs, S, rfl, hfl, hcap, hmx, hgW, hgl, hcs, hds, hb1⟩
  have hx0 := (HCL.out w1 hb1 0 HPOS.out).2
  rw [HX.out, Nat.add_zero] at hx0
  rw [HK.out] at hfl
  rw [hfl] at hcap hcs hds ⊢
  have hW1 := hb1.size
  have q0 := hcs 0 (by omega)
  obtain ⟨D0, B0⟩ := hds 0 (by omega)
  obtain ⟨f0, hf0⟩ : ∃ f, fs.getD 0 .nilFunc = f := ⟨_, rfl⟩
  rw [hf0] at q0 D0
  obtain ⟨g0, l0, rfl⟩ := D0.fn
  have HD0 := Lib.hid D0
  have HB0 := Lib.hid B0
  have q1 := hcs 1 (by omega)
  obtain ⟨D1, B1⟩ := hds 1 (by omega)
  obtain ⟨f1, hf1⟩ : ∃ f, fs.getD 1 .nilFunc = f := ⟨_, rfl⟩
  rw [hf1] at q1 D1
  obtain ⟨g1, l1, rfl⟩ := D1.fn
  have HD1 := Lib.hid D1
  have HBB1 := Lib.hid B1
  have HB1 := Lib.hid hb1
  have HW1 := Lib.hid hW1
  unfold maxLen at hmx
  clear hb1 hcs hds hfl D0 B0 hf0 D1 B1 hf1
  go_wp2_with fail
  go_region_with (go_at_call 81; refine (mk_ofTwo g0 g1 l0 l1 _ _).mono ?_; rintro e w2 ⟨rfl, ta, tb, tc, rfl⟩)
  all_goals
    go_wp2_with fail
    go_ret
    refine ⟨_, And1 w1 3 (Or2 (S 0) (S 1)), rfl, ?_, ?_, below_box3 HB1.out.drew HW1.out _ _ _ _ _ _ ⟩
    · rw [HM.out]
      exact two_made (HD0.out.later (W2 := w1.drew) (fun _ _ => rfl)) HG0.out (HD1.out.later (W2 := w1.drew) (fun _ _ => rfl)) HG1.out worth_added _ _ _
    · exact fun b x => x.elim (fun x => x.elim (fun x => HB0.out b x) (fun x => HBB1.out b x)) (fun x => Nat.le_trans HW1.out x.1)

set_option maxRecDepth 100000 in
set_option maxHeartbeats 4000000 in
theorem makes_7 {w0 : World} (hV : Vars w0) {N : Nat} (IH : MakesF w0 N) (v : Value) (ss : List ByteArray) (W : World) (hN : ss.length ≤ N) (hB : Below w0.heap.size w0 W) (hR : Row W v ss) (hS : Small ss) (ho : okSum (wsOf ss) = true) (hp : (wsOf ss).any pieceW = false) (hc : code ((wsOf ss).getD 0 []) = 7) :
    Calls Tryz.prog 35 #[v] W (MadeF w0 ss W) := by
  have hwl := ws_len ss
  obtain ⟨h60, hpos, _, hhd, _⟩ := ok_head ho
  rw [hwl] at h60 hpos
  have hDI := deedsIn_any hV IH v ss W hN hB hR hS ho hp
  have hk : (parts (wsOf ss)).length = 2 := by
    rw [parts_kids ho]
    have h := (head_ok hp hhd).2
    rw [needs_of_code hc] at h
    have e : needsTab 7 (numW ((wsOf ss).getD 0 [])) = 2 := rfl
    omega
  have hm : mean (wsOf ss) 0 = (twoD lssG (mean (wsOf ss) ((parts (wsOf ss)).getD 0 0)) (mean (wsOf ss) ((parts (wsOf ss)).getD 1 0))) := by
    rw [mean_head ho, hc]
    show twoD lssG (((parts (wsOf ss)).map (mean (wsOf ss))).getD 0 noD) (((parts (wsOf ss)).map (mean (wsOf ss))).getD 1 noD) = _
    rw [getD_deeds _ (show 0 < (parts (wsOf ss)).length by omega), getD_deeds _ (show 1 < (parts (wsOf ss)).length by omega)]
  have hg0 := parts_good ho hp (i := 0) (by omega)
  have hg1 := parts_good ho hp (i := 1) (by omega)
  obtain ⟨t0, t1, t2, t3, t4, t5, t6, t7, t8, t9, t10, t11, t12, t13⟩ := tests ((wsOf ss).getD 0 [])
  rw [hc, ws_getD hpos] at t0 t1 t2 t3 t4 t5 t6 t7 t8 t9 t10 t11 t12 t13
  have hwd := fun w1 (hb : Below W.heap.size W w1) => (hR.below hb)
  obtain ⟨oa, cap, rfl, h1, h2, h3⟩ := hR
  obtain ⟨b, off, rfl, hbl, _⟩ := h3 0 hpos
  have hcl := fun w1 hb => (hwd w1 hb).cells
  have hsz := hS.2 0 hpos
  have HCL := Lib.hid hcl
  have HM := Lib.hid hm
  have HDI := Lib.hid hDI
  have HK := Lib.hid hk
  have HG0 := Lib.hid hg0
  have HG1 := Lib.hid hg1
  obtain ⟨len, hlen⟩ : ∃ len, ss.length = len := ⟨_, rfl⟩
  have HL := Lib.hid hlen
  have HPOS := Lib.hid hpos
  obtain ⟨x, hx⟩ : ∃ x, ss.getD 0 ByteArray.empty = x := ⟨_, rfl⟩
  have T0 : (x.toList == [97, 114, 103]) = false := by rw [hx] at t0; exact t0
  have T1 : (x.toList == [97, 115, 107]) = false := by rw [hx] at t1; exact t1
  have T6 : (x.toList == [97, 100, 100]) = false := by rw [hx] at t6; exact t6
  have T7 : (x.toList == [98, 101, 108, 111, 119]) = true := by rw [hx] at t7; exact t7
  have HX := Lib.hid hx
  rw [hlen] at h1 hpos HDI
  unfold maxLen at h2
  have hpos' : (0 : Int) < (len : Int) := by omega
  rw [HL.out]
  clear hwl h60 hhd hDI hk hm t0 t1 t2 t3 t4 t5 t6 t7 t8 t9 t10 t11 t12 t13 hwd h3 hcl hsz hc hp ho hS hB IH hV hN hlen hx hg0 hg1
  go_enter Tryz.func35, Tryz.ntmps35
  go_wp2_with fail
  refine HDI.out.mono ?_
  rintro e w1 ⟨g, cp, fs, S, rfl, hfl, hcap, hmx, hgW, hgl, hcs, hds, hb1⟩
  have hx0 := (HCL.out w1 hb1 0 HPOS.out).2
  rw [HX.out, Nat.add_zero] at hx0
  rw [HK.out] at hfl
  rw [hfl] at hcap hcs hds ⊢
  have hW1 := hb1.size
  have q0 := hcs 0 (by omega)
  obtain ⟨D0, B0⟩ := hds 0 (by omega)
  obtain ⟨f0, hf0⟩ : ∃ f, fs.getD 0 .nilFunc = f := ⟨_, rfl⟩
  rw [hf0] at q0 D0
  obtain ⟨g0, l0, rfl⟩ := D0.fn
  have HD0 := Lib.hid D0
  have HB0 := Lib.hid B0
  have q1 := hcs 1 (by omega)
  obtain ⟨D1, B1⟩ := hds 1 (by omega)
  obtain ⟨f1, hf1⟩ : ∃ f, fs.getD 1 .nilFunc = f := ⟨_, rfl⟩
  rw [hf1] at q1 D1
  obtain ⟨g1, l1, rfl⟩ := D1.fn
  have HD1 := Lib.hid D1
  have HBB1 := Lib.hid B1
  have HB1 := Lib.hid hb1
  have HW1 := Lib.hid hW1
  unfold maxLen at hmx
  clear hb1 hcs hds hfl D0 B0 hf0 D1 B1 hf1
  go_wp2_with fail
  go_region_with (go_at_call 81; refine (mk_ofTwo g0 g1 l0 l1 _ _).mono ?_; rintro e w2 ⟨rfl, ta, tb, tc, rfl⟩)
  all_goals
    go_wp2_with fail
    go_ret
    refine ⟨_, And1 w1 3 (Or2 (S 0) (S 1)), rfl, ?_, ?_, below_box3 HB1.out.drew HW1.out _ _ _ _ _ _ ⟩
    · rw [HM.out]
      exact two_made (HD0.out.later (W2 := w1.drew) (fun _ _ => rfl)) HG0.out (HD1.out.later (W2 := w1.drew) (fun _ _ => rfl)) HG1.out worth_below _ _ _
    · exact fun b x => x.elim (fun x => x.elim (fun x => HB0.out b x) (fun x => HBB1.out b x)) (fun x => Nat.le_trans HW1.out x.1)

set_option maxRecDepth 100000 in
set_option maxHeartbeats 4000000 in
theorem makes_8 {w0 : World} (hV : Vars w0) {N : Nat} (IH : MakesF w0 N) (v : Value) (ss : List ByteArray) (W : World) (hN : ss.length ≤ N) (hB : Below w0.heap.size w0 W) (hR : Row W v ss) (hS : Small ss) (ho : okSum (wsOf ss) = true) (hp : (wsOf ss).any pieceW = false) (hc : code ((wsOf ss).getD 0 []) = 8) :
    Calls Tryz.prog 35 #[v] W (MadeF w0 ss W) := by
  have hwl := ws_len ss
  obtain ⟨h60, hpos, _, hhd, _⟩ := ok_head ho
  rw [hwl] at h60 hpos
  have hDI := deedsIn_any hV IH v ss W hN hB hR hS ho hp
  have hk : (parts (wsOf ss)).length = 2 := by
    rw [parts_kids ho]
    have h := (head_ok hp hhd).2
    rw [needs_of_code hc] at h
    have e : needsTab 8 (numW ((wsOf ss).getD 0 [])) = 2 := rfl
    omega
  have hm : mean (wsOf ss) 0 = (twoD bothG (mean (wsOf ss) ((parts (wsOf ss)).getD 0 0)) (mean (wsOf ss) ((parts (wsOf ss)).getD 1 0))) := by
    rw [mean_head ho, hc]
    show twoD bothG (((parts (wsOf ss)).map (mean (wsOf ss))).getD 0 noD) (((parts (wsOf ss)).map (mean (wsOf ss))).getD 1 noD) = _
    rw [getD_deeds _ (show 0 < (parts (wsOf ss)).length by omega), getD_deeds _ (show 1 < (parts (wsOf ss)).length by omega)]
  have hg0 := parts_good ho hp (i := 0) (by omega)
  have hg1 := parts_good ho hp (i := 1) (by omega)
  obtain ⟨t0, t1, t2, t3, t4, t5, t6, t7, t8, t9, t10, t11, t12, t13⟩ := tests ((wsOf ss).getD 0 [])
  rw [hc, ws_getD hpos] at t0 t1 t2 t3 t4 t5 t6 t7 t8 t9 t10 t11 t12 t13
  have hwd := fun w1 (hb : Below W.heap.size W w1) => (hR.below hb)
  obtain ⟨oa, cap, rfl, h1, h2, h3⟩ := hR
  obtain ⟨b, off, rfl, hbl, _⟩ := h3 0 hpos
  have hcl := fun w1 hb => (hwd w1 hb).cells
  have hsz := hS.2 0 hpos
  have HCL := Lib.hid hcl
  have HM := Lib.hid hm
  have HDI := Lib.hid hDI
  have HK := Lib.hid hk
  have HG0 := Lib.hid hg0
  have HG1 := Lib.hid hg1
  obtain ⟨len, hlen⟩ : ∃ len, ss.length = len := ⟨_, rfl⟩
  have HL := Lib.hid hlen
  have HPOS := Lib.hid hpos
  obtain ⟨x, hx⟩ : ∃ x, ss.getD 0 ByteArray.empty = x := ⟨_, rfl⟩
  have T0 : (x.toList == [97, 114, 103]) = false := by rw [hx] at t0; exact t0
  have T1 : (x.toList == [97, 115, 107]) = false := by rw [hx] at t1; exact t1
  have T6 : (x.toList == [97, 100, 100]) = false := by rw [hx] at t6; exact t6
  have T7 : (x.toList == [98, 101, 108, 111, 119]) = false := by rw [hx] at t7; exact t7
  have T8 : (x.toList == [98, 111, 116, 104]) = true := by rw [hx] at t8; exact t8
  have HX := Lib.hid hx
  rw [hlen] at h1 hpos HDI
  unfold maxLen at h2
  have hpos' : (0 : Int) < (len : Int) := by omega
  rw [HL.out]
  clear hwl h60 hhd hDI hk hm t0 t1 t2 t3 t4 t5 t6 t7 t8 t9 t10 t11 t12 t13 hwd h3 hcl hsz hc hp ho hS hB IH hV hN hlen hx hg0 hg1
  go_enter Tryz.func35, Tryz.ntmps35
  go_wp2_with fail
  refine HDI.out.mono ?_
  rintro e w1 ⟨g, cp, fs, S, rfl, hfl, hcap, hmx, hgW, hgl, hcs, hds, hb1⟩
  have hx0 := (HCL.out w1 hb1 0 HPOS.out).2
  rw [HX.out, Nat.add_zero] at hx0
  rw [HK.out] at hfl
  rw [hfl] at hcap hcs hds ⊢
  have hW1 := hb1.size
  have q0 := hcs 0 (by omega)
  obtain ⟨D0, B0⟩ := hds 0 (by omega)
  obtain ⟨f0, hf0⟩ : ∃ f, fs.getD 0 .nilFunc = f := ⟨_, rfl⟩
  rw [hf0] at q0 D0
  obtain ⟨g0, l0, rfl⟩ := D0.fn
  have HD0 := Lib.hid D0
  have HB0 := Lib.hid B0
  have q1 := hcs 1 (by omega)
  obtain ⟨D1, B1⟩ := hds 1 (by omega)
  obtain ⟨f1, hf1⟩ : ∃ f, fs.getD 1 .nilFunc = f := ⟨_, rfl⟩
  rw [hf1] at q1 D1
  obtain ⟨g1, l1, rfl⟩ := D1.fn
  have HD1 := Lib.hid D1
  have HBB1 := Lib.hid B1
  have HB1 := Lib.hid hb1
  have HW1 := Lib.hid hW1
  unfold maxLen at hmx
  clear hb1 hcs hds hfl D0 B0 hf0 D1 B1 hf1
  go_wp2_with fail
  go_region_with (go_at_call 81; refine (mk_ofTwo g0 g1 l0 l1 _ _).mono ?_; rintro e w2 ⟨rfl, ta, tb, tc, rfl⟩)
  all_goals
    go_wp2_with fail
    go_ret
    refine ⟨_, And1 w1 3 (Or2 (S 0) (S 1)), rfl, ?_, ?_, below_box3 HB1.out.drew HW1.out _ _ _ _ _ _ ⟩
    · rw [HM.out]
      exact two_made (HD0.out.later (W2 := w1.drew) (fun _ _ => rfl)) HG0.out (HD1.out.later (W2 := w1.drew) (fun _ _ => rfl)) HG1.out worth_both _ _ _
    · exact fun b x => x.elim (fun x => x.elim (fun x => HB0.out b x) (fun x => HBB1.out b x)) (fun x => Nat.le_trans HW1.out x.1)

set_option maxRecDepth 100000 in
set_option maxHeartbeats 4000000 in
theorem makes_9 {w0 : World} (hV : Vars w0) {N : Nat} (IH : MakesF w0 N) (v : Value) (ss : List ByteArray) (W : World) (hN : ss.length ≤ N) (hB : Below w0.heap.size w0 W) (hR : Row W v ss) (hS : Small ss) (ho : okSum (wsOf ss) = true) (hp : (wsOf ss).any pieceW = false) (hc : code ((wsOf ss).getD 0 []) = 9) :
    Calls Tryz.prog 35 #[v] W (MadeF w0 ss W) := by
  have hwl := ws_len ss
  obtain ⟨h60, hpos, _, hhd, _⟩ := ok_head ho
  rw [hwl] at h60 hpos
  have hDI := deedsIn_any hV IH v ss W hN hB hR hS ho hp
  have hk : (parts (wsOf ss)).length = 2 := by
    rw [parts_kids ho]
    have h := (head_ok hp hhd).2
    rw [needs_of_code hc] at h
    have e : needsTab 9 (numW ((wsOf ss).getD 0 [])) = 2 := rfl
    omega
  have hm : mean (wsOf ss) 0 = (keepD (mean (wsOf ss) ((parts (wsOf ss)).getD 0 0)) (mean (wsOf ss) ((parts (wsOf ss)).getD 1 0))) := by
    rw [mean_head ho, hc]
    show keepD (((parts (wsOf ss)).map (mean (wsOf ss))).getD 0 noD) (((parts (wsOf ss)).map (mean (wsOf ss))).getD 1 noD) = _
    rw [getD_deeds _ (show 0 < (parts (wsOf ss)).length by omega), getD_deeds _ (show 1 < (parts (wsOf ss)).length by omega)]
  have hg0 := parts_good ho hp (i := 0) (by omega)
  have hg1 := parts_good ho hp (i := 1) (by omega)
  obtain ⟨t0, t1, t2, t3, t4, t5, t6, t7, t8, t9, t10, t11, t12, t13⟩ := tests ((wsOf ss).getD 0 [])
  rw [hc, ws_getD hpos] at t0 t1 t2 t3 t4 t5 t6 t7 t8 t9 t10 t11 t12 t13
  have hwd := fun w1 (hb : Below W.heap.size W w1) => (hR.below hb)
  obtain ⟨oa, cap, rfl, h1, h2, h3⟩ := hR
  obtain ⟨b, off, rfl, hbl, _⟩ := h3 0 hpos
  have hcl := fun w1 hb => (hwd w1 hb).cells
  have hsz := hS.2 0 hpos
  have HCL := Lib.hid hcl
  have HM := Lib.hid hm
  have HDI := Lib.hid hDI
  have HK := Lib.hid hk
  have HG0 := Lib.hid hg0
  have HG1 := Lib.hid hg1
  obtain ⟨len, hlen⟩ : ∃ len, ss.length = len := ⟨_, rfl⟩
  have HL := Lib.hid hlen
  have HPOS := Lib.hid hpos
  obtain ⟨x, hx⟩ : ∃ x, ss.getD 0 ByteArray.empty = x := ⟨_, rfl⟩
  have T0 : (x.toList == [97, 114, 103]) = false := by rw [hx] at t0; exact t0
  have T1 : (x.toList == [97, 115, 107]) = false := by rw [hx] at t1; exact t1
  have T2 : (x.toList == [115, 97, 121]) = false := by rw [hx] at t2; exact t2
  have T6 : (x.toList == [97, 100, 100]) = false := by rw [hx] at t6; exact t6
  have T7 : (x.toList == [98, 101, 108, 111, 119]) = false := by rw [hx] at t7; exact t7
  have T8 : (x.toList == [98, 111, 116, 104]) = false := by rw [hx] at t8; exact t8
  have T9 : (x.toList == [107, 101, 101, 112]) = true := by rw [hx] at t9; exact t9
  have T13 : (x.toList == [105, 102]) = false := by rw [hx] at t13; exact t13
  have HX := Lib.hid hx
  rw [hlen] at h1 hpos HDI
  unfold maxLen at h2
  have hpos' : (0 : Int) < (len : Int) := by omega
  rw [HL.out]
  clear hwl h60 hhd hDI hk hm t0 t1 t2 t3 t4 t5 t6 t7 t8 t9 t10 t11 t12 t13 hwd h3 hcl hsz hc hp ho hS hB IH hV hN hlen hx hg0 hg1
  go_enter Tryz.func35, Tryz.ntmps35
  go_wp2_with fail
  refine HDI.out.mono ?_
  rintro e w1 ⟨g, cp, fs, S, rfl, hfl, hcap, hmx, hgW, hgl, hcs, hds, hb1⟩
  have hx0 := (HCL.out w1 hb1 0 HPOS.out).2
  rw [HX.out, Nat.add_zero] at hx0
  rw [HK.out] at hfl
  rw [hfl] at hcap hcs hds ⊢
  have hW1 := hb1.size
  have q0 := hcs 0 (by omega)
  obtain ⟨D0, B0⟩ := hds 0 (by omega)
  obtain ⟨f0, hf0⟩ : ∃ f, fs.getD 0 .nilFunc = f := ⟨_, rfl⟩
  rw [hf0] at q0 D0
  obtain ⟨g0, l0, rfl⟩ := D0.fn
  have HD0 := Lib.hid D0
  have HB0 := Lib.hid B0
  have q1 := hcs 1 (by omega)
  obtain ⟨D1, B1⟩ := hds 1 (by omega)
  obtain ⟨f1, hf1⟩ : ∃ f, fs.getD 1 .nilFunc = f := ⟨_, rfl⟩
  rw [hf1] at q1 D1
  obtain ⟨g1, l1, rfl⟩ := D1.fn
  have HD1 := Lib.hid D1
  have HBB1 := Lib.hid B1
  have HB1 := Lib.hid hb1
  have HW1 := Lib.hid hW1
  unfold maxLen at hmx
  clear hb1 hcs hds hfl D0 B0 hf0 D1 B1 hf1
  go_wp2_with fail
  go_region_with (go_at_call 87; refine (mk_keeping g0 g1 l0 l1 _).mono ?_; rintro e w2 ⟨rfl, ta, tb, rfl⟩)
  all_goals
    go_wp2_with fail
    go_ret
    refine ⟨_, And1 w1 2 (Or2 (S 0) (S 1)), rfl, ?_, ?_, below_box2 HB1.out.drew HW1.out _ _ _ _ ⟩
    · rw [HM.out]
      exact keep_made (HD0.out.later (W2 := w1.drew) (fun _ _ => rfl)) HG0.out (HD1.out.later (W2 := w1.drew) (fun _ _ => rfl)) HG1.out _ _
    · exact fun b x => x.elim (fun x => x.elim (fun x => HB0.out b x) (fun x => HBB1.out b x)) (fun x => Nat.le_trans HW1.out x.1)

set_option maxRecDepth 100000 in
set_option maxHeartbeats 4000000 in
theorem makes_10 {w0 : World} (hV : Vars w0) {N : Nat} (IH : MakesF w0 N) (v : Value) (ss : List ByteArray) (W : World) (hN : ss.length ≤ N) (hB : Below w0.heap.size w0 W) (hR : Row W v ss) (hS : Small ss) (ho : okSum (wsOf ss) = true) (hp : (wsOf ss).any pieceW = false) (hc : code ((wsOf ss).getD 0 []) = 10) :
    Calls Tryz.prog 35 #[v] W (MadeF w0 ss W) := by
  have hwl := ws_len ss
  obtain ⟨h60, hpos, _, hhd, _⟩ := ok_head ho
  rw [hwl] at h60 hpos
  have hDI := deedsIn_any hV IH v ss W hN hB hR hS ho hp
  have hk : (parts (wsOf ss)).length = 2 := by
    rw [parts_kids ho]
    have h := (head_ok hp hhd).2
    rw [needs_of_code hc] at h
    have e : needsTab 10 (numW ((wsOf ss).getD 0 [])) = 2 := rfl
    omega
  have hbw : bindW ((wsOf ss).getD 0 []) = true := by rw [bind_code, hc]; rfl
  have hl2 : 1 < ss.length := by
    have h := headEnd_bd hhd
    rw [hwl] at h
    have e : partsAt (wsOf ss) = 2 := by unfold partsAt; rw [hbw]; rfl
    omega
  have hnm : nameAt (wsOf ss) 0 = (ss.getD 1 ByteArray.empty).toList := by unfold nameAt; rw [hbw, if_pos rfl, ws_getD hl2]
  have hm : mean (wsOf ss) 0 = (bindD (ss.getD 1 ByteArray.empty).toList (mean (wsOf ss) ((parts (wsOf ss)).getD 0 0)) (mean (wsOf ss) ((parts (wsOf ss)).getD 1 0))) := by
    rw [mean_head ho, hc]
    show bindD (nameAt (wsOf ss) 0) (((parts (wsOf ss)).map (mean (wsOf ss))).getD 0 noD) (((parts (wsOf ss)).map (mean (wsOf ss))).getD 1 noD) = _
    rw [getD_deeds _ (show 0 < (parts (wsOf ss)).length by omega), getD_deeds _ (show 1 < (parts (wsOf ss)).length by omega)]
    rw [hnm]
  have hg0 := parts_good ho hp (i := 0) (by omega)
  have hg1 := parts_good ho hp (i := 1) (by omega)
  obtain ⟨t0, t1, t2, t3, t4, t5, t6, t7, t8, t9, t10, t11, t12, t13⟩ := tests ((wsOf ss).getD 0 [])
  rw [hc, ws_getD hpos] at t0 t1 t2 t3 t4 t5 t6 t7 t8 t9 t10 t11 t12 t13
  have hwd := fun w1 (hb : Below W.heap.size W w1) => (hR.below hb)
  obtain ⟨oa, cap, rfl, h1, h2, h3⟩ := hR
  obtain ⟨b, off, rfl, hbl, _⟩ := h3 0 hpos
  have hcl := fun w1 hb => (hwd w1 hb).cells
  have hsz := hS.2 0 hpos
  have HCL := Lib.hid hcl
  have HM := Lib.hid hm
  have HDI := Lib.hid hDI
  have HK := Lib.hid hk
  have HG0 := Lib.hid hg0
  have HG1 := Lib.hid hg1
  obtain ⟨len, hlen⟩ : ∃ len, ss.length = len := ⟨_, rfl⟩
  have HL := Lib.hid hlen
  have HPOS := Lib.hid hpos
  have HL2 := Lib.hid hl2
  obtain ⟨x, hx⟩ : ∃ x, ss.getD 0 ByteArray.empty = x := ⟨_, rfl⟩
  have T0 : (x.toList == [97, 114, 103]) = false := by rw [hx] at t0; exact t0
  have T1 : (x.toList == [97, 115, 107]) = false := by rw [hx] at t1; exact t1
  have T2 : (x.toList == [115, 97, 121]) = false := by rw [hx] at t2; exact t2
  have T6 : (x.toList == [97, 100, 100]) = false := by rw [hx] at t6; exact t6
  have T7 : (x.toList == [98, 101, 108, 111, 119]) = false := by rw [hx] at t7; exact t7
  have T8 : (x.toList == [98, 111, 116, 104]) = false := by rw [hx] at t8; exact t8
  have T9 : (x.toList == [107, 101, 101, 112]) = false := by rw [hx] at t9; exact t9
  have T10 : (x.toList == [98, 105, 110, 100]) = true := by rw [hx] at t10; exact t10
  have T13 : (x.toList == [105, 102]) = false := by rw [hx] at t13; exact t13
  have HX := Lib.hid hx
  rw [hlen] at h1 hpos HDI
  unfold maxLen at h2
  rw [hlen] at hl2
  have hl2' : (1 : Int) < (len : Int) := by omega
  have hpos' : (0 : Int) < (len : Int) := by omega
  rw [HL.out]
  clear hwl h60 hhd hDI hk hm t0 t1 t2 t3 t4 t5 t6 t7 t8 t9 t10 t11 t12 t13 hwd h3 hcl hsz hc hp ho hS hB IH hV hN hlen hx hbw hnm hg0 hg1
  go_enter Tryz.func35, Tryz.ntmps35
  go_wp2_with fail
  refine HDI.out.mono ?_
  rintro e w1 ⟨g, cp, fs, S, rfl, hfl, hcap, hmx, hgW, hgl, hcs, hds, hb1⟩
  have hx0 := (HCL.out w1 hb1 0 HPOS.out).2
  rw [HX.out, Nat.add_zero] at hx0
  rw [HK.out] at hfl
  rw [hfl] at hcap hcs hds ⊢
  have hW1 := hb1.size
  have hx1 := (HCL.out w1 hb1 1 HL2.out).2
  obtain ⟨y, hy⟩ : ∃ y, ss.getD 1 ByteArray.empty = y := ⟨_, rfl⟩
  rw [hy] at hx1 HM
  have q0 := hcs 0 (by omega)
  obtain ⟨D0, B0⟩ := hds 0 (by omega)
  obtain ⟨f0, hf0⟩ : ∃ f, fs.getD 0 .nilFunc = f := ⟨_, rfl⟩
  rw [hf0] at q0 D0
  obtain ⟨g0, l0, rfl⟩ := D0.fn
  have HD0 := Lib.hid D0
  have HB0 := Lib.hid B0
  have q1 := hcs 1 (by omega)
  obtain ⟨D1, B1⟩ := hds 1 (by omega)
  obtain ⟨f1, hf1⟩ : ∃ f, fs.getD 1 .nilFunc = f := ⟨_, rfl⟩
  rw [hf1] at q1 D1
  obtain ⟨g1, l1, rfl⟩ := D1.fn
  have HD1 := Lib.hid D1
  have HBB1 := Lib.hid B1
  have HB1 := Lib.hid hb1
  have HW1 := Lib.hid hW1
  unfold maxLen at hmx
  clear hb1 hcs hds hfl D0 B0 hf0 D1 B1 hf1 hy
  go_wp2_with fail
  go_region_with (go_at_call 88; refine (mk_binding y g0 g1 l0 l1 _).mono ?_; rintro e w2 ⟨rfl, ta, tb, tc, rfl⟩)
  all_goals
    go_wp2_with fail
    go_ret
    refine ⟨_, And1 w1 3 (Or2 (S 0) (S 1)), rfl, ?_, ?_, below_box3 HB1.out.drew HW1.out _ _ _ _ _ _ ⟩
    · rw [HM.out]
      exact bind_made y (HD0.out.later (W2 := w1.drew) (fun _ _ => rfl)) HG0.out (HD1.out.later (W2 := w1.drew) (fun _ _ => rfl)) _ _ _
    · exact fun b x => x.elim (fun x => x.elim (fun x => HB0.out b x) (fun x => HBB1.out b x)) (fun x => Nat.le_trans HW1.out x.1)

set_option maxRecDepth 100000 in
set_option maxHeartbeats 4000000 in
theorem makes_11 {w0 : World} (hV : Vars w0) {N : Nat} (IH : MakesF w0 N) (v : Value) (ss : List ByteArray) (W : World) (hN : ss.length ≤ N) (hB : Below w0.heap.size w0 W) (hR : Row W v ss) (hS : Small ss) (ho : okSum (wsOf ss) = true) (hp : (wsOf ss).any pieceW = false) (hc : code ((wsOf ss).getD 0 []) = 11) :
    Calls Tryz.prog 35 #[v] W (MadeF w0 ss W) := by
  have hwl := ws_len ss
  obtain ⟨h60, hpos, _, hhd, _⟩ := ok_head ho
  rw [hwl] at h60 hpos
  have hDI := deedsIn_any hV IH v ss W hN hB hR hS ho hp
  have hk : (parts (wsOf ss)).length = 2 := by
    rw [parts_kids ho]
    have h := (head_ok hp hhd).2
    rw [needs_of_code hc] at h
    have e : needsTab 11 (numW ((wsOf ss).getD 0 [])) = 2 := rfl
    omega
  have hm : mean (wsOf ss) 0 = (tryD (mean (wsOf ss) ((parts (wsOf ss)).getD 0 0)) (mean (wsOf ss) ((parts (wsOf ss)).getD 1 0))) := by
    rw [mean_head ho, hc]
    show tryD (((parts (wsOf ss)).map (mean (wsOf ss))).getD 0 noD) (((parts (wsOf ss)).map (mean (wsOf ss))).getD 1 noD) = _
    rw [getD_deeds _ (show 0 < (parts (wsOf ss)).length by omega), getD_deeds _ (show 1 < (parts (wsOf ss)).length by omega)]
  have hg0 := parts_good ho hp (i := 0) (by omega)
  have hg1 := parts_good ho hp (i := 1) (by omega)
  obtain ⟨t0, t1, t2, t3, t4, t5, t6, t7, t8, t9, t10, t11, t12, t13⟩ := tests ((wsOf ss).getD 0 [])
  rw [hc, ws_getD hpos] at t0 t1 t2 t3 t4 t5 t6 t7 t8 t9 t10 t11 t12 t13
  have hwd := fun w1 (hb : Below W.heap.size W w1) => (hR.below hb)
  obtain ⟨oa, cap, rfl, h1, h2, h3⟩ := hR
  obtain ⟨b, off, rfl, hbl, _⟩ := h3 0 hpos
  have hcl := fun w1 hb => (hwd w1 hb).cells
  have hsz := hS.2 0 hpos
  have HCL := Lib.hid hcl
  have HM := Lib.hid hm
  have HDI := Lib.hid hDI
  have HK := Lib.hid hk
  have HG0 := Lib.hid hg0
  have HG1 := Lib.hid hg1
  obtain ⟨len, hlen⟩ : ∃ len, ss.length = len := ⟨_, rfl⟩
  have HL := Lib.hid hlen
  have HPOS := Lib.hid hpos
  obtain ⟨x, hx⟩ : ∃ x, ss.getD 0 ByteArray.empty = x := ⟨_, rfl⟩
  have T0 : (x.toList == [97, 114, 103]) = false := by rw [hx] at t0; exact t0
  have T1 : (x.toList == [97, 115, 107]) = false := by rw [hx] at t1; exact t1
  have T2 : (x.toList == [115, 97, 121]) = false := by rw [hx] at t2; exact t2
  have T3 : (x.toList == [116, 104, 114, 111, 119]) = false := by rw [hx] at t3; exact t3
  have T6 : (x.toList == [97, 100, 100]) = false := by rw [hx] at t6; exact t6
  have T7 : (x.toList == [98, 101, 108, 111, 119]) = false := by rw [hx] at t7; exact t7
  have T8 : (x.toList == [98, 111, 116, 104]) = false := by rw [hx] at t8; exact t8
  have T9 : (x.toList == [107, 101, 101, 112]) = false := by rw [hx] at t9; exact t9
  have T10 : (x.toList == [98, 105, 110, 100]) = false := by rw [hx] at t10; exact t10
  have T11 : (x.toList == [116, 114, 121]) = true := by rw [hx] at t11; exact t11
  have T13 : (x.toList == [105, 102]) = false := by rw [hx] at t13; exact t13
  have HX := Lib.hid hx
  rw [hlen] at h1 hpos HDI
  unfold maxLen at h2
  have hpos' : (0 : Int) < (len : Int) := by omega
  rw [HL.out]
  clear hwl h60 hhd hDI hk hm t0 t1 t2 t3 t4 t5 t6 t7 t8 t9 t10 t11 t12 t13 hwd h3 hcl hsz hc hp ho hS hB IH hV hN hlen hx hg0 hg1
  go_enter Tryz.func35, Tryz.ntmps35
  go_wp2_with fail
  refine HDI.out.mono ?_
  rintro e w1 ⟨g, cp, fs, S, rfl, hfl, hcap, hmx, hgW, hgl, hcs, hds, hb1⟩
  have hx0 := (HCL.out w1 hb1 0 HPOS.out).2
  rw [HX.out, Nat.add_zero] at hx0
  rw [HK.out] at hfl
  rw [hfl] at hcap hcs hds ⊢
  have hW1 := hb1.size
  have q0 := hcs 0 (by omega)
  obtain ⟨D0, B0⟩ := hds 0 (by omega)
  obtain ⟨f0, hf0⟩ : ∃ f, fs.getD 0 .nilFunc = f := ⟨_, rfl⟩
  rw [hf0] at q0 D0
  obtain ⟨g0, l0, rfl⟩ := D0.fn
  have HD0 := Lib.hid D0
  have HB0 := Lib.hid B0
  have q1 := hcs 1 (by omega)
  obtain ⟨D1, B1⟩ := hds 1 (by omega)
  obtain ⟨f1, hf1⟩ : ∃ f, fs.getD 1 .nilFunc = f := ⟨_, rfl⟩
  rw [hf1] at q1 D1
  obtain ⟨g1, l1, rfl⟩ := D1.fn
  have HD1 := Lib.hid D1
  have HBB1 := Lib.hid B1
  have HB1 := Lib.hid hb1
  have HW1 := Lib.hid hW1
  unfold maxLen at hmx
  clear hb1 hcs hds hfl D0 B0 hf0 D1 B1 hf1
  go_wp2_with fail
  go_region_with (go_at_call 90; refine (mk_trying g0 g1 l0 l1 _).mono ?_; rintro e w2 ⟨rfl, ta, tb, rfl⟩)
  all_goals
    go_wp2_with fail
    go_ret
    refine ⟨_, And1 w1 2 (Or2 (S 0) (S 1)), rfl, ?_, ?_, below_box2 HB1.out.drew HW1.out _ _ _ _ ⟩
    · rw [HM.out]
      exact try_made (HD0.out.later (W2 := w1.drew) (fun _ _ => rfl)) HG0.out (HD1.out.later (W2 := w1.drew) (fun _ _ => rfl)) _ _
    · exact fun b x => x.elim (fun x => x.elim (fun x => HB0.out b x) (fun x => HBB1.out b x)) (fun x => Nat.le_trans HW1.out x.1)

set_option maxRecDepth 100000 in
set_option maxHeartbeats 4000000 in
theorem makes_13 {w0 : World} (hV : Vars w0) {N : Nat} (IH : MakesF w0 N) (v : Value) (ss : List ByteArray) (W : World) (hN : ss.length ≤ N) (hB : Below w0.heap.size w0 W) (hR : Row W v ss) (hS : Small ss) (ho : okSum (wsOf ss) = true) (hp : (wsOf ss).any pieceW = false) (hc : code ((wsOf ss).getD 0 []) = 13) :
    Calls Tryz.prog 35 #[v] W (MadeF w0 ss W) := by
  have hwl := ws_len ss
  obtain ⟨h60, hpos, _, hhd, _⟩ := ok_head ho
  rw [hwl] at h60 hpos
  have hDI := deedsIn_any hV IH v ss W hN hB hR hS ho hp
  have hk : (parts (wsOf ss)).length = 3 := by
    rw [parts_kids ho]
    have h := (head_ok hp hhd).2
    rw [needs_of_code hc] at h
    have e : needsTab 13 (numW ((wsOf ss).getD 0 [])) = 3 := rfl
    omega
  have hm : mean (wsOf ss) 0 = (ifD (mean (wsOf ss) ((parts (wsOf ss)).getD 0 0)) (mean (wsOf ss) ((parts (wsOf ss)).getD 1 0)) (mean (wsOf ss) ((parts (wsOf ss)).getD 2 0))) := by
    rw [mean_head ho, hc]
    show ifD (((parts (wsOf ss)).map (mean (wsOf ss))).getD 0 noD) (((parts (wsOf ss)).map (mean (wsOf ss))).getD 1 noD) (((parts (wsOf ss)).map (mean (wsOf ss))).getD 2 noD) = _
    rw [getD_deeds _ (show 0 < (parts (wsOf ss)).length by omega), getD_deeds _ (show 1 < (parts (wsOf ss)).length by omega), getD_deeds _ (show 2 < (parts (wsOf ss)).length by omega)]
  have hg0 := parts_good ho hp (i := 0) (by omega)
  have hg1 := parts_good ho hp (i := 1) (by omega)
  have hg2 := parts_good ho hp (i := 2) (by omega)
  obtain ⟨t0, t1, t2, t3, t4, t5, t6, t7, t8, t9, t10, t11, t12, t13⟩ := tests ((wsOf ss).getD 0 [])
  rw [hc, ws_getD hpos] at t0 t1 t2 t3 t4 t5 t6 t7 t8 t9 t10 t11 t12 t13
  have hwd := fun w1 (hb : Below W.heap.size W w1) => (hR.below hb)
  obtain ⟨oa, cap, rfl, h1, h2, h3⟩ := hR
  obtain ⟨b, off, rfl, hbl, _⟩ := h3 0 hpos
  have hcl := fun w1 hb => (hwd w1 hb).cells
  have hsz := hS.2 0 hpos
  have HCL := Lib.hid hcl
  have HM := Lib.hid hm
  have HDI := Lib.hid hDI
  have HK := Lib.hid hk
  have HG0 := Lib.hid hg0
  have HG1 := Lib.hid hg1
  have HG2 := Lib.hid hg2
  obtain ⟨len, hlen⟩ : ∃ len, ss.length = len := ⟨_, rfl⟩
  have HL := Lib.hid hlen
  have HPOS := Lib.hid hpos
  obtain ⟨x, hx⟩ : ∃ x, ss.getD 0 ByteArray.empty = x := ⟨_, rfl⟩
  have T0 : (x.toList == [97, 114, 103]) = false := by rw [hx] at t0; exact t0
  have T1 : (x.toList == [97, 115, 107]) = false := by rw [hx] at t1; exact t1
  have T2 : (x.toList == [115, 97, 121]) = false := by rw [hx] at t2; exact t2
  have T6 : (x.toList == [97, 100, 100]) = false := by rw [hx] at t6; exact t6
  have T7 : (x.toList == [98, 101, 108, 111, 119]) = false := by rw [hx] at t7; exact t7
  have T8 : (x.toList == [98, 111, 116, 104]) = false := by rw [hx] at t8; exact t8
  have T13 : (x.toList == [105, 102]) = true := by rw [hx] at t13; exact t13
  have HX := Lib.hid hx
  rw [hlen] at h1 hpos HDI
  unfold maxLen at h2
  have hpos' : (0 : Int) < (len : Int) := by omega
  rw [HL.out]
  clear hwl h60 hhd hDI hk hm t0 t1 t2 t3 t4 t5 t6 t7 t8 t9 t10 t11 t12 t13 hwd h3 hcl hsz hc hp ho hS hB IH hV hN hlen hx hg0 hg1 hg2
  go_enter Tryz.func35, Tryz.ntmps35
  go_wp2_with fail
  refine HDI.out.mono ?_
  rintro e w1 ⟨g, cp, fs, S, rfl, hfl, hcap, hmx, hgW, hgl, hcs, hds, hb1⟩
  have hx0 := (HCL.out w1 hb1 0 HPOS.out).2
  rw [HX.out, Nat.add_zero] at hx0
  rw [HK.out] at hfl
  rw [hfl] at hcap hcs hds ⊢
  have hW1 := hb1.size
  have q0 := hcs 0 (by omega)
  obtain ⟨D0, B0⟩ := hds 0 (by omega)
  obtain ⟨f0, hf0⟩ : ∃ f, fs.getD 0 .nilFunc = f := ⟨_, rfl⟩
  rw [hf0] at q0 D0
  obtain ⟨g0, l0, rfl⟩ := D0.fn
  have HD0 := Lib.hid D0
  have HB0 := Lib.hid B0
  have q1 := hcs 1 (by omega)
  obtain ⟨D1, B1⟩ := hds 1 (by omega)
  obtain ⟨f1, hf1⟩ : ∃ f, fs.getD 1 .nilFunc = f := ⟨_, rfl⟩
  rw [hf1] at q1 D1
  obtain ⟨g1, l1, rfl⟩ := D1.fn
  have HD1 := Lib.hid D1
  have HBB1 := Lib.hid B1
  have q2 := hcs 2 (by omega)
  obtain ⟨D2, B2⟩ := hds 2 (by omega)
  obtain ⟨f2, hf2⟩ : ∃ f, fs.getD 2 .nilFunc = f := ⟨_, rfl⟩
  rw [hf2] at q2 D2
  obtain ⟨g2, l2, rfl⟩ := D2.fn
  have HD2 := Lib.hid D2
  have HB2 := Lib.hid B2
  have HB1 := Lib.hid hb1
  have HW1 := Lib.hid hW1
  unfold maxLen at hmx
  clear hb1 hcs hds hfl D0 B0 hf0 D1 B1 hf1 D2 B2 hf2
  go_wp2_with fail
  go_region_with (go_at_call 86; refine (mk_choosing g0 g1 g2 l0 l1 l2 _).mono ?_; rintro e w2 ⟨rfl, ta, tb, tc, rfl⟩)
  all_goals
    go_wp2_with fail
    go_ret
    refine ⟨_, And1 w1 3 (Or2 (S 0) (Or2 (S 1) (S 2))), rfl, ?_, ?_, below_box3 HB1.out.drew HW1.out _ _ _ _ _ _ ⟩
    · rw [HM.out]
      exact if_made (HD0.out.later (W2 := w1.drew) (fun _ _ => rfl)) HG0.out (HD1.out.later (W2 := w1.drew) (fun _ _ => rfl)) (HD2.out.later (W2 := w1.drew) (fun _ _ => rfl)) _ _ _
    · exact fun b x => x.elim (fun x => x.elim (fun x => HB0.out b x) (fun x => x.elim (fun x => HBB1.out b x) (fun x => HB2.out b x))) (fun x => Nat.le_trans HW1.out x.1)

set_option maxRecDepth 100000 in
set_option maxHeartbeats 4000000 in
theorem makes_14 {w0 : World} (hV : Vars w0) {N : Nat} (IH : MakesF w0 N) (v : Value) (ss : List ByteArray) (W : World) (hN : ss.length ≤ N) (hB : Below w0.heap.size w0 W) (hR : Row W v ss) (hS : Small ss) (ho : okSum (wsOf ss) = true) (hp : (wsOf ss).any pieceW = false) (hc : code ((wsOf ss).getD 0 []) = 14) (hnum : numW ((wsOf ss).getD 0 []) = true) :
    Calls Tryz.prog 35 #[v] W (MadeF w0 ss W) := by
  have hwl := ws_len ss
  obtain ⟨h60, hpos, _, hhd, _⟩ := ok_head ho
  rw [hwl] at h60 hpos
  have hDI := deedsIn_any hV IH v ss W hN hB hR hS ho hp
  have hk : (parts (wsOf ss)).length = 0 := by
    rw [parts_kids ho]
    have h := (head_ok hp hhd).2
    rw [needs_of_code hc] at h
    rw [hnum] at h
    have e : needsTab 14 true = 0 := rfl
    omega
  have hm : mean (wsOf ss) 0 = (numD (P1.rdN (ss.getD 0 ByteArray.empty).toList)) := by
    rw [mean_head ho, hc]
    rw [ws_getD hpos]
    rfl
  obtain ⟨t0, t1, t2, t3, t4, t5, t6, t7, t8, t9, t10, t11, t12, t13⟩ := tests ((wsOf ss).getD 0 [])
  rw [hc, ws_getD hpos] at t0 t1 t2 t3 t4 t5 t6 t7 t8 t9 t10 t11 t12 t13
  have hwd := fun w1 (hb : Below W.heap.size W w1) => (hR.below hb)
  obtain ⟨oa, cap, rfl, h1, h2, h3⟩ := hR
  obtain ⟨b, off, rfl, hbl, _⟩ := h3 0 hpos
  have hcl := fun w1 hb => (hwd w1 hb).cells
  have hsz := hS.2 0 hpos
  rw [ws_getD hpos] at hnum
  have hnin := num_in hnum
  have hclamp : clampI (P1.rdN (ss.getD 0 ByteArray.empty).toList) = P1.rdN (ss.getD 0 ByteArray.empty).toList := by unfold clampI; rw [if_neg (by omega), if_neg (by omega)]
  have hni : nIn (ss.getD 0 ByteArray.empty).toList = P1.rdN (ss.getD 0 ByteArray.empty).toList := by unfold nIn; rw [hnum]; rfl
  have HNI := Lib.hid (fun w1 (hb : Below W.heap.size W w1) => numberIn_any (ss.getD 0 ByteArray.empty) (by omega) w1 (hV.later (hB.trans (hb.mono hB.size))))
  rw [hni, hnum] at HNI
  have HCL := Lib.hid hcl
  have HM := Lib.hid hm
  have HDI := Lib.hid hDI
  have HK := Lib.hid hk
  obtain ⟨len, hlen⟩ : ∃ len, ss.length = len := ⟨_, rfl⟩
  have HL := Lib.hid hlen
  have HPOS := Lib.hid hpos
  obtain ⟨x, hx⟩ : ∃ x, ss.getD 0 ByteArray.empty = x := ⟨_, rfl⟩
  have T0 : (x.toList == [97, 114, 103]) = false := by rw [hx] at t0; exact t0
  have T1 : (x.toList == [97, 115, 107]) = false := by rw [hx] at t1; exact t1
  have T2 : (x.toList == [115, 97, 121]) = false := by rw [hx] at t2; exact t2
  have T3 : (x.toList == [116, 104, 114, 111, 119]) = false := by rw [hx] at t3; exact t3
  have T6 : (x.toList == [97, 100, 100]) = false := by rw [hx] at t6; exact t6
  have T7 : (x.toList == [98, 101, 108, 111, 119]) = false := by rw [hx] at t7; exact t7
  have T8 : (x.toList == [98, 111, 116, 104]) = false := by rw [hx] at t8; exact t8
  have T9 : (x.toList == [107, 101, 101, 112]) = false := by rw [hx] at t9; exact t9
  have T10 : (x.toList == [98, 105, 110, 100]) = false := by rw [hx] at t10; exact t10
  have T11 : (x.toList == [116, 114, 121]) = false := by rw [hx] at t11; exact t11
  have T13 : (x.toList == [105, 102]) = false := by rw [hx] at t13; exact t13
  rw [hx] at HNI
  have HCP := Lib.hid hclamp
  have HX := Lib.hid hx
  rw [hlen] at h1 hpos HDI
  unfold maxLen at h2
  have hpos' : (0 : Int) < (len : Int) := by omega
  rw [HL.out]
  clear hwl h60 hhd hDI hk hm t0 t1 t2 t3 t4 t5 t6 t7 t8 t9 t10 t11 t12 t13 hwd h3 hcl hsz hc hp ho hS hB IH hV hN hlen hx hnin hclamp hni hnum
  go_enter Tryz.func35, Tryz.ntmps35
  go_wp2_with fail
  refine HDI.out.mono ?_
  rintro e w1 ⟨g, cp, fs, S, rfl, hfl, hcap, hmx, hgW, hgl, hcs, hds, hb1⟩
  have hx0 := (HCL.out w1 hb1 0 HPOS.out).2
  rw [HX.out, Nat.add_zero] at hx0
  rw [HK.out] at hfl
  rw [hfl] at hcap hcs hds ⊢
  have hW1 := hb1.size
  have HB1 := Lib.hid hb1
  have HW1 := Lib.hid hW1
  unfold maxLen at hmx
  clear hb1 hcs hds hfl
  go_wp2_with fail
  refine (HNI.out w1 HB1.out).mono ?_
  rintro e w2 ⟨rfl, hb2⟩
  have HB2 := Lib.hid hb2
  clear hb2
  go_wp2_with fail
  go_ret
  refine ⟨_, And1 w2 1 fun _ => False, rfl, ?_, ?_, below_box1 (HB1.out.trans (HB2.out.mono HW1.out)) (Nat.le_trans HW1.out HB2.out.size) _ _⟩
  · rw [HM.out]
    have h := num_made w0 w2 HCP.out 2
    rw [HX.out] at h ⊢
    exact h
  · exact fun b x => x.elim (fun x => x.elim) (fun x => Nat.le_trans (Nat.le_trans HW1.out HB2.out.size) x.1)

theorem makesF {w0 : World} (hV : Vars w0) : ∀ N, MakesF w0 N := by
  intro N
  induction N with
  | zero => intro v ss W h; exact absurd h (Nat.not_lt_zero _)
  | succ N ih =>
    intro v ss W hN hB hR hS ho hp
    obtain ⟨_, _, _, hhd, _⟩ := ok_head ho
    rcases (head_ok hp hhd).1 with hc | hc | hc | hc | hc | hc | hc | hc | hc | hc | hc | ⟨hc, hn⟩
    · exact makes_0 hV ih v ss W (by omega) hB hR hS ho hp hc
    · exact makes_1 hV ih v ss W (by omega) hB hR hS ho hp hc
    · exact makes_2 hV ih v ss W (by omega) hB hR hS ho hp hc
    · exact makes_3 hV ih v ss W (by omega) hB hR hS ho hp hc
    · exact makes_6 hV ih v ss W (by omega) hB hR hS ho hp hc
    · exact makes_7 hV ih v ss W (by omega) hB hR hS ho hp hc
    · exact makes_8 hV ih v ss W (by omega) hB hR hS ho hp hc
    · exact makes_9 hV ih v ss W (by omega) hB hR hS ho hp hc
    · exact makes_10 hV ih v ss W (by omega) hB hR hS ho hp hc
    · exact makes_11 hV ih v ss W (by omega) hB hR hS ho hp hc
    · exact makes_13 hV ih v ss W (by omega) hB hR hS ho hp hc
    · exact makes_14 hV ih v ss W (by omega) hB hR hS ho hp hc hn

end L2
end Go.Proofs.YtkhjbhkbknennaaGreatDoor
