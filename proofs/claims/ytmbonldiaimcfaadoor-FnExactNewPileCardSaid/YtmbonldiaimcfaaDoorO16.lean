/-
  The law on NewPile (written by wip/gen_o16.py).
-/
import Derived.Test.YtmbonldiaimcfaaDoorO15
namespace Go.Proofs.YtmbonldiaimcfaaDoor
open Go.RowKit Go.Sort
namespace L2
open S1 L1

theorem held_drewc {w : World} {p : Addr} {u : Value} (h : w.cell? p = some u) : w.drew.cell? p = some u := h
theorem held_old {w : World} {b i : Nat} {u : Value} (h : w.cell? ⟨b, i, none⟩ = some u) (hl : b < w.heap.size) (o : Obj) : (w.alloc o).cell? ⟨b, i, none⟩ = some u := (World.cell?_of_block (a := ⟨b, i, none⟩) (Below.heap_alloc w o b hl)).trans h
theorem held_setc {w : World} {b i : Nat} {u : Value} (h : w.cell? ⟨b, i, none⟩ = some u) {p : Addr} (hp : b ≠ p.block) (u' : Value) : (w.setCell p u').cell? ⟨b, i, none⟩ = some u := (World.cell?_of_block (a := ⟨b, i, none⟩) (Below.heap_setCell _ _ _ _ hp)).trans h
theorem held_below {n : Nat} {a w w' : World} (h : Below n a w) (hb : Below w.heap.size w w') (hn : n ≤ w.heap.size) : Below n a w' := h.trans (hb.mono hn)
theorem newP_form (ss : List ByteArray) (a b : Int) : ∃ cs pk pn, newP ss a b = ⟨cs, 0, 0, pk, pn, 0, 0, [], [], []⟩ ∧ cs.length ≤ ss.length := by
  unfold newP
  cases newB ss a b
  · exact ⟨[], 0, 0, rfl, Nat.zero_le _⟩
  · exact ⟨ss, a, b, rfl, Nat.le_refl _⟩
/-- Two new piles with the same words are the same. -/
theorem eqNew_any (cs : List ByteArray) (pk pn : Int) (u u' : Value) (w : World) (hR : Row w u cs) (hR' : Row w u' cs) :
    Calls Tryd.prog 38 #[.agg #[u, .int .i64 0, .int .i64 0, .int .i64 pk, .int .i64 pn, .int .i64 0, .int .i64 0, .slice none 0 0, .slice none 0 0, .slice none 0 0], .agg #[u', .int .i64 0, .int .i64 0, .int .i64 pk, .int .i64 pn, .int .i64 0, .int .i64 0, .slice none 0 0, .slice none 0 0, .slice none 0 0]] w fun e w' => e = .returned (.bool true) ∧ Below w.heap.size w w' :=
  eqPile_any ⟨cs, 0, 0, pk, pn, 0, 0, [], [], []⟩ u (.slice none 0 0) (.slice none 0 0) (.slice none 0 0) u' (.slice none 0 0) (.slice none 0 0) (.slice none 0 0) w ⟨hR, rowP_nil _, rowQ_nil _, row_nil _⟩ ⟨hR', rowP_nil _, rowQ_nil _, row_nil _⟩
set_option maxRecDepth 100000 in
set_option maxHeartbeats 8000000 in
theorem lawNewPile (v : Value) (ss : List ByteArray) (a b : Int) (w : World) (hR : Row w v ss) (hz : ∀ i, i < ss.length → (ss.getD i ByteArray.empty).size ≤ maxLen) (hV : Vars w) :
    Calls Tryd.prog 9 #[v, .agg #[.int .i64 a, .int .i64 b]] w fun e w' => e = .returned (.bool true) ∧ Below w.heap.size w w' := by
  have HZ := Lib.hid (fun w1 (hb : Below w.heap.size w w1) => szStringS_any v ss w1 (hR.below hb) hz)
  have HTT := Lib.hid (fun (hn : ss.length ≤ 1048576) w1 (hb : Below w.heap.size w w1) => toStringS_any v ss w1 (hR.below hb) hn)
  have HVV := Lib.hid (fun w1 (hb : Below w.heap.size w w1) => hV.later hb)
  have hv : ∃ oa l c, v = .slice oa l c := by obtain ⟨oa, c, e, _⟩ := hR; exact ⟨_, _, _, e⟩
  obtain ⟨oa, l, c, rfl⟩ := hv
  clear hR hz hV
  go_enter Tryd.func9, Tryd.ntmps9
  go_wp2_with fail
  refine (HZ.out _ (by (repeat (first | (with_reducible refine Below.alloc ?_ ?_ _) | (with_reducible refine Below.setCell ?_ ?_ _) | (with_reducible refine Below.drew ?_) | (with_reducible exact Below.refl _ _) | (with_reducible refine Below.trans ?_ (Below.mono (by assumption) ?_)))) <;> (first | omega | (dsimp only; omega) | (simp; done) | (simp; omega) | (simp at *; omega)))).mono ?_
  rintro e w1 ⟨rfl, rfl | ⟨y, hy, rfl, hS⟩⟩
  · go_wp2_with fail
    go_ret
    refine ⟨rfl, ?_⟩
    (repeat (first | (with_reducible refine Below.alloc ?_ ?_ _) | (with_reducible refine Below.setCell ?_ ?_ _) | (with_reducible refine Below.drew ?_) | (with_reducible exact Below.refl _ _) | (with_reducible refine Below.trans ?_ (Below.mono (by assumption) ?_)))) <;> (first | omega | (dsimp only; omega) | (simp; done) | (simp; omega) | (simp at *; omega))
  have HS := Lib.hid hS
  have hyn : ¬ y < 0 := by omega
  have hn : ss.length ≤ 1048576 := hS.1
  have hm : ss.length ≤ maxLen := by unfold maxLen; omega
  have HT := Lib.hid (HTT.out hn)
  obtain ⟨cs, pk, pn, hnew, hcs⟩ := newP_form ss a b
  have hoz : cs.length ≤ 1048576 := Nat.le_trans hcs hn
  obtain ⟨tb, htb⟩ : ∃ tb, newB ss a b = tb := ⟨_, rfl⟩
  have HMS := fun v' W' (hR' : Row W' v' ss) => specNewPile_any v' ss a b W' hR' HS.out
  have HMI := fun v' W' (hR' : Row W' v' ss) (hV' : Vars W') => implNewPile_any v' ss a b W' hR' HS.out hV'
  rw [hnew, htb] at HMS HMI
  unfold NewQ pilV at HMS HMI
  simp only at HMS HMI
  replace HMS := Lib.hid HMS
  replace HMI := Lib.hid HMI
  clear hS hnew hcs htb HTT HZ
  go_upto_region 5 with fail
  have HB : Hid (Below w.heap.size w (w.alloc (.cells #[.int .i64 a, .int .i64 b] 47))) := Lib.hid (by (repeat (first | (with_reducible refine Below.alloc ?_ ?_ _) | (with_reducible refine Below.setCell ?_ ?_ _) | (with_reducible refine Below.drew ?_) | (with_reducible exact Below.refl _ _) | (with_reducible refine Below.trans ?_ (Below.mono (by assumption) ?_)))) <;> (first | omega | (dsimp only; omega) | (simp; done) | (simp; omega) | (simp at *; omega)))
  have HA : Hid (ArgC (w.alloc (.cells #[.int .i64 a, .int .i64 b] 47)) w.heap.size a b) := Lib.hid ⟨by simp, alloc_cellC _ _ _ 0, alloc_cellC _ _ _ 1⟩
  have hsa : w.heap.size < (w.alloc (.cells #[.int .i64 a, .int .i64 b] 47)).heap.size := by simp
  generalize w.alloc (.cells #[.int .i64 a, .int .i64 b] 47) = wa at HB HA hsa ⊢
  go_cut [6, 7] (fun s t wx => t = .bool tb ∧ CutC wa.heap.size wa cs pk pn s wx)
  case first =>
    have s8 := Below.refl wa.heap.size wa
    have s7 := Nat.le_refl wa.heap.size
    obtain ⟨xl, x0, x1⟩ := HA.out
    go_region_held3 (fun w' => w'.cell? ⟨w.heap.size, 0, none⟩ = some (.int .i64 a) ∧ w'.cell? ⟨w.heap.size, 1, none⟩ = some (.int .i64 b) ∧ Below wa.heap.size wa w' ∧ wa.heap.size ≤ w'.heap.size)
      (((try dsimp only); (repeat' (refine And.intro ?_ ?_)) <;> first | (with_reducible assumption) | omega | ((repeat (first | (with_reducible assumption) | (with_reducible refine held_drewc ?_) | (with_reducible refine held_old ?_ ?_ _) | (with_reducible refine held_setc ?_ ?_ _) | (with_reducible refine Below.alloc ?_ ?_ _) | (with_reducible refine Below.drew ?_) | (with_reducible refine Below.setCell ?_ ?_ _))) <;> first | omega | (simp; done) | (simp; omega)) | (simp; omega)))
      (first | (go_at_call 21; refine (HT.out _ ?_).mono ?_; (focus (exact HB.out.trans (Below.mono (show Below wa.heap.size wa _ by ((repeat (first | (with_reducible assumption) | (with_reducible refine Below.alloc ?_ ?_ _) | (with_reducible refine Below.drew ?_) | (with_reducible exact Below.refl _ _))) <;> first | omega | (simp; done) | (simp; omega))) HB.out.size))); rintro e wA ⟨rfl, hLA, hbA⟩; (try simp at hLA); have hbA' : Below wa.heap.size wa wA := held_below (by ((repeat (first | (with_reducible assumption) | (with_reducible refine Below.alloc ?_ ?_ _) | (with_reducible refine Below.drew ?_) | (with_reducible exact Below.refl _ _))) <;> first | omega | (simp; done) | (simp; omega))) hbA (by first | omega | (simp; done) | (simp; omega)); have hsA := hbA'.size; (try have hL := BoxL.below (by first | exact hL | exact hL.drew | exact BoxL.new _ _ _ _ _ _ _ _ _ _ _ _ | exact BoxL.newd _ _ _ _ _ _ _ _ _ _ _ _) hbA); have k1 := (hbA'.cell (p := ⟨w.heap.size, 0, none⟩) (by (try dsimp only); omega)).trans x0; have k2 := (hbA'.cell (p := ⟨w.heap.size, 1, none⟩) (by (try dsimp only); omega)).trans x1) | (go_at_call 36; refine (toValue_any _ _ _).mono ?_; rintro e wV ⟨rfl, hbV⟩; have hbV' : Below wa.heap.size wa wV := held_below (by ((repeat (first | (with_reducible assumption) | (with_reducible refine Below.alloc ?_ ?_ _) | (with_reducible refine Below.drew ?_) | (with_reducible exact Below.refl _ _))) <;> first | omega | (simp; done) | (simp; omega))) hbV (by first | omega | (simp; done) | (simp; omega)); have hsV := hbV'.size; (try (have hbAV : Below wA.heap.size wA wV := held_below (by ((repeat (first | (with_reducible assumption) | (with_reducible refine Below.alloc ?_ ?_ _) | (with_reducible refine Below.drew ?_) | (with_reducible exact Below.refl _ _))) <;> first | omega | (simp; done) | (simp; omega))) hbV (by first | omega | (simp; done) | (simp; omega)); have hsAV := hbAV.size)); (try have hL := BoxL.below (by first | exact hL | exact hL.drew | exact BoxL.new _ _ _ _ _ _ _ _ _ _ _ _ | exact BoxL.newd _ _ _ _ _ _ _ _ _ _ _ _) hbV); have k1 := (hbV'.cell (p := ⟨w.heap.size, 0, none⟩) (by (try dsimp only); omega)).trans x0; have k2 := (hbV'.cell (p := ⟨w.heap.size, 1, none⟩) (by (try dsimp only); omega)).trans x1) | (go_at_call 35; refine (HMS.out _ _ ?_).mono ?_; (focus (exact (hLA.below (by ((repeat (first | (with_reducible assumption) | (with_reducible refine Below.alloc ?_ ?_ _) | (with_reducible refine Below.drew ?_) | (with_reducible exact Below.refl _ _))) <;> first | omega | (simp; done) | (simp; omega)))).row hm)); rintro e wM ⟨u, rfl, hOM, hbM⟩; obtain ⟨ou, cu, rfl⟩ := hOM.slice; have hbM' : Below wa.heap.size wa wM := held_below (by ((repeat (first | (with_reducible assumption) | (with_reducible refine Below.alloc ?_ ?_ _) | (with_reducible refine Below.drew ?_) | (with_reducible exact Below.refl _ _))) <;> first | omega | (simp; done) | (simp; omega))) hbM (by first | omega | (simp; done) | (simp; omega)); have hsM := hbM'.size; have hOB : OwC wM wa.heap.size _ cs := OwC.base hOM (by first | omega | (simp; done) | (simp; omega)); (try have hne := ownC_ne hOM (by first | exact hL | exact hL.drew | exact BoxL.new _ _ _ _ _ _ _ _ _ _ _ _ | exact BoxL.newd _ _ _ _ _ _ _ _ _ _ _ _)); (try have hL := BoxL.below (by first | exact hL | exact hL.drew | exact BoxL.new _ _ _ _ _ _ _ _ _ _ _ _ | exact BoxL.newd _ _ _ _ _ _ _ _ _ _ _ _) hbM); (try (have hL2 := hL; obtain ⟨hgl, hzz, zf⟩ := hL2; obtain ⟨b0, z0⟩ := hzz 0 (by omega); obtain ⟨b1, z1⟩ := hzz 1 (by omega); obtain ⟨b2, z2⟩ := hzz 2 (by omega); obtain ⟨b3, z3⟩ := hzz 3 (by omega); obtain ⟨b4, z4⟩ := hzz 4 (by omega); obtain ⟨b5, z5⟩ := hzz 5 (by omega); obtain ⟨b6, z6⟩ := hzz 6 (by omega); obtain ⟨b7, z7⟩ := hzz 7 (by omega); obtain ⟨b8, z8⟩ := hzz 8 (by omega); obtain ⟨b9, z9⟩ := hzz 9 (by omega))); (try dsimp only); have k1 := (hbM'.cell (p := ⟨w.heap.size, 0, none⟩) (by (try dsimp only); omega)).trans x0; have k2 := (hbM'.cell (p := ⟨w.heap.size, 1, none⟩) (by (try dsimp only); omega)).trans x1))
    all_goals
      go_wp2_with fail
      go_meet
      go_light
      refine ⟨rfl, ?_⟩
      first
        | with_reducible exact cutC_after hbM' hsM hOB
        | (with_reducible refine cutC_ahead hL ?_ hne hbM' hOB; omega)
  case rest =>
    obtain ⟨wz, rfl⟩ : ∃ w0 : World, w0 = wc := ⟨_, rfl⟩
    obtain ⟨rfl, gb, u0, rfl, hgn, hbx, HU0, hne0, hbc⟩ := hcut
    have H0 := Lib.hid hbx
    have hsc := hbc.size
    have n1 : gb < wz.heap.size := hbx.1
    have n2 : w.heap.size < wz.heap.size := by omega
    have N3 := Lib.hid (fun b (e : u0.ownBlock = some b) => HU0.out.lt' e)
    obtain ⟨o0, c0, hu0⟩ := HU0.out.slice
    have HB := Lib.hid (HB.out.trans (hbc.mono HB.out.size))
    have HA := Lib.hid (HA.out.below hbc)
    clear hbc
    clear hbx
    go_wp2_with fail
    refine (HT.out _ HB.out).mono ?_
    rintro e w2 ⟨rfl, hL2, hb2⟩
    have hz2 : wz.heap.size < w2.heap.size := hL2.lt
    have HB := Lib.hid (HB.out.trans (hb2.mono HB.out.size))
    have HA := Lib.hid (HA.out.below hb2)
    have H0 := Lib.hid (H0.out.below hb2)
    have HU0 := Lib.hid (HU0.out.below hb2)
    clear hb2
    have HX := Lib.hid hL2
    clear hL2
    obtain ⟨xl, x0, x1⟩ := HA.out
    go_wp2_with fail
    refine (toValue_any _ _ _).mono ?_
    rintro e w3 ⟨rfl, hb3⟩
    have hz3 := hb3.size
    clear xl x0 x1
    have HB := Lib.hid (HB.out.trans (hb3.mono HB.out.size))
    have HA := Lib.hid (HA.out.below hb3)
    have H0 := Lib.hid (H0.out.below hb3)
    have HU0 := Lib.hid (HU0.out.below hb3)
    have HX := Lib.hid (HX.out.below hb3)
    clear hb3
    go_wp2_with fail
    refine (HMI.out _ _ ?_ ?_).mono ?_
    · exact HX.out.row hm
    · exact HVV.out _ HB.out
    rintro e w4 ⟨u4, rfl, hO4, hb4⟩
    obtain ⟨o4, c4, hu4⟩ := hO4.slice
    have hz4 := hb4.size
    have HU4 := Lib.hid hO4
    have N5 := Lib.hid (fun b (e : u4.ownBlock = some b) => hO4.lt' e)
    have HB := Lib.hid (HB.out.trans (hb4.mono HB.out.size))
    have HA := Lib.hid (HA.out.below hb4)
    have H0 := Lib.hid (H0.out.below hb4)
    have HU0 := Lib.hid (HU0.out.below hb4)
    have HX := Lib.hid (HX.out.below hb4)
    clear hb4
    subst hu4 hu0
    clear hO4
    go_upto_region 8 with fail
    have H8 : Hid (BoxP (w4.alloc (.cells #[.slice o4 cs.length c4, .int .i64 0, .int .i64 0, .int .i64 pk, .int .i64 pn, .int .i64 0, .int .i64 0, .slice none 0 0, .slice none 0 0, .slice none 0 0] 51)) w4.heap.size pk pn (.slice o4 cs.length c4)) := Lib.hid ⟨by simp, alloc_cellC _ _ _ 0, alloc_cellC _ _ _ 1, alloc_cellC _ _ _ 2, alloc_cellC _ _ _ 3, alloc_cellC _ _ _ 4, alloc_cellC _ _ _ 5, alloc_cellC _ _ _ 6, alloc_cellC _ _ _ 7, alloc_cellC _ _ _ 8, alloc_cellC _ _ _ 9⟩
    have hb5 : Below w4.heap.size w4 (w4.alloc (.cells #[.slice o4 cs.length c4, .int .i64 0, .int .i64 0, .int .i64 pk, .int .i64 pn, .int .i64 0, .int .i64 0, .slice none 0 0, .slice none 0 0, .slice none 0 0] 51)) := (Below.refl _ _).alloc (Nat.le_refl _) _
    have hz5 : w4.heap.size < (w4.alloc (.cells #[.slice o4 cs.length c4, .int .i64 0, .int .i64 0, .int .i64 pk, .int .i64 pn, .int .i64 0, .int .i64 0, .slice none 0 0, .slice none 0 0, .slice none 0 0] 51)).heap.size := by simp
    generalize w4.alloc (.cells #[.slice o4 cs.length c4, .int .i64 0, .int .i64 0, .int .i64 pk, .int .i64 pn, .int .i64 0, .int .i64 0, .slice none 0 0, .slice none 0 0, .slice none 0 0] 51) = w5 at H8 hb5 hz5 ⊢
    have HB := Lib.hid (HB.out.trans (hb5.mono HB.out.size))
    have HA := Lib.hid (HA.out.below hb5)
    have H0 := Lib.hid (H0.out.below hb5)
    have HU0 := Lib.hid (HU0.out.below hb5)
    have HX := Lib.hid (HX.out.below hb5)
    have HU4 := Lib.hid (HU4.out.below hb5)
    clear hb5
    obtain ⟨xl, x0, x1, x2, x3, x4, x5, x6, x7, x8, x9⟩ := H8.out
    obtain ⟨yl, y0, y1, y2, y3, y4, y5, y6, y7, y8, y9⟩ := H0.out
    go_wp2_with fail
    refine (eqNew_any cs pk pn _ _ _ HU4.out.row HU0.out.row).mono ?_
    rintro e w6 ⟨rfl, hb6⟩
    have hz6 := hb6.size
    clear xl x0 x1 x2 x3 x4 x5 x6 x7 x8 x9
    clear yl y0 y1 y2 y3 y4 y5 y6 y7 y8 y9
    have HB := Lib.hid (HB.out.trans (hb6.mono HB.out.size))
    have HA := Lib.hid (HA.out.below hb6)
    have H0 := Lib.hid (H0.out.below hb6)
    have H8 := Lib.hid (H8.out.below hb6)
    have HU0 := Lib.hid (HU0.out.below hb6)
    have HU4 := Lib.hid (HU4.out.below hb6)
    have HX := Lib.hid (HX.out.below hb6)
    clear hb6
    go_wp2_with fail
    refine (HT.out _ HB.out).mono ?_
    rintro e w7 ⟨rfl, hL7, hb7⟩
    have HB := Lib.hid (HB.out.trans (hb7.mono HB.out.size))
    have HA := Lib.hid (HA.out.below hb7)
    have H0 := Lib.hid (H0.out.below hb7)
    have H8 := Lib.hid (H8.out.below hb7)
    have HU0 := Lib.hid (HU0.out.below hb7)
    have HU4 := Lib.hid (HU4.out.below hb7)
    have HX := Lib.hid (HX.out.below hb7)
    clear hb7
    have HN7 := Lib.hid hL7
    clear hL7
    go_wp2_with fail
    refine (eqStringS_any _ _ ss w7 (HX.out.row hm) (HN7.out.row hm)).mono ?_
    rintro e w8 ⟨rfl, hb8⟩
    have HB := Lib.hid (HB.out.trans (hb8.mono HB.out.size))
    have HA := Lib.hid (HA.out.below hb8)
    have H0 := Lib.hid (H0.out.below hb8)
    have H8 := Lib.hid (H8.out.below hb8)
    have HU0 := Lib.hid (HU0.out.below hb8)
    have HU4 := Lib.hid (HU4.out.below hb8)
    have HX := Lib.hid (HX.out.below hb8)
    clear hb8
    clear HN7
    go_wp2_with fail
    refine (markStringS_any wz.heap.size ss.length ss.length 1 w8 _ HX.out.mem (by simp) (Nat.le_refl _) hn (by omega)).mono ?_
    rintro e w9 ⟨rfl, -, hg9⟩
    have HB := Lib.hid (HB.out.grown hg9 HB.out.size (fun q e => by injection e with e; omega))
    have HA := Lib.hid (HA.out.kept hg9 (by intro e; injection e with e; omega))
    have H0 := Lib.hid (H0.out.kept hg9 (by intro e; injection e with e; omega))
    have H8 := Lib.hid (H8.out.kept hg9 (by intro e; injection e with e; omega))
    have HU0 := Lib.hid (HU0.out.kept hg9 (Or.inr (fun e => by have := (N3.out _ e).2; omega)))
    have HU4 := Lib.hid (HU4.out.kept hg9 (Or.inr (fun e => by have := (N5.out _ e).1; omega)))
    clear hg9
    clear HX
    have q9 : ¬ ((1 + ss.length : Nat) : Int) < 0 := by omega
    have q9' : ¬ ((1 : Int) + (ss.length : Int)) < 0 := by omega
    have q9'' : decide (((1 + ss.length : Nat) : Int) < 0) = false := by simp; omega
    obtain ⟨xl, x0, x1, x2, x3, x4, x5, x6, x7, x8, x9⟩ := H8.out
    obtain ⟨yl, y0, y1, y2, y3, y4, y5, y6, y7, y8, y9⟩ := H0.out
    go_wp2_with fail
    refine (eqNew_any cs pk pn _ _ _ HU4.out.row HU0.out.row).mono ?_
    rintro e w10 ⟨rfl, hb10⟩
    clear xl x0 x1 x2 x3 x4 x5 x6 x7 x8 x9
    clear yl y0 y1 y2 y3 y4 y5 y6 y7 y8 y9
    have HB := Lib.hid (HB.out.trans (hb10.mono HB.out.size))
    have HA := Lib.hid (HA.out.below hb10)
    have H0 := Lib.hid (H0.out.below hb10)
    have H8 := Lib.hid (H8.out.below hb10)
    have HU0 := Lib.hid (HU0.out.below hb10)
    have HU4 := Lib.hid (HU4.out.below hb10)
    clear hb10
    obtain ⟨xl, x0, x1, x2, x3, x4, x5, x6, x7, x8, x9⟩ := H8.out
    go_wp2_with fail
    refine (markPileC pk pn _ cs 1 _ HU4.out (by omega) (by omega)).mono ?_
    rintro e w11 ⟨rfl, hM, hg11⟩
    clear xl x0 x1 x2 x3 x4 x5 x6 x7 x8 x9
    have HB := Lib.hid (HB.out.grown hg11 HB.out.size (fun q e => by have := (N5.out _ e).1; omega))
    have HA := Lib.hid (HA.out.kept hg11 (fun e => by have := (N5.out _ e.symm).1; omega))
    have H0 := Lib.hid (H0.out.kept hg11 (fun e => by have := (N5.out _ e.symm).1; omega))
    have H8 := Lib.hid (H8.out.kept hg11 (fun e => by have := (N5.out _ e.symm).2; omega))
    have HU0 := Lib.hid (HU0.out.kept hg11 (by cases h0 : (Value.slice o0 cs.length c0).ownBlock with | none => exact Or.inl rfl | some b => exact Or.inr (fun e => by have := (N3.out _ h0).2; have := (N5.out _ e.symm).1; omega)))
    clear hg11
    have HM := Lib.hid hM
    clear hM HU4
    have q11 : ¬ ((1 + cs.length : Nat) : Int) < 0 := by omega
    have q11' : ¬ ((1 : Int) + (cs.length : Int)) < 0 := by omega
    obtain ⟨xl, x0, x1, x2, x3, x4, x5, x6, x7, x8, x9⟩ := H8.out
    go_wp2_with fail
    refine (heldPileC pk pn _ cs.length 1 _ ⟨_, _, rfl⟩ HM.out (by omega) (by omega)).mono ?_
    rintro e w12 ⟨rfl, hb12⟩
    have hz12 : w.heap.size < w12.heap.size := by have := (HA.out.below hb12).1; exact this
    clear xl x0 x1 x2 x3 x4 x5 x6 x7 x8 x9
    have HB := Lib.hid (HB.out.trans (hb12.mono HB.out.size))
    have HA := Lib.hid (HA.out.below hb12)
    have H0 := Lib.hid (H0.out.below hb12)
    have H8 := Lib.hid (H8.out.below hb12)
    have HU0 := Lib.hid (HU0.out.below hb12)
    have HM := Lib.hid (HM.out.below hb12)
    clear hb12
    go_upto_region 24 with fail
    go_cut [14, 15] (fun s t wx => t = .bool tb ∧ CutC w12.heap.size w12 cs pk pn s wx)
    case first =>
      have s8 := Below.refl w12.heap.size w12
      have s7 := Nat.le_refl w12.heap.size
      obtain ⟨xl, x0, x1⟩ := HA.out
      go_region_held3 (fun w' => w'.cell? ⟨w.heap.size, 0, none⟩ = some (.int .i64 a) ∧ w'.cell? ⟨w.heap.size, 1, none⟩ = some (.int .i64 b) ∧ Below w12.heap.size w12 w' ∧ w12.heap.size ≤ w'.heap.size)
        (((try dsimp only); (repeat' (refine And.intro ?_ ?_)) <;> first | (with_reducible assumption) | omega | ((repeat (first | (with_reducible assumption) | (with_reducible refine held_drewc ?_) | (with_reducible refine held_old ?_ ?_ _) | (with_reducible refine held_setc ?_ ?_ _) | (with_reducible refine Below.alloc ?_ ?_ _) | (with_reducible refine Below.drew ?_) | (with_reducible refine Below.setCell ?_ ?_ _))) <;> first | omega | (simp; done) | (simp; omega)) | (simp; omega)))
        (first | (go_at_call 21; refine (HT.out _ ?_).mono ?_; (focus (exact HB.out.trans (Below.mono (show Below w12.heap.size w12 _ by ((repeat (first | (with_reducible assumption) | (with_reducible refine Below.alloc ?_ ?_ _) | (with_reducible refine Below.drew ?_) | (with_reducible exact Below.refl _ _))) <;> first | omega | (simp; done) | (simp; omega))) HB.out.size))); rintro e wA ⟨rfl, hLA, hbA⟩; (try simp at hLA); have hbA' : Below w12.heap.size w12 wA := held_below (by ((repeat (first | (with_reducible assumption) | (with_reducible refine Below.alloc ?_ ?_ _) | (with_reducible refine Below.drew ?_) | (with_reducible exact Below.refl _ _))) <;> first | omega | (simp; done) | (simp; omega))) hbA (by first | omega | (simp; done) | (simp; omega)); have hsA := hbA'.size; (try have hL := BoxL.below (by first | exact hL | exact hL.drew | exact BoxL.new _ _ _ _ _ _ _ _ _ _ _ _ | exact BoxL.newd _ _ _ _ _ _ _ _ _ _ _ _) hbA); have k1 := (hbA'.cell (p := ⟨w.heap.size, 0, none⟩) (by (try dsimp only); omega)).trans x0; have k2 := (hbA'.cell (p := ⟨w.heap.size, 1, none⟩) (by (try dsimp only); omega)).trans x1) | (go_at_call 36; refine (toValue_any _ _ _).mono ?_; rintro e wV ⟨rfl, hbV⟩; have hbV' : Below w12.heap.size w12 wV := held_below (by ((repeat (first | (with_reducible assumption) | (with_reducible refine Below.alloc ?_ ?_ _) | (with_reducible refine Below.drew ?_) | (with_reducible exact Below.refl _ _))) <;> first | omega | (simp; done) | (simp; omega))) hbV (by first | omega | (simp; done) | (simp; omega)); have hsV := hbV'.size; (try (have hbAV : Below wA.heap.size wA wV := held_below (by ((repeat (first | (with_reducible assumption) | (with_reducible refine Below.alloc ?_ ?_ _) | (with_reducible refine Below.drew ?_) | (with_reducible exact Below.refl _ _))) <;> first | omega | (simp; done) | (simp; omega))) hbV (by first | omega | (simp; done) | (simp; omega)); have hsAV := hbAV.size)); (try have hL := BoxL.below (by first | exact hL | exact hL.drew | exact BoxL.new _ _ _ _ _ _ _ _ _ _ _ _ | exact BoxL.newd _ _ _ _ _ _ _ _ _ _ _ _) hbV); have k1 := (hbV'.cell (p := ⟨w.heap.size, 0, none⟩) (by (try dsimp only); omega)).trans x0; have k2 := (hbV'.cell (p := ⟨w.heap.size, 1, none⟩) (by (try dsimp only); omega)).trans x1) | (go_at_call 37; refine (HMI.out _ _ ?_ ?_).mono ?_; (focus (exact (hLA.below (by ((repeat (first | (with_reducible assumption) | (with_reducible refine Below.alloc ?_ ?_ _) | (with_reducible refine Below.drew ?_) | (with_reducible exact Below.refl _ _))) <;> first | omega | (simp; done) | (simp; omega)))).row hm)); (focus (exact HVV.out _ (HB.out.trans (Below.mono (show Below w12.heap.size w12 _ by ((repeat (first | (with_reducible assumption) | (with_reducible refine Below.alloc ?_ ?_ _) | (with_reducible refine Below.drew ?_) | (with_reducible exact Below.refl _ _))) <;> first | omega | (simp; done) | (simp; omega))) HB.out.size)))); rintro e wM ⟨u, rfl, hOM, hbM⟩; obtain ⟨ou, cu, rfl⟩ := hOM.slice; have hbM' : Below w12.heap.size w12 wM := held_below (by ((repeat (first | (with_reducible assumption) | (with_reducible refine Below.alloc ?_ ?_ _) | (with_reducible refine Below.drew ?_) | (with_reducible exact Below.refl _ _))) <;> first | omega | (simp; done) | (simp; omega))) hbM (by first | omega | (simp; done) | (simp; omega)); have hsM := hbM'.size; have hOB : OwC wM w12.heap.size _ cs := OwC.base hOM (by first | omega | (simp; done) | (simp; omega)); (try have hne := ownC_ne hOM (by first | exact hL | exact hL.drew | exact BoxL.new _ _ _ _ _ _ _ _ _ _ _ _ | exact BoxL.newd _ _ _ _ _ _ _ _ _ _ _ _)); (try have hL := BoxL.below (by first | exact hL | exact hL.drew | exact BoxL.new _ _ _ _ _ _ _ _ _ _ _ _ | exact BoxL.newd _ _ _ _ _ _ _ _ _ _ _ _) hbM); (try (have hL2 := hL; obtain ⟨hgl, hzz, zf⟩ := hL2; obtain ⟨b0, z0⟩ := hzz 0 (by omega); obtain ⟨b1, z1⟩ := hzz 1 (by omega); obtain ⟨b2, z2⟩ := hzz 2 (by omega); obtain ⟨b3, z3⟩ := hzz 3 (by omega); obtain ⟨b4, z4⟩ := hzz 4 (by omega); obtain ⟨b5, z5⟩ := hzz 5 (by omega); obtain ⟨b6, z6⟩ := hzz 6 (by omega); obtain ⟨b7, z7⟩ := hzz 7 (by omega); obtain ⟨b8, z8⟩ := hzz 8 (by omega); obtain ⟨b9, z9⟩ := hzz 9 (by omega))); (try dsimp only); have k1 := (hbM'.cell (p := ⟨w.heap.size, 0, none⟩) (by (try dsimp only); omega)).trans x0; have k2 := (hbM'.cell (p := ⟨w.heap.size, 1, none⟩) (by (try dsimp only); omega)).trans x1))
      all_goals
        go_wp2_with fail
        go_meet
        go_light
        refine ⟨rfl, ?_⟩
        first
          | with_reducible exact cutC_after hbM' hsM hOB
          | (with_reducible refine cutC_ahead hL ?_ hne hbM' hOB; omega)
    case rest =>
      obtain ⟨rfl, gc, u9, rfl, hgn9, hbx9, HU9, hne9, hbc⟩ := hcut
      have H9 := Lib.hid hbx9
      obtain ⟨o9, c9, hu9⟩ := HU9.out.slice
      subst hu9
      clear hbx9
      have HB := Lib.hid (HB.out.trans (hbc.mono HB.out.size))
      have HA := Lib.hid (HA.out.below hbc)
      have H0 := Lib.hid (H0.out.below hbc)
      have H8 := Lib.hid (H8.out.below hbc)
      have HU0 := Lib.hid (HU0.out.below hbc)
      have HM := Lib.hid (HM.out.below hbc)
      clear hbc
      obtain ⟨xl, x0, x1, x2, x3, x4, x5, x6, x7, x8, x9⟩ := H9.out
      obtain ⟨yl, y0, y1, y2, y3, y4, y5, y6, y7, y8, y9⟩ := H0.out
      go_wp2_with fail
      refine (eqNew_any cs pk pn _ _ _ HU9.out.row HU0.out.row).mono ?_
      rintro e w13 ⟨rfl, hb13⟩
      clear xl x0 x1 x2 x3 x4 x5 x6 x7 x8 x9
      clear yl y0 y1 y2 y3 y4 y5 y6 y7 y8 y9
      have HB := Lib.hid (HB.out.trans (hb13.mono HB.out.size))
      have HA := Lib.hid (HA.out.below hb13)
      have H0 := Lib.hid (H0.out.below hb13)
      have H8 := Lib.hid (H8.out.below hb13)
      have HM := Lib.hid (HM.out.below hb13)
      clear hb13
      obtain ⟨xl, x0, x1, x2, x3, x4, x5, x6, x7, x8, x9⟩ := H8.out
      go_wp2_with fail
      refine (heldPileC pk pn _ cs.length 1 _ ⟨_, _, rfl⟩ HM.out (by omega) (by omega)).mono ?_
      rintro e w14 ⟨rfl, hb14⟩
      clear xl x0 x1 x2 x3 x4 x5 x6 x7 x8 x9
      have HB := Lib.hid (HB.out.trans (hb14.mono HB.out.size))
      have HA := Lib.hid (HA.out.below hb14)
      clear hb14
      go_wp2_with fail
      go_ret
      exact ⟨rfl, HB.out⟩

end L2
end Go.Proofs.YtmbonldiaimcfaaDoor
