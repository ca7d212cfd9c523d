/-
  The law of chapter 4 on what is meant (written by wip/gen_m12.py).
-/
import Derived.Test.YtncaacljeeinpaaGreatDoorM11
namespace Go.Proofs.YtncaacljeeinpaaGreatDoor
open Go.RowKit Go.Sort
namespace L2
open S1 L1

theorem OwU.base {w : World} {B B' : Nat} {u : Value} {ss : List ByteArray} (h : OwU w B u ss) (hB : B' ≤ B) : OwU w B' u ss := by
  rcases h.is with ⟨rfl, rfl⟩ | h
  · exact World.ownsRow_nil _ _ _ _
  · exact (h.base hB).1
/-- A box of five cells. -/
def BoxL (w : World) (g : Nat) : Prop := g < w.heap.size ∧ ((∃ u, w.cell? ⟨g, 0, none⟩ = some u) ∧ (∃ u, w.cell? ⟨g, 1, none⟩ = some u) ∧ (∃ u, w.cell? ⟨g, 2, none⟩ = some u) ∧ (∃ u, w.cell? ⟨g, 3, none⟩ = some u) ∧ (∃ u, w.cell? ⟨g, 4, none⟩ = some u)) ∧ ∀ i, w.frozen? ⟨g, i, none⟩ = false
theorem BoxL.new (w : World) (u0 u1 u2 u3 u4 : Value) (T : TypeId) : BoxL (w.alloc (.cells #[u0, u1, u2, u3, u4] T)) w.heap.size := by
  have h := alloc_cell w #[u0, u1, u2, u3, u4] T
  refine ⟨by simp, ⟨⟨_, h 0⟩, ⟨_, h 1⟩, ⟨_, h 2⟩, ⟨_, h 3⟩, ⟨_, h 4⟩⟩, fun i => ?_⟩
  have hb := heap_alloc_new w (.cells #[u0, u1, u2, u3, u4] T)
  unfold World.frozen?
  rw [hb]
  simp
theorem BoxL.newd (w : World) (u0 u1 u2 u3 u4 : Value) (T : TypeId) : BoxL (w.alloc (.cells #[u0, u1, u2, u3, u4] T)).drew w.heap.size := BoxL.new w u0 u1 u2 u3 u4 T
theorem BoxL.drew {w : World} {g : Nat} (h : BoxL w g) : BoxL w.drew g := h
theorem BoxL.below {w w' : World} {g : Nat} (h : BoxL w g) (hb : Below w.heap.size w w') : BoxL w' g := by
  obtain ⟨h1, ⟨⟨u0, a0⟩, ⟨u1, a1⟩, ⟨u2, a2⟩, ⟨u3, a3⟩, ⟨u4, a4⟩⟩, h3⟩ := h
  have hc := fun i => hb.cell (p := ⟨g, i, none⟩) h1
  exact ⟨Nat.lt_of_lt_of_le h1 hb.size, ⟨⟨u0, (hc 0).trans a0⟩, ⟨u1, (hc 1).trans a1⟩, ⟨u2, (hc 2).trans a2⟩, ⟨u3, (hc 3).trans a3⟩, ⟨u4, (hc 4).trans a4⟩⟩, fun i => (hb.frozen (p := ⟨g, i, none⟩) h1).trans (h3 i)⟩
theorem ownU_ne {pre w : World} {u : Value} {ss : List ByteArray} {g : Nat} (hO : OwU w pre.heap.size u ss) (hL : BoxL pre g) : u.ownBlock ≠ some g := fun e => by
  have h1 := (hO.lt' e).1
  have h2 := hL.1
  omega
/-- A meaning in a box. -/
def BoxM (w : World) (g : Nat) (o : Out) (u : Value) : Prop := g < w.heap.size ∧ w.cell? ⟨g, 0, none⟩ = some (.int .i64 o.k) ∧ w.cell? ⟨g, 1, none⟩ = some (.int .i64 o.n) ∧ w.cell? ⟨g, 2, none⟩ = some (.bool o.thr) ∧ w.cell? ⟨g, 3, none⟩ = some u ∧ w.cell? ⟨g, 4, none⟩ = some (.int .i64 o.code)
theorem BoxM.kept {w w' : World} {g : Nat} {o : Out} {u : Value} {row : Option Nat} (h : BoxM w g o u) (hg : w.grownBy w' row) (hne : some g ≠ row) : BoxM w' g o u := by
  obtain ⟨h0, h1, h2, h3, h4, h5⟩ := h
  have hc := fun i => World.cell?_of_block (a := ⟨g, i, none⟩) (hg.block g h0 hne)
  exact ⟨Nat.lt_of_lt_of_le h0 hg.size, (hc 0).trans h1, (hc 1).trans h2, (hc 2).trans h3, (hc 3).trans h4, (hc 4).trans h5⟩
theorem BoxM.below {w w' : World} {g : Nat} {o : Out} {u : Value} (h : BoxM w g o u) (hb : Below w.heap.size w w') : BoxM w' g o u := h.kept (D.grown_of_below hb none) (by simp)
/-- What a call was given, in a box. -/
def ArgB (w : World) (g : Nat) (a b : Int) : Prop := g < w.heap.size ∧ w.cell? ⟨g, 0, none⟩ = some (.int .i64 a) ∧ w.cell? ⟨g, 1, none⟩ = some (.int .i64 b)
theorem ArgB.kept {w w' : World} {g : Nat} {a b : Int} {row : Option Nat} (h : ArgB w g a b) (hg : w.grownBy w' row) (hne : some g ≠ row) : ArgB w' g a b := by
  obtain ⟨h0, h1, h2⟩ := h
  have hc := fun i => World.cell?_of_block (a := ⟨g, i, none⟩) (hg.block g h0 hne)
  exact ⟨Nat.lt_of_lt_of_le h0 hg.size, (hc 0).trans h1, (hc 1).trans h2⟩
theorem ArgB.below {w w' : World} {g : Nat} {a b : Int} (h : ArgB w g a b) (hb : Below w.heap.size w w') : ArgB w' g a b := h.kept (D.grown_of_below hb none) (by simp)
/-- Behind a call of Meant whose meaning lies in a box of its own. -/
def CutQ (n : Nat) (wa : World) (o : Out) (s : Value) (wx : World) : Prop :=
  ∃ gb u, s = .pointer (some ⟨gb, 0, none⟩) ∧ n ≤ gb ∧ BoxM wx gb o u ∧ Hid (OwU wx n u o.said) ∧ u.ownBlock ≠ some gb ∧ Below n wa wx
theorem cutQ_after {n : Nat} {wa w1 : World} {o : Out} {u : Value} {T : TypeId} (hb : Below n wa w1) (hn : n ≤ w1.heap.size) (hO : OwU w1 n u o.said) :
    CutQ n wa o (.pointer (some ⟨w1.heap.size, 0, none⟩)) (w1.alloc (.cells #[.int .i64 o.k, .int .i64 o.n, .bool o.thr, u, .int .i64 o.code] T)) := by
  refine ⟨_, u, rfl, hn, ⟨by simp, alloc_cell _ _ _ 0, alloc_cell _ _ _ 1, alloc_cell _ _ _ 2, alloc_cell _ _ _ 3, alloc_cell _ _ _ 4⟩, hO.below ((Below.refl _ _).alloc (Nat.le_refl _) _), fun e => ?_, hb.alloc hn _⟩
  have := (hO.lt' e).2
  omega
theorem cutQ_ahead {n : Nat} {wa w1 : World} {o : Out} {u : Value} {g : Nat} (hL : BoxL w1 g) (hg : n ≤ g) (hne : u.ownBlock ≠ some g) (hb : Below n wa w1) (hO : OwU w1 n u o.said) :
    CutQ n wa o (.pointer (some ⟨g, 0, none⟩)) (((((w1.setCell ⟨g, 0, none⟩ (.int .i64 o.k)).setCell ⟨g, 1, none⟩ (.int .i64 o.n)).setCell ⟨g, 2, none⟩ (.bool o.thr)).setCell ⟨g, 3, none⟩ u).setCell ⟨g, 4, none⟩ (.int .i64 o.code)) := by
  obtain ⟨hgl, ⟨⟨u0, z0⟩, ⟨u1, z1⟩, ⟨u2, z2⟩, ⟨u3, z3⟩, ⟨u4, z4⟩⟩, zf⟩ := hL
  have hgr := ((((D.grown_set w1 g 0 (.int .i64 o.k)).trans (D.grown_set _ g 1 (.int .i64 o.n))).trans (D.grown_set _ g 2 (.bool o.thr))).trans (D.grown_set _ g 3 u)).trans (D.grown_set _ g 4 (.int .i64 o.code))
  refine ⟨g, u, rfl, hg, ⟨by simpa [World.setCell] using hgl, by simp [go_sem, z0, z1, z2, z3, z4]⟩, hO.kept hgr (Or.inr hne), hne, ?_⟩
  exact ((((hb.setCell (by dsimp only; omega) _).setCell (by dsimp only; omega) _).setCell (by dsimp only; omega) _).setCell (by dsimp only; omega) _).setCell (by dsimp only; omega) _

set_option maxRecDepth 100000 in
set_option maxHeartbeats 8000000 in
theorem lawMeant (v : Value) (ss : List ByteArray) (a b : Int) (w : World) (hR : Row w v ss) (hz : ∀ i, i < ss.length → (ss.getD i ByteArray.empty).size ≤ maxLen) (hV : Vars w) :
    Calls Tryz.prog 5 #[v, .agg #[.int .i64 a, .int .i64 b]] w fun e w' => e = .returned (.bool true) ∧ Below w.heap.size w w' := by
  have HZ := Lib.hid (fun w1 (hb : Below w.heap.size w w1) => szStringS_any v ss w1 (hR.below hb) hz)
  have HTT := Lib.hid (fun (hn : ss.length ≤ 1048576) w1 (hb : Below w.heap.size w w1) => toStringS_any v ss w1 (hR.below hb) hn)
  have HVV := Lib.hid (fun w1 (hb : Below w.heap.size w w1) => hV.later hb)
  have hv : ∃ oa l c, v = .slice oa l c := by obtain ⟨oa, c, e, _⟩ := hR; exact ⟨_, _, _, e⟩
  obtain ⟨oa, l, c, rfl⟩ := hv
  clear hR hz hV
  go_enter Tryz.func5, Tryz.ntmps5
  go_wp2_with fail
  refine (HZ.out _ (by (repeat (first | (with_reducible refine Below.alloc ?_ ?_ _) | (with_reducible refine Below.setCell ?_ ?_ _) | (with_reducible refine Below.drew ?_) | (with_reducible exact Below.refl _ _) | (with_reducible refine Below.trans ?_ (Below.mono (by assumption) ?_)))) <;> (first | omega | (dsimp only; omega) | (simp; done) | (simp; omega) | (simp at *; omega)))).mono ?_
  rintro e w1 ⟨rfl, rfl | ⟨y, hy, rfl, hS⟩⟩
  · go_wp2_with fail
    go_ret
    refine ⟨rfl, ?_⟩
    (repeat (first | (with_reducible refine Below.alloc ?_ ?_ _) | (with_reducible refine Below.setCell ?_ ?_ _) | (with_reducible refine Below.drew ?_) | (with_reducible exact Below.refl _ _) | (with_reducible refine Below.trans ?_ (Below.mono (by assumption) ?_)))) <;> (first | omega | (dsimp only; omega) | (simp; done) | (simp; omega) | (simp at *; omega))
  have HS := Lib.hid hS
  have hyn : ¬ y < 0 := by omega
  have hn : ss.length ≤ 1048576 := hS.1
  have hm : ss.length ≤ maxLen := by unfold maxLen; omega
  have HT := Lib.hid (HTT.out hn)
  have hgd := meant_good (wsOf ss) a b
  have HMS := Lib.hid (fun v' W' (hR' : Row W' v' ss) => specMeantQ v' ss a b W' hR' HS.out)
  have HMI := Lib.hid (fun v' W' (hR' : Row W' v' ss) (hV' : Vars W') => implMeantQ v' ss a b W' hR' HS.out hV')
  obtain ⟨o, hod⟩ : ∃ o, meant (wsOf ss) a b = o := ⟨_, rfl⟩
  rw [hod] at HMS HMI hgd
  obtain ⟨ok, on, ot, oz, oc⟩ := o
  have hoz : oz.length ≤ 40 := hgd.len
  clear hS hod hgd HTT HZ
  go_upto_region 5 with fail
  have HB : Hid (Below w.heap.size w (w.alloc (.cells #[.int .i64 a, .int .i64 b] 49))) := Lib.hid (by (repeat (first | (with_reducible refine Below.alloc ?_ ?_ _) | (with_reducible refine Below.setCell ?_ ?_ _) | (with_reducible refine Below.drew ?_) | (with_reducible exact Below.refl _ _) | (with_reducible refine Below.trans ?_ (Below.mono (by assumption) ?_)))) <;> (first | omega | (dsimp only; omega) | (simp; done) | (simp; omega) | (simp at *; omega)))
  have HA : Hid (ArgB (w.alloc (.cells #[.int .i64 a, .int .i64 b] 49)) w.heap.size a b) := Lib.hid ⟨by simp, alloc_cell _ _ _ 0, alloc_cell _ _ _ 1⟩
  have hsa : w.heap.size < (w.alloc (.cells #[.int .i64 a, .int .i64 b] 49)).heap.size := by simp
  generalize w.alloc (.cells #[.int .i64 a, .int .i64 b] 49) = wa at HB HA hsa ⊢
  go_cut [6] (fun s wx => CutQ wa.heap.size wa ⟨ok, on, ot, oz, oc⟩ s wx)
  case first =>
    have s8 := Below.refl wa.heap.size wa
    have s7 := Nat.le_refl wa.heap.size
    obtain ⟨xl, x0, x1⟩ := HA.out
    go_region_held3 (fun w' => w'.cell? ⟨w.heap.size, 0, none⟩ = some (.int .i64 a) ∧ w'.cell? ⟨w.heap.size, 1, none⟩ = some (.int .i64 b) ∧ Below wa.heap.size wa w' ∧ wa.heap.size ≤ w'.heap.size)
      (((try dsimp only); (repeat' (refine And.intro ?_ ?_)) <;> first | (with_reducible assumption) | omega | ((repeat (first | (with_reducible assumption) | (with_reducible refine held_drewc ?_) | (with_reducible refine held_old ?_ ?_ _) | (with_reducible refine held_setc ?_ ?_ _) | (with_reducible refine Below.alloc ?_ ?_ _) | (with_reducible refine Below.drew ?_) | (with_reducible refine Below.setCell ?_ ?_ _))) <;> first | omega | (simp; done) | (simp; omega)) | (simp; omega)))
      (first | (go_at_call 29; refine (HT.out _ ?_).mono ?_; (focus (exact HB.out.trans (Below.mono (show Below wa.heap.size wa _ by ((repeat (first | (with_reducible assumption) | (with_reducible refine Below.alloc ?_ ?_ _) | (with_reducible refine Below.drew ?_) | (with_reducible exact Below.refl _ _))) <;> first | omega | (simp; done) | (simp; omega))) HB.out.size))); rintro e wA ⟨rfl, hLA, hbA⟩; (try simp at hLA); have hbA' : Below wa.heap.size wa wA := held_below (by ((repeat (first | (with_reducible assumption) | (with_reducible refine Below.alloc ?_ ?_ _) | (with_reducible refine Below.drew ?_) | (with_reducible exact Below.refl _ _))) <;> first | omega | (simp; done) | (simp; omega))) hbA (by first | omega | (simp; done) | (simp; omega)); have hsA := hbA'.size; (try have hL := BoxL.below (by first | exact hL | exact hL.drew | exact BoxL.new _ _ _ _ _ _ _ | exact BoxL.newd _ _ _ _ _ _ _) hbA); have k1 := (hbA'.cell (p := ⟨w.heap.size, 0, none⟩) (by (try dsimp only); omega)).trans x0; have k2 := (hbA'.cell (p := ⟨w.heap.size, 1, none⟩) (by (try dsimp only); omega)).trans x1) | (go_at_call 30; refine (toValue_any _ _ _).mono ?_; rintro e wV ⟨rfl, hbV⟩; have hbV' : Below wa.heap.size wa wV := held_below (by ((repeat (first | (with_reducible assumption) | (with_reducible refine Below.alloc ?_ ?_ _) | (with_reducible refine Below.drew ?_) | (with_reducible exact Below.refl _ _))) <;> first | omega | (simp; done) | (simp; omega))) hbV (by first | omega | (simp; done) | (simp; omega)); have hsV := hbV'.size; (try (have hbAV : Below wA.heap.size wA wV := held_below (by ((repeat (first | (with_reducible assumption) | (with_reducible refine Below.alloc ?_ ?_ _) | (with_reducible refine Below.drew ?_) | (with_reducible exact Below.refl _ _))) <;> first | omega | (simp; done) | (simp; omega))) hbV (by first | omega | (simp; done) | (simp; omega)); have hsAV := hbAV.size)); (try have hL := BoxL.below (by first | exact hL | exact hL.drew | exact BoxL.new _ _ _ _ _ _ _ | exact BoxL.newd _ _ _ _ _ _ _) hbV); have k1 := (hbV'.cell (p := ⟨w.heap.size, 0, none⟩) (by (try dsimp only); omega)).trans x0; have k2 := (hbV'.cell (p := ⟨w.heap.size, 1, none⟩) (by (try dsimp only); omega)).trans x1) | (go_at_call 11; refine (HMS.out _ _ ?_).mono ?_; (focus (exact (hLA.below (by ((repeat (first | (with_reducible assumption) | (with_reducible refine Below.alloc ?_ ?_ _) | (with_reducible refine Below.drew ?_) | (with_reducible exact Below.refl _ _))) <;> first | omega | (simp; done) | (simp; omega)))).row hm)); rintro e wM ⟨u, rfl, hOM, hbM⟩; obtain ⟨ou, cu, rfl⟩ := hOM.slice; have hbM' : Below wa.heap.size wa wM := held_below (by ((repeat (first | (with_reducible assumption) | (with_reducible refine Below.alloc ?_ ?_ _) | (with_reducible refine Below.drew ?_) | (with_reducible exact Below.refl _ _))) <;> first | omega | (simp; done) | (simp; omega))) hbM (by first | omega | (simp; done) | (simp; omega)); have hsM := hbM'.size; have hOB : OwU wM wa.heap.size _ oz := OwU.base hOM (by first | omega | (simp; done) | (simp; omega)); (try have hne := ownU_ne hOM (by first | exact hL | exact hL.drew | exact BoxL.new _ _ _ _ _ _ _ | exact BoxL.newd _ _ _ _ _ _ _)); (try have hL := BoxL.below (by first | exact hL | exact hL.drew | exact BoxL.new _ _ _ _ _ _ _ | exact BoxL.newd _ _ _ _ _ _ _) hbM); (try (have hL2 := hL; obtain ⟨hgl, ⟨⟨b0, z0⟩, ⟨b1, z1⟩, ⟨b2, z2⟩, ⟨b3, z3⟩, ⟨b4, z4⟩⟩, zf⟩ := hL2)); unfold mgV; (try dsimp only); have k1 := (hbM'.cell (p := ⟨w.heap.size, 0, none⟩) (by (try dsimp only); omega)).trans x0; have k2 := (hbM'.cell (p := ⟨w.heap.size, 1, none⟩) (by (try dsimp only); omega)).trans x1))
    all_goals
      go_wp2_with fail
      go_meet
      go_light
      first
        | with_reducible exact cutQ_after hbM' hsM hOB
        | (with_reducible refine cutQ_ahead hL ?_ hne hbM' hOB; omega)
  case rest =>
    obtain ⟨wz, rfl⟩ : ∃ w0 : World, w0 = wc := ⟨_, rfl⟩
    obtain ⟨gb, u0, rfl, hgn, hbx, HU0, hne0, hbc⟩ := hcut
    have H0 := Lib.hid hbx
    have hsc := hbc.size
    dsimp only at HU0
    have n1 : gb < wz.heap.size := hbx.1
    have n2 : w.heap.size < wz.heap.size := by omega
    have N3 := Lib.hid (fun b (e : u0.ownBlock = some b) => HU0.out.lt' e)
    have HB := Lib.hid (HB.out.trans (hbc.mono HB.out.size))
    have HA := Lib.hid (HA.out.below hbc)
    clear hbc
    clear hbx
    go_wp2_with fail
    refine (HT.out _ HB.out).mono ?_
    rintro e w2 ⟨rfl, hL2, hb2⟩
    have hz2 : wz.heap.size < w2.heap.size := hL2.lt
    have HB := Lib.hid (HB.out.trans (hb2.mono HB.out.size))
    have HA := Lib.hid (HA.out.below hb2)
    have H0 := Lib.hid (H0.out.below hb2)
    have HU0 := Lib.hid (HU0.out.below hb2)
    clear hb2
    have HX := Lib.hid hL2
    clear hL2
    obtain ⟨xl, x0, x1⟩ := HA.out
    go_wp2_with fail
    refine (toValue_any _ _ _).mono ?_
    rintro e w3 ⟨rfl, hb3⟩
    have hz3 := hb3.size
    clear xl x0 x1
    have HB := Lib.hid (HB.out.trans (hb3.mono HB.out.size))
    have HA := Lib.hid (HA.out.below hb3)
    have H0 := Lib.hid (H0.out.below hb3)
    have HU0 := Lib.hid (HU0.out.below hb3)
    have HX := Lib.hid (HX.out.below hb3)
    clear hb3
    go_wp2_with fail
    refine (HMI.out _ _ ?_ ?_).mono ?_
    · exact HX.out.row hm
    · exact HVV.out _ HB.out
    rintro e w4 ⟨u4, rfl, hO4, hb4⟩
    obtain ⟨o4, c4, hu4⟩ := hO4.slice
    dsimp only at hO4 hu4
    have hz4 := hb4.size
    have HU4 := Lib.hid hO4
    have N5 := Lib.hid (fun b (e : u4.ownBlock = some b) => hO4.lt' e)
    have HB := Lib.hid (HB.out.trans (hb4.mono HB.out.size))
    have HA := Lib.hid (HA.out.below hb4)
    have H0 := Lib.hid (H0.out.below hb4)
    have HU0 := Lib.hid (HU0.out.below hb4)
    have HX := Lib.hid (HX.out.below hb4)
    clear hb4
    subst hu4
    clear hO4
    unfold mgV
    try dsimp only
    go_upto_region 8 with fail
    have H8 : Hid (BoxM (w4.alloc (.cells #[.int .i64 ok, .int .i64 on, .bool ot, .slice o4 oz.length c4, .int .i64 oc] 30)) w4.heap.size ⟨ok, on, ot, oz, oc⟩ (.slice o4 oz.length c4)) := Lib.hid ⟨by simp, alloc_cell _ _ _ 0, alloc_cell _ _ _ 1, alloc_cell _ _ _ 2, alloc_cell _ _ _ 3, alloc_cell _ _ _ 4⟩
    have hb5 : Below w4.heap.size w4 (w4.alloc (.cells #[.int .i64 ok, .int .i64 on, .bool ot, .slice o4 oz.length c4, .int .i64 oc] 30)) := (Below.refl _ _).alloc (Nat.le_refl _) _
    have hz5 : w4.heap.size < (w4.alloc (.cells #[.int .i64 ok, .int .i64 on, .bool ot, .slice o4 oz.length c4, .int .i64 oc] 30)).heap.size := by simp
    generalize w4.alloc (.cells #[.int .i64 ok, .int .i64 on, .bool ot, .slice o4 oz.length c4, .int .i64 oc] 30) = w5 at H8 hb5 hz5 ⊢
    have HB := Lib.hid (HB.out.trans (hb5.mono HB.out.size))
    have HA := Lib.hid (HA.out.below hb5)
    have H0 := Lib.hid (H0.out.below hb5)
    have HU0 := Lib.hid (HU0.out.below hb5)
    have HX := Lib.hid (HX.out.below hb5)
    have HU4 := Lib.hid (HU4.out.below hb5)
    clear hb5
    obtain ⟨xl, x0, x1, x2, x3, x4⟩ := H8.out
    dsimp only at x0 x1 x2 x3 x4
    obtain ⟨yl, y0, y1, y2, y3, y4⟩ := H0.out
    dsimp only at y0 y1 y2 y3 y4
    go_wp2_with fail
    refine (eqMeaning_any ok on ot _ _ oc oz _ HU4.out.row HU0.out.row).mono ?_
    rintro e w6 ⟨rfl, hb6⟩
    have hz6 := hb6.size
    clear xl x0 x1 x2 x3 x4
    clear yl y0 y1 y2 y3 y4
    have HB := Lib.hid (HB.out.trans (hb6.mono HB.out.size))
    have HA := Lib.hid (HA.out.below hb6)
    have H0 := Lib.hid (H0.out.below hb6)
    have H8 := Lib.hid (H8.out.below hb6)
    have HU0 := Lib.hid (HU0.out.below hb6)
    have HU4 := Lib.hid (HU4.out.below hb6)
    have HX := Lib.hid (HX.out.below hb6)
    clear hb6
    go_wp2_with fail
    refine (HT.out _ HB.out).mono ?_
    rintro e w7 ⟨rfl, hL7, hb7⟩
    have HB := Lib.hid (HB.out.trans (hb7.mono HB.out.size))
    have HA := Lib.hid (HA.out.below hb7)
    have H0 := Lib.hid (H0.out.below hb7)
    have H8 := Lib.hid (H8.out.below hb7)
    have HU0 := Lib.hid (HU0.out.below hb7)
    have HU4 := Lib.hid (HU4.out.below hb7)
    have HX := Lib.hid (HX.out.below hb7)
    clear hb7
    have HN7 := Lib.hid hL7
    clear hL7
    go_wp2_with fail
    refine (eqStringS_any _ _ ss w7 (HX.out.row hm) (HN7.out.row hm)).mono ?_
    rintro e w8 ⟨rfl, hb8⟩
    have HB := Lib.hid (HB.out.trans (hb8.mono HB.out.size))
    have HA := Lib.hid (HA.out.below hb8)
    have H0 := Lib.hid (H0.out.below hb8)
    have H8 := Lib.hid (H8.out.below hb8)
    have HU0 := Lib.hid (HU0.out.below hb8)
    have HU4 := Lib.hid (HU4.out.below hb8)
    have HX := Lib.hid (HX.out.below hb8)
    clear hb8
    clear HN7
    go_wp2_with fail
    refine (markStringS_any wz.heap.size ss.length ss.length 1 w8 _ HX.out.mem (by simp) (Nat.le_refl _) hn (by omega)).mono ?_
    rintro e w9 ⟨rfl, -, hg9⟩
    have HB := Lib.hid (HB.out.grown hg9 HB.out.size (fun q e => by injection e with e; omega))
    have HA := Lib.hid (HA.out.kept hg9 (by intro e; injection e with e; omega))
    have H0 := Lib.hid (H0.out.kept hg9 (by intro e; injection e with e; omega))
    have H8 := Lib.hid (H8.out.kept hg9 (by intro e; injection e with e; omega))
    have HU0 := Lib.hid (HU0.out.kept hg9 (Or.inr (fun e => by have := (N3.out _ e).2; omega)))
    have HU4 := Lib.hid (HU4.out.kept hg9 (Or.inr (fun e => by have := (N5.out _ e).1; omega)))
    clear hg9
    clear HX
    have q9 : ¬ ((1 + ss.length : Nat) : Int) < 0 := by omega
    have q9' : ¬ ((1 : Int) + (ss.length : Int)) < 0 := by omega
    have q9'' : decide (((1 + ss.length : Nat) : Int) < 0) = false := by simp; omega
    obtain ⟨xl, x0, x1, x2, x3, x4⟩ := H8.out
    dsimp only at x0 x1 x2 x3 x4
    obtain ⟨yl, y0, y1, y2, y3, y4⟩ := H0.out
    dsimp only at y0 y1 y2 y3 y4
    go_wp2_with fail
    refine (eqMeaning_any ok on ot _ _ oc oz _ HU4.out.row HU0.out.row).mono ?_
    rintro e w10 ⟨rfl, hb10⟩
    clear xl x0 x1 x2 x3 x4
    clear yl y0 y1 y2 y3 y4
    have HB := Lib.hid (HB.out.trans (hb10.mono HB.out.size))
    have HA := Lib.hid (HA.out.below hb10)
    have H0 := Lib.hid (H0.out.below hb10)
    have H8 := Lib.hid (H8.out.below hb10)
    have HU0 := Lib.hid (HU0.out.below hb10)
    have HU4 := Lib.hid (HU4.out.below hb10)
    clear hb10
    obtain ⟨xl, x0, x1, x2, x3, x4⟩ := H8.out
    dsimp only at x0 x1 x2 x3 x4
    go_wp2_with fail
    refine (markMeaningU ok on ot oc _ oz 1 _ HU4.out (by omega) (by omega)).mono ?_
    rintro e w11 ⟨rfl, hM, hg11⟩
    clear xl x0 x1 x2 x3 x4
    have HB := Lib.hid (HB.out.grown hg11 HB.out.size (fun q e => by have := (N5.out _ e).1; omega))
    have HA := Lib.hid (HA.out.kept hg11 (fun e => by have := (N5.out _ e.symm).1; omega))
    have H0 := Lib.hid (H0.out.kept hg11 (fun e => by have := (N5.out _ e.symm).1; omega))
    have H8 := Lib.hid (H8.out.kept hg11 (fun e => by have := (N5.out _ e.symm).2; omega))
    have HU0 := Lib.hid (HU0.out.kept hg11 (by cases h0 : u0.ownBlock with | none => exact Or.inl rfl | some b => exact Or.inr (fun e => by have := (N3.out _ h0).2; have := (N5.out _ e.symm).1; omega)))
    clear hg11
    have HM := Lib.hid hM
    clear hM HU4
    have q11 : ¬ ((1 + oz.length : Nat) : Int) < 0 := by omega
    have q11' : ¬ ((1 : Int) + (oz.length : Int)) < 0 := by omega
    obtain ⟨xl, x0, x1, x2, x3, x4⟩ := H8.out
    dsimp only at x0 x1 x2 x3 x4
    go_wp2_with fail
    refine (heldMeaningU ok on ot oc _ oz.length 1 _ ⟨_, _, rfl⟩ HM.out (by omega) (by omega)).mono ?_
    rintro e w12 ⟨rfl, hb12⟩
    have hz12 : w.heap.size < w12.heap.size := by have := (HA.out.below hb12).1; exact this
    clear xl x0 x1 x2 x3 x4
    have HB := Lib.hid (HB.out.trans (hb12.mono HB.out.size))
    have HA := Lib.hid (HA.out.below hb12)
    have H0 := Lib.hid (H0.out.below hb12)
    have H8 := Lib.hid (H8.out.below hb12)
    have HU0 := Lib.hid (HU0.out.below hb12)
    have HM := Lib.hid (HM.out.below hb12)
    clear hb12
    go_upto_region 24 with fail
    go_cut [12] (fun s wx => CutQ w12.heap.size w12 ⟨ok, on, ot, oz, oc⟩ s wx)
    case first =>
      have s8 := Below.refl w12.heap.size w12
      have s7 := Nat.le_refl w12.heap.size
      obtain ⟨xl, x0, x1⟩ := HA.out
      go_region_held3 (fun w' => w'.cell? ⟨w.heap.size, 0, none⟩ = some (.int .i64 a) ∧ w'.cell? ⟨w.heap.size, 1, none⟩ = some (.int .i64 b) ∧ Below w12.heap.size w12 w' ∧ w12.heap.size ≤ w'.heap.size)
        (((try dsimp only); (repeat' (refine And.intro ?_ ?_)) <;> first | (with_reducible assumption) | omega | ((repeat (first | (with_reducible assumption) | (with_reducible refine held_drewc ?_) | (with_reducible refine held_old ?_ ?_ _) | (with_reducible refine held_setc ?_ ?_ _) | (with_reducible refine Below.alloc ?_ ?_ _) | (with_reducible refine Below.drew ?_) | (with_reducible refine Below.setCell ?_ ?_ _))) <;> first | omega | (simp; done) | (simp; omega)) | (simp; omega)))
        (first | (go_at_call 29; refine (HT.out _ ?_).mono ?_; (focus (exact HB.out.trans (Below.mono (show Below w12.heap.size w12 _ by ((repeat (first | (with_reducible assumption) | (with_reducible refine Below.alloc ?_ ?_ _) | (with_reducible refine Below.drew ?_) | (with_reducible exact Below.refl _ _))) <;> first | omega | (simp; done) | (simp; omega))) HB.out.size))); rintro e wA ⟨rfl, hLA, hbA⟩; (try simp at hLA); have hbA' : Below w12.heap.size w12 wA := held_below (by ((repeat (first | (with_reducible assumption) | (with_reducible refine Below.alloc ?_ ?_ _) | (with_reducible refine Below.drew ?_) | (with_reducible exact Below.refl _ _))) <;> first | omega | (simp; done) | (simp; omega))) hbA (by first | omega | (simp; done) | (simp; omega)); have hsA := hbA'.size; (try have hL := BoxL.below (by first | exact hL | exact hL.drew | exact BoxL.new _ _ _ _ _ _ _ | exact BoxL.newd _ _ _ _ _ _ _) hbA); have k1 := (hbA'.cell (p := ⟨w.heap.size, 0, none⟩) (by (try dsimp only); omega)).trans x0; have k2 := (hbA'.cell (p := ⟨w.heap.size, 1, none⟩) (by (try dsimp only); omega)).trans x1) | (go_at_call 30; refine (toValue_any _ _ _).mono ?_; rintro e wV ⟨rfl, hbV⟩; have hbV' : Below w12.heap.size w12 wV := held_below (by ((repeat (first | (with_reducible assumption) | (with_reducible refine Below.alloc ?_ ?_ _) | (with_reducible refine Below.drew ?_) | (with_reducible exact Below.refl _ _))) <;> first | omega | (simp; done) | (simp; omega))) hbV (by first | omega | (simp; done) | (simp; omega)); have hsV := hbV'.size; (try (have hbAV : Below wA.heap.size wA wV := held_below (by ((repeat (first | (with_reducible assumption) | (with_reducible refine Below.alloc ?_ ?_ _) | (with_reducible refine Below.drew ?_) | (with_reducible exact Below.refl _ _))) <;> first | omega | (simp; done) | (simp; omega))) hbV (by first | omega | (simp; done) | (simp; omega)); have hsAV := hbAV.size)); (try have hL := BoxL.below (by first | exact hL | exact hL.drew | exact BoxL.new _ _ _ _ _ _ _ | exact BoxL.newd _ _ _ _ _ _ _) hbV); have k1 := (hbV'.cell (p := ⟨w.heap.size, 0, none⟩) (by (try dsimp only); omega)).trans x0; have k2 := (hbV'.cell (p := ⟨w.heap.size, 1, none⟩) (by (try dsimp only); omega)).trans x1) | (go_at_call 8; refine (HMI.out _ _ ?_ ?_).mono ?_; (focus (exact (hLA.below (by ((repeat (first | (with_reducible assumption) | (with_reducible refine Below.alloc ?_ ?_ _) | (with_reducible refine Below.drew ?_) | (with_reducible exact Below.refl _ _))) <;> first | omega | (simp; done) | (simp; omega)))).row hm)); (focus (exact HVV.out _ (HB.out.trans (Below.mono (show Below w12.heap.size w12 _ by ((repeat (first | (with_reducible assumption) | (with_reducible refine Below.alloc ?_ ?_ _) | (with_reducible refine Below.drew ?_) | (with_reducible exact Below.refl _ _))) <;> first | omega | (simp; done) | (simp; omega))) HB.out.size)))); rintro e wM ⟨u, rfl, hOM, hbM⟩; obtain ⟨ou, cu, rfl⟩ := hOM.slice; have hbM' : Below w12.heap.size w12 wM := held_below (by ((repeat (first | (with_reducible assumption) | (with_reducible refine Below.alloc ?_ ?_ _) | (with_reducible refine Below.drew ?_) | (with_reducible exact Below.refl _ _))) <;> first | omega | (simp; done) | (simp; omega))) hbM (by first | omega | (simp; done) | (simp; omega)); have hsM := hbM'.size; have hOB : OwU wM w12.heap.size _ oz := OwU.base hOM (by first | omega | (simp; done) | (simp; omega)); (try have hne := ownU_ne hOM (by first | exact hL | exact hL.drew | exact BoxL.new _ _ _ _ _ _ _ | exact BoxL.newd _ _ _ _ _ _ _)); (try have hL := BoxL.below (by first | exact hL | exact hL.drew | exact BoxL.new _ _ _ _ _ _ _ | exact BoxL.newd _ _ _ _ _ _ _) hbM); (try (have hL2 := hL; obtain ⟨hgl, ⟨⟨b0, z0⟩, ⟨b1, z1⟩, ⟨b2, z2⟩, ⟨b3, z3⟩, ⟨b4, z4⟩⟩, zf⟩ := hL2)); unfold mgV; (try dsimp only); have k1 := (hbM'.cell (p := ⟨w.heap.size, 0, none⟩) (by (try dsimp only); omega)).trans x0; have k2 := (hbM'.cell (p := ⟨w.heap.size, 1, none⟩) (by (try dsimp only); omega)).trans x1))
      all_goals
        go_wp2_with fail
        go_meet
        go_light
        first
          | with_reducible exact cutQ_after hbM' hsM hOB
          | (with_reducible refine cutQ_ahead hL ?_ hne hbM' hOB; omega)
    case rest =>
      obtain ⟨gc, u9, rfl, hgn9, hbx9, HU9, hne9, hbc⟩ := hcut
      dsimp only at HU9
      have H9 := Lib.hid hbx9
      clear hbx9
      have HB := Lib.hid (HB.out.trans (hbc.mono HB.out.size))
      have HA := Lib.hid (HA.out.below hbc)
      have H0 := Lib.hid (H0.out.below hbc)
      have H8 := Lib.hid (H8.out.below hbc)
      have HU0 := Lib.hid (HU0.out.below hbc)
      have HM := Lib.hid (HM.out.below hbc)
      clear hbc
      obtain ⟨xl, x0, x1, x2, x3, x4⟩ := H9.out
      dsimp only at x0 x1 x2 x3 x4
      obtain ⟨yl, y0, y1, y2, y3, y4⟩ := H0.out
      dsimp only at y0 y1 y2 y3 y4
      go_wp2_with fail
      refine (eqMeaning_any ok on ot _ _ oc oz _ HU9.out.row HU0.out.row).mono ?_
      rintro e w13 ⟨rfl, hb13⟩
      clear xl x0 x1 x2 x3 x4
      clear yl y0 y1 y2 y3 y4
      have HB := Lib.hid (HB.out.trans (hb13.mono HB.out.size))
      have HA := Lib.hid (HA.out.below hb13)
      have H0 := Lib.hid (H0.out.below hb13)
      have H8 := Lib.hid (H8.out.below hb13)
      have HM := Lib.hid (HM.out.below hb13)
      clear hb13
      obtain ⟨xl, x0, x1, x2, x3, x4⟩ := H8.out
      dsimp only at x0 x1 x2 x3 x4
      go_wp2_with fail
      refine (heldMeaningU ok on ot oc _ oz.length 1 _ ⟨_, _, rfl⟩ HM.out (by omega) (by omega)).mono ?_
      rintro e w14 ⟨rfl, hb14⟩
      clear xl x0 x1 x2 x3 x4
      have HB := Lib.hid (HB.out.trans (hb14.mono HB.out.size))
      have HA := Lib.hid (HA.out.below hb14)
      clear hb14
      go_wp2_with fail
      go_ret
      exact ⟨rfl, HB.out⟩

end L2
end Go.Proofs.YtncaacljeeinpaaGreatDoor
