/-
  The model's sums that have a first one: l4Mean, word by word (written by wip/gen_m9.py).
-/
import Derived.Test.YtkhjbhkbknennaaGreatDoorM5
import Derived.Test.YtkhjbhkbknennaaGreatDoorM8
namespace Go.Proofs.YtkhjbhkbknennaaGreatDoor
open Go.RowKit
namespace L2
open S1 L1

/-- Behind a sum that was done: what it came to lies in a box of its own, at n or behind it; below n nothing has turned. -/
def CutM (n r : Nat) (wa : World) (o : Out) (s : Value) (wx : World) : Prop :=
  ∃ (gb : Nat) (oa1 : Option Addr) (cp1 : Nat), s = .pointer (some ⟨gb, 0, none⟩) ∧ n ≤ gb ∧ gb < wx.heap.size ∧ (wx.cell? ⟨gb, 0, none⟩ = some (.int .i64 o.k) ∧ wx.cell? ⟨gb, 1, none⟩ = some (.int .i64 o.n) ∧ wx.cell? ⟨gb, 2, none⟩ = some (.bool o.thr) ∧ wx.cell? ⟨gb, 3, none⟩ = some (.slice oa1 o.said.length cp1) ∧ wx.cell? ⟨gb, 4, none⟩ = some (.int .i64 o.code)) ∧ (∀ i, wx.frozen? ⟨gb, i, none⟩ = false) ∧
    Hid (∀ w', Keeps (fun x => x = gb ∨ x = r) wx w' → Row w' (.slice oa1 o.said.length cp1) o.said) ∧ Below n wa wx
theorem cutM_after {n r : Nat} {wa w1 : World} {o : Out} {oa : Option Addr} {cp : Nat} {T : TypeId} (hb : Below n wa w1) (hn : n ≤ w1.heap.size) (hR : Row w1 (.slice oa o.said.length cp) o.said) (nsr : NS w1 r) :
    CutM n r wa o (.pointer (some ⟨w1.heap.size, 0, none⟩)) (w1.alloc (.cells #[.int .i64 o.k, .int .i64 o.n, .bool o.thr, .slice oa o.said.length cp, .int .i64 o.code] T)) := by
  refine ⟨w1.heap.size, oa, cp, rfl, hn, by simp, ⟨alloc_cell _ _ _ 0, alloc_cell _ _ _ 1, alloc_cell _ _ _ 2, alloc_cell _ _ _ 3, alloc_cell _ _ _ 4⟩, fun i => ?_, fun w' hk => row_free hR nsr (Or.inr (Nat.le_refl _)) (fun c hc _ => Below.heap_alloc _ _ _ hc) (by simp) hk, hb.alloc hn _⟩
  have h := heap_alloc_new w1 (.cells #[.int .i64 o.k, .int .i64 o.n, .bool o.thr, .slice oa o.said.length cp, .int .i64 o.code] T)
  simp only [World.frozen?, h]
  rfl
theorem cutM_ahead {n r : Nat} {wa w1 : World} {o : Out} {oa : Option Addr} {cp g : Nat} (hg : n ≤ g) (hgl : g < w1.heap.size) (nsg : NS w1 g) (z : (∃ u, w1.cell? ⟨g, 0, none⟩ = some u) ∧ (∃ u, w1.cell? ⟨g, 1, none⟩ = some u) ∧ (∃ u, w1.cell? ⟨g, 2, none⟩ = some u) ∧ (∃ u, w1.cell? ⟨g, 3, none⟩ = some u) ∧ (∃ u, w1.cell? ⟨g, 4, none⟩ = some u)) (zf : ∀ i, w1.frozen? ⟨g, i, none⟩ = false)
    (hb : Below n wa w1) (hR : Row w1 (.slice oa o.said.length cp) o.said) (nsr : NS w1 r) :
    CutM n r wa o (.pointer (some ⟨g, 0, none⟩)) (((((w1.setCell ⟨g, 0, none⟩ (.int .i64 o.k)).setCell ⟨g, 1, none⟩ (.int .i64 o.n)).setCell ⟨g, 2, none⟩ (.bool o.thr)).setCell ⟨g, 3, none⟩ (.slice oa o.said.length cp)).setCell ⟨g, 4, none⟩ (.int .i64 o.code)) := by
  obtain ⟨⟨u0, z0⟩, ⟨u1, z1⟩, ⟨u2, z2⟩, ⟨u3, z3⟩, ⟨u4, z4⟩⟩ := z
  refine ⟨g, oa, cp, rfl, hg, by simpa [World.setCell] using hgl, by simp [go_sem, z0, z1, z2, z3, z4], fun i => by simp [go_sem, zf], fun w' hk => row_free hR nsr (Or.inl nsg) (fun c _ hn => set5_block hn) (by simp [World.setCell]) hk, ?_⟩
  exact ((((hb.setCell (by dsimp only; omega) _).setCell (by dsimp only; omega) _).setCell (by dsimp only; omega) _).setCell (by dsimp only; omega) _).setCell (by dsimp only; omega) _
def tryO (t : Bool) (m o : Out) : Out := if t = true then m else o
def keepO (c : Int) (m o : Out) : Out := if c = 0 then m else o
theorem RecS.few {v : Value} {p nb : Nat} {d : Deed} {W : World} (h : RecS v p (nb + 1) d W) : RecS v p nb d W := fun W' a b bv bs sv sd h1 h2 h3 h4 => h W' a b bv bs sv sd h1 h2 h3 (Nat.le_succ_of_le h4)
theorem NS.of {w w' : World} {b : Nat} (h : NS w b) (hc : ∀ i, w'.cell? ⟨b, i, none⟩ = w.cell? ⟨b, i, none⟩) : NS w' b := fun i s e => h i s (by rw [← hc i]; exact e)

set_option maxRecDepth 100000 in
set_option maxHeartbeats 4000000 in
theorem mean_more {W : World} {v bv sv : Value} {ss sd : List ByteArray} {bs : Bs} {i nb : Nat} {a b : Int} {ps : List Nat} {x : ByteArray} {d0 : Deed} (hR : Row W v ss) (hi : i < ss.length) (hx : ss.getD i ByteArray.empty = x) (hP : ∀ w, Below W.heap.size W w → Calls Tryz.prog 95 #[v, .int .i64 (i : Int)] w (Rowed ps w)) (hk0 : 0 < ps.length) (hok : okB a b = true) (hbv : RowB W bv bs) (hfew : bs.length ≤ nb) (hgd : GoodB (toBd bs)) (hsd : Row W sv sd) (hl : sd.length ≤ 40) (hsh : Short sd) (HR0 : RecS v (ps.getD 0 0) nb d0 W) (hG0 : GoodD d0) (T0 : (x.toList == [97, 114, 103]) = false) (T1 : (x.toList == [97, 115, 107]) = false)
    {m : Out} (T9 : (x.toList == [107, 101, 101, 112]) = false) (T11 : (x.toList == [116, 114, 121]) = false)
    (HM : (d0 a b (toBd bs) sd).thr = false → (d0 a b (toBd bs) sd).code = 0 → ∀ W' pv oa' cp', Below W.heap.size W W' → PartsAt W' pv ps → Row W' (.slice oa' (d0 a b (toBd bs) sd).said.length cp') (d0 a b (toBd bs) sd).said → Calls Tryz.prog 97 #[v, .string x, pv, .agg #[.int .i64 (d0 a b (toBd bs) sd).k, .int .i64 (d0 a b (toBd bs) sd).n, .bool false, .slice oa' (d0 a b (toBd bs) sd).said.length cp', .int .i64 0], .agg #[.int .i64 a, .int .i64 b], bv] W' (MeansS m W')) :
    Calls Tryz.prog 41 #[v, .int .i64 (i : Int), .agg #[.int .i64 a, .int .i64 b], bv, sv] W (MeansS (thenD (d0 a b (toBd bs) sd) fun _ => m) W) := by
  have HP := Lib.hid hP
  have HSD := Lib.hid hsd
  have HBV := Lib.hid hbv
  have HRV := Lib.hid hR
  have HG0 := Lib.hid (hG0 a b (toBd bs) sd hok hgd hl hsh)
  obtain ⟨oa, ca, rfl, hv1, hv2, hv3⟩ := hR
  obtain ⟨os, cs, rfl, hs1, hs2, -⟩ := hsd
  obtain ⟨ob, cb, rfl, hb1, hb2, -⟩ := hbv
  obtain ⟨X, off, rfl, hX, hc⟩ := hv3 i hi
  rw [hx] at hc
  obtain ⟨sl, hsl⟩ : ∃ sl, sd.length = sl := ⟨_, rfl⟩
  obtain ⟨vl, hvl⟩ : ∃ vl, ss.length = vl := ⟨_, rfl⟩
  obtain ⟨bl, hbl⟩ : ∃ bl, bs.length = bl := ⟨_, rfl⟩
  obtain ⟨pl, hpl⟩ : ∃ pl, ps.length = pl := ⟨_, rfl⟩
  have HSL := Lib.hid hsl
  have HVL := Lib.hid hvl
  have HBL := Lib.hid hbl
  have HPL := Lib.hid hpl
  have hr0 := HR0
  have HC0 := Lib.hid (fun W' (hb : Below W.heap.size W W') => hr0 W' a b (.slice ob bs.length cb) bs (.slice os sd.length cs) sd hb hok (HBV.out.below hb) hfew hgd (HSD.out.below hb) hl hsh)
  rw [hsl, hvl, hbl] at HC0
  have hm := HM
  rw [hvl] at hv1 hi HP
  rw [hsl] at hs1
  rw [hbl] at hb1
  rw [hpl] at hk0
  have hi0 : (0 : Int) ≤ (i : Int) := by omega
  have hil : (i : Int) < (vl : Int) := by omega
  have hXa : X < W.heap.size + 1 := by omega
  have hpl0 : ((pl : Int) == 0) = false := by simp; omega
  have hpl1 : ¬ (pl : Int) = 0 := by omega
  have k0 : (0 : Int) < (pl : Int) := by omega
  unfold maxLen at hv2 hs2 hb2
  rw [hvl, hbl] at hm
  rw [hvl, hsl, hbl]
  obtain ⟨o, hod⟩ : ∃ o, d0 a b (toBd bs) sd = o := ⟨_, rfl⟩
  rw [hod] at HC0 HG0 hm ⊢
  obtain ⟨ok, on, ot, oz, oc⟩ := o
  clear hP hv3 hx hsl hvl hbl hod HR0 hr0 hG0 HM
  have HMH := Lib.hid hm
  clear hm
  go_enter Tryz.func41, Tryz.ntmps41
  go_wp2_with fail
  refine (HP.out _ (by (repeat (first | (with_reducible refine Below.alloc ?_ ?_ _) | (with_reducible refine Below.setCell ?_ ?_ _) | (with_reducible refine Below.drew ?_) | (with_reducible exact Below.refl _ _) | (with_reducible refine Below.trans ?_ (Below.mono (by assumption) ?_)))) <;> (first | omega | (dsimp only; omega) | (simp; done) | (simp; omega) | (simp at *; omega)))).mono ?_
  rintro e w1 ⟨pv, rfl, hO, hbz1⟩
  obtain ⟨pg, pc, rfl, hp1, hp2, -, hp3, hp4⟩ := hO.form
  rw [hpl] at hp1 hp4 ⊢
  have q0 := (hp4 0 hk0).1
  have HP4 := Lib.hid hp4
  have HOW := Lib.hid hO
  unfold maxLen at hp2
  have hsz1 := hbz1.size
  obtain ⟨hc1, hf1⟩ := bcell hbz1
  simp at hsz1
  have z0 : W.heap.size < w1.heap.size := by omega
  have z1 : W.heap.size + 1 < w1.heap.size := by omega
  have z2 : W.heap.size + 2 ≤ w1.heap.size := by omega
  have s2 : w1.cell? ⟨W.heap.size, 0, none⟩ = some (.int .i64 a) := by simp [hc1, go_sem]
  have s3 : w1.cell? ⟨W.heap.size, 1, none⟩ = some (.int .i64 b) := by simp [hc1, go_sem]
  have u0 : w1.cell? ⟨W.heap.size + 1, 0, none⟩ = some (.int .i64 0) ∧ w1.cell? ⟨W.heap.size + 1, 1, none⟩ = some (.int .i64 0) ∧ w1.cell? ⟨W.heap.size + 1, 2, none⟩ = some (.bool false) ∧ w1.cell? ⟨W.heap.size + 1, 3, none⟩ = some (.slice none 0 0) ∧ w1.cell? ⟨W.heap.size + 1, 4, none⟩ = some (.int .i64 0) := by simp [hc1, go_sem]
  have uf : ∀ i, w1.frozen? ⟨W.heap.size + 1, i, none⟩ = false := by simp [hf1, go_sem]
  have un : NS w1 (W.heap.size + 1) := by
    have h := (ns_new (W.alloc (.cells #[.int .i64 a, .int .i64 b] 26)) #[.int .i64 0, .int .i64 0, .bool false, .slice none 0 0, .int .i64 0] 67 (by rfl)).below (by simp) hbz1
    simpa using h
  have s5 : Below W.heap.size W w1 := by (repeat (first | (with_reducible refine Below.alloc ?_ ?_ _) | (with_reducible refine Below.setCell ?_ ?_ _) | (with_reducible refine Below.drew ?_) | (with_reducible exact Below.refl _ _) | (with_reducible refine Below.trans ?_ (Below.mono (by assumption) ?_)))) <;> (first | omega | (dsimp only; omega) | (simp; done) | (simp; omega) | (simp at *; omega))
  have U0 := Lib.hid u0
  have UF := Lib.hid uf
  have UN := Lib.hid un
  have S5 := Lib.hid s5
  have Q0 := Lib.hid q0
  have S23 := Lib.hid (And.intro s2 s3)
  clear hO hp4 hpl hc1 hf1 hbz1 hsz1 u0 uf un s5 hc
  go_upto_region 16 with fail
  go_cut [16] (fun s16 wx => CutM w1.heap.size (W.heap.size + 1) w1 ⟨ok, on, ot, oz, oc⟩ s16 wx)
  case first =>
    have s5 := S5.out
    have s8 := Below.refl w1.heap.size w1
    have s7 := Nat.le_refl w1.heap.size
    go_region_held3 (fun w' => w'.cell? ⟨pg, 0, none⟩ = some (.int .i64 ((ps.getD 0 0 : Nat) : Int)) ∧ w'.cell? ⟨W.heap.size, 0, none⟩ = some (.int .i64 a) ∧ w'.cell? ⟨W.heap.size, 1, none⟩ = some (.int .i64 b) ∧ Below w1.heap.size w1 w' ∧ w1.heap.size ≤ w'.heap.size)
      (((try dsimp only); (repeat' (refine And.intro ?_ ?_)) <;> first | (with_reducible assumption) | omega | ((repeat (first | (with_reducible assumption) | (with_reducible refine held_drewc ?_) | (with_reducible refine held_old ?_ ?_ _) | (with_reducible refine held_setc ?_ ?_ _) | (with_reducible refine Below.alloc ?_ ?_ _) | (with_reducible refine Below.drew ?_) | (with_reducible refine Below.setCell ?_ ?_ _))) <;> first | omega | (simp; done) | (simp; omega)) | (simp; omega)))
      (first | (go_at_call 41; refine (HC0.out _ ?_).mono ?_; (focus ((repeat (first | (with_reducible assumption) | (with_reducible refine Below.alloc ?_ ?_ _) | (with_reducible refine Below.drew ?_) | (with_reducible exact Below.refl _ _))) <;> first | omega | (simp; done) | (simp; omega))); rintro e w2 ⟨oa1, cp1, rfl, hrow1, hbz2⟩; have hbw2 : Below w1.heap.size w1 w2 := held_below (by ((repeat (first | (with_reducible assumption) | (with_reducible refine Below.alloc ?_ ?_ _) | (with_reducible refine Below.drew ?_) | (with_reducible exact Below.refl _ _))) <;> first | omega | (simp; done) | (simp; omega))) hbz2 (by first | omega | (simp; omega)); have hsw2 := hbw2.size; have k1 := (hbw2.cell (p := ⟨pg, 0, none⟩) (by (try dsimp only); omega)).trans q0; have k2 := (hbw2.cell (p := ⟨W.heap.size, 0, none⟩) (by (try dsimp only); omega)).trans s2; have k3 := (hbw2.cell (p := ⟨W.heap.size, 1, none⟩) (by (try dsimp only); omega)).trans s3; have hg1 := (fun j => hbz2.cell (p := ⟨w1.heap.size, j, none⟩)); have hq1 := (fun j => hbz2.frozen (p := ⟨w1.heap.size, j, none⟩)); have hsz2 := hbz2.size; unfold outV; simp only))
    all_goals
      go_wp2_with fail
      go_meet
      go_light
      have nsr : NS w2 (W.heap.size + 1) := UN.out.of fun i => hbw2.cell (p := ⟨W.heap.size + 1, i, none⟩) (by (try dsimp only); omega)
      first
        | with_reducible exact cutM_after hbw2 hsw2 hrow1 nsr
        | (with_reducible refine cutM_ahead (g := w1.heap.size) ?_ ?_ ?_ ?_ ?_ hbw2 hrow1 nsr
           · exact Nat.le_refl _
           · simp at hsz2; omega
           · exact ((ns_new w1 _ _ (by rfl)).drew).below (by simp) hbz2
           · simp [hg1, go_sem]
           · intro i; simp [hq1, go_sem])
  case rest =>
    obtain ⟨gb, oa1, cp1, rfl, hgn, hgl, ⟨y0, y1, y2, y3, y4⟩, gf, HROW, hbc⟩ := hcut
    dsimp only at y0 y1 y2 y3 y4 HROW
    have hwc := hbc.size
    have r0 := (hbc.cell (p := ⟨W.heap.size + 1, 0, none⟩) (by (try dsimp only); omega)).trans U0.out.1
    have r1 := (hbc.cell (p := ⟨W.heap.size + 1, 1, none⟩) (by (try dsimp only); omega)).trans U0.out.2.1
    have r2 := (hbc.cell (p := ⟨W.heap.size + 1, 2, none⟩) (by (try dsimp only); omega)).trans U0.out.2.2.1
    have r3 := (hbc.cell (p := ⟨W.heap.size + 1, 3, none⟩) (by (try dsimp only); omega)).trans U0.out.2.2.2.1
    have r4 := (hbc.cell (p := ⟨W.heap.size + 1, 4, none⟩) (by (try dsimp only); omega)).trans U0.out.2.2.2.2
    have rf := fun i => (hbc.frozen (p := ⟨W.heap.size + 1, i, none⟩) (by (try dsimp only); omega)).trans (UF.out i)
    have s2 := (hbc.cell (p := ⟨W.heap.size, 0, none⟩) (by (try dsimp only); omega)).trans S23.out.1
    have s3 := (hbc.cell (p := ⟨W.heap.size, 1, none⟩) (by (try dsimp only); omega)).trans S23.out.2
    have HBW := Lib.hid (S5.out.trans (hbc.mono (by omega)))
    have HNR : Hid (NS wc (W.heap.size + 1)) := Lib.hid (UN.out.of fun i => hbc.cell (p := ⟨W.heap.size + 1, i, none⟩) (by (try dsimp only); omega))
    have HBC := Lib.hid hbc
    have z10 : W.heap.size < wc.heap.size := by omega
    have z11 : W.heap.size + 1 < wc.heap.size := by omega
    have z12 : gb ≠ W.heap.size + 1 := by omega
    have z13 : ¬ gb = W.heap.size + 1 := z12
    have z14 : ¬ W.heap.size + 1 = gb := by omega
    clear hbc U0 UF UN S5 S23 q0 Q0
    have hm := HMH.out
    clear HMH
    by_cases hoc : oc = 0
    case neg =>
      have hoc' : (oc != 0) = true := by simp [hoc]
      have e : (thenD ⟨ok, on, ot, oz, oc⟩ fun _ => m) = ⟨ok, on, ot, oz, oc⟩ := by unfold thenD; simp [hoc]
      have HE := Lib.hid e
      clear e hoc hm
      go_wp2_with fail
      refine bodyPost_ret (v := .agg #[.int .i64 ok, .int .i64 on, .bool ot, .slice oa1 oz.length cp1, .int .i64 oc]) (by simp [results, Tryz.results41, go_sem, *]) rfl ?_
      rw [HE.out]
      refine ⟨oa1, cp1, rfl, HROW.out _ ?_, ?_⟩
      · (repeat (first | (with_reducible refine Keeps.alloc ?_ _) | (with_reducible refine Keeps.setCell ?_ ?_ _) | (with_reducible refine Keeps.drew ?_) | (with_reducible exact Keeps.refl _ _) | (with_reducible refine Keeps.below ?_ (by assumption)))) <;> (first | exact Or.inl rfl | exact Or.inl (Or.inl rfl) | exact Or.inl (Or.inr rfl) | exact Or.inl ⟨by (try dsimp only); omega, by (try dsimp only); omega⟩ | exact Or.inr (by (try dsimp only); omega))
      · have hbw := HBW.out
        (repeat (first | (with_reducible exact hbw) | (with_reducible refine Below.setCell ?_ ?_ _))) <;> first | omega | (dsimp only; omega)
    subst hoc
    cases ot
    · have e : (thenD ⟨ok, on, false, oz, 0⟩ fun _ => m) = m := by unfold thenD; simp
      have HE := Lib.hid e
      clear e
      obtain ⟨mk, mn', mt, mz, mc⟩ := m
      have hrow : Row wc (.slice oa1 oz.length cp1) oz := HROW.out _ (Keeps.refl _ _)
      have hpa : PartsAt wc (.slice (some ⟨pg, 0, none⟩) ps.length pc) ps := ⟨pg, pc, rfl, by rw [HPL.out]; exact hp1, by unfold maxLen; exact hp2, by omega, fun i hi => (HBC.out.cell (p := ⟨pg, i, none⟩) (by (try dsimp only); omega)).trans (HP4.out i (by rw [← HPL.out]; exact hi)).1⟩
      have HMM := Lib.hid (hm rfl rfl wc _ oa1 cp1 HBW.out hpa hrow)
      rw [HPL.out] at HMM
      clear hrow hpa hm
      try dsimp only at HMM
      go_wp2_with fail
      refine HMM.out.mono ?_
      rintro e w3 ⟨oa3, cp3, rfl, hrow3, hbz3⟩
      have hsz3 := hbz3.size
      obtain ⟨hc3, hf3⟩ := bcell hbz3
      have z30 : W.heap.size + 1 < w3.heap.size := by omega
      have hns3 : NS w3 (W.heap.size + 1) := HNR.out.below z11 hbz3
      unfold outV
      simp only
      go_wp2_with fail
      refine bodyPost_ret (v := .agg #[.int .i64 mk, .int .i64 mn', .bool mt, .slice oa3 mz.length cp3, .int .i64 mc]) (by simp [results, Tryz.results41, go_sem, *]) rfl ?_
      rw [HE.out]
      refine means_new (o := ⟨mk, mn', mt, mz, mc⟩) hrow3 hns3 ?_ ?_
      · clear hc3 hf3
        (repeat (first | (with_reducible exact But.refl _ _) | (refine But.set ?_ (by first | rfl | (simp; done)) _) | (refine But.new ?_ _)))
      · clear hc3 hf3
        have hbw := HBW.out
        (repeat (first | (with_reducible refine Below.alloc ?_ ?_ _) | (with_reducible refine Below.setCell ?_ ?_ _) | (with_reducible refine Below.drew ?_) | (with_reducible exact Below.refl _ _) | (with_reducible refine Below.trans ?_ (Below.mono (by assumption) ?_)))) <;> (first | omega | (dsimp only; omega) | (simp; done) | (simp; omega) | (simp at *; omega))
    · have e : (thenD ⟨ok, on, true, oz, 0⟩ fun _ => m) = ⟨ok, on, true, oz, 0⟩ := by unfold thenD; simp
      have HE := Lib.hid e
      clear e hm
      go_wp2_with fail
      refine bodyPost_ret (v := .agg #[.int .i64 ok, .int .i64 on, .bool true, .slice oa1 oz.length cp1, .int .i64 0]) (by simp [results, Tryz.results41, go_sem, *]) rfl ?_
      rw [HE.out]
      refine ⟨oa1, cp1, rfl, HROW.out _ ?_, ?_⟩
      · (repeat (first | (with_reducible refine Keeps.alloc ?_ _) | (with_reducible refine Keeps.setCell ?_ ?_ _) | (with_reducible refine Keeps.drew ?_) | (with_reducible exact Keeps.refl _ _) | (with_reducible refine Keeps.below ?_ (by assumption)))) <;> (first | exact Or.inl rfl | exact Or.inl (Or.inl rfl) | exact Or.inl (Or.inr rfl) | exact Or.inl ⟨by (try dsimp only); omega, by (try dsimp only); omega⟩ | exact Or.inr (by (try dsimp only); omega))
      · have hbw := HBW.out
        (repeat (first | (with_reducible exact hbw) | (with_reducible refine Below.setCell ?_ ?_ _))) <;> first | omega | (dsimp only; omega)

set_option maxRecDepth 100000 in
set_option maxHeartbeats 4000000 in
theorem mean_try {W : World} {v bv sv : Value} {ss sd : List ByteArray} {bs : Bs} {i nb : Nat} {a b : Int} {ps : List Nat} {x : ByteArray} {d0 : Deed} (hR : Row W v ss) (hi : i < ss.length) (hx : ss.getD i ByteArray.empty = x) (hP : ∀ w, Below W.heap.size W w → Calls Tryz.prog 95 #[v, .int .i64 (i : Int)] w (Rowed ps w)) (hk0 : 0 < ps.length) (hok : okB a b = true) (hbv : RowB W bv bs) (hfew : bs.length ≤ nb) (hgd : GoodB (toBd bs)) (hsd : Row W sv sd) (hl : sd.length ≤ 40) (hsh : Short sd) (HR0 : RecS v (ps.getD 0 0) nb d0 W) (hG0 : GoodD d0) (T0 : (x.toList == [97, 114, 103]) = false) (T1 : (x.toList == [97, 115, 107]) = false)
    {d1 : Deed} (T9 : (x.toList == [107, 101, 101, 112]) = false) (T11 : (x.toList == [116, 114, 121]) = true) (HR1 : RecS v (ps.getD 1 0) nb d1 W) (hk1 : 1 < ps.length) :
    Calls Tryz.prog 41 #[v, .int .i64 (i : Int), .agg #[.int .i64 a, .int .i64 b], bv, sv] W (MeansS (tryD d0 d1 a b (toBd bs) sd) W) := by
  have HP := Lib.hid hP
  have HSD := Lib.hid hsd
  have HBV := Lib.hid hbv
  have HRV := Lib.hid hR
  have HG0 := Lib.hid (hG0 a b (toBd bs) sd hok hgd hl hsh)
  obtain ⟨oa, ca, rfl, hv1, hv2, hv3⟩ := hR
  obtain ⟨os, cs, rfl, hs1, hs2, -⟩ := hsd
  obtain ⟨ob, cb, rfl, hb1, hb2, -⟩ := hbv
  obtain ⟨X, off, rfl, hX, hc⟩ := hv3 i hi
  rw [hx] at hc
  obtain ⟨sl, hsl⟩ : ∃ sl, sd.length = sl := ⟨_, rfl⟩
  obtain ⟨vl, hvl⟩ : ∃ vl, ss.length = vl := ⟨_, rfl⟩
  obtain ⟨bl, hbl⟩ : ∃ bl, bs.length = bl := ⟨_, rfl⟩
  obtain ⟨pl, hpl⟩ : ∃ pl, ps.length = pl := ⟨_, rfl⟩
  have HSL := Lib.hid hsl
  have HVL := Lib.hid hvl
  have HBL := Lib.hid hbl
  have HPL := Lib.hid hpl
  have hr0 := HR0
  have HC0 := Lib.hid (fun W' (hb : Below W.heap.size W W') => hr0 W' a b (.slice ob bs.length cb) bs (.slice os sd.length cs) sd hb hok (HBV.out.below hb) hfew hgd (HSD.out.below hb) hl hsh)
  rw [hsl, hvl, hbl] at HC0
  have hr1 := HR1
  have HC1 := Lib.hid (fun W' k n oa' cp' (sd' : List ByteArray) (hb : Below W.heap.size W W') (hkn : okB k n = true) (hro : Row W' (.slice oa' sd'.length cp') sd') (hl' : sd'.length ≤ 40) (hs' : Short sd') => hr1 W' k n (.slice ob bs.length cb) bs (.slice oa' sd'.length cp') sd' hb hkn (HBV.out.below hb) hfew hgd hro hl' hs')
  rw [hvl, hbl] at HC1
  rw [hvl] at hv1 hi HP
  rw [hsl] at hs1
  rw [hbl] at hb1
  rw [hpl] at hk0 hk1
  have hi0 : (0 : Int) ≤ (i : Int) := by omega
  have hil : (i : Int) < (vl : Int) := by omega
  have hXa : X < W.heap.size + 1 := by omega
  have hpl0 : ((pl : Int) == 0) = false := by simp; omega
  have hpl1 : ¬ (pl : Int) = 0 := by omega
  have k0 : (0 : Int) < (pl : Int) := by omega
  unfold maxLen at hv2 hs2 hb2
  rw [hvl, hsl, hbl]
  obtain ⟨o, hod⟩ : ∃ o, d0 a b (toBd bs) sd = o := ⟨_, rfl⟩
  rw [show tryD d0 d1 a b (toBd bs) sd = tryO (d0 a b (toBd bs) sd).thr (d1 (d0 a b (toBd bs) sd).k (d0 a b (toBd bs) sd).n (toBd bs) (d0 a b (toBd bs) sd).said) (d0 a b (toBd bs) sd) from rfl]
  rw [hod] at HC0 HG0 ⊢
  obtain ⟨ok, on, ot, oz, oc⟩ := o
  dsimp only
  clear hP hv3 hx hsl hvl hbl hod HR0 hr0 hG0 HR1 hr1
  go_enter Tryz.func41, Tryz.ntmps41
  go_wp2_with fail
  refine (HP.out _ (by (repeat (first | (with_reducible refine Below.alloc ?_ ?_ _) | (with_reducible refine Below.setCell ?_ ?_ _) | (with_reducible refine Below.drew ?_) | (with_reducible exact Below.refl _ _) | (with_reducible refine Below.trans ?_ (Below.mono (by assumption) ?_)))) <;> (first | omega | (dsimp only; omega) | (simp; done) | (simp; omega) | (simp at *; omega)))).mono ?_
  rintro e w1 ⟨pv, rfl, hO, hbz1⟩
  obtain ⟨pg, pc, rfl, hp1, hp2, -, hp3, hp4⟩ := hO.form
  rw [hpl] at hp1 hp4 ⊢
  have q0 := (hp4 0 hk0).1
  have HP4 := Lib.hid hp4
  have HOW := Lib.hid hO
  unfold maxLen at hp2
  have hsz1 := hbz1.size
  obtain ⟨hc1, hf1⟩ := bcell hbz1
  simp at hsz1
  have z0 : W.heap.size < w1.heap.size := by omega
  have z1 : W.heap.size + 1 < w1.heap.size := by omega
  have z2 : W.heap.size + 2 ≤ w1.heap.size := by omega
  have s2 : w1.cell? ⟨W.heap.size, 0, none⟩ = some (.int .i64 a) := by simp [hc1, go_sem]
  have s3 : w1.cell? ⟨W.heap.size, 1, none⟩ = some (.int .i64 b) := by simp [hc1, go_sem]
  have u0 : w1.cell? ⟨W.heap.size + 1, 0, none⟩ = some (.int .i64 0) ∧ w1.cell? ⟨W.heap.size + 1, 1, none⟩ = some (.int .i64 0) ∧ w1.cell? ⟨W.heap.size + 1, 2, none⟩ = some (.bool false) ∧ w1.cell? ⟨W.heap.size + 1, 3, none⟩ = some (.slice none 0 0) ∧ w1.cell? ⟨W.heap.size + 1, 4, none⟩ = some (.int .i64 0) := by simp [hc1, go_sem]
  have uf : ∀ i, w1.frozen? ⟨W.heap.size + 1, i, none⟩ = false := by simp [hf1, go_sem]
  have un : NS w1 (W.heap.size + 1) := by
    have h := (ns_new (W.alloc (.cells #[.int .i64 a, .int .i64 b] 26)) #[.int .i64 0, .int .i64 0, .bool false, .slice none 0 0, .int .i64 0] 67 (by rfl)).below (by simp) hbz1
    simpa using h
  have s5 : Below W.heap.size W w1 := by (repeat (first | (with_reducible refine Below.alloc ?_ ?_ _) | (with_reducible refine Below.setCell ?_ ?_ _) | (with_reducible refine Below.drew ?_) | (with_reducible exact Below.refl _ _) | (with_reducible refine Below.trans ?_ (Below.mono (by assumption) ?_)))) <;> (first | omega | (dsimp only; omega) | (simp; done) | (simp; omega) | (simp at *; omega))
  have U0 := Lib.hid u0
  have UF := Lib.hid uf
  have UN := Lib.hid un
  have S5 := Lib.hid s5
  have Q0 := Lib.hid q0
  have S23 := Lib.hid (And.intro s2 s3)
  clear hO hp4 hpl hc1 hf1 hbz1 hsz1 u0 uf un s5 hc
  go_upto_region 16 with fail
  go_cut [16] (fun s16 wx => CutM w1.heap.size (W.heap.size + 1) w1 ⟨ok, on, ot, oz, oc⟩ s16 wx)
  case first =>
    have s5 := S5.out
    have s8 := Below.refl w1.heap.size w1
    have s7 := Nat.le_refl w1.heap.size
    go_region_held3 (fun w' => w'.cell? ⟨pg, 0, none⟩ = some (.int .i64 ((ps.getD 0 0 : Nat) : Int)) ∧ w'.cell? ⟨W.heap.size, 0, none⟩ = some (.int .i64 a) ∧ w'.cell? ⟨W.heap.size, 1, none⟩ = some (.int .i64 b) ∧ Below w1.heap.size w1 w' ∧ w1.heap.size ≤ w'.heap.size)
      (((try dsimp only); (repeat' (refine And.intro ?_ ?_)) <;> first | (with_reducible assumption) | omega | ((repeat (first | (with_reducible assumption) | (with_reducible refine held_drewc ?_) | (with_reducible refine held_old ?_ ?_ _) | (with_reducible refine held_setc ?_ ?_ _) | (with_reducible refine Below.alloc ?_ ?_ _) | (with_reducible refine Below.drew ?_) | (with_reducible refine Below.setCell ?_ ?_ _))) <;> first | omega | (simp; done) | (simp; omega)) | (simp; omega)))
      (first | (go_at_call 41; refine (HC0.out _ ?_).mono ?_; (focus ((repeat (first | (with_reducible assumption) | (with_reducible refine Below.alloc ?_ ?_ _) | (with_reducible refine Below.drew ?_) | (with_reducible exact Below.refl _ _))) <;> first | omega | (simp; done) | (simp; omega))); rintro e w2 ⟨oa1, cp1, rfl, hrow1, hbz2⟩; have hbw2 : Below w1.heap.size w1 w2 := held_below (by ((repeat (first | (with_reducible assumption) | (with_reducible refine Below.alloc ?_ ?_ _) | (with_reducible refine Below.drew ?_) | (with_reducible exact Below.refl _ _))) <;> first | omega | (simp; done) | (simp; omega))) hbz2 (by first | omega | (simp; omega)); have hsw2 := hbw2.size; have k1 := (hbw2.cell (p := ⟨pg, 0, none⟩) (by (try dsimp only); omega)).trans q0; have k2 := (hbw2.cell (p := ⟨W.heap.size, 0, none⟩) (by (try dsimp only); omega)).trans s2; have k3 := (hbw2.cell (p := ⟨W.heap.size, 1, none⟩) (by (try dsimp only); omega)).trans s3; have hg1 := (fun j => hbz2.cell (p := ⟨w1.heap.size, j, none⟩)); have hq1 := (fun j => hbz2.frozen (p := ⟨w1.heap.size, j, none⟩)); have hsz2 := hbz2.size; unfold outV; simp only))
    all_goals
      go_wp2_with fail
      go_meet
      go_light
      have nsr : NS w2 (W.heap.size + 1) := UN.out.of fun i => hbw2.cell (p := ⟨W.heap.size + 1, i, none⟩) (by (try dsimp only); omega)
      first
        | with_reducible exact cutM_after hbw2 hsw2 hrow1 nsr
        | (with_reducible refine cutM_ahead (g := w1.heap.size) ?_ ?_ ?_ ?_ ?_ hbw2 hrow1 nsr
           · exact Nat.le_refl _
           · simp at hsz2; omega
           · exact ((ns_new w1 _ _ (by rfl)).drew).below (by simp) hbz2
           · simp [hg1, go_sem]
           · intro i; simp [hq1, go_sem])
  case rest =>
    obtain ⟨gb, oa1, cp1, rfl, hgn, hgl, ⟨y0, y1, y2, y3, y4⟩, gf, HROW, hbc⟩ := hcut
    dsimp only at y0 y1 y2 y3 y4 HROW
    have hwc := hbc.size
    have r0 := (hbc.cell (p := ⟨W.heap.size + 1, 0, none⟩) (by (try dsimp only); omega)).trans U0.out.1
    have r1 := (hbc.cell (p := ⟨W.heap.size + 1, 1, none⟩) (by (try dsimp only); omega)).trans U0.out.2.1
    have r2 := (hbc.cell (p := ⟨W.heap.size + 1, 2, none⟩) (by (try dsimp only); omega)).trans U0.out.2.2.1
    have r3 := (hbc.cell (p := ⟨W.heap.size + 1, 3, none⟩) (by (try dsimp only); omega)).trans U0.out.2.2.2.1
    have r4 := (hbc.cell (p := ⟨W.heap.size + 1, 4, none⟩) (by (try dsimp only); omega)).trans U0.out.2.2.2.2
    have rf := fun i => (hbc.frozen (p := ⟨W.heap.size + 1, i, none⟩) (by (try dsimp only); omega)).trans (UF.out i)
    have s2 := (hbc.cell (p := ⟨W.heap.size, 0, none⟩) (by (try dsimp only); omega)).trans S23.out.1
    have s3 := (hbc.cell (p := ⟨W.heap.size, 1, none⟩) (by (try dsimp only); omega)).trans S23.out.2
    have HBW := Lib.hid (S5.out.trans (hbc.mono (by omega)))
    have HNR : Hid (NS wc (W.heap.size + 1)) := Lib.hid (UN.out.of fun i => hbc.cell (p := ⟨W.heap.size + 1, i, none⟩) (by (try dsimp only); omega))
    have HBC := Lib.hid hbc
    have z10 : W.heap.size < wc.heap.size := by omega
    have z11 : W.heap.size + 1 < wc.heap.size := by omega
    have z12 : gb ≠ W.heap.size + 1 := by omega
    have z13 : ¬ gb = W.heap.size + 1 := z12
    have z14 : ¬ W.heap.size + 1 = gb := by omega
    clear hbc U0 UF UN S5 S23 q0 Q0
    by_cases hoc : oc = 0
    case neg =>
      have hoc' : (oc != 0) = true := by simp [hoc]
      have e : (tryO ot (d1 ok on (toBd bs) oz) ⟨ok, on, ot, oz, oc⟩) = ⟨ok, on, ot, oz, oc⟩ := by have := (HG0.out.err hoc).2.2.1; dsimp only at this; rw [this]; rfl
      have HE := Lib.hid e
      clear e hoc
      go_wp2_with fail
      refine bodyPost_ret (v := .agg #[.int .i64 ok, .int .i64 on, .bool ot, .slice oa1 oz.length cp1, .int .i64 oc]) (by simp [results, Tryz.results41, go_sem, *]) rfl ?_
      rw [HE.out]
      refine ⟨oa1, cp1, rfl, HROW.out _ ?_, ?_⟩
      · (repeat (first | (with_reducible refine Keeps.alloc ?_ _) | (with_reducible refine Keeps.setCell ?_ ?_ _) | (with_reducible refine Keeps.drew ?_) | (with_reducible exact Keeps.refl _ _) | (with_reducible refine Keeps.below ?_ (by assumption)))) <;> (first | exact Or.inl rfl | exact Or.inl (Or.inl rfl) | exact Or.inl (Or.inr rfl) | exact Or.inl ⟨by (try dsimp only); omega, by (try dsimp only); omega⟩ | exact Or.inr (by (try dsimp only); omega))
      · have hbw := HBW.out
        (repeat (first | (with_reducible exact hbw) | (with_reducible refine Below.setCell ?_ ?_ _))) <;> first | omega | (dsimp only; omega)
    subst hoc
    cases ot
    · have HE := Lib.hid (show (tryO false (d1 ok on (toBd bs) oz) ⟨ok, on, false, oz, 0⟩) = ⟨ok, on, false, oz, 0⟩ from rfl)
      go_wp2_with fail
      refine bodyPost_ret (v := .agg #[.int .i64 ok, .int .i64 on, .bool false, .slice oa1 oz.length cp1, .int .i64 0]) (by simp [results, Tryz.results41, go_sem, *]) rfl ?_
      rw [HE.out]
      refine ⟨oa1, cp1, rfl, HROW.out _ ?_, ?_⟩
      · (repeat (first | (with_reducible refine Keeps.alloc ?_ _) | (with_reducible refine Keeps.setCell ?_ ?_ _) | (with_reducible refine Keeps.drew ?_) | (with_reducible exact Keeps.refl _ _) | (with_reducible refine Keeps.below ?_ (by assumption)))) <;> (first | exact Or.inl rfl | exact Or.inl (Or.inl rfl) | exact Or.inl (Or.inr rfl) | exact Or.inl ⟨by (try dsimp only); omega, by (try dsimp only); omega⟩ | exact Or.inr (by (try dsimp only); omega))
      · have hbw := HBW.out
        (repeat (first | (with_reducible exact hbw) | (with_reducible refine Below.setCell ?_ ?_ _))) <;> first | omega | (dsimp only; omega)
    · have HE := Lib.hid (show (tryO true (d1 ok on (toBd bs) oz) ⟨ok, on, true, oz, 0⟩) = d1 ok on (toBd bs) oz from rfl)
      have HC2 := Lib.hid (fun W' (hb : Below wc.heap.size wc W') => HC1.out W' ok on oa1 cp1 oz (HBW.out.trans (hb.mono HBW.out.size)) HG0.out.val ((HROW.out _ (Keeps.refl _ _)).below hb) HG0.out.len HG0.out.short)
      have q1 := (HBC.out.cell (p := ⟨pg, 1, none⟩) (by (try dsimp only); omega)).trans (HP4.out 1 hk1).1
      have k1 : (1 : Int) < (pl : Int) := by omega
      have k1n : 1 < pl := hk1
      obtain ⟨m, hm⟩ : ∃ m, d1 ok on (toBd bs) oz = m := ⟨_, rfl⟩
      rw [hm] at HC2
      obtain ⟨mk, mn', mt, mz, mc⟩ := m
      have HE := Lib.hid (HE.out.trans hm)
      have zpg : pg < wc.heap.size := by omega
      clear hm HC1
      go_wp2_with fail
      go_region_with (go_at_call 41; refine (HC2.out _ ?_).mono ?_; (focus (first | exact (Below.refl _ _).drew | exact Below.refl _ _)); rintro e w3 ⟨oa3, cp3, rfl, hrow3, hbz3⟩; have hns3 : NS w3 (W.heap.size + 1) := (HNR.out.drew).below (by exact z11) hbz3; have hsz3 := hbz3.size; obtain ⟨hc3, hf3⟩ := bcell hbz3; have q0 : w3.cell? ⟨W.heap.size + 1, 0, none⟩ = _ := (hc3 _ 0 z11).trans r0; have q1 : w3.cell? ⟨W.heap.size + 1, 1, none⟩ = _ := (hc3 _ 1 z11).trans r1; have q2 : w3.cell? ⟨W.heap.size + 1, 2, none⟩ = _ := (hc3 _ 2 z11).trans r2; have q3 : w3.cell? ⟨W.heap.size + 1, 3, none⟩ = _ := (hc3 _ 3 z11).trans r3; have q4 : w3.cell? ⟨W.heap.size + 1, 4, none⟩ = _ := (hc3 _ 4 z11).trans r4; have qf : ∀ i, w3.frozen? ⟨W.heap.size + 1, i, none⟩ = false := (fun i => (hf3 _ i z11).trans (rf i)); clear hc3 hf3; (try simp at hsz3); have z30 : W.heap.size + 1 < w3.heap.size := (by omega); unfold outV; simp only)
      all_goals
        go_wp2_with fail
        refine bodyPost_ret (v := .agg #[.int .i64 mk, .int .i64 mn', .bool mt, .slice oa3 mz.length cp3, .int .i64 mc]) (by simp [results, Tryz.results41, go_sem, *]) rfl ?_
        rw [HE.out]
        refine means_new (o := ⟨mk, mn', mt, mz, mc⟩) hrow3 hns3 ?_ ?_
        · (repeat (first | (with_reducible exact But.refl _ _) | (refine But.set ?_ (by first | rfl | (simp; done)) _) | (refine But.new ?_ _)))
        · have hbw := HBW.out
          (repeat (first | (with_reducible refine Below.alloc ?_ ?_ _) | (with_reducible refine Below.setCell ?_ ?_ _) | (with_reducible refine Below.drew ?_) | (with_reducible exact Below.refl _ _) | (with_reducible refine Below.trans ?_ (Below.mono (by assumption) ?_)))) <;> (first | omega | (dsimp only; omega) | (simp; done) | (simp; omega) | (simp at *; omega))

set_option maxRecDepth 100000 in
set_option maxHeartbeats 4000000 in
theorem mean_keep {W : World} {v bv sv : Value} {ss sd : List ByteArray} {bs : Bs} {i nb : Nat} {a b : Int} {ps : List Nat} {x : ByteArray} {d0 : Deed} (hR : Row W v ss) (hi : i < ss.length) (hx : ss.getD i ByteArray.empty = x) (hP : ∀ w, Below W.heap.size W w → Calls Tryz.prog 95 #[v, .int .i64 (i : Int)] w (Rowed ps w)) (hk0 : 0 < ps.length) (hok : okB a b = true) (hbv : RowB W bv bs) (hfew : bs.length ≤ nb) (hgd : GoodB (toBd bs)) (hsd : Row W sv sd) (hl : sd.length ≤ 40) (hsh : Short sd) (HR0 : RecS v (ps.getD 0 0) nb d0 W) (hG0 : GoodD d0) (T0 : (x.toList == [97, 114, 103]) = false) (T1 : (x.toList == [97, 115, 107]) = false)
    {d1 : Deed} (T9 : (x.toList == [107, 101, 101, 112]) = true) (HR1 : RecS v (ps.getD 1 0) nb d1 W) (hk1 : 1 < ps.length) (hG1 : GoodD d1) :
    Calls Tryz.prog 41 #[v, .int .i64 (i : Int), .agg #[.int .i64 a, .int .i64 b], bv, sv] W (MeansS (keepD d0 d1 a b (toBd bs) sd) W) := by
  have HP := Lib.hid hP
  have HSD := Lib.hid hsd
  have HBV := Lib.hid hbv
  have HRV := Lib.hid hR
  have HG0 := Lib.hid (hG0 a b (toBd bs) sd hok hgd hl hsh)
  obtain ⟨oa, ca, rfl, hv1, hv2, hv3⟩ := hR
  obtain ⟨os, cs, rfl, hs1, hs2, -⟩ := hsd
  obtain ⟨ob, cb, rfl, hb1, hb2, -⟩ := hbv
  obtain ⟨X, off, rfl, hX, hc⟩ := hv3 i hi
  rw [hx] at hc
  obtain ⟨sl, hsl⟩ : ∃ sl, sd.length = sl := ⟨_, rfl⟩
  obtain ⟨vl, hvl⟩ : ∃ vl, ss.length = vl := ⟨_, rfl⟩
  obtain ⟨bl, hbl⟩ : ∃ bl, bs.length = bl := ⟨_, rfl⟩
  obtain ⟨pl, hpl⟩ : ∃ pl, ps.length = pl := ⟨_, rfl⟩
  have HSL := Lib.hid hsl
  have HVL := Lib.hid hvl
  have HBL := Lib.hid hbl
  have HPL := Lib.hid hpl
  have hr0 := HR0
  have HC0 := Lib.hid (fun W' (hb : Below W.heap.size W W') => hr0 W' a b (.slice ob bs.length cb) bs (.slice os sd.length cs) sd hb hok (HBV.out.below hb) hfew hgd (HSD.out.below hb) hl hsh)
  rw [hsl, hvl, hbl] at HC0
  have hr1 := HR1
  have HC1 := Lib.hid (fun W' oa' cp' (sd' : List ByteArray) (hb : Below W.heap.size W W') (hro : Row W' (.slice oa' sd'.length cp') sd') (hl' : sd'.length ≤ 40) (hs' : Short sd') => hr1 W' a b (.slice ob bs.length cb) bs (.slice oa' sd'.length cp') sd' hb hok (HBV.out.below hb) hfew hgd hro hl' hs')
  rw [hvl, hbl] at HC1
  rw [hvl] at hv1 hi HP
  rw [hsl] at hs1
  rw [hbl] at hb1
  rw [hpl] at hk0 hk1
  have hi0 : (0 : Int) ≤ (i : Int) := by omega
  have hil : (i : Int) < (vl : Int) := by omega
  have hXa : X < W.heap.size + 1 := by omega
  have hpl0 : ((pl : Int) == 0) = false := by simp; omega
  have hpl1 : ¬ (pl : Int) = 0 := by omega
  have k0 : (0 : Int) < (pl : Int) := by omega
  unfold maxLen at hv2 hs2 hb2
  rw [hvl, hsl, hbl]
  obtain ⟨o, hod⟩ : ∃ o, d0 a b (toBd bs) sd = o := ⟨_, rfl⟩
  rw [show keepD d0 d1 a b (toBd bs) sd = keepO (d0 a b (toBd bs) sd).code (thenD (d1 a b (toBd bs) (d0 a b (toBd bs) sd).said) fun o => ⟨(d0 a b (toBd bs) sd).k, (d0 a b (toBd bs) sd).n, (d0 a b (toBd bs) sd).thr, o.said, 0⟩) (d0 a b (toBd bs) sd) from rfl]
  rw [hod] at HC0 HG0 ⊢
  obtain ⟨ok, on, ot, oz, oc⟩ := o
  dsimp only
  clear hP hv3 hx hsl hvl hbl hod HR0 hr0 hG0 HR1 hr1
  go_enter Tryz.func41, Tryz.ntmps41
  go_wp2_with fail
  refine (HP.out _ (by (repeat (first | (with_reducible refine Below.alloc ?_ ?_ _) | (with_reducible refine Below.setCell ?_ ?_ _) | (with_reducible refine Below.drew ?_) | (with_reducible exact Below.refl _ _) | (with_reducible refine Below.trans ?_ (Below.mono (by assumption) ?_)))) <;> (first | omega | (dsimp only; omega) | (simp; done) | (simp; omega) | (simp at *; omega)))).mono ?_
  rintro e w1 ⟨pv, rfl, hO, hbz1⟩
  obtain ⟨pg, pc, rfl, hp1, hp2, -, hp3, hp4⟩ := hO.form
  rw [hpl] at hp1 hp4 ⊢
  have q0 := (hp4 0 hk0).1
  have HP4 := Lib.hid hp4
  have HOW := Lib.hid hO
  unfold maxLen at hp2
  have hsz1 := hbz1.size
  obtain ⟨hc1, hf1⟩ := bcell hbz1
  simp at hsz1
  have z0 : W.heap.size < w1.heap.size := by omega
  have z1 : W.heap.size + 1 < w1.heap.size := by omega
  have z2 : W.heap.size + 2 ≤ w1.heap.size := by omega
  have s2 : w1.cell? ⟨W.heap.size, 0, none⟩ = some (.int .i64 a) := by simp [hc1, go_sem]
  have s3 : w1.cell? ⟨W.heap.size, 1, none⟩ = some (.int .i64 b) := by simp [hc1, go_sem]
  have u0 : w1.cell? ⟨W.heap.size + 1, 0, none⟩ = some (.int .i64 0) ∧ w1.cell? ⟨W.heap.size + 1, 1, none⟩ = some (.int .i64 0) ∧ w1.cell? ⟨W.heap.size + 1, 2, none⟩ = some (.bool false) ∧ w1.cell? ⟨W.heap.size + 1, 3, none⟩ = some (.slice none 0 0) ∧ w1.cell? ⟨W.heap.size + 1, 4, none⟩ = some (.int .i64 0) := by simp [hc1, go_sem]
  have uf : ∀ i, w1.frozen? ⟨W.heap.size + 1, i, none⟩ = false := by simp [hf1, go_sem]
  have un : NS w1 (W.heap.size + 1) := by
    have h := (ns_new (W.alloc (.cells #[.int .i64 a, .int .i64 b] 26)) #[.int .i64 0, .int .i64 0, .bool false, .slice none 0 0, .int .i64 0] 67 (by rfl)).below (by simp) hbz1
    simpa using h
  have s5 : Below W.heap.size W w1 := by (repeat (first | (with_reducible refine Below.alloc ?_ ?_ _) | (with_reducible refine Below.setCell ?_ ?_ _) | (with_reducible refine Below.drew ?_) | (with_reducible exact Below.refl _ _) | (with_reducible refine Below.trans ?_ (Below.mono (by assumption) ?_)))) <;> (first | omega | (dsimp only; omega) | (simp; done) | (simp; omega) | (simp at *; omega))
  have U0 := Lib.hid u0
  have UF := Lib.hid uf
  have UN := Lib.hid un
  have S5 := Lib.hid s5
  have Q0 := Lib.hid q0
  have S23 := Lib.hid (And.intro s2 s3)
  clear hO hp4 hpl hc1 hf1 hbz1 hsz1 u0 uf un s5 hc
  go_upto_region 16 with fail
  go_cut [16] (fun s16 wx => CutM w1.heap.size (W.heap.size + 1) w1 ⟨ok, on, ot, oz, oc⟩ s16 wx)
  case first =>
    have s5 := S5.out
    have s8 := Below.refl w1.heap.size w1
    have s7 := Nat.le_refl w1.heap.size
    go_region_held3 (fun w' => w'.cell? ⟨pg, 0, none⟩ = some (.int .i64 ((ps.getD 0 0 : Nat) : Int)) ∧ w'.cell? ⟨W.heap.size, 0, none⟩ = some (.int .i64 a) ∧ w'.cell? ⟨W.heap.size, 1, none⟩ = some (.int .i64 b) ∧ Below w1.heap.size w1 w' ∧ w1.heap.size ≤ w'.heap.size)
      (((try dsimp only); (repeat' (refine And.intro ?_ ?_)) <;> first | (with_reducible assumption) | omega | ((repeat (first | (with_reducible assumption) | (with_reducible refine held_drewc ?_) | (with_reducible refine held_old ?_ ?_ _) | (with_reducible refine held_setc ?_ ?_ _) | (with_reducible refine Below.alloc ?_ ?_ _) | (with_reducible refine Below.drew ?_) | (with_reducible refine Below.setCell ?_ ?_ _))) <;> first | omega | (simp; done) | (simp; omega)) | (simp; omega)))
      (first | (go_at_call 41; refine (HC0.out _ ?_).mono ?_; (focus ((repeat (first | (with_reducible assumption) | (with_reducible refine Below.alloc ?_ ?_ _) | (with_reducible refine Below.drew ?_) | (with_reducible exact Below.refl _ _))) <;> first | omega | (simp; done) | (simp; omega))); rintro e w2 ⟨oa1, cp1, rfl, hrow1, hbz2⟩; have hbw2 : Below w1.heap.size w1 w2 := held_below (by ((repeat (first | (with_reducible assumption) | (with_reducible refine Below.alloc ?_ ?_ _) | (with_reducible refine Below.drew ?_) | (with_reducible exact Below.refl _ _))) <;> first | omega | (simp; done) | (simp; omega))) hbz2 (by first | omega | (simp; omega)); have hsw2 := hbw2.size; have k1 := (hbw2.cell (p := ⟨pg, 0, none⟩) (by (try dsimp only); omega)).trans q0; have k2 := (hbw2.cell (p := ⟨W.heap.size, 0, none⟩) (by (try dsimp only); omega)).trans s2; have k3 := (hbw2.cell (p := ⟨W.heap.size, 1, none⟩) (by (try dsimp only); omega)).trans s3; have hg1 := (fun j => hbz2.cell (p := ⟨w1.heap.size, j, none⟩)); have hq1 := (fun j => hbz2.frozen (p := ⟨w1.heap.size, j, none⟩)); have hsz2 := hbz2.size; unfold outV; simp only))
    all_goals
      go_wp2_with fail
      go_meet
      go_light
      have nsr : NS w2 (W.heap.size + 1) := UN.out.of fun i => hbw2.cell (p := ⟨W.heap.size + 1, i, none⟩) (by (try dsimp only); omega)
      first
        | with_reducible exact cutM_after hbw2 hsw2 hrow1 nsr
        | (with_reducible refine cutM_ahead (g := w1.heap.size) ?_ ?_ ?_ ?_ ?_ hbw2 hrow1 nsr
           · exact Nat.le_refl _
           · simp at hsz2; omega
           · exact ((ns_new w1 _ _ (by rfl)).drew).below (by simp) hbz2
           · simp [hg1, go_sem]
           · intro i; simp [hq1, go_sem])
  case rest =>
    obtain ⟨gb, oa1, cp1, rfl, hgn, hgl, ⟨y0, y1, y2, y3, y4⟩, gf, HROW, hbc⟩ := hcut
    dsimp only at y0 y1 y2 y3 y4 HROW
    have hwc := hbc.size
    have r0 := (hbc.cell (p := ⟨W.heap.size + 1, 0, none⟩) (by (try dsimp only); omega)).trans U0.out.1
    have r1 := (hbc.cell (p := ⟨W.heap.size + 1, 1, none⟩) (by (try dsimp only); omega)).trans U0.out.2.1
    have r2 := (hbc.cell (p := ⟨W.heap.size + 1, 2, none⟩) (by (try dsimp only); omega)).trans U0.out.2.2.1
    have r3 := (hbc.cell (p := ⟨W.heap.size + 1, 3, none⟩) (by (try dsimp only); omega)).trans U0.out.2.2.2.1
    have r4 := (hbc.cell (p := ⟨W.heap.size + 1, 4, none⟩) (by (try dsimp only); omega)).trans U0.out.2.2.2.2
    have rf := fun i => (hbc.frozen (p := ⟨W.heap.size + 1, i, none⟩) (by (try dsimp only); omega)).trans (UF.out i)
    have s2 := (hbc.cell (p := ⟨W.heap.size, 0, none⟩) (by (try dsimp only); omega)).trans S23.out.1
    have s3 := (hbc.cell (p := ⟨W.heap.size, 1, none⟩) (by (try dsimp only); omega)).trans S23.out.2
    have HBW := Lib.hid (S5.out.trans (hbc.mono (by omega)))
    have HNR : Hid (NS wc (W.heap.size + 1)) := Lib.hid (UN.out.of fun i => hbc.cell (p := ⟨W.heap.size + 1, i, none⟩) (by (try dsimp only); omega))
    have HBC := Lib.hid hbc
    have z10 : W.heap.size < wc.heap.size := by omega
    have z11 : W.heap.size + 1 < wc.heap.size := by omega
    have z12 : gb ≠ W.heap.size + 1 := by omega
    have z13 : ¬ gb = W.heap.size + 1 := z12
    have z14 : ¬ W.heap.size + 1 = gb := by omega
    clear hbc U0 UF UN S5 S23 q0 Q0
    by_cases hoc : oc = 0
    case neg =>
      have hoc' : (oc != 0) = true := by simp [hoc]
      have e : (keepO oc (thenD (d1 a b (toBd bs) oz) fun b => ⟨ok, on, ot, b.said, 0⟩) ⟨ok, on, ot, oz, oc⟩) = ⟨ok, on, ot, oz, oc⟩ := by unfold keepO; rw [if_neg hoc]
      have HE := Lib.hid e
      clear e hoc
      go_wp2_with fail
      refine bodyPost_ret (v := .agg #[.int .i64 ok, .int .i64 on, .bool ot, .slice oa1 oz.length cp1, .int .i64 oc]) (by simp [results, Tryz.results41, go_sem, *]) rfl ?_
      rw [HE.out]
      refine ⟨oa1, cp1, rfl, HROW.out _ ?_, ?_⟩
      · (repeat (first | (with_reducible refine Keeps.alloc ?_ _) | (with_reducible refine Keeps.setCell ?_ ?_ _) | (with_reducible refine Keeps.drew ?_) | (with_reducible exact Keeps.refl _ _) | (with_reducible refine Keeps.below ?_ (by assumption)))) <;> (first | exact Or.inl rfl | exact Or.inl (Or.inl rfl) | exact Or.inl (Or.inr rfl) | exact Or.inl ⟨by (try dsimp only); omega, by (try dsimp only); omega⟩ | exact Or.inr (by (try dsimp only); omega))
      · have hbw := HBW.out
        (repeat (first | (with_reducible exact hbw) | (with_reducible refine Below.setCell ?_ ?_ _))) <;> first | omega | (dsimp only; omega)
    subst hoc
    have HC2 := Lib.hid (fun W' (hb : Below wc.heap.size wc W') => HC1.out W' oa1 cp1 oz (HBW.out.trans (hb.mono HBW.out.size)) ((HROW.out _ (Keeps.refl _ _)).below hb) HG0.out.len HG0.out.short)
    have q1 := (HBC.out.cell (p := ⟨pg, 1, none⟩) (by (try dsimp only); omega)).trans (HP4.out 1 hk1).1
    have k1 : (1 : Int) < (pl : Int) := by omega
    have k1n : 1 < pl := hk1
    have HE := Lib.hid (show (keepO 0 (thenD (d1 a b (toBd bs) oz) fun b => ⟨ok, on, ot, b.said, 0⟩) ⟨ok, on, ot, oz, 0⟩) = thenD (d1 a b (toBd bs) oz) (fun b => ⟨ok, on, ot, b.said, 0⟩) from by unfold keepO; exact if_pos rfl)
    obtain ⟨m, hm⟩ : ∃ m, d1 a b (toBd bs) oz = m := ⟨_, rfl⟩
    rw [hm] at HC2
    obtain ⟨mk, mn', mt, mz, mc⟩ := m
    have HE := Lib.hid (HE.out.trans (congrArg (fun z => thenD z fun b => (⟨ok, on, ot, b.said, 0⟩ : Out)) hm))
    have zpg : pg < wc.heap.size := by omega
    have zgl : gb < wc.heap.size := hgl
    clear hm HC1
    have R := Lib.hid (And.intro (And.intro r0 (And.intro r1 (And.intro r2 (And.intro r3 r4)))) rf)
    have Y := Lib.hid (And.intro (And.intro y0 (And.intro y1 (And.intro y2 (And.intro y3 y4)))) gf)
    obtain ⟨wb, rfl⟩ : ∃ w0 : World, w0 = wc := ⟨_, rfl⟩
    go_upto_region 21 with fail
    go_cut [17] (fun s17 wx => CutM wb.heap.size (W.heap.size + 1) wb ⟨mk, mn', mt, mz, mc⟩ s17 wx)
    case first =>
      have s8 := Below.refl wb.heap.size wb
      have s7 := Nat.le_refl wb.heap.size
      go_region_held3 (fun w' => w'.cell? ⟨pg, 1, none⟩ = some (.int .i64 ((ps.getD 1 0 : Nat) : Int)) ∧ w'.cell? ⟨W.heap.size, 0, none⟩ = some (.int .i64 a) ∧ w'.cell? ⟨W.heap.size, 1, none⟩ = some (.int .i64 b) ∧ w'.cell? ⟨gb, 3, none⟩ = some (.slice oa1 oz.length cp1) ∧ Below wb.heap.size wb w' ∧ wb.heap.size ≤ w'.heap.size)
        (((try dsimp only); (repeat' (refine And.intro ?_ ?_)) <;> first | (with_reducible assumption) | omega | ((repeat (first | (with_reducible assumption) | (with_reducible refine held_drewc ?_) | (with_reducible refine held_old ?_ ?_ _) | (with_reducible refine held_setc ?_ ?_ _) | (with_reducible refine Below.alloc ?_ ?_ _) | (with_reducible refine Below.drew ?_) | (with_reducible refine Below.setCell ?_ ?_ _))) <;> first | omega | (simp; done) | (simp; omega)) | (simp; omega)))
        (first | (go_at_call 41; refine (HC2.out _ ?_).mono ?_; (focus ((repeat (first | (with_reducible assumption) | (with_reducible refine Below.alloc ?_ ?_ _) | (with_reducible refine Below.drew ?_) | (with_reducible exact Below.refl _ _))) <;> first | omega | (simp; done) | (simp; omega))); rintro e w2 ⟨oa2, cp2, rfl, hrow2, hbz2⟩; have hbw2 : Below wb.heap.size wb w2 := held_below (by ((repeat (first | (with_reducible assumption) | (with_reducible refine Below.alloc ?_ ?_ _) | (with_reducible refine Below.drew ?_) | (with_reducible exact Below.refl _ _))) <;> first | omega | (simp; done) | (simp; omega))) hbz2 (by first | omega | (simp; omega)); have hsw2 := hbw2.size; have k1 := (hbw2.cell (p := ⟨pg, 1, none⟩) (by (try dsimp only); omega)).trans q1; have k2 := (hbw2.cell (p := ⟨W.heap.size, 0, none⟩) (by (try dsimp only); omega)).trans s2; have k3 := (hbw2.cell (p := ⟨W.heap.size, 1, none⟩) (by (try dsimp only); omega)).trans s3; have k4 := (hbw2.cell (p := ⟨gb, 3, none⟩) (by (try dsimp only); omega)).trans y3; have hg1 := (fun j => hbz2.cell (p := ⟨wb.heap.size, j, none⟩)); have hq1 := (fun j => hbz2.frozen (p := ⟨wb.heap.size, j, none⟩)); have hsz2 := hbz2.size; unfold outV; simp only))
      all_goals
        go_wp2_with fail
        go_meet
        go_light
        have nsr : NS w2 (W.heap.size + 1) := HNR.out.of fun i => hbw2.cell (p := ⟨W.heap.size + 1, i, none⟩) (by (try dsimp only); omega)
        first
          | with_reducible exact cutM_after hbw2 hsw2 hrow2 nsr
          | (with_reducible refine cutM_ahead (g := wb.heap.size) ?_ ?_ ?_ ?_ ?_ hbw2 hrow2 nsr
             · exact Nat.le_refl _
             · simp at hsz2; omega
             · exact ((ns_new wb _ _ (by rfl)).drew).below (by simp) hbz2
             · simp [hg1, go_sem]
             · intro i; simp [hq1, go_sem])
    case rest =>
      obtain ⟨gc, oa2, cp2, rfl, hgn2, hgl2, ⟨v0, v1, v2, v3, v4⟩, vf, HROW2, hbd⟩ := hcut
      dsimp only at v0 v1 v2 v3 v4 HROW2
      have hwd := hbd.size
      obtain ⟨⟨r0, r1, r2, r3, r4⟩, rf⟩ := R.out
      obtain ⟨⟨y0, y1, y2, y3, y4⟩, gf⟩ := Y.out
      have r0 := (hbd.cell (p := ⟨W.heap.size + 1, 0, none⟩) (by (try dsimp only); omega)).trans r0
      have y0 := (hbd.cell (p := ⟨gb, 0, none⟩) (by (try dsimp only); omega)).trans y0
      have r1 := (hbd.cell (p := ⟨W.heap.size + 1, 1, none⟩) (by (try dsimp only); omega)).trans r1
      have y1 := (hbd.cell (p := ⟨gb, 1, none⟩) (by (try dsimp only); omega)).trans y1
      have r2 := (hbd.cell (p := ⟨W.heap.size + 1, 2, none⟩) (by (try dsimp only); omega)).trans r2
      have y2 := (hbd.cell (p := ⟨gb, 2, none⟩) (by (try dsimp only); omega)).trans y2
      have r3 := (hbd.cell (p := ⟨W.heap.size + 1, 3, none⟩) (by (try dsimp only); omega)).trans r3
      have y3 := (hbd.cell (p := ⟨gb, 3, none⟩) (by (try dsimp only); omega)).trans y3
      have r4 := (hbd.cell (p := ⟨W.heap.size + 1, 4, none⟩) (by (try dsimp only); omega)).trans r4
      have y4 := (hbd.cell (p := ⟨gb, 4, none⟩) (by (try dsimp only); omega)).trans y4
      have rf := fun i => (hbd.frozen (p := ⟨W.heap.size + 1, i, none⟩) (by (try dsimp only); omega)).trans (rf i)
      have gf := fun i => (hbd.frozen (p := ⟨gb, i, none⟩) (by (try dsimp only); omega)).trans (gf i)
      have HBW2 := Lib.hid (HBW.out.trans (hbd.mono (by omega)))
      have n1 : gc ≠ W.heap.size + 1 := by omega
      have n2 : ¬ gc = W.heap.size + 1 := n1
      have n3 : ¬ W.heap.size + 1 = gc := by omega
      have n4 : gc ≠ gb := by omega
      have n5 : ¬ gc = gb := n4
      have n6 : ¬ gb = gc := by omega
      have z20 : W.heap.size + 1 < wc.heap.size := by omega
      clear hbd R Y
      cases mt
      · by_cases hmc : mc = 0
        · subst hmc
          have HE2 := Lib.hid (HE.out.trans (show _ = (⟨ok, on, ot, mz, 0⟩ : Out) by unfold thenD; simp))
          go_wp2_with fail
          refine bodyPost_ret (v := .agg #[.int .i64 ok, .int .i64 on, .bool ot, .slice oa2 mz.length cp2, .int .i64 0]) (by simp [results, Tryz.results41, go_sem, *]) rfl ?_
          rw [HE2.out]
          refine ⟨oa2, cp2, rfl, HROW2.out _ ?_, ?_⟩
          · (repeat (first | (with_reducible refine Keeps.alloc ?_ _) | (with_reducible refine Keeps.setCell ?_ ?_ _) | (with_reducible refine Keeps.drew ?_) | (with_reducible exact Keeps.refl _ _) | (with_reducible refine Keeps.below ?_ (by assumption)))) <;> (first | exact Or.inl rfl | exact Or.inl (Or.inl rfl) | exact Or.inl (Or.inr rfl) | exact Or.inl ⟨by (try dsimp only); omega, by (try dsimp only); omega⟩ | exact Or.inr (by (try dsimp only); omega))
          · have hbw := HBW2.out
            (repeat (first | (with_reducible exact hbw) | (with_reducible refine Below.setCell ?_ ?_ _))) <;> first | omega | (dsimp only; omega)
        · skip
          have HE2 := Lib.hid (HE.out.trans (show _ = (⟨mk, mn', false, mz, mc⟩ : Out) by unfold thenD; simp [hmc]))
          have hmc' : (mc == 0) = false := by simp [hmc]
          clear hmc
          go_wp2_with fail
          refine bodyPost_ret (v := .agg #[.int .i64 mk, .int .i64 mn', .bool false, .slice oa2 mz.length cp2, .int .i64 mc]) (by simp [results, Tryz.results41, go_sem, *]) rfl ?_
          rw [HE2.out]
          refine ⟨oa2, cp2, rfl, HROW2.out _ ?_, ?_⟩
          · (repeat (first | (with_reducible refine Keeps.alloc ?_ _) | (with_reducible refine Keeps.setCell ?_ ?_ _) | (with_reducible refine Keeps.drew ?_) | (with_reducible exact Keeps.refl _ _) | (with_reducible refine Keeps.below ?_ (by assumption)))) <;> (first | exact Or.inl rfl | exact Or.inl (Or.inl rfl) | exact Or.inl (Or.inr rfl) | exact Or.inl ⟨by (try dsimp only); omega, by (try dsimp only); omega⟩ | exact Or.inr (by (try dsimp only); omega))
          · have hbw := HBW2.out
            (repeat (first | (with_reducible exact hbw) | (with_reducible refine Below.setCell ?_ ?_ _))) <;> first | omega | (dsimp only; omega)
      · skip
        have HE2 := Lib.hid (HE.out.trans (show _ = (⟨mk, mn', true, mz, mc⟩ : Out) by unfold thenD; simp))
        cases hmc : (mc == 0)
        all_goals
          go_wp2_with fail
          refine bodyPost_ret (v := .agg #[.int .i64 mk, .int .i64 mn', .bool true, .slice oa2 mz.length cp2, .int .i64 mc]) (by simp [results, Tryz.results41, go_sem, *]) rfl ?_
          rw [HE2.out]
          refine ⟨oa2, cp2, rfl, HROW2.out _ ?_, ?_⟩
          · (repeat (first | (with_reducible refine Keeps.alloc ?_ _) | (with_reducible refine Keeps.setCell ?_ ?_ _) | (with_reducible refine Keeps.drew ?_) | (with_reducible exact Keeps.refl _ _) | (with_reducible refine Keeps.below ?_ (by assumption)))) <;> (first | exact Or.inl rfl | exact Or.inl (Or.inl rfl) | exact Or.inl (Or.inr rfl) | exact Or.inl ⟨by (try dsimp only); omega, by (try dsimp only); omega⟩ | exact Or.inr (by (try dsimp only); omega))
          · have hbw := HBW2.out
            (repeat (first | (with_reducible exact hbw) | (with_reducible refine Below.setCell ?_ ?_ _))) <;> first | omega | (dsimp only; omega)


end L2
end Go.Proofs.YtkhjbhkbknennaaGreatDoor
