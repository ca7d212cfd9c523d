/-
  The model's sums of two, where the first one is worth something (written by wip/gen_m4.py).
-/
import Derived.Test.YtkhjbhkbknennaaGreatDoorM3
import Derived.Test.YtkhjbhkbknennaaGreatDoorC1
import Derived.Deep.RegionHeld3
import Derived.Deep.DeepCutAuto
import Derived.Deep.Light
namespace Go.Proofs.YtkhjbhkbknennaaGreatDoor
open Go.RowKit
namespace L2
open S1 L1

/-- Behind the second sum: what it comes to lies in a box of its own, and nothing that the call has made hangs on it. -/
def CutR (W : World) (ak an : Int) (o : Out) (s14 : Value) (wx : World) : Prop :=
  ∃ (gb : Nat) (oa1 : Option Addr) (cp1 : Nat), s14 = .pointer (some ⟨gb, 0, none⟩) ∧ W.heap.size + 3 ≤ gb ∧ gb < wx.heap.size ∧ (wx.cell? ⟨gb, 0, none⟩ = some (.int .i64 o.k) ∧ wx.cell? ⟨gb, 1, none⟩ = some (.int .i64 o.n) ∧ wx.cell? ⟨gb, 2, none⟩ = some (.bool o.thr) ∧ wx.cell? ⟨gb, 3, none⟩ = some (.slice oa1 o.said.length cp1) ∧ wx.cell? ⟨gb, 4, none⟩ = some (.int .i64 o.code)) ∧ (∀ i, wx.frozen? ⟨gb, i, none⟩ = false) ∧
    Hid (∀ w', Keeps (fun x => x = gb ∨ x = W.heap.size + 1 + 1) wx w' → Row w' (.slice oa1 o.said.length cp1) o.said) ∧ Hid (Below W.heap.size W wx) ∧
    wx.cell? ⟨W.heap.size, 0, none⟩ = some (.int .i64 ak) ∧ wx.cell? ⟨W.heap.size, 1, none⟩ = some (.int .i64 an) ∧
    (wx.cell? ⟨W.heap.size + 1 + 1, 0, none⟩ = some (.int .i64 0) ∧ wx.cell? ⟨W.heap.size + 1 + 1, 1, none⟩ = some (.int .i64 0) ∧ wx.cell? ⟨W.heap.size + 1 + 1, 2, none⟩ = some (.bool false) ∧ wx.cell? ⟨W.heap.size + 1 + 1, 3, none⟩ = some (.slice none 0 0) ∧ wx.cell? ⟨W.heap.size + 1 + 1, 4, none⟩ = some (.int .i64 0)) ∧ ∀ i, wx.frozen? ⟨W.heap.size + 1 + 1, i, none⟩ = false
theorem row_free {w1 wx w' : World} {v : Value} {ss : List ByteArray} {g r : Nat} (hR : Row w1 v ss) (hr : NS w1 r) (hg : NS w1 g ∨ w1.heap.size ≤ g) (hx : ∀ c, c < w1.heap.size → c ≠ g → wx.heap[c]? = w1.heap[c]?) (hs : w1.heap.size ≤ wx.heap.size) (hk : Keeps (fun x => x = g ∨ x = r) wx w') : Row w' v ss := by
  obtain ⟨oa, cap, e, h1, h2, h3⟩ := hR
  refine ⟨oa, cap, e, h1, h2, fun i hi => ?_⟩
  obtain ⟨X, off, ho, hX, hc⟩ := h3 i hi
  have n1 : X ≠ r := fun e => by subst e; exact hr _ _ hc
  have n2 : X ≠ g := fun e => by
    subst e
    rcases hg with hg | hg
    · exact hg _ _ hc
    · omega
  have hb := (hk.block X (by omega) (fun x => x.elim n2 n1)).trans (hx X hX n2)
  exact ⟨X, off, ho, Nat.lt_of_lt_of_le (Nat.lt_of_lt_of_le hX hs) hk.size, (World.cell?_of_block (a := ⟨X, off + i, none⟩) hb).trans hc⟩
theorem alloc_cell (w : World) (arr : Array Value) (T : TypeId) (i : Nat) : (w.alloc (.cells arr T)).cell? ⟨w.heap.size, i, none⟩ = arr[i]? := by
  have h := heap_alloc_new w (.cells arr T)
  simp only [World.cell?, h]
  rfl
theorem held_oldf {w : World} {b i : Nat} {f : Bool} (h : w.frozen? ⟨b, i, none⟩ = f) (hl : b < w.heap.size) (o : Obj) : (w.alloc o).frozen? ⟨b, i, none⟩ = f := (World.frozen?_of_block (a := ⟨b, i, none⟩) (Below.heap_alloc w o b hl)).trans h
theorem cut_after {W w1 : World} {ak an : Int} {o : Out} {oa : Option Addr} {cp : Nat} {T : TypeId} (hw1 : W.heap.size + 3 ≤ w1.heap.size) (hR : Row w1 (.slice oa o.said.length cp) o.said) (nsr : NS w1 (W.heap.size + 1 + 1)) (hbW : Below W.heap.size W w1) (e0 : w1.cell? ⟨W.heap.size, 0, none⟩ = some (.int .i64 ak)) (e1 : w1.cell? ⟨W.heap.size, 1, none⟩ = some (.int .i64 an))
    (r0 : w1.cell? ⟨W.heap.size + 1 + 1, 0, none⟩ = some (.int .i64 0)) (r1 : w1.cell? ⟨W.heap.size + 1 + 1, 1, none⟩ = some (.int .i64 0)) (r2 : w1.cell? ⟨W.heap.size + 1 + 1, 2, none⟩ = some (.bool false)) (r3 : w1.cell? ⟨W.heap.size + 1 + 1, 3, none⟩ = some (.slice none 0 0)) (r4 : w1.cell? ⟨W.heap.size + 1 + 1, 4, none⟩ = some (.int .i64 0)) (rf : ∀ i, w1.frozen? ⟨W.heap.size + 1 + 1, i, none⟩ = false) :
    CutR W ak an o (.pointer (some ⟨w1.heap.size, 0, none⟩)) (w1.alloc (.cells #[.int .i64 o.k, .int .i64 o.n, .bool o.thr, .slice oa o.said.length cp, .int .i64 o.code] T)) := by
  refine ⟨w1.heap.size, oa, cp, rfl, hw1, by simp, ⟨alloc_cell _ _ _ 0, alloc_cell _ _ _ 1, alloc_cell _ _ _ 2, alloc_cell _ _ _ 3, alloc_cell _ _ _ 4⟩, fun i => ?_, fun w' hk => row_free hR nsr (Or.inr (Nat.le_refl _)) (fun c hc _ => Below.heap_alloc _ _ _ hc) (by simp) hk, hbW.alloc hbW.size _, held_old e0 (by omega) _, held_old e1 (by omega) _, ⟨held_old r0 (by omega) _, held_old r1 (by omega) _, held_old r2 (by omega) _, held_old r3 (by omega) _, held_old r4 (by omega) _⟩, fun i => held_oldf (rf i) (by omega) _⟩
  have h := heap_alloc_new w1 (.cells #[.int .i64 o.k, .int .i64 o.n, .bool o.thr, .slice oa o.said.length cp, .int .i64 o.code] T)
  simp only [World.frozen?, h]
  rfl
theorem set5_other {w1 : World} {g b i : Nat} {u x0 x1 x2 x3 x4 : Value} (h : w1.cell? ⟨b, i, none⟩ = some u) (hn : b ≠ g) : (((((w1.setCell ⟨g, 0, none⟩ x0).setCell ⟨g, 1, none⟩ x1).setCell ⟨g, 2, none⟩ x2).setCell ⟨g, 3, none⟩ x3).setCell ⟨g, 4, none⟩ x4).cell? ⟨b, i, none⟩ = some u :=
  held_setc (held_setc (held_setc (held_setc (held_setc h hn _) hn _) hn _) hn _) hn _
theorem set5_block {w1 : World} {g b : Nat} {x0 x1 x2 x3 x4 : Value} (hn : b ≠ g) : (((((w1.setCell ⟨g, 0, none⟩ x0).setCell ⟨g, 1, none⟩ x1).setCell ⟨g, 2, none⟩ x2).setCell ⟨g, 3, none⟩ x3).setCell ⟨g, 4, none⟩ x4).heap[b]? = w1.heap[b]? :=
  (Below.heap_setCell _ _ _ _ hn).trans ((Below.heap_setCell _ _ _ _ hn).trans ((Below.heap_setCell _ _ _ _ hn).trans ((Below.heap_setCell _ _ _ _ hn).trans (Below.heap_setCell _ _ _ _ hn))))
theorem cut_ahead {W w1 : World} {ak an : Int} {o : Out} {oa : Option Addr} {cp g : Nat} (hg : W.heap.size + 3 ≤ g) (hgl : g < w1.heap.size) (nsg : NS w1 g) (z : (∃ u, w1.cell? ⟨g, 0, none⟩ = some u) ∧ (∃ u, w1.cell? ⟨g, 1, none⟩ = some u) ∧ (∃ u, w1.cell? ⟨g, 2, none⟩ = some u) ∧ (∃ u, w1.cell? ⟨g, 3, none⟩ = some u) ∧ (∃ u, w1.cell? ⟨g, 4, none⟩ = some u)) (zf : ∀ i, w1.frozen? ⟨g, i, none⟩ = false) (hw1 : W.heap.size + 3 ≤ w1.heap.size) (hR : Row w1 (.slice oa o.said.length cp) o.said) (nsr : NS w1 (W.heap.size + 1 + 1)) (hbW : Below W.heap.size W w1) (e0 : w1.cell? ⟨W.heap.size, 0, none⟩ = some (.int .i64 ak)) (e1 : w1.cell? ⟨W.heap.size, 1, none⟩ = some (.int .i64 an))
    (r0 : w1.cell? ⟨W.heap.size + 1 + 1, 0, none⟩ = some (.int .i64 0)) (r1 : w1.cell? ⟨W.heap.size + 1 + 1, 1, none⟩ = some (.int .i64 0)) (r2 : w1.cell? ⟨W.heap.size + 1 + 1, 2, none⟩ = some (.bool false)) (r3 : w1.cell? ⟨W.heap.size + 1 + 1, 3, none⟩ = some (.slice none 0 0)) (r4 : w1.cell? ⟨W.heap.size + 1 + 1, 4, none⟩ = some (.int .i64 0)) (rf : ∀ i, w1.frozen? ⟨W.heap.size + 1 + 1, i, none⟩ = false) :
    CutR W ak an o (.pointer (some ⟨g, 0, none⟩)) (((((w1.setCell ⟨g, 0, none⟩ (.int .i64 o.k)).setCell ⟨g, 1, none⟩ (.int .i64 o.n)).setCell ⟨g, 2, none⟩ (.bool o.thr)).setCell ⟨g, 3, none⟩ (.slice oa o.said.length cp)).setCell ⟨g, 4, none⟩ (.int .i64 o.code)) := by
  obtain ⟨⟨u0, z0⟩, ⟨u1, z1⟩, ⟨u2, z2⟩, ⟨u3, z3⟩, ⟨u4, z4⟩⟩ := z
  refine ⟨g, oa, cp, rfl, hg, by simpa [World.setCell] using hgl, by simp [go_sem, z0, z1, z2, z3, z4], fun i => by simp [go_sem, zf], fun w' hk => row_free hR nsr (Or.inl nsg) (fun c _ hn => set5_block hn) (by simp [World.setCell]) hk, ?_, set5_other e0 (by omega), set5_other e1 (by omega), ⟨set5_other r0 (by omega), set5_other r1 (by omega), set5_other r2 (by omega), set5_other r3 (by omega), set5_other r4 (by omega)⟩, fun i => ?_⟩
  · exact ((((hbW.setCell (by dsimp only; omega) _).setCell (by dsimp only; omega) _).setCell (by dsimp only; omega) _).setCell (by dsimp only; omega) _).setCell (by dsimp only; omega) _
  · rw [World.frozen?_of_block (a := ⟨W.heap.size + 1 + 1, i, none⟩) (set5_block (show W.heap.size + 1 + 1 ≠ g by omega))]
    exact rf i

set_option maxRecDepth 100000 in
set_option maxHeartbeats 4000000 in
theorem more_two {W : World} {v pv sv bv : Value} {ss : List ByteArray} {ps : List Nat} {ak an a b : Int} {sd : List ByteArray} {bs : Bs} {nb : Nat} {x : ByteArray} {d1 : Deed} {g : Wth} (hA : AskM W v ss pv ps ak an sv sd a b bv bs nb) (T2 : (x.toList == [115, 97, 121]) = false) (T3 : (x.toList == [116, 104, 114, 111, 119]) = false) (T13 : (x.toList == [105, 102]) = false) (T10 : (x.toList == [98, 105, 110, 100]) = false) (HR1 : RecS v (ps.getD 1 0) nb d1 W) (hk1 : 1 < ps.length) (HW : ∀ c d w, okB c d = true → Calls Tryz.prog 135 #[.string x, .agg #[.int .i64 ak, .int .i64 an], .agg #[.int .i64 c, .int .i64 d]] w fun e w' => e = .returned (.tuple #[.agg #[.int .i64 (g ak an c d).1.1, .int .i64 (g ak an c d).1.2], .bool (g ak an c d).2]) ∧ Below w.heap.size w w') (hG : GoodD d1) :
    Calls Tryz.prog 97 #[v, .string x, pv, .agg #[.int .i64 ak, .int .i64 an, .bool false, sv, .int .i64 0], .agg #[.int .i64 a, .int .i64 b], bv] W (MeansS (thenD (d1 a b (toBd bs) sd) fun o => if (g ak an o.k o.n).2 = true then ⟨(g ak an o.k o.n).1.1, (g ak an o.k o.n).1.2, false, o.said, 0⟩ else wrong 1) W) := by
  have HA := Lib.hid hA
  obtain ⟨oa, ca, rfl, hv1, hv2, -⟩ := hA.row
  obtain ⟨pg, pc, rfl, hp1, hp2, hp3, hp4⟩ := hA.parts
  obtain ⟨os, cs, rfl, hs1, hs2, -⟩ := hA.said
  obtain ⟨ob, cb, rfl, hb1, hb2, -⟩ := hA.bound
  have HP4 := Lib.hid hp4
  have hp3a : pg < W.heap.size + 1 := by omega
  have hp3b : pg < W.heap.size + 1 + 1 := by omega
  have hp3c : pg < W.heap.size + 2 := by omega
  obtain ⟨sl, hsl⟩ : ∃ sl, sd.length = sl := ⟨_, rfl⟩
  have HSL := Lib.hid hsl
  obtain ⟨vl, hvl⟩ : ∃ vl, ss.length = vl := ⟨_, rfl⟩
  obtain ⟨pl, hpl⟩ : ∃ pl, ps.length = pl := ⟨_, rfl⟩
  obtain ⟨bl, hbl⟩ : ∃ bl, bs.length = bl := ⟨_, rfl⟩
  have HBL := Lib.hid hbl
  have HPL := Lib.hid hpl
  have HVL := Lib.hid hvl
  rw [hsl] at hs1
  rw [hvl] at hv1
  rw [hpl] at hp1
  rw [hbl] at hb1
  unfold maxLen at hv2 hp2 hs2 hb2
  have hgo := hG a b (toBd bs) sd hA.oka hA.good hA.len hA.short
  have hr1 := HR1
  have HC1 := Lib.hid (fun W' (hb : Below W.heap.size W W') => hr1 W' a b (.slice ob bs.length cb) bs (.slice os sd.length cs) sd hb hA.oka (hA.bound.below hb) hA.few hA.good (hA.said.below hb) hA.len hA.short)
  rw [hsl, hvl, hbl] at HC1
  have q1 := hp4 1 hk1
  rw [hpl] at hk1
  have k1 : (1 : Int) < (pl : Int) := by omega
  obtain ⟨o, hod⟩ : ∃ o, d1 a b (toBd bs) sd = o := ⟨_, rfl⟩
  rw [hod] at HC1 hgo ⊢
  obtain ⟨ok, on, ot, oz, oc⟩ := o
  have HWW := Lib.hid (fun w => HW ok on w hgo.val)
  rw [hsl, hvl, hpl, hbl]
  clear HR1 hr1 HW hG hA hp4 hsl hvl hpl hbl hod hgo
  go_enter Tryz.func97, Tryz.ntmps97
  go_upto_region 19 with fail
  go_cut [14] (fun s14 wx => CutR W ak an ⟨ok, on, ot, oz, oc⟩ s14 wx)
  case first =>
    generalize hwa : World.alloc _ _ = wa
    have s1 : wa.cell? ⟨pg, 1, none⟩ = some (.int .i64 ((ps.getD 1 0 : Nat) : Int)) := by rw [← hwa]; simp [go_sem, q1, hp3, hp3a, hp3b]
    have s2 : wa.cell? ⟨W.heap.size + 1, 0, none⟩ = some (.int .i64 a) := by rw [← hwa]; simp [go_sem]
    have s3 : wa.cell? ⟨W.heap.size + 1, 1, none⟩ = some (.int .i64 b) := by rw [← hwa]; simp [go_sem]
    have s4 : wa.cell? ⟨W.heap.size, 3, none⟩ = some (.slice os sl cs) := by rw [← hwa]; simp [go_sem]
    have a0 : wa.cell? ⟨W.heap.size, 0, none⟩ = some (.int .i64 ak) := by rw [← hwa]; simp [go_sem]
    have a1 : wa.cell? ⟨W.heap.size, 1, none⟩ = some (.int .i64 an) := by rw [← hwa]; simp [go_sem]
    have u0 : wa.cell? ⟨W.heap.size + 1 + 1, 0, none⟩ = some (.int .i64 0) ∧ wa.cell? ⟨W.heap.size + 1 + 1, 1, none⟩ = some (.int .i64 0) ∧ wa.cell? ⟨W.heap.size + 1 + 1, 2, none⟩ = some (.bool false) ∧ wa.cell? ⟨W.heap.size + 1 + 1, 3, none⟩ = some (.slice none 0 0) ∧ wa.cell? ⟨W.heap.size + 1 + 1, 4, none⟩ = some (.int .i64 0) := by rw [← hwa]; simp [go_sem]
    have uf : ∀ i, wa.frozen? ⟨W.heap.size + 1 + 1, i, none⟩ = false := by rw [← hwa]; simp [go_sem]
    have un : NS wa (W.heap.size + 1 + 1) := by
      have h := ns_new ((W.alloc (.cells #[.int .i64 ak, .int .i64 an, .bool false, .slice os sl cs, .int .i64 0] 67)).alloc (.cells #[.int .i64 a, .int .i64 b] 26)) #[.int .i64 0, .int .i64 0, .bool false, .slice none 0 0, .int .i64 0] 67 (by rfl)
      rw [← hwa]
      simpa using h
    have s5 : Below W.heap.size W wa := by rw [← hwa]; (repeat (first | (with_reducible refine Below.alloc ?_ ?_ _) | (with_reducible refine Below.setCell ?_ ?_ _) | (with_reducible refine Below.drew ?_) | (with_reducible exact Below.refl _ _) | (with_reducible refine Below.trans ?_ (Below.mono (by assumption) ?_)))) <;> (first | omega | (dsimp only; omega) | (simp; done) | (simp; omega) | (simp at *; omega))
    have s6 : wa.heap.size = W.heap.size + 3 := by rw [← hwa]; simp
    have HA0 := Lib.hid a0
    have HA1 := Lib.hid a1
    have HU0 := Lib.hid u0
    have HUF := Lib.hid uf
    have HUN := Lib.hid un
    have HS5 := Lib.hid s5
    clear hwa a0 a1 u0 uf un
    have s7 : W.heap.size + 3 ≤ wa.heap.size := by omega
    have s8 := Below.refl (W.heap.size + 3) wa
    have HS6 := Lib.hid s6
    clear s6 s5
    have s5 := HS5.out
    go_region_held3 (fun w' => w'.cell? ⟨pg, 1, none⟩ = some (.int .i64 ((ps.getD 1 0 : Nat) : Int)) ∧ w'.cell? ⟨W.heap.size + 1, 0, none⟩ = some (.int .i64 a) ∧ w'.cell? ⟨W.heap.size + 1, 1, none⟩ = some (.int .i64 b) ∧ w'.cell? ⟨W.heap.size, 3, none⟩ = some (.slice os sl cs) ∧ Below (W.heap.size + 3) wa w' ∧ W.heap.size + 3 ≤ w'.heap.size)
      (((try dsimp only); (repeat' (refine And.intro ?_ ?_)) <;> first | (with_reducible assumption) | omega | ((repeat (first | (with_reducible assumption) | (with_reducible refine held_drewc ?_) | (with_reducible refine held_old ?_ ?_ _) | (with_reducible refine held_setc ?_ ?_ _) | (with_reducible refine Below.alloc ?_ ?_ _) | (with_reducible refine Below.drew ?_) | (with_reducible refine Below.setCell ?_ ?_ _))) <;> first | omega | (simp; done) | (simp; omega)) | (simp; omega)))
      (first | (go_at_call 41; refine (HC1.out _ ?_).mono ?_; (focus ((repeat (first | (with_reducible assumption) | (with_reducible refine Below.alloc ?_ ?_ _) | (with_reducible refine Below.drew ?_))) <;> first | omega | (simp; done) | (simp; omega))); rintro e w1 ⟨oa1, cp1, rfl, hrow1, hbz1⟩; have hbw1 : Below (W.heap.size + 3) wa w1 := held_below (by ((repeat (first | (with_reducible assumption) | (with_reducible refine Below.alloc ?_ ?_ _) | (with_reducible refine Below.drew ?_))) <;> first | omega | (simp; done) | (simp; omega))) hbz1 (by first | omega | (simp; omega)); have hsw1 := hbw1.size; have k1 := (hbw1.cell (p := ⟨pg, 1, none⟩) (by (try dsimp only); omega)).trans s1; have k2 := (hbw1.cell (p := ⟨W.heap.size + 1, 0, none⟩) (by (try dsimp only); omega)).trans s2; have k3 := (hbw1.cell (p := ⟨W.heap.size + 1, 1, none⟩) (by (try dsimp only); omega)).trans s3; have k4 := (hbw1.cell (p := ⟨W.heap.size, 3, none⟩) (by (try dsimp only); omega)).trans s4; have hg1 := (fun j => hbz1.cell (p := ⟨wa.heap.size, j, none⟩)); have hq1 := (fun j => hbz1.frozen (p := ⟨wa.heap.size, j, none⟩)); have hsz1 := hbz1.size; unfold outV; simp only))
    all_goals
      go_wp2_with fail
      go_meet
      go_light
      have hcw := fun b o (h : b < W.heap.size + 3) => hbw1.cell (p := ⟨b, o, none⟩) h
      have hfw := fun b o (h : b < W.heap.size + 3) => hbw1.frozen (p := ⟨b, o, none⟩) h
      have hw1 : W.heap.size + 3 ≤ w1.heap.size := by omega
      have nsr : NS w1 (W.heap.size + 1 + 1) := fun i s h => HUN.out i s (by rw [← hcw _ i (by omega)]; exact h)
      have hbW : Below W.heap.size W w1 := s5.trans (hbw1.mono (by omega))
      have e0 := (hcw W.heap.size 0 (by omega)).trans HA0.out
      have e1 := (hcw W.heap.size 1 (by omega)).trans HA1.out
      obtain ⟨r0, r1, r2, r3, r4⟩ := HU0.out
      have r0 := (hcw _ 0 (by omega)).trans r0
      have r1 := (hcw _ 1 (by omega)).trans r1
      have r2 := (hcw _ 2 (by omega)).trans r2
      have r3 := (hcw _ 3 (by omega)).trans r3
      have r4 := (hcw _ 4 (by omega)).trans r4
      have rf := fun i => (hfw _ i (by omega)).trans (HUF.out i)
      first
        | with_reducible exact cut_after hw1 hrow1 nsr hbW e0 e1 r0 r1 r2 r3 r4 rf
        | (with_reducible refine cut_ahead (g := wa.heap.size) ?_ ?_ ?_ ?_ ?_ hw1 hrow1 nsr hbW e0 e1 r0 r1 r2 r3 r4 rf
           · exact s7
           · simp at hsz1; omega
           · exact ((ns_new wa _ _ (by rfl)).drew).below (by simp) hbz1
           · simp [hg1, go_sem]
           · intro i; simp [hq1, go_sem])
  case rest =>
    obtain ⟨gb, oa1, cp1, rfl, hg3, hgl, ⟨y0, y1, y2, y3, y4⟩, gf, HROW, HBW, e0, e1, ⟨r0, r1, r2, r3, r4⟩, hfr⟩ := hcut
    dsimp only at y0 y1 y2 y3 y4 HROW
    have z10 : W.heap.size < wc.heap.size := by omega
    have z11 : W.heap.size + 1 + 1 < wc.heap.size := by omega
    have z12 : gb ≠ W.heap.size + 1 + 1 := by omega
    have z13 : ¬ gb = W.heap.size + 1 + 1 := z12
    have z14 : ¬ W.heap.size + 1 + 1 = gb := by omega
    cases ot
    · by_cases hoc : oc = 0
      · subst hoc
        have e : (thenD ⟨ok, on, false, oz, 0⟩ fun o => if (g ak an o.k o.n).2 = true then ⟨(g ak an o.k o.n).1.1, (g ak an o.k o.n).1.2, false, o.said, 0⟩ else wrong 1) = if (g ak an ok on).2 = true then ⟨(g ak an ok on).1.1, (g ak an ok on).1.2, false, oz, 0⟩ else wrong 1 := by unfold thenD; simp
        have HE := Lib.hid e
        clear e
        generalize g ak an ok on = t at HE HWW
        obtain ⟨⟨ta, tb⟩, tf⟩ := t
        cases tf
        · have HE := Lib.hid (HE.out.trans (if_neg (by simp)))
          go_wp2_with fail
          refine (HWW.out _).mono ?_
          rintro e w2 ⟨rfl, hbz2⟩
          have hsz2 := hbz2.size
          obtain ⟨hc2, hf2⟩ := bcell hbz2
          have z20 : W.heap.size + 1 + 1 < w2.heap.size := by omega
          have z22 : W.heap.size + 1 + 1 < w2.heap.size + 1 := by omega
          go_wp2_with fail
          refine (l4Wrong_any 1 _).mono ?_
          rintro e w3 ⟨oa3, cp3, rfl, hrow3, hbz3⟩
          have hsz3 := hbz3.size
          obtain ⟨hc3, hf3⟩ := bcell hbz3
          simp at hsz3
          have z30 : W.heap.size + 1 + 1 < w3.heap.size := by omega
          unfold outV wrong
          simp only [List.length_nil]
          go_wp2_with fail
          refine bodyPost_ret (v := .agg #[.int .i64 0, .int .i64 0, .bool false, .slice oa3 0 cp3, .int .i64 1]) (by simp [results, Tryz.results97, go_sem, *]) rfl ?_
          rw [HE.out]
          refine means_none (o := wrong 1) rfl hrow3 ?_
          clear hc2 hf2 hc3 hf3
          have hbw := HBW.out
          have hb2 : Below W.heap.size W w2 := hbw.trans (hbz2.mono (by omega))
          have hb3 : Below W.heap.size W w3 := (hb2.alloc (by omega) _).trans (hbz3.mono (by simp; omega))
          clear hbz2 hbz3 hbw hb2
          (repeat (first | (with_reducible exact hb3) | (with_reducible refine Below.alloc ?_ ?_ _) | (with_reducible refine Below.setCell ?_ ?_ _))) <;> first | omega | (dsimp only; omega) | (simp; omega)
        · have HE := Lib.hid (HE.out.trans (if_pos (by simp)))
          go_wp2_with fail
          refine (HWW.out _).mono ?_
          rintro e w2 ⟨rfl, hbz2⟩
          have hsz2 := hbz2.size
          obtain ⟨hc2, hf2⟩ := bcell hbz2
          have z20 : W.heap.size + 1 + 1 < w2.heap.size := by omega
          have z21 : gb < w2.heap.size := by omega
          go_wp2_with fail
          refine bodyPost_ret (v := .agg #[.int .i64 ta, .int .i64 tb, .bool false, .slice oa1 oz.length cp1, .int .i64 0]) (by simp [results, Tryz.results97, go_sem, *]) rfl ?_
          rw [HE.out]
          refine ⟨oa1, cp1, rfl, HROW.out _ ?_, ?_⟩
          · clear hc2 hf2
            (repeat (first | (with_reducible refine Keeps.alloc ?_ _) | (with_reducible refine Keeps.setCell ?_ ?_ _) | (with_reducible refine Keeps.drew ?_) | (with_reducible exact Keeps.refl _ _) | (with_reducible refine Keeps.below ?_ (by assumption)))) <;> (first | exact Or.inl rfl | exact Or.inl (Or.inl rfl) | exact Or.inl (Or.inr rfl) | exact Or.inl ⟨by (try dsimp only); omega, by (try dsimp only); omega⟩ | exact Or.inr (by (try dsimp only); omega))
          · clear hc2 hf2
            have hbw := HBW.out
            have hb2 : Below W.heap.size W w2 := hbw.trans (hbz2.mono (by omega))
            clear hbz2 hbw
            (repeat (first | (with_reducible exact hb2) | (with_reducible refine Below.alloc ?_ ?_ _) | (with_reducible refine Below.setCell ?_ ?_ _))) <;> first | omega | (dsimp only; omega) | (simp; omega)
      · have hoc' : (oc != 0) = true := by simp [hoc]
        have e : (thenD ⟨ok, on, false, oz, oc⟩ fun o => if (g ak an o.k o.n).2 = true then ⟨(g ak an o.k o.n).1.1, (g ak an o.k o.n).1.2, false, o.said, 0⟩ else wrong 1) = ⟨ok, on, false, oz, oc⟩ := by unfold thenD; simp [hoc]
        have HE := Lib.hid e
        clear e hoc HWW
        go_wp2_with fail
        refine bodyPost_ret (v := .agg #[.int .i64 ok, .int .i64 on, .bool false, .slice oa1 oz.length cp1, .int .i64 oc]) (by simp [results, Tryz.results97, go_sem, *]) rfl ?_
        rw [HE.out]
        refine ⟨oa1, cp1, rfl, HROW.out _ ?_, ?_⟩
        · (repeat (first | (with_reducible refine Keeps.alloc ?_ _) | (with_reducible refine Keeps.setCell ?_ ?_ _) | (with_reducible refine Keeps.drew ?_) | (with_reducible exact Keeps.refl _ _) | (with_reducible refine Keeps.below ?_ (by assumption)))) <;> (first | exact Or.inl rfl | exact Or.inl (Or.inl rfl) | exact Or.inl (Or.inr rfl) | exact Or.inl ⟨by (try dsimp only); omega, by (try dsimp only); omega⟩ | exact Or.inr (by (try dsimp only); omega))
        · have hbw := HBW.out
          (repeat (first | (with_reducible exact hbw) | (with_reducible refine Below.setCell ?_ ?_ _))) <;> first | omega | (dsimp only; omega)
    · have e : (thenD ⟨ok, on, true, oz, oc⟩ fun o => if (g ak an o.k o.n).2 = true then ⟨(g ak an o.k o.n).1.1, (g ak an o.k o.n).1.2, false, o.said, 0⟩ else wrong 1) = ⟨ok, on, true, oz, oc⟩ := by unfold thenD; simp
      have HE := Lib.hid e
      clear e HWW
      cases hoc : (oc != 0)
      all_goals
        go_wp2_with fail
        refine bodyPost_ret (v := .agg #[.int .i64 ok, .int .i64 on, .bool true, .slice oa1 oz.length cp1, .int .i64 oc]) (by simp [results, Tryz.results97, go_sem, *]) rfl ?_
        rw [HE.out]
        refine ⟨oa1, cp1, rfl, HROW.out _ ?_, ?_⟩
        · (repeat (first | (with_reducible refine Keeps.alloc ?_ _) | (with_reducible refine Keeps.setCell ?_ ?_ _) | (with_reducible refine Keeps.drew ?_) | (with_reducible exact Keeps.refl _ _) | (with_reducible refine Keeps.below ?_ (by assumption)))) <;> (first | exact Or.inl rfl | exact Or.inl (Or.inl rfl) | exact Or.inl (Or.inr rfl) | exact Or.inl ⟨by (try dsimp only); omega, by (try dsimp only); omega⟩ | exact Or.inr (by (try dsimp only); omega))
        · have hbw := HBW.out
          (repeat (first | (with_reducible exact hbw) | (with_reducible refine Below.setCell ?_ ?_ _))) <;> first | omega | (dsimp only; omega)

end L2
end Go.Proofs.YtkhjbhkbknennaaGreatDoor
