/-
  The model's bind: two appends in a region that draws its order, and the sum within which it is bound.
-/
import Derived.Test.YtkhjbhkbknennaaGreatDoorM6
namespace Go.Proofs.YtkhjbhkbknennaaGreatDoor
open Go.RowKit
namespace L2
open S1 L1

set_option maxRecDepth 100000 in
/-- The first append: a copy of what was bound, into a block of the call's own. -/
theorem bind_copy {W w : World} {B g0 : Nat} {v : Value} {bs : Bs} (hR : RowB W v bs) (hb : Below W.heap.size W w) (hg0 : w.heap[g0]? = some (.cells #[] 112 (0, 0))) (hB0 : B ≤ g0) (hl : bs.length ≤ 1000) :
    ∃ g3 c3 w3, (Builtin.append_ #[69, 69] 69 #[.slice (some ⟨g0, 0, none⟩) 0 0, v]).run Tryz.prog w = .ok (.slice (some ⟨g3, 0, none⟩) bs.length c3) w3 ∧ OwB w3 B (.slice (some ⟨g3, 0, none⟩) bs.length c3) bs ∧ Below B w w3 ∧ (∀ c, c < w.heap.size → c ≠ g0 → w3.heap[c]? = w.heap[c]?) := by
  obtain ⟨v3, w3, hr, hO, hg⟩ := bound_copy (hR.below hb) hg0 hB0 hl
  have hlt : g0 < w.heap.size := (Array.getElem?_eq_some_iff.1 hg0).1
  obtain ⟨g, cap, rfl, -, -, -, -, -⟩ := hO.form
  exact ⟨g, cap, w3, hr, hO, (Below.refl B w).grown hg (by omega) (fun k e => by injection e with e; omega), fun c hc hn => hg.block c hc (fun e => hn (by injection e))⟩
set_option maxRecDepth 100000 in
/-- The second: one more behind it. -/
theorem bind_more {w : World} {B g : Nat} {v : Value} {bs : Bs} (hO : OwB w B v bs) (x : ByteArray × Int × Int) (hc : ∀ j u, (bcs [x])[j]? = some u → w.cell? ⟨g, j, none⟩ = some u) (hl : bs.length ≤ 1000) (hB : B ≤ w.heap.size) :
    ∃ g3 c3 w3, (Builtin.append_ #[69, 69] 69 #[v, .slice (some ⟨g, 0, none⟩) 1 1]).run Tryz.prog w = .ok (.slice (some ⟨g3, 0, none⟩) (bs.length + 1) c3) w3 ∧ OwB w3 B (.slice (some ⟨g3, 0, none⟩) (bs.length + 1) c3) (bs ++ [x]) ∧ Below B w w3 := by
  obtain ⟨v3, w3, hr, hO3, hg⟩ := bound_more hO x hc hl hB
  obtain ⟨g1, c1, hv, -, -, -, -, -⟩ := hO3.form
  rw [List.length_append, List.length_singleton] at hv
  subst hv
  obtain ⟨g0, c0, hv0, -, -, hb0, -⟩ := hO.form
  refine ⟨g1, c1, w3, hr, hO3, (Below.refl B w).grown hg hB (fun k e => ?_)⟩
  rw [hv0] at e
  simp [Value.ownBlock] at e
  omega

theorem heap_old {w : World} {o v : Obj} {k : Nat} (h : w.heap[k]? = some v) : (w.alloc o).heap[k]? = some v := (Below.heap_alloc w o k (Array.getElem?_eq_some_iff.1 h).1).trans h
theorem OwB.alloc {w : World} {B : Nat} {v : Value} {bs : Bs} (h : OwB w B v bs) (o : Obj) : OwB (w.alloc o) B v bs := ⟨h.1.alloc o, h.2⟩
theorem bcs_lit (w : World) (x : ByteArray) (a b : Int) (j : Nat) (u : Value) (h : (bcs [(x, a, b)])[j]? = some u) : (w.alloc (.cells #[.string x, .int .i64 a, .int .i64 b] 112)).cell? ⟨w.heap.size, j, none⟩ = some u := by
  have hb := heap_alloc_new w (.cells #[.string x, .int .i64 a, .int .i64 b] 112)
  have e : bcs [(x, a, b)] = [.string x, .int .i64 a, .int .i64 b] := rfl
  rw [e] at h
  simp only [World.cell?, hb]
  simpa using h
theorem bcs_kept {w w' : World} {b : Nat} {x : ByteArray × Int × Int} (h : ∀ j u, (bcs [x])[j]? = some u → w.cell? ⟨b, j, none⟩ = some u) (hk : w'.heap[b]? = w.heap[b]?) (j : Nat) (u : Value) (hj : (bcs [x])[j]? = some u) : w'.cell? ⟨b, j, none⟩ = some u :=
  (World.cell?_of_block (a := ⟨b, j, none⟩) hk).trans (h j u hj)
set_option maxRecDepth 100000 in
theorem step_copy {ops : Array Oper} {o : Oper} {a : Act} {w : World} {K : Act → World → Prop} {Q : Exit → Act → World → Prop} {E : Prop} {W : World} {B g0 bl : Nat} {v : Value} {bs : Bs} (hgd : o.guard = none)
    (ho : o.op = .call { callee := .builtin .append, args := #[.tmp 70, .tmp 71], argTypes := #[69, 69] }) (hty : o.type = 69)
    (hs : a.eval (.tmp 70) = .slice (some ⟨g0, 0, none⟩) 0 0) (hx : a.eval (.tmp 71) = v) (hR : RowB W v bs) (hb : Below W.heap.size W w) (hg0 : w.heap[g0]? = some (.cells #[] 112 (0, 0))) (hB0 : B ≤ g0) (hl : bs.length ≤ 1000) (hbl : bs.length = bl)
    (h : ∀ g3 c3 w3, OwB w3 B (.slice (some ⟨g3, 0, none⟩) bl c3) bs → Below B w w3 → (∀ c, c < w.heap.size → c ≠ g0 → w3.heap[c]? = w.heap[c]?) → K (a.put o.dst (.slice (some ⟨g3, 0, none⟩) bl c3)) w3) :
    if Region.wanted o (yielded ops a.tmps) = true then Oper.wp Tryz.prog o a w K Q else E := by
  subst hbl
  obtain ⟨g3, c3, w3, hr, hO, hb3, hx3⟩ := bind_copy hR hb hg0 hB0 hl
  exact step_run hgd (.tmp 70) (.tmp 71) ho hty _ _ hs hx hr (h g3 c3 w3 hO hb3 hx3)
set_option maxRecDepth 100000 in
theorem step_more {ops : Array Oper} {o : Oper} {a : Act} {w : World} {K : Act → World → Prop} {Q : Exit → Act → World → Prop} {E : Prop} {B g bl : Nat} {v : Value} {bs : Bs} {x : ByteArray × Int × Int} (hgd : o.guard = none)
    (ho : o.op = .call { callee := .builtin .append, args := #[.tmp 72, .tmp 83], argTypes := #[69, 69] }) (hty : o.type = 69)
    (hs : a.eval (.tmp 72) = v) (hx : a.eval (.tmp 83) = .slice (some ⟨g, 0, none⟩) 1 1) (hO : OwB w B v bs) (hc : ∀ j u, (bcs [x])[j]? = some u → w.cell? ⟨g, j, none⟩ = some u) (hl : bs.length ≤ 1000) (hB : B ≤ w.heap.size) (hbl : bs.length = bl)
    (h : ∀ g4 c4 w4, OwB w4 B (.slice (some ⟨g4, 0, none⟩) (bl + 1) c4) (bs ++ [x]) → Below B w w4 → K (a.put o.dst (.slice (some ⟨g4, 0, none⟩) (bl + 1) c4)) w4) :
    if Region.wanted o (yielded ops a.tmps) = true then Oper.wp Tryz.prog o a w K Q else E := by
  subst hbl
  obtain ⟨g4, c4, w4, hr, hO4, hb4⟩ := bind_more hO x hc hl hB
  exact step_run hgd (.tmp 72) (.tmp 83) ho hty _ _ hs hx hr (h g4 c4 w4 hO4 hb4)
/-- Behind the two appends. -/
def CutB (n bl : Nat) (wa : World) (bs : Bs) (s : Value) (wx : World) : Prop :=
  ∃ g c, s = .slice (some ⟨g, 0, none⟩) (bl + 1) c ∧ Hid (RowB wx (.slice (some ⟨g, 0, none⟩) (bl + 1) c) bs) ∧ Below n wa wx

set_option maxRecDepth 100000 in
set_option maxHeartbeats 4000000 in
theorem more_bind {W : World} {v pv sv bv : Value} {ss : List ByteArray} {ps : List Nat} {ak an a b : Int} {sd : List ByteArray} {bs : Bs} {nb : Nat} {x y : ByteArray} {d1 : Deed} {q : Nat} (hA : AskM W v ss pv ps ak an sv sd a b bv bs nb) (T2 : (x.toList == [115, 97, 121]) = false) (T3 : (x.toList == [116, 104, 114, 111, 119]) = false) (T13 : (x.toList == [105, 102]) = false) (T10 : (x.toList == [98, 105, 110, 100]) = true) (HR1 : RecS v (ps.getD 1 0) (nb + 1) d1 W) (hk1 : 1 < ps.length) (hq : ps.getD 0 0 = q + 1) (hql : q < ss.length) (hy : ss.getD q ByteArray.empty = y) (hnb : nb ≤ 900) (hgy : GoodB (toBd (bs ++ [(y, ak, an)]))) :
    Calls Tryz.prog 97 #[v, .string x, pv, .agg #[.int .i64 ak, .int .i64 an, .bool false, sv, .int .i64 0], .agg #[.int .i64 a, .int .i64 b], bv] W (MeansS (d1 a b (toBd (bs ++ [(y, ak, an)])) sd) W) := by
  have HA := Lib.hid hA
  obtain ⟨oa, ca, rfl, hv1, hv2, hv3⟩ := hA.row
  obtain ⟨pg, pc, rfl, hp1, hp2, hp3, hp4⟩ := hA.parts
  obtain ⟨os, cs, rfl, hs1, hs2, -⟩ := hA.said
  obtain ⟨ob, cb, rfl, hb1, hb2, -⟩ := hA.bound
  obtain ⟨X, off, rfl, hX, hc⟩ := hv3 q hql
  rw [hy] at hc
  have hXa : X < W.heap.size + 1 := by omega
  have hXb : X < W.heap.size + 1 + 1 := by omega
  have hXc : X < W.heap.size + 2 := by omega
  have p0 := hp4 0 (by omega)
  have p1 := hp4 1 hk1
  rw [hq] at p0
  have hp3a : pg < W.heap.size + 1 := by omega
  have hp3b : pg < W.heap.size + 1 + 1 := by omega
  have hp3c : pg < W.heap.size + 2 := by omega
  obtain ⟨sl, hsl⟩ : ∃ sl, sd.length = sl := ⟨_, rfl⟩
  have HSL := Lib.hid hsl
  obtain ⟨vl, hvl⟩ : ∃ vl, ss.length = vl := ⟨_, rfl⟩
  obtain ⟨pl, hpl⟩ : ∃ pl, ps.length = pl := ⟨_, rfl⟩
  obtain ⟨bl, hbl⟩ : ∃ bl, bs.length = bl := ⟨_, rfl⟩
  have HBL := Lib.hid hbl
  rw [hsl] at hs1
  rw [hvl] at hv1 hql
  rw [hpl] at hp1 hk1
  rw [hbl] at hb1
  unfold maxLen at hv2 hp2 hs2 hb2
  have hq0 : (0 : Int) ≤ (q : Int) := by omega
  have hqv : (q : Int) < (vl : Int) := by omega
  have k0 : (0 : Int) < (pl : Int) := by omega
  have k1 : (1 : Int) < (pl : Int) := by omega
  have HB := Lib.hid hA.bound
  rw [hbl] at HB
  obtain ⟨p1v, hp1v⟩ : ∃ p1v, ps.getD 1 0 = p1v := ⟨_, rfl⟩
  rw [hp1v] at p1 HR1
  have hp00 : (((q + 1 : Nat) : Int) - 1) = (q : Int) := by omega
  have hr1 := HR1
  rw [hsl, hvl, hpl, hbl]
  have HC1 := Lib.hid (fun W' bv' (hb : Below W.heap.size W W') (hr : RowB W' bv' (bs ++ [(y, ak, an)])) => hr1 W' a b bv' (bs ++ [(y, ak, an)]) (.slice os sd.length cs) sd hb hA.oka hr (by have := hA.few; simp; omega) hgy (hA.said.below hb) hA.len hA.short)
  rw [hsl] at HC1
  rw [hvl] at HC1
  generalize d1 a b (toBd (bs ++ [(y, ak, an)])) sd = o at HC1 ⊢
  clear HR1 hr1 hA hv3 hp4 hsl hvl hpl hbl hp1v hy hq hgy
  go_enter Tryz.func97, Tryz.ntmps97
  go_upto_region 17 with fail
  have hbl9 : bl ≤ 900 := by have := HA.out.few; rw [HBL.out] at this; omega
  generalize hwa : World.alloc _ _ = wa
  obtain ⟨z, hz⟩ : ∃ z : Int, ((q + 1 : Nat) : Int) = z := ⟨_, rfl⟩
  rw [hz] at p0
  have HZ := Lib.hid hz
  have s1 : wa.cell? ⟨pg, 0, none⟩ = some (.int .i64 z) := by rw [← hwa]; simp [go_sem, p0, hp3, hp3a, hp3b]
  have s2 : wa.cell? ⟨X, off + q, none⟩ = some (.string y) := by rw [← hwa]; simp [go_sem, hc, hX, hXa, hXb]
  have s3 : wa.cell? ⟨W.heap.size, 0, none⟩ = some (.int .i64 ak) := by rw [← hwa]; simp [go_sem]
  have s4 : wa.cell? ⟨W.heap.size, 1, none⟩ = some (.int .i64 an) := by rw [← hwa]; simp [go_sem]
  have s5 : Below W.heap.size W wa := by rw [← hwa]; (repeat (first | (with_reducible refine Below.alloc ?_ ?_ _) | (with_reducible refine Below.setCell ?_ ?_ _) | (with_reducible refine Below.drew ?_) | (with_reducible exact Below.refl _ _) | (with_reducible refine Below.trans ?_ (Below.mono (by assumption) ?_)))) <;> (first | omega | (dsimp only; omega) | (simp; done) | (simp; omega) | (simp at *; omega))
  have s6 : wa.heap.size = W.heap.size + 3 := by rw [← hwa]; simp

  have s9 : wa.cell? ⟨pg, 1, none⟩ = some (.int .i64 (p1v : Int)) := by rw [← hwa]; simp [go_sem, p1, hp3, hp3a, hp3b]
  have s10 : wa.cell? ⟨W.heap.size + 1, 0, none⟩ = some (.int .i64 a) ∧ wa.cell? ⟨W.heap.size + 1, 1, none⟩ = some (.int .i64 b) ∧ wa.cell? ⟨W.heap.size, 3, none⟩ = some (.slice os sl cs) := by rw [← hwa]; simp [go_sem]
  have u0 : wa.cell? ⟨W.heap.size + 1 + 1, 0, none⟩ = some (.int .i64 0) ∧ wa.cell? ⟨W.heap.size + 1 + 1, 1, none⟩ = some (.int .i64 0) ∧ wa.cell? ⟨W.heap.size + 1 + 1, 2, none⟩ = some (.bool false) ∧ wa.cell? ⟨W.heap.size + 1 + 1, 3, none⟩ = some (.slice none 0 0) ∧ wa.cell? ⟨W.heap.size + 1 + 1, 4, none⟩ = some (.int .i64 0) := by rw [← hwa]; simp [go_sem]
  have uf : ∀ i, wa.frozen? ⟨W.heap.size + 1 + 1, i, none⟩ = false := by rw [← hwa]; simp [go_sem]
  have un : NS wa (W.heap.size + 1 + 1) := by
    have h := ns_new ((W.alloc (.cells #[.int .i64 ak, .int .i64 an, .bool false, .slice os sl cs, .int .i64 0] 67)).alloc (.cells #[.int .i64 a, .int .i64 b] 26)) #[.int .i64 0, .int .i64 0, .bool false, .slice none 0 0, .int .i64 0] 67 (by rfl)
    rw [← hwa]
    simpa using h
  have S6 : W.heap.size + 3 ≤ wa.heap.size := by omega
  have S9 := Lib.hid s9
  have S10 := Lib.hid s10
  have U0 := Lib.hid u0
  have UF := Lib.hid uf
  have UN := Lib.hid un
  have S5 := Lib.hid s5
  clear s9 s10 u0 uf un s6 s5
  go_cut [13] (fun s13 wx => CutB (W.heap.size + 3) bl wa (bs ++ [(y, ak, an)]) s13 wx)
  case first =>
    have s5 := S5.out
    have s6 := S6
    have s8 := Below.refl (W.heap.size + 3) wa
    have k0n : 0 < pl := by omega
    have zw : IntKind.i64.wrap (z - 1) = z - 1 := by rw [IntKind.wrap_i64]; omega
    have z0 : 0 ≤ z - 1 := by omega
    have z1 : 1 ≤ z := by omega
    have zl : z - 1 < (vl : Int) := by omega
    have zt : (z - 1).toNat = q := by omega
    clear hz hp00
    go_region_held3 (fun w' => w'.cell? ⟨pg, 0, none⟩ = some (.int .i64 z) ∧ w'.cell? ⟨X, off + q, none⟩ = some (.string y) ∧ w'.cell? ⟨W.heap.size, 0, none⟩ = some (.int .i64 ak) ∧ w'.cell? ⟨W.heap.size, 1, none⟩ = some (.int .i64 an) ∧ Below (W.heap.size + 3) wa w' ∧ W.heap.size + 3 ≤ w'.heap.size)
      (((try dsimp only); (repeat' (refine And.intro ?_ ?_)) <;> first | (with_reducible assumption) | omega | ((repeat (first | (with_reducible assumption) | (with_reducible refine held_drewc ?_) | (with_reducible refine held_old ?_ ?_ _) | (with_reducible refine Below.alloc ?_ ?_ _) | (with_reducible refine Below.drew ?_))) <;> first | omega | (simp; done) | (simp; omega)) | (simp; omega)))
      (first | (refine step_copy (g0 := wa.heap.size) (B := W.heap.size + 3) rfl rfl rfl (by simp [Act.eval, Act.put]) (by simp [Act.eval, Act.put]) HB.out (by ((repeat (first | (with_reducible assumption) | (with_reducible refine Below.alloc ?_ ?_ _) | (with_reducible refine Below.drew ?_) | (with_reducible exact Below.refl _ _))) <;> first | omega | (simp; done) | (simp; omega))) (by exact heap_alloc_new wa.drew (.cells #[] 112)) (by omega) (by rw [HBL.out]; omega) HBL.out ?_; intro g3 c3 w3 hO3 hb3 hx3; have hw3 : Below (W.heap.size + 3) wa w3 := Below.trans (show Below (W.heap.size + 3) wa (wa.drew.alloc (.cells #[] 112)) by ((repeat (first | (with_reducible assumption) | (with_reducible refine Below.alloc ?_ ?_ _) | (with_reducible refine Below.drew ?_) | (with_reducible exact Below.refl _ _))) <;> first | omega | (simp; done) | (simp; omega))) hb3; have hsz3 := hb3.size; simp at hsz3; have hs3 := hw3.size; have t1 := (hw3.cell (p := ⟨pg, 0, none⟩) (by (try dsimp only); omega)).trans s1; have t2 := (hw3.cell (p := ⟨X, off + q, none⟩) (by (try dsimp only); omega)).trans s2; have t3 := (hw3.cell (p := ⟨W.heap.size, 0, none⟩) (by (try dsimp only); omega)).trans s3; have t4 := (hw3.cell (p := ⟨W.heap.size, 1, none⟩) (by (try dsimp only); omega)).trans s4) | (refine step_copy (g0 := wa.heap.size) (B := W.heap.size + 3) rfl rfl rfl (by simp [Act.eval, Act.put]) (by simp [Act.eval, Act.put]) HB.out (by ((repeat (first | (with_reducible assumption) | (with_reducible refine Below.alloc ?_ ?_ _) | (with_reducible refine Below.drew ?_) | (with_reducible exact Below.refl _ _))) <;> first | omega | (simp; done) | (simp; omega))) (by show ((wa.alloc (.cells #[] 112)).alloc (.cells #[.string y, .int .i64 ak, .int .i64 an] 112)).heap[wa.heap.size]? = _; exact heap_old (heap_alloc_new wa (.cells #[] 112))) (by omega) (by rw [HBL.out]; omega) HBL.out ?_; intro g3 c3 w3 hO3 hb3 hx3; have hw3 : Below (W.heap.size + 3) wa w3 := Below.trans (show Below (W.heap.size + 3) wa (((wa.alloc (.cells #[] 112)).alloc (.cells #[.string y, .int .i64 ak, .int .i64 an] 112)).drew) by ((repeat (first | (with_reducible assumption) | (with_reducible refine Below.alloc ?_ ?_ _) | (with_reducible refine Below.drew ?_) | (with_reducible exact Below.refl _ _))) <;> first | omega | (simp; done) | (simp; omega))) hb3; have hsz3 := hb3.size; simp at hsz3; have hl3 := bcs_kept (bcs_lit (wa.alloc (.cells #[] 112)) y ak an) (hx3 (wa.alloc (.cells #[] 112)).heap.size (by simp) (by simp)); have hs3 := hw3.size; have t1 := (hw3.cell (p := ⟨pg, 0, none⟩) (by (try dsimp only); omega)).trans s1; have t2 := (hw3.cell (p := ⟨X, off + q, none⟩) (by (try dsimp only); omega)).trans s2; have t3 := (hw3.cell (p := ⟨W.heap.size, 0, none⟩) (by (try dsimp only); omega)).trans s3; have t4 := (hw3.cell (p := ⟨W.heap.size, 1, none⟩) (by (try dsimp only); omega)).trans s4) | (refine step_copy (g0 := wa.heap.size + 1) (B := W.heap.size + 3) rfl rfl rfl (by simp [Act.eval, Act.put]) (by simp [Act.eval, Act.put]) HB.out (by ((repeat (first | (with_reducible assumption) | (with_reducible refine Below.alloc ?_ ?_ _) | (with_reducible refine Below.drew ?_) | (with_reducible exact Below.refl _ _))) <;> first | omega | (simp; done) | (simp; omega))) (by (have hh := heap_alloc_new (wa.alloc (.cells #[.string y, .int .i64 ak, .int .i64 an] 112)) (.cells #[] 112); rw [World.size_alloc] at hh; show ((wa.alloc (.cells #[.string y, .int .i64 ak, .int .i64 an] 112)).alloc (.cells #[] 112)).heap[wa.heap.size + 1]? = _; exact hh)) (by omega) (by rw [HBL.out]; omega) HBL.out ?_; intro g3 c3 w3 hO3 hb3 hx3; have hw3 : Below (W.heap.size + 3) wa w3 := Below.trans (show Below (W.heap.size + 3) wa (((wa.alloc (.cells #[.string y, .int .i64 ak, .int .i64 an] 112)).alloc (.cells #[] 112)).drew) by ((repeat (first | (with_reducible assumption) | (with_reducible refine Below.alloc ?_ ?_ _) | (with_reducible refine Below.drew ?_) | (with_reducible exact Below.refl _ _))) <;> first | omega | (simp; done) | (simp; omega))) hb3; have hsz3 := hb3.size; simp at hsz3; have hl3 := bcs_kept (fun j u h => held_old (bcs_lit wa y ak an j u h) (by simp) (.cells #[] 112)) (hx3 wa.heap.size (by simp; omega) (by simp)); have hs3 := hw3.size; have t1 := (hw3.cell (p := ⟨pg, 0, none⟩) (by (try dsimp only); omega)).trans s1; have t2 := (hw3.cell (p := ⟨X, off + q, none⟩) (by (try dsimp only); omega)).trans s2; have t3 := (hw3.cell (p := ⟨W.heap.size, 0, none⟩) (by (try dsimp only); omega)).trans s3; have t4 := (hw3.cell (p := ⟨W.heap.size, 1, none⟩) (by (try dsimp only); omega)).trans s4) | (refine step_more (g := w3.heap.size) (B := W.heap.size + 3) (x := (y, ak, an)) rfl rfl rfl (by simp [Act.eval, Act.put]) (by simp [Act.eval, Act.put]) (hO3.alloc _) (bcs_lit w3 y ak an) (by rw [HBL.out]; omega) (by simp; omega) HBL.out ?_; intro g4 c4 w4 hO4 hb4; have hw4 : Below (W.heap.size + 3) wa w4 := hw3.trans (((Below.refl _ _).alloc (by omega) _).trans hb4); have hs3 := hw4.size; have t1 := (hw4.cell (p := ⟨pg, 0, none⟩) (by (try dsimp only); omega)).trans s1; have t2 := (hw4.cell (p := ⟨X, off + q, none⟩) (by (try dsimp only); omega)).trans s2; have t3 := (hw4.cell (p := ⟨W.heap.size, 0, none⟩) (by (try dsimp only); omega)).trans s3; have t4 := (hw4.cell (p := ⟨W.heap.size, 1, none⟩) (by (try dsimp only); omega)).trans s4) | (refine step_more (g := wa.heap.size + 1) (B := W.heap.size + 3) (x := (y, ak, an)) rfl rfl rfl (by simp [Act.eval, Act.put]) (by simp [Act.eval, Act.put]) hO3 (by intro j u h; have := hl3 j u h; simpa using this) (by rw [HBL.out]; omega) (by omega) HBL.out ?_; intro g4 c4 w4 hO4 hb4; have hw4 : Below (W.heap.size + 3) wa w4 := hw3.trans (hb4); have hs3 := hw4.size; have t1 := (hw4.cell (p := ⟨pg, 0, none⟩) (by (try dsimp only); omega)).trans s1; have t2 := (hw4.cell (p := ⟨X, off + q, none⟩) (by (try dsimp only); omega)).trans s2; have t3 := (hw4.cell (p := ⟨W.heap.size, 0, none⟩) (by (try dsimp only); omega)).trans s3; have t4 := (hw4.cell (p := ⟨W.heap.size, 1, none⟩) (by (try dsimp only); omega)).trans s4) | (refine step_more (g := wa.heap.size) (B := W.heap.size + 3) (x := (y, ak, an)) rfl rfl rfl (by simp [Act.eval, Act.put]) (by simp [Act.eval, Act.put]) hO3 (by intro j u h; have := hl3 j u h; simpa using this) (by rw [HBL.out]; omega) (by omega) HBL.out ?_; intro g4 c4 w4 hO4 hb4; have hw4 : Below (W.heap.size + 3) wa w4 := hw3.trans (hb4); have hs3 := hw4.size; have t1 := (hw4.cell (p := ⟨pg, 0, none⟩) (by (try dsimp only); omega)).trans s1; have t2 := (hw4.cell (p := ⟨X, off + q, none⟩) (by (try dsimp only); omega)).trans s2; have t3 := (hw4.cell (p := ⟨W.heap.size, 0, none⟩) (by (try dsimp only); omega)).trans s3; have t4 := (hw4.cell (p := ⟨W.heap.size, 1, none⟩) (by (try dsimp only); omega)).trans s4))
    all_goals
      go_wp2_with fail
      go_meet
      exact ⟨g4, c4, rfl, Lib.hid hO4.row, hw4⟩
  case rest =>
    obtain ⟨g4, c4, rfl, HROW, hbw⟩ := hcut
    have hsw := hbw.size
    have HBW : Hid (Below W.heap.size W wc) := Lib.hid (S5.out.trans (hbw.mono (by omega)))
    have k9 := (hbw.cell (p := ⟨pg, 1, none⟩) (by (try dsimp only); omega)).trans S9.out
    obtain ⟨e0, e1, e2⟩ := S10.out
    have e0 := (hbw.cell (p := ⟨W.heap.size + 1, 0, none⟩) (by (try dsimp only); omega)).trans e0
    have e1 := (hbw.cell (p := ⟨W.heap.size + 1, 1, none⟩) (by (try dsimp only); omega)).trans e1
    have e2 := (hbw.cell (p := ⟨W.heap.size, 3, none⟩) (by (try dsimp only); omega)).trans e2
    obtain ⟨r0, r1, r2, r3, r4⟩ := U0.out
    have r0 := (hbw.cell (p := ⟨W.heap.size + 1 + 1, 0, none⟩) (by (try dsimp only); omega)).trans r0
    have r1 := (hbw.cell (p := ⟨W.heap.size + 1 + 1, 1, none⟩) (by (try dsimp only); omega)).trans r1
    have r2 := (hbw.cell (p := ⟨W.heap.size + 1 + 1, 2, none⟩) (by (try dsimp only); omega)).trans r2
    have r3 := (hbw.cell (p := ⟨W.heap.size + 1 + 1, 3, none⟩) (by (try dsimp only); omega)).trans r3
    have r4 := (hbw.cell (p := ⟨W.heap.size + 1 + 1, 4, none⟩) (by (try dsimp only); omega)).trans r4
    have rf := fun i => (hbw.frozen (p := ⟨W.heap.size + 1 + 1, i, none⟩) (by (try dsimp only); omega)).trans (UF.out i)
    have HN : Hid (NS wc (W.heap.size + 1 + 1)) := Lib.hid (fun i s h => UN.out i s (by rw [← hbw.cell (p := ⟨W.heap.size + 1 + 1, i, none⟩) (by (try dsimp only); omega)]; exact h))
    have z0 : pg < wc.heap.size := by omega
    have z1 : W.heap.size < wc.heap.size := by omega
    have z2 : W.heap.size + 1 < wc.heap.size := by omega
    have z3 : W.heap.size + 1 + 1 < wc.heap.size := by omega
    clear hbw S5 S9 S10 U0 UF UN s1 s2 s3 s4 HZ
    obtain ⟨ok, on, ot, oz, oc⟩ := o
    go_wp2_with fail
    go_region_with (go_at_call 41; refine (HC1.out _ _ ?_ ?_).mono ?_; (focus (have hh := HBW.out; (repeat (first | (with_reducible refine Below.alloc ?_ ?_ _) | (with_reducible refine Below.setCell ?_ ?_ _) | (with_reducible refine Below.drew ?_) | (with_reducible exact Below.refl _ _) | (with_reducible refine Below.trans ?_ (Below.mono (by assumption) ?_)))) <;> (first | omega | (dsimp only; omega) | (simp; done) | (simp; omega) | (simp at *; omega)))); (focus (exact HROW.out)); rintro e w1 ⟨oa1, cp1, rfl, hrow1, hbz1⟩; have hns1 : NS w1 (W.heap.size + 1 + 1) := ((HN.out.drew).below (by exact z3) hbz1); have hsz1 := hbz1.size; obtain ⟨hc1, hf1⟩ := bcell hbz1; have q0 : w1.cell? ⟨W.heap.size + 1 + 1, 0, none⟩ = _ := (hc1 _ 0 z3).trans r0; have q1 : w1.cell? ⟨W.heap.size + 1 + 1, 1, none⟩ = _ := (hc1 _ 1 z3).trans r1; have q2 : w1.cell? ⟨W.heap.size + 1 + 1, 2, none⟩ = _ := (hc1 _ 2 z3).trans r2; have q3 : w1.cell? ⟨W.heap.size + 1 + 1, 3, none⟩ = _ := (hc1 _ 3 z3).trans r3; have q4 : w1.cell? ⟨W.heap.size + 1 + 1, 4, none⟩ = _ := (hc1 _ 4 z3).trans r4; have qf : ∀ i, w1.frozen? ⟨W.heap.size + 1 + 1, i, none⟩ = false := (fun i => (hf1 _ i z3).trans (rf i)); clear hc1 hf1; (try simp at hsz1); have z10 : W.heap.size < w1.heap.size := (by omega); have z11 : W.heap.size + 1 < w1.heap.size := (by omega); have z13 : W.heap.size + 1 + 1 < w1.heap.size := (by omega); unfold outV; simp only)
    all_goals
      go_wp2_with fail
      refine bodyPost_ret (v := .agg #[.int .i64 ok, .int .i64 on, .bool ot, .slice oa1 oz.length cp1, .int .i64 oc]) (by simp [results, Tryz.results97, go_sem, *]) rfl ?_
      refine means_new (o := ⟨ok, on, ot, oz, oc⟩) hrow1 hns1 ?_ ?_
      · (repeat (first | (with_reducible exact But.refl _ _) | (refine But.set ?_ (by first | rfl | (simp; done)) _) | (refine But.new ?_ _)))
      · have hww := HBW.out
        (repeat (first | (with_reducible refine Below.alloc ?_ ?_ _) | (with_reducible refine Below.setCell ?_ ?_ _) | (with_reducible refine Below.drew ?_) | (with_reducible exact Below.refl _ _) | (with_reducible refine Below.trans ?_ (Below.mono (by assumption) ?_)))) <;> (first | omega | (dsimp only; omega) | (simp; done) | (simp; omega) | (simp at *; omega))

end L2
end Go.Proofs.YtkhjbhkbknennaaGreatDoor
