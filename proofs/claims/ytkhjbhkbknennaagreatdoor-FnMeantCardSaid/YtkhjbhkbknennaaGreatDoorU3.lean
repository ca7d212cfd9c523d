/-
  The draw of two meanings (written by wip/gen_u3.py).
-/
import Derived.Test.YtkhjbhkbknennaaGreatDoorU1
import Derived.Test.YtkhjbhkbknennaaGreatDoorM12
namespace Go.Proofs.YtkhjbhkbknennaaGreatDoor
open Go.RowKit
namespace L2
open S1 L1 D

theorem BoxL.kept {w w' : World} {g p : Nat} (h : BoxL w g) (hg : w.grownBy w' (some p)) (hne : g ≠ p) : BoxL w' g := by
  obtain ⟨h1, ⟨⟨u0, a0⟩, ⟨u1, a1⟩, ⟨u2, a2⟩, ⟨u3, a3⟩, ⟨u4, a4⟩⟩, h3⟩ := h
  have hbk : w'.heap[g]? = w.heap[g]? := hg.block g h1 (fun e => hne (by injection e))
  have hc := fun i => World.cell?_of_block (a := ⟨g, i, none⟩) hbk
  exact ⟨Nat.lt_of_lt_of_le h1 hg.size, ⟨⟨u0, (hc 0).trans a0⟩, ⟨u1, (hc 1).trans a1⟩, ⟨u2, (hc 2).trans a2⟩, ⟨u3, (hc 3).trans a3⟩, ⟨u4, (hc 4).trans a4⟩⟩, fun i => (World.frozen?_of_block (a := ⟨g, i, none⟩) hbk).trans (h3 i)⟩
theorem OwU.keptP {w w' : World} {B p : Nat} {u : Value} {ss : List ByteArray} (h : OwU w B u ss) (hg : w.grownBy w' (some p)) (hp : p < B) : OwU w' B u ss := by
  refine h.kept hg ?_
  cases hu : u.ownBlock with
  | none => exact Or.inl rfl
  | some b =>
    refine Or.inr (fun e => ?_)
    injection e with e
    have := (h.lt' hu).1
    omega
theorem OwU.keptW {w w' : World} {B p : Nat} {u : Value} {ss : List ByteArray} (h : OwU w B u ss) (hg : w.grownBy w' (some p)) (hp : ∀ b, u.ownBlock = some b → b ≠ p) : OwU w' B u ss := by
  refine h.kept hg ?_
  cases hu : u.ownBlock with
  | none => exact Or.inl rfl
  | some b => exact Or.inr (fun e => by injection e with e; exact hp b hu e)
/-- A meaning in a box of the call's own, that may be written. -/
def BM (w : World) (g : Nat) (o : Out) (u : Value) : Prop := BoxM w g o u ∧ BoxL w g
theorem BM.kept {w w' : World} {g p : Nat} {o : Out} {u : Value} (h : BM w g o u) (hg : w.grownBy w' (some p)) (hne : g ≠ p) : BM w' g o u :=
  ⟨h.1.kept hg (fun e => hne (by injection e)), h.2.kept hg hne⟩
theorem BM.below {w w' : World} {g : Nat} {o : Out} {u : Value} (h : BM w g o u) (hb : Below w.heap.size w w') : BM w' g o u := ⟨h.1.below hb, h.2.below hb⟩
theorem BM.new (w : World) (o : Out) (u : Value) (T : TypeId) : BM (w.alloc (.cells #[.int .i64 o.k, .int .i64 o.n, .bool o.thr, u, .int .i64 o.code] T)) w.heap.size o u :=
  ⟨⟨by simp, alloc_cell _ _ _ 0, alloc_cell _ _ _ 1, alloc_cell _ _ _ 2, alloc_cell _ _ _ 3, alloc_cell _ _ _ 4⟩, BoxL.new _ _ _ _ _ _ _⟩
def set5 (w : World) (g : Nat) (o : Out) (u : Value) : World := ((((w.setCell ⟨g, 0, none⟩ (.int .i64 o.k)).setCell ⟨g, 1, none⟩ (.int .i64 o.n)).setCell ⟨g, 2, none⟩ (.bool o.thr)).setCell ⟨g, 3, none⟩ u).setCell ⟨g, 4, none⟩ (.int .i64 o.code)
theorem set5_grown (w : World) (g : Nat) (o : Out) (u : Value) : w.grownBy (set5 w g o u) (some g) := ((((D.grown_set w g 0 _).trans (D.grown_set _ g 1 _)).trans (D.grown_set _ g 2 _)).trans (D.grown_set _ g 3 _)).trans (D.grown_set _ g 4 _)
theorem set5_BM {w : World} {g : Nat} (h : BoxL w g) (o : Out) (u : Value) : BM (set5 w g o u) g o u := by
  obtain ⟨hgl, ⟨⟨u0, z0⟩, ⟨u1, z1⟩, ⟨u2, z2⟩, ⟨u3, z3⟩, ⟨u4, z4⟩⟩, zf⟩ := h
  have hs : g < (set5 w g o u).heap.size := by simpa [set5, World.setCell] using hgl
  have c0 : (set5 w g o u).cell? ⟨g, 0, none⟩ = some (.int .i64 o.k) := by simp [set5, go_sem, z0]
  have c1 : (set5 w g o u).cell? ⟨g, 1, none⟩ = some (.int .i64 o.n) := by simp [set5, go_sem, z1]
  have c2 : (set5 w g o u).cell? ⟨g, 2, none⟩ = some (.bool o.thr) := by simp [set5, go_sem, z2]
  have c3 : (set5 w g o u).cell? ⟨g, 3, none⟩ = some u := by simp [set5, go_sem, z3]
  have c4 : (set5 w g o u).cell? ⟨g, 4, none⟩ = some (.int .i64 o.code) := by simp [set5, go_sem, z4]
  exact ⟨⟨hs, c0, c1, c2, c3, c4⟩, ⟨hs, ⟨⟨_, c0⟩, ⟨_, c1⟩, ⟨_, c2⟩, ⟨_, c3⟩, ⟨_, c4⟩⟩, fun i => by simp [set5, go_sem, zf]⟩⟩
theorem code_BM {w : World} {g : Nat} {o : Out} {u : Value} (h : BM w g o u) (y : Int) : BM (w.setCell ⟨g, 4, none⟩ (.int .i64 y)) g { o with code := y } u := by
  obtain ⟨⟨hs, c0, c1, c2, c3, c4⟩, -, -, zf⟩ := h
  have hs' : g < (w.setCell ⟨g, 4, none⟩ (.int .i64 y)).heap.size := by simpa [World.setCell] using hs
  have d0 : (w.setCell ⟨g, 4, none⟩ (.int .i64 y)).cell? ⟨g, 0, none⟩ = some (.int .i64 o.k) := by simp [go_sem, c0]
  have d1 : (w.setCell ⟨g, 4, none⟩ (.int .i64 y)).cell? ⟨g, 1, none⟩ = some (.int .i64 o.n) := by simp [go_sem, c1]
  have d2 : (w.setCell ⟨g, 4, none⟩ (.int .i64 y)).cell? ⟨g, 2, none⟩ = some (.bool o.thr) := by simp [go_sem, c2]
  have d3 : (w.setCell ⟨g, 4, none⟩ (.int .i64 y)).cell? ⟨g, 3, none⟩ = some u := by simp [go_sem, c3]
  have d4 : (w.setCell ⟨g, 4, none⟩ (.int .i64 y)).cell? ⟨g, 4, none⟩ = some (.int .i64 y) := by simp [go_sem, c4]
  exact ⟨⟨hs', d0, d1, d2, d3, d4⟩, ⟨hs', ⟨⟨_, d0⟩, ⟨_, d1⟩, ⟨_, d2⟩, ⟨_, d3⟩, ⟨_, d4⟩⟩, fun i => by simp [go_sem, zf]⟩⟩
/-- What a draw of two meanings leaves. -/
def DrewMM (w : World) (e : Ending) (w' : World) : Prop := ∃ a b t u q ss a' b' t' u' q' tt, e = .returned (.tuple #[mgV a b t u q, mgV a' b' t' u' q']) ∧ Row w' u ss ∧ Row w' u' tt ∧ Below w.heap.size w w'

set_option maxRecDepth 100000 in
set_option maxHeartbeats 8000000 in
theorem drawSameMeaning_any (v : Value) (n : Nat) (w : World) (hC : D.Came w v n) : Calls Tryz.prog 8 #[v] w (DrewMM w) := by
  have hC' := Lib.hid hC
  clear hC
  go_enter Tryz.func8, Tryz.ntmps8
  have hL0 := BoxL.new w (.int .i64 0) (.int .i64 0) (.bool false) (.slice none 0 0) (.int .i64 0) 30
  have hb0 := (Below.refl w.heap.size w).alloc (Nat.le_refl _) (.cells #[.int .i64 0, .int .i64 0, .bool false, .slice none 0 0, .int .i64 0] 30)
  have hs0 : (w.alloc (.cells #[.int .i64 0, .int .i64 0, .bool false, .slice none 0 0, .int .i64 0] 30)).heap.size = w.heap.size + 1 := by simp
  have hL1 := BoxL.new (w.alloc (.cells #[.int .i64 0, .int .i64 0, .bool false, .slice none 0 0, .int .i64 0] 30)) (.int .i64 0) (.int .i64 0) (.bool false) (.slice none 0 0) (.int .i64 0) 30
  have hL0' := hL0.below ((Below.refl _ _).alloc (Nat.le_refl _) (.cells #[.int .i64 0, .int .i64 0, .bool false, .slice none 0 0, .int .i64 0] 30))
  have hb1 := hb0.alloc hb0.size (.cells #[.int .i64 0, .int .i64 0, .bool false, .slice none 0 0, .int .i64 0] 30)
  have hs1 : ((w.alloc (.cells #[.int .i64 0, .int .i64 0, .bool false, .slice none 0 0, .int .i64 0] 30)).alloc (.cells #[.int .i64 0, .int .i64 0, .bool false, .slice none 0 0, .int .i64 0] 30)).heap.size = w.heap.size + 2 := by simp
  rw [hs0] at hL1
  go_wp2_with fail
  have HC0 := Lib.hid (hC'.out.below hb1)
  have HL0 := Lib.hid hL0'
  have HL1 := Lib.hid hL1
  clear hL0 hL0' hL1 hb0 hs0
  generalize (w.alloc (.cells #[.int .i64 0, .int .i64 0, .bool false, .slice none 0 0, .int .i64 0] 30)).alloc (.cells #[.int .i64 0, .int .i64 0, .bool false, .slice none 0 0, .int .i64 0] 30) = w0 at HL0 HL1 hb1 hs1 HC0 ⊢
  refine (D.l1New_any v n _ HC0.out).mono ?_
  rintro e w1 ⟨h, rfl, rfl⟩
  have HB0 := Lib.hid (HC0.out.bytes (.cells #[v, .int .i64 0, .int .i64 h] 93))
  have K0 := Lib.hid (Cu.start (D.cur_new w0 v n h))
  have hsz0 : (w0.alloc (.cells #[v, .int .i64 0, .int .i64 h] 93)).heap.size = w.heap.size + 3 := by simp [hs1]
  have hbn := fun w1 (hg : (w0.alloc (.cells #[v, .int .i64 0, .int .i64 h] 93)).grownBy w1 (some w0.heap.size)) => hb1.trans ((D.below_new w0 w1 _ hg).mono hb1.size)
  have HBN := Lib.hid hbn
  have HL0 := Lib.hid (HL0.out.below ((Below.refl w0.heap.size w0).alloc (Nat.le_refl _) (.cells #[v, .int .i64 0, .int .i64 h] 93)))
  have HL1 := Lib.hid (HL1.out.below ((Below.refl w0.heap.size w0).alloc (Nat.le_refl _) (.cells #[v, .int .i64 0, .int .i64 h] 93)))
  clear hbn
  rw [hs1] at K0 HBN HB0 ⊢
  generalize w0.alloc (.cells #[v, .int .i64 0, .int .i64 h] 93) = W at HB0 K0 hsz0 HBN HL0 HL1 ⊢
  clear HC0 hC'
  go_wp2_with fail
  refine (l2DrawSum_any _ v n true W K0.out.c (HB0.out.kept K0.out.g)).mono ?_
  rintro e w21 ⟨v21, ss1, rfl, ho, hne, hl, hs, hc2, hg2⟩
  have K21 := Lib.hid (K0.out.got hc2 hg2)
  obtain ⟨g21, cp1, hu, -, -, hgW, -⟩ := ho.form
  subst hu
  have hW1 : w.heap.size + 3 ≤ g21 := by have := K0.out.g.size; omega
  have HO := Lib.hid ho
  have HS := Lib.hid (hs.small (by omega))
  have HL0 := Lib.hid (HL0.out.kept hg2 (by omega))
  have HL1 := Lib.hid (HL1.out.kept hg2 (by omega))
  clear ho hs hne hc2 hg2
  go_wp2_with fail
  refine (drawValue_any _ v n w21 K21.out.c (HB0.out.kept K21.out.g)).mono ?_
  rintro e w31 ⟨k1, x1, rfl, hC3, hg3⟩
  have K31 := Lib.hid (K21.out.got hC3 hg3)
  have HO := Lib.hid (HO.out.kept hg3 (own_neU (by omega)))
  have HL0 := Lib.hid (HL0.out.kept hg3 (by omega))
  have HL1 := Lib.hid (HL1.out.kept hg3 (by omega))
  have z31 := K31.out.g.size
  clear hC3 hg3
  go_wp2_with fail
  refine (specMeantQ _ ss1 k1 x1 w31 HO.out.row HS.out).mono ?_
  generalize meant (wsOf ss1) k1 x1 = o1
  rintro e w41 ⟨u1, rfl, hU, hb4⟩
  obtain ⟨ou1, cu1, rfl⟩ := hU.slice
  have z41 := hb4.size
  have hal := (Below.refl w41.heap.size w41).alloc (Nat.le_refl _) (.cells #[.int .i64 o1.k, .int .i64 o1.n, .bool o1.thr, (.slice ou1 o1.said.length cu1), .int .i64 o1.code] 30)
  have HU1 := Lib.hid (hU.below hal)
  have HA1 := Lib.hid (BM.new w41 o1 (.slice ou1 o1.said.length cu1) 30)
  have K51 := Lib.hid ((K31.out.below hb4).alloc (.cells #[.int .i64 o1.k, .int .i64 o1.n, .bool o1.thr, (.slice ou1 o1.said.length cu1), .int .i64 o1.code] 30))
  have HL0 := Lib.hid (HL0.out.below hb4)
  have HL1 := Lib.hid (HL1.out.below hb4)
  have HL0 := Lib.hid (HL0.out.below hal)
  have HL1 := Lib.hid (HL1.out.below hal)
  have hN1 := fun b (e : Value.ownBlock (.slice ou1 o1.said.length cu1) = some b) => (hU.lt' e).2
  clear hU hb4 hal HO HS
  unfold mgV
  go_wp2_with fail
  generalize hgw : w41.alloc (.cells #[.int .i64 o1.k, .int .i64 o1.n, .bool o1.thr, (.slice ou1 o1.said.length cu1), .int .i64 o1.code] 30) = A1 at HU1 HA1 K51 HL0 HL1  ⊢
  clear hgw
  refine (l2DrawSum_any _ v n true A1 K51.out.c (HB0.out.kept K51.out.g)).mono ?_
  rintro e w22 ⟨v22, ss2, rfl, ho, hne, hl, hs, hc2, hg2⟩
  have K22 := Lib.hid (K51.out.got hc2 hg2)
  obtain ⟨g22, cp2, hu, -, -, hgW, -⟩ := ho.form
  subst hu
  have hW2 : w.heap.size + 3 ≤ g22 := by have := K51.out.g.size; omega
  have HO := Lib.hid ho
  have HS := Lib.hid (hs.small (by omega))
  have HL0 := Lib.hid (HL0.out.kept hg2 (by omega))
  have HL1 := Lib.hid (HL1.out.kept hg2 (by omega))
  have HA1 := Lib.hid (HA1.out.kept hg2 (by omega))
  have HU1 := Lib.hid (HU1.out.keptP hg2 (by omega))
  clear ho hs hne hc2 hg2
  go_wp2_with fail
  refine (drawValue_any _ v n w22 K22.out.c (HB0.out.kept K22.out.g)).mono ?_
  rintro e w32 ⟨k2, x2, rfl, hC3, hg3⟩
  have K32 := Lib.hid (K22.out.got hC3 hg3)
  have HO := Lib.hid (HO.out.kept hg3 (own_neU (by omega)))
  have HL0 := Lib.hid (HL0.out.kept hg3 (by omega))
  have HL1 := Lib.hid (HL1.out.kept hg3 (by omega))
  have HA1 := Lib.hid (HA1.out.kept hg3 (by omega))
  have HU1 := Lib.hid (HU1.out.keptP hg3 (by omega))
  have z32 := K32.out.g.size
  clear hC3 hg3
  go_wp2_with fail
  refine (specMeantQ _ ss2 k2 x2 w32 HO.out.row HS.out).mono ?_
  generalize meant (wsOf ss2) k2 x2 = o2
  rintro e w42 ⟨u2, rfl, hU, hb4⟩
  obtain ⟨ou2, cu2, rfl⟩ := hU.slice
  have z42 := hb4.size
  have hal := (Below.refl w42.heap.size w42).alloc (Nat.le_refl _) (.cells #[.int .i64 o2.k, .int .i64 o2.n, .bool o2.thr, (.slice ou2 o2.said.length cu2), .int .i64 o2.code] 30)
  have HU2 := Lib.hid (hU.below hal)
  have HA2 := Lib.hid (BM.new w42 o2 (.slice ou2 o2.said.length cu2) 30)
  have K52 := Lib.hid ((K32.out.below hb4).alloc (.cells #[.int .i64 o2.k, .int .i64 o2.n, .bool o2.thr, (.slice ou2 o2.said.length cu2), .int .i64 o2.code] 30))
  have HL0 := Lib.hid (HL0.out.below hb4)
  have HL1 := Lib.hid (HL1.out.below hb4)
  have HA1 := Lib.hid (HA1.out.below hb4)
  have HU1 := Lib.hid (HU1.out.below hb4)
  have hN1 := fun b (e : Value.ownBlock (.slice ou1 o1.said.length cu1) = some b) => (HU1.out.lt' e).2
  have hN3 : w41.heap.size < w42.heap.size := HA1.out.1.1
  have HL0 := Lib.hid (HL0.out.below hal)
  have HL1 := Lib.hid (HL1.out.below hal)
  have HA1 := Lib.hid (HA1.out.below hal)
  have HU1 := Lib.hid (HU1.out.below hal)
  have hN2 := fun b (e : Value.ownBlock (.slice ou2 o2.said.length cu2) = some b) => (hU.lt' e).2
  clear hU hb4 hal HO HS
  unfold mgV
  go_wp2_with fail
  generalize hgw : w42.alloc (.cells #[.int .i64 o2.k, .int .i64 o2.n, .bool o2.thr, (.slice ou2 o2.said.length cu2), .int .i64 o2.code] 30) = A2 at HU2 HA2 K52 HL0 HL1 HA1 HU1 ⊢
  clear hgw
  have HB2 := HA2
  have K := K52
  have hN1 : ∀ b, Value.ownBlock (.slice ou1 o1.said.length cu1) = some b → b ≠ w42.heap.size := fun b e => Nat.ne_of_lt (hN1 b e)
  have hN2 : ∀ b, Value.ownBlock (.slice ou2 o2.said.length cu2) = some b → b ≠ w42.heap.size := fun b e => Nat.ne_of_lt (hN2 b e)
  clear K52 HA2
  refine (l1Once_any _ v n 2 (by omega) (by omega) A2 K.out.c (HB0.out.kept K.out.g)).mono ?_
  rintro e w5 ⟨q1, rfl, hC5, hg5⟩
  have K := Lib.hid (K.out.got hC5 hg5)
  have HL0 := Lib.hid (HL0.out.kept hg5 (by omega))
  have HL1 := Lib.hid (HL1.out.kept hg5 (by omega))
  have HA1 := Lib.hid (HA1.out.kept hg5 (by omega))
  have HB2 := Lib.hid (HB2.out.kept hg5 (by omega))
  have HU1 := Lib.hid (HU1.out.keptP hg5 (by omega))
  have HU2 := Lib.hid (HU2.out.keptP hg5 (by omega))
  clear hC5 hg5
  cases q1
  · go_wp2_with fail
    refine (l1Once_any _ v n 6 (by omega) (by omega) w5 K.out.c (HB0.out.kept K.out.g)).mono ?_
    rintro e w6 ⟨q2, rfl, hC6, hg6⟩
    have K := Lib.hid (K.out.got hC6 hg6)
    have HL0 := Lib.hid (HL0.out.kept hg6 (by omega))
    have HL1 := Lib.hid (HL1.out.kept hg6 (by omega))
    have HA1 := Lib.hid (HA1.out.kept hg6 (by omega))
    have HB2 := Lib.hid (HB2.out.kept hg6 (by omega))
    have HU1 := Lib.hid (HU1.out.keptP hg6 (by omega))
    have HU2 := Lib.hid (HU2.out.keptP hg6 (by omega))
    clear hC6 hg6
    cases q2
    · obtain ⟨⟨-, a0, a1, a2, a3, a4⟩, -⟩ := HA1.out
      obtain ⟨⟨-, b0, b1, b2, b3, b4⟩, -⟩ := HB2.out
      obtain ⟨l0z, ⟨⟨r0, z0⟩, ⟨r1, z1⟩, ⟨r2, z2⟩, ⟨r3, z3⟩, ⟨r4, z4⟩⟩, zf⟩ := HL0.out
      obtain ⟨l1z, ⟨⟨q0, y0⟩, ⟨q1, y1⟩, ⟨q2, y2⟩, ⟨q3, y3⟩, ⟨q4, y4⟩⟩, yf⟩ := HL1.out
      have hfin := HBN.out _ K.out.g
      have hn1 : ¬ w.heap.size = w.heap.size + 1 := by omega
      have hn2 : ¬ w41.heap.size = w.heap.size := by omega
      have hn3 : ¬ w42.heap.size = w.heap.size := by omega
      try dsimp only at b0 b1 b2 b3 b4
      go_wp2_with fail
      have hgA := (set5_grown w6 w.heap.size o1 (.slice ou1 o1.said.length cu1))
      have hgB := (set5_grown (set5 w6 w.heap.size o1 (.slice ou1 o1.said.length cu1)) (w.heap.size + 1) ⟨o2.k, o2.n, o2.thr, o2.said, o2.code⟩ (.slice ou2 o2.said.length cu2))
      have HEND1 := Lib.hid (((HU1.out.keptP hgA (by omega)).keptP hgB (by omega)).row.below ((Below.refl _ _).drew))
      have HEND2 := Lib.hid (((HU2.out.keptP hgA (by omega)).keptP hgB (by omega)).row.below ((Below.refl _ _).drew))
      have HEND3 := Lib.hid (((hfin.grown hgA hfin.size (fun k e => by injection e with e; omega)).grown hgB (Nat.le_trans hfin.size hgA.size) (fun k e => by injection e with e; omega)).drew)
      clear hgA hgB hfin
      go_region_with (fail)
      all_goals
        go_wp2_with fail
        refine bodyPost_ret (v := .tuple #[mgV o1.k o1.n o1.thr (.slice ou1 o1.said.length cu1) o1.code, mgV o2.k o2.n o2.thr (.slice ou2 o2.said.length cu2) o2.code]) (by simp [results, Tryz.results8, go_sem, mgV, z0, z1, z2, z3, z4, y0, y1, y2, y3, y4]) rfl ?_
        exact ⟨_, _, _, _, _, o1.said, _, _, _, _, _, o2.said, rfl, HEND1.out, HEND2.out, HEND3.out⟩
    · go_wp2_with fail
      refine (l1From_any _ v n 0 2 (by omega) (by omega) (by omega) w6 K.out.c (HB0.out.kept K.out.g)).mono ?_
      rintro e w7 ⟨y, rfl, hy0, hy1, hC7, hg7⟩
      have K := Lib.hid (K.out.got hC7 hg7)
      have HL0 := Lib.hid (HL0.out.kept hg7 (by omega))
      have HL1 := Lib.hid (HL1.out.kept hg7 (by omega))
      have HA1 := Lib.hid (HA1.out.kept hg7 (by omega))
      have HB2 := Lib.hid (HB2.out.kept hg7 (by omega))
      have HU1 := Lib.hid (HU1.out.keptP hg7 (by omega))
      have HU2 := Lib.hid (HU2.out.keptP hg7 (by omega))
      clear hC7 hg7
      have hgc := D.grown_set w7 w42.heap.size 4 (.int .i64 y)
      have HX2 := Lib.hid HB2.out.2
      obtain ⟨-, ⟨⟨s0, d0⟩, ⟨s1, d1⟩, ⟨s2, d2⟩, ⟨s3, d3⟩, ⟨s4, d4⟩⟩, df⟩ := HX2.out
      have HB2 := Lib.hid (code_BM HB2.out y)
      have HL0 := Lib.hid (HL0.out.kept hgc (by omega))
      have HL1 := Lib.hid (HL1.out.kept hgc (by omega))
      have HA1 := Lib.hid (HA1.out.kept hgc (by omega))
      have HU1 := Lib.hid (HU1.out.keptW hgc hN1)
      have HU2 := Lib.hid (HU2.out.keptW hgc hN2)
      have K := Lib.hid (K.out.row (by omega) hgc (fun k e => by injection e with e; omega))
      clear hgc
      obtain ⟨⟨-, a0, a1, a2, a3, a4⟩, -⟩ := HA1.out
      obtain ⟨⟨-, b0, b1, b2, b3, b4⟩, -⟩ := HB2.out
      obtain ⟨l0z, ⟨⟨r0, z0⟩, ⟨r1, z1⟩, ⟨r2, z2⟩, ⟨r3, z3⟩, ⟨r4, z4⟩⟩, zf⟩ := HL0.out
      obtain ⟨l1z, ⟨⟨q0, y0⟩, ⟨q1, y1⟩, ⟨q2, y2⟩, ⟨q3, y3⟩, ⟨q4, y4⟩⟩, yf⟩ := HL1.out
      have hfin := HBN.out _ K.out.g
      have hn1 : ¬ w.heap.size = w.heap.size + 1 := by omega
      have hn2 : ¬ w41.heap.size = w.heap.size := by omega
      have hn3 : ¬ w42.heap.size = w.heap.size := by omega
      try dsimp only at b0 b1 b2 b3 b4
      go_wp2_with fail
      have hgA := (set5_grown (w7.setCell ⟨w42.heap.size, 4, none⟩ (.int .i64 y)) w.heap.size o1 (.slice ou1 o1.said.length cu1))
      have hgB := (set5_grown (set5 (w7.setCell ⟨w42.heap.size, 4, none⟩ (.int .i64 y)) w.heap.size o1 (.slice ou1 o1.said.length cu1)) (w.heap.size + 1) ⟨o2.k, o2.n, o2.thr, o2.said, y⟩ (.slice ou2 o2.said.length cu2))
      have HEND1 := Lib.hid (((HU1.out.keptP hgA (by omega)).keptP hgB (by omega)).row.below ((Below.refl _ _).drew))
      have HEND2 := Lib.hid (((HU2.out.keptP hgA (by omega)).keptP hgB (by omega)).row.below ((Below.refl _ _).drew))
      have HEND3 := Lib.hid (((hfin.grown hgA hfin.size (fun k e => by injection e with e; omega)).grown hgB (Nat.le_trans hfin.size hgA.size) (fun k e => by injection e with e; omega)).drew)
      clear hgA hgB hfin
      go_region_with (fail)
      all_goals
        go_wp2_with fail
        refine bodyPost_ret (v := .tuple #[mgV o1.k o1.n o1.thr (.slice ou1 o1.said.length cu1) o1.code, mgV o2.k o2.n o2.thr (.slice ou2 o2.said.length cu2) y]) (by simp [results, Tryz.results8, go_sem, mgV, z0, z1, z2, z3, z4, y0, y1, y2, y3, y4]) rfl ?_
        exact ⟨_, _, _, _, _, o1.said, _, _, _, _, _, o2.said, rfl, HEND1.out, HEND2.out, HEND3.out⟩
  · obtain ⟨⟨-, a0, a1, a2, a3, a4⟩, -⟩ := HA1.out
    obtain ⟨-, ⟨⟨s0, d0⟩, ⟨s1, d1⟩, ⟨s2, d2⟩, ⟨s3, d3⟩, ⟨s4, d4⟩⟩, df⟩ := HB2.out.2
    have hgs := set5_grown w5 w42.heap.size o1 (.slice ou1 o1.said.length cu1)
    have HB2 := Lib.hid (set5_BM HB2.out.2 o1 (.slice ou1 o1.said.length cu1))
    have K := Lib.hid (K.out.row (by omega) hgs (fun k e => by injection e with e; omega))
    have HU1 := Lib.hid (HU1.out.keptW hgs hN1)
    have HU2 := Lib.hid (HU2.out.keptW hgs hN2)
    have HL0 := Lib.hid (HL0.out.kept hgs (by omega))
    have HL1 := Lib.hid (HL1.out.kept hgs (by omega))
    have HA1 := Lib.hid (HA1.out.kept hgs (by omega))
    go_wp2_with fail
    clear a0 a1 a2 a3 a4 d0 d1 d2 d3 d4 df hgs
    refine (l1Once_any _ v n 6 (by omega) (by omega) (set5 w5 w42.heap.size o1 (.slice ou1 o1.said.length cu1)) K.out.c (HB0.out.kept K.out.g)).mono ?_
    rintro e w6 ⟨q2, rfl, hC6, hg6⟩
    have K := Lib.hid (K.out.got hC6 hg6)
    have HL0 := Lib.hid (HL0.out.kept hg6 (by omega))
    have HL1 := Lib.hid (HL1.out.kept hg6 (by omega))
    have HA1 := Lib.hid (HA1.out.kept hg6 (by omega))
    have HB2 := Lib.hid (HB2.out.kept hg6 (by omega))
    have HU1 := Lib.hid (HU1.out.keptP hg6 (by omega))
    have HU2 := Lib.hid (HU2.out.keptP hg6 (by omega))
    clear hC6 hg6
    cases q2
    · obtain ⟨⟨-, a0, a1, a2, a3, a4⟩, -⟩ := HA1.out
      obtain ⟨⟨-, b0, b1, b2, b3, b4⟩, -⟩ := HB2.out
      obtain ⟨l0z, ⟨⟨r0, z0⟩, ⟨r1, z1⟩, ⟨r2, z2⟩, ⟨r3, z3⟩, ⟨r4, z4⟩⟩, zf⟩ := HL0.out
      obtain ⟨l1z, ⟨⟨q0, y0⟩, ⟨q1, y1⟩, ⟨q2, y2⟩, ⟨q3, y3⟩, ⟨q4, y4⟩⟩, yf⟩ := HL1.out
      have hfin := HBN.out _ K.out.g
      have hn1 : ¬ w.heap.size = w.heap.size + 1 := by omega
      have hn2 : ¬ w41.heap.size = w.heap.size := by omega
      have hn3 : ¬ w42.heap.size = w.heap.size := by omega
      try dsimp only at b0 b1 b2 b3 b4
      go_wp2_with fail
      have hgA := (set5_grown w6 w.heap.size o1 (.slice ou1 o1.said.length cu1))
      have hgB := (set5_grown (set5 w6 w.heap.size o1 (.slice ou1 o1.said.length cu1)) (w.heap.size + 1) ⟨o1.k, o1.n, o1.thr, o1.said, o1.code⟩ (.slice ou1 o1.said.length cu1))
      have HEND1 := Lib.hid (((HU1.out.keptP hgA (by omega)).keptP hgB (by omega)).row.below ((Below.refl _ _).drew))
      have HEND2 := Lib.hid (((HU1.out.keptP hgA (by omega)).keptP hgB (by omega)).row.below ((Below.refl _ _).drew))
      have HEND3 := Lib.hid (((hfin.grown hgA hfin.size (fun k e => by injection e with e; omega)).grown hgB (Nat.le_trans hfin.size hgA.size) (fun k e => by injection e with e; omega)).drew)
      clear hgA hgB hfin
      go_region_with (fail)
      all_goals
        go_wp2_with fail
        refine bodyPost_ret (v := .tuple #[mgV o1.k o1.n o1.thr (.slice ou1 o1.said.length cu1) o1.code, mgV o1.k o1.n o1.thr (.slice ou1 o1.said.length cu1) o1.code]) (by simp [results, Tryz.results8, go_sem, mgV, z0, z1, z2, z3, z4, y0, y1, y2, y3, y4]) rfl ?_
        exact ⟨_, _, _, _, _, o1.said, _, _, _, _, _, o1.said, rfl, HEND1.out, HEND2.out, HEND3.out⟩
    · go_wp2_with fail
      refine (l1From_any _ v n 0 2 (by omega) (by omega) (by omega) w6 K.out.c (HB0.out.kept K.out.g)).mono ?_
      rintro e w7 ⟨y, rfl, hy0, hy1, hC7, hg7⟩
      have K := Lib.hid (K.out.got hC7 hg7)
      have HL0 := Lib.hid (HL0.out.kept hg7 (by omega))
      have HL1 := Lib.hid (HL1.out.kept hg7 (by omega))
      have HA1 := Lib.hid (HA1.out.kept hg7 (by omega))
      have HB2 := Lib.hid (HB2.out.kept hg7 (by omega))
      have HU1 := Lib.hid (HU1.out.keptP hg7 (by omega))
      have HU2 := Lib.hid (HU2.out.keptP hg7 (by omega))
      clear hC7 hg7
      have hgc := D.grown_set w7 w42.heap.size 4 (.int .i64 y)
      have HX2 := Lib.hid HB2.out.2
      obtain ⟨-, ⟨⟨s0, d0⟩, ⟨s1, d1⟩, ⟨s2, d2⟩, ⟨s3, d3⟩, ⟨s4, d4⟩⟩, df⟩ := HX2.out
      have HB2 := Lib.hid (code_BM HB2.out y)
      have HL0 := Lib.hid (HL0.out.kept hgc (by omega))
      have HL1 := Lib.hid (HL1.out.kept hgc (by omega))
      have HA1 := Lib.hid (HA1.out.kept hgc (by omega))
      have HU1 := Lib.hid (HU1.out.keptW hgc hN1)
      have HU2 := Lib.hid (HU2.out.keptW hgc hN2)
      have K := Lib.hid (K.out.row (by omega) hgc (fun k e => by injection e with e; omega))
      clear hgc
      obtain ⟨⟨-, a0, a1, a2, a3, a4⟩, -⟩ := HA1.out
      obtain ⟨⟨-, b0, b1, b2, b3, b4⟩, -⟩ := HB2.out
      obtain ⟨l0z, ⟨⟨r0, z0⟩, ⟨r1, z1⟩, ⟨r2, z2⟩, ⟨r3, z3⟩, ⟨r4, z4⟩⟩, zf⟩ := HL0.out
      obtain ⟨l1z, ⟨⟨q0, y0⟩, ⟨q1, y1⟩, ⟨q2, y2⟩, ⟨q3, y3⟩, ⟨q4, y4⟩⟩, yf⟩ := HL1.out
      have hfin := HBN.out _ K.out.g
      have hn1 : ¬ w.heap.size = w.heap.size + 1 := by omega
      have hn2 : ¬ w41.heap.size = w.heap.size := by omega
      have hn3 : ¬ w42.heap.size = w.heap.size := by omega
      try dsimp only at b0 b1 b2 b3 b4
      go_wp2_with fail
      have hgA := (set5_grown (w7.setCell ⟨w42.heap.size, 4, none⟩ (.int .i64 y)) w.heap.size o1 (.slice ou1 o1.said.length cu1))
      have hgB := (set5_grown (set5 (w7.setCell ⟨w42.heap.size, 4, none⟩ (.int .i64 y)) w.heap.size o1 (.slice ou1 o1.said.length cu1)) (w.heap.size + 1) ⟨o1.k, o1.n, o1.thr, o1.said, y⟩ (.slice ou1 o1.said.length cu1))
      have HEND1 := Lib.hid (((HU1.out.keptP hgA (by omega)).keptP hgB (by omega)).row.below ((Below.refl _ _).drew))
      have HEND2 := Lib.hid (((HU1.out.keptP hgA (by omega)).keptP hgB (by omega)).row.below ((Below.refl _ _).drew))
      have HEND3 := Lib.hid (((hfin.grown hgA hfin.size (fun k e => by injection e with e; omega)).grown hgB (Nat.le_trans hfin.size hgA.size) (fun k e => by injection e with e; omega)).drew)
      clear hgA hgB hfin
      go_region_with (fail)
      all_goals
        go_wp2_with fail
        refine bodyPost_ret (v := .tuple #[mgV o1.k o1.n o1.thr (.slice ou1 o1.said.length cu1) o1.code, mgV o1.k o1.n o1.thr (.slice ou1 o1.said.length cu1) y]) (by simp [results, Tryz.results8, go_sem, mgV, z0, z1, z2, z3, z4, y0, y1, y2, y3, y4]) rfl ?_
        exact ⟨_, _, _, _, _, o1.said, _, _, _, _, _, o1.said, rfl, HEND1.out, HEND2.out, HEND3.out⟩

end L2
end Go.Proofs.YtkhjbhkbknennaaGreatDoor
