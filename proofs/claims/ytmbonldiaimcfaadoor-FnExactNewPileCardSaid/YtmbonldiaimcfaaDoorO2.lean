/-
  Piles as data and in memory: measured, copied, compared.
-/
import Derived.Test.YtmbonldiaimcfaaDoorO1
namespace Go.Proofs.YtmbonldiaimcfaaDoor
open Go.RowKit Go.Sort
namespace L2
open L1

/-- A pile. -/
structure Pil where
  c : List ByteArray
  m : Int
  a : Int
  ak : Int
  an : Int
  vk : Int
  vn : Int
  ps : List Pl
  qs : List (List Pl)
  sd : List ByteArray
def pilV (x : Pil) (cv pv qv sv : Value) : Value := .agg #[cv, .int .i64 x.m, .int .i64 x.a, .int .i64 x.ak, .int .i64 x.an, .int .i64 x.vk, .int .i64 x.vn, pv, qv, sv]
/-- Its lists in memory. -/
structure RowsPi (w : World) (x : Pil) (cv pv qv sv : Value) : Prop where
  c : Row w cv x.c
  p : RowP w pv x.ps
  q : RowQ w qv x.qs
  s : Row w sv x.sd
theorem RowsPi.below {w w' : World} {x : Pil} {cv pv qv sv : Value} (h : RowsPi w x cv pv qv sv) (hb : Below w.heap.size w w') : RowsPi w' x cv pv qv sv := ⟨h.c.below hb, h.p.below hb, h.q.below hb, h.s.below hb⟩
theorem RowsPi.form {w : World} {x : Pil} {cv pv qv sv : Value} (h : RowsPi w x cv pv qv sv) : ∃ (s0 : Option Addr) (l0 c0 : Nat) (s1 : Option Addr) (l1 c1 : Nat) (s2 : Option Addr) (l2 c2 : Nat) (s3 : Option Addr) (l3 c3 : Nat), cv = .slice s0 l0 c0 ∧ pv = .slice s1 l1 c1 ∧ qv = .slice s2 l2 c2 ∧ sv = .slice s3 l3 c3 := by
  obtain ⟨a0, b0, e0, _⟩ := h.c
  obtain ⟨a1, b1, e1, _⟩ := h.p
  obtain ⟨a2, b2, e2, _⟩ := h.q
  obtain ⟨a3, b3, e3, _⟩ := h.s
  exact ⟨_, _, _, _, _, _, _, _, _, _, _, _, e0, e1, e2, e3⟩
/-- No word is longer than memory bears. -/
def SizedPi (x : Pil) : Prop := (∀ i, i < x.c.length → (x.c.getD i ByteArray.empty).size ≤ maxLen) ∧ ∀ i, i < x.sd.length → (x.sd.getD i ByteArray.empty).size ≤ maxLen
/-- No more than the laws let in. -/
def FitPi (x : Pil) : Prop := Small x.c ∧ x.ps.length ≤ 1048576 ∧ (x.qs.length ≤ 1048576 ∧ ∀ i, i < x.qs.length → (x.qs.getD i []).length ≤ 1048576) ∧ Small x.sd

/-- What measuring a pile leaves. -/
def SzedPi (x : Pil) (w : World) (e : Ending) (w' : World) : Prop :=
  Below w.heap.size w w' ∧ (e = .returned (.int .i64 (-1)) ∨ ∃ y : Int, 0 ≤ y ∧ y ≤ 1048576 ∧ e = .returned (.int .i64 y) ∧ FitPi x)
/-- What copying a pile leaves. -/
def CopiedPi (x : Pil) (w : World) (e : Ending) (w' : World) : Prop :=
  ∃ X Y Z T, e = .returned (pilV x (.slice (some ⟨X, 0, none⟩) x.c.length x.c.length) (.slice (some ⟨Y, 0, none⟩) x.ps.length x.ps.length) (.slice (some ⟨Z, 0, none⟩) x.qs.length x.qs.length) (.slice (some ⟨T, 0, none⟩) x.sd.length x.sd.length)) ∧
    RowsPi w' x (.slice (some ⟨X, 0, none⟩) x.c.length x.c.length) (.slice (some ⟨Y, 0, none⟩) x.ps.length x.ps.length) (.slice (some ⟨Z, 0, none⟩) x.qs.length x.qs.length) (.slice (some ⟨T, 0, none⟩) x.sd.length x.sd.length) ∧ Below w.heap.size w w'
set_option maxRecDepth 100000 in
set_option maxHeartbeats 2000000 in
theorem eqPile_any (x : Pil) (cv pv qv sv cv' pv' qv' sv' : Value) (w : World) (hR : RowsPi w x cv pv qv sv) (hR' : RowsPi w x cv' pv' qv' sv') :
    Calls Tryd.prog 38 #[pilV x cv pv qv sv, pilV x cv' pv' qv' sv'] w fun e w' => e = .returned (.bool true) ∧ Below w.heap.size w w' := by
  have HC := Lib.hid (fun w1 (hb : Below w.heap.size w w1) => eqStringS_any cv cv' x.c w1 (hR.c.below hb) (hR'.c.below hb))
  have HP := Lib.hid (fun w1 (hb : Below w.heap.size w w1) => eqPlateS_any pv pv' x.ps w1 (hR.p.below hb) (hR'.p.below hb))
  have HQ := Lib.hid (fun w1 (hb : Below w.heap.size w w1) => eqPieceS_any qv qv' x.qs w1 (hR.q.below hb) (hR'.q.below hb))
  have HS := Lib.hid (fun w1 (hb : Below w.heap.size w w1) => eqStringS_any sv sv' x.sd w1 (hR.s.below hb) (hR'.s.below hb))
  have HV := Lib.hid (fun a b w1 => eqValue_any a b a b w1)
  have hsv : ∀ a b, sameB a b a b = true := fun a b => by simp [sameB]
  simp only [hsv] at HV
  obtain ⟨s0, l0, c0, s1, l1, c1, s2, l2, c2, s3, l3, c3, rfl, rfl, rfl, rfl⟩ := hR.form
  obtain ⟨t0, m0, d0, t1, m1, d1, t2, m2, d2, t3, m3, d3, rfl, rfl, rfl, rfl⟩ := hR'.form
  obtain ⟨c, m, a, ak, an, vk, vn, ps, qs, sd⟩ := x
  unfold pilV
  simp only at HC HP HQ HS ⊢
  clear hR hR' hsv
  go_enter Tryd.func38, Tryd.ntmps38
  go_wp2_with fail
  refine (HC.out _ (by (repeat (first | (with_reducible refine Below.alloc ?_ ?_ _) | (with_reducible refine Below.setCell ?_ ?_ _) | (with_reducible refine Below.drew ?_) | (with_reducible exact Below.refl _ _) | (with_reducible refine Below.trans ?_ (Below.mono (by assumption) ?_)))) <;> (first | omega | (dsimp only; omega) | (simp; done) | (simp; omega) | (simp at *; omega)))).mono ?_
  rintro e w1 ⟨rfl, hb1⟩
  have hs1 := hb1.size
  have HB1 : Hid (Below w.heap.size w w1) := Lib.hid (by (repeat (first | (with_reducible refine Below.alloc ?_ ?_ _) | (with_reducible refine Below.setCell ?_ ?_ _) | (with_reducible refine Below.drew ?_) | (with_reducible exact Below.refl _ _) | (with_reducible refine Below.trans ?_ (Below.mono (by assumption) ?_)))) <;> (first | omega | (dsimp only; omega) | (simp; done) | (simp; omega) | (simp at *; omega)))
  obtain ⟨hc1, hf1⟩ := bcell hb1
  simp at hs1
  have z1_0 : w.heap.size < w1.heap.size := by omega
  have z1_1 : w.heap.size + 1 < w1.heap.size := by omega
  clear hb1
  go_wp2_with fail
  refine (HV.out ak an _).mono ?_
  rintro e w2 ⟨rfl, hb2⟩
  have hs2 := hb2.size
  have HB2 : Hid (Below w.heap.size w w2) := Lib.hid (by have hh := HB1.out; (repeat (first | (with_reducible refine Below.alloc ?_ ?_ _) | (with_reducible refine Below.setCell ?_ ?_ _) | (with_reducible refine Below.drew ?_) | (with_reducible exact Below.refl _ _) | (with_reducible refine Below.trans ?_ (Below.mono (by assumption) ?_)))) <;> (first | omega | (dsimp only; omega) | (simp; done) | (simp; omega) | (simp at *; omega)))
  obtain ⟨hc2, hf2⟩ := bcell hb2
  have z2_0 : w.heap.size < w2.heap.size := by omega
  have z2_1 : w.heap.size + 1 < w2.heap.size := by omega
  clear hb2
  go_wp2_with fail
  refine (HV.out vk vn _).mono ?_
  rintro e w3 ⟨rfl, hb3⟩
  have hs3 := hb3.size
  have HB3 : Hid (Below w.heap.size w w3) := Lib.hid (by have hh := HB2.out; (repeat (first | (with_reducible refine Below.alloc ?_ ?_ _) | (with_reducible refine Below.setCell ?_ ?_ _) | (with_reducible refine Below.drew ?_) | (with_reducible exact Below.refl _ _) | (with_reducible refine Below.trans ?_ (Below.mono (by assumption) ?_)))) <;> (first | omega | (dsimp only; omega) | (simp; done) | (simp; omega) | (simp at *; omega)))
  obtain ⟨hc3, hf3⟩ := bcell hb3
  have z3_0 : w.heap.size < w3.heap.size := by omega
  have z3_1 : w.heap.size + 1 < w3.heap.size := by omega
  clear hb3
  go_wp2_with fail
  refine (HP.out _ (by have hh := HB3.out; (repeat (first | (with_reducible refine Below.alloc ?_ ?_ _) | (with_reducible refine Below.setCell ?_ ?_ _) | (with_reducible refine Below.drew ?_) | (with_reducible exact Below.refl _ _) | (with_reducible refine Below.trans ?_ (Below.mono (by assumption) ?_)))) <;> (first | omega | (dsimp only; omega) | (simp; done) | (simp; omega) | (simp at *; omega)))).mono ?_
  rintro e w4 ⟨rfl, hb4⟩
  have hs4 := hb4.size
  have HB4 : Hid (Below w.heap.size w w4) := Lib.hid (by have hh := HB3.out; (repeat (first | (with_reducible refine Below.alloc ?_ ?_ _) | (with_reducible refine Below.setCell ?_ ?_ _) | (with_reducible refine Below.drew ?_) | (with_reducible exact Below.refl _ _) | (with_reducible refine Below.trans ?_ (Below.mono (by assumption) ?_)))) <;> (first | omega | (dsimp only; omega) | (simp; done) | (simp; omega) | (simp at *; omega)))
  obtain ⟨hc4, hf4⟩ := bcell hb4
  have z4_0 : w.heap.size < w4.heap.size := by omega
  have z4_1 : w.heap.size + 1 < w4.heap.size := by omega
  clear hb4
  go_wp2_with fail
  refine (HQ.out _ (by have hh := HB4.out; (repeat (first | (with_reducible refine Below.alloc ?_ ?_ _) | (with_reducible refine Below.setCell ?_ ?_ _) | (with_reducible refine Below.drew ?_) | (with_reducible exact Below.refl _ _) | (with_reducible refine Below.trans ?_ (Below.mono (by assumption) ?_)))) <;> (first | omega | (dsimp only; omega) | (simp; done) | (simp; omega) | (simp at *; omega)))).mono ?_
  rintro e w5 ⟨rfl, hb5⟩
  have hs5 := hb5.size
  have HB5 : Hid (Below w.heap.size w w5) := Lib.hid (by have hh := HB4.out; (repeat (first | (with_reducible refine Below.alloc ?_ ?_ _) | (with_reducible refine Below.setCell ?_ ?_ _) | (with_reducible refine Below.drew ?_) | (with_reducible exact Below.refl _ _) | (with_reducible refine Below.trans ?_ (Below.mono (by assumption) ?_)))) <;> (first | omega | (dsimp only; omega) | (simp; done) | (simp; omega) | (simp at *; omega)))
  obtain ⟨hc5, hf5⟩ := bcell hb5
  have z5_0 : w.heap.size < w5.heap.size := by omega
  have z5_1 : w.heap.size + 1 < w5.heap.size := by omega
  clear hb5
  go_wp2_with fail
  refine (HS.out _ (by have hh := HB5.out; (repeat (first | (with_reducible refine Below.alloc ?_ ?_ _) | (with_reducible refine Below.setCell ?_ ?_ _) | (with_reducible refine Below.drew ?_) | (with_reducible exact Below.refl _ _) | (with_reducible refine Below.trans ?_ (Below.mono (by assumption) ?_)))) <;> (first | omega | (dsimp only; omega) | (simp; done) | (simp; omega) | (simp at *; omega)))).mono ?_
  rintro e w6 ⟨rfl, hb6⟩
  have hs6 := hb6.size
  have HB6 : Hid (Below w.heap.size w w6) := Lib.hid (by have hh := HB5.out; (repeat (first | (with_reducible refine Below.alloc ?_ ?_ _) | (with_reducible refine Below.setCell ?_ ?_ _) | (with_reducible refine Below.drew ?_) | (with_reducible exact Below.refl _ _) | (with_reducible refine Below.trans ?_ (Below.mono (by assumption) ?_)))) <;> (first | omega | (dsimp only; omega) | (simp; done) | (simp; omega) | (simp at *; omega)))
  obtain ⟨hc6, hf6⟩ := bcell hb6
  have z6_0 : w.heap.size < w6.heap.size := by omega
  have z6_1 : w.heap.size + 1 < w6.heap.size := by omega
  clear hb6
  clear hc1 hc2 hc3 hc4 hc5 hc6 hf1 hf2 hf3 hf4 hf5 hf6
  go_wp2_with fail
  go_ret
  exact ⟨rfl, HB6.out⟩

end L2
end Go.Proofs.YtmbonldiaimcfaaDoor
