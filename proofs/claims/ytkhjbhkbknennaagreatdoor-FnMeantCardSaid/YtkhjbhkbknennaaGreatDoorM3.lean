/-
  The model where a first sum is worth something, word by word (written by wip/gen_m3.py).
-/
import Derived.Test.YtkhjbhkbknennaaGreatDoorM2
import Derived.Deep.RegionLaw
namespace Go.Proofs.YtkhjbhkbknennaaGreatDoor
open Go.RowKit
namespace L2
open S1 L1

theorem below_undrew3 {w w' : World} (h : Below w.drew.heap.size w.drew w') : Below w.heap.size w w' := ⟨h.os, h.tape, h.output, h.size, h.block⟩
/-- A block that holds no words. -/
def NS (w : World) (b : Nat) : Prop := ∀ i s, w.cell? ⟨b, i, none⟩ ≠ some (.string s)
theorem ns_new (w : World) (arr : Array Value) (T : TypeId) (h : (arr.toList.all fun u => match u with | .string _ => false | _ => true) = true) : NS (w.alloc (.cells arr T)) w.heap.size := by
  intro i s hc
  have hb := heap_alloc_new w (.cells arr T)
  simp only [World.cell?, hb] at hc
  have hm : Value.string s ∈ arr.toList := by
    have := Array.mem_of_getElem? hc
    simpa using this
  have := List.all_eq_true.1 h _ hm
  cases this
theorem NS.below {w w' : World} {b : Nat} (h : NS w b) (hb : b < w.heap.size) (hB : Below w.heap.size w w') : NS w' b := fun i s hc => h i s (by rw [← hB.cell (p := ⟨b, i, none⟩) hb]; exact hc)
theorem NS.drew {w : World} {b : Nat} (h : NS w b) : NS w.drew b := h
theorem NS.row {w w' : World} {b : Nat} {v : Value} {ss : List ByteArray} (h : NS w b) (hR : Row w v ss) (hk : ∀ c, c < w.heap.size → c ≠ b → w'.heap[c]? = w.heap[c]?) (hs : w.heap.size ≤ w'.heap.size) : Row w' v ss := by
  obtain ⟨oa, cap, e, h1, h2, h3⟩ := hR
  refine ⟨oa, cap, e, h1, h2, fun i hi => ?_⟩
  obtain ⟨X, off, ho, hX, hc⟩ := h3 i hi
  have hne : X ≠ b := fun e => by subst e; exact h _ _ hc
  exact ⟨X, off, ho, Nat.lt_of_lt_of_le hX hs, (World.cell?_of_block (a := ⟨X, off + i, none⟩) (hk X hX hne)).trans hc⟩
/-- Nothing turns but block b. -/
structure But (b : Nat) (w w' : World) : Prop where
  size : w.heap.size ≤ w'.heap.size
  block : ∀ c, c < w.heap.size → c ≠ b → w'.heap[c]? = w.heap[c]?
theorem But.refl (b : Nat) (w : World) : But b w w := ⟨Nat.le_refl _, fun _ _ _ => rfl⟩
theorem But.set {b : Nat} {w w' : World} (h : But b w w') {p : Addr} (hp : p.block = b) (u : Value) : But b w (w'.setCell p u) :=
  ⟨Nat.le_trans h.size (by simp [World.setCell]), fun c hc hn => (Below.heap_setCell _ _ _ _ (by rw [hp]; exact hn)).trans (h.block c hc hn)⟩
theorem But.new {b : Nat} {w w' : World} (h : But b w w') (o : Obj) : But b w (w'.alloc o) :=
  ⟨Nat.le_trans h.size (by simp), fun c hc hn => (Below.heap_alloc _ _ _ (Nat.lt_of_lt_of_le hc h.size)).trans (h.block c hc hn)⟩
theorem means_new {o : Out} {W w1 Wf : World} {oa : Option Addr} {cap b : Nat} (hR : Row w1 (.slice oa o.said.length cap) o.said) (hn : NS w1 b) (hk : But b w1 Wf) (hB : Below W.heap.size W Wf) : MeansS o W (.returned (outV o (.slice oa o.said.length cap))) Wf := ⟨oa, cap, rfl, hn.row hR hk.block hk.size, hB⟩
theorem held_alloc {n : Nat} {a w : World} (h : Below n a w) (hn : n ≤ w.heap.size) (o : Obj) : Below n a (w.alloc o) := h.alloc hn o
theorem held_old {w : World} {b i : Nat} {u : Value} (h : w.cell? ⟨b, i, none⟩ = some u) (hl : b < w.heap.size) (o : Obj) : (w.alloc o).cell? ⟨b, i, none⟩ = some u := (World.cell?_of_block (a := ⟨b, i, none⟩) (Below.heap_alloc w o b hl)).trans h
theorem held_drewc {w : World} {p : Addr} {u : Value} (h : w.cell? p = some u) : w.drew.cell? p = some u := h
theorem held_setc {w : World} {b i : Nat} {u : Value} (h : w.cell? ⟨b, i, none⟩ = some u) {p : Addr} (hp : b ≠ p.block) (u' : Value) : (w.setCell p u').cell? ⟨b, i, none⟩ = some u := (World.cell?_of_block (a := ⟨b, i, none⟩) (Below.heap_setCell _ _ _ _ hp)).trans h
theorem held_below {n : Nat} {a w w' : World} (h : Below n a w) (hb : Below w.heap.size w w') (hn : n ≤ w.heap.size) : Below n a w' := h.trans (hb.mono hn)
theorem held_set {n : Nat} {a w : World} (h : Below n a w) {p : Addr} (hp : n ≤ p.block) (u : Value) : Below n a (w.setCell p u) := h.setCell hp u
theorem held_cell {w w' : World} {b i : Nat} {u : Value} (hb : Below w.heap.size w w') (h : w.cell? ⟨b, i, none⟩ = some u) (hl : b < w.heap.size) : w'.cell? ⟨b, i, none⟩ = some u := (hb.cell (p := ⟨b, i, none⟩) hl).trans h
theorem held_start {n : Nat} {W a w : World} (h0 : Below W.heap.size W a) (h : Below n a w) (hn : W.heap.size ≤ n) : Below W.heap.size W w := h0.trans (h.mono hn)
theorem means_none {o : Out} {W w1 Wf : World} {oa : Option Addr} {cap : Nat} (ho : o.said = []) (hR : Row w1 (.slice oa o.said.length cap) o.said) (hb : Below W.heap.size W Wf) : MeansS o W (.returned (outV o (.slice oa o.said.length cap))) Wf := by
  refine ⟨oa, cap, rfl, ?_, hb⟩
  rw [ho] at hR ⊢
  obtain ⟨oa', cap', e, h1, h2, _⟩ := hR
  exact ⟨oa', cap', e, h1, h2, fun i hi => by cases hi⟩
theorem means_old {o : Out} {W Wf : World} {oa : Option Addr} {cap : Nat} (hR : Row W (.slice oa o.said.length cap) o.said) (hb : Below W.heap.size W Wf) : MeansS o W (.returned (outV o (.slice oa o.said.length cap))) Wf := ⟨oa, cap, rfl, hR.below hb, hb⟩
/-- A sum that is done by the model, wherever it is asked for from W on. -/
def RecS (v : Value) (p nb : Nat) (d : Deed) (W : World) : Prop := ∀ W' a b bv bs sv sd, Below W.heap.size W W' → okB a b = true → RowB W' bv bs → bs.length ≤ nb → GoodB (toBd bs) → Row W' sv sd → sd.length ≤ 40 → Short sd →
  Calls Tryz.prog 41 #[v, .int .i64 (p : Int), .agg #[.int .i64 a, .int .i64 b], bv, sv] W' (MeansS (d a b (toBd bs) sd) W')
/-- What the parts of a sum lie in. -/
def PartsAt (W : World) (pv : Value) (ps : List Nat) : Prop := ∃ g cap, pv = .slice (some ⟨g, 0, none⟩) ps.length cap ∧ ps.length ≤ cap ∧ cap ≤ maxLen ∧ g < W.heap.size ∧ ∀ i, i < ps.length → W.cell? ⟨g, i, none⟩ = some (.int .i64 ((ps.getD i 0 : Nat) : Int))
/-- What is asked with. -/
structure AskM (W : World) (v : Value) (ss : List ByteArray) (pv : Value) (ps : List Nat) (ak an : Int) (sv : Value) (sd : List ByteArray) (a b : Int) (bv : Value) (bs : Bs) (nb : Nat) : Prop where
  row : Row W v ss
  parts : PartsAt W pv ps
  ok : okB ak an = true
  oka : okB a b = true
  said : Row W sv sd
  len : sd.length ≤ 40
  short : Short sd
  bound : RowB W bv bs
  few : bs.length ≤ nb
  good : GoodB (toBd bs)

set_option maxRecDepth 100000 in
set_option maxHeartbeats 4000000 in
theorem more_throw {W : World} {v pv sv bv : Value} {ss : List ByteArray} {ps : List Nat} {ak an a b : Int} {sd : List ByteArray} {bs : Bs} {nb : Nat} {x : ByteArray} (hA : AskM W v ss pv ps ak an sv sd a b bv bs nb) (T2 : (x.toList == [115, 97, 121]) = false) (T3 : (x.toList == [116, 104, 114, 111, 119]) = true) :
    Calls Tryz.prog 97 #[v, .string x, pv, .agg #[.int .i64 ak, .int .i64 an, .bool false, sv, .int .i64 0], .agg #[.int .i64 a, .int .i64 b], bv] W (MeansS ⟨ak, an, true, sd, 0⟩ W) := by
  have HA := Lib.hid hA
  obtain ⟨oa, ca, rfl, hv1, hv2, -⟩ := hA.row
  obtain ⟨pg, pc, rfl, hp1, hp2, hp3, hp4⟩ := hA.parts
  obtain ⟨os, cs, rfl, hs1, hs2, -⟩ := hA.said
  obtain ⟨ob, cb, rfl, hb1, hb2, -⟩ := hA.bound
  have HP4 := Lib.hid hp4
  have hp3a : pg < W.heap.size + 1 := by omega
  have hp3b : pg < W.heap.size + 1 + 1 := by omega
  have hp3c : pg < W.heap.size + 2 := by omega
  obtain ⟨sl, hsl⟩ : ∃ sl, sd.length = sl := ⟨_, rfl⟩
  have HSL := Lib.hid hsl
  obtain ⟨vl, hvl⟩ : ∃ vl, ss.length = vl := ⟨_, rfl⟩
  obtain ⟨pl, hpl⟩ : ∃ pl, ps.length = pl := ⟨_, rfl⟩
  obtain ⟨bl, hbl⟩ : ∃ bl, bs.length = bl := ⟨_, rfl⟩
  have HBL := Lib.hid hbl
  have HPL := Lib.hid hpl
  have HVL := Lib.hid hvl
  rw [hsl] at hs1
  rw [hvl] at hv1
  rw [hpl] at hp1
  rw [hbl] at hb1
  unfold maxLen at hv2 hp2 hs2 hb2
  have HR := Lib.hid hA.said
  rw [hsl] at HR
  rw [hsl, hvl, hpl, hbl]
  clear hA hp4 hsl hvl hpl hbl
  go_enter Tryz.func97, Tryz.ntmps97
  go_wp2_with fail
  refine bodyPost_ret (v := .agg #[.int .i64 ak, .int .i64 an, .bool true, .slice os sl cs, .int .i64 0]) (by simp [results, Tryz.results97, go_sem, *]) rfl ?_
  have e := HSL.out
  subst e
  refine means_old (o := ⟨ak, an, true, sd, 0⟩) HR.out ?_
  (repeat (first | (with_reducible refine Below.alloc ?_ ?_ _) | (with_reducible refine Below.setCell ?_ ?_ _) | (with_reducible refine Below.drew ?_) | (with_reducible exact Below.refl _ _) | (with_reducible refine Below.trans ?_ (Below.mono (by assumption) ?_)))) <;> (first | omega | (dsimp only; omega) | (simp; done) | (simp; omega) | (simp at *; omega))

set_option maxRecDepth 100000 in
set_option maxHeartbeats 4000000 in
theorem more_if {W : World} {v pv sv bv : Value} {ss : List ByteArray} {ps : List Nat} {ak an a b : Int} {sd : List ByteArray} {bs : Bs} {nb : Nat} {x : ByteArray} {d1 d2 : Deed} (hA : AskM W v ss pv ps ak an sv sd a b bv bs nb) (T2 : (x.toList == [115, 97, 121]) = false) (T3 : (x.toList == [116, 104, 114, 111, 119]) = false) (T13 : (x.toList == [105, 102]) = true) (HR1 : RecS v (ps.getD 1 0) nb d1 W) (hk1 : 1 < ps.length) (HR2 : RecS v (ps.getD 2 0) nb d2 W) (hk2 : 2 < ps.length) :
    Calls Tryz.prog 97 #[v, .string x, pv, .agg #[.int .i64 ak, .int .i64 an, .bool false, sv, .int .i64 0], .agg #[.int .i64 a, .int .i64 b], bv] W (MeansS (if ak = 0 then (if an = 0 then d2 a b (toBd bs) sd else d1 a b (toBd bs) sd) else wrong 1) W) := by
  have HA := Lib.hid hA
  obtain ⟨oa, ca, rfl, hv1, hv2, -⟩ := hA.row
  obtain ⟨pg, pc, rfl, hp1, hp2, hp3, hp4⟩ := hA.parts
  obtain ⟨os, cs, rfl, hs1, hs2, -⟩ := hA.said
  obtain ⟨ob, cb, rfl, hb1, hb2, -⟩ := hA.bound
  have HP4 := Lib.hid hp4
  have hp3a : pg < W.heap.size + 1 := by omega
  have hp3b : pg < W.heap.size + 1 + 1 := by omega
  have hp3c : pg < W.heap.size + 2 := by omega
  obtain ⟨sl, hsl⟩ : ∃ sl, sd.length = sl := ⟨_, rfl⟩
  have HSL := Lib.hid hsl
  obtain ⟨vl, hvl⟩ : ∃ vl, ss.length = vl := ⟨_, rfl⟩
  obtain ⟨pl, hpl⟩ : ∃ pl, ps.length = pl := ⟨_, rfl⟩
  obtain ⟨bl, hbl⟩ : ∃ bl, bs.length = bl := ⟨_, rfl⟩
  have HBL := Lib.hid hbl
  have HPL := Lib.hid hpl
  have HVL := Lib.hid hvl
  rw [hsl] at hs1
  rw [hvl] at hv1
  rw [hpl] at hp1
  rw [hbl] at hb1
  unfold maxLen at hv2 hp2 hs2 hb2
  have hr1 := HR1
  have hr2 := HR2
  have HC1 := Lib.hid (fun W' (hb : Below W.heap.size W W') => hr1 W' a b (.slice ob bs.length cb) bs (.slice os sd.length cs) sd hb hA.oka (hA.bound.below hb) hA.few hA.good (hA.said.below hb) hA.len hA.short)
  rw [hsl, hvl, hbl] at HC1
  have q1 := hp4 1 hk1
  rw [hpl] at hk1
  have HC2 := Lib.hid (fun W' (hb : Below W.heap.size W W') => hr2 W' a b (.slice ob bs.length cb) bs (.slice os sd.length cs) sd hb hA.oka (hA.bound.below hb) hA.few hA.good (hA.said.below hb) hA.len hA.short)
  rw [hsl, hvl, hbl] at HC2
  have q2 := hp4 2 hk2
  rw [hpl] at hk2
  have k1 : (1 : Int) < (pl : Int) := by omega
  have k2 : (2 : Int) < (pl : Int) := by omega
  clear HR1 HR2 hr1 hr2
  by_cases h0 : ak = 0
  · have h0' : (ak != 0) = false := by simp [h0]
    rw [if_pos h0]
    by_cases h3 : an = 0
    · have h3' : (an != 0) = false := by simp [h3]
      rw [if_pos h3]
      obtain ⟨o, hod⟩ : ∃ o, d2 a b (toBd bs) sd = o := ⟨_, rfl⟩
      rw [hod] at HC2 ⊢
      obtain ⟨ok, on, ot, oz, oc⟩ := o
      rw [hsl, hvl, hpl, hbl]
      clear hA hp4 hsl hvl hpl hbl h0 h3 hod HC1
      go_enter Tryz.func97, Tryz.ntmps97
      go_wp2_with fail
      go_region_with (go_at_call 41; refine (HC2.out _ ?_).mono ?_; (focus (repeat (first | (with_reducible refine Below.alloc ?_ ?_ _) | (with_reducible refine Below.setCell ?_ ?_ _) | (with_reducible refine Below.drew ?_) | (with_reducible exact Below.refl _ _) | (with_reducible refine Below.trans ?_ (Below.mono (by assumption) ?_)))) <;> (first | omega | (dsimp only; omega) | (simp; done) | (simp; omega) | (simp at *; omega))); rintro e w1 ⟨oa1, cp1, rfl, hrow1, hbz1⟩; have hns1 : NS w1 _ := (((ns_new _ _ _ (by rfl)).drew).below (by simp) hbz1); have hsz1 := hbz1.size; obtain ⟨hc1, hf1⟩ := bcell hbz1; (try simp at hsz1); have z10 : W.heap.size < w1.heap.size := (by omega); have z11 : W.heap.size + 1 < w1.heap.size := (by omega); have z12 : W.heap.size + 2 < w1.heap.size := (by omega); have z13 : W.heap.size + 1 + 1 < w1.heap.size := (by omega); unfold outV; simp only)
      all_goals
        go_wp2_with fail
        refine bodyPost_ret (v := .agg #[.int .i64 ok, .int .i64 on, .bool ot, .slice oa1 oz.length cp1, .int .i64 oc]) (by simp [results, Tryz.results97, go_sem, *]) rfl ?_
        refine means_new (o := ⟨ok, on, ot, oz, oc⟩) hrow1 hns1 ?_ ?_
        · clear hc1 hf1
          (repeat (first | (with_reducible exact But.refl _ _) | (refine But.set ?_ (by first | rfl | (simp; done)) _) | (refine But.new ?_ _)))
        · clear hc1 hf1
          (repeat (first | (with_reducible refine Below.alloc ?_ ?_ _) | (with_reducible refine Below.setCell ?_ ?_ _) | (with_reducible refine Below.drew ?_) | (with_reducible exact Below.refl _ _) | (with_reducible refine Below.trans ?_ (Below.mono (by assumption) ?_)))) <;> (first | omega | (dsimp only; omega) | (simp; done) | (simp; omega) | (simp at *; omega))
    · have h3' : (an != 0) = true := by simp [h3]
      rw [if_neg h3]
      obtain ⟨o, hod⟩ : ∃ o, d1 a b (toBd bs) sd = o := ⟨_, rfl⟩
      rw [hod] at HC1 ⊢
      obtain ⟨ok, on, ot, oz, oc⟩ := o
      rw [hsl, hvl, hpl, hbl]
      clear hA hp4 hsl hvl hpl hbl h0 h3 hod HC2
      go_enter Tryz.func97, Tryz.ntmps97
      go_wp2_with fail
      go_region_with (go_at_call 41; refine (HC1.out _ ?_).mono ?_; (focus (repeat (first | (with_reducible refine Below.alloc ?_ ?_ _) | (with_reducible refine Below.setCell ?_ ?_ _) | (with_reducible refine Below.drew ?_) | (with_reducible exact Below.refl _ _) | (with_reducible refine Below.trans ?_ (Below.mono (by assumption) ?_)))) <;> (first | omega | (dsimp only; omega) | (simp; done) | (simp; omega) | (simp at *; omega))); rintro e w1 ⟨oa1, cp1, rfl, hrow1, hbz1⟩; have hns1 : NS w1 _ := (((ns_new _ _ _ (by rfl)).drew).below (by simp) hbz1); have hsz1 := hbz1.size; obtain ⟨hc1, hf1⟩ := bcell hbz1; (try simp at hsz1); have z10 : W.heap.size < w1.heap.size := (by omega); have z11 : W.heap.size + 1 < w1.heap.size := (by omega); have z12 : W.heap.size + 2 < w1.heap.size := (by omega); have z13 : W.heap.size + 1 + 1 < w1.heap.size := (by omega); unfold outV; simp only)
      all_goals
        go_wp2_with fail
        refine bodyPost_ret (v := .agg #[.int .i64 ok, .int .i64 on, .bool ot, .slice oa1 oz.length cp1, .int .i64 oc]) (by simp [results, Tryz.results97, go_sem, *]) rfl ?_
        refine means_new (o := ⟨ok, on, ot, oz, oc⟩) hrow1 hns1 ?_ ?_
        · clear hc1 hf1
          (repeat (first | (with_reducible exact But.refl _ _) | (refine But.set ?_ (by first | rfl | (simp; done)) _) | (refine But.new ?_ _)))
        · clear hc1 hf1
          (repeat (first | (with_reducible refine Below.alloc ?_ ?_ _) | (with_reducible refine Below.setCell ?_ ?_ _) | (with_reducible refine Below.drew ?_) | (with_reducible exact Below.refl _ _) | (with_reducible refine Below.trans ?_ (Below.mono (by assumption) ?_)))) <;> (first | omega | (dsimp only; omega) | (simp; done) | (simp; omega) | (simp at *; omega))
  · have h0' : (ak != 0) = true := by simp [h0]
    rw [if_neg h0]
    rw [hsl, hvl, hpl, hbl]
    clear hA hp4 hsl hvl hpl hbl h0 HC1 HC2
    go_enter Tryz.func97, Tryz.ntmps97
    go_wp2_with fail
    refine (l4Wrong_any 1 _).mono ?_
    rintro e w1 ⟨oa1, cp1, rfl, hrow1, hbz1⟩
    have hsz1 := hbz1.size; obtain ⟨hc1, hf1⟩ := bcell hbz1; (try simp at hsz1); have z10 : W.heap.size < w1.heap.size := (by omega); have z11 : W.heap.size + 1 < w1.heap.size := (by omega); have z12 : W.heap.size + 2 < w1.heap.size := (by omega); have z13 : W.heap.size + 1 + 1 < w1.heap.size := (by omega)
    unfold outV wrong
    simp only [List.length_nil]
    go_wp2_with fail
    refine bodyPost_ret (v := .agg #[.int .i64 0, .int .i64 0, .bool false, .slice oa1 0 cp1, .int .i64 1]) (by simp [results, Tryz.results97, go_sem, *]) rfl ?_
    refine means_none (o := wrong 1) rfl hrow1 ?_
    clear hc1 hf1 
    (repeat (first | (with_reducible refine Below.alloc ?_ ?_ _) | (with_reducible refine Below.setCell ?_ ?_ _) | (with_reducible refine Below.drew ?_) | (with_reducible exact Below.refl _ _) | (with_reducible refine Below.trans ?_ (Below.mono (by assumption) ?_)))) <;> (first | omega | (dsimp only; omega) | (simp; done) | (simp; omega) | (simp at *; omega))

end L2
end Go.Proofs.YtkhjbhkbknennaaGreatDoor
