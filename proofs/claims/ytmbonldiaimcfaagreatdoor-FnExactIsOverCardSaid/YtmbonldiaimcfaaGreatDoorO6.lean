/-
  Piles that came in, opened.
-/
import Derived.Test.YtmbonldiaimcfaaGreatDoorN6
import Derived.Test.YtmbonldiaimcfaaGreatDoorO2
import Derived.SliceStrings
import Derived.ShutString
import Derived.ChangeOld
namespace Go.Proofs.YtmbonldiaimcfaaGreatDoor
open Go.ChangeShapes Go.WideShapes Go.ChangeAt Go.RowKit Go.Joins
namespace L2

theorem rows_nil (W : World) : Row W (.slice none 0 0) [] := ⟨none, 0, rfl, Nat.le_refl _, by omega, by intro i hi; cases hi⟩
theorem rows_of {W : World} {x : Addr} {l c : Nat} {ss : List ByteArray} (hl : l ≤ c) (hm : c ≤ maxLen) (hz : l ≤ ss.length) (hcell : ∀ i, i < ss.length → W.cell? (x.add i) = some (.string (ss.getD i ByteArray.empty))) (hsz : ∀ s ∈ ss, s.size ≤ maxLen) :
    Row W (.slice (some x) l c) (ss.take l) ∧ ∀ i, i < (ss.take l).length → ((ss.take l).getD i ByteArray.empty).size ≤ maxLen := by
  have hlen : (ss.take l).length = l := by simp; omega
  have hget : ∀ i, i < l → (ss.take l).getD i ByteArray.empty = ss.getD i ByteArray.empty := fun i hi => by simp [List.getD, hi]
  refine ⟨⟨some x, c, by rw [hlen], by rw [hlen]; exact hl, hm, fun i hi => ?_⟩, fun i hi => ?_⟩
  · rw [hlen] at hi
    obtain ⟨b, off, spot⟩ := x
    have h0 := hcell 0 (by omega)
    have hspot : spot = none := by simpa [Addr.add] using World.cell?_spot h0
    subst hspot
    have hadd : ∀ i, (⟨b, off, none⟩ : Addr).add i = ⟨b, off + i, none⟩ := by intro i; unfold Addr.add; split <;> simp_all
    have hc := hcell i (by omega)
    rw [hadd] at h0 hc
    exact ⟨b, off, rfl, World.block_lt_of_cell? W _ h0, by rw [hget i hi]; exact hc⟩
  · rw [hlen] at hi
    rw [hget i hi]
    have hi' : i < ss.length := by omega
    have : ss.getD i ByteArray.empty = ss[i] := by simp [List.getD, hi']
    rw [this]
    exact hsz _ (List.getElem_mem hi')
/-- Words in one cell. -/
theorem openS_cells {H : Type} {enc : TypeId × Value → H} {W : World} {sp : Nat → Bool} {held : Bool} {n : Nat} {u : Value} {x : DataW H × List MemPlace} (h : DataW.trod enc Tryz.prog W 0 sp held n 24 [u] = some x) :
    ∃ s l c ss, u = .slice s l c ∧ Row W (.slice s l c) ss ∧ ∀ i, i < ss.length → (ss.getD i ByteArray.empty).size ≤ maxLen := by
  rcases open_strings Tryz.underlying24 Tryz.underlying9 (by kernel_rfl) h with ⟨hcs, _⟩ | ⟨x, l, c, ss, hcs, _, hl, hm, hz, _, hcell, hs⟩
  · simp only [List.cons.injEq, and_true] at hcs
    subst hcs
    exact ⟨none, 0, 0, [], rfl, rows_nil _, by intro i hi; cases hi⟩
  · simp only [List.cons.injEq, and_true] at hcs
    subst hcs
    exact ⟨_, l, c, _, rfl, rows_of hl hm (by rw [hz]; split <;> omega) hcell hs⟩
/-- Plates in one cell. -/
theorem openP_cells {H : Type} {enc : TypeId × Value → H} {W : World} {sp : Nat → Bool} {held : Bool} {n : Nat} {u : Value} {x : DataW H × List MemPlace} (h : DataW.trod enc Tryz.prog W 0 sp held n 50 [u] = some x) :
    ∃ s l c ps, u = .slice s l c ∧ RowP W (.slice s l c) ps := by
  have hu : ∃ s l c, u = .slice s l c := by
    rcases DataW.trod_slice Tryz.underlying50 h with ⟨hcs, _⟩ | ⟨a, l, c, _, _, _, _, hcs, _⟩
    · simp only [List.cons.injEq, and_true] at hcs
      exact ⟨_, _, _, hcs⟩
    · simp only [List.cons.injEq, and_true] at hcs
      exact ⟨_, _, _, hcs⟩
  obtain ⟨s, l, c, rfl⟩ := hu
  obtain ⟨ps, hR⟩ := openPs (d := x.1) (p := x.2) (enc := enc) (sp := sp) (held := held) (base := 0) ⟨n, by simpa [Value.cells] using h⟩
  exact ⟨s, l, c, ps, rfl, hR⟩
theorem listQ_of {P : Nat → List Pl → Prop} : ∀ n, (∀ i, i < n → ∃ p, P i p) → ∃ ps : List (List Pl), ps.length = n ∧ ∀ i, i < n → P i (ps.getD i []) := by
  intro n
  induction n with
  | zero => intro _; exact ⟨[], rfl, fun i hi => by omega⟩
  | succ n ih =>
    intro h
    obtain ⟨ps, hl, hp⟩ := ih fun i hi => h i (by omega)
    obtain ⟨p, hpn⟩ := h n (by omega)
    refine ⟨ps ++ [p], by simp [hl], fun i hi => ?_⟩
    by_cases e : i = n
    · subst e
      have : (ps ++ [p]).getD i [] = p := by simp [List.getD, ← hl]
      rw [this]
      exact hpn
    · have hlt : i < ps.length := by omega
      have : (ps ++ [p]).getD i [] = ps.getD i [] := by simp [List.getD, List.getElem?_append_left hlt]
      rw [this]
      exact hp i (by omega)
set_option maxRecDepth 100000 in
/-- Pieces in one cell. -/
theorem openQ_cells {H : Type} {enc : TypeId × Value → H} {W : World} {sp : Nat → Bool} {held : Bool} {f : Nat} {u : Value} {x : DataW H × List MemPlace} (h : DataW.trod enc Tryz.prog W 0 sp held f 51 [u] = some x) :
    ∃ s l c qs, u = .slice s l c ∧ RowQ W (.slice s l c) qs := by
  have k1 : Tryz.prog.cellsOf 155 = 1 := by kernel_rfl
  rcases Go.Deep.open_slice Tryz.underlying51 h with ⟨hcs, _⟩ | ⟨x, l, c, m, n, D, Q, hcs, _, hl, hm, hmm, _, hi⟩
  · simp only [List.cons.injEq, and_true] at hcs
    exact ⟨none, 0, 0, [], hcs, rowQ_nil _⟩
  · rw [k1] at hi
    simp only [List.cons.injEq, and_true] at hcs
    have hlm : l ≤ m := by rw [hmm]; split <;> omega
    obtain ⟨b, off, spot⟩ := x
    have key : ∀ i, i < l → ∃ u, W.cell? ((⟨b, off, spot⟩ : Addr).add i) = some u ∧ ∃ ps, RowP W u ps := fun i hil => by
      obtain ⟨cs', hc, ht⟩ := hi i (by omega)
      obtain ⟨_, hcl, hat⟩ := World.cells?_some hc
      obtain ⟨c0, rfl⟩ : ∃ c0, cs' = [c0] := by
        match cs', hcl with
        | [c0], _ => exact ⟨c0, rfl⟩
      obtain ⟨y0, n', _, _, hy⟩ := trod_struct1 Tryz.underlying155 ht
      have k0 : Tryz.prog.cellsOf 50 = 1 := by kernel_rfl
      simp only [k0, List.drop_zero, List.take_succ_cons, List.take_zero] at hy
      obtain ⟨s, l', c', ps, rfl, hR⟩ := openP_cells hy
      have h0 := hat 0 (by omega)
      simp only [Nat.mul_one] at h0
      exact ⟨_, by simpa [Addr.add] using h0, ps, hR⟩
    have hsp : 0 < l → spot = none := fun h0 => by
      obtain ⟨u, hu, _⟩ := key 0 h0
      have := World.cell?_spot hu
      simpa [Addr.add] using this
    obtain ⟨qs, hql, hqs⟩ := listQ_of l (P := fun i ps => ∃ u, W.cell? ((⟨b, off, spot⟩ : Addr).add i) = some u ∧ RowP W u ps) fun i hil => by
      obtain ⟨u, hu, ps, hR⟩ := key i hil
      exact ⟨ps, u, hu, hR⟩
    refine ⟨some ⟨b, off, spot⟩, l, c, qs, hcs, some ⟨b, off, spot⟩, c, by rw [hql], by rw [hql]; exact hl, hm, fun i hil => ?_⟩
    rw [hql] at hil
    obtain ⟨u, hu, hR⟩ := hqs i hil
    have hspot := hsp (by omega)
    subst hspot
    rw [add_none] at hu
    exact ⟨b, off, u, rfl, World.block_lt_of_cell? W _ hu, hu, hR⟩

theorem trod_struct8 {H : Type} {enc : TypeId × Value → H} {P : Program} {w : World} {base : Nat} {spare : Nat → Bool} {held : Bool} {t : TypeId} {f0 f1 f2 f3 f4 f5 f6 f7 : Field} {fuel : Nat} {cs : List Value} {x : DataW H × List MemPlace} (ht : P.underlying t = some (.struct #[f0, f1, f2, f3, f4, f5, f6, f7])) (h : DataW.trod enc P w base spare held fuel t cs = some x) :
    ∃ (y0 y1 y2 y3 y4 y5 y6 y7 : DataW H × List MemPlace) (n : Nat), DataW.trod enc P w base spare held n f0.type ((cs.drop f0.offset).take (P.cellsOf f0.type)) = some y0 ∧ DataW.trod enc P w base spare held n f1.type ((cs.drop f1.offset).take (P.cellsOf f1.type)) = some y1 ∧ DataW.trod enc P w base spare held n f2.type ((cs.drop f2.offset).take (P.cellsOf f2.type)) = some y2 ∧ DataW.trod enc P w base spare held n f3.type ((cs.drop f3.offset).take (P.cellsOf f3.type)) = some y3 ∧ DataW.trod enc P w base spare held n f4.type ((cs.drop f4.offset).take (P.cellsOf f4.type)) = some y4 ∧ DataW.trod enc P w base spare held n f5.type ((cs.drop f5.offset).take (P.cellsOf f5.type)) = some y5 ∧ DataW.trod enc P w base spare held n f6.type ((cs.drop f6.offset).take (P.cellsOf f6.type)) = some y6 ∧ DataW.trod enc P w base spare held n f7.type ((cs.drop f7.offset).take (P.cellsOf f7.type)) = some y7 := by
  obtain ⟨xs, n, _, rfl, hl, hlen, hf⟩ := DataW.trod_struct ht h
  match xs, hlen with
  | [y0, y1, y2, y3, y4, y5, y6, y7], _ => exact ⟨y0, y1, y2, y3, y4, y5, y6, y7, n, by simpa using hf 0 f0 rfl, by simpa using hf 1 f1 rfl, by simpa using hf 2 f2 rfl, by simpa using hf 3 f3 rfl, by simpa using hf 4 f4 rfl, by simpa using hf 5 f5 rfl, by simpa using hf 6 f6 rfl, by simpa using hf 7 f7 rfl⟩
theorem array10 {α : Type} {cs : Array α} (h : cs.size = 10) : ∃ c0 c1 c2 c3 c4 c5 c6 c7 c8 c9, cs = #[c0, c1, c2, c3, c4, c5, c6, c7, c8, c9] := by
  obtain ⟨l⟩ := cs
  match l, h with
  | [c0, c1, c2, c3, c4, c5, c6, c7, c8, c9], _ => exact ⟨c0, c1, c2, c3, c4, c5, c6, c7, c8, c9, rfl⟩
set_option maxRecDepth 100000 in
theorem openPil {H : Type} {enc : TypeId × Value → H} {W : World} {sp : Nat → Bool} {held : Bool} {r : Reach} {b0 : Nat} {v : Value} {d : DataW H} {p : List MemPlace} (hv : Value.okWide Tryz.prog W r b0 53 v) (h : DataW.Trod enc Tryz.prog W 0 sp held 53 v d p) :
    ∃ (x : Pil) (s0 : Option Addr) (l0 c0 : Nat) (s1 : Option Addr) (l1 c1 : Nat) (s2 : Option Addr) (l2 c2 : Nat) (s3 : Option Addr) (l3 c3 : Nat), v = pilV x (.slice s0 l0 c0) (.slice s1 l1 c1) (.slice s2 l2 c2) (.slice s3 l3 c3) ∧ RowsPi W x (.slice s0 l0 c0) (.slice s1 l1 c1) (.slice s2 l2 c2) (.slice s3 l3 c3) ∧ SizedPi x := by
  obtain ⟨cs, rfl, hsz⟩ := okWide_struct Tryz.underlying53 hv
  obtain ⟨c0, c1, c2, c3, c4, c5, c6, c7, c8, c9, rfl⟩ := array10 (hsz.trans (by kernel_rfl))
  obtain ⟨fuel, hf⟩ := h
  obtain ⟨y0, y1, y2, y3, y4, y5, y6, y7, n, h0, h1, h2, h3, h4, h5, h6, h7⟩ := trod_struct8 Tryz.underlying53 hf
  have k0 : Tryz.prog.cellsOf 49 = 2 := by kernel_rfl
  have k1 : Tryz.prog.cellsOf 50 = 1 := by kernel_rfl
  have k2 : Tryz.prog.cellsOf 24 = 1 := by kernel_rfl
  have k3 : Tryz.prog.cellsOf 2 = 1 := by kernel_rfl
  have k4 : Tryz.prog.cellsOf 51 = 1 := by kernel_rfl
  simp only [Value.cells, k0, k1, k2, k3, k4, List.drop_zero, List.take_succ_cons, List.take_zero, List.drop_succ_cons] at h0 h1 h2 h3 h4 h5 h6 h7
  obtain ⟨u0, u1, m, _, _, g0, g1⟩ := trod_struct2 Tryz.underlying49 h3
  obtain ⟨u0', u1', m', _, _, g0', g1'⟩ := trod_struct2 Tryz.underlying49 h4
  simp only [k3, List.drop_zero, List.take_succ_cons, List.take_zero, List.drop_succ_cons] at g0 g1 g0' g1'
  obtain ⟨e1, q1, _, _⟩ := DataW.trod_int Tryz.underlying2 h1
  obtain ⟨e2, q2, _, _⟩ := DataW.trod_int Tryz.underlying2 h2
  obtain ⟨e3, q3, _, _⟩ := DataW.trod_int Tryz.underlying2 g0
  obtain ⟨e4, q4, _, _⟩ := DataW.trod_int Tryz.underlying2 g1
  obtain ⟨e5, q5, _, _⟩ := DataW.trod_int Tryz.underlying2 g0'
  obtain ⟨e6, q6, _, _⟩ := DataW.trod_int Tryz.underlying2 g1'
  simp only [List.cons.injEq, and_true] at q1 q2 q3 q4 q5 q6
  subst q1 q2 q3 q4 q5 q6
  obtain ⟨s0, l0, k0', ss, rfl, hR0, hz0⟩ := openS_cells h0
  obtain ⟨s1, l1, k1', ps, rfl, hR1⟩ := openP_cells h5
  obtain ⟨s2, l2, k2', qs, rfl, hR2⟩ := openQ_cells h6
  obtain ⟨s3, l3, k3', sd, rfl, hR3, hz3⟩ := openS_cells h7
  exact ⟨⟨ss, e1, e2, e3, e4, e5, e6, ps, qs, sd⟩, _, _, _, _, _, _, _, _, _, _, _, _, rfl, ⟨hR0, hR1, hR2, hR3⟩, hz0, hz3⟩

end L2
end Go.Proofs.YtmbonldiaimcfaaGreatDoor
