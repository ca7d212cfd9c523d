/-
  Plates and lists of plates that came in, opened.
-/
import Derived.Test.YtkhjbhkbknennaaN5
import Derived.Lib.SmallJoins
import Derived.Deep.Slices
namespace Go.Proofs.Ytkhjbhkbknennaa
open Go.ChangeShapes Go.WideShapes Go.ChangeAt Go.RowKit Go.Joins
namespace L2

theorem array6 {α : Type} {cs : Array α} (h : cs.size = 6) : ∃ c0 c1 c2 c3 c4 c5, cs = #[c0, c1, c2, c3, c4, c5] := by
  obtain ⟨l⟩ := cs
  match l, h with
  | [c0, c1, c2, c3, c4, c5], _ => exact ⟨c0, c1, c2, c3, c4, c5, rfl⟩
theorem list6 {α : Type} {cs : List α} (h : cs.length = 6) : ∃ c0 c1 c2 c3 c4 c5, cs = [c0, c1, c2, c3, c4, c5] := by
  match cs, h with
  | [c0, c1, c2, c3, c4, c5], _ => exact ⟨c0, c1, c2, c3, c4, c5, rfl⟩
set_option maxRecDepth 100000 in
theorem cells_plate {H : Type} {enc : TypeId × Value → H} {W : World} {base fuel : Nat} {sp : Nat → Bool} {held : Bool} {c0 c1 c2 c3 c4 c5 : Value} {x : DataW H × List MemPlace} (hf : DataW.trod enc Try.prog W base sp held fuel 38 [c0, c1, c2, c3, c4, c5] = some x) :
    ∃ p : Pl, c0 = .int .i64 p.k ∧ c1 = .int .i64 p.a ∧ c2 = .int .i64 p.ak ∧ c3 = .int .i64 p.an ∧ c4 = .int .i64 p.vk ∧ c5 = .int .i64 p.vn := by
  obtain ⟨y0, y1, y2, y3, n, _, _, h0, h1, h2, h3⟩ := trod_struct4 Try.underlying38 hf
  have k0 : Try.prog.cellsOf 36 = 2 := by kernel_rfl
  have k3 : Try.prog.cellsOf 2 = 1 := by kernel_rfl
  simp only [k0, k3, List.drop_zero, List.take_succ_cons, List.take_zero, List.drop_succ_cons] at h0 h1 h2 h3
  obtain ⟨u0, u1, m, _, _, g0, g1⟩ := trod_struct2 Try.underlying36 h2
  obtain ⟨u0', u1', m', _, _, g0', g1'⟩ := trod_struct2 Try.underlying36 h3
  simp only [k3, List.drop_zero, List.take_succ_cons, List.take_zero, List.drop_succ_cons] at g0 g1 g0' g1'
  obtain ⟨a, e0, _, _⟩ := DataW.trod_int Try.underlying2 h0
  obtain ⟨b, e1, _, _⟩ := DataW.trod_int Try.underlying2 h1
  obtain ⟨c, e2, _, _⟩ := DataW.trod_int Try.underlying2 g0
  obtain ⟨d, e3, _, _⟩ := DataW.trod_int Try.underlying2 g1
  obtain ⟨e, e4, _, _⟩ := DataW.trod_int Try.underlying2 g0'
  obtain ⟨f, e5, _, _⟩ := DataW.trod_int Try.underlying2 g1'
  simp only [List.cons.injEq, and_true] at e0 e1 e2 e3 e4 e5
  exact ⟨⟨a, b, c, d, e, f⟩, e0, e1, e2, e3, e4, e5⟩
set_option maxRecDepth 100000 in
theorem openP {H : Type} {enc : TypeId × Value → H} {W : World} {base : Nat} {sp : Nat → Bool} {held : Bool} {r : Reach} {b0 : Nat} {v : Value} {d : DataW H} {p : List MemPlace} (hv : Value.okWide Try.prog W r b0 38 v) (h : DataW.Trod enc Try.prog W base sp held 38 v d p) : ∃ q : Pl, v = plV q := by
  obtain ⟨cs, rfl, hsz⟩ := okWide_struct Try.underlying38 hv
  obtain ⟨c0, c1, c2, c3, c4, c5, rfl⟩ := array6 (hsz.trans (by kernel_rfl))
  obtain ⟨fuel, hf⟩ := h
  obtain ⟨q, rfl, rfl, rfl, rfl, rfl, rfl⟩ := cells_plate hf
  exact ⟨q, rfl⟩
theorem list_of {P : Nat → Pl → Prop} : ∀ n, (∀ i, i < n → ∃ p, P i p) → ∃ ps : List Pl, ps.length = n ∧ ∀ i, i < n → P i (ps.getD i p0) := by
  intro n
  induction n with
  | zero => intro _; exact ⟨[], rfl, fun i hi => by omega⟩
  | succ n ih =>
    intro h
    obtain ⟨ps, hl, hp⟩ := ih fun i hi => h i (by omega)
    obtain ⟨p, hpn⟩ := h n (by omega)
    refine ⟨ps ++ [p], by simp [hl], fun i hi => ?_⟩
    by_cases e : i = n
    · subst e
      have : (ps ++ [p]).getD i p0 = p := by simp [List.getD, ← hl]
      rw [this]
      exact hpn
    · have hlt : i < ps.length := by omega
      have : (ps ++ [p]).getD i p0 = ps.getD i p0 := by simp [List.getD, List.getElem?_append_left hlt]
      rw [this]
      exact hp i (by omega)
theorem add_none (b off i : Nat) : (⟨b, off, none⟩ : Addr).add i = ⟨b, off + i, none⟩ := by unfold Addr.add; split <;> simp_all
set_option maxRecDepth 100000 in
theorem openPs {H : Type} {enc : TypeId × Value → H} {W : World} {base : Nat} {sp : Nat → Bool} {held : Bool} {s : Option Addr} {l0 c0 : Nat} {d : DataW H} {p : List MemPlace} (h : DataW.Trod enc Try.prog W base sp held 22 (.slice s l0 c0) d p) : ∃ ps : List Pl, RowP W (.slice s l0 c0) ps := by
  obtain ⟨fuel, hf⟩ := h
  have k6 : Try.prog.cellsOf 38 = 6 := by kernel_rfl
  rcases Go.Deep.open_slice Try.underlying22 hf with ⟨hcs, _⟩ | ⟨x, l, c, m, n, D, Q, hcs, _, hl, hm, hmm, _, hi⟩
  · simp [Value.cells] at hcs
    obtain ⟨rfl, rfl, rfl⟩ := hcs
    exact ⟨[], none, 0, rfl, Nat.le_refl _, by omega, fun i hi => by cases hi⟩
  · rw [k6] at hi
    simp [Value.cells] at hcs
    obtain ⟨rfl, rfl, rfl⟩ := hcs
    have hlm : l0 ≤ m := by rw [hmm]; split <;> omega
    obtain ⟨b, off, spot⟩ := x
    have hsp : 0 < l0 → spot = none := fun h0 => by
      obtain ⟨cs', hc, _⟩ := hi 0 (by omega)
      obtain ⟨_, hcl, hat⟩ := World.cells?_some hc
      obtain ⟨c0, c1, c2, c3, c4, c5, rfl⟩ := list6 hcl
      have h0 := hat 0 (by omega)
      have := World.cell?_spot h0
      simpa [Addr.add] using this
    have hfill : ∀ i, i < l0 → spot = none ∧ b < W.heap.size ∧ ∃ q, PlAt W b (off + i * 6) q := fun i hil => by
      obtain ⟨cs', hc, ht⟩ := hi i (by omega)
      obtain ⟨_, hcl, hat⟩ := World.cells?_some hc
      obtain ⟨c0, c1, c2, c3, c4, c5, rfl⟩ := list6 hcl
      obtain ⟨q, rfl, rfl, rfl, rfl, rfl, rfl⟩ := cells_plate ht
      have hspot := hsp (by omega)
      subst hspot
      have hh := fun j (hj : j < 6) => hat j hj
      simp only [add_none] at hh
      have g0 := hh 0 (by omega)
      have g1 := hh 1 (by omega)
      have g2 := hh 2 (by omega)
      have g3 := hh 3 (by omega)
      have g4 := hh 4 (by omega)
      have g5 := hh 5 (by omega)
      exact ⟨rfl, World.block_lt_of_cell? W _ g0, q, g0, g1, g2, g3, g4, g5⟩
    obtain ⟨ps, hpl, hps⟩ := list_of l0 (P := fun i q => PlAt W b (off + i * 6) q) fun i hil => (hfill i hil).2.2
    refine ⟨ps, some ⟨b, off, spot⟩, c0, by rw [hpl], by rw [hpl]; exact hl, hm, fun i hil => ?_⟩
    rw [hpl] at hil
    obtain ⟨rfl, hb, _⟩ := hfill i hil
    exact ⟨b, off, rfl, hb, hps i hil⟩

end L2
end Go.Proofs.Ytkhjbhkbknennaa
