/-
  Plates and lists of plates that came in, opened.
-/
import Derived.Test.YtncaacljeeinpaaDoorN5
import Derived.Lib.SmallJoins
import Derived.Deep.Slices
namespace Go.Proofs.YtncaacljeeinpaaDoor
open Go.ChangeShapes Go.WideShapes Go.ChangeAt Go.RowKit Go.Joins
namespace L2

theorem array6 {α : Type} {cs : Array α} (h : cs.size = 6) : ∃ c0 c1 c2 c3 c4 c5, cs = #[c0, c1, c2, c3, c4, c5] := by
  obtain ⟨l⟩ := cs
  match l, h with
  | [c0, c1, c2, c3, c4, c5], _ => exact ⟨c0, c1, c2, c3, c4, c5, rfl⟩
theorem list6 {α : Type} {cs : List α} (h : cs.length = 6) : ∃ c0 c1 c2 c3 c4 c5, cs = [c0, c1, c2, c3, c4, c5] := by
  match cs, h with
  | [c0, c1, c2, c3, c4, c5], _ => exact ⟨c0, c1, c2, c3, c4, c5, rfl⟩
set_option maxRecDepth 100000 in
theorem cells_plate {H : Type} {enc : TypeId × Value → H} {W : World} {base fuel : Nat} {sp : Nat → Bool} {held : Bool} {c0 c1 c2 c3 c4 c5 : Value} {x : DataW H × List MemPlace} (hf : DataW.trod enc Tryd.prog W base sp held fuel 38 [c0, c1, c2, c3, c4, c5] = some x) :
    ∃ p : Pl, c0 = .int .i64 p.k ∧ c1 = .int .i64 p.a ∧ c2 = .int .i64 p.ak ∧ c3 = .int .i64 p.an ∧ c4 = .int .i64 p.vk ∧ c5 = .int .i64 p.vn := by
  obtain ⟨y0, y1, y2, y3, n, _, _, h0, h1, h2, h3⟩ := trod_struct4 Tryd.underlying38 hf
  have k0 : Tryd.prog.cellsOf 36 = 2 := by kernel_rfl
  have k3 : Tryd.prog.cellsOf 2 = 1 := by kernel_rfl
  simp only [k0, k3, List.drop_zero, List.take_succ_cons, List.take_zero, List.drop_succ_cons] at h0 h1 h2 h3
  obtain ⟨u0, u1, m, _, _, g0, g1⟩ := trod_struct2 Tryd.underlying36 h2
  obtain ⟨u0', u1', m', _, _, g0', g1'⟩ := trod_struct2 Tryd.underlying36 h3
  simp only [k3, List.drop_zero, List.take_succ_cons, List.take_zero, List.drop_succ_cons] at g0 g1 g0' g1'
  obtain ⟨a, e0, _, _⟩ := DataW.trod_int Tryd.underlying2 h0
  obtain ⟨b, e1, _, _⟩ := DataW.trod_int Tryd.underlying2 h1
  obtain ⟨c, e2, _, _⟩ := DataW.trod_int Tryd.underlying2 g0
  obtain ⟨d, e3, _, _⟩ := DataW.trod_int Tryd.underlying2 g1
  obtain ⟨e, e4, _, _⟩ := DataW.trod_int Tryd.underlying2 g0'
  obtain ⟨f, e5, _, _⟩ := DataW.trod_int Tryd.underlying2 g1'
  simp only [List.cons.injEq, and_true] at e0 e1 e2 e3 e4 e5
  exact ⟨⟨a, b, c, d, e, f⟩, e0, e1, e2, e3, e4, e5⟩
set_option maxRecDepth 100000 in
theorem openP {H : Type} {enc : TypeId × Value → H} {W : World} {base : Nat} {sp : Nat → Bool} {held : Bool} {r : Reach} {b0 : Nat} {v : Value} {d : DataW H} {p : List MemPlace} (hv : Value.okWide Tryd.prog W r b0 38 v) (h : DataW.Trod enc Tryd.prog W base sp held 38 v d p) : ∃ q : Pl, v = plV q := by
  obtain ⟨cs, rfl, hsz⟩ := okWide_struct Tryd.underlying38 hv
  obtain ⟨c0, c1, c2, c3, c4, c5, rfl⟩ := array6 (hsz.trans (by kernel_rfl))
  obtain ⟨fuel, hf⟩ := h
  obtain ⟨q, rfl, rfl, rfl, rfl, rfl, rfl⟩ := cells_plate hf
  exact ⟨q, rfl⟩
theorem list_of {P : Nat → Pl → Prop} : ∀ n, (∀ i, i < n → ∃ p, P i p) → ∃ ps : List Pl, ps.length = n ∧ ∀ i, i < n → P i (ps.getD i p0) := by
  intro n
  induction n with
  | zero => intro _; exact ⟨[], rfl, fun i hi => by omega⟩
  | succ n ih =>
    intro h
    obtain ⟨ps, hl, hp⟩ := ih fun i hi => h i (by omega)
    obtain ⟨p, hpn⟩ := h n (by omega)
    refine ⟨ps ++ [p], by simp [hl], fun i hi => ?_⟩
    by_cases e : i = n
    · subst e
      have : (ps ++ [p]).getD i p0 = p := by simp [List.getD, ← hl]
      rw [this]
      exact hpn
    · have hlt : i < ps.length := by omega
      have : (ps ++ [p]).getD i p0 = ps.getD i p0 := by simp [List.getD, List.getElem?_append_left hlt]
      rw [this]
      exact hp i (by omega)
theorem add_none (b off i : Nat) : (⟨b, off, none⟩ : Addr).add i = ⟨b, off + i, none⟩ := by unfold Addr.add; split <;> simp_all
end L2
end Go.Proofs.YtncaacljeeinpaaDoor
