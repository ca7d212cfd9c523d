/-
  Rows of bytes that a call makes: what they hold, and what appending leaves of them.
-/
import Derived.Test.YtcfniecdjbgknaaDoorCur4
import Derived.Laws.IdiomStrings
namespace Go.Proofs.YtcfniecdjbgknaaDoor
open Go.RowKit
namespace D

/-- A byte's cell. -/
def U8 (u : Value) : Prop := ∃ z : Int, 0 ≤ z ∧ z ≤ 255 ∧ u = .int .u8 z

/-- Bytes in a block from B on, that may be written. -/
def Rw (w : World) (B : Nat) (v : Value) (n : Nat) : Prop :=
  ∃ g cap, v = .slice (some ⟨g, 0, none⟩) n cap ∧ n ≤ cap ∧ cap ≤ maxLen ∧ B ≤ g ∧ g < w.heap.size ∧ ∀ i, i < n → (∃ z : Int, 0 ≤ z ∧ z ≤ 255 ∧ w.cell? ⟨g, i, none⟩ = some (.int .u8 z)) ∧ w.frozen? ⟨g, i, none⟩ = false

/-- A row of bytes that the call owns, to which it appends. -/
def Ow (w : World) (B : Nat) (v : Value) (n : Nat) : Prop :=
  ∃ xs, w.ownsRow B 5 1 v n xs ∧ v ≠ .slice none 0 0 ∧ ∀ u ∈ xs, U8 u

theorem Rw.kept {w w' : World} {B p n : Nat} {v : Value} (h : Rw w B v n) (hg : w.grownBy w' (some p)) (hp : p < B) : Rw w' B v n := by
  obtain ⟨g, cap, hv, h1, h2, h3, h4, h5⟩ := h
  have hne : some g ≠ some p := fun e => by have := Option.some.inj e; omega
  refine ⟨g, cap, hv, h1, h2, h3, Nat.lt_of_lt_of_le h4 hg.size, fun i hi => ?_⟩
  obtain ⟨⟨z, z0, z1, hz⟩, hf⟩ := h5 i hi
  exact ⟨⟨z, z0, z1, hg.cell hz hne⟩, (hg.frozen_far ⟨g, i, none⟩ h4 hne).trans hf⟩

theorem Ow.form {w : World} {B n : Nat} {v : Value} (h : Ow w B v n) : ∃ g cap, v = .slice (some ⟨g, 0, none⟩) n cap ∧ n ≤ cap ∧ cap ≤ maxLen ∧ B ≤ g ∧ g < w.heap.size := by
  obtain ⟨xs, ho, hn, _⟩ := h
  rcases ho.2 with ⟨hv, _⟩ | ⟨g, cap, cur, hv, hb, hg, h1, h2, _⟩
  · exact absurd hv hn
  · exact ⟨g, cap, hv, h1, h2, hb, (Array.getElem?_eq_some_iff.1 hg).1⟩

theorem Ow.rw {w : World} {B n : Nat} {v : Value} (h : Ow w B v n) : Rw w B v n := by
  obtain ⟨xs, ho, hn, hu⟩ := h
  rcases ho.2 with ⟨hv, _⟩ | ⟨g, cap, cur, rfl, hb, hg, h1, h2, hs, ht⟩
  · exact absurd hv hn
  · refine ⟨g, cap, rfl, h1, h2, hb, (Array.getElem?_eq_some_iff.1 hg).1, fun i hi => ⟨?_, by simp [World.frozen?, hg]⟩⟩
    have hlen := ho.1
    have hi' : i < xs.length := by omega
    obtain ⟨z, z0, z1, hz⟩ := hu xs[i] (List.getElem_mem hi')
    refine ⟨z, z0, z1, ?_⟩
    have := ho.cells (g := g) rfl i xs[i] (List.getElem?_eq_getElem hi')
    rw [hz] at this
    have hadd : (⟨g, 0, none⟩ : Addr).add i = ⟨g, i, none⟩ := by unfold Addr.add; split <;> simp_all
    rwa [hadd] at this

theorem Ow.kept {w w' : World} {B p n : Nat} {v : Value} (h : Ow w B v n) (hg : w.grownBy w' (some p)) (hp : p < B) : Ow w' B v n := by
  obtain ⟨xs, ho, hn, hu⟩ := h
  refine ⟨xs, ho.kept hg (Or.inr ?_), hn, hu⟩
  intro e
  have := (ho.lt p e).1
  omega
theorem Ow.alloc {w : World} {B n : Nat} {v : Value} (h : Ow w B v n) (o : Obj) : Ow (w.alloc o) B v n := by
  obtain ⟨xs, ho, hn, hu⟩ := h
  exact ⟨xs, ho.alloc o, hn, hu⟩
theorem Ow.drew {w : World} {B n : Nat} {v : Value} (h : Ow w B v n) : Ow w.drew B v n := by
  obtain ⟨xs, ho, hn, hu⟩ := h
  exact ⟨xs, ho, hn, hu⟩
theorem ow_new (w : World) (B : Nat) (hB : B ≤ w.heap.size) : Ow (w.alloc (.cells #[] 5)) B (.slice (some ⟨w.heap.size, 0, none⟩) 0 0) 0 :=
  ⟨[], World.ownsRow_made w #[] 0 hB (by unfold maxLen; omega) (by simp), by simp, by simp⟩

theorem u8_info' : (Tryd.prog.info? 5).map (fun i => (i.zero, i.size, i.bytes)) = some (some (.int .u8 0), 1, 1) := by kernel_rfl
theorem u8_info : ∃ i, Tryd.prog.info? 5 = some i ∧ i.zero = some (.int .u8 0) ∧ i.size = 1 ∧ i.bytes = 1 := by
  have h := u8_info'
  cases hi : Tryd.prog.info? 5 with
  | none => rw [hi] at h; cases h
  | some i =>
    rw [hi] at h
    simp only [Option.map_some, Option.some.injEq, Prod.mk.injEq] at h
    exact ⟨i, rfl, h.1, h.2.1, h.2.2⟩

/-- Appending a row of bytes. -/
theorem run_app (w : World) (B : Nat) (v : Value) (n : Nat) (hown : Ow w B v n) (ad : Addr) (m c : Nat)
    (hsrc : ∀ j, j < m → ∃ z : Int, 0 ≤ z ∧ z ≤ 255 ∧ w.cell? (ad.add j) = some (.int .u8 z)) (hs : n + m ≤ 1000) (hB : B ≤ w.heap.size) :
    ∃ v' w', (Builtin.append_ #[22, 22] 22 #[v, .slice (some ad) m c]).run Tryd.prog w = .ok v' w' ∧ Ow w' B v' (n + m) ∧ w.grownBy w' v.ownBlock ∧ (v'.ownBlock = v.ownBlock ∨ v'.ownBlock = some w.heap.size) := by
  obtain ⟨xs, ho, hn, hu⟩ := hown
  obtain ⟨i, hi, hz, hsz, hby⟩ := u8_info
  -- the cells to be appended, as a list
  have hl : ∃ news : List Value, news.length = m ∧ (∀ j u, news[j]? = some u → w.cell? (ad.add j) = some u) ∧ ∀ u ∈ news, U8 u := by
    clear hs
    induction m with
    | zero => exact ⟨[], rfl, by simp, by simp⟩
    | succ m ih =>
      obtain ⟨l, h1, h2, h3⟩ := ih (fun j hj => hsrc j (by omega))
      obtain ⟨z, z0, z1, hc⟩ := hsrc m (by omega)
      refine ⟨l ++ [.int .u8 z], by simp [h1], fun j u hj => ?_, fun u hu => ?_⟩
      · rcases Nat.lt_or_ge j l.length with hlt | hge
        · rw [List.getElem?_append_left hlt] at hj
          exact h2 j u hj
        · rw [List.getElem?_append_right hge] at hj
          have : j - l.length = 0 := by
            rcases Nat.eq_zero_or_pos (j - l.length) with h | h
            · exact h
            · rw [List.getElem?_eq_none (by simp; omega)] at hj; cases hj
          rw [this] at hj
          have hjm : j = m := by omega
          subst hjm
          simp at hj
          rw [← hj]
          exact hc
      · simp at hu
        rcases hu with hu | hu
        · exact h3 u hu
        · exact ⟨z, z0, z1, hu⟩
  obtain ⟨news, hl1, hl2, hl3⟩ := hl
  obtain ⟨v', w', hr, h2, h3, h4, h5⟩ := run_append_own_at (P := Tryd.prog) w B 22 22 5 i (.int .u8 0) 1 1 Tryd.underlying22 hi hz hsz hby rfl (by omega) v n xs ho ad m c news (by omega) hl2
    (fun u hu => by obtain ⟨z, _, _, rfl⟩ := hl3 u hu; rfl) (by unfold maxLen; omega) (by omega) hB
  refine ⟨v', w', hr, ⟨xs ++ news, h2, fun e => hn (h4.1 e).1, fun u hu' => ?_⟩, h3, h5⟩
  rcases List.mem_append.1 hu' with h | h
  · exact hu u h
  · exact hl3 u h

end D
end Go.Proofs.YtcfniecdjbgknaaDoor
