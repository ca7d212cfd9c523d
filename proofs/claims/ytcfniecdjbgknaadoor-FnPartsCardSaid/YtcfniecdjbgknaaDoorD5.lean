/-
  The draws: rows of words set, cut and laid together.
-/
import Derived.Test.YtcfniecdjbgknaaDoorD4
import Derived.Deep.RegionLaw
namespace Go.Proofs.YtcfniecdjbgknaaDoor
open Go.RowKit
namespace L2
open S1 L1

/-- Appending words that lie at an address, whatever it is. -/
theorem run_appSA (w : World) (B : Nat) (v : Value) (xs : List ByteArray) (hown : OwS w B v xs) (ad : Addr) (ys : List ByteArray) (c : Nat)
    (hsrc : ∀ j, j < ys.length → w.cell? (ad.add j) = some (.string (ys.getD j ByteArray.empty))) (hs : xs.length + ys.length ≤ 1000000) (hB : B ≤ w.heap.size) :
    ∃ v' w', (Builtin.append_ #[37, 37] 37 #[v, .slice (some ad) ys.length c]).run Tryd.prog w = .ok v' w' ∧ OwS w' B v' (xs ++ ys) ∧ w.grownBy w' v.ownBlock := by
  obtain ⟨ho, hn⟩ := hown
  obtain ⟨i, hi, hz, hsz, hby⟩ := str_info
  obtain ⟨v', w', hr, h2, h3, h4, h5⟩ := run_append_own_at (P := Tryd.prog) w B 37 37 9 i (.string ByteArray.empty) 1 16 Tryd.underlying37 hi hz hsz hby rfl (by omega) v xs.length _ ho ad ys.length c (ys.map Value.string) (by simp)
    (fun j u hj => by
      simp only [List.getElem?_map, Option.map_eq_some_iff] at hj
      obtain ⟨a, ha, rfl⟩ := hj
      have hlt := (List.getElem?_eq_some_iff.1 ha).1
      have := hsrc j hlt
      simpa [List.getD, ha] using this)
    (fun u hu => by
      simp only [List.mem_map] at hu
      obtain ⟨a, _, rfl⟩ := hu
      rfl) (by unfold maxLen; omega) (by omega) hB
  refine ⟨v', w', hr, ⟨?_, fun e => hn (h4.1 e).1⟩, h3⟩
  rw [List.map_append, List.length_append]
  exact h2

theorem OwS.drew {w : World} {B : Nat} {v : Value} {xs : List ByteArray} (h : OwS w B v xs) : OwS w.drew B v xs := h

/-- The first k of them. -/
theorem OwS.take {w : World} {B g m cap : Nat} {xs : List ByteArray} (h : OwS w B (.slice (some ⟨g, 0, none⟩) m cap) xs) (k : Nat) (hk : k ≤ xs.length) : OwS w B (.slice (some ⟨g, 0, none⟩) k cap) (xs.take k) := by
  obtain ⟨ho, _⟩ := h
  have hlen : (xs.take k).length = k := by simp; omega
  refine ⟨⟨by simp, Or.inr ?_⟩, by simp⟩
  rcases ho.2 with ⟨hv, _⟩ | ⟨g', cap', cur, hv, hb, hg, h1, h2, hs, ht⟩
  · cases hv
  · cases hv
    refine ⟨g, cap, cur, by rw [hlen], hb, hg, by rw [hlen]; omega, h2, hs, ?_⟩
    rw [hlen, List.map_take, ← ht]
    rw [List.take_take]
    congr 1
    omega
/-- One of them set anew. -/
theorem OwS.set {w : World} {B g m cap : Nat} {xs : List ByteArray} (h : OwS w B (.slice (some ⟨g, 0, none⟩) m cap) xs) (k : Nat) (t : ByteArray) : OwS (w.setCell ⟨g, k, none⟩ (.string t)) B (.slice (some ⟨g, 0, none⟩) m cap) (xs.set k t) := by
  obtain ⟨ho, _⟩ := h
  refine ⟨⟨by simp, Or.inr ?_⟩, by simp⟩
  rcases ho.2 with ⟨hv, _⟩ | ⟨g', cap', cur, hv, hb, hg, h1, h2, hs, ht⟩
  · cases hv
  · cases hv
    refine ⟨g, cap, cur.setIfInBounds k (.string t), by simp, hb, D.set_block hg, by simpa using h1, h2, by simpa using hs, ?_⟩
    rw [List.length_set, Array.toList_setIfInBounds, List.take_set, ht, List.map_set]
theorem OwS.mem {w : World} {B g cap n : Nat} {xs : List ByteArray} (h : OwS w B (.slice (some ⟨g, 0, none⟩) n cap) xs) : Mem w g (xs.map Value.string) := by
  obtain ⟨g', cap', hv, _, _, _, hlt, hc⟩ := h.form
  cases hv
  refine ⟨hlt, fun j hj => ?_⟩
  have hj' : j < xs.length := by simpa using hj
  have := hc j hj'
  simpa [List.getD, hj'] using this
theorem Short.set {ss : List ByteArray} (h : Short ss) (k : Nat) {t : ByteArray} (ht : t.size ≤ 20) : Short (ss.set k t) := fun s hs => by
  rcases List.mem_or_eq_of_mem_set hs with h1 | h1
  · exact h s h1
  · rw [h1]; exact ht
theorem Short.take {ss : List ByteArray} (h : Short ss) (k : Nat) : Short (ss.take k) := fun s hs => h s (List.mem_of_mem_take hs)
theorem Short.drop {ss : List ByteArray} (h : Short ss) (k : Nat) : Short (ss.drop k) := fun s hs => h s (List.mem_of_mem_drop hs)

/-- 'append', where the run of it is known: a step of a region that draws its order. -/
theorem step_run {T : TypeId} {ops : Array Oper} {o : Oper} {a : Act} {w : World} {K : Act → World → Prop} {Q : Exit → Act → World → Prop} {E : Prop} (hgd : o.guard = none) (s x : Operand)
    (ho : o.op = .call { callee := .builtin .append, args := #[s, x], argTypes := #[T, T] }) (hty : o.type = T) (v u : Value) (hs : a.eval s = v) (hx : a.eval x = u)
    {v' : Value} {w' : World} (hr : (Builtin.append_ #[T, T] T #[v, u]).run Tryd.prog w = .ok v' w') (h : K (a.put o.dst v') w') :
    if Region.wanted o (yielded ops a.tmps) = true then Oper.wp Tryd.prog o a w K Q else E := by
  have hw : Region.wanted o (yielded ops a.tmps) = true := by simp [Region.wanted, hgd]
  rw [if_pos hw]
  unfold Oper.wp execOp
  simp only [ho, hty, resolve, invoke, builtin, Sem.run_bind, Sem.run_pure, Result.andThen_ok, List.map_toArray, List.map_cons, List.map_nil, hs, hx, hr]
  exact h

end L2
end Go.Proofs.YtcfniecdjbgknaaDoor
