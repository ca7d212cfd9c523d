/-
  Words written out and appended, within a region that draws its order: steps, and how what has been made is carried along.
-/
import Derived.Test.YtkhjbhkbknennaaGreatDoorU3
namespace Go.Proofs.YtkhjbhkbknennaaGreatDoor
open Go.RowKit
namespace L2
open S1 L1 D

theorem lit1 (w : World) (B : Nat) (a : ByteArray) (hB : B ≤ w.heap.size) : OwS (w.alloc (.cells #[.string a] 9)) B (.slice (some ⟨w.heap.size, 0, none⟩) 1 1) [a] := owS_lit w B [a] hB (by simp)
theorem lit2 (w : World) (B : Nat) (a b : ByteArray) (hB : B ≤ w.heap.size) : OwS (w.alloc (.cells #[.string a, .string b] 9)) B (.slice (some ⟨w.heap.size, 0, none⟩) 2 2) [a, b] := owS_lit w B [a, b] hB (by simp)
theorem lit1r (w : World) (a : ByteArray) : Row (w.alloc (.cells #[.string a] 9)) (.slice (some ⟨w.heap.size, 0, none⟩) 1 1) [a] := (lit1 w 0 a (Nat.zero_le _)).row
theorem lit2r (w : World) (a b : ByteArray) : Row (w.alloc (.cells #[.string a, .string b] 9)) (.slice (some ⟨w.heap.size, 0, none⟩) 2 2) [a, b] := (lit2 w 0 a b (Nat.zero_le _)).row
theorem ows_drew {w : World} {B : Nat} {v : Value} {xs : List ByteArray} (h : OwS w B v xs) : OwS w.drew B v xs := h.below ((Below.refl _ _).drew)
theorem ows_alloc {w : World} {B : Nat} {v : Value} {xs : List ByteArray} (h : OwS w B v xs) (o : Obj) : OwS (w.alloc o) B v xs := h.alloc o
theorem row_drew {w : World} {v : Value} {xs : List ByteArray} (h : Row w v xs) : Row w.drew v xs := h.below ((Below.refl _ _).drew)
theorem row_alloc {w : World} {v : Value} {xs : List ByteArray} (h : Row w v xs) (o : Obj) : Row (w.alloc o) v xs := h.below ((Below.refl _ _).alloc (Nat.le_refl _) o)
theorem boxL_alloc {w : World} {g : Nat} (h : BoxL w g) (o : Obj) : BoxL (w.alloc o) g := h.below ((Below.refl _ _).alloc (Nat.le_refl _) o)
theorem boxL_drew {w : World} {g : Nat} (h : BoxL w g) : BoxL w.drew g := h.below ((Below.refl _ _).drew)
theorem lit1' (w : World) (B n : Nat) (a : ByteArray) (hn : n = w.heap.size) (hB : B ≤ w.heap.size) : OwS (w.alloc (.cells #[.string a] 9)) B (.slice (some ⟨n, 0, none⟩) 1 1) [a] := by subst hn; exact lit1 w B a hB
theorem lit2' (w : World) (B n : Nat) (a b : ByteArray) (hn : n = w.heap.size) (hB : B ≤ w.heap.size) : OwS (w.alloc (.cells #[.string a, .string b] 9)) B (.slice (some ⟨n, 0, none⟩) 2 2) [a, b] := by subst hn; exact lit2 w B a b hB
theorem lit1r' (w : World) (n : Nat) (a : ByteArray) (hn : n = w.heap.size) : Row (w.alloc (.cells #[.string a] 9)) (.slice (some ⟨n, 0, none⟩) 1 1) [a] := by subst hn; exact lit1r w a
theorem lit2r' (w : World) (n : Nat) (a b : ByteArray) (hn : n = w.heap.size) : Row (w.alloc (.cells #[.string a, .string b] 9)) (.slice (some ⟨n, 0, none⟩) 2 2) [a, b] := by subst hn; exact lit2r w a b
/-- All lies as it lay but the block g0. -/
def Aside (w w3 : World) (g0 : Nat) : Prop := (∀ c, c < w.heap.size → c ≠ g0 → w3.heap[c]? = w.heap[c]?) ∧ w.heap.size ≤ w3.heap.size
theorem row_aside {w w3 : World} {g0 g m c : Nat} {xs : List ByteArray} (hx : Aside w w3 g0) (hne : g ≠ g0) (h : Row w (.slice (some ⟨g, 0, none⟩) m c) xs) : Row w3 (.slice (some ⟨g, 0, none⟩) m c) xs := by
  obtain ⟨oa, cap, hv, h1, h2, h3⟩ := h
  refine ⟨oa, cap, hv, h1, h2, fun i hi => ?_⟩
  obtain ⟨b, off, ho, hlt, hc⟩ := h3 i hi
  injection hv with hv1
  rw [ho] at hv1
  injection hv1 with hv1
  injection hv1 with hb
  subst hb
  exact ⟨_, off, ho, Nat.lt_of_lt_of_le hlt hx.2, (World.cell?_of_block (a := ⟨_, off + i, none⟩) (hx.1 _ hlt hne)).trans hc⟩
theorem boxL_aside {w w3 : World} {g0 g : Nat} (hx : Aside w w3 g0) (hne : g ≠ g0) (h : BoxL w g) : BoxL w3 g := by
  obtain ⟨h1, ⟨⟨u0, a0⟩, ⟨u1, a1⟩, ⟨u2, a2⟩, ⟨u3, a3⟩, ⟨u4, a4⟩⟩, h3⟩ := h
  have hbk := hx.1 g h1 hne
  have hc := fun i => World.cell?_of_block (a := ⟨g, i, none⟩) hbk
  exact ⟨Nat.lt_of_lt_of_le h1 hx.2, ⟨⟨u0, (hc 0).trans a0⟩, ⟨u1, (hc 1).trans a1⟩, ⟨u2, (hc 2).trans a2⟩, ⟨u3, (hc 3).trans a3⟩, ⟨u4, (hc 4).trans a4⟩⟩, fun i => (World.frozen?_of_block (a := ⟨g, i, none⟩) hbk).trans (h3 i)⟩
theorem boxL_ne {pre w : World} {u : Value} {ss : List ByteArray} {g : Nat} (hb : Below pre.heap.size pre w) (hO : OwU w pre.heap.size u ss) (hL : BoxL pre g) : u.ownBlock ≠ some g ∧ BoxL w g := ⟨ownU_ne hO hL, hL.below hb⟩
theorem boxL_at {B : Nat} {pre w : World} {g : Nat} (_hb : Below B pre w) (hL : BoxL pre g) : BoxL pre g := hL
theorem row_at {B : Nat} {pre w : World} {g : Nat} (m : Nat) (ys : List ByteArray) (_hb : Below B pre w) (h : Row pre (.slice (some ⟨g, 0, none⟩) m m) ys) : Row pre (.slice (some ⟨g, 0, none⟩) m m) ys := h
theorem ows_lt {w : World} {B g n c : Nat} {xs : List ByteArray} (h : OwS w B (.slice (some ⟨g, 0, none⟩) n c) xs) : g < w.heap.size := by
  obtain ⟨g', cp, hv, -, -, -, hlt, -⟩ := h.form
  cases hv
  exact hlt
theorem small_app {xs ys : List ByteArray} (h : Small xs) (k : Small ys) (hl : xs.length + ys.length ≤ 1048576) : Small (xs ++ ys) := by
  refine ⟨by simpa using hl, fun i hi => ?_⟩
  rw [List.length_append] at hi
  by_cases e : i < xs.length
  · have : (xs ++ ys).getD i ByteArray.empty = xs.getD i ByteArray.empty := by simp [List.getD, List.getElem?_append_left e]
    rw [this]
    exact h.2 i e
  · have : (xs ++ ys).getD i ByteArray.empty = ys.getD (i - xs.length) ByteArray.empty := by simp [List.getD, List.getElem?_append_right (Nat.le_of_not_lt e)]
    rw [this]
    exact k.2 _ (by omega)
/-- Appending words that lie at an address. -/
theorem run_appS3 (w : World) (B : Nat) (v : Value) (xs : List ByteArray) (hown : OwS w B v xs) (g : Nat) (ys : List ByteArray) (c : Nat)
    (hsrc : ∀ j, j < ys.length → w.cell? ⟨g, j, none⟩ = some (.string (ys.getD j ByteArray.empty))) (hs : xs.length + ys.length ≤ 10000000) (hB : B ≤ w.heap.size) :
    ∃ v' w', (Builtin.append_ #[24, 24] 24 #[v, .slice (some ⟨g, 0, none⟩) ys.length c]).run Tryz.prog w = .ok v' w' ∧ OwS w' B v' (xs ++ ys) ∧ w.grownBy w' v.ownBlock ∧ (v'.ownBlock = v.ownBlock ∨ v'.ownBlock = some w.heap.size) := by
  obtain ⟨ho, hn⟩ := hown
  obtain ⟨i, hi, hz, hsz, hby⟩ := str_info
  obtain ⟨v', w', hr, h2, h3, h4, h5⟩ := run_append_own_at (P := Tryz.prog) w B 24 24 9 i (.string ByteArray.empty) 1 16 Tryz.underlying24 hi hz hsz hby rfl (by omega) v xs.length _ ho ⟨g, 0, none⟩ ys.length c (ys.map Value.string) (by simp)
    (fun j u hj => by
      simp only [List.getElem?_map, Option.map_eq_some_iff] at hj
      obtain ⟨a, ha, rfl⟩ := hj
      have hlt := (List.getElem?_eq_some_iff.1 ha).1
      have := hsrc j hlt
      rw [add0]
      simpa [List.getD, ha] using this)
    (fun u hu => by
      simp only [List.mem_map] at hu
      obtain ⟨a, _, rfl⟩ := hu
      rfl) (by unfold maxLen; omega) (by omega) hB
  refine ⟨v', w', hr, ⟨?_, fun e => hn (h4.1 e).1⟩, h3, h5⟩
  rw [List.map_append, List.length_append]
  exact h2

set_option maxRecDepth 100000 in
theorem step_appS {ops : Array Oper} {o : Oper} {a : Act} {w : World} {K : Act → World → Prop} {Q : Exit → Act → World → Prop} {E : Prop} {B g0 n0 c0 g1 m c1 : Nat} {xs ys : List ByteArray} (s x : Operand) (hgd : o.guard = none)
    (ho : o.op = .call { callee := .builtin .append, args := #[s, x], argTypes := #[24, 24] }) (hty : o.type = 24)
    (hs : a.eval s = .slice (some ⟨g0, 0, none⟩) n0 c0) (hx : a.eval x = .slice (some ⟨g1, 0, none⟩) m c1)
    (hO : OwS w B (.slice (some ⟨g0, 0, none⟩) n0 c0) xs) (hR : Row w (.slice (some ⟨g1, 0, none⟩) m c1) ys) (hl : xs.length + ys.length ≤ 1000) (hB : B ≤ w.heap.size)
    (h : ∀ g3 c3 w3, OwS w3 B (.slice (some ⟨g3, 0, none⟩) (n0 + m) c3) (xs ++ ys) → Below B w w3 → Aside w w3 g0 → (g3 = g0 ∨ g3 = w.heap.size) → K (a.put o.dst (.slice (some ⟨g3, 0, none⟩) (n0 + m) c3)) w3) :
    if Region.wanted o (yielded ops a.tmps) = true then Oper.wp Tryz.prog o a w K Q else E := by
  obtain ⟨oa, cap, hv, h1, h2, h3⟩ := hR
  injection hv with hv1 hv2 hv3
  subst hv2 hv3
  obtain ⟨v3, w3, hr, hO3, hg, hd⟩ := run_appS3 w B _ xs hO g1 ys c1 (fun j hj => by
    obtain ⟨b, off, hb, hlt, hc⟩ := h3 j hj
    rw [hb] at hv1
    injection hv1 with hv1
    injection hv1 with e1 e2
    subst e1 e2
    rw [Nat.zero_add] at hc
    exact hc) (by omega) hB
  obtain ⟨g, cp, hv0, -, -, hgB, -⟩ := hO.form
  injection hv0 with hv4 hv5 hv6
  subst hv5 hv6
  injection hv4 with hv4
  injection hv4 with hv4
  subst hv4
  obtain ⟨g3, c3, hv3, -⟩ := hO3.form
  rw [List.length_append] at hv3
  subst hv3
  exact step_run hgd s x ho hty _ _ hs hx hr (h g3 c3 w3 hO3 ((Below.refl B w).grown hg hB (fun k e => by simp only [Value.ownBlock] at e; injection e with e; omega))
    ⟨fun c hc hn => hg.block c hc (fun e => hn (by simp only [Value.ownBlock] at e; injection e)), hg.size⟩ (by simp only [Value.ownBlock] at hd; rcases hd with e | e <;> injection e with e <;> simp [e]))

end L2
end Go.Proofs.YtkhjbhkbknennaaGreatDoor
