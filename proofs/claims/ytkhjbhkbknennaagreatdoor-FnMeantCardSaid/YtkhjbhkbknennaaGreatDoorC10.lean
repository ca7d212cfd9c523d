/-
  The makers of sums: what each makes lies in boxes of its own, and is done as it should be, whatever else turns.
-/
import Derived.Test.YtkhjbhkbknennaaGreatDoorC9
namespace Go.Proofs.YtkhjbhkbknennaaGreatDoor
open Go.RowKit Go.Shelf
namespace L2
open S1 L1

/-- A sum ready to be done, that leans on the blocks of S alone. -/
structure DeedF (w0 W : World) (S : Nat → Prop) (fv : Value) (d : Deed) : Prop where
  lt : ∀ b, S b → b < W.heap.size
  does : ∀ W1 o1, (∀ b, S b → W1.heap[b]? = W.heap[b]?) → (∀ b, S b → some b ≠ o1) → DeedAt w0 W1 o1 fv d
  fn : ∃ g lb, fv = .func (.func g) #[] lb
theorem DeedF.later {w0 W W2 : World} {S : Nat → Prop} {fv : Value} {d : Deed} (h : DeedF w0 W S fv d) (hb : ∀ b, S b → W2.heap[b]? = W.heap[b]?) : DeedF w0 W2 S fv d := by
  refine ⟨fun b hs => ?_, fun W1 o1 h1 h2 => h.does W1 o1 (fun b hs => (h1 b hs).trans (hb b hs)) h2, h.fn⟩
  have := hb b hs
  rw [Array.getElem?_eq_getElem (h.lt b hs)] at this
  exact (Array.getElem?_eq_some_iff.1 this).1
theorem box_of {W1 W : World} {o1 : Option Nat} {b i : Nat} {u : Value} (h : W1.heap[b]? = W.heap[b]?) (hc : W.cell? ⟨b, i, none⟩ = some u) (ho : some b ≠ o1) : Box W1 o1 b i u := by
  have hc1 := (World.cell?_of_block (a := ⟨b, i, none⟩) h).trans hc
  exact ⟨hc1, World.block_lt_of_cell? W1 _ hc1, ho⟩

/-- Boxes of one cell each, one behind the other. -/
def box1 (W : World) (u : Value) (t : TypeId) : World := W.alloc (.cells #[u] t)
theorem box1_size (W : World) (u : Value) (t : TypeId) : (box1 W u t).heap.size = W.heap.size + 1 := by simp [box1]
theorem box1_old {W : World} {u : Value} {t : TypeId} {b : Nat} (h : b < W.heap.size) : (box1 W u t).heap[b]? = W.heap[b]? := Below.heap_alloc _ _ _ h
theorem box1_new (W : World) (u : Value) (t : TypeId) : (box1 W u t).cell? ⟨W.heap.size, 0, none⟩ = some u := by
  have h := heap_alloc_new W (.cells #[u] t)
  unfold box1
  simp only [World.cell?, h]
  rfl
theorem box1_cell {W : World} {u v : Value} {t : TypeId} {b i : Nat} (h : W.cell? ⟨b, i, none⟩ = some v) : (box1 W u t).cell? ⟨b, i, none⟩ = some v :=
  (World.cell?_of_block (a := ⟨b, i, none⟩) (box1_old (World.block_lt_of_cell? W _ h))).trans h
def box2 (W : World) (u v : Value) (t t' : TypeId) : World := box1 (box1 W u t) v t'
def box3 (W : World) (u v x : Value) (t t' t'' : TypeId) : World := box1 (box1 (box1 W u t) v t') x t''
theorem box2_first (W : World) (u v : Value) (t t' : TypeId) : (box2 W u v t t').cell? ⟨W.heap.size, 0, none⟩ = some u := box1_cell (box1_new _ _ _)
theorem box2_second (W : World) (u v : Value) (t t' : TypeId) : (box2 W u v t t').cell? ⟨W.heap.size + 1, 0, none⟩ = some v := by
  have h := box1_new (box1 W u t) v t'
  rw [box1_size] at h
  exact h
theorem box2_old {W : World} {u v : Value} {t t' : TypeId} {b : Nat} (h : b < W.heap.size) : (box2 W u v t t').heap[b]? = W.heap[b]? :=
  (box1_old (by rw [box1_size]; omega)).trans (box1_old h)
theorem box2_size (W : World) (u v : Value) (t t' : TypeId) : (box2 W u v t t').heap.size = W.heap.size + 2 := by unfold box2; rw [box1_size, box1_size]
theorem box3_first (W : World) (u v x : Value) (t t' t'' : TypeId) : (box3 W u v x t t' t'').cell? ⟨W.heap.size, 0, none⟩ = some u := box1_cell (box2_first W u v t t')
theorem box3_second (W : World) (u v x : Value) (t t' t'' : TypeId) : (box3 W u v x t t' t'').cell? ⟨W.heap.size + 1, 0, none⟩ = some v := box1_cell (box2_second W u v t t')
theorem box3_third (W : World) (u v x : Value) (t t' t'' : TypeId) : (box3 W u v x t t' t'').cell? ⟨W.heap.size + 1 + 1, 0, none⟩ = some x := by
  have h := box1_new (box1 (box1 W u t) v t') x t''
  rw [box1_size, box1_size] at h
  exact h
theorem box3_old {W : World} {u v x : Value} {t t' t'' : TypeId} {b : Nat} (h : b < W.heap.size) : (box3 W u v x t t' t'').heap[b]? = W.heap[b]? :=
  (box1_old (by rw [box1_size, box1_size]; omega)).trans (box2_old h)
theorem box3_size (W : World) (u v x : Value) (t t' t'' : TypeId) : (box3 W u v x t t' t'').heap.size = W.heap.size + 3 := by unfold box3; rw [box1_size, box1_size, box1_size]
/-- The blocks of some, and k new ones. -/
def And1 (W : World) (k : Nat) (S : Nat → Prop) : Nat → Prop := fun b => S b ∨ (W.heap.size ≤ b ∧ b < W.heap.size + k)
theorem and1_new {W : World} {k : Nat} {S : Nat → Prop} {j : Nat} (h : j < k) : And1 W k S (W.heap.size + j) := Or.inr ⟨by omega, by omega⟩
theorem and1_new0 {W : World} {k : Nat} {S : Nat → Prop} (h : 0 < k) : And1 W k S W.heap.size := Or.inr ⟨Nat.le_refl _, by omega⟩

theorem DeedF.still {w0 W W' W1 : World} {S T : Nat → Prop} {fv : Value} {d : Deed} {o1 : Option Nat} (h : DeedF w0 W S fv d) (hold : ∀ b, b < W.heap.size → W'.heap[b]? = W.heap[b]?) (hT : ∀ b, S b → T b)
    (h1 : ∀ b, T b → W1.heap[b]? = W'.heap[b]?) (h2 : ∀ b, T b → some b ≠ o1) : DeedAt w0 W1 o1 fv d :=
  h.does W1 o1 (fun b hs => (h1 b (hT b hs)).trans (hold b (h.lt b hs))) (fun b hs => h2 b (hT b hs))

theorem arg_made (w0 W : World) : DeedF w0 W (fun _ => False) (.func (.func 79) #[] #[]) argD := ⟨fun _ x => x.elim, fun W1 o1 _ _ => arg_deed w0 W1 o1, ⟨_, _, rfl⟩⟩
theorem ask_made (w0 W : World) (y : ByteArray) (t : TypeId) : DeedF w0 (box1 W (.string y) t) (And1 W 1 fun _ => False) (.func (.func 112) #[] #[.pointer (some ⟨W.heap.size, 0, none⟩)]) (askD y.toList) :=
  ⟨fun b hb => by rw [box1_size]; exact hb.elim (fun x => x.elim) (fun x => x.2), fun W1 o1 h1 h2 => ask_deed (box_of (h1 _ (and1_new0 (by omega))) (box1_new W _ t) (h2 _ (and1_new0 (by omega)))), ⟨_, _, rfl⟩⟩
theorem num_made (w0 W : World) {x : Int} (hx : clampI x = x) (t : TypeId) : DeedF w0 (box1 W (.int .i64 x) t) (And1 W 1 fun _ => False) (.func (.func 91) #[] #[.pointer (some ⟨W.heap.size, 0, none⟩)]) (numD x) :=
  ⟨fun b hb => by rw [box1_size]; exact hb.elim (fun x => x.elim) (fun x => x.2), fun W1 o1 h1 h2 => num_deed (box_of (h1 _ (and1_new0 (by omega))) (box1_new W _ t) (h2 _ (and1_new0 (by omega)))) hx, ⟨_, _, rfl⟩⟩
theorem say_made {w0 W : World} {S0 : Nat → Prop} {f0 : Value} {d0 : Deed} (h0 : DeedF w0 W S0 f0 d0) (g0 : GoodD d0) (hV : Vars w0) (t : TypeId) : DeedF w0 (box1 W f0 t) (And1 W 1 S0) (.func (.func 120) #[] #[.pointer (some ⟨W.heap.size, 0, none⟩)]) (sayD d0) :=
  ⟨fun b hb => by rw [box1_size]; rcases hb with x | x; have := h0.lt b x; omega; omega, fun W1 o1 h1 h2 => say_deed (box_of (h1 _ (and1_new0 (by omega))) (box1_new W _ t) (h2 _ (and1_new0 (by omega)))) (h0.still (fun _ => box1_old) (fun _ => Or.inl) h1 h2) g0
    (fun W' k n av bd v sd hr hA => say_next hA.ok hA.asked hA.bound hV), ⟨_, _, rfl⟩⟩
theorem throw_made {w0 W : World} {S0 : Nat → Prop} {f0 : Value} {d0 : Deed} (h0 : DeedF w0 W S0 f0 d0) (g0 : GoodD d0) (t : TypeId) : DeedF w0 (box1 W f0 t) (And1 W 1 S0) (.func (.func 130) #[] #[.pointer (some ⟨W.heap.size, 0, none⟩)]) (throwD d0) :=
  ⟨fun b hb => by rw [box1_size]; rcases hb with x | x; have := h0.lt b x; omega; omega, fun W1 o1 h1 h2 => throw_deed (box_of (h1 _ (and1_new0 (by omega))) (box1_new W _ t) (h2 _ (and1_new0 (by omega)))) (h0.still (fun _ => box1_old) (fun _ => Or.inl) h1 h2) g0
    (fun W' k n av bd v sd hr hA => throw_next hA.ok hA.asked hA.bound), ⟨_, _, rfl⟩⟩
/-- The blocks of either. -/
def Or2 (S T : Nat → Prop) : Nat → Prop := fun b => S b ∨ T b
theorem or2_lt {w0 W : World} {S T : Nat → Prop} {f g : Value} {d e : Deed} (h : DeedF w0 W S f d) (k : DeedF w0 W T g e) : ∀ b, Or2 S T b → b < W.heap.size := fun b hb => hb.elim (h.lt b) (k.lt b)
theorem two_made {w0 W : World} {S0 S1 : Nat → Prop} {f0 f1 gv : Value} {d0 d1 : Deed} {g : Wth} (h0 : DeedF w0 W S0 f0 d0) (g0 : GoodD d0) (h1 : DeedF w0 W S1 f1 d1) (g1 : GoodD d1) (hg : WorthAt gv g) (t t' t'' : TypeId) :
    DeedF w0 (box3 W f0 f1 gv t t' t'') (And1 W 3 (Or2 S0 S1)) (.func (.func 113) #[] #[.pointer (some ⟨W.heap.size, 0, none⟩), .pointer (some ⟨W.heap.size + 1, 0, none⟩), .pointer (some ⟨W.heap.size + 1 + 1, 0, none⟩)]) (twoD g d0 d1) := by
  refine ⟨fun b hb => by rw [box3_size]; rcases hb with x | x; have := or2_lt h0 h1 b x; omega; omega, fun W1 o1 k1 k2 => ?_, ⟨_, _, rfl⟩⟩
  have b0 := box_of (k1 _ (and1_new0 (by omega))) (box3_first W f0 f1 gv t t' t'') (k2 _ (and1_new0 (by omega)))
  have b1 := box_of (k1 _ (and1_new (j := 1) (by omega))) (box3_second W f0 f1 gv t t' t'') (k2 _ (and1_new (j := 1) (by omega)))
  have b2 := box_of (k1 _ (and1_new (j := 2) (by omega))) (box3_third W f0 f1 gv t t' t'') (k2 _ (and1_new (j := 2) (by omega)))
  have hd0 := h0.still (fun _ => box3_old) (fun _ x => Or.inl (Or.inl x)) k1 k2
  have hd1 := h1.still (fun _ => box3_old) (fun _ x => Or.inl (Or.inr x)) k1 k2
  exact two_deed b0 hd0 g0 (fun W' k n av bd v sd hr hA => two_next hA.ok hA.asked hA.bound (b1.later hr) (b2.later hr) (hd1.later hr) g1 hg)
theorem if_made {w0 W : World} {S0 S1 S2 : Nat → Prop} {f0 f1 f2 : Value} {d0 d1 d2 : Deed} (h0 : DeedF w0 W S0 f0 d0) (g0 : GoodD d0) (h1 : DeedF w0 W S1 f1 d1) (h2 : DeedF w0 W S2 f2 d2) (t t' t'' : TypeId) :
    DeedF w0 (box3 W f0 f1 f2 t t' t'') (And1 W 3 (Or2 S0 (Or2 S1 S2))) (.func (.func 122) #[] #[.pointer (some ⟨W.heap.size, 0, none⟩), .pointer (some ⟨W.heap.size + 1 + 1, 0, none⟩), .pointer (some ⟨W.heap.size + 1, 0, none⟩)]) (ifD d0 d1 d2) := by
  refine ⟨fun b hb => by rw [box3_size]; rcases hb with x | x; rcases x with x | x; have := h0.lt b x; omega; have := or2_lt h1 h2 b x; omega; omega, fun W1 o1 k1 k2 => ?_, ⟨_, _, rfl⟩⟩
  have b0 := box_of (k1 _ (and1_new0 (by omega))) (box3_first W f0 f1 f2 t t' t'') (k2 _ (and1_new0 (by omega)))
  have b1 := box_of (k1 _ (and1_new (j := 1) (by omega))) (box3_second W f0 f1 f2 t t' t'') (k2 _ (and1_new (j := 1) (by omega)))
  have b2 := box_of (k1 _ (and1_new (j := 2) (by omega))) (box3_third W f0 f1 f2 t t' t'') (k2 _ (and1_new (j := 2) (by omega)))
  have hd0 := h0.still (fun _ => box3_old) (fun _ x => Or.inl (Or.inl x)) k1 k2
  have hd1 := h1.still (fun _ => box3_old) (fun _ x => Or.inl (Or.inr (Or.inl x))) k1 k2
  have hd2 := h2.still (fun _ => box3_old) (fun _ x => Or.inl (Or.inr (Or.inr x))) k1 k2
  exact if_deed b0 hd0 g0 (fun W' k n av bd v sd hr hA => if_next hA.ok hA.asked hA.bound (b2.later hr) (b1.later hr) (hd1.later hr) (hd2.later hr))
theorem bind_made {w0 W : World} {S0 S1 : Nat → Prop} {f0 f1 : Value} {d0 d1 : Deed} (y : ByteArray) (h0 : DeedF w0 W S0 f0 d0) (g0 : GoodD d0) (h1 : DeedF w0 W S1 f1 d1) (t t' t'' : TypeId) :
    DeedF w0 (box3 W (.string y) f0 f1 t t' t'') (And1 W 3 (Or2 S0 S1)) (.func (.func 127) #[] #[.pointer (some ⟨W.heap.size + 1, 0, none⟩), .pointer (some ⟨W.heap.size, 0, none⟩), .pointer (some ⟨W.heap.size + 1 + 1, 0, none⟩)]) (bindD y.toList d0 d1) := by
  refine ⟨fun b hb => by rw [box3_size]; rcases hb with x | x; have := or2_lt h0 h1 b x; omega; omega, fun W1 o1 k1 k2 => ?_, ⟨_, _, rfl⟩⟩
  have b0 := box_of (k1 _ (and1_new0 (by omega))) (box3_first W (.string y) f0 f1 t t' t'') (k2 _ (and1_new0 (by omega)))
  have b1 := box_of (k1 _ (and1_new (j := 1) (by omega))) (box3_second W (.string y) f0 f1 t t' t'') (k2 _ (and1_new (j := 1) (by omega)))
  have b2 := box_of (k1 _ (and1_new (j := 2) (by omega))) (box3_third W (.string y) f0 f1 t t' t'') (k2 _ (and1_new (j := 2) (by omega)))
  have hd0 := h0.still (fun _ => box3_old) (fun _ x => Or.inl (Or.inl x)) k1 k2
  have hd1 := h1.still (fun _ => box3_old) (fun _ x => Or.inl (Or.inr x)) k1 k2
  exact bind_deed b1 hd0 g0 (fun W' k n av bd v sd hr hA => bind_next hA.ok hA.asked hA.bound (b0.later hr) (b2.later hr) (hd1.later hr))
theorem keep_made {w0 W : World} {S0 S1 : Nat → Prop} {f0 f1 : Value} {d0 d1 : Deed} (h0 : DeedF w0 W S0 f0 d0) (g0 : GoodD d0) (h1 : DeedF w0 W S1 f1 d1) (g1 : GoodD d1) (t t' : TypeId) :
    DeedF w0 (box2 W f0 f1 t t') (And1 W 2 (Or2 S0 S1)) (.func (.func 125) #[] #[.pointer (some ⟨W.heap.size, 0, none⟩), .pointer (some ⟨W.heap.size + 1, 0, none⟩)]) (keepD d0 d1) := by
  refine ⟨fun b hb => by rw [box2_size]; rcases hb with x | x; have := or2_lt h0 h1 b x; omega; omega, fun W1 o1 k1 k2 => ?_, ⟨_, _, rfl⟩⟩
  have b0 := box_of (k1 _ (and1_new0 (by omega))) (box2_first W f0 f1 t t') (k2 _ (and1_new0 (by omega)))
  have b1 := box_of (k1 _ (and1_new (j := 1) (by omega))) (box2_second W f0 f1 t t') (k2 _ (and1_new (j := 1) (by omega)))
  exact keep_deed b0 b1 (h0.still (fun _ => box2_old) (fun _ x => Or.inl (Or.inl x)) k1 k2) g0 (h1.still (fun _ => box2_old) (fun _ x => Or.inl (Or.inr x)) k1 k2) g1
theorem try_made {w0 W : World} {S0 S1 : Nat → Prop} {f0 f1 : Value} {d0 d1 : Deed} (h0 : DeedF w0 W S0 f0 d0) (g0 : GoodD d0) (h1 : DeedF w0 W S1 f1 d1) (t t' : TypeId) :
    DeedF w0 (box2 W f0 f1 t t') (And1 W 2 (Or2 S0 S1)) (.func (.func 133) #[] #[.pointer (some ⟨W.heap.size, 0, none⟩), .pointer (some ⟨W.heap.size + 1, 0, none⟩)]) (tryD d0 d1) := by
  refine ⟨fun b hb => by rw [box2_size]; rcases hb with x | x; have := or2_lt h0 h1 b x; omega; omega, fun W1 o1 k1 k2 => ?_, ⟨_, _, rfl⟩⟩
  have b0 := box_of (k1 _ (and1_new0 (by omega))) (box2_first W f0 f1 t t') (k2 _ (and1_new0 (by omega)))
  have b1 := box_of (k1 _ (and1_new (j := 1) (by omega))) (box2_second W f0 f1 t t') (k2 _ (and1_new (j := 1) (by omega)))
  exact try_deed b0 b1 (h0.still (fun _ => box2_old) (fun _ x => Or.inl (Or.inl x)) k1 k2) g0 (h1.still (fun _ => box2_old) (fun _ x => Or.inl (Or.inr x)) k1 k2)

theorem worth_added : WorthAt (.func (.func 82) #[] #[]) addG := ⟨_, rfl, (enters_of Tryz.func82 (by kernel_rfl) rfl), fun W a b c d _ _ => implAdded_any a b c d W⟩
theorem worth_below : WorthAt (.func (.func 83) #[] #[]) lssG := ⟨_, rfl, (enters_of Tryz.func83 (by kernel_rfl) rfl), fun W a b c d _ _ => implBelow_any a b c d W⟩
theorem worth_both : WorthAt (.func (.func 84) #[] #[]) bothG := ⟨_, rfl, (enters_of Tryz.func84 (by kernel_rfl) rfl), fun W a b c d _ _ => otherOne_any a b c d W⟩

end L2
end Go.Proofs.YtkhjbhkbknennaaGreatDoor
