/-
  A range over a function where a round begins with a box of its own; what is kept meanwhile (written by wip/gen_rh.py out of RF, R2 and R3).
-/
import Derived.Test.YtkhjbhkbknennaaRF
namespace Go.Proofs.Ytkhjbhkbknennaa
open Go.RowKit Go.Shelf
namespace RF

theorem range_law2 {F : Fence} {n : Nat} {P : Program} {α : Type} {g : Operand} {ps : Array Tmp} {assign body : Code} {Q : Exit → Act → World → Prop} {a : Act} {w : World}
    (hro : F.round = none) (h1 : 1 ≤ n) {gf : Nat} {lb : Array Value} (hg : a.eval g = .func (.func gf) #[] lb) (hFg : F.fn gf) (eg : ∀ args w, (callFunc gf args).run P w = .ok (.enter gf args) w)
    {encs : α → Array Value} {Rel Kp : World → World → Prop} {S Sp : List α → Prop} {N : Nat}
    (hseq : ∀ o o', SeqOf F (n - 1) P gf lb encs Rel Kp S Sp N ((w.alloc o).alloc o'))
    (hRel : ∀ A B b o, Rel A B → b = w.heap.size ∨ b = w.heap.size + 1 → A.heap[b]? = some o → B.heap[b]? = some o)
    (hKt : ∀ A B C, Kp A B → Kp B C → Kp A C) (hKb : ∀ W o, w.heap.size + 1 < W.heap.size → Kp W (W.putObj (w.heap.size + 1) o))
    (hps : ∀ x, (encs x).size = ps.size)
    (I : List α → World → Prop) (Ix : Code → List α → World → Prop)
    (hI : ∀ s A B, I s A → Rel A B → I s B) (hIx : ∀ c s A B, Ix c s A → Rel A B → Ix c s B)
    (hIb : ∀ s W o, I s W → w.heap.size + 1 < W.heap.size → I s (W.putObj (w.heap.size + 1) o))
    (hIxb : ∀ c s W o, Ix c s W → w.heap.size + 1 < W.heap.size → Ix c s (W.putObj (w.heap.size + 1) o))
    (h0 : ∀ o o', I [] ((w.alloc o).alloc o')) (Asg : List α → α → Act → World → Prop)
    (hAb : ∀ s x a1 W o, Asg s x a1 W → w.heap.size + 1 < W.heap.size → Asg s x a1 (W.putObj (w.heap.size + 1) o))
    (hassign : ∀ (l : Nat) (pre : List α) (x : α) (W : World) (K : Act → World → Prop), I pre W → pre.length < N → w.heap.size + 1 < W.heap.size →
      (∀ a1 W1, Asg pre x a1 W1 → Stay w.heap.size W W1 → Kp W W1 → K a1 W1) →
      assign.wpIn (F.inRound l) (n - 1 - 1) P (Exit.then K (fun _ _ _ => False)) { tmps := (ps.zip (encs x)).foldl (fun t (p, v) => t.setIfInBounds p v) a.tmps, defers := [] } W)
    (hbody : ∀ (l : Nat) (pre : List α) (x : α) (a1 : Act) (W : World), Asg pre x a1 W → pre.length < N → w.heap.size + 1 < W.heap.size → body.wpIn (F.inRound l) (n - 1 - 1) P (bodyP w.heap.size Kp I Ix (pre ++ [x]) W) a1 W)
    (hdone : ∀ (xs : List α) (W : World), S xs → I xs W → W.heap[w.heap.size]? = some (.deferred (some [])) → Q .normal { a with defers := { target := .collected w.heap.size, args := #[] } :: a.defers } W)
    (hstop : ∀ (c : Code) (pre : List α) (W : World), Sp pre → Ix c pre W → W.heap[w.heap.size]? = some (.deferred (some [])) → c.wpIn F n P Q { a with defers := { target := .collected w.heap.size, args := #[] } :: a.defers } W) :
    (Code.rangeFunc g ps assign body).wpIn F n P Q a w := by
  refine wpIn_rangeFunc fun fn hfn => ?_
  rw [hro]
  obtain ⟨rc, hrc⟩ : ∃ rc : LoopState → Option Code → Loop, ∀ st pe, rc st pe = { state := st, pending := pe, fn := fn, tmps := a.tmps, params := ps, assign := assign, body := body, defers := w.heap.size } := ⟨_, fun _ _ => rfl⟩
  have size1 : ((w.alloc (.deferred (some []))).alloc (.loop (rc .ready none))).heap.size = w.heap.size + 2 := by simp
  have blk1 : ((w.alloc (.deferred (some []))).alloc (.loop (rc .ready none))).heap[w.heap.size + 1]? = some (.loop (rc .ready none)) := by
    have := World.alloc_heap_new (w.alloc (.deferred (some []))) (.loop (rc .ready none))
    rwa [World.size_alloc] at this
  have blk0 : ((w.alloc (.deferred (some []))).alloc (.loop (rc .ready none))).heap[w.heap.size]? = some (.deferred (some [])) :=
    (Below.heap_alloc _ _ _ (by simp)).trans (World.alloc_heap_new w _)
  refine ⟨w.heap.size + 1, [{ target := .collected w.heap.size, args := #[] }], (w.alloc (.deferred (some []))).alloc (.loop (rc .ready none)), { target := .fn (.func gf) lb, args := #[.func (.yield (w.heap.size + 1)) #[] #[]] }, (w.alloc (.deferred (some []))).alloc (.loop (rc .ready none)), gf,
    #[.func (.yield (w.heap.size + 1)) #[] #[]] ++ lb, (w.alloc (.deferred (some []))).alloc (.loop (rc .ready none)), by rw [run_enterLoop_outer, ← hrc], ?_, ?_, ?_, fun _ => h1, ?_⟩
  · simp only [resolve, hg]
    simp [go_sem]
  · intro f' hf'
    simp [Target.leads] at hf'
    subst hf'
    exact hFg
  · simp [invoke, go_sem, eg]
  have lt_of : ∀ {W : World} {b : Nat} {o : Obj}, W.heap[b]? = some o → b < W.heap.size := fun h => (Array.getElem?_eq_some_iff.1 h).1
  refine (hseq _ _ (w.heap.size + 1)
    (fun pre W => I pre W ∧ W.heap[w.heap.size + 1]? = some (.loop (rc .ready none)) ∧ W.heap[w.heap.size]? = some (.deferred (some [])))
    (fun pre W => ∃ c, Ix c pre W ∧ W.heap[w.heap.size + 1]? = some (.loop (rc .done (some c))) ∧ W.heap[w.heap.size]? = some (.deferred (some [])))
    (fun s A B h hr => ⟨hI s A B h.1 hr, hRel A B _ _ hr (Or.inr rfl) h.2.1, hRel A B _ _ hr (Or.inl rfl) h.2.2⟩)
    (fun s A B h hr => by
      obtain ⟨c, hc, hl, hk⟩ := h
      exact ⟨c, hIx c s A B hc hr, hRel A B _ _ hr (Or.inr rfl) hl, hRel A B _ _ hr (Or.inl rfl) hk⟩)
    ?_ ⟨h0 _ _, blk1, blk0⟩).mono ?_
  · rintro pre x W0 ⟨hi0, hl0, hk0⟩ hlen
    have hlt0 := lt_of hl0
    have hy := run_yield (P := P) (args := encs x) hl0 (by rw [hrc]; exact hps x)
    rw [hrc] at hy
    refine ⟨fn, _, assign, body, hy, roundIn_of_wpIn hfn (hassign _ pre x W0 _ hi0 hlen hlt0 ?_)⟩
    intro a1 W hA hst hkp0
    have hl := hst.2.trans hl0
    have hk := hst.1.trans hk0
    have hlt := lt_of hl
    have hbr := run_beginRound (P := P) hl (by rw [hrc])
    have hbusy : ({ rc .ready none with state := .busy } : Loop) = rc .busy none := by rw [hrc, hrc]
    rw [hbusy] at hbr
    refine ⟨_, hbr, ?_⟩
    have l2 : (W.putObj (w.heap.size + 1) (.loop (rc .busy none))).heap[w.heap.size + 1]? = some (.loop (rc .busy none)) := World.putObj_heap_same hlt
    have k2 : (W.putObj (w.heap.size + 1) (.loop (rc .busy none))).heap[w.heap.size]? = some (.deferred (some [])) := (World.putObj_heap_other (by omega)).trans hk
    refine wpIn_mono (hbody _ pre x _ _ (hAb _ _ _ _ _ hA hlt) hlen (by rw [World.putObj_size]; exact hlt)) ?_
    have fin : ∀ (jump : Option Code) (V : World), Stay w.heap.size (W.putObj (w.heap.size + 1) (.loop (rc .busy none))) V →
        ∃ V', (Instr.endRound (w.heap.size + 1) jump).run P V = .ok (.bool jump.isNone) V' ∧ V' = V.putObj (w.heap.size + 1) (.loop (rc (if jump.isNone then .ready else .done) jump)) ∧ w.heap.size + 1 < V.heap.size ∧
          V'.heap[w.heap.size + 1]? = some (.loop (rc (if jump.isNone then .ready else .done) jump)) ∧ V'.heap[w.heap.size]? = some (.deferred (some [])) := fun jump V hs => by
      have l3 := hs.2.trans l2
      have k3 := hs.1.trans k2
      have hr := run_endRound (P := P) jump l3
      have he : ({ rc .busy none with state := if jump.isNone then .ready else .done, pending := jump } : Loop) = rc (if jump.isNone then .ready else .done) jump := by rw [hrc, hrc]
      rw [he] at hr
      exact ⟨_, hr, rfl, lt_of l3, World.putObj_heap_same (lt_of l3), (World.putObj_heap_other (by omega)).trans k3⟩
    rintro e a3 V hp
    cases e with
    | normal =>
      obtain ⟨hs, hkp, hi3⟩ := hp
      obtain ⟨V', hr, rfl, hlt3, hl4, hk4⟩ := fin none V hs
      exact ⟨_, _, hr, Or.inl ⟨rfl, ⟨hIb _ _ _ hi3 hlt3, hl4, hk4⟩, hKt _ _ _ hkp0 (hKt _ _ _ (hKt _ _ _ (hKb W _ hlt) hkp) (hKb V _ hlt3))⟩⟩
    | ret =>
      obtain ⟨hs, hi3⟩ := hp
      obtain ⟨V', hr, rfl, hlt3, hl4, hk4⟩ := fin (some .ret) V hs
      exact ⟨_, _, hr, Or.inr ⟨rfl, .ret, hIxb _ _ _ _ hi3 hlt3, hl4, hk4⟩⟩
    | exit id =>
      obtain ⟨hs, hi3⟩ := hp
      obtain ⟨V', hr, rfl, hlt3, hl4, hk4⟩ := fin (some (.exit id)) V hs
      exact ⟨_, _, hr, Or.inr ⟨rfl, .exit id, hIxb _ _ _ _ hi3 hlt3, hl4, hk4⟩⟩
    | goto t =>
      obtain ⟨hs, hi3⟩ := hp
      obtain ⟨V', hr, rfl, hlt3, hl4, hk4⟩ := fin (some (.goto t)) V hs
      exact ⟨_, _, hr, Or.inr ⟨rfl, .goto t, hIxb _ _ _ _ hi3 hlt3, hl4, hk4⟩⟩
    | panic ch => exact hp.elim
    | outgrown => exact hp.elim
  · rintro e V ⟨⟨v, rfl⟩, (⟨xs, hS, hi, hl, hk⟩ | ⟨pre, hSp, c, hi, hl, hk⟩)⟩
    · have hr := run_endLoop (P := P) hl (by rw [hrc]; simp)
      have hpe : (rc .ready none).pending = none := by rw [hrc]
      rw [hpe] at hr
      exact ⟨none, _, hr, hdone xs _ hS (hIb _ _ _ hi (lt_of hl)) ((World.putObj_heap_other (by omega)).trans hk)⟩
    · have hr := run_endLoop (P := P) hl (by rw [hrc]; simp)
      have hpe : (rc .done (some c)).pending = some c := by rw [hrc]
      rw [hpe] at hr
      exact ⟨some c, _, hr, hstop c pre _ hSp (hIxb _ _ _ _ hi (lt_of hl)) ((World.putObj_heap_other (by omega)).trans hk)⟩

end RF
namespace RK
open RF

/-- Nothing turns but what X names. -/
structure Keep (X : Nat → Prop) (A B : World) : Prop where
  os : B.os = A.os
  tape : B.tape = A.tape
  output : B.output = A.output
  size : A.heap.size ≤ B.heap.size
  block : ∀ b, b < A.heap.size → ¬ X b → B.heap[b]? = A.heap[b]?
theorem Keep.trans {X : Nat → Prop} {A B C : World} (h : Keep X A B) (k : Keep X B C) : Keep X A C :=
  ⟨k.os.trans h.os, k.tape.trans h.tape, k.output.trans h.output, Nat.le_trans h.size k.size, fun b hb hx => (k.block b (Nat.lt_of_lt_of_le hb h.size) hx).trans (h.block b hb hx)⟩
theorem Keep.below {X : Nat → Prop} {A B : World} {n : Nat} (h : Keep X A B) (hn : n ≤ A.heap.size) (hX : ∀ b, X b → n ≤ b) : Below n A B :=
  ⟨h.os, h.tape, h.output, h.size, fun b hb => h.block b (by omega) (fun x => by have := hX b x; omega)⟩
theorem keep_put {X : Nat → Prop} {A : World} {b : Nat} (o : Obj) (hx : X b) : Keep X A (A.putObj b o) :=
  ⟨rfl, rfl, rfl, by simp, fun c _ hc => World.putObj_heap_other (by rintro rfl; exact hc hx)⟩
theorem keep_set {X : Nat → Prop} {A : World} {a : Addr} (v : Value) (hx : X a.block) : Keep X A (A.setCell a v) :=
  ⟨rfl, rfl, rfl, by simp [World.setCell], fun c _ hc => Below.heap_setCell _ _ _ _ (by rintro rfl; exact hc hx)⟩
theorem keep_of_below {X : Nat → Prop} {A B : World} (h : Below A.heap.size A B) : Keep X A B := ⟨h.os, h.tape, h.output, h.size, fun b hb _ => h.block b hb⟩
theorem Keep.refl {X : Nat → Prop} (A : World) : Keep X A A := ⟨rfl, rfl, rfl, Nat.le_refl _, fun _ _ _ => rfl⟩

theorem Keep.cell {X : Nat → Prop} {A B : World} (h : Keep X A B) {b o : Nat} (hb : b < A.heap.size) (hx : ¬ X b) : B.cell? ⟨b, o, none⟩ = A.cell? ⟨b, o, none⟩ := World.cell?_of_block (a := ⟨b, o, none⟩) (h.block b hb hx)
theorem new_cell (W : World) (v : Value) (t : TypeId) : (W.alloc (.cells #[v] t)).cell? ⟨W.heap.size, 0, none⟩ = some v := by
  have h := heap_alloc_new W (.cells #[v] t)
  simp only [World.cell?, h]
  rfl
/-- A call's contract, met on the way. -/
theorem into {n : Nat} {P : Program} {f : FuncId} {args : Array Value} {w : World} {R' R : Ending → World → Prop} (h : Calls P f args w R') (hm : ∀ e w', R' e w' → R e w') :
    Fence.wide.fn f ∧ (Fence.wide.depth.isSome = true → 1 ≤ n) ∧ CallsIn Fence.wide (n - 1) P f args w R :=
  ⟨trivial, (fun h => (by cases h)), (callsIn_wide.2 h).mono hm⟩
theorem into2 {n : Nat} {P : Program} {f : FuncId} {args : Array Value} {w : World} {R' R : Ending → World → Prop} (h : Calls P f args w R') (hm : ∀ e w', R' e w' → R e w') :
    Fence.wide.fn f ∧ CallsIn Fence.wide n P f args w R := ⟨trivial, (callsIn_wide.2 h).mono hm⟩
/-- A variable of the caller's, in a block of its own; what was there before the call lies as it lay. -/
structure BoxAt (w : World) (c : Nat) (u : Value) (A : World) : Prop where
  cell : A.cell? ⟨c, 0, none⟩ = some u
  thawed : A.frozen? ⟨c, 0, none⟩ = false
  below : Below w.heap.size w A
theorem BoxAt.rel {w A B : World} {c n : Nat} {u : Value} (h : BoxAt w c u A) (hb : Below n A B) (hc : c < n) (hw : w.heap.size ≤ n) : BoxAt w c u B :=
  ⟨(hb.cell (p := ⟨c, 0, none⟩) hc).trans h.cell, (hb.frozen (p := ⟨c, 0, none⟩) hc).trans h.thawed, h.below.trans (hb.mono hw)⟩
theorem below_put {n b : Nat} (A : World) (o : Obj) (hb : n ≤ b) : Below n A (A.putObj b o) :=
  ⟨rfl, rfl, rfl, by simp, fun k hk => World.putObj_heap_other (by omega)⟩
theorem BoxAt.put {w A : World} {c b : Nat} {u : Value} (h : BoxAt w c u A) (o : Obj) (hb : c ≠ b) (hw : w.heap.size ≤ b) : BoxAt w c u (A.putObj b o) := by
  have hh : (A.putObj b o).heap[c]? = A.heap[c]? := World.putObj_heap_other hb
  exact ⟨(World.cell?_of_block (a := ⟨c, 0, none⟩) hh).trans h.cell, (World.frozen?_of_block (a := ⟨c, 0, none⟩) hh).trans h.thawed, h.below.trans (below_put A o hw)⟩
theorem BoxAt.set {w A : World} {c : Nat} {u : Value} (h : BoxAt w c u A) (u' : Value) (hw : w.heap.size ≤ c) : BoxAt w c u' (A.setCell ⟨c, 0, none⟩ u') :=
  ⟨World.cell?_setCell_same' _ _ _ (by rw [h.cell]; rfl), by rw [World.frozen?_setCell]; exact h.thawed, h.below.setCell (p := ⟨c, 0, none⟩) hw _⟩
theorem stay_set {D c : Nat} (A : World) (u : Value) (h1 : c ≠ D) (h2 : c ≠ D + 1) : Stay D A (A.setCell ⟨c, 0, none⟩ u) :=
  ⟨Below.heap_setCell _ _ _ _ (by intro e; exact h1 e.symm), Below.heap_setCell _ _ _ _ (by intro e; exact h2 e.symm)⟩
/-- Two boxes that a call begins with. -/
theorem two_boxes (w : World) (u u' : Value) (t t' : TypeId) : ((w.alloc (.cells #[u] t)).alloc (.cells #[u'] t')).heap.size = w.heap.size + 2 ∧ BoxAt w w.heap.size u ((w.alloc (.cells #[u] t)).alloc (.cells #[u'] t')) ∧
    ((w.alloc (.cells #[u] t)).alloc (.cells #[u'] t')).cell? ⟨w.heap.size + 1, 0, none⟩ = some u' := by
  have hb : Below w.heap.size w ((w.alloc (.cells #[u] t)).alloc (.cells #[u'] t')) := ((Below.refl _ w).alloc (Nat.le_refl _) _).alloc (by simp) _
  have h0 : ((w.alloc (.cells #[u] t)).alloc (.cells #[u'] t')).heap[w.heap.size]? = some (.cells #[u] t) := (Below.heap_alloc _ _ _ (by simp)).trans (heap_alloc_new w _)
  have h1 := new_cell (w.alloc (.cells #[u] t)) u' t'
  rw [World.size_alloc] at h1
  exact ⟨by simp, ⟨by simp [World.cell?, h0], by simp [World.frozen?, h0], hb⟩, h1⟩
theorem BoxAt.other {w A : World} {c d : Nat} {u : Value} (h : BoxAt w c u A) (u' : Value) (hd : c ≠ d) (hw : w.heap.size ≤ d) : BoxAt w c u (A.setCell ⟨d, 0, none⟩ u') :=
  ⟨(World.cell?_setCell_other _ _ _ _ (by intro e; injection e with e _; exact hd e.symm)).trans h.cell, by rw [World.frozen?_setCell]; exact h.thawed, h.below.setCell (p := ⟨d, 0, none⟩) hw _⟩
/-- Three boxes that a call begins with. -/
theorem three_boxes (w : World) (u u' u'' : Value) (t t' t'' : TypeId) : (((w.alloc (.cells #[u] t)).alloc (.cells #[u'] t')).alloc (.cells #[u''] t'')).heap.size = w.heap.size + 3 ∧ BoxAt w w.heap.size u (((w.alloc (.cells #[u] t)).alloc (.cells #[u'] t')).alloc (.cells #[u''] t'')) ∧
    BoxAt w (w.heap.size + 1) u' (((w.alloc (.cells #[u] t)).alloc (.cells #[u'] t')).alloc (.cells #[u''] t'')) ∧ (((w.alloc (.cells #[u] t)).alloc (.cells #[u'] t')).alloc (.cells #[u''] t'')).cell? ⟨w.heap.size + 2, 0, none⟩ = some u'' := by
  obtain ⟨h1, h2, h3⟩ := two_boxes w u u' t t'
  have h4 : ((w.alloc (.cells #[u] t)).alloc (.cells #[u'] t')).heap[w.heap.size + 1]? = some (.cells #[u'] t') := by
    have := heap_alloc_new (w.alloc (.cells #[u] t)) (.cells #[u'] t')
    rwa [World.size_alloc] at this
  generalize (w.alloc (.cells #[u] t)).alloc (.cells #[u'] t') = V at h1 h2 h3 h4 ⊢
  have hb : Below V.heap.size V (V.alloc (.cells #[u''] t'')) := (Below.refl _ V).alloc (Nat.le_refl _) _
  have h5 := new_cell V u'' t''
  rw [h1] at h5
  have hV : BoxAt w (w.heap.size + 1) u' V := ⟨h3, by simp [World.frozen?, h4], h2.below⟩
  exact ⟨by simp [h1], h2.rel hb (by omega) (by omega), hV.rel hb (by omega) (by omega), h5⟩

end RK
end Go.Proofs.Ytkhjbhkbknennaa
