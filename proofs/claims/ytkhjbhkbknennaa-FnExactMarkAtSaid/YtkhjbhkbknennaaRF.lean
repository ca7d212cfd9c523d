/-
  A range over a function whose iterator keeps cells of its own between two rounds: one law, said with what the iterator may do (Rel) and what a round keeps for it (Kp).
-/
import Derived.Test.YtkhjbhkbknennaaChecked
import Derived.RangeFuncNested
import Derived.RangeFuncBound
import Derived.RangeFuncCalls
import Derived.RangeFuncLeaves
import Derived.Shelf.Abstract
import Derived.Shelf.RegionOpen
import Derived.WalkKit
import Derived.OwnWalkIn
import Derived.TacticsInMore
import Derived.LoopNIn
import Derived.LoopIn
namespace Go.Proofs.Ytkhjbhkbknennaa
open Go.RowKit Go.Shelf
namespace RF

/-- What an iterator does with whatever loop: it hands over some, in order, and keeps the caller's word; or it stops where a round has said so. -/
def SeqOf {α : Type} (F : Fence) (n : Nat) (P : Program) (g : Nat) (lb : Array Value) (encs : α → Array Value) (Rel Kp : World → World → Prop) (S Sp : List α → Prop) (N : Nat) (w : World) : Prop :=
  ∀ (l : Nat) (J Jx : List α → World → Prop), (∀ s A B, J s A → Rel A B → J s B) → (∀ s A B, Jx s A → Rel A B → Jx s B) →
    (∀ pre x W, J pre W → pre.length < N → YieldAt F (n - 1) P l (encs x) W fun e W' =>
      (e = .returned (.bool true) ∧ J (pre ++ [x]) W' ∧ Kp W W') ∨ (e = .returned (.bool false) ∧ Jx (pre ++ [x]) W')) →
    J [] w →
    CallsIn F n P g (#[.func (.yield l) #[] #[]] ++ lb) w fun e W' => (∃ v, e = .returned v) ∧ ((∃ xs, S xs ∧ J xs W') ∨ (∃ pre, Sp pre ∧ Jx pre W'))

/-- The loop's own two blocks lie as they lay. -/
def Stay (D : Nat) (W W' : World) : Prop := W'.heap[D]? = W.heap[D]? ∧ W'.heap[D + 1]? = W.heap[D + 1]?
/-- How the body of a round may be left. -/
def bodyP {α : Type} (D : Nat) (Kp : World → World → Prop) (I : List α → World → Prop) (Ix : Code → List α → World → Prop) (xs : List α) (W : World) : Exit → Act → World → Prop
  | .normal, _, W' => Stay D W W' ∧ Kp W W' ∧ I xs W'
  | .ret, _, W' => Stay D W W' ∧ Ix .ret xs W'
  | .exit id, _, W' => Stay D W W' ∧ Ix (.exit id) xs W'
  | .goto t, _, W' => Stay D W W' ∧ Ix (.goto t) xs W'
  | .panic _, _, _ => False
  | .outgrown, _, _ => False

theorem range_law {F : Fence} {n : Nat} {P : Program} {α : Type} {g : Operand} {ps : Array Tmp} {assign body : Code} {Q : Exit → Act → World → Prop} {a : Act} {w : World}
    (hro : F.round = none) (h1 : 1 ≤ n) {gf : Nat} {lb : Array Value} (hg : a.eval g = .func (.func gf) #[] lb) (hFg : F.fn gf) (eg : ∀ args w, (callFunc gf args).run P w = .ok (.enter gf args) w)
    {encs : α → Array Value} {Rel Kp : World → World → Prop} {S Sp : List α → Prop} {N : Nat}
    (hseq : ∀ o o', SeqOf F (n - 1) P gf lb encs Rel Kp S Sp N ((w.alloc o).alloc o'))
    (hRel : ∀ A B b o, Rel A B → b = w.heap.size ∨ b = w.heap.size + 1 → A.heap[b]? = some o → B.heap[b]? = some o)
    (hKt : ∀ A B C, Kp A B → Kp B C → Kp A C) (hKb : ∀ W o, w.heap.size + 1 < W.heap.size → Kp W (W.putObj (w.heap.size + 1) o))
    (hps : ∀ x, (encs x).size = ps.size)
    (I : List α → World → Prop) (Ix : Code → List α → World → Prop)
    (hI : ∀ s A B, I s A → Rel A B → I s B) (hIx : ∀ c s A B, Ix c s A → Rel A B → Ix c s B)
    (hIb : ∀ s W o, I s W → w.heap.size + 1 < W.heap.size → I s (W.putObj (w.heap.size + 1) o))
    (hIxb : ∀ c s W o, Ix c s W → w.heap.size + 1 < W.heap.size → Ix c s (W.putObj (w.heap.size + 1) o))
    (h0 : ∀ o o', I [] ((w.alloc o).alloc o')) (a₁ : α → Act)
    (hassign : ∀ (l : Nat) (x : α) (W : World) (K : Act → World → Prop), K (a₁ x) W →
      assign.wpIn (F.inRound l) (n - 1 - 1) P (Exit.then K (fun _ _ _ => False)) { tmps := (ps.zip (encs x)).foldl (fun t (p, v) => t.setIfInBounds p v) a.tmps, defers := [] } W)
    (hbody : ∀ (l : Nat) (pre : List α) (x : α) (W : World), I pre W → pre.length < N → w.heap.size + 1 < W.heap.size → body.wpIn (F.inRound l) (n - 1 - 1) P (bodyP w.heap.size Kp I Ix (pre ++ [x]) W) (a₁ x) W)
    (hdone : ∀ (xs : List α) (W : World), S xs → I xs W → W.heap[w.heap.size]? = some (.deferred (some [])) → Q .normal { a with defers := { target := .collected w.heap.size, args := #[] } :: a.defers } W)
    (hstop : ∀ (c : Code) (pre : List α) (W : World), Sp pre → Ix c pre W → W.heap[w.heap.size]? = some (.deferred (some [])) → c.wpIn F n P Q { a with defers := { target := .collected w.heap.size, args := #[] } :: a.defers } W) :
    (Code.rangeFunc g ps assign body).wpIn F n P Q a w := by
  refine wpIn_rangeFunc fun fn hfn => ?_
  rw [hro]
  obtain ⟨rc, hrc⟩ : ∃ rc : LoopState → Option Code → Loop, ∀ st pe, rc st pe = { state := st, pending := pe, fn := fn, tmps := a.tmps, params := ps, assign := assign, body := body, defers := w.heap.size } := ⟨_, fun _ _ => rfl⟩
  have size1 : ((w.alloc (.deferred (some []))).alloc (.loop (rc .ready none))).heap.size = w.heap.size + 2 := by simp
  have blk1 : ((w.alloc (.deferred (some []))).alloc (.loop (rc .ready none))).heap[w.heap.size + 1]? = some (.loop (rc .ready none)) := by
    have := World.alloc_heap_new (w.alloc (.deferred (some []))) (.loop (rc .ready none))
    rwa [World.size_alloc] at this
  have blk0 : ((w.alloc (.deferred (some []))).alloc (.loop (rc .ready none))).heap[w.heap.size]? = some (.deferred (some [])) :=
    (Below.heap_alloc _ _ _ (by simp)).trans (World.alloc_heap_new w _)
  refine ⟨w.heap.size + 1, [{ target := .collected w.heap.size, args := #[] }], (w.alloc (.deferred (some []))).alloc (.loop (rc .ready none)), { target := .fn (.func gf) lb, args := #[.func (.yield (w.heap.size + 1)) #[] #[]] }, (w.alloc (.deferred (some []))).alloc (.loop (rc .ready none)), gf,
    #[.func (.yield (w.heap.size + 1)) #[] #[]] ++ lb, (w.alloc (.deferred (some []))).alloc (.loop (rc .ready none)), by rw [run_enterLoop_outer, ← hrc], ?_, ?_, ?_, fun _ => h1, ?_⟩
  · simp only [resolve, hg]
    simp [go_sem]
  · intro f' hf'
    simp [Target.leads] at hf'
    subst hf'
    exact hFg
  · simp [invoke, go_sem, eg]
  have lt_of : ∀ {W : World} {b : Nat} {o : Obj}, W.heap[b]? = some o → b < W.heap.size := fun h => (Array.getElem?_eq_some_iff.1 h).1
  refine (hseq _ _ (w.heap.size + 1)
    (fun pre W => I pre W ∧ W.heap[w.heap.size + 1]? = some (.loop (rc .ready none)) ∧ W.heap[w.heap.size]? = some (.deferred (some [])))
    (fun pre W => ∃ c, Ix c pre W ∧ W.heap[w.heap.size + 1]? = some (.loop (rc .done (some c))) ∧ W.heap[w.heap.size]? = some (.deferred (some [])))
    (fun s A B h hr => ⟨hI s A B h.1 hr, hRel A B _ _ hr (Or.inr rfl) h.2.1, hRel A B _ _ hr (Or.inl rfl) h.2.2⟩)
    (fun s A B h hr => by
      obtain ⟨c, hc, hl, hk⟩ := h
      exact ⟨c, hIx c s A B hc hr, hRel A B _ _ hr (Or.inr rfl) hl, hRel A B _ _ hr (Or.inl rfl) hk⟩)
    ?_ ⟨h0 _ _, blk1, blk0⟩).mono ?_
  · rintro pre x W ⟨hi, hl, hk⟩ hlen
    have hlt := lt_of hl
    have hy := run_yield (P := P) (args := encs x) hl (by rw [hrc]; exact hps x)
    rw [hrc] at hy
    have hbr := run_beginRound (P := P) hl (by rw [hrc])
    have hbusy : ({ rc .ready none with state := .busy } : Loop) = rc .busy none := by rw [hrc, hrc]
    rw [hbusy] at hbr
    refine ⟨fn, _, assign, body, hy, roundIn_of_wpIn hfn (hassign _ x W _ ⟨_, hbr, ?_⟩)⟩
    have l2 : (W.putObj (w.heap.size + 1) (.loop (rc .busy none))).heap[w.heap.size + 1]? = some (.loop (rc .busy none)) := World.putObj_heap_same hlt
    have k2 : (W.putObj (w.heap.size + 1) (.loop (rc .busy none))).heap[w.heap.size]? = some (.deferred (some [])) := (World.putObj_heap_other (by omega)).trans hk
    refine wpIn_mono (hbody _ pre x _ (hIb _ _ _ hi hlt) hlen (by rw [World.putObj_size]; exact hlt)) ?_
    have fin : ∀ (jump : Option Code) (V : World), Stay w.heap.size (W.putObj (w.heap.size + 1) (.loop (rc .busy none))) V →
        ∃ V', (Instr.endRound (w.heap.size + 1) jump).run P V = .ok (.bool jump.isNone) V' ∧ V' = V.putObj (w.heap.size + 1) (.loop (rc (if jump.isNone then .ready else .done) jump)) ∧ w.heap.size + 1 < V.heap.size ∧
          V'.heap[w.heap.size + 1]? = some (.loop (rc (if jump.isNone then .ready else .done) jump)) ∧ V'.heap[w.heap.size]? = some (.deferred (some [])) := fun jump V hs => by
      have l3 := hs.2.trans l2
      have k3 := hs.1.trans k2
      have hr := run_endRound (P := P) jump l3
      have he : ({ rc .busy none with state := if jump.isNone then .ready else .done, pending := jump } : Loop) = rc (if jump.isNone then .ready else .done) jump := by rw [hrc, hrc]
      rw [he] at hr
      exact ⟨_, hr, rfl, lt_of l3, World.putObj_heap_same (lt_of l3), (World.putObj_heap_other (by omega)).trans k3⟩
    rintro e a3 V hp
    cases e with
    | normal =>
      obtain ⟨hs, hkp, hi3⟩ := hp
      obtain ⟨V', hr, rfl, hlt3, hl4, hk4⟩ := fin none V hs
      exact ⟨_, _, hr, Or.inl ⟨rfl, ⟨hIb _ _ _ hi3 hlt3, hl4, hk4⟩, hKt _ _ _ (hKt _ _ _ (hKb W _ hlt) hkp) (hKb V _ hlt3)⟩⟩
    | ret =>
      obtain ⟨hs, hi3⟩ := hp
      obtain ⟨V', hr, rfl, hlt3, hl4, hk4⟩ := fin (some .ret) V hs
      exact ⟨_, _, hr, Or.inr ⟨rfl, .ret, hIxb _ _ _ _ hi3 hlt3, hl4, hk4⟩⟩
    | exit id =>
      obtain ⟨hs, hi3⟩ := hp
      obtain ⟨V', hr, rfl, hlt3, hl4, hk4⟩ := fin (some (.exit id)) V hs
      exact ⟨_, _, hr, Or.inr ⟨rfl, .exit id, hIxb _ _ _ _ hi3 hlt3, hl4, hk4⟩⟩
    | goto t =>
      obtain ⟨hs, hi3⟩ := hp
      obtain ⟨V', hr, rfl, hlt3, hl4, hk4⟩ := fin (some (.goto t)) V hs
      exact ⟨_, _, hr, Or.inr ⟨rfl, .goto t, hIxb _ _ _ _ hi3 hlt3, hl4, hk4⟩⟩
    | panic ch => exact hp.elim
    | outgrown => exact hp.elim
  · rintro e V ⟨⟨v, rfl⟩, (⟨xs, hS, hi, hl, hk⟩ | ⟨pre, hSp, c, hi, hl, hk⟩)⟩
    · have hr := run_endLoop (P := P) hl (by rw [hrc]; simp)
      have hpe : (rc .ready none).pending = none := by rw [hrc]
      rw [hpe] at hr
      exact ⟨none, _, hr, hdone xs _ hS (hIb _ _ _ hi (lt_of hl)) ((World.putObj_heap_other (by omega)).trans hk)⟩
    · have hr := run_endLoop (P := P) hl (by rw [hrc]; simp)
      have hpe : (rc .done (some c)).pending = some c := by rw [hrc]
      rw [hpe] at hr
      exact ⟨some c, _, hr, hstop c pre _ hSp (hIxb _ _ _ _ hi (lt_of hl)) ((World.putObj_heap_other (by omega)).trans hk)⟩

end RF
end Go.Proofs.Ytkhjbhkbknennaa
