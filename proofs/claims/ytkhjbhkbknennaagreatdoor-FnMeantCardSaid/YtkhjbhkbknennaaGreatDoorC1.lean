/-
  Sums that are closures: what is kept while one runs, and what one does.
-/
import Derived.Test.YtkhjbhkbknennaaGreatDoorS6
import Derived.Shelf.Abstract
namespace Go.Proofs.YtkhjbhkbknennaaGreatDoor
open Go.RowKit Go.Shelf
namespace L2
open S1 L1

/-- Nothing turns but what X names, and the row o; the row is then as it was, or a new one. -/
structure Run (X : Nat → Prop) (A : World) (o : Option Nat) (B : World) (o' : Option Nat) : Prop where
  os : B.os = A.os
  tape : B.tape = A.tape
  output : B.output = A.output
  size : A.heap.size ≤ B.heap.size
  block : ∀ b, b < A.heap.size → ¬ X b → some b ≠ o → B.heap[b]? = A.heap[b]?
  own : o' = none ∨ o' = o ∨ ∃ b, o' = some b ∧ A.heap.size ≤ b
def NoX : Nat → Prop := fun _ => False
theorem Run.refl (X : Nat → Prop) (A : World) (o : Option Nat) : Run X A o A o := ⟨rfl, rfl, rfl, Nat.le_refl _, fun _ _ _ _ => rfl, Or.inr (Or.inl rfl)⟩
theorem Run.trans {X : Nat → Prop} {A B C : World} {o o' o'' : Option Nat} (h : Run X A o B o') (k : Run X B o' C o'') : Run X A o C o'' := by
  refine ⟨k.os.trans h.os, k.tape.trans h.tape, k.output.trans h.output, Nat.le_trans h.size k.size, fun b hb hx ho => ?_, ?_⟩
  · refine (k.block b (Nat.lt_of_lt_of_le hb h.size) hx ?_).trans (h.block b hb hx ho)
    rcases h.own with e | e | ⟨c, e, hc⟩
    · rw [e]; intro e'; cases e'
    · rw [e]; exact ho
    · rw [e]; intro e'; injection e' with e'; omega
  · rcases k.own with e | e | ⟨c, e, hc⟩
    · exact Or.inl e
    · rw [e]; exact h.own
    · exact Or.inr (Or.inr ⟨c, e, Nat.le_trans h.size hc⟩)
theorem Run.wide {X : Nat → Prop} {A B : World} {o o' : Option Nat} (h : Run NoX A o B o') : Run X A o B o' := ⟨h.os, h.tape, h.output, h.size, fun b hb _ ho => h.block b hb (fun x => x) ho, h.own⟩
/-- What the run itself has made needs no name. -/
theorem Run.narrow {X : Nat → Prop} {A B : World} {o o' : Option Nat} (h : Run X A o B o') (hX : ∀ b, X b → A.heap.size ≤ b) : Run NoX A o B o' :=
  ⟨h.os, h.tape, h.output, h.size, fun b hb _ ho => h.block b hb (fun x => by have := hX b x; omega) ho, h.own⟩
/-- Nothing turns but what X names. -/
structure Keeps (X : Nat → Prop) (A B : World) : Prop where
  os : B.os = A.os
  tape : B.tape = A.tape
  output : B.output = A.output
  size : A.heap.size ≤ B.heap.size
  block : ∀ b, b < A.heap.size → ¬ X b → B.heap[b]? = A.heap[b]?
theorem Keeps.refl (X : Nat → Prop) (A : World) : Keeps X A A := ⟨rfl, rfl, rfl, Nat.le_refl _, fun _ _ _ => rfl⟩
theorem Keeps.alloc {X : Nat → Prop} {A B : World} (h : Keeps X A B) (o : Obj) : Keeps X A (B.alloc o) :=
  ⟨h.os, h.tape, h.output, Nat.le_trans h.size (by simp), fun b hb hx => (Below.heap_alloc _ _ _ (Nat.lt_of_lt_of_le hb h.size)).trans (h.block b hb hx)⟩
theorem Keeps.drew {X : Nat → Prop} {A B : World} (h : Keeps X A B) : Keeps X A B.drew := ⟨h.os, h.tape, h.output, h.size, h.block⟩
theorem Keeps.setCell {X : Nat → Prop} {A B : World} (h : Keeps X A B) {p : Addr} (hp : X p.block ∨ A.heap.size ≤ p.block) (u : Value) : Keeps X A (B.setCell p u) :=
  ⟨h.os, h.tape, h.output, Nat.le_trans h.size (by simp [World.setCell]), fun b hb hx => (Below.heap_setCell _ _ _ _ (by rintro rfl; exact hp.elim (fun h => hx h) (fun h => absurd h (by omega)))).trans (h.block b hb hx)⟩
theorem Keeps.below {X : Nat → Prop} {A B C : World} (h : Keeps X A B) (hb : Below B.heap.size B C) : Keeps X A C :=
  ⟨hb.os.trans h.os, hb.tape.trans h.tape, hb.output.trans h.output, Nat.le_trans h.size hb.size, fun b hlt hx => (hb.block b (Nat.lt_of_lt_of_le hlt h.size)).trans (h.block b hlt hx)⟩
theorem keeps_of_below {X : Nat → Prop} {A B : World} (h : Below A.heap.size A B) : Keeps X A B := (Keeps.refl X A).below h
theorem Keeps.trans {X : Nat → Prop} {A B C : World} (h : Keeps X A B) (k : Keeps X B C) : Keeps X A C :=
  ⟨k.os.trans h.os, k.tape.trans h.tape, k.output.trans h.output, Nat.le_trans h.size k.size, fun b hb hx => (k.block b (Nat.lt_of_lt_of_le hb h.size) hx).trans (h.block b hb hx)⟩
theorem Keeps.run {X : Nat → Prop} {A B : World} (h : Keeps X A B) (o : Option Nat) : Run X A o B o := ⟨h.os, h.tape, h.output, h.size, fun b hb hx _ => h.block b hb hx, Or.inr (Or.inl rfl)⟩
/-- What turns behind a run, among what the run itself has made, is nothing new. -/
theorem Run.keeps {X Y : Nat → Prop} {A B C : World} {o o' : Option Nat} (h : Run X A o B o') (k : Keeps Y B C) (hY : ∀ b, Y b → X b ∨ A.heap.size ≤ b) : Run X A o C o' :=
  ⟨k.os.trans h.os, k.tape.trans h.tape, k.output.trans h.output, Nat.le_trans h.size k.size, fun b hb hx ho => (k.block b (Nat.lt_of_lt_of_le hb h.size) (fun y => (hY b y).elim (fun h => hx h) (fun h => absurd h (by omega)))).trans (h.block b hb hx ho), h.own⟩
theorem Run.grown {X : Nat → Prop} {A B C : World} {o o' o'' : Option Nat} (h : Run X A o B o') (hg : B.grownBy C o') (hn : o'' = o' ∨ o'' = some B.heap.size) : Run X A o C o'' :=
  h.trans ⟨hg.os, hg.tape, hg.output, hg.size, fun b hb _ ho => hg.block b hb ho, Or.inr (hn.elim (fun e => Or.inl e) (fun e => Or.inr ⟨_, e, Nat.le_refl _⟩))⟩
theorem Run.cell {X : Nat → Prop} {A B : World} {o o' : Option Nat} (h : Run X A o B o') {b i : Nat} (hb : b < A.heap.size) (hx : ¬ X b) (ho : some b ≠ o) : B.cell? ⟨b, i, none⟩ = A.cell? ⟨b, i, none⟩ := World.cell?_of_block (a := ⟨b, i, none⟩) (h.block b hb hx ho)
theorem Run.frozen {X : Nat → Prop} {A B : World} {o o' : Option Nat} (h : Run X A o B o') {b i : Nat} (hb : b < A.heap.size) (hx : ¬ X b) (ho : some b ≠ o) : B.frozen? ⟨b, i, none⟩ = A.frozen? ⟨b, i, none⟩ := World.frozen?_of_block (a := ⟨b, i, none⟩) (h.block b hb hx ho)
theorem Run.apart {X : Nat → Prop} {A B : World} {o o' : Option Nat} (h : Run X A o B o') {n b : Nat} (ho : ∀ b, o = some b → b < n) (h1 : n ≤ b) (h2 : b < A.heap.size) : o' ≠ some b := by
  intro e
  rcases h.own with h' | h' | ⟨c, h', hc⟩
  · rw [h'] at e; cases e
  · rw [h'] at e; have := ho _ e; omega
  · rw [h'] at e; injection e with e; omega
/-- The blocks from lo on, and below hi. -/
def Mine (lo hi : Nat) : Nat → Prop := fun b => lo ≤ b ∧ b < hi
theorem Run.below {X : Nat → Prop} {w0 A B : World} {o o' : Option Nat} (h : Run X A o B o') (hB : Below w0.heap.size w0 A) (hX : ∀ b, X b → w0.heap.size ≤ b) (ho : ∀ b, o = some b → w0.heap.size ≤ b) : Below w0.heap.size w0 B :=
  hB.trans ⟨h.os, h.tape, h.output, h.size, fun b hb => h.block b (Nat.lt_of_lt_of_le hb hB.size) (fun x => by have := hX b x; omega) (fun e => by have := ho b e.symm; omega)⟩

/-- A cell of a box that a closure captures. -/
structure Box (W : World) (ow : Option Nat) (b i : Nat) (u : Value) : Prop where
  cell : W.cell? ⟨b, i, none⟩ = some u
  lt : b < W.heap.size
  ne : some b ≠ ow
theorem Box.later {W W' : World} {ow o' : Option Nat} {b i : Nat} {u : Value} (h : Box W ow b i u) (hr : Run NoX W ow W' o') : Box W' o' b i u := by
  refine ⟨(hr.cell h.lt (fun x => x) h.ne).trans h.cell, Nat.lt_of_lt_of_le h.lt hr.size, ?_⟩
  rcases hr.own with e | e | ⟨c, e, hc⟩
  · rw [e]; intro e'; cases e'
  · rw [e]; exact h.ne
  · rw [e]; intro e'; injection e' with e'; have := h.lt; omega
theorem Box.new {W A : World} {ow : Option Nat} {j i : Nat} {u : Value} (h : A.cell? ⟨W.heap.size + j, i, none⟩ = some u) (hj : W.heap.size + j < A.heap.size) (ho : ∀ b, ow = some b → b < W.heap.size) : Box A ow (W.heap.size + j) i u :=
  ⟨h, hj, fun e => by have := ho _ e.symm; omega⟩

/-- How it stands while a sum is being done: w0 is where all began; v holds what was said. -/
structure Here (w0 W : World) (v : Value) (sd : List ByteArray) : Prop where
  below : Below w0.heap.size w0 W
  own : W.ownsRow w0.heap.size 9 1 v sd.length (sd.map Value.string)
theorem Here.lt {w0 W : World} {v : Value} {sd : List ByteArray} (h : Here w0 W v sd) {b : Nat} (hb : v.ownBlock = some b) : w0.heap.size ≤ b ∧ b < W.heap.size := h.own.lt b hb
theorem Here.keeps {X : Nat → Prop} {w0 A B : World} {v : Value} {sd : List ByteArray} (h : Here w0 A v sd) (k : Keeps X A B) (hX : ∀ b, X b → w0.heap.size ≤ b) (hv : ∀ b, X b → v.ownBlock ≠ some b) : Here w0 B v sd := by
  refine ⟨(k.run none).below h.below hX (fun b e => by cases e), ?_⟩
  obtain ⟨h1, h2⟩ := h.own
  refine ⟨h1, ?_⟩
  rcases h2 with hn | ⟨g, cap, cur, rfl, hb, hg, rest⟩
  · exact Or.inl hn
  · refine Or.inr ⟨g, cap, cur, rfl, hb, ?_, rest⟩
    rw [k.block g (Array.getElem?_eq_some_iff.1 hg).1 (fun x => hv g x rfl)]
    exact hg
theorem Here.step {w0 A B : World} {v : Value} {sd : List ByteArray} (h : Here w0 A v sd) (hb : Below A.heap.size A B) : Here w0 B v sd :=
  h.keeps (X := NoX) (keeps_of_below hb) (fun _ x => x.elim) (fun _ x => x.elim)
/-- A slice, whatever it holds. -/
theorem Here.slice {w0 W : World} {v : Value} {sd : List ByteArray} (h : Here w0 W v sd) : ∃ a c, v = .slice a sd.length c ∧ sd.length ≤ c ∧ c ≤ maxLen := by
  rcases h.own.2 with ⟨rfl, h0⟩ | ⟨g, cap, cur, rfl, _, _, h1, h2, _⟩
  · exact ⟨none, 0, by rw [h0], by omega, by unfold maxLen; omega⟩
  · exact ⟨_, cap, rfl, h1, h2⟩

/-- What a sum comes to, as the program has it. -/
def meanV (o : Out) (v : Value) : Value := .agg #[.int .i64 o.k, .int .i64 o.n, .bool o.thr, v, .int .i64 o.code]
/-- What a sum finds. -/
def scnV (k n : Int) (av v : Value) : Value := .agg #[.int .i64 k, .int .i64 n, av, v]
/-- What is done when a sum is done. -/
def Did (X : Nat → Prop) (w0 W : World) (ow : Option Nat) (out : Out) (e : Ending) (W' : World) : Prop :=
  ∃ v', e = .returned (meanV out v') ∧ Here w0 W' v' out.said ∧ Run X W ow W' v'.ownBlock

/-- What a call lays down in its own boxes at its end changes nothing of what is done. -/
theorem did_end {X : Nat → Prop} {w0 W w1 Wf : World} {ow : Option Nat} {v : Value} {out : Out} {lo hi : Nat} (hH : Here w0 w1 v out.said) (hR : Run X W ow w1 v.ownBlock) (hk : Keeps (Mine lo hi) w1 Wf) (hlo : W.heap.size ≤ lo) (hw : w0.heap.size ≤ lo) (hap : ∀ b, lo ≤ b → b < hi → v.ownBlock ≠ some b) :
    Did X w0 W ow out (.returned (meanV out v)) Wf :=
  ⟨v, rfl, hH.keeps hk (fun b hb => Nat.le_trans hw hb.1) (fun b hb => hap b hb.1 hb.2), hR.keeps hk (fun b hb => Or.inr (Nat.le_trans hlo hb.1))⟩
/-- Behind a call that a call makes: what is known of its own boxes, from lo on and below hi. -/
theorem came_back {X : Nat → Prop} {w0 W w1 Wb : World} {ow : Option Nat} {v1 : Value} {sd1 : List ByteArray} {out : Out} {lo hi : Nat} (hH : Here w0 w1 v1 sd1) (hR : Run X W ow w1 v1.ownBlock) (hk : Keeps (Mine lo hi) w1 Wb)
    (hlo : W.heap.size ≤ lo) (hhi : hi ≤ Wb.heap.size) (hap : ∀ b, lo ≤ b → b < hi → v1.ownBlock ≠ some b) (hX : ∀ b, X b → b < lo ∨ hi ≤ b) {e : Ending} {w' : World} (hd : Did X w0 Wb v1.ownBlock out e w') :
    ∃ v', e = .returned (meanV out v') ∧ Here w0 w' v' out.said ∧ Run X W ow w' v'.ownBlock ∧ (∀ b i, lo ≤ b → b < hi → w'.cell? ⟨b, i, none⟩ = Wb.cell? ⟨b, i, none⟩ ∧ w'.frozen? ⟨b, i, none⟩ = Wb.frozen? ⟨b, i, none⟩) ∧ (∀ b, lo ≤ b → b < hi → v'.ownBlock ≠ some b) ∧ Wb.heap.size ≤ w'.heap.size := by
  obtain ⟨v', he, hH', hR'⟩ := hd
  refine ⟨v', he, hH', (hR.keeps hk (fun b hb => Or.inr (Nat.le_trans hlo hb.1))).trans hR', fun b i h1 h2 => ?_, fun b h1 h2 e => ?_, hR'.size⟩
  · have hx : ¬ X b := fun x => by have := hX b x; omega
    have hn : some b ≠ v1.ownBlock := fun e => hap b h1 h2 e.symm
    exact ⟨hR'.cell (by omega) hx hn, hR'.frozen (by omega) hx hn⟩
  · rcases hR'.own with h' | h' | ⟨c, h', hc⟩
    · rw [h'] at e; cases e
    · rw [h'] at e; exact hap b h1 h2 e
    · rw [h'] at e; injection e with e; omega
/-- What is bound to a number, and whether anything is. -/
def lookV (y : List UInt8) (bd : Bd) : (Int × Int) × Bool := match lookB y bd with
  | none => ((0, 0), false)
  | some v => (v, true)
/-- A function that knows what is bound. -/
def AskedAt (W : World) (ow : Option Nat) (fv : Value) (bd : Bd) : Prop :=
  ∃ (g : Nat) (lb : Array Value), fv = .func (.func g) #[] lb ∧ Enters Tryz.prog g ∧ ∀ W' o', Run NoX W ow W' o' → ∀ y : ByteArray,
    Calls Tryz.prog g (#[.string y] ++ lb) W' fun e w' => e = .returned (.tuple #[.agg #[.int .i64 (lookV y.toList bd).1.1, .int .i64 (lookV y.toList bd).1.2], .bool (lookV y.toList bd).2]) ∧ Below W'.heap.size W' w'
theorem AskedAt.later {W W' : World} {ow o' : Option Nat} {fv : Value} {bd : Bd} (h : AskedAt W ow fv bd) (hr : Run NoX W ow W' o') : AskedAt W' o' fv bd := by
  obtain ⟨g, lb, e, hg, hc⟩ := h
  exact ⟨g, lb, e, hg, fun W1 o1 h1 => hc W1 o1 (hr.trans h1)⟩
/-- What a sum is asked with. -/
structure Asks (w0 W : World) (k n : Int) (av : Value) (bd : Bd) (v : Value) (sd : List ByteArray) : Prop where
  here : Here w0 W v sd
  ok : okB k n = true
  asked : AskedAt W v.ownBlock av bd
  bound : GoodB bd
  len : sd.length ≤ 40
  short : Short sd
theorem Asks.step {w0 W W' : World} {k n : Int} {av : Value} {bd : Bd} {v : Value} {sd : List ByteArray} (h : Asks w0 W k n av bd v sd) (hb : Below W.heap.size W W') : Asks w0 W' k n av bd v sd :=
  ⟨h.here.step hb, h.ok, h.asked.later ((keeps_of_below hb).run _), h.bound, h.len, h.short⟩
/-- A function that is a sum ready to be done. -/
def DeedAt (w0 W : World) (ow : Option Nat) (fv : Value) (d : Deed) : Prop :=
  ∃ (g : Nat) (lb : Array Value), fv = .func (.func g) #[] lb ∧ Enters Tryz.prog g ∧ ∀ W' k n av bd v sd, Run NoX W ow W' v.ownBlock → Asks w0 W' k n av bd v sd →
    Calls Tryz.prog g (#[scnV k n av v] ++ lb) W' (Did NoX w0 W' v.ownBlock (d k n bd sd))
theorem DeedAt.later {w0 W W' : World} {ow o' : Option Nat} {fv : Value} {d : Deed} (h : DeedAt w0 W ow fv d) (hr : Run NoX W ow W' o') : DeedAt w0 W' o' fv d := by
  obtain ⟨g, lb, e, hg, hc⟩ := h
  exact ⟨g, lb, e, hg, fun W1 k n av bd v sd h1 => hc W1 k n av bd v sd (hr.trans h1)⟩
/-- A function that goes on with what a sum was worth, in the scene (k, n, av). -/
def NextAt (X : Nat → Prop) (w0 W : World) (ow : Option Nat) (fv : Value) (k n : Int) (av : Value) (f : Int → Int → List ByteArray → Out) : Prop :=
  ∃ (g : Nat) (lb : Array Value), fv = .func (.func g) #[] lb ∧ Enters Tryz.prog g ∧ ∀ W' a b v sd, Run NoX W ow W' v.ownBlock → Here w0 W' v sd → okB a b = true → sd.length ≤ 40 → Short sd →
    Calls Tryz.prog g (#[.agg #[.int .i64 a, .int .i64 b], scnV k n av v] ++ lb) W' (Did X w0 W' v.ownBlock (f a b sd))

theorem NextAt.later {X : Nat → Prop} {w0 W W' : World} {ow o' : Option Nat} {fv : Value} {k n : Int} {av : Value} {f : Int → Int → List ByteArray → Out} (h : NextAt X w0 W ow fv k n av f) (hr : Run NoX W ow W' o') : NextAt X w0 W' o' fv k n av f := by
  obtain ⟨g, lb, e, hg, hc⟩ := h
  exact ⟨g, lb, e, hg, fun W1 a b v sd h1 => hc W1 a b v sd (hr.trans h1)⟩
/-- A function that makes one value of two, or none. -/
def WorthAt (gv : Value) (f : Wth) : Prop :=
  ∃ (g : Nat), gv = .func (.func g) #[] #[] ∧ Enters Tryz.prog g ∧ ∀ (W : World) (a b c d : Int), okB a b = true → okB c d = true →
    Calls Tryz.prog g #[.agg #[.int .i64 a, .int .i64 b], .agg #[.int .i64 c, .int .i64 d]] W fun e W' => e = .returned (.tuple #[.agg #[.int .i64 (f a b c d).1.1, .int .i64 (f a b c d).1.2], .bool (f a b c d).2]) ∧ Below W.heap.size W W'

end L2
end Go.Proofs.YtkhjbhkbknennaaGreatDoor
