/-
  What goes on behind a first sum, and the sums that have none (written by wip/gen_c5.py).
-/
import Derived.Test.YtkhjbhkbknennaaGreatDoorC4
namespace Go.Proofs.YtkhjbhkbknennaaGreatDoor
open Go.RowKit Go.Shelf
namespace L2
open S1 L1

theorem did_below {w0 W Wf : World} {v : Value} {sd : List ByteArray} {out : Out} (hH : Here w0 W v sd) (hs : out.said = sd) (hb : Below W.heap.size W Wf) : Did NoX w0 W v.ownBlock out (.returned (meanV out v)) Wf :=
  ⟨v, rfl, by rw [hs]; exact hH.step hb, (keeps_of_below hb).run _⟩
theorem did_wrong {X : Nat → Prop} {w0 W Wf : World} {ow : Option Nat} {c : Int} (h0 : Below w0.heap.size w0 W) (hb : Below W.heap.size W Wf) : Did X w0 W ow (wrong c) (.returned (meanV (wrong c) (.slice none 0 0))) Wf :=
  ⟨_, rfl, ⟨h0.trans (hb.mono h0.size), World.ownsRow_nil _ _ _ _⟩, hb.os, hb.tape, hb.output, hb.size, fun b h _ _ => hb.block b h, Or.inl rfl⟩

set_option maxRecDepth 100000 in
set_option maxHeartbeats 2000000 in
/-- What was worth something is thrown. -/
theorem throw_next {w0 W : World} {ow : Option Nat} {k n : Int} {av : Value} {bd : Bd} (hk : okB k n = true) (hA0 : AskedAt W ow av bd) (hB0 : GoodB bd) :
    NextAt NoX w0 W ow (.func (.func 131) #[] #[]) k n av (fun a b sd => ⟨a, b, true, sd, 0⟩) := by
  refine ⟨_, _, rfl, (enters_of Tryz.func131 (by kernel_rfl) rfl), fun W' a b v sd hrun hH hok hln hsh => ?_⟩
  have hA : Asks w0 W' k n av bd v sd := ⟨hH, hk, hA0.later hrun, hB0, hln, hsh⟩
  obtain ⟨ga, lba, rfl, -, -⟩ := hA.asked
  obtain ⟨oa, cp, rfl, hl1, hl2⟩ := hA.here.slice
  have hlt : ∀ b, (Value.slice oa sd.length cp).ownBlock = some b → b < W'.heap.size := fun b e => (hA.here.lt e).2
  have HW0 := Lib.hid hA.here.below.size
  have HH0 := Lib.hid hA.here
  have HLT := Lib.hid hlt
  have HAP0 := Lib.hid (show ∀ b, W'.heap.size ≤ b → b < W'.heap.size + 3 → (Value.slice oa sd.length cp).ownBlock ≠ some b from fun b h1 _ e => by have := hlt b e; omega)
  show Calls Tryz.prog 131 #[.agg #[.int .i64 a, .int .i64 b], scnV k n (.func (.func ga) #[] lba) (.slice oa sd.length cp)] W' _
  generalize sd.length = len at *
  unfold maxLen at hl2
  unfold scnV
  clear hA hH hrun hA0 hlt
  go_enter Tryz.func131, Tryz.ntmps131
  go_wp2_with fail
  refine (thrown_any k n a b ga lba oa len cp _).mono ?_
  rintro e w1 ⟨rfl, hb1⟩
  have hs1 := hb1.size
  obtain ⟨hc1, hf1⟩ := bcell hb1
  try simp at hs1
  have z10 : W'.heap.size < w1.heap.size := by omega
  have z11 : W'.heap.size + 1 < w1.heap.size := by omega
  have z12 : W'.heap.size + 2 < w1.heap.size := by omega
  go_wp2_with fail
  refine bodyPost_ret (v := .agg #[.int .i64 a, .int .i64 b, .bool true, .slice oa len cp, .int .i64 0]) (by simp [results, Tryz.results131, go_sem, *]) rfl ?_
  refine did_below HH0.out rfl ?_
  clear hc1 hf1
  (repeat (first | (with_reducible refine Below.alloc ?_ ?_ _) | (with_reducible refine Below.setCell ?_ ?_ _) | (with_reducible refine Below.drew ?_) | (with_reducible exact Below.refl _ _) | (with_reducible refine Below.trans ?_ (Below.mono (by assumption) ?_)))) <;> (first | omega | (dsimp only; omega) | (simp; done) | (simp; omega) | (simp at *; omega))

set_option maxRecDepth 100000 in
set_option maxHeartbeats 2000000 in
/-- What is given. -/
theorem arg_deed (w0 W : World) (ow : Option Nat) : DeedAt w0 W ow (.func (.func 79) #[] #[]) argD := by
  refine ⟨_, _, rfl, (enters_of Tryz.func79 (by kernel_rfl) rfl), fun W' k n av bd v sd hrun hA => ?_⟩
  obtain ⟨ga, lba, rfl, -, -⟩ := hA.asked
  obtain ⟨oa, cp, rfl, hl1, hl2⟩ := hA.here.slice
  have hlt : ∀ b, (Value.slice oa sd.length cp).ownBlock = some b → b < W'.heap.size := fun b e => (hA.here.lt e).2
  have HW0 := Lib.hid hA.here.below.size
  have HH0 := Lib.hid hA.here
  have HLT := Lib.hid hlt
  have HAP0 := Lib.hid (show ∀ b, W'.heap.size ≤ b → b < W'.heap.size + 2 → (Value.slice oa sd.length cp).ownBlock ≠ some b from fun b h1 _ e => by have := hlt b e; omega)
  show Calls Tryz.prog 79 #[scnV k n (.func (.func ga) #[] lba) (.slice oa sd.length cp)] W' (Did NoX w0 W' _ ⟨k, n, false, sd, 0⟩)
  generalize sd.length = len at *
  unfold maxLen at hl2
  unfold scnV
  clear hA hrun hlt
  go_enter Tryz.func79, Tryz.ntmps79
  go_wp2_with fail
  refine (worth_any k n k n ga lba oa len cp _).mono ?_
  rintro e w1 ⟨rfl, hb1⟩
  have hs1 := hb1.size
  obtain ⟨hc1, hf1⟩ := bcell hb1
  try simp at hs1
  have z10 : W'.heap.size < w1.heap.size := by omega
  have z11 : W'.heap.size + 1 < w1.heap.size := by omega
  go_wp2_with fail
  refine bodyPost_ret (v := .agg #[.int .i64 k, .int .i64 n, .bool false, .slice oa len cp, .int .i64 0]) (by simp [results, Tryz.results79, go_sem, *]) rfl ?_
  refine did_below HH0.out rfl ?_
  clear hc1 hf1
  (repeat (first | (with_reducible refine Below.alloc ?_ ?_ _) | (with_reducible refine Below.setCell ?_ ?_ _) | (with_reducible refine Below.drew ?_) | (with_reducible exact Below.refl _ _) | (with_reducible refine Below.trans ?_ (Below.mono (by assumption) ?_)))) <;> (first | omega | (dsimp only; omega) | (simp; done) | (simp; omega) | (simp at *; omega))

set_option maxRecDepth 100000 in
set_option maxHeartbeats 2000000 in
/-- What is bound to a number. -/
theorem ask_deed {w0 W : World} {ow : Option Nat} {p : Nat} {y : ByteArray} (hp : Box W ow p 0 (.string y)) : DeedAt w0 W ow (.func (.func 112) #[] #[.pointer (some ⟨p, 0, none⟩)]) (askD y.toList) := by
  refine ⟨_, _, rfl, (enters_of Tryz.func112 (by kernel_rfl) rfl), fun W' k n av bd v sd hrun hA => ?_⟩
  obtain ⟨c1, l1, -⟩ := hp.later hrun
  obtain ⟨ga, lba, rfl, hE, hca⟩ := hA.asked
  obtain ⟨oa, cp, rfl, hl1, hl2⟩ := hA.here.slice
  have HH0 := Lib.hid hA.here
  have HC := Lib.hid (fun W2 (hb : Below W'.heap.size W' W2) => hca W2 _ ((keeps_of_below hb).run _) y)
  show Calls Tryz.prog 112 #[scnV k n (.func (.func ga) #[] lba) (.slice oa sd.length cp), .pointer (some ⟨p, 0, none⟩)] W' (Did NoX w0 W' _ (askD y.toList k n bd sd))
  have e : askD y.toList k n bd sd = if (lookV y.toList bd).2 = true then ⟨(lookV y.toList bd).1.1, (lookV y.toList bd).1.2, false, sd, 0⟩ else wrong 1 := by
    unfold askD lookV
    cases lookB y.toList bd <;> rfl
  rw [e]
  generalize lookV y.toList bd = t at HC ⊢
  obtain ⟨⟨ta, tb⟩, tf⟩ := t
  generalize sd.length = len at *
  unfold maxLen at hl2
  unfold scnV
  unfold Enters at hE
  simp only at HC ⊢
  clear hA hrun hca e hp
  cases tf
  · go_enter Tryz.func112, Tryz.ntmps112
    go_wp2_with fail
    refine (HC.out _ (by (repeat (first | (with_reducible refine Below.alloc ?_ ?_ _) | (with_reducible refine Below.setCell ?_ ?_ _) | (with_reducible refine Below.drew ?_) | (with_reducible exact Below.refl _ _) | (with_reducible refine Below.trans ?_ (Below.mono (by assumption) ?_)))) <;> (first | omega | (dsimp only; omega) | (simp; done) | (simp; omega) | (simp at *; omega)))).mono ?_
    rintro e w1 ⟨rfl, hb1⟩
    have hs1 := hb1.size
    obtain ⟨hc1, hf1⟩ := bcell hb1
    try simp at hs1
    have z10 : W'.heap.size < w1.heap.size := by omega
    have z11 : W'.heap.size + 1 < w1.heap.size := by omega
    go_wp2_with fail
    refine (endedBy_any _ _).mono ?_
    rintro e w2 ⟨rfl, hb2⟩
    have hs2 := hb2.size
    obtain ⟨hc2, hf2⟩ := bcell hb2
    try simp at hs2
    have z20 : W'.heap.size < w2.heap.size := by omega
    have z21 : W'.heap.size + 1 < w2.heap.size := by omega
    unfold meanV wrong
    simp only
    go_wp2_with fail
    refine bodyPost_ret (v := .agg #[.int .i64 0, .int .i64 0, .bool false, .slice none 0 0, .int .i64 1]) (by simp [results, Tryz.results112, go_sem, *]) rfl ?_
    refine did_wrong HH0.out.below ?_
    clear hc1 hf1 hc2 hf2
    (repeat (first | (with_reducible refine Below.alloc ?_ ?_ _) | (with_reducible refine Below.setCell ?_ ?_ _) | (with_reducible refine Below.drew ?_) | (with_reducible exact Below.refl _ _) | (with_reducible refine Below.trans ?_ (Below.mono (by assumption) ?_)))) <;> (first | omega | (dsimp only; omega) | (simp; done) | (simp; omega) | (simp at *; omega))
  · go_enter Tryz.func112, Tryz.ntmps112
    go_wp2_with fail
    refine (HC.out _ (by (repeat (first | (with_reducible refine Below.alloc ?_ ?_ _) | (with_reducible refine Below.setCell ?_ ?_ _) | (with_reducible refine Below.drew ?_) | (with_reducible exact Below.refl _ _) | (with_reducible refine Below.trans ?_ (Below.mono (by assumption) ?_)))) <;> (first | omega | (dsimp only; omega) | (simp; done) | (simp; omega) | (simp at *; omega)))).mono ?_
    rintro e w1 ⟨rfl, hb1⟩
    have hs1 := hb1.size
    obtain ⟨hc1, hf1⟩ := bcell hb1
    try simp at hs1
    have z10 : W'.heap.size < w1.heap.size := by omega
    have z11 : W'.heap.size + 1 < w1.heap.size := by omega
    go_wp2_with fail
    refine (worth_any k n ta tb ga lba oa len cp _).mono ?_
    rintro e w2 ⟨rfl, hb2⟩
    have hs2 := hb2.size
    obtain ⟨hc2, hf2⟩ := bcell hb2
    try simp at hs2
    have z20 : W'.heap.size < w2.heap.size := by omega
    have z21 : W'.heap.size + 1 < w2.heap.size := by omega
    go_wp2_with fail
    refine bodyPost_ret (v := .agg #[.int .i64 ta, .int .i64 tb, .bool false, .slice oa len cp, .int .i64 0]) (by simp [results, Tryz.results112, go_sem, *]) rfl ?_
    refine did_below HH0.out rfl ?_
    clear hc1 hf1 hc2 hf2
    (repeat (first | (with_reducible refine Below.alloc ?_ ?_ _) | (with_reducible refine Below.setCell ?_ ?_ _) | (with_reducible refine Below.drew ?_) | (with_reducible exact Below.refl _ _) | (with_reducible refine Below.trans ?_ (Below.mono (by assumption) ?_)))) <;> (first | omega | (dsimp only; omega) | (simp; done) | (simp; omega) | (simp at *; omega))

end L2
end Go.Proofs.YtkhjbhkbknennaaGreatDoor
