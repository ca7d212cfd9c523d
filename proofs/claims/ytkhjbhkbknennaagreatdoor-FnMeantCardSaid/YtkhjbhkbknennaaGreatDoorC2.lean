/-
  The small functions that sums are made of: what was worth something, what was thrown, what ended wrongly; what is bound.
-/
import Derived.Test.YtkhjbhkbknennaaGreatDoorC1
import Derived.Laws.EntriesVeiled
namespace Go.Proofs.YtkhjbhkbknennaaGreatDoor
open Go.RowKit Go.Shelf
namespace L2
open S1 L1

set_option maxRecDepth 100000 in
theorem endedBy_any (c : Int) (W : World) :
    Calls Tryz.prog 34 #[.int .i64 c] W fun e W' => e = .returned (meanV (wrong c) (.slice none 0 0)) ∧ Below W.heap.size W W' := by
  go_enter Tryz.func34, Tryz.ntmps34
  go_wp2
  refine bodyPost_ret (v := meanV (wrong c) (.slice none 0 0)) (by simp [results, Tryz.results34, go_sem, meanV, wrong]) rfl ⟨rfl, ?_⟩
  (repeat (first | (with_reducible refine Below.alloc ?_ ?_ _) | (with_reducible refine Below.setCell ?_ ?_ _) | (with_reducible refine Below.drew ?_) | (with_reducible exact Below.refl _ _) | (with_reducible refine Below.trans ?_ (Below.mono (by assumption) ?_)))) <;> (first | omega | (dsimp only; omega) | (simp; done) | (simp; omega) | (simp at *; omega))

set_option maxRecDepth 100000 in
theorem worth_any (k n a b : Int) (g : Nat) (lb : Array Value) (oa : Option Addr) (l cp : Nat) (W : World) :
    Calls Tryz.prog 92 #[scnV k n (.func (.func g) #[] lb) (.slice oa l cp), .agg #[.int .i64 a, .int .i64 b]] W fun e W' => e = .returned (.agg #[.int .i64 a, .int .i64 b, .bool false, .slice oa l cp, .int .i64 0]) ∧ Below W.heap.size W W' := by
  unfold scnV
  go_enter Tryz.func92, Tryz.ntmps92
  go_wp2
  refine bodyPost_ret (v := .agg #[.int .i64 a, .int .i64 b, .bool false, .slice oa l cp, .int .i64 0]) (by simp [results, Tryz.results92, go_sem]) rfl ⟨rfl, ?_⟩
  (repeat (first | (with_reducible refine Below.alloc ?_ ?_ _) | (with_reducible refine Below.setCell ?_ ?_ _) | (with_reducible refine Below.drew ?_) | (with_reducible exact Below.refl _ _) | (with_reducible refine Below.trans ?_ (Below.mono (by assumption) ?_)))) <;> (first | omega | (dsimp only; omega) | (simp; done) | (simp; omega) | (simp at *; omega))

set_option maxRecDepth 100000 in
theorem thrown_any (k n a b : Int) (g : Nat) (lb : Array Value) (oa : Option Addr) (l cp : Nat) (W : World) :
    Calls Tryz.prog 132 #[scnV k n (.func (.func g) #[] lb) (.slice oa l cp), .agg #[.int .i64 a, .int .i64 b]] W fun e W' => e = .returned (.agg #[.int .i64 a, .int .i64 b, .bool true, .slice oa l cp, .int .i64 0]) ∧ Below W.heap.size W W' := by
  unfold scnV
  go_enter Tryz.func132, Tryz.ntmps132
  go_wp2
  refine bodyPost_ret (v := .agg #[.int .i64 a, .int .i64 b, .bool true, .slice oa l cp, .int .i64 0]) (by simp [results, Tryz.results132, go_sem]) rfl ⟨rfl, ?_⟩
  (repeat (first | (with_reducible refine Below.alloc ?_ ?_ _) | (with_reducible refine Below.setCell ?_ ?_ _) | (with_reducible refine Below.drew ?_) | (with_reducible exact Below.refl _ _) | (with_reducible refine Below.trans ?_ (Below.mono (by assumption) ?_)))) <;> (first | omega | (dsimp only; omega) | (simp; done) | (simp; omega) | (simp at *; omega))

set_option maxRecDepth 100000 in
theorem otherOne_any (a b c d : Int) (W : World) :
    Calls Tryz.prog 84 #[.agg #[.int .i64 a, .int .i64 b], .agg #[.int .i64 c, .int .i64 d]] W fun e W' => e = .returned (.tuple #[.agg #[.int .i64 c, .int .i64 d], .bool true]) ∧ Below W.heap.size W W' := by
  go_enter Tryz.func84, Tryz.ntmps84
  go_wp2
  refine bodyPost_ret (v := .tuple #[.agg #[.int .i64 c, .int .i64 d], .bool true]) (by simp [results, Tryz.results84, go_sem]) rfl ⟨rfl, ?_⟩
  (repeat (first | (with_reducible refine Below.alloc ?_ ?_ _) | (with_reducible refine Below.setCell ?_ ?_ _) | (with_reducible refine Below.drew ?_) | (with_reducible exact Below.refl _ _) | (with_reducible refine Below.trans ?_ (Below.mono (by assumption) ?_)))) <;> (first | omega | (dsimp only; omega) | (simp; done) | (simp; omega) | (simp at *; omega))

set_option maxRecDepth 100000 in
theorem nothing_asked (W : World) (ow : Option Nat) : AskedAt W ow (.func (.func 36) #[] #[]) [] := by
  refine ⟨_, _, rfl, (enters_of Tryz.func36 (by kernel_rfl) rfl), fun W' o' _ y => ?_⟩
  show Calls Tryz.prog 36 #[.string y] W' _
  go_enter Tryz.func36, Tryz.ntmps36
  go_wp2
  refine bodyPost_ret (v := .tuple #[.agg #[.int .i64 0, .int .i64 0], .bool false]) (by simp [results, Tryz.results36, go_sem]) rfl ⟨rfl, ?_⟩
  (repeat (first | (with_reducible refine Below.alloc ?_ ?_ _) | (with_reducible refine Below.setCell ?_ ?_ _) | (with_reducible refine Below.drew ?_) | (with_reducible exact Below.refl _ _) | (with_reducible refine Below.trans ?_ (Below.mono (by assumption) ?_)))) <;> (first | omega | (dsimp only; omega) | (simp; done) | (simp; omega) | (simp at *; omega))

theorem lookV_hit {y x : List UInt8} {v : Int × Int} {bd : Bd} (h : (y == x) = true) : lookV y ((x, v) :: bd) = (v, true) := by
  unfold lookV lookB
  simp only [h, if_true]
theorem lookV_miss {y x : List UInt8} {v : Int × Int} {bd : Bd} (h : (y == x) = false) : lookV y ((x, v) :: bd) = lookV y bd := by
  unfold lookV
  rw [lookB]
  simp only [h]
  rfl

/-- What asks the topmost number first. -/
theorem bound_asked {W : World} {ow : Option Nat} {x : ByteArray} {a b : Int} {g : Nat} {lb : Array Value} {bd : Bd} {p q r : Nat} (hA : AskedAt W ow (.func (.func g) #[] lb) bd)
    (hp : Box W ow p 0 (.string x)) (hq : Box W ow q 0 (.int .i64 a)) (hq' : Box W ow q 1 (.int .i64 b)) (hr : Box W ow r 0 (.func (.func g) #[] lb)) :
    AskedAt W ow (.func (.func 154) #[] #[.pointer (some ⟨p, 0, none⟩), .pointer (some ⟨q, 0, none⟩), .pointer (some ⟨r, 0, none⟩)]) ((x.toList, a, b) :: bd) := by
  refine ⟨_, _, rfl, (enters_of Tryz.func154 (by kernel_rfl) rfl), fun W' o' hrun y => ?_⟩
  show Calls Tryz.prog 154 #[.string y, .pointer (some ⟨p, 0, none⟩), .pointer (some ⟨q, 0, none⟩), .pointer (some ⟨r, 0, none⟩)] W' _
  obtain ⟨c1, d1, -⟩ := hp.later hrun
  obtain ⟨c2, d2, -⟩ := hq.later hrun
  obtain ⟨c3, -, -⟩ := hq'.later hrun
  obtain ⟨c4, d4, -⟩ := hr.later hrun
  cases hx : (y.toList == x.toList)
  · rw [lookV_miss hx]
    obtain ⟨g', lb', e, hE, hc⟩ := hA
    injection e with e1 _ e3
    injection e1 with e1
    subst e1 e3
    have HC := Lib.hid (fun W2 (hb : Below W'.heap.size W' W2) => hc W2 o' (hrun.trans ((keeps_of_below hb).run o')) y)
    generalize lookV y.toList bd = z at HC
    unfold Enters at hE
    clear hc hp hq hq' hr hrun
    go_enter Tryz.func154, Tryz.ntmps154
    go_wp2_with fail
    refine (HC.out _ (by (repeat (first | (with_reducible refine Below.alloc ?_ ?_ _) | (with_reducible refine Below.setCell ?_ ?_ _) | (with_reducible refine Below.drew ?_) | (with_reducible exact Below.refl _ _) | (with_reducible refine Below.trans ?_ (Below.mono (by assumption) ?_)))) <;> (first | omega | (dsimp only; omega) | (simp; done) | (simp; omega) | (simp at *; omega)))).mono ?_
    rintro e w1 ⟨rfl, hb1⟩
    have hs1 := hb1.size
    obtain ⟨hc1, hf1⟩ := bcell hb1
    go_wp2_with fail
    refine bodyPost_ret (v := .tuple #[.agg #[.int .i64 z.1.1, .int .i64 z.1.2], .bool z.2]) (by simp [results, Tryz.results154, go_sem, *]) rfl ⟨rfl, ?_⟩
    (repeat (first | (with_reducible refine Below.alloc ?_ ?_ _) | (with_reducible refine Below.setCell ?_ ?_ _) | (with_reducible refine Below.drew ?_) | (with_reducible exact Below.refl _ _) | (with_reducible refine Below.trans ?_ (Below.mono (by assumption) ?_)))) <;> (first | omega | (dsimp only; omega) | (simp; done) | (simp; omega) | (simp at *; omega))
  · rw [lookV_hit hx]
    clear hA hp hq hq' hr hrun
    go_enter Tryz.func154, Tryz.ntmps154
    go_wp2
    refine bodyPost_ret (v := .tuple #[.agg #[.int .i64 a, .int .i64 b], .bool true]) (by simp [results, Tryz.results154, go_sem, *]) rfl ⟨rfl, ?_⟩
    (repeat (first | (with_reducible refine Below.alloc ?_ ?_ _) | (with_reducible refine Below.setCell ?_ ?_ _) | (with_reducible refine Below.drew ?_) | (with_reducible exact Below.refl _ _) | (with_reducible refine Below.trans ?_ (Below.mono (by assumption) ?_)))) <;> (first | omega | (dsimp only; omega) | (simp; done) | (simp; omega) | (simp at *; omega))

set_option maxRecDepth 100000 in
theorem boundTo_any (x : ByteArray) (a b : Int) (g : Nat) (lb : Array Value) (W : World) :
    Calls Tryz.prog 129 #[.string x, .agg #[.int .i64 a, .int .i64 b], .func (.func g) #[] lb] W fun e W' => e = .returned (.func (.func 154) #[] #[.pointer (some ⟨W.heap.size, 0, none⟩), .pointer (some ⟨W.heap.size + 1, 0, none⟩), .pointer (some ⟨W.heap.size + 1 + 1, 0, none⟩)]) ∧
      W' = ((W.alloc (.cells #[.string x] 9)).alloc (.cells #[.int .i64 a, .int .i64 b] 26)).alloc (.cells #[.func (.func g) #[] lb] 62) := by
  go_enter Tryz.func129, Tryz.ntmps129
  go_wp2
  go_ret
  exact ⟨rfl, rfl⟩

end L2
end Go.Proofs.YtkhjbhkbknennaaGreatDoor
