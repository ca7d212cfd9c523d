/-
  The draws: a sum by its words, as deep as is asked.
-/
import Derived.Test.YtcfniecdjbgknaaDoorD1
namespace Go.Proofs.YtcfniecdjbgknaaDoor
open Go.RowKit
namespace L2
open S1 L1

theorem words14 : ∀ j, j < 14 → ∃ s : ByteArray, (#[Value.string ⟨#[97, 100, 100]⟩, Value.string ⟨#[98, 101, 108, 111, 119]⟩, Value.string ⟨#[98, 111, 116, 104]⟩, Value.string ⟨#[98, 111, 116, 104]⟩, Value.string ⟨#[115, 97, 121]⟩, Value.string ⟨#[115, 97, 121]⟩, Value.string ⟨#[105, 102]⟩, Value.string ⟨#[107, 101, 101, 112]⟩, Value.string ⟨#[107, 101, 101, 112]⟩, Value.string ⟨#[98, 105, 110, 100]⟩, Value.string ⟨#[98, 105, 110, 100]⟩, Value.string ⟨#[116, 104, 114, 111, 119]⟩, Value.string ⟨#[116, 114, 121]⟩, Value.string ⟨#[116, 114, 121]⟩] : Array Value)[j]? = some (.string s) ∧ s.size ≤ 20 := by
  intro j hj
  match j, hj with
  | 0, _ => exact ⟨_, rfl, by decide⟩
  | 1, _ => exact ⟨_, rfl, by decide⟩
  | 2, _ => exact ⟨_, rfl, by decide⟩
  | 3, _ => exact ⟨_, rfl, by decide⟩
  | 4, _ => exact ⟨_, rfl, by decide⟩
  | 5, _ => exact ⟨_, rfl, by decide⟩
  | 6, _ => exact ⟨_, rfl, by decide⟩
  | 7, _ => exact ⟨_, rfl, by decide⟩
  | 8, _ => exact ⟨_, rfl, by decide⟩
  | 9, _ => exact ⟨_, rfl, by decide⟩
  | 10, _ => exact ⟨_, rfl, by decide⟩
  | 11, _ => exact ⟨_, rfl, by decide⟩
  | 12, _ => exact ⟨_, rfl, by decide⟩
  | 13, _ => exact ⟨_, rfl, by decide⟩
  | k + 14, hj => omega
theorem words4 : ∀ j, j < 4 → ∃ s : ByteArray, (#[Value.string ⟨#[109, 97, 114, 107]⟩, Value.string ⟨#[109, 97, 114, 107]⟩, Value.string ⟨#[99, 117, 116]⟩, Value.string ⟨#[103, 111]⟩] : Array Value)[j]? = some (.string s) ∧ s.size ≤ 20 := by
  intro j hj
  match j, hj with
  | 0, _ => exact ⟨_, rfl, by decide⟩
  | 1, _ => exact ⟨_, rfl, by decide⟩
  | 2, _ => exact ⟨_, rfl, by decide⟩
  | 3, _ => exact ⟨_, rfl, by decide⟩
  | k + 4, hj => omega
theorem lit_cell (W : World) (arr : Array Value) (T : TypeId) (j : Nat) {x : Value} (h : arr[j]? = some x) : (W.alloc (.cells arr T)).cell? ⟨W.heap.size, j, none⟩ = some x := by
  have hlt := (Array.getElem?_eq_some_iff.1 h).1
  have hb := heap_alloc_new W (.cells arr T)
  simp only [World.cell?, hb]
  simpa using h

/-- How many words at most. -/
def lb : Nat → Nat
  | 0 => 2
  | d + 1 => 2 + 3 * lb d
theorem lb_two (d : Nat) : 2 ≤ lb d := by cases d <;> simp [lb]
theorem lb_le (d : Nat) (h : d ≤ 6) : lb d ≤ 3000 := by
  match d, h with
  | 0, _ => decide
  | 1, _ => decide
  | 2, _ => decide
  | 3, _ => decide
  | 4, _ => decide
  | 5, _ => decide
  | 6, _ => decide
  | k + 7, h => omega

/-- What a draw of words leaves. -/
def DrewL (p : Nat) (v : Value) (n L : Nat) (w : World) (e : Ending) (w' : World) : Prop :=
  ∃ u ss, e = .returned u ∧ OwS w' w.heap.size u ss ∧ ss ≠ [] ∧ ss.length ≤ L ∧ Short ss ∧ D.Cur w' p v n ∧ w.grownBy w' (some p)

theorem short_one {s : ByteArray} (h : s.size ≤ 20) : Short [s] := fun t ht => by
  have : t = s := by simpa using ht
  subst this; exact h
theorem itoa_short {x : Int} (h1 : -1000000 ≤ x) (h2 : x ≤ 1000000) : (ByteArray.mk (Lib.itoa x).toArray).size ≤ 20 := by
  have := itoa_len h1 h2
  simp [ByteArray.size]; omega

set_option maxRecDepth 100000 in
set_option maxHeartbeats 400000 in
theorem draw_zero (p : Nat) (v : Value) (n L : Nat) (hL2 : 2 ≤ L) (deep : Int) (plain : Bool) (w : World) (hd0 : deep ≤ 0) (hC : D.Cur w p v n) (hB : D.Bytes w p v n) :
    Calls Tryd.prog 123 #[.pointer (some ⟨p, 0, none⟩), .int .i64 deep, .bool plain] w (DrewL p v n L w) := by
  have hC0 := Lib.hid hC
  have HB0 := Lib.hid hB
  have HC := Lib.hid hC
  have HB := Lib.hid hB
  clear hC hB
  go_enter Tryd.func123, Tryd.ntmps123
  go_wp2_with fail
  refine (D.l1Below_any p v n 4 (by omega) (by omega) _ HC.out HB.out).mono ?_
  rintro e w1 ⟨x, rfl, hx0, hx1, hC1, hg1⟩
  have K1 := Lib.hid ((Cu.start hC0.out).got hC1 hg1)
  have HB1 := Lib.hid (HB0.out.kept K1.out.g)
  have HC1 := Lib.hid hC1
  clear hC1 hg1
  by_cases hz : x = 0
  · have hz1 : (x == 0) = true := by simpa using hz
    have Hz := Lib.hid hz
    clear hz
    go_wp2_with fail
    go_ret
    exact ⟨_, _, rfl, owS_lit w1 w.heap.size [⟨#[97, 114, 103]⟩] K1.out.g.size (by simp), by simp, by simp; omega, short_one (by decide), HC1.out.alloc _, D.grown_alloc K1.out.g _⟩
  · have hz1 : (x == 0) = false := by simpa using hz
    by_cases ho : x = 1
    · have ho1 : (x == 1) = true := by simpa using ho
      have Hz := Lib.hid hz
      have Ho := Lib.hid ho
      clear hz ho
      go_wp2_with fail
      refine (D.l1Below_any p v n 2 (by omega) (by omega) _ HC1.out HB1.out).mono ?_
      rintro e w2 ⟨y, rfl, hy0, hy1, hC2, hg2⟩
      have K2 := Lib.hid (K1.out.got hC2 hg2)
      clear hC2 hg2
      go_wp2_with fail
      refine (l1Int_any y (by omega) (by omega) _).mono ?_
      rintro e w3 ⟨rfl, hb3⟩
      have K3 := Lib.hid (K2.out.below hb3)
      have Hsh := Lib.hid (itoa_short (x := y) (by omega) (by omega))
      generalize (⟨(Lib.itoa y).toArray⟩ : ByteArray) = t at Hsh ⊢
      clear hb3
      go_wp2_with fail
      go_ret
      exact ⟨_, _, rfl, owS_lit w3 w.heap.size [⟨#[97, 115, 107]⟩, t] K3.out.g.size (by simp), by simp, by simpa using hL2, (short_one (s := ⟨#[97, 115, 107]⟩) (by decide)).append (short_one Hsh.out), K3.out.c.alloc _, D.grown_alloc K3.out.g _⟩
    · have ho1 : (x == 1) = false := by simpa using ho
      have Hz := Lib.hid hz
      have Ho := Lib.hid ho
      clear hz ho
      go_wp2_with fail
      refine (D.l1Below_any p v n 9 (by omega) (by omega) _ HC1.out HB1.out).mono ?_
      rintro e w2 ⟨y, rfl, hy0, hy1, hC2, hg2⟩
      have K2 := Lib.hid (K1.out.got hC2 hg2)
      clear hC2 hg2
      go_wp2_with fail
      refine (l1Int_any (y - 2) (by omega) (by omega) _).mono ?_
      rintro e w3 ⟨rfl, hb3⟩
      have K3 := Lib.hid (K2.out.below hb3)
      have Hsh := Lib.hid (itoa_short (x := y - 2) (by omega) (by omega))
      generalize (⟨(Lib.itoa (y - 2)).toArray⟩ : ByteArray) = t at Hsh ⊢
      clear hb3
      go_wp2_with fail
      go_ret
      exact ⟨_, _, rfl, owS_lit w3 w.heap.size [t] K3.out.g.size (by simp), by simp, by simp; omega, short_one Hsh.out, K3.out.c.alloc _, D.grown_alloc K3.out.g _⟩

end L2
end Go.Proofs.YtcfniecdjbgknaaDoor
