/-
  The draws: a text to be read; and: is a draw too long?
-/
import Derived.Test.YtcfniecdjbgknaaDoorCur3
import Derived.Test.YtcfniecdjbgknaaDoorShow
namespace Go.Proofs.YtcfniecdjbgknaaDoor
open Go.RowKit
namespace D

/-- Is there more than that? -/
theorem big_any (v : Value) (n : Nat) (w : World) (hC : Came w v n) :
    Calls Tryd.prog 13 #[v] w fun e w' => e = .returned (.bool (decide (4096 < n))) ∧ w' = w := by
  rcases hC with ⟨rfl, rfl⟩ | ⟨a, cap, rfl, rfl⟩ | ⟨b, off, cap, rfl, hn, hm, hbs, hz⟩
  · go_enter Tryd.func13, Tryd.ntmps13
    go_wp2
    go_ret
    exact ⟨by simp, rfl⟩
  · go_enter Tryd.func13, Tryd.ntmps13
    go_wp2
    go_ret
    exact ⟨by simp, rfl⟩
  · clear hz
    go_enter Tryd.func13, Tryd.ntmps13
    go_wp2
    go_ret
    refine ⟨?_, rfl⟩
    congr 2
    simp
    omega

/-- What bending leaves: some text, at most two bytes longer; nothing old has turned but the cursor's block. -/
def Bends : Prop := ∀ (p : Nat) (v : Value) (n : Nat) (w : World) (s sg : ByteArray), s.size ≤ 16 → sg.size = 4 → Cur w p v n → Bytes w p v n →
  Calls Tryd.prog 63 #[.pointer (some ⟨p, 0, none⟩), .string s, .string sg] w (fun e w' => ∃ t : ByteArray, e = .returned (.string t) ∧ t.size ≤ s.size + 2 ∧ Cur w' p v n ∧ w.grownBy w' (some p))

theorem showB_len (k n : Int) : (L1.showB k n).length ≤ 9 := by
  unfold L1.showB
  cases h : L1.okB k n
  · simp
  · have hb : -1000000 ≤ n ∧ n ≤ 1000000 := by
      simp [L1.okB, L1.numB, L1.pieB, L1.inB] at h
      omega
    have := L1.itoa_len hb.1 hb.2
    rw [if_pos rfl]
    split <;> simp <;> omega
theorem Cur.below {w w1 : World} {p : Nat} {v : Value} {n : Nat} (h : Cur w p v n) (hb : Below w.heap.size w w1) : Cur w1 p v n := by
  have hlt := h.lt
  obtain ⟨i, x, hi, hh⟩ := h
  exact ⟨i, x, hi, (hb.block p hlt).trans hh⟩
theorem grown_of_below {w w1 : World} (hb : Below w.heap.size w w1) (row : Option Nat) : w.grownBy w1 row := ⟨hb.os, hb.tape, hb.output, hb.size, fun k hk _ => hb.block k hk⟩

/-- What a draw of a text leaves. -/
def DrewS (w : World) (e : Ending) (w' : World) : Prop := ∃ t : ByteArray, e = .returned (.string t) ∧ t.size ≤ 1048576 ∧ Below w.heap.size w w'

set_option maxRecDepth 100000 in
set_option maxHeartbeats 1000000 in
theorem drawReadValue_any (hBend : Bends) (v : Value) (n : Nat) (w : World) (hC : Came w v n) : Calls Tryd.prog 16 #[v] w (DrewS w) := by
  have hC' := Lib.hid hC
  have hBend := Lib.hid hBend
  clear hC
  go_enter Tryd.func16, Tryd.ntmps16
  go_wp2_with fail
  refine (l1New_any v n _ hC'.out).mono ?_
  rintro e w1 ⟨h, rfl, rfl⟩
  have HC1 := Lib.hid (cur_new w v n h)
  have HB1 := Lib.hid (hC'.out.bytes (.cells #[v, .int .i64 0, .int .i64 h] 83))
  go_wp2_with fail
  refine (drawValue_any _ v n _ HC1.out HB1.out).mono ?_
  rintro e w2 ⟨k, x, rfl, hC2, hg2⟩
  have HC2 := Lib.hid hC2
  have HB2 := Lib.hid (HB1.out.kept hg2)
  clear hC2
  go_wp2_with fail
  refine (L1.specShow_any k x _).mono ?_
  rintro e w3 ⟨rfl, hb3⟩
  have HC3 := Lib.hid (HC2.out.below hb3)
  have HB3 := Lib.hid (HB2.out.kept (grown_of_below hb3 (some w.heap.size)))
  have hg3 := hg2.trans (grown_of_below hb3 (some w.heap.size))
  have hlen := showB_len k x
  go_wp2_with fail
  refine (l1Once_any _ v n 2 (by omega) (by omega) _ HC3.out HB3.out).mono ?_
  rintro e w4 ⟨q, rfl, hC4, hg4⟩
  have HC4 := Lib.hid hC4
  have HB4 := Lib.hid (HB3.out.kept hg4)
  clear hC4
  cases q
  · go_wp2
    go_ret
    exact ⟨_, rfl, by simp [ByteArray.size]; omega, below_new _ _ _ (hg3.trans hg4)⟩
  · go_wp2_with fail
    refine (hBend.out _ v n _ _ _ (by simp [ByteArray.size]; omega) rfl HC4.out HB4.out).mono ?_
    rintro e w5 ⟨t, rfl, ht, hC5, hg5⟩
    have HC5 := Lib.hid hC5
    clear hC5
    go_wp2
    go_ret
    refine ⟨_, rfl, ?_, below_new _ _ _ (hg3.trans (hg4.trans hg5))⟩
    have he : (ByteArray.mk (L1.showB k x).toArray).size = (L1.showB k x).length := by simp [ByteArray.size]
    rw [he] at ht
    omega

end D
end Go.Proofs.YtcfniecdjbgknaaDoor
