/-
  The draws of chapter 2's laws; rows of numbers compared.
-/
import Derived.Test.YtcfniecdjbgknaaDoorD6
namespace Go.Proofs.YtcfniecdjbgknaaDoor
open Go.RowKit
namespace L2
open S1 L1

set_option maxRecDepth 100000 in
set_option maxHeartbeats 1000000 in
theorem likeInts_any (v v' : Value) (xs : List Nat) (B B' : Nat) (w : World) (hO : OwI w B v xs) (hO' : OwI w B' v' xs) :
    Calls Tryd.prog 35 #[v, v'] w fun e w' => e = .returned (.bool true) ∧ Below w.heap.size w w' := by
  obtain ⟨g, cap, rfl, h1, h2, h3, h4, h5⟩ := hO.form
  obtain ⟨g', cap', rfl, h1', h2', h3', h4', h5'⟩ := hO'.form
  obtain ⟨n, hn⟩ : ∃ n, xs.length = n := ⟨_, rfl⟩
  rw [hn] at h1 h5 h1' h5' ⊢
  unfold maxLen at h2 h2'
  have H5 := Lib.hid h5
  have H5' := Lib.hid h5'
  clear hn h5 h5' hO hO'
  go_enter Tryd.func35, Tryd.ntmps35
  go_wp2
  go_loopw [5] (fun i wr => ∃ k : Nat, k ≤ n ∧ i = .int .i64 (k : Int) ∧ Below w.heap.size w wr) (fun i _ => n - (intOf i).toNat)
  case atStart => exact ⟨0, Nat.zero_le _, rfl, Below.refl _ _⟩
  case round =>
    obtain ⟨k, hk, rfl, hB⟩ := hrel
    have HB := Lib.hid hB
    clear hB
    by_cases hlt : k < n
    · have hc1 := (HB.out.cell (p := ⟨g, k, none⟩) h4).trans (H5.out k hlt).1
      have hc2 := (HB.out.cell (p := ⟨g', k, none⟩) h4').trans (H5'.out k hlt).1
      obtain ⟨z, hz⟩ : ∃ z : Nat, xs.getD k 0 = z := ⟨_, rfl⟩
      rw [hz] at hc1 hc2
      clear hz
      have hk0 : (0 : Int) ≤ (k : Int) := by omega
      have hki : (k : Int) < (n : Int) := by omega
      go_wp2
      go_quiet (fail)
      go_wp2
      go_roundw
      case rel => exact ⟨k + 1, by omega, by go_num, by first | exact HB.out | exact HB.out.drew | exact HB.out.grown (D.grown_draws _ _ none) HB.out.size (by simp)⟩
      case measure => simp [intOf]; omega
    · have hki : ¬ (k : Int) < (n : Int) := by omega
      go_wp2
      go_ret
      exact ⟨rfl, HB.out⟩


/-- What a draw of words leaves, behind a new cursor. -/
def DrewW (w : World) (e : Ending) (w' : World) : Prop := ∃ u ss, e = .returned u ∧ OwS w' w.heap.size u ss ∧ ss.length ≤ 100 ∧ Short ss ∧ Below w.heap.size w w'

set_option maxHeartbeats 1000000 in
theorem drawSumOk_any (v : Value) (n : Nat) (w : World) (hC : D.Came w v n) : Calls Tryd.prog 77 #[v] w (DrewW w) := by
  have hC' := Lib.hid hC
  clear hC
  go_enter Tryd.func77, Tryd.ntmps77
  go_wp2_with fail
  refine (D.l1New_any v n _ hC'.out).mono ?_
  rintro e w1 ⟨h, rfl, rfl⟩
  go_wp2_with fail
  refine (l2DrawAny_any _ v n _ (D.cur_new w v n h) (hC'.out.bytes _)).mono ?_
  rintro e w2 ⟨u, ss, rfl, ho, hl, hs, _, hg⟩
  have Ho := Lib.hid (ho.base (B' := w.heap.size) (by simp))
  have Hs := Lib.hid hs
  clear ho hs
  go_wp2_with fail
  go_ret
  exact ⟨_, _, rfl, Ho.out, hl, Hs.out, D.below_new _ _ _ hg⟩

theorem drawPartsOf_any (v : Value) (n : Nat) (w : World) (hC : D.Came w v n) : Calls Tryd.prog 33 #[v] w (DrewW w) := by
  have hC' := Lib.hid hC
  clear hC
  go_enter Tryd.func33, Tryd.ntmps33
  go_wp2_with fail
  refine (drawSumOk_any v n _ hC'.out).mono ?_
  rintro e w2 ⟨u, ss, rfl, ho, hl, hs, hb⟩
  have Ho := Lib.hid ho
  have Hs := Lib.hid hs
  clear ho hs
  go_wp2_with fail
  go_ret
  exact ⟨_, _, rfl, Ho.out, hl, Hs.out, hb⟩

end L2
end Go.Proofs.YtcfniecdjbgknaaDoor
