/-
  The draws: a sum that is not too long.
-/
import Derived.Test.YtcfniecdjbgknaaDoorD3
namespace Go.Proofs.YtcfniecdjbgknaaDoor
open Go.RowKit
namespace L2
open S1 L1

theorem l2Draw_any (p : Nat) (v : Value) (n : Nat) (d : Nat) (hd6 : d ≤ 5) : ∀ (deep : Int) (b : Bool) (w : World), deep ≤ (d : Int) → -1000 ≤ deep → D.Cur w p v n → D.Bytes w p v n →
    Calls Tryd.prog 123 #[.pointer (some ⟨p, 0, none⟩), .int .i64 deep, .bool b] w (DrewL p v n (lb d) w) := by
  induction d with
  | zero => intro deep b w hd _ hC hB; exact draw_zero p v n _ (lb_two 0) deep b w (by omega) hC hB
  | succ d ih =>
    intro deep b w hd _ hC hB
    by_cases h0 : deep ≤ 0
    · exact draw_zero p v n _ (lb_two _) deep b w h0 hC hB
    · exact draw_pos p v n d (by omega) (Lib.hid (ih (by omega))) deep b w (by omega) (by omega) hC hB

set_option maxRecDepth 100000 in
set_option maxHeartbeats 4000000 in
theorem l2DrawSum_any (p : Nat) (v : Value) (n : Nat) (b : Bool) (w : World) (hC : D.Cur w p v n) (hB : D.Bytes w p v n) :
    Calls Tryd.prog 112 #[.pointer (some ⟨p, 0, none⟩), .bool b] w (DrewL p v n 60 w) := by
  have hC0 := Lib.hid hC
  have HB0 := Lib.hid hB
  have hpw := hC.lt
  clear hC hB
  go_enter Tryd.func112, Tryd.ntmps112
  go_wp2_with fail
  refine (D.l1Below_any p v n 4 (by omega) (by omega) _ hC0.out HB0.out).mono ?_
  rintro e w1 ⟨x, rfl, hx0, hx1, hC1, hg1⟩
  have K1 := Lib.hid ((Cu.start hC0.out).got hC1 hg1)
  clear hC1 hg1
  go_wp2_with fail
  refine (l2Draw_any p v n 4 (by omega) _ _ w1 (by omega) (by omega) K1.out.c (HB0.out.kept K1.out.g)).mono ?_
  rintro e w2 ⟨u2, s2, rfl, ho2, hne2, hl2, hs2, hc2, hg2⟩
  have K2 := Lib.hid (K1.out.got hc2 hg2)
  have HO2 := Lib.hid (ho2.base K1.out.g.size)
  have Hne2 := Lib.hid hne2
  have Hs2 := Lib.hid hs2
  have hl4 : lb 4 ≤ 1000 := by decide
  have Hl2 := Lib.hid (Nat.le_trans hl2 hl4)
  clear ho2 hne2 hl2 hs2 hc2 hg2 hl4
  go_wp2_with fail
  go_loopw [5, 6] (fun o q wr => ∃ (y : Int) (ss : List ByteArray), OwS wr w.heap.size o ss ∧ q = .int .i64 y ∧ y ≤ 3 ∧ ss ≠ [] ∧ ss.length ≤ 1000 ∧ Short ss ∧ Cu p v n w wr) (fun _ q _ => (intOf q).toNat)
  case atStart => exact ⟨3, s2, HO2.out, rfl, by omega, Hne2.out, Hl2.out, Hs2.out, K2.out⟩
  case round =>
    obtain ⟨y, ss, hO, rfl, hy3, hne, hlen, hsh, hK⟩ := hrel
    obtain ⟨go1, co1, rfl, hq1, hq2, hgo1, hgw1, _⟩ := hO.form
    have HOr := Lib.hid hO
    have HKr := Lib.hid hK
    have Hne := Lib.hid hne
    have Hsr := Lib.hid hsh
    obtain ⟨m, hm⟩ : ∃ m, ss.length = m := ⟨_, rfl⟩
    rw [hm] at hlen hq1 ⊢
    have Hm := Lib.hid hm
    clear hO hK hne hsh hm
    by_cases hbig : 60 < m
    · have hbi : (60 : Int) < (m : Int) := by omega
      by_cases hpos : 0 < y
      · go_wp2_with fail
        refine (l2Draw_any p v n 4 (by omega) _ _ wr (by omega) (by omega) HKr.out.c (HB0.out.kept HKr.out.g)).mono ?_
        rintro e w8 ⟨u8, s8, rfl, ho8, hne8, hl8, hs8, hc8, hg8⟩
        have K8 := Lib.hid (HKr.out.got hc8 hg8)
        have HO8 := Lib.hid (ho8.base HKr.out.g.size)
        have Hne8 := Lib.hid hne8
        have Hs8 := Lib.hid hs8
        have hl4 : lb 4 ≤ 1000 := by decide
        have Hl8 := Lib.hid (Nat.le_trans hl8 hl4)
        clear ho8 hne8 hl8 hs8 hc8 hg8 hl4
        go_wp2_with fail
        go_roundw
        case rel => exact ⟨y - 1, s8, HO8.out, rfl, by omega, Hne8.out, Hl8.out, Hs8.out, K8.out⟩
        case measure => simp [intOf]; omega
      · go_wp2_with fail
        go_ret
        exact ⟨_, [⟨#[115, 97, 121]⟩, ⟨#[49]⟩], rfl, owS_lit wr w.heap.size [⟨#[115, 97, 121]⟩, ⟨#[49]⟩] HKr.out.g.size (by simp), by simp, by simp, (short_one (s := ⟨#[115, 97, 121]⟩) (by decide)).append (short_one (by decide)), HKr.out.c.alloc _, D.grown_alloc HKr.out.g _⟩
    · have hbi : ¬ (60 : Int) < (m : Int) := by omega
      have hbd : decide ((60 : Int) < (m : Int)) = false := by simp; omega
      by_cases hpos : 0 < y
      all_goals
        go_wp2_with fail
        go_ret
        exact ⟨_, ss, rfl, by have := HOr.out; rw [Hm.out] at this; exact this, Hne.out, by have := Hm.out; omega, Hsr.out, HKr.out.c, HKr.out.g⟩

end L2
end Go.Proofs.YtcfniecdjbgknaaDoor
