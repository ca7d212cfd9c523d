/-
  The draws: a sum by its words: its walk, where it is no deepest one.
-/
import Derived.Test.YtcfniecdjbgknaaDoorD2
namespace Go.Proofs.YtcfniecdjbgknaaDoor
open Go.RowKit
namespace L2
open S1 L1

set_option maxRecDepth 100000 in
set_option maxHeartbeats 8000000 in
theorem draw_pos (p : Nat) (v : Value) (n d : Nat) (hd6 : d ≤ 4) (IH : Hid (∀ (deep : Int) (plain : Bool) (w : World), deep ≤ (d : Int) → -1000 ≤ deep → D.Cur w p v n → D.Bytes w p v n → Calls Tryd.prog 123 #[.pointer (some ⟨p, 0, none⟩), .int .i64 deep, .bool plain] w (DrewL p v n (lb d) w)))
    (deep : Int) (plain : Bool) (w : World) (hd : deep ≤ (d : Int) + 1) (hd0 : 0 < deep) (hC : D.Cur w p v n) (hB : D.Bytes w p v n) :
    Calls Tryd.prog 123 #[.pointer (some ⟨p, 0, none⟩), .int .i64 deep, .bool plain] w (DrewL p v n (lb (d + 1)) w) := by
  have hpw := hC.lt
  have hC0 := Lib.hid hC
  have HB0 := Lib.hid hB
  have HC := Lib.hid hC
  have HB := Lib.hid hB
  have hL2 := lb_two (d + 1)
  have hlb := lb_le d (by omega)
  have hdn : ¬ deep ≤ 0 := by omega
  have hdd : decide (deep ≤ 0) = false := by simpa using hdn
  clear hC hB
  go_enter Tryd.func123, Tryd.ntmps123
  go_wp2_with fail
  refine (D.l1Once_any p v n 6 (by omega) (by omega) _ HC.out HB.out).mono ?_
  rintro e wz ⟨bz, rfl, hCz, hgz⟩
  have KZ := Lib.hid ((Cu.start hC0.out).got hCz hgz)
  have HCz := Lib.hid hCz
  have HBz := Lib.hid (HB0.out.kept KZ.out.g)
  clear hCz hgz
  cases bz
  · go_wp2_with fail
    have hcells : ∀ j, j < 14 → ∃ s : ByteArray, (wz.alloc (.cells #[Value.string ⟨#[97, 100, 100]⟩, Value.string ⟨#[98, 101, 108, 111, 119]⟩, Value.string ⟨#[98, 111, 116, 104]⟩, Value.string ⟨#[98, 111, 116, 104]⟩, Value.string ⟨#[115, 97, 121]⟩, Value.string ⟨#[115, 97, 121]⟩, Value.string ⟨#[105, 102]⟩, Value.string ⟨#[107, 101, 101, 112]⟩, Value.string ⟨#[107, 101, 101, 112]⟩, Value.string ⟨#[98, 105, 110, 100]⟩, Value.string ⟨#[98, 105, 110, 100]⟩, Value.string ⟨#[116, 104, 114, 111, 119]⟩, Value.string ⟨#[116, 114, 121]⟩, Value.string ⟨#[116, 114, 121]⟩] 9)).cell? ⟨wz.heap.size, j, none⟩ = some (.string s) ∧ s.size ≤ 20 := fun j hj => by
      obtain ⟨s, hs, hz⟩ := words14 j hj
      exact ⟨s, lit_cell wz _ _ j hs, hz⟩
    have KA := Lib.hid (KZ.out.alloc (.cells #[Value.string ⟨#[97, 100, 100]⟩, Value.string ⟨#[98, 101, 108, 111, 119]⟩, Value.string ⟨#[98, 111, 116, 104]⟩, Value.string ⟨#[98, 111, 116, 104]⟩, Value.string ⟨#[115, 97, 121]⟩, Value.string ⟨#[115, 97, 121]⟩, Value.string ⟨#[105, 102]⟩, Value.string ⟨#[107, 101, 101, 112]⟩, Value.string ⟨#[107, 101, 101, 112]⟩, Value.string ⟨#[98, 105, 110, 100]⟩, Value.string ⟨#[98, 105, 110, 100]⟩, Value.string ⟨#[116, 104, 114, 111, 119]⟩, Value.string ⟨#[116, 114, 121]⟩, Value.string ⟨#[116, 114, 121]⟩] 9))
    have hne : some wz.heap.size ≠ some p := by intro e; injection e with e; have := HCz.out.lt; omega
    have Hcells := Lib.hid hcells
    have Hne := Lib.hid hne
    clear hcells hne
    generalize wz.alloc (.cells #[Value.string ⟨#[97, 100, 100]⟩, Value.string ⟨#[98, 101, 108, 111, 119]⟩, Value.string ⟨#[98, 111, 116, 104]⟩, Value.string ⟨#[98, 111, 116, 104]⟩, Value.string ⟨#[115, 97, 121]⟩, Value.string ⟨#[115, 97, 121]⟩, Value.string ⟨#[105, 102]⟩, Value.string ⟨#[107, 101, 101, 112]⟩, Value.string ⟨#[107, 101, 101, 112]⟩, Value.string ⟨#[98, 105, 110, 100]⟩, Value.string ⟨#[98, 105, 110, 100]⟩, Value.string ⟨#[116, 104, 114, 111, 119]⟩, Value.string ⟨#[116, 114, 121]⟩, Value.string ⟨#[116, 114, 121]⟩] 9) = wa at Hcells KA ⊢
    generalize wz.heap.size = bw at Hcells Hne ⊢
    refine (D.l1Below_any p v n 14 (by omega) (by omega) _ KA.out.c (HB0.out.kept KA.out.g)).mono ?_
    rintro e w1 ⟨x, rfl, hx0, hx1, hC1, hg1⟩
    obtain ⟨j, rfl⟩ : ∃ j : Nat, x = (j : Int) := ⟨x.toNat, by omega⟩
    obtain ⟨s, hs, hsz⟩ := Hcells.out j (by omega)
    have hcell := hg1.cell hs Hne.out
    have K1 := Lib.hid (KA.out.got hC1 hg1)
    have HB1 := Lib.hid (HB0.out.kept K1.out.g)
    clear hC1 hg1 hs
    cases plain
    · go_wp2_with fail
      refine (D.l1Once_any p v n 3 (by omega) (by omega) _ K1.out.c HB1.out).mono ?_
      rintro e w2 ⟨b2, rfl, hC2, hg2⟩
      have K2 := Lib.hid (K1.out.got hC2 hg2)
      have HB2 := Lib.hid (HB0.out.kept K2.out.g)
      clear hcell hC2 hg2
      cases b2
      · clear HB2
        have HK := K2
        have hnb := needs_bd s.toList
        have hcn := specNeeds_any s (by unfold maxLen; omega)
        obtain ⟨y0, hy0⟩ : ∃ y0, needs s.toList = y0 := ⟨_, rfl⟩
        rw [hy0] at hcn hnb
        have Hcn := Lib.hid hcn
        have Hsz := Lib.hid hsz
        have hS0 : Hid (OwS (w2.alloc (.cells #[.string s] 9)) w.heap.size (.slice (some ⟨w2.heap.size, 0, none⟩) 1 1) [s]) := Lib.hid (owS_lit w2 w.heap.size [s] HK.out.g.size (by simp))
        have hK0 := Lib.hid (HK.out.alloc (.cells #[.string s] 9))
        have hm0 := Nat.mul_le_mul_right (lb d) (show y0.toNat ≤ 3 by omega)
        clear hcn hy0 hsz
        cases htb : (s.toList == [98, 105, 110, 100])
        · go_wp2_with (go_at_call 40; refine (Hcn.out _).mono ?_; rintro e w' ⟨rfl, rfl⟩)
          go_loopw [8, 9] (fun o q wr => ∃ (y : Int) (ss : List ByteArray), OwS wr w.heap.size o ss ∧ q = .int .i64 y ∧ y ≤ 3 ∧ ss ≠ [] ∧ ss.length + y.toNat * lb d ≤ 2 + 3 * lb d ∧ Short ss ∧ Cu p v n w wr) (fun _ q _ => (intOf q).toNat)
          case atStart => exact ⟨y0, [s], hS0.out, rfl, by omega, by simp, by simp; omega, short_one Hsz.out, hK0.out⟩
          case round =>
            obtain ⟨y, ss, hO, rfl, hy3, hne, hlen, hsh, hK⟩ := hrel
            obtain ⟨go1, co1, rfl, hq1, hq2, hgo1, hgw1, _⟩ := hO.form
            have HOr := Lib.hid hO
            have HKr := Lib.hid hK
            have Hne := Lib.hid hne
            have Hsr := Lib.hid hsh
            have Hlen := Lib.hid hlen
            clear hO hK hne hsh hlen hm0
            by_cases hpos : 0 < y
            · go_wp2_with fail
              refine (IH.out (deep - 1) _ wr (by omega) (by omega) HKr.out.c (HB0.out.kept HKr.out.g)).mono ?_
              rintro e w8 ⟨u8, s8, rfl, ho8, hne8, hl8, hs8, hc8, hg8⟩
              have hO8 := HOr.out.kept hg8 (by simp only [Value.ownBlock]; intro e; injection e with e; omega)
              have K8 := HKr.out.got hc8 hg8
              have hmul : y.toNat * lb d = (y - 1).toNat * lb d + lb d := by
                have : y.toNat = (y - 1).toNat + 1 := by omega
                rw [this, Nat.succ_mul]
              have hle := Hlen.out
              rw [hmul] at hle
              obtain ⟨g9, c9, rfl, _, _, hgb9, _, hcs9⟩ := ho8.form
              obtain ⟨v9, w9, hr9, ho9, hg9⟩ := run_appS w8 w.heap.size _ ss hO8 g9 s8 c9 (fun j hj => (hcs9 j hj).1) (by omega) K8.g.size
              have K9 := Lib.hid (K8.row hpw hg9 (fun k e => by simp only [Value.ownBlock] at e; injection e with e; omega))
              have hO9 := Lib.hid ho9
              have HR9 := Lib.hid hr9
              have Hs9 := Lib.hid (Hsr.out.append hs8)
              have Hl9 : Hid ((ss ++ s8).length + (y - 1).toNat * lb d ≤ 2 + 3 * lb d) := Lib.hid (by rw [List.length_append]; omega)
              have Hn9 : Hid (ss ++ s8 ≠ []) := Lib.hid (by simp [Hne.out])
              clear ho8 hne8 hl8 hs8 hc8 hg8 hO8 K8 hmul hle hcs9 hr9 ho9 hg9
              go_wp2_with (at_builtin; refine wp_app rfl _ _ rfl rfl _ _ rfl rfl HR9.out ?_)
              go_roundw
              case rel => exact ⟨y - 1, ss ++ s8, hO9.out, rfl, by omega, Hn9.out, Hl9.out, Hs9.out, K9.out⟩
              case measure => simp [intOf]; omega
            · go_wp2_with fail
              go_ret
              exact ⟨_, ss, rfl, HOr.out, Hne.out, by have := Hlen.out; rw [lb]; omega, Hsr.out, HKr.out.c, HKr.out.g⟩
        · have hHm := Lib.hid hm0
          go_wp2_with fail
          refine (D.l1Below_any p v n 2 (by omega) (by omega) _ hK0.out.c (HB0.out.kept hK0.out.g)).mono ?_
          rintro e w5 ⟨x5, rfl, hx50, hx51, hC5, hg5⟩
          have K5 := Lib.hid (hK0.out.got hC5 hg5)
          have hO5 := Lib.hid (hS0.out.kept hg5 (by simp only [Value.ownBlock]; intro e; injection e with e; have := HK.out.g.size; omega))
          clear hC5 hg5
          go_wp2_with fail
          refine (l1Int_any x5 (by omega) (by omega) _).mono ?_
          rintro e w6 ⟨rfl, hb6⟩
          have K6 := Lib.hid (K5.out.below hb6)
          have hO6 := Lib.hid (hO5.out.below hb6)
          have Hsh := Lib.hid (itoa_short (x := x5) (by omega) (by omega))
          generalize (⟨(Lib.itoa x5).toArray⟩ : ByteArray) = t at Hsh ⊢
          obtain ⟨v7, w7, hr7, ho7, hg7⟩ := run_appS1 (w6.alloc (.cells #[.string t] 9)) w.heap.size _ [s] (hO6.out.alloc _) w6.heap.size t (by simp [go_sem]) (by simp) (by have := K6.out.g.size; simp; omega)
          have K7 := Lib.hid ((K6.out.alloc (.cells #[.string t] 9)).row hpw hg7 (fun k e => by simp only [Value.ownBlock] at e; injection e with e; have := HK.out.g.size; omega))
          have hO7 := Lib.hid ho7
          have HR7 := Lib.hid hr7
          clear hb6 hr7 ho7 hg7
          go_wp2_with (first | (go_at_call 40; refine (Hcn.out _).mono ?_; rintro e w' ⟨rfl, rfl⟩) | (at_builtin; refine wp_app rfl _ _ rfl rfl _ _ rfl rfl HR7.out ?_))
          go_loopw [8, 9] (fun o q wr => ∃ (y : Int) (ss : List ByteArray), OwS wr w.heap.size o ss ∧ q = .int .i64 y ∧ y ≤ 3 ∧ ss ≠ [] ∧ ss.length + y.toNat * lb d ≤ 2 + 3 * lb d ∧ Short ss ∧ Cu p v n w wr) (fun _ q _ => (intOf q).toNat)
          case atStart => exact ⟨y0, [s, t], hO7.out, rfl, by omega, by simp, by simp; omega, (short_one Hsz.out).append (short_one Hsh.out), K7.out⟩
          case round =>
            obtain ⟨y, ss, hO, rfl, hy3, hne, hlen, hsh, hK⟩ := hrel
            obtain ⟨go1, co1, rfl, hq1, hq2, hgo1, hgw1, _⟩ := hO.form
            have HOr := Lib.hid hO
            have HKr := Lib.hid hK
            have Hne := Lib.hid hne
            have Hsr := Lib.hid hsh
            have Hlen := Lib.hid hlen
            clear hO hK hne hsh hlen hm0
            by_cases hpos : 0 < y
            · go_wp2_with fail
              refine (IH.out (deep - 1) _ wr (by omega) (by omega) HKr.out.c (HB0.out.kept HKr.out.g)).mono ?_
              rintro e w8 ⟨u8, s8, rfl, ho8, hne8, hl8, hs8, hc8, hg8⟩
              have hO8 := HOr.out.kept hg8 (by simp only [Value.ownBlock]; intro e; injection e with e; omega)
              have K8 := HKr.out.got hc8 hg8
              have hmul : y.toNat * lb d = (y - 1).toNat * lb d + lb d := by
                have : y.toNat = (y - 1).toNat + 1 := by omega
                rw [this, Nat.succ_mul]
              have hle := Hlen.out
              rw [hmul] at hle
              obtain ⟨g9, c9, rfl, _, _, hgb9, _, hcs9⟩ := ho8.form
              obtain ⟨v9, w9, hr9, ho9, hg9⟩ := run_appS w8 w.heap.size _ ss hO8 g9 s8 c9 (fun j hj => (hcs9 j hj).1) (by omega) K8.g.size
              have K9 := Lib.hid (K8.row hpw hg9 (fun k e => by simp only [Value.ownBlock] at e; injection e with e; omega))
              have hO9 := Lib.hid ho9
              have HR9 := Lib.hid hr9
              have Hs9 := Lib.hid (Hsr.out.append hs8)
              have Hl9 : Hid ((ss ++ s8).length + (y - 1).toNat * lb d ≤ 2 + 3 * lb d) := Lib.hid (by rw [List.length_append]; omega)
              have Hn9 : Hid (ss ++ s8 ≠ []) := Lib.hid (by simp [Hne.out])
              clear ho8 hne8 hl8 hs8 hc8 hg8 hO8 K8 hmul hle hcs9 hr9 ho9 hg9
              go_wp2_with (at_builtin; refine wp_app rfl _ _ rfl rfl _ _ rfl rfl HR9.out ?_)
              go_roundw
              case rel => exact ⟨y - 1, ss ++ s8, hO9.out, rfl, by omega, Hn9.out, Hl9.out, Hs9.out, K9.out⟩
              case measure => simp [intOf]; omega
            · go_wp2_with fail
              go_ret
              exact ⟨_, ss, rfl, HOr.out, Hne.out, by have := Hlen.out; rw [lb]; omega, Hsr.out, HKr.out.c, HKr.out.g⟩
      · go_wp2_with fail
        have hcells4 : ∀ j, j < 4 → ∃ s : ByteArray, (w2.alloc (.cells #[Value.string ⟨#[109, 97, 114, 107]⟩, Value.string ⟨#[109, 97, 114, 107]⟩, Value.string ⟨#[99, 117, 116]⟩, Value.string ⟨#[103, 111]⟩] 9)).cell? ⟨w2.heap.size, j, none⟩ = some (.string s) ∧ s.size ≤ 20 := fun j hj => by
          obtain ⟨s, hs, hz⟩ := words4 j hj
          exact ⟨s, lit_cell w2 _ _ j hs, hz⟩
        have KA4 := Lib.hid (K2.out.alloc (.cells #[Value.string ⟨#[109, 97, 114, 107]⟩, Value.string ⟨#[109, 97, 114, 107]⟩, Value.string ⟨#[99, 117, 116]⟩, Value.string ⟨#[103, 111]⟩] 9))
        have hne4 : some w2.heap.size ≠ some p := by intro e; injection e with e; have := K2.out.c.lt; omega
        have Hcells4 := Lib.hid hcells4
        have Hne4 := Lib.hid hne4
        clear hcells4 hne4 hsz HB2
        generalize w2.alloc (.cells #[Value.string ⟨#[109, 97, 114, 107]⟩, Value.string ⟨#[109, 97, 114, 107]⟩, Value.string ⟨#[99, 117, 116]⟩, Value.string ⟨#[103, 111]⟩] 9) = wb at Hcells4 KA4 ⊢
        generalize w2.heap.size = bw4 at Hcells4 Hne4 ⊢
        refine (D.l1Below_any p v n 4 (by omega) (by omega) _ KA4.out.c (HB0.out.kept KA4.out.g)).mono ?_
        rintro e w3 ⟨x3, rfl, hx30, hx31, hC3, hg3⟩
        obtain ⟨j3, rfl⟩ : ∃ j : Nat, x3 = (j : Int) := ⟨x3.toNat, by omega⟩
        obtain ⟨s, hs3, hsz⟩ := Hcells4.out j3 (by omega)
        have hcell3 := hg3.cell hs3 Hne4.out
        have K3 := Lib.hid (KA4.out.got hC3 hg3)
        clear hC3 hg3 hs3
        have HK := K3
        have hnb := needs_bd s.toList
        have hcn := specNeeds_any s (by unfold maxLen; omega)
        obtain ⟨y0, hy0⟩ : ∃ y0, needs s.toList = y0 := ⟨_, rfl⟩
        rw [hy0] at hcn hnb
        have Hcn := Lib.hid hcn
        have Hsz := Lib.hid hsz
        have hS0 : Hid (OwS (w3.alloc (.cells #[.string s] 9)) w.heap.size (.slice (some ⟨w3.heap.size, 0, none⟩) 1 1) [s]) := Lib.hid (owS_lit w3 w.heap.size [s] HK.out.g.size (by simp))
        have hK0 := Lib.hid (HK.out.alloc (.cells #[.string s] 9))
        have hm0 := Nat.mul_le_mul_right (lb d) (show y0.toNat ≤ 3 by omega)
        clear hcn hy0 hsz
        cases htb : (s.toList == [98, 105, 110, 100])
        · go_wp2_with (go_at_call 40; refine (Hcn.out _).mono ?_; rintro e w' ⟨rfl, rfl⟩)
          go_loopw [8, 9] (fun o q wr => ∃ (y : Int) (ss : List ByteArray), OwS wr w.heap.size o ss ∧ q = .int .i64 y ∧ y ≤ 3 ∧ ss ≠ [] ∧ ss.length + y.toNat * lb d ≤ 2 + 3 * lb d ∧ Short ss ∧ Cu p v n w wr) (fun _ q _ => (intOf q).toNat)
          case atStart => exact ⟨y0, [s], hS0.out, rfl, by omega, by simp, by simp; omega, short_one Hsz.out, hK0.out⟩
          case round =>
            obtain ⟨y, ss, hO, rfl, hy3, hne, hlen, hsh, hK⟩ := hrel
            obtain ⟨go1, co1, rfl, hq1, hq2, hgo1, hgw1, _⟩ := hO.form
            have HOr := Lib.hid hO
            have HKr := Lib.hid hK
            have Hne := Lib.hid hne
            have Hsr := Lib.hid hsh
            have Hlen := Lib.hid hlen
            clear hO hK hne hsh hlen hm0
            by_cases hpos : 0 < y
            · go_wp2_with fail
              refine (IH.out (deep - 1) _ wr (by omega) (by omega) HKr.out.c (HB0.out.kept HKr.out.g)).mono ?_
              rintro e w8 ⟨u8, s8, rfl, ho8, hne8, hl8, hs8, hc8, hg8⟩
              have hO8 := HOr.out.kept hg8 (by simp only [Value.ownBlock]; intro e; injection e with e; omega)
              have K8 := HKr.out.got hc8 hg8
              have hmul : y.toNat * lb d = (y - 1).toNat * lb d + lb d := by
                have : y.toNat = (y - 1).toNat + 1 := by omega
                rw [this, Nat.succ_mul]
              have hle := Hlen.out
              rw [hmul] at hle
              obtain ⟨g9, c9, rfl, _, _, hgb9, _, hcs9⟩ := ho8.form
              obtain ⟨v9, w9, hr9, ho9, hg9⟩ := run_appS w8 w.heap.size _ ss hO8 g9 s8 c9 (fun j hj => (hcs9 j hj).1) (by omega) K8.g.size
              have K9 := Lib.hid (K8.row hpw hg9 (fun k e => by simp only [Value.ownBlock] at e; injection e with e; omega))
              have hO9 := Lib.hid ho9
              have HR9 := Lib.hid hr9
              have Hs9 := Lib.hid (Hsr.out.append hs8)
              have Hl9 : Hid ((ss ++ s8).length + (y - 1).toNat * lb d ≤ 2 + 3 * lb d) := Lib.hid (by rw [List.length_append]; omega)
              have Hn9 : Hid (ss ++ s8 ≠ []) := Lib.hid (by simp [Hne.out])
              clear ho8 hne8 hl8 hs8 hc8 hg8 hO8 K8 hmul hle hcs9 hr9 ho9 hg9
              go_wp2_with (at_builtin; refine wp_app rfl _ _ rfl rfl _ _ rfl rfl HR9.out ?_)
              go_roundw
              case rel => exact ⟨y - 1, ss ++ s8, hO9.out, rfl, by omega, Hn9.out, Hl9.out, Hs9.out, K9.out⟩
              case measure => simp [intOf]; omega
            · go_wp2_with fail
              go_ret
              exact ⟨_, ss, rfl, HOr.out, Hne.out, by have := Hlen.out; rw [lb]; omega, Hsr.out, HKr.out.c, HKr.out.g⟩
        · have hHm := Lib.hid hm0
          go_wp2_with fail
          refine (D.l1Below_any p v n 2 (by omega) (by omega) _ hK0.out.c (HB0.out.kept hK0.out.g)).mono ?_
          rintro e w5 ⟨x5, rfl, hx50, hx51, hC5, hg5⟩
          have K5 := Lib.hid (hK0.out.got hC5 hg5)
          have hO5 := Lib.hid (hS0.out.kept hg5 (by simp only [Value.ownBlock]; intro e; injection e with e; have := HK.out.g.size; omega))
          clear hC5 hg5
          go_wp2_with fail
          refine (l1Int_any x5 (by omega) (by omega) _).mono ?_
          rintro e w6 ⟨rfl, hb6⟩
          have K6 := Lib.hid (K5.out.below hb6)
          have hO6 := Lib.hid (hO5.out.below hb6)
          have Hsh := Lib.hid (itoa_short (x := x5) (by omega) (by omega))
          generalize (⟨(Lib.itoa x5).toArray⟩ : ByteArray) = t at Hsh ⊢
          obtain ⟨v7, w7, hr7, ho7, hg7⟩ := run_appS1 (w6.alloc (.cells #[.string t] 9)) w.heap.size _ [s] (hO6.out.alloc _) w6.heap.size t (by simp [go_sem]) (by simp) (by have := K6.out.g.size; simp; omega)
          have K7 := Lib.hid ((K6.out.alloc (.cells #[.string t] 9)).row hpw hg7 (fun k e => by simp only [Value.ownBlock] at e; injection e with e; have := HK.out.g.size; omega))
          have hO7 := Lib.hid ho7
          have HR7 := Lib.hid hr7
          clear hb6 hr7 ho7 hg7
          go_wp2_with (first | (go_at_call 40; refine (Hcn.out _).mono ?_; rintro e w' ⟨rfl, rfl⟩) | (at_builtin; refine wp_app rfl _ _ rfl rfl _ _ rfl rfl HR7.out ?_))
          go_loopw [8, 9] (fun o q wr => ∃ (y : Int) (ss : List ByteArray), OwS wr w.heap.size o ss ∧ q = .int .i64 y ∧ y ≤ 3 ∧ ss ≠ [] ∧ ss.length + y.toNat * lb d ≤ 2 + 3 * lb d ∧ Short ss ∧ Cu p v n w wr) (fun _ q _ => (intOf q).toNat)
          case atStart => exact ⟨y0, [s, t], hO7.out, rfl, by omega, by simp, by simp; omega, (short_one Hsz.out).append (short_one Hsh.out), K7.out⟩
          case round =>
            obtain ⟨y, ss, hO, rfl, hy3, hne, hlen, hsh, hK⟩ := hrel
            obtain ⟨go1, co1, rfl, hq1, hq2, hgo1, hgw1, _⟩ := hO.form
            have HOr := Lib.hid hO
            have HKr := Lib.hid hK
            have Hne := Lib.hid hne
            have Hsr := Lib.hid hsh
            have Hlen := Lib.hid hlen
            clear hO hK hne hsh hlen hm0
            by_cases hpos : 0 < y
            · go_wp2_with fail
              refine (IH.out (deep - 1) _ wr (by omega) (by omega) HKr.out.c (HB0.out.kept HKr.out.g)).mono ?_
              rintro e w8 ⟨u8, s8, rfl, ho8, hne8, hl8, hs8, hc8, hg8⟩
              have hO8 := HOr.out.kept hg8 (by simp only [Value.ownBlock]; intro e; injection e with e; omega)
              have K8 := HKr.out.got hc8 hg8
              have hmul : y.toNat * lb d = (y - 1).toNat * lb d + lb d := by
                have : y.toNat = (y - 1).toNat + 1 := by omega
                rw [this, Nat.succ_mul]
              have hle := Hlen.out
              rw [hmul] at hle
              obtain ⟨g9, c9, rfl, _, _, hgb9, _, hcs9⟩ := ho8.form
              obtain ⟨v9, w9, hr9, ho9, hg9⟩ := run_appS w8 w.heap.size _ ss hO8 g9 s8 c9 (fun j hj => (hcs9 j hj).1) (by omega) K8.g.size
              have K9 := Lib.hid (K8.row hpw hg9 (fun k e => by simp only [Value.ownBlock] at e; injection e with e; omega))
              have hO9 := Lib.hid ho9
              have HR9 := Lib.hid hr9
              have Hs9 := Lib.hid (Hsr.out.append hs8)
              have Hl9 : Hid ((ss ++ s8).length + (y - 1).toNat * lb d ≤ 2 + 3 * lb d) := Lib.hid (by rw [List.length_append]; omega)
              have Hn9 : Hid (ss ++ s8 ≠ []) := Lib.hid (by simp [Hne.out])
              clear ho8 hne8 hl8 hs8 hc8 hg8 hO8 K8 hmul hle hcs9 hr9 ho9 hg9
              go_wp2_with (at_builtin; refine wp_app rfl _ _ rfl rfl _ _ rfl rfl HR9.out ?_)
              go_roundw
              case rel => exact ⟨y - 1, ss ++ s8, hO9.out, rfl, by omega, Hn9.out, Hl9.out, Hs9.out, K9.out⟩
              case measure => simp [intOf]; omega
            · go_wp2_with fail
              go_ret
              exact ⟨_, ss, rfl, HOr.out, Hne.out, by have := Hlen.out; rw [lb]; omega, Hsr.out, HKr.out.c, HKr.out.g⟩
    · clear HB1
      have HK := K1
      have hnb := needs_bd s.toList
      have hcn := specNeeds_any s (by unfold maxLen; omega)
      obtain ⟨y0, hy0⟩ : ∃ y0, needs s.toList = y0 := ⟨_, rfl⟩
      rw [hy0] at hcn hnb
      have Hcn := Lib.hid hcn
      have Hsz := Lib.hid hsz
      have hS0 : Hid (OwS (w1.alloc (.cells #[.string s] 9)) w.heap.size (.slice (some ⟨w1.heap.size, 0, none⟩) 1 1) [s]) := Lib.hid (owS_lit w1 w.heap.size [s] HK.out.g.size (by simp))
      have hK0 := Lib.hid (HK.out.alloc (.cells #[.string s] 9))
      have hm0 := Nat.mul_le_mul_right (lb d) (show y0.toNat ≤ 3 by omega)
      clear hcn hy0 hsz
      cases htb : (s.toList == [98, 105, 110, 100])
      · go_wp2_with (go_at_call 40; refine (Hcn.out _).mono ?_; rintro e w' ⟨rfl, rfl⟩)
        go_loopw [8, 9] (fun o q wr => ∃ (y : Int) (ss : List ByteArray), OwS wr w.heap.size o ss ∧ q = .int .i64 y ∧ y ≤ 3 ∧ ss ≠ [] ∧ ss.length + y.toNat * lb d ≤ 2 + 3 * lb d ∧ Short ss ∧ Cu p v n w wr) (fun _ q _ => (intOf q).toNat)
        case atStart => exact ⟨y0, [s], hS0.out, rfl, by omega, by simp, by simp; omega, short_one Hsz.out, hK0.out⟩
        case round =>
          obtain ⟨y, ss, hO, rfl, hy3, hne, hlen, hsh, hK⟩ := hrel
          obtain ⟨go1, co1, rfl, hq1, hq2, hgo1, hgw1, _⟩ := hO.form
          have HOr := Lib.hid hO
          have HKr := Lib.hid hK
          have Hne := Lib.hid hne
          have Hsr := Lib.hid hsh
          have Hlen := Lib.hid hlen
          clear hO hK hne hsh hlen hm0
          by_cases hpos : 0 < y
          · go_wp2_with fail
            refine (IH.out (deep - 1) _ wr (by omega) (by omega) HKr.out.c (HB0.out.kept HKr.out.g)).mono ?_
            rintro e w8 ⟨u8, s8, rfl, ho8, hne8, hl8, hs8, hc8, hg8⟩
            have hO8 := HOr.out.kept hg8 (by simp only [Value.ownBlock]; intro e; injection e with e; omega)
            have K8 := HKr.out.got hc8 hg8
            have hmul : y.toNat * lb d = (y - 1).toNat * lb d + lb d := by
              have : y.toNat = (y - 1).toNat + 1 := by omega
              rw [this, Nat.succ_mul]
            have hle := Hlen.out
            rw [hmul] at hle
            obtain ⟨g9, c9, rfl, _, _, hgb9, _, hcs9⟩ := ho8.form
            obtain ⟨v9, w9, hr9, ho9, hg9⟩ := run_appS w8 w.heap.size _ ss hO8 g9 s8 c9 (fun j hj => (hcs9 j hj).1) (by omega) K8.g.size
            have K9 := Lib.hid (K8.row hpw hg9 (fun k e => by simp only [Value.ownBlock] at e; injection e with e; omega))
            have hO9 := Lib.hid ho9
            have HR9 := Lib.hid hr9
            have Hs9 := Lib.hid (Hsr.out.append hs8)
            have Hl9 : Hid ((ss ++ s8).length + (y - 1).toNat * lb d ≤ 2 + 3 * lb d) := Lib.hid (by rw [List.length_append]; omega)
            have Hn9 : Hid (ss ++ s8 ≠ []) := Lib.hid (by simp [Hne.out])
            clear ho8 hne8 hl8 hs8 hc8 hg8 hO8 K8 hmul hle hcs9 hr9 ho9 hg9
            go_wp2_with (at_builtin; refine wp_app rfl _ _ rfl rfl _ _ rfl rfl HR9.out ?_)
            go_roundw
            case rel => exact ⟨y - 1, ss ++ s8, hO9.out, rfl, by omega, Hn9.out, Hl9.out, Hs9.out, K9.out⟩
            case measure => simp [intOf]; omega
          · go_wp2_with fail
            go_ret
            exact ⟨_, ss, rfl, HOr.out, Hne.out, by have := Hlen.out; rw [lb]; omega, Hsr.out, HKr.out.c, HKr.out.g⟩
      · have hHm := Lib.hid hm0
        go_wp2_with fail
        refine (D.l1Below_any p v n 2 (by omega) (by omega) _ hK0.out.c (HB0.out.kept hK0.out.g)).mono ?_
        rintro e w5 ⟨x5, rfl, hx50, hx51, hC5, hg5⟩
        have K5 := Lib.hid (hK0.out.got hC5 hg5)
        have hO5 := Lib.hid (hS0.out.kept hg5 (by simp only [Value.ownBlock]; intro e; injection e with e; have := HK.out.g.size; omega))
        clear hC5 hg5
        go_wp2_with fail
        refine (l1Int_any x5 (by omega) (by omega) _).mono ?_
        rintro e w6 ⟨rfl, hb6⟩
        have K6 := Lib.hid (K5.out.below hb6)
        have hO6 := Lib.hid (hO5.out.below hb6)
        have Hsh := Lib.hid (itoa_short (x := x5) (by omega) (by omega))
        generalize (⟨(Lib.itoa x5).toArray⟩ : ByteArray) = t at Hsh ⊢
        obtain ⟨v7, w7, hr7, ho7, hg7⟩ := run_appS1 (w6.alloc (.cells #[.string t] 9)) w.heap.size _ [s] (hO6.out.alloc _) w6.heap.size t (by simp [go_sem]) (by simp) (by have := K6.out.g.size; simp; omega)
        have K7 := Lib.hid ((K6.out.alloc (.cells #[.string t] 9)).row hpw hg7 (fun k e => by simp only [Value.ownBlock] at e; injection e with e; have := HK.out.g.size; omega))
        have hO7 := Lib.hid ho7
        have HR7 := Lib.hid hr7
        clear hb6 hr7 ho7 hg7
        go_wp2_with (first | (go_at_call 40; refine (Hcn.out _).mono ?_; rintro e w' ⟨rfl, rfl⟩) | (at_builtin; refine wp_app rfl _ _ rfl rfl _ _ rfl rfl HR7.out ?_))
        go_loopw [8, 9] (fun o q wr => ∃ (y : Int) (ss : List ByteArray), OwS wr w.heap.size o ss ∧ q = .int .i64 y ∧ y ≤ 3 ∧ ss ≠ [] ∧ ss.length + y.toNat * lb d ≤ 2 + 3 * lb d ∧ Short ss ∧ Cu p v n w wr) (fun _ q _ => (intOf q).toNat)
        case atStart => exact ⟨y0, [s, t], hO7.out, rfl, by omega, by simp, by simp; omega, (short_one Hsz.out).append (short_one Hsh.out), K7.out⟩
        case round =>
          obtain ⟨y, ss, hO, rfl, hy3, hne, hlen, hsh, hK⟩ := hrel
          obtain ⟨go1, co1, rfl, hq1, hq2, hgo1, hgw1, _⟩ := hO.form
          have HOr := Lib.hid hO
          have HKr := Lib.hid hK
          have Hne := Lib.hid hne
          have Hsr := Lib.hid hsh
          have Hlen := Lib.hid hlen
          clear hO hK hne hsh hlen hm0
          by_cases hpos : 0 < y
          · go_wp2_with fail
            refine (IH.out (deep - 1) _ wr (by omega) (by omega) HKr.out.c (HB0.out.kept HKr.out.g)).mono ?_
            rintro e w8 ⟨u8, s8, rfl, ho8, hne8, hl8, hs8, hc8, hg8⟩
            have hO8 := HOr.out.kept hg8 (by simp only [Value.ownBlock]; intro e; injection e with e; omega)
            have K8 := HKr.out.got hc8 hg8
            have hmul : y.toNat * lb d = (y - 1).toNat * lb d + lb d := by
              have : y.toNat = (y - 1).toNat + 1 := by omega
              rw [this, Nat.succ_mul]
            have hle := Hlen.out
            rw [hmul] at hle
            obtain ⟨g9, c9, rfl, _, _, hgb9, _, hcs9⟩ := ho8.form
            obtain ⟨v9, w9, hr9, ho9, hg9⟩ := run_appS w8 w.heap.size _ ss hO8 g9 s8 c9 (fun j hj => (hcs9 j hj).1) (by omega) K8.g.size
            have K9 := Lib.hid (K8.row hpw hg9 (fun k e => by simp only [Value.ownBlock] at e; injection e with e; omega))
            have hO9 := Lib.hid ho9
            have HR9 := Lib.hid hr9
            have Hs9 := Lib.hid (Hsr.out.append hs8)
            have Hl9 : Hid ((ss ++ s8).length + (y - 1).toNat * lb d ≤ 2 + 3 * lb d) := Lib.hid (by rw [List.length_append]; omega)
            have Hn9 : Hid (ss ++ s8 ≠ []) := Lib.hid (by simp [Hne.out])
            clear ho8 hne8 hl8 hs8 hc8 hg8 hO8 K8 hmul hle hcs9 hr9 ho9 hg9
            go_wp2_with (at_builtin; refine wp_app rfl _ _ rfl rfl _ _ rfl rfl HR9.out ?_)
            go_roundw
            case rel => exact ⟨y - 1, ss ++ s8, hO9.out, rfl, by omega, Hn9.out, Hl9.out, Hs9.out, K9.out⟩
            case measure => simp [intOf]; omega
          · go_wp2_with fail
            go_ret
            exact ⟨_, ss, rfl, HOr.out, Hne.out, by have := Hlen.out; rw [lb]; omega, Hsr.out, HKr.out.c, HKr.out.g⟩
  · clear IH
    go_wp2_with fail
    refine (D.l1Below_any p v n 4 (by omega) (by omega) _ HCz.out HBz.out).mono ?_
    rintro e w1 ⟨x, rfl, hx0, hx1, hC1, hg1⟩
    have K1 := Lib.hid (KZ.out.got hC1 hg1)
    have HB1 := Lib.hid (HB0.out.kept K1.out.g)
    have HC1 := Lib.hid hC1
    clear hC1 hg1
    by_cases hz : x = 0
    · have hz1 : (x == 0) = true := by simpa using hz
      have Hz := Lib.hid hz
      clear hz
      go_wp2_with fail
      go_ret
      exact ⟨_, _, rfl, owS_lit w1 w.heap.size [⟨#[97, 114, 103]⟩] K1.out.g.size (by simp), by simp, by simp; omega, short_one (by decide), HC1.out.alloc _, D.grown_alloc K1.out.g _⟩
    · have hz1 : (x == 0) = false := by simpa using hz
      by_cases ho : x = 1
      · have ho1 : (x == 1) = true := by simpa using ho
        have Hz := Lib.hid hz
        have Ho := Lib.hid ho
        clear hz ho
        go_wp2_with fail
        refine (D.l1Below_any p v n 2 (by omega) (by omega) _ HC1.out HB1.out).mono ?_
        rintro e w2 ⟨y, rfl, hy0, hy1, hC2, hg2⟩
        have K2 := Lib.hid (K1.out.got hC2 hg2)
        clear hC2 hg2
        go_wp2_with fail
        refine (l1Int_any y (by omega) (by omega) _).mono ?_
        rintro e w3 ⟨rfl, hb3⟩
        have K3 := Lib.hid (K2.out.below hb3)
        have Hsh := Lib.hid (itoa_short (x := y) (by omega) (by omega))
        generalize (⟨(Lib.itoa y).toArray⟩ : ByteArray) = t at Hsh ⊢
        clear hb3
        go_wp2_with fail
        go_ret
        exact ⟨_, _, rfl, owS_lit w3 w.heap.size [⟨#[97, 115, 107]⟩, t] K3.out.g.size (by simp), by simp, by simpa using hL2, (short_one (s := ⟨#[97, 115, 107]⟩) (by decide)).append (short_one Hsh.out), K3.out.c.alloc _, D.grown_alloc K3.out.g _⟩
      · have ho1 : (x == 1) = false := by simpa using ho
        have Hz := Lib.hid hz
        have Ho := Lib.hid ho
        clear hz ho
        go_wp2_with fail
        refine (D.l1Below_any p v n 9 (by omega) (by omega) _ HC1.out HB1.out).mono ?_
        rintro e w2 ⟨y, rfl, hy0, hy1, hC2, hg2⟩
        have K2 := Lib.hid (K1.out.got hC2 hg2)
        clear hC2 hg2
        go_wp2_with fail
        refine (l1Int_any (y - 2) (by omega) (by omega) _).mono ?_
        rintro e w3 ⟨rfl, hb3⟩
        have K3 := Lib.hid (K2.out.below hb3)
        have Hsh := Lib.hid (itoa_short (x := y - 2) (by omega) (by omega))
        generalize (⟨(Lib.itoa (y - 2)).toArray⟩ : ByteArray) = t at Hsh ⊢
        clear hb3
        go_wp2_with fail
        go_ret
        exact ⟨_, _, rfl, owS_lit w3 w.heap.size [t] K3.out.g.size (by simp), by simp, by simp; omega, short_one Hsh.out, K3.out.c.alloc _, D.grown_alloc K3.out.g _⟩

end L2
end Go.Proofs.YtcfniecdjbgknaaDoor
