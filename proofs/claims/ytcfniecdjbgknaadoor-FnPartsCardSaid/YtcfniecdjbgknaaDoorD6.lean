/-
  The draws: a list of words, mostly a sum.
-/
import Derived.Test.YtcfniecdjbgknaaDoorD5
namespace Go.Proofs.YtcfniecdjbgknaaDoor
open Go.RowKit
namespace L2
open S1 L1

theorem words7 : ∀ j, j < 7 → ∃ s : ByteArray, (#[Value.string ⟨#[]⟩, Value.string ⟨#[119, 104, 97, 116]⟩, Value.string ⟨#[49, 48, 48, 48, 48, 48, 48]⟩, Value.string ⟨#[49, 48, 48, 48, 48, 48, 49]⟩, Value.string ⟨#[97, 114, 103]⟩, Value.string ⟨#[105, 102]⟩, Value.string ⟨#[52]⟩] : Array Value)[j]? = some (.string s) ∧ s.size ≤ 20 := by
  intro j hj
  match j, hj with
  | 0, _ => exact ⟨_, rfl, by decide⟩
  | 1, _ => exact ⟨_, rfl, by decide⟩
  | 2, _ => exact ⟨_, rfl, by decide⟩
  | 3, _ => exact ⟨_, rfl, by decide⟩
  | 4, _ => exact ⟨_, rfl, by decide⟩
  | 5, _ => exact ⟨_, rfl, by decide⟩
  | 6, _ => exact ⟨_, rfl, by decide⟩
  | k + 7, hj => omega

/-- What a draw of words leaves, a sum or not. -/
def DrewA (p : Nat) (v : Value) (n : Nat) (w : World) (e : Ending) (w' : World) : Prop :=
  ∃ u ss, e = .returned u ∧ OwS w' w.heap.size u ss ∧ ss.length ≤ 100 ∧ Short ss ∧ D.Cur w' p v n ∧ w.grownBy w' (some p)

set_option maxRecDepth 100000 in
set_option maxHeartbeats 8000000 in
theorem l2DrawAny_any (p : Nat) (v : Value) (n : Nat) (w : World) (hC : D.Cur w p v n) (hB : D.Bytes w p v n) :
    Calls Tryd.prog 97 #[.pointer (some ⟨p, 0, none⟩)] w (DrewA p v n w) := by
  have hC0 := Lib.hid hC
  have HB0 := Lib.hid hB
  have hpw := hC.lt
  clear hC hB
  go_enter Tryd.func97, Tryd.ntmps97
  go_wp2_with fail
  refine (D.l1Once_any p v n 2 (by omega) (by omega) _ hC0.out HB0.out).mono ?_
  rintro e w1 ⟨b1, rfl, hC1, hg1⟩
  have K1 := Lib.hid ((Cu.start hC0.out).got hC1 hg1)
  clear hC1 hg1
  go_wp2_with fail
  refine (l2DrawSum_any p v n b1 w1 K1.out.c (HB0.out.kept K1.out.g)).mono ?_
  rintro e w2 ⟨u2, s2, rfl, ho2, hne2, hl2, hs2, hc2, hg2⟩
  have K2 := Lib.hid (K1.out.got hc2 hg2)
  have HO2a := Lib.hid (ho2.base K1.out.g.size)
  have Hs2 := Lib.hid hs2
  obtain ⟨G, C, rfl, hq1, hq2, hG0, hG1, _⟩ := HO2a.out.form
  have hpos : 0 < s2.length := by
    cases s2 with
    | nil => exact absurd rfl hne2
    | cons a r => simp
  obtain ⟨m, hm⟩ : ∃ m, s2.length = m := ⟨_, rfl⟩
  rw [hm] at hl2 hpos hq1 HO2a ⊢
  have Hm := Lib.hid hm
  unfold maxLen at hq2
  clear ho2 hne2 hs2 hc2 hg2 hm
  go_wp2_with fail
  refine (D.l1Once_any p v n 4 (by omega) (by omega) _ K2.out.c (HB0.out.kept K2.out.g)).mono ?_
  rintro e w3 ⟨b3, rfl, hC3, hg3⟩
  have K3 := Lib.hid (K2.out.got hC3 hg3)
  have HO3a := Lib.hid (HO2a.out.kept hg3 (by simp only [Value.ownBlock]; intro e; injection e with e; omega))
  clear hC3 hg3
  cases b3
  · clear HO2a
    go_wp2_with fail
    refine (D.l1Once_any p v n 40 (by omega) (by omega) _ K3.out.c (HB0.out.kept K3.out.g)).mono ?_
    rintro e wz ⟨bz, rfl, hCz, hgz⟩
    have KZ := Lib.hid (K3.out.got hCz hgz)
    cases bz
    · have HOZ := Lib.hid (HO3a.out.kept hgz (by simp only [Value.ownBlock]; intro e; injection e with e; omega))
      clear hCz hgz
      go_wp2_with fail
      go_ret
      exact ⟨_, _, rfl, HOZ.out, by rw [Hm.out]; omega, Hs2.out, KZ.out.c, KZ.out.g⟩
    · clear hCz hgz
      go_wp2_with fail
      have hO0 := owS_new wz w.heap.size KZ.out.g.size
      have hK0 := KZ.out.alloc (.cells #[] 9)
      generalize Value.slice (some ⟨wz.heap.size, 0, none⟩) 0 0 = v0 at hO0 ⊢
      generalize wz.alloc (.cells #[] 9) = w0 at hO0 hK0 ⊢
      have HO0 := Lib.hid hO0
      have HK0 := Lib.hid hK0
      clear hO0 hK0
      refine (D.l1Below_any p v n 3 (by omega) (by omega) _ HK0.out.c (HB0.out.kept HK0.out.g)).mono ?_
      rintro e w1 ⟨x1, rfl, hx10, hx11, hC1, hg1⟩
      obtain ⟨g0, c0, hv0, _, _, hg0, _, _⟩ := HO0.out.form
      have HO1 := Lib.hid (HO0.out.kept hg1 (by rw [hv0]; simp only [Value.ownBlock]; intro e; injection e with e; omega))
      have K1 := Lib.hid (HK0.out.got hC1 hg1)
      clear hC1 hg1 hv0
      go_wp2_with fail
      go_loopw [3, 5] (fun o q wr => ∃ (y : Int) (ss : List ByteArray), OwS wr w.heap.size o ss ∧ q = .int .i64 y ∧ y ≤ 61 ∧ (ss.length : Int) + y ≤ 61 ∧ 1 ≤ y ∧ Short ss ∧ Cu p v n w wr) (fun _ q _ => (intOf q).toNat)
      case atStart => exact ⟨59 + x1, [], HO1.out, rfl, by omega, by simp; omega, by omega, (by intro s hs; cases hs), K1.out⟩
      case round =>
        obtain ⟨y, ss, hO, rfl, hy3, hlen, hy1, hsh, hK⟩ := hrel
        obtain ⟨go1, co1, rfl, hq1, hq2, hgo1, hgw1, _⟩ := hO.form
        have HOr := Lib.hid hO
        have HKr := Lib.hid hK
        have Hsr := Lib.hid hsh
        clear hO hK hsh
        by_cases hpos : 1 < y
        · obtain ⟨v3, w3, hr3, ho3, hg3⟩ := run_appS1 (wr.alloc (.cells #[.string ⟨#[115, 97, 121]⟩] 9)) w.heap.size _ ss (HOr.out.alloc _) wr.heap.size ⟨#[115, 97, 121]⟩ (by simp [go_sem]) (by omega) (by have := HKr.out.g.size; simp; omega)
          have K3 := Lib.hid ((HKr.out.alloc (.cells #[.string ⟨#[115, 97, 121]⟩] 9)).row hpw hg3 (fun k e => by simp only [Value.ownBlock] at e; injection e with e; omega))
          have HO3 := Lib.hid ho3
          have HR3 := Lib.hid hr3
          clear hr3 ho3 hg3
          go_wp2_with (at_builtin; refine wp_app rfl _ _ rfl rfl _ _ rfl rfl HR3.out ?_)
          go_roundw
          case rel => exact ⟨y - 1, ss ++ [⟨#[115, 97, 121]⟩], HO3.out, rfl, by omega, by rw [List.length_append]; simp; omega, by omega, Hsr.out.append (short_one (by decide)), K3.out⟩
          case measure => simp [intOf]; omega
        · obtain ⟨v3, w3, hr3, ho3, hg3⟩ := run_appS1 (wr.alloc (.cells #[.string ⟨#[49]⟩] 9)) w.heap.size _ ss (HOr.out.alloc _) wr.heap.size ⟨#[49]⟩ (by simp [go_sem]) (by omega) (by have := HKr.out.g.size; simp; omega)
          have K3 := Lib.hid ((HKr.out.alloc (.cells #[.string ⟨#[49]⟩] 9)).row hpw hg3 (fun k e => by simp only [Value.ownBlock] at e; injection e with e; omega))
          have HO3 := Lib.hid ho3
          have HR3 := Lib.hid hr3
          clear hr3 ho3 hg3
          go_wp2_with (at_builtin; refine wp_app rfl _ _ rfl rfl _ _ rfl rfl HR3.out ?_)
          go_ret
          exact ⟨_, _, rfl, HO3.out, by rw [List.length_append]; simp; omega, Hsr.out.append (short_one (by decide)), K3.out.c, K3.out.g⟩
  · go_wp2_with fail
    refine (D.l1Below_any p v n (m : Int) (by omega) (by omega) _ K3.out.c (HB0.out.kept K3.out.g)).mono ?_
    rintro e w4 ⟨k', rfl, hk0, hk1, hC4, hg4⟩
    have K4 := Lib.hid (K3.out.got hC4 hg4)
    have HO4a := Lib.hid (HO3a.out.kept hg4 (by simp only [Value.ownBlock]; intro e; injection e with e; omega))
    clear hC4 hg4
    obtain ⟨k, rfl⟩ : ∃ k : Nat, k' = (k : Int) := ⟨k'.toNat, by omega⟩
    have hkm : k < m := by omega
    go_wp2_with fail
    refine (D.l1Below_any p v n 4 (by omega) (by omega) _ K4.out.c (HB0.out.kept K4.out.g)).mono ?_
    rintro e w5 ⟨z, rfl, hz0, hz1, hC5, hg5⟩
    have K5 := Lib.hid (K4.out.got hC5 hg5)
    have HO5a := Lib.hid (HO4a.out.kept hg5 (by simp only [Value.ownBlock]; intro e; injection e with e; omega))
    clear hC5 hg5 HO2a HO3a HO4a
    have hz : z = 0 ∨ z = 1 ∨ z = 2 ∨ z = 3 := by omega
    rcases hz with rfl | rfl | rfl | rfl
    · go_wp2_with fail
      have hcells : ∀ j, j < 7 → ∃ s : ByteArray, (w5.alloc (.cells #[Value.string ⟨#[]⟩, Value.string ⟨#[119, 104, 97, 116]⟩, Value.string ⟨#[49, 48, 48, 48, 48, 48, 48]⟩, Value.string ⟨#[49, 48, 48, 48, 48, 48, 49]⟩, Value.string ⟨#[97, 114, 103]⟩, Value.string ⟨#[105, 102]⟩, Value.string ⟨#[52]⟩] 9)).cell? ⟨w5.heap.size, j, none⟩ = some (.string s) ∧ s.size ≤ 20 := fun j hj => by
        obtain ⟨s, hs, hz⟩ := words7 j hj
        exact ⟨s, lit_cell w5 _ _ j hs, hz⟩
      have KA := Lib.hid (K5.out.alloc (.cells #[Value.string ⟨#[]⟩, Value.string ⟨#[119, 104, 97, 116]⟩, Value.string ⟨#[49, 48, 48, 48, 48, 48, 48]⟩, Value.string ⟨#[49, 48, 48, 48, 48, 48, 49]⟩, Value.string ⟨#[97, 114, 103]⟩, Value.string ⟨#[105, 102]⟩, Value.string ⟨#[52]⟩] 9))
      have HOA := Lib.hid (HO5a.out.alloc (.cells #[Value.string ⟨#[]⟩, Value.string ⟨#[119, 104, 97, 116]⟩, Value.string ⟨#[49, 48, 48, 48, 48, 48, 48]⟩, Value.string ⟨#[49, 48, 48, 48, 48, 48, 49]⟩, Value.string ⟨#[97, 114, 103]⟩, Value.string ⟨#[105, 102]⟩, Value.string ⟨#[52]⟩] 9))
      have hne : some w5.heap.size ≠ some p := by intro e; injection e with e; have := K5.out.c.lt; omega
      have Hcells := Lib.hid hcells
      have Hne := Lib.hid hne
      clear hcells hne HO5a
      generalize w5.alloc (.cells #[Value.string ⟨#[]⟩, Value.string ⟨#[119, 104, 97, 116]⟩, Value.string ⟨#[49, 48, 48, 48, 48, 48, 48]⟩, Value.string ⟨#[49, 48, 48, 48, 48, 48, 49]⟩, Value.string ⟨#[97, 114, 103]⟩, Value.string ⟨#[105, 102]⟩, Value.string ⟨#[52]⟩] 9) = wa at Hcells KA HOA ⊢
      generalize w5.heap.size = bw at Hcells Hne ⊢
      refine (D.l1Below_any p v n 7 (by omega) (by omega) _ KA.out.c (HB0.out.kept KA.out.g)).mono ?_
      rintro e w6 ⟨x6, rfl, hx60, hx61, hC6, hg6⟩
      obtain ⟨j, rfl⟩ : ∃ j : Nat, x6 = (j : Int) := ⟨x6.toNat, by omega⟩
      obtain ⟨t, ht, htz⟩ := Hcells.out j (by omega)
      have hcell := hg6.cell ht Hne.out
      have K6 := Lib.hid (KA.out.got hC6 hg6)
      have HO6 := Lib.hid (HOA.out.kept hg6 (by simp only [Value.ownBlock]; intro e; injection e with e; omega))
      have htgt := (OwS.mem HO6.out).2 k (by rw [List.length_map, Hm.out]; exact hkm)
      obtain ⟨hu, hfz⟩ := htgt
      obtain ⟨uo, huo⟩ : ∃ uo, (s2.map Value.string).getD k (.int .i64 0) = uo := ⟨_, rfl⟩
      rw [huo] at hu
      have HOS := Lib.hid (OwS.set HO6.out k t)
      have KS := Lib.hid (Cu.row K6.out hpw (D.grown_set w6 G k (.string t)) (fun q e => by injection e with e; omega))
      have HsS := Lib.hid (Hs2.out.set k htz)
      have HlS : Hid ((s2.set k t).length ≤ 100) := Lib.hid (by rw [List.length_set, Hm.out]; omega)
      clear hC6 hg6 ht huo htz
      go_wp2_with fail
      refine (D.l1Once_any p v n 40 (by omega) (by omega) _ KS.out.c (HB0.out.kept KS.out.g)).mono ?_
      rintro e wz ⟨bz, rfl, hCz, hgz⟩
      have KZ := Lib.hid (KS.out.got hCz hgz)
      cases bz
      · have HOZ := Lib.hid (HOS.out.kept hgz (by simp only [Value.ownBlock]; intro e; injection e with e; omega))
        clear hCz hgz
        go_wp2_with fail
        go_ret
        exact ⟨_, _, rfl, HOZ.out, HlS.out, HsS.out, KZ.out.c, KZ.out.g⟩
      · clear hCz hgz
        go_wp2_with fail
        have hO0 := owS_new wz w.heap.size KZ.out.g.size
        have hK0 := KZ.out.alloc (.cells #[] 9)
        generalize Value.slice (some ⟨wz.heap.size, 0, none⟩) 0 0 = v0 at hO0 ⊢
        generalize wz.alloc (.cells #[] 9) = w0 at hO0 hK0 ⊢
        have HO0 := Lib.hid hO0
        have HK0 := Lib.hid hK0
        clear hO0 hK0
        refine (D.l1Below_any p v n 3 (by omega) (by omega) _ HK0.out.c (HB0.out.kept HK0.out.g)).mono ?_
        rintro e w1 ⟨x1, rfl, hx10, hx11, hC1, hg1⟩
        obtain ⟨g0, c0, hv0, _, _, hg0, _, _⟩ := HO0.out.form
        have HO1 := Lib.hid (HO0.out.kept hg1 (by rw [hv0]; simp only [Value.ownBlock]; intro e; injection e with e; omega))
        have K1 := Lib.hid (HK0.out.got hC1 hg1)
        clear hC1 hg1 hv0
        go_wp2_with fail
        go_loopw [3, 5] (fun o q wr => ∃ (y : Int) (ss : List ByteArray), OwS wr w.heap.size o ss ∧ q = .int .i64 y ∧ y ≤ 61 ∧ (ss.length : Int) + y ≤ 61 ∧ 1 ≤ y ∧ Short ss ∧ Cu p v n w wr) (fun _ q _ => (intOf q).toNat)
        case atStart => exact ⟨59 + x1, [], HO1.out, rfl, by omega, by simp; omega, by omega, (by intro s hs; cases hs), K1.out⟩
        case round =>
          obtain ⟨y, ss, hO, rfl, hy3, hlen, hy1, hsh, hK⟩ := hrel
          obtain ⟨go1, co1, rfl, hq1, hq2, hgo1, hgw1, _⟩ := hO.form
          have HOr := Lib.hid hO
          have HKr := Lib.hid hK
          have Hsr := Lib.hid hsh
          clear hO hK hsh
          by_cases hpos : 1 < y
          · obtain ⟨v3, w3, hr3, ho3, hg3⟩ := run_appS1 (wr.alloc (.cells #[.string ⟨#[115, 97, 121]⟩] 9)) w.heap.size _ ss (HOr.out.alloc _) wr.heap.size ⟨#[115, 97, 121]⟩ (by simp [go_sem]) (by omega) (by have := HKr.out.g.size; simp; omega)
            have K3 := Lib.hid ((HKr.out.alloc (.cells #[.string ⟨#[115, 97, 121]⟩] 9)).row hpw hg3 (fun k e => by simp only [Value.ownBlock] at e; injection e with e; omega))
            have HO3 := Lib.hid ho3
            have HR3 := Lib.hid hr3
            clear hr3 ho3 hg3
            go_wp2_with (at_builtin; refine wp_app rfl _ _ rfl rfl _ _ rfl rfl HR3.out ?_)
            go_roundw
            case rel => exact ⟨y - 1, ss ++ [⟨#[115, 97, 121]⟩], HO3.out, rfl, by omega, by rw [List.length_append]; simp; omega, by omega, Hsr.out.append (short_one (by decide)), K3.out⟩
            case measure => simp [intOf]; omega
          · obtain ⟨v3, w3, hr3, ho3, hg3⟩ := run_appS1 (wr.alloc (.cells #[.string ⟨#[49]⟩] 9)) w.heap.size _ ss (HOr.out.alloc _) wr.heap.size ⟨#[49]⟩ (by simp [go_sem]) (by omega) (by have := HKr.out.g.size; simp; omega)
            have K3 := Lib.hid ((HKr.out.alloc (.cells #[.string ⟨#[49]⟩] 9)).row hpw hg3 (fun k e => by simp only [Value.ownBlock] at e; injection e with e; omega))
            have HO3 := Lib.hid ho3
            have HR3 := Lib.hid hr3
            clear hr3 ho3 hg3
            go_wp2_with (at_builtin; refine wp_app rfl _ _ rfl rfl _ _ rfl rfl HR3.out ?_)
            go_ret
            exact ⟨_, _, rfl, HO3.out, by rw [List.length_append]; simp; omega, Hsr.out.append (short_one (by decide)), K3.out.c, K3.out.g⟩
    · have HOT := Lib.hid (OwS.take HO5a.out k (by rw [Hm.out]; omega))
      go_wp2_with fail
      refine (D.l1Once_any p v n 40 (by omega) (by omega) _ K5.out.c (HB0.out.kept K5.out.g)).mono ?_
      rintro e wz ⟨bz, rfl, hCz, hgz⟩
      have KZ := Lib.hid (K5.out.got hCz hgz)
      cases bz
      · have HOZ := Lib.hid (HOT.out.kept hgz (by simp only [Value.ownBlock]; intro e; injection e with e; omega))
        clear hCz hgz
        go_wp2_with fail
        go_ret
        exact ⟨_, _, rfl, HOZ.out, by rw [List.length_take]; omega, Hs2.out.take k, KZ.out.c, KZ.out.g⟩
      · clear hCz hgz
        go_wp2_with fail
        have hO0 := owS_new wz w.heap.size KZ.out.g.size
        have hK0 := KZ.out.alloc (.cells #[] 9)
        generalize Value.slice (some ⟨wz.heap.size, 0, none⟩) 0 0 = v0 at hO0 ⊢
        generalize wz.alloc (.cells #[] 9) = w0 at hO0 hK0 ⊢
        have HO0 := Lib.hid hO0
        have HK0 := Lib.hid hK0
        clear hO0 hK0
        refine (D.l1Below_any p v n 3 (by omega) (by omega) _ HK0.out.c (HB0.out.kept HK0.out.g)).mono ?_
        rintro e w1 ⟨x1, rfl, hx10, hx11, hC1, hg1⟩
        obtain ⟨g0, c0, hv0, _, _, hg0, _, _⟩ := HO0.out.form
        have HO1 := Lib.hid (HO0.out.kept hg1 (by rw [hv0]; simp only [Value.ownBlock]; intro e; injection e with e; omega))
        have K1 := Lib.hid (HK0.out.got hC1 hg1)
        clear hC1 hg1 hv0
        go_wp2_with fail
        go_loopw [3, 5] (fun o q wr => ∃ (y : Int) (ss : List ByteArray), OwS wr w.heap.size o ss ∧ q = .int .i64 y ∧ y ≤ 61 ∧ (ss.length : Int) + y ≤ 61 ∧ 1 ≤ y ∧ Short ss ∧ Cu p v n w wr) (fun _ q _ => (intOf q).toNat)
        case atStart => exact ⟨59 + x1, [], HO1.out, rfl, by omega, by simp; omega, by omega, (by intro s hs; cases hs), K1.out⟩
        case round =>
          obtain ⟨y, ss, hO, rfl, hy3, hlen, hy1, hsh, hK⟩ := hrel
          obtain ⟨go1, co1, rfl, hq1, hq2, hgo1, hgw1, _⟩ := hO.form
          have HOr := Lib.hid hO
          have HKr := Lib.hid hK
          have Hsr := Lib.hid hsh
          clear hO hK hsh
          by_cases hpos : 1 < y
          · obtain ⟨v3, w3, hr3, ho3, hg3⟩ := run_appS1 (wr.alloc (.cells #[.string ⟨#[115, 97, 121]⟩] 9)) w.heap.size _ ss (HOr.out.alloc _) wr.heap.size ⟨#[115, 97, 121]⟩ (by simp [go_sem]) (by omega) (by have := HKr.out.g.size; simp; omega)
            have K3 := Lib.hid ((HKr.out.alloc (.cells #[.string ⟨#[115, 97, 121]⟩] 9)).row hpw hg3 (fun k e => by simp only [Value.ownBlock] at e; injection e with e; omega))
            have HO3 := Lib.hid ho3
            have HR3 := Lib.hid hr3
            clear hr3 ho3 hg3
            go_wp2_with (at_builtin; refine wp_app rfl _ _ rfl rfl _ _ rfl rfl HR3.out ?_)
            go_roundw
            case rel => exact ⟨y - 1, ss ++ [⟨#[115, 97, 121]⟩], HO3.out, rfl, by omega, by rw [List.length_append]; simp; omega, by omega, Hsr.out.append (short_one (by decide)), K3.out⟩
            case measure => simp [intOf]; omega
          · obtain ⟨v3, w3, hr3, ho3, hg3⟩ := run_appS1 (wr.alloc (.cells #[.string ⟨#[49]⟩] 9)) w.heap.size _ ss (HOr.out.alloc _) wr.heap.size ⟨#[49]⟩ (by simp [go_sem]) (by omega) (by have := HKr.out.g.size; simp; omega)
            have K3 := Lib.hid ((HKr.out.alloc (.cells #[.string ⟨#[49]⟩] 9)).row hpw hg3 (fun k e => by simp only [Value.ownBlock] at e; injection e with e; omega))
            have HO3 := Lib.hid ho3
            have HR3 := Lib.hid hr3
            clear hr3 ho3 hg3
            go_wp2_with (at_builtin; refine wp_app rfl _ _ rfl rfl _ _ rfl rfl HR3.out ?_)
            go_ret
            exact ⟨_, _, rfl, HO3.out, by rw [List.length_append]; simp; omega, Hsr.out.append (short_one (by decide)), K3.out.c, K3.out.g⟩
    · obtain ⟨v6, w6, hr6, ho6, hg6⟩ := run_appS1 (w5.alloc (.cells #[.string ⟨#[49]⟩] 9)) w.heap.size _ s2 (HO5a.out.alloc _) w5.heap.size ⟨#[49]⟩ (by simp [go_sem]) (by rw [Hm.out]; omega) (by have := K5.out.g.size; simp; omega)
      have K6 := Lib.hid ((K5.out.alloc (.cells #[.string ⟨#[49]⟩] 9)).row hpw hg6 (fun q e => by simp only [Value.ownBlock] at e; injection e with e; omega))
      have Hsx := Lib.hid (Hs2.out.append (short_one (s := ⟨#[49]⟩) (by decide)))
      have Hlx : Hid ((s2 ++ [(⟨#[49]⟩ : ByteArray)]).length ≤ 100) := Lib.hid (by rw [List.length_append, Hm.out]; simp; omega)
      obtain ⟨gx, cx, rfl, _, _, hgx0, _, _⟩ := ho6.form
      obtain ⟨mx, hmx⟩ : ∃ mx, (s2 ++ [(⟨#[49]⟩ : ByteArray)]).length = mx := ⟨_, rfl⟩
      rw [hmx] at hr6 ho6
      have HO6 := Lib.hid ho6
      have HR6 := Lib.hid hr6
      clear hr6 ho6 hg6 hmx
      go_wp2_with (at_builtin; refine wp_app rfl _ _ rfl rfl _ _ rfl rfl HR6.out ?_)
      refine (D.l1Once_any p v n 40 (by omega) (by omega) _ K6.out.c (HB0.out.kept K6.out.g)).mono ?_
      rintro e wz ⟨bz, rfl, hCz, hgz⟩
      have KZ := Lib.hid (K6.out.got hCz hgz)
      cases bz
      · have HOZ := Lib.hid (HO6.out.kept hgz (by simp only [Value.ownBlock]; intro e; injection e with e; omega))
        clear hCz hgz
        go_wp2_with fail
        go_ret
        exact ⟨_, _, rfl, HOZ.out, Hlx.out, Hsx.out, KZ.out.c, KZ.out.g⟩
      · clear hCz hgz
        go_wp2_with fail
        have hO0 := owS_new wz w.heap.size KZ.out.g.size
        have hK0 := KZ.out.alloc (.cells #[] 9)
        generalize Value.slice (some ⟨wz.heap.size, 0, none⟩) 0 0 = v0 at hO0 ⊢
        generalize wz.alloc (.cells #[] 9) = w0 at hO0 hK0 ⊢
        have HO0 := Lib.hid hO0
        have HK0 := Lib.hid hK0
        clear hO0 hK0
        refine (D.l1Below_any p v n 3 (by omega) (by omega) _ HK0.out.c (HB0.out.kept HK0.out.g)).mono ?_
        rintro e w1 ⟨x1, rfl, hx10, hx11, hC1, hg1⟩
        obtain ⟨g0, c0, hv0, _, _, hg0, _, _⟩ := HO0.out.form
        have HO1 := Lib.hid (HO0.out.kept hg1 (by rw [hv0]; simp only [Value.ownBlock]; intro e; injection e with e; omega))
        have K1 := Lib.hid (HK0.out.got hC1 hg1)
        clear hC1 hg1 hv0
        go_wp2_with fail
        go_loopw [3, 5] (fun o q wr => ∃ (y : Int) (ss : List ByteArray), OwS wr w.heap.size o ss ∧ q = .int .i64 y ∧ y ≤ 61 ∧ (ss.length : Int) + y ≤ 61 ∧ 1 ≤ y ∧ Short ss ∧ Cu p v n w wr) (fun _ q _ => (intOf q).toNat)
        case atStart => exact ⟨59 + x1, [], HO1.out, rfl, by omega, by simp; omega, by omega, (by intro s hs; cases hs), K1.out⟩
        case round =>
          obtain ⟨y, ss, hO, rfl, hy3, hlen, hy1, hsh, hK⟩ := hrel
          obtain ⟨go1, co1, rfl, hq1, hq2, hgo1, hgw1, _⟩ := hO.form
          have HOr := Lib.hid hO
          have HKr := Lib.hid hK
          have Hsr := Lib.hid hsh
          clear hO hK hsh
          by_cases hpos : 1 < y
          · obtain ⟨v3, w3, hr3, ho3, hg3⟩ := run_appS1 (wr.alloc (.cells #[.string ⟨#[115, 97, 121]⟩] 9)) w.heap.size _ ss (HOr.out.alloc _) wr.heap.size ⟨#[115, 97, 121]⟩ (by simp [go_sem]) (by omega) (by have := HKr.out.g.size; simp; omega)
            have K3 := Lib.hid ((HKr.out.alloc (.cells #[.string ⟨#[115, 97, 121]⟩] 9)).row hpw hg3 (fun k e => by simp only [Value.ownBlock] at e; injection e with e; omega))
            have HO3 := Lib.hid ho3
            have HR3 := Lib.hid hr3
            clear hr3 ho3 hg3
            go_wp2_with (at_builtin; refine wp_app rfl _ _ rfl rfl _ _ rfl rfl HR3.out ?_)
            go_roundw
            case rel => exact ⟨y - 1, ss ++ [⟨#[115, 97, 121]⟩], HO3.out, rfl, by omega, by rw [List.length_append]; simp; omega, by omega, Hsr.out.append (short_one (by decide)), K3.out⟩
            case measure => simp [intOf]; omega
          · obtain ⟨v3, w3, hr3, ho3, hg3⟩ := run_appS1 (wr.alloc (.cells #[.string ⟨#[49]⟩] 9)) w.heap.size _ ss (HOr.out.alloc _) wr.heap.size ⟨#[49]⟩ (by simp [go_sem]) (by omega) (by have := HKr.out.g.size; simp; omega)
            have K3 := Lib.hid ((HKr.out.alloc (.cells #[.string ⟨#[49]⟩] 9)).row hpw hg3 (fun k e => by simp only [Value.ownBlock] at e; injection e with e; omega))
            have HO3 := Lib.hid ho3
            have HR3 := Lib.hid hr3
            clear hr3 ho3 hg3
            go_wp2_with (at_builtin; refine wp_app rfl _ _ rfl rfl _ _ rfl rfl HR3.out ?_)
            go_ret
            exact ⟨_, _, rfl, HO3.out, by rw [List.length_append]; simp; omega, Hsr.out.append (short_one (by decide)), K3.out.c, K3.out.g⟩
    · obtain ⟨A, hA, hAc⟩ : ∃ A : Addr, (if C = k + 1 then some (⟨G, 0, none⟩ : Addr) else some ⟨G, k + 1, none⟩) = some A ∧ ∀ j, j < (s2.drop (k + 1)).length → w5.cell? (A.add j) = some (.string ((s2.drop (k + 1)).getD j ByteArray.empty)) := by
        have hml : s2.length = m := Hm.out
        by_cases h : C = k + 1
        · refine ⟨⟨G, 0, none⟩, by simp [h], fun j hj => ?_⟩
          simp at hj
          omega
        · refine ⟨⟨G, k + 1, none⟩, by simp [h], fun j hj => ?_⟩
          have hj' : k + 1 + j < s2.length := by simp at hj; omega
          have hc := ((OwS.mem HO5a.out).2 (k + 1 + j) (by simpa using hj')).1
          have e : (⟨G, k + 1, none⟩ : Addr).add j = ⟨G, k + 1 + j, none⟩ := by unfold Addr.add; split <;> simp_all
          rw [e, hc]
          simp [List.getD, hj']
      have hdl : (s2.drop (k + 1)).length = m - (k + 1) := by rw [List.length_drop, Hm.out]
      obtain ⟨v6, w6, hr6, ho6, hg6⟩ := run_appSA w5.drew w.heap.size _ _ (OwS.drew (OwS.take HO5a.out k (by rw [Hm.out]; omega))) A (s2.drop (k + 1)) (C - (k + 1)) hAc (by rw [List.length_take, hdl]; omega) K5.out.g.size
      rw [hdl] at hr6
      have K5d : Cu p v n w w5.drew := ⟨K5.out.c, K5.out.g.trans (D.grown_draws w5 1 _)⟩
      have K6 := Lib.hid (K5d.row hpw hg6 (fun q e => by simp only [Value.ownBlock] at e; injection e with e; omega))
      have Hsx := Lib.hid ((Hs2.out.take k).append (Hs2.out.drop (k + 1)))
      have Hlx : Hid ((s2.take k ++ s2.drop (k + 1)).length ≤ 100) := Lib.hid (by rw [List.length_append, hdl, List.length_take]; omega)
      obtain ⟨gx, cx, rfl, _, _, hgx0, _, _⟩ := ho6.form
      obtain ⟨mx, hmx⟩ : ∃ mx, (s2.take k ++ s2.drop (k + 1)).length = mx := ⟨_, rfl⟩
      rw [hmx] at hr6 ho6
      have HO6 := Lib.hid ho6
      have HR6 := Lib.hid hr6
      have hkC : k ≤ C := by omega
      have hwr : IntKind.i64.wrap ((k : Int) + 1) = (k : Int) + 1 := by rw [IntKind.wrap_i64]; omega
      have hp0 : (0 : Int) ≤ (k : Int) + 1 := by omega
      have hp1 : (k : Int) + 1 ≤ (m : Int) := by omega
      have hp2 : ((k : Int) + 1).toNat = k + 1 := by omega
      clear hr6 ho6 hg6 hmx hdl hAc K5d
      go_wp2_with fail
      go_region_law (refine step_run rfl (.tmp 42) (.tmp 46) rfl rfl _ _ (by simp [Act.eval, Act.put]) (by simp [Act.eval, Act.put]) HR6.out ?_)
      go_wp2_with fail
      refine (D.l1Once_any p v n 40 (by omega) (by omega) _ K6.out.c (HB0.out.kept K6.out.g)).mono ?_
      rintro e wz ⟨bz, rfl, hCz, hgz⟩
      have KZ := Lib.hid (K6.out.got hCz hgz)
      cases bz
      · have HOZ := Lib.hid (HO6.out.kept hgz (by simp only [Value.ownBlock]; intro e; injection e with e; omega))
        clear hCz hgz
        go_wp2_with fail
        go_ret
        exact ⟨_, _, rfl, HOZ.out, Hlx.out, Hsx.out, KZ.out.c, KZ.out.g⟩
      · clear hCz hgz
        go_wp2_with fail
        have hO0 := owS_new wz w.heap.size KZ.out.g.size
        have hK0 := KZ.out.alloc (.cells #[] 9)
        generalize Value.slice (some ⟨wz.heap.size, 0, none⟩) 0 0 = v0 at hO0 ⊢
        generalize wz.alloc (.cells #[] 9) = w0 at hO0 hK0 ⊢
        have HO0 := Lib.hid hO0
        have HK0 := Lib.hid hK0
        clear hO0 hK0
        refine (D.l1Below_any p v n 3 (by omega) (by omega) _ HK0.out.c (HB0.out.kept HK0.out.g)).mono ?_
        rintro e w1 ⟨x1, rfl, hx10, hx11, hC1, hg1⟩
        obtain ⟨g0, c0, hv0, _, _, hg0, _, _⟩ := HO0.out.form
        have HO1 := Lib.hid (HO0.out.kept hg1 (by rw [hv0]; simp only [Value.ownBlock]; intro e; injection e with e; omega))
        have K1 := Lib.hid (HK0.out.got hC1 hg1)
        clear hC1 hg1 hv0
        go_wp2_with fail
        go_loopw [3, 5] (fun o q wr => ∃ (y : Int) (ss : List ByteArray), OwS wr w.heap.size o ss ∧ q = .int .i64 y ∧ y ≤ 61 ∧ (ss.length : Int) + y ≤ 61 ∧ 1 ≤ y ∧ Short ss ∧ Cu p v n w wr) (fun _ q _ => (intOf q).toNat)
        case atStart => exact ⟨59 + x1, [], HO1.out, rfl, by omega, by simp; omega, by omega, (by intro s hs; cases hs), K1.out⟩
        case round =>
          obtain ⟨y, ss, hO, rfl, hy3, hlen, hy1, hsh, hK⟩ := hrel
          obtain ⟨go1, co1, rfl, hq1, hq2, hgo1, hgw1, _⟩ := hO.form
          have HOr := Lib.hid hO
          have HKr := Lib.hid hK
          have Hsr := Lib.hid hsh
          clear hO hK hsh
          by_cases hpos : 1 < y
          · obtain ⟨v3, w3, hr3, ho3, hg3⟩ := run_appS1 (wr.alloc (.cells #[.string ⟨#[115, 97, 121]⟩] 9)) w.heap.size _ ss (HOr.out.alloc _) wr.heap.size ⟨#[115, 97, 121]⟩ (by simp [go_sem]) (by omega) (by have := HKr.out.g.size; simp; omega)
            have K3 := Lib.hid ((HKr.out.alloc (.cells #[.string ⟨#[115, 97, 121]⟩] 9)).row hpw hg3 (fun k e => by simp only [Value.ownBlock] at e; injection e with e; omega))
            have HO3 := Lib.hid ho3
            have HR3 := Lib.hid hr3
            clear hr3 ho3 hg3
            go_wp2_with (at_builtin; refine wp_app rfl _ _ rfl rfl _ _ rfl rfl HR3.out ?_)
            go_roundw
            case rel => exact ⟨y - 1, ss ++ [⟨#[115, 97, 121]⟩], HO3.out, rfl, by omega, by rw [List.length_append]; simp; omega, by omega, Hsr.out.append (short_one (by decide)), K3.out⟩
            case measure => simp [intOf]; omega
          · obtain ⟨v3, w3, hr3, ho3, hg3⟩ := run_appS1 (wr.alloc (.cells #[.string ⟨#[49]⟩] 9)) w.heap.size _ ss (HOr.out.alloc _) wr.heap.size ⟨#[49]⟩ (by simp [go_sem]) (by omega) (by have := HKr.out.g.size; simp; omega)
            have K3 := Lib.hid ((HKr.out.alloc (.cells #[.string ⟨#[49]⟩] 9)).row hpw hg3 (fun k e => by simp only [Value.ownBlock] at e; injection e with e; omega))
            have HO3 := Lib.hid ho3
            have HR3 := Lib.hid hr3
            clear hr3 ho3 hg3
            go_wp2_with (at_builtin; refine wp_app rfl _ _ rfl rfl _ _ rfl rfl HR3.out ?_)
            go_ret
            exact ⟨_, _, rfl, HO3.out, by rw [List.length_append]; simp; omega, Hsr.out.append (short_one (by decide)), K3.out.c, K3.out.g⟩

end L2
end Go.Proofs.YtcfniecdjbgknaaDoor
