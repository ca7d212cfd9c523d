/-
  Lists of plates that are drawn.
-/
import Derived.Test.YtkhjbhkbknennaaGreatDoorQ2
import Derived.Test.YtkhjbhkbknennaaGreatDoorQ7
import Derived.Test.YtkhjbhkbknennaaGreatDoorGX
namespace Go.Proofs.YtkhjbhkbknennaaGreatDoor
open Go.RowKit Go.Sort
namespace L2
open L1 D

/-- What drawing a list of plates leaves. -/
def GotL (p : Nat) (v : Value) (n : Nat) (w : World) (e : Ending) (w' : World) : Prop :=
  ∃ u ps, e = .returned u ∧ OwP w' w.heap.size u ps ∧ ps.length ≤ 70 ∧ D.Cur w' p v n ∧ w.grownBy w' (some p)
/-- One plate more, while the cursor goes on. -/
theorem plate_step {p n : Nat} {v o : Value} {w wr w3 : World} {ps : List Pl} (q : Pl) (hp : p < w.heap.size) (hO : OwP wr w.heap.size o ps) (hK : Cu p v n w wr) (hl : ps.length ≤ 1000) (hC : D.Cur w3 p v n) (hg : wr.grownBy w3 (some p)) :
    ∃ v' w', (Builtin.append_ #[43, 43] 43 #[o, .slice (some ⟨w3.heap.size, 0, none⟩) 1 1]).run Tryz.prog (w3.alloc (.cells #[.int .i64 q.k, .int .i64 q.a, .int .i64 q.ak, .int .i64 q.an, .int .i64 q.vk, .int .i64 q.vn] 37)) = .ok v' w' ∧ OwP w' w.heap.size v' (ps ++ [q]) ∧ Cu p v n w w' := by
  have hwr := hK.g.size
  have hw3 := hg.size
  have hob : ∀ b, o.ownBlock = some b → w.heap.size ≤ b := fun b e => (World.ownsRow.lt hO.1 b e).1
  have hne : o.ownBlock ≠ some p := fun e => by have := hob p e; omega
  have hO3 := (hO.kept hg hne)
  have hO4 : OwP (w3.alloc (.cells #[.int .i64 q.k, .int .i64 q.a, .int .i64 q.ak, .int .i64 q.an, .int .i64 q.vk, .int .i64 q.vn] 37)) w.heap.size o ps := ⟨hO3.1.alloc _, hO3.2⟩
  have hK4 := (hK.got hC hg).alloc (.cells #[.int .i64 q.k, .int .i64 q.a, .int .i64 q.ak, .int .i64 q.an, .int .i64 q.vk, .int .i64 q.vn] 37)
  obtain ⟨v', w', hr, h1, h2⟩ := plate_more (g := w3.heap.size) hO4 q (fun j u hj => by
    have h := heap_alloc_new w3 (.cells #[.int .i64 q.k, .int .i64 q.a, .int .i64 q.ak, .int .i64 q.an, .int .i64 q.vk, .int .i64 q.vn] 37)
    unfold World.cell?
    rw [h]
    simpa [pcs] using hj) hl (by simp; omega)
  exact ⟨v', w', hr, h1, hK4.row hp h2 hob⟩
set_option maxRecDepth 100000 in
set_option maxHeartbeats 4000000 in
theorem l5DrawList_any (p : Nat) (v : Value) (n : Nat) (w : World) (hC : D.Cur w p v n) (hB : Bytes w p v n) :
    Calls Tryz.prog 55 #[.pointer (some ⟨p, 0, none⟩)] w (GotL p v n w) := by
  have hp := hC.lt
  have hCC := hC
  have HBB := Lib.hid hB
  have HC := Lib.hid (hC.alloc (.cells #[] 37))
  have HB := Lib.hid (hB.kept (World.grownBy_alloc w (.cells #[] 37) (some p)))
  have HG := Lib.hid (World.grownBy_alloc w (.cells #[] 37) (some p))
  have HO := Lib.hid (owP_new w w.heap.size (Nat.le_refl _))
  clear hC hB
  go_enter Tryz.func55, Tryz.ntmps55
  go_wp2_with fail
  refine (l1Below_any p v n 7 (by omega) (by omega) _ HC.out HB.out).mono ?_
  rintro e w1 ⟨x, rfl, hx0, hx1, hC1, hg1⟩
  have K1 := Lib.hid ((Cu.alloc (Cu.start hCC) (.cells #[] 37)).got hC1 hg1)
  have O1 := Lib.hid (HO.out.kept hg1 (by simp [Value.ownBlock]; omega))
  clear hC1 hg1 HC HB HG HO
  go_wp2_with fail
  go_loopw [3, 4] (fun o y wr => ∃ (ps : List Pl) (z : Int), y = .int .i64 z ∧ 0 ≤ z ∧ z + (ps.length : Int) ≤ 6 ∧ OwP wr w.heap.size o ps ∧ Cu p v n w wr) (fun _ y _ => (intOf y).toNat)
  case atStart => exact ⟨[], x, rfl, hx0, by simpa using hx1, O1.out, K1.out⟩
  case round =>
    obtain ⟨ps, z, rfl, hz0, hz1, hO, hK⟩ := hrel
    obtain ⟨g, cp, hv, -⟩ := hO.form
    subst hv
    have KK := Lib.hid hK
    have OO := Lib.hid hO
    clear hO hK
    by_cases hz : 0 < z
    · go_wp2_with fail
      refine (l5Draw_any p v n _ KK.out.c (HBB.out.kept KK.out.g)).mono ?_
      rintro e w3 ⟨q, rfl, hC3, hg3⟩
      obtain ⟨v', w', hr, h1, h2⟩ := plate_step q hp OO.out KK.out (by omega) hC3 hg3
      obtain ⟨qk, qa, qb, qc, qd, qe⟩ := q
      simp only at hr
      have HR := Lib.hid hr
      have H1 := Lib.hid h1
      have H2 := Lib.hid h2
      clear hr h1 h2 hC3 hg3
      unfold plV
      go_wp2_with (at_builtin; refine wp_app rfl _ _ rfl rfl _ _ rfl rfl HR.out ?_)
      go_roundw
      case rel => exact ⟨ps ++ [⟨qk, qa, qb, qc, qd, qe⟩], z - 1, by first | rfl | go_num, by omega, by simp; omega, H1.out, H2.out⟩
      case measure => simp [intOf]; omega
    · go_wp2_with fail
      refine (l1Once_any p v n 8 (by omega) (by omega) _ KK.out.c (HBB.out.kept KK.out.g)).mono ?_
      rintro e w3 ⟨t, rfl, hC3, hg3⟩
      have K3 := Lib.hid (KK.out.got hC3 hg3)
      have O3 := Lib.hid (OO.out.kept hg3 (fun e => by have := (World.ownsRow.lt OO.out.1 _ e).1; omega))
      clear hC3 hg3 KK OO
      cases t
      · go_wp2_with fail
        refine (l1Once_any p v n 40 (by omega) (by omega) _ K3.out.c (HBB.out.kept K3.out.g)).mono ?_
        rintro eT wT ⟨tT, rfl, hCT, hgT⟩
        have KT := Lib.hid (K3.out.got hCT hgT)
        have OT := Lib.hid (O3.out.kept hgT (fun e => by have := (World.ownsRow.lt O3.out.1 _ e).1; omega))
        clear hCT hgT
        cases tT
        · go_wp2_with fail
          go_ret
          exact ⟨_, ps, rfl, OT.out, (by omega), KT.out.c, KT.out.g⟩
        · have KA := Lib.hid (KT.out.alloc (.cells #[] 37))
          have OA := Lib.hid (owP_new wT w.heap.size KT.out.g.size)
          go_wp2_with fail
          refine (l1Below_any p v n 3 (by omega) (by omega) _ KA.out.c (HBB.out.kept KA.out.g)).mono ?_
          rintro eU wU ⟨xU, rfl, hU0, hU1, hCU, hgU⟩
          have KU := Lib.hid (KA.out.got hCU hgU)
          have OU := Lib.hid (OA.out.kept hgU (fun e => by have := (World.ownsRow.lt OA.out.1 _ e).1; omega))
          clear hCU hgU KA OA KT OT
          go_wp2_with fail
          go_loopw [3, 5] (fun o y wr => ∃ (rs : List Pl) (z : Int), y = .int .i64 z ∧ 0 ≤ z ∧ z + (rs.length : Int) ≤ 61 ∧ OwP wr w.heap.size o rs ∧ Cu p v n w wr) (fun _ y _ => (intOf y).toNat)
          case atStart => exact ⟨[], 59 + xU, by first | rfl | go_num, by omega, by simp; omega, OU.out, KU.out⟩
          case round =>
            obtain ⟨rs, z, rfl, hz0, hz1, hO, hK⟩ := hrel
            obtain ⟨g, cp, hv, -⟩ := hO.form
            subst hv
            have K9 := Lib.hid hK
            have O9 := Lib.hid hO
            clear hO hK
            by_cases hz : 0 < z
            · obtain ⟨v', w', hr, h1, h2⟩ := plate_step ⟨8, 0, 0, 0, 0, 0⟩ hp O9.out K9.out (by omega) K9.out.c ⟨rfl, rfl, rfl, Nat.le_refl _, fun _ _ _ => rfl⟩
              simp only at hr
              have HR := Lib.hid hr
              have H1 := Lib.hid h1
              have H2 := Lib.hid h2
              clear hr h1 h2
              go_wp2_with (at_builtin; refine wp_app rfl _ _ rfl rfl _ _ rfl rfl HR.out ?_)
              go_roundw
              case rel => exact ⟨rs ++ [⟨8, 0, 0, 0, 0, 0⟩], z - 1, by first | rfl | go_num, by omega, by simp; omega, H1.out, H2.out⟩
              case measure => simp [intOf]; omega
            · go_wp2_with fail
              go_ret
              exact ⟨_, rs, rfl, O9.out, by omega, K9.out.c, K9.out.g⟩
      · go_wp2_with fail
        refine (l5DrawAny_any p v n _ K3.out.c (HBB.out.kept K3.out.g)).mono ?_
        rintro e w4 ⟨q, rfl, hC4, hg4⟩
        obtain ⟨v', w', hr, h1, h2⟩ := plate_step q hp O3.out K3.out (by omega) hC4 hg4
        obtain ⟨g2, cp2, hv2, -⟩ := h1.form
        subst hv2
        obtain ⟨qk, qa, qb, qc, qd, qe⟩ := q
        simp only at hr
        have HR := Lib.hid hr
        have O4 := Lib.hid h1
        have K4 := Lib.hid h2
        clear hr h1 h2 hC4 hg4 K3 O3
        unfold plV
        go_wp2_with (at_builtin; refine wp_app rfl _ _ rfl rfl _ _ rfl rfl HR.out ?_)
        refine (l1Once_any p v n 40 (by omega) (by omega) _ K4.out.c (HBB.out.kept K4.out.g)).mono ?_
        rintro eT wT ⟨tT, rfl, hCT, hgT⟩
        have KT := Lib.hid (K4.out.got hCT hgT)
        have OT := Lib.hid (O4.out.kept hgT (fun e => by have := (World.ownsRow.lt O4.out.1 _ e).1; omega))
        clear hCT hgT
        cases tT
        · go_wp2_with fail
          go_ret
          exact ⟨_, (ps ++ [⟨qk, qa, qb, qc, qd, qe⟩]), rfl, (by have h := OT.out; simp only [List.length_append, List.length_cons, List.length_nil, Nat.zero_add] at h; exact h), (by simp; omega), KT.out.c, KT.out.g⟩
        · have KA := Lib.hid (KT.out.alloc (.cells #[] 37))
          have OA := Lib.hid (owP_new wT w.heap.size KT.out.g.size)
          go_wp2_with fail
          refine (l1Below_any p v n 3 (by omega) (by omega) _ KA.out.c (HBB.out.kept KA.out.g)).mono ?_
          rintro eU wU ⟨xU, rfl, hU0, hU1, hCU, hgU⟩
          have KU := Lib.hid (KA.out.got hCU hgU)
          have OU := Lib.hid (OA.out.kept hgU (fun e => by have := (World.ownsRow.lt OA.out.1 _ e).1; omega))
          clear hCU hgU KA OA KT OT
          go_wp2_with fail
          go_loopw [3, 5] (fun o y wr => ∃ (rs : List Pl) (z : Int), y = .int .i64 z ∧ 0 ≤ z ∧ z + (rs.length : Int) ≤ 61 ∧ OwP wr w.heap.size o rs ∧ Cu p v n w wr) (fun _ y _ => (intOf y).toNat)
          case atStart => exact ⟨[], 59 + xU, by first | rfl | go_num, by omega, by simp; omega, OU.out, KU.out⟩
          case round =>
            obtain ⟨rs, z, rfl, hz0, hz1, hO, hK⟩ := hrel
            obtain ⟨g, cp, hv, -⟩ := hO.form
            subst hv
            have K9 := Lib.hid hK
            have O9 := Lib.hid hO
            clear hO hK
            by_cases hz : 0 < z
            · obtain ⟨v', w', hr, h1, h2⟩ := plate_step ⟨8, 0, 0, 0, 0, 0⟩ hp O9.out K9.out (by omega) K9.out.c ⟨rfl, rfl, rfl, Nat.le_refl _, fun _ _ _ => rfl⟩
              simp only at hr
              have HR := Lib.hid hr
              have H1 := Lib.hid h1
              have H2 := Lib.hid h2
              clear hr h1 h2
              go_wp2_with (at_builtin; refine wp_app rfl _ _ rfl rfl _ _ rfl rfl HR.out ?_)
              go_roundw
              case rel => exact ⟨rs ++ [⟨8, 0, 0, 0, 0, 0⟩], z - 1, by first | rfl | go_num, by omega, by simp; omega, H1.out, H2.out⟩
              case measure => simp [intOf]; omega
            · go_wp2_with fail
              go_ret
              exact ⟨_, rs, rfl, O9.out, by omega, K9.out.c, K9.out.g⟩
end L2
end Go.Proofs.YtkhjbhkbknennaaGreatDoor
