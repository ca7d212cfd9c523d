/-
  The draw of a sum and of a value: what the law on what is meant begins with.
-/
import Derived.Test.YtkhjbhkbknennaaGreatDoorGD
import Derived.Test.YtkhjbhkbknennaaGreatDoorGC
namespace Go.Proofs.YtkhjbhkbknennaaGreatDoor
open Go.RowKit
namespace L2
open S1 L1 D

theorem own_neU {g n c b : Nat} (h : g ≠ b) : (Value.slice (some ⟨g, 0, none⟩) n c).ownBlock ≠ some b := by
  simp only [Value.ownBlock]
  intro e
  injection e with e
  exact h e
/-- What a draw of words and of a value leaves. -/
def DrewWV (w : World) (e : Ending) (w' : World) : Prop := ∃ u ss a b, e = .returned (.tuple #[u, .agg #[.int .i64 a, .int .i64 b]]) ∧ OwS w' w.heap.size u ss ∧ ss.length ≤ 100 ∧ Short ss ∧ Below w.heap.size w w'

set_option maxRecDepth 100000 in
set_option maxHeartbeats 4000000 in
theorem drawMeant_any (v : Value) (n : Nat) (w : World) (hC : D.Came w v n) : Calls Tryz.prog 6 #[v] w (DrewWV w) := by
  have hC' := Lib.hid hC
  clear hC
  go_enter Tryz.func6, Tryz.ntmps6
  have hbx := box_new w (.int .i64 0) (.int .i64 0) 26
  have hb0 := (Below.refl w.heap.size w).alloc (Nat.le_refl _) (.cells #[.int .i64 0, .int .i64 0] 26)
  have hs0 : (w.alloc (.cells #[.int .i64 0, .int .i64 0] 26)).heap.size = w.heap.size + 1 := by simp
  go_wp2_with fail
  have HC0 := Lib.hid (hC'.out.below hb0)
  generalize w.alloc (.cells #[.int .i64 0, .int .i64 0] 26) = w0 at hbx hb0 hs0 HC0 ⊢
  refine (D.l1New_any v n _ HC0.out).mono ?_
  rintro e w1 ⟨h, rfl, rfl⟩
  have HB0 := Lib.hid (HC0.out.bytes (.cells #[v, .int .i64 0, .int .i64 h] 93))
  have K0 := Lib.hid (Cu.start (D.cur_new w0 v n h))
  have hsz0 : (w0.alloc (.cells #[v, .int .i64 0, .int .i64 h] 93)).heap.size = w.heap.size + 2 := by simp [hs0]
  have hbn := fun w1 (hg : (w0.alloc (.cells #[v, .int .i64 0, .int .i64 h] 93)).grownBy w1 (some w0.heap.size)) => hb0.trans ((D.below_new w0 w1 _ hg).mono hb0.size)
  have HBN := Lib.hid hbn
  have HX := Lib.hid (hbx.below ((Below.refl w0.heap.size w0).alloc (Nat.le_refl _) (.cells #[v, .int .i64 0, .int .i64 h] 93)))
  clear hbn hbx
  rw [hs0] at K0 HBN HB0 ⊢
  generalize w0.alloc (.cells #[v, .int .i64 0, .int .i64 h] 93) = W at HB0 K0 hsz0 HBN HX ⊢
  go_wp2_with fail
  refine (l2DrawSum_any _ v n true W K0.out.c HB0.out).mono ?_
  rintro e w2 ⟨u, ss, rfl, ho, hne, hl, hs, hc2, hg2⟩
  have K2 := Lib.hid (K0.out.got hc2 hg2)
  have HO := Lib.hid ho
  have HS := Lib.hid hs
  have HX := Lib.hid (HX.out.kept hg2 (by omega))
  obtain ⟨g, cp, hu, -, -, hgW, -⟩ := ho.form
  subst hu
  clear ho hs hne hc2 hg2
  go_wp2_with fail
  refine (l1Once_any _ v n 8 (by omega) (by omega) w2 K2.out.c (HB0.out.kept K2.out.g)).mono ?_
  rintro e w3 ⟨q, rfl, hC3, hg3⟩
  have K3 := Lib.hid (K2.out.got hC3 hg3)
  have HO := Lib.hid (HO.out.kept hg3 (own_neU (by omega)))
  have HX := Lib.hid (HX.out.kept hg3 (by omega))
  clear hC3 hg3
  cases q
  · go_wp2_with fail
    refine (drawAny_any _ v n _ K3.out.c (HB0.out.kept K3.out.g)).mono ?_
    rintro e w5 ⟨k, x, rfl, hC5, hg5⟩
    have K5 := Lib.hid (K3.out.got hC5 hg5)
    have HO5 := Lib.hid (HO.out.kept hg5 (own_neU (by omega)))
    have hbx5 := HX.out.kept hg5 (by omega)
    obtain ⟨⟨c0, f0⟩, ⟨c1, f1⟩⟩ := hbx5
    clear hC5 hg5
    go_wp2_with fail
    refine bodyPost_ret (v := .tuple #[.slice (some ⟨g, 0, none⟩) ss.length cp, .agg #[.int .i64 k, .int .i64 x]]) (by simp [results, Tryz.results6, go_sem, c0, c1]) rfl ?_
    have hg6 := (D.grown_set w5 w.heap.size 0 (.int .i64 k)).trans (D.grown_set _ w.heap.size 1 (.int .i64 x))
    exact ⟨_, ss, k, x, rfl, (HO5.out.kept hg6 (own_neU (by omega))).base (by omega), by omega, HS.out, ((HBN.out _ K5.out.g).setCell (Nat.le_refl _) _).setCell (Nat.le_refl _) _⟩
  · go_wp2_with fail
    refine (l2DrawAny_any _ v n _ K3.out.c (HB0.out.kept K3.out.g)).mono ?_
    rintro e w4 ⟨u4, s4, rfl, ho4, hl4, hs4, hc4, hg4⟩
    have K4 := Lib.hid (K3.out.got hc4 hg4)
    have HO4 := Lib.hid (ho4.base K3.out.g.size)
    have HS4 := Lib.hid hs4
    have HX := Lib.hid (HX.out.kept hg4 (by omega))
    obtain ⟨g4, cp4, hu4, -, -, hgW4, -⟩ := HO4.out.form
    subst hu4
    clear ho4 hs4 hc4 hg4
    go_wp2_with fail
    refine (drawAny_any _ v n _ K4.out.c (HB0.out.kept K4.out.g)).mono ?_
    rintro e w5 ⟨k, x, rfl, hC5, hg5⟩
    have K5 := Lib.hid (K4.out.got hC5 hg5)
    have HO5 := Lib.hid (HO4.out.kept hg5 (own_neU (by omega)))
    have hbx5 := HX.out.kept hg5 (by omega)
    obtain ⟨⟨c0, f0⟩, ⟨c1, f1⟩⟩ := hbx5
    clear hC5 hg5
    go_wp2_with fail
    refine bodyPost_ret (v := .tuple #[.slice (some ⟨g4, 0, none⟩) s4.length cp4, .agg #[.int .i64 k, .int .i64 x]]) (by simp [results, Tryz.results6, go_sem, c0, c1]) rfl ?_
    have hg6 := (D.grown_set w5 w.heap.size 0 (.int .i64 k)).trans (D.grown_set _ w.heap.size 1 (.int .i64 x))
    exact ⟨_, s4, k, x, rfl, (HO5.out.kept hg6 (own_neU (by omega))).base (by omega), by omega, HS4.out, ((HBN.out _ K5.out.g).setCell (Nat.le_refl _) _).setCell (Nat.le_refl _) _⟩

end L2
end Go.Proofs.YtkhjbhkbknennaaGreatDoor
