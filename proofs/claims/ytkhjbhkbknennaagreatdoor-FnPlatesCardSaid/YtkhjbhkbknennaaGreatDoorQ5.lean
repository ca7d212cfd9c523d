/-
  Plates that are drawn: to be read.
-/
import Derived.Test.YtkhjbhkbknennaaGreatDoorQ2
import Derived.Test.YtkhjbhkbknennaaGreatDoorGC
import Derived.Test.YtkhjbhkbknennaaGreatDoorN11
import Derived.Test.YtkhjbhkbknennaaGreatDoorN7
namespace Go.Proofs.YtkhjbhkbknennaaGreatDoor
open Go.RowKit Go.Sort
namespace L2
open L1 D

theorem showP_len (p : Pl) : (showP p).length ≤ 40 := by
  unfold showP
  cases h : okPl p
  · simp
  · rw [if_pos rfl, partsB_ws]
    obtain ⟨⟨h1, h2⟩, ⟨h3, h4⟩, -, -⟩ := okPl_parts h
    have l1 : (kindW p.k).length ≤ 6 := by
      have hk := kinds (show inB p.k 1 8 = true by simp [inB, h1, h2])
      rcases hk with e | e | e | e | e | e | e | e <;> rw [e] <;> decide
    have l2 : (Lib.itoa p.a).length ≤ 8 := L1.itoa_len (by omega) (by omega)
    have l3 := showB_len p.ak p.an
    have l4 := showB_len p.vk p.vn
    rw [joinS_step, joinS_step, joinS_step]
    have l5 : (Lib.join [L1.showB p.vk p.vn] [47]).length = (L1.showB p.vk p.vn).length := by simp [Lib.join]
    simp only [List.length_append, List.length_cons]
    omega

set_option maxRecDepth 100000 in
set_option maxHeartbeats 2000000 in
theorem drawReadPlate_any (hBend : Bends) (v : Value) (n : Nat) (w : World) (hC : Came w v n) : Calls Tryz.prog 16 #[v] w (DrewS w) := by
  have hC' := Lib.hid hC
  have hBend := Lib.hid hBend
  clear hC
  go_enter Tryz.func16, Tryz.ntmps16
  go_wp2_with fail
  refine (l1New_any v n _ hC'.out).mono ?_
  rintro e w1 ⟨h, rfl, rfl⟩
  have HC1 := Lib.hid (cur_new w v n h)
  have HB1 := Lib.hid (hC'.out.bytes (.cells #[v, .int .i64 0, .int .i64 h] 93))
  go_wp2_with fail
  refine (l5Draw_any _ v n _ HC1.out HB1.out).mono ?_
  rintro e0 w2 ⟨q, rfl, hC2, hg2⟩
  have HC2 := Lib.hid hC2
  have HB2 := Lib.hid (HB1.out.kept hg2)
  have HSP := Lib.hid (fun w1 => specShowPlate_any q w1)
  have hlen := showP_len q
  obtain ⟨k, a, b, c, d, e⟩ := q
  unfold plV at HSP ⊢
  simp only at HSP ⊢
  generalize showP ⟨k, a, b, c, d, e⟩ = sp at HSP hlen
  clear hC2
  go_wp2_with fail
  refine (HSP.out _).mono ?_
  rintro e3 w3 ⟨rfl, hb3⟩
  have HC3 := Lib.hid (HC2.out.below hb3)
  have HB3 := Lib.hid (HB2.out.kept (grown_of_below hb3 (some w.heap.size)))
  have hg3 := hg2.trans (grown_of_below hb3 (some w.heap.size))
  go_wp2_with fail
  refine (l1Once_any _ v n 2 (by omega) (by omega) _ HC3.out HB3.out).mono ?_
  rintro e4 w4 ⟨t, rfl, hC4, hg4⟩
  have HC4 := Lib.hid hC4
  have HB4 := Lib.hid (HB3.out.kept hg4)
  clear hC4
  cases t
  · go_wp2
    go_ret
    exact ⟨_, rfl, by simp [ByteArray.size]; omega, below_new _ _ _ (hg3.trans hg4)⟩
  · go_wp2_with fail
    refine (hBend.out _ v n _ _ _ (by simp [ByteArray.size]; omega) (by decide) (by decide) HC4.out HB4.out).mono ?_
    rintro e5 w5 ⟨t, rfl, ht, hC5, hg5⟩
    have HC5 := Lib.hid hC5
    clear hC5
    go_wp2
    go_ret
    refine ⟨_, rfl, ?_, below_new _ _ _ (hg3.trans (hg4.trans hg5))⟩
    have he : (ByteArray.mk sp.toArray).size = sp.length := by simp [ByteArray.size]
    rw [he] at ht
    omega

end L2
end Go.Proofs.YtkhjbhkbknennaaGreatDoor
