/-
  The law of chapter 3 on texts.
-/
import Derived.Test.YtgcjmhecnbhhlaaDoorW21
namespace Go.Proofs.YtgcjmhecnbhhlaaDoor
open Go.RowKit
namespace L2
open S1 L1

theorem readS_len (s : ByteArray) : (readS s).length ≤ 60 := by
  unfold readS
  split
  · rename_i h
    have := (ok_head h).1
    rw [← ws_pieces, ws_len] at this
    exact this
  · simp

set_option maxRecDepth 100000 in
set_option maxHeartbeats 4000000 in
theorem lawReadSum (s : ByteArray) (_hs : s.size ≤ maxLen) (w : World) (hV : Vars w) :
    Calls Tryd.prog 9 #[.string s] w fun e w' => e = .returned (.bool true) ∧ Below w.heap.size w w' := by
  by_cases hbig : 1048576 < s.size
  · have h1 : (1048576 : Int) < (s.size : Int) := by omega
    clear hV
    go_enter Tryd.func9, Tryd.ntmps9
    go_wp2
    go_ret
    exact ⟨rfl, Below.refl _ _⟩
  have h1 : ¬ (1048576 : Int) < (s.size : Int) := by omega
  have h2 : s.size ≤ 1048576 := by omega
  have hlen := readS_len s
  have hsp := fun w1 => specReadSum_any s w1 h2
  have him := fun w1 hv => implReadSum_any s w1 h2 hv
  obtain ⟨ls, hls⟩ : ∃ ls, readS s = ls := ⟨_, rfl⟩
  obtain ⟨b, hb⟩ : ∃ b, readOk s = b := ⟨_, rfl⟩
  rw [hls] at hlen
  simp only [hls, hb] at hsp him
  have HSP := Lib.hid hsp
  have HIM := Lib.hid him
  have HV := Lib.hid hV
  have HLN := Lib.hid hlen
  obtain ⟨n, hn⟩ : ∃ n, ls.length = n := ⟨_, rfl⟩
  have HN := Lib.hid hn
  clear hV hsp him hls hb hbig hn hlen
  cases b
  all_goals
    go_enter Tryd.func9, Tryd.ntmps9
    go_wp2_with fail
    refine (HSP.out w).mono ?_
    rintro e w1 ⟨v0, rfl, ho0, hb1⟩
    obtain ⟨g0, cap0, hv0, -, -, -, hg0, -⟩ := ho0.form
    have HV0 := Lib.hid hv0
    have HO1 := Lib.hid ho0
    have HB1 := Lib.hid hb1
    clear ho0 hb1 hv0
    go_wp2_with fail
    refine (HIM.out w1 (HV.out.later HB1.out)).mono ?_
    rintro e w2 ⟨v2, rfl, ho2, hb2⟩
    obtain ⟨G, cap, hv2, hcap, hcapm, hG1, hG2, -⟩ := ho2.form
    rw [HN.out] at hv2 hcap
    subst hv2
    have HB2 := Lib.hid (HB1.out.trans (hb2.mono HB1.out.size))
    have HO2 := Lib.hid (HO1.out.below hb2)
    have HG2 := Lib.hid ho2
    have hwG : w.heap.size ≤ G := Nat.le_trans HB1.out.size hG1
    have hn60 : n ≤ 60 := by rw [← HN.out]; exact HLN.out
    clear ho2 hb2
    go_wp2_with fail
    refine (eqStringS_any _ _ ls w2 HG2.out.row HO2.out.row).mono ?_
    rintro e w3 ⟨rfl, hb3⟩
    have HB3 := Lib.hid (HB2.out.trans (hb3.mono HB2.out.size))
    have HO3 := Lib.hid (HO2.out.below hb3)
    have HG3 := Lib.hid (HG2.out.below hb3)
    clear hb3
    go_wp2_with fail
    refine (markStringS_any G n cap 1 w3 _ HG3.out.mem (by rw [List.length_map, HN.out]) hcap (by omega) (by omega)).mono ?_
    rintro e w4 ⟨rfl, hM4, hg4⟩
    have HB4 := Lib.hid (HB3.out.grown hg4 HB3.out.size (fun q e => by injection e with e; omega))
    have HO4 : Hid (OwS w4 _ _ _) := Lib.hid (HO3.out.kept hg4 (by rw [HV0.out]; simp only [Value.ownBlock]; intro e; injection e with e; omega))
    have HM4 := Lib.hid hM4
    have hq8 : ¬ ((1 + n : Nat) : Int) < 0 := by omega
    have hq8' : ¬ ((1 : Int) + (n : Int)) < 0 := by omega
    clear hM4 hg4
    go_wp2_with fail
    refine (heldStringS_any G n cap 1 w4 HM4.out hcap (by omega) (by omega)).mono ?_
    rintro e w5 ⟨rfl, hb5⟩
    have HB5 := Lib.hid (HB4.out.trans (hb5.mono HB4.out.size))
    have HO5 := Lib.hid (HO4.out.below hb5)
    have HM5 := Lib.hid (HM4.out.below hb5)
    clear hb5
    go_wp2_with fail
    refine (HIM.out w5 (HV.out.later HB5.out)).mono ?_
    rintro e w6 ⟨v6, rfl, ho6, hb6⟩
    have HB6 := Lib.hid (HB5.out.trans (hb6.mono HB5.out.size))
    have HO6 := Lib.hid (HO5.out.below hb6)
    have HM6 := Lib.hid (HM5.out.below hb6)
    have HG6 := Lib.hid ho6
    clear ho6 hb6
    go_wp2_with fail
    refine (eqStringS_any _ _ ls w6 HG6.out.row HO6.out.row).mono ?_
    rintro e w7 ⟨rfl, hb7⟩
    have HB7 := Lib.hid (HB6.out.trans (hb7.mono HB6.out.size))
    have HM7 := Lib.hid (HM6.out.below hb7)
    clear hb7
    go_wp2_with fail
    refine (heldStringS_any G n cap 1 w7 HM7.out hcap (by omega) (by omega)).mono ?_
    rintro e w8 ⟨rfl, hb8⟩
    have HB8 := Lib.hid (HB7.out.trans (hb8.mono HB7.out.size))
    clear hb8
    go_wp2_with fail
    go_ret
    exact ⟨rfl, HB8.out⟩

end L2
end Go.Proofs.YtgcjmhecnbhhlaaDoor
