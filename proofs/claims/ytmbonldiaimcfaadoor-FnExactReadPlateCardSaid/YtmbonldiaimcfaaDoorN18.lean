/-
  The law on ReadPlate.
-/
import Derived.Test.YtmbonldiaimcfaaDoorN17
namespace Go.Proofs.YtmbonldiaimcfaaDoor
open Go.RowKit Go.Sort
namespace L2
open S1 L1

theorem specReadPlate_any (s : ByteArray) (hs : s.size ≤ 1048576) (w : World) :
    Calls Tryd.prog 32 #[.string s] w fun e w' => e = .returned (.tuple #[plV (rdP s.toList), .bool (rdPOk s.toList)]) ∧ Below w.heap.size w w' := by
  by_cases h4 : (cutS s.toList).length = 4
  · exact specReadPlate_four s hs h4 w
  · have hno : rdPOk s.toList = false := by unfold rdPOk; rw [decide_eq_false h4]; rfl
    have hrd : rdP s.toList = noPl := by unfold rdP; rw [hno]; rfl
    rw [hno, hrd]
    exact specReadPlate_few s hs h4 w

set_option maxRecDepth 100000 in
set_option maxHeartbeats 2000000 in
theorem lawReadPlate (s : ByteArray) (_hs : s.size ≤ maxLen) (w : World) (hV : Vars w) (hT : PT w) (hW : PW w) :
    Calls Tryd.prog 8 #[.string s] w fun e w' => e = .returned (.bool true) ∧ Below w.heap.size w w' := by
  by_cases hbig : 1048576 < s.size
  · have h1 : (1048576 : Int) < (s.size : Int) := by omega
    clear hV hT hW
    go_enter Tryd.func8, Tryd.ntmps8
    go_wp2
    go_ret
    exact ⟨rfl, Below.refl _ _⟩
  have h1 : ¬ (1048576 : Int) < (s.size : Int) := by omega
  have h2 : s.size ≤ 1048576 := by omega
  have HS := fun w1 => specReadPlate_any s h2 w1
  have HI := fun w1 (hb : Below w.heap.size w w1) => implReadPlate_any s h2 w1 (hV.later hb) (hT.later hb) (hW.later hb)
  obtain ⟨ok, hok⟩ : ∃ ok, rdPOk s.toList = ok := ⟨_, rfl⟩
  obtain ⟨p, hp⟩ : ∃ p, rdP s.toList = p := ⟨_, rfl⟩
  rw [hok, hp] at HS HI
  have HE := fun w1 => eqPlate_any p p w1
  rw [samePl_refl] at HE
  obtain ⟨k, a, b, c, d, e⟩ := p
  unfold plV at HS HI HE
  simp only at HS HI HE
  replace HS := Lib.hid HS
  replace HI := Lib.hid HI
  replace HE := Lib.hid HE
  clear hV hT hW hok hp hbig
  cases ok
  all_goals
    go_enter Tryd.func8, Tryd.ntmps8
    go_wp2_with fail
    refine (HS.out _).mono ?_
    rintro e1 w1 ⟨rfl, hb1⟩
    have hs1 := hb1.size
    have HB1 := Lib.hid hb1
    go_wp2_with fail
    refine (HI.out _ (HB1.out.alloc HB1.out.size _)).mono ?_
    rintro e2 w2 ⟨rfl, hb2⟩
    have hs2 := hb2.size
    obtain ⟨hc2, hf2⟩ := bcell hb2
    simp at hs2
    have z2 : w1.heap.size < w2.heap.size := by omega
    have HB2 : Hid (Below w.heap.size w w2) := Lib.hid ((HB1.out.alloc HB1.out.size _).trans (hb2.mono (by simp; omega)))
    clear hb2 hb1
    go_wp2_with fail
    refine (HE.out _).mono ?_
    rintro e3 w3 ⟨rfl, hb3⟩
    have HB3 : Hid (Below w.heap.size w w3) := Lib.hid ((HB2.out.alloc HB2.out.size _).trans (hb3.mono (by simp; have := HB2.out.size; omega)))
    clear hb3 hc2 hf2
    go_wp2_with fail
    go_ret
    exact ⟨rfl, HB3.out⟩

end L2
end Go.Proofs.YtmbonldiaimcfaaDoor
