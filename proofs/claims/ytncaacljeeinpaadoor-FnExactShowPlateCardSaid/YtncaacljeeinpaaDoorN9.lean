/-
  The law of chapter 5 on a plate's text.
-/
import Derived.Test.YtncaacljeeinpaaDoorN8
namespace Go.Proofs.YtncaacljeeinpaaDoor
open Go.RowKit Go.Sort
namespace L2
open S1 L1

set_option maxRecDepth 100000 in
theorem lawShowPlate (p : Pl) (w : World) (hT : PT w) (hW : PW w) :
    Calls Tryd.prog 7 #[plV p] w fun e w' => e = .returned (.bool true) ∧ Below w.heap.size w w' := by
  have HT := Lib.hid (toPlate_any p)
  have HS := Lib.hid (specShowPlate_any p)
  have HI := Lib.hid (fun w1 (hb : Below w.heap.size w w1) => implShowPlate_any p w1 (hT.later hb) (hW.later hb))
  obtain ⟨k, a, b, c, d, e⟩ := p
  unfold plV at HT HS HI ⊢
  simp only at HT HS HI ⊢
  generalize showP ⟨k, a, b, c, d, e⟩ = t at HS HI
  generalize (⟨t.toArray⟩ : ByteArray) = s at HS HI
  clear hT hW
  go_enter Tryd.func7, Tryd.ntmps7
  go_wp2_with fail
  refine (HT.out _).mono ?_
  rintro e1 w1 ⟨rfl, hb1⟩
  have hs1 := hb1.size
  obtain ⟨hc1, hf1⟩ := bcell hb1
  simp at hs1
  have z1 : w.heap.size < w1.heap.size := by omega
  have h1 : Below w.heap.size w w1 := by clear hc1 hf1; (repeat (first | (with_reducible refine Below.alloc ?_ ?_ _) | (with_reducible refine Below.setCell ?_ ?_ _) | (with_reducible refine Below.drew ?_) | (with_reducible exact Below.refl _ _) | (with_reducible refine Below.trans ?_ (Below.mono (by assumption) ?_)))) <;> (first | omega | (dsimp only; omega) | (simp; done) | (simp; omega) | (simp at *; omega))
  have H1 := Lib.hid h1
  clear h1
  go_wp2_with fail
  refine (HS.out _).mono ?_
  rintro e2 w2 ⟨rfl, hb2⟩
  have hs2 := hb2.size
  obtain ⟨hc2, hf2⟩ := bcell hb2
  have z2 : w.heap.size < w2.heap.size := by omega
  have H2 := Lib.hid (H1.out.trans (hb2.mono H1.out.size))
  go_wp2_with fail
  refine (HT.out _).mono ?_
  rintro e3 w3 ⟨rfl, hb3⟩
  have H3 := Lib.hid (H2.out.trans (hb3.mono H2.out.size))
  go_wp2_with fail
  refine (HI.out _ H3.out).mono ?_
  rintro e4 w4 ⟨rfl, hb4⟩
  have H4 := Lib.hid (H3.out.trans (hb4.mono H3.out.size))
  clear hc1 hf1 hc2 hf2 hb1 hb2 hb3 hb4
  go_wp2_with fail
  go_ret
  exact ⟨rfl, H4.out⟩

end L2
end Go.Proofs.YtncaacljeeinpaaDoor
