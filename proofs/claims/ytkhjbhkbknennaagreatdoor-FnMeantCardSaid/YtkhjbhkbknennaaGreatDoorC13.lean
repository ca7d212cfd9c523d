/-
  What is meant, by the program.
-/
import Derived.Test.YtkhjbhkbknennaaGreatDoorC12
import Derived.Test.YtkhjbhkbknennaaGreatDoorS7
import Derived.Deep.RegionWith
namespace Go.Proofs.YtkhjbhkbknennaaGreatDoor
open Go.RowKit Go.Shelf
namespace L2
open S1 L1

theorem below_undrew {w w' : World} (h : Below w.drew.heap.size w.drew w') : Below w.heap.size w w' := ⟨h.os, h.tape, h.output, h.size, h.block⟩
/-- What is meant, as the program answers it: the words that were said lie in a row of its own. -/
def MeantI (w0 : World) (o : Out) (e : Ending) (W' : World) : Prop := ∃ u, e = .returned (meanV o u) ∧ Here w0 W' u o.said

set_option maxRecDepth 100000 in
set_option maxHeartbeats 4000000 in
theorem implMeant_any (v : Value) (ss : List ByteArray) (a b : Int) (W : World) (hR : Row W v ss) (hS : Small ss) (hV : Vars W) :
    Calls Tryz.prog 7 #[v, .agg #[.int .i64 a, .int .i64 b]] W (MeantI W (meant (wsOf ss) a b)) := by
  have HIP := Lib.hid (fun w1 (hb : Below W.heap.size W w1) => implIsPlain_any v ss w1 (hR.below hb) hS (hV.later hb))
  have hmd := meant_good (wsOf ss) a b
  have hv : ∃ oa l cp, v = .slice oa l cp ∧ l ≤ cp ∧ cp ≤ maxLen := by
    obtain ⟨oa, cp, e, h1, h2, _⟩ := hR
    exact ⟨oa, _, cp, e, h1, h2⟩
  cases hpl : plain (wsOf ss)
  · have hm : meant (wsOf ss) a b = wrong 1 := by unfold meant; unfold plain at hpl; rw [hpl]; rfl
    rw [hpl] at HIP
    rw [hm]
    clear hR hS hV hmd hpl hm
    obtain ⟨oa, l, cp, rfl, hl1, hl2⟩ := hv
    unfold maxLen at hl2
    go_enter Tryz.func7, Tryz.ntmps7
    go_wp2_with fail
    refine (HIP.out _ (by (repeat (first | (with_reducible refine Below.alloc ?_ ?_ _) | (with_reducible refine Below.setCell ?_ ?_ _) | (with_reducible refine Below.drew ?_) | (with_reducible exact Below.refl _ _) | (with_reducible refine Below.trans ?_ (Below.mono (by assumption) ?_)))) <;> (first | omega | (dsimp only; omega) | (simp; done) | (simp; omega) | (simp at *; omega)))).mono ?_
    rintro e w1 ⟨rfl, hb1⟩
    have hs1 := hb1.size
    obtain ⟨hc1, hf1⟩ := bcell hb1
    simp at hs1
    have z0 : W.heap.size < w1.heap.size := by omega
    have z1 : W.heap.size + 1 < w1.heap.size := by omega
    go_wp2_with fail
    refine (endedBy_any _ _).mono ?_
    rintro e w2 ⟨rfl, hb2⟩
    have hs2 := hb2.size
    obtain ⟨hc2, hf2⟩ := bcell hb2
    have z2 : W.heap.size + 1 < w2.heap.size := by omega
    unfold meanV wrong
    simp only
    go_wp2_with fail
    refine bodyPost_ret (v := .agg #[.int .i64 0, .int .i64 0, .bool false, .slice none 0 0, .int .i64 1]) (by simp [results, Tryz.results7, go_sem, *]) rfl ?_
    refine ⟨_, rfl, ?_, World.ownsRow_nil _ _ _ _⟩
    clear hc1 hf1 hc2 hf2
    (repeat (first | (with_reducible refine Below.alloc ?_ ?_ _) | (with_reducible refine Below.setCell ?_ ?_ _) | (with_reducible refine Below.drew ?_) | (with_reducible exact Below.refl _ _) | (with_reducible refine Below.trans ?_ (Below.mono (by assumption) ?_)))) <;> (first | omega | (dsimp only; omega) | (simp; done) | (simp; omega) | (simp at *; omega))
  · have hpl' := hpl
    unfold plain at hpl'
    rw [Bool.and_eq_true, Bool.not_eq_true'] at hpl'
    obtain ⟨ho, hp⟩ := hpl'
    rw [hpl] at HIP
    have HOK := Lib.hid (fun w1 => implValueOk_any a b w1)
    have HDO := Lib.hid (fun w1 (hb : Below W.heap.size W w1) => makesF hV (ss.length + 1) v ss w1 (Nat.lt_succ_self _) hb (hR.below hb) hS ho hp)
    have hgd : GoodD (mean (wsOf ss) 0) := mean_good hp (ok_head ho).2.2.1
    cases hok : okB a b
    · have hm : meant (wsOf ss) a b = wrong 1 := by unfold meant; rw [hok, Bool.and_false]; rfl
      rw [hok] at HOK
      rw [hm]
      clear hR hS hV hmd hpl hm ho hp hgd hok
      obtain ⟨oa, l, cp, rfl, hl1, hl2⟩ := hv
      unfold maxLen at hl2
      go_enter Tryz.func7, Tryz.ntmps7
      go_wp2_with fail
      refine (HIP.out _ (by (repeat (first | (with_reducible refine Below.alloc ?_ ?_ _) | (with_reducible refine Below.setCell ?_ ?_ _) | (with_reducible refine Below.drew ?_) | (with_reducible exact Below.refl _ _) | (with_reducible refine Below.trans ?_ (Below.mono (by assumption) ?_)))) <;> (first | omega | (dsimp only; omega) | (simp; done) | (simp; omega) | (simp at *; omega)))).mono ?_
      rintro e w1 ⟨rfl, hb1⟩
      have hs1 := hb1.size
      obtain ⟨hc1, hf1⟩ := bcell hb1
      simp at hs1
      have z0 : W.heap.size < w1.heap.size := by omega
      have z1 : W.heap.size + 1 < w1.heap.size := by omega
      go_wp2_with fail
      refine (HOK.out _).mono ?_
      rintro e w2 ⟨rfl, hb2⟩
      have hs2 := hb2.size
      obtain ⟨hc2, hf2⟩ := bcell hb2
      have z2 : W.heap.size + 1 < w2.heap.size := by omega
      go_wp2_with fail
      refine (endedBy_any _ _).mono ?_
      rintro e w3 ⟨rfl, hb3⟩
      have hs3 := hb3.size
      obtain ⟨hc3, hf3⟩ := bcell hb3
      have z3 : W.heap.size + 1 < w3.heap.size := by omega
      unfold meanV wrong
      simp only
      go_wp2_with fail
      refine bodyPost_ret (v := .agg #[.int .i64 0, .int .i64 0, .bool false, .slice none 0 0, .int .i64 1]) (by simp [results, Tryz.results7, go_sem, *]) rfl ?_
      refine ⟨_, rfl, ?_, World.ownsRow_nil _ _ _ _⟩
      clear hc1 hf1 hc2 hf2 hc3 hf3
      (repeat (first | (with_reducible refine Below.alloc ?_ ?_ _) | (with_reducible refine Below.setCell ?_ ?_ _) | (with_reducible refine Below.drew ?_) | (with_reducible exact Below.refl _ _) | (with_reducible refine Below.trans ?_ (Below.mono (by assumption) ?_)))) <;> (first | omega | (dsimp only; omega) | (simp; done) | (simp; omega) | (simp at *; omega))
    · have hm : meant (wsOf ss) a b = mean (wsOf ss) 0 a b [] [] := meant_yes ho hp hok
      have HOKB := Lib.hid hok
      rw [hok] at HOK
      rw [hm]
      unfold MadeF at HDO
      generalize mean (wsOf ss) 0 = d at HDO ⊢
      obtain ⟨o, hod⟩ : ∃ o, d a b [] [] = o := ⟨_, rfl⟩
      rw [hod]
      obtain ⟨ok, on, ot, os, oc⟩ := o
      have HOD := Lib.hid hod
      clear hod
      clear hR hS hV hmd hpl hm ho hp hgd hok
      obtain ⟨oa, l, cp, rfl, hl1, hl2⟩ := hv
      unfold maxLen at hl2
      go_enter Tryz.func7, Tryz.ntmps7
      go_wp2_with fail
      refine (HIP.out _ (by (repeat (first | (with_reducible refine Below.alloc ?_ ?_ _) | (with_reducible refine Below.setCell ?_ ?_ _) | (with_reducible refine Below.drew ?_) | (with_reducible exact Below.refl _ _) | (with_reducible refine Below.trans ?_ (Below.mono (by assumption) ?_)))) <;> (first | omega | (dsimp only; omega) | (simp; done) | (simp; omega) | (simp at *; omega)))).mono ?_
      rintro e w1 ⟨rfl, hb1⟩
      have hs1 := hb1.size
      obtain ⟨hc1, hf1⟩ := bcell hb1
      simp at hs1
      have z0 : W.heap.size < w1.heap.size := by omega
      have z1 : W.heap.size + 1 < w1.heap.size := by omega
      go_wp2_with fail
      refine (HOK.out _).mono ?_
      rintro e w2 ⟨rfl, hb2⟩
      have hs2 := hb2.size
      obtain ⟨hc2, hf2⟩ := bcell hb2
      have z2 : W.heap.size + 1 < w2.heap.size := by omega
      have z20 : W.heap.size < w2.heap.size := by omega
      have hB2 : Below W.heap.size W w2 := by (repeat (first | (with_reducible refine Below.alloc ?_ ?_ _) | (with_reducible refine Below.setCell ?_ ?_ _) | (with_reducible refine Below.drew ?_) | (with_reducible exact Below.refl _ _) | (with_reducible refine Below.trans ?_ (Below.mono (by assumption) ?_)))) <;> (first | omega | (dsimp only; omega) | (simp; done) | (simp; omega) | (simp at *; omega))
      have HB2 := Lib.hid hB2
      clear hB2
      go_wp2_with fail
      go_region_with (first | (go_at_call 35; refine (HDO.out _ ?_).mono ?_; (focus exact HB2.out.drew); rintro e w3 ⟨fv, S, rfl, hD, hS', hb3⟩; obtain ⟨g, lb, rfl, hE, hc⟩ := hD.does w3 none (fun _ _ => rfl) (fun b _ => (by intro e; cases e)); have hb3' := below_undrew hb3; have hs3 := hb3'.size; obtain ⟨hc3, hf3⟩ := bcell hb3'; have z30 : W.heap.size < w3.heap.size := (by omega); have z31 : W.heap.size + 1 < w3.heap.size := (by omega); have HCALL := Lib.hid (hc w3 a b (.func (.func 36) #[] #[]) [] (.slice none 0 0) [] (Run.refl _ _ _) ⟨⟨HB2.out.trans (hb3'.mono HB2.out.size), World.ownsRow_nil _ _ _ _⟩, HOKB.out, nothing_asked _ _, fun c hc => (by cases hc), (by simp), short_nil⟩); rw [HOD.out] at HCALL; unfold Enters at hE; clear hc hD hb3 hb3') | (go_at_fn g; refine HCALL.out.mono ?_; rintro e w4 ⟨u, rfl, hH4, hR4⟩; obtain ⟨ou, cu, rfl, hu1, hu2⟩ := hH4.slice; have r4 := (fun i => hR4.cell (b := W.heap.size + 1) (i := i) (by omega) (fun x => x) (by intro e; cases e)); have f4 := (fun i => hR4.frozen (b := W.heap.size + 1) (i := i) (by omega) (fun x => x) (by intro e; cases e)); have hs4 := hR4.size; have z41 : W.heap.size + 1 < w4.heap.size := (by omega); have hap4 : ∀ c, W.heap.size ≤ c → c < W.heap.size + 2 → (Value.slice ou os.length cu).ownBlock ≠ some c := (fun c h1 h2 e => (by rcases hR4.own with h | h | ⟨x, h, hx⟩ <;> rw [h] at e <;> first | (cases e; done) | (injection e with e; omega))); have HH4 := Lib.hid hH4; have HAP4 := Lib.hid hap4; clear hH4 hR4 hap4; unfold meanV; simp only))
      all_goals
        go_wp2_with fail
        refine bodyPost_ret (v := .agg #[.int .i64 ok, .int .i64 on, .bool ot, .slice ou os.length cu, .int .i64 oc]) (by simp [results, Tryz.results7, go_sem, *]) rfl ?_
        refine ⟨_, rfl, HH4.out.keeps (X := Mine W.heap.size (W.heap.size + 2)) ?_ (fun b hb => hb.1) (fun b hb => HAP4.out b hb.1 hb.2)⟩
        (repeat (first | (with_reducible refine Keeps.alloc ?_ _) | (with_reducible refine Keeps.setCell ?_ ?_ _) | (with_reducible refine Keeps.drew ?_) | (with_reducible exact Keeps.refl _ _) | (with_reducible refine Keeps.below ?_ (by assumption)))) <;> (first | exact Or.inl rfl | exact Or.inl (Or.inl rfl) | exact Or.inl (Or.inr rfl) | exact Or.inl ⟨by (try dsimp only); omega, by (try dsimp only); omega⟩ | exact Or.inr (by (try dsimp only); omega))

end L2
end Go.Proofs.YtkhjbhkbknennaaGreatDoor
