/-
  The model's say.
-/
import Derived.Test.YtkhjbhkbknennaaGreatDoorM4
import Derived.Deep.RegionLaw
namespace Go.Proofs.YtkhjbhkbknennaaGreatDoor
open Go.RowKit
namespace L2
open S1 L1

set_option maxRecDepth 100000 in
theorem say_appS {B : Nat} {w1 w2 : World} {v : Value} {sd : List ByteArray} (hO : OwS w1 B v sd) (hB : B ≤ w1.heap.size) (hb : Below w1.heap.size w1 w2) (hl : sd.length ≤ 40) (s : ByteArray) :
    ∃ g3 c3 w3, (Builtin.append_ #[24, 24] 24 #[v, .slice (some ⟨w2.heap.size, 0, none⟩) 1 1]).run Tryz.prog (w2.alloc (.cells #[.string s] 9)) = .ok (.slice (some ⟨g3, 0, none⟩) (sd.length + 1) c3) w3 ∧ OwS w3 B (.slice (some ⟨g3, 0, none⟩) (sd.length + 1) c3) (sd ++ [s]) ∧ sd.length + 1 ≤ c3 ∧ c3 ≤ maxLen ∧ Below B w2 w3 := by
  have ho := (hO.below hb).alloc (.cells #[.string s] 9)
  obtain ⟨v3, w3, hr, h3, hg⟩ := run_appS1 (w2.alloc (.cells #[.string s] 9)) B v sd ho w2.heap.size s (alloc_cell _ _ _ 0) (by omega) (by have := hb.size; simp; omega)
  obtain ⟨g, cap, hv, h1, h2, hb1, hlt, -⟩ := h3.form
  rw [List.length_append, List.length_singleton] at hv h1
  obtain ⟨g0, cap0, hv0, -, -, hb0, -⟩ := hO.form
  subst hv
  refine ⟨g, cap, w3, hr, h3, h1, h2, ?_⟩
  refine ((Below.refl B w2).alloc (Nat.le_trans hB hb.size) _).grown hg (by have := hb.size; simp; omega) (fun k e => ?_)
  rw [hv0] at e
  simp [Value.ownBlock] at e
  omega
theorem say_size (A : World) (a : Addr) (u : Value) : (A.setCell a u).heap.size = A.heap.size := by simp [World.setCell]
theorem means_own {o : Out} {W w3 Wf : World} {B : Nat} {v3 : Value} (hO : OwS w3 B v3 o.said) (hk : ∀ c, B ≤ c → Wf.heap[c]? = w3.heap[c]?) (hs : w3.heap.size ≤ Wf.heap.size) (hb : Below W.heap.size W Wf) : MeansS o W (.returned (outV o v3)) Wf := by
  obtain ⟨g, cap, rfl, h1, h2, h3, h4, h5⟩ := hO.form
  refine ⟨_, cap, rfl, ⟨_, cap, rfl, h1, h2, fun i hi => ⟨g, 0, rfl, Nat.lt_of_lt_of_le h4 hs, ?_⟩⟩, hb⟩
  rw [Nat.zero_add]
  exact (World.cell?_of_block (a := ⟨g, i, none⟩) (hk g h3)).trans (h5 i hi).1

set_option maxRecDepth 100000 in
set_option maxHeartbeats 4000000 in
theorem more_say {W : World} {v pv sv bv : Value} {ss : List ByteArray} {ps : List Nat} {ak an a b : Int} {sd : List ByteArray} {bs : Bs} {nb : Nat} {x : ByteArray} (hA : AskM W v ss pv ps ak an sv sd a b bv bs nb) (T2 : (x.toList == [115, 97, 121]) = true) :
    Calls Tryz.prog 97 #[v, .string x, pv, .agg #[.int .i64 ak, .int .i64 an, .bool false, sv, .int .i64 0], .agg #[.int .i64 a, .int .i64 b], bv] W (MeansS (if sd.length = 40 then wrong 2 else ⟨ak, an, false, sd ++ [valB ak an], 0⟩) W) := by
  have HA := Lib.hid hA
  obtain ⟨oa, ca, rfl, hv1, hv2, -⟩ := hA.row
  obtain ⟨pg, pc, rfl, hp1, hp2, hp3, hp4⟩ := hA.parts
  obtain ⟨os, cs, rfl, hs1, hs2, -⟩ := hA.said
  obtain ⟨ob, cb, rfl, hb1, hb2, -⟩ := hA.bound
  have HP4 := Lib.hid hp4
  have hp3a : pg < W.heap.size + 1 := by omega
  have hp3b : pg < W.heap.size + 1 + 1 := by omega
  have hp3c : pg < W.heap.size + 2 := by omega
  obtain ⟨sl, hsl⟩ : ∃ sl, sd.length = sl := ⟨_, rfl⟩
  have HSL := Lib.hid hsl
  obtain ⟨vl, hvl⟩ : ∃ vl, ss.length = vl := ⟨_, rfl⟩
  obtain ⟨pl, hpl⟩ : ∃ pl, ps.length = pl := ⟨_, rfl⟩
  obtain ⟨bl, hbl⟩ : ∃ bl, bs.length = bl := ⟨_, rfl⟩
  have HBL := Lib.hid hbl
  have HPL := Lib.hid hpl
  have HVL := Lib.hid hvl
  rw [hsl] at hs1
  rw [hvl] at hv1
  rw [hpl] at hp1
  rw [hbl] at hb1
  unfold maxLen at hv2 hp2 hs2 hb2
  have HR := Lib.hid hA.said
  rw [hsl] at HR
  rw [hsl, hvl, hpl, hbl]
  clear hA hp4 hsl hvl hpl hbl
  by_cases h40 : sl = 40
  · rw [if_pos h40]
    have h40' : ((sl : Int) == 40) = true := by simp; omega
    subst h40
    go_enter Tryz.func97, Tryz.ntmps97
    go_wp2_with fail
    refine (l4Wrong_any 2 _).mono ?_
    rintro e w1 ⟨oa1, cp1, rfl, hrow1, hbz1⟩
    have hsz1 := hbz1.size
    obtain ⟨hc1, hf1⟩ := bcell hbz1
    (try simp at hsz1)
    have z10 : W.heap.size < w1.heap.size := (by omega)
    have z11 : W.heap.size + 1 < w1.heap.size := (by omega)
    have z13 : W.heap.size + 1 + 1 < w1.heap.size := (by omega)
    unfold outV wrong
    simp only [List.length_nil]
    go_wp2_with fail
    refine bodyPost_ret (v := .agg #[.int .i64 0, .int .i64 0, .bool false, .slice oa1 0 cp1, .int .i64 2]) (by simp [results, Tryz.results97, go_sem, *]) rfl ?_
    refine means_none (o := wrong 2) rfl hrow1 ?_
    clear hc1 hf1
    (repeat (first | (with_reducible refine Below.alloc ?_ ?_ _) | (with_reducible refine Below.setCell ?_ ?_ _) | (with_reducible refine Below.drew ?_) | (with_reducible exact Below.refl _ _) | (with_reducible refine Below.trans ?_ (Below.mono (by assumption) ?_)))) <;> (first | omega | (dsimp only; omega) | (simp; done) | (simp; omega) | (simp at *; omega))
  · rw [if_neg h40]
    have hd40 : ¬ ((sl : Int) = 40) := by omega
    go_enter Tryz.func97, Tryz.ntmps97
    have HL := Lib.hid HA.out.len
    have HS := Lib.hid (show ∀ w, Calls Tryz.prog 64 #[.agg #[.int .i64 ak, .int .i64 an]] w (fun e w' => e = .returned (.string (valB ak an)) ∧ Below w.heap.size w w') from fun w => specShow_any ak an w)
    generalize valB ak an = sB at *
    go_upto_region 5 with fail
    go_region_law (first | (go_simp; go_at_call 42; refine (l1Texts_any _ sd _ (HR.out.below (by (repeat (first | (with_reducible refine Below.alloc ?_ ?_ _) | (with_reducible refine Below.setCell ?_ ?_ _) | (with_reducible refine Below.drew ?_) | (with_reducible exact Below.refl _ _) | (with_reducible refine Below.trans ?_ (Below.mono (by assumption) ?_)))) <;> (first | omega | (dsimp only; omega) | (simp; done) | (simp; omega) | (simp at *; omega)))) (by have := HL.out; omega)).mono ?_; rintro e w1 ⟨u, rfl, hO1, hb1⟩; have hs1 := hb1.size; obtain ⟨hc1, hf1⟩ := bcell hb1; simp at hs1; have hO1 := hO1.base (B' := W.heap.size + 3) (by simp); have z10 : W.heap.size < w1.heap.size := (by omega); have z11 : W.heap.size + 1 < w1.heap.size := (by omega); have z12 : W.heap.size + 1 + 1 < w1.heap.size := (by omega); dsimp only) | (go_simp; go_at_call 64; refine (HS.out _).mono ?_; rintro e w2 ⟨rfl, hb2⟩; have hs2 := hb2.size; obtain ⟨hc2, hf2⟩ := bcell hb2; dsimp only) | (obtain ⟨g3, c3, w3, hr3, hO3, hc31, hc32, hb3⟩ := say_appS hO1 (by omega) hb2 HL.out sB; rw [HSL.out] at hr3 hO3 hc31; have hc3 : ∀ b o, b < W.heap.size + 3 → w3.cell? ⟨b, o, none⟩ = w2.cell? ⟨b, o, none⟩ := (fun b o h => hb3.cell (p := ⟨b, o, none⟩) h); have hf3 : ∀ b o, b < W.heap.size + 3 → w3.frozen? ⟨b, o, none⟩ = w2.frozen? ⟨b, o, none⟩ := (fun b o h => hb3.frozen (p := ⟨b, o, none⟩) h); have hs3 := hb3.size; have z20 : W.heap.size < W.heap.size + 3 := (by omega); have z21 : W.heap.size + 1 < W.heap.size + 3 := (by omega); have z22 : W.heap.size + 1 + 1 < W.heap.size + 3 := (by omega); refine step_run rfl (.tmp 27) (.tmp 31) rfl rfl _ _ (by simp [Act.eval, Act.put]) (by simp [Act.eval, Act.put]) hr3 ?_))
    all_goals
      have k0 : w3.cell? ⟨W.heap.size, 0, none⟩ = some (.int .i64 ak) := (hc3 _ _ z20).trans ((hc2 _ _ z10).trans ((hc1 _ _ (by first | (simp; done) | (simp; omega))).trans (by simp [go_sem])))
      have k1 : w3.cell? ⟨W.heap.size, 1, none⟩ = some (.int .i64 an) := (hc3 _ _ z20).trans ((hc2 _ _ z10).trans ((hc1 _ _ (by first | (simp; done) | (simp; omega))).trans (by simp [go_sem])))
      have k2 : w3.cell? ⟨W.heap.size, 2, none⟩ = some (.bool false) := (hc3 _ _ z20).trans ((hc2 _ _ z10).trans ((hc1 _ _ (by first | (simp; done) | (simp; omega))).trans (by simp [go_sem])))
      have k3 : w3.cell? ⟨W.heap.size, 3, none⟩ = some (.slice os sl cs) := (hc3 _ _ z20).trans ((hc2 _ _ z10).trans ((hc1 _ _ (by first | (simp; done) | (simp; omega))).trans (by simp [go_sem])))
      have k4 : w3.cell? ⟨W.heap.size, 4, none⟩ = some (.int .i64 0) := (hc3 _ _ z20).trans ((hc2 _ _ z10).trans ((hc1 _ _ (by first | (simp; done) | (simp; omega))).trans (by simp [go_sem])))
      have k5 : w3.cell? ⟨W.heap.size + 1 + 1, 0, none⟩ = some (.int .i64 0) := (hc3 _ _ z22).trans ((hc2 _ _ z12).trans ((hc1 _ _ (by first | (simp; done) | (simp; omega))).trans (by simp [go_sem])))
      have k6 : w3.cell? ⟨W.heap.size + 1 + 1, 1, none⟩ = some (.int .i64 0) := (hc3 _ _ z22).trans ((hc2 _ _ z12).trans ((hc1 _ _ (by first | (simp; done) | (simp; omega))).trans (by simp [go_sem])))
      have k7 : w3.cell? ⟨W.heap.size + 1 + 1, 2, none⟩ = some (.bool false) := (hc3 _ _ z22).trans ((hc2 _ _ z12).trans ((hc1 _ _ (by first | (simp; done) | (simp; omega))).trans (by simp [go_sem])))
      have k8 : w3.cell? ⟨W.heap.size + 1 + 1, 3, none⟩ = some (.slice none 0 0) := (hc3 _ _ z22).trans ((hc2 _ _ z12).trans ((hc1 _ _ (by first | (simp; done) | (simp; omega))).trans (by simp [go_sem])))
      have k9 : w3.cell? ⟨W.heap.size + 1 + 1, 4, none⟩ = some (.int .i64 0) := (hc3 _ _ z22).trans ((hc2 _ _ z12).trans ((hc1 _ _ (by first | (simp; done) | (simp; omega))).trans (by simp [go_sem])))
      have f0 : ∀ i, w3.frozen? ⟨W.heap.size, i, none⟩ = false := fun i => (hf3 _ i z20).trans ((hf2 _ i z10).trans ((hf1 _ i (by first | (simp; done) | (simp; omega))).trans (by simp [go_sem])))
      have f1 : ∀ i, w3.frozen? ⟨W.heap.size + 1 + 1, i, none⟩ = false := fun i => (hf3 _ i z22).trans ((hf2 _ i z12).trans ((hf1 _ i (by first | (simp; done) | (simp; omega))).trans (by simp [go_sem])))
      have hbW3 : Below W.heap.size W w3 := by
        have q1 : Below W.heap.size W w1 := by (repeat (first | (with_reducible refine Below.alloc ?_ ?_ _) | (with_reducible refine Below.setCell ?_ ?_ _) | (with_reducible refine Below.drew ?_) | (with_reducible exact Below.refl _ _) | (with_reducible refine Below.trans ?_ (Below.mono (by assumption) ?_)))) <;> (first | omega | (dsimp only; omega) | (simp; done) | (simp; omega) | (simp at *; omega))
        exact (q1.trans (hb2.mono (by omega))).trans (hb3.mono (by omega))
      have HW3 := Lib.hid hbW3
      have HO3 := Lib.hid hO3
      have hs30 : W.heap.size + 3 ≤ w3.heap.size := by omega
      clear hc1 hf1 hc2 hf2 hc3 hf3 hb1 hb2 hb3 hO1 hO3 hbW3 hr3
      go_wp2_with fail
      refine bodyPost_ret (v := .agg #[.int .i64 ak, .int .i64 an, .bool false, .slice (some ⟨g3, 0, none⟩) (sl + 1) c3, .int .i64 0]) (by simp [results, Tryz.results97, go_sem, *]) rfl ?_
      refine means_own (o := ⟨ak, an, false, sd ++ [sB], 0⟩) HO3.out (fun c hc => ?_) ?_ ?_
      · exact (Below.heap_setCell _ _ _ _ (by dsimp only; omega)).trans ((Below.heap_setCell _ _ _ _ (by dsimp only; omega)).trans ((Below.heap_setCell _ _ _ _ (by dsimp only; omega)).trans ((Below.heap_setCell _ _ _ _ (by dsimp only; omega)).trans ((Below.heap_setCell _ _ _ _ (by dsimp only; omega)).trans (Below.heap_setCell _ _ _ _ (by dsimp only; omega))))))
      · rw [say_size, say_size, say_size, say_size, say_size, say_size]
        exact Nat.le_refl _
      · have hww := HW3.out
        refine (((((hww.setCell ?_ _).setCell ?_ _).setCell ?_ _).setCell ?_ _).setCell ?_ _).setCell ?_ _ <;> (dsimp only; omega)

end L2
end Go.Proofs.YtkhjbhkbknennaaGreatDoor
