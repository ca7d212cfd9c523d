/-
  What is said (written by wip/gen_c9.py).
-/
import Derived.Test.YtkhjbhkbknennaaGreatDoorC8
import Derived.Deep.RegionLaw
namespace Go.Proofs.YtkhjbhkbknennaaGreatDoor
open Go.RowKit Go.Shelf
namespace L2
open S1 L1

set_option maxRecDepth 100000 in
theorem say_app {w0 W' w1 : World} {v : Value} {sd : List ByteArray} (hH : Here w0 W' v sd) (hl : sd.length ≤ 40) (hb : Below W'.heap.size W' w1) (s : ByteArray) :
    ∃ v3 w3, (Builtin.append_ #[24, 24] 24 #[v, .slice (some ⟨w1.heap.size, 0, none⟩) 1 1]).run Tryz.prog (w1.alloc (.cells #[.string s] 9)) = .ok v3 w3 ∧ Here w0 w3 v3 (sd ++ [s]) ∧ Run NoX W' v.ownBlock w3 v3.ownBlock ∧
      (∀ b i, W'.heap.size ≤ b → b < w1.heap.size → w3.cell? ⟨b, i, none⟩ = w1.cell? ⟨b, i, none⟩ ∧ w3.frozen? ⟨b, i, none⟩ = w1.frozen? ⟨b, i, none⟩) ∧ w1.heap.size ≤ w3.heap.size ∧ (∀ b, W'.heap.size ≤ b → b < w1.heap.size → v3.ownBlock ≠ some b) := by
  have ho := ((hH.step hb).own).alloc (.cells #[.string s] 9)
  have hba := hb.alloc (o := .cells #[.string s] 9) hb.size
  have hw0 := hH.below.size
  obtain ⟨i, hi, hz, hsz, hby⟩ := str_info
  obtain ⟨v3, w3, hr, h2, h3, h4, h5⟩ := run_append_own_at (P := Tryz.prog) (w1.alloc (.cells #[.string s] 9)) w0.heap.size 24 24 9 i (.string ByteArray.empty) 1 16 Tryz.underlying24 hi hz hsz hby rfl (by omega) v sd.length _ ho ⟨w1.heap.size, 0, none⟩ 1 1 [.string s] (by simp)
    (fun j u hj => by
      cases j with
      | zero =>
        rw [add0]
        injection hj with hj
        rw [← hj]
        have h := heap_alloc_new w1 (.cells #[.string s] 9)
        simp only [World.cell?, h]
        rfl
      | succ j => cases hj)
    (fun u hu => by
      have : u = .string s := by simpa using hu
      subst this
      rfl) (by unfold maxLen; omega) (by omega) (Nat.le_trans hw0 hba.size)
  have hlt : ∀ b, v.ownBlock = some b → b < W'.heap.size := fun b e => (hH.lt e).2
  have hs3 := h3.size
  have hsa : (w1.alloc (.cells #[.string s] 9)).heap.size = w1.heap.size + 1 := by simp
  have hR : Run NoX W' v.ownBlock w3 v3.ownBlock := ((keeps_of_below hba).run _).grown h3 h5
  refine ⟨v3, w3, hr, ⟨hR.below hH.below (fun _ x => x.elim) (fun b e => (hH.lt e).1), ?_⟩, hR, fun b i h6 h7 => ?_, by omega, fun b h6 h7 e => ?_⟩
  · rw [List.length_append, List.map_append]
    exact h2
  · have hn : some b ≠ v.ownBlock := fun e => by have := hlt b e.symm; omega
    have hbk := (h3.block b (by omega) hn).trans (Below.heap_alloc _ _ _ h7)
    exact ⟨World.cell?_of_block (a := ⟨b, i, none⟩) hbk, World.frozen?_of_block (a := ⟨b, i, none⟩) hbk⟩
  · rcases h5 with h5 | h5
    · rw [h5] at e; have := hlt b e; omega
    · rw [h5, hsa] at e; injection e with e; omega

set_option maxRecDepth 100000 in
set_option maxHeartbeats 2000000 in
/-- What is said. -/
theorem say_next {w0 W : World} {ow : Option Nat} {k n : Int} {av : Value} {bd : Bd} (hk : okB k n = true) (hA0 : AskedAt W ow av bd) (hB0 : GoodB bd) (hV : Vars w0) :
    NextAt NoX w0 W ow (.func (.func 121) #[] #[]) k n av (fun a b sd => (if sd.length = 40 then wrong 2 else ⟨a, b, false, sd ++ [valB a b], 0⟩)) := by
  refine ⟨_, _, rfl, (enters_of Tryz.func121 (by kernel_rfl) rfl), fun W' a b v sd hrun hH hok hln hsh => ?_⟩
  have hA : Asks w0 W' k n av bd v sd := ⟨hH, hk, hA0.later hrun, hB0, hln, hsh⟩
  obtain ⟨ga, lba, rfl, -, -⟩ := hA.asked
  obtain ⟨oa, cp, rfl, hl1, hl2⟩ := hA.here.slice
  have hlt : ∀ b, (Value.slice oa sd.length cp).ownBlock = some b → b < W'.heap.size := fun b e => (hA.here.lt e).2
  have HW0 := Lib.hid hA.here.below.size
  have HH0 := Lib.hid hA.here
  have HLT := Lib.hid hlt
  have HAP0 := Lib.hid (show ∀ b, W'.heap.size ≤ b → b < W'.heap.size + 3 → (Value.slice oa sd.length cp).ownBlock ≠ some b from fun b h1 _ e => by have := hlt b e; omega)
  have HS := Lib.hid (fun W2 (hb : Below W'.heap.size W' W2) => implShow_any a b W2 (hV W2 (hH.below.trans (hb.mono hH.below.size))).1)
  have HAP := Lib.hid (fun w1 (hb : Below W'.heap.size W' w1) => say_app hH hln hb (valB a b))
  show Calls Tryz.prog 121 #[.agg #[.int .i64 a, .int .i64 b], scnV k n (.func (.func ga) #[] lba) (.slice oa sd.length cp)] W' (Did NoX w0 W' _ (if sd.length = 40 then wrong 2 else ⟨a, b, false, sd ++ [valB a b], 0⟩))
  change Hid (∀ W2, Below W'.heap.size W' W2 → Calls Tryz.prog 48 #[.agg #[.int .i64 a, .int .i64 b]] W2 fun e w' => e = .returned (.string (valB a b)) ∧ Below W2.heap.size W2 w') at HS
  generalize valB a b = sB at HS HAP ⊢
  by_cases h40 : sd.length = 40
  · rw [if_pos h40]
    generalize sd.length = len at *
    have h40' : (((len : Nat) : Int) == 40) = true := by rw [h40]; rfl
    unfold maxLen at hl2
    unfold scnV
    clear hA hH hrun hA0 hlt h40
    go_enter Tryz.func121, Tryz.ntmps121
    go_wp2_with fail
    refine (endedBy_any _ _).mono ?_
    rintro e w1 ⟨rfl, hb1⟩
    have hs1 := hb1.size
    obtain ⟨hc1, hf1⟩ := bcell hb1
    try simp at hs1
    have z10 : W'.heap.size < w1.heap.size := by omega
    have z11 : W'.heap.size + 1 < w1.heap.size := by omega
    have z12 : W'.heap.size + 2 < w1.heap.size := by omega
    unfold meanV wrong
    simp only
    go_wp2_with fail
    refine bodyPost_ret (v := .agg #[.int .i64 0, .int .i64 0, .bool false, .slice none 0 0, .int .i64 2]) (by simp [results, Tryz.results121, go_sem, *]) rfl ?_
    refine did_wrong HH0.out.below ?_
    clear hc1 hf1
    (repeat (first | (with_reducible refine Below.alloc ?_ ?_ _) | (with_reducible refine Below.setCell ?_ ?_ _) | (with_reducible refine Below.drew ?_) | (with_reducible exact Below.refl _ _) | (with_reducible refine Below.trans ?_ (Below.mono (by assumption) ?_)))) <;> (first | omega | (dsimp only; omega) | (simp; done) | (simp; omega) | (simp at *; omega))
  · rw [if_neg h40]
    generalize sd.length = len at *
    have h40' : (((len : Nat) : Int) == 40) = false := by simp; omega
    unfold maxLen at hl2
    unfold scnV
    clear hA hH hrun hA0 hlt h40
    go_enter Tryz.func121, Tryz.ntmps121
    go_wp2_with fail
    go_region_law (first | (go_simp; go_at_call 48; refine (HS.out _ ?_).mono ?_; (focus (repeat (first | (with_reducible refine Below.alloc ?_ ?_ _) | (with_reducible refine Below.setCell ?_ ?_ _) | (with_reducible refine Below.drew ?_) | (with_reducible exact Below.refl _ _) | (with_reducible refine Below.trans ?_ (Below.mono (by assumption) ?_)))) <;> (first | omega | (dsimp only; omega) | (simp; done) | (simp; omega) | (simp at *; omega))); rintro e w1 ⟨rfl, hb1⟩; have hB1 : Below W'.heap.size W' w1 := (by (repeat (first | (with_reducible refine Below.alloc ?_ ?_ _) | (with_reducible refine Below.setCell ?_ ?_ _) | (with_reducible refine Below.drew ?_) | (with_reducible exact Below.refl _ _) | (with_reducible refine Below.trans ?_ (Below.mono (by assumption) ?_)))) <;> (first | omega | (dsimp only; omega) | (simp; done) | (simp; omega) | (simp at *; omega))); have hs1 := hb1.size; obtain ⟨hc1, hf1⟩ := bcell hb1; simp at hs1; have z10 : W'.heap.size < w1.heap.size := (by omega); have z11 : W'.heap.size + 1 < w1.heap.size := (by omega); have z12 : W'.heap.size + 2 < w1.heap.size := (by omega); dsimp only) | (obtain ⟨v3, w3, hr3, hH3, hR3, hcc3, hs3, hap3⟩ := HAP.out w1 hB1; obtain ⟨oa3, cp3, rfl, hp1, hp2⟩ := hH3.slice; simp only [List.length_append, List.length_singleton] at hr3 hH3 hR3 hap3 hp1; refine step_run rfl (.tmp 11) (.tmp 14) rfl rfl _ _ (by simp [Act.eval, Act.put]) (by simp [Act.eval, Act.put]) hr3 ?_))
    all_goals
      have r30 := fun i => hcc3 W'.heap.size i (by omega) (by omega)
      have r31 := fun i => hcc3 (W'.heap.size + 1) i (by omega) (by omega)
      have r32 := fun i => hcc3 (W'.heap.size + 1 + 1) i (by omega) (by omega)
      simp only [forall_and] at r30 r31 r32
      obtain ⟨r30, f30⟩ := r30
      obtain ⟨r31, f31⟩ := r31
      obtain ⟨r32, f32⟩ := r32
      clear hcc3
      go_wp2_with fail
      refine (worth_any k n a b ga lba oa3 (sd.length + 1) cp3 _).mono ?_
      rintro e w4 ⟨rfl, hb4⟩
      have hs4 := hb4.size
      obtain ⟨hc4, hf4⟩ := bcell hb4
      try simp at hs4
      have z30 : W'.heap.size < w3.heap.size := by omega
      have z31 : W'.heap.size + 1 < w3.heap.size := by omega
      have z32 : W'.heap.size + 2 < w3.heap.size := by omega
      have z42 : W'.heap.size + 2 < w4.heap.size := by omega
      have HH3 := Lib.hid hH3
      have HR3 := Lib.hid hR3
      have HAP3 := Lib.hid (show ∀ b, W'.heap.size ≤ b → b < W'.heap.size + 3 → (Value.slice oa3 (sd.length + 1) cp3).ownBlock ≠ some b from fun b h1 h2 => hap3 b h1 (by omega))
      clear hH3 hR3 hap3
      go_wp2_with fail
      refine bodyPost_ret (v := .agg #[.int .i64 a, .int .i64 b, .bool false, .slice oa3 (sd.length + 1) cp3, .int .i64 0]) (by simp [results, Tryz.results121, go_sem, *]) rfl ?_
      refine did_end (out := ⟨a, b, false, sd ++ [sB], 0⟩) (lo := W'.heap.size) (hi := W'.heap.size + 3) HH3.out HR3.out ?_ (Nat.le_refl _) HW0.out HAP3.out
      clear hc1 hf1 hc4 hf4
      (repeat (first | (with_reducible refine Keeps.alloc ?_ _) | (with_reducible refine Keeps.setCell ?_ ?_ _) | (with_reducible refine Keeps.drew ?_) | (with_reducible exact Keeps.refl _ _) | (with_reducible refine Keeps.below ?_ (by assumption)))) <;> (first | exact Or.inl rfl | exact Or.inl (Or.inl rfl) | exact Or.inl (Or.inr rfl) | exact Or.inl ⟨by (try dsimp only); omega, by (try dsimp only); omega⟩ | exact Or.inr (by (try dsimp only); omega))
end L2
end Go.Proofs.YtkhjbhkbknennaaGreatDoor
