/-
  The sums of a list, each made ready, one behind the other.
-/
import Derived.Test.YtkhjbhkbknennaaGreatDoorC10
namespace Go.Proofs.YtkhjbhkbknennaaGreatDoor
open Go.RowKit Go.Shelf
namespace L2
open S1 L1

theorem deed_info' : (Tryz.prog.info? 59).map (fun i => (i.zero, i.size, i.bytes)) = some (some .nilFunc, 1, 8) := by kernel_rfl
theorem deed_info : ∃ i, Tryz.prog.info? 59 = some i ∧ i.zero = some .nilFunc ∧ i.size = 1 ∧ i.bytes = 8 := by
  have h := deed_info'
  cases hi : Tryz.prog.info? 59 with
  | none => rw [hi] at h; cases h
  | some i =>
    rw [hi] at h
    simp only [Option.map_some, Option.some.injEq, Prod.mk.injEq] at h
    exact ⟨i, rfl, h.1, h.2.1, h.2.2⟩

/-- A row of sums in a block from B on, to which may be appended. -/
def OwF (w : World) (B : Nat) (v : Value) (fs : List Value) : Prop := w.ownsRow B 59 1 v fs.length fs ∧ v ≠ .slice none 0 0
theorem OwF.form {w : World} {B : Nat} {v : Value} {fs : List Value} (h : OwF w B v fs) : ∃ g cap, v = .slice (some ⟨g, 0, none⟩) fs.length cap ∧ fs.length ≤ cap ∧ cap ≤ maxLen ∧ B ≤ g ∧ g < w.heap.size ∧ ∀ i, i < fs.length → w.cell? ⟨g, i, none⟩ = some (fs.getD i .nilFunc) := by
  obtain ⟨ho, hn⟩ := h
  rcases ho.2 with ⟨hv, _⟩ | ⟨g, cap, cur, hv, hb, hg, h1, h2, hs, ht⟩
  · exact absurd hv hn
  · refine ⟨g, cap, hv, h1, h2, hb, (Array.getElem?_eq_some_iff.1 hg).1, fun i hi => ?_⟩
    have hl : fs[i]? = some (fs.getD i .nilFunc) := by simp [List.getD, hi]
    have := ho.cells (g := g) (by rw [hv]; rfl) i _ hl
    rwa [add0] at this
theorem OwF.kept {w w' : World} {B : Nat} {v : Value} {fs : List Value} {row : Option Nat} (h : OwF w B v fs) (hg : w.grownBy w' row) (hne : v.ownBlock ≠ row) : OwF w' B v fs := ⟨h.1.kept hg (Or.inr hne), h.2⟩
theorem OwF.below {w w' : World} {B : Nat} {v : Value} {fs : List Value} (h : OwF w B v fs) (hb : Below w.heap.size w w') : OwF w' B v fs := by
  obtain ⟨g, cap, rfl, _⟩ := h.form
  exact h.kept (D.grown_of_below hb none) (by simp [Value.ownBlock])
theorem owF_new (w : World) (B : Nat) (hB : B ≤ w.heap.size) : OwF (w.alloc (.cells #[] 59)) B (.slice (some ⟨w.heap.size, 0, none⟩) 0 0) [] :=
  ⟨World.ownsRow_made w #[] 0 hB (by unfold maxLen; omega) (by simp), by simp⟩
set_option maxRecDepth 100000 in
theorem run_appF (w : World) (B : Nat) (v : Value) (fs : List Value) (hown : OwF w B v fs) (g : Nat) (f : Value) (hf : ∃ i lb, f = .func (.func i) #[] lb) (hc : w.cell? ⟨g, 0, none⟩ = some f) (hs : fs.length ≤ 9000000) (hB : B ≤ w.heap.size) :
    ∃ v' w', (Builtin.append_ #[99, 99] 99 #[v, .slice (some ⟨g, 0, none⟩) 1 1]).run Tryz.prog w = .ok v' w' ∧ OwF w' B v' (fs ++ [f]) ∧ w.grownBy w' v.ownBlock ∧ (v'.ownBlock = v.ownBlock ∨ v'.ownBlock = some w.heap.size) := by
  obtain ⟨ho, hn⟩ := hown
  obtain ⟨i, hi, hz, hsz, hby⟩ := deed_info
  obtain ⟨fi, flb, rfl⟩ := hf
  obtain ⟨v', w', hr, h2, h3, h4, h5⟩ := run_append_own_at (P := Tryz.prog) w B 99 99 59 i .nilFunc 1 8 Tryz.underlying99 hi hz hsz hby rfl (by omega) v fs.length _ ho ⟨g, 0, none⟩ 1 1 [.func (.func fi) #[] flb] (by simp)
    (fun j u hj => by
      cases j with
      | zero =>
        rw [add0]
        injection hj with hj
        rw [← hj]
        exact hc
      | succ j => cases hj)
    (fun u hu => by
      rw [List.mem_singleton.1 hu]
      rfl) (by unfold maxLen; omega) (by omega) hB
  refine ⟨v', w', hr, ⟨?_, fun e => hn (h4.1 e).1⟩, h3, h5⟩
  rw [List.length_append]
  exact h2

theorem Row.cells {w : World} {b off n cap : Nat} {ss : List ByteArray} (h : Row w (.slice (some ⟨b, off, none⟩) n cap) ss) : ∀ i, i < ss.length → b < w.heap.size ∧ w.cell? ⟨b, off + i, none⟩ = some (.string (ss.getD i ByteArray.empty)) := by
  obtain ⟨oa, c, hv, _, _, h3⟩ := h
  intro i hi
  obtain ⟨b', off', ho, h4, h5⟩ := h3 i hi
  injection hv with e1 _ _
  rw [ho] at e1
  injection e1 with e1
  injection e1 with e1 e2 _
  subst e1 e2
  exact ⟨h4, h5⟩
theorem Keeps.grown {X : Nat → Prop} {A B C : World} {row : Option Nat} (h : Keeps X A B) (hg : B.grownBy C row) (hr : ∀ b, row = some b → X b ∨ A.heap.size ≤ b) : Keeps X A C :=
  ⟨hg.os.trans h.os, hg.tape.trans h.tape, hg.output.trans h.output, Nat.le_trans h.size hg.size, fun b hb hx => (hg.block b (Nat.lt_of_lt_of_le hb h.size) (fun e => (hr b e.symm).elim (fun x => hx x) (fun x => absurd x (by omega)))).trans (h.block b hb hx)⟩

/-- What making one sum ready leaves. -/
def MadeF (w0 : World) (ss : List ByteArray) (W : World) (e : Ending) (W' : World) : Prop :=
  ∃ fv S, e = .returned fv ∧ DeedF w0 W' S fv (mean (wsOf ss) 0) ∧ (∀ b, S b → W.heap.size ≤ b) ∧ Below W.heap.size W W'
/-- Lists of less than N words are made ready. -/
def MakesF (w0 : World) (N : Nat) : Prop := ∀ v ss W, ss.length < N → Below w0.heap.size w0 W → Row W v ss → Small ss → okSum (wsOf ss) = true → (wsOf ss).any pieceW = false → Calls Tryz.prog 35 #[v] W (MadeF w0 ss W)
/-- What making the parts of one ready leaves. -/
def DeedsF (w0 : World) (ss : List ByteArray) (W : World) (e : Ending) (W' : World) : Prop :=
  ∃ (g cap : Nat) (fs : List Value) (S : Nat → Nat → Prop), e = .returned (.slice (some ⟨g, 0, none⟩) fs.length cap) ∧ fs.length = (parts (wsOf ss)).length ∧ fs.length ≤ cap ∧ cap ≤ maxLen ∧ W.heap.size ≤ g ∧ g < W'.heap.size ∧ (∀ i, i < fs.length → W'.cell? ⟨g, i, none⟩ = some (fs.getD i .nilFunc)) ∧
    (∀ i, i < fs.length → DeedF w0 W' (S i) (fs.getD i .nilFunc) (mean (wsOf ss) ((parts (wsOf ss)).getD i 0)) ∧ ∀ b, S i b → W.heap.size ≤ b) ∧ Below W.heap.size W W'

/-- A part of a right sum: where it ends, and that it is one. -/
theorem part_at {ws : List (List UInt8)} (h : okSum ws = true) {i : Nat} (hi : i < (parts ws).length) : ∃ p y, (parts ws).getD i 0 = p ∧ 1 ≤ p ∧ p < y ∧ y ≤ ws.length ∧ after ws 1 p = some y := by
  obtain ⟨h60, h0, h3, hh, ha⟩ := ok_head h
  rw [parts_yes h] at hi ⊢
  have hbd := headEnd_bd hh
  have hm : (row ws (kids ws 0) (partsAt ws)).getD i 0 ∈ row ws (kids ws 0) (partsAt ws) := by simp [List.getD, hi]
  obtain ⟨h1, y, hy⟩ := row_parts _ _ _ ha _ hm
  obtain ⟨hl, _⟩ := row_ends _ _ _ hbd.2 ha _ hm
  obtain ⟨e, he, ha', hlt, _⟩ := sum_head hy
  have hb := headEnd_bd he
  have hz := after_bd _ _ _ hb.2 ha'
  exact ⟨_, y, rfl, by omega, by omega, hz.2, hy⟩

set_option maxRecDepth 100000 in
set_option maxHeartbeats 4000000 in
theorem deedsIn_any {w0 : World} (hV : Vars w0) {N : Nat} (IH : MakesF w0 N) (v : Value) (ss : List ByteArray) (W : World) (hN : ss.length ≤ N) (hB : Below w0.heap.size w0 W) (hR : Row W v ss) (hS : Small ss) (ho : okSum (wsOf ss) = true) (hp : (wsOf ss).any pieceW = false) :
    Calls Tryz.prog 78 #[v] W (DeedsF w0 ss W) := by
  have hwl := ws_len ss
  have h60 := (ok_head ho).1
  rw [hwl] at h60
  have HW0 := hB.size
  have hvl := fun w1 (hb : Below W.heap.size W w1) => hV.later (hB.trans (hb.mono hB.size))
  have HP := Lib.hid (fun w1 (hb : Below W.heap.size W w1) => implPartsOf_any v ss w1 (hR.below hb) hS (hvl w1 hb))
  have HE := Lib.hid (fun w1 i (hi : i ≤ 2000000) (hb : Below W.heap.size W w1) => implSumEnd_any v ss i w1 (hR.below hb) hS hi (hvl w1 hb))
  have HPA := Lib.hid (fun i (hi : i < (parts (wsOf ss)).length) => part_at ho hi)
  have HR := Lib.hid hR
  have HB := Lib.hid hB
  have hpl : (parts (wsOf ss)).length ≤ 3 := parts_len _
  have hsub := fun (w1 : World) (v' : Value) (p y : Nat) (hb : Below W.heap.size W w1) (h1 : 1 ≤ p) (h2 : p < y) (h3 : y ≤ ss.length) (hy : after (wsOf ss) 1 p = some y) (hr : Row w1 v' ((ss.drop p).take (y - p))) => by
    have hw : wsOf ((ss.drop p).take (y - p)) = ((wsOf ss).drop p).take (y - p) := by simp [wsOf, List.map_take, List.map_drop]
    have hpw : p ≤ (wsOf ss).length := by rw [hwl]; omega
    have h := IH v' ((ss.drop p).take (y - p)) w1 (by simp; omega) (hB.trans (hb.mono hB.size)) hr
      ⟨by have := hS.1; simp; omega, fun i hi => by
        have hi' : i < y - p ∧ p + i < ss.length := by simp only [List.length_take, List.length_drop] at hi; omega
        have e : ((ss.drop p).take (y - p)).getD i ByteArray.empty = ss.getD (p + i) ByteArray.empty := by simp [List.getD, hi'.1, List.getElem?_drop]
        rw [e]
        exact hS.2 (p + i) hi'.2⟩
      (by rw [hw]; exact part_sub ho hpw hy) (by rw [hw]; exact part_plain hp)
    have hm : mean (wsOf ((ss.drop p).take (y - p))) 0 = mean (wsOf ss) p := by rw [hw]; exact (sub_after hpw hy).2.2
    exact (⟨h, hm⟩ : Calls Tryz.prog 35 #[v'] w1 (MadeF w0 ((ss.drop p).take (y - p)) w1) ∧ mean (wsOf ((ss.drop p).take (y - p))) 0 = mean (wsOf ss) p)
  have HSUB := Lib.hid hsub
  have hend := fun (p y : Nat) (h : after (wsOf ss) 1 p = some y) (hpl : p ≤ ss.length) => endI_of h (by rw [hwl]; exact h60) (by rw [hwl]; exact hpl)
  have HEND := Lib.hid hend
  obtain ⟨oa, cap, rfl, h1, h2, h3⟩ := hR
  obtain ⟨len, hlen⟩ : ∃ len, ss.length = len := ⟨_, rfl⟩
  have HL := Lib.hid hlen
  have H3 := Lib.hid h3
  have h2' := Lib.hid h2
  unfold maxLen at h2
  rw [hlen] at h1
  obtain ⟨ps, hps⟩ : ∃ ps, parts (wsOf ss) = ps := ⟨_, rfl⟩
  rw [hps] at HP HPA hpl
  have HPS := Lib.hid hps
  obtain ⟨n, hn⟩ : ∃ n, ps.length = n := ⟨_, rfl⟩
  have HNN := Lib.hid hn
  rw [hn] at HPA hpl
  have HW0 := Lib.hid HW0
  clear IH hB hS ho hp hwl hvl hsub hend h3 hps hN
  rw [hlen] at HP HE HSUB HEND h60 ⊢
  go_enter Tryz.func78, Tryz.ntmps78
  go_wp2_with fail
  refine (HP.out _ (by (repeat (first | (with_reducible refine Below.alloc ?_ ?_ _) | (with_reducible refine Below.setCell ?_ ?_ _) | (with_reducible refine Below.drew ?_) | (with_reducible exact Below.refl _ _) | (with_reducible refine Below.trans ?_ (Below.mono (by assumption) ?_)))) <;> (first | omega | (dsimp only; omega) | (simp; done) | (simp; omega) | (simp at *; omega)))).mono ?_
  rintro e w1 ⟨pv, rfl, hO, hb1⟩
  obtain ⟨pg, pc, rfl, hc1, hc2, hg1, hg2, hcs⟩ := hO.form
  have hOF := (owF_new W W.heap.size (Nat.le_refl _)).below hb1
  have hsz1 := hb1.size
  have hBW : Below W.heap.size W w1 := by (repeat (first | (with_reducible refine Below.alloc ?_ ?_ _) | (with_reducible refine Below.setCell ?_ ?_ _) | (with_reducible refine Below.drew ?_) | (with_reducible exact Below.refl _ _) | (with_reducible refine Below.trans ?_ (Below.mono (by assumption) ?_)))) <;> (first | omega | (dsimp only; omega) | (simp; done) | (simp; omega) | (simp at *; omega))
  have HBW := Lib.hid hBW
  simp at hg1 hsz1
  rw [hn] at hc1 hcs
  unfold maxLen at hc2
  have HCS := Lib.hid hcs
  have HOF := Lib.hid hOF
  rw [hn]
  clear hO hb1 hcs hOF hBW
  go_wp2_with fail
  go_loopw [3, 10] (fun uv iv wr => ∃ (k g cp : Nat) (fs : List Value) (S : Nat → Nat → Prop), k ≤ n ∧ iv = .int .i64 (k : Int) ∧ fs.length = k ∧ uv = .slice (some ⟨g, 0, none⟩) k cp ∧ (g = W.heap.size ∨ w1.heap.size ≤ g) ∧ g < wr.heap.size ∧ OwF wr W.heap.size (.slice (some ⟨g, 0, none⟩) k cp) fs ∧
      (∀ i, i < k → DeedF w0 wr (S i) (fs.getD i .nilFunc) (mean (wsOf ss) (ps.getD i 0)) ∧ ∀ b, S i b → W.heap.size ≤ b ∧ b ≠ g) ∧ Keeps (fun b => b = W.heap.size) w1 wr ∧ Below W.heap.size W wr) (fun _ iv _ => n - (intOf iv).toNat)
  case atStart => exact ⟨0, _, 0, [], fun _ _ => False, Nat.zero_le _, rfl, rfl, rfl, Or.inl rfl, by omega, HOF.out, fun i hi => absurd hi (Nat.not_lt_zero _), Keeps.refl _ _, HBW.out⟩
  case round =>
    obtain ⟨k, g, cp, fs, S, hk, rfl, hfl, rfl, hg, hgl, hOw, hSd, hKp, hBr⟩ := hrel
    have HOW := Lib.hid hOw
    have HSD := Lib.hid hSd
    have HKP := Lib.hid hKp
    have HBR := Lib.hid hBr
    have HFL := Lib.hid hfl
    clear hOw hSd hKp hBr hfl
    by_cases hlt : k < n
    · obtain ⟨p, y, hpk, hp1, hpy, hyl, hy⟩ := HPA.out k hlt
      rw [ws_len, HL.out] at hyl
      have hpl2 : p < len := by omega
      obtain ⟨b, off, rfl, hbl, _⟩ := H3.out p (by rw [HL.out]; exact hpl2)
      have hcell : wr.cell? ⟨pg, k, none⟩ = some (.int .i64 (p : Int)) := by
        have h := (HCS.out k hlt).1
        rw [hpk] at h
        exact (World.cell?_of_block (a := ⟨pg, k, none⟩) (HKP.out.block pg hg2 (by omega))).trans h
      have hEc := HE.out wr p (by omega) HBR.out
      rw [HEND.out p y hy (by omega)] at hEc
      have HEc := Lib.hid hEc
      have HY := Lib.hid hy
      have HPK := Lib.hid hpk
      have hki : (k : Int) < (n : Int) := by omega
      have hk0 : (0 : Int) ≤ (k : Int) := by omega
      have hp0 : (0 : Int) ≤ (p : Int) := by omega
      have hpyi : (p : Int) ≤ (y : Int) := by omega
      have hyc : (y : Int) ≤ (cap : Int) := by omega
      have hcp : ¬ cap = p := by omega
      clear hEc hy hpk
      go_wp2_with fail
      refine HEc.out.mono ?_
      rintro e w2 ⟨rfl, hb2⟩
      have HB2 := Lib.hid hb2
      clear hb2
      go_wp2_with fail
      have hBw2 : Below W.heap.size W w2 := HBR.out.trans (HB2.out.mono HBR.out.size)
      have hcl := (HR.out.below hBw2).cells
      have hrow2 : Row w2 (.slice (some ⟨b, off + p, none⟩) (y - p) (cap - p)) ((ss.drop p).take (y - p)) :=
        row_sub HL.out h1 h2'.out (hcl 0 (by rw [HL.out]; omega)).1 (fun i hi => (hcl i (by rw [HL.out]; exact hi)).2) p (y - p) (y - p) (by simp only [List.length_take, List.length_drop]; have := HL.out; omega)
      obtain ⟨hcall, hmean⟩ := HSUB.out w2 _ p y hBw2 hp1 hpy hyl HY.out hrow2
      refine hcall.mono ?_
      rintro e w3 ⟨fv, S', rfl, hD, hS', hb3⟩
      rw [hmean] at hD
      obtain ⟨fi, flb, rfl⟩ := hD.fn
      have hal := (Below.refl w3.heap.size w3).alloc (Nat.le_refl _) (.cells #[.func (.func fi) #[] flb] 59)
      have hO3 := ((HOW.out.below HB2.out).below hb3).below hal
      have hs2 := HB2.out.size
      have hs3 := hb3.size
      have hW2 := hBw2.size
      have hsa : (w3.alloc (.cells #[.func (.func fi) #[] flb] 59)).heap.size = w3.heap.size + 1 := by simp
      obtain ⟨v', w4, hrun, hO4, hg4, hn4⟩ := run_appF (w3.alloc (.cells #[.func (.func fi) #[] flb] 59)) W.heap.size _ fs hO3 w3.heap.size (.func (.func fi) #[] flb) ⟨_, _, rfl⟩ (box1_new w3 _ _) (by rw [HFL.out]; omega) (by rw [hsa]; omega)
      obtain ⟨g', cp', hv', q1, q2, q3, q4, -⟩ := hO4.form
      subst hv'
      rw [List.length_append, List.length_singleton, HFL.out] at hrun hO4 hn4
      have hgn : g' = g ∨ g' = w3.heap.size + 1 := by
        simp only [Value.ownBlock, Option.some.injEq] at hn4
        rw [hsa] at hn4
        exact hn4
      have hrow : ∀ b, (Value.slice (some ⟨g, 0, none⟩) k cp).ownBlock = some b → b = g := fun b e => by
        simp only [Value.ownBlock, Option.some.injEq] at e
        exact e.symm
      have hk4 : Keeps (fun b => b = W.heap.size) w1 w4 := (((HKP.out.below HB2.out).below hb3).below hal).grown hg4 (fun b e => by rw [hrow b e]; exact hg)
      have hB4 : Below W.heap.size W w4 := (((hBw2.trans (hb3.mono hW2)).trans (hal.mono (by omega)))).grown hg4 (by rw [hsa]; omega) (fun b e => by rw [hrow b e]; omega)
      have hblk : ∀ b, b < w3.heap.size → b ≠ g → w4.heap[b]? = w3.heap[b]? := fun b hb hbg => (hg4.block b (by rw [hsa]; omega) (fun e => hbg (hrow b e.symm))).trans (hal.block b hb)
      have hDs : ∀ i, i < k + 1 → DeedF w0 w4 (if i < k then S i else S') ((fs ++ [Value.func (.func fi) #[] flb]).getD i .nilFunc) (mean (wsOf ss) (ps.getD i 0)) ∧ ∀ b, (if i < k then S i else S') b → W.heap.size ≤ b ∧ b ≠ g' := by
        intro i hi
        by_cases hik : i < k
        · rw [if_pos hik]
          obtain ⟨hd, hsb⟩ := HSD.out i hik
          have e : (fs ++ [Value.func (.func fi) #[] flb]).getD i .nilFunc = fs.getD i .nilFunc := by
            simp only [List.getD]
            rw [List.getElem?_append_left (by rw [HFL.out]; exact hik)]
          rw [e]
          refine ⟨hd.later fun b hb => ?_, fun b hb => ?_⟩
          · have h1 := hd.lt b hb
            have h2 := (hsb b hb).2
            exact ((hblk b (by omega) h2).trans (hb3.block b (by omega))).trans (HB2.out.block b h1)
          · have h1 := hd.lt b hb
            have h2 := hsb b hb
            omega
        · have hik' : i = k := by omega
          subst hik'
          rw [if_neg (by omega)]
          have e : (fs ++ [Value.func (.func fi) #[] flb]).getD i .nilFunc = .func (.func fi) #[] flb := by
            simp only [List.getD]
            rw [List.getElem?_append_right (by rw [HFL.out]; omega), HFL.out, Nat.sub_self]
            rfl
          rw [e, HPK.out]
          refine ⟨hD.later fun b hb => ?_, fun b hb => ?_⟩
          · have h1 := hD.lt b hb
            have h2 := hS' b hb
            exact hblk b h1 (by omega)
          · have h1 := hD.lt b hb
            have h2 := hS' b hb
            omega
      have HRUN := Lib.hid hrun
      have HO4 := Lib.hid hO4
      have HDS := Lib.hid hDs
      have HK4 := Lib.hid hk4
      have HB4 := Lib.hid hB4
      have HGN := Lib.hid (show g' = W.heap.size ∨ w1.heap.size ≤ g' from by have := HKP.out.size; omega)
      have HL4 := Lib.hid (show (fs ++ [Value.func (.func fi) #[] flb]).length = k + 1 from by rw [List.length_append, HFL.out]; rfl)
      have HQ4 := Lib.hid q4
      clear hrun hO4 hDs hk4 hB4 hgn hblk hg4 hn4 q1 q2 q3 q4 hO3 hal hD hS' hb3 hcl hrow2 hcall hmean hBw2 hrow
      go_wp2_with (at_builtin; refine wp_app rfl _ _ rfl rfl _ _ rfl rfl HRUN.out ?_)
      go_roundw
      case rel => exact ⟨k + 1, g', cp', fs ++ [.func (.func fi) #[] flb], fun i => if i < k then S i else S', by omega, by go_num, HL4.out, rfl, HGN.out, HQ4.out, HO4.out, HDS.out, HK4.out, HB4.out⟩
      case measure => simp [intOf]; omega
    · have hki : ¬ (k : Int) < (n : Int) := by omega
      have hkn : k = n := by omega
      have HK := Lib.hid hkn
      clear hkn
      go_wp2_with fail
      go_ret
      obtain ⟨g', cap', hv', q1, q2, q3, q4, q5⟩ := HOW.out.form
      rw [HFL.out] at hv' q1 q5
      injection hv' with e1 _ e3
      injection e1 with e1
      injection e1 with e1
      subst e1 e3
      unfold DeedsF
      rw [HPS.out]
      refine ⟨g, cp, fs, S, by rw [HFL.out]; rfl, by rw [HFL.out, HK.out, HNN.out], by rw [HFL.out]; exact q1, q2, q3, q4, by rw [HFL.out]; exact q5, by rw [HFL.out]; exact fun i hi => ⟨(HSD.out i hi).1, fun b hb => ((HSD.out i hi).2 b hb).1⟩, HBR.out⟩

end L2
end Go.Proofs.YtkhjbhkbknennaaGreatDoor
