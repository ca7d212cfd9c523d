/-
  The draws: a text that is bent.
-/
import Derived.Test.YtcfniecdjbgknaaDoorCur5
import Derived.Deep.RegionHeld3
import Derived.Deep.DrawnRows
namespace Go.Proofs.YtcfniecdjbgknaaDoor
open Go.RowKit
attribute [local go_sem ↓] Go.wp_at_zero Go.wp_at_succ
namespace D

/-- Appending a row of bytes, as a step of a region that draws. -/
theorem step_app {ops : Array Oper} {o : Oper} {a : Act} {K : Act → World → Prop} {Q : Exit → Act → World → Prop} {E : Prop} (hgd : o.guard = none) (s x : Operand)
    (ho : o.op = .call { callee := .builtin .append, args := #[s, x], argTypes := #[22, 22] }) (hty : o.type = 22)
    (w : World) (B : Nat) (v : Value) (n : Nat) (hs : a.eval s = v) (hown : Ow w B v n) (ad : Addr) (m c : Nat) (hx : a.eval x = .slice (some ad) m c)
    (hsrc : ∀ j, j < m → ∃ z : Int, 0 ≤ z ∧ z ≤ 255 ∧ w.cell? (ad.add j) = some (.int .u8 z)) (hsm : n + m ≤ 1000) (hB : B ≤ w.heap.size)
    (h : ∀ v' w', Ow w' B v' (n + m) → w.grownBy w' v.ownBlock → (v'.ownBlock = v.ownBlock ∨ v'.ownBlock = some w.heap.size) → K (a.put o.dst v') w') :
    if Region.wanted o (yielded ops a.tmps) = true then Oper.wp Tryd.prog o a w K Q else E := by
  have hw : Region.wanted o (yielded ops a.tmps) = true := by simp [Region.wanted, hgd]
  rw [if_pos hw]
  obtain ⟨v', w', hr, h2, h3, h4⟩ := run_app w B v n hown ad m c hsrc hsm hB
  unfold Oper.wp execOp
  simp only [ho, resolve, invoke, builtin, Sem.run_bind, Sem.run_pure, Result.andThen_ok, List.map_toArray, List.map_cons, List.map_nil, hs, hx, hty, hr]
  exact h v' w' h2 h3 h4

/-- A byte of the row is set. -/
theorem Rw.store {w : World} {B g cap n : Nat} (h : Rw w B (.slice (some ⟨g, 0, none⟩) n cap) n) (k : Nat) (z : Int) (z0 : 0 ≤ z) (z1 : z ≤ 255) : Rw (w.setCell ⟨g, k, none⟩ (.int .u8 z)) B (.slice (some ⟨g, 0, none⟩) n cap) n := by
  obtain ⟨g', cap', hv, h1, h2, h3, h4, h5⟩ := h
  cases hv
  refine ⟨g, cap, rfl, h1, h2, h3, by simpa [World.setCell] using h4, fun i hi => ?_⟩
  obtain ⟨⟨y, y0, y1, hy⟩, hf⟩ := h5 i hi
  refine ⟨?_, by simpa [go_sem] using hf⟩
  by_cases e : i = k
  · subst e
    exact ⟨z, z0, z1, World.cell?_setCell_same' _ _ _ (by rw [hy]; rfl)⟩
  · exact ⟨y, y0, y1, (World.cell?_setCell_other _ _ _ _ (by intro h; injection h with _ h; exact e h.symm)).trans hy⟩

/-- What bending holds: the row, how many rounds are left, the cursor. -/
def Bent (w0 : World) (p : Nat) (v : Value) (n S : Nat) (b x : Value) (wx : World) : Prop :=
  ∃ m j : Nat, x = .int .i64 (j : Int) ∧ Rw wx w0.heap.size b m ∧ m + j ≤ S + 2 ∧ Cur wx p v n ∧ Bytes wx p v n ∧ w0.grownBy wx (some p)

/-- '[]byte(s)': a row. -/
theorem rw_made (w : World) (s : ByteArray) (hs : s.size ≤ 16) : Rw (w.drew.alloc (.cells (bytesRow s (grownCap w s.size 0 5)) 5 ((bytesRow s (grownCap w s.size 0 5)).size, (bytesRow s (grownCap w s.size 0 5)).size + 1))) w.heap.size (.slice (some ⟨w.heap.size, 0, none⟩) s.size (grownCap w s.size 0 5)) s.size := by
  refine ⟨w.heap.size, _, rfl, grownCap_ge w s.size 0 5, grownCap_le_maxLen w s.size 0 5 (by unfold maxLen; omega), Nat.le_refl _, by simp [World.size_alloc], fun i hi => ⟨?_, ?_⟩⟩
  · have hi' : i < s.data.size := hi
    refine ⟨(s.data[i].toNat : Int), by omega, ?_, ?_⟩
    · have := s.data[i].toNat_lt
      omega
    · exact (World.cell?_alloc_mark w.drew _ _ _ i).trans (bytesRow_at s _ i hi')
  · refine (World.frozen?_alloc_mark w.drew _ _ _ _ i).trans ?_
    have : s.size ≤ (bytesRow s (grownCap w s.size 0 5)).size := by unfold bytesRow; rw [Array.size_append, Array.size_map]; exact Nat.le_add_right _ _
    rw [Bool.and_eq_false_iff]
    exact Or.inl (by simp; omega)

theorem Rw.shrink {w : World} {B g cap m : Nat} (h : Rw w B (.slice (some ⟨g, 0, none⟩) m cap) m) (k : Nat) (hk : k ≤ m) : Rw w B (.slice (some ⟨g, 0, none⟩) k cap) k := by
  obtain ⟨g', cap', hv, h1, h2, h3, h4, h5⟩ := h
  cases hv
  exact ⟨g, cap, rfl, by omega, h2, h3, h4, fun i hi => h5 i (by omega)⟩
theorem Rw.base {w : World} {B B' n : Nat} {v : Value} (h : Rw w B v n) (hB : B' ≤ B) : Rw w B' v n := by
  obtain ⟨g, cap, hv, h1, h2, h3, h4⟩ := h
  exact ⟨g, cap, hv, h1, h2, Nat.le_trans hB h3, h4⟩
theorem Ow.n {w : World} {B n n' : Nat} {v : Value} (h : Ow w B v n) (e : n = n') : Ow w B v n' := e ▸ h

/-- While a statement makes rows of its own: the cursor, and nothing else old has turned. -/
structure Fit (w4 : World) (p : Nat) (v : Value) (n : Nat) (w' : World) : Prop where
  c : Cur w' p v n
  g : w4.grownBy w' (some p)
theorem Fit.drew {w4 w' : World} {p n : Nat} {v : Value} (h : Fit w4 p v n w') : Fit w4 p v n w'.drew := ⟨h.c, h.g.trans (grown_draws w' 1 _)⟩
theorem Fit.alloc {w4 w' : World} {p n : Nat} {v : Value} (h : Fit w4 p v n w') (o : Obj) : Fit w4 p v n (w'.alloc o) := ⟨h.c.alloc o, h.g.trans (World.grownBy_alloc w' o _)⟩
theorem Fit.call {w4 w' w1 : World} {p n : Nat} {v : Value} (h : Fit w4 p v n w') (hc : Cur w1 p v n) (hg : w'.grownBy w1 (some p)) : Fit w4 p v n w1 := ⟨hc, h.g.trans hg⟩
theorem Fit.row {w4 w' w1 : World} {p n q : Nat} {v u : Value} (h : Fit w4 p v n w') (ho : Ow w' w4.heap.size u q) (hp : p < w4.heap.size) (hg : w'.grownBy w1 u.ownBlock) : Fit w4 p v n w1 := by
  obtain ⟨b, cap, rfl, _, _, hb, _⟩ := ho.form
  have hpl := h.c.lt
  obtain ⟨i, x, hi, hh⟩ := h.c
  refine ⟨⟨i, x, hi, (hg.block p hpl (by simp [Value.ownBlock]; omega)).trans hh⟩, ⟨hg.os.trans h.g.os, hg.tape.trans h.g.tape, hg.output.trans h.g.output, Nat.le_trans h.g.size hg.size, fun k hk hne => ?_⟩⟩
  exact (hg.block k (Nat.lt_of_lt_of_le hk h.g.size) (by simp [Value.ownBlock]; omega)).trans (h.g.block k hk hne)
/-- The bytes of the row that was there, read while rows are made. -/
theorem Fit.src {w4 w' : World} {p n B g cap M : Nat} {v : Value} (h : Fit w4 p v n w') (hR : Rw w4 B (.slice (some ⟨g, 0, none⟩) M cap) M) (hp : p < B) (off m : Nat) (hm : off + m ≤ M) :
    ∀ j, j < m → ∃ z : Int, 0 ≤ z ∧ z ≤ 255 ∧ w'.cell? ((⟨g, off, none⟩ : Addr).add j) = some (.int .u8 z) := by
  intro j hj
  obtain ⟨g', cap', hv, h1, h2, h3, h4, h5⟩ := hR.kept h.g hp
  cases hv
  obtain ⟨⟨z, z0, z1, hz⟩, _⟩ := h5 (off + j) (by omega)
  have hadd : (⟨g, off, none⟩ : Addr).add j = ⟨g, off + j, none⟩ := by unfold Addr.add; split <;> simp_all
  exact ⟨z, z0, z1, by rw [hadd]; exact hz⟩

theorem Fit.sz {w4 w' : World} {p n : Nat} {v : Value} (h : Fit w4 p v n w') : w4.heap.size ≤ w'.heap.size := h.g.size
/-- One byte that lies in a block of its own. -/
theorem src_one {W : World} {h : Nat} {u : Int} (u0 : 0 ≤ u) (u1 : u ≤ 255) (hc : W.cell? ⟨h, 0, none⟩ = some (.int .u8 u)) : ∀ j, j < 1 → ∃ z : Int, 0 ≤ z ∧ z ≤ 255 ∧ W.cell? ((⟨h, 0, none⟩ : Addr).add j) = some (.int .u8 z) := by
  intro j hj
  obtain rfl : j = 0 := by omega
  have hadd : (⟨h, 0, none⟩ : Addr).add 0 = ⟨h, 0, none⟩ := by unfold Addr.add; split <;> simp_all
  exact ⟨u, u0, u1, by rw [hadd]; exact hc⟩

/-- The row as a text. -/
theorem rw_back {w : World} {g cap m : Nat} (h : ∀ i, i < m → (∃ z : Int, 0 ≤ z ∧ z ≤ 255 ∧ w.cell? ⟨g, i, none⟩ = some (.int .u8 z)) ∧ w.frozen? ⟨g, i, none⟩ = false) :
    ∃ t : ByteArray, Sem.run Tryd.prog (convert 22 9 (.slice (some ⟨g, 0, none⟩) m cap)) w = .ok (.string t) w ∧ t.size = m := by
  have hl : ∃ l : List UInt8, l.length = m ∧ ∀ j (hj : j < l.length), w.cell? ⟨g, j, none⟩ = some (.int .u8 (l[j].toNat : Int)) := by
    induction m with
    | zero => exact ⟨[], rfl, by simp⟩
    | succ m ih =>
      obtain ⟨l, h1, h2⟩ := ih (fun i hi => h i (by omega))
      obtain ⟨⟨z, z0, z1, hz⟩, _⟩ := h m (by omega)
      refine ⟨l ++ [UInt8.ofNat z.toNat], by simp [h1], fun j hj => ?_⟩
      simp at hj
      by_cases e : j < l.length
      · rw [List.getElem_append_left e]
        exact h2 j e
      · have : j = m := by omega
        subst this
        have hj2 : j = l.length := by omega
        rw [List.getElem_append_right (by omega)]
        simp only [List.getElem_singleton]
        rw [hz]
        have : ((UInt8.ofNat z.toNat).toNat : Int) = z := by
          simp
          omega
        rw [this]
  obtain ⟨l, hl1, hl2⟩ := hl
  subst hl1
  refine ⟨⟨l.toArray⟩, run_convert_bytes_back w 22 9 5 ⟨g, 0, none⟩ cap l Tryd.underlying22 Tryd.underlying5 Tryd.underlying9 (fun j hj => ?_), by simp [ByteArray.size]⟩
  have hadd : (⟨g, 0, none⟩ : Addr).add j = ⟨g, j, none⟩ := by unfold Addr.add; split <;> simp_all
  rw [hadd]
  exact hl2 j hj

set_option maxRecDepth 100000 in
set_option maxHeartbeats 4000000 in
theorem bends : Bends := by
  intro p v n w s sg hs hsg hC hB
  have hp := hC.lt
  have HC := Lib.hid hC
  have HB := Lib.hid hB
  clear hC hB
  obtain ⟨W1, cap1, hcv, hR1, HC1, HB1, hg1⟩ : ∃ W1 cap1, Sem.run Tryd.prog (convert 9 22 (.string s)) w = .ok (.slice (some ⟨w.heap.size, 0, none⟩) s.size cap1) W1 ∧ Rw W1 w.heap.size (.slice (some ⟨w.heap.size, 0, none⟩) s.size cap1) s.size ∧ Hid (Cur W1 p v n) ∧ Hid (Bytes W1 p v n) ∧ w.grownBy W1 (some p) :=
    ⟨_, _, run_bytes_of_string (P := Tryd.prog) w 9 22 5 s Tryd.underlying9 Tryd.underlying22 Tryd.underlying5, rw_made w s hs, Cur.alloc (w := w.drew) HC.out _, HB.out.kept ((grown_draws w 1 _).trans (World.grownBy_alloc _ _ _)), (grown_draws w 1 _).trans (World.grownBy_alloc _ _ _)⟩
  have HB0 := HB
  clear HC HB
  go_enter Tryd.func63, Tryd.ntmps63
  go_wp2_with fail
  refine (l1Below_any p v n 3 (by omega) (by omega) _ HC1.out HB1.out).mono ?_
  rintro e w2 ⟨y, rfl, hy0, hy1, hC2, hg2⟩
  have HC2 := Lib.hid hC2
  have HB2 := Lib.hid (HB1.out.kept hg2)
  clear hC2
  obtain ⟨j0, rfl⟩ := Int.eq_ofNat_of_zero_le hy0
  have hR2 := hR1.kept hg2 hp
  have hgw2 := hg1.trans hg2
  clear hR1 hcv
  go_wp2_with fail
  go_loopw [7, 8] (fun b x wx => Bent w p v n s.size b x wx) (fun _ x _ => (intOf x).toNat)
  case atStart => exact ⟨s.size, j0, rfl, hR2, by omega, HC2.out, HB2.out, hgw2⟩
  case round =>
    obtain ⟨m, j, rfl, hR, hmj, hC, hB, hgw⟩ := hrel
    have HC := Lib.hid hC
    have HB := Lib.hid hB
    obtain ⟨g, cap, rfl, hnc, hcm, hbg, hgl, hcells⟩ := hR
    have Hcells := Lib.hid hcells
    clear hC hB hcells
    unfold maxLen at hcm
    by_cases hj : 0 < j
    · by_cases hm : 0 < m
      · have hj' : (0 : Int) < (j : Int) := by omega
        have hm' : (0 : Int) < (m : Int) := by omega
        have hwp := hgw.size
        go_wp2_with fail
        refine (l1Below_any p v n (m : Int) (by omega) (by omega) _ HC.out HB.out).mono ?_
        rintro e w3 ⟨y, rfl, hy0, hy1, hC3, hg3⟩
        have HC3 := Lib.hid hC3
        have HB3 := Lib.hid (HB.out.kept hg3)
        clear hC3
        obtain ⟨k, rfl⟩ := Int.eq_ofNat_of_zero_le hy0
        have hgw3 := hgw.trans hg3
        have hR3 : Rw w3 w.heap.size (.slice (some ⟨g, 0, none⟩) m cap) m := Rw.kept ⟨g, cap, rfl, hnc, hcm, hbg, hgl, Hcells.out⟩ hg3 hp
        go_wp2_with fail
        refine (l1Below_any p v n 4 (by omega) (by omega) _ HC3.out HB3.out).mono ?_
        rintro e w4 ⟨r, rfl, hr0, hr1, hC4, hg4⟩
        have HC4 := Lib.hid hC4
        have HB4 := Lib.hid (HB3.out.kept hg4)
        clear hC4
        have hgw4 := hgw3.trans hg4
        have hR4 := hR3.kept hg4 hp
        have hkm : k < m := by omega
        have hk0 : (0 : Int) ≤ (k : Int) := by omega
        have hk1 : (k : Int) < (m : Int) := by omega
        clear hR3 Hcells
        obtain rfl | rfl | rfl | rfl : r = 0 ∨ r = 1 ∨ r = 2 ∨ r = 3 := by omega
        · -- a byte is set
          go_wp2_with fail
          refine (l1Below_any p v n 4 (by omega) (by omega) _ HC4.out HB4.out).mono ?_
          rintro e w5 ⟨q, rfl, hq0, hq1, hC5, hg5⟩
          have HC5 := Lib.hid hC5
          have HB5 := Lib.hid (HB4.out.kept hg5)
          clear hC5
          obtain ⟨q, rfl⟩ := Int.eq_ofNat_of_zero_le hq0
          have hq2 : (q : Int) < (sg.size : Int) := by omega
          have hgw5 := hgw4.trans hg5
          have hR5 := hR4.kept hg5 hp
          obtain ⟨z, z0, z1, hz, hf⟩ : ∃ z : Int, 0 ≤ z ∧ z ≤ 255 ∧ w5.cell? ⟨g, k, none⟩ = some (.int .u8 z) ∧ w5.frozen? ⟨g, k, none⟩ = false := by
            obtain ⟨g', cap', hv, q1, q2, q3, q4, q5⟩ := hR5
            cases hv
            obtain ⟨⟨z, z0, z1, hz⟩, hf⟩ := q5 k hkm
            exact ⟨z, z0, z1, hz, hf⟩
          go_wp2_with fail
          have hgf : w.grownBy (w5.setCell ⟨g, k, none⟩ (.int .u8 (sg[q].toNat : Int))) (some p) := grown_new hgw5 _ _ hbg
          exact ⟨⟨m, j - 1, by congr 1; omega, hR5.store k _ (by omega) (by have := sg[q].toNat_lt; omega), by omega, HC5.out.setCell _ _ (by simp; omega), HB0.out.kept hgf, hgf⟩, by simp [intOf]; omega⟩
        · -- cut off
          go_wp2_with fail
          exact ⟨⟨k, j - 1, by congr 1; omega, hR4.shrink k (by omega), by omega, HC4.out, HB4.out, hgw4⟩, by simp [intOf]; omega⟩
        · -- one byte left out
          have HF : Fit w4 p v n w4 := ⟨HC4.out, World.grownBy.refl _ _⟩
          have hw1 : IntKind.i64.wrap ((k : Int) + 1) = (k : Int) + 1 := by rw [IntKind.wrap_i64]; omega
          have hk2 : (0 : Int) ≤ (k : Int) + 1 := by omega
          have hk3 : (k : Int) + 1 ≤ (m : Int) := by omega
          have hmc : (m : Int) ≤ (cap : Int) := by omega
          have hkc : (k : Int) ≤ (cap : Int) := by omega
          have hp4 := HC4.out.lt
          have hp4' : p < w4.heap.size := hp4
          have hB4 := hgw4.size
          have HFa : Fit w4 p v n (w4.alloc (.cells #[] 5)).drew := (HF.alloc _).drew
          have HOa : Ow (w4.alloc (.cells #[] 5)).drew w4.heap.size (.slice (some ⟨w4.heap.size, 0, none⟩) 0 0) 0 := (ow_new w4 _ (Nat.le_refl _)).drew
          have hsa : w4.heap.size ≤ (w4.alloc (.cells #[] 5)).drew.heap.size := HFa.g.size
          obtain ⟨ad, hif, hsrc⟩ : ∃ ad : Addr, (if cap = k + 1 then some (⟨g, 0, none⟩ : Addr) else some ⟨g, k + 1, none⟩) = some ad ∧ Hid (∀ W, Fit w4 p v n W → ∀ j, j < m - (k + 1) → ∃ z : Int, 0 ≤ z ∧ z ≤ 255 ∧ W.cell? (ad.add j) = some (.int .u8 z)) := by
            by_cases hck : cap = k + 1
            · exact ⟨⟨g, 0, none⟩, if_pos hck, fun W _ j hj => absurd hj (by omega)⟩
            · exact ⟨⟨g, k + 1, none⟩, if_neg hck, fun W hW => Fit.src hW hR4 hp (k + 1) (m - (k + 1)) (by omega)⟩
          go_wp2_with fail
          go_region_held3 (fun w' => Fit w4 p v n w')
            ((first | (with_reducible assumption) | exact Fit.drew HF | exact HFa | fail))
            ((first
              | (refine step_app (by rfl) _ _ (by rfl) (by rfl) _ w4.heap.size _ _ (by rfl) HOa ⟨g, 0, none⟩ k _ (by rfl) (Fit.src HFa hR4 hp 0 k (by omega)) (by omega) hsa ?_
                 intro v1 x1 ho1 hg1 hb1
                 have hf1 := Fit.row (h := HFa) (ho := HOa) (hp := hp4') (hg := hg1)
                 have hs1 := hf1.g.size)
              | (refine step_app (by rfl) _ _ (by rfl) (by rfl) _ w4.heap.size v1 _ (by rfl) ho1 ad (m - (k + 1)) _ (by rfl) (hsrc.out _ hf1) (by omega) hs1 ?_
                 intro v2 x2 ho2 hg2 hb2
                 have hf2 := Fit.row (h := hf1) (ho := ho1) (hp := hp4') (hg := hg2))))
          go_wp2_with fail
          exact ⟨⟨_, j - 1, by congr 1; omega, ho2.rw.base hB4, by omega, hf2.c, HB0.out.kept (hgw4.trans hf2.g), hgw4.trans hf2.g⟩, by simp [intOf]; omega⟩
        · -- one byte put in
          have HF : Fit w4 p v n w4 := ⟨HC4.out, World.grownBy.refl _ _⟩
          have hmc : (m : Int) ≤ (cap : Int) := by omega
          have hkm' : (k : Int) ≤ (m : Int) := by omega
          have hkc : (k : Int) ≤ (cap : Int) := by omega
          have hck : ¬ cap = k := by omega
          have hp4' : p < w4.heap.size := HC4.out.lt
          have hB4 := hgw4.size
          have HFa : Fit w4 p v n (w4.alloc (.cells #[] 5)).drew := (HF.alloc _).drew
          have HOa : Ow (w4.alloc (.cells #[] 5)).drew w4.heap.size (.slice (some ⟨w4.heap.size, 0, none⟩) 0 0) 0 := (ow_new w4 _ (Nat.le_refl _)).drew
          have hsa : w4.heap.size + 1 ≤ (w4.alloc (.cells #[] 5)).drew.heap.size := Nat.le_of_eq (World.size_alloc w4 _).symm
          go_wp2_with fail
          go_region_held3 (fun w' => Fit w4 p v n w')
            ((first | (with_reducible assumption) | (with_reducible refine Fit.alloc ?_ _; with_reducible assumption) | exact Fit.drew HF | exact HFa | fail))
            ((first
              | (refine step_app (by rfl) _ _ (by rfl) (by rfl) _ w4.heap.size v2 _ (by rfl) ho2 ⟨g, k, none⟩ (m - k) _ (by rfl) (Fit.src hf2 hR4 hp k (m - k) (by omega)) (by omega) hf2.sz ?_
                 intro v3 x3 ho3 hg3' hb3
                 have hf3 := Fit.row (h := hf2) (ho := ho2) (hp := hp4') (hg := hg3'))
              | (refine step_app (by rfl) _ _ (by rfl) (by rfl) _ w4.heap.size v1 _ (by rfl) (by first | (with_reducible exact ho1) | (with_reducible exact ho1.alloc _) | (with_reducible exact HO6.alloc _)) _ 1 _ (by rfl) (src_one (u := (sg[q].toNat : Int)) (by omega) (by have := sg[q].toNat_lt; omega) (by first | (with_reducible exact hz1) | (simp [go_sem]; done))) (by omega) (Fit.sz (p := p) (v := v) (n := n) (by assumption)) ?_
                 intro v2 x2 ho2 hg2' hb2
                 have hf2 := Fit.row (w4 := w4) (p := p) (v := v) (n := n) (h := by assumption) (ho := by first | (with_reducible exact ho1) | (with_reducible exact ho1.alloc _) | (with_reducible exact HO6.alloc _)) (hp := hp4') (hg := hg2'))
              | (refine step_app (by rfl) _ _ (by rfl) (by rfl) _ w4.heap.size _ 0 (by rfl) (by first | exact HOa | (with_reducible exact HO5) | (with_reducible exact HO5.alloc _) | (with_reducible exact ow_new w5 _ hs5) | (with_reducible exact (ow_new w5 _ hs5).alloc _) | (have := ow_new (w5.alloc (.cells #[.int .u8 (sg[q].toNat : Int)] 5)) w4.heap.size (by simp; omega); simpa using this)) ⟨g, 0, none⟩ k _ (by rfl) (Fit.src (w4 := w4) (p := p) (v := v) (n := n) (by assumption) hR4 hp 0 k (by omega)) (by omega) (Fit.sz (p := p) (v := v) (n := n) (by assumption)) ?_
                 intro v1 x1 ho1 hg1' hb1
                 have hf1 := Fit.row (w4 := w4) (p := p) (v := v) (n := n) (h := by assumption) (ho := by first | exact HOa | (with_reducible exact HO5) | (with_reducible exact HO5.alloc _) | (with_reducible exact ow_new w5 _ hs5) | (with_reducible exact (ow_new w5 _ hs5).alloc _) | (have := ow_new (w5.alloc (.cells #[.int .u8 (sg[q].toNat : Int)] 5)) w4.heap.size (by simp; omega); simpa using this)) (hp := hp4') (hg := hg1')
                 try have hz1 : x1.cell? ⟨w5.heap.size, 0, none⟩ = some (.int .u8 (sg[q].toNat : Int)) := hg1'.cell (by simp [go_sem]) (by simp [Value.ownBlock]; omega)
                 try have hz1 : x1.cell? ⟨w5.heap.size + 1, 0, none⟩ = some (.int .u8 (sg[q].toNat : Int)) := hg1'.cell (by simp [go_sem]) (by simp [Value.ownBlock]))
              | (go_at_call 91
                 refine (l1Below_any p v n 4 (by omega) (by omega) _ (Fit.c (w4 := w4) (by assumption)) (HB4.out.kept (Fit.g (w4 := w4) (p := p) (v := v) (n := n) (by assumption)))).mono ?_
                 rintro e w5 ⟨q, rfl, hq0, hq1, hC5, hg5⟩
                 obtain ⟨q, rfl⟩ := Int.eq_ofNat_of_zero_le hq0
                 have hq2 : (q : Int) < (sg.size : Int) := by omega
                 have hq3 : q < sg.size := by omega
                 have hf5 := Fit.call (w4 := w4) (p := p) (v := v) (n := n) (by assumption) hC5 hg5
                 have hs5 := hf5.sz
                 try have HO5 := Ow.kept HOa hg5 hp4'
                 try have HO6 := Ow.kept ho1 hg5 hp4'
                 try have hs6 := Nat.le_trans hsa hg5.size
                 clear hC5 hg5)))
          all_goals
            go_wp2_with fail
            exact ⟨⟨_, j - 1, by congr 1; omega, ho3.rw.base hB4, by omega, hf3.c, HB0.out.kept (hgw4.trans hf3.g), hgw4.trans hf3.g⟩, by simp [intOf]; omega⟩
      · obtain rfl : m = 0 := by omega
        have hj' : (0 : Int) < (j : Int) := by omega
        obtain ⟨t, ht, hts⟩ := rw_back (cap := cap) Hcells.out
        go_wp2_with fail
        go_ret
        exact ⟨t, rfl, by omega, HC.out, hgw⟩
    · obtain rfl : j = 0 := by omega
      obtain ⟨t, ht, hts⟩ := rw_back (cap := cap) Hcells.out
      go_wp2_with fail
      go_ret
      exact ⟨t, rfl, by omega, HC.out, hgw⟩

end D
end Go.Proofs.YtcfniecdjbgknaaDoor
