/-
  The words of a sum, one after the other, each with how deep it stands: the program's iterator, whatever is done with them.
-/
import Derived.Test.YtgcjmhecnbhhlaaGreatDoorR1
import Derived.Test.YtgcjmhecnbhhlaaGreatDoorRF
namespace Go.Proofs.YtgcjmhecnbhhlaaGreatDoor
open Go.RowKit Go.Shelf
namespace L2
open S1 L1 RF
attribute [local go_sem] Oper.semAt_some

/-- Nothing turns but what X names. -/
structure Keep (X : Nat → Prop) (A B : World) : Prop where
  os : B.os = A.os
  tape : B.tape = A.tape
  output : B.output = A.output
  size : A.heap.size ≤ B.heap.size
  block : ∀ b, b < A.heap.size → ¬ X b → B.heap[b]? = A.heap[b]?
theorem Keep.trans {X : Nat → Prop} {A B C : World} (h : Keep X A B) (k : Keep X B C) : Keep X A C :=
  ⟨k.os.trans h.os, k.tape.trans h.tape, k.output.trans h.output, Nat.le_trans h.size k.size, fun b hb hx => (k.block b (Nat.lt_of_lt_of_le hb h.size) hx).trans (h.block b hb hx)⟩
theorem Keep.below {X : Nat → Prop} {A B : World} {n : Nat} (h : Keep X A B) (hn : n ≤ A.heap.size) (hX : ∀ b, X b → n ≤ b) : Below n A B :=
  ⟨h.os, h.tape, h.output, h.size, fun b hb => h.block b (by omega) (fun x => by have := hX b x; omega)⟩
theorem keep_put {X : Nat → Prop} {A : World} {b : Nat} (o : Obj) (hx : X b) : Keep X A (A.putObj b o) :=
  ⟨rfl, rfl, rfl, by simp, fun c _ hc => World.putObj_heap_other (by rintro rfl; exact hc hx)⟩
theorem keep_set {X : Nat → Prop} {A : World} {a : Addr} (v : Value) (hx : X a.block) : Keep X A (A.setCell a v) :=
  ⟨rfl, rfl, rfl, by simp [World.setCell], fun c _ hc => Below.heap_setCell _ _ _ _ (by rintro rfl; exact hc hx)⟩
theorem keep_of_below {X : Nat → Prop} {A B : World} (h : Below A.heap.size A B) : Keep X A B := ⟨h.os, h.tape, h.output, h.size, fun b hb _ => h.block b hb⟩
theorem Keep.refl {X : Nat → Prop} (A : World) : Keep X A A := ⟨rfl, rfl, rfl, Nat.le_refl _, fun _ _ _ => rfl⟩

theorem Keep.cell {X : Nat → Prop} {A B : World} (h : Keep X A B) {b o : Nat} (hb : b < A.heap.size) (hx : ¬ X b) : B.cell? ⟨b, o, none⟩ = A.cell? ⟨b, o, none⟩ := World.cell?_of_block (a := ⟨b, o, none⟩) (h.block b hb hx)
theorem OwI.keep {X : Nat → Prop} {A B : World} {B0 : Nat} {v : Value} {xs : List Nat} (h : OwI A B0 v xs) (hk : Keep X A B) (hX : ∀ b, X b → b < B0) : OwI B B0 v xs := by
  obtain ⟨⟨h1, h2⟩, h3⟩ := h
  refine ⟨⟨h1, ?_⟩, h3⟩
  rcases h2 with h2 | ⟨g, cap, cur, hv, hb, hg, rest⟩
  · exact Or.inl h2
  · refine Or.inr ⟨g, cap, cur, hv, hb, ?_, rest⟩
    rw [hk.block g (Array.getElem?_eq_some_iff.1 hg).1 (fun hx => by have := hX g hx; omega)]
    exact hg

theorem new_cell (W : World) (v : Value) (t : TypeId) : (W.alloc (.cells #[v] t)).cell? ⟨W.heap.size, 0, none⟩ = some v := by
  have h := heap_alloc_new W (.cells #[v] t)
  simp only [World.cell?, h]
  rfl

/-- A word, and how deep it stands. -/
abbrev WL := ByteArray × Nat
def encW (x : WL) : Array Value := #[.string x.1, .int .i64 (x.2 : Int)]
def cntW (xs : List WL) (x : List UInt8) : Nat := (xs.filter fun y => y.1.toList == x).length
theorem cntW_snoc (xs : List WL) (y : WL) (x : List UInt8) : cntW (xs ++ [y]) x = cntW xs x + if y.1.toList == x then 1 else 0 := by
  unfold cntW
  rw [List.filter_append, List.length_append]
  congr 1
  by_cases h : y.1.toList == x <;> simp [List.filter, h]
/-- What has come when all has come. -/
structure AllW (ss : List ByteArray) (xs : List WL) : Prop where
  cnt : ∀ x, cntW xs x = wordsN (wsOf ss) x
  deep : maxL (xs.map (·.2)) = deepN (wsOf ss)
/-- What has come at place j of a right sum. -/
structure Went (ss : List ByteArray) (m : List Nat) (j : Nat) (xs : List WL) : Prop where
  way : Way (wsOf ss) m j
  tall : m.length ≤ j + 1
  few : xs.length ≤ j
  cnt : ∀ x, cntW xs x = wcnt (wsOf ss) x j
  deep : max (maxL (xs.map (·.2))) (left (wsOf ss) m j) = deepN (wsOf ss)
theorem went_start {ss : List ByteArray} (h : okSum (wsOf ss) = true) : Went ss [1] 0 [] :=
  ⟨way_start h, by simp, by simp, fun x => rfl, by rw [left_start h]; simp [maxL]⟩
theorem Went.skip {ss : List ByteArray} {m : List Nat} {j : Nat} {xs : List WL} (h : Went ss m j xs) (hs : stB (wsOf ss) j = false) : Went ss m (j + 1) xs :=
  ⟨(h.way.skip hs).1, by have := h.tall; omega, by have := h.few; omega, fun x => by rw [wcnt, hs, h.cnt x]; simp, by rw [← left_skip h.way hs]; exact h.deep⟩
theorem Went.step {ss : List ByteArray} {m r : List Nat} {j k : Nat} {xs : List WL} (h : Went ss m j xs) (hs : stB (wsOf ss) j = true) (hj : j < ss.length) (hp : pop0 m = (k + 1) :: r) (hm : m.sum = k + 1 + r.sum) (hr : r.length < m.length) :
    Went ss (kids (wsOf ss) j :: k :: r) (j + 1) (xs ++ [(ss.getD j ByteArray.empty, r.length + 1)]) := by
  have hl := ws_len ss
  refine ⟨h.way.step hs (by omega) hm, by have := h.tall; simp; omega, by have := h.few; simp; omega, fun x => ?_, ?_⟩
  · rw [cntW_snoc, wcnt, h.cnt x, hs, ws_getD hj]
    simp
  · have h1 := h.deep
    have h2 := left_step h.way hs hp hm
    rw [List.map_append, List.map_cons, List.map_nil, maxL_snoc]
    omega
theorem Went.done {ss : List ByteArray} {m : List Nat} {xs : List WL} (ho : okSum (wsOf ss) = true) (h : Went ss m ss.length xs) : AllW ss xs := by
  have hl := ws_len ss
  obtain ⟨h1, _, _, h4, h5⟩ := h
  rw [← hl] at h1 h4 h5
  refine ⟨fun x => by rw [h4 x]; unfold wordsN; rw [ho]; rfl, ?_⟩
  rw [left_end h1] at h5
  simpa using h5
theorem all_none {ss : List ByteArray} (ho : okSum (wsOf ss) = false) : AllW ss [] :=
  ⟨fun x => by unfold wordsN; rw [ho]; rfl, by unfold deepN; rw [ho]; rfl⟩

/-- A call's contract, met on the way. -/
theorem into {n : Nat} {P : Program} {f : FuncId} {args : Array Value} {w : World} {R' R : Ending → World → Prop} (h : Calls P f args w R') (hm : ∀ e w', R' e w' → R e w') :
    Fence.wide.fn f ∧ (Fence.wide.depth.isSome = true → 1 ≤ n) ∧ CallsIn Fence.wide (n - 1) P f args w R :=
  ⟨trivial, (fun h => (by cases h)), (callsIn_wide.2 h).mono hm⟩
/-- 'append', where the run of it is known: a step of the walk. -/
theorem wp_appIn {F : Fence} {n : Nat} {T : TypeId} {ops : Array Oper} {rest : List Oper} {o : Oper} {a : Act} {w : World} {Q : Exit → Act → World → Prop} (hgd : o.guard = none) (s x : Operand)
    (ho : o.op = .call { callee := .builtin .append, args := #[s, x], argTypes := #[T, T] }) (hty : o.type = T) (v u : Value) (hs : a.eval s = v) (hx : a.eval x = u)
    {v' : Value} {w' : World} (hr : (Builtin.append_ #[T, T] T #[v, u]).run Tryz.prog w = .ok v' w') (h : wpListIn F n Tryz.prog ops Q rest (a.put o.dst v') w') : wpListIn F n Tryz.prog ops Q (o :: rest) a w := by
  refine wpListIn_plain hgd fun K hK => ?_
  unfold Oper.wpIn
  refine ⟨?_, ?_⟩
  · simp [Oper.about, ho, resolve, Target.leads, Sem.run_pure]
  · rw [Oper.semAt_plain F _ _ (by rw [ho]; intro c hc'; cases hc')]
    unfold execOp
    simp only [ho, hty, resolve, invoke, builtin, Sem.run_bind, Sem.run_pure, Result.andThen_ok, List.map_toArray, List.map_cons, List.map_nil, hs, hx, hr]
    exact hK _ _ h
theorem owI_one (w : World) (B k : Nat) (hB : B ≤ w.heap.size) : OwI (w.alloc (.cells #[.int .i64 (k : Int)] 2)) B (.slice (some ⟨w.heap.size, 0, none⟩) 1 1) [k] := by
  refine ⟨?_, by simp⟩
  have h := World.ownsRow_lit (base := B) (e := 2) (size := 1) w #[.int .i64 (k : Int)] 1 hB (by unfold maxLen; omega) (by simp)
  simpa [numV] using h

set_option maxRecDepth 100000 in
set_option maxHeartbeats 4000000 in
theorem sums_seq (ss : List ByteArray) (v : Value) (w W0 : World) (lb n : Nat) (X : Nat → Prop) (hR : Row w v ss) (hS : Small ss) (hV : Vars w) (hB : Below w.heap.size w W0)
    (hlt : lb < W0.heap.size) (hbox : W0.cell? ⟨lb, 0, none⟩ = some v) (hX : ∀ b, X b → w.heap.size ≤ b ∧ b < W0.heap.size ∧ b ≠ lb) :
    SeqOf Fence.wide n Tryz.prog 44 #[.pointer (some ⟨lb, 0, none⟩)] encW (Below W0.heap.size) (Keep X) (AllW ss) (fun _ => True) 60 W0 := by
  intro l J Jx hJ hJx hY h0
  have HJ := Lib.hid hJ
  have HY := Lib.hid hY
  have H0 := Lib.hid h0
  have HB := Lib.hid hB
  have HR := Lib.hid hR
  have HV := Lib.hid hV
  have HX := Lib.hid hX
  have HS := Lib.hid hS
  have hs1 := hS.1
  have hok := implSumOk_any v ss W0 (hR.below hB) hS (hV.later hB)
  obtain ⟨oa, cap, rfl, hr1, hr2, hr3⟩ := hR
  clear hJ hJx hY h0 hB hV hX hS
  cases ho : okSum (wsOf ss)
  · rw [ho] at hok
    have Hok := Lib.hid hok
    have HO := Lib.hid ho
    clear hok ho hr3
    refine callsIn_of_wp Tryz.func44 rfl trivial ?_ rfl; simp only [Tryz.ntmps44, List.size_toArray, List.length_cons, List.length_nil, Nat.reduceAdd, Nat.reduceSub, Array.replicate_succ, Array.replicate_zero, List.push_toArray, List.append_toArray, List.nil_append, List.cons_append]
    gi_wp2_with fail
    refine into Hok.out ?_
    rintro e w1 ⟨rfl, hb1⟩
    gi_wp2_with fail
    refine bodyPost_ret (results_none rfl _ _ _) rfl ?_
    exact ⟨⟨_, rfl⟩, Or.inl ⟨[], all_none HO.out, HJ.out _ _ _ H0.out hb1⟩⟩
  · rw [ho] at hok
    have h60 := (ok_head ho).1
    rw [ws_len] at h60
    have Hok := Lib.hid hok
    have HO := Lib.hid ho
    have H3 := Lib.hid hr3
    obtain ⟨len, hlen⟩ : ∃ len, ss.length = len := ⟨_, rfl⟩
    have HL := Lib.hid hlen
    rw [hlen] at hr1 h60 hs1 hbox HR H3 Hok
    unfold maxLen at hr2
    clear hok ho hr3 hlen
    refine callsIn_of_wp Tryz.func44 rfl trivial ?_ rfl; simp only [Tryz.ntmps44, List.size_toArray, List.length_cons, List.length_nil, Nat.reduceAdd, Nat.reduceSub, Array.replicate_succ, Array.replicate_zero, List.push_toArray, List.append_toArray, List.nil_append, List.cons_append]
    gi_wp2_with fail
    refine into Hok.out ?_
    rintro e w1 ⟨rfl, hb1⟩
    have c1 := (hb1.cell (p := ⟨lb, 0, none⟩) hlt).trans hbox
    have hs01 := hb1.size
    have H1 := Lib.hid (HJ.out _ _ _ H0.out (hb1.alloc (o := .cells #[.int .i64 1] 2) hb1.size))
    have HB1 := Lib.hid (HB.out.trans ((hb1.alloc (o := .cells #[.int .i64 1] 2) hb1.size).mono HB.out.size))
    have HO1 := Lib.hid (owI_one w1 W0.heap.size 1 hs01)
    have c2 := ((Below.refl w1.heap.size w1).alloc (Nat.le_refl _) (.cells #[.int .i64 1] 2)).cell (p := ⟨lb, 0, none⟩) (Nat.lt_of_lt_of_le hlt hs01) |>.trans c1
    clear hb1
    gi_wp2_with fail
    gi_loopw [3, 12] (fun mv iv wr => ∃ (j g cp : Nat) (m : List Nat) (pre : List WL), j ≤ len ∧ iv = .int .i64 (j : Int) ∧ mv = .slice (some ⟨g, 0, none⟩) m.length cp ∧ W0.heap.size ≤ g ∧ g < wr.heap.size ∧
        OwI wr W0.heap.size (.slice (some ⟨g, 0, none⟩) m.length cp) m.reverse ∧ Went ss m j pre ∧ J pre wr ∧ Below w.heap.size w wr ∧ W0.heap.size ≤ wr.heap.size ∧ wr.cell? ⟨lb, 0, none⟩ = some (.slice oa len cap)) (fun _ iv _ => len - (intOf iv).toNat)
    case atStart => exact ⟨0, _, 1, [1], [], Nat.zero_le _, rfl, rfl, hs01, by simp, HO1.out, went_start HO.out, H1.out, HB1.out, by simp; omega, c2⟩
    case round =>
      obtain ⟨j, g, cp, m, pre, hj, rfl, rfl, hg, hglt, hO, hW, hJ, hB, hsz, hbx⟩ := hrel
      have HO2 := Lib.hid hO
      have HW := Lib.hid hW
      have HJ2 := Lib.hid hJ
      have HB2 := Lib.hid hB
      by_cases hlt2 : j < len
      · obtain ⟨Xb, off, rfl, hXb, hc⟩ := H3.out j hlt2
        have hcw := (hB.cell (p := ⟨Xb, off + j, none⟩) hXb).trans hc
        have hzs := HS.out.2 j (by rw [HL.out]; exact hlt2)
        have hbs := beginsSum_any _ ss j wr (HR.out.below hB) (by rw [HL.out]; exact hlt2) (by rw [HL.out]; exact hs1)
        have hbeg : begB ss j = stB (wsOf ss) j := rfl
        rw [hbeg] at hbs
        have hki : (j : Int) < (len : Int) := by omega
        have hj0 : (0 : Int) ≤ (j : Int) := by omega
        clear hbeg hc hO hJ hB
        cases hq : stB (wsOf ss) j
        · rw [hq] at hbs
          have HBS := Lib.hid hbs
          have HQ := Lib.hid hq
          obtain ⟨s, hs⟩ : ∃ s, ss.getD j ByteArray.empty = s := ⟨_, rfl⟩
          rw [hs] at hcw hzs
          clear hbs hq hs hW
          gi_wp2_with fail
          refine into HBS.out ?_
          rintro e w2 ⟨rfl, rfl⟩
          gi_wp2_with fail
          go_roundw
          case rel => exact ⟨j + 1, g, cp, m, pre, by omega, by go_num, rfl, hg, hglt, HO2.out, HW.out.skip HQ.out, HJ2.out, HB2.out, hsz, hbx⟩
          case measure => simp [intOf]; omega
        · rw [hq] at hbs
          have hpos := hW.way.pos hq (by rw [ws_len, HL.out]; exact hlt2)
          obtain ⟨k, r, hp, hm, hrl⟩ := pop0_some m hpos
          have hml : m.length ≤ 1000 := by have := hW.tall; omega
          have hk60 : k ≤ 60 := by
            have h1 := hW.way.few hq
            rw [ws_len, HL.out] at h1
            omega
          have hwf := withoutFull_any W0.heap.size g cp m wr HO2.out hpos hml
          have hPO := HO2.out.popped hp
          rw [hp] at hwf
          have hSO := hPO.store k
          obtain ⟨_, hle1, hle2⟩ := hPO.len
          obtain ⟨g', cp', hv', -, -, -, -, hcs⟩ := hPO.form
          have hgg : g = g' := by
            injection hv' with h1 _ _
            injection h1 with h1
            injection h1
          subst hgg
          obtain ⟨hck, hfk⟩ := hcs r.length (by simp)
          have hgk : (r.reverse ++ [k + 1]).getD r.length 0 = k + 1 := by simp [List.getD]
          rw [hgk] at hck
          have hkl := kids_needs hW.way hq (by rw [ws_len, HL.out]; exact hlt2)
          rw [ws_getD (by rw [HL.out]; exact hlt2)] at hkl
          have hWs := hW.step hq (by rw [HL.out]; exact hlt2) hp hm hrl
          obtain ⟨s, hs⟩ : ∃ s, ss.getD j ByteArray.empty = s := ⟨_, rfl⟩
          obtain ⟨kd, hkd⟩ : ∃ kd, kids (wsOf ss) j = kd := ⟨_, rfl⟩
          have hkd3 : kd ≤ 3 := by rw [← hkd]; exact kids_le _ _
          rw [hs] at hcw hzs hkl hWs
          rw [hkd] at hkl hWs
          rw [List.length_reverse] at hSO
          obtain ⟨d, hd⟩ : ∃ d, r.length = d := ⟨_, rfl⟩
          have hrd : (k :: r).length = d + 1 := by simp [hd]
          have hrv : (k :: r).reverse = r.reverse ++ [k] := by simp
          have hd60 : d ≤ 1000 := by omega
          rw [List.length_cons] at hwf
          rw [hd] at hck hfk hSO hWs hle1 hwf
          have hfew : pre.length < 60 := by have := hW.few; omega
          have hJ' := HJ.out pre wr (wr.setCell ⟨g, d, none⟩ (.int .i64 (k : Int))) HJ2.out ((Below.refl _ wr).setCell hg _)
          have hB' : Below w.heap.size w (wr.setCell ⟨g, d, none⟩ (.int .i64 (k : Int))) := HB2.out.setCell (p := ⟨g, d, none⟩) (Nat.le_trans HB.out.size hg) _
          obtain ⟨fn, tmps, assign, body, hy, hRd⟩ := HY.out pre (s, d + 1) _ hJ' hfew
          have hcast : ((d + 1 : Nat) : Int) = (d : Int) + 1 := by omega
          simp only [encW] at hy
          rw [hcast] at hy
          have hw1 : IntKind.i64.wrap ((d : Int) + 1 - 1) = (d : Int) := by rw [IntKind.wrap_i64]; omega
          have hw2 : IntKind.i64.wrap (((d + 1 : Nat) : Int) - 1) = (d : Int) := by rw [IntKind.wrap_i64]; omega
          have HBS := Lib.hid hbs
          have HWF := Lib.hid hwf
          have HQ := Lib.hid hq
          have HSO := Lib.hid hSO
          have HWS := Lib.hid hWs
          have HKL := Lib.hid hkl
          have HB3 := Lib.hid hB'
          have HRD := Lib.hid hRd
          have HRV := Lib.hid hrv
          have HRL := Lib.hid hrd
          have HD := Lib.hid hd
          clear hbs hwf hq hSO hWs hkl hB' hRd hrv hrd hW hp hm hrl hPO hcs hv' hgk hs hkd hJ' hpos hcast hd
          gi_wp2_with fail
          refine into HBS.out ?_
          rintro e w2 ⟨rfl, rfl⟩
          gi_wp2_with fail
          refine into HWF.out ?_
          rintro e w2 ⟨rfl, rfl⟩
          dsimp only
          gi_wp2_with fail
          refine ⟨fun h => (by cases h), HRD.out.mono ?_⟩
          rintro e W' (⟨rfl, hJ3, hkp⟩ | ⟨rfl, hJx3⟩)
          · have hXs : ∀ b, X b → w.heap.size ≤ b := fun b hb => (HX.out b hb).1
            have hszp : W0.heap.size ≤ (wr.setCell ⟨g, d, none⟩ (.int .i64 (k : Int))).heap.size := by simpa [World.setCell] using hsz
            have hsz3 := Nat.le_trans hszp hkp.size
            have hB4 := HB3.out.trans (hkp.below (Nat.le_trans HB.out.size hszp) hXs)
            have hcall := implNeeds_any s (by omega) W' (HV.out.later hB4)
            rw [HKL.out] at hcall
            have hO3 := HSO.out.keep hkp (fun b hb => (HX.out b hb).2.1)
            have hlg : lb ≠ g := by omega
            have hbx3 : W'.cell? ⟨lb, 0, none⟩ = some (.slice (some ⟨Xb, off, none⟩) len cap) :=
              ((hkp.cell (Nat.lt_of_lt_of_le hlt hszp) (fun hx => (HX.out lb hx).2.2 rfl)).trans (World.cell?_setCell_other _ _ _ _ (by intro h; injection h with h _; exact hlg h.symm))).trans hbx
            have HC := Lib.hid hcall
            have HO3 := Lib.hid hO3
            have HJ3 := Lib.hid hJ3
            have HB4 := Lib.hid hB4
            clear hcall hO3 hJ3 hB4 hkp hck hfk hcw hbx hglt hy
            gi_wp2_with fail
            refine into HC.out ?_
            rintro e w3 ⟨rfl, hb3⟩
            have hsz4 := Nat.le_trans hsz3 hb3.size
            have hA := hb3.alloc (o := .cells #[.int .i64 (kd : Int)] 2) hb3.size
            obtain ⟨v', w4, hrun, hO4, hg4⟩ := run_app1 (w3.alloc (.cells #[.int .i64 (kd : Int)] 2)) W0.heap.size _ _ ((HO3.out.below hb3).alloc _) w3.heap.size kd (new_cell _ _ _) (by have := HD.out; simp; omega) (by simp; omega)
            have hrow : ∀ q, (Value.slice (some ⟨g, 0, none⟩) (d + 1) cp).ownBlock = some q → W0.heap.size ≤ q := fun q e => by
              simp only [Value.ownBlock] at e
              injection e with e
              omega
            have hB5 := (hA.mono hsz3).grown hg4 (by simp; omega) hrow
            have hJ5 := HJ.out _ _ _ HJ3.out hB5
            have hB6 := HB4.out.trans (hB5.mono HB.out.size)
            have hb5 : w4.cell? ⟨lb, 0, none⟩ = some (.slice (some ⟨Xb, off, none⟩) len cap) := (hB5.cell (p := ⟨lb, 0, none⟩) hlt).trans hbx3
            have hre : r.reverse ++ [k] ++ [kd] = (kd :: k :: r).reverse := by simp
            rw [hre] at hO4
            obtain ⟨g5, cp5, hv5, -, -, hg5, hg5l, -⟩ := hO4.form
            rw [List.length_reverse] at hv5
            have HV5 := Lib.hid hv5
            have HG5 := Lib.hid hg5
            have HGL5 := Lib.hid hg5l
            have Hb5 := Lib.hid hb5
            have HRUN := Lib.hid hrun
            have HO5 := Lib.hid hO4
            have HJ5 := Lib.hid hJ5
            have HB6 := Lib.hid hB6
            have HSZ5 := Lib.hid (Nat.le_trans hsz3 hB5.size)
            clear hrun hO4 hg4 hB5 hJ5 hB6 hA hb3 hrow hre hv5 hg5 hg5l hb5 hbx3 hXs hszp hsz3 hsz4
            gi_wp2_with (gi_at_builtin; refine wp_appIn rfl _ _ rfl rfl _ _ rfl rfl HRUN.out ?_)
            go_roundw
            case rel => exact ⟨j + 1, g5, cp5, kd :: k :: r, pre ++ [(s, d + 1)], by omega, by go_num, HV5.out, HG5.out, HGL5.out, (by rw [← HV5.out]; exact HO5.out), HWS.out, HJ5.out, HB6.out, HSZ5.out, Hb5.out⟩
            case measure => simp [intOf]; omega
          · have HJX := Lib.hid hJx3
            clear hJx3
            gi_wp2_with fail
            refine bodyPost_ret (results_none rfl _ _ _) rfl ?_
            exact ⟨⟨_, rfl⟩, Or.inr ⟨_, trivial, HJX.out⟩⟩
      · have hki : ¬ (j : Int) < (len : Int) := by omega
        have hjl : j = len := by omega
        have HJL := Lib.hid hjl
        clear hjl hO hW hJ hB
        gi_wp2_with fail
        go_end0
        refine ⟨⟨_, rfl⟩, Or.inl ⟨pre, ?_, HJ2.out⟩⟩
        have := HW.out
        rw [HJL.out, ← HL.out] at this
        exact this.done HO.out

end L2
end Go.Proofs.YtgcjmhecnbhhlaaGreatDoor
