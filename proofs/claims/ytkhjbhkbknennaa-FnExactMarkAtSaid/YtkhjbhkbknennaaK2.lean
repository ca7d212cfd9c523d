/-
  The topmost plate of which a function says so: the program's range over a list from its end.
-/
import Derived.Test.YtkhjbhkbknennaaK1
import Derived.Test.YtkhjbhkbknennaaRH
namespace Go.Proofs.Ytkhjbhkbknennaa
open Go.RowKit Go.Shelf
namespace L2
open L1 RF RK
attribute [local go_sem] Oper.semAt_some

theorem backward_any (oa : Option Addr) (n c : Nat) (w : World) : Calls Try.prog 21 #[.slice oa n c] w fun e w' => e = .returned (.func (.func 23) #[] #[.pointer (some ⟨w.heap.size, 0, none⟩)]) ∧ w' = w.alloc (.cells #[.slice oa n c] 25) := by
  go_enter Try.func21, Try.ntmps21
  go_wp2
  go_ret
  exact ⟨rfl, rfl⟩

theorem isMark_any (p : Pl) (w : World) : Calls Try.prog 17 #[plV p] w fun e w' => e = .returned (.bool (isMarkP p)) ∧ Below w.heap.size w w' := by
  obtain ⟨pk, pa, pb, pc, pd, pe⟩ := p
  unfold plV
  simp only
  have e : isMarkP ⟨pk, pa, pb, pc, pd, pe⟩ = (pk == 8) := by unfold isMarkP; by_cases h : pk = 8 <;> simp [h]
  rw [e]
  go_enter Try.func17, Try.ntmps17
  go_wp2_with fail
  go_ret
  refine ⟨rfl, ?_⟩
  (repeat (first | (with_reducible refine Below.alloc ?_ ?_ _) | (with_reducible refine Below.setCell ?_ ?_ _) | (with_reducible refine Below.drew ?_) | (with_reducible exact Below.refl _ _) | (with_reducible refine Below.trans ?_ (Below.mono (by assumption) ?_)))) <;> (first | omega | (dsimp only; omega) | (simp; done) | (simp; omega) | (simp at *; omega))

theorem isCatcher_any (p : Pl) (w : World) : Calls Try.prog 19 #[plV p] w fun e w' => e = .returned (.bool (isCatchP p)) ∧ Below w.heap.size w w' := by
  obtain ⟨pk, pa, pb, pc, pd, pe⟩ := p
  unfold plV
  simp only
  by_cases h7 : pk = 7
  · subst h7
    have e : isCatchP ⟨7, pa, pb, pc, pd, pe⟩ = true := rfl
    rw [e]
    go_enter Try.func19, Try.ntmps19
    go_wp2_with fail
    go_ret
    refine ⟨rfl, ?_⟩
    (repeat (first | (with_reducible refine Below.alloc ?_ ?_ _) | (with_reducible refine Below.setCell ?_ ?_ _) | (with_reducible refine Below.drew ?_) | (with_reducible exact Below.refl _ _) | (with_reducible refine Below.trans ?_ (Below.mono (by assumption) ?_)))) <;> (first | omega | (dsimp only; omega) | (simp; done) | (simp; omega) | (simp at *; omega))
  · have e : isCatchP ⟨pk, pa, pb, pc, pd, pe⟩ = (pk == 3) := by unfold isCatchP; by_cases h : pk = 3 <;> simp [h, h7]
    have h7' : (pk == 7) = false := by simpa using h7
    rw [e]
    go_enter Try.func19, Try.ntmps19
    go_wp2_with fail
    go_ret
    refine ⟨rfl, ?_⟩
    (repeat (first | (with_reducible refine Below.alloc ?_ ?_ _) | (with_reducible refine Below.setCell ?_ ?_ _) | (with_reducible refine Below.drew ?_) | (with_reducible exact Below.refl _ _) | (with_reducible refine Below.trans ?_ (Below.mono (by assumption) ?_)))) <;> (first | omega | (dsimp only; omega) | (simp; done) | (simp; omega) | (simp at *; omega))

/-- The first m places, from the end on. -/
def dn (n m : Nat) : List Nat := (List.range m).map fun j => n - 1 - j
theorem dn_snoc (n m : Nat) : dn n (m + 1) = dn n m ++ [n - 1 - m] := by unfold dn; rw [List.range_succ, List.map_append]; rfl
theorem dn_len (n m : Nat) : (dn n m).length = m := by simp [dn]
def encK (ps : List Pl) (k : Nat) : Array Value := #[.int .i64 (k : Int), plV (ps.getD k p0)]

set_option maxRecDepth 100000 in
set_option maxHeartbeats 4000000 in
theorem backward_seq (ps : List Pl) (v : Value) (w W0 : World) (lb n : Nat) (X : Nat → Prop) (hR : RowP w v ps) (hB : Below w.heap.size w W0)
    (hlt : lb < W0.heap.size) (hbox : W0.cell? ⟨lb, 0, none⟩ = some v) (hX : ∀ b, X b → w.heap.size ≤ b ∧ b < W0.heap.size ∧ b ≠ lb) :
    SeqOf Fence.wide n Try.prog 23 #[.pointer (some ⟨lb, 0, none⟩)] (encK ps) (Below W0.heap.size) (Keep X) (fun xs => xs = dn ps.length ps.length) (fun pre => ∃ m, m < ps.length ∧ pre = dn ps.length (m + 1)) ps.length W0 := by
  intro l J Jx hJ hJx hY h0
  have HJ := Lib.hid hJ
  have HY := Lib.hid hY
  have HB := Lib.hid hB
  have HX := Lib.hid hX
  obtain ⟨oa, cap, rfl, hr1, hr2, hr3⟩ := hR
  obtain ⟨len, hlen⟩ : ∃ len, ps.length = len := ⟨_, rfl⟩
  rw [hlen] at hr1 hr3 hbox HY ⊢
  have H3 := Lib.hid hr3
  unfold maxLen at hr2
  clear hJ hJx hY hB hX hr3 hlen
  refine callsIn_of_wp Try.func23 rfl trivial ?_ rfl; simp only [Try.ntmps23, List.size_toArray, List.length_cons, List.length_nil, Nat.reduceAdd, Nat.reduceSub, Array.replicate_succ, Array.replicate_zero, List.push_toArray, List.append_toArray, List.nil_append, List.cons_append]
  gi_wp2_with fail
  gi_loopw [3] (fun iv wr => ∃ j : Nat, j ≤ len ∧ iv = .int .i64 ((j : Int) - 1) ∧ J (dn len (len - j)) wr ∧ Below w.heap.size w wr ∧ W0.heap.size ≤ wr.heap.size ∧ wr.cell? ⟨lb, 0, none⟩ = some (.slice oa len cap)) (fun iv _ => (intOf iv + 1).toNat)
  case atStart => exact ⟨len, Nat.le_refl _, rfl, by rw [Nat.sub_self]; exact h0, HB.out, Nat.le_refl _, hbox⟩
  case round =>
    obtain ⟨j, hj, rfl, hJ, hB, hsz, hbx⟩ := hrel
    have HJ2 := Lib.hid hJ
    have HB2 := Lib.hid hB
    clear hJ hB hbox
    cases j with
    | zero =>
      gi_wp2_with fail
      go_end0
      exact ⟨⟨_, rfl⟩, Or.inl ⟨_, rfl, HJ2.out⟩⟩
    | succ k =>
      have hkn : k < len := by omega
      obtain ⟨b, off, rfl, hb, hc⟩ := H3.out k hkn
      have hc1 := hc.below HB2.out hb
      clear hc
      have hlen : (dn len (len - (k + 1))).length < len := by rw [dn_len]; omega
      have hsn : dn len (len - (k + 1)) ++ [k] = dn len (len - k) := by
        have e : len - k = (len - (k + 1)) + 1 := by omega
        rw [e, dn_snoc]
        congr 2
        omega
      obtain ⟨fn, tmps, assign, body, hy, hRd⟩ := HY.out (dn len (len - (k + 1))) k wr HJ2.out hlen
      rw [hsn] at hRd
      simp only [encK] at hy
      obtain ⟨p, hp⟩ : ∃ p, ps.getD k p0 = p := ⟨_, rfl⟩
      rw [hp] at hc1 hy
      clear hp
      obtain ⟨pk, pa, pb, pc, pd, pe⟩ := p
      obtain ⟨x0, x1, x2, x3, x4, x5⟩ := hc1
      dsimp only at x0 x1 x2 x3 x4 x5
      unfold plV at hy
      dsimp only at hy
      have hc2 : ((k + 1 : Nat) : Int) - 1 = (k : Int) := by omega
      rw [hc2]
      have hk0 : (0 : Int) ≤ (k : Int) := by omega
      have hki : (k : Int) < (len : Int) := by omega
      have HRD := Lib.hid hRd
      clear hRd hsn hlen
      gi_wp2_with fail
      refine ⟨fun h => (by cases h), HRD.out.mono ?_⟩
      rintro e W' (⟨rfl, hJ3, hkp⟩ | ⟨rfl, hJx3⟩)
      · have hXs : ∀ b, X b → w.heap.size ≤ b := fun b hb => (HX.out b hb).1
        have hB4 := HB2.out.trans (hkp.below (Nat.le_trans HB.out.size hsz) hXs)
        have hbx3 := (hkp.cell (Nat.lt_of_lt_of_le hlt hsz) (fun hx => (HX.out lb hx).2.2 rfl)).trans hbx
        have hsz3 := Nat.le_trans hsz hkp.size
        have HJ3 := Lib.hid hJ3
        have HB4 := Lib.hid hB4
        have HBX := Lib.hid hbx3
        clear hJ3 hB4 hkp hbx hbx3 x0 x1 x2 x3 x4 x5 hy
        gi_wp2_with fail
        go_roundw
        case rel => exact ⟨k, by omega, by go_num, HJ3.out, HB4.out, hsz3, HBX.out⟩
        case measure => first | (simp [intOf]; done) | (simp [intOf]; omega)
      · have HJX := Lib.hid hJx3
        clear hJx3
        gi_wp2_with fail
        refine bodyPost_ret (results_none rfl _ _ _) rfl ?_
        refine ⟨⟨_, rfl⟩, Or.inr ⟨_, ⟨len - (k + 1), by omega, ?_⟩, HJX.out⟩⟩
        congr 1
        omega

theorem topP_dn {f : Pl → Bool} {ps : List Pl} {n : Nat} : ∀ m, m ≤ n → (∀ x ∈ dn n m, f (ps.getD x p0) = false) → topP f ps n = topP f ps (n - m)
  | 0, _, _ => rfl
  | m + 1, hm, h => by
    rw [dn_snoc] at h
    rw [topP_dn m (by omega) (fun x hx => h x (List.mem_append_left _ hx))]
    have e : n - m = (n - (m + 1)) + 1 := by omega
    have h1 := h (n - 1 - m) (by simp)
    have e2 : n - 1 - m = n - (m + 1) := by omega
    rw [e, topP_no (by rw [← e2]; exact h1)]
theorem topP_hit {f : Pl → Bool} {ps : List Pl} {n m : Nat} (hm : m < n) (h : ∀ x ∈ dn n m, f (ps.getD x p0) = false) (hx : f (ps.getD (n - 1 - m) p0) = true) : topP f ps n = ((n - 1 - m : Nat) : Int) := by
  rw [topP_dn m (by omega) h]
  have e : n - m = (n - 1 - m) + 1 := by omega
  rw [e, topP_yes hx]
/-- None of those that have come, and what the call has of its own. -/
structure NoneYet (w : World) (f : Pl → Bool) (ps : List Pl) (F : Value) (pre : List Nat) (A : World) : Prop where
  none : ∀ x ∈ pre, f (ps.getD x p0) = false
  func : BoxAt w w.heap.size F A
  res : BoxAt w (w.heap.size + 1) (.int .i64 0) A
/-- The one that was found. -/
def OneFound (w : World) (f : Pl → Bool) (ps : List Pl) (pre : List Nat) (A : World) : Prop :=
  ∃ init x, pre = init ++ [x] ∧ (∀ y ∈ init, f (ps.getD y p0) = false) ∧ f (ps.getD x p0) = true ∧ BoxAt w (w.heap.size + 1) (.int .i64 (x : Int)) A

set_option maxRecDepth 100000 in
set_option maxHeartbeats 4000000 in
theorem topmost_mark (v : Value) (ps : List Pl) (w : World) (hR : RowP w v ps) :
    Calls Try.prog 16 #[v, .func (.func 17) #[] #[]] w fun e w' => e = .returned (.int .i64 (topP isMarkP ps ps.length)) ∧ Below w.heap.size w w' := by
  have HR := Lib.hid hR
  have HF := Lib.hid isMark_any
  obtain ⟨oa, cap, rfl, h1, h2, -⟩ := hR
  unfold maxLen at h2
  obtain ⟨len, hlen⟩ : ∃ len, ps.length = len := ⟨_, rfl⟩
  have HL := Lib.hid hlen
  rw [hlen] at h1 HR ⊢
  clear hlen
  refine (callsIn_wide (n := 3)).1 ?_
  refine callsIn_of_wp_marks Try.func16 rfl trivial ?_ rfl; simp only [Try.ntmps16, List.size_toArray, List.length_cons, List.length_nil, Nat.reduceAdd, Nat.reduceSub, Array.replicate_succ, Array.replicate_zero, List.push_toArray, List.append_toArray, List.nil_append, List.cons_append]
  gi_wp2_with fail
  refine into2 (backward_any _ _ _ _) ?_
  rintro e w2 ⟨rfl, rfl⟩
  dsimp only
  gi_wp2_with fail
  obtain ⟨hsz, hbox, hbox1, hlb⟩ := three_boxes w (.func (.func 17) #[] #[]) (.int .i64 0) (.slice oa len cap) 40 2 25
  have e1 : ((w.alloc (.cells #[.func (.func 17) #[] #[]] 40)).alloc (.cells #[.int .i64 0] 2)).heap.size = w.heap.size + 2 := by simp
  rw [e1]
  generalize ((w.alloc (.cells #[.func (.func 17) #[] #[]] 40)).alloc (.cells #[.int .i64 0] 2)).alloc (.cells #[.slice oa len cap] 25) = W at hsz hbox hbox1 hlb ⊢
  clear e1
  refine range_law2 (F := Fence.wide) (n := 3) rfl (by omega) (gf := 23) (lb := #[.pointer (some ⟨w.heap.size + 2, 0, none⟩)]) rfl trivial (enters_of Try.func23 (by kernel_rfl) rfl)
    (encs := encK ps) (Rel := Below (W.heap.size + 2)) (Kp := Keep (fun b => b = w.heap.size + 1 ∨ b = W.heap.size + 1)) (S := fun xs => xs = dn len len) (Sp := fun pre => ∃ m, m < len ∧ pre = dn len (m + 1)) (N := len)
    ?seq (fun A B b o h hb ha => by rw [h.block b (by omega)]; exact ha) (fun _ _ _ h k => h.trans k) (fun A o _ => keep_put o (Or.inr rfl)) (fun _ => rfl)
    (fun pre A => NoneYet w isMarkP ps (.func (.func 17) #[] #[]) pre A) (fun c pre A => c = .ret ∧ OneFound w isMarkP ps pre A)
    (fun _ _ _ h hr => ⟨h.none, h.func.rel hr (by omega) (by omega), h.res.rel hr (by omega) (by omega)⟩)
    (fun _ _ _ _ ⟨hc, i, x, e, h1, h2, h3⟩ hr => ⟨hc, i, x, e, h1, h2, h3.rel hr (by omega) (by omega)⟩)
    (fun _ _ o h _ => ⟨h.none, h.func.put o (by omega) (by omega), h.res.put o (by omega) (by omega)⟩)
    (fun _ _ _ o ⟨hc, i, x, e, h1, h2, h3⟩ _ => ⟨hc, i, x, e, h1, h2, h3.put o (by omega) (by omega)⟩)
    (fun o o' => ⟨by simp, hbox.rel (((Below.refl W.heap.size W).alloc (Nat.le_refl _) o).alloc (by simp) o') (by omega) (by omega), hbox1.rel (((Below.refl W.heap.size W).alloc (Nat.le_refl _) o).alloc (by simp) o') (by omega) (by omega)⟩)
    (fun pre x a1 A => ∃ g, W.heap.size + 2 ≤ g ∧ g < A.heap.size ∧ PlAt A g 0 (ps.getD x p0) ∧ NoneYet w isMarkP ps (.func (.func 17) #[] #[]) pre A ∧ a1 = { tmps := #[.slice oa len cap, .func (.func 17) #[] #[], undef, .pointer (some ⟨w.heap.size, 0, none⟩), .pointer (some ⟨w.heap.size + 1, 0, none⟩), .int .i64 (x : Int), .pointer (some ⟨g, 0, none⟩), .slice oa len cap, .func (.func 23) #[] #[.pointer (some ⟨w.heap.size + 2, 0, none⟩)], .int .i64 (x : Int), plV (ps.getD x p0), undef, undef, undef, undef], defers := [] })
    (fun _ _ _ A o ⟨g, h1, h2, h3, h4, h5⟩ _ => ⟨g, h1, by simpa using h2, h3.of (fun j => World.cell?_of_block (a := ⟨g, j, none⟩) (World.putObj_heap_other (show g ≠ W.heap.size + 1 by omega))), ⟨h4.none, h4.func.put o (by omega) (by omega), h4.res.put o (by omega) (by omega)⟩, h5⟩)
    ?assign ?body ?done ?stop
  case seq =>
    intro o o'
    have hb : Below W.heap.size W ((W.alloc o).alloc o') := ((Below.refl W.heap.size W).alloc (Nat.le_refl _) o).alloc (by simp) o'
    have hs : ((W.alloc o).alloc o').heap.size = W.heap.size + 2 := by simp
    have h := backward_seq ps _ w ((W.alloc o).alloc o') (w.heap.size + 2) (3 - 1) (fun b => b = w.heap.size + 1 ∨ b = W.heap.size + 1) HR.out (hbox.below.trans (hb.mono hbox.below.size)) (by rw [hs]; omega) ((hb.cell (p := ⟨w.heap.size + 2, 0, none⟩) (by show w.heap.size + 2 < W.heap.size; omega)).trans hlb)
      (fun b hb => by rw [hs]; omega)
    rw [hs, HL.out] at h
    exact h
  case assign =>
    intro l pre x A K hI _ hsA hK
    have HK := Lib.hid hK
    clear hK
    simp only [encK]
    obtain ⟨p, hp⟩ : ∃ p, ps.getD x p0 = p := ⟨_, rfl⟩
    rw [hp] at HK ⊢
    obtain ⟨pk, pa, pb, pc, pd, pe⟩ := p
    unfold plV at HK ⊢
    dsimp only at HK ⊢
    gi_wp2
    have hb := (Below.refl A.heap.size A).alloc (Nat.le_refl _) (.cells #[.int .i64 pk, .int .i64 pa, .int .i64 pb, .int .i64 pc, .int .i64 pd, .int .i64 pe] 34)
    have hcl := hI.func.below.size
    refine HK.out _ _ ⟨A.heap.size, by omega, by simp, ?_, ⟨hI.none, hI.func.rel hb (by omega) (by omega), hI.res.rel hb (by omega) (by omega)⟩, rfl⟩ ⟨Below.heap_alloc _ _ _ (by omega), Below.heap_alloc _ _ _ (by omega)⟩ (keep_of_below hb)
    have hn := heap_alloc_new A (.cells #[.int .i64 pk, .int .i64 pa, .int .i64 pb, .int .i64 pc, .int .i64 pd, .int .i64 pe] 34)
    refine ⟨?_, ?_, ?_, ?_, ?_, ?_⟩ <;> (simp only [World.cell?, hn]; rfl)
  case body =>
    intro l pre x a1 A hA _ _
    obtain ⟨g, hg1, hg2, hp, hN, rfl⟩ := hA
    have HN := Lib.hid hN
    obtain ⟨-, ⟨hc0, -, -⟩, hcr, hfr, hbw⟩ := hN
    obtain ⟨p, hp2⟩ : ∃ p, ps.getD x p0 = p := ⟨_, rfl⟩
    have HP := Lib.hid hp2
    rw [hp2] at hp ⊢
    clear hp2
    have HC := Lib.hid (HF.out p)
    obtain ⟨t, ht⟩ : ∃ t, isMarkP p = t := ⟨_, rfl⟩
    have HT := Lib.hid ht
    rw [ht] at HC
    clear ht
    obtain ⟨pk, pa, pb, pc, pd, pe⟩ := p
    obtain ⟨x0, x1, x2, x3, x4, x5⟩ := hp
    dsimp only at x0 x1 x2 x3 x4 x5
    simp only [Nat.zero_add] at x0 x1 x2 x3 x4 x5
    unfold plV at HC ⊢
    dsimp only at HC ⊢
    gi_wp2_with fail
    refine ⟨trivial, CallsIn.inRound l (callsIn_wide.2 ((HC.out _).mono ?_))⟩
    rintro e w1 ⟨rfl, hb1⟩
    dsimp only
    have hlt1 : w.heap.size + 1 < A.heap.size := by omega
    have hcr1 := (hb1.cell (p := ⟨w.heap.size + 1, 0, none⟩) hlt1).trans hcr
    have hfr1 := (hb1.frozen (p := ⟨w.heap.size + 1, 0, none⟩) hlt1).trans hfr
    have HB1 := Lib.hid hb1
    have hsz1 := hb1.size
    clear hb1 x0 x1 x2 x3 x4 x5 hc0 hcr hfr
    have hst : Stay W.heap.size A w1 := ⟨HB1.out.block _ (by omega), HB1.out.block _ (by omega)⟩
    have HST := Lib.hid hst
    clear hst
    cases t
    · gi_wp2_with fail
      refine ⟨HST.out, keep_of_below HB1.out, ?_, HN.out.func.rel HB1.out (by omega) (Nat.le_trans HN.out.func.below.size (Nat.le_refl _)), HN.out.res.rel HB1.out (by omega) (Nat.le_trans HN.out.func.below.size (Nat.le_refl _))⟩
      intro y hy
      rcases List.mem_append.1 hy with hy | hy
      · exact HN.out.none y hy
      · have e : y = x := by simpa using hy
        rw [e, HP.out]
        exact HT.out
    · gi_wp2_with fail
      refine ⟨⟨(Below.heap_setCell _ _ _ _ (by dsimp only; omega)).trans HST.out.1, (Below.heap_setCell _ _ _ _ (by dsimp only; omega)).trans HST.out.2⟩, rfl, pre, x, rfl, HN.out.none, by rw [HP.out]; exact HT.out, ?_⟩
      exact (HN.out.res.rel HB1.out (by omega) (Nat.le_trans HN.out.func.below.size (Nat.le_refl _))).set _ (by omega)
  case done =>
    intro xs A hS hI hK
    obtain ⟨hn, -, hc, hf, hb⟩ := hI
    gi_wp2
    have hc2 : (A.setCell ⟨w.heap.size + 1, 0, none⟩ (.int .i64 (-1))).cell? ⟨w.heap.size + 1, 0, none⟩ = some (.int .i64 (-1)) := World.cell?_setCell_same' _ _ _ (by rw [hc]; rfl)
    have hK2 : (A.setCell ⟨w.heap.size + 1, 0, none⟩ (.int .i64 (-1))).heap[W.heap.size]? = some (.deferred (some [])) := (Below.heap_setCell _ _ _ _ (by dsimp only; omega)).trans hK
    refine ⟨by simp, Or.inl ⟨_, _, rfl, run_takeDeferred hK2, ?_⟩⟩
    have hc3 : ((A.setCell ⟨w.heap.size + 1, 0, none⟩ (.int .i64 (-1))).putObj W.heap.size (.deferred none)).cell? ⟨w.heap.size + 1, 0, none⟩ = some (.int .i64 (-1)) := (World.cell?_of_block (a := ⟨w.heap.size + 1, 0, none⟩) (World.putObj_heap_other (show w.heap.size + 1 ≠ W.heap.size by omega))).trans hc2
    refine ⟨.int .i64 (-1), by simp [results, Try.results16, go_sem, hc3], ?_, (hb.setCell (by dsimp only; omega) _).trans (below_put _ _ (by omega))⟩
    rw [topP_dn len (Nat.le_refl _) (by rw [← hS]; exact hn), Nat.sub_self]
    rfl
  case stop =>
    intro c pre A hSp hIx hK
    obtain ⟨rfl, init, x, rfl, h1, h2, hc, hf, hb⟩ := hIx
    gi_wp2
    refine ⟨by simp, Or.inl ⟨_, _, rfl, run_takeDeferred hK, ?_⟩⟩
    have hc3 : (A.putObj W.heap.size (.deferred none)).cell? ⟨w.heap.size + 1, 0, none⟩ = some (.int .i64 (x : Int)) := (World.cell?_of_block (a := ⟨w.heap.size + 1, 0, none⟩) (World.putObj_heap_other (show w.heap.size + 1 ≠ W.heap.size by omega))).trans hc
    obtain ⟨m, hm, hpre⟩ := hSp
    rw [dn_snoc] at hpre
    obtain ⟨hpi, hpx⟩ := List.append_inj' hpre rfl
    have hx : x = len - 1 - m := by simpa using hpx
    refine ⟨.int .i64 (x : Int), by simp [results, Try.results16, go_sem, hc3], ?_, hb.trans (below_put _ _ (by omega))⟩
    rw [topP_hit hm (by rw [← hpi]; exact h1) (by rw [← hx]; exact h2), hx]

set_option maxRecDepth 100000 in
set_option maxHeartbeats 4000000 in
theorem topmost_catch (v : Value) (ps : List Pl) (w : World) (hR : RowP w v ps) :
    Calls Try.prog 16 #[v, .func (.func 19) #[] #[]] w fun e w' => e = .returned (.int .i64 (topP isCatchP ps ps.length)) ∧ Below w.heap.size w w' := by
  have HR := Lib.hid hR
  have HF := Lib.hid isCatcher_any
  obtain ⟨oa, cap, rfl, h1, h2, -⟩ := hR
  unfold maxLen at h2
  obtain ⟨len, hlen⟩ : ∃ len, ps.length = len := ⟨_, rfl⟩
  have HL := Lib.hid hlen
  rw [hlen] at h1 HR ⊢
  clear hlen
  refine (callsIn_wide (n := 3)).1 ?_
  refine callsIn_of_wp_marks Try.func16 rfl trivial ?_ rfl; simp only [Try.ntmps16, List.size_toArray, List.length_cons, List.length_nil, Nat.reduceAdd, Nat.reduceSub, Array.replicate_succ, Array.replicate_zero, List.push_toArray, List.append_toArray, List.nil_append, List.cons_append]
  gi_wp2_with fail
  refine into2 (backward_any _ _ _ _) ?_
  rintro e w2 ⟨rfl, rfl⟩
  dsimp only
  gi_wp2_with fail
  obtain ⟨hsz, hbox, hbox1, hlb⟩ := three_boxes w (.func (.func 19) #[] #[]) (.int .i64 0) (.slice oa len cap) 40 2 25
  have e1 : ((w.alloc (.cells #[.func (.func 19) #[] #[]] 40)).alloc (.cells #[.int .i64 0] 2)).heap.size = w.heap.size + 2 := by simp
  rw [e1]
  generalize ((w.alloc (.cells #[.func (.func 19) #[] #[]] 40)).alloc (.cells #[.int .i64 0] 2)).alloc (.cells #[.slice oa len cap] 25) = W at hsz hbox hbox1 hlb ⊢
  clear e1
  refine range_law2 (F := Fence.wide) (n := 3) rfl (by omega) (gf := 23) (lb := #[.pointer (some ⟨w.heap.size + 2, 0, none⟩)]) rfl trivial (enters_of Try.func23 (by kernel_rfl) rfl)
    (encs := encK ps) (Rel := Below (W.heap.size + 2)) (Kp := Keep (fun b => b = w.heap.size + 1 ∨ b = W.heap.size + 1)) (S := fun xs => xs = dn len len) (Sp := fun pre => ∃ m, m < len ∧ pre = dn len (m + 1)) (N := len)
    ?seq (fun A B b o h hb ha => by rw [h.block b (by omega)]; exact ha) (fun _ _ _ h k => h.trans k) (fun A o _ => keep_put o (Or.inr rfl)) (fun _ => rfl)
    (fun pre A => NoneYet w isCatchP ps (.func (.func 19) #[] #[]) pre A) (fun c pre A => c = .ret ∧ OneFound w isCatchP ps pre A)
    (fun _ _ _ h hr => ⟨h.none, h.func.rel hr (by omega) (by omega), h.res.rel hr (by omega) (by omega)⟩)
    (fun _ _ _ _ ⟨hc, i, x, e, h1, h2, h3⟩ hr => ⟨hc, i, x, e, h1, h2, h3.rel hr (by omega) (by omega)⟩)
    (fun _ _ o h _ => ⟨h.none, h.func.put o (by omega) (by omega), h.res.put o (by omega) (by omega)⟩)
    (fun _ _ _ o ⟨hc, i, x, e, h1, h2, h3⟩ _ => ⟨hc, i, x, e, h1, h2, h3.put o (by omega) (by omega)⟩)
    (fun o o' => ⟨by simp, hbox.rel (((Below.refl W.heap.size W).alloc (Nat.le_refl _) o).alloc (by simp) o') (by omega) (by omega), hbox1.rel (((Below.refl W.heap.size W).alloc (Nat.le_refl _) o).alloc (by simp) o') (by omega) (by omega)⟩)
    (fun pre x a1 A => ∃ g, W.heap.size + 2 ≤ g ∧ g < A.heap.size ∧ PlAt A g 0 (ps.getD x p0) ∧ NoneYet w isCatchP ps (.func (.func 19) #[] #[]) pre A ∧ a1 = { tmps := #[.slice oa len cap, .func (.func 19) #[] #[], undef, .pointer (some ⟨w.heap.size, 0, none⟩), .pointer (some ⟨w.heap.size + 1, 0, none⟩), .int .i64 (x : Int), .pointer (some ⟨g, 0, none⟩), .slice oa len cap, .func (.func 23) #[] #[.pointer (some ⟨w.heap.size + 2, 0, none⟩)], .int .i64 (x : Int), plV (ps.getD x p0), undef, undef, undef, undef], defers := [] })
    (fun _ _ _ A o ⟨g, h1, h2, h3, h4, h5⟩ _ => ⟨g, h1, by simpa using h2, h3.of (fun j => World.cell?_of_block (a := ⟨g, j, none⟩) (World.putObj_heap_other (show g ≠ W.heap.size + 1 by omega))), ⟨h4.none, h4.func.put o (by omega) (by omega), h4.res.put o (by omega) (by omega)⟩, h5⟩)
    ?assign ?body ?done ?stop
  case seq =>
    intro o o'
    have hb : Below W.heap.size W ((W.alloc o).alloc o') := ((Below.refl W.heap.size W).alloc (Nat.le_refl _) o).alloc (by simp) o'
    have hs : ((W.alloc o).alloc o').heap.size = W.heap.size + 2 := by simp
    have h := backward_seq ps _ w ((W.alloc o).alloc o') (w.heap.size + 2) (3 - 1) (fun b => b = w.heap.size + 1 ∨ b = W.heap.size + 1) HR.out (hbox.below.trans (hb.mono hbox.below.size)) (by rw [hs]; omega) ((hb.cell (p := ⟨w.heap.size + 2, 0, none⟩) (by show w.heap.size + 2 < W.heap.size; omega)).trans hlb)
      (fun b hb => by rw [hs]; omega)
    rw [hs, HL.out] at h
    exact h
  case assign =>
    intro l pre x A K hI _ hsA hK
    have HK := Lib.hid hK
    clear hK
    simp only [encK]
    obtain ⟨p, hp⟩ : ∃ p, ps.getD x p0 = p := ⟨_, rfl⟩
    rw [hp] at HK ⊢
    obtain ⟨pk, pa, pb, pc, pd, pe⟩ := p
    unfold plV at HK ⊢
    dsimp only at HK ⊢
    gi_wp2
    have hb := (Below.refl A.heap.size A).alloc (Nat.le_refl _) (.cells #[.int .i64 pk, .int .i64 pa, .int .i64 pb, .int .i64 pc, .int .i64 pd, .int .i64 pe] 34)
    have hcl := hI.func.below.size
    refine HK.out _ _ ⟨A.heap.size, by omega, by simp, ?_, ⟨hI.none, hI.func.rel hb (by omega) (by omega), hI.res.rel hb (by omega) (by omega)⟩, rfl⟩ ⟨Below.heap_alloc _ _ _ (by omega), Below.heap_alloc _ _ _ (by omega)⟩ (keep_of_below hb)
    have hn := heap_alloc_new A (.cells #[.int .i64 pk, .int .i64 pa, .int .i64 pb, .int .i64 pc, .int .i64 pd, .int .i64 pe] 34)
    refine ⟨?_, ?_, ?_, ?_, ?_, ?_⟩ <;> (simp only [World.cell?, hn]; rfl)
  case body =>
    intro l pre x a1 A hA _ _
    obtain ⟨g, hg1, hg2, hp, hN, rfl⟩ := hA
    have HN := Lib.hid hN
    obtain ⟨-, ⟨hc0, -, -⟩, hcr, hfr, hbw⟩ := hN
    obtain ⟨p, hp2⟩ : ∃ p, ps.getD x p0 = p := ⟨_, rfl⟩
    have HP := Lib.hid hp2
    rw [hp2] at hp ⊢
    clear hp2
    have HC := Lib.hid (HF.out p)
    obtain ⟨t, ht⟩ : ∃ t, isCatchP p = t := ⟨_, rfl⟩
    have HT := Lib.hid ht
    rw [ht] at HC
    clear ht
    obtain ⟨pk, pa, pb, pc, pd, pe⟩ := p
    obtain ⟨x0, x1, x2, x3, x4, x5⟩ := hp
    dsimp only at x0 x1 x2 x3 x4 x5
    simp only [Nat.zero_add] at x0 x1 x2 x3 x4 x5
    unfold plV at HC ⊢
    dsimp only at HC ⊢
    gi_wp2_with fail
    refine ⟨trivial, CallsIn.inRound l (callsIn_wide.2 ((HC.out _).mono ?_))⟩
    rintro e w1 ⟨rfl, hb1⟩
    dsimp only
    have hlt1 : w.heap.size + 1 < A.heap.size := by omega
    have hcr1 := (hb1.cell (p := ⟨w.heap.size + 1, 0, none⟩) hlt1).trans hcr
    have hfr1 := (hb1.frozen (p := ⟨w.heap.size + 1, 0, none⟩) hlt1).trans hfr
    have HB1 := Lib.hid hb1
    have hsz1 := hb1.size
    clear hb1 x0 x1 x2 x3 x4 x5 hc0 hcr hfr
    have hst : Stay W.heap.size A w1 := ⟨HB1.out.block _ (by omega), HB1.out.block _ (by omega)⟩
    have HST := Lib.hid hst
    clear hst
    cases t
    · gi_wp2_with fail
      refine ⟨HST.out, keep_of_below HB1.out, ?_, HN.out.func.rel HB1.out (by omega) (Nat.le_trans HN.out.func.below.size (Nat.le_refl _)), HN.out.res.rel HB1.out (by omega) (Nat.le_trans HN.out.func.below.size (Nat.le_refl _))⟩
      intro y hy
      rcases List.mem_append.1 hy with hy | hy
      · exact HN.out.none y hy
      · have e : y = x := by simpa using hy
        rw [e, HP.out]
        exact HT.out
    · gi_wp2_with fail
      refine ⟨⟨(Below.heap_setCell _ _ _ _ (by dsimp only; omega)).trans HST.out.1, (Below.heap_setCell _ _ _ _ (by dsimp only; omega)).trans HST.out.2⟩, rfl, pre, x, rfl, HN.out.none, by rw [HP.out]; exact HT.out, ?_⟩
      exact (HN.out.res.rel HB1.out (by omega) (Nat.le_trans HN.out.func.below.size (Nat.le_refl _))).set _ (by omega)
  case done =>
    intro xs A hS hI hK
    obtain ⟨hn, -, hc, hf, hb⟩ := hI
    gi_wp2
    have hc2 : (A.setCell ⟨w.heap.size + 1, 0, none⟩ (.int .i64 (-1))).cell? ⟨w.heap.size + 1, 0, none⟩ = some (.int .i64 (-1)) := World.cell?_setCell_same' _ _ _ (by rw [hc]; rfl)
    have hK2 : (A.setCell ⟨w.heap.size + 1, 0, none⟩ (.int .i64 (-1))).heap[W.heap.size]? = some (.deferred (some [])) := (Below.heap_setCell _ _ _ _ (by dsimp only; omega)).trans hK
    refine ⟨by simp, Or.inl ⟨_, _, rfl, run_takeDeferred hK2, ?_⟩⟩
    have hc3 : ((A.setCell ⟨w.heap.size + 1, 0, none⟩ (.int .i64 (-1))).putObj W.heap.size (.deferred none)).cell? ⟨w.heap.size + 1, 0, none⟩ = some (.int .i64 (-1)) := (World.cell?_of_block (a := ⟨w.heap.size + 1, 0, none⟩) (World.putObj_heap_other (show w.heap.size + 1 ≠ W.heap.size by omega))).trans hc2
    refine ⟨.int .i64 (-1), by simp [results, Try.results16, go_sem, hc3], ?_, (hb.setCell (by dsimp only; omega) _).trans (below_put _ _ (by omega))⟩
    rw [topP_dn len (Nat.le_refl _) (by rw [← hS]; exact hn), Nat.sub_self]
    rfl
  case stop =>
    intro c pre A hSp hIx hK
    obtain ⟨rfl, init, x, rfl, h1, h2, hc, hf, hb⟩ := hIx
    gi_wp2
    refine ⟨by simp, Or.inl ⟨_, _, rfl, run_takeDeferred hK, ?_⟩⟩
    have hc3 : (A.putObj W.heap.size (.deferred none)).cell? ⟨w.heap.size + 1, 0, none⟩ = some (.int .i64 (x : Int)) := (World.cell?_of_block (a := ⟨w.heap.size + 1, 0, none⟩) (World.putObj_heap_other (show w.heap.size + 1 ≠ W.heap.size by omega))).trans hc
    obtain ⟨m, hm, hpre⟩ := hSp
    rw [dn_snoc] at hpre
    obtain ⟨hpi, hpx⟩ := List.append_inj' hpre rfl
    have hx : x = len - 1 - m := by simpa using hpx
    refine ⟨.int .i64 (x : Int), by simp [results, Try.results16, go_sem, hc3], ?_, hb.trans (below_put _ _ (by omega))⟩
    rw [topP_hit hm (by rw [← hpi]; exact h1) (by rw [← hx]; exact h2), hx]

theorem implMarkAt_any (v : Value) (ps : List Pl) (w : World) (hR : RowP w v ps) :
    Calls Try.prog 9 #[v] w fun e w' => e = .returned (.int .i64 (topP isMarkP ps ps.length)) ∧ Below w.heap.size w w' := by
  have H := Lib.hid (topmost_mark v ps w hR)
  obtain ⟨oa, cap, rfl, -, -, -⟩ := hR
  go_enter Try.func9, Try.ntmps9
  go_wp2_with fail
  refine H.out.mono ?_
  rintro e w1 ⟨rfl, hb⟩
  go_wp2_with fail
  go_ret
  exact ⟨rfl, hb⟩
theorem implCatcherAt_any (v : Value) (ps : List Pl) (w : World) (hR : RowP w v ps) :
    Calls Try.prog 12 #[v] w fun e w' => e = .returned (.int .i64 (topP isCatchP ps ps.length)) ∧ Below w.heap.size w w' := by
  have H := Lib.hid (topmost_catch v ps w hR)
  obtain ⟨oa, cap, rfl, -, -, -⟩ := hR
  go_enter Try.func12, Try.ntmps12
  go_wp2_with fail
  refine H.out.mono ?_
  rintro e w1 ⟨rfl, hb⟩
  go_wp2_with fail
  go_ret
  exact ⟨rfl, hb⟩

end L2
end Go.Proofs.Ytkhjbhkbknennaa
