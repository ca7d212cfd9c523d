/-
  The program's WordsIn and DepthOf: loops over the words of a sum.
-/
import Derived.Test.YtgcjmhecnbhhlaaGreatDoorR2
import Derived.Test.YtgcjmhecnbhhlaaGreatDoorW20
namespace Go.Proofs.YtgcjmhecnbhhlaaGreatDoor
open Go.RowKit Go.Shelf
namespace L2
open S1 L1 RF
attribute [local go_sem] Oper.semAt_some

theorem into2 {n : Nat} {P : Program} {f : FuncId} {args : Array Value} {w : World} {R' R : Ending → World → Prop} (h : Calls P f args w R') (hm : ∀ e w', R' e w' → R e w') :
    Fence.wide.fn f ∧ CallsIn Fence.wide n P f args w R := ⟨trivial, (callsIn_wide.2 h).mono hm⟩
theorem sumsIn_any (oa : Option Addr) (n c : Nat) (w : World) : Calls Tryz.prog 30 #[.slice oa n c] w fun e w' => e = .returned (.func (.func 44) #[] #[.pointer (some ⟨w.heap.size, 0, none⟩)]) ∧ w' = w.alloc (.cells #[.slice oa n c] 24) := by
  go_enter Tryz.func30, Tryz.ntmps30
  go_wp2
  go_ret
  exact ⟨rfl, rfl⟩

/-- A variable of the caller's, in a block of its own; what was there before the call lies as it lay. -/
structure BoxAt (w : World) (c : Nat) (u : Value) (A : World) : Prop where
  cell : A.cell? ⟨c, 0, none⟩ = some u
  thawed : A.frozen? ⟨c, 0, none⟩ = false
  below : Below w.heap.size w A
theorem BoxAt.rel {w A B : World} {c n : Nat} {u : Value} (h : BoxAt w c u A) (hb : Below n A B) (hc : c < n) (hw : w.heap.size ≤ n) : BoxAt w c u B :=
  ⟨(hb.cell (p := ⟨c, 0, none⟩) hc).trans h.cell, (hb.frozen (p := ⟨c, 0, none⟩) hc).trans h.thawed, h.below.trans (hb.mono hw)⟩
theorem below_put {n b : Nat} (A : World) (o : Obj) (hb : n ≤ b) : Below n A (A.putObj b o) :=
  ⟨rfl, rfl, rfl, by simp, fun k hk => World.putObj_heap_other (by omega)⟩
theorem BoxAt.put {w A : World} {c b : Nat} {u : Value} (h : BoxAt w c u A) (o : Obj) (hb : c ≠ b) (hw : w.heap.size ≤ b) : BoxAt w c u (A.putObj b o) := by
  have hh : (A.putObj b o).heap[c]? = A.heap[c]? := World.putObj_heap_other hb
  exact ⟨(World.cell?_of_block (a := ⟨c, 0, none⟩) hh).trans h.cell, (World.frozen?_of_block (a := ⟨c, 0, none⟩) hh).trans h.thawed, h.below.trans (below_put A o hw)⟩
theorem BoxAt.set {w A : World} {c : Nat} {u : Value} (h : BoxAt w c u A) (u' : Value) (hw : w.heap.size ≤ c) : BoxAt w c u' (A.setCell ⟨c, 0, none⟩ u') :=
  ⟨World.cell?_setCell_same' _ _ _ (by rw [h.cell]; rfl), by rw [World.frozen?_setCell]; exact h.thawed, h.below.setCell (p := ⟨c, 0, none⟩) hw _⟩
theorem stay_set {D c : Nat} (A : World) (u : Value) (h1 : c ≠ D) (h2 : c ≠ D + 1) : Stay D A (A.setCell ⟨c, 0, none⟩ u) :=
  ⟨Below.heap_setCell _ _ _ _ (by intro e; exact h1 e.symm), Below.heap_setCell _ _ _ _ (by intro e; exact h2 e.symm)⟩
/-- The deepest of those that have come. -/
def maxD (pre : List WL) : Nat := maxL (pre.map (·.2))
theorem maxD_snoc (pre : List WL) (x : WL) : ((maxD (pre ++ [x]) : Nat) : Int) = max (maxD pre : Int) (x.2 : Int) := by
  unfold maxD
  rw [List.map_append, List.map_cons, List.map_nil, maxL_snoc]
  omega
/-- Two boxes that a call begins with. -/
theorem two_boxes (w : World) (u u' : Value) (t t' : TypeId) : ((w.alloc (.cells #[u] t)).alloc (.cells #[u'] t')).heap.size = w.heap.size + 2 ∧ BoxAt w w.heap.size u ((w.alloc (.cells #[u] t)).alloc (.cells #[u'] t')) ∧
    ((w.alloc (.cells #[u] t)).alloc (.cells #[u'] t')).cell? ⟨w.heap.size + 1, 0, none⟩ = some u' := by
  have hb : Below w.heap.size w ((w.alloc (.cells #[u] t)).alloc (.cells #[u'] t')) := ((Below.refl _ w).alloc (Nat.le_refl _) _).alloc (by simp) _
  have h0 : ((w.alloc (.cells #[u] t)).alloc (.cells #[u'] t')).heap[w.heap.size]? = some (.cells #[u] t) := (Below.heap_alloc _ _ _ (by simp)).trans (heap_alloc_new w _)
  have h1 := new_cell (w.alloc (.cells #[u] t)) u' t'
  rw [World.size_alloc] at h1
  exact ⟨by simp, ⟨by simp [World.cell?, h0], by simp [World.frozen?, h0], hb⟩, h1⟩

set_option maxRecDepth 100000 in
set_option maxHeartbeats 2000000 in
theorem implDepthOf_any (v : Value) (ss : List ByteArray) (w : World) (hR : Row w v ss) (hS : Small ss) (hV : Vars w) :
    Calls Tryz.prog 10 #[v] w fun e w' => e = .returned (.int .i64 ((deepN (wsOf ss) : Nat) : Int)) ∧ Below w.heap.size w w' := by
  have HR := Lib.hid hR
  have HV := Lib.hid hV
  have HS := Lib.hid hS
  obtain ⟨oa, cap, rfl, h1, h2, -⟩ := hR
  unfold maxLen at h2
  obtain ⟨len, hlen⟩ : ∃ len, ss.length = len := ⟨_, rfl⟩
  rw [hlen] at h1 HR ⊢
  clear hV hS hlen
  refine (callsIn_wide (n := 3)).1 ?_
  refine callsIn_of_wp_marks Tryz.func10 rfl trivial ?_ rfl; simp only [Tryz.ntmps10, List.size_toArray, List.length_cons, List.length_nil, Nat.reduceAdd, Nat.reduceSub, Array.replicate_succ, Array.replicate_zero, List.push_toArray, List.append_toArray, List.nil_append, List.cons_append]
  gi_wp2_with fail
  refine into2 (sumsIn_any _ _ _ _) ?_
  rintro e w2 ⟨rfl, rfl⟩
  dsimp only
  gi_wp2_with fail
  obtain ⟨hsz, hbox, hlb⟩ := two_boxes w (.int .i64 0) (.slice oa len cap) 2 24
  have e1 : (w.alloc (.cells #[.int .i64 0] 2)).heap.size = w.heap.size + 1 := by simp
  rw [e1]
  generalize (w.alloc (.cells #[.int .i64 0] 2)).alloc (.cells #[.slice oa len cap] 24) = W at hsz hbox hlb ⊢
  clear e1
  refine range_law (F := Fence.wide) (n := 3) rfl (by omega) (gf := 44) (lb := #[.pointer (some ⟨w.heap.size + 1, 0, none⟩)]) rfl trivial (enters_of Tryz.func44 (by kernel_rfl) rfl)
    (encs := encW) (Rel := Below (W.heap.size + 2)) (Kp := Keep (fun b => b = w.heap.size ∨ b = W.heap.size + 1)) (S := AllW ss) (Sp := fun _ => True) (N := 60)
    ?seq (fun A B b o h hb ha => by rw [h.block b (by omega)]; exact ha) (fun _ _ _ h k => h.trans k) (fun A o _ => keep_put o (Or.inr rfl)) (fun _ => rfl)
    (fun (pre : List WL) A => BoxAt w w.heap.size (.int .i64 ((maxD pre : Nat) : Int)) A) (fun _ _ _ => False)
    (fun _ _ _ h hr => h.rel hr (by omega) (by omega)) (fun _ _ _ _ h _ => h) (fun _ _ o h _ => h.put o (by omega) (by omega)) (fun _ _ _ _ h _ => h)
    (fun o o' => hbox.rel (((Below.refl W.heap.size W).alloc (Nat.le_refl _) o).alloc (by simp) o') (by omega) (by omega))
    (fun x => { tmps := #[.slice oa len cap, undef, .int .i64 0, .pointer (some ⟨w.heap.size, 0, none⟩), undef, .int .i64 (x.2 : Int), .slice oa len cap, .func (.func 44) #[] #[.pointer (some ⟨w.heap.size + 1, 0, none⟩)], .string x.1, .int .i64 (x.2 : Int), undef, undef, undef, undef], defers := [] })
    ?assign ?body ?done ?stop
  case seq =>
    intro o o'
    have hb : Below W.heap.size W ((W.alloc o).alloc o') := ((Below.refl W.heap.size W).alloc (Nat.le_refl _) o).alloc (by simp) o'
    have hs : ((W.alloc o).alloc o').heap.size = W.heap.size + 2 := by simp
    have h := sums_seq ss _ w ((W.alloc o).alloc o') (w.heap.size + 1) (3 - 1) (fun b => b = w.heap.size ∨ b = W.heap.size + 1) HR.out HS.out HV.out (hbox.below.trans (hb.mono hbox.below.size)) (by rw [hs]; omega) ((hb.cell (p := ⟨w.heap.size + 1, 0, none⟩) (by show w.heap.size + 1 < W.heap.size; omega)).trans hlb)
      (fun b hb => by rw [hs]; omega)
    rw [hs] at h
    exact h
  case assign =>
    intro l x A K hK
    simp only [encW]
    gi_wp2
    exact hK
  case body =>
    intro l pre x A hI _ _
    have HI := Lib.hid hI
    obtain ⟨hc, hf, -⟩ := hI
    gi_wp2
    refine ⟨stay_set _ _ (by omega) (by omega), keep_set _ (Or.inl rfl), ?_⟩
    show BoxAt _ _ (.int .i64 ((maxD (pre ++ [x]) : Nat) : Int)) _
    rw [maxD_snoc]
    exact HI.out.set _ (Nat.le_refl _)
  case done =>
    intro xs A hS hI hK
    obtain ⟨hc, hf, hb⟩ := hI
    gi_wp2
    refine ⟨by simp, Or.inl ⟨_, _, rfl, run_takeDeferred hK, ?_⟩⟩
    exact ⟨_, results_tmp rfl _ _ _, by rw [← hS.deep]; rfl, hb.trans (below_put A _ (by omega))⟩
  case stop =>
    intro c pre A _ h _
    exact h.elim

theorem BoxAt.other {w A : World} {c d : Nat} {u : Value} (h : BoxAt w c u A) (u' : Value) (hd : c ≠ d) (hw : w.heap.size ≤ d) : BoxAt w c u (A.setCell ⟨d, 0, none⟩ u') :=
  ⟨(World.cell?_setCell_other _ _ _ _ (by intro e; injection e with e _; exact hd e.symm)).trans h.cell, by rw [World.frozen?_setCell]; exact h.thawed, h.below.setCell (p := ⟨d, 0, none⟩) hw _⟩
theorem cntW_le (xs : List WL) (x : List UInt8) : cntW xs x ≤ xs.length := List.length_filter_le _ _
/-- Three boxes that a call begins with. -/
theorem three_boxes (w : World) (u u' u'' : Value) (t t' t'' : TypeId) : (((w.alloc (.cells #[u] t)).alloc (.cells #[u'] t')).alloc (.cells #[u''] t'')).heap.size = w.heap.size + 3 ∧ BoxAt w w.heap.size u (((w.alloc (.cells #[u] t)).alloc (.cells #[u'] t')).alloc (.cells #[u''] t'')) ∧
    BoxAt w (w.heap.size + 1) u' (((w.alloc (.cells #[u] t)).alloc (.cells #[u'] t')).alloc (.cells #[u''] t'')) ∧ (((w.alloc (.cells #[u] t)).alloc (.cells #[u'] t')).alloc (.cells #[u''] t'')).cell? ⟨w.heap.size + 2, 0, none⟩ = some u'' := by
  obtain ⟨h1, h2, h3⟩ := two_boxes w u u' t t'
  have h4 : ((w.alloc (.cells #[u] t)).alloc (.cells #[u'] t')).heap[w.heap.size + 1]? = some (.cells #[u'] t') := by
    have := heap_alloc_new (w.alloc (.cells #[u] t)) (.cells #[u'] t')
    rwa [World.size_alloc] at this
  generalize (w.alloc (.cells #[u] t)).alloc (.cells #[u'] t') = V at h1 h2 h3 h4 ⊢
  have hb : Below V.heap.size V (V.alloc (.cells #[u''] t'')) := (Below.refl _ V).alloc (Nat.le_refl _) _
  have h5 := new_cell V u'' t''
  rw [h1] at h5
  have hV : BoxAt w (w.heap.size + 1) u' V := ⟨h3, by simp [World.frozen?, h4], h2.below⟩
  exact ⟨by simp [h1], h2.rel hb (by omega) (by omega), hV.rel hb (by omega) (by omega), h5⟩

set_option maxRecDepth 100000 in
set_option maxHeartbeats 2000000 in
theorem implWordsIn_any (v : Value) (ss : List ByteArray) (t : ByteArray) (w : World) (hR : Row w v ss) (hS : Small ss) (hV : Vars w) :
    Calls Tryz.prog 14 #[v, .string t] w fun e w' => e = .returned (.int .i64 ((wordsN (wsOf ss) t.toList : Nat) : Int)) ∧ Below w.heap.size w w' := by
  have HR := Lib.hid hR
  have HV := Lib.hid hV
  have HS := Lib.hid hS
  obtain ⟨oa, cap, rfl, h1, h2, -⟩ := hR
  unfold maxLen at h2
  obtain ⟨len, hlen⟩ : ∃ len, ss.length = len := ⟨_, rfl⟩
  rw [hlen] at h1 HR ⊢
  clear hV hS hlen
  refine (callsIn_wide (n := 3)).1 ?_
  refine callsIn_of_wp_marks Tryz.func14 rfl trivial ?_ rfl; simp only [Tryz.ntmps14, List.size_toArray, List.length_cons, List.length_nil, Nat.reduceAdd, Nat.reduceSub, Array.replicate_succ, Array.replicate_zero, List.push_toArray, List.append_toArray, List.nil_append, List.cons_append]
  gi_wp2_with fail
  refine into2 (sumsIn_any _ _ _ _) ?_
  rintro e w2 ⟨rfl, rfl⟩
  dsimp only
  gi_wp2_with fail
  obtain ⟨hsz, hbox, hbox1, hlb⟩ := three_boxes w (.string t) (.int .i64 0) (.slice oa len cap) 9 2 24
  have e1 : ((w.alloc (.cells #[.string t] 9)).alloc (.cells #[.int .i64 0] 2)).heap.size = w.heap.size + 2 := by simp
  rw [e1]
  generalize ((w.alloc (.cells #[.string t] 9)).alloc (.cells #[.int .i64 0] 2)).alloc (.cells #[.slice oa len cap] 24) = W at hsz hbox hbox1 hlb ⊢
  clear e1
  refine range_law (F := Fence.wide) (n := 3) rfl (by omega) (gf := 44) (lb := #[.pointer (some ⟨w.heap.size + 2, 0, none⟩)]) rfl trivial (enters_of Tryz.func44 (by kernel_rfl) rfl)
    (encs := encW) (Rel := Below (W.heap.size + 2)) (Kp := Keep (fun b => b = w.heap.size + 1 ∨ b = W.heap.size + 1)) (S := AllW ss) (Sp := fun _ => True) (N := 60)
    ?seq (fun A B b o h hb ha => by rw [h.block b (by omega)]; exact ha) (fun _ _ _ h k => h.trans k) (fun A o _ => keep_put o (Or.inr rfl)) (fun _ => rfl)
    (fun (pre : List WL) A => BoxAt w w.heap.size (.string t) A ∧ BoxAt w (w.heap.size + 1) (.int .i64 ((cntW pre t.toList : Nat) : Int)) A) (fun _ _ _ => False)
    (fun _ _ _ h hr => ⟨h.1.rel hr (by omega) (by omega), h.2.rel hr (by omega) (by omega)⟩) (fun _ _ _ _ h _ => h) (fun _ _ o h _ => ⟨h.1.put o (by omega) (by omega), h.2.put o (by omega) (by omega)⟩) (fun _ _ _ _ h _ => h)
    (fun o o' => ⟨hbox.rel (((Below.refl W.heap.size W).alloc (Nat.le_refl _) o).alloc (by simp) o') (by omega) (by omega), hbox1.rel (((Below.refl W.heap.size W).alloc (Nat.le_refl _) o).alloc (by simp) o') (by omega) (by omega)⟩)
    (fun x => { tmps := #[.slice oa len cap, .string t, undef, .pointer (some ⟨w.heap.size, 0, none⟩), .int .i64 0, .pointer (some ⟨w.heap.size + 1, 0, none⟩), .string x.1, .slice oa len cap, .func (.func 44) #[] #[.pointer (some ⟨w.heap.size + 2, 0, none⟩)], .string x.1, .int .i64 (x.2 : Int), undef, undef, undef, undef, undef, undef], defers := [] })
    ?assign ?body ?done ?stop
  case seq =>
    intro o o'
    have hb : Below W.heap.size W ((W.alloc o).alloc o') := ((Below.refl W.heap.size W).alloc (Nat.le_refl _) o).alloc (by simp) o'
    have hs : ((W.alloc o).alloc o').heap.size = W.heap.size + 2 := by simp
    have h := sums_seq ss _ w ((W.alloc o).alloc o') (w.heap.size + 2) (3 - 1) (fun b => b = w.heap.size + 1 ∨ b = W.heap.size + 1) HR.out HS.out HV.out (hbox.below.trans (hb.mono hbox.below.size)) (by rw [hs]; omega) ((hb.cell (p := ⟨w.heap.size + 2, 0, none⟩) (by show w.heap.size + 2 < W.heap.size; omega)).trans hlb)
      (fun b hb => by rw [hs]; omega)
    rw [hs] at h
    exact h
  case assign =>
    intro l x A K hK
    simp only [encW]
    gi_wp2
    exact hK
  case body =>
    intro l pre x A hI hpl _
    have HI := Lib.hid hI
    obtain ⟨⟨hcw, -, -⟩, hc, hf, -⟩ := hI
    have hn := cntW_snoc pre x t.toList
    have hle := cntW_le pre t.toList
    have hle2 : cntW pre t.toList ≤ 60 := by omega
    clear hle
    have HN := Lib.hid hn
    clear hn
    cases hx : (x.1.toList == t.toList)
    · gi_wp2
      refine ⟨⟨rfl, rfl⟩, Keep.refl _, HI.out.1, ?_⟩
      rw [HN.out, hx]
      exact HI.out.2
    · gi_wp2
      refine ⟨stay_set _ _ (by omega) (by omega), keep_set _ (Or.inl rfl), HI.out.1.other _ (by omega) (by omega), ?_⟩
      rw [HN.out, hx]
      exact HI.out.2.set _ (by omega)
  case done =>
    intro xs A hS hI hK
    obtain ⟨-, hc, hf, hb⟩ := hI
    gi_wp2
    refine ⟨by simp, Or.inl ⟨_, _, rfl, run_takeDeferred hK, ?_⟩⟩
    exact ⟨_, results_tmp rfl _ _ _, by rw [← hS.cnt]; rfl, hb.trans (below_put A _ (by omega))⟩
  case stop =>
    intro c pre A _ h _
    exact h.elim

end L2
end Go.Proofs.YtgcjmhecnbhhlaaGreatDoor
