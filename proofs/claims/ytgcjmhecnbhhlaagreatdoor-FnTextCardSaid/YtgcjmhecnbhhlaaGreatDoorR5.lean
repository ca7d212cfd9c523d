/-
  The program's ReadSum: a loop over the pieces of a text.
-/
import Derived.Test.YtgcjmhecnbhhlaaGreatDoorR4
import Derived.Test.YtgcjmhecnbhhlaaGreatDoorGD
namespace Go.Proofs.YtgcjmhecnbhhlaaGreatDoor
open Go.RowKit Go.Shelf
namespace L2
open S1 L1 RF
attribute [local go_sem] Oper.semAt_some

/-- The words of a text as texts. -/
def pieces (s : ByteArray) : List ByteArray := (cutW s.toList).map fun l => ⟨l.toArray⟩
def readOk (s : ByteArray) : Bool := okSum (cutW s.toList)
def readS (s : ByteArray) : List ByteArray := if readOk s then pieces s else []
theorem ws_inj {ss : List ByteArray} {l : List (List UInt8)} (h : wsOf ss = l) : ss = l.map fun x => ⟨x.toArray⟩ := by
  rw [← h]
  unfold wsOf
  rw [List.map_map]
  conv => lhs; rw [← List.map_id ss]
  refine List.map_congr_left fun x _ => ?_
  exact of_toList rfl
theorem ws_pieces (s : ByteArray) : wsOf (pieces s) = cutW s.toList := by
  unfold pieces wsOf
  rw [List.map_map]
  conv => rhs; rw [← List.map_id (cutW s.toList)]
  refine List.map_congr_left fun x _ => ?_
  show (⟨x.toArray⟩ : ByteArray).toList = x
  rw [Lib.toList_data]
theorem cut_short (l : List UInt8) : ∀ w ∈ cutW l, w.length ≤ l.length := by
  induction l with
  | nil => intro w hw; simp [cutW] at hw; subst hw; simp
  | cons c r ih =>
    intro w hw
    obtain ⟨h, t, e⟩ := cutW_cons r
    rw [e] at ih
    rw [cutW, e] at hw
    split at hw
    · rcases List.mem_cons.1 hw with rfl | hw
      · simp
      · have := ih w hw; simp; omega
    · rcases List.mem_cons.1 hw with rfl | hw
      · have := ih h (by simp); simp; omega
      · have := ih w (List.mem_cons_of_mem _ hw); simp; omega
theorem pieces_small {s : ByteArray} (hs : s.size ≤ 1048576) {xs : List ByteArray} (h : wsOf xs = cutW s.toList) (hn : xs.length ≤ 1048576) : Small xs := by
  refine ⟨hn, fun i hi => ?_⟩
  have hm : (xs.getD i ByteArray.empty).toList ∈ cutW s.toList := by
    rw [← h]
    have e : xs.getD i ByteArray.empty = xs[i] := by simp [List.getD, hi]
    rw [e]
    exact List.mem_map_of_mem (List.getElem_mem hi)
  have := cut_short _ _ hm
  rw [size_list]
  rw [size_list] at hs
  omega

theorem BoxAt.grown {w A B : World} {c r : Nat} {u : Value} (h : BoxAt w c u A) (hg : A.grownBy B (some r)) (hc : c ≠ r) (hr : w.heap.size ≤ r) : BoxAt w c u B := by
  have hb := hg.block c (World.block_lt_of_cell? A _ h.cell) (by intro e; injection e with e; exact hc e)
  exact ⟨(World.cell?_of_block (a := ⟨c, 0, none⟩) hb).trans h.cell, (World.frozen?_of_block (a := ⟨c, 0, none⟩) hb).trans h.thawed, h.below.grown hg h.below.size (fun k e => by injection e with e; omega)⟩
theorem keep_grown {X : Nat → Prop} {A B : World} {r : Nat} (hg : A.grownBy B (some r)) (hx : X r) : Keep X A B :=
  ⟨hg.os, hg.tape, hg.output, hg.size, fun b hb hn => hg.block b hb (by intro e; injection e with e; subst e; exact hn hx)⟩
theorem OwS.put {A : World} {B0 b : Nat} {v : Value} {xs : List ByteArray} (h : OwS A B0 v xs) (o : Obj) (hb : v.ownBlock ≠ some b) : OwS (A.putObj b o) B0 v xs := h.kept (grownBy_putObj' A b o) hb

set_option maxRecDepth 100000 in
theorem run_appS2 (w : World) (B : Nat) (v : Value) (xs : List ByteArray) (hown : OwS w B v xs) (g : Nat) (s : ByteArray)
    (hc : w.cell? ⟨g, 0, none⟩ = some (.string s)) (hs : xs.length ≤ 9000000) (hB : B ≤ w.heap.size) :
    ∃ v' w', (Builtin.append_ #[24, 24] 24 #[v, .slice (some ⟨g, 0, none⟩) 1 1]).run Tryz.prog w = .ok v' w' ∧ OwS w' B v' (xs ++ [s]) ∧ w.grownBy w' v.ownBlock ∧ (v'.ownBlock = v.ownBlock ∨ v'.ownBlock = some w.heap.size) := by
  obtain ⟨ho, hn⟩ := hown
  obtain ⟨i, hi, hz, hsz, hby⟩ := str_info
  obtain ⟨v', w', hr, h2, h3, h4, h5⟩ := run_append_own_at (P := Tryz.prog) w B 24 24 9 i (.string ByteArray.empty) 1 16 Tryz.underlying24 hi hz hsz hby rfl (by omega) v xs.length _ ho ⟨g, 0, none⟩ 1 1 [.string s] (by simp)
    (fun j u hj => by
      cases j with
      | zero =>
        rw [add0]
        injection hj with hj
        rw [← hj]
        exact hc
      | succ j => cases hj)
    (fun u hu => by
      have : u = .string s := by simpa using hu
      subst this
      rfl) (by unfold maxLen; omega) (by omega) hB
  refine ⟨v', w', hr, ⟨?_, fun e => hn (h4.1 e).1⟩, h3, h5⟩
  rw [List.map_append, List.length_append]
  exact h2

theorem older {w : World} {o v : Obj} {k : Nat} (h : w.heap[k]? = some v) : (w.alloc o).heap[k]? = some v := (Below.heap_alloc w o k (Array.getElem?_eq_some_iff.1 h).1).trans h
theorem size_set (A : World) (a : Addr) (u : Value) : (A.setCell a u).heap.size = A.heap.size := by simp [World.setCell]
/-- A new row of no words, behind two stores. -/
theorem owS_behind (A : World) (B : Nat) (hB : B ≤ A.heap.size) (a b : Addr) (u u' : Value) : OwS (((A.setCell a u).setCell b u').alloc (.cells #[] 9)) B (.slice (some ⟨A.heap.size, 0, none⟩) 0 0) [] := by
  have h := owS_new ((A.setCell a u).setCell b u') B (by rw [size_set, size_set]; exact hB)
  rw [size_set, size_set] at h
  exact h
/-- Seven blocks that a call begins with. -/
theorem seven (w : World) (a0 a1 a2 a3 a4 a5 a6 : Obj) :
    (((((((w.alloc a0).alloc a1).alloc a2).alloc a3).alloc a4).alloc a5).alloc a6).heap.size = w.heap.size + 7 ∧
    (((((((w.alloc a0).alloc a1).alloc a2).alloc a3).alloc a4).alloc a5).alloc a6).heap[w.heap.size]? = some a0 ∧
    (((((((w.alloc a0).alloc a1).alloc a2).alloc a3).alloc a4).alloc a5).alloc a6).heap[w.heap.size + 1]? = some a1 ∧
    (((((((w.alloc a0).alloc a1).alloc a2).alloc a3).alloc a4).alloc a5).alloc a6).heap[w.heap.size + 2]? = some a2 ∧
    (((((((w.alloc a0).alloc a1).alloc a2).alloc a3).alloc a4).alloc a5).alloc a6).heap[w.heap.size + 3]? = some a3 ∧
    (((((((w.alloc a0).alloc a1).alloc a2).alloc a3).alloc a4).alloc a5).alloc a6).heap[w.heap.size + 4]? = some a4 ∧
    (((((((w.alloc a0).alloc a1).alloc a2).alloc a3).alloc a4).alloc a5).alloc a6).heap[w.heap.size + 5]? = some a5 ∧
    (((((((w.alloc a0).alloc a1).alloc a2).alloc a3).alloc a4).alloc a5).alloc a6).heap[w.heap.size + 6]? = some a6 ∧
    Below w.heap.size w (((((((w.alloc a0).alloc a1).alloc a2).alloc a3).alloc a4).alloc a5).alloc a6) := by
  have n0 := heap_alloc_new w a0
  have n1 := heap_alloc_new (w.alloc a0) a1
  have n2 := heap_alloc_new ((w.alloc a0).alloc a1) a2
  have n3 := heap_alloc_new (((w.alloc a0).alloc a1).alloc a2) a3
  have n4 := heap_alloc_new ((((w.alloc a0).alloc a1).alloc a2).alloc a3) a4
  have n5 := heap_alloc_new (((((w.alloc a0).alloc a1).alloc a2).alloc a3).alloc a4) a5
  have n6 := heap_alloc_new ((((((w.alloc a0).alloc a1).alloc a2).alloc a3).alloc a4).alloc a5) a6
  simp only [World.size_alloc] at n1 n2 n3 n4 n5 n6
  exact ⟨by simp, older (older (older (older (older (older n0))))), older (older (older (older (older n1)))), older (older (older (older n2))), older (older (older n3)), older (older n4), older n5, n6,
    ((((((((Below.refl _ w).alloc (Nat.le_refl _) _).alloc (by simp) _).alloc (by simp; omega) _).alloc (by simp; omega) _).alloc (by simp; omega) _).alloc (by simp; omega) _).alloc (by simp; omega) _)⟩
theorem box_of {w A : World} {c : Nat} {u : Value} {t : TypeId} (h : A.heap[c]? = some (.cells #[u] t)) (hb : Below w.heap.size w A) : BoxAt w c u A :=
  ⟨by simp [World.cell?, h], by simp [World.frozen?, h], hb⟩

/-- Between two rounds: the words that have come lie in a row of the call's own. -/
def RdI (w : World) (pre : List ByteArray) (A : World) : Prop :=
  ∃ g c, BoxAt w (w.heap.size + 3) (.slice (some ⟨g, 0, none⟩) pre.length c) A ∧ OwS A w.heap.size (.slice (some ⟨g, 0, none⟩) pre.length c) pre ∧ (g = w.heap.size + 2 ∨ w.heap.size + 9 ≤ g) ∧
    BoxAt w w.heap.size (.slice none 0 0) A ∧ BoxAt w (w.heap.size + 1) (.bool false) A ∧ pre.length ≤ 60
/-- Where a word too many has come. -/
def RdX (w : World) (cd : Code) (pre : List ByteArray) (A : World) : Prop :=
  cd = .ret ∧ pre.length = 61 ∧ ∃ g, BoxAt w w.heap.size (.slice (some ⟨g, 0, none⟩) 0 0) A ∧ OwS A w.heap.size (.slice (some ⟨g, 0, none⟩) 0 0) [] ∧ w.heap.size + 9 ≤ g ∧ BoxAt w (w.heap.size + 1) (.bool false) A
theorem own_ne {g n c b : Nat} (h : g ≠ b) : (Value.slice (some ⟨g, 0, none⟩) n c).ownBlock ≠ some b := by
  simp only [Value.ownBlock]
  intro e
  injection e with e
  exact h e
theorem RdI.rel {w A B : World} {pre : List ByteArray} (h : RdI w pre A) (hg : A.grownBy B (some (w.heap.size + 4))) : RdI w pre B := by
  obtain ⟨g, c, h1, h2, h3, h4, h5, h6⟩ := h
  exact ⟨g, c, h1.grown hg (by omega) (by omega), h2.kept hg (own_ne (by omega)), h3, h4.grown hg (by omega) (by omega), h5.grown hg (by omega) (by omega), h6⟩
theorem RdX.rel {w A B : World} {cd : Code} {pre : List ByteArray} (h : RdX w cd pre A) (hg : A.grownBy B (some (w.heap.size + 4))) : RdX w cd pre B := by
  obtain ⟨h0, h1, g, h2, h3, h4, h5⟩ := h
  exact ⟨h0, h1, g, h2.grown hg (by omega) (by omega), h3.kept hg (own_ne (by omega)), h4, h5.grown hg (by omega) (by omega)⟩
theorem RdI.put {w A : World} {pre : List ByteArray} (h : RdI w pre A) (o : Obj) : RdI w pre (A.putObj (w.heap.size + 8) o) := by
  obtain ⟨g, c, h1, h2, h3, h4, h5, h6⟩ := h
  exact ⟨g, c, h1.put o (by omega) (by omega), h2.put o (own_ne (by omega)), h3, h4.put o (by omega) (by omega), h5.put o (by omega) (by omega), h6⟩
theorem RdX.put {w A : World} {cd : Code} {pre : List ByteArray} (h : RdX w cd pre A) (o : Obj) : RdX w cd pre (A.putObj (w.heap.size + 8) o) := by
  obtain ⟨h0, h1, g, h2, h3, h4, h5⟩ := h
  exact ⟨h0, h1, g, h2.put o (by omega) (by omega), h3.put o (own_ne (by omega)), h4, h5.put o (by omega) (by omega)⟩
theorem BoxAt.alloc {w A : World} {c : Nat} {u : Value} (h : BoxAt w c u A) (o : Obj) : BoxAt w c u (A.alloc o) :=
  h.rel ((Below.refl A.heap.size A).alloc (Nat.le_refl _) o) (World.block_lt_of_cell? A _ h.cell) h.below.size
theorem stay_alloc {D : Nat} {A : World} (o : Obj) (h : D + 1 < A.heap.size) : Stay D A (A.alloc o) := ⟨Below.heap_alloc _ _ _ (by omega), Below.heap_alloc _ _ _ h⟩
theorem stay_trans {D : Nat} {A B C : World} (h : Stay D A B) (k : Stay D B C) : Stay D A C := ⟨k.1.trans h.1, k.2.trans h.2⟩
theorem stay_grown {D r : Nat} {A B : World} (hg : A.grownBy B (some r)) (h : D + 1 < A.heap.size) (h1 : r ≠ D) (h2 : r ≠ D + 1) : Stay D A B :=
  ⟨hg.block _ (by omega) (by intro e; injection e with e; exact h1 e.symm), hg.block _ h (by intro e; injection e with e; exact h2 e.symm)⟩
theorem keep_alloc {X : Nat → Prop} (A : World) (o : Obj) : Keep X A (A.alloc o) := keep_of_below ((Below.refl _ A).alloc (Nat.le_refl _) o)
theorem readOk_no {s : ByteArray} {xs : List ByteArray} {r : List (List UInt8)} (h : cutW s.toList = wsOf xs ++ r) (hl : xs.length = 61) : readOk s = false := by
  unfold readOk okSum
  have : ¬ (cutW s.toList).length ≤ 60 := by rw [h, List.length_append, ws_len]; omega
  simp [this]

set_option maxRecDepth 100000 in
set_option maxHeartbeats 4000000 in
theorem implReadSum_any (s : ByteArray) (w : World) (hs : s.size ≤ 1048576) (hV : Vars w) :
    Calls Tryz.prog 8 #[.string s] w fun e w' => ∃ v, e = .returned (.tuple #[v, .bool (readOk s)]) ∧ OwS w' w.heap.size v (readS s) ∧ Below w.heap.size w w' := by
  have HV := Lib.hid hV
  clear hV
  refine (callsIn_wide (n := 3)).1 ?_
  refine callsIn_of_wp_marks Tryz.func8 rfl trivial ?_ rfl; simp only [Tryz.ntmps8, List.size_toArray, List.length_cons, List.length_nil, Nat.reduceAdd, Nat.reduceSub, Array.replicate_succ, Array.replicate_zero, List.push_toArray, List.append_toArray, List.nil_append, List.cons_append]
  gi_wp2_with fail
  refine into2 (splitSeq_any _ _) ?_
  rintro e w2 ⟨rfl, rfl⟩
  dsimp only
  gi_wp2_with fail
  simp only [World.size_alloc]
  have hsev := seven w (.cells #[.slice none 0 0] 24) (.cells #[.bool false] 4) (.cells #[] 9) (.cells #[.slice (some ⟨w.heap.size + 1 + 1, 0, none⟩) 0 0] 24) (.cells #[.string s] 9) (.cells #[.string ⟨#[32]⟩] 9) (.cells #[.int .i64 0] 3)
  have hrow0 : OwS (((((((w.alloc (.cells #[.slice none 0 0] 24)).alloc (.cells #[.bool false] 4)).alloc (.cells #[] 9)).alloc (.cells #[.slice (some ⟨w.heap.size + 1 + 1, 0, none⟩) 0 0] 24)).alloc (.cells #[.string s] 9)).alloc (.cells #[.string ⟨#[32]⟩] 9)).alloc (.cells #[.int .i64 0] 3)) w.heap.size (.slice (some ⟨w.heap.size + 2, 0, none⟩) 0 0) [] := by
    have h := owS_new ((w.alloc (.cells #[.slice none 0 0] 24)).alloc (.cells #[.bool false] 4)) w.heap.size (by simp; omega)
    simp only [World.size_alloc] at h
    exact ((((h.alloc _).alloc _).alloc _).alloc _)
  generalize ((((((w.alloc (.cells #[.slice none 0 0] 24)).alloc (.cells #[.bool false] 4)).alloc (.cells #[] 9)).alloc (.cells #[.slice (some ⟨w.heap.size + 1 + 1, 0, none⟩) 0 0] 24)).alloc (.cells #[.string s] 9)).alloc (.cells #[.string ⟨#[32]⟩] 9)).alloc (.cells #[.int .i64 0] 3) = W at hsev hrow0 ⊢
  obtain ⟨hsz, b0, b1, -, b3, b4, b5, b6, hbW⟩ := hsev
  have hI0 : RdI w [] W := ⟨_, _, box_of b3 hbW, hrow0, Or.inl rfl, box_of b0 hbW, box_of b1 hbW, by simp⟩
  have e4 := box_of b4 hbW
  have e5 := box_of b5 hbW
  have e6 := box_of b6 hbW
  clear b0 b1 b3 b4 b5 b6 hrow0
  refine range_law (F := Fence.wide) (n := 3) rfl (by omega) (gf := 57) (lb := #[.pointer (some ⟨w.heap.size + 4 + 1, 0, none⟩), .pointer (some ⟨w.heap.size + 4, 0, none⟩), .pointer (some ⟨w.heap.size + 4 + 1 + 1, 0, none⟩)]) rfl trivial (enters_of Tryz.func57 (by kernel_rfl) rfl)
    (encs := fun x : ByteArray => #[.string x]) (Rel := fun A B => A.grownBy B (some (w.heap.size + 4))) (Kp := Keep (fun b => b ≤ w.heap.size + 3 ∨ w.heap.size + 7 ≤ b)) (S := fun xs => wsOf xs = cutW s.toList) (Sp := fun pre => ∃ r, cutW s.toList = wsOf pre ++ r) (N := 1048578)
    ?seq ?rel (fun _ _ _ h k => h.trans k) (fun A o _ => keep_put o (Or.inr (by omega))) (fun _ => rfl) (RdI w) (RdX w)
    (fun _ _ _ h hr => h.rel hr) (fun _ _ _ _ h hr => h.rel hr) (fun _ _ o h _ => by rw [hsz]; exact h.put o) (fun _ _ _ o h _ => by rw [hsz]; exact h.put o) ?start
    (fun x => { tmps := #[.string s, undef, .pointer (some ⟨w.heap.size, 0, none⟩), .pointer (some ⟨w.heap.size + 1, 0, none⟩), .pointer (some ⟨w.heap.size + 1 + 1 + 1, 0, none⟩), .string x, .slice (some ⟨w.heap.size + 1 + 1, 0, none⟩) 0 0, .string s, .func (.func 57) #[] #[.pointer (some ⟨w.heap.size + 4 + 1, 0, none⟩), .pointer (some ⟨w.heap.size + 4, 0, none⟩), .pointer (some ⟨w.heap.size + 4 + 1 + 1, 0, none⟩)], .string x, undef, undef, undef, undef, undef, undef, undef, undef, undef, undef, undef, undef, undef], defers := [] })
    ?assign ?body ?done ?stop
  case seq =>
    intro o o'
    have f4 := (e4.alloc o).alloc o'
    have f5 := (e5.alloc o).alloc o'
    have f6 := (e6.alloc o).alloc o'
    exact split_seq s ((W.alloc o).alloc o') (w.heap.size + 4) (3 - 1) _ hs f4.cell f4.thawed f5.cell f6.cell ⟨by omega, by omega, by omega⟩
  case rel =>
    intro A B b o h hb ha
    rw [h.block b (Array.getElem?_eq_some_iff.1 ha).1 (by intro e; injection e with e; omega)]
    exact ha
  case start =>
    intro o o'
    obtain ⟨g, c, h1, h2, h3, h4, h5, h6⟩ := hI0
    exact ⟨g, c, (h1.alloc o).alloc o', (h2.alloc o).alloc o', h3, (h4.alloc o).alloc o', (h5.alloc o).alloc o', h6⟩
  case assign =>
    intro l x A K hK
    gi_wp2
    exact hK
  case body =>
    intro l pre x A hI _ hlt
    rw [hsz] at hlt ⊢
    obtain ⟨g, c, h1, h2, h3, h4, h5, h6⟩ := hI
    obtain ⟨k, hk⟩ : ∃ k, pre.length = k := ⟨_, rfl⟩
    rw [hk] at h1 h2 h6
    have H1 := Lib.hid h1
    have H2 := Lib.hid h2
    have H3 := Lib.hid h3
    have H4 := Lib.hid h4
    have H5 := Lib.hid h5
    have HK := Lib.hid hk
    have c1 := h1.cell
    have z1 := h1.thawed
    have c4 := h4.cell
    have z4 := h4.thawed
    have c5 := h5.cell
    have z5 := h5.thawed
    have hl0 : w.heap.size < A.heap.size := by omega
    have hl1 : w.heap.size + 1 < A.heap.size := by omega
    have hl3 : w.heap.size + 3 < A.heap.size := by omega
    clear h1 h2 h3 h4 h5 hk hI0 e4 e5 e6 hbW
    by_cases h60 : k = 60
    · have hd : ((k : Int) == 60) = true := by simp; omega
      have HE := Lib.hid h60
      clear h60
      gi_wp2
      refine ⟨stay_trans (stay_set (c := w.heap.size) _ _ (by omega) (by omega)) (stay_trans (stay_set (c := w.heap.size + 1) _ _ (by omega) (by omega)) (stay_alloc _ (by rw [size_set, size_set]; exact hlt))), rfl, by rw [List.length_append, HK.out, HE.out]; rfl, A.heap.size, ?_, ?_, by omega, ?_⟩
      · exact ((H4.out.set _ (Nat.le_refl _)).other _ (d := w.heap.size + 1) (by omega) (by omega)).alloc _
      · exact owS_behind A _ (by omega) _ _ _ _
      · exact ((H5.out.other _ (d := w.heap.size) (by omega) (by omega)).set _ (by omega)).alloc _
    · have hd : ((k : Int) == 60) = false := by simp; omega
      have hk59 : k ≤ 59 := by omega
      have hnc := new_cell A (.string x) 9
      obtain ⟨v', B, hrun, hO, hg, hob⟩ := run_appS2 (A.alloc (.cells #[.string x] 9)) w.heap.size _ pre (H2.out.alloc _) A.heap.size x hnc (by rw [HK.out]; omega) (by simp; omega)
      obtain ⟨g', c', hv', -, -, hg1, hg2, -⟩ := hO.form
      have hkl : (pre ++ [x]).length = k + 1 := by rw [List.length_append, HK.out]; rfl
      rw [hkl] at hv'
      subst hv'
      have hgg : g' = g ∨ g' = A.heap.size + 1 := by
        rcases hob with h | h
        · simp only [Value.ownBlock] at h
          injection h with h
          exact Or.inl h
        · simp only [Value.ownBlock, World.size_alloc] at h
          injection h with h
          exact Or.inr h
      have h3 := H3.out
      have HGG := Lib.hid hgg
      have HKL := Lib.hid hkl
      have HRUN := Lib.hid hrun
      have HO := Lib.hid hO
      have HG := Lib.hid hg
      have hbx := (H1.out.alloc (.cells #[.string x] 9)).grown (r := g) hg (by omega) (by omega)
      have HBX := Lib.hid hbx
      have d1 := hbx.cell
      have e1 := hbx.thawed
      clear hrun hO hg hob hnc h60 hbx hgg hkl hg1 hg2 h3
      have HLT := Lib.hid hlt
      gi_wp2_with (gi_at_builtin; refine wp_appIn rfl _ _ rfl rfl _ _ rfl rfl HRUN.out ?_)
      have h3 := H3.out
      have hgg := HGG.out
      have hlt2 := HLT.out
      have hg : (A.alloc (.cells #[.string x] 9)).grownBy B (some g) := HG.out
      have hbz := hg.size
      rw [World.size_alloc] at hbz
      refine ⟨stay_trans (stay_alloc _ hlt2) (stay_trans (stay_grown hg (by simp; omega) (by omega) (by omega)) (stay_set (c := w.heap.size + 3) _ _ (by omega) (by omega))), ((keep_alloc A _).trans (keep_grown hg (by omega))).trans (keep_set _ (Or.inl (by show w.heap.size + 3 ≤ _; omega))), g', c', ?_, ?_, by omega, ?_, ?_, by rw [HKL.out]; omega⟩
      · rw [HKL.out]
        exact HBX.out.set _ (by omega)
      · rw [HKL.out]
        exact HO.out.kept (D.grown_set _ _ _ _) (own_ne (by show g' ≠ w.heap.size + 3; omega))
      · exact ((H4.out.alloc _).grown (r := g) hg (by omega) (by omega)).other _ (by omega) (by omega)
      · exact ((H5.out.alloc _).grown (r := g) hg (by omega) (by omega)).other _ (by omega) (by omega)
  case done =>
    intro xs A hS hI hK
    obtain ⟨g, c, h1, h2, h3, h4, h5, h6⟩ := hI
    have hsum := implSumOk_any _ xs A h2.row (pieces_small hs hS (by omega)) (HV.out.later h1.below)
    rw [hS] at hsum
    have hxs : xs = pieces s := ws_inj hS
    have hro : okSum (cutW s.toList) = readOk s := rfl
    rw [hro] at hsum
    obtain ⟨k, hk⟩ : ∃ k, xs.length = k := ⟨_, rfl⟩
    rw [hk] at h1 h2 h6 hsum
    have c1 := h1.cell
    have z1 := h1.thawed
    have HSUM := Lib.hid hsum
    have H2 := Lib.hid h2
    have H3 := Lib.hid h3
    have H4 := Lib.hid h4
    have H5 := Lib.hid h5
    have H1 := Lib.hid h1
    have HX := Lib.hid hxs
    have HK2 := Lib.hid hK
    have HB := Lib.hid h1.below
    have hlA : w.heap.size + 7 < A.heap.size := by
      have := (Array.getElem?_eq_some_iff.1 hK).1
      omega
    clear h1 h2 h3 h4 h5 hsum hxs hro hk hS hK hI0 e4 e5 e6 hbW
    cases hr : readOk s
    · rw [hr] at HSUM
      have hrd : readS s = [] := by unfold readS; rw [hr]; rfl
      have HRD := Lib.hid hrd
      have HRR := Lib.hid hr
      clear hrd hr
      gi_wp2_with fail
      refine into2 HSUM.out ?_
      rintro e w2 ⟨rfl, hb2⟩
      have HB2 := Lib.hid hb2
      have hsz2 := hb2.size
      have f4 := H4.out.rel hb2 (by omega) (by omega)
      have f5 := H5.out.rel hb2 (by omega) (by omega)
      have g4 := f4.cell
      have y4 := f4.thawed
      have g5 := f5.cell
      have y5 := f5.thawed
      have F4 := Lib.hid f4
      have F5 := Lib.hid f5
      have hlw0 : w.heap.size < w2.heap.size := by omega
      have hlw1 : w.heap.size + 1 < w2.heap.size := by omega
      have HKW := Lib.hid ((hb2.block _ (Array.getElem?_eq_some_iff.1 HK2.out).1).trans HK2.out)
      clear f4 f5 hb2
      dsimp only
      gi_wp2_with fail
      have b4 := ((F4.out.set (.slice (some ⟨w2.heap.size, 0, none⟩) 0 0) (Nat.le_refl _)).other (.bool false) (d := w.heap.size + 1) (by omega) (by omega)).alloc (.cells #[] 9)
      have b5 := ((F5.out.other (.slice (some ⟨w2.heap.size, 0, none⟩) 0 0) (d := w.heap.size) (by omega) (Nat.le_refl _)).set (.bool false) (by omega)).alloc (.cells #[] 9)
      have o4 := owS_behind w2 w.heap.size (by omega) ⟨w.heap.size, 0, none⟩ ⟨w.heap.size + 1, 0, none⟩ (.slice (some ⟨w2.heap.size, 0, none⟩) 0 0) (.bool false)
      have hK3 : (((w2.setCell ⟨w.heap.size, 0, none⟩ (.slice (some ⟨w2.heap.size, 0, none⟩) 0 0)).setCell ⟨w.heap.size + 1, 0, none⟩ (.bool false)).alloc (.cells #[] 9)).heap[W.heap.size]? = some (.deferred (some [])) := by
        refine older ?_
        rw [Below.heap_setCell _ _ _ _ (by show W.heap.size ≠ w.heap.size + 1; omega), Below.heap_setCell _ _ _ _ (by show W.heap.size ≠ w.heap.size; omega)]
        exact HKW.out
      refine ⟨by simp, Or.inl ⟨_, _, rfl, run_takeDeferred hK3, ?_⟩⟩
      have p4 := (b4.put (.deferred none) (b := W.heap.size) (by omega) (by omega)).cell
      have p5 := (b5.put (.deferred none) (b := W.heap.size) (by omega) (by omega)).cell
      refine ⟨.tuple #[.slice (some ⟨w2.heap.size, 0, none⟩) 0 0, .bool false], by simp [results, Tryz.results8, go_sem, p4, p5], _, by rw [HRR.out], ?_, b4.below.trans (below_put _ _ (by omega))⟩
      rw [HRD.out]
      exact o4.put _ (own_ne (by omega))
    · rw [hr] at HSUM
      have hrd : readS s = pieces s := by unfold readS; rw [hr]; rfl
      have HRD := Lib.hid hrd
      have HRR := Lib.hid hr
      clear hrd hr
      gi_wp2_with fail
      refine into2 HSUM.out ?_
      rintro e w2 ⟨rfl, hb2⟩
      have hsz2 := hb2.size
      have f1 := H1.out.rel hb2 (by omega) (by omega)
      have f4 := H4.out.rel hb2 (by omega) (by omega)
      have f5 := H5.out.rel hb2 (by omega) (by omega)
      have g1 := f1.cell
      have y1 := f1.thawed
      have g4 := f4.cell
      have y4 := f4.thawed
      have g5 := f5.cell
      have y5 := f5.thawed
      have F4 := Lib.hid f4
      have F5 := Lib.hid f5
      have hlw0 : w.heap.size < w2.heap.size := by omega
      have hlw1 : w.heap.size + 1 < w2.heap.size := by omega
      have HO2 := Lib.hid (H2.out.below hb2)
      have HKW := Lib.hid ((hb2.block _ (Array.getElem?_eq_some_iff.1 HK2.out).1).trans HK2.out)
      clear f1 f4 f5 hb2
      dsimp only
      gi_wp2_with fail
      have b4 := (F4.out.set (.slice (some ⟨g, 0, none⟩) k c) (Nat.le_refl _)).other (.bool true) (d := w.heap.size + 1) (by omega) (by omega)
      have b5 := (F5.out.other (.slice (some ⟨g, 0, none⟩) k c) (d := w.heap.size) (by omega) (Nat.le_refl _)).set (.bool true) (by omega)
      have h3 := H3.out
      have o4 := (HO2.out.kept (D.grown_set _ w.heap.size 0 (.slice (some ⟨g, 0, none⟩) k c)) (own_ne (by omega))).kept (D.grown_set _ (w.heap.size + 1) 0 (.bool true)) (own_ne (by omega))
      have hK3 : ((w2.setCell ⟨w.heap.size, 0, none⟩ (.slice (some ⟨g, 0, none⟩) k c)).setCell ⟨w.heap.size + 1, 0, none⟩ (.bool true)).heap[W.heap.size]? = some (.deferred (some [])) := by
        rw [Below.heap_setCell _ _ _ _ (by show W.heap.size ≠ w.heap.size + 1; omega), Below.heap_setCell _ _ _ _ (by show W.heap.size ≠ w.heap.size; omega)]
        exact HKW.out
      refine ⟨by simp, Or.inl ⟨_, _, rfl, run_takeDeferred hK3, ?_⟩⟩
      have p4 := (b4.put (.deferred none) (b := W.heap.size) (by omega) (by omega)).cell
      have p5 := (b5.put (.deferred none) (b := W.heap.size) (by omega) (by omega)).cell
      refine ⟨.tuple #[.slice (some ⟨g, 0, none⟩) k c, .bool true], by simp [results, Tryz.results8, go_sem, p4, p5], _, by rw [HRR.out], ?_, b4.below.trans (below_put _ _ (by omega))⟩
      rw [HRD.out, ← HX.out]
      exact o4.put _ (own_ne (by omega))
  case stop =>
    intro cd pre A hSp hI hK
    obtain ⟨rfl, hlen, g, h1, h2, h3, h4⟩ := hI
    obtain ⟨r, hcut⟩ := hSp
    have hno := readOk_no hcut hlen
    have hrd : readS s = [] := by unfold readS; rw [hno]; rfl
    have c1 := h1.cell
    have c4 := h4.cell
    have HRD := Lib.hid hrd
    have HNO := Lib.hid hno
    clear hrd hno hcut hlen
    gi_wp2
    refine ⟨by simp, Or.inl ⟨_, _, rfl, run_takeDeferred hK, ?_⟩⟩
    have p4 := (h1.put (.deferred none) (b := W.heap.size) (by omega) (by omega)).cell
    have p5 := (h4.put (.deferred none) (b := W.heap.size) (by omega) (by omega)).cell
    refine ⟨.tuple #[.slice (some ⟨g, 0, none⟩) 0 0, .bool false], by simp [results, Tryz.results8, go_sem, p4, p5], _, by rw [HNO.out], ?_, h1.below.trans (below_put _ _ (by omega))⟩
    rw [HRD.out]
    exact h2.put _ (own_ne (by omega))

end L2
end Go.Proofs.YtgcjmhecnbhhlaaGreatDoor
