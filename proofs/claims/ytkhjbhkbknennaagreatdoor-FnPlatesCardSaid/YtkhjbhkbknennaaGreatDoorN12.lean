/-
  The model's splitting at '/' and its looking for a word (written by wip/gen_n12.py).
-/
import Derived.Test.YtkhjbhkbknennaaGreatDoorN11
import Derived.Test.YtkhjbhkbknennaaGreatDoorGY
import Derived.Lib.QuietBelow
import Derived.BigQuiet
namespace Go.Proofs.YtkhjbhkbknennaaGreatDoor
open Go.RowKit Go.Sort
namespace L2
open S1 L1

/-- A row of words in a block from B on, to which may be appended. -/
def OwZ (w : World) (B : Nat) (v : Value) (xs : List ByteArray) : Prop :=
  w.ownsRow B 9 1 v xs.length (xs.map Value.string) ∧ v ≠ .slice none 0 0

theorem OwZ.form {w : World} {B : Nat} {v : Value} {xs : List ByteArray} (h : OwZ w B v xs) : ∃ g cap, v = .slice (some ⟨g, 0, none⟩) xs.length cap ∧ xs.length ≤ cap ∧ cap ≤ maxLen ∧ B ≤ g ∧ g < w.heap.size ∧ ∀ i, i < xs.length → w.cell? ⟨g, i, none⟩ = some (.string (xs.getD i ByteArray.empty)) ∧ w.frozen? ⟨g, i, none⟩ = false := by
  obtain ⟨ho, hn⟩ := h
  rcases ho.2 with ⟨hv, _⟩ | ⟨g, cap, cur, hv, hb, hg, h1, h2, hs, ht⟩
  · exact absurd hv hn
  · refine ⟨g, cap, hv, h1, h2, hb, (Array.getElem?_eq_some_iff.1 hg).1, fun i hi => ⟨?_, by simp [World.frozen?, hg]⟩⟩
    have hl : (xs.map Value.string)[i]? = some (.string (xs.getD i ByteArray.empty)) := by
      simp [List.getD, hi]
    have := ho.cells (g := g) (by rw [hv]; rfl) i _ hl
    have hadd : (⟨g, 0, none⟩ : Addr).add i = ⟨g, i, none⟩ := by unfold Addr.add; split <;> simp_all
    rwa [hadd] at this
theorem OwZ.kept {w w' : World} {B : Nat} {v : Value} {xs : List ByteArray} {row : Option Nat} (h : OwZ w B v xs) (hg : w.grownBy w' row) (hne : v.ownBlock ≠ row) : OwZ w' B v xs :=
  ⟨h.1.kept hg (Or.inr hne), h.2⟩
theorem OwZ.below {w w' : World} {B : Nat} {v : Value} {xs : List ByteArray} (h : OwZ w B v xs) (hb : Below w.heap.size w w') : OwZ w' B v xs := by
  obtain ⟨g, cap, rfl, _⟩ := h.form
  exact h.kept (D.grown_of_below hb none) (by simp [Value.ownBlock])
theorem OwZ.alloc {w : World} {B : Nat} {v : Value} {xs : List ByteArray} (h : OwZ w B v xs) (o : Obj) : OwZ (w.alloc o) B v xs := ⟨h.1.alloc o, h.2⟩
theorem OwZ.base {w : World} {B B' : Nat} {v : Value} {xs : List ByteArray} (h : OwZ w B v xs) (hB : B' ≤ B) : OwZ w B' v xs := by
  obtain ⟨ho, hn⟩ := h
  refine ⟨⟨ho.1, ?_⟩, hn⟩
  rcases ho.2 with hv | ⟨g, cap, cur, hv, hb, rest⟩
  · exact Or.inl hv
  · exact Or.inr ⟨g, cap, cur, hv, Nat.le_trans hB hb, rest⟩
theorem owZ_new (w : World) (B : Nat) (hB : B ≤ w.heap.size) : OwZ (w.alloc (.cells #[] 9)) B (.slice (some ⟨w.heap.size, 0, none⟩) 0 0) [] :=
  ⟨World.ownsRow_made w #[] 0 hB (by unfold maxLen; omega) (by simp), by simp⟩

/-- Appending words that lie at an address. -/
theorem run_appZ (w : World) (B : Nat) (v : Value) (xs : List ByteArray) (hown : OwZ w B v xs) (g : Nat) (ys : List ByteArray) (c : Nat)
    (hsrc : ∀ j, j < ys.length → w.cell? ⟨g, j, none⟩ = some (.string (ys.getD j ByteArray.empty))) (hs : xs.length + ys.length ≤ 10000000) (hB : B ≤ w.heap.size) :
    ∃ v' w', (Builtin.append_ #[24, 24] 24 #[v, .slice (some ⟨g, 0, none⟩) ys.length c]).run Tryz.prog w = .ok v' w' ∧ OwZ w' B v' (xs ++ ys) ∧ w.grownBy w' v.ownBlock := by
  obtain ⟨ho, hn⟩ := hown
  obtain ⟨i, hi, hz, hsz, hby⟩ := str_info
  obtain ⟨v', w', hr, h2, h3, h4, h5⟩ := run_append_own_at (P := Tryz.prog) w B 24 24 9 i (.string ByteArray.empty) 1 16 Tryz.underlying24 hi hz hsz hby rfl (by omega) v xs.length _ ho ⟨g, 0, none⟩ ys.length c (ys.map Value.string) (by simp)
    (fun j u hj => by
      simp only [List.getElem?_map, Option.map_eq_some_iff] at hj
      obtain ⟨a, ha, rfl⟩ := hj
      have hlt := (List.getElem?_eq_some_iff.1 ha).1
      have := hsrc j hlt
      rw [add0]
      simpa [List.getD, ha] using this)
    (fun u hu => by
      simp only [List.mem_map] at hu
      obtain ⟨a, _, rfl⟩ := hu
      rfl) (by unfold maxLen; omega) (by omega) hB
  refine ⟨v', w', hr, ⟨?_, fun e => hn (h4.1 e).1⟩, h3⟩
  rw [List.map_append, List.length_append]
  exact h2

theorem run_appZ1 (w : World) (B : Nat) (v : Value) (xs : List ByteArray) (hown : OwZ w B v xs) (g : Nat) (s : ByteArray)
    (hc : w.cell? ⟨g, 0, none⟩ = some (.string s)) (hs : xs.length ≤ 9000000) (hB : B ≤ w.heap.size) :
    ∃ v' w', (Builtin.append_ #[24, 24] 24 #[v, .slice (some ⟨g, 0, none⟩) 1 1]).run Tryz.prog w = .ok v' w' ∧ OwZ w' B v' (xs ++ [s]) ∧ w.grownBy w' v.ownBlock :=
  run_appZ w B v xs hown g [s] 1 (fun j hj => by
    have : j = 0 := by simpa using hj
    subst this
    exact hc) (by simp; omega) hB

/-- Words written out. -/
theorem owZ_lit (w : World) (B : Nat) (ss : List ByteArray) (hB : B ≤ w.heap.size) (hn : ss.length ≤ 1000) :
    OwZ (w.alloc (.cells (ss.map Value.string).toArray 9)) B (.slice (some ⟨w.heap.size, 0, none⟩) ss.length ss.length) ss := by
  refine ⟨?_, by simp⟩
  have h := World.ownsRow_lit (base := B) (e := 9) (size := 1) w (ss.map Value.string).toArray ss.length hB (by unfold maxLen; omega) (by simp)
  simpa using h
theorem OwZ.row {w : World} {B : Nat} {v : Value} {ss : List ByteArray} (h : OwZ w B v ss) : Row w v ss := by
  obtain ⟨g, cap, hv, h1, h2, h3, h4, h5⟩ := h.form
  exact ⟨_, cap, hv, h1, h2, fun i hi => ⟨g, 0, rfl, h4, by rw [Nat.zero_add]; exact (h5 i hi).1⟩⟩

/-- ShortZ words. -/
def ShortZ (ss : List ByteArray) : Prop := ∀ s ∈ ss, s.size ≤ 20
theorem ShortZ.append {a b : List ByteArray} (h : ShortZ a) (k : ShortZ b) : ShortZ (a ++ b) := fun s hs => by
  rcases List.mem_append.1 hs with h1 | h1
  · exact h s h1
  · exact k s h1
theorem ShortZ.small {ss : List ByteArray} (h : ShortZ ss) (hn : ss.length ≤ 1000) : Small ss :=
  ⟨by omega, fun i hi => by
    have : ss.getD i ByteArray.empty = ss[i] := by simp [List.getD, hi]
    rw [this]
    have := h _ (List.getElem_mem hi)
    omega⟩

theorem newS_cell (W : World) (v : Value) (t : TypeId) : (W.alloc (.cells #[v] t)).cell? ⟨W.heap.size, 0, none⟩ = some v := by
  have h := heap_alloc_new W (.cells #[v] t)
  simp only [World.cell?, h]
  rfl
/-- The pieces of a text as texts. -/
def piecesS (s : ByteArray) : List ByteArray := (cutS s.toList).map fun l => ⟨l.toArray⟩
theorem wsS_inj {ss : List ByteArray} {l : List (List UInt8)} (h : wsOf ss = l) : ss = l.map fun x => ⟨x.toArray⟩ := by
  rw [← h]
  unfold wsOf
  rw [List.map_map]
  conv => lhs; rw [← List.map_id ss]
  refine List.map_congr_left fun x _ => ?_
  exact of_toList rfl
theorem ws_piecesS (s : ByteArray) : wsOf (piecesS s) = cutS s.toList := by
  unfold piecesS wsOf
  rw [List.map_map]
  conv => rhs; rw [← List.map_id (cutS s.toList)]
  refine List.map_congr_left fun x _ => ?_
  show (⟨x.toArray⟩ : ByteArray).toList = x
  rw [Lib.toList_data]
theorem extS_list (r : ByteArray) (i j : Nat) : (r.extract i j).toList = (r.toList.take j).drop i := by
  rw [Lib.toList_data, Lib.toList_data, ByteArray.data_extract, Array.toList_extract, List.extract_eq_take_drop]
  rw [List.drop_take]
theorem wsS_snoc (pre : List ByteArray) (x : ByteArray) : wsOf (pre ++ [x]) = wsOf pre ++ [x.toList] := by simp [wsOf]
theorem signS_at (s : ByteArray) (i : Nat) (h : i < s.size) : s.toList.drop i = (s[i]'h) :: s.toList.drop (i + 1) := by
  rw [Lib.toList_data, List.drop_eq_getElem_cons (by exact h)]
  rfl
theorem segS_more (s : ByteArray) (f i : Nat) (h : i < s.size) (hf : f ≤ i) : (s.toList.take (i + 1)).drop f = (s.toList.take i).drop f ++ [s[i]'h] := by
  have hl : i < s.toList.length := by rw [← size_list]; exact h
  have e : s.toList.take (i + 1) = s.toList.take i ++ [s[i]'h] := by
    rw [List.take_add_one]
    congr 1
    rw [List.getElem?_eq_getElem hl]
    simp only [Option.toList_some]
    congr 1
    have : ∀ (l : List UInt8) (hh : i < l.length), l = s.data.toList → l[i] = s[i]'h := fun l hh e => by subst e; rfl
    exact this _ hl (Lib.toList_data s)
  rw [e, List.drop_append_of_le_length (by rw [List.length_take]; omega)]
/-- What the splitting has done at place i, the last piece having begun at f. -/
def CuttingS (s : ByteArray) (acc : List ByteArray) (f i : Nat) : Prop :=
  (i ≤ s.size ∧ f ≤ i ∧ wsOf acc ++ ontoS ((s.toList.take i).drop f) (cutS (s.toList.drop i)) = cutS s.toList) ∨ (i = s.size + 1 ∧ wsOf acc = cutS s.toList)
theorem cuttingS_start (s : ByteArray) : CuttingS s [] 0 0 := Or.inl ⟨Nat.zero_le _, Nat.le_refl _, by simp [wsOf, ontoS_nil]⟩
theorem cuttingS_sign {s : ByteArray} {acc : List ByteArray} {f i : Nat} (h : CuttingS s acc f i) (hi : i < s.size) (hc : (s[i]'hi) ≠ 47) : CuttingS s acc f (i + 1) := by
  rcases h with ⟨h1, h2, h3⟩ | ⟨h1, _⟩
  · refine Or.inl ⟨hi, by omega, ?_⟩
    rw [segS_more s f i hi h2, ← ontoS_sign _ _ _ hc, ← signS_at s i hi]
    exact h3
  · omega
theorem cuttingS_slash {s : ByteArray} {acc : List ByteArray} {f i : Nat} (h : CuttingS s acc f i) (hi : i < s.size) (hc : (s[i]'hi) = 47) : CuttingS s (acc ++ [s.extract f i]) (i + 1) (i + 1) := by
  rcases h with ⟨h1, h2, h3⟩ | ⟨h1, _⟩
  · refine Or.inl ⟨hi, Nat.le_refl _, ?_⟩
    rw [signS_at s i hi, hc, ontoS_slash] at h3
    have e : (s.toList.take (i + 1)).drop (i + 1) = [] := by simp
    rw [e, ontoS_nil, wsS_snoc, extS_list, List.append_assoc]
    exact h3
  · omega
theorem cuttingS_end {s : ByteArray} {acc : List ByteArray} {f : Nat} (h : CuttingS s acc f s.size) : CuttingS s (acc ++ [s.extract f s.size]) (s.size + 1) (s.size + 1) := by
  rcases h with ⟨h1, h2, h3⟩ | ⟨h1, _⟩
  · refine Or.inr ⟨rfl, ?_⟩
    have e : s.toList.drop s.size = [] := by rw [size_list]; simp
    rw [e, ontoS_end] at h3
    rw [wsS_snoc, extS_list]
    exact h3
  · omega

set_option maxRecDepth 100000 in
set_option maxHeartbeats 4000000 in
theorem l1SplitS_any (s : ByteArray) (hs : s.size ≤ 1048576) (w : World) :
    Calls Tryz.prog 57 #[.string s, .int .u8 47] w fun e w' => ∃ v, e = .returned v ∧ OwZ w' w.heap.size v (piecesS s) ∧ Below w.heap.size w w' := by
  have H0 := Lib.hid (owZ_new w w.heap.size (Nat.le_refl _))
  have HC0 := Lib.hid (cuttingS_start s)
  go_enter Tryz.func57, Tryz.ntmps57
  go_wp2
  go_loopw [5, 6, 7] (fun o p q wr => ∃ (i f : Nat) (acc : List ByteArray), OwZ wr w.heap.size o acc ∧ p = .int .i64 (f : Int) ∧ q = .int .i64 (i : Int) ∧ Below w.heap.size w wr ∧ acc.length ≤ i ∧ f ≤ 1048577 ∧ i ≤ s.size + 1 ∧ Hid (CuttingS s acc f i)) (fun _ _ q _ => s.size + 1 - (intOf q).toNat)
  case atStart => exact ⟨0, 0, [], H0.out, rfl, rfl, (Below.refl _ _).alloc (Nat.le_refl _) _, by simp, by omega, by omega, HC0⟩
  case round =>
    obtain ⟨i, f, acc, hO, rfl, rfl, hB, hal, hf, hi, hC⟩ := hrel
    obtain ⟨g, cp, rfl, -, -, hg, hgl, -⟩ := hO.form
    have HO := Lib.hid hO
    have HB := Lib.hid hB
    have hwsz := hB.size
    clear hO hB
    by_cases hend : i = s.size + 1
    · have hn : ¬ (i : Int) ≤ (s.size : Int) := by omega
      have hp : wsOf acc = cutS s.toList := by
        rcases hC.out with ⟨h1, _⟩ | ⟨_, h⟩
        · omega
        · exact h
      have HP := Lib.hid (wsS_inj hp)
      clear hp hend
      go_wp2
      go_ret
      refine ⟨_, rfl, ?_, HB.out⟩
      have e : acc = piecesS s := HP.out
      rw [← e]
      exact HO.out
    · have hle : (i : Int) ≤ (s.size : Int) := by omega
      have hfi : f ≤ i := by
        rcases hC.out with ⟨_, h, _⟩ | ⟨h, _⟩
        · exact h
        · omega
      have app : ∀ (x : ByteArray), ∃ v' w', (Builtin.append_ #[24, 24] 24 #[.slice (some ⟨g, 0, none⟩) acc.length cp, .slice (some ⟨wr.heap.size, 0, none⟩) 1 1]).run Tryz.prog (wr.alloc (.cells #[.string x] 9)) = .ok v' w' ∧ OwZ w' w.heap.size v' (acc ++ [x]) ∧ Below w.heap.size w w' := fun x => by
        obtain ⟨v', w', hr, ho, hgr⟩ := run_appZ1 (wr.alloc (.cells #[.string x] 9)) w.heap.size _ acc (HO.out.alloc _) wr.heap.size x (newS_cell _ _ _) (by omega) (by simp; omega)
        exact ⟨v', w', hr, ho, (HB.out.alloc hwsz _).grown hgr (by simp; omega) (fun q e => by simp only [Value.ownBlock] at e; injection e with e; omega)⟩
      by_cases hlast : i = s.size
      · have heq : ((i : Int) == (s.size : Int)) = true := by simp; omega
        have hfl : f ≤ s.size := by omega
        obtain ⟨v', w', hrun, ho, hb⟩ := app (s.extract f i)
        have HRUN := Lib.hid hrun
        have HO2 := Lib.hid ho
        have HB2 := Lib.hid hb
        have HL := Lib.hid hlast
        have hff : (f : Int) ≤ (i : Int) := by omega
        have hf0 : (0 : Int) ≤ (f : Int) := by omega
        clear app hrun ho hb hlast hend
        go_wp2_with (at_builtin; refine wp_app rfl _ _ rfl rfl _ _ rfl rfl HRUN.out ?_)
        refine ⟨⟨i + 1, i + 1, acc ++ [s.extract f i], HO2.out, by go_num, by go_num, HB2.out, by simp; omega, by omega, by omega, Lib.hid ?_⟩, by simp [intOf]; omega⟩
        have hl := HL.out
        subst hl
        exact cuttingS_end hC.out
      · have heq : ((i : Int) == (s.size : Int)) = false := by simp; omega
        have hil : i < s.size := by omega
        by_cases hb : (s[i]'hil) = 47
        · have h32 : (((s[i]'hil).toNat : Int) == 47) = true := by rw [hb]; rfl
          have hfl : f ≤ s.size := by omega
          obtain ⟨v', w', hrun, ho, hbl⟩ := app (s.extract f i)
          have HRUN := Lib.hid hrun
          have HO2 := Lib.hid ho
          have HB2 := Lib.hid hbl
          have HCB := Lib.hid (cuttingS_slash hC.out hil hb)
          have hff : (f : Int) ≤ (i : Int) := by omega
          have hf0 : (0 : Int) ≤ (f : Int) := by omega
          clear app hrun ho hbl hlast hend hb
          go_wp2_with (at_builtin; refine wp_app rfl _ _ rfl rfl _ _ rfl rfl HRUN.out ?_)
          exact ⟨⟨i + 1, i + 1, acc ++ [s.extract f i], HO2.out, by go_num, by go_num, HB2.out, by simp; omega, by omega, by omega, HCB⟩, by simp [intOf]; omega⟩
        · have h32 : (((s[i]'hil).toNat : Int) == 47) = false := by
            have := byte_eq (s[i]'hil) 47
            rw [decide_eq_false hb] at this
            exact this.symm
          have HCB := Lib.hid (cuttingS_sign hC.out hil hb)
          clear app hlast hend hb
          go_wp2
          go_roundw
          case rel => exact ⟨i + 1, f, acc, HO.out, rfl, by go_num, HB.out, by omega, by omega, by omega, HCB⟩
          case measure => simp [intOf]; omega


/-- The words of the kinds, as a row. -/
def kindRow : List ByteArray := [kindB 1, kindB 2, kindB 3, kindB 4, kindB 5, kindB 6, kindB 7, kindB 8]
theorem row_words {w : World} {g : Nat} (hg : g < w.heap.size) (hc : ∀ j : Nat, j < 8 → w.cell? ⟨g, j, none⟩ = some (.string (kindB ((j : Int) + 1)))) : Row w (.slice (some ⟨g, 0, none⟩) 8 8) kindRow := by
  refine ⟨_, 8, rfl, Nat.le_refl _, by unfold maxLen; omega, fun i hi => ⟨g, 0, rfl, hg, ?_⟩⟩
  rw [Nat.zero_add, hc i hi]
  match i, hi with
  | 0, _ => rfl
  | 1, _ => rfl
  | 2, _ => rfl
  | 3, _ => rfl
  | 4, _ => rfl
  | 5, _ => rfl
  | 6, _ => rfl
  | 7, _ => rfl
/-- Where a word stands first. -/
def FoundAt (ss : List ByteArray) (t : List UInt8) (w : World) (e : Ending) (w' : World) : Prop :=
  ∃ r : Int, e = .returned (.int .i64 r) ∧ w = w' ∧ ((r = -1 ∧ ∀ j, j < ss.length → ((ss.getD j ByteArray.empty).toList == t) = false) ∨ ∃ k : Nat, k < ss.length ∧ r = (k : Int) ∧ ((ss.getD k ByteArray.empty).toList == t) = true)
set_option maxRecDepth 100000 in
set_option maxHeartbeats 1000000 in
theorem l1AtX_any (v : Value) (ss : List ByteArray) (t : ByteArray) (w : World) (hR : Row w v ss) :
    Calls Tryz.prog 60 #[v, .string t] w (FoundAt ss t.toList w) := by
  obtain ⟨oa, cap, rfl, h1, h2, h3⟩ := hR
  obtain ⟨n, hn⟩ : ∃ n, ss.length = n := ⟨_, rfl⟩
  rw [hn] at h1 h3 ⊢
  unfold maxLen at h2
  have Hn := Lib.hid hn
  have H3 := Lib.hid h3
  clear hn h3
  go_enter Tryz.func60, Tryz.ntmps60
  go_wp2
  go_loop [5] (fun i => ∃ k : Nat, k ≤ n ∧ i = .int .i64 (k : Int) ∧ Hid (∀ j, j < k → ((ss.getD j ByteArray.empty).toList == t.toList) = false)) (fun i => n - (intOf i).toNat)
  case atStart => exact ⟨0, Nat.zero_le _, rfl, Lib.hid (by intro j hj; omega)⟩
  case round =>
    obtain ⟨k, hk, rfl, hall⟩ := hrel
    by_cases hlt : k < n
    · obtain ⟨b, off, rfl, hb, hc⟩ := H3.out k hlt
      obtain ⟨s, hs2⟩ : ∃ s, ss.getD k ByteArray.empty = s := ⟨_, rfl⟩
      rw [hs2] at hc
      have Hs := Lib.hid hs2
      clear hs2
      have hki : (k : Int) < (n : Int) := by omega
      cases hx : (s.toList == t.toList)
      · go_wp2
        go_round
        case rel =>
          refine ⟨k + 1, by omega, by go_num, Lib.hid (fun j hj => ?_)⟩
          by_cases e : j = k
          · subst e; rw [Hs.out]; exact hx
          · exact hall.out j (by omega)
        case measure => simp [intOf]; omega
      · have Hx := Lib.hid hx
        go_wp2
        go_ret
        exact ⟨_, rfl, rfl, Or.inr ⟨k, by rw [Hn.out]; exact hlt, rfl, by rw [Hs.out]; exact Hx.out⟩⟩
    · have hki : ¬ (k : Int) < (n : Int) := by omega
      go_wp2
      go_ret
      exact ⟨_, rfl, rfl, Or.inl ⟨rfl, fun j hj => hall.out j (by rw [Hn.out] at hj; omega)⟩⟩
theorem kindN_range (l : List UInt8) : 0 ≤ kindN l ∧ kindN l ≤ 8 := by
  unfold kindN
  repeat' split
  all_goals omega
theorem kindRow_at (j : Nat) (h : j < 8) : (kindRow.getD j ByteArray.empty).toList = kindW ((j : Int) + 1) := by
  match j, h with
  | 0, _ => exact list_of _
  | 1, _ => exact list_of _
  | 2, _ => exact list_of _
  | 3, _ => exact list_of _
  | 4, _ => exact list_of _
  | 5, _ => exact list_of _
  | 6, _ => exact list_of _
  | 7, _ => exact list_of _
theorem l1Kind_any (g : Nat) (t : ByteArray) (w : World) (hg : g < w.heap.size) (hc : ∀ j : Nat, j < 8 → w.cell? ⟨g, j, none⟩ = some (.string (kindB ((j : Int) + 1)))) :
    Calls Tryz.prog 60 #[.slice (some ⟨g, 0, none⟩) 8 8, .string t] w fun e w' => e = .returned (.int .i64 (kindN t.toList - 1)) ∧ w = w' := by
  refine (l1AtX_any _ kindRow t w (row_words hg hc)).mono ?_
  rintro e w' ⟨r, rfl, rfl, h⟩
  refine ⟨?_, rfl⟩
  have hr := kindN_range t.toList
  rcases h with ⟨rfl, h⟩ | ⟨k, hk, rfl, h⟩
  · have : kindN t.toList = 0 := by
      rcases Int.lt_or_le 0 (kindN t.toList) with hp | hp
      · exfalso
        have hb := kindN_back (l := t.toList) (by omega)
        obtain ⟨j, hj⟩ : ∃ j : Nat, kindN t.toList = (j : Int) + 1 := ⟨(kindN t.toList - 1).toNat, by omega⟩
        have hj8 : j < 8 := by omega
        have h2 := h j hj8
        rw [kindRow_at j hj8, ← hj, ← hb] at h2
        simp at h2
      · omega
    rw [this]
    rfl
  · have hk8 : k < 8 := hk
    rw [kindRow_at k hk8, beq_iff_eq] at h
    rw [← h, kindN_word (by omega) (by omega)]
    simp

end L2
end Go.Proofs.YtkhjbhkbknennaaGreatDoor
