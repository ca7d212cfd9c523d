/-
  strings.SplitSeq at a blank: the library's iterator, whatever is done with the pieces.
-/
import Derived.Test.YtgcjmhecnbhhlaaGreatDoorR3
import Derived.Test.YtgcjmhecnbhhlaaGreatDoorShelf
namespace Go.Proofs.YtgcjmhecnbhhlaaGreatDoor
open Go.RowKit Go.Shelf
namespace L2
open S1 L1 RF
attribute [local go_sem] Oper.semAt_some

theorem splitSeq_any (s : ByteArray) (w : World) : Calls Tryz.prog 27 #[.string s, .string ⟨#[32]⟩] w fun e w' => e = .returned (.func (.func 57) #[] #[.pointer (some ⟨w.heap.size + 1, 0, none⟩), .pointer (some ⟨w.heap.size, 0, none⟩), .pointer (some ⟨w.heap.size + 1 + 1, 0, none⟩)]) ∧
    w' = ((w.alloc (.cells #[.string s] 9)).alloc (.cells #[.string ⟨#[32]⟩] 9)).alloc (.cells #[.int .i64 0] 3) := by
  go_enter Tryz.func27, Tryz.ntmps27
  go_wp2
  go_ret
  exact ⟨rfl, rfl⟩

theorem list_ext {a : ByteArray} {l : List UInt8} (h : a.toList = l) : a = ⟨l.toArray⟩ := of_toList h
theorem ext_list (r : ByteArray) (i j : Nat) : (r.extract i j).toList = (r.toList.take j).drop i := by
  rw [Lib.toList_data, Lib.toList_data, ByteArray.data_extract, Array.toList_extract, List.extract_eq_take_drop]
  rw [List.drop_take]
/-- What is left of the text that is parted. -/
def strAt (b : Nat) (w : World) : Nat := match w.cell? ⟨b, 0, none⟩ with
  | some (.string r) => r.size
  | _ => 0
theorem wsOf_snoc (pre : List ByteArray) (x : ByteArray) : wsOf (pre ++ [x]) = wsOf pre ++ [x.toList] := by simp [wsOf]
theorem keep_cells {X : Nat → Prop} {A B : World} (h : Keep X A B) {b : Nat} {u : Value} (hc : A.cell? ⟨b, 0, none⟩ = some u) (hf : A.frozen? ⟨b, 0, none⟩ = false) (hx : ¬ X b) : B.cell? ⟨b, 0, none⟩ = some u ∧ B.frozen? ⟨b, 0, none⟩ = false := by
  have hb := h.block b (World.block_lt_of_cell? A _ hc) hx
  exact ⟨(World.cell?_of_block (a := ⟨b, 0, none⟩) hb).trans hc, (World.frozen?_of_block (a := ⟨b, 0, none⟩) hb).trans hf⟩

set_option maxRecDepth 100000 in
set_option maxHeartbeats 4000000 in
theorem split_seq (s : ByteArray) (W0 : World) (bs n : Nat) (X : Nat → Prop) (hs : s.size ≤ 1048576)
    (hbs : W0.cell? ⟨bs, 0, none⟩ = some (.string s)) (hfs : W0.frozen? ⟨bs, 0, none⟩ = false) (hsep : W0.cell? ⟨bs + 1, 0, none⟩ = some (.string ⟨#[32]⟩)) (hsv : W0.cell? ⟨bs + 1 + 1, 0, none⟩ = some (.int .i64 0))
    (hX : ¬ X bs ∧ ¬ X (bs + 1) ∧ ¬ X (bs + 1 + 1)) :
    SeqOf Fence.wide n Tryz.prog 57 #[.pointer (some ⟨bs + 1, 0, none⟩), .pointer (some ⟨bs, 0, none⟩), .pointer (some ⟨bs + 1 + 1, 0, none⟩)] (fun x : ByteArray => #[.string x]) (fun A B => A.grownBy B (some bs)) (Keep X)
      (fun xs => wsOf xs = cutW s.toList) (fun pre => ∃ r, cutW s.toList = wsOf pre ++ r) 1048578 W0 := by
  intro l J Jx hJ _ hY h0
  have HJ := Lib.hid hJ
  have HY := Lib.hid hY
  have H0 := Lib.hid h0
  have HX := Lib.hid hX
  clear hJ hY h0 hX
  refine callsIn_of_wp Tryz.func57 rfl trivial ?_ rfl; simp only [Tryz.ntmps57, List.size_toArray, List.length_cons, List.length_nil, Nat.reduceAdd, Nat.reduceSub, Array.replicate_succ, Array.replicate_zero, List.push_toArray, List.append_toArray, List.nil_append, List.cons_append]
  gi_wp2_with fail
  gi_loopw [7] (fun _ wr => ∃ (r : ByteArray) (pre : List ByteArray), wr.cell? ⟨bs, 0, none⟩ = some (.string r) ∧ wr.frozen? ⟨bs, 0, none⟩ = false ∧ wr.cell? ⟨bs + 1, 0, none⟩ = some (.string ⟨#[32]⟩) ∧ wr.cell? ⟨bs + 1 + 1, 0, none⟩ = some (.int .i64 0) ∧
      Hid (cutW s.toList = wsOf pre ++ cutW r.toList) ∧ pre.length + r.size ≤ 1048576 ∧ Hid (J pre wr)) (fun _ wr => strAt bs wr)
  case atStart => exact ⟨s, [], hbs, hfs, hsep, hsv, rfl, by simpa using hs, H0⟩
  case round =>
    clear hbs hfs hsep hsv
    obtain ⟨r, pre, hr, hf, hsep, hsv, hcut, hsz, hJr⟩ := hrel
    have hidx := Tryz.strings_Index_one r 32 wr
    rw [← Lib.toList_data] at hidx
    obtain ⟨hno, hyes⟩ := cut_index r.toList
    obtain ⟨q, hq⟩ : ∃ q, Lib.indexByte r.toList 32 = q := ⟨_, rfl⟩
    rw [hq] at hidx hno hyes
    by_cases hneg : q < 0
    · obtain ⟨rfl, hone⟩ := hno hneg
      obtain ⟨fn, tmps, assign, body, hy, hRd⟩ := HY.out pre r wr hJr.out (by omega)
      have HI := Lib.hid hidx
      have HRD := Lib.hid hRd
      have HONE := Lib.hid hone
      clear hidx hno hyes hq hRd hone hneg
      gi_wp2_with fail
      refine into HI.out ?_
      rintro e w2 ⟨rfl, rfl⟩
      gi_wp2_with fail
      refine ⟨fun h => (by cases h), HRD.out.mono ?_⟩
      rintro e W' (⟨rfl, hJ3, hkp⟩ | ⟨rfl, hJx3⟩)
      · have HJ3 := Lib.hid hJ3
        clear hJ3 hkp
        gi_wp2_with fail
        go_end0
        exact ⟨⟨_, rfl⟩, Or.inl ⟨_, by rw [wsOf_snoc, hcut.out, HONE.out], HJ3.out⟩⟩
      · have HJX := Lib.hid hJx3
        clear hJx3
        gi_wp2_with fail
        go_end0
        exact ⟨⟨_, rfl⟩, Or.inr ⟨_, ⟨[], by rw [wsOf_snoc, hcut.out, HONE.out]; simp⟩, HJX.out⟩⟩
    · obtain ⟨i, rfl⟩ : ∃ i : Nat, q = (i : Int) := ⟨q.toNat, by omega⟩
      obtain ⟨hlt, hcw⟩ := hyes (by omega)
      rw [Int.toNat_natCast] at hlt hcw
      rw [← size_list] at hlt
      have e1 : (r.extract 0 i).toList = r.toList.take i := by rw [ext_list]; simp
      have e2 : (r.extract (i + 1) r.size).toList = r.toList.drop (i + 1) := by rw [ext_list, List.take_of_length_le (by rw [size_list]; exact Nat.le_refl _)]
      obtain ⟨fn, tmps, assign, body, hy, hRd⟩ := HY.out pre (r.extract 0 i) wr hJr.out (by omega)
      have hcut2 : cutW s.toList = wsOf (pre ++ [r.extract 0 i]) ++ cutW (r.extract (i + 1) r.size).toList := by
        rw [wsOf_snoc, e1, e2, hcut.out, hcw]
        simp
      have hsz2 : (r.extract (i + 1) r.size).size = r.size - (i + 1) := by rw [ByteArray.size_extract]; omega
      have HC2 := Lib.hid hcut2
      have HZ2 := Lib.hid hsz2
      have HI := Lib.hid hidx
      have HRD := Lib.hid hRd
      clear hidx hno hyes hq hRd hcw e1 e2 hcut2 hsz2
      have hi0 : (0 : Int) ≤ (i : Int) := by omega
      have hst : strAt bs wr = r.size := by unfold strAt; rw [hr]
      have HST := Lib.hid hst
      clear hst
      gi_wp2_with fail
      refine into HI.out ?_
      rintro e w2 ⟨rfl, rfl⟩
      gi_wp2_with fail
      refine ⟨fun h => (by cases h), HRD.out.mono ?_⟩
      rintro e W' (⟨rfl, hJ3, hkp⟩ | ⟨rfl, hJx3⟩)
      · have HJ3 := Lib.hid hJ3
        obtain ⟨k1, k2⟩ := keep_cells hkp hr hf HX.out.1
        have k3 := (hkp.cell (World.block_lt_of_cell? _ _ hsep) HX.out.2.1).trans hsep
        have k4 := (hkp.cell (World.block_lt_of_cell? _ _ hsv) HX.out.2.2).trans hsv
        clear hJ3 hkp hr hf hsep hsv hy
        gi_wp2_with fail
        have c1 := World.cell?_setCell_same' W' ⟨bs, 0, none⟩ (.string (r.extract (i + 1) r.size)) (by rw [k1]; rfl)
        have c2 : ∀ (o : Nat), bs ≠ o → (W'.setCell ⟨bs, 0, none⟩ (.string (r.extract (i + 1) r.size))).cell? ⟨o, 0, none⟩ = W'.cell? ⟨o, 0, none⟩ := fun o ho => World.cell?_setCell_other _ _ _ _ (by intro e; injection e with e _; exact ho e)
        refine ⟨⟨_, _, c1, by rw [World.frozen?_setCell]; exact k2, (c2 _ (by omega)).trans k3, (c2 _ (by omega)).trans k4, HC2, ?_, Lib.hid (HJ.out _ _ _ HJ3.out (D.grown_set _ _ _ _))⟩, ?_⟩
        · rw [HZ2.out]
          simp
          omega
        · rw [HST.out]
          unfold strAt
          rw [c1]
          simp only
          rw [HZ2.out]
          omega
      · have HJX := Lib.hid hJx3
        clear hJx3
        gi_wp2_with fail
        refine bodyPost_ret (results_none rfl _ _ _) rfl ?_
        exact ⟨⟨_, rfl⟩, Or.inr ⟨_, ⟨_, HC2.out⟩, HJX.out⟩⟩

end L2
end Go.Proofs.YtgcjmhecnbhhlaaGreatDoor
