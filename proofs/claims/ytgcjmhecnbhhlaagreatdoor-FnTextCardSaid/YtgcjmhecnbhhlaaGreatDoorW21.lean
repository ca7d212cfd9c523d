/-
  Chapter 3's model on texts; a row of marks looked at again.
-/
import Derived.Test.YtgcjmhecnbhhlaaGreatDoorR5
import Derived.Test.YtgcjmhecnbhhlaaGreatDoorW20
import Derived.Lib.QuietBelow
import Derived.BigQuiet
namespace Go.Proofs.YtgcjmhecnbhhlaaGreatDoor
open Go.RowKit Go.Sort
namespace L2
open S1 L1

theorem sign_at (s : ByteArray) (i : Nat) (h : i < s.size) : s.toList.drop i = (s[i]'h) :: s.toList.drop (i + 1) := by
  rw [Lib.toList_data, List.drop_eq_getElem_cons (by exact h)]
  rfl
theorem seg_more (s : ByteArray) (f i : Nat) (h : i < s.size) (hf : f ≤ i) : (s.toList.take (i + 1)).drop f = (s.toList.take i).drop f ++ [s[i]'h] := by
  have hl : i < s.toList.length := by rw [← size_list]; exact h
  have e : s.toList.take (i + 1) = s.toList.take i ++ [s[i]'h] := by
    rw [List.take_add_one]
    congr 1
    rw [List.getElem?_eq_getElem hl]
    simp only [Option.toList_some]
    congr 1
    have : ∀ (l : List UInt8) (hh : i < l.length), l = s.data.toList → l[i] = s[i]'h := fun l hh e => by subst e; rfl
    exact this _ hl (Lib.toList_data s)
  rw [e, List.drop_append_of_le_length (by rw [List.length_take]; omega)]
/-- What the splitting has done at place i, the last piece having begun at f. -/
def Cutting (s : ByteArray) (acc : List ByteArray) (f i : Nat) : Prop :=
  (i ≤ s.size ∧ f ≤ i ∧ wsOf acc ++ onto ((s.toList.take i).drop f) (cutW (s.toList.drop i)) = cutW s.toList) ∨ (i = s.size + 1 ∧ wsOf acc = cutW s.toList)
theorem cutting_start (s : ByteArray) : Cutting s [] 0 0 := Or.inl ⟨Nat.zero_le _, Nat.le_refl _, by simp [wsOf, onto_nil]⟩
theorem cutting_sign {s : ByteArray} {acc : List ByteArray} {f i : Nat} (h : Cutting s acc f i) (hi : i < s.size) (hc : (s[i]'hi) ≠ 32) : Cutting s acc f (i + 1) := by
  rcases h with ⟨h1, h2, h3⟩ | ⟨h1, _⟩
  · refine Or.inl ⟨hi, by omega, ?_⟩
    rw [seg_more s f i hi h2, ← onto_sign _ _ _ hc, ← sign_at s i hi]
    exact h3
  · omega
theorem cutting_blank {s : ByteArray} {acc : List ByteArray} {f i : Nat} (h : Cutting s acc f i) (hi : i < s.size) (hc : (s[i]'hi) = 32) : Cutting s (acc ++ [s.extract f i]) (i + 1) (i + 1) := by
  rcases h with ⟨h1, h2, h3⟩ | ⟨h1, _⟩
  · refine Or.inl ⟨hi, Nat.le_refl _, ?_⟩
    rw [sign_at s i hi, hc, onto_blank] at h3
    have e : (s.toList.take (i + 1)).drop (i + 1) = [] := by simp
    rw [e, onto_nil, wsOf_snoc, ext_list, List.append_assoc]
    exact h3
  · omega
theorem cutting_end {s : ByteArray} {acc : List ByteArray} {f : Nat} (h : Cutting s acc f s.size) : Cutting s (acc ++ [s.extract f s.size]) (s.size + 1) (s.size + 1) := by
  rcases h with ⟨h1, h2, h3⟩ | ⟨h1, _⟩
  · refine Or.inr ⟨rfl, ?_⟩
    have e : s.toList.drop s.size = [] := by rw [size_list]; simp
    rw [e, onto_end] at h3
    rw [wsOf_snoc, ext_list]
    exact h3
  · omega

set_option maxRecDepth 100000 in
set_option maxHeartbeats 4000000 in
theorem l1Split_any (s : ByteArray) (hs : s.size ≤ 1048576) (w : World) :
    Calls Tryz.prog 31 #[.string s, .int .u8 32] w fun e w' => ∃ v, e = .returned v ∧ OwS w' w.heap.size v (pieces s) ∧ Below w.heap.size w w' := by
  have H0 := Lib.hid (owS_new w w.heap.size (Nat.le_refl _))
  have HC0 := Lib.hid (cutting_start s)
  go_enter Tryz.func31, Tryz.ntmps31
  go_wp2
  go_loopw [5, 6, 7] (fun o p q wr => ∃ (i f : Nat) (acc : List ByteArray), OwS wr w.heap.size o acc ∧ p = .int .i64 (f : Int) ∧ q = .int .i64 (i : Int) ∧ Below w.heap.size w wr ∧ acc.length ≤ i ∧ f ≤ 1048577 ∧ i ≤ s.size + 1 ∧ Hid (Cutting s acc f i)) (fun _ _ q _ => s.size + 1 - (intOf q).toNat)
  case atStart => exact ⟨0, 0, [], H0.out, rfl, rfl, (Below.refl _ _).alloc (Nat.le_refl _) _, by simp, by omega, by omega, HC0⟩
  case round =>
    obtain ⟨i, f, acc, hO, rfl, rfl, hB, hal, hf, hi, hC⟩ := hrel
    obtain ⟨g, cp, rfl, -, -, hg, hgl, -⟩ := hO.form
    have HO := Lib.hid hO
    have HB := Lib.hid hB
    have hwsz := hB.size
    clear hO hB
    by_cases hend : i = s.size + 1
    · have hn : ¬ (i : Int) ≤ (s.size : Int) := by omega
      have hp : wsOf acc = cutW s.toList := by
        rcases hC.out with ⟨h1, _⟩ | ⟨_, h⟩
        · omega
        · exact h
      have HP := Lib.hid (ws_inj hp)
      clear hp hend
      go_wp2
      go_ret
      refine ⟨_, rfl, ?_, HB.out⟩
      have e : acc = pieces s := HP.out
      rw [← e]
      exact HO.out
    · have hle : (i : Int) ≤ (s.size : Int) := by omega
      have hfi : f ≤ i := by
        rcases hC.out with ⟨_, h, _⟩ | ⟨h, _⟩
        · exact h
        · omega
      have app : ∀ (x : ByteArray), ∃ v' w', (Builtin.append_ #[24, 24] 24 #[.slice (some ⟨g, 0, none⟩) acc.length cp, .slice (some ⟨wr.heap.size, 0, none⟩) 1 1]).run Tryz.prog (wr.alloc (.cells #[.string x] 9)) = .ok v' w' ∧ OwS w' w.heap.size v' (acc ++ [x]) ∧ Below w.heap.size w w' := fun x => by
        obtain ⟨v', w', hr, ho, hgr⟩ := run_appS1 (wr.alloc (.cells #[.string x] 9)) w.heap.size _ acc (HO.out.alloc _) wr.heap.size x (new_cell _ _ _) (by omega) (by simp; omega)
        exact ⟨v', w', hr, ho, (HB.out.alloc hwsz _).grown hgr (by simp; omega) (fun q e => by simp only [Value.ownBlock] at e; injection e with e; omega)⟩
      by_cases hlast : i = s.size
      · have heq : ((i : Int) == (s.size : Int)) = true := by simp; omega
        have hfl : f ≤ s.size := by omega
        obtain ⟨v', w', hrun, ho, hb⟩ := app (s.extract f i)
        have HRUN := Lib.hid hrun
        have HO2 := Lib.hid ho
        have HB2 := Lib.hid hb
        have HL := Lib.hid hlast
        have hff : (f : Int) ≤ (i : Int) := by omega
        have hf0 : (0 : Int) ≤ (f : Int) := by omega
        clear app hrun ho hb hlast hend
        go_wp2_with (at_builtin; refine wp_app rfl _ _ rfl rfl _ _ rfl rfl HRUN.out ?_)
        refine ⟨⟨i + 1, i + 1, acc ++ [s.extract f i], HO2.out, by go_num, by go_num, HB2.out, by simp; omega, by omega, by omega, Lib.hid ?_⟩, by simp [intOf]; omega⟩
        have hl := HL.out
        subst hl
        exact cutting_end hC.out
      · have heq : ((i : Int) == (s.size : Int)) = false := by simp; omega
        have hil : i < s.size := by omega
        by_cases hb : (s[i]'hil) = 32
        · have h32 : (((s[i]'hil).toNat : Int) == 32) = true := by rw [hb]; rfl
          have hfl : f ≤ s.size := by omega
          obtain ⟨v', w', hrun, ho, hbl⟩ := app (s.extract f i)
          have HRUN := Lib.hid hrun
          have HO2 := Lib.hid ho
          have HB2 := Lib.hid hbl
          have HCB := Lib.hid (cutting_blank hC.out hil hb)
          have hff : (f : Int) ≤ (i : Int) := by omega
          have hf0 : (0 : Int) ≤ (f : Int) := by omega
          clear app hrun ho hbl hlast hend hb
          go_wp2_with (at_builtin; refine wp_app rfl _ _ rfl rfl _ _ rfl rfl HRUN.out ?_)
          exact ⟨⟨i + 1, i + 1, acc ++ [s.extract f i], HO2.out, by go_num, by go_num, HB2.out, by simp; omega, by omega, by omega, HCB⟩, by simp [intOf]; omega⟩
        · have h32 : (((s[i]'hil).toNat : Int) == 32) = false := by
            have := byte_eq (s[i]'hil) 32
            rw [decide_eq_false hb] at this
            exact this.symm
          have HCB := Lib.hid (cutting_sign hC.out hil hb)
          clear app hlast hend hb
          go_wp2
          go_roundw
          case rel => exact ⟨i + 1, f, acc, HO.out, rfl, by go_num, HB.out, by omega, by omega, by omega, HCB⟩
          case measure => simp [intOf]; omega

set_option maxHeartbeats 1000000 in
theorem specSumOk_long (v : Value) (ss : List ByteArray) (w : World) (hR : Row w v ss) (hl : 60 < ss.length) :
    Calls Tryz.prog 32 #[v] w fun e w' => e = .returned (.bool false) ∧ w = w' := by
  obtain ⟨oa, cap, rfl, h1, h2, -⟩ := hR
  unfold maxLen at h2
  obtain ⟨n, hn⟩ : ∃ n, ss.length = n := ⟨_, rfl⟩
  rw [hn] at h1 hl ⊢
  clear hn
  have h60 : ¬ (n : Int) ≤ 60 := by omega
  go_enter Tryz.func32, Tryz.ntmps32
  go_wp2
  go_ret
  exact ⟨rfl, rfl⟩
theorem okSum_long {ws : List (List UInt8)} (h : 60 < ws.length) : okSum ws = false := by
  unfold okSum
  have : ¬ ws.length ≤ 60 := by omega
  simp [this]

set_option maxHeartbeats 1000000 in
theorem specReadSum_any (s : ByteArray) (w : World) (hs : s.size ≤ 1048576) :
    Calls Tryz.prog 11 #[.string s] w fun e w' => ∃ v, e = .returned (.tuple #[v, .bool (readOk s)]) ∧ OwS w' w.heap.size v (readS s) ∧ Below w.heap.size w w' := by
  have hsum : ∀ (v : Value) (w1 : World), Row w1 v (pieces s) → Calls Tryz.prog 32 #[v] w1 fun e w' => e = .returned (.bool (readOk s)) ∧ Below w1.heap.size w1 w' := fun v w1 hR => by
    by_cases hl : 60 < (pieces s).length
    · have e : readOk s = false := okSum_long (by rw [← ws_pieces, ws_len]; exact hl)
      rw [e]
      exact (specSumOk_long v _ w1 hR hl).mono (by rintro e w' ⟨rfl, rfl⟩; exact ⟨rfl, Below.refl _ _⟩)
    · have h := specSumOk_any v (pieces s) w1 hR (pieces_small hs (ws_pieces s) (by omega))
      rw [ws_pieces] at h
      exact h
  have HSUM := Lib.hid hsum
  clear hsum
  cases hr : readOk s
  · have hrd : readS s = [] := by unfold readS; rw [hr]; rfl
    rw [hr] at HSUM
    have HRD := Lib.hid hrd
    clear hrd hr
    go_enter Tryz.func11, Tryz.ntmps11
    go_wp2_with fail
    refine (l1Split_any s hs w).mono ?_
    rintro e w1 ⟨v, rfl, ho, hb1⟩
    have HO := Lib.hid ho
    clear ho
    go_wp2_with fail
    refine (HSUM.out v w1 HO.out.row).mono ?_
    rintro e w2 ⟨rfl, hb2⟩
    have HB2 := Lib.hid (hb1.trans (hb2.mono hb1.size))
    have hsz := HB2.out.size
    clear hb1 hb2
    go_wp2_with fail
    refine bodyPost_ret (v := .tuple #[.slice (some ⟨w2.heap.size, 0, none⟩) 0 0, .bool false]) (by simp [results, Tryz.results11, go_sem]) rfl ?_
    refine ⟨_, rfl, ?_, HB2.out.alloc hsz _⟩
    rw [HRD.out]
    exact owS_new w2 _ hsz
  · have hrd : readS s = pieces s := by unfold readS; rw [hr]; rfl
    rw [hr] at HSUM
    have HRD := Lib.hid hrd
    clear hrd hr
    go_enter Tryz.func11, Tryz.ntmps11
    go_wp2_with fail
    refine (l1Split_any s hs w).mono ?_
    rintro e w1 ⟨v, rfl, ho, hb1⟩
    have HO := Lib.hid ho
    clear ho
    go_wp2_with fail
    refine (HSUM.out v w1 HO.out.row).mono ?_
    rintro e w2 ⟨rfl, hb2⟩
    have HB2 := Lib.hid (hb1.trans (hb2.mono hb1.size))
    have HO2 := Lib.hid (HO.out.below hb2)
    clear hb1 hb2
    go_wp2_with fail
    refine bodyPost_ret (v := .tuple #[v, .bool true]) (by simp [results, Tryz.results11, go_sem]) rfl ?_
    refine ⟨_, rfl, ?_, HB2.out⟩
    rw [HRD.out]
    exact HO2.out

end L2
end Go.Proofs.YtgcjmhecnbhhlaaGreatDoor
