/-
  strings.SplitN at a slash, into four at most.
-/
import Derived.Test.YtkhjbhkbknennaaGreatDoorN15
import Derived.Test.YtkhjbhkbknennaaGreatDoorGW
import Derived.Test.YtkhjbhkbknennaaGreatDoorShelf
namespace Go.Proofs.YtkhjbhkbknennaaGreatDoor
open Go.RowKit Go.Sort
namespace L2
open S1 L1

/-- Where the first slash stands. -/
theorem cutS_index (l : List UInt8) : (Lib.indexByte l 47 < 0 → Lib.indexByte l 47 = -1 ∧ cutS l = [l]) ∧ (0 ≤ Lib.indexByte l 47 → (Lib.indexByte l 47).toNat < l.length ∧ cutS l = l.take (Lib.indexByte l 47).toNat :: cutS (l.drop ((Lib.indexByte l 47).toNat + 1))) := by
  induction l with
  | nil => exact ⟨fun _ => ⟨rfl, rfl⟩, fun h => by simp [Lib.indexByte] at h⟩
  | cons b l ih =>
    have hge := Lib.indexByte_ge l 47
    by_cases hb : b = 47
    · subst hb
      have e : Lib.indexByte (47 :: l) 47 = 0 := by simp [Lib.indexByte]
      rw [e]
      exact ⟨fun h => absurd h (by decide), fun _ => ⟨by simp, by simp [cutS]⟩⟩
    · by_cases hn : Lib.indexByte l 47 = -1
      · have e : Lib.indexByte (b :: l) 47 = -1 := by simp [Lib.indexByte, hb, hn]
        rw [e]
        refine ⟨fun _ => ⟨rfl, ?_⟩, fun h => absurd h (by decide)⟩
        rw [cutS, if_neg hb, (ih.1 (by omega)).2]
      · have e : Lib.indexByte (b :: l) 47 = Lib.indexByte l 47 + 1 := by simp [Lib.indexByte, hb, hn]
        obtain ⟨h1, h2⟩ := ih.2 (by omega)
        rw [e]
        have e2 : (Lib.indexByte l 47 + 1).toNat = (Lib.indexByte l 47).toNat + 1 := by omega
        refine ⟨fun h => by omega, fun _ => ⟨by rw [e2]; simp; exact h1, ?_⟩⟩
        rw [e2, cutS, if_neg hb, h2]
        simp

theorem Fill.grow {w : World} {X n : Nat} {done : List ByteArray} (h : Fill w X done n done.length) (hk : done.length < n) (x : ByteArray) : Fill (w.setCell ⟨X, done.length, none⟩ (.string x)) X (done ++ [x]) n (done ++ [x]).length := by
  have h' : Fill w X (done ++ [x]) n done.length := by
    obtain ⟨cur, hb, hs, hc⟩ := h
    refine ⟨cur, hb, hs, fun j hj => ?_⟩
    rw [hc j hj]
    simp [List.getD, List.getElem?_append_left hj]
  have h2 := h'.store hk
  have e : (done ++ [x]).getD done.length ByteArray.empty = x := by simp [List.getD]
  rw [e] at h2
  simpa using h2
theorem Fill.row {w : World} {X n : Nat} {ws : List ByteArray} (h : Fill w X ws n ws.length) (hn : ws.length ≤ n) (hm : n ≤ maxLen) : Row w (.slice (some ⟨X, 0, none⟩) ws.length n) ws := by
  obtain ⟨cur, hb, hs, hc⟩ := h
  refine ⟨_, _, rfl, hn, hm, fun i hi => ⟨X, 0, rfl, lt_of_block hb, ?_⟩⟩
  rw [Nat.zero_add]
  unfold World.cell?
  rw [hb]
  simpa using hc i hi
/-- The words of a text that is split at three slashes at most. -/
def SplitQ (s : ByteArray) (w : World) (e : Ending) (w' : World) : Prop :=
  ∃ (X cap : Nat) (ws : List ByteArray), e = .returned (.slice (some ⟨X, 0, none⟩) ws.length cap) ∧ Row w' (.slice (some ⟨X, 0, none⟩) ws.length cap) ws ∧ Split4 s.toList (wsOf ws) ∧ (∀ x ∈ ws, x.size ≤ s.size) ∧ Below w.heap.size w w'
set_option maxRecDepth 100000 in
set_option maxHeartbeats 4000000 in
theorem genSplit_any (s : ByteArray) (hs : s.size ≤ 1048576) (w : World) :
    Calls Tryz.prog 103 #[.string s, .string ⟨#[47]⟩, .int .i64 0, .int .i64 4] w (SplitQ s w) := by
  obtain ⟨N, hN, hN4, hN1⟩ : ∃ N : Nat, min (4 : Int) ((s.size : Int) + 1) = (N : Int) ∧ N ≤ 4 ∧ 1 ≤ N := ⟨min 4 (s.size + 1), by omega, by omega, by omega⟩
  obtain ⟨C, hC, hmk⟩ := run_mk N (by omega)
  have hF : Fill (w.alloc (.cells C 9)) w.heap.size [] N 0 := ⟨C, heap_alloc_new w _, hC, by intro j hj; omega⟩
  rw [← hN] at hmk
  have HF := Lib.hid hF
  have HNN := Lib.hid hN
  clear hF hC hN
  go_enter Tryz.func103, Tryz.ntmps103
  go_wp2_with fail
  have hN := HNN.out
  simp only [hN]
  clear hN hmk
  go_loopw [0, 10] (fun sv iv wr => ∃ (r : ByteArray) (done : List ByteArray), sv = .string r ∧ iv = .int .i64 (done.length : Int) ∧ done.length + 1 ≤ N ∧ Fill wr w.heap.size done N done.length ∧ Hid (cutS s.toList = wsOf done ++ cutS r.toList) ∧ r.size + done.length ≤ s.size ∧ Hid (∀ x ∈ done, x.size ≤ s.size) ∧ Below w.heap.size w wr) (fun _ iv _ => N - (intOf iv).toNat)
  case atStart => exact ⟨s, [], rfl, rfl, by simpa using hN1, HF.out, Lib.hid (by simp [wsOf]), by simp, Lib.hid (by simp), (Below.refl _ _).alloc (Nat.le_refl _) _⟩
  case round =>
    obtain ⟨r, done, rfl, rfl, hk, hF, HC, hsz, HD, hB⟩ := hrel
    have HB := Lib.hid hB
    obtain ⟨⟨u, hu⟩, hfz⟩ := hF.cell (j := done.length) (by omega)
    have HG := Lib.hid (hF.grow (by omega) r)
    have HFF := Lib.hid hF
    clear hB hF
    by_cases hlt : done.length + 1 < N
    · have hki : (done.length : Int) < (N : Int) - 1 := by omega
      have hidx := Tryz.strings_Index_one r 47 wr
      rw [← Lib.toList_data] at hidx
      obtain ⟨hno, hyes⟩ := cutS_index r.toList
      obtain ⟨q, hq⟩ : ∃ q, Lib.indexByte r.toList 47 = q := ⟨_, rfl⟩
      rw [hq] at hidx hno hyes
      by_cases hneg : q < 0
      · obtain ⟨rfl, hone⟩ := hno hneg
        have HI := Lib.hid hidx
        have HONE := Lib.hid hone
        clear hidx hno hyes hq hone hneg
        go_wp2_with fail
        refine HI.out.mono ?_
        rintro e w2 ⟨rfl, rfl⟩
        go_wp2_with fail
        go_ret
        refine ⟨w.heap.size, N, done ++ [r], ?_, ?_, ?_, ?_, ?_⟩
        · simp
        · have h := Fill.row HG.out (by simp; omega) (by unfold maxLen; omega)
          simpa using h
        · refine ⟨wsOf done, r.toList, by rw [wsS_snoc], HC.out, ?_, ?_⟩
          · rw [ws_len]; omega
          · exact Or.inr HONE.out
        · intro x hx
          rcases List.mem_append.1 hx with hx | hx
          · exact HD.out x hx
          · simp only [List.mem_singleton] at hx
            subst hx
            omega
        · exact HB.out.setCell (Nat.le_refl _) _
      · obtain ⟨i, rfl⟩ : ∃ i : Nat, q = (i : Int) := ⟨q.toNat, by omega⟩
        obtain ⟨hlt2, hcw⟩ := hyes (by omega)
        rw [Int.toNat_natCast] at hlt2 hcw
        rw [← size_list] at hlt2
        have e1 : (r.extract 0 i).toList = r.toList.take i := by rw [extS_list]; simp
        have e2 : (r.extract (i + 1) r.size).toList = r.toList.drop (i + 1) := by rw [extS_list, List.take_of_length_le (by rw [size_list]; exact Nat.le_refl _)]
        have hcut2 : cutS s.toList = wsOf (done ++ [r.extract 0 i]) ++ cutS (r.extract (i + 1) r.size).toList := by
          rw [wsS_snoc, e1, e2, HC.out, hcw]
          simp
        have hsz2 : (r.extract (i + 1) r.size).size = r.size - (i + 1) := by rw [ByteArray.size_extract]; omega
        have hsz3 : (r.extract 0 i).size ≤ s.size := by rw [ByteArray.size_extract]; omega
        have HC2 := Lib.hid hcut2
        have HI := Lib.hid hidx
        have HG2 := Lib.hid (HFF.out.grow (by omega) (r.extract 0 i))
        clear hidx hno hyes hq hcw e1 e2 hcut2
        have hi0 : (0 : Int) ≤ (i : Int) := by omega
        have hir : (i : Int) ≤ (r.size : Int) := by omega
        have hir1 : (i : Int) + 1 ≤ (r.size : Int) := by omega
        go_wp2_with fail
        refine HI.out.mono ?_
        rintro e w2 ⟨rfl, rfl⟩
        go_wp2_with fail
        go_roundw
        case rel =>
          refine ⟨r.extract (i + 1) r.size, done ++ [r.extract 0 i], ?_, ?_, ?_, ?_, HC2, ?_, Lib.hid ?_, HB.out.setCell (Nat.le_refl _) _⟩
          · first | rfl | (simp; done) | go_num
          · simp
          · simp; omega
          · exact HG2.out
          · rw [hsz2]; simp; omega
          · intro x hx
            rcases List.mem_append.1 hx with hx | hx
            · exact HD.out x hx
            · simp only [List.mem_singleton] at hx
              subst hx
              exact hsz3
        case measure => simp [intOf]; omega
    · have hki : ¬ (done.length : Int) < (N : Int) - 1 := by omega
      have hNN := HNN.out
      have hlast : done.length = 3 ∨ cutS r.toList = [r.toList] := by
        by_cases h3 : done.length = 3
        · exact Or.inl h3
        · right
          have hr0 : r.size = 0 := by omega
          have : r.toList = [] := by
            have := size_list r
            exact List.eq_nil_of_length_eq_zero (by omega)
          rw [this]
          rfl
      have HLA := Lib.hid hlast
      clear hlast hNN
      have hki0 : (done.length : Int) + 1 ≤ (N : Int) := by omega
      go_wp2_with fail
      go_ret
      refine ⟨w.heap.size, N, done ++ [r], ?_, ?_, ?_, ?_, ?_⟩
      · simp
      · have h := Fill.row HG.out (by simp; omega) (by unfold maxLen; omega)
        simpa using h
      · refine ⟨wsOf done, r.toList, by rw [wsS_snoc], HC.out, ?_, ?_⟩
        · rw [ws_len]; omega
        · rw [ws_len]; exact HLA.out
      · intro x hx
        rcases List.mem_append.1 hx with hx | hx
        · exact HD.out x hx
        · simp only [List.mem_singleton] at hx
          subst hx
          omega
      · exact HB.out.setCell (Nat.le_refl _) _

end L2
end Go.Proofs.YtkhjbhkbknennaaGreatDoor
