/-
  Gathered in one text, in this order: Int, Show, Read1, Read2, Read3, Read4, Read5.
-/
import Derived.Test.YthlpjpoekfhnfaaDoorGL
import Derived.Test.YthlpjpoekfhnfaaDoorGP
import Derived.IntWalk
import Derived.Test.YthlpjpoekfhnfaaDoorShelf
import Derived.Lib.SmallJoins
import Derived.Lib.AppendIntMem
import Derived.Lib.IndexBytes
import Derived.WalkSpells
import Derived.Lib.AtoiErrMem
import Derived.Shelf.Strconv.ErrVarParseInt
/-
  The model's numeral: what it returns, and that nothing that was there turns.
-/
namespace Go.Proofs.YthlpjpoekfhnfaaDoor
open Go.RowKit
namespace L1


def emptyN : Value → Nat | .string b => if b.size = 0 then 1 else 0 | _ => 0
def digB (u : Nat) : UInt8 := UInt8.ofNat (48 + u % 10)

set_option maxRecDepth 100000 in
theorem push_front (d : UInt8) (l : List UInt8) : (⟨#[d]⟩ : ByteArray) ++ (⟨l.toArray⟩ : ByteArray) = ⟨(d :: l).toArray⟩ :=
  ByteArray.mk_append_mk [d] l
theorem push_front0 (d : UInt8) : (⟨#[d]⟩ : ByteArray) ++ (⟨#[]⟩ : ByteArray) = ⟨[d].toArray⟩ :=
  ByteArray.mk_append_mk [d] []
theorem emptyN_cons (d : UInt8) (l : List UInt8) : emptyN (.string ⟨(d :: l).toArray⟩) = 0 := by
  simp [emptyN, ByteArray.size]
theorem emptyN_nil : emptyN (.string ⟨#[]⟩) = 1 := by simp [emptyN, ByteArray.size]

theorem conv1 (u : Nat) (w : World) :
    (convert 22 9 (.slice (some ⟨w.heap.size, 0, none⟩) 1 1)).run Tryd.prog (w.alloc (.cells #[.int .u8 (48 + (u : Int) % 10)] 5)) = .ok (.string ⟨[digB u].toArray⟩) (w.alloc (.cells #[.int .u8 (48 + (u : Int) % 10)] 5)) := by
  have h := run_convert_bytes_back (P := Tryd.prog) (w.alloc (.cells #[.int .u8 (48 + (u : Int) % 10)] 5)) 22 9 5 ⟨w.heap.size, 0, none⟩ 1 [digB u] Tryd.underlying22 Tryd.underlying5 Tryd.underlying9 (by
    intro j hj
    have : j = 0 := by simpa using hj
    subst this
    have hd : ((digB u).toNat : Int) = 48 + (u : Int) % 10 := by unfold digB; simp; omega
    simp only [List.getElem_cons_zero, hd]
    simp [go_sem])
  exact h

set_option maxRecDepth 100000 in
set_option maxHeartbeats 1000000 in
theorem l1Int_pos (u0 : Nat) (h0 : u0 ≤ 1000000000000000000) (w : World) :
    Calls Tryd.prog 76 #[.int .i64 (u0 : Int)] w fun e w' => e = .returned (.string ⟨(Lib.decDigits u0).toArray⟩) ∧ Below w.heap.size w w' := by
  have hnn : ¬ ((u0 : Int) < 0) := by omega
  have hnd : decide ((u0 : Int) < 0) = false := by simp
  go_enter Tryd.func76, Tryd.ntmps76
  go_wp2
  go_loopw [0, 3] (fun n s wr => ∃ (u : Nat) (acc : List UInt8), n = .int .i64 (u : Int) ∧ s = .string ⟨acc.toArray⟩ ∧ P1.ahead u acc ++ acc = Lib.decDigits u0 ∧ u ≤ u0 ∧ acc.length ≤ 30 ∧ Below w.heap.size w wr) (fun n s _ => (intOf n).toNat + emptyN s)
  case atStart => exact ⟨u0, [], rfl, rfl, by rw [P1.ahead_start]; simp, Nat.le_refl _, by simp, Below.refl _ _⟩
  case round =>
    obtain ⟨u, acc, rfl, rfl, hk, hu, hl, hb⟩ := hrel
    have kc := conv1 u wr
    by_cases hx : acc = [] ∨ u ≠ 0
    · have hr := P1.round_pos hk h0 hx
      have Hr := Lib.hid hr
      clear hr hk
      cases acc with
      | nil =>
        go_wp2
        all_goals
          rw [push_front0]
          refine ⟨⟨u / 10, [digB u], by simp, rfl, Hr.out.1, by omega, Hr.out.2, hb.alloc hb.size _⟩, ?_⟩
          rw [emptyN_cons, emptyN_nil]
          simp [intOf]; omega
      | cons c r =>
        have hne : (u : Int) ≠ 0 := by
          rcases hx with h | h
          · cases h
          · omega
        have hne' : ((u : Int) != 0) = true := by simpa using hne
        have hl2 : r.length ≤ 29 := by simpa using hl
        go_wp2
        all_goals
          rw [push_front]
          refine ⟨⟨u / 10, digB u :: c :: r, by simp, rfl, Hr.out.1, by omega, Hr.out.2, hb.alloc hb.size _⟩, ?_⟩
          rw [emptyN_cons, emptyN_cons]
          simp [intOf]; omega
    · have hz : u = 0 := by omega
      have Hk := Lib.hid hk
      clear hk
      subst hz
      cases acc with
      | nil => exact absurd (Or.inl rfl) hx
      | cons c r =>
        clear hx kc
        go_wp2
        go_ret
        refine ⟨?_, hb⟩
        rw [← Hk.out, P1.ahead_end (by simp)]
        rfl

theorem conv0 (u : Nat) (hu : (u : Int) % 10 = 0) (w : World) :
    (convert 22 9 (.slice (some ⟨w.heap.size, 0, none⟩) 1 1)).run Tryd.prog (w.alloc (.cells #[.int .u8 48] 5)) = .ok (.string ⟨[digB u].toArray⟩) (w.alloc (.cells #[.int .u8 48] 5)) := by
  have h := conv1 u w
  rw [hu] at h
  exact h

set_option maxRecDepth 100000 in
set_option maxHeartbeats 2000000 in
theorem l1Int_neg (u0 : Nat) (h0 : u0 ≤ 1000000000000000000) (hp : 0 < u0) (w : World) :
    Calls Tryd.prog 76 #[.int .i64 (-(u0 : Int))] w fun e w' => e = .returned (.string ⟨(45 :: Lib.decDigits u0).toArray⟩) ∧ Below w.heap.size w w' := by
  have hnn : (-(u0 : Int)) < 0 := by omega
  have hnd : decide ((-(u0 : Int)) < 0) = true := by simpa using hp
  go_enter Tryd.func76, Tryd.ntmps76
  go_wp2
  go_loopw [0, 3] (fun n s wr => ∃ (u : Nat) (acc : List UInt8), n = .int .i64 (-(u : Int)) ∧ s = .string ⟨acc.toArray⟩ ∧ P1.ahead u acc ++ acc = Lib.decDigits u0 ∧ u ≤ u0 ∧ acc.length ≤ 30 ∧ Below w.heap.size w wr) (fun n s _ => (intOf n).natAbs + emptyN s)
  case atStart => exact ⟨u0, [], rfl, rfl, by rw [P1.ahead_start]; simp, Nat.le_refl _, by simp, Below.refl _ _⟩
  case round =>
    obtain ⟨u, acc, rfl, rfl, hk, hu, hl, hb⟩ := hrel
    have kc := conv1 u wr
    have hm : Int.tmod (-(u : Int)) 10 = -((u : Int) % 10) := by rw [Int.neg_tmod, Int.tmod_eq_emod_of_nonneg (by omega)]
    have hq : Int.tdiv (-(u : Int)) 10 = -((u : Int) / 10) := by rw [Int.neg_tdiv, Int.tdiv_eq_ediv_of_nonneg (by omega)]
    by_cases hx : acc = [] ∨ u ≠ 0
    · have hr := P1.round_pos hk h0 hx
      have Hr := Lib.hid hr
      clear hr hk
      by_cases hd : (u : Int) % 10 = 0
      · have kd := conv0 u hd wr
        rw [hd] at hm
        simp only [Int.neg_zero] at hm
        clear kc
        cases acc with
        | nil =>
          go_wp2
          rw [push_front0]
          refine ⟨⟨u / 10, [digB u], by simp, rfl, Hr.out.1, by omega, Hr.out.2, hb.alloc hb.size _⟩, ?_⟩
          rw [emptyN_cons, emptyN_nil]
          simp [intOf]; omega
        | cons c r =>
          have hne' : ((-(u : Int)) != 0) = true := by
            rcases hx with h | h
            · cases h
            · simp; omega
          have hl2 : r.length ≤ 29 := by simpa using hl
          go_wp2
          rw [push_front]
          refine ⟨⟨u / 10, digB u :: c :: r, by simp, rfl, Hr.out.1, by omega, Hr.out.2, hb.alloc hb.size _⟩, ?_⟩
          rw [emptyN_cons, emptyN_cons]
          have hu0 : u ≠ 0 := (by rcases hx with h | h; cases h; exact h)
          simp [intOf]; omega
      · have hlt : -((u : Int) % 10) < 0 := by omega
        cases acc with
        | nil =>
          go_wp2
          rw [push_front0]
          refine ⟨⟨u / 10, [digB u], by simp, rfl, Hr.out.1, by omega, Hr.out.2, hb.alloc hb.size _⟩, ?_⟩
          rw [emptyN_cons, emptyN_nil]
          simp [intOf]; omega
        | cons c r =>
          have hne' : ((-(u : Int)) != 0) = true := by
            rcases hx with h | h
            · cases h
            · simp; omega
          have hl2 : r.length ≤ 29 := by simpa using hl
          go_wp2
          rw [push_front]
          refine ⟨⟨u / 10, digB u :: c :: r, by simp, rfl, Hr.out.1, by omega, Hr.out.2, hb.alloc hb.size _⟩, ?_⟩
          rw [emptyN_cons, emptyN_cons]
          have hu0 : u ≠ 0 := (by rcases hx with h | h; cases h; exact h)
          simp [intOf]; omega
    · have hz : u = 0 := by omega
      have Hk := Lib.hid hk
      clear hk hm hq kc
      subst hz
      cases acc with
      | nil => exact absurd (Or.inl rfl) hx
      | cons c r =>
        clear hx
        have hl2 : r.length ≤ 29 := by simpa using hl
        go_wp2
        go_ret
        refine ⟨?_, hb⟩
        rw [← Hk.out, P1.ahead_end (by simp)]
        exact congrArg (fun x => Ending.returned (Value.string x)) (push_front 45 (c :: r))

theorem l1Int_any (n : Int) (h1 : -1000000000000000000 ≤ n) (h2 : n ≤ 1000000000000000000) (w : World) :
    Calls Tryd.prog 76 #[.int .i64 n] w fun e w' => e = .returned (.string ⟨(Lib.itoa n).toArray⟩) ∧ Below w.heap.size w w' := by
  by_cases h : n < 0
  · obtain ⟨u, rfl⟩ : ∃ u : Nat, n = -(u : Int) := ⟨n.natAbs, by omega⟩
    have hi : Lib.itoa (-(u : Int)) = 45 :: Lib.decDigits u := by unfold Lib.itoa; rw [if_pos h]; simp
    rw [hi]
    exact l1Int_neg u (by omega) (by omega) w
  · obtain ⟨u, rfl⟩ : ∃ u : Nat, n = (u : Int) := ⟨n.natAbs, by omega⟩
    have hi : Lib.itoa (u : Int) = Lib.decDigits u := by unfold Lib.itoa; rw [if_neg h]; simp
    rw [hi]
    exact l1Int_pos u (by omega) w

end L1
end Go.Proofs.YthlpjpoekfhnfaaDoor

/-
  A value's text: the model's own and the program's, each by a contract: both are one list of bytes.
-/
namespace Go.Proofs.YthlpjpoekfhnfaaDoor
open Go.RowKit
namespace L1

def showB (k n : Int) : List UInt8 := if okB k n then (if k = 1 then 112 :: Lib.itoa n else Lib.itoa n) else []

theorem ok_bd {k n : Int} (h : okB k n = true) : (k = 0 ∨ k = 1) ∧ -1000000 ≤ n ∧ n ≤ 1000000 := by
  simp [okB, numB, pieB, inB] at h
  omega
theorem piece_of_ok {k n : Int} (h : okB k n = true) : pieB k n = decide (k = 1) := by
  simp [okB, numB, pieB, inB] at h ⊢
  omega
theorem itoa_len {n : Int} (h1 : -1000000 ≤ n) (h2 : n ≤ 1000000) : (Lib.itoa n).length ≤ 8 := by
  unfold Lib.itoa
  split
  · have := P1.decDigits_len n.natAbs 6 (by omega)
    simp; omega
  · have := P1.decDigits_len n.toNat 6 (by omega)
    omega

/-- The library's contract, with what it leaves said in one word. -/
theorem fmt_any (n : Int) (h0 : -1000000 ≤ n) (h1 : n ≤ 1000000) (w : World) (htab : Lib.TabIs Tryd.prog w "internal/strconv.uint64pow10" .u64 Lib.pow10Tab) :
    Calls Tryd.prog 81 #[.int .i64 n, .int .i64 10] w fun e w' => e = .returned (.string ⟨(Lib.itoa n).toArray⟩) ∧ Below w.heap.size w w' :=
  (Tryd.strconv_FormatInt_10 n (by omega) (by omega) w htab).mono fun _ _ ⟨he, k, os, hw⟩ => ⟨he, by rw [hw]; exact Lib.below_grow _ _ (Nat.le_refl _) k os⟩

theorem implShow_any (k n : Int) (w : World) (htab : Lib.TabIs Tryd.prog w "internal/strconv.uint64pow10" .u64 Lib.pow10Tab) :
    Calls Tryd.prog 73 #[.agg #[.int .i64 k, .int .i64 n]] w fun e w' => e = .returned (.string ⟨(showB k n).toArray⟩) ∧ Below w.heap.size w w' := by
  have hg : Tryd.prog.globalNamed "internal/strconv.uint64pow10" = some 5 := by kernel_rfl
  have Htab : Hid (∀ w', Below w.heap.size w w' → Lib.TabIs Tryd.prog w' "internal/strconv.uint64pow10" .u64 Lib.pow10Tab) := fun w' hb => Joins.tab_stays hg htab hb (Nat.le_refl _)
  clear htab hg
  cases hn : okB k n
  · have hs : showB k n = [] := by unfold showB; rw [hn]; rfl
    rw [hs]
    go_enter Tryd.func73, Tryd.ntmps73
    go_wp2_with (go_at_call 80; refine (implValueOk_any _ _ _).mono ?_; rintro e w1 ⟨rfl, hb1⟩; have hs1 := hb1.size; obtain ⟨hc1, hf1⟩ := bcell hb1; have hz0 : w.heap.size < w1.heap.size := (by clear hc1 hf1; (try simp at hs1); omega))
    go_ret
    refine ⟨rfl, ?_⟩
    clear hc1 hf1
    (repeat (first | exact Below.refl _ _ | refine Below.drew ?_ | refine Below.alloc ?_ ?_ _ | refine Below.setCell ?_ ?_ _ | refine Below.trans ?_ (Below.mono (by assumption) ?_))) <;> (first | omega | (simp at *; done) | (simp at *; omega))
  · obtain ⟨hk, h1, h2⟩ := ok_bd hn
    have hp := piece_of_ok hn
    have hl := itoa_len h1 h2
    by_cases h : k = 1
    · have hs : showB k n = 112 :: Lib.itoa n := by unfold showB; rw [hn, if_pos h]; rfl
      rw [hs]
      subst h
      clear hk
      have hp' : pieB 1 n = true := by rw [hp]; rfl
      clear hp
      go_enter Tryd.func73, Tryd.ntmps73
      go_wp2_with (go_at_call 80; refine (implValueOk_any _ _ _).mono ?_; rintro e w1 ⟨rfl, hb1⟩; have hs1 := hb1.size; obtain ⟨hc1, hf1⟩ := bcell hb1; have hz0 : w.heap.size < w1.heap.size := (by clear hc1 hf1; (try simp at hs1); omega); have hB1 : Below w.heap.size w w1 := (((Below.refl _ _).alloc (Nat.le_refl _) _).trans (hb1.mono (by simp))))
      go_wp2_with (first | (go_at_call 81; refine (fmt_any _ (by omega) (by omega) _ (Htab.out _ hB1)).mono ?_; rintro e w1 ⟨rfl, hb1⟩; have hs1 := hb1.size; obtain ⟨hc1, hf1⟩ := bcell hb1; have hz0 : w.heap.size < w1.heap.size := (by clear hc1 hf1; (try simp at hs1); omega)) | (go_at_call 82; refine (isPiece_any _ _ _).mono ?_; rintro e w1 ⟨rfl, hb1⟩; have hs1 := hb1.size; obtain ⟨hc1, hf1⟩ := bcell hb1; have hz0 : w.heap.size < w1.heap.size := (by clear hc1 hf1; (try simp at hs1); omega)))
      go_ret
      refine ⟨congrArg (fun x => Ending.returned (Value.string x)) (push_front 112 (Lib.itoa n)), ?_⟩
      clear hc1 hf1
      (repeat (first | exact Below.refl _ _ | refine Below.drew ?_ | refine Below.alloc ?_ ?_ _ | refine Below.setCell ?_ ?_ _ | refine Below.trans ?_ (Below.mono (by assumption) ?_))) <;> (first | omega | (simp at *; done) | (simp at *; omega))
    · have hs : showB k n = Lib.itoa n := by unfold showB; rw [hn, if_neg h]; rfl
      rw [hs]
      have hp' : pieB k n = false := by rw [hp]; simpa using h
      clear hk hp
      go_enter Tryd.func73, Tryd.ntmps73
      go_wp2_with (go_at_call 80; refine (implValueOk_any _ _ _).mono ?_; rintro e w1 ⟨rfl, hb1⟩; have hs1 := hb1.size; obtain ⟨hc1, hf1⟩ := bcell hb1; have hz0 : w.heap.size < w1.heap.size := (by clear hc1 hf1; (try simp at hs1); omega); have hB1 : Below w.heap.size w w1 := (((Below.refl _ _).alloc (Nat.le_refl _) _).trans (hb1.mono (by simp))))
      go_wp2_with (first | (go_at_call 81; refine (fmt_any _ (by omega) (by omega) _ (Htab.out _ hB1)).mono ?_; rintro e w1 ⟨rfl, hb1⟩; have hs1 := hb1.size; obtain ⟨hc1, hf1⟩ := bcell hb1; have hz0 : w.heap.size < w1.heap.size := (by clear hc1 hf1; (try simp at hs1); omega)) | (go_at_call 82; refine (isPiece_any _ _ _).mono ?_; rintro e w1 ⟨rfl, hb1⟩; have hs1 := hb1.size; obtain ⟨hc1, hf1⟩ := bcell hb1; have hz0 : w.heap.size < w1.heap.size := (by clear hc1 hf1; (try simp at hs1); omega)))
      go_ret
      refine ⟨rfl, ?_⟩
      clear hc1 hf1
      (repeat (first | exact Below.refl _ _ | refine Below.drew ?_ | refine Below.alloc ?_ ?_ _ | refine Below.setCell ?_ ?_ _ | refine Below.trans ?_ (Below.mono (by assumption) ?_))) <;> (first | omega | (simp at *; done) | (simp at *; omega))

end L1
end Go.Proofs.YthlpjpoekfhnfaaDoor

/-
  The model's reader of numbers: what it answers at every text; nothing that was there turns.
-/
namespace Go.Proofs.YthlpjpoekfhnfaaDoor
open Go.RowKit
namespace L1

theorem at_data (b : ByteArray) (k : Nat) (h : k < b.size) : b.data.toList[k]'h = b[k]'h := rfl
theorem len_data (b : ByteArray) : b.data.toList.length = b.size := rfl
theorem isEmpty_of (b : ByteArray) (h : 0 < b.size) : b.toList.isEmpty = false := by
  rw [Bool.eq_false_iff, Ne, List.isEmpty_iff]
  intro e
  have : b = ByteArray.empty := by
    have hd := decide_eq_emptyBytes b
    rw [e] at hd
    simpa using hd
  rw [this] at h
  exact absurd h (by decide)
theorem sign_of (b : ByteArray) (h : 0 < b.size) : P1.signed b.data.toList = decide (b[0]'h = 45) := by
  unfold P1.signed
  have : b.data.toList.head? = some (b[0]'h) := by rw [List.head?_eq_getElem?]; rw [List.getElem?_eq_getElem h]; rfl
  rw [this]; simp
theorem byte_eq (c d : UInt8) : decide (c = d) = ((c.toNat : Int) == (d.toNat : Int)) := by
  by_cases h : c = d
  · subst h; simp
  · have : c.toNat ≠ d.toNat := fun e => h (UInt8.toNat_inj.1 e)
    simp [h]; omega

set_option maxRecDepth 100000 in
set_option maxHeartbeats 4000000 in
theorem l1Read_pos (b : ByteArray) (hs : b.size ≤ maxLen) (h0 : 0 < b.size) (hlen : b.size ≤ 9) (hsg : P1.signed b.data.toList = false) (w : World) :
    Calls Tryd.prog 56 #[.string b] w fun e w' => e = .returned (.tuple #[.int .i64 (P1.rdN b.data.toList), .bool (P1.rdOk b.data.toList)]) ∧ w = w' := by
  unfold maxLen at hs
  have hp : 0 < b.size := by omega
  have hne := isEmpty_of b hp
  have hm := P1.mag_no hsg
  have h45 : (((b[0]'hp).toNat : Int) == 45) = false := by
    have := sign_of b hp
    rw [hsg, byte_eq] at this
    exact this.symm
  have Hm := Lib.hid hm
  have Hs := Lib.hid hsg
  clear hm hsg
  have hlt : (0 : Int) < (b.size : Int) := by omega
  go_enter Tryd.func56, Tryd.ntmps56
  go_wp2
  go_loop [6, 7] (fun n i => ∃ k : Nat, 0 ≤ k ∧ k ≤ b.size ∧ (P1.mid b.data.toList 0 k).all P1.dgB = true ∧ n = .int .i64 (P1.numOf 0 (P1.mid b.data.toList 0 k) : Int) ∧ i = .int .i64 (k : Int)) (fun _ i => b.size - (intOf i).toNat)
  case atStart => exact ⟨0, Nat.le_refl _, by omega, by rw [P1.mid_start]; rfl, by rw [P1.mid_start, P1.numOf_nil]; rfl, rfl⟩
  case round =>
    obtain ⟨k, hik, hk, hall, rfl, rfl⟩ := hrel
    by_cases hlk : k < b.size
    · have hsm := P1.num_small8 b.data.toList 0 k hk (by omega) hall
      have hns := P1.num_step b.data.toList 0 k hik hlk
      have Hns := Lib.hid hns
      clear hns
      have hat := at_data b k hlk
      cases hd : P1.dgB (b[k]'hlk)
      · have hno : P1.rdOk b.data.toList = false := P1.rd_digit Hm.out hik hlk (by rw [hat]; exact hd)
        have hn0 := P1.rdN_no hno
        have hor : ((b[k]'hlk).toNat : Int) < 48 ∨ (57 : Int) < ((b[k]'hlk).toNat : Int) := by
          simp [P1.dgB] at hd; omega
        clear hat
        rcases hor with ho | ho
        · go_wp2
          go_ret2
          exact ⟨rfl, rfl⟩
        · have ho' : ¬ (((b[k]'hlk).toNat : Int) < 48) := by omega
          go_wp2
          go_ret2
          exact ⟨rfl, rfl⟩
      · have hdd := P1.dgB_iff.1 hd
        have h1 : (48 : Int) ≤ ((b[k]'hlk).toNat : Int) := by omega
        have h2 : ((b[k]'hlk).toNat : Int) ≤ 57 := by omega
        have Hal := Lib.hid (P1.all_step b.data.toList 0 k hik hlk hall (by rw [hat]; exact hd))
        have Hat := Lib.hid hat
        clear hat hd hdd hall
        go_wp2
        go_round
        case rel =>
          refine ⟨k + 1, by omega, by omega, Hal.out, ?_, by go_num⟩
          rw [Hns.out, Hat.out]
          have : (b[k]'hlk).toNat - 48 + 48 = (b[k]'hlk).toNat := by omega
          exact congrArg (Value.int .i64) (by omega)
        case measure => simp [intOf]; omega
    · have hke : k = b.size := by omega
      subst hke
      have he : P1.mid b.data.toList 0 b.size = b.data.toList.drop 0 := P1.mid_end b.data.toList 0
      have hra := P1.rd_all Hm.out (show 0 + 1 ≤ b.data.toList.length from h0) (show b.data.toList.length ≤ 0 + 9 from by rw [len_data]; omega) (by rw [← he]; exact hall)
      have hat : b.data.toList[0]'h0 = b[0]'h0 := rfl
      rw [hat, Hs.out, byte_eq] at hra
      have Hbig := Lib.hid (P1.num_small b.data.toList 0 b.size (Nat.le_refl _) (by omega) hall)
      have hbig : (P1.numOf 0 (P1.mid b.data.toList 0 b.size) : Int) < 1000000000 := by have := Hbig.out; omega
      have hyes : ∀ h : P1.rdOk b.data.toList = true, P1.rdN b.data.toList = (P1.numOf 0 (P1.mid b.data.toList 0 b.size) : Int) := fun h => by
        rw [P1.rdN_yes h, Hs.out, Hm.out, he]; rfl
      have Hra := Lib.hid hra
      have Hyes := Lib.hid hyes
      clear hra hyes he hall hat
      by_cases hz : (b[0]'h0).toNat = 48
      · have hzi : (((b[0]'h0).toNat : Int) == 48) = true := by rw [hz]; rfl
        by_cases h1 : b.size = 1
        · have hok : P1.rdOk b.data.toList = true := by
            rw [Hra.out]; show (!(_ && (false || decide (0 + 1 < b.size)))) = true
            rw [h1]; simp
          have hnn := Hyes.out hok
          go_wp2
          go_ret2
          exact ⟨rfl, rfl⟩
        · have h1' : (1 : Int) < (b.size : Int) := by omega
          have hok : P1.rdOk b.data.toList = false := by
            rw [Hra.out]; show (!((((b[0]'h0).toNat : Int) == 48) && (false || decide (0 + 1 < b.size)))) = false
            rw [hzi]; simp; omega
          have hnn := P1.rdN_no hok
          go_wp2
          go_ret2
          exact ⟨rfl, rfl⟩
      · have hzi : (((b[0]'h0).toNat : Int) == 48) = false := by simp; omega
        have hok : P1.rdOk b.data.toList = true := by
          rw [Hra.out]; show (!((((b[0]'h0).toNat : Int) == 48) && _)) = true
          rw [hzi]; rfl
        have Hnn := Lib.hid (Hyes.out hok)
        clear Hyes Hra Hbig
        generalize P1.numOf 0 (P1.mid b.data.toList 0 b.size) = N at *
        have hN : (0 : Int) ≤ (N : Int) := by omega
        obtain ⟨c, hc⟩ : ∃ c, b[0]'h0 = c := ⟨_, rfl⟩
        rw [hc] at hzi
        clear hik hk hlk hz hlen hs hne h45
        go_wp2
        go_ret2
        rw [Hnn.out]
        exact ⟨rfl, rfl⟩


set_option maxRecDepth 100000 in
set_option maxHeartbeats 4000000 in
theorem l1Read_neg (b : ByteArray) (hs : b.size ≤ maxLen) (h0 : 1 < b.size) (hlen : b.size ≤ 10) (hsg : P1.signed b.data.toList = true) (w : World) :
    Calls Tryd.prog 56 #[.string b] w fun e w' => e = .returned (.tuple #[.int .i64 (P1.rdN b.data.toList), .bool (P1.rdOk b.data.toList)]) ∧ w = w' := by
  unfold maxLen at hs
  have hp : 0 < b.size := by omega
  have hne := isEmpty_of b hp
  have hm := P1.mag_yes hsg
  have h45 : (((b[0]'hp).toNat : Int) == 45) = true := by
    have := sign_of b hp
    rw [hsg, byte_eq] at this
    exact this.symm
  have Hm := Lib.hid hm
  have Hs := Lib.hid hsg
  clear hm hsg
  have hlt : (0 : Int) < (b.size : Int) := by omega
  go_enter Tryd.func56, Tryd.ntmps56
  go_wp2
  go_loop [6, 7] (fun n i => ∃ k : Nat, 1 ≤ k ∧ k ≤ b.size ∧ (P1.mid b.data.toList 1 k).all P1.dgB = true ∧ n = .int .i64 (P1.numOf 0 (P1.mid b.data.toList 1 k) : Int) ∧ i = .int .i64 (k : Int)) (fun _ i => b.size - (intOf i).toNat)
  case atStart => exact ⟨1, Nat.le_refl _, by omega, by rw [P1.mid_start]; rfl, by rw [P1.mid_start, P1.numOf_nil]; rfl, rfl⟩
  case round =>
    obtain ⟨k, hik, hk, hall, rfl, rfl⟩ := hrel
    by_cases hlk : k < b.size
    · have hsm := P1.num_small8 b.data.toList 1 k hk (by omega) hall
      have hns := P1.num_step b.data.toList 1 k hik hlk
      have Hns := Lib.hid hns
      clear hns
      have hat := at_data b k hlk
      cases hd : P1.dgB (b[k]'hlk)
      · have hno : P1.rdOk b.data.toList = false := P1.rd_digit Hm.out hik hlk (by rw [hat]; exact hd)
        have hn0 := P1.rdN_no hno
        have hor : ((b[k]'hlk).toNat : Int) < 48 ∨ (57 : Int) < ((b[k]'hlk).toNat : Int) := by
          simp [P1.dgB] at hd; omega
        clear hat
        rcases hor with ho | ho
        · go_wp2
          go_ret2
          exact ⟨rfl, rfl⟩
        · have ho' : ¬ (((b[k]'hlk).toNat : Int) < 48) := by omega
          go_wp2
          go_ret2
          exact ⟨rfl, rfl⟩
      · have hdd := P1.dgB_iff.1 hd
        have h1 : (48 : Int) ≤ ((b[k]'hlk).toNat : Int) := by omega
        have h2 : ((b[k]'hlk).toNat : Int) ≤ 57 := by omega
        have Hal := Lib.hid (P1.all_step b.data.toList 1 k hik hlk hall (by rw [hat]; exact hd))
        have Hat := Lib.hid hat
        clear hat hd hdd hall
        go_wp2
        go_round
        case rel =>
          refine ⟨k + 1, by omega, by omega, Hal.out, ?_, by go_num⟩
          rw [Hns.out, Hat.out]
          have : (b[k]'hlk).toNat - 48 + 48 = (b[k]'hlk).toNat := by omega
          exact congrArg (Value.int .i64) (by omega)
        case measure => simp [intOf]; omega
    · have hke : k = b.size := by omega
      subst hke
      have he : P1.mid b.data.toList 1 b.size = b.data.toList.drop 1 := P1.mid_end b.data.toList 1
      have hra := P1.rd_all Hm.out (show 1 + 1 ≤ b.data.toList.length from h0) (show b.data.toList.length ≤ 1 + 9 from by rw [len_data]; omega) (by rw [← he]; exact hall)
      have hat : b.data.toList[1]'h0 = b[1]'h0 := rfl
      rw [hat, Hs.out, byte_eq] at hra
      have Hbig := Lib.hid (P1.num_small b.data.toList 1 b.size (Nat.le_refl _) (by omega) hall)
      have hbig : (P1.numOf 0 (P1.mid b.data.toList 1 b.size) : Int) < 1000000000 := by have := Hbig.out; omega
      have hyes : ∀ h : P1.rdOk b.data.toList = true, P1.rdN b.data.toList = -(P1.numOf 0 (P1.mid b.data.toList 1 b.size) : Int) := fun h => by
        rw [P1.rdN_yes h, Hs.out, Hm.out, he]; rfl
      have Hra := Lib.hid hra
      have Hyes := Lib.hid hyes
      clear hra hyes he hall hat
      by_cases hz : (b[1]'h0).toNat = 48
      · have hzi : (((b[1]'h0).toNat : Int) == 48) = true := by rw [hz]; rfl
        have hok : P1.rdOk b.data.toList = false := by
          rw [Hra.out]; show (!((((b[1]'h0).toNat : Int) == 48) && (true || _))) = false
          rw [hzi]; rfl
        have hnn := P1.rdN_no hok
        go_wp2
        go_ret2
        exact ⟨rfl, rfl⟩
      · have hzi : (((b[1]'h0).toNat : Int) == 48) = false := by simp; omega
        have hok : P1.rdOk b.data.toList = true := by
          rw [Hra.out]; show (!((((b[1]'h0).toNat : Int) == 48) && _)) = true
          rw [hzi]; rfl
        have Hnn := Lib.hid (Hyes.out hok)
        clear Hyes Hra Hbig
        generalize P1.numOf 0 (P1.mid b.data.toList 1 b.size) = N at *
        have hN : (0 : Int) ≤ (N : Int) := by omega
        obtain ⟨c, hc⟩ : ∃ c, b[1]'h0 = c := ⟨_, rfl⟩
        rw [hc] at hzi
        clear hik hk hlk hz hlen hs hne h45
        go_wp2
        go_ret2
        rw [Hnn.out]
        exact ⟨rfl, rfl⟩


end L1
end Go.Proofs.YthlpjpoekfhnfaaDoor

/-
  The model's reader of numbers, at every text.
-/
namespace Go.Proofs.YthlpjpoekfhnfaaDoor
open Go.RowKit
namespace L1

theorem toList_nil_of (b : ByteArray) (h : b.size = 0) : b.toList = [] := by
  have : b = ByteArray.empty := by
    have e : b.data = #[] := Array.eq_empty_of_size_eq_zero h
    cases b; cases e; rfl
  have hd := decide_eq_emptyBytes b
  rw [decide_eq_true this] at hd
  exact List.isEmpty_iff.1 hd.symm

set_option maxRecDepth 100000 in
theorem l1Read_none (b : ByteArray) (h : b.size = 0) (w : World) :
    Calls Tryd.prog 56 #[.string b] w fun e w' => e = .returned (.tuple #[.int .i64 (P1.rdN b.data.toList), .bool (P1.rdOk b.data.toList)]) ∧ w = w' := by
  have hl : b.toList = [] := toList_nil_of b h
  have hl2 : b.toList.isEmpty = true := by rw [hl]; rfl
  have hd : b.data.toList = [] := by
    have := len_data b
    exact List.eq_nil_of_length_eq_zero (by omega)
  have ho : P1.rdOk b.data.toList = false := by rw [hd]; decide
  have hn := P1.rdN_no ho
  have hz : (b.size : Int) = 0 := by omega
  rw [hn, ho]
  clear hd h hn ho
  go_enter Tryd.func56, Tryd.ntmps56
  go_wp2
  go_ret2
  exact ⟨rfl, rfl⟩

set_option maxRecDepth 100000 in
theorem l1Read_long (b : ByteArray) (hs : b.size ≤ maxLen) (hp : 0 < b.size) (hb : P1.rdOk b.data.toList = false) (hl : P1.signed b.data.toList = false ∧ 9 < b.size ∨ P1.signed b.data.toList = true ∧ (b.size < 2 ∨ 10 < b.size)) (w : World) :
    Calls Tryd.prog 56 #[.string b] w fun e w' => e = .returned (.tuple #[.int .i64 (P1.rdN b.data.toList), .bool (P1.rdOk b.data.toList)]) ∧ w = w' := by
  unfold maxLen at hs
  have hne := isEmpty_of b hp
  have hn := P1.rdN_no hb
  rw [hn, hb]
  clear hn hb
  have hlt : (0 : Int) < (b.size : Int) := by omega
  have hsg := sign_of b hp
  rw [byte_eq] at hsg
  obtain ⟨c, hc⟩ : ∃ c, b[0]'hp = c := ⟨_, rfl⟩
  rw [hc] at hsg
  rcases hl with ⟨h1, h2⟩ | ⟨h1, h2⟩
  · have h45 : ((c.toNat : Int) == 45) = false := by rw [h1] at hsg; exact hsg.symm
    have h3 : (9 : Int) < (b.size : Int) := by omega
    clear h1 hsg h2
    go_enter Tryd.func56, Tryd.ntmps56
    go_wp2
    go_ret2
    exact ⟨rfl, rfl⟩
  · have h45 : ((c.toNat : Int) == 45) = true := by rw [h1] at hsg; exact hsg.symm
    clear h1 hsg
    rcases h2 with h2 | h2
    · have h3 : (b.size : Int) - 1 < 1 := by omega
      go_enter Tryd.func56, Tryd.ntmps56
      go_wp2
      go_ret2
      exact ⟨rfl, rfl⟩
    · have h3 : (9 : Int) < (b.size : Int) - 1 := by omega
      go_enter Tryd.func56, Tryd.ntmps56
      go_wp2
      go_ret2
      exact ⟨rfl, rfl⟩

theorem l1Read_any (b : ByteArray) (hs : b.size ≤ maxLen) (w : World) :
    Calls Tryd.prog 56 #[.string b] w fun e w' => e = .returned (.tuple #[.int .i64 (P1.rdN b.data.toList), .bool (P1.rdOk b.data.toList)]) ∧ w = w' := by
  by_cases hz : b.size = 0
  · exact l1Read_none b hz w
  cases hsg : P1.signed b.data.toList
  · by_cases h9 : b.size ≤ 9
    · exact l1Read_pos b hs (by omega) h9 hsg w
    · exact l1Read_long b hs (by omega) (P1.rd_len (P1.mag_no hsg) (by rw [len_data]; omega)) (Or.inl ⟨hsg, by omega⟩) w
  · by_cases h9 : 1 < b.size ∧ b.size ≤ 10
    · exact l1Read_neg b hs h9.1 h9.2 hsg w
    · exact l1Read_long b hs (by omega) (P1.rd_len (P1.mag_yes hsg) (by rw [len_data]; omega)) (Or.inr ⟨hsg, by omega⟩) w

end L1
end Go.Proofs.YthlpjpoekfhnfaaDoor

/-
  The model's reader of values, at every text.
-/
namespace Go.Proofs.YthlpjpoekfhnfaaDoor
open Go.RowKit
namespace L1

/-- A text's kind, and what stands behind the letter. -/
def rvKind (l : List UInt8) : Int := if Lib.hasPrefix l [112] then 1 else 0
def rvRest (l : List UInt8) : List UInt8 := Lib.trimPrefix l [112]
def rvOk (l : List UInt8) : Bool := P1.rdOk (rvRest l) && okB (rvKind l) (P1.rdN (rvRest l))
def rvK (l : List UInt8) : Int := if rvOk l then rvKind l else 0
def rvN (l : List UInt8) : Int := if rvOk l then P1.rdN (rvRest l) else 0

theorem pre_head (l : List UInt8) : Lib.hasPrefix l [112] = decide (l.head? = some 112) := by
  unfold Lib.hasPrefix
  cases l with
  | nil => rfl
  | cons c r =>
    by_cases h : c = 112
    · subst h; rfl
    · have h' : ¬ 112 = c := fun e => h e.symm
      simp [List.isPrefixOf, h, h']
theorem pre_of (b : ByteArray) (h : 0 < b.size) : Lib.hasPrefix b.data.toList [112] = (((b[0]'h).toNat : Int) == 112) := by
  rw [pre_head]
  have : b.data.toList.head? = some (b[0]'h) := by rw [List.head?_eq_getElem?]; rw [List.getElem?_eq_getElem h]; rfl
  rw [this]
  have := byte_eq (b[0]'h) 112
  simpa using this

theorem rv_no {l : List UInt8} (h : rvOk l = false) : rvOk l = false ∧ rvK l = 0 ∧ rvN l = 0 := by
  refine ⟨h, ?_, ?_⟩
  · unfold rvK; rw [h]; rfl
  · unfold rvN; rw [h]; rfl
theorem rv_yes {l : List UInt8} (h : rvOk l = true) : rvOk l = true ∧ rvK l = rvKind l ∧ rvN l = P1.rdN (rvRest l) := by
  refine ⟨h, ?_, ?_⟩
  · unfold rvK; rw [h]; rfl
  · unfold rvN; rw [h]; rfl

end L1
end Go.Proofs.YthlpjpoekfhnfaaDoor

/-
  The program's reader of values, at every text: it answers as the model's does.
-/
namespace Go.Proofs.YthlpjpoekfhnfaaDoor
open Go.RowKit
namespace L1

/-- D. The text that is made of what the library read is the text itself just where the model reads it. -/
theorem back_iff {l : List UInt8} {n : Int} (h : Lib.parseIntB 64 (rvRest l) = .ok n) : decide (showB (rvKind l) n = l) = rvOk l ∧ (rvOk l = true → P1.rdN (rvRest l) = n) := by
  have one : rvOk l = true → showB (rvKind l) n = l ∧ P1.rdN (rvRest l) = n := fun hv => by
    unfold rvOk at hv
    rw [Bool.and_eq_true] at hv
    have hp := P1.parse_of_rd hv.1
    rw [h] at hp
    have hn : P1.rdN (rvRest l) = n := by injection hp with e; exact e.symm
    have hi := P1.itoa_of_rd hv.1
    rw [hn] at hv hi
    refine ⟨?_, hn⟩
    unfold showB
    rw [hv.2, if_pos rfl, hi]
    unfold rvKind rvRest Lib.trimPrefix
    cases hx : Lib.hasPrefix l [112]
    · simp
    · rw [pre_head] at hx
      cases l with
      | nil => simp at hx
      | cons c r =>
        have : c = 112 := by simpa using hx
        subst this; rfl
  have two : showB (rvKind l) n = l → rvOk l = true := fun hs => by
    cases ho : okB (rvKind l) n
    · have : l = [] := by rw [← hs]; unfold showB; rw [ho]; rfl
      subst this
      rw [show rvRest [] = [] from rfl] at h
      cases h
    · obtain ⟨_, h1, h2⟩ := ok_bd ho
      obtain ⟨c1, c2⟩ := P1.rd_of_itoa n h1 h2
      have hr : rvRest l = Lib.itoa n := by
        unfold showB at hs
        rw [ho, if_pos rfl] at hs
        unfold rvKind at hs
        unfold rvRest Lib.trimPrefix
        cases hx : Lib.hasPrefix l [112]
        · rw [hx] at hs; simp at hs; simp [hs]
        · rw [hx] at hs; simp at hs; rw [← hs]; rfl
      unfold rvOk
      rw [hr, c1, c2, ho]; rfl
  refine ⟨?_, fun hv => (one hv).2⟩
  cases hv : rvOk l
  · simp only [decide_eq_false_iff_not]
    intro e
    rw [two e] at hv; cases hv
  · simp only [decide_eq_true_eq]
    exact (one hv).1

theorem no_parse {l : List UInt8} (h : ∀ n, Lib.parseIntB 64 (rvRest l) ≠ .ok n) : rvOk l = false := by
  unfold rvOk
  cases hr : P1.rdOk (rvRest l)
  · rfl
  · exact absurd (P1.parse_of_rd hr) (h _)

theorem parse_ok (b : ByteArray) (hmax : b.size ≤ 9223372036854775806) (n : Int) (h : Lib.parseIntB 64 b.data.toList = .ok n) (w : World) :
    Calls Tryd.prog 72 #[.string b, .int .i64 10, .int .i64 64] w fun e w' => e = .returned (.tuple #[.int .i64 n, .nilIface]) ∧ Below w.heap.size w w' :=
  (Tryd.strconv_ParseInt_10_at64_ok b hmax n h w).mono fun _ _ ⟨he, hw⟩ => ⟨he, by
    rcases hw with rfl | ⟨t, rfl⟩
    · exact Below.refl _ _
    · exact Lib.bytesWorld_below _ _ _⟩

/-- What a call that fails leaves: some number, an error that is not nil. -/
def Fell (w : World) (e : Ending) (w' : World) : Prop := ∃ (m : Int) (a : Nat), e = .returned (.tuple #[.int .i64 m, .iface 97 (.pointer (some ⟨a, 0, none⟩))]) ∧ Below w.heap.size w w'

theorem parse_no (b : ByteArray) (hlim : b.size ≤ 281474976710656) (h : ∀ n, Lib.parseIntB 64 b.data.toList ≠ .ok n) (w : World)
    (hS : ∃ tp p, w.var? Tryd.prog "strconv.ErrSyntax" = some #[.iface tp p]) (hR : ∃ tp p, w.var? Tryd.prog "strconv.ErrRange" = some #[.iface tp p]) :
    Calls Tryd.prog 72 #[.string b, .int .i64 10, .int .i64 64] w (Fell w) := by
  obtain ⟨tS, pS, hS⟩ := hS
  obtain ⟨tR, pR, hR⟩ := hR
  cases hx : Lib.parseIntB 64 b.data.toList
  · exact absurd hx (h _)
  · exact (Any.strconv_ParseInt_10_at64_syntax_var Tryd.laysC174 b hlim hx tS pS w hS).mono fun _ _ ⟨N, he, _, _, hb⟩ => ⟨0, N, he, hb⟩
  · exact (Any.strconv_ParseInt_10_at64_range_var Tryd.laysC174 b hlim hx tR pR w hR).mono fun _ _ ⟨N, he, _, _, hb⟩ => ⟨_, N, he, hb⟩

end L1
end Go.Proofs.YthlpjpoekfhnfaaDoor

/-
  The program's reader of values: its walk.
-/
namespace Go.Proofs.YthlpjpoekfhnfaaDoor
open Go.RowKit
namespace L1

/-- What the walk needs of the library's variables, in every world that the call comes to. -/
def Vars (w : World) : Prop := ∀ w', Below w.heap.size w w' → Lib.TabIs Tryd.prog w' "internal/strconv.uint64pow10" .u64 Lib.pow10Tab ∧ (∃ tp p, w'.var? Tryd.prog "strconv.ErrSyntax" = some #[.iface tp p]) ∧ (∃ tp p, w'.var? Tryd.prog "strconv.ErrRange" = some #[.iface tp p])

theorem vars_of (w : World) (ht : Lib.TabIs Tryd.prog w "internal/strconv.uint64pow10" .u64 Lib.pow10Tab) (hS : ∃ tp p, w.var? Tryd.prog "strconv.ErrSyntax" = some #[.iface tp p]) (hR : ∃ tp p, w.var? Tryd.prog "strconv.ErrRange" = some #[.iface tp p]) : Vars w := by
  intro w' hb
  have g0 : Tryd.prog.globalNamed "internal/strconv.uint64pow10" = some 5 := by kernel_rfl
  have g1 : Tryd.prog.globalNamed "strconv.ErrSyntax" = some 3 := by kernel_rfl
  have g2 : Tryd.prog.globalNamed "strconv.ErrRange" = some 4 := by kernel_rfl
  obtain ⟨tS, pS, hS⟩ := hS
  obtain ⟨tR, pR, hR⟩ := hR
  exact ⟨Joins.tab_stays g0 ht hb (Nat.le_refl _), ⟨tS, pS, Joins.var_stays g1 hS hb (Nat.le_refl _)⟩, ⟨tR, pR, Joins.var_stays g2 hR hb (Nat.le_refl _)⟩⟩
theorem Vars.later {w w' : World} (h : Vars w) (hb : Below w.heap.size w w') : Vars w' := fun _ hb' => h _ (bcomp1 hb hb')

theorem same_refl (a b : Int) : sameB a b a b = true := by simp [sameB]
theorem beq_dec (a c : List UInt8) : (a == c) = decide (a = c) := by by_cases h : a = c <;> simp [h]

theorem cut_any (b : ByteArray) (w : World) :
    Calls Tryd.prog 71 #[.string b, .string ⟨#[112]⟩] w fun e w' => e = .returned (.tuple #[.string ⟨(rvRest b.data.toList).toArray⟩, .bool (Lib.hasPrefix b.data.toList [112])]) ∧ w = w' :=
  (Tryd.strings_CutPrefix b ⟨#[112]⟩ w).mono fun _ _ ⟨he, hw⟩ => ⟨he, hw.symm⟩

set_option maxRecDepth 100000 in
set_option maxHeartbeats 4000000 in
theorem implRead_any (b : ByteArray) (hs : b.size ≤ 140737488351232) (w : World) (hV : Vars w) :
    Calls Tryd.prog 64 #[.string b] w fun e w' => e = .returned (.tuple #[.agg #[.int .i64 (rvK b.data.toList), .int .i64 (rvN b.data.toList)], .bool (rvOk b.data.toList)]) ∧ Below w.heap.size w w' := by
  have HV := Lib.hid hV
  clear hV
  have hlen : (rvRest b.data.toList).length ≤ b.size := by
    unfold rvRest Lib.trimPrefix
    rw [← len_data]
    split
    · simp
    · exact Nat.le_refl _
  obtain ⟨r, hr⟩ : ∃ r, rvRest b.data.toList = r := ⟨_, rfl⟩
  have hrs : (⟨r.toArray⟩ : ByteArray).size ≤ b.size := by rw [← hr]; exact hlen
  have hrd : (⟨r.toArray⟩ : ByteArray).data.toList = r := rfl
  have Hcut : Hid (∀ w, Calls Tryd.prog 71 #[.string b, .string ⟨#[112]⟩] w fun e w' => e = .returned (.tuple #[.string ⟨r.toArray⟩, .bool (Lib.hasPrefix b.data.toList [112])]) ∧ w = w') := fun w => by
    rw [← hr]; exact cut_any b w
  by_cases hp : ∃ n, Lib.parseIntB 64 r = .ok n
  · obtain ⟨n, hn⟩ := hp
    have Hp : Hid (∀ w, Calls Tryd.prog 72 #[.string ⟨r.toArray⟩, .int .i64 10, .int .i64 64] w fun e w' => e = .returned (.tuple #[.int .i64 n, .nilIface]) ∧ Below w.heap.size w w') := fun w =>
      parse_ok ⟨r.toArray⟩ (by omega) n (by rw [hrd]; exact hn) w
    have hbk := back_iff (l := b.data.toList) (n := n) (by rw [hr]; exact hn)
    cases hx : Lib.hasPrefix b.data.toList [112]
    · have hk : rvKind b.data.toList = 0 := by unfold rvKind; rw [hx]; rfl
      cases hv : rvOk b.data.toList
      · have hv' := rv_no hv
        rw [hv'.2.1, hv'.2.2]
        have hne : (showB 0 n == b.toList) = false := by
          rw [Lib.toList_data, ← hk, ← hv, ← hbk.1]
          exact beq_dec _ _
        clear hv' hbk hr hlen hn hrd hk hv
        go_enter Tryd.func64, Tryd.ntmps64
        go_wp2_with (first | (go_at_call 71; refine (Hcut.out _).mono ?_; rintro e w1 ⟨rfl, rfl⟩) | (go_at_call 72; refine (Hp.out _).mono ?_; rintro e w1 ⟨rfl, hb1⟩; have hs1 := hb1.size; obtain ⟨hc1, hf1⟩ := bcell hb1; have hz0 : w.heap.size < w1.heap.size := (by clear hc1 hf1; (try simp at hs1); omega); have hB1 : Below w.heap.size w w1 := (((Below.refl _ _).alloc (Nat.le_refl _) _).trans (hb1.mono (by simp)))))
        go_wp2_with (go_at_call 73; refine (implShow_any _ _ _ (HV.out _ (hB1.alloc hB1.size _)).1).mono ?_; rintro e w2 ⟨rfl, hb2⟩; have hs2 := hb2.size; obtain ⟨hc2, hf2⟩ := bcell hb2; have hz2 : w1.heap.size < w2.heap.size := (by simp at hs2; omega); have hy2 : w.heap.size < w2.heap.size := (by omega))
        have c00 := hc2 w.heap.size 0 (by simp; omega)
        have c01 := hc2 w.heap.size 1 (by simp; omega)
        refine bodyPost_ret (v := .tuple #[.agg #[.int .i64 0, .int .i64 0], .bool false]) (by simp [results, Tryd.results64, go_sem, *]) rfl ⟨rfl, ?_⟩
        clear hc1 hf1 hc2 hf2 c00 c01
        (repeat (first | exact Below.refl _ _ | refine Below.drew ?_ | refine Below.alloc ?_ ?_ _ | refine Below.setCell ?_ ?_ _ | refine Below.trans ?_ (Below.mono (by assumption) ?_))) <;> (first | omega | (simp at *; done) | (simp at *; omega))
      · have hv' := rv_yes hv
        rw [hv'.2.1, hv'.2.2, hk, hbk.2 hv]
        have hne : (showB 0 n == b.toList) = true := by
          rw [Lib.toList_data, ← hk, ← hv, ← hbk.1]
          exact beq_dec _ _
        clear hv' hbk hr hlen hn hrd hk hv
        go_enter Tryd.func64, Tryd.ntmps64
        go_wp2_with (first | (go_at_call 71; refine (Hcut.out _).mono ?_; rintro e w1 ⟨rfl, rfl⟩) | (go_at_call 72; refine (Hp.out _).mono ?_; rintro e w1 ⟨rfl, hb1⟩; have hs1 := hb1.size; obtain ⟨hc1, hf1⟩ := bcell hb1; have hz0 : w.heap.size < w1.heap.size := (by clear hc1 hf1; (try simp at hs1); omega); have hB1 : Below w.heap.size w w1 := (((Below.refl _ _).alloc (Nat.le_refl _) _).trans (hb1.mono (by simp)))))
        go_wp2_with (go_at_call 73; refine (implShow_any _ _ _ (HV.out _ (hB1.alloc hB1.size _)).1).mono ?_; rintro e w2 ⟨rfl, hb2⟩; have hs2 := hb2.size; obtain ⟨hc2, hf2⟩ := bcell hb2; have hz2 : w1.heap.size < w2.heap.size := (by simp at hs2; omega); have hy2 : w.heap.size < w2.heap.size := (by omega))
        have c00 := hc2 w.heap.size 0 (by simp; omega)
        have c01 := hc2 w.heap.size 1 (by simp; omega)
        refine bodyPost_ret (v := .tuple #[.agg #[.int .i64 0, .int .i64 n], .bool true]) (by simp [results, Tryd.results64, go_sem, *]) rfl ⟨rfl, ?_⟩
        clear hc1 hf1 hc2 hf2 c00 c01
        (repeat (first | exact Below.refl _ _ | refine Below.drew ?_ | refine Below.alloc ?_ ?_ _ | refine Below.setCell ?_ ?_ _ | refine Below.trans ?_ (Below.mono (by assumption) ?_))) <;> (first | omega | (simp at *; done) | (simp at *; omega))
    · have hk : rvKind b.data.toList = 1 := by unfold rvKind; rw [hx]; rfl
      cases hv : rvOk b.data.toList
      · have hv' := rv_no hv
        rw [hv'.2.1, hv'.2.2]
        have hne : (showB 1 n == b.toList) = false := by
          rw [Lib.toList_data, ← hk, ← hv, ← hbk.1]
          exact beq_dec _ _
        clear hv' hbk hr hlen hn hrd hk hv
        go_enter Tryd.func64, Tryd.ntmps64
        go_wp2_with (first | (go_at_call 71; refine (Hcut.out _).mono ?_; rintro e w1 ⟨rfl, rfl⟩) | (go_at_call 72; refine (Hp.out _).mono ?_; rintro e w1 ⟨rfl, hb1⟩; have hs1 := hb1.size; obtain ⟨hc1, hf1⟩ := bcell hb1; have hz0 : w.heap.size < w1.heap.size := (by clear hc1 hf1; (try simp at hs1); omega); have hB1 : Below w.heap.size w w1 := (((Below.refl _ _).alloc (Nat.le_refl _) _).trans (hb1.mono (by simp)))))
        go_wp2_with (go_at_call 73; refine (implShow_any _ _ _ (HV.out _ (hB1.alloc hB1.size _)).1).mono ?_; rintro e w2 ⟨rfl, hb2⟩; have hs2 := hb2.size; obtain ⟨hc2, hf2⟩ := bcell hb2; have hz2 : w1.heap.size < w2.heap.size := (by simp at hs2; omega); have hy2 : w.heap.size < w2.heap.size := (by omega))
        have c00 := hc2 w.heap.size 0 (by simp; omega)
        have c01 := hc2 w.heap.size 1 (by simp; omega)
        refine bodyPost_ret (v := .tuple #[.agg #[.int .i64 0, .int .i64 0], .bool false]) (by simp [results, Tryd.results64, go_sem, *]) rfl ⟨rfl, ?_⟩
        clear hc1 hf1 hc2 hf2 c00 c01
        (repeat (first | exact Below.refl _ _ | refine Below.drew ?_ | refine Below.alloc ?_ ?_ _ | refine Below.setCell ?_ ?_ _ | refine Below.trans ?_ (Below.mono (by assumption) ?_))) <;> (first | omega | (simp at *; done) | (simp at *; omega))
      · have hv' := rv_yes hv
        rw [hv'.2.1, hv'.2.2, hk, hbk.2 hv]
        have hne : (showB 1 n == b.toList) = true := by
          rw [Lib.toList_data, ← hk, ← hv, ← hbk.1]
          exact beq_dec _ _
        clear hv' hbk hr hlen hn hrd hk hv
        go_enter Tryd.func64, Tryd.ntmps64
        go_wp2_with (first | (go_at_call 71; refine (Hcut.out _).mono ?_; rintro e w1 ⟨rfl, rfl⟩) | (go_at_call 72; refine (Hp.out _).mono ?_; rintro e w1 ⟨rfl, hb1⟩; have hs1 := hb1.size; obtain ⟨hc1, hf1⟩ := bcell hb1; have hz0 : w.heap.size < w1.heap.size := (by clear hc1 hf1; (try simp at hs1); omega); have hB1 : Below w.heap.size w w1 := (((Below.refl _ _).alloc (Nat.le_refl _) _).trans (hb1.mono (by simp)))))
        go_wp2_with (go_at_call 73; refine (implShow_any _ _ _ (HV.out _ (hB1.alloc hB1.size _)).1).mono ?_; rintro e w2 ⟨rfl, hb2⟩; have hs2 := hb2.size; obtain ⟨hc2, hf2⟩ := bcell hb2; have hz2 : w1.heap.size < w2.heap.size := (by simp at hs2; omega); have hy2 : w.heap.size < w2.heap.size := (by omega))
        have c00 := hc2 w.heap.size 0 (by simp; omega)
        have c01 := hc2 w.heap.size 1 (by simp; omega)
        refine bodyPost_ret (v := .tuple #[.agg #[.int .i64 1, .int .i64 n], .bool true]) (by simp [results, Tryd.results64, go_sem, *]) rfl ⟨rfl, ?_⟩
        clear hc1 hf1 hc2 hf2 c00 c01
        (repeat (first | exact Below.refl _ _ | refine Below.drew ?_ | refine Below.alloc ?_ ?_ _ | refine Below.setCell ?_ ?_ _ | refine Below.trans ?_ (Below.mono (by assumption) ?_))) <;> (first | omega | (simp at *; done) | (simp at *; omega))
  · have hno := rv_no (no_parse (l := b.data.toList) (fun n e => hp ⟨n, by rw [← hr]; exact e⟩))
    rw [hno.1, hno.2.1, hno.2.2]
    have Hp : Hid (∀ w', Below w.heap.size w w' → Calls Tryd.prog 72 #[.string ⟨r.toArray⟩, .int .i64 10, .int .i64 64] w' (Fell w')) := fun w' hb =>
      parse_no ⟨r.toArray⟩ (by omega) (fun n e => hp ⟨n, e⟩) w' (HV.out _ hb).2.1 (HV.out _ hb).2.2
    clear hno hp hr hlen hrd
    cases hx : Lib.hasPrefix b.data.toList [112]
    all_goals
      go_enter Tryd.func64, Tryd.ntmps64
      go_wp2_with (go_at_call 71; refine (Hcut.out _).mono ?_; rintro e w1 ⟨rfl, rfl⟩)
      refine (Hp.out _ ((Below.refl _ _).alloc (Nat.le_refl _) _)).mono ?_
      rintro e w1 ⟨m, a, rfl, hb1⟩
      have hs1 := hb1.size; obtain ⟨hc1, hf1⟩ := bcell hb1; have hz0 : w.heap.size < w1.heap.size := (by clear hc1 hf1; (try simp at hs1); omega)
      go_wp2
      refine bodyPost_ret (v := .tuple #[.agg #[.int .i64 0, .int .i64 0], .bool false]) (by simp [results, Tryd.results64, go_sem, *]) rfl ⟨rfl, ?_⟩
      clear hc1 hf1
      (repeat (first | exact Below.refl _ _ | refine Below.drew ?_ | refine Below.alloc ?_ ?_ _ | refine Below.setCell ?_ ?_ _ | refine Below.trans ?_ (Below.mono (by assumption) ?_))) <;> (first | omega | (simp at *; done) | (simp at *; omega))

end L1
end Go.Proofs.YthlpjpoekfhnfaaDoor
