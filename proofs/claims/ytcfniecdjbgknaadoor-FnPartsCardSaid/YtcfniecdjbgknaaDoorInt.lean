/-
  The model's numeral: what it returns, and that nothing that was there turns.
-/
import Derived.Test.YtcfniecdjbgknaaDoorL1d
import Derived.Test.YtcfniecdjbgknaaDoorP1
import Derived.IntWalk
namespace Go.Proofs.YtcfniecdjbgknaaDoor
open Go.RowKit
namespace L1


def emptyN : Value → Nat | .string b => if b.size = 0 then 1 else 0 | _ => 0
def digB (u : Nat) : UInt8 := UInt8.ofNat (48 + u % 10)

set_option maxRecDepth 100000 in
theorem push_front (d : UInt8) (l : List UInt8) : (⟨#[d]⟩ : ByteArray) ++ (⟨l.toArray⟩ : ByteArray) = ⟨(d :: l).toArray⟩ :=
  ByteArray.mk_append_mk [d] l
theorem push_front0 (d : UInt8) : (⟨#[d]⟩ : ByteArray) ++ (⟨#[]⟩ : ByteArray) = ⟨[d].toArray⟩ :=
  ByteArray.mk_append_mk [d] []
theorem emptyN_cons (d : UInt8) (l : List UInt8) : emptyN (.string ⟨(d :: l).toArray⟩) = 0 := by
  simp [emptyN, ByteArray.size]
theorem emptyN_nil : emptyN (.string ⟨#[]⟩) = 1 := by simp [emptyN, ByteArray.size]

theorem conv1 (u : Nat) (w : World) :
    (convert 22 9 (.slice (some ⟨w.heap.size, 0, none⟩) 1 1)).run Tryd.prog (w.alloc (.cells #[.int .u8 (48 + (u : Int) % 10)] 5)) = .ok (.string ⟨[digB u].toArray⟩) (w.alloc (.cells #[.int .u8 (48 + (u : Int) % 10)] 5)) := by
  have h := run_convert_bytes_back (P := Tryd.prog) (w.alloc (.cells #[.int .u8 (48 + (u : Int) % 10)] 5)) 22 9 5 ⟨w.heap.size, 0, none⟩ 1 [digB u] Tryd.underlying22 Tryd.underlying5 Tryd.underlying9 (by
    intro j hj
    have : j = 0 := by simpa using hj
    subst this
    have hd : ((digB u).toNat : Int) = 48 + (u : Int) % 10 := by unfold digB; simp; omega
    simp only [List.getElem_cons_zero, hd]
    simp [go_sem])
  exact h

set_option maxRecDepth 100000 in
set_option maxHeartbeats 1000000 in
theorem l1Int_pos (u0 : Nat) (h0 : u0 ≤ 1000000000000000000) (w : World) :
    Calls Tryd.prog 71 #[.int .i64 (u0 : Int)] w fun e w' => e = .returned (.string ⟨(Lib.decDigits u0).toArray⟩) ∧ Below w.heap.size w w' := by
  have hnn : ¬ ((u0 : Int) < 0) := by omega
  have hnd : decide ((u0 : Int) < 0) = false := by simp
  go_enter Tryd.func71, Tryd.ntmps71
  go_wp2
  go_loopw [0, 3] (fun n s wr => ∃ (u : Nat) (acc : List UInt8), n = .int .i64 (u : Int) ∧ s = .string ⟨acc.toArray⟩ ∧ P1.ahead u acc ++ acc = Lib.decDigits u0 ∧ u ≤ u0 ∧ acc.length ≤ 30 ∧ Below w.heap.size w wr) (fun n s _ => (intOf n).toNat + emptyN s)
  case atStart => exact ⟨u0, [], rfl, rfl, by rw [P1.ahead_start]; simp, Nat.le_refl _, by simp, Below.refl _ _⟩
  case round =>
    obtain ⟨u, acc, rfl, rfl, hk, hu, hl, hb⟩ := hrel
    have kc := conv1 u wr
    by_cases hx : acc = [] ∨ u ≠ 0
    · have hr := P1.round_pos hk h0 hx
      have Hr := Lib.hid hr
      clear hr hk
      cases acc with
      | nil =>
        go_wp2
        all_goals
          rw [push_front0]
          refine ⟨⟨u / 10, [digB u], by simp, rfl, Hr.out.1, by omega, Hr.out.2, hb.alloc hb.size _⟩, ?_⟩
          rw [emptyN_cons, emptyN_nil]
          simp [intOf]; omega
      | cons c r =>
        have hne : (u : Int) ≠ 0 := by
          rcases hx with h | h
          · cases h
          · omega
        have hne' : ((u : Int) != 0) = true := by simpa using hne
        have hl2 : r.length ≤ 29 := by simpa using hl
        go_wp2
        all_goals
          rw [push_front]
          refine ⟨⟨u / 10, digB u :: c :: r, by simp, rfl, Hr.out.1, by omega, Hr.out.2, hb.alloc hb.size _⟩, ?_⟩
          rw [emptyN_cons, emptyN_cons]
          simp [intOf]; omega
    · have hz : u = 0 := by omega
      have Hk := Lib.hid hk
      clear hk
      subst hz
      cases acc with
      | nil => exact absurd (Or.inl rfl) hx
      | cons c r =>
        clear hx kc
        go_wp2
        go_ret
        refine ⟨?_, hb⟩
        rw [← Hk.out, P1.ahead_end (by simp)]
        rfl

theorem conv0 (u : Nat) (hu : (u : Int) % 10 = 0) (w : World) :
    (convert 22 9 (.slice (some ⟨w.heap.size, 0, none⟩) 1 1)).run Tryd.prog (w.alloc (.cells #[.int .u8 48] 5)) = .ok (.string ⟨[digB u].toArray⟩) (w.alloc (.cells #[.int .u8 48] 5)) := by
  have h := conv1 u w
  rw [hu] at h
  exact h

set_option maxRecDepth 100000 in
set_option maxHeartbeats 2000000 in
theorem l1Int_neg (u0 : Nat) (h0 : u0 ≤ 1000000000000000000) (hp : 0 < u0) (w : World) :
    Calls Tryd.prog 71 #[.int .i64 (-(u0 : Int))] w fun e w' => e = .returned (.string ⟨(45 :: Lib.decDigits u0).toArray⟩) ∧ Below w.heap.size w w' := by
  have hnn : (-(u0 : Int)) < 0 := by omega
  have hnd : decide ((-(u0 : Int)) < 0) = true := by simpa using hp
  go_enter Tryd.func71, Tryd.ntmps71
  go_wp2
  go_loopw [0, 3] (fun n s wr => ∃ (u : Nat) (acc : List UInt8), n = .int .i64 (-(u : Int)) ∧ s = .string ⟨acc.toArray⟩ ∧ P1.ahead u acc ++ acc = Lib.decDigits u0 ∧ u ≤ u0 ∧ acc.length ≤ 30 ∧ Below w.heap.size w wr) (fun n s _ => (intOf n).natAbs + emptyN s)
  case atStart => exact ⟨u0, [], rfl, rfl, by rw [P1.ahead_start]; simp, Nat.le_refl _, by simp, Below.refl _ _⟩
  case round =>
    obtain ⟨u, acc, rfl, rfl, hk, hu, hl, hb⟩ := hrel
    have kc := conv1 u wr
    have hm : Int.tmod (-(u : Int)) 10 = -((u : Int) % 10) := by rw [Int.neg_tmod, Int.tmod_eq_emod_of_nonneg (by omega)]
    have hq : Int.tdiv (-(u : Int)) 10 = -((u : Int) / 10) := by rw [Int.neg_tdiv, Int.tdiv_eq_ediv_of_nonneg (by omega)]
    by_cases hx : acc = [] ∨ u ≠ 0
    · have hr := P1.round_pos hk h0 hx
      have Hr := Lib.hid hr
      clear hr hk
      by_cases hd : (u : Int) % 10 = 0
      · have kd := conv0 u hd wr
        rw [hd] at hm
        simp only [Int.neg_zero] at hm
        clear kc
        cases acc with
        | nil =>
          go_wp2
          rw [push_front0]
          refine ⟨⟨u / 10, [digB u], by simp, rfl, Hr.out.1, by omega, Hr.out.2, hb.alloc hb.size _⟩, ?_⟩
          rw [emptyN_cons, emptyN_nil]
          simp [intOf]; omega
        | cons c r =>
          have hne' : ((-(u : Int)) != 0) = true := by
            rcases hx with h | h
            · cases h
            · simp; omega
          have hl2 : r.length ≤ 29 := by simpa using hl
          go_wp2
          rw [push_front]
          refine ⟨⟨u / 10, digB u :: c :: r, by simp, rfl, Hr.out.1, by omega, Hr.out.2, hb.alloc hb.size _⟩, ?_⟩
          rw [emptyN_cons, emptyN_cons]
          have hu0 : u ≠ 0 := (by rcases hx with h | h; cases h; exact h)
          simp [intOf]; omega
      · have hlt : -((u : Int) % 10) < 0 := by omega
        cases acc with
        | nil =>
          go_wp2
          rw [push_front0]
          refine ⟨⟨u / 10, [digB u], by simp, rfl, Hr.out.1, by omega, Hr.out.2, hb.alloc hb.size _⟩, ?_⟩
          rw [emptyN_cons, emptyN_nil]
          simp [intOf]; omega
        | cons c r =>
          have hne' : ((-(u : Int)) != 0) = true := by
            rcases hx with h | h
            · cases h
            · simp; omega
          have hl2 : r.length ≤ 29 := by simpa using hl
          go_wp2
          rw [push_front]
          refine ⟨⟨u / 10, digB u :: c :: r, by simp, rfl, Hr.out.1, by omega, Hr.out.2, hb.alloc hb.size _⟩, ?_⟩
          rw [emptyN_cons, emptyN_cons]
          have hu0 : u ≠ 0 := (by rcases hx with h | h; cases h; exact h)
          simp [intOf]; omega
    · have hz : u = 0 := by omega
      have Hk := Lib.hid hk
      clear hk hm hq kc
      subst hz
      cases acc with
      | nil => exact absurd (Or.inl rfl) hx
      | cons c r =>
        clear hx
        have hl2 : r.length ≤ 29 := by simpa using hl
        go_wp2
        go_ret
        refine ⟨?_, hb⟩
        rw [← Hk.out, P1.ahead_end (by simp)]
        exact congrArg (fun x => Ending.returned (Value.string x)) (push_front 45 (c :: r))

theorem l1Int_any (n : Int) (h1 : -1000000000000000000 ≤ n) (h2 : n ≤ 1000000000000000000) (w : World) :
    Calls Tryd.prog 71 #[.int .i64 n] w fun e w' => e = .returned (.string ⟨(Lib.itoa n).toArray⟩) ∧ Below w.heap.size w w' := by
  by_cases h : n < 0
  · obtain ⟨u, rfl⟩ : ∃ u : Nat, n = -(u : Int) := ⟨n.natAbs, by omega⟩
    have hi : Lib.itoa (-(u : Int)) = 45 :: Lib.decDigits u := by unfold Lib.itoa; rw [if_pos h]; simp
    rw [hi]
    exact l1Int_neg u (by omega) (by omega) w
  · obtain ⟨u, rfl⟩ : ∃ u : Nat, n = (u : Int) := ⟨n.natAbs, by omega⟩
    have hi : Lib.itoa (u : Int) = Lib.decDigits u := by unfold Lib.itoa; rw [if_neg h]; simp
    rw [hi]
    exact l1Int_pos u (by omega) w

end L1
end Go.Proofs.YtcfniecdjbgknaaDoor
