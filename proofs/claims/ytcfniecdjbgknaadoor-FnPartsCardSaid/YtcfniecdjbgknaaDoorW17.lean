/-
  Rows compared, marked and looked at again: what the laws do with an answer's memory.
-/
import Derived.Test.YtcfniecdjbgknaaDoorW16
namespace Go.Proofs.YtcfniecdjbgknaaDoor
open Go.RowKit
namespace L2
open S1 L1

set_option maxRecDepth 100000 in
set_option maxHeartbeats 1000000 in
theorem eqInt64S_any (v v' : Value) (xs : List Nat) (B B' : Nat) (w : World) (hO : OwI w B v xs) (hO' : OwI w B' v' xs) :
    Calls Tryd.prog 53 #[v, v'] w fun e w' => e = .returned (.bool true) ∧ Below w.heap.size w w' := by
  obtain ⟨g, cap, rfl, h1, h2, h3, h4, h5⟩ := hO.form
  obtain ⟨g', cap', rfl, h1', h2', h3', h4', h5'⟩ := hO'.form
  obtain ⟨n, hn⟩ : ∃ n, xs.length = n := ⟨_, rfl⟩
  rw [hn] at h1 h5 h1' h5' ⊢
  unfold maxLen at h2 h2'
  have H5 := Lib.hid h5
  have H5' := Lib.hid h5'
  clear hn h5 h5' hO hO'
  go_enter Tryd.func53, Tryd.ntmps53
  go_wp2
  go_loopw [5] (fun i wr => ∃ k : Nat, k ≤ n ∧ i = .int .i64 (k : Int) ∧ Below w.heap.size w wr) (fun i _ => n - (intOf i).toNat)
  case atStart => exact ⟨0, Nat.zero_le _, rfl, Below.refl _ _⟩
  case round =>
    obtain ⟨k, hk, rfl, hB⟩ := hrel
    have HB := Lib.hid hB
    clear hB
    by_cases hlt : k < n
    · have hc1 := (HB.out.cell (p := ⟨g, k, none⟩) h4).trans (H5.out k hlt).1
      have hc2 := (HB.out.cell (p := ⟨g', k, none⟩) h4').trans (H5'.out k hlt).1
      obtain ⟨z, hz⟩ : ∃ z : Nat, xs.getD k 0 = z := ⟨_, rfl⟩
      rw [hz] at hc1 hc2
      clear hz
      have hk0 : (0 : Int) ≤ (k : Int) := by omega
      have hki : (k : Int) < (n : Int) := by omega
      go_wp2
      go_quiet (fail)
      go_wp2
      go_roundw
      case rel => exact ⟨k + 1, by omega, by go_num, by first | exact HB.out | exact HB.out.drew | exact HB.out.grown (D.grown_draws _ _ none) HB.out.size (by simp)⟩
      case measure => simp [intOf]; omega
    · have hki : ¬ (k : Int) < (n : Int) := by omega
      go_wp2
      go_ret
      exact ⟨rfl, HB.out⟩

/-- The text of a mark. -/
def mtxt (k : Nat) : ByteArray := ⟨(109 :: Lib.decDigits k).toArray⟩

set_option maxRecDepth 100000 in
set_option maxHeartbeats 1000000 in
theorem markText_any (u0 : Nat) (h0 : u0 ≤ 1000000000000000000) (w : World) :
    Calls Tryd.prog 89 #[.int .i64 (u0 : Int)] w fun e w' => e = .returned (.string (mtxt u0)) ∧ Below w.heap.size w w' := by
  by_cases hz : u0 = 0
  · subst hz
    have hd : mtxt 0 = ⟨#[109, 48]⟩ := by unfold mtxt; rw [Lib.decDigits]; rfl
    rw [hd]
    go_enter Tryd.func89, Tryd.ntmps89
    go_wp2
    go_ret
    exact ⟨rfl, Below.refl _ _⟩
  have hnn : ¬ ((u0 : Int) ≤ 0) := by omega
  have hnd : decide ((u0 : Int) ≤ 0) = false := by simp; omega
  unfold mtxt
  go_enter Tryd.func89, Tryd.ntmps89
  go_wp2
  go_loopw [0, 3] (fun n s wr => ∃ (u : Nat) (acc : List UInt8), n = .int .i64 (u : Int) ∧ s = .string ⟨acc.toArray⟩ ∧ P1.ahead u acc ++ acc = Lib.decDigits u0 ∧ u ≤ u0 ∧ acc.length ≤ 30 ∧ (u = 0 → acc ≠ []) ∧ Below w.heap.size w wr) (fun n _ _ => (intOf n).toNat)
  case atStart => exact ⟨u0, [], rfl, rfl, by rw [P1.ahead_start]; simp, Nat.le_refl _, by simp, fun h => absurd h hz, Below.refl _ _⟩
  case round =>
    obtain ⟨u, acc, rfl, rfl, hk, hu, hl, hne, hb⟩ := hrel
    have kc := conv1 u wr
    have HB := Lib.hid hb
    have HNE := Lib.hid hne
    clear hb hne
    by_cases hx : u = 0
    · have Hk := Lib.hid hk
      have hacc := HNE.out hx
      subst hx
      have Hacc := Lib.hid hacc
      clear hk kc hacc
      go_wp2
      go_ret
      refine ⟨?_, HB.out⟩
      rw [← Hk.out, P1.ahead_end Hacc.out]
      exact congrArg (fun x => Ending.returned (Value.string x)) (push_front 109 acc)
    · have hr := P1.round_pos hk h0 (Or.inr hx)
      have Hr := Lib.hid hr
      have hpos : (0 : Int) < (u : Int) := by omega
      clear hr hk
      cases acc with
      | nil =>
        go_wp2
        rw [push_front0]
        refine ⟨⟨u / 10, [digB u], by simp, rfl, Hr.out.1, by omega, Hr.out.2, fun _ => by simp, HB.out.alloc HB.out.size _⟩, ?_⟩
        simp [intOf]; omega
      | cons c r =>
        have hl2 : r.length ≤ 29 := by simpa using hl
        go_wp2
        rw [push_front]
        refine ⟨⟨u / 10, digB u :: c :: r, by simp, rfl, Hr.out.1, by omega, Hr.out.2, fun _ => by simp, HB.out.alloc HB.out.size _⟩, ?_⟩
        simp [intOf]; omega

/-- What lies at the head of a block, that may be written. -/
def Mem (w : World) (X : Nat) (xs : List Value) : Prop :=
  X < w.heap.size ∧ ∀ j, j < xs.length → w.cell? ⟨X, j, none⟩ = some (xs.getD j (.int .i64 0)) ∧ w.frozen? ⟨X, j, none⟩ = false
theorem Mem.below {w w' : World} {X : Nat} {xs : List Value} (h : Mem w X xs) (hb : Below w.heap.size w w') : Mem w' X xs :=
  ⟨Nat.lt_of_lt_of_le h.1 hb.size, fun j hj => ⟨(hb.cell (p := ⟨X, j, none⟩) h.1).trans (h.2 j hj).1, (hb.frozen (p := ⟨X, j, none⟩) h.1).trans (h.2 j hj).2⟩⟩
theorem Lst.mem {w : World} {X : Nat} {ss : List ByteArray} (h : Lst w X ss) : Mem w X (ss.map Value.string) := by
  refine ⟨h.lt, fun j hj => ?_⟩
  unfold Lst at h
  have hj' : j < ss.length := by simpa using hj
  simp [World.cell?, World.frozen?, h, hj', List.getD]
theorem OwI.mem {w : World} {B g cap n : Nat} {xs : List Nat} (h : OwI w B (.slice (some ⟨g, 0, none⟩) n cap) xs) : Mem w g (xs.map numV) := by
  obtain ⟨g', cap', hv, _, _, _, hlt, hc⟩ := h.form
  cases hv
  refine ⟨hlt, fun j hj => ?_⟩
  have hj' : j < xs.length := by simpa using hj
  have := hc j hj'
  simpa [List.getD, hj', numV] using this

/-- Some cells marked already: the first k of them by f, the others still as they were. -/
def Part (w : World) (X n k : Nat) (f : Nat → Value) : Prop :=
  X < w.heap.size ∧ ∀ j, j < n → (∃ u, w.cell? ⟨X, j, none⟩ = some u ∧ (j < k → u = f j)) ∧ w.frozen? ⟨X, j, none⟩ = false
theorem Mem.part {w : World} {X : Nat} {xs : List Value} (h : Mem w X xs) (f : Nat → Value) : Part w X xs.length 0 f :=
  ⟨h.1, fun j hj => ⟨⟨_, (h.2 j hj).1, fun hk => by omega⟩, (h.2 j hj).2⟩⟩
theorem Part.mem {w : World} {X n : Nat} {f : Nat → Value} (h : Part w X n n f) : Mem w X ((List.range n).map f) := by
  refine ⟨h.1, fun j hj => ?_⟩
  have hj' : j < n := by simpa using hj
  obtain ⟨⟨u, hu, hf⟩, hz⟩ := h.2 j hj'
  rw [hf hj'] at hu
  refine ⟨?_, hz⟩
  rw [hu]
  simp [List.getD, hj']
theorem Part.below {w w' : World} {X n k : Nat} {f : Nat → Value} (h : Part w X n k f) (hb : Below w.heap.size w w') : Part w' X n k f :=
  ⟨Nat.lt_of_lt_of_le h.1 hb.size, fun j hj => by
    obtain ⟨⟨u, hu, hf⟩, hz⟩ := h.2 j hj
    exact ⟨⟨u, (hb.cell (p := ⟨X, j, none⟩) h.1).trans hu, hf⟩, (hb.frozen (p := ⟨X, j, none⟩) h.1).trans hz⟩⟩
theorem Part.store {w : World} {X n k : Nat} {f : Nat → Value} (h : Part w X n k f) (hk : k < n) : Part (w.setCell ⟨X, k, none⟩ (f k)) X n (k + 1) f := by
  refine ⟨by simpa [World.setCell] using h.1, fun j hj => ?_⟩
  obtain ⟨⟨u, hu, hf⟩, hz⟩ := h.2 j hj
  refine ⟨?_, by simpa [go_sem] using hz⟩
  by_cases e : j = k
  · subst e
    exact ⟨f j, World.cell?_setCell_same' _ _ _ (by rw [hu]; rfl), fun _ => rfl⟩
  · exact ⟨u, (World.cell?_setCell_other _ _ _ _ (by intro h; injection h with _ h; exact e h.symm)).trans hu, fun hj2 => hf (by omega)⟩

/-- What marking a row leaves: it is marked, and no other old block has turned. -/
def Marked (X n k : Nat) (f : Nat → Value) (w : World) (e : Ending) (w' : World) : Prop :=
  e = .returned (.int .i64 ((k + n : Nat) : Int)) ∧ Mem w' X ((List.range n).map f) ∧ w.grownBy w' (some X)

set_option maxRecDepth 100000 in
set_option maxHeartbeats 1000000 in
theorem markStringS_any (X n cap k0 : Nat) (w : World) (xs : List Value) (hM : Mem w X xs) (hn : xs.length = n) (h1 : n ≤ cap) (hb : n ≤ 1048576) (hk0 : k0 ≤ 1000000000) :
    Calls Tryd.prog 54 #[.slice (some ⟨X, 0, none⟩) n cap, .int .i64 (k0 : Int)] w (Marked X n k0 (fun j => .string (mtxt (k0 + j))) w) := by
  have hP := hM.part (fun j => .string (mtxt (k0 + j)))
  rw [hn] at hP
  have HP := Lib.hid hP
  clear hM hn hP
  go_enter Tryd.func54, Tryd.ntmps54
  go_wp2
  go_loopw [1, 5] (fun q i wr => ∃ k : Nat, k ≤ n ∧ i = .int .i64 (k : Int) ∧ q = .int .i64 ((k0 + k : Nat) : Int) ∧ Part wr X n k (fun j => .string (mtxt (k0 + j))) ∧ w.grownBy wr (some X)) (fun _ i _ => n - (intOf i).toNat)
  case atStart => exact ⟨0, Nat.zero_le _, rfl, rfl, HP.out, ⟨rfl, rfl, rfl, Nat.le_refl _, fun _ _ _ => rfl⟩⟩
  case round =>
    obtain ⟨k, hk, rfl, rfl, hP, hG⟩ := hrel
    have HP := Lib.hid hP
    have HG := Lib.hid hG
    clear hP hG
    by_cases hlt : k < n
    · have hki : (k : Int) < (n : Int) := by omega
      have hcall := markText_any (k0 + k) (by omega) wr
      obtain ⟨t, ht⟩ : ∃ t, mtxt (k0 + k) = t := ⟨_, rfl⟩
      rw [ht] at hcall
      have Ht := Lib.hid ht
      have Hc := Lib.hid hcall
      clear ht hcall
      go_wp2_with fail
      refine Hc.out.mono ?_
      rintro e w1 ⟨rfl, hb1⟩
      have HP1 := Lib.hid (HP.out.below hb1)
      have HG1 := Lib.hid (HG.out.trans (D.grown_of_below hb1 (some X)))
      obtain ⟨⟨u, hu, _⟩, hz⟩ := HP1.out.2 k hlt
      have HS := Lib.hid (HP1.out.store hlt)
      rw [Ht.out] at HS
      clear hb1
      go_wp2_with fail
      go_roundw
      case rel => exact ⟨k + 1, by omega, by go_num, by go_num, HS.out, HG1.out.trans (D.grown_set _ _ _ _)⟩
      case measure => simp [intOf]; omega
    · have hki : ¬ (k : Int) < (n : Int) := by omega
      have hkn : k = n := by omega
      subst hkn
      go_wp2_with fail
      go_ret
      exact ⟨rfl, HP.out.mem, HG.out⟩

set_option maxRecDepth 100000 in
set_option maxHeartbeats 1000000 in
theorem markInt64S_any (X n cap k0 : Nat) (w : World) (xs : List Value) (hM : Mem w X xs) (hn : xs.length = n) (h1 : n ≤ cap) (hb : n ≤ 1048576) (hk0 : k0 ≤ 1000000000) :
    Calls Tryd.prog 55 #[.slice (some ⟨X, 0, none⟩) n cap, .int .i64 (k0 : Int)] w (Marked X n k0 (fun j => numV (k0 + j)) w) := by
  have hP := hM.part (fun j => numV (k0 + j))
  rw [hn] at hP
  have HP := Lib.hid hP
  clear hM hn hP
  go_enter Tryd.func55, Tryd.ntmps55
  go_wp2
  go_loopw [1, 5] (fun q i wr => ∃ k : Nat, k ≤ n ∧ i = .int .i64 (k : Int) ∧ q = .int .i64 ((k0 + k : Nat) : Int) ∧ Part wr X n k (fun j => numV (k0 + j)) ∧ w.grownBy wr (some X)) (fun _ i _ => n - (intOf i).toNat)
  case atStart => exact ⟨0, Nat.zero_le _, rfl, rfl, HP.out, ⟨rfl, rfl, rfl, Nat.le_refl _, fun _ _ _ => rfl⟩⟩
  case round =>
    obtain ⟨k, hk, rfl, rfl, hP, hG⟩ := hrel
    have HP := Lib.hid hP
    have HG := Lib.hid hG
    clear hP hG
    by_cases hlt : k < n
    · have hki : (k : Int) < (n : Int) := by omega
      obtain ⟨⟨u, hu, _⟩, hz⟩ := HP.out.2 k hlt
      have HS := Lib.hid (HP.out.store hlt)
      simp only [numV] at HS
      go_wp2_with fail
      go_roundw
      case rel => exact ⟨k + 1, by omega, by go_num, by go_num, HS.out, HG.out.trans (D.grown_set _ _ _ _)⟩
      case measure => simp [intOf]; omega
    · have hki : ¬ (k : Int) < (n : Int) := by omega
      have hkn : k = n := by omega
      subst hkn
      go_wp2_with fail
      go_ret
      exact ⟨rfl, HP.out.mem, HG.out⟩

set_option maxRecDepth 100000 in
set_option maxHeartbeats 1000000 in
theorem heldInt64S_any (X n cap k0 : Nat) (w : World) (hM : Mem w X ((List.range n).map fun j => numV (k0 + j))) (h1 : n ≤ cap) (hb : n ≤ 1048576) (hk0 : k0 ≤ 1000000000) :
    Calls Tryd.prog 56 #[.slice (some ⟨X, 0, none⟩) n cap, .int .i64 (k0 : Int)] w fun e w' => e = .returned (.int .i64 ((k0 + n : Nat) : Int)) ∧ w = w' := by
  have HM := Lib.hid hM
  clear hM
  go_enter Tryd.func56, Tryd.ntmps56
  go_wp2
  go_loop [1, 5] (fun q i => ∃ k : Nat, k ≤ n ∧ i = .int .i64 (k : Int) ∧ q = .int .i64 ((k0 + k : Nat) : Int)) (fun _ i => n - (intOf i).toNat)
  case atStart => exact ⟨0, Nat.zero_le _, rfl, rfl⟩
  case round =>
    obtain ⟨k, hk, rfl, rfl⟩ := hrel
    by_cases hlt : k < n
    · have hki : (k : Int) < (n : Int) := by omega
      have hc := (HM.out.2 k (by simpa using hlt)).1
      have e : ((List.range n).map fun j => numV (k0 + j)).getD k (.int .i64 0) = .int .i64 ((k0 + k : Nat) : Int) := by simp [List.getD, hlt, numV]
      rw [e] at hc
      clear e
      go_wp2
      go_round
      case rel => exact ⟨k + 1, by omega, by go_num, by go_num⟩
      case measure => simp [intOf]; omega
    · have hki : ¬ (k : Int) < (n : Int) := by omega
      have hkn : k = n := by omega
      subst hkn
      go_wp2
      go_ret
      exact ⟨rfl, rfl⟩

end L2
end Go.Proofs.YtcfniecdjbgknaaDoor
