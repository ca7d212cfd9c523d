/-
  The model's reader of numbers: what it answers at every text; nothing that was there turns.
-/
import Derived.Test.YtcfniecdjbgknaaDoorShow
import Derived.Test.YtcfniecdjbgknaaDoorP3
namespace Go.Proofs.YtcfniecdjbgknaaDoor
open Go.RowKit
namespace L1

theorem at_data (b : ByteArray) (k : Nat) (h : k < b.size) : b.data.toList[k]'h = b[k]'h := rfl
theorem len_data (b : ByteArray) : b.data.toList.length = b.size := rfl
theorem isEmpty_of (b : ByteArray) (h : 0 < b.size) : b.toList.isEmpty = false := by
  rw [Bool.eq_false_iff, Ne, List.isEmpty_iff]
  intro e
  have : b = ByteArray.empty := by
    have hd := decide_eq_emptyBytes b
    rw [e] at hd
    simpa using hd
  rw [this] at h
  exact absurd h (by decide)
theorem sign_of (b : ByteArray) (h : 0 < b.size) : P1.signed b.data.toList = decide (b[0]'h = 45) := by
  unfold P1.signed
  have : b.data.toList.head? = some (b[0]'h) := by rw [List.head?_eq_getElem?]; rw [List.getElem?_eq_getElem h]; rfl
  rw [this]; simp
theorem byte_eq (c d : UInt8) : decide (c = d) = ((c.toNat : Int) == (d.toNat : Int)) := by
  by_cases h : c = d
  · subst h; simp
  · have : c.toNat ≠ d.toNat := fun e => h (UInt8.toNat_inj.1 e)
    simp [h]; omega

set_option maxRecDepth 100000 in
set_option maxHeartbeats 4000000 in
theorem l1Read_pos (b : ByteArray) (hs : b.size ≤ maxLen) (h0 : 0 < b.size) (hlen : b.size ≤ 9) (hsg : P1.signed b.data.toList = false) (w : World) :
    Calls Tryd.prog 70 #[.string b] w fun e w' => e = .returned (.tuple #[.int .i64 (P1.rdN b.data.toList), .bool (P1.rdOk b.data.toList)]) ∧ w = w' := by
  unfold maxLen at hs
  have hp : 0 < b.size := by omega
  have hne := isEmpty_of b hp
  have hm := P1.mag_no hsg
  have h45 : (((b[0]'hp).toNat : Int) == 45) = false := by
    have := sign_of b hp
    rw [hsg, byte_eq] at this
    exact this.symm
  have Hm := Lib.hid hm
  have Hs := Lib.hid hsg
  clear hm hsg
  have hlt : (0 : Int) < (b.size : Int) := by omega
  go_enter Tryd.func70, Tryd.ntmps70
  go_wp2
  go_loop [6, 7] (fun n i => ∃ k : Nat, 0 ≤ k ∧ k ≤ b.size ∧ (P1.mid b.data.toList 0 k).all P1.dgB = true ∧ n = .int .i64 (P1.numOf 0 (P1.mid b.data.toList 0 k) : Int) ∧ i = .int .i64 (k : Int)) (fun _ i => b.size - (intOf i).toNat)
  case atStart => exact ⟨0, Nat.le_refl _, by omega, by rw [P1.mid_start]; rfl, by rw [P1.mid_start, P1.numOf_nil]; rfl, rfl⟩
  case round =>
    obtain ⟨k, hik, hk, hall, rfl, rfl⟩ := hrel
    by_cases hlk : k < b.size
    · have hsm := P1.num_small8 b.data.toList 0 k hk (by omega) hall
      have hns := P1.num_step b.data.toList 0 k hik hlk
      have Hns := Lib.hid hns
      clear hns
      have hat := at_data b k hlk
      cases hd : P1.dgB (b[k]'hlk)
      · have hno : P1.rdOk b.data.toList = false := P1.rd_digit Hm.out hik hlk (by rw [hat]; exact hd)
        have hn0 := P1.rdN_no hno
        have hor : ((b[k]'hlk).toNat : Int) < 48 ∨ (57 : Int) < ((b[k]'hlk).toNat : Int) := by
          simp [P1.dgB] at hd; omega
        clear hat
        rcases hor with ho | ho
        · go_wp2
          go_ret2
          exact ⟨rfl, rfl⟩
        · have ho' : ¬ (((b[k]'hlk).toNat : Int) < 48) := by omega
          go_wp2
          go_ret2
          exact ⟨rfl, rfl⟩
      · have hdd := P1.dgB_iff.1 hd
        have h1 : (48 : Int) ≤ ((b[k]'hlk).toNat : Int) := by omega
        have h2 : ((b[k]'hlk).toNat : Int) ≤ 57 := by omega
        have Hal := Lib.hid (P1.all_step b.data.toList 0 k hik hlk hall (by rw [hat]; exact hd))
        have Hat := Lib.hid hat
        clear hat hd hdd hall
        go_wp2
        go_round
        case rel =>
          refine ⟨k + 1, by omega, by omega, Hal.out, ?_, by go_num⟩
          rw [Hns.out, Hat.out]
          have : (b[k]'hlk).toNat - 48 + 48 = (b[k]'hlk).toNat := by omega
          exact congrArg (Value.int .i64) (by omega)
        case measure => simp [intOf]; omega
    · have hke : k = b.size := by omega
      subst hke
      have he : P1.mid b.data.toList 0 b.size = b.data.toList.drop 0 := P1.mid_end b.data.toList 0
      have hra := P1.rd_all Hm.out (show 0 + 1 ≤ b.data.toList.length from h0) (show b.data.toList.length ≤ 0 + 9 from by rw [len_data]; omega) (by rw [← he]; exact hall)
      have hat : b.data.toList[0]'h0 = b[0]'h0 := rfl
      rw [hat, Hs.out, byte_eq] at hra
      have Hbig := Lib.hid (P1.num_small b.data.toList 0 b.size (Nat.le_refl _) (by omega) hall)
      have hbig : (P1.numOf 0 (P1.mid b.data.toList 0 b.size) : Int) < 1000000000 := by have := Hbig.out; omega
      have hyes : ∀ h : P1.rdOk b.data.toList = true, P1.rdN b.data.toList = (P1.numOf 0 (P1.mid b.data.toList 0 b.size) : Int) := fun h => by
        rw [P1.rdN_yes h, Hs.out, Hm.out, he]; rfl
      have Hra := Lib.hid hra
      have Hyes := Lib.hid hyes
      clear hra hyes he hall hat
      by_cases hz : (b[0]'h0).toNat = 48
      · have hzi : (((b[0]'h0).toNat : Int) == 48) = true := by rw [hz]; rfl
        by_cases h1 : b.size = 1
        · have hok : P1.rdOk b.data.toList = true := by
            rw [Hra.out]; show (!(_ && (false || decide (0 + 1 < b.size)))) = true
            rw [h1]; simp
          have hnn := Hyes.out hok
          go_wp2
          go_ret2
          exact ⟨rfl, rfl⟩
        · have h1' : (1 : Int) < (b.size : Int) := by omega
          have hok : P1.rdOk b.data.toList = false := by
            rw [Hra.out]; show (!((((b[0]'h0).toNat : Int) == 48) && (false || decide (0 + 1 < b.size)))) = false
            rw [hzi]; simp; omega
          have hnn := P1.rdN_no hok
          go_wp2
          go_ret2
          exact ⟨rfl, rfl⟩
      · have hzi : (((b[0]'h0).toNat : Int) == 48) = false := by simp; omega
        have hok : P1.rdOk b.data.toList = true := by
          rw [Hra.out]; show (!((((b[0]'h0).toNat : Int) == 48) && _)) = true
          rw [hzi]; rfl
        have Hnn := Lib.hid (Hyes.out hok)
        clear Hyes Hra Hbig
        generalize P1.numOf 0 (P1.mid b.data.toList 0 b.size) = N at *
        have hN : (0 : Int) ≤ (N : Int) := by omega
        obtain ⟨c, hc⟩ : ∃ c, b[0]'h0 = c := ⟨_, rfl⟩
        rw [hc] at hzi
        clear hik hk hlk hz hlen hs hne h45
        go_wp2
        go_ret2
        rw [Hnn.out]
        exact ⟨rfl, rfl⟩


set_option maxRecDepth 100000 in
set_option maxHeartbeats 4000000 in
theorem l1Read_neg (b : ByteArray) (hs : b.size ≤ maxLen) (h0 : 1 < b.size) (hlen : b.size ≤ 10) (hsg : P1.signed b.data.toList = true) (w : World) :
    Calls Tryd.prog 70 #[.string b] w fun e w' => e = .returned (.tuple #[.int .i64 (P1.rdN b.data.toList), .bool (P1.rdOk b.data.toList)]) ∧ w = w' := by
  unfold maxLen at hs
  have hp : 0 < b.size := by omega
  have hne := isEmpty_of b hp
  have hm := P1.mag_yes hsg
  have h45 : (((b[0]'hp).toNat : Int) == 45) = true := by
    have := sign_of b hp
    rw [hsg, byte_eq] at this
    exact this.symm
  have Hm := Lib.hid hm
  have Hs := Lib.hid hsg
  clear hm hsg
  have hlt : (0 : Int) < (b.size : Int) := by omega
  go_enter Tryd.func70, Tryd.ntmps70
  go_wp2
  go_loop [6, 7] (fun n i => ∃ k : Nat, 1 ≤ k ∧ k ≤ b.size ∧ (P1.mid b.data.toList 1 k).all P1.dgB = true ∧ n = .int .i64 (P1.numOf 0 (P1.mid b.data.toList 1 k) : Int) ∧ i = .int .i64 (k : Int)) (fun _ i => b.size - (intOf i).toNat)
  case atStart => exact ⟨1, Nat.le_refl _, by omega, by rw [P1.mid_start]; rfl, by rw [P1.mid_start, P1.numOf_nil]; rfl, rfl⟩
  case round =>
    obtain ⟨k, hik, hk, hall, rfl, rfl⟩ := hrel
    by_cases hlk : k < b.size
    · have hsm := P1.num_small8 b.data.toList 1 k hk (by omega) hall
      have hns := P1.num_step b.data.toList 1 k hik hlk
      have Hns := Lib.hid hns
      clear hns
      have hat := at_data b k hlk
      cases hd : P1.dgB (b[k]'hlk)
      · have hno : P1.rdOk b.data.toList = false := P1.rd_digit Hm.out hik hlk (by rw [hat]; exact hd)
        have hn0 := P1.rdN_no hno
        have hor : ((b[k]'hlk).toNat : Int) < 48 ∨ (57 : Int) < ((b[k]'hlk).toNat : Int) := by
          simp [P1.dgB] at hd; omega
        clear hat
        rcases hor with ho | ho
        · go_wp2
          go_ret2
          exact ⟨rfl, rfl⟩
        · have ho' : ¬ (((b[k]'hlk).toNat : Int) < 48) := by omega
          go_wp2
          go_ret2
          exact ⟨rfl, rfl⟩
      · have hdd := P1.dgB_iff.1 hd
        have h1 : (48 : Int) ≤ ((b[k]'hlk).toNat : Int) := by omega
        have h2 : ((b[k]'hlk).toNat : Int) ≤ 57 := by omega
        have Hal := Lib.hid (P1.all_step b.data.toList 1 k hik hlk hall (by rw [hat]; exact hd))
        have Hat := Lib.hid hat
        clear hat hd hdd hall
        go_wp2
        go_round
        case rel =>
          refine ⟨k + 1, by omega, by omega, Hal.out, ?_, by go_num⟩
          rw [Hns.out, Hat.out]
          have : (b[k]'hlk).toNat - 48 + 48 = (b[k]'hlk).toNat := by omega
          exact congrArg (Value.int .i64) (by omega)
        case measure => simp [intOf]; omega
    · have hke : k = b.size := by omega
      subst hke
      have he : P1.mid b.data.toList 1 b.size = b.data.toList.drop 1 := P1.mid_end b.data.toList 1
      have hra := P1.rd_all Hm.out (show 1 + 1 ≤ b.data.toList.length from h0) (show b.data.toList.length ≤ 1 + 9 from by rw [len_data]; omega) (by rw [← he]; exact hall)
      have hat : b.data.toList[1]'h0 = b[1]'h0 := rfl
      rw [hat, Hs.out, byte_eq] at hra
      have Hbig := Lib.hid (P1.num_small b.data.toList 1 b.size (Nat.le_refl _) (by omega) hall)
      have hbig : (P1.numOf 0 (P1.mid b.data.toList 1 b.size) : Int) < 1000000000 := by have := Hbig.out; omega
      have hyes : ∀ h : P1.rdOk b.data.toList = true, P1.rdN b.data.toList = -(P1.numOf 0 (P1.mid b.data.toList 1 b.size) : Int) := fun h => by
        rw [P1.rdN_yes h, Hs.out, Hm.out, he]; rfl
      have Hra := Lib.hid hra
      have Hyes := Lib.hid hyes
      clear hra hyes he hall hat
      by_cases hz : (b[1]'h0).toNat = 48
      · have hzi : (((b[1]'h0).toNat : Int) == 48) = true := by rw [hz]; rfl
        have hok : P1.rdOk b.data.toList = false := by
          rw [Hra.out]; show (!((((b[1]'h0).toNat : Int) == 48) && (true || _))) = false
          rw [hzi]; rfl
        have hnn := P1.rdN_no hok
        go_wp2
        go_ret2
        exact ⟨rfl, rfl⟩
      · have hzi : (((b[1]'h0).toNat : Int) == 48) = false := by simp; omega
        have hok : P1.rdOk b.data.toList = true := by
          rw [Hra.out]; show (!((((b[1]'h0).toNat : Int) == 48) && _)) = true
          rw [hzi]; rfl
        have Hnn := Lib.hid (Hyes.out hok)
        clear Hyes Hra Hbig
        generalize P1.numOf 0 (P1.mid b.data.toList 1 b.size) = N at *
        have hN : (0 : Int) ≤ (N : Int) := by omega
        obtain ⟨c, hc⟩ : ∃ c, b[1]'h0 = c := ⟨_, rfl⟩
        rw [hc] at hzi
        clear hik hk hlk hz hlen hs hne h45
        go_wp2
        go_ret2
        rw [Hnn.out]
        exact ⟨rfl, rfl⟩


end L1
end Go.Proofs.YtcfniecdjbgknaaDoor
