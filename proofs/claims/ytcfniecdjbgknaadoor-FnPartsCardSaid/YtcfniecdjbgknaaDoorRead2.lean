/-
  The model's reader of numbers, at every text.
-/
import Derived.Test.YtcfniecdjbgknaaDoorRead1
namespace Go.Proofs.YtcfniecdjbgknaaDoor
open Go.RowKit
namespace L1

theorem toList_nil_of (b : ByteArray) (h : b.size = 0) : b.toList = [] := by
  have : b = ByteArray.empty := by
    have e : b.data = #[] := Array.eq_empty_of_size_eq_zero h
    cases b; cases e; rfl
  have hd := decide_eq_emptyBytes b
  rw [decide_eq_true this] at hd
  exact List.isEmpty_iff.1 hd.symm

set_option maxRecDepth 100000 in
theorem l1Read_none (b : ByteArray) (h : b.size = 0) (w : World) :
    Calls Tryd.prog 70 #[.string b] w fun e w' => e = .returned (.tuple #[.int .i64 (P1.rdN b.data.toList), .bool (P1.rdOk b.data.toList)]) ∧ w = w' := by
  have hl : b.toList = [] := toList_nil_of b h
  have hl2 : b.toList.isEmpty = true := by rw [hl]; rfl
  have hd : b.data.toList = [] := by
    have := len_data b
    exact List.eq_nil_of_length_eq_zero (by omega)
  have ho : P1.rdOk b.data.toList = false := by rw [hd]; decide
  have hn := P1.rdN_no ho
  have hz : (b.size : Int) = 0 := by omega
  rw [hn, ho]
  clear hd h hn ho
  go_enter Tryd.func70, Tryd.ntmps70
  go_wp2
  go_ret2
  exact ⟨rfl, rfl⟩

set_option maxRecDepth 100000 in
theorem l1Read_long (b : ByteArray) (hs : b.size ≤ maxLen) (hp : 0 < b.size) (hb : P1.rdOk b.data.toList = false) (hl : P1.signed b.data.toList = false ∧ 9 < b.size ∨ P1.signed b.data.toList = true ∧ (b.size < 2 ∨ 10 < b.size)) (w : World) :
    Calls Tryd.prog 70 #[.string b] w fun e w' => e = .returned (.tuple #[.int .i64 (P1.rdN b.data.toList), .bool (P1.rdOk b.data.toList)]) ∧ w = w' := by
  unfold maxLen at hs
  have hne := isEmpty_of b hp
  have hn := P1.rdN_no hb
  rw [hn, hb]
  clear hn hb
  have hlt : (0 : Int) < (b.size : Int) := by omega
  have hsg := sign_of b hp
  rw [byte_eq] at hsg
  obtain ⟨c, hc⟩ : ∃ c, b[0]'hp = c := ⟨_, rfl⟩
  rw [hc] at hsg
  rcases hl with ⟨h1, h2⟩ | ⟨h1, h2⟩
  · have h45 : ((c.toNat : Int) == 45) = false := by rw [h1] at hsg; exact hsg.symm
    have h3 : (9 : Int) < (b.size : Int) := by omega
    clear h1 hsg h2
    go_enter Tryd.func70, Tryd.ntmps70
    go_wp2
    go_ret2
    exact ⟨rfl, rfl⟩
  · have h45 : ((c.toNat : Int) == 45) = true := by rw [h1] at hsg; exact hsg.symm
    clear h1 hsg
    rcases h2 with h2 | h2
    · have h3 : (b.size : Int) - 1 < 1 := by omega
      go_enter Tryd.func70, Tryd.ntmps70
      go_wp2
      go_ret2
      exact ⟨rfl, rfl⟩
    · have h3 : (9 : Int) < (b.size : Int) - 1 := by omega
      go_enter Tryd.func70, Tryd.ntmps70
      go_wp2
      go_ret2
      exact ⟨rfl, rfl⟩

theorem l1Read_any (b : ByteArray) (hs : b.size ≤ maxLen) (w : World) :
    Calls Tryd.prog 70 #[.string b] w fun e w' => e = .returned (.tuple #[.int .i64 (P1.rdN b.data.toList), .bool (P1.rdOk b.data.toList)]) ∧ w = w' := by
  by_cases hz : b.size = 0
  · exact l1Read_none b hz w
  cases hsg : P1.signed b.data.toList
  · by_cases h9 : b.size ≤ 9
    · exact l1Read_pos b hs (by omega) h9 hsg w
    · exact l1Read_long b hs (by omega) (P1.rd_len (P1.mag_no hsg) (by rw [len_data]; omega)) (Or.inl ⟨hsg, by omega⟩) w
  · by_cases h9 : 1 < b.size ∧ b.size ≤ 10
    · exact l1Read_neg b hs h9.1 h9.2 hsg w
    · exact l1Read_long b hs (by omega) (P1.rd_len (P1.mag_yes hsg) (by rw [len_data]; omega)) (Or.inr ⟨hsg, by omega⟩) w

end L1
end Go.Proofs.YtcfniecdjbgknaaDoor
