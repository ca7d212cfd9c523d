/-
  The model's reader of values, at every text.
-/
import Derived.Test.YtcfniecdjbgknaaDoorRead2
import Derived.Lib.IndexBytes
import Derived.WalkSpells
namespace Go.Proofs.YtcfniecdjbgknaaDoor
open Go.RowKit
namespace L1

/-- A text's kind, and what stands behind the letter. -/
def rvKind (l : List UInt8) : Int := if Lib.hasPrefix l [112] then 1 else 0
def rvRest (l : List UInt8) : List UInt8 := Lib.trimPrefix l [112]
def rvOk (l : List UInt8) : Bool := P1.rdOk (rvRest l) && okB (rvKind l) (P1.rdN (rvRest l))
def rvK (l : List UInt8) : Int := if rvOk l then rvKind l else 0
def rvN (l : List UInt8) : Int := if rvOk l then P1.rdN (rvRest l) else 0

theorem pre_head (l : List UInt8) : Lib.hasPrefix l [112] = decide (l.head? = some 112) := by
  unfold Lib.hasPrefix
  cases l with
  | nil => rfl
  | cons c r =>
    by_cases h : c = 112
    · subst h; rfl
    · have h' : ¬ 112 = c := fun e => h e.symm
      simp [List.isPrefixOf, h, h']
theorem pre_of (b : ByteArray) (h : 0 < b.size) : Lib.hasPrefix b.data.toList [112] = (((b[0]'h).toNat : Int) == 112) := by
  rw [pre_head]
  have : b.data.toList.head? = some (b[0]'h) := by rw [List.head?_eq_getElem?]; rw [List.getElem?_eq_getElem h]; rfl
  rw [this]
  have := byte_eq (b[0]'h) 112
  simpa using this

theorem rv_no {l : List UInt8} (h : rvOk l = false) : rvOk l = false ∧ rvK l = 0 ∧ rvN l = 0 := by
  refine ⟨h, ?_, ?_⟩
  · unfold rvK; rw [h]; rfl
  · unfold rvN; rw [h]; rfl
theorem rv_yes {l : List UInt8} (h : rvOk l = true) : rvOk l = true ∧ rvK l = rvKind l ∧ rvN l = P1.rdN (rvRest l) := by
  refine ⟨h, ?_, ?_⟩
  · unfold rvK; rw [h]; rfl
  · unfold rvN; rw [h]; rfl

set_option maxRecDepth 100000 in
set_option maxHeartbeats 4000000 in
theorem specRead_plain (b : ByteArray) (hs : b.size ≤ maxLen) (hp : 0 < b.size) (hx : Lib.hasPrefix b.data.toList [112] = false) (w : World) :
    Calls Tryd.prog 24 #[.string b] w fun e w' => e = .returned (.tuple #[.agg #[.int .i64 (rvK b.data.toList), .int .i64 (rvN b.data.toList)], .bool (rvOk b.data.toList)]) ∧ Below w.heap.size w w' := by
  have hk : rvKind b.data.toList = 0 := by unfold rvKind; rw [hx]; rfl
  have hr : rvRest b.data.toList = b.data.toList := by unfold rvRest Lib.trimPrefix; rw [hx]; rfl
  have hs1 := hs
  unfold maxLen at hs
  have hne := isEmpty_of b hp
  have hlt : (0 : Int) < (b.size : Int) := by omega
  have hc0 := pre_of b hp
  rw [hx] at hc0
  obtain ⟨c, hc⟩ : ∃ c, b[0]'hp = c := ⟨_, rfl⟩
  rw [hc] at hc0
  have h112 : ((c.toNat : Int) == 112) = false := hc0.symm
  clear hc0 hx
  obtain ⟨n, hn⟩ : ∃ n, P1.rdN b.data.toList = n := ⟨_, rfl⟩
  cases hro : P1.rdOk (b).data.toList
  · have hv := rv_no (l := b.data.toList) (by unfold rvOk; rw [hk, hr, hro]; rfl)
    rw [hv.1, hv.2.1, hv.2.2]
    clear hv hk hr
    have Hcon : Hid (∀ w, Calls Tryd.prog 70 #[.string (b)] w fun e w' => e = .returned (.tuple #[.int .i64 n, .bool false]) ∧ w = w') := fun w => by
      have h := l1Read_any (b) hs1 w
      rw [hn, hro] at h
      exact h
    clear hn hro hs1
    go_enter Tryd.func24, Tryd.ntmps24
    go_wp2_with (go_at_call 70; refine (Hcon.out _).mono ?_; rintro e w1 ⟨rfl, rfl⟩)
    refine bodyPost_ret (v := .tuple #[.agg #[.int .i64 0, .int .i64 0], .bool false]) (by simp [results, Tryd.results24, go_sem]) rfl ⟨rfl, ?_⟩
    (repeat (first | exact Below.refl _ _ | refine Below.drew ?_ | refine Below.alloc ?_ ?_ _ | refine Below.setCell ?_ ?_ _ | refine Below.trans ?_ (Below.mono (by assumption) ?_))) <;> (first | omega | (simp at *; done) | (simp at *; omega))
  · cases hok : okB 0 n
    · have hv := rv_no (l := b.data.toList) (by unfold rvOk; rw [hk, hr, hro, hn, hok]; rfl)
      rw [hv.1, hv.2.1, hv.2.2]
      clear hv hk hr
      have Hcon : Hid (∀ w, Calls Tryd.prog 70 #[.string (b)] w fun e w' => e = .returned (.tuple #[.int .i64 n, .bool true]) ∧ w = w') := fun w => by
        have h := l1Read_any (b) hs1 w
        rw [hn, hro] at h
        exact h
      clear hn hro hs1
      go_enter Tryd.func24, Tryd.ntmps24
      go_wp2_with (first | (go_at_call 70; refine (Hcon.out _).mono ?_; rintro e w1 ⟨rfl, rfl⟩) | (go_at_call 27; refine (specValueOk_any _ _ _).mono ?_; rintro e w1 ⟨rfl, hb1⟩; have hs1 := hb1.size; obtain ⟨hc1, hf1⟩ := bcell hb1; have hz0 : w.heap.size < w1.heap.size := (by clear hc1 hf1; (try simp at hs1); omega); have hz1 : w.heap.size + 1 < w1.heap.size := (by clear hc1 hf1; (try simp at hs1); omega)))
      have c00 := hc1 w.heap.size 0 (by simp; omega)
      have c01 := hc1 w.heap.size 1 (by simp; omega)
      simp at c00 c01
      refine bodyPost_ret (v := .tuple #[.agg #[.int .i64 0, .int .i64 0], .bool false]) (by simp [results, Tryd.results24, go_sem, *]) rfl ⟨rfl, ?_⟩
      clear hc1 hf1
      (repeat (first | exact Below.refl _ _ | refine Below.drew ?_ | refine Below.alloc ?_ ?_ _ | refine Below.setCell ?_ ?_ _ | refine Below.trans ?_ (Below.mono (by assumption) ?_))) <;> (first | omega | (simp at *; done) | (simp at *; omega))
    · have hv := rv_yes (l := b.data.toList) (by unfold rvOk; rw [hk, hr, hro, hn, hok]; rfl)
      rw [hv.1, hv.2.1, hv.2.2, hk, hr, hn]
      clear hv hk hr
      have Hcon : Hid (∀ w, Calls Tryd.prog 70 #[.string (b)] w fun e w' => e = .returned (.tuple #[.int .i64 n, .bool true]) ∧ w = w') := fun w => by
        have h := l1Read_any (b) hs1 w
        rw [hn, hro] at h
        exact h
      clear hn hro hs1
      go_enter Tryd.func24, Tryd.ntmps24
      go_wp2_with (first | (go_at_call 70; refine (Hcon.out _).mono ?_; rintro e w1 ⟨rfl, rfl⟩) | (go_at_call 27; refine (specValueOk_any _ _ _).mono ?_; rintro e w1 ⟨rfl, hb1⟩; have hs1 := hb1.size; obtain ⟨hc1, hf1⟩ := bcell hb1; have hz0 : w.heap.size < w1.heap.size := (by clear hc1 hf1; (try simp at hs1); omega); have hz1 : w.heap.size + 1 < w1.heap.size := (by clear hc1 hf1; (try simp at hs1); omega)))
      have c00 := hc1 w.heap.size 0 (by simp; omega)
      have c01 := hc1 w.heap.size 1 (by simp; omega)
      simp at c00 c01
      refine bodyPost_ret (v := .tuple #[.agg #[.int .i64 0, .int .i64 n], .bool true]) (by simp [results, Tryd.results24, go_sem, *]) rfl ⟨rfl, ?_⟩
      clear hc1 hf1
      (repeat (first | exact Below.refl _ _ | refine Below.drew ?_ | refine Below.alloc ?_ ?_ _ | refine Below.setCell ?_ ?_ _ | refine Below.trans ?_ (Below.mono (by assumption) ?_))) <;> (first | omega | (simp at *; done) | (simp at *; omega))

set_option maxRecDepth 100000 in
set_option maxHeartbeats 4000000 in
theorem specRead_piece (b : ByteArray) (hs : b.size ≤ maxLen) (hp : 0 < b.size) (hx : Lib.hasPrefix b.data.toList [112] = true) (w : World) :
    Calls Tryd.prog 24 #[.string b] w fun e w' => e = .returned (.tuple #[.agg #[.int .i64 (rvK b.data.toList), .int .i64 (rvN b.data.toList)], .bool (rvOk b.data.toList)]) ∧ Below w.heap.size w w' := by
  have hk : rvKind b.data.toList = 1 := by unfold rvKind; rw [hx]; rfl
  have hr : rvRest b.data.toList = (b.extract 1 b.size).data.toList := by unfold rvRest Lib.trimPrefix; rw [hx, Lib.extract_to_end]; rfl
  have hs1 : (b.extract 1 b.size).size ≤ maxLen := by simp; omega
  unfold maxLen at hs
  have hne := isEmpty_of b hp
  have hlt : (0 : Int) < (b.size : Int) := by omega
  have hc0 := pre_of b hp
  rw [hx] at hc0
  obtain ⟨c, hc⟩ : ∃ c, b[0]'hp = c := ⟨_, rfl⟩
  rw [hc] at hc0
  have h112 : ((c.toNat : Int) == 112) = true := hc0.symm
  clear hc0 hx
  obtain ⟨n, hn⟩ : ∃ n, P1.rdN (b.extract 1 b.size).data.toList = n := ⟨_, rfl⟩
  cases hro : P1.rdOk (b.extract 1 b.size).data.toList
  · have hv := rv_no (l := b.data.toList) (by unfold rvOk; rw [hk, hr, hro]; rfl)
    rw [hv.1, hv.2.1, hv.2.2]
    clear hv hk hr
    have Hcon : Hid (∀ w, Calls Tryd.prog 70 #[.string (b.extract 1 b.size)] w fun e w' => e = .returned (.tuple #[.int .i64 n, .bool false]) ∧ w = w') := fun w => by
      have h := l1Read_any (b.extract 1 b.size) hs1 w
      rw [hn, hro] at h
      exact h
    clear hn hro hs1
    go_enter Tryd.func24, Tryd.ntmps24
    go_wp2_with (go_at_call 70; refine (Hcon.out _).mono ?_; rintro e w1 ⟨rfl, rfl⟩)
    refine bodyPost_ret (v := .tuple #[.agg #[.int .i64 0, .int .i64 0], .bool false]) (by simp [results, Tryd.results24, go_sem]) rfl ⟨rfl, ?_⟩
    (repeat (first | exact Below.refl _ _ | refine Below.drew ?_ | refine Below.alloc ?_ ?_ _ | refine Below.setCell ?_ ?_ _ | refine Below.trans ?_ (Below.mono (by assumption) ?_))) <;> (first | omega | (simp at *; done) | (simp at *; omega))
  · cases hok : okB 1 n
    · have hv := rv_no (l := b.data.toList) (by unfold rvOk; rw [hk, hr, hro, hn, hok]; rfl)
      rw [hv.1, hv.2.1, hv.2.2]
      clear hv hk hr
      have Hcon : Hid (∀ w, Calls Tryd.prog 70 #[.string (b.extract 1 b.size)] w fun e w' => e = .returned (.tuple #[.int .i64 n, .bool true]) ∧ w = w') := fun w => by
        have h := l1Read_any (b.extract 1 b.size) hs1 w
        rw [hn, hro] at h
        exact h
      clear hn hro hs1
      go_enter Tryd.func24, Tryd.ntmps24
      go_wp2_with (first | (go_at_call 70; refine (Hcon.out _).mono ?_; rintro e w1 ⟨rfl, rfl⟩) | (go_at_call 27; refine (specValueOk_any _ _ _).mono ?_; rintro e w1 ⟨rfl, hb1⟩; have hs1 := hb1.size; obtain ⟨hc1, hf1⟩ := bcell hb1; have hz0 : w.heap.size < w1.heap.size := (by clear hc1 hf1; (try simp at hs1); omega); have hz1 : w.heap.size + 1 < w1.heap.size := (by clear hc1 hf1; (try simp at hs1); omega)))
      have c00 := hc1 w.heap.size 0 (by simp; omega)
      have c01 := hc1 w.heap.size 1 (by simp; omega)
      simp at c00 c01
      refine bodyPost_ret (v := .tuple #[.agg #[.int .i64 0, .int .i64 0], .bool false]) (by simp [results, Tryd.results24, go_sem, *]) rfl ⟨rfl, ?_⟩
      clear hc1 hf1
      (repeat (first | exact Below.refl _ _ | refine Below.drew ?_ | refine Below.alloc ?_ ?_ _ | refine Below.setCell ?_ ?_ _ | refine Below.trans ?_ (Below.mono (by assumption) ?_))) <;> (first | omega | (simp at *; done) | (simp at *; omega))
    · have hv := rv_yes (l := b.data.toList) (by unfold rvOk; rw [hk, hr, hro, hn, hok]; rfl)
      rw [hv.1, hv.2.1, hv.2.2, hk, hr, hn]
      clear hv hk hr
      have Hcon : Hid (∀ w, Calls Tryd.prog 70 #[.string (b.extract 1 b.size)] w fun e w' => e = .returned (.tuple #[.int .i64 n, .bool true]) ∧ w = w') := fun w => by
        have h := l1Read_any (b.extract 1 b.size) hs1 w
        rw [hn, hro] at h
        exact h
      clear hn hro hs1
      go_enter Tryd.func24, Tryd.ntmps24
      go_wp2_with (first | (go_at_call 70; refine (Hcon.out _).mono ?_; rintro e w1 ⟨rfl, rfl⟩) | (go_at_call 27; refine (specValueOk_any _ _ _).mono ?_; rintro e w1 ⟨rfl, hb1⟩; have hs1 := hb1.size; obtain ⟨hc1, hf1⟩ := bcell hb1; have hz0 : w.heap.size < w1.heap.size := (by clear hc1 hf1; (try simp at hs1); omega); have hz1 : w.heap.size + 1 < w1.heap.size := (by clear hc1 hf1; (try simp at hs1); omega)))
      have c00 := hc1 w.heap.size 0 (by simp; omega)
      have c01 := hc1 w.heap.size 1 (by simp; omega)
      simp at c00 c01
      refine bodyPost_ret (v := .tuple #[.agg #[.int .i64 1, .int .i64 n], .bool true]) (by simp [results, Tryd.results24, go_sem, *]) rfl ⟨rfl, ?_⟩
      clear hc1 hf1
      (repeat (first | exact Below.refl _ _ | refine Below.drew ?_ | refine Below.alloc ?_ ?_ _ | refine Below.setCell ?_ ?_ _ | refine Below.trans ?_ (Below.mono (by assumption) ?_))) <;> (first | omega | (simp at *; done) | (simp at *; omega))

set_option maxRecDepth 100000 in
theorem specRead_none (b : ByteArray) (hz : b.size = 0) (w : World) :
    Calls Tryd.prog 24 #[.string b] w fun e w' => e = .returned (.tuple #[.agg #[.int .i64 (rvK b.data.toList), .int .i64 (rvN b.data.toList)], .bool (rvOk b.data.toList)]) ∧ Below w.heap.size w w' := by
  have hl : b.toList = [] := toList_nil_of b hz
  have hl2 : b.toList.isEmpty = true := by rw [hl]; rfl
  have hd : b.data.toList = [] := by
    have := len_data b
    exact List.eq_nil_of_length_eq_zero (by omega)
  have hro : P1.rdOk b.data.toList = false := by rw [hd]; decide
  have hs1 : b.size ≤ maxLen := by omega
  have hv := rv_no (l := b.data.toList) (by rw [hd]; decide)
  rw [hv.1, hv.2.1, hv.2.2]
  clear hv hd hz
  obtain ⟨n, hn⟩ : ∃ n, P1.rdN b.data.toList = n := ⟨_, rfl⟩
  go_enter Tryd.func24, Tryd.ntmps24
  go_wp2_with (go_at_call 70; refine (l1Read_any b hs1 _).mono ?_; rintro e w1 ⟨rfl, rfl⟩)
  refine bodyPost_ret (v := .tuple #[.agg #[.int .i64 0, .int .i64 0], .bool false]) (by simp [results, Tryd.results24, go_sem]) rfl ⟨rfl, ?_⟩
  (repeat (first | exact Below.refl _ _ | refine Below.drew ?_ | refine Below.alloc ?_ ?_ _ | refine Below.setCell ?_ ?_ _ | refine Below.trans ?_ (Below.mono (by assumption) ?_))) <;> (first | omega | (simp at *; done) | (simp at *; omega))

theorem specRead_any (b : ByteArray) (hs : b.size ≤ maxLen) (w : World) :
    Calls Tryd.prog 24 #[.string b] w fun e w' => e = .returned (.tuple #[.agg #[.int .i64 (rvK b.data.toList), .int .i64 (rvN b.data.toList)], .bool (rvOk b.data.toList)]) ∧ Below w.heap.size w w' := by
  by_cases hz : b.size = 0
  · exact specRead_none b hz w
  cases hx : Lib.hasPrefix b.data.toList [112]
  · exact specRead_plain b hs (by omega) hx w
  · exact specRead_piece b hs (by omega) hx w

end L1
end Go.Proofs.YtcfniecdjbgknaaDoor
