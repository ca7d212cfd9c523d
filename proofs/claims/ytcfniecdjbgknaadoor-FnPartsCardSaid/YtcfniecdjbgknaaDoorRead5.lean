/-
  The program's reader of values: its walk.
-/
import Derived.Test.YtcfniecdjbgknaaDoorRead4
namespace Go.Proofs.YtcfniecdjbgknaaDoor
open Go.RowKit
namespace L1

/-- What the walk needs of the library's variables, in every world that the call comes to. -/
def Vars (w : World) : Prop := ∀ w', Below w.heap.size w w' → Lib.TabIs Tryd.prog w' "internal/strconv.uint64pow10" .u64 Lib.pow10Tab ∧ (∃ tp p, w'.var? Tryd.prog "strconv.ErrSyntax" = some #[.iface tp p]) ∧ (∃ tp p, w'.var? Tryd.prog "strconv.ErrRange" = some #[.iface tp p])

theorem vars_of (w : World) (ht : Lib.TabIs Tryd.prog w "internal/strconv.uint64pow10" .u64 Lib.pow10Tab) (hS : ∃ tp p, w.var? Tryd.prog "strconv.ErrSyntax" = some #[.iface tp p]) (hR : ∃ tp p, w.var? Tryd.prog "strconv.ErrRange" = some #[.iface tp p]) : Vars w := by
  intro w' hb
  have g0 : Tryd.prog.globalNamed "internal/strconv.uint64pow10" = some 0 := by kernel_rfl
  have g1 : Tryd.prog.globalNamed "strconv.ErrSyntax" = some 1 := by kernel_rfl
  have g2 : Tryd.prog.globalNamed "strconv.ErrRange" = some 2 := by kernel_rfl
  obtain ⟨tS, pS, hS⟩ := hS
  obtain ⟨tR, pR, hR⟩ := hR
  exact ⟨Joins.tab_stays g0 ht hb (Nat.le_refl _), ⟨tS, pS, Joins.var_stays g1 hS hb (Nat.le_refl _)⟩, ⟨tR, pR, Joins.var_stays g2 hR hb (Nat.le_refl _)⟩⟩
theorem Vars.later {w w' : World} (h : Vars w) (hb : Below w.heap.size w w') : Vars w' := fun _ hb' => h _ (bcomp1 hb hb')

theorem same_refl (a b : Int) : sameB a b a b = true := by simp [sameB]
theorem beq_dec (a c : List UInt8) : (a == c) = decide (a = c) := by by_cases h : a = c <;> simp [h]

theorem cut_any (b : ByteArray) (w : World) :
    Calls Tryd.prog 64 #[.string b, .string ⟨#[112]⟩] w fun e w' => e = .returned (.tuple #[.string ⟨(rvRest b.data.toList).toArray⟩, .bool (Lib.hasPrefix b.data.toList [112])]) ∧ w = w' :=
  (Tryd.strings_CutPrefix b ⟨#[112]⟩ w).mono fun _ _ ⟨he, hw⟩ => ⟨he, hw.symm⟩

set_option maxRecDepth 100000 in
set_option maxHeartbeats 4000000 in
theorem implRead_any (b : ByteArray) (hs : b.size ≤ 140737488351232) (w : World) (hV : Vars w) :
    Calls Tryd.prog 17 #[.string b] w fun e w' => e = .returned (.tuple #[.agg #[.int .i64 (rvK b.data.toList), .int .i64 (rvN b.data.toList)], .bool (rvOk b.data.toList)]) ∧ Below w.heap.size w w' := by
  have HV := Lib.hid hV
  clear hV
  have hlen : (rvRest b.data.toList).length ≤ b.size := by
    unfold rvRest Lib.trimPrefix
    rw [← len_data]
    split
    · simp
    · exact Nat.le_refl _
  obtain ⟨r, hr⟩ : ∃ r, rvRest b.data.toList = r := ⟨_, rfl⟩
  have hrs : (⟨r.toArray⟩ : ByteArray).size ≤ b.size := by rw [← hr]; exact hlen
  have hrd : (⟨r.toArray⟩ : ByteArray).data.toList = r := rfl
  have Hcut : Hid (∀ w, Calls Tryd.prog 64 #[.string b, .string ⟨#[112]⟩] w fun e w' => e = .returned (.tuple #[.string ⟨r.toArray⟩, .bool (Lib.hasPrefix b.data.toList [112])]) ∧ w = w') := fun w => by
    rw [← hr]; exact cut_any b w
  by_cases hp : ∃ n, Lib.parseIntB 64 r = .ok n
  · obtain ⟨n, hn⟩ := hp
    have Hp : Hid (∀ w, Calls Tryd.prog 65 #[.string ⟨r.toArray⟩, .int .i64 10, .int .i64 64] w fun e w' => e = .returned (.tuple #[.int .i64 n, .nilIface]) ∧ Below w.heap.size w w') := fun w =>
      parse_ok ⟨r.toArray⟩ (by omega) n (by rw [hrd]; exact hn) w
    have hbk := back_iff (l := b.data.toList) (n := n) (by rw [hr]; exact hn)
    cases hx : Lib.hasPrefix b.data.toList [112]
    · have hk : rvKind b.data.toList = 0 := by unfold rvKind; rw [hx]; rfl
      cases hv : rvOk b.data.toList
      · have hv' := rv_no hv
        rw [hv'.2.1, hv'.2.2]
        have hne : (showB 0 n == b.toList) = false := by
          rw [Lib.toList_data, ← hk, ← hv, ← hbk.1]
          exact beq_dec _ _
        clear hv' hbk hr hlen hn hrd hk hv
        go_enter Tryd.func17, Tryd.ntmps17
        go_wp2_with (first | (go_at_call 64; refine (Hcut.out _).mono ?_; rintro e w1 ⟨rfl, rfl⟩) | (go_at_call 65; refine (Hp.out _).mono ?_; rintro e w1 ⟨rfl, hb1⟩; have hs1 := hb1.size; obtain ⟨hc1, hf1⟩ := bcell hb1; have hz0 : w.heap.size < w1.heap.size := (by clear hc1 hf1; (try simp at hs1); omega); have hB1 : Below w.heap.size w w1 := (((Below.refl _ _).alloc (Nat.le_refl _) _).trans (hb1.mono (by simp)))))
        go_wp2_with (go_at_call 15; refine (implShow_any _ _ _ (HV.out _ (hB1.alloc hB1.size _)).1).mono ?_; rintro e w2 ⟨rfl, hb2⟩; have hs2 := hb2.size; obtain ⟨hc2, hf2⟩ := bcell hb2; have hz2 : w1.heap.size < w2.heap.size := (by simp at hs2; omega); have hy2 : w.heap.size < w2.heap.size := (by omega))
        have c00 := hc2 w.heap.size 0 (by simp; omega)
        have c01 := hc2 w.heap.size 1 (by simp; omega)
        refine bodyPost_ret (v := .tuple #[.agg #[.int .i64 0, .int .i64 0], .bool false]) (by simp [results, Tryd.results17, go_sem, *]) rfl ⟨rfl, ?_⟩
        clear hc1 hf1 hc2 hf2 c00 c01
        (repeat (first | exact Below.refl _ _ | refine Below.drew ?_ | refine Below.alloc ?_ ?_ _ | refine Below.setCell ?_ ?_ _ | refine Below.trans ?_ (Below.mono (by assumption) ?_))) <;> (first | omega | (simp at *; done) | (simp at *; omega))
      · have hv' := rv_yes hv
        rw [hv'.2.1, hv'.2.2, hk, hbk.2 hv]
        have hne : (showB 0 n == b.toList) = true := by
          rw [Lib.toList_data, ← hk, ← hv, ← hbk.1]
          exact beq_dec _ _
        clear hv' hbk hr hlen hn hrd hk hv
        go_enter Tryd.func17, Tryd.ntmps17
        go_wp2_with (first | (go_at_call 64; refine (Hcut.out _).mono ?_; rintro e w1 ⟨rfl, rfl⟩) | (go_at_call 65; refine (Hp.out _).mono ?_; rintro e w1 ⟨rfl, hb1⟩; have hs1 := hb1.size; obtain ⟨hc1, hf1⟩ := bcell hb1; have hz0 : w.heap.size < w1.heap.size := (by clear hc1 hf1; (try simp at hs1); omega); have hB1 : Below w.heap.size w w1 := (((Below.refl _ _).alloc (Nat.le_refl _) _).trans (hb1.mono (by simp)))))
        go_wp2_with (go_at_call 15; refine (implShow_any _ _ _ (HV.out _ (hB1.alloc hB1.size _)).1).mono ?_; rintro e w2 ⟨rfl, hb2⟩; have hs2 := hb2.size; obtain ⟨hc2, hf2⟩ := bcell hb2; have hz2 : w1.heap.size < w2.heap.size := (by simp at hs2; omega); have hy2 : w.heap.size < w2.heap.size := (by omega))
        have c00 := hc2 w.heap.size 0 (by simp; omega)
        have c01 := hc2 w.heap.size 1 (by simp; omega)
        refine bodyPost_ret (v := .tuple #[.agg #[.int .i64 0, .int .i64 n], .bool true]) (by simp [results, Tryd.results17, go_sem, *]) rfl ⟨rfl, ?_⟩
        clear hc1 hf1 hc2 hf2 c00 c01
        (repeat (first | exact Below.refl _ _ | refine Below.drew ?_ | refine Below.alloc ?_ ?_ _ | refine Below.setCell ?_ ?_ _ | refine Below.trans ?_ (Below.mono (by assumption) ?_))) <;> (first | omega | (simp at *; done) | (simp at *; omega))
    · have hk : rvKind b.data.toList = 1 := by unfold rvKind; rw [hx]; rfl
      cases hv : rvOk b.data.toList
      · have hv' := rv_no hv
        rw [hv'.2.1, hv'.2.2]
        have hne : (showB 1 n == b.toList) = false := by
          rw [Lib.toList_data, ← hk, ← hv, ← hbk.1]
          exact beq_dec _ _
        clear hv' hbk hr hlen hn hrd hk hv
        go_enter Tryd.func17, Tryd.ntmps17
        go_wp2_with (first | (go_at_call 64; refine (Hcut.out _).mono ?_; rintro e w1 ⟨rfl, rfl⟩) | (go_at_call 65; refine (Hp.out _).mono ?_; rintro e w1 ⟨rfl, hb1⟩; have hs1 := hb1.size; obtain ⟨hc1, hf1⟩ := bcell hb1; have hz0 : w.heap.size < w1.heap.size := (by clear hc1 hf1; (try simp at hs1); omega); have hB1 : Below w.heap.size w w1 := (((Below.refl _ _).alloc (Nat.le_refl _) _).trans (hb1.mono (by simp)))))
        go_wp2_with (go_at_call 15; refine (implShow_any _ _ _ (HV.out _ (hB1.alloc hB1.size _)).1).mono ?_; rintro e w2 ⟨rfl, hb2⟩; have hs2 := hb2.size; obtain ⟨hc2, hf2⟩ := bcell hb2; have hz2 : w1.heap.size < w2.heap.size := (by simp at hs2; omega); have hy2 : w.heap.size < w2.heap.size := (by omega))
        have c00 := hc2 w.heap.size 0 (by simp; omega)
        have c01 := hc2 w.heap.size 1 (by simp; omega)
        refine bodyPost_ret (v := .tuple #[.agg #[.int .i64 0, .int .i64 0], .bool false]) (by simp [results, Tryd.results17, go_sem, *]) rfl ⟨rfl, ?_⟩
        clear hc1 hf1 hc2 hf2 c00 c01
        (repeat (first | exact Below.refl _ _ | refine Below.drew ?_ | refine Below.alloc ?_ ?_ _ | refine Below.setCell ?_ ?_ _ | refine Below.trans ?_ (Below.mono (by assumption) ?_))) <;> (first | omega | (simp at *; done) | (simp at *; omega))
      · have hv' := rv_yes hv
        rw [hv'.2.1, hv'.2.2, hk, hbk.2 hv]
        have hne : (showB 1 n == b.toList) = true := by
          rw [Lib.toList_data, ← hk, ← hv, ← hbk.1]
          exact beq_dec _ _
        clear hv' hbk hr hlen hn hrd hk hv
        go_enter Tryd.func17, Tryd.ntmps17
        go_wp2_with (first | (go_at_call 64; refine (Hcut.out _).mono ?_; rintro e w1 ⟨rfl, rfl⟩) | (go_at_call 65; refine (Hp.out _).mono ?_; rintro e w1 ⟨rfl, hb1⟩; have hs1 := hb1.size; obtain ⟨hc1, hf1⟩ := bcell hb1; have hz0 : w.heap.size < w1.heap.size := (by clear hc1 hf1; (try simp at hs1); omega); have hB1 : Below w.heap.size w w1 := (((Below.refl _ _).alloc (Nat.le_refl _) _).trans (hb1.mono (by simp)))))
        go_wp2_with (go_at_call 15; refine (implShow_any _ _ _ (HV.out _ (hB1.alloc hB1.size _)).1).mono ?_; rintro e w2 ⟨rfl, hb2⟩; have hs2 := hb2.size; obtain ⟨hc2, hf2⟩ := bcell hb2; have hz2 : w1.heap.size < w2.heap.size := (by simp at hs2; omega); have hy2 : w.heap.size < w2.heap.size := (by omega))
        have c00 := hc2 w.heap.size 0 (by simp; omega)
        have c01 := hc2 w.heap.size 1 (by simp; omega)
        refine bodyPost_ret (v := .tuple #[.agg #[.int .i64 1, .int .i64 n], .bool true]) (by simp [results, Tryd.results17, go_sem, *]) rfl ⟨rfl, ?_⟩
        clear hc1 hf1 hc2 hf2 c00 c01
        (repeat (first | exact Below.refl _ _ | refine Below.drew ?_ | refine Below.alloc ?_ ?_ _ | refine Below.setCell ?_ ?_ _ | refine Below.trans ?_ (Below.mono (by assumption) ?_))) <;> (first | omega | (simp at *; done) | (simp at *; omega))
  · have hno := rv_no (no_parse (l := b.data.toList) (fun n e => hp ⟨n, by rw [← hr]; exact e⟩))
    rw [hno.1, hno.2.1, hno.2.2]
    have Hp : Hid (∀ w', Below w.heap.size w w' → Calls Tryd.prog 65 #[.string ⟨r.toArray⟩, .int .i64 10, .int .i64 64] w' (Fell w')) := fun w' hb =>
      parse_no ⟨r.toArray⟩ (by omega) (fun n e => hp ⟨n, e⟩) w' (HV.out _ hb).2.1 (HV.out _ hb).2.2
    clear hno hp hr hlen hrd
    cases hx : Lib.hasPrefix b.data.toList [112]
    all_goals
      go_enter Tryd.func17, Tryd.ntmps17
      go_wp2_with (go_at_call 64; refine (Hcut.out _).mono ?_; rintro e w1 ⟨rfl, rfl⟩)
      refine (Hp.out _ ((Below.refl _ _).alloc (Nat.le_refl _) _)).mono ?_
      rintro e w1 ⟨m, a, rfl, hb1⟩
      have hs1 := hb1.size; obtain ⟨hc1, hf1⟩ := bcell hb1; have hz0 : w.heap.size < w1.heap.size := (by clear hc1 hf1; (try simp at hs1); omega)
      go_wp2
      refine bodyPost_ret (v := .tuple #[.agg #[.int .i64 0, .int .i64 0], .bool false]) (by simp [results, Tryd.results17, go_sem, *]) rfl ⟨rfl, ?_⟩
      clear hc1 hf1
      (repeat (first | exact Below.refl _ _ | refine Below.drew ?_ | refine Below.alloc ?_ ?_ _ | refine Below.setCell ?_ ?_ _ | refine Below.trans ?_ (Below.mono (by assumption) ?_))) <;> (first | omega | (simp at *; done) | (simp at *; omega))

set_option maxRecDepth 100000 in
set_option maxHeartbeats 1000000 in
theorem lawReadValue (b : ByteArray) (hs : b.size ≤ maxLen) (w : World) (hV : Vars w) :
    Calls Tryd.prog 6 #[.string b] w fun e w' => e = .returned (.bool true) ∧ Below w.heap.size w w' := by
  have HV := Lib.hid hV
  clear hV
  by_cases hl : 1048576 < b.size
  · have h1 : (1048576 : Int) < (b.size : Int) := by omega
    unfold maxLen at hs
    go_enter Tryd.func6, Tryd.ntmps6
    go_wp2
    go_ret
    exact ⟨rfl, Below.refl _ _⟩
  · have h1 : ¬ (1048576 : Int) < (b.size : Int) := by omega
    have hs1 := hs
    have hs2 : b.size ≤ 140737488351232 := by omega
    unfold maxLen at hs
    have hsm := same_refl (rvK b.data.toList) (rvN b.data.toList)
    cases hv : rvOk b.data.toList
    all_goals
      go_enter Tryd.func6, Tryd.ntmps6
      go_wp2_with (first | (go_at_call 24; refine (specRead_any b hs1 _).mono ?_; rintro e w1 ⟨rfl, hb1⟩; have hx1 := hb1.size; have hB1 : Below w.heap.size w w1 := hb1) | (go_at_call 17; refine (implRead_any b hs2 _ (HV.out.later (hB1.alloc hB1.size _))).mono ?_; rintro e w2 ⟨rfl, hb2⟩; have hx2 := hb2.size; have hz2 : w1.heap.size < w2.heap.size := (by simp at hx2; omega); obtain ⟨hc2, hf2⟩ := bcell hb2) | (go_at_call 42; refine (eqValue_any _ _ _ _ _).mono ?_; rintro e w3 ⟨rfl, hb3⟩; have hx3 := hb3.size))
      go_ret
      refine ⟨by simp, ?_⟩
      clear hc2 hf2
      (repeat (first | exact Below.refl _ _ | refine Below.drew ?_ | refine Below.alloc ?_ ?_ _ | refine Below.setCell ?_ ?_ _ | refine Below.trans ?_ (Below.mono (by assumption) ?_))) <;> (first | omega | (simp at *; done) | (simp at *; omega))

end L1
end Go.Proofs.YtcfniecdjbgknaaDoor
