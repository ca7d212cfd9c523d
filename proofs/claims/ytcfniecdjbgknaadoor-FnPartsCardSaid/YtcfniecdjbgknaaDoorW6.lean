/-
  The program's reader of one sum: its labels.
-/
import Derived.Test.YtcfniecdjbgknaaDoorW5
import Derived.Test.YtcfniecdjbgknaaDoorGoto
import Derived.WalkMore
namespace Go.Proofs.YtcfniecdjbgknaaDoor
open Go.RowKit
namespace L2
open S1 L1

/-- The words, as lists of bytes. -/
def wsOf (ss : List ByteArray) : List (List UInt8) := ss.map (·.toList)
theorem ws_len (ss : List ByteArray) : (wsOf ss).length = ss.length := by simp [wsOf]
theorem ws_get {ss : List ByteArray} {i : Nat} (h : i < ss.length) : (wsOf ss)[i]? = some (ss.getD i ByteArray.empty).toList := by simp [wsOf, List.getD, h]
theorem ws_getD {ss : List ByteArray} {i : Nat} (h : i < ss.length) : (wsOf ss).getD i [] = (ss.getD i ByteArray.empty).toList := by simp [wsOf, List.getD, h]

/-- What holds at a label: 0: the next word; 1: no sum; 2: the number behind a word that binds. -/
def Rel (ws : List (List UInt8)) (l read m : Nat) : Prop :=
  (l = 0 ∧ after ws m read = after ws 1 0) ∨ (l = 1 ∧ after ws 1 0 = none) ∨ (l = 2 ∧ (match ws[read]? with | none => none | some y => if nameW y then after ws m (read + 1) else none) = after ws 1 0)
def Lbl (v : Value) (ss : List ByteArray) (w0 : World) (l : Nat) (a : Act) (w : World) : Prop :=
  Below w0.heap.size w0 w ∧ ∃ (read m : Nat) (r x : Int) (u1 u5 u6 u7 u8 u9 u10 u11 u12 u13 u14 u15 u16 u17 u18 u19 u20 u21 u22 u23 u24 u25 u26 u27 u28 u29 u30 u31 u32 u33 u34 u35 u36 u37 u38 u39 u40 u41 u42 u43 u44 u45 u46 u47 u48 u49 : Value), a = { tmps := #[v, u1, .int .i64 0, .int .i64 r, .int .i64 x, u5, u6, u7, u8, u9, u10, u11, u12, u13, u14, u15, u16, u17, u18, u19, u20, u21, u22, u23, u24, u25, u26, u27, u28, u29, u30, u31, u32, u33, u34, u35, u36, u37, u38, u39, u40, u41, u42, u43, u44, u45, u46, u47, u48, u49], defers := [] } ∧ r = (read : Int) ∧ x = (m : Int) ∧ read ≤ ss.length ∧ m ≤ 3 * read + 1 ∧ Rel (wsOf ss) l read m
def mu (n : Nat) (l : Nat) (a : Act) (_ : World) : Nat := if l = 1 then 0 else n + 1 - (intOf (a.tmps.getD 3 undef)).toNat

/-- What the program answers of it. -/
def cntI (ws : List (List UInt8)) : Int := match after ws 1 0 with | none => -1 | some c => (c : Int)

theorem rel_end {ws : List (List UInt8)} {read : Nat} (h : Rel ws 0 read 0) : cntI ws = (read : Int) := by
  rcases h with ⟨_, h⟩ | ⟨h, _⟩ | ⟨h, _⟩
  · unfold cntI; rw [← h]; rfl
  · cases h
  · cases h
theorem rel_none {ws : List (List UInt8)} {read m : Nat} (h : Rel ws 1 read m) : cntI ws = -1 := by
  rcases h with ⟨h, _⟩ | ⟨_, h⟩ | ⟨h, _⟩
  · cases h
  · unfold cntI; rw [h]
  · cases h
theorem rel_far {ws : List (List UInt8)} {read m k : Nat} (h : Rel ws 0 read (m + 1)) (hr : ws.length ≤ read) : Rel ws 1 read k := by
  rcases h with ⟨_, h⟩ | ⟨h, _⟩ | ⟨h, _⟩
  · refine Or.inr (Or.inl ⟨rfl, ?_⟩)
    rw [← h, after_succ]
    have : headEnd ws read = none := by unfold headEnd; rw [List.getElem?_eq_none hr]
    rw [this]
  · cases h
  · cases h
theorem rel_bad {ws : List (List UInt8)} {read m k : Nat} {x : List UInt8} (h : Rel ws 0 read (m + 1)) (hx : ws[read]? = some x) (hb : okW x = false) : Rel ws 1 read k := by
  rcases h with ⟨_, h⟩ | ⟨h, _⟩ | ⟨h, _⟩
  · refine Or.inr (Or.inl ⟨rfl, ?_⟩)
    rw [← h, after_succ]
    have : headEnd ws read = none := by
      unfold headEnd
      rw [hx]
      have : needs x < 0 := by unfold okW at hb; simpa using hb
      simp only [this, if_true]
    rw [this]
  · cases h
  · cases h
theorem rel_next {ws : List (List UInt8)} {read m : Nat} {x : List UInt8} (h : Rel ws 0 read (m + 1)) (hx : ws[read]? = some x) (hb : okW x = true) (hn : bindW x = false) : Rel ws 0 (read + 1) ((needs x).toNat + m) := by
  rcases h with ⟨_, h⟩ | ⟨h, _⟩ | ⟨h, _⟩
  · refine Or.inl ⟨rfl, ?_⟩
    rw [← h, after_succ]
    have h0 : ¬ needs x < 0 := by unfold okW at hb; have := of_decide_eq_true hb; omega
    have : headEnd ws read = some (read + 1) := by
      unfold headEnd
      rw [hx]
      simp [h0, hn]
    rw [this]
    have hk : kids ws read = (needs x).toNat := by unfold kids; simp [List.getD, hx]
    simp only
    rw [hk]
  · cases h
  · cases h
theorem rel_bind {ws : List (List UInt8)} {read m : Nat} {x : List UInt8} (h : Rel ws 0 read (m + 1)) (hx : ws[read]? = some x) (hb : okW x = true) (hn : bindW x = true) : Rel ws 2 (read + 1) ((needs x).toNat + m) := by
  rcases h with ⟨_, h⟩ | ⟨h, _⟩ | ⟨h, _⟩
  · refine Or.inr (Or.inr ⟨rfl, ?_⟩)
    rw [← h, after_succ]
    have h0 : ¬ needs x < 0 := by unfold okW at hb; have := of_decide_eq_true hb; omega
    have hk : kids ws read = (needs x).toNat := by unfold kids; simp [List.getD, hx]
    have : headEnd ws read = match ws[read + 1]? with | none => none | some y => if nameW y then some (read + 2) else none := by
      unfold headEnd
      rw [hx]
      simp only [if_neg h0, hn, if_true]
      cases ws[read + 1]? <;> rfl
    rw [this]
    cases ws[read + 1]? with
    | none => rfl
    | some y =>
      simp only
      cases nameW y
      · rfl
      · simp only [if_true]
        rw [hk]
  · cases h
  · cases h
theorem rel_far2 {ws : List (List UInt8)} {read m k : Nat} (h : Rel ws 2 read m) (hr : ws.length ≤ read) : Rel ws 1 read k := by
  rcases h with ⟨h, _⟩ | ⟨h, _⟩ | ⟨_, h⟩
  · cases h
  · cases h
  · refine Or.inr (Or.inl ⟨rfl, ?_⟩)
    rw [← h, List.getElem?_eq_none hr]
theorem rel_bad2 {ws : List (List UInt8)} {read m k : Nat} {x : List UInt8} (h : Rel ws 2 read m) (hx : ws[read]? = some x) (hn : nameW x = false) : Rel ws 1 read k := by
  rcases h with ⟨h, _⟩ | ⟨h, _⟩ | ⟨_, h⟩
  · cases h
  · cases h
  · refine Or.inr (Or.inl ⟨rfl, ?_⟩)
    rw [← h, hx]
    simp [hn]
theorem rel_next2 {ws : List (List UInt8)} {read m : Nat} {x : List UInt8} (h : Rel ws 2 read m) (hx : ws[read]? = some x) (hn : nameW x = true) : Rel ws 0 (read + 1) m := by
  rcases h with ⟨h, _⟩ | ⟨h, _⟩ | ⟨_, h⟩
  · cases h
  · cases h
  · refine Or.inl ⟨rfl, ?_⟩
    rw [← h, hx]
    simp [hn]

end L2
end Go.Proofs.YtcfniecdjbgknaaDoor
