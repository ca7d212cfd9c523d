/-
  The parts of a sum, one behind the other: nothing of the program stands here.
-/
import Derived.Test.YtcfniecdjbgknaaDoorW16
namespace Go.Proofs.YtcfniecdjbgknaaDoor.L2
open S1 L1

theorem row_get {ws : List (List UInt8)} : ∀ (k e z : Nat), after ws k e = some z → ∀ i, i < k → after ws i e = some ((row ws k e).getD i 0) := by
  intro k
  induction k with
  | zero => intro e z _ i hi; omega
  | succ k ih =>
    intro e z h i hi
    obtain ⟨y, hy, hz⟩ := after_split h
    rw [row_step hy]
    cases i with
    | zero => rfl
    | succ i =>
      have := ih y z hz i (by omega)
      rw [show i + 1 = 1 + i from Nat.add_comm _ _, after_add, hy]
      simp only
      rw [this]
      simp [List.getD, Nat.add_comm 1 i]

theorem after_bound {ws : List (List UInt8)} : ∀ (k e z : Nat), bindW (ws.getD (e - 1) []) = false → after ws k e = some z → bindW (ws.getD (z - 1) []) = false := by
  intro k
  induction k with
  | zero => intro e z h hz; cases hz; exact h
  | succ k ih =>
    intro e z h hz
    rw [after_step] at hz
    cases hE : E ws e with
    | none => rw [hE] at hz; cases hz
    | some r =>
      rw [hE] at hz
      exact ih r.2 z (st_covers _ _ _ _ hE).2.2 hz

/-- What the law asks of the parts. -/
structure PartsFit (ws : List (List UInt8)) (ps : List Nat) : Prop where
  starts : ∀ i, i < ps.length → startsI ws ((ps.getD i 0 : Nat) : Int) = true
  next : ∀ i, i + 1 < ps.length → endI ws (ps.getD i 0) = ((ps.getD (i + 1) 0 : Nat) : Int)
  last : ∀ i, i + 1 = ps.length → endI ws (ps.getD i 0) = (ws.length : Int)
  count : needs (ws.getD 0 []) = (ps.length : Int)
  small : ∀ i, ps.getD i 0 ≤ 60
  some : 0 < ws.length

theorem parts_fit {ws : List (List UInt8)} (h : okSum ws = true) : PartsFit ws (parts ws) := by
  obtain ⟨h60, h0, _, hh, ha⟩ := ok_head h
  rw [parts_yes h]
  have hlen := row_len ws (kids ws 0) (partsAt ws)
  have hb0 : bindW (ws.getD (partsAt ws - 1) []) = false := (head_covers hh).2.2
  have hbd := headEnd_bd hh
  have hget := row_get _ _ _ ha
  have hone : ∀ i, i < kids ws 0 → ∃ y, after ws 1 ((row ws (kids ws 0) (partsAt ws)).getD i 0) = some y ∧ after ws (i + 1) (partsAt ws) = some y := fun i hi => by
    have h1 := hget i hi
    have h2 : after ws ((i + 1) + (kids ws 0 - (i + 1))) (partsAt ws) = some ws.length := by rw [show i + 1 + (kids ws 0 - (i + 1)) = kids ws 0 from by omega]; exact ha
    obtain ⟨y, hy, _⟩ := after_part h2
    exact ⟨y, by rw [← after_snoc ws i _ _ h1]; exact hy, hy⟩
  have hle : ∀ i, i < kids ws 0 → (row ws (kids ws 0) (partsAt ws)).getD i 0 ≤ ws.length := fun i hi => (after_bd i _ _ hbd.2 (hget i hi)).2
  refine ⟨fun i hi => ?_, fun i hi => ?_, fun i hi => ?_, ?_, fun i => ?_, h0⟩
  · rw [hlen] at hi
    obtain ⟨y, hy, _⟩ := hone i hi
    have hx := hle i hi
    have hlt : (row ws (kids ws 0) (partsAt ws)).getD i 0 < ws.length := by
      rw [after_one] at hy
      cases hE : E ws ((row ws (kids ws 0) (partsAt ws)).getD i 0) with
      | none => rw [hE] at hy; cases hy
      | some r => have := E_bd hE; omega
    have hbw := after_bound i _ _ hb0 (hget i hi)
    generalize (row ws (kids ws 0) (partsAt ws)).getD i 0 = x at hlt hbw ⊢
    unfold startsI startsAt
    rw [h, Int.toNat_natCast, hbw]
    simp [hlt]
  · rw [hlen] at hi
    obtain ⟨y, hy, hy2⟩ := hone i (by omega)
    rw [endI_of hy h60 (hle i (by omega))]
    have := hget (i + 1) hi
    rw [hy2] at this
    injection this with this
    rw [this]
  · rw [hlen] at hi
    obtain ⟨y, hy, hy2⟩ := hone i (by omega)
    rw [endI_of hy h60 (hle i (by omega))]
    rw [hi, ha] at hy2
    injection hy2 with hy2
    rw [hy2]
  · rw [hlen]
    unfold kids
    have h1 : ¬ needs (ws.getD 0 []) < 0 := by
      intro hn
      have hx : ws[0]? = some (ws.getD 0 []) := by simp [List.getD, h0]
      rw [head_bad hx hn] at hh
      cases hh
    omega
  · by_cases hi : i < kids ws 0
    · have := hle i hi; omega
    · have : (row ws (kids ws 0) (partsAt ws)).getD i 0 = 0 := by
        rw [List.getD, List.getElem?_eq_none (by omega)]
        rfl
      omega

end Go.Proofs.YtcfniecdjbgknaaDoor.L2
