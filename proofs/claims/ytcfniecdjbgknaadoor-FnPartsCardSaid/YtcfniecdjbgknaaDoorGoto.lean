/-
  A scope in which the run jumps to several labels: what holds at each of them, and a measure that each passage lowers.
-/
import Derived.Test.YtcfniecdjbgknaaDoorChecked
import Derived.Scope
import Derived.Tactics
namespace Go.Proofs.YtcfniecdjbgknaaDoor
namespace Jumps

/-- As Q; by a goto to a label: J of that label. -/
def ways (J : Nat → Act → World → Prop) (Q : Exit → Act → World → Prop) : Exit → Act → World → Prop
  | .goto l, a, w => J l a w
  | e, a, w => Q e a w

theorem scope_labels {P : Program} {a : Act} {w : World} {Q : Exit → Act → World → Prop} {c : Code} (J : Nat → Act → World → Prop) (μ : Nat → Act → World → Nat)
    (first : c.wp P (ways J Q) a w)
    (pass : ∀ l a w, J l a w → ∃ rest, findLabel c l = some rest ∧ rest.wp P (ways (fun l' a' w' => J l' a' w' ∧ μ l' a' w' < μ l a w) Q) a w) : (Code.scope c).wp P Q a w := by
  intro b k cs
  have jump : ∀ l rest, findLabel c l = some rest → gotoIn l (.inScope c :: k) = some (.code rest :: .inScope c :: k) := fun l rest h => by simp [gotoIn, h]
  -- from a label on, whatever the measure
  have key : ∀ n l a w, μ l a w ≤ n → J l a w → ∀ rest, findLabel c l = some rest → ∃ e a' w', Q e a' w' ∧ Arrives P (lone (b.at a (.code rest :: .inScope c :: k)) cs w) b k cs e a' w' := by
    intro n
    induction n with
    | zero =>
      intro l a w hn hJ rest hr
      obtain ⟨rest', hr', hw⟩ := pass l a w hJ
      obtain rfl : rest = rest' := Option.some.inj (hr.symm.trans hr')
      obtain ⟨e, a1, w1, hq, har⟩ := hw b (.inScope c :: k) cs
      cases e with
      | normal => exact ⟨.normal, a1, w1, hq, Steps.trans har (.one step_inScope)⟩
      | exit id => exact ⟨.exit id, a1, w1, hq, fun k' hk => har k' (by simp [exitTo, hk])⟩
      | goto l' => obtain ⟨_, hlt⟩ := hq; omega
      | ret => exact ⟨_, a1, w1, hq, har⟩
      | panic ch => exact ⟨_, a1, w1, hq, har⟩
      | outgrown => exact ⟨_, a1, w1, hq, har⟩
    | succ n ih =>
      intro l a w hn hJ rest hr
      obtain ⟨rest', hr', hw⟩ := pass l a w hJ
      obtain rfl : rest = rest' := Option.some.inj (hr.symm.trans hr')
      obtain ⟨e, a1, w1, hq, har⟩ := hw b (.inScope c :: k) cs
      cases e with
      | normal => exact ⟨.normal, a1, w1, hq, Steps.trans har (.one step_inScope)⟩
      | exit id => exact ⟨.exit id, a1, w1, hq, fun k' hk => har k' (by simp [exitTo, hk])⟩
      | goto l' =>
        obtain ⟨hJ', hlt⟩ := hq
        obtain ⟨r2, h2, _⟩ := pass l' a1 w1 hJ'
        obtain ⟨e2, a2, w2, hq2, har2⟩ := ih l' a1 w1 (by omega) hJ' r2 h2
        exact ⟨e2, a2, w2, hq2, .of_steps (har _ (jump l' r2 h2)) har2⟩
      | ret => exact ⟨_, a1, w1, hq, har⟩
      | panic ch => exact ⟨_, a1, w1, hq, har⟩
      | outgrown => exact ⟨_, a1, w1, hq, har⟩
  obtain ⟨e, a1, w1, hq, har⟩ := first b (.inScope c :: k) cs
  cases e with
  | normal => exact ⟨.normal, a1, w1, hq, .head step_scope (Steps.trans har (.one step_inScope))⟩
  | exit id => exact ⟨.exit id, a1, w1, hq, fun k' hk => .head step_scope (har k' (by simp [exitTo, hk]))⟩
  | goto l' =>
    obtain ⟨r2, h2, _⟩ := pass l' a1 w1 hq
    obtain ⟨e2, a2, w2, hq2, har2⟩ := key _ l' a1 w1 (Nat.le_refl _) hq r2 h2
    exact ⟨e2, a2, w2, hq2, .of_steps (.head step_scope (har _ (jump l' r2 h2))) har2⟩
  | ret => exact ⟨_, a1, w1, hq, .of_steps (.one step_scope) har⟩
  | panic ch => exact ⟨_, a1, w1, hq, .of_steps (.one step_scope) har⟩
  | outgrown => exact ⟨_, a1, w1, hq, .of_steps (.one step_scope) har⟩

/-- The lemma with the first passage given what holds of all; a label's code stands behind the label. -/
theorem scope_labels_first {P : Program} {a : Act} {w : World} {Q : Exit → Act → World → Prop} {c : Code} (J : Nat → Act → World → Prop) (μ : Nat → Act → World → Nat)
    (pass : ∀ l a w, J l a w → ∃ rest, findLabel c l = some (.seq .skip rest) ∧ rest.wp P (ways (fun l' a' w' => J l' a' w' ∧ μ l' a' w' < μ l a w) Q) a w)
    (first : (∀ l a w, J l a w → ∃ rest, findLabel c l = some (.seq .skip rest) ∧ rest.wp P (ways J Q) a w) → c.wp P (ways J Q) a w) : (Code.scope c).wp P Q a w :=
  scope_labels J μ (first fun l a w h => by
    obtain ⟨rest, hr, hw⟩ := pass l a w h
    refine ⟨rest, hr, Code.wp_mono (fun e a' w' hq => ?_) hw⟩
    cases e with
    | goto l' => exact hq.1
    | normal => exact hq
    | exit id => exact hq
    | ret => exact hq
    | panic ch => exact hq
    | outgrown => exact hq) fun l a w h => by
    obtain ⟨rest, hr, hw⟩ := pass l a w h
    exact ⟨_, hr, wp_seq (wp_skip hw)⟩

end Jumps
end Go.Proofs.YtcfniecdjbgknaaDoor
