/-
  How deep a sum is, and the way of a walker that goes from word to word with a stack of what is missing: nothing of the program stands here.
-/
import Derived.Test.YtgcjmhecnbhhlaaGreatDoorGY
namespace Go.Proofs.YtgcjmhecnbhhlaaGreatDoor.L2
open S1 L1

/-- The greatest of some. -/
def maxL : List Nat → Nat
  | [] => 0
  | a :: r => max a (maxL r)
theorem maxL_append (a b : List Nat) : maxL (a ++ b) = max (maxL a) (maxL b) := by
  induction a with
  | nil => simp [maxL]
  | cons x a ih => simp only [List.cons_append, maxL, ih]; omega
theorem maxL_snoc (a : List Nat) (x : Nat) : maxL (a ++ [x]) = max (maxL a) x := by
  rw [maxL_append]; simp [maxL]
theorem maxL_add (f : Nat → Nat) (a : Nat) (l : List Nat) : max a (maxL (l.map fun p => a + f p)) = a + maxL (l.map f) := by
  induction l with
  | nil => simp [maxL]
  | cons x l ih => simp only [List.map_cons, maxL]; omega

/-- How deep the sum at i is; f bounds how deep one looks. -/
def dep : Nat → List (List UInt8) → Nat → Nat
  | 0, _, _ => 0
  | f + 1, ws, i => 1 + maxL ((row ws (kids ws i) ((headEnd ws i).getD 0)).map (dep f ws))

/-- What stands at the head of a sum. -/
theorem sum_head {ws : List (List UInt8)} {i x : Nat} (h : after ws 1 i = some x) : ∃ e, headEnd ws i = some e ∧ after ws (kids ws i) e = some x ∧ i < e ∧ i < ws.length := by
  rw [after_succ] at h
  cases hh : headEnd ws i with
  | none => rw [hh] at h; cases h
  | some e =>
    rw [hh] at h
    have := headEnd_bd hh
    exact ⟨e, rfl, h, this.1, by omega⟩
theorem row_parts {ws : List (List UInt8)} : ∀ (k e x : Nat), after ws k e = some x → ∀ p ∈ row ws k e, e ≤ p ∧ ∃ y, after ws 1 p = some y := by
  intro k
  induction k with
  | zero => intro e x _ p hp; cases hp
  | succ k ih =>
    intro e x h p hp
    obtain ⟨y, hy, hz⟩ := after_split h
    rw [row_step hy] at hp
    obtain ⟨_, _, _, _, hlt⟩ := sum_head hy
    have hey := after_bd 1 e y (by omega) hy
    rcases List.mem_cons.1 hp with rfl | hp
    · exact ⟨Nat.le_refl _, y, hy⟩
    · obtain ⟨h1, h2⟩ := ih y x hz p hp
      exact ⟨by omega, h2⟩
theorem dep_more (ws : List (List UInt8)) : ∀ (f i x : Nat), ws.length ≤ i + f → after ws 1 i = some x → dep f ws i = dep (f + 1) ws i := by
  intro f
  induction f with
  | zero =>
    intro i x hi h
    obtain ⟨_, _, _, _, hlt⟩ := sum_head h
    omega
  | succ f ih =>
    intro i x hi h
    obtain ⟨e, he, ha, hlt, _⟩ := sum_head h
    rw [dep, dep, he, Option.getD_some]
    congr 2
    refine List.map_congr_left fun p hp => ?_
    obtain ⟨h1, y, h2⟩ := row_parts _ _ _ ha p hp
    exact ih p y (by omega) h2
theorem dep_any {ws : List (List UInt8)} {f f' i x : Nat} (h : ws.length ≤ i + f) (h' : ws.length ≤ i + f') (ha : after ws 1 i = some x) : dep f ws i = dep f' ws i := by
  have key : ∀ f, ws.length ≤ i + f → ∀ k, dep f ws i = dep (f + k) ws i := by
    intro f hf k
    induction k with
    | zero => rfl
    | succ k ih => rw [ih, dep_more ws (f + k) i x (by omega) ha]; rfl
  rw [key f h f', key f' h' f, Nat.add_comm]
/-- How deep the sum at i is. -/
def deep (ws : List (List UInt8)) (i : Nat) : Nat := dep ws.length ws i
theorem deep_eq {ws : List (List UInt8)} {i e x : Nat} (he : headEnd ws i = some e) (h : after ws 1 i = some x) : deep ws i = 1 + maxL ((row ws (kids ws i) e).map (deep ws)) := by
  unfold deep
  rw [dep_more ws _ i x (by omega) h, dep, he, Option.getD_some]

/-- The depth that is asked for. -/
def deepN (ws : List (List UInt8)) : Nat := if okSum ws then deep ws 0 else 0

/-- Of a stack of what is missing, topmost first: how deep what is left goes, all in all. -/
def reach (ws : List (List UInt8)) : List Nat → Nat → Nat
  | [], _ => 0
  | k :: r, e => max (maxL ((row ws k e).map fun p => r.length + deep ws p)) (reach ws r ((after ws k e).getD 0))
theorem reach_zero (ws : List (List UInt8)) (r : List Nat) (e : Nat) : reach ws (0 :: r) e = reach ws r e := by
  simp [reach, row, maxL, after]
theorem reach_step {ws : List (List UInt8)} {k e e' x : Nat} (r : List Nat) (he : headEnd ws e = some e') (h : after ws (k + 1) e = some x) :
    reach ws ((k + 1) :: r) e = max (r.length + 1) (reach ws (kids ws e :: k :: r) e') := by
  obtain ⟨y, hy, hz⟩ := after_split h
  obtain ⟨e2, he2, hk, _, _⟩ := sum_head hy
  rw [he] at he2
  cases he2
  have hd := deep_eq he hy
  rw [reach, reach, reach, row_step hy, hk, h]
  simp only [List.map_cons, maxL, Option.getD_some, List.length_cons, hz]
  rw [hd]
  have := maxL_add (deep ws) (r.length + 1) (row ws (kids ws e) e')
  omega

/-- What is on top of a stack that is used up goes. -/
def pop0 : List Nat → List Nat
  | 0 :: r => pop0 r
  | l => l
theorem pop0_sum : ∀ (m : List Nat), (pop0 m).sum = m.sum
  | [] => rfl
  | 0 :: r => by rw [pop0, pop0_sum r]; simp
  | (k + 1) :: r => rfl
theorem pop0_reach (ws : List (List UInt8)) (e : Nat) : ∀ (m : List Nat), reach ws (pop0 m) e = reach ws m e
  | [] => rfl
  | 0 :: r => by rw [pop0, pop0_reach ws e r, reach_zero]
  | (k + 1) :: r => rfl
theorem pop0_some : ∀ (m : List Nat), 0 < m.sum → ∃ k r, pop0 m = (k + 1) :: r ∧ m.sum = k + 1 + r.sum ∧ r.length < m.length
  | [], h => by simp at h
  | 0 :: r, h => by
    obtain ⟨k, r', h1, h2, h3⟩ := pop0_some r (by simpa using h)
    exact ⟨k, r', by rw [pop0]; exact h1, by simpa using h2, by simp; omega⟩
  | (k + 1) :: r, _ => ⟨k, r, rfl, by simp, by simp⟩
theorem reach_none (ws : List (List UInt8)) (e : Nat) : ∀ (m : List Nat), m.sum = 0 → reach ws m e = 0
  | [], _ => rfl
  | 0 :: r, h => by rw [reach_zero]; exact reach_none ws e r (by simpa using h)
  | (k + 1) :: r, h => by simp at h

/-- Does a sum begin there? -/
def stB (ws : List (List UInt8)) (j : Nat) : Bool := decide (j = 0) || !bindW (ws.getD (j - 1) [])
theorem stB_succ (ws : List (List UInt8)) (j : Nat) : stB ws (j + 1) = !bindW (ws.getD j []) := by simp [stB]

/-- What holds at place j of a sum, of a stack of what is missing. -/
structure Way (ws : List (List UInt8)) (m : List Nat) (j : Nat) : Prop where
  le : j ≤ ws.length
  at_ : stB ws j = true → after ws m.sum j = some ws.length
  past : stB ws j = false → j < ws.length ∧ nameW (ws.getD j []) = true ∧ after ws m.sum (j + 1) = some ws.length
theorem way_start {ws : List (List UInt8)} (h : okSum ws = true) : Way ws [1] 0 := by
  obtain ⟨_, _, h3, _⟩ := ok_head h
  exact ⟨Nat.zero_le _, fun _ => by simpa using h3, fun h => by simp [stB] at h⟩
theorem Way.skip {ws : List (List UInt8)} {m : List Nat} {j : Nat} (h : Way ws m j) (hs : stB ws j = false) : Way ws m (j + 1) ∧ stB ws (j + 1) = true := by
  obtain ⟨h1, h2, h3⟩ := h.past hs
  have hst : stB ws (j + 1) = true := by rw [stB_succ, name_no_bind h2]; rfl
  exact ⟨⟨h1, fun _ => h3, fun h => by rw [hst] at h; cases h⟩, hst⟩
theorem after_end (ws : List (List UInt8)) (k : Nat) (h : after ws k ws.length = some ws.length) : k = 0 := by
  cases k with
  | zero => rfl
  | succ k =>
    obtain ⟨y, hy, _⟩ := after_split h
    obtain ⟨_, _, _, _, hlt⟩ := sum_head hy
    omega
theorem after_ge {ws : List (List UInt8)} : ∀ (k e x : Nat), after ws k e = some x → e + k ≤ x := by
  intro k
  induction k with
  | zero => intro e x h; cases h; omega
  | succ k ih =>
    intro e x h
    obtain ⟨y, hy, hz⟩ := after_split h
    obtain ⟨e', he, ha, hlt, hl⟩ := sum_head hy
    have hb := headEnd_bd he
    have := after_bd _ _ _ hb.2 ha
    have := ih y x hz
    omega
theorem Way.few {ws : List (List UInt8)} {m : List Nat} {j : Nat} (h : Way ws m j) (hs : stB ws j = true) : j + m.sum ≤ ws.length := after_ge _ _ _ (h.at_ hs)
theorem Way.pos {ws : List (List UInt8)} {m : List Nat} {j : Nat} (h : Way ws m j) (hs : stB ws j = true) (hj : j < ws.length) : 0 < m.sum := by
  have := h.at_ hs
  rcases Nat.eq_zero_or_pos m.sum with e | e
  · rw [e] at this
    injection this with this
    omega
  · exact e
/-- Where the head of a sum ends. -/
theorem head_ends {ws : List (List UInt8)} {j e : Nat} (h : headEnd ws j = some e) : (bindW (ws.getD j []) = true ∧ e = j + 2 ∧ nameW (ws.getD (j + 1) []) = true ∧ j + 1 < ws.length) ∨ (bindW (ws.getD j []) = false ∧ e = j + 1) := by
  unfold headEnd at h
  split at h
  · cases h
  · rename_i x hx
    have hxj : ws.getD j [] = x := by simp [List.getD, hx]
    rw [hxj]
    split at h
    · cases h
    · split at h
      · rename_i hb
        split at h
        · cases h
        · rename_i y hy
          have hyj : ws.getD (j + 1) [] = y := by simp [List.getD, hy]
          have hlt := (List.getElem?_eq_some_iff.1 hy).1
          rw [hyj]
          split at h
          · rename_i hn
            cases h
            exact Or.inl ⟨hb, rfl, hn, hlt⟩
          · cases h
      · rename_i hb
        cases h
        exact Or.inr ⟨by simpa using hb, rfl⟩
/-- One word on. -/
theorem Way.step {ws : List (List UInt8)} {m r : List Nat} {j k : Nat} (h : Way ws m j) (hs : stB ws j = true) (hj : j < ws.length) (hm : m.sum = k + 1 + r.sum) : Way ws (kids ws j :: k :: r) (j + 1) := by
  have ha := h.at_ hs
  rw [hm, show k + 1 + r.sum = (k + r.sum) + 1 from by omega, after_succ] at ha
  cases he : headEnd ws j with
  | none => rw [he] at ha; cases ha
  | some e =>
    rw [he] at ha
    simp only at ha
    have hsum : (kids ws j :: k :: r).sum = kids ws j + (k + r.sum) := by simp
    rcases head_ends he with ⟨hb, rfl, hn, hlt⟩ | ⟨hb, rfl⟩
    · refine ⟨hj, fun h => ?_, fun _ => ⟨hlt, hn, by rw [hsum]; exact ha⟩⟩
      rw [stB_succ, hb] at h
      cases h
    · refine ⟨hj, fun _ => by rw [hsum]; exact ha, fun h => ?_⟩
      rw [stB_succ, hb] at h
      cases h

/-- How deep what is left goes, from place j on. -/
def left (ws : List (List UInt8)) (m : List Nat) (j : Nat) : Nat := if stB ws j then reach ws m j else reach ws m (j + 1)
theorem left_skip {ws : List (List UInt8)} {m : List Nat} {j : Nat} (h : Way ws m j) (hs : stB ws j = false) : left ws m j = left ws m (j + 1) := by
  unfold left
  rw [hs, (h.skip hs).2]
  rfl
theorem left_step {ws : List (List UInt8)} {m r : List Nat} {j k : Nat} (h : Way ws m j) (hs : stB ws j = true) (hp : pop0 m = (k + 1) :: r) (hm : m.sum = k + 1 + r.sum) : left ws m j = max (r.length + 1) (left ws (kids ws j :: k :: r) (j + 1)) := by
  have ha := h.at_ hs
  rw [hm] at ha
  have h1 : ∃ x, after ws (k + 1) j = some x := by
    obtain ⟨y, hy, _⟩ := after_part ha
    exact ⟨y, hy⟩
  obtain ⟨x, hx⟩ := h1
  obtain ⟨y, hy, _⟩ := after_split hx
  obtain ⟨e, he, _, _, _⟩ := sum_head hy
  have hl : left ws m j = reach ws m j := by unfold left; rw [hs]; rfl
  rw [hl, ← pop0_reach, hp, reach_step r he hx]
  congr 1
  unfold left
  rw [stB_succ]
  rcases head_ends he with ⟨hb, rfl, _, _⟩ | ⟨hb, rfl⟩
  · rw [hb]; rfl
  · rw [hb]; rfl
theorem left_end {ws : List (List UInt8)} {m : List Nat} (h : Way ws m ws.length) : left ws m ws.length = 0 := by
  cases hs : stB ws ws.length
  · have := (h.past hs).1
    omega
  · unfold left
    rw [hs]
    exact reach_none ws _ m (after_end ws _ (h.at_ hs))
theorem left_start {ws : List (List UInt8)} (h : okSum ws = true) : left ws [1] 0 = deepN ws := by
  obtain ⟨_, _, h3, _⟩ := ok_head h
  unfold left deepN
  rw [h]
  have : stB ws 0 = true := by simp [stB]
  rw [this]
  simp only [if_true]
  rw [reach, show (1 : Nat) = 0 + 1 from rfl, row_step h3]
  simp [reach, row, maxL]

/-- How often a word stands where a sum begins, ahead of place j. -/
def wcnt (ws : List (List UInt8)) (x : List UInt8) : Nat → Nat
  | 0 => 0
  | j + 1 => wcnt ws x j + if stB ws j && (ws.getD j [] == x) then 1 else 0
theorem wcnt_le (ws : List (List UInt8)) (x : List UInt8) : ∀ j, wcnt ws x j ≤ j
  | 0 => Nat.le_refl _
  | j + 1 => by
    have := wcnt_le ws x j
    rw [wcnt]
    split <;> omega
/-- How often that word stands in it. -/
def wordsN (ws : List (List UInt8)) (x : List UInt8) : Nat := if okSum ws then wcnt ws x ws.length else 0
theorem kids_needs {ws : List (List UInt8)} {m : List Nat} {j : Nat} (h : Way ws m j) (hs : stB ws j = true) (hj : j < ws.length) : needs (ws.getD j []) = (kids ws j : Int) := by
  have ha := h.at_ hs
  have hp := h.pos hs hj
  obtain ⟨s, hsum⟩ : ∃ s, m.sum = s + 1 := ⟨m.sum - 1, by omega⟩
  rw [hsum, after_succ] at ha
  have hx : ws[j]? = some (ws.getD j []) := by simp [List.getD, hj]
  unfold kids
  have : ¬ needs (ws.getD j []) < 0 := by
    intro hn
    rw [head_bad hx hn] at ha
    cases ha
  omega

end Go.Proofs.YtgcjmhecnbhhlaaGreatDoor.L2
