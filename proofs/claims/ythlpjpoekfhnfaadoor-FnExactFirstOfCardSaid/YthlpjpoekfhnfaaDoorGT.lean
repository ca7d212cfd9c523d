/-
  Gathered in one text, in this order: S4, S5, W20.
-/
import Derived.Test.YthlpjpoekfhnfaaDoorGY
import Derived.Lib.Join
/-
  How deep a sum is, and the way of a walker that goes from word to word with a stack of what is missing: nothing of the program stands here.
-/
namespace Go.Proofs.YthlpjpoekfhnfaaDoor.L2
open S1 L1

/-- The greatest of some. -/
def maxL : List Nat → Nat
  | [] => 0
  | a :: r => max a (maxL r)
theorem maxL_append (a b : List Nat) : maxL (a ++ b) = max (maxL a) (maxL b) := by
  induction a with
  | nil => simp [maxL]
  | cons x a ih => simp only [List.cons_append, maxL, ih]; omega
theorem maxL_snoc (a : List Nat) (x : Nat) : maxL (a ++ [x]) = max (maxL a) x := by
  rw [maxL_append]; simp [maxL]
theorem maxL_add (f : Nat → Nat) (a : Nat) (l : List Nat) : max a (maxL (l.map fun p => a + f p)) = a + maxL (l.map f) := by
  induction l with
  | nil => simp [maxL]
  | cons x l ih => simp only [List.map_cons, maxL]; omega

/-- How deep the sum at i is; f bounds how deep one looks. -/
def dep : Nat → List (List UInt8) → Nat → Nat
  | 0, _, _ => 0
  | f + 1, ws, i => 1 + maxL ((row ws (kids ws i) ((headEnd ws i).getD 0)).map (dep f ws))

/-- What stands at the head of a sum. -/
theorem sum_head {ws : List (List UInt8)} {i x : Nat} (h : after ws 1 i = some x) : ∃ e, headEnd ws i = some e ∧ after ws (kids ws i) e = some x ∧ i < e ∧ i < ws.length := by
  rw [after_succ] at h
  cases hh : headEnd ws i with
  | none => rw [hh] at h; cases h
  | some e =>
    rw [hh] at h
    have := headEnd_bd hh
    exact ⟨e, rfl, h, this.1, by omega⟩
theorem row_parts {ws : List (List UInt8)} : ∀ (k e x : Nat), after ws k e = some x → ∀ p ∈ row ws k e, e ≤ p ∧ ∃ y, after ws 1 p = some y := by
  intro k
  induction k with
  | zero => intro e x _ p hp; cases hp
  | succ k ih =>
    intro e x h p hp
    obtain ⟨y, hy, hz⟩ := after_split h
    rw [row_step hy] at hp
    obtain ⟨_, _, _, _, hlt⟩ := sum_head hy
    have hey := after_bd 1 e y (by omega) hy
    rcases List.mem_cons.1 hp with rfl | hp
    · exact ⟨Nat.le_refl _, y, hy⟩
    · obtain ⟨h1, h2⟩ := ih y x hz p hp
      exact ⟨by omega, h2⟩
theorem dep_more (ws : List (List UInt8)) : ∀ (f i x : Nat), ws.length ≤ i + f → after ws 1 i = some x → dep f ws i = dep (f + 1) ws i := by
  intro f
  induction f with
  | zero =>
    intro i x hi h
    obtain ⟨_, _, _, _, hlt⟩ := sum_head h
    omega
  | succ f ih =>
    intro i x hi h
    obtain ⟨e, he, ha, hlt, _⟩ := sum_head h
    rw [dep, dep, he, Option.getD_some]
    congr 2
    refine List.map_congr_left fun p hp => ?_
    obtain ⟨h1, y, h2⟩ := row_parts _ _ _ ha p hp
    exact ih p y (by omega) h2
theorem dep_any {ws : List (List UInt8)} {f f' i x : Nat} (h : ws.length ≤ i + f) (h' : ws.length ≤ i + f') (ha : after ws 1 i = some x) : dep f ws i = dep f' ws i := by
  have key : ∀ f, ws.length ≤ i + f → ∀ k, dep f ws i = dep (f + k) ws i := by
    intro f hf k
    induction k with
    | zero => rfl
    | succ k ih => rw [ih, dep_more ws (f + k) i x (by omega) ha]; rfl
  rw [key f h f', key f' h' f, Nat.add_comm]
/-- How deep the sum at i is. -/
def deep (ws : List (List UInt8)) (i : Nat) : Nat := dep ws.length ws i
theorem deep_eq {ws : List (List UInt8)} {i e x : Nat} (he : headEnd ws i = some e) (h : after ws 1 i = some x) : deep ws i = 1 + maxL ((row ws (kids ws i) e).map (deep ws)) := by
  unfold deep
  rw [dep_more ws _ i x (by omega) h, dep, he, Option.getD_some]

/-- The depth that is asked for. -/
def deepN (ws : List (List UInt8)) : Nat := if okSum ws then deep ws 0 else 0

/-- Of a stack of what is missing, topmost first: how deep what is left goes, all in all. -/
def reach (ws : List (List UInt8)) : List Nat → Nat → Nat
  | [], _ => 0
  | k :: r, e => max (maxL ((row ws k e).map fun p => r.length + deep ws p)) (reach ws r ((after ws k e).getD 0))
theorem reach_zero (ws : List (List UInt8)) (r : List Nat) (e : Nat) : reach ws (0 :: r) e = reach ws r e := by
  simp [reach, row, maxL, after]
theorem reach_step {ws : List (List UInt8)} {k e e' x : Nat} (r : List Nat) (he : headEnd ws e = some e') (h : after ws (k + 1) e = some x) :
    reach ws ((k + 1) :: r) e = max (r.length + 1) (reach ws (kids ws e :: k :: r) e') := by
  obtain ⟨y, hy, hz⟩ := after_split h
  obtain ⟨e2, he2, hk, _, _⟩ := sum_head hy
  rw [he] at he2
  cases he2
  have hd := deep_eq he hy
  rw [reach, reach, reach, row_step hy, hk, h]
  simp only [List.map_cons, maxL, Option.getD_some, List.length_cons, hz]
  rw [hd]
  have := maxL_add (deep ws) (r.length + 1) (row ws (kids ws e) e')
  omega

/-- What is on top of a stack that is used up goes. -/
def pop0 : List Nat → List Nat
  | 0 :: r => pop0 r
  | l => l
theorem pop0_sum : ∀ (m : List Nat), (pop0 m).sum = m.sum
  | [] => rfl
  | 0 :: r => by rw [pop0, pop0_sum r]; simp
  | (k + 1) :: r => rfl
theorem pop0_reach (ws : List (List UInt8)) (e : Nat) : ∀ (m : List Nat), reach ws (pop0 m) e = reach ws m e
  | [] => rfl
  | 0 :: r => by rw [pop0, pop0_reach ws e r, reach_zero]
  | (k + 1) :: r => rfl
theorem pop0_some : ∀ (m : List Nat), 0 < m.sum → ∃ k r, pop0 m = (k + 1) :: r ∧ m.sum = k + 1 + r.sum ∧ r.length < m.length
  | [], h => by simp at h
  | 0 :: r, h => by
    obtain ⟨k, r', h1, h2, h3⟩ := pop0_some r (by simpa using h)
    exact ⟨k, r', by rw [pop0]; exact h1, by simpa using h2, by simp; omega⟩
  | (k + 1) :: r, _ => ⟨k, r, rfl, by simp, by simp⟩
theorem reach_none (ws : List (List UInt8)) (e : Nat) : ∀ (m : List Nat), m.sum = 0 → reach ws m e = 0
  | [], _ => rfl
  | 0 :: r, h => by rw [reach_zero]; exact reach_none ws e r (by simpa using h)
  | (k + 1) :: r, h => by simp at h

/-- Does a sum begin there? -/
def stB (ws : List (List UInt8)) (j : Nat) : Bool := decide (j = 0) || !bindW (ws.getD (j - 1) [])
theorem stB_succ (ws : List (List UInt8)) (j : Nat) : stB ws (j + 1) = !bindW (ws.getD j []) := by simp [stB]

/-- What holds at place j of a sum, of a stack of what is missing. -/
structure Way (ws : List (List UInt8)) (m : List Nat) (j : Nat) : Prop where
  le : j ≤ ws.length
  at_ : stB ws j = true → after ws m.sum j = some ws.length
  past : stB ws j = false → j < ws.length ∧ nameW (ws.getD j []) = true ∧ after ws m.sum (j + 1) = some ws.length
theorem way_start {ws : List (List UInt8)} (h : okSum ws = true) : Way ws [1] 0 := by
  obtain ⟨_, _, h3, _⟩ := ok_head h
  exact ⟨Nat.zero_le _, fun _ => by simpa using h3, fun h => by simp [stB] at h⟩
theorem Way.skip {ws : List (List UInt8)} {m : List Nat} {j : Nat} (h : Way ws m j) (hs : stB ws j = false) : Way ws m (j + 1) ∧ stB ws (j + 1) = true := by
  obtain ⟨h1, h2, h3⟩ := h.past hs
  have hst : stB ws (j + 1) = true := by rw [stB_succ, name_no_bind h2]; rfl
  exact ⟨⟨h1, fun _ => h3, fun h => by rw [hst] at h; cases h⟩, hst⟩
theorem after_end (ws : List (List UInt8)) (k : Nat) (h : after ws k ws.length = some ws.length) : k = 0 := by
  cases k with
  | zero => rfl
  | succ k =>
    obtain ⟨y, hy, _⟩ := after_split h
    obtain ⟨_, _, _, _, hlt⟩ := sum_head hy
    omega
theorem after_ge {ws : List (List UInt8)} : ∀ (k e x : Nat), after ws k e = some x → e + k ≤ x := by
  intro k
  induction k with
  | zero => intro e x h; cases h; omega
  | succ k ih =>
    intro e x h
    obtain ⟨y, hy, hz⟩ := after_split h
    obtain ⟨e', he, ha, hlt, hl⟩ := sum_head hy
    have hb := headEnd_bd he
    have := after_bd _ _ _ hb.2 ha
    have := ih y x hz
    omega
theorem Way.few {ws : List (List UInt8)} {m : List Nat} {j : Nat} (h : Way ws m j) (hs : stB ws j = true) : j + m.sum ≤ ws.length := after_ge _ _ _ (h.at_ hs)
theorem Way.pos {ws : List (List UInt8)} {m : List Nat} {j : Nat} (h : Way ws m j) (hs : stB ws j = true) (hj : j < ws.length) : 0 < m.sum := by
  have := h.at_ hs
  rcases Nat.eq_zero_or_pos m.sum with e | e
  · rw [e] at this
    injection this with this
    omega
  · exact e
/-- Where the head of a sum ends. -/
theorem head_ends {ws : List (List UInt8)} {j e : Nat} (h : headEnd ws j = some e) : (bindW (ws.getD j []) = true ∧ e = j + 2 ∧ nameW (ws.getD (j + 1) []) = true ∧ j + 1 < ws.length) ∨ (bindW (ws.getD j []) = false ∧ e = j + 1) := by
  unfold headEnd at h
  split at h
  · cases h
  · rename_i x hx
    have hxj : ws.getD j [] = x := by simp [List.getD, hx]
    rw [hxj]
    split at h
    · cases h
    · split at h
      · rename_i hb
        split at h
        · cases h
        · rename_i y hy
          have hyj : ws.getD (j + 1) [] = y := by simp [List.getD, hy]
          have hlt := (List.getElem?_eq_some_iff.1 hy).1
          rw [hyj]
          split at h
          · rename_i hn
            cases h
            exact Or.inl ⟨hb, rfl, hn, hlt⟩
          · cases h
      · rename_i hb
        cases h
        exact Or.inr ⟨by simpa using hb, rfl⟩
/-- One word on. -/
theorem Way.step {ws : List (List UInt8)} {m r : List Nat} {j k : Nat} (h : Way ws m j) (hs : stB ws j = true) (hj : j < ws.length) (hm : m.sum = k + 1 + r.sum) : Way ws (kids ws j :: k :: r) (j + 1) := by
  have ha := h.at_ hs
  rw [hm, show k + 1 + r.sum = (k + r.sum) + 1 from by omega, after_succ] at ha
  cases he : headEnd ws j with
  | none => rw [he] at ha; cases ha
  | some e =>
    rw [he] at ha
    simp only at ha
    have hsum : (kids ws j :: k :: r).sum = kids ws j + (k + r.sum) := by simp
    rcases head_ends he with ⟨hb, rfl, hn, hlt⟩ | ⟨hb, rfl⟩
    · refine ⟨hj, fun h => ?_, fun _ => ⟨hlt, hn, by rw [hsum]; exact ha⟩⟩
      rw [stB_succ, hb] at h
      cases h
    · refine ⟨hj, fun _ => by rw [hsum]; exact ha, fun h => ?_⟩
      rw [stB_succ, hb] at h
      cases h

/-- How deep what is left goes, from place j on. -/
def left (ws : List (List UInt8)) (m : List Nat) (j : Nat) : Nat := if stB ws j then reach ws m j else reach ws m (j + 1)
theorem left_skip {ws : List (List UInt8)} {m : List Nat} {j : Nat} (h : Way ws m j) (hs : stB ws j = false) : left ws m j = left ws m (j + 1) := by
  unfold left
  rw [hs, (h.skip hs).2]
  rfl
theorem left_step {ws : List (List UInt8)} {m r : List Nat} {j k : Nat} (h : Way ws m j) (hs : stB ws j = true) (hp : pop0 m = (k + 1) :: r) (hm : m.sum = k + 1 + r.sum) : left ws m j = max (r.length + 1) (left ws (kids ws j :: k :: r) (j + 1)) := by
  have ha := h.at_ hs
  rw [hm] at ha
  have h1 : ∃ x, after ws (k + 1) j = some x := by
    obtain ⟨y, hy, _⟩ := after_part ha
    exact ⟨y, hy⟩
  obtain ⟨x, hx⟩ := h1
  obtain ⟨y, hy, _⟩ := after_split hx
  obtain ⟨e, he, _, _, _⟩ := sum_head hy
  have hl : left ws m j = reach ws m j := by unfold left; rw [hs]; rfl
  rw [hl, ← pop0_reach, hp, reach_step r he hx]
  congr 1
  unfold left
  rw [stB_succ]
  rcases head_ends he with ⟨hb, rfl, _, _⟩ | ⟨hb, rfl⟩
  · rw [hb]; rfl
  · rw [hb]; rfl
theorem left_end {ws : List (List UInt8)} {m : List Nat} (h : Way ws m ws.length) : left ws m ws.length = 0 := by
  cases hs : stB ws ws.length
  · have := (h.past hs).1
    omega
  · unfold left
    rw [hs]
    exact reach_none ws _ m (after_end ws _ (h.at_ hs))
theorem left_start {ws : List (List UInt8)} (h : okSum ws = true) : left ws [1] 0 = deepN ws := by
  obtain ⟨_, _, h3, _⟩ := ok_head h
  unfold left deepN
  rw [h]
  have : stB ws 0 = true := by simp [stB]
  rw [this]
  simp only [if_true]
  rw [reach, show (1 : Nat) = 0 + 1 from rfl, row_step h3]
  simp [reach, row, maxL]

/-- How often a word stands where a sum begins, ahead of place j. -/
def wcnt (ws : List (List UInt8)) (x : List UInt8) : Nat → Nat
  | 0 => 0
  | j + 1 => wcnt ws x j + if stB ws j && (ws.getD j [] == x) then 1 else 0
theorem wcnt_le (ws : List (List UInt8)) (x : List UInt8) : ∀ j, wcnt ws x j ≤ j
  | 0 => Nat.le_refl _
  | j + 1 => by
    have := wcnt_le ws x j
    rw [wcnt]
    split <;> omega
/-- How often that word stands in it. -/
def wordsN (ws : List (List UInt8)) (x : List UInt8) : Nat := if okSum ws then wcnt ws x ws.length else 0
theorem kids_needs {ws : List (List UInt8)} {m : List Nat} {j : Nat} (h : Way ws m j) (hs : stB ws j = true) (hj : j < ws.length) : needs (ws.getD j []) = (kids ws j : Int) := by
  have ha := h.at_ hs
  have hp := h.pos hs hj
  obtain ⟨s, hsum⟩ : ∃ s, m.sum = s + 1 := ⟨m.sum - 1, by omega⟩
  rw [hsum, after_succ] at ha
  have hx : ws[j]? = some (ws.getD j []) := by simp [List.getD, hj]
  unfold kids
  have : ¬ needs (ws.getD j []) < 0 := by
    intro hn
    rw [head_bad hx hn] at ha
    cases ha
  omega

end Go.Proofs.YthlpjpoekfhnfaaDoor.L2

/-
  Texts parted at blanks and laid together again; sums that stand in a sum: nothing of the program stands here.
-/
namespace Go.Proofs.YthlpjpoekfhnfaaDoor.L2
open S1 L1

/-- The words of a text, parted at blanks. -/
def cutW : List UInt8 → List (List UInt8)
  | [] => [[]]
  | c :: r => if c = 32 then [] :: cutW r else match cutW r with
    | [] => [[c]]
    | h :: t => (c :: h) :: t
theorem cutW_cons (l : List UInt8) : ∃ h t, cutW l = h :: t := by
  cases l with
  | nil => exact ⟨_, _, rfl⟩
  | cons c r =>
    rw [cutW]
    split
    · exact ⟨_, _, rfl⟩
    · split
      · exact ⟨_, _, rfl⟩
      · exact ⟨_, _, rfl⟩
/-- Signs laid ahead of the first word. -/
def onto (a : List UInt8) : List (List UInt8) → List (List UInt8)
  | [] => [a]
  | h :: t => (a ++ h) :: t
theorem onto_end (a : List UInt8) : onto a (cutW []) = [a] := by simp [cutW, onto]
theorem onto_blank (a r : List UInt8) : onto a (cutW (32 :: r)) = a :: cutW r := by simp [cutW, onto]
theorem onto_sign (a r : List UInt8) (c : UInt8) (hc : c ≠ 32) : onto a (cutW (c :: r)) = onto (a ++ [c]) (cutW r) := by
  obtain ⟨h, t, e⟩ := cutW_cons r
  rw [cutW, if_neg hc, e]
  simp [onto]
theorem onto_nil (l : List UInt8) : onto [] (cutW l) = cutW l := by
  obtain ⟨h, t, e⟩ := cutW_cons l
  rw [e]; rfl
theorem cut_word : ∀ (x r : List UInt8), 32 ∉ x → cutW (x ++ r) = onto x (cutW r)
  | [], r, _ => by rw [onto_nil]; rfl
  | c :: x, r, h => by
    have hc : c ≠ 32 := fun e => h (by rw [e]; exact List.mem_cons_self ..)
    have hx : 32 ∉ x := fun e => h (List.mem_cons_of_mem _ e)
    rw [← onto_nil (c :: x ++ r), List.cons_append, onto_sign _ _ _ hc, cut_word x r hx]
    obtain ⟨p, t, e⟩ := cutW_cons r
    rw [e]
    simp [onto]
theorem join_step (x y : List UInt8) (r : List (List UInt8)) : Lib.join (x :: y :: r) [32] = x ++ 32 :: Lib.join (y :: r) [32] := by
  rw [Lib.join_cons, Lib.join_cons]
  simp [Lib.joinTail]
theorem join_cut (l : List UInt8) : Lib.join (cutW l) [32] = l := by
  induction l with
  | nil => simp [cutW, Lib.join_one]
  | cons c r ih =>
    obtain ⟨h, t, e⟩ := cutW_cons r
    rw [e] at ih
    rw [cutW]
    split
    · rename_i hc
      rw [e, join_step, ih, hc]; rfl
    · rw [e]
      simp only
      rw [Lib.join_cons] at ih ⊢
      rw [← ih]; rfl
theorem cut_join : ∀ (ws : List (List UInt8)), ws ≠ [] → (∀ w ∈ ws, 32 ∉ w) → cutW (Lib.join ws [32]) = ws
  | [], h, _ => absurd rfl h
  | [x], _, h => by
    rw [Lib.join_one]
    have := cut_word x [] (h x (by simp))
    rw [List.append_nil] at this
    rw [this, onto_end]
  | x :: y :: r, _, h => by
    rw [join_step, cut_word x _ (h x (by simp)), onto_blank, cut_join (y :: r) (by simp) (fun w hw => h w (List.mem_cons_of_mem _ hw))]
/-- Where the first blank stands. -/
theorem cut_index (l : List UInt8) : (Lib.indexByte l 32 < 0 → Lib.indexByte l 32 = -1 ∧ cutW l = [l]) ∧ (0 ≤ Lib.indexByte l 32 → (Lib.indexByte l 32).toNat < l.length ∧ cutW l = l.take (Lib.indexByte l 32).toNat :: cutW (l.drop ((Lib.indexByte l 32).toNat + 1))) := by
  induction l with
  | nil => exact ⟨fun _ => ⟨rfl, rfl⟩, fun h => by simp [Lib.indexByte] at h⟩
  | cons b l ih =>
    have hge := Lib.indexByte_ge l 32
    by_cases hb : b = 32
    · subst hb
      have e : Lib.indexByte (32 :: l) 32 = 0 := by simp [Lib.indexByte]
      rw [e]
      exact ⟨fun h => absurd h (by decide), fun _ => ⟨by simp, by simp [cutW]⟩⟩
    · by_cases hn : Lib.indexByte l 32 = -1
      · have e : Lib.indexByte (b :: l) 32 = -1 := by simp [Lib.indexByte, hb, hn]
        rw [e]
        refine ⟨fun _ => ⟨rfl, ?_⟩, fun h => absurd h (by decide)⟩
        rw [cutW, if_neg hb, (ih.1 (by omega)).2]
      · have e : Lib.indexByte (b :: l) 32 = Lib.indexByte l 32 + 1 := by simp [Lib.indexByte, hb, hn]
        obtain ⟨h1, h2⟩ := ih.2 (by omega)
        rw [e]
        have e2 : (Lib.indexByte l 32 + 1).toNat = (Lib.indexByte l 32).toNat + 1 := by omega
        refine ⟨fun h => by omega, fun _ => ⟨by rw [e2]; simp; exact h1, ?_⟩⟩
        rw [e2, cutW, if_neg hb, h2]
        simp
theorem cut_count (l : List UInt8) : (cutW l).length ≤ l.length + 1 := by
  induction l with
  | nil => simp [cutW]
  | cons c r ih =>
    obtain ⟨h, t, e⟩ := cutW_cons r
    rw [e] at ih
    rw [cutW, e]
    split <;> simp at ih ⊢ <;> omega

/-! Words of sums have no blank. -/
theorem num_noblank {l : List UInt8} (h : P1.rdOk l = true) : 32 ∉ l := by
  have hm : P1.magOk (P1.signed l) (P1.magOf l) = true := h
  have hall : (P1.magOf l).all P1.dgB = true := by
    unfold P1.magOk at hm
    simp only [Bool.and_eq_true] at hm
    exact hm.1.2
  have hno : 32 ∉ P1.magOf l := fun hx => by
    have := List.all_eq_true.1 hall 32 hx
    revert this; decide
  intro hx
  cases l with
  | nil => cases hx
  | cons c r =>
    by_cases hs : P1.signed (c :: r) = true
    · have e : P1.magOf (c :: r) = r := by unfold P1.magOf; rw [if_pos hs]; rfl
      rw [e] at hno
      rcases List.mem_cons.1 hx with h1 | h1
      · subst h1
        simp [P1.signed] at hs
      · exact hno h1
    · have e : P1.magOf (c :: r) = c :: r := by unfold P1.magOf; rw [if_neg hs]
      rw [e] at hno
      exact hno hx
theorem needs_noblank {l : List UInt8} (h : ¬ needs l < 0) : 32 ∉ l := by
  unfold needs at h
  by_cases h0 : is0 l = true
  · unfold is0 at h0
    simp only [Bool.or_eq_true, beq_iff_eq] at h0
    rcases h0 with rfl | rfl <;> decide
  rw [if_neg h0] at h
  by_cases h1 : is1 l = true
  · unfold is1 at h1
    simp only [Bool.or_eq_true, beq_iff_eq] at h1
    rcases h1 with ((rfl | rfl) | rfl) | rfl <;> decide
  rw [if_neg h1] at h
  by_cases h2 : is2 l = true
  · unfold is2 at h2
    simp only [Bool.or_eq_true, beq_iff_eq] at h2
    rcases h2 with (((((rfl | rfl) | rfl) | rfl) | rfl) | rfl) | rfl <;> decide
  rw [if_neg h2] at h
  by_cases h3 : is3 l = true
  · unfold is3 at h3
    simp only [beq_iff_eq] at h3
    subst h3; decide
  rw [if_neg h3] at h
  by_cases h4 : numW l = true
  · unfold numW at h4
    rw [Bool.and_eq_true] at h4
    exact num_noblank h4.1
  · rw [if_neg h4] at h
    exact absurd (by decide) h
theorem name_noblank {l : List UInt8} (h : nameW l = true) : 32 ∉ l := by
  unfold nameW at h
  rw [Bool.and_eq_true] at h
  exact num_noblank h.1
theorem ways {ws : List (List UInt8)} (h : okSum ws = true) : ∀ j, j ≤ ws.length → ∃ m, Way ws m j := by
  intro j
  induction j with
  | zero => intro _; exact ⟨_, way_start h⟩
  | succ j ih =>
    intro hj
    obtain ⟨m, hm⟩ := ih (by omega)
    cases hs : stB ws j
    · exact ⟨m, (hm.skip hs).1⟩
    · obtain ⟨k, r, _, hsum, _⟩ := pop0_some m (hm.pos hs (by omega))
      exact ⟨_, hm.step hs (by omega) hsum⟩
theorem ok_noblank {ws : List (List UInt8)} (h : okSum ws = true) : ∀ w ∈ ws, 32 ∉ w := by
  intro w hw
  obtain ⟨j, hj, rfl⟩ := List.getElem_of_mem hw
  obtain ⟨m, hm⟩ := ways h j (by omega)
  have e : ws.getD j [] = ws[j] := by simp [List.getD, hj]
  cases hs : stB ws j
  · have := (hm.past hs).2.1
    rw [e] at this
    exact name_noblank this
  · have := kids_needs hm hs hj
    rw [e] at this
    exact needs_noblank (by omega)

/-! A sum that stands in a list stands as well in a piece of it. -/
theorem take_get {ws : List (List UInt8)} {n j : Nat} (h : j < n) : (ws.take n)[j]? = ws[j]? := by rw [List.getElem?_take, if_pos h]
theorem take_getD {ws : List (List UInt8)} {n j : Nat} (h : j < n) : (ws.take n).getD j [] = ws.getD j [] := by simp [List.getD, take_get h]
theorem headEnd_take {ws : List (List UInt8)} {e e' n : Nat} (h : headEnd ws e = some e') (hn : e' ≤ n) : headEnd (ws.take n) e = some e' := by
  have hb := headEnd_bd h
  rcases head_ends h with ⟨hbw, rfl, _, _⟩ | ⟨hbw, rfl⟩
  · unfold headEnd at h ⊢
    rw [take_get (by omega), take_get (by omega)]
    exact h
  · unfold headEnd at h ⊢
    rw [take_get (by omega)]
    split at h
    · cases h
    · rename_i x hx
      have hxe : ws.getD e [] = x := by simp [List.getD, hx]
      rw [hxe] at hbw
      split at h
      · cases h
      · rename_i hneg
        simp only [hneg, hbw, if_false]
        rfl
theorem kids_take {ws : List (List UInt8)} {e n : Nat} (h : e < n) : kids (ws.take n) e = kids ws e := by
  unfold kids
  rw [take_getD h]
theorem after_take {ws : List (List UInt8)} {n : Nat} : ∀ (f k e x : Nat), 4 * (ws.length - e) + k ≤ f → e ≤ ws.length → after ws k e = some x → x ≤ n → after (ws.take n) k e = some x := by
  intro f
  induction f with
  | zero =>
    intro k e x hf he h hx
    have : k = 0 := by omega
    subst this
    exact h
  | succ f ih =>
    intro k e x hf he h hx
    cases k with
    | zero => exact h
    | succ m =>
      rw [after_succ] at h ⊢
      cases hh : headEnd ws e with
      | none => rw [hh] at h; cases h
      | some e' =>
        rw [hh] at h
        simp only at h
        have hb := headEnd_bd hh
        have ha := after_bd _ _ _ hb.2 h
        have hk := kids_le ws e
        rw [headEnd_take hh (by omega), kids_take (by omega)]
        exact ih _ _ _ (by omega) hb.2 h hx
theorem row_take {ws : List (List UInt8)} {n : Nat} : ∀ (k e x : Nat), e ≤ ws.length → after ws k e = some x → x ≤ n → row (ws.take n) k e = row ws k e := by
  intro k
  induction k with
  | zero => intro e x _ _ _; rfl
  | succ k ih =>
    intro e x he h hx
    obtain ⟨y, hy, hz⟩ := after_split h
    have hby := after_bd _ _ _ he hy
    have hbz := after_bd _ _ _ hby.2 hz
    have hyt := after_take _ 1 e y (Nat.le_refl _) he hy (show y ≤ n by omega)
    rw [row_step hy, row_step hyt, ih y x hby.2 hz hx]
theorem row_ends {ws : List (List UInt8)} : ∀ (k e x : Nat), e ≤ ws.length → after ws k e = some x → ∀ p ∈ row ws k e, p ≤ ws.length ∧ ∃ y, after ws 1 p = some y ∧ y ≤ x := by
  intro k
  induction k with
  | zero => intro e x _ _ p hp; cases hp
  | succ k ih =>
    intro e x he h p hp
    obtain ⟨y, hy, hz⟩ := after_split h
    have hby := after_bd _ _ _ he hy
    have hbz := after_bd _ _ _ hby.2 hz
    rw [row_step hy] at hp
    rcases List.mem_cons.1 hp with rfl | hp
    · exact ⟨he, y, hy, hbz.1⟩
    · exact ih y x hby.2 hz p hp
theorem dep_take {ws : List (List UInt8)} {n : Nat} : ∀ (f i x : Nat), i ≤ ws.length → after ws 1 i = some x → x ≤ n → dep f (ws.take n) i = dep f ws i := by
  intro f
  induction f with
  | zero => intro i x _ _ _; rfl
  | succ f ih =>
    intro i x hi h hx
    obtain ⟨e, he, ha, hlt, hil⟩ := sum_head h
    have hb := headEnd_bd he
    have hbz := after_bd _ _ _ hb.2 ha
    rw [dep, dep, headEnd_take he (by omega), he, Option.getD_some, kids_take (by omega), row_take _ _ x hb.2 ha hx]
    congr 2
    refine List.map_congr_left fun p hp => ?_
    obtain ⟨h1, y, h2, h3⟩ := row_ends _ _ _ hb.2 ha p hp
    exact ih p y h1 h2 (by omega)
theorem after_drop1 {ws : List (List UInt8)} {a k e x : Nat} (hae : a ≤ e) (he : e ≤ ws.length) (h : after ws k e = some x) : after (ws.drop a) k (e - a) = some (x - a) := by
  rw [after_drop ws a _ k e (Nat.le_refl _) hae he, h]
  rfl
theorem row_drop {ws : List (List UInt8)} {a : Nat} : ∀ (k e x : Nat), a ≤ e → e ≤ ws.length → after ws k e = some x → row (ws.drop a) k (e - a) = (row ws k e).map (· - a) := by
  intro k
  induction k with
  | zero => intro e x _ _ _; rfl
  | succ k ih =>
    intro e x hae he h
    obtain ⟨y, hy, hz⟩ := after_split h
    have hby := after_bd _ _ _ he hy
    rw [row_step hy, row_step (after_drop1 hae he hy), ih y x (by omega) hby.2 hz]
    rfl
theorem dep_drop {ws : List (List UInt8)} {a : Nat} : ∀ (f i x : Nat), a ≤ i → i ≤ ws.length → after ws 1 i = some x → dep f (ws.drop a) (i - a) = dep f ws i := by
  intro f
  induction f with
  | zero => intro i x _ _ _; rfl
  | succ f ih =>
    intro i x hai hi h
    obtain ⟨e, he, ha, hlt, hil⟩ := sum_head h
    have hb := headEnd_bd he
    have hhd := headEnd_drop ws a (i - a)
    rw [show a + (i - a) = i from by omega, he] at hhd
    have hkd := kids_drop ws a (i - a)
    rw [show a + (i - a) = i from by omega] at hkd
    rw [dep, dep, hhd, he, hkd]
    simp only [Option.map_some, Option.getD_some]
    rw [row_drop _ _ x (by omega) hb.2 ha, List.map_map]
    congr 2
    refine List.map_congr_left fun p hp => ?_
    obtain ⟨h1, y, h2⟩ := row_parts _ _ _ ha p hp
    obtain ⟨h3, _⟩ := row_ends _ _ _ hb.2 ha p hp
    exact ih p y (by omega) h3 h2
theorem maxL_mem {l : List Nat} {x : Nat} (h : x ∈ l) : x ≤ maxL l := by
  induction l with
  | nil => cases h
  | cons a l ih =>
    rw [maxL]
    rcases List.mem_cons.1 h with rfl | h
    · omega
    · have := ih h; omega
/-- A sum is deeper than its parts. -/
theorem part_deep {ws : List (List UInt8)} {p y : Nat} (h : okSum ws = true) (hp : p ∈ parts ws) (hy : after ws 1 p = some y) : deepN ((ws.drop p).take (y - p)) < deepN ws := by
  obtain ⟨h60, h0, h3, hh, ha⟩ := ok_head h
  rw [parts_yes h] at hp
  have hbd := headEnd_bd hh
  obtain ⟨hpl, _⟩ := row_ends _ _ _ hbd.2 ha p hp
  have hby := after_bd _ _ _ hpl hy
  have hlt : deep ws p < deepN ws := by
    unfold deepN
    rw [h, if_pos rfl, deep_eq hh h3]
    have := maxL_mem (List.mem_map_of_mem (f := deep ws) hp)
    omega
  rw [deepN, deepN, h, if_pos rfl]
  split
  · have h1 := after_drop1 (Nat.le_refl p) hpl hy
    rw [Nat.sub_self] at h1
    have h2 := after_take _ 1 0 (y - p) (Nat.le_refl _) (Nat.zero_le _) h1 (Nat.le_refl _)
    have hd := dep_drop (a := p) ws.length p y (Nat.le_refl _) hpl hy
    rw [Nat.sub_self] at hd
    have ht := dep_take (n := y - p) ws.length 0 (y - p) (Nat.zero_le _) h1 (Nat.le_refl _)
    have hc : deep ((ws.drop p).take (y - p)) 0 = dep ws.length ((ws.drop p).take (y - p)) 0 := dep_any (by omega) (by simp; omega) h2
    rw [hc, ht, hd]
    unfold deepN at hlt
    rw [h, if_pos rfl] at hlt
    exact hlt
  · unfold deepN at hlt
    rw [h, if_pos rfl] at hlt
    omega

end Go.Proofs.YthlpjpoekfhnfaaDoor.L2

/-
  Chapter 3's model on lists: laid together, counted, how deep.
-/
namespace Go.Proofs.YthlpjpoekfhnfaaDoor
open Go.RowKit
namespace L2
open S1 L1

theorem toList_cat (a b : ByteArray) : (a ++ b).toList = a.toList ++ b.toList := by
  rw [Lib.toList_data, Lib.toList_data, Lib.toList_data, ByteArray.data_append, Array.toList_append]
theorem of_toList {b : ByteArray} {l : List UInt8} (h : b.toList = l) : b = ⟨l.toArray⟩ := by
  rw [← h, Lib.toList_data]
theorem size_list (b : ByteArray) : b.size = b.toList.length := by
  rw [Lib.toList_data]; rfl
theorem join_take {ws : List (List UInt8)} {k : Nat} (hk : k + 1 < ws.length) : Lib.join (ws.take (k + 2)) [32] = Lib.join (ws.take (k + 1)) [32] ++ 32 :: ws.getD (k + 1) [] := by
  cases ws with
  | nil => simp at hk
  | cons x r =>
    have hk' : k < r.length := by simpa using hk
    rw [List.take_succ_cons, List.take_succ_cons, Lib.join_cons, Lib.join_cons, Lib.joinTail_take_succ [32] r k (r.getD k []) (by simp [List.getD, hk'])]
    simp
theorem join_take1 {ws : List (List UInt8)} (hk : 0 < ws.length) : Lib.join (ws.take 1) [32] = ws.getD 0 [] := by
  cases ws with
  | nil => simp at hk
  | cons x r => simp [Lib.join_one]

/-- The text of a sum. -/
def showB (ss : List ByteArray) : ByteArray := if okSum (wsOf ss) then ⟨(Lib.join (wsOf ss) [32]).toArray⟩ else ⟨#[]⟩
theorem show_yes {ss : List ByteArray} (h : okSum (wsOf ss) = true) : showB ss = ⟨(Lib.join (wsOf ss) [32]).toArray⟩ := by unfold showB; rw [h]; rfl
theorem show_no {ss : List ByteArray} (h : okSum (wsOf ss) = false) : showB ss = ⟨#[]⟩ := by unfold showB; rw [h]; rfl

theorem deep_bd (ws : List (List UInt8)) : ∀ (f i : Nat), dep f ws i ≤ f := by
  intro f
  induction f with
  | zero => intro i; exact Nat.le_refl _
  | succ f ih =>
    intro i
    rw [dep]
    have : ∀ (l : List Nat), maxL (l.map (dep f ws)) ≤ f := by
      intro l
      induction l with
      | nil => simp [maxL]
      | cons a l ihl => simp only [List.map_cons, maxL]; have := ih a; omega
    have := this (row ws (kids ws i) ((headEnd ws i).getD 0))
    omega
theorem maxL_take (l : List Nat) {k : Nat} (hk : k < l.length) : maxL (l.take (k + 1)) = max (maxL (l.take k)) (l.getD k 0) := by
  rw [List.take_add_one]
  have : l[k]? = some (l.getD k 0) := by simp [List.getD, hk]
  rw [this]
  exact maxL_snoc _ _
theorem maxL_le {l : List Nat} {b : Nat} (h : ∀ x ∈ l, x ≤ b) : maxL l ≤ b := by
  induction l with
  | nil => simp [maxL]
  | cons a l ih =>
    have h1 := h a (by simp)
    have h2 := ih (fun x hx => h x (List.mem_cons_of_mem _ hx))
    simp only [maxL]
    omega

theorem beg_st (ss : List ByteArray) (i : Nat) : begB ss i = stB (wsOf ss) i := rfl

end L2
end Go.Proofs.YthlpjpoekfhnfaaDoor
