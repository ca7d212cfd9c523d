/-
  Gathered in one text, in this order: S1, S2, W1, W2.
-/
import Derived.Test.YthlpjpoekfhnfaaDoorGA
/-
  Plain facts on sums that are lists of words: nothing of the program stands here.
-/
namespace Go.Proofs.YthlpjpoekfhnfaaDoor.S1
open Go.Lib

/-- A number of a sum; a number that is bound. -/
def numW (l : List UInt8) : Bool := P1.rdOk l && L1.inB (P1.rdN l) (-1000000) 1000000
def nameW (l : List UInt8) : Bool := P1.rdOk l && L1.inB (P1.rdN l) 0 3
def bindW (l : List UInt8) : Bool := (l == [98, 105, 110, 100]) || (l == [97, 115, 107])
def pieceW (l : List UInt8) : Bool := (l == [109, 97, 114, 107]) || (l == [99, 117, 116]) || (l == [103, 111])
def is0 (l : List UInt8) : Bool := (l == [97, 114, 103]) || (l == [97, 115, 107])
def is1 (l : List UInt8) : Bool := (l == [115, 97, 121]) || (l == [116, 104, 114, 111, 119]) || (l == [109, 97, 114, 107]) || (l == [99, 117, 116])
def is2 (l : List UInt8) : Bool := (l == [97, 100, 100]) || (l == [98, 101, 108, 111, 119]) || (l == [98, 111, 116, 104]) || (l == [107, 101, 101, 112]) || (l == [98, 105, 110, 100]) || (l == [116, 114, 121]) || (l == [103, 111])
def is3 (l : List UInt8) : Bool := (l == [105, 102])
/-- How many sums stand behind a word. -/
def needs (l : List UInt8) : Int := if is0 l then 0 else if is1 l then 1 else if is2 l then 2 else if is3 l then 3 else if numW l then 0 else -1

theorem needs_bd (l : List UInt8) : -1 ≤ needs l ∧ needs l ≤ 3 := by
  unfold needs
  repeat' split
  all_goals omega

/-- A name of what is bound is no word that binds. -/
theorem name_no_bind {l : List UInt8} (h : nameW l = true) : bindW l = false := by
  cases hb : bindW l
  · rfl
  · unfold bindW at hb
    simp only [Bool.or_eq_true, beq_iff_eq] at hb
    unfold nameW at h
    rw [Bool.and_eq_true] at h
    rcases hb with rfl | rfl
    · exact absurd h.1 (by decide)
    · exact absurd h.1 (by decide)

theorem rd_no_p {l : List UInt8} (h : hasPrefix l [112] = true) : P1.rdOk l = false := by
  cases l with
  | nil => rfl
  | cons c r =>
    have hc : c = 112 := by rw [L1.pre_head] at h; simpa using h
    subst hc
    unfold P1.rdOk P1.magOk P1.magOf P1.signed
    simp [P1.dgB]

/-- What the program's reader of values says of a number. -/
theorem num_of_rv (l : List UInt8) : (L1.rvOk l && L1.numB (L1.rvK l) (L1.rvN l)) = numW l ∧ (numW l = true → L1.rvOk l = true ∧ L1.rvN l = P1.rdN l) := by
  cases hx : hasPrefix l [112]
  · have hk : L1.rvKind l = 0 := by unfold L1.rvKind; rw [hx]; rfl
    have hr : L1.rvRest l = l := by unfold L1.rvRest trimPrefix; rw [hx]; rfl
    have hok : L1.rvOk l = numW l := by
      unfold L1.rvOk numW
      rw [hk, hr]
      congr 1
      simp [L1.okB, L1.numB, L1.pieB]
    cases hv : L1.rvOk l
    · rw [hv] at hok
      refine ⟨?_, fun h => ?_⟩
      · rw [← hok]; rfl
      · rw [← hok] at h; cases h
    · obtain ⟨_, h2, h3⟩ := L1.rv_yes hv
      rw [hv] at hok
      rw [hr] at h3
      refine ⟨?_, fun _ => ⟨rfl, h3⟩⟩
      rw [h2, h3, hk, ← hok]
      have : numW l = true := hok.symm
      unfold numW at this
      rw [Bool.and_eq_true] at this
      show (true && L1.numB 0 (P1.rdN l)) = true
      unfold L1.numB
      rw [this.2]
      rfl
  · have hn : numW l = false := by unfold numW; rw [rd_no_p hx]; rfl
    have hk : L1.rvKind l = 1 := by unfold L1.rvKind; rw [hx]; rfl
    rw [hn]
    refine ⟨?_, fun h => by cases h⟩
    cases hv : L1.rvOk l
    · rfl
    · obtain ⟨_, h2, _⟩ := L1.rv_yes hv
      rw [h2, hk]
      rfl

theorem name_of_num (l : List UInt8) : (numW l && L1.inB (P1.rdN l) 0 3) = nameW l := by
  unfold numW nameW
  cases P1.rdOk l
  · rfl
  · cases h : L1.inB (P1.rdN l) 0 3
    · simp
    · have h' := h
      unfold L1.inB at h' ⊢
      simp only [Bool.and_eq_true, decide_eq_true_eq] at h'
      simp
      omega

/-- Where the first word of the sum at i ends, with the number that belongs to it. -/
def headEnd (ws : List (List UInt8)) (i : Nat) : Option Nat :=
  match ws[i]? with
  | none => none
  | some x => if needs x < 0 then none else if bindW x then (match ws[i + 1]? with | none => none | some y => if nameW y then some (i + 2) else none) else some (i + 1)
def kids (ws : List (List UInt8)) (i : Nat) : Nat := (needs (ws.getD i [])).toNat

/-- k sums, one behind the other, from e on: where they begin, and where the last one ends. -/
def many (g : Nat → Option (List Nat × Nat)) : Nat → List Nat → Nat → Option (List Nat × Nat)
  | 0, acc, e => some (acc, e)
  | k + 1, acc, e => match g e with
    | none => none
    | some r => many g k (acc ++ r.1) r.2

/-- The sum at i: where it, and all in it, begin, and where it ends; f bounds how deep. -/
def st : Nat → List (List UInt8) → Nat → Option (List Nat × Nat)
  | 0, _, _ => none
  | f + 1, ws, i => match headEnd ws i with
    | none => none
    | some e => many (st f ws) (kids ws i) [i] e

theorem headEnd_bd {ws : List (List UInt8)} {i e : Nat} (h : headEnd ws i = some e) : i < e ∧ e ≤ ws.length := by
  unfold headEnd at h
  split at h
  · cases h
  · rename_i x hx
    have hi := (List.getElem?_eq_some_iff.1 hx).1
    split at h
    · cases h
    · split at h
      · split at h
        · cases h
        · rename_i y hy
          have hj := (List.getElem?_eq_some_iff.1 hy).1
          split at h
          · cases h; omega
          · cases h
      · cases h; omega

theorem many_bd {g : Nat → Option (List Nat × Nat)} {n : Nat} (hg : ∀ e r, g e = some r → e < r.2 ∧ r.2 ≤ n) : ∀ (k : Nat) (acc : List Nat) (e : Nat) r, e ≤ n → many g k acc e = some r → e ≤ r.2 ∧ r.2 ≤ n := by
  intro k
  induction k with
  | zero => intro acc e r he h; cases h; exact ⟨Nat.le_refl _, he⟩
  | succ k ih =>
    intro acc e r he h
    unfold many at h
    split at h
    · cases h
    · rename_i r1 h1
      obtain ⟨a, b⟩ := hg e r1 h1
      obtain ⟨c, d⟩ := ih _ _ _ b h
      exact ⟨by omega, d⟩

theorem st_bd (f : Nat) (ws : List (List UInt8)) : ∀ i r, st f ws i = some r → i < r.2 ∧ r.2 ≤ ws.length := by
  induction f with
  | zero => intro i r h; cases h
  | succ f ih =>
    intro i r h
    unfold st at h
    split at h
    · cases h
    · rename_i e he
      obtain ⟨a, b⟩ := headEnd_bd he
      obtain ⟨c, d⟩ := many_bd ih _ _ _ _ b h
      exact ⟨by omega, d⟩

theorem many_congr {g g' : Nat → Option (List Nat × Nat)} {n m : Nat} (hb : ∀ e r, g e = some r → e < r.2 ∧ r.2 ≤ n) (hg : ∀ e, m ≤ e → g e = g' e) : ∀ (k : Nat) (acc : List Nat) (e : Nat), m ≤ e → many g k acc e = many g' k acc e := by
  intro k
  induction k with
  | zero => intro acc e _; rfl
  | succ k ih =>
    intro acc e he
    unfold many
    rw [← hg e he]
    cases h : g e with
    | none => rfl
    | some r =>
      have := hb e r h
      exact ih _ _ (by omega)

/-- Deep enough is deep enough. -/
theorem st_more (f : Nat) (ws : List (List UInt8)) : ∀ i, ws.length ≤ i + f → st f ws i = st (f + 1) ws i := by
  induction f with
  | zero =>
    intro i hi
    have : headEnd ws i = none := by
      unfold headEnd
      rw [List.getElem?_eq_none (by omega)]
    unfold st
    rw [this]
  | succ f ih =>
    intro i hi
    rw [st, st]
    cases h : headEnd ws i with
    | none => rfl
    | some e =>
      obtain ⟨a, b⟩ := headEnd_bd h
      exact many_congr (st_bd f ws) (fun x hx => ih x (by omega)) _ _ _ (Nat.le_refl _)

theorem st_any (f f' : Nat) (ws : List (List UInt8)) (i : Nat) (h : ws.length ≤ i + f) (h' : ws.length ≤ i + f') : st f ws i = st f' ws i := by
  have key : ∀ k, st f ws i = st (f + k) ws i := by
    intro k
    induction k with
    | zero => rfl
    | succ k ih => rw [ih, st_more (f + k) ws i (by omega)]; rfl
  have key' : ∀ k, st f' ws i = st (f' + k) ws i := by
    intro k
    induction k with
    | zero => rfl
    | succ k ih => rw [ih, st_more (f' + k) ws i (by omega)]; rfl
  rw [key f', key' f, Nat.add_comm]

/-- The sum at i. -/
def E (ws : List (List UInt8)) (i : Nat) : Option (List Nat × Nat) := st ws.length ws i
theorem E_st (f : Nat) (ws : List (List UInt8)) (i : Nat) (h : ws.length ≤ i + f) : st f ws i = E ws i := st_any _ _ ws i h (by omega)
theorem E_bd {ws : List (List UInt8)} {i : Nat} {r : List Nat × Nat} (h : E ws i = some r) : i < r.2 ∧ r.2 ≤ ws.length := st_bd _ ws i r h
theorem E_eq (ws : List (List UInt8)) (i : Nat) : E ws i = match headEnd ws i with | none => none | some e => many (E ws) (kids ws i) [i] e := by
  unfold E
  rw [st_more _ ws i (by omega), st]

/-- Where k sums end, one behind the other, from e on. -/
def after (ws : List (List UInt8)) : Nat → Nat → Option Nat
  | 0, e => some e
  | k + 1, e => match E ws e with
    | none => none
    | some r => after ws k r.2
theorem after_step (ws : List (List UInt8)) (k e : Nat) : after ws (k + 1) e = match E ws e with | none => none | some r => after ws k r.2 := rfl
theorem many_after (ws : List (List UInt8)) : ∀ (k : Nat) (acc : List Nat) (e : Nat), (many (E ws) k acc e).map (·.2) = after ws k e := by
  intro k
  induction k with
  | zero => intro acc e; rfl
  | succ k ih =>
    intro acc e
    unfold many after
    cases h : E ws e with
    | none => rfl
    | some r => exact ih _ _
theorem after_add (ws : List (List UInt8)) (b : Nat) : ∀ (a e : Nat), after ws (a + b) e = match after ws a e with | none => none | some e' => after ws b e' := by
  intro a
  induction a with
  | zero => intro e; rw [Nat.zero_add]; rfl
  | succ a ih =>
    intro e
    rw [show a + 1 + b = a + b + 1 from by omega, after_step, after_step]
    cases h : E ws e with
    | none => rfl
    | some r => exact ih _
/-- A sum less is missing, and those that its first word has are missing more. -/
theorem after_succ (ws : List (List UInt8)) (m e : Nat) : after ws (m + 1) e = match headEnd ws e with | none => none | some e' => after ws (kids ws e + m) e' := by
  rw [after_step, E_eq]
  cases h : headEnd ws e with
  | none => rfl
  | some e' =>
    have := many_after ws (kids ws e) [e] e'
    simp only
    rw [after_add]
    show (match many (E ws) (kids ws e) [e] e' with | none => none | some r => after ws m r.2) = match after ws (kids ws e) e' with | none => none | some e' => after ws m e'
    rw [← this]
    cases many (E ws) (kids ws e) [e] e' <;> rfl
theorem after_one (ws : List (List UInt8)) (e : Nat) : after ws 1 e = (E ws e).map (·.2) := by
  rw [after_step]
  cases E ws e <;> rfl
theorem after_bd {ws : List (List UInt8)} : ∀ (k e x : Nat), e ≤ ws.length → after ws k e = some x → e ≤ x ∧ x ≤ ws.length := by
  intro k
  induction k with
  | zero => intro e x he h; cases h; exact ⟨Nat.le_refl _, he⟩
  | succ k ih =>
    intro e x he h
    unfold after at h
    split at h
    · cases h
    · rename_i r hr
      have := E_bd hr
      have := ih _ _ this.2 h
      omega

/-- WHERE A SUM, AND ALL IN IT, BEGIN: at each word, but at a number that belongs to the word ahead. -/
def covers (ws : List (List UInt8)) (i : Nat) (r : List Nat × Nat) : Prop :=
  (∀ j, j ∈ r.1 ↔ i ≤ j ∧ j < r.2 ∧ (j = i ∨ bindW (ws.getD (j - 1) []) = false)) ∧ i < r.2 ∧ bindW (ws.getD (r.2 - 1) []) = false
theorem head_covers {ws : List (List UInt8)} {i e : Nat} (h : headEnd ws i = some e) : covers ws i ([i], e) := by
  unfold headEnd at h
  split at h
  · cases h
  · rename_i x hx
    have hxi : ws.getD i [] = x := by simp [List.getD, hx]
    split at h
    · cases h
    · split at h
      · rename_i hb
        split at h
        · cases h
        · rename_i y hy
          split at h
          · rename_i hn
            cases h
            have hyi : ws.getD (i + 1) [] = y := by simp [List.getD, hy]
            refine ⟨fun j => ?_, by simp, ?_⟩
            · simp only [List.mem_singleton]
              constructor
              · rintro rfl; exact ⟨Nat.le_refl _, by omega, Or.inl rfl⟩
              · rintro ⟨h1, h2, h3⟩
                rcases h3 with h3 | h3
                · exact h3
                · by_cases hj : j = i
                  · exact hj
                  · have : j - 1 = i := by omega
                    rw [this, hxi, hb] at h3
                    cases h3
            · show bindW (ws.getD (i + 2 - 1) []) = false
              rw [show i + 2 - 1 = i + 1 from by omega, hyi]
              exact name_no_bind hn
          · cases h
      · rename_i hb
        cases h
        refine ⟨fun j => ?_, by simp, ?_⟩
        · simp only [List.mem_singleton]
          constructor
          · rintro rfl; exact ⟨Nat.le_refl _, by omega, Or.inl rfl⟩
          · rintro ⟨h1, h2, h3⟩; omega
        · show bindW (ws.getD (i + 1 - 1) []) = false
          rw [Nat.add_sub_cancel, hxi]
          simpa using hb
theorem many_covers {ws : List (List UInt8)} {g : Nat → Option (List Nat × Nat)} (hg : ∀ e r, g e = some r → covers ws e r) (i : Nat) : ∀ (k : Nat) (acc : List Nat) (e : Nat) r, covers ws i (acc, e) → many g k acc e = some r → covers ws i r := by
  intro k
  induction k with
  | zero => intro acc e r hc h; cases h; exact hc
  | succ k ih =>
    intro acc e r hc h
    unfold many at h
    split at h
    · cases h
    · rename_i r1 h1
      obtain ⟨a, b, c⟩ := hg e r1 h1
      obtain ⟨a', b', c'⟩ := hc
      simp only at a' b' c'
      refine ih (acc ++ r1.1) r1.2 r ⟨fun j => ?_, by simp only; omega, c⟩ h
      simp only [List.mem_append]
      rw [a', a]
      constructor
      · rintro (⟨h1, h2, h3⟩ | ⟨h1, h2, h3⟩)
        · exact ⟨h1, by omega, h3⟩
        · refine ⟨by omega, h2, ?_⟩
          rcases h3 with rfl | h3
          · exact Or.inr c'
          · exact Or.inr h3
      · rintro ⟨h1, h2, h3⟩
        by_cases hj : j < e
        · exact Or.inl ⟨h1, hj, h3⟩
        · refine Or.inr ⟨by omega, h2, ?_⟩
          rcases h3 with h3 | h3
          · omega
          · exact Or.inr h3
theorem st_covers (f : Nat) (ws : List (List UInt8)) : ∀ i r, st f ws i = some r → covers ws i r := by
  induction f with
  | zero => intro i r h; cases h
  | succ f ih =>
    intro i r h
    unfold st at h
    split at h
    · cases h
    · rename_i e he
      exact many_covers ih i _ _ _ _ (head_covers he) h

/-- A list that goes on from place a. -/
theorem headEnd_drop (ws : List (List UInt8)) (a i : Nat) : headEnd (ws.drop a) i = (headEnd ws (a + i)).map (· - a) := by
  unfold headEnd
  rw [List.getElem?_drop, List.getElem?_drop, ← Nat.add_assoc]
  cases ws[a + i]? with
  | none => rfl
  | some x =>
    simp only
    split
    · rfl
    · split
      · cases ws[a + i + 1]? with
        | none => rfl
        | some y =>
          simp only
          split
          · simp; omega
          · rfl
      · simp; omega
theorem kids_drop (ws : List (List UInt8)) (a i : Nat) : kids (ws.drop a) i = kids ws (a + i) := by
  unfold kids
  simp [List.getD, List.getElem?_drop]
theorem kids_le (ws : List (List UInt8)) (i : Nat) : kids ws i ≤ 3 := by
  unfold kids
  have := needs_bd (ws.getD i [])
  omega
theorem after_drop (ws : List (List UInt8)) (a : Nat) : ∀ (n k e : Nat), 4 * (ws.length - e) + k ≤ n → a ≤ e → e ≤ ws.length → after (ws.drop a) k (e - a) = (after ws k e).map (· - a) := by
  intro n
  induction n with
  | zero =>
    intro k e hn h1 h2
    have : k = 0 := by omega
    subst this
    rfl
  | succ n ih =>
    intro k e hn h1 h2
    cases k with
    | zero => rfl
    | succ m =>
      rw [after_succ, after_succ, headEnd_drop, kids_drop]
      rw [show a + (e - a) = e from by omega]
      cases h : headEnd ws e with
      | none => rfl
      | some e' =>
        obtain ⟨p, q⟩ := headEnd_bd h
        have hk := kids_le ws e
        exact ih (kids ws e + m) e' (by omega) (by omega) q

/-- Is it a sum, all of it, and not too long? -/
def okSum (ws : List (List UInt8)) : Bool := decide (ws.length ≤ 60) && decide (after ws 1 0 = some ws.length)
/-- Where the program finds that the sum at i ends. -/
def endP (ws : List (List UInt8)) (i : Nat) : Option Nat := (after ((ws.drop i).take 60) 1 0).map (i + ·)
theorem endP_short {ws : List (List UInt8)} {i : Nat} (h : ws.length ≤ 60) (hi : i ≤ ws.length) : endP ws i = after ws 1 i := by
  unfold endP
  rw [List.take_of_length_le (by simp; omega)]
  have := after_drop ws i _ 1 i (Nat.le_refl _) (Nat.le_refl _) hi
  rw [Nat.sub_self] at this
  rw [this]
  cases ha : after ws 1 i with
  | none => rfl
  | some x =>
    have := after_bd 1 i x hi ha
    simp
    omega
theorem endP_all (ws : List (List UInt8)) : decide (endP ws 0 = some ws.length) = okSum ws := by
  unfold okSum
  by_cases h : ws.length ≤ 60
  · rw [endP_short h (Nat.zero_le _)]
    simp [h]
  · have : decide (ws.length ≤ 60) = false := by simpa using h
    rw [this]
    simp only [Bool.false_and, decide_eq_false_iff_not]
    unfold endP
    cases ha : after ((ws.drop 0).take 60) 1 0 with
    | none => simp
    | some x =>
      have := after_bd 1 0 x (Nat.zero_le _) ha
      simp at this
      simp
      omega

/-- Where k sums begin, one behind the other, from e on. -/
def row (ws : List (List UInt8)) : Nat → Nat → List Nat
  | 0, _ => []
  | k + 1, e => e :: row ws k ((after ws 1 e).getD 0)
theorem row_len (ws : List (List UInt8)) : ∀ (k e : Nat), (row ws k e).length = k := by
  intro k
  induction k with
  | zero => intro e; rfl
  | succ k ih => intro e; simp [row, ih]
theorem row_snoc (ws : List (List UInt8)) : ∀ (k e x : Nat), after ws k e = some x → row ws (k + 1) e = row ws k e ++ [x] := by
  intro k
  induction k with
  | zero => intro e x h; cases h; rfl
  | succ k ih =>
    intro e x h
    have h1 : after ws (k + 1) e = match after ws 1 e with | none => none | some e' => after ws k e' := by
      rw [Nat.add_comm, after_add]
    rw [h1] at h
    cases h2 : after ws 1 e with
    | none => rw [h2] at h; cases h
    | some y =>
      rw [h2] at h
      have := ih y x h
      rw [row, h2, Option.getD_some, this, row, h2, Option.getD_some]
      rfl
theorem after_snoc (ws : List (List UInt8)) (k e x : Nat) (h : after ws k e = some x) : after ws (k + 1) e = after ws 1 x := by
  rw [after_add, h]
/-- What is left of them ends where all end: so each ends. -/
theorem after_part {ws : List (List UInt8)} {a b e x : Nat} (h : after ws (a + b) e = some x) : ∃ y, after ws a e = some y ∧ after ws b y = some x := by
  rw [after_add] at h
  cases h2 : after ws a e with
  | none => rw [h2] at h; cases h
  | some y => rw [h2] at h; exact ⟨y, rfl, h⟩

/-- The parts of a sum: as many as its first word needs, behind it. -/
def partsAt (ws : List (List UInt8)) : Nat := if bindW (ws.getD 0 []) then 2 else 1
def parts (ws : List (List UInt8)) : List Nat := if okSum ws then row ws (kids ws 0) (partsAt ws) else []
theorem ok_head {ws : List (List UInt8)} (h : okSum ws = true) : ws.length ≤ 60 ∧ 0 < ws.length ∧ after ws 1 0 = some ws.length ∧ headEnd ws 0 = some (partsAt ws) ∧ after ws (kids ws 0) (partsAt ws) = some ws.length := by
  unfold okSum at h
  simp only [Bool.and_eq_true, decide_eq_true_eq] at h
  obtain ⟨h1, h2⟩ := h
  have h3 := h2
  rw [after_succ] at h3
  cases hh : headEnd ws 0 with
  | none => rw [hh] at h3; cases h3
  | some e =>
    rw [hh] at h3
    have hb := headEnd_bd hh
    have he : e = partsAt ws := by
      unfold partsAt
      have h4 := hh
      unfold headEnd at h4
      split at h4
      · cases h4
      · rename_i x hx
        have hxi : ws.getD 0 [] = x := by simp [List.getD, hx]
        rw [hxi]
        split at h4
        · cases h4
        · split at h4
          · rename_i hbw
            rw [hbw]
            split at h4
            · cases h4
            · split at h4
              · cases h4; rfl
              · cases h4
          · rename_i hb
            have h5 : 0 + 1 = e := by simpa using h4
            rw [if_neg hb]
            omega
    subst he
    exact ⟨h1, by omega, h2, rfl, h3⟩
/-- Does the sum, or one in it, begin at j? -/
def startsAt (ws : List (List UInt8)) (j : Nat) : Bool := okSum ws && decide (j < ws.length) && (decide (j = 0) || !bindW (ws.getD (j - 1) []))
theorem startsAt_mem {ws : List (List UInt8)} (h : okSum ws = true) : ∃ m, E ws 0 = some (m, ws.length) ∧ ∀ j, j ∈ m ↔ startsAt ws j = true := by
  obtain ⟨h1, h0, h2, _⟩ := ok_head h
  rw [after_one] at h2
  cases hE : E ws 0 with
  | none => rw [hE] at h2; cases h2
  | some r =>
    rw [hE] at h2
    have hr : r.2 = ws.length := by simpa using h2
    have hc := (st_covers _ _ _ _ hE).1
    refine ⟨r.1, by rw [← hr], fun j => ?_⟩
    rw [hc j, hr]
    unfold startsAt
    rw [h]
    simp only [Bool.true_and, Bool.and_eq_true, decide_eq_true_eq, Bool.or_eq_true, Bool.not_eq_true']
    constructor
    · rintro ⟨_, b, c⟩; exact ⟨b, c⟩
    · rintro ⟨b, c⟩; exact ⟨Nat.zero_le _, b, c⟩

end Go.Proofs.YthlpjpoekfhnfaaDoor.S1

/-
  The words of a sum, told apart by a number each: nothing of the program stands here.
-/
namespace Go.Proofs.YthlpjpoekfhnfaaDoor.S1
open Go.Lib

/-- Which word it is: arg 0, ask 1, say 2, throw 3, mark 4, cut 5, add 6, below 7, both 8, keep 9, bind 10, try 11, go 12, if 13; 14: none of them. -/
def code (l : List UInt8) : Nat := if l == [97, 114, 103] then 0 else if l == [97, 115, 107] then 1 else if l == [115, 97, 121] then 2 else if l == [116, 104, 114, 111, 119] then 3 else if l == [109, 97, 114, 107] then 4 else if l == [99, 117, 116] then 5 else if l == [97, 100, 100] then 6 else if l == [98, 101, 108, 111, 119] then 7 else if l == [98, 111, 116, 104] then 8 else if l == [107, 101, 101, 112] then 9 else if l == [98, 105, 110, 100] then 10 else if l == [116, 114, 121] then 11 else if l == [103, 111] then 12 else if l == [105, 102] then 13 else 14
theorem ite_le {p : Prop} [Decidable p] {a b n : Nat} (ha : a ≤ n) (hb : b ≤ n) : (if p then a else b) ≤ n := by
  by_cases h : p
  · rw [if_pos h]; exact ha
  · rw [if_neg h]; exact hb
theorem code_le (l : List UInt8) : code l ≤ 14 := by
  unfold code
  repeat (refine ite_le (by omega) ?_)
  exact Nat.le_refl _
set_option maxHeartbeats 2000000 in
theorem tests (l : List UInt8) : (l == [97, 114, 103]) = decide (code l = 0) ∧ (l == [97, 115, 107]) = decide (code l = 1) ∧ (l == [115, 97, 121]) = decide (code l = 2) ∧ (l == [116, 104, 114, 111, 119]) = decide (code l = 3) ∧ (l == [109, 97, 114, 107]) = decide (code l = 4) ∧ (l == [99, 117, 116]) = decide (code l = 5) ∧ (l == [97, 100, 100]) = decide (code l = 6) ∧ (l == [98, 101, 108, 111, 119]) = decide (code l = 7) ∧ (l == [98, 111, 116, 104]) = decide (code l = 8) ∧ (l == [107, 101, 101, 112]) = decide (code l = 9) ∧ (l == [98, 105, 110, 100]) = decide (code l = 10) ∧ (l == [116, 114, 121]) = decide (code l = 11) ∧ (l == [103, 111]) = decide (code l = 12) ∧ (l == [105, 102]) = decide (code l = 13) := by
  by_cases h0 : l = [97, 114, 103]
  · subst h0; decide +kernel
  by_cases h1 : l = [97, 115, 107]
  · subst h1; decide +kernel
  by_cases h2 : l = [115, 97, 121]
  · subst h2; decide +kernel
  by_cases h3 : l = [116, 104, 114, 111, 119]
  · subst h3; decide +kernel
  by_cases h4 : l = [109, 97, 114, 107]
  · subst h4; decide +kernel
  by_cases h5 : l = [99, 117, 116]
  · subst h5; decide +kernel
  by_cases h6 : l = [97, 100, 100]
  · subst h6; decide +kernel
  by_cases h7 : l = [98, 101, 108, 111, 119]
  · subst h7; decide +kernel
  by_cases h8 : l = [98, 111, 116, 104]
  · subst h8; decide +kernel
  by_cases h9 : l = [107, 101, 101, 112]
  · subst h9; decide +kernel
  by_cases h10 : l = [98, 105, 110, 100]
  · subst h10; decide +kernel
  by_cases h11 : l = [116, 114, 121]
  · subst h11; decide +kernel
  by_cases h12 : l = [103, 111]
  · subst h12; decide +kernel
  by_cases h13 : l = [105, 102]
  · subst h13; decide +kernel
  have hc : code l = 14 := by
    unfold code
    simp [h0, h1, h2, h3, h4, h5, h6, h7, h8, h9, h10, h11, h12, h13]
  rw [hc]
  simp [h0, h1, h2, h3, h4, h5, h6, h7, h8, h9, h10, h11, h12, h13]
def needsTab (c : Nat) (num : Bool) : Int := if c ≤ 1 then 0 else if c ≤ 5 then 1 else if c ≤ 12 then 2 else if c ≤ 13 then 3 else if num then 0 else -1
theorem needs_code (l : List UInt8) : needs l = needsTab (code l) (numW l) := by
  obtain ⟨t0, t1, t2, t3, t4, t5, t6, t7, t8, t9, t10, t11, t12, t13⟩ := tests l
  have hle := code_le l
  unfold needs is0 is1 is2 is3 needsTab
  rw [t0, t1, t2, t3, t4, t5, t6, t7, t8, t9, t10, t11, t12, t13]
  generalize code l = c at hle
  clear t0 t1 t2 t3 t4 t5 t6 t7 t8 t9 t10 t11 t12 t13
  have h : c = 0 ∨ c = 1 ∨ c = 2 ∨ c = 3 ∨ c = 4 ∨ c = 5 ∨ c = 6 ∨ c = 7 ∨ c = 8 ∨ c = 9 ∨ c = 10 ∨ c = 11 ∨ c = 12 ∨ c = 13 ∨ c = 14 := by omega
  rcases h with rfl | rfl | rfl | rfl | rfl | rfl | rfl | rfl | rfl | rfl | rfl | rfl | rfl | rfl | rfl
  all_goals rfl
theorem bind_code (l : List UInt8) : bindW l = (decide (code l = 10) || decide (code l = 1)) := by
  obtain ⟨t0, t1, t2, t3, t4, t5, t6, t7, t8, t9, t10, t11, t12, t13⟩ := tests l
  unfold bindW
  rw [t10, t1]
theorem piece_code (l : List UInt8) : pieceW l = ((decide (code l = 4) || decide (code l = 5)) || decide (code l = 12)) := by
  obtain ⟨t0, t1, t2, t3, t4, t5, t6, t7, t8, t9, t10, t11, t12, t13⟩ := tests l
  unfold pieceW
  rw [t4, t5, t12]

end Go.Proofs.YthlpjpoekfhnfaaDoor.S1

/-
  Chapter 2's words: what the model and the program say of one word, each by a contract.
-/
namespace Go.Proofs.YthlpjpoekfhnfaaDoor
open Go.RowKit
namespace L2
open S1 L1

theorem num_no {l : List UInt8} (h : P1.rdOk l = false) : numW l = false := by unfold numW; rw [h]; rfl
theorem num_yes {l : List UInt8} (h : P1.rdOk l = true) : numW l = inB (P1.rdN l) (-1000000) 1000000 := by unfold numW; rw [h]; rfl
theorem name_no {l : List UInt8} (h : P1.rdOk l = false) : nameW l = false := by unfold nameW; rw [h]; rfl
theorem name_yes {l : List UInt8} (h : P1.rdOk l = true) : nameW l = inB (P1.rdN l) 0 3 := by unfold nameW; rw [h]; rfl

theorem read_word (b : ByteArray) (hs : b.size ≤ maxLen) (w : World) :
    Calls Tryd.prog 56 #[.string b] w fun e w' => e = .returned (.tuple #[.int .i64 (P1.rdN b.toList), .bool (P1.rdOk b.toList)]) ∧ w = w' := by
  rw [Lib.toList_data]
  exact l1Read_any b hs w

theorem l2Number_any (b : ByteArray) (hs : b.size ≤ maxLen) (w : World) :
    Calls Tryd.prog 42 #[.string b] w fun e w' => e = .returned (.bool (numW b.toList)) ∧ w = w' := by
  have hc := read_word b hs
  cases ho : P1.rdOk b.toList
  · rw [num_no ho]
    rw [ho] at hc
    generalize P1.rdN b.toList = n at hc
    have Hc := Lib.hid hc
    clear hc ho
    go_enter Tryd.func42, Tryd.ntmps42
    go_wp2_with (go_at_call 56; refine (Hc.out _).mono ?_; rintro e w1 ⟨rfl, rfl⟩)
    go_ret
    exact ⟨rfl, rfl⟩
  · rw [num_yes ho]
    rw [ho] at hc
    generalize P1.rdN b.toList = n at hc ⊢
    have Hc := Lib.hid hc
    clear hc ho
    go_enter Tryd.func42, Tryd.ntmps42
    go_wp2_with (first | (go_at_call 56; refine (Hc.out _).mono ?_; rintro e w1 ⟨rfl, rfl⟩) | (go_at_call 57; refine (l1In_any _ _ _ _).mono ?_; rintro e w1 ⟨rfl, rfl⟩))
    go_ret
    exact ⟨rfl, rfl⟩

theorem l2Name_any (b : ByteArray) (hs : b.size ≤ maxLen) (w : World) :
    Calls Tryd.prog 59 #[.string b] w fun e w' => e = .returned (.bool (nameW b.toList)) ∧ w = w' := by
  have hc := read_word b hs
  cases ho : P1.rdOk b.toList
  · rw [name_no ho]
    rw [ho] at hc
    generalize P1.rdN b.toList = n at hc
    have Hc := Lib.hid hc
    clear hc ho
    go_enter Tryd.func59, Tryd.ntmps59
    go_wp2_with (go_at_call 56; refine (Hc.out _).mono ?_; rintro e w1 ⟨rfl, rfl⟩)
    go_ret
    exact ⟨rfl, rfl⟩
  · rw [name_yes ho]
    rw [ho] at hc
    generalize P1.rdN b.toList = n at hc ⊢
    have Hc := Lib.hid hc
    clear hc ho
    go_enter Tryd.func59, Tryd.ntmps59
    go_wp2_with (first | (go_at_call 56; refine (Hc.out _).mono ?_; rintro e w1 ⟨rfl, rfl⟩) | (go_at_call 57; refine (l1In_any _ _ _ _).mono ?_; rintro e w1 ⟨rfl, rfl⟩))
    go_ret
    exact ⟨rfl, rfl⟩

theorem isOfBound_any (b : ByteArray) (w : World) :
    Calls Tryd.prog 35 #[.string b] w fun e w' => e = .returned (.bool (bindW b.toList)) ∧ w = w' := by
  cases h1 : (b.toList == [98, 105, 110, 100]) <;> cases h2 : (b.toList == [97, 115, 107])
  all_goals
    have hv : Hid (bindW b.toList = ((b.toList == [98, 105, 110, 100]) || (b.toList == [97, 115, 107]))) := by exact rfl
    go_enter Tryd.func35, Tryd.ntmps35
    go_wp2
    go_ret
    exact ⟨by rw [hv.out, h1, h2]; rfl, rfl⟩

theorem isOfPieces_any (b : ByteArray) (w : World) :
    Calls Tryd.prog 45 #[.string b] w fun e w' => e = .returned (.bool (pieceW b.toList)) ∧ w = w' := by
  cases h1 : (b.toList == [109, 97, 114, 107]) <;> cases h2 : (b.toList == [99, 117, 116]) <;> cases h3 : (b.toList == [103, 111])
  all_goals
    have hv : Hid (pieceW b.toList = ((b.toList == [109, 97, 114, 107]) || (b.toList == [99, 117, 116]) || (b.toList == [103, 111]))) := by exact rfl
    go_enter Tryd.func45, Tryd.ntmps45
    go_wp2
    go_ret
    exact ⟨by rw [hv.out, h1, h2, h3]; rfl, rfl⟩

theorem needs_of {l : List UInt8} {c : Nat} (h : code l = c) : needs l = needsTab c (numW l) := by rw [needs_code, h]
theorem tests_of {l : List UInt8} {c : Nat} (h : code l = c) : (l == [97, 114, 103]) = decide (c = 0) ∧ (l == [97, 115, 107]) = decide (c = 1) ∧ (l == [115, 97, 121]) = decide (c = 2) ∧ (l == [116, 104, 114, 111, 119]) = decide (c = 3) ∧ (l == [109, 97, 114, 107]) = decide (c = 4) ∧ (l == [99, 117, 116]) = decide (c = 5) ∧ (l == [97, 100, 100]) = decide (c = 6) ∧ (l == [98, 101, 108, 111, 119]) = decide (c = 7) ∧ (l == [98, 111, 116, 104]) = decide (c = 8) ∧ (l == [107, 101, 101, 112]) = decide (c = 9) ∧ (l == [98, 105, 110, 100]) = decide (c = 10) ∧ (l == [116, 114, 121]) = decide (c = 11) ∧ (l == [103, 111]) = decide (c = 12) ∧ (l == [105, 102]) = decide (c = 13) := by
  rw [← h]; exact tests l

set_option maxRecDepth 100000 in
set_option maxHeartbeats 8000000 in
theorem specNeeds_any (b : ByteArray) (hs : b.size ≤ maxLen) (w : World) :
    Calls Tryd.prog 17 #[.string b] w fun e w' => e = .returned (.int .i64 (needs b.toList)) ∧ w = w' := by
  have hnum := l2Number_any b hs
  obtain ⟨c, hc⟩ : ∃ c, code b.toList = c := ⟨_, rfl⟩
  have hle := code_le b.toList
  have hv := needs_of hc
  have ht := tests_of hc
  rw [hc] at hle
  rw [hv]
  clear hv hc
  generalize numW b.toList = num at hnum ⊢
  have Hc := Lib.hid hnum
  clear hnum
  have h : c = 0 ∨ c = 1 ∨ c = 2 ∨ c = 3 ∨ c = 4 ∨ c = 5 ∨ c = 6 ∨ c = 7 ∨ c = 8 ∨ c = 9 ∨ c = 10 ∨ c = 11 ∨ c = 12 ∨ c = 13 ∨ c = 14 := by omega
  clear hle
  rcases h with rfl | rfl | rfl | rfl | rfl | rfl | rfl | rfl | rfl | rfl | rfl | rfl | rfl | rfl | rfl
  all_goals
    obtain ⟨t0, t1, t2, t3, t4, t5, t6, t7, t8, t9, t10, t11, t12, t13⟩ := ht
    simp only [Nat.reduceEqDiff, decide_true, decide_false] at t0 t1 t2 t3 t4 t5 t6 t7 t8 t9 t10 t11 t12 t13
    cases num
    all_goals
      go_enter Tryd.func17, Tryd.ntmps17
      go_wp2_with (go_at_call 42; refine (Hc.out _).mono ?_; rintro e w1 ⟨rfl, rfl⟩)
      go_ret
      exact ⟨rfl, rfl⟩

end L2
end Go.Proofs.YthlpjpoekfhnfaaDoor

/-
  Chapter 2's words: the program's own functions, and the laws on them.
-/
namespace Go.Proofs.YthlpjpoekfhnfaaDoor
open Go.RowKit
namespace L2
open S1 L1

/-- What the program finds: a number of a sum, and whether it is one. -/
def nIn (l : List UInt8) : Int := if numW l then P1.rdN l else 0

set_option maxRecDepth 100000 in
set_option maxHeartbeats 4000000 in
theorem numberIn_any (b : ByteArray) (hs : b.size ≤ 140737488351232) (w : World) (hV : Vars w) :
    Calls Tryd.prog 52 #[.string b] w fun e w' => e = .returned (.tuple #[.int .i64 (nIn b.toList), .bool (numW b.toList)]) ∧ Below w.heap.size w w' := by
  have hc : ∀ w, Vars w → Calls Tryd.prog 64 #[.string b] w fun e w' => e = .returned (.tuple #[.agg #[.int .i64 (rvK b.toList), .int .i64 (rvN b.toList)], .bool (rvOk b.toList)]) ∧ Below w.heap.size w w' := fun w hV => by
    rw [Lib.toList_data]
    exact implRead_any b hs w hV
  have hn := num_of_rv b.toList
  have hi : nIn b.toList = if numW b.toList then rvN b.toList else 0 := by
    unfold nIn
    cases h : numW b.toList
    · rfl
    · rw [(hn.2 h).2]
  rw [hi, ← hn.1]
  clear hi hn
  generalize rvK b.toList = k at hc ⊢
  generalize rvN b.toList = n at hc ⊢
  cases ho : rvOk b.toList
  · rw [ho] at hc
    have Hc := Lib.hid hc
    have HV := Lib.hid hV
    clear hc hV ho
    go_enter Tryd.func52, Tryd.ntmps52
    go_wp2_with fail
    refine (Hc.out _ HV.out).mono ?_
    rintro e w1 ⟨rfl, hb1⟩
    have hs1 := hb1.size
    obtain ⟨hc1, hf1⟩ := bcell hb1
    go_wp2_with fail
    go_ret2
    refine ⟨rfl, ?_⟩
    clear hc1 hf1
    (repeat (first | exact Below.refl _ _ | refine Below.drew ?_ | refine Below.alloc ?_ ?_ _ | refine Below.setCell ?_ ?_ _ | refine Below.trans ?_ (Below.mono (by assumption) ?_))) <;> (first | omega | (simp at *; done) | (simp at *; omega))
  · rw [ho] at hc
    have Hc := Lib.hid hc
    have HV := Lib.hid hV
    clear hc hV ho
    cases hm : numB k n
    all_goals
      go_enter Tryd.func52, Tryd.ntmps52
      go_wp2_with fail
      refine (Hc.out _ HV.out).mono ?_
      rintro e w1 ⟨rfl, hb1⟩
      have hs1 := hb1.size
      obtain ⟨hc1, hf1⟩ := bcell hb1
      go_wp2_with (go_at_call 65; refine (isNumber_any _ _ _).mono ?_; rintro e w2 ⟨rfl, hb2⟩; rw [hm]; have hs2 := hb2.size; obtain ⟨hc2, hf2⟩ := bcell hb2; have c0 := hc2 w.heap.size 0 (by simp; omega); have c1 := hc2 w.heap.size 1 (by simp; omega))
      go_ret2
      refine ⟨rfl, ?_⟩
      clear hc1 hf1 hc2 hf2 c0 c1
      (repeat (first | exact Below.refl _ _ | refine Below.drew ?_ | refine Below.alloc ?_ ?_ _ | refine Below.setCell ?_ ?_ _ | refine Below.trans ?_ (Below.mono (by assumption) ?_))) <;> (first | omega | (simp at *; done) | (simp at *; omega))

theorem name_in (l : List UInt8) : (numW l && (decide (0 ≤ nIn l) && decide (nIn l ≤ 3))) = nameW l := by
  rw [← name_of_num]
  unfold nIn
  cases numW l
  · rfl
  · rfl

set_option maxHeartbeats 1000000 in
theorem isBoundNumber_any (b : ByteArray) (hs : b.size ≤ 140737488351232) (w : World) (hV : Vars w) :
    Calls Tryd.prog 55 #[.string b] w fun e w' => e = .returned (.bool (nameW b.toList)) ∧ Below w.heap.size w w' := by
  have hc := numberIn_any b hs
  rw [← name_in]
  generalize nIn b.toList = n at hc ⊢
  cases ho : numW b.toList
  · rw [ho] at hc
    have Hc := Lib.hid hc
    have HV := Lib.hid hV
    clear hc hV ho
    go_enter Tryd.func55, Tryd.ntmps55
    go_wp2_with fail
    refine (Hc.out _ HV.out).mono ?_
    rintro e w1 ⟨rfl, hb1⟩
    go_wp2_with fail
    go_ret
    exact ⟨rfl, hb1⟩
  · rw [ho] at hc
    have Hc := Lib.hid hc
    have HV := Lib.hid hV
    clear hc hV ho
    by_cases h0 : 0 ≤ n <;> by_cases h3 : n ≤ 3
    all_goals try (exfalso; omega)
    all_goals
      go_enter Tryd.func55, Tryd.ntmps55
      go_wp2_with fail
      refine (Hc.out _ HV.out).mono ?_
      rintro e w1 ⟨rfl, hb1⟩
      go_wp2_with fail
      go_ret
      exact ⟨by simp [h0, h3], hb1⟩

set_option maxRecDepth 100000 in
set_option maxHeartbeats 8000000 in
theorem implNeeds_any (b : ByteArray) (hs : b.size ≤ 140737488351232) (w : World) (hV : Vars w) :
    Calls Tryd.prog 36 #[.string b] w fun e w' => e = .returned (.int .i64 (needs b.toList)) ∧ Below w.heap.size w w' := by
  have hnum := numberIn_any b hs w hV
  obtain ⟨c, hc⟩ : ∃ c, code b.toList = c := ⟨_, rfl⟩
  have hle := code_le b.toList
  have hv := needs_of hc
  have ht := tests_of hc
  rw [hc] at hle
  rw [hv]
  clear hv hc hV
  generalize numW b.toList = num at hnum ⊢
  generalize nIn b.toList = k at hnum
  have h : c = 0 ∨ c = 1 ∨ c = 2 ∨ c = 3 ∨ c = 4 ∨ c = 5 ∨ c = 6 ∨ c = 7 ∨ c = 8 ∨ c = 9 ∨ c = 10 ∨ c = 11 ∨ c = 12 ∨ c = 13 ∨ c = 14 := by omega
  clear hle
  rcases h with rfl | rfl | rfl | rfl | rfl | rfl | rfl | rfl | rfl | rfl | rfl | rfl | rfl | rfl | rfl
  all_goals
    obtain ⟨t0, t1, t2, t3, t4, t5, t6, t7, t8, t9, t10, t11, t12, t13⟩ := ht
    simp only [Nat.reduceEqDiff, decide_true, decide_false] at t0 t1 t2 t3 t4 t5 t6 t7 t8 t9 t10 t11 t12 t13
    cases num
    all_goals
      have Hc := Lib.hid hnum
      clear hnum
      go_enter Tryd.func36, Tryd.ntmps36
      go_wp2_with (go_at_call 52; refine (Hc.out).mono ?_; rintro e w1 ⟨rfl, hb1⟩)
      go_ret
      first
        | exact ⟨rfl, hb1⟩
        | exact ⟨rfl, Below.refl _ _⟩

theorem wordOk_bd (l : List UInt8) : decide (0 ≤ needs l) = !decide (needs l < 0) := by
  by_cases h : needs l < 0
  · have : ¬ 0 ≤ needs l := by omega
    simp [h]
  · have : 0 ≤ needs l := by omega
    simp [h, this]

def okW (l : List UInt8) : Bool := decide (0 ≤ needs l)

theorem implWordOk_any (b : ByteArray) (hs : b.size ≤ 140737488351232) (w : World) (hV : Vars w) :
    Calls Tryd.prog 54 #[.string b] w fun e w' => e = .returned (.bool (okW b.toList)) ∧ Below w.heap.size w w' := by
  have Hc := Lib.hid (implNeeds_any b hs w hV)
  clear hV
  go_enter Tryd.func54, Tryd.ntmps54
  go_wp2_with (go_at_call 36; refine (Hc.out).mono ?_; rintro e w1 ⟨rfl, hb1⟩)
  go_ret
  exact ⟨rfl, hb1⟩

end L2
end Go.Proofs.YthlpjpoekfhnfaaDoor
