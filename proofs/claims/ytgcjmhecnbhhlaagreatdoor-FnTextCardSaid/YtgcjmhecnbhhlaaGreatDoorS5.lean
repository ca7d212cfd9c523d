/-
  Texts parted at blanks and laid together again; sums that stand in a sum: nothing of the program stands here.
-/
import Derived.Test.YtgcjmhecnbhhlaaGreatDoorS4
import Derived.Lib.Join
namespace Go.Proofs.YtgcjmhecnbhhlaaGreatDoor.L2
open S1 L1

/-- The words of a text, parted at blanks. -/
def cutW : List UInt8 → List (List UInt8)
  | [] => [[]]
  | c :: r => if c = 32 then [] :: cutW r else match cutW r with
    | [] => [[c]]
    | h :: t => (c :: h) :: t
theorem cutW_cons (l : List UInt8) : ∃ h t, cutW l = h :: t := by
  cases l with
  | nil => exact ⟨_, _, rfl⟩
  | cons c r =>
    rw [cutW]
    split
    · exact ⟨_, _, rfl⟩
    · split
      · exact ⟨_, _, rfl⟩
      · exact ⟨_, _, rfl⟩
/-- Signs laid ahead of the first word. -/
def onto (a : List UInt8) : List (List UInt8) → List (List UInt8)
  | [] => [a]
  | h :: t => (a ++ h) :: t
theorem onto_end (a : List UInt8) : onto a (cutW []) = [a] := by simp [cutW, onto]
theorem onto_blank (a r : List UInt8) : onto a (cutW (32 :: r)) = a :: cutW r := by simp [cutW, onto]
theorem onto_sign (a r : List UInt8) (c : UInt8) (hc : c ≠ 32) : onto a (cutW (c :: r)) = onto (a ++ [c]) (cutW r) := by
  obtain ⟨h, t, e⟩ := cutW_cons r
  rw [cutW, if_neg hc, e]
  simp [onto]
theorem onto_nil (l : List UInt8) : onto [] (cutW l) = cutW l := by
  obtain ⟨h, t, e⟩ := cutW_cons l
  rw [e]; rfl
theorem cut_word : ∀ (x r : List UInt8), 32 ∉ x → cutW (x ++ r) = onto x (cutW r)
  | [], r, _ => by rw [onto_nil]; rfl
  | c :: x, r, h => by
    have hc : c ≠ 32 := fun e => h (by rw [e]; exact List.mem_cons_self ..)
    have hx : 32 ∉ x := fun e => h (List.mem_cons_of_mem _ e)
    rw [← onto_nil (c :: x ++ r), List.cons_append, onto_sign _ _ _ hc, cut_word x r hx]
    obtain ⟨p, t, e⟩ := cutW_cons r
    rw [e]
    simp [onto]
theorem join_step (x y : List UInt8) (r : List (List UInt8)) : Lib.join (x :: y :: r) [32] = x ++ 32 :: Lib.join (y :: r) [32] := by
  rw [Lib.join_cons, Lib.join_cons]
  simp [Lib.joinTail]
theorem join_cut (l : List UInt8) : Lib.join (cutW l) [32] = l := by
  induction l with
  | nil => simp [cutW, Lib.join_one]
  | cons c r ih =>
    obtain ⟨h, t, e⟩ := cutW_cons r
    rw [e] at ih
    rw [cutW]
    split
    · rename_i hc
      rw [e, join_step, ih, hc]; rfl
    · rw [e]
      simp only
      rw [Lib.join_cons] at ih ⊢
      rw [← ih]; rfl
theorem cut_join : ∀ (ws : List (List UInt8)), ws ≠ [] → (∀ w ∈ ws, 32 ∉ w) → cutW (Lib.join ws [32]) = ws
  | [], h, _ => absurd rfl h
  | [x], _, h => by
    rw [Lib.join_one]
    have := cut_word x [] (h x (by simp))
    rw [List.append_nil] at this
    rw [this, onto_end]
  | x :: y :: r, _, h => by
    rw [join_step, cut_word x _ (h x (by simp)), onto_blank, cut_join (y :: r) (by simp) (fun w hw => h w (List.mem_cons_of_mem _ hw))]
/-- Where the first blank stands. -/
theorem cut_index (l : List UInt8) : (Lib.indexByte l 32 < 0 → Lib.indexByte l 32 = -1 ∧ cutW l = [l]) ∧ (0 ≤ Lib.indexByte l 32 → (Lib.indexByte l 32).toNat < l.length ∧ cutW l = l.take (Lib.indexByte l 32).toNat :: cutW (l.drop ((Lib.indexByte l 32).toNat + 1))) := by
  induction l with
  | nil => exact ⟨fun _ => ⟨rfl, rfl⟩, fun h => by simp [Lib.indexByte] at h⟩
  | cons b l ih =>
    have hge := Lib.indexByte_ge l 32
    by_cases hb : b = 32
    · subst hb
      have e : Lib.indexByte (32 :: l) 32 = 0 := by simp [Lib.indexByte]
      rw [e]
      exact ⟨fun h => absurd h (by decide), fun _ => ⟨by simp, by simp [cutW]⟩⟩
    · by_cases hn : Lib.indexByte l 32 = -1
      · have e : Lib.indexByte (b :: l) 32 = -1 := by simp [Lib.indexByte, hb, hn]
        rw [e]
        refine ⟨fun _ => ⟨rfl, ?_⟩, fun h => absurd h (by decide)⟩
        rw [cutW, if_neg hb, (ih.1 (by omega)).2]
      · have e : Lib.indexByte (b :: l) 32 = Lib.indexByte l 32 + 1 := by simp [Lib.indexByte, hb, hn]
        obtain ⟨h1, h2⟩ := ih.2 (by omega)
        rw [e]
        have e2 : (Lib.indexByte l 32 + 1).toNat = (Lib.indexByte l 32).toNat + 1 := by omega
        refine ⟨fun h => by omega, fun _ => ⟨by rw [e2]; simp; exact h1, ?_⟩⟩
        rw [e2, cutW, if_neg hb, h2]
        simp
theorem cut_count (l : List UInt8) : (cutW l).length ≤ l.length + 1 := by
  induction l with
  | nil => simp [cutW]
  | cons c r ih =>
    obtain ⟨h, t, e⟩ := cutW_cons r
    rw [e] at ih
    rw [cutW, e]
    split <;> simp at ih ⊢ <;> omega

/-! Words of sums have no blank. -/
theorem num_noblank {l : List UInt8} (h : P1.rdOk l = true) : 32 ∉ l := by
  have hm : P1.magOk (P1.signed l) (P1.magOf l) = true := h
  have hall : (P1.magOf l).all P1.dgB = true := by
    unfold P1.magOk at hm
    simp only [Bool.and_eq_true] at hm
    exact hm.1.2
  have hno : 32 ∉ P1.magOf l := fun hx => by
    have := List.all_eq_true.1 hall 32 hx
    revert this; decide
  intro hx
  cases l with
  | nil => cases hx
  | cons c r =>
    by_cases hs : P1.signed (c :: r) = true
    · have e : P1.magOf (c :: r) = r := by unfold P1.magOf; rw [if_pos hs]; rfl
      rw [e] at hno
      rcases List.mem_cons.1 hx with h1 | h1
      · subst h1
        simp [P1.signed] at hs
      · exact hno h1
    · have e : P1.magOf (c :: r) = c :: r := by unfold P1.magOf; rw [if_neg hs]
      rw [e] at hno
      exact hno hx
theorem needs_noblank {l : List UInt8} (h : ¬ needs l < 0) : 32 ∉ l := by
  unfold needs at h
  by_cases h0 : is0 l = true
  · unfold is0 at h0
    simp only [Bool.or_eq_true, beq_iff_eq] at h0
    rcases h0 with rfl | rfl <;> decide
  rw [if_neg h0] at h
  by_cases h1 : is1 l = true
  · unfold is1 at h1
    simp only [Bool.or_eq_true, beq_iff_eq] at h1
    rcases h1 with ((rfl | rfl) | rfl) | rfl <;> decide
  rw [if_neg h1] at h
  by_cases h2 : is2 l = true
  · unfold is2 at h2
    simp only [Bool.or_eq_true, beq_iff_eq] at h2
    rcases h2 with (((((rfl | rfl) | rfl) | rfl) | rfl) | rfl) | rfl <;> decide
  rw [if_neg h2] at h
  by_cases h3 : is3 l = true
  · unfold is3 at h3
    simp only [beq_iff_eq] at h3
    subst h3; decide
  rw [if_neg h3] at h
  by_cases h4 : numW l = true
  · unfold numW at h4
    rw [Bool.and_eq_true] at h4
    exact num_noblank h4.1
  · rw [if_neg h4] at h
    exact absurd (by decide) h
theorem name_noblank {l : List UInt8} (h : nameW l = true) : 32 ∉ l := by
  unfold nameW at h
  rw [Bool.and_eq_true] at h
  exact num_noblank h.1
theorem ways {ws : List (List UInt8)} (h : okSum ws = true) : ∀ j, j ≤ ws.length → ∃ m, Way ws m j := by
  intro j
  induction j with
  | zero => intro _; exact ⟨_, way_start h⟩
  | succ j ih =>
    intro hj
    obtain ⟨m, hm⟩ := ih (by omega)
    cases hs : stB ws j
    · exact ⟨m, (hm.skip hs).1⟩
    · obtain ⟨k, r, _, hsum, _⟩ := pop0_some m (hm.pos hs (by omega))
      exact ⟨_, hm.step hs (by omega) hsum⟩
theorem ok_noblank {ws : List (List UInt8)} (h : okSum ws = true) : ∀ w ∈ ws, 32 ∉ w := by
  intro w hw
  obtain ⟨j, hj, rfl⟩ := List.getElem_of_mem hw
  obtain ⟨m, hm⟩ := ways h j (by omega)
  have e : ws.getD j [] = ws[j] := by simp [List.getD, hj]
  cases hs : stB ws j
  · have := (hm.past hs).2.1
    rw [e] at this
    exact name_noblank this
  · have := kids_needs hm hs hj
    rw [e] at this
    exact needs_noblank (by omega)

/-! A sum that stands in a list stands as well in a piece of it. -/
theorem take_get {ws : List (List UInt8)} {n j : Nat} (h : j < n) : (ws.take n)[j]? = ws[j]? := by rw [List.getElem?_take, if_pos h]
theorem take_getD {ws : List (List UInt8)} {n j : Nat} (h : j < n) : (ws.take n).getD j [] = ws.getD j [] := by simp [List.getD, take_get h]
theorem headEnd_take {ws : List (List UInt8)} {e e' n : Nat} (h : headEnd ws e = some e') (hn : e' ≤ n) : headEnd (ws.take n) e = some e' := by
  have hb := headEnd_bd h
  rcases head_ends h with ⟨hbw, rfl, _, _⟩ | ⟨hbw, rfl⟩
  · unfold headEnd at h ⊢
    rw [take_get (by omega), take_get (by omega)]
    exact h
  · unfold headEnd at h ⊢
    rw [take_get (by omega)]
    split at h
    · cases h
    · rename_i x hx
      have hxe : ws.getD e [] = x := by simp [List.getD, hx]
      rw [hxe] at hbw
      split at h
      · cases h
      · rename_i hneg
        simp only [hneg, hbw, if_false]
        rfl
theorem kids_take {ws : List (List UInt8)} {e n : Nat} (h : e < n) : kids (ws.take n) e = kids ws e := by
  unfold kids
  rw [take_getD h]
theorem after_take {ws : List (List UInt8)} {n : Nat} : ∀ (f k e x : Nat), 4 * (ws.length - e) + k ≤ f → e ≤ ws.length → after ws k e = some x → x ≤ n → after (ws.take n) k e = some x := by
  intro f
  induction f with
  | zero =>
    intro k e x hf he h hx
    have : k = 0 := by omega
    subst this
    exact h
  | succ f ih =>
    intro k e x hf he h hx
    cases k with
    | zero => exact h
    | succ m =>
      rw [after_succ] at h ⊢
      cases hh : headEnd ws e with
      | none => rw [hh] at h; cases h
      | some e' =>
        rw [hh] at h
        simp only at h
        have hb := headEnd_bd hh
        have ha := after_bd _ _ _ hb.2 h
        have hk := kids_le ws e
        rw [headEnd_take hh (by omega), kids_take (by omega)]
        exact ih _ _ _ (by omega) hb.2 h hx
theorem row_take {ws : List (List UInt8)} {n : Nat} : ∀ (k e x : Nat), e ≤ ws.length → after ws k e = some x → x ≤ n → row (ws.take n) k e = row ws k e := by
  intro k
  induction k with
  | zero => intro e x _ _ _; rfl
  | succ k ih =>
    intro e x he h hx
    obtain ⟨y, hy, hz⟩ := after_split h
    have hby := after_bd _ _ _ he hy
    have hbz := after_bd _ _ _ hby.2 hz
    have hyt := after_take _ 1 e y (Nat.le_refl _) he hy (show y ≤ n by omega)
    rw [row_step hy, row_step hyt, ih y x hby.2 hz hx]
theorem row_ends {ws : List (List UInt8)} : ∀ (k e x : Nat), e ≤ ws.length → after ws k e = some x → ∀ p ∈ row ws k e, p ≤ ws.length ∧ ∃ y, after ws 1 p = some y ∧ y ≤ x := by
  intro k
  induction k with
  | zero => intro e x _ _ p hp; cases hp
  | succ k ih =>
    intro e x he h p hp
    obtain ⟨y, hy, hz⟩ := after_split h
    have hby := after_bd _ _ _ he hy
    have hbz := after_bd _ _ _ hby.2 hz
    rw [row_step hy] at hp
    rcases List.mem_cons.1 hp with rfl | hp
    · exact ⟨he, y, hy, hbz.1⟩
    · exact ih y x hby.2 hz p hp
theorem dep_take {ws : List (List UInt8)} {n : Nat} : ∀ (f i x : Nat), i ≤ ws.length → after ws 1 i = some x → x ≤ n → dep f (ws.take n) i = dep f ws i := by
  intro f
  induction f with
  | zero => intro i x _ _ _; rfl
  | succ f ih =>
    intro i x hi h hx
    obtain ⟨e, he, ha, hlt, hil⟩ := sum_head h
    have hb := headEnd_bd he
    have hbz := after_bd _ _ _ hb.2 ha
    rw [dep, dep, headEnd_take he (by omega), he, Option.getD_some, kids_take (by omega), row_take _ _ x hb.2 ha hx]
    congr 2
    refine List.map_congr_left fun p hp => ?_
    obtain ⟨h1, y, h2, h3⟩ := row_ends _ _ _ hb.2 ha p hp
    exact ih p y h1 h2 (by omega)
theorem after_drop1 {ws : List (List UInt8)} {a k e x : Nat} (hae : a ≤ e) (he : e ≤ ws.length) (h : after ws k e = some x) : after (ws.drop a) k (e - a) = some (x - a) := by
  rw [after_drop ws a _ k e (Nat.le_refl _) hae he, h]
  rfl
theorem row_drop {ws : List (List UInt8)} {a : Nat} : ∀ (k e x : Nat), a ≤ e → e ≤ ws.length → after ws k e = some x → row (ws.drop a) k (e - a) = (row ws k e).map (· - a) := by
  intro k
  induction k with
  | zero => intro e x _ _ _; rfl
  | succ k ih =>
    intro e x hae he h
    obtain ⟨y, hy, hz⟩ := after_split h
    have hby := after_bd _ _ _ he hy
    rw [row_step hy, row_step (after_drop1 hae he hy), ih y x (by omega) hby.2 hz]
    rfl
theorem dep_drop {ws : List (List UInt8)} {a : Nat} : ∀ (f i x : Nat), a ≤ i → i ≤ ws.length → after ws 1 i = some x → dep f (ws.drop a) (i - a) = dep f ws i := by
  intro f
  induction f with
  | zero => intro i x _ _ _; rfl
  | succ f ih =>
    intro i x hai hi h
    obtain ⟨e, he, ha, hlt, hil⟩ := sum_head h
    have hb := headEnd_bd he
    have hhd := headEnd_drop ws a (i - a)
    rw [show a + (i - a) = i from by omega, he] at hhd
    have hkd := kids_drop ws a (i - a)
    rw [show a + (i - a) = i from by omega] at hkd
    rw [dep, dep, hhd, he, hkd]
    simp only [Option.map_some, Option.getD_some]
    rw [row_drop _ _ x (by omega) hb.2 ha, List.map_map]
    congr 2
    refine List.map_congr_left fun p hp => ?_
    obtain ⟨h1, y, h2⟩ := row_parts _ _ _ ha p hp
    obtain ⟨h3, _⟩ := row_ends _ _ _ hb.2 ha p hp
    exact ih p y (by omega) h3 h2
theorem maxL_mem {l : List Nat} {x : Nat} (h : x ∈ l) : x ≤ maxL l := by
  induction l with
  | nil => cases h
  | cons a l ih =>
    rw [maxL]
    rcases List.mem_cons.1 h with rfl | h
    · omega
    · have := ih h; omega
/-- A sum is deeper than its parts. -/
theorem part_deep {ws : List (List UInt8)} {p y : Nat} (h : okSum ws = true) (hp : p ∈ parts ws) (hy : after ws 1 p = some y) : deepN ((ws.drop p).take (y - p)) < deepN ws := by
  obtain ⟨h60, h0, h3, hh, ha⟩ := ok_head h
  rw [parts_yes h] at hp
  have hbd := headEnd_bd hh
  obtain ⟨hpl, _⟩ := row_ends _ _ _ hbd.2 ha p hp
  have hby := after_bd _ _ _ hpl hy
  have hlt : deep ws p < deepN ws := by
    unfold deepN
    rw [h, if_pos rfl, deep_eq hh h3]
    have := maxL_mem (List.mem_map_of_mem (f := deep ws) hp)
    omega
  rw [deepN, deepN, h, if_pos rfl]
  split
  · have h1 := after_drop1 (Nat.le_refl p) hpl hy
    rw [Nat.sub_self] at h1
    have h2 := after_take _ 1 0 (y - p) (Nat.le_refl _) (Nat.zero_le _) h1 (Nat.le_refl _)
    have hd := dep_drop (a := p) ws.length p y (Nat.le_refl _) hpl hy
    rw [Nat.sub_self] at hd
    have ht := dep_take (n := y - p) ws.length 0 (y - p) (Nat.zero_le _) h1 (Nat.le_refl _)
    have hc : deep ((ws.drop p).take (y - p)) 0 = dep ws.length ((ws.drop p).take (y - p)) 0 := dep_any (by omega) (by simp; omega) h2
    rw [hc, ht, hd]
    unfold deepN at hlt
    rw [h, if_pos rfl] at hlt
    exact hlt
  · unfold deepN at hlt
    rw [h, if_pos rfl] at hlt
    omega

end Go.Proofs.YtgcjmhecnbhhlaaGreatDoor.L2
