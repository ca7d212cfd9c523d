/-
  Texts parted at '/', and what the text of a plate is read as: nothing of the program stands here (written by wip/gen_n11.py).
-/
import Derived.Test.YtkhjbhkbknennaaGreatDoorN7
import Derived.Lib.Join
namespace Go.Proofs.YtkhjbhkbknennaaGreatDoor
open Go.RowKit
namespace L2
open S1 L1

/-- The words of a text, parted at slashs. -/
def cutS : List UInt8 → List (List UInt8)
  | [] => [[]]
  | c :: r => if c = 47 then [] :: cutS r else match cutS r with
    | [] => [[c]]
    | h :: t => (c :: h) :: t
theorem cutS_cons (l : List UInt8) : ∃ h t, cutS l = h :: t := by
  cases l with
  | nil => exact ⟨_, _, rfl⟩
  | cons c r =>
    rw [cutS]
    split
    · exact ⟨_, _, rfl⟩
    · split
      · exact ⟨_, _, rfl⟩
      · exact ⟨_, _, rfl⟩
/-- Signs laid ahead of the first word. -/
def ontoS (a : List UInt8) : List (List UInt8) → List (List UInt8)
  | [] => [a]
  | h :: t => (a ++ h) :: t
theorem ontoS_end (a : List UInt8) : ontoS a (cutS []) = [a] := by simp [cutS, ontoS]
theorem ontoS_slash (a r : List UInt8) : ontoS a (cutS (47 :: r)) = a :: cutS r := by simp [cutS, ontoS]
theorem ontoS_sign (a r : List UInt8) (c : UInt8) (hc : c ≠ 47) : ontoS a (cutS (c :: r)) = ontoS (a ++ [c]) (cutS r) := by
  obtain ⟨h, t, e⟩ := cutS_cons r
  rw [cutS, if_neg hc, e]
  simp [ontoS]
theorem ontoS_nil (l : List UInt8) : ontoS [] (cutS l) = cutS l := by
  obtain ⟨h, t, e⟩ := cutS_cons l
  rw [e]; rfl
theorem cutS_word : ∀ (x r : List UInt8), 47 ∉ x → cutS (x ++ r) = ontoS x (cutS r)
  | [], r, _ => by rw [ontoS_nil]; rfl
  | c :: x, r, h => by
    have hc : c ≠ 47 := fun e => h (by rw [e]; exact List.mem_cons_self ..)
    have hx : 47 ∉ x := fun e => h (List.mem_cons_of_mem _ e)
    rw [← ontoS_nil (c :: x ++ r), List.cons_append, ontoS_sign _ _ _ hc, cutS_word x r hx]
    obtain ⟨p, t, e⟩ := cutS_cons r
    rw [e]
    simp [ontoS]
theorem joinS_step (x y : List UInt8) (r : List (List UInt8)) : Lib.join (x :: y :: r) [47] = x ++ 47 :: Lib.join (y :: r) [47] := by
  rw [Lib.join_cons, Lib.join_cons]
  simp [Lib.joinTail]
theorem joinS_cut (l : List UInt8) : Lib.join (cutS l) [47] = l := by
  induction l with
  | nil => simp [cutS, Lib.join_one]
  | cons c r ih =>
    obtain ⟨h, t, e⟩ := cutS_cons r
    rw [e] at ih
    rw [cutS]
    split
    · rename_i hc
      rw [e, joinS_step, ih, hc]; rfl
    · rw [e]
      simp only
      rw [Lib.join_cons] at ih ⊢
      rw [← ih]; rfl
theorem cutS_join : ∀ (ws : List (List UInt8)), ws ≠ [] → (∀ w ∈ ws, 47 ∉ w) → cutS (Lib.join ws [47]) = ws
  | [], h, _ => absurd rfl h
  | [x], _, h => by
    rw [Lib.join_one]
    have := cutS_word x [] (h x (by simp))
    rw [List.append_nil] at this
    rw [this, ontoS_end]
  | x :: y :: r, _, h => by
    rw [joinS_step, cutS_word x _ (h x (by simp)), ontoS_slash, cutS_join (y :: r) (by simp) (fun w hw => h w (List.mem_cons_of_mem _ hw))]
theorem cutS_count (l : List UInt8) : (cutS l).length ≤ l.length + 1 := by
  induction l with
  | nil => simp [cutS]
  | cons c r ih =>
    obtain ⟨h, t, e⟩ := cutS_cons r
    rw [e] at ih
    rw [cutS, e]
    split <;> simp at ih ⊢ <;> omega

theorem num_noslash {l : List UInt8} (h : P1.rdOk l = true) : 47 ∉ l := by
  have hm : P1.magOk (P1.signed l) (P1.magOf l) = true := h
  have hall : (P1.magOf l).all P1.dgB = true := by
    unfold P1.magOk at hm
    simp only [Bool.and_eq_true] at hm
    exact hm.1.2
  have hno : 47 ∉ P1.magOf l := fun hx => by
    have := List.all_eq_true.1 hall 47 hx
    revert this; decide
  intro hx
  cases l with
  | nil => cases hx
  | cons c r =>
    by_cases hs : P1.signed (c :: r) = true
    · have e : P1.magOf (c :: r) = r := by unfold P1.magOf; rw [if_pos hs]; rfl
      rw [e] at hno
      rcases List.mem_cons.1 hx with h1 | h1
      · subst h1
        simp [P1.signed] at hs
      · exact hno h1
    · have e : P1.magOf (c :: r) = c :: r := by unfold P1.magOf; rw [if_neg hs]
      rw [e] at hno
      exact hno hx
theorem cutS_short (l : List UInt8) : ∀ w ∈ cutS l, w.length ≤ l.length := by
  induction l with
  | nil => intro w hw; simp [cutS] at hw; subst hw; simp
  | cons c r ih =>
    intro w hw
    obtain ⟨h, t, e⟩ := cutS_cons r
    rw [e] at ih
    rw [cutS, e] at hw
    split at hw
    · rcases List.mem_cons.1 hw with rfl | hw
      · simp
      · have := ih w hw; simp; omega
    · rcases List.mem_cons.1 hw with rfl | hw
      · have := ih h (by simp); simp; omega
      · have := ih w (List.mem_cons_of_mem _ hw); simp; omega

theorem list_of (l : List UInt8) : (⟨l.toArray⟩ : ByteArray).toList = l := by rw [Lib.toList_data]
/-- The kind that a word tells; 0 where it tells none. -/
def kindN (l : List UInt8) : Int := if l = kindW 1 then 1 else if l = kindW 2 then 2 else if l = kindW 3 then 3 else if l = kindW 4 then 4 else if l = kindW 5 then 5 else if l = kindW 6 then 6 else if l = kindW 7 then 7 else if l = kindW 8 then 8 else 0
theorem kindN_word {k : Int} (h1 : 1 ≤ k) (h2 : k ≤ 8) : kindN (kindW k) = k := by
  have : k = 1 ∨ k = 2 ∨ k = 3 ∨ k = 4 ∨ k = 5 ∨ k = 6 ∨ k = 7 ∨ k = 8 := by omega
  rcases this with rfl | rfl | rfl | rfl | rfl | rfl | rfl | rfl <;> decide
theorem kindN_back {l : List UInt8} (h : 1 ≤ kindN l) : l = kindW (kindN l) := by
  unfold kindN at h ⊢
  repeat' split at h
  all_goals first
    | (rename_i e; simp only [*, if_true, if_false]; done)
    | (exfalso; omega)
    | (simp_all)
theorem kindW_noslash (k : Int) : 47 ∉ kindW k := by
  unfold kindW
  match k.toNat with
  | 0 => decide
  | 1 => decide
  | 2 => decide
  | 3 => decide
  | 4 => decide
  | 5 => decide
  | 6 => decide
  | 7 => decide
  | 8 => decide
  | n + 9 => simp
theorem itoa_noslash {n : Int} (h1 : -1000000 ≤ n) (h2 : n ≤ 1000000) : 47 ∉ Lib.itoa n := num_noslash (P1.rd_of_itoa n h1 h2).1
theorem showB_noslash {k n : Int} (h : okB k n = true) : 47 ∉ L1.showB k n := by
  obtain ⟨_, h1, h2⟩ := ok_bd h
  have hi := itoa_noslash h1 h2
  unfold L1.showB
  rw [if_pos h]
  split
  · intro hx
    rcases List.mem_cons.1 hx with e | e
    · revert e; decide
    · exact hi e
  · exact hi
/-- A Value read from its own text. -/
theorem rv_show {k n : Int} (h : okB k n = true) : rvOk (L1.showB k n) = true ∧ rvK (L1.showB k n) = k ∧ rvN (L1.showB k n) = n := by
  obtain ⟨hk, h1, h2⟩ := ok_bd h
  obtain ⟨c1, c2⟩ := P1.rd_of_itoa n h1 h2
  have hnp : Lib.hasPrefix (Lib.itoa n) [112] = false := by
    cases hx : Lib.hasPrefix (Lib.itoa n) [112]
    · rfl
    · rw [S1.rd_no_p hx] at c1; cases c1
  have hkr : rvKind (L1.showB k n) = k ∧ rvRest (L1.showB k n) = Lib.itoa n := by
    unfold L1.showB
    rw [if_pos h]
    rcases hk with rfl | rfl
    · rw [if_neg (by decide)]
      unfold rvKind rvRest Lib.trimPrefix
      rw [hnp]
      exact ⟨rfl, rfl⟩
    · rw [if_pos rfl]
      unfold rvKind rvRest Lib.trimPrefix
      have : Lib.hasPrefix (112 :: Lib.itoa n) [112] = true := by rw [pre_head]; rfl
      rw [this]
      exact ⟨rfl, rfl⟩
  have ho : rvOk (L1.showB k n) = true := by
    unfold rvOk
    rw [hkr.1, hkr.2, c1, c2, h]; rfl
  refine ⟨ho, ?_, ?_⟩
  · rw [(rv_yes ho).2.1, hkr.1]
  · rw [(rv_yes ho).2.2, hkr.2, c2]
theorem show_rv {l : List UInt8} (h : rvOk l = true) : L1.showB (rvK l) (rvN l) = l := by
  have hr : P1.rdOk (rvRest l) = true := by unfold rvOk at h; rw [Bool.and_eq_true] at h; exact h.1
  have hb := (back_iff (P1.parse_of_rd hr)).1
  rw [h] at hb
  rw [(rv_yes h).2.1, (rv_yes h).2.2]
  exact of_decide_eq_true hb
/-- What the pieces of a text tell: the model's plate and the program's. -/
def plR (ws : List (List UInt8)) : Pl := ⟨kindN (ws.getD 0 []), P1.rdN (ws.getD 1 []), rvK (ws.getD 2 []), rvN (ws.getD 2 []), rvK (ws.getD 3 []), rvN (ws.getD 3 [])⟩
def plI (ws : List (List UInt8)) : Pl := ⟨kindN (ws.getD 0 []), nIn (ws.getD 1 []), rvK (ws.getD 2 []), rvN (ws.getD 2 []), rvK (ws.getD 3 []), rvN (ws.getD 3 [])⟩
def rdPOk (l : List UInt8) : Bool := decide ((cutS l).length = 4) && (P1.rdOk ((cutS l).getD 1 []) && rvOk ((cutS l).getD 2 []) && rvOk ((cutS l).getD 3 []) && okPl (plR (cutS l)))
/-- What strings.SplitN leaves of a text at 4: no more than three cuts. -/
def Split4 (l : List UInt8) (ws : List (List UInt8)) : Prop := ∃ done last, ws = done ++ [last] ∧ cutS l = done ++ cutS last ∧ done.length ≤ 3 ∧ (done.length = 3 ∨ cutS last = [last])
theorem split4_few {l : List UInt8} {ws : List (List UInt8)} (h : Split4 l ws) (hn : ws.length ≠ 4) : rdPOk l = false := by
  obtain ⟨done, last, rfl, hc, h3, hl⟩ := h
  rcases hl with hl | hl
  · simp [hl] at hn
  · unfold rdPOk
    rw [hc, hl]
    have : ¬ (done ++ [last]).length = 4 := hn
    rw [decide_eq_false this]; rfl
theorem partsB_ws (p : Pl) : wsOf (partsB p) = [kindW p.k, Lib.itoa p.a, L1.showB p.ak p.an, L1.showB p.vk p.vn] := by
  unfold partsB wsOf kindB
  simp only [List.map_cons, List.map_nil, list_of]
theorem parts_noslash {p : Pl} (h : okPl p = true) : ∀ w ∈ wsOf (partsB p), 47 ∉ w := by
  obtain ⟨_, ha, hb, hc⟩ := okPl_parts h
  rw [partsB_ws]
  intro w hw
  simp only [List.mem_cons, List.not_mem_nil, or_false] at hw
  rcases hw with rfl | rfl | rfl | rfl
  · exact kindW_noslash _
  · exact itoa_noslash (by omega) (by omega)
  · exact showB_noslash hb
  · exact showB_noslash hc
/-- The pieces of a plate's own text tell the plate. -/
theorem plR_parts {p : Pl} (h : okPl p = true) : plR (wsOf (partsB p)) = p ∧ plI (wsOf (partsB p)) = p ∧ P1.rdOk (Lib.itoa p.a) = true ∧ rvOk (L1.showB p.ak p.an) = true ∧ rvOk (L1.showB p.vk p.vn) = true := by
  obtain ⟨hk, ha, hb, hc⟩ := okPl_parts h
  obtain ⟨c1, c2⟩ := P1.rd_of_itoa p.a (by omega) (by omega)
  obtain ⟨b1, b2, b3⟩ := rv_show hb
  obtain ⟨d1, d2, d3⟩ := rv_show hc
  have hk1 := kindN_word hk.1 hk.2
  have hn : nIn (Lib.itoa p.a) = p.a := by
    unfold nIn numW
    rw [c1, c2]
    have : inB p.a (-1000000) 1000000 = true := by simp [inB]; omega
    rw [this]; rfl
  rw [partsB_ws]
  unfold plR plI
  simp only [List.getD_cons_zero, List.getD_cons_succ]
  rw [hk1, c2, b2, b3, d2, d3, hn]
  exact ⟨rfl, rfl, c1, b1, d1⟩
/-- A text whose pieces are right is the text of the plate that they tell. -/
theorem show_back {l : List UInt8} (h : rdPOk l = true) : okPl (plR (cutS l)) = true ∧ wsOf (partsB (plR (cutS l))) = cutS l ∧ showP (plR (cutS l)) = l := by
  unfold rdPOk at h
  simp only [Bool.and_eq_true, decide_eq_true_eq] at h
  obtain ⟨h4, ⟨⟨h1, h2⟩, h3⟩, ho⟩ := h
  have hw : wsOf (partsB (plR (cutS l))) = cutS l := by
    obtain ⟨hk, ha, _, _⟩ := okPl_parts ho
    rw [partsB_ws]
    generalize cutS l = ws at *
    match ws, h4 with
    | [a, b, c, d], _ =>
      unfold plR at *
      simp only [List.getD_cons_zero, List.getD_cons_succ] at *
      rw [← kindN_back hk.1, P1.itoa_of_rd h1, show_rv h2, show_rv h3]
  refine ⟨ho, hw, ?_⟩
  unfold showP
  rw [ho, if_pos rfl, hw, joinS_cut]
/-- The model and the program read the same. -/
theorem read_same {l : List UInt8} {ws : List (List UInt8)} (h : Split4 l ws) (h4 : ws.length = 4) : decide (showP (plI ws) = l) = rdPOk l ∧ (rdPOk l = true → plI ws = plR (cutS l)) := by
  obtain ⟨done, last, rfl, hc, h3, hl⟩ := h
  have hd : done.length = 3 := by simp at h4; omega
  have one : rdPOk l = true → plI (done ++ [last]) = plR (cutS l) ∧ showP (plI (done ++ [last])) = l := fun ho => by
    obtain ⟨hk, hw, hs⟩ := show_back ho
    have hlen : (cutS l).length = 4 := by unfold rdPOk at ho; simp only [Bool.and_eq_true, decide_eq_true_eq] at ho; exact ho.1
    have hlast : cutS last = [last] := by
      have := congrArg List.length hc
      rw [hlen, List.length_append, hd] at this
      have hj := joinS_cut last
      match hx : cutS last, (by omega : (cutS last).length = 1) with
      | [x], _ =>
        rw [hx, Lib.join_one] at hj
        rw [hj]
    rw [hlast] at hc
    have e : plI (done ++ [last]) = plR (cutS l) := by
      have := (plR_parts hk).2.1
      rw [hw, hc] at this
      rw [this, hc]
    exact ⟨e, by rw [e]; exact hs⟩
  have two : showP (plI (done ++ [last])) = l → rdPOk l = true := fun hs => by
    cases ho : okPl (plI (done ++ [last]))
    · have : l = [] := by rw [← hs]; unfold showP; rw [ho]; rfl
      subst this
      have := congrArg List.length hc
      obtain ⟨a, t, e⟩ := cutS_cons last
      rw [e] at this
      simp [cutS, hd] at this
      omega
    · generalize hp : plI (done ++ [last]) = p at *
      have hl' : l = Lib.join (wsOf (partsB p)) [47] := by rw [← hs]; unfold showP; rw [if_pos ho]
      have hcut : cutS l = wsOf (partsB p) := by rw [hl']; exact cutS_join _ (by rw [partsB_ws]; simp) (parts_noslash ho)
      obtain ⟨q1, q2, q3, q4, q5⟩ := plR_parts ho
      unfold rdPOk
      rw [hcut, q1, ho, partsB_ws]
      simp only [List.getD_cons_zero, List.getD_cons_succ, q3, q4, q5]
      rfl
  refine ⟨?_, fun h => (one h).1⟩
  cases ho : rdPOk l
  · exact decide_eq_false fun hs => by rw [two hs] at ho; cases ho
  · exact decide_eq_true (one ho).2

end L2
end Go.Proofs.YtkhjbhkbknennaaGreatDoor
