/-
  What a plain sum means, on lists: nothing of the program stands here.
-/
import Derived.Test.YtkhjbhkbknennaaGreatDoorGT
import Derived.Test.YtkhjbhkbknennaaGreatDoorGD
import Derived.Test.YtkhjbhkbknennaaGreatDoorGA
namespace Go.Proofs.YtkhjbhkbknennaaGreatDoor.L2
open S1 L1

/-- What it comes to. -/
structure Out where
  k : Int
  n : Int
  thr : Bool
  said : List ByteArray
  code : Int
def wrong (c : Int) : Out := ⟨0, 0, false, [], c⟩
/-- What is bound, the topmost first. -/
abbrev Bd := List (List UInt8 × Int × Int)
abbrev Deed := Int → Int → Bd → List ByteArray → Out
def lookB (y : List UInt8) : Bd → Option (Int × Int)
  | [] => none
  | b :: r => if y == b.1 then some b.2 else lookB y r
def thenD (o : Out) (f : Out → Out) : Out := if o.thr = true ∨ o.code ≠ 0 then o else f o

abbrev Wth := Int → Int → Int → Int → (Int × Int) × Bool
def addG : Wth := fun a b c d => ((0, addN a b c d), numB a b && numB c d)
def lssG : Wth := fun a b c d => ((0, lssN a b c d), numB a b && numB c d)
def bothG : Wth := fun _ _ c d => ((c, d), true)

def argD : Deed := fun k n _ sd => ⟨k, n, false, sd, 0⟩
def askD (y : List UInt8) : Deed := fun _ _ bd sd => match lookB y bd with
  | none => wrong 1
  | some v => ⟨v.1, v.2, false, sd, 0⟩
def numD (x : Int) : Deed := fun _ _ _ sd => ⟨0, x, false, sd, 0⟩
def twoD (g : Wth) (d0 d1 : Deed) : Deed := fun k n bd sd => thenD (d0 k n bd sd) fun a => thenD (d1 k n bd a.said) fun b => if (g a.k a.n b.k b.n).2 = true then ⟨(g a.k a.n b.k b.n).1.1, (g a.k a.n b.k b.n).1.2, false, b.said, 0⟩ else wrong 1
def valB (k n : Int) : ByteArray := ⟨(L1.showB k n).toArray⟩
def sayD (d0 : Deed) : Deed := fun k n bd sd => thenD (d0 k n bd sd) fun a => if a.said.length = 40 then wrong 2 else ⟨a.k, a.n, false, a.said ++ [valB a.k a.n], 0⟩
def throwD (d0 : Deed) : Deed := fun k n bd sd => thenD (d0 k n bd sd) fun a => ⟨a.k, a.n, true, a.said, 0⟩
def ifD (d0 d1 d2 : Deed) : Deed := fun k n bd sd => thenD (d0 k n bd sd) fun a => if a.k = 0 then (if a.n = 0 then d2 k n bd a.said else d1 k n bd a.said) else wrong 1
def keepD (d0 d1 : Deed) : Deed := fun k n bd sd => if (d0 k n bd sd).code = 0 then thenD (d1 k n bd (d0 k n bd sd).said) fun b => ⟨(d0 k n bd sd).k, (d0 k n bd sd).n, (d0 k n bd sd).thr, b.said, 0⟩ else d0 k n bd sd
def bindD (y : List UInt8) (d0 d1 : Deed) : Deed := fun k n bd sd => thenD (d0 k n bd sd) fun a => d1 k n ((y, a.k, a.n) :: bd) a.said
def tryD (d0 d1 : Deed) : Deed := fun k n bd sd => if (d0 k n bd sd).thr = true then d1 (d0 k n bd sd).k (d0 k n bd sd).n bd (d0 k n bd sd).said else d0 k n bd sd
def noD : Deed := fun _ _ _ _ => wrong 1

/-- What a word makes of its sums. -/
def sem (c : Nat) (x y : List UInt8) (ds : List Deed) : Deed :=
  match c with
  | 0 => argD
  | 1 => askD y
  | 2 => sayD (ds.getD 0 noD)
  | 3 => throwD (ds.getD 0 noD)
  | 6 => twoD addG (ds.getD 0 noD) (ds.getD 1 noD)
  | 7 => twoD lssG (ds.getD 0 noD) (ds.getD 1 noD)
  | 8 => twoD bothG (ds.getD 0 noD) (ds.getD 1 noD)
  | 9 => keepD (ds.getD 0 noD) (ds.getD 1 noD)
  | 10 => bindD y (ds.getD 0 noD) (ds.getD 1 noD)
  | 11 => tryD (ds.getD 0 noD) (ds.getD 1 noD)
  | 13 => ifD (ds.getD 0 noD) (ds.getD 1 noD) (ds.getD 2 noD)
  | _ => numD (P1.rdN x)

/-- The number that belongs to the word at i. -/
def nameAt (ws : List (List UInt8)) (i : Nat) : List UInt8 := if bindW (ws.getD i []) then ws.getD (i + 1) [] else []
/-- What the sum at i means; f bounds how deep one looks. -/
def mn : Nat → List (List UInt8) → Nat → Deed
  | 0, _, _ => noD
  | f + 1, ws, i => sem (code (ws.getD i [])) (ws.getD i []) (nameAt ws i) ((row ws (kids ws i) ((headEnd ws i).getD 0)).map (mn f ws))

theorem mn_more (ws : List (List UInt8)) : ∀ (f i x : Nat), ws.length ≤ i + f → after ws 1 i = some x → mn f ws i = mn (f + 1) ws i := by
  intro f
  induction f with
  | zero =>
    intro i x hi h
    obtain ⟨_, _, _, _, hlt⟩ := sum_head h
    omega
  | succ f ih =>
    intro i x hi h
    obtain ⟨e, he, ha, hlt, _⟩ := sum_head h
    rw [mn, mn, he, Option.getD_some]
    congr 1
    refine List.map_congr_left fun p hp => ?_
    obtain ⟨h1, y, h2⟩ := row_parts _ _ _ ha p hp
    exact ih p y (by omega) h2
theorem mn_any {ws : List (List UInt8)} {f f' i x : Nat} (h : ws.length ≤ i + f) (h' : ws.length ≤ i + f') (ha : after ws 1 i = some x) : mn f ws i = mn f' ws i := by
  have key : ∀ f, ws.length ≤ i + f → ∀ k, mn f ws i = mn (f + k) ws i := by
    intro f hf k
    induction k with
    | zero => rfl
    | succ k ih => rw [ih, mn_more ws (f + k) i x (by omega) ha]; rfl
  rw [key f h f', key f' h' f, Nat.add_comm]
/-- What the sum at i means. -/
def mean (ws : List (List UInt8)) (i : Nat) : Deed := mn ws.length ws i
theorem mean_eq {ws : List (List UInt8)} {i e x : Nat} (he : headEnd ws i = some e) (h : after ws 1 i = some x) : mean ws i = sem (code (ws.getD i [])) (ws.getD i []) (nameAt ws i) ((row ws (kids ws i) e).map (mean ws)) := by
  unfold mean
  rw [mn_more ws _ i x (by omega) h, mn, he, Option.getD_some]

theorem name_take {ws : List (List UInt8)} {i e n : Nat} (he : headEnd ws i = some e) (hn : e ≤ n) : nameAt (ws.take n) i = nameAt ws i := by
  have hb := headEnd_bd he
  unfold nameAt
  rw [take_getD (by omega)]
  rcases head_ends he with ⟨hbw, rfl, _, _⟩ | ⟨hbw, rfl⟩
  · rw [hbw, if_pos rfl, if_pos rfl, take_getD (by omega)]
  · rw [hbw]
    rfl
theorem getD_drop (ws : List (List UInt8)) (a i : Nat) : (ws.drop a).getD i [] = ws.getD (a + i) [] := by simp [List.getD, List.getElem?_drop]
theorem mn_take {ws : List (List UInt8)} {n : Nat} : ∀ (f i x : Nat), i ≤ ws.length → after ws 1 i = some x → x ≤ n → mn f (ws.take n) i = mn f ws i := by
  intro f
  induction f with
  | zero => intro i x _ _ _; rfl
  | succ f ih =>
    intro i x hi h hx
    obtain ⟨e, he, ha, hlt, hil⟩ := sum_head h
    have hb := headEnd_bd he
    have hbz := after_bd _ _ _ hb.2 ha
    rw [mn, mn, headEnd_take he (by omega), he, Option.getD_some, kids_take (by omega), row_take _ _ x hb.2 ha hx, take_getD (by omega), name_take he (by omega)]
    congr 1
    refine List.map_congr_left fun p hp => ?_
    obtain ⟨h1, y, h2, h3⟩ := row_ends _ _ _ hb.2 ha p hp
    exact ih p y h1 h2 (by omega)
theorem mn_drop {ws : List (List UInt8)} {a : Nat} : ∀ (f i x : Nat), a ≤ i → i ≤ ws.length → after ws 1 i = some x → mn f (ws.drop a) (i - a) = mn f ws i := by
  intro f
  induction f with
  | zero => intro i x _ _ _; rfl
  | succ f ih =>
    intro i x hai hi h
    obtain ⟨e, he, ha, hlt, hil⟩ := sum_head h
    have hb := headEnd_bd he
    have hhd := headEnd_drop ws a (i - a)
    rw [show a + (i - a) = i from by omega, he] at hhd
    have hkd := kids_drop ws a (i - a)
    rw [show a + (i - a) = i from by omega] at hkd
    have hg0 := getD_drop ws a (i - a)
    rw [show a + (i - a) = i from by omega] at hg0
    have hg1 := getD_drop ws a (i - a + 1)
    rw [show a + (i - a + 1) = i + 1 from by omega] at hg1
    have hnm : nameAt (ws.drop a) (i - a) = nameAt ws i := by unfold nameAt; rw [hg0, hg1]
    rw [mn, mn, hhd, he, hkd, hg0, hnm]
    simp only [Option.map_some, Option.getD_some]
    rw [row_drop _ _ x (by omega) hb.2 ha, List.map_map]
    congr 1
    refine List.map_congr_left fun p hp => ?_
    obtain ⟨h1, y, h2⟩ := row_parts _ _ _ ha p hp
    obtain ⟨h3, _⟩ := row_ends _ _ _ hb.2 ha p hp
    exact ih p y (by omega) h3 h2

/-- A sum within a list, cut out: it is a sum, and means what it meant. -/
theorem sub_after {ws : List (List UInt8)} {p y : Nat} (hpl : p ≤ ws.length) (hy : after ws 1 p = some y) : after ((ws.drop p).take (y - p)) 1 0 = some (y - p) ∧ ((ws.drop p).take (y - p)).length = y - p ∧ mean ((ws.drop p).take (y - p)) 0 = mean ws p := by
  have hby := after_bd _ _ _ hpl hy
  have h1 := after_drop1 (Nat.le_refl p) hpl hy
  rw [Nat.sub_self] at h1
  have h2 := after_take _ 1 0 (y - p) (Nat.le_refl _) (Nat.zero_le _) h1 (Nat.le_refl _)
  have hl : ((ws.drop p).take (y - p)).length = y - p := by simp; omega
  refine ⟨h2, hl, ?_⟩
  have hd := mn_drop (a := p) ws.length p y (Nat.le_refl _) hpl hy
  rw [Nat.sub_self] at hd
  have ht := mn_take (n := y - p) ws.length 0 (y - p) (Nat.zero_le _) h1 (Nat.le_refl _)
  have hc : mean ((ws.drop p).take (y - p)) 0 = mn ws.length ((ws.drop p).take (y - p)) 0 := mn_any (by omega) (by rw [hl]; omega) h2
  rw [hc, ht, hd]
  rfl
theorem part_sub {ws : List (List UInt8)} {p y : Nat} (h : okSum ws = true) (hpl : p ≤ ws.length) (hy : after ws 1 p = some y) : okSum ((ws.drop p).take (y - p)) = true := by
  obtain ⟨h1, h2, _⟩ := sub_after hpl hy
  obtain ⟨h60, _⟩ := ok_head h
  have := after_bd _ _ _ hpl hy
  unfold okSum
  rw [h2, h1]
  simp
  omega
theorem part_plain {ws : List (List UInt8)} {a n : Nat} (h : ws.any pieceW = false) : ((ws.drop a).take n).any pieceW = false := by
  rw [List.any_eq_false] at h ⊢
  exact fun x hx => h x (List.mem_of_mem_drop (List.mem_of_mem_take hx))

/-- How it stands with what comes out. -/
structure Good (o : Out) : Prop where
  val : okB o.k o.n = true
  len : o.said.length ≤ 40
  short : Short o.said
  err : o.code ≠ 0 → o.k = 0 ∧ o.n = 0 ∧ o.thr = false ∧ o.said = []
  code : o.code = 0 ∨ o.code = 1 ∨ o.code = 2
def GoodB (bd : Bd) : Prop := ∀ b ∈ bd, okB b.2.1 b.2.2 = true
def GoodD (d : Deed) : Prop := ∀ k n bd sd, okB k n = true → GoodB bd → sd.length ≤ 40 → Short sd → Good (d k n bd sd)
theorem short_nil : Short [] := fun s hs => by cases hs
theorem good_wrong {c : Int} (h : c = 0 ∨ c = 1 ∨ c = 2) : Good (wrong c) := ⟨by show okB 0 0 = true; decide, by simp [wrong], short_nil, fun _ => ⟨rfl, rfl, rfl, rfl⟩, h⟩
theorem good_is {k n : Int} {t : Bool} {sd : List ByteArray} (h : okB k n = true) (h1 : sd.length ≤ 40) (h2 : Short sd) : Good ⟨k, n, t, sd, 0⟩ := ⟨h, h1, h2, fun h => absurd rfl h, Or.inl rfl⟩
theorem good_then {o : Out} {f : Out → Out} (h : Good o) (hf : Good (f o)) : Good (thenD o f) := by
  unfold thenD
  split
  · exact h
  · exact hf
theorem lookB_good {y : List UInt8} {bd : Bd} (h : GoodB bd) {v : Int × Int} (hv : lookB y bd = some v) : okB v.1 v.2 = true := by
  induction bd with
  | nil => cases hv
  | cons b r ih =>
    unfold lookB at hv
    split at hv
    · injection hv with hv
      rw [← hv]
      exact h b (by simp)
    · exact ih (fun b hb => h b (List.mem_cons_of_mem _ hb)) hv
theorem clampI_bd (x : Int) : -1000000 ≤ clampI x ∧ clampI x ≤ 1000000 := by
  unfold clampI
  split
  · omega
  · split <;> omega
theorem ok_num {n : Int} (h1 : -1000000 ≤ n) (h2 : n ≤ 1000000) : okB 0 n = true := by simp [okB, numB, inB]; omega
theorem addG_good (a b c d : Int) : okB (addG a b c d).1.1 (addG a b c d).1.2 = true := by
  show okB 0 (addN a b c d) = true
  unfold addN
  split
  · have := clampI_bd (b + d); exact ok_num this.1 this.2
  · exact ok_num (by omega) (by omega)
theorem lssG_good (a b c d : Int) : okB (lssG a b c d).1.1 (lssG a b c d).1.2 = true := by
  show okB 0 (lssN a b c d) = true
  unfold lssN
  repeat' split
  all_goals exact ok_num (by omega) (by omega)
theorem valB_short {k n : Int} (h : okB k n = true) : (valB k n).size ≤ 20 := by
  obtain ⟨_, h1, h2⟩ := ok_bd h
  have := itoa_len h1 h2
  unfold valB L1.showB
  rw [h, if_pos rfl]
  split <;> (simp [ByteArray.size]; omega)
theorem good_two {g : Wth} {d0 d1 : Deed} (hg : ∀ a b c d, okB a b = true → okB c d = true → okB (g a b c d).1.1 (g a b c d).1.2 = true) (h0 : GoodD d0) (h1 : GoodD d1) : GoodD (twoD g d0 d1) := fun k n bd sd hk hb hl hs => by
  have g0 := h0 k n bd sd hk hb hl hs
  have g1 := h1 k n bd _ hk hb g0.len g0.short
  refine good_then g0 (good_then g1 ?_)
  split
  · exact good_is (hg _ _ _ _ g0.val g1.val) g1.len g1.short
  · exact good_wrong (Or.inr (Or.inl rfl))
theorem good_say {d0 : Deed} (h0 : GoodD d0) : GoodD (sayD d0) := fun k n bd sd hk hb hl hs => by
  have g0 := h0 k n bd sd hk hb hl hs
  refine good_then g0 ?_
  split
  · exact good_wrong (Or.inr (Or.inr rfl))
  · refine good_is g0.val (by have := g0.len; simp; omega) (g0.short.append fun s hs => ?_)
    rw [List.mem_singleton.1 hs]
    exact valB_short g0.val
theorem good_throw {d0 : Deed} (h0 : GoodD d0) : GoodD (throwD d0) := fun k n bd sd hk hb hl hs => by
  have g0 := h0 k n bd sd hk hb hl hs
  exact good_then g0 (good_is g0.val g0.len g0.short)
theorem good_if {d0 d1 d2 : Deed} (h0 : GoodD d0) (h1 : GoodD d1) (h2 : GoodD d2) : GoodD (ifD d0 d1 d2) := fun k n bd sd hk hb hl hs => by
  have g0 := h0 k n bd sd hk hb hl hs
  refine good_then g0 ?_
  split
  · split
    · exact h2 k n bd _ hk hb g0.len g0.short
    · exact h1 k n bd _ hk hb g0.len g0.short
  · exact good_wrong (Or.inr (Or.inl rfl))
theorem good_keep {d0 d1 : Deed} (h0 : GoodD d0) (h1 : GoodD d1) : GoodD (keepD d0 d1) := fun k n bd sd hk hb hl hs => by
  have g0 := h0 k n bd sd hk hb hl hs
  have g1 := h1 k n bd _ hk hb g0.len g0.short
  unfold keepD
  split
  · exact good_then g1 (good_is g0.val g1.len g1.short)
  · exact g0
theorem good_bind {y : List UInt8} {d0 d1 : Deed} (h0 : GoodD d0) (h1 : GoodD d1) : GoodD (bindD y d0 d1) := fun k n bd sd hk hb hl hs => by
  have g0 := h0 k n bd sd hk hb hl hs
  refine good_then g0 (h1 k n _ _ hk (fun b hb' => ?_) g0.len g0.short)
  rcases List.mem_cons.1 hb' with rfl | hb'
  · exact g0.val
  · exact hb b hb'
theorem good_try {d0 d1 : Deed} (h0 : GoodD d0) (h1 : GoodD d1) : GoodD (tryD d0 d1) := fun k n bd sd hk hb hl hs => by
  have g0 := h0 k n bd sd hk hb hl hs
  unfold tryD
  split
  · exact h1 _ _ bd _ g0.val hb g0.len g0.short
  · exact g0
theorem good_no : GoodD noD := fun _ _ _ _ _ _ _ _ => good_wrong (Or.inr (Or.inl rfl))
theorem good_ask (y : List UInt8) : GoodD (askD y) := fun k n bd sd hk hb hl hs => by
  unfold askD
  split
  · exact good_wrong (Or.inr (Or.inl rfl))
  · rename_i v hv
    exact good_is (lookB_good hb hv) hl hs
/-- Which words stand at the head of a plain sum. -/
def semOk (c : Nat) (x : List UInt8) : Prop := c = 0 ∨ c = 1 ∨ c = 2 ∨ c = 3 ∨ c = 6 ∨ c = 7 ∨ c = 8 ∨ c = 9 ∨ c = 10 ∨ c = 11 ∨ c = 13 ∨ (c = 14 ∧ numW x = true)
theorem num_in {x : List UInt8} (h : numW x = true) : -1000000 ≤ P1.rdN x ∧ P1.rdN x ≤ 1000000 := by
  unfold numW at h
  rw [Bool.and_eq_true] at h
  have := h.2
  simp [inB] at this
  exact this
theorem getD_good {ds : List Deed} (h : ∀ d ∈ ds, GoodD d) (i : Nat) : GoodD (ds.getD i noD) := by
  by_cases hi : i < ds.length
  · have : ds.getD i noD = ds[i] := by simp [List.getD, hi]
    rw [this]
    exact h _ (List.getElem_mem hi)
  · have : ds.getD i noD = noD := by simp [List.getD, List.getElem?_eq_none (Nat.le_of_not_lt hi)]
    rw [this]
    exact good_no
theorem good_sem {c : Nat} {x y : List UInt8} {ds : List Deed} (hc : semOk c x) (h : ∀ d ∈ ds, GoodD d) : GoodD (sem c x y ds) := by
  have g := getD_good h
  rcases hc with rfl | rfl | rfl | rfl | rfl | rfl | rfl | rfl | rfl | rfl | rfl | ⟨rfl, hx⟩
  · exact fun k n bd sd hk hb hl hs => good_is hk hl hs
  · exact good_ask y
  · exact good_say (g 0)
  · exact good_throw (g 0)
  · exact good_two (fun a b c d _ _ => addG_good a b c d) (g 0) (g 1)
  · exact good_two (fun a b c d _ _ => lssG_good a b c d) (g 0) (g 1)
  · exact good_two (fun _ _ _ _ _ h => h) (g 0) (g 1)
  · exact good_keep (g 0) (g 1)
  · exact good_bind (g 0) (g 1)
  · exact good_try (g 0) (g 1)
  · exact good_if (g 0) (g 1) (g 2)
  · have := num_in hx
    exact fun k n bd sd hk hb hl hs => good_is (ok_num this.1 this.2) hl hs
theorem head_ok {ws : List (List UInt8)} {i e : Nat} (hp : ws.any pieceW = false) (he : headEnd ws i = some e) : semOk (code (ws.getD i [])) (ws.getD i []) ∧ needs (ws.getD i []) = (kids ws i : Int) := by
  unfold headEnd at he
  split at he
  · cases he
  · rename_i x hx
    have hxi : ws.getD i [] = x := by simp [List.getD, hx]
    have hm : x ∈ ws := List.mem_of_getElem? hx
    split at he
    · cases he
    · rename_i hn
      have hpw : pieceW x = false := by
        rw [List.any_eq_false] at hp
        simpa using hp x hm
      unfold kids
      rw [hxi]
      refine ⟨?_, by omega⟩
      rw [piece_code] at hpw
      simp only [Bool.or_eq_false_iff, decide_eq_false_iff_not] at hpw
      rw [needs_code] at hn
      have hle := code_le x
      unfold semOk
      by_cases h14 : code x = 14
      · rw [h14] at hn
        cases hw : numW x
        · rw [hw] at hn
          exact absurd (by decide) hn
        · simp [h14]
      · omega
theorem mn_good {ws : List (List UInt8)} (hp : ws.any pieceW = false) : ∀ (f i x : Nat), after ws 1 i = some x → GoodD (mn f ws i) := by
  intro f
  induction f with
  | zero => intro i x _; exact good_no
  | succ f ih =>
    intro i x h
    obtain ⟨e, he, ha, hlt, _⟩ := sum_head h
    rw [mn, he, Option.getD_some]
    refine good_sem (head_ok hp he).1 fun d hd => ?_
    obtain ⟨p, hpm, rfl⟩ := List.mem_map.1 hd
    obtain ⟨_, y, h2⟩ := row_parts _ _ _ ha p hpm
    exact ih p y h2
theorem mean_good {ws : List (List UInt8)} {i x : Nat} (hp : ws.any pieceW = false) (h : after ws 1 i = some x) : GoodD (mean ws i) := mn_good hp _ i x h

/-- What a list of words means, at a value. -/
def meant (ws : List (List UInt8)) (k n : Int) : Out := if (okSum ws && !(ws.any pieceW)) && okB k n then mean ws 0 k n [] [] else wrong 1
theorem meant_good (ws : List (List UInt8)) (k n : Int) : Good (meant ws k n) := by
  unfold meant
  split
  · rename_i h
    simp only [Bool.and_eq_true, Bool.not_eq_true'] at h
    obtain ⟨⟨h1, h2⟩, h3⟩ := h
    exact mean_good h2 (ok_head h1).2.2.1 k n [] [] h3 (fun b hb => by cases hb) (by simp) short_nil
  · exact good_wrong (Or.inr (Or.inl rfl))

end Go.Proofs.YtkhjbhkbknennaaGreatDoor.L2
