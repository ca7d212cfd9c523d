/-
  What is thrown and caught at once, and what is kept, on lists: nothing of the program stands here.
-/
import Derived.Test.YtkhjbhkbknennaaGreatDoorS6
namespace Go.Proofs.YtkhjbhkbknennaaGreatDoor.L2
open S1 L1

theorem app_get {ws r : List (List UInt8)} {i : Nat} {x : List UInt8} (h : ws[i]? = some x) : (ws ++ r)[i]? = some x := by
  have := (List.getElem?_eq_some_iff.1 h).1
  rw [List.getElem?_append_left this]
  exact h
theorem headEnd_app {ws r : List (List UInt8)} {e e' : Nat} (h : headEnd ws e = some e') : headEnd (ws ++ r) e = some e' := by
  unfold headEnd at h ⊢
  split at h
  · cases h
  · rename_i x hx
    rw [app_get hx]
    simp only
    split at h
    · cases h
    · rename_i hn
      rw [if_neg hn]
      split at h
      · rename_i hb
        rw [if_pos hb]
        split at h
        · cases h
        · rename_i y hy
          rw [app_get hy]
          exact h
      · rename_i hb
        rw [if_neg hb]
        exact h
theorem kids_app {ws r : List (List UInt8)} {i : Nat} (h : i < ws.length) : kids (ws ++ r) i = kids ws i := by
  unfold kids
  simp [List.getD, List.getElem?_append_left h]
theorem after_app {ws r : List (List UInt8)} : ∀ (f k e x : Nat), 4 * (ws.length - e) + k ≤ f → e ≤ ws.length → after ws k e = some x → after (ws ++ r) k e = some x := by
  intro f
  induction f with
  | zero =>
    intro k e x hf he h
    have : k = 0 := by omega
    subst this
    exact h
  | succ f ih =>
    intro k e x hf he h
    cases k with
    | zero => exact h
    | succ m =>
      rw [after_succ] at h ⊢
      cases hh : headEnd ws e with
      | none => rw [hh] at h; cases h
      | some e' =>
        rw [hh] at h
        simp only at h
        have hb := headEnd_bd hh
        have hk := kids_le ws e
        rw [headEnd_app hh, kids_app (by omega)]
        exact ih _ _ _ (by omega) hb.2 h
theorem after_pre {a ws : List (List UInt8)} {k e x : Nat} (he : e ≤ ws.length) (h : after ws k e = some x) : after (a ++ ws) k (a.length + e) = some (a.length + x) := by
  have h1 := after_drop (a ++ ws) a.length _ k (a.length + e) (Nat.le_refl _) (by omega) (by simp; omega)
  rw [List.drop_left, Nat.add_sub_cancel_left, h] at h1
  cases h2 : after (a ++ ws) k (a.length + e) with
  | none => rw [h2] at h1; cases h1
  | some z =>
    rw [h2] at h1
    have h3 := after_bd _ _ _ (by simp; omega) h2
    simp only [Option.map_some, Option.some.injEq] at h1
    congr 1
    omega
/-- A sum stands within a list as it stands alone. -/
theorem mid_after {a ws r : List (List UInt8)} (h : after ws 1 0 = some ws.length) : after (a ++ (ws ++ r)) 1 a.length = some (a.length + ws.length) ∧ mean (a ++ (ws ++ r)) a.length = mean ws 0 := by
  have h1 := after_app (r := r) _ 1 0 _ (Nat.le_refl _) (Nat.zero_le _) h
  have h2 := after_pre (a := a) (Nat.zero_le _) h1
  rw [Nat.add_zero] at h2
  refine ⟨h2, ?_⟩
  have h3 := (sub_after (by simp) h2).2.2
  rw [Nat.add_sub_cancel_left, List.drop_left, List.take_left] at h3
  exact h3.symm

/-- The head of a list, as it is written out. -/
theorem head_at {ws : List (List UInt8)} {i : Nat} {x : List UInt8} (hx : ws[i]? = some x) (hn : ¬ needs x < 0) (hb : bindW x = false) : headEnd ws i = some (i + 1) ∧ kids ws i = (needs x).toNat ∧ ws.getD i [] = x := by
  have hg : ws.getD i [] = x := by simp [List.getD, hx]
  refine ⟨?_, by unfold kids; rw [hg], hg⟩
  unfold headEnd
  rw [hx]
  simp only
  rw [if_neg hn, hb]
  rfl
theorem after_head {ws : List (List UInt8)} {i e m : Nat} (he : headEnd ws i = some e) : after ws (m + 1) i = after ws (kids ws i + m) e := by rw [after_succ, he]
theorem row_two {ws : List (List UInt8)} {e y : Nat} (h : after ws 1 e = some y) : row ws 2 e = [e, y] := by rw [row, row, row, h, Option.getD_some]
theorem row_one (ws : List (List UInt8)) (e : Nat) : row ws 1 e = [e] := rfl
theorem any_app (ws r : List (List UInt8)) : (ws ++ r).any pieceW = (ws.any pieceW || r.any pieceW) := List.any_append

theorem try_sum {ws : List (List UInt8)} (h : okSum ws = true) (hl : ws.length ≤ 56) : okSum ([[116, 114, 121], [116, 104, 114, 111, 119]] ++ (ws ++ [[97, 114, 103]])) = true ∧ mean ([[116, 114, 121], [116, 104, 114, 111, 119]] ++ (ws ++ [[97, 114, 103]])) 0 = tryD (throwD (mean ws 0)) argD := by
  obtain ⟨_, _, h1, _⟩ := ok_head h
  obtain ⟨m1, m2⟩ := mid_after (a := [[116, 114, 121], [116, 104, 114, 111, 119]]) (r := [[97, 114, 103]]) h1
  have hA : ([[116, 114, 121], [116, 104, 114, 111, 119]] ++ (ws ++ [[97, 114, 103]])).length = ws.length + 3 := by first | (simp; done) | (simp; omega)
  have g0 : ([[116, 114, 121], [116, 104, 114, 111, 119]] ++ (ws ++ [[97, 114, 103]]))[0]? = some [116, 114, 121] := rfl
  have g1 : ([[116, 114, 121], [116, 104, 114, 111, 119]] ++ (ws ++ [[97, 114, 103]]))[1]? = some [116, 104, 114, 111, 119] := rfl
  have g2 : ([[116, 114, 121], [116, 104, 114, 111, 119]] ++ (ws ++ [[97, 114, 103]]))[2 + ws.length]? = some [97, 114, 103] := by
    rw [List.getElem?_append_right (by simp), List.getElem?_append_right (by simp)]
    simp
  generalize [[116, 114, 121], [116, 104, 114, 111, 119]] ++ (ws ++ [[97, 114, 103]]) = A at m1 m2 hA g0 g1 g2 ⊢
  simp only [List.length_cons, List.length_nil] at m1 m2
  obtain ⟨a0, b0, c0⟩ := head_at g0 (by decide +kernel) (by decide +kernel)
  obtain ⟨a1, b1, c1⟩ := head_at g1 (by decide +kernel) (by decide +kernel)
  obtain ⟨a2, b2, c2⟩ := head_at g2 (by decide +kernel) (by decide +kernel)
  have k0 : kids A 0 = 2 := by rw [b0]; decide +kernel
  have k1 : kids A 1 = 1 := by rw [b1]; decide +kernel
  have k2 : kids A (2 + ws.length) = 0 := by rw [b2]; decide +kernel
  have e2 : after A 1 (2 + ws.length) = some (ws.length + 3) := by
    rw [after_head a2, k2]
    show some (2 + ws.length + 1) = _
    congr 1
    omega
  have e1 : after A 1 1 = some (2 + ws.length) := by
    rw [after_head a1, k1]
    exact m1
  have e0 : after A 1 0 = some (ws.length + 3) := by
    rw [after_head a0, k0, show 2 + 0 = 1 + 1 from rfl, after_add, e1]
    exact e2
  refine ⟨?_, ?_⟩
  · unfold okSum
    rw [hA, e0]
    simp
    omega
  · rw [mean_eq a0 e0, c0, k0, row_two e1]
    have ca : code [116, 114, 121] = 11 := by decide +kernel
    rw [ca]
    have s1 : mean A 1 = throwD (mean ws 0) := by
      rw [mean_eq a1 e1, c1, k1, row_one]
      have cb : code [116, 104, 114, 111, 119] = 3 := by decide +kernel
      rw [cb, ← m2]
      rfl
    have s2 : mean A (2 + ws.length) = argD := by
      rw [mean_eq a2 e2, c2]
      have cb : code [97, 114, 103] = 0 := by decide +kernel
      rw [cb]
      rfl
    rw [← s1, ← s2]
    rfl

theorem keep_sum {ws : List (List UInt8)} (h : okSum ws = true) (hl : ws.length ≤ 56) : okSum ([[107, 101, 101, 112]] ++ (ws ++ [[115, 97, 121], [56]])) = true ∧ mean ([[107, 101, 101, 112]] ++ (ws ++ [[115, 97, 121], [56]])) 0 = keepD (mean ws 0) (sayD (numD 8)) := by
  obtain ⟨_, _, h1, _⟩ := ok_head h
  obtain ⟨m1, m2⟩ := mid_after (a := [[107, 101, 101, 112]]) (r := [[115, 97, 121], [56]]) h1
  have hA : ([[107, 101, 101, 112]] ++ (ws ++ [[115, 97, 121], [56]])).length = ws.length + 3 := by simp
  have g0 : ([[107, 101, 101, 112]] ++ (ws ++ [[115, 97, 121], [56]]))[0]? = some [107, 101, 101, 112] := rfl
  have g1 : ([[107, 101, 101, 112]] ++ (ws ++ [[115, 97, 121], [56]]))[1 + ws.length]? = some [115, 97, 121] := by
    rw [List.getElem?_append_right (by simp), List.getElem?_append_right (by simp)]
    simp
  have g2 : ([[107, 101, 101, 112]] ++ (ws ++ [[115, 97, 121], [56]]))[1 + ws.length + 1]? = some [56] := by
    rw [List.getElem?_append_right (by first | (simp; done) | (simp; omega)), List.getElem?_append_right (by first | (simp; done) | (simp; omega))]
    rw [show 1 + ws.length + 1 - ([[107, 101, 101, 112]] : List (List UInt8)).length - ws.length = 1 from by first | (simp; done) | (simp; omega)]
    rfl
  generalize [[107, 101, 101, 112]] ++ (ws ++ [[115, 97, 121], [56]]) = A at m1 m2 hA g0 g1 g2 ⊢
  simp only [List.length_cons, List.length_nil, Nat.zero_add] at m1 m2
  obtain ⟨a0, b0, c0⟩ := head_at g0 (by decide +kernel) (by decide +kernel)
  obtain ⟨a1, b1, c1⟩ := head_at g1 (by decide +kernel) (by decide +kernel)
  obtain ⟨a2, b2, c2⟩ := head_at g2 (by decide +kernel) (by decide +kernel)
  have k0 : kids A 0 = 2 := by rw [b0]; decide +kernel
  have k1 : kids A (1 + ws.length) = 1 := by rw [b1]; decide +kernel
  have k2 : kids A (1 + ws.length + 1) = 0 := by rw [b2]; decide +kernel
  have e2 : after A 1 (1 + ws.length + 1) = some (ws.length + 3) := by
    rw [after_head a2, k2]
    show some (1 + ws.length + 1 + 1) = _
    congr 1
    omega
  have e1 : after A 1 (1 + ws.length) = some (ws.length + 3) := by
    rw [after_head a1, k1]
    exact e2
  have e0 : after A 1 0 = some (ws.length + 3) := by
    rw [after_head a0, k0, show 2 + 0 = 1 + 1 from rfl, after_add, m1]
    exact e1
  refine ⟨?_, ?_⟩
  · unfold okSum
    rw [hA, e0]
    simp
    omega
  · rw [mean_eq a0 e0, c0, k0, row_two m1]
    have ca : code [107, 101, 101, 112] = 9 := by decide +kernel
    rw [ca]
    have s2 : mean A (1 + ws.length + 1) = numD 8 := by
      rw [mean_eq a2 e2, c2]
      have cb : code [56] = 14 := by decide +kernel
      have cn : P1.rdN [56] = 8 := by decide +kernel
      rw [cb, ← cn]
      rfl
    have s1 : mean A (1 + ws.length) = sayD (numD 8) := by
      rw [mean_eq a1 e1, c1, k1, row_one]
      have cb : code [115, 97, 121] = 2 := by decide +kernel
      rw [cb, ← s2]
      rfl
    rw [← s1, ← m2]
    rfl

theorem meant_yes {ws : List (List UInt8)} {k n : Int} (h : okSum ws = true) (hp : ws.any pieceW = false) (hk : okB k n = true) : meant ws k n = mean ws 0 k n [] [] := by
  unfold meant
  rw [h, hp, hk]
  rfl
theorem meant_ok {ws : List (List UInt8)} {k n : Int} (h : (meant ws k n).code = 0) : okSum ws = true ∧ ws.any pieceW = false ∧ okB k n = true := by
  unfold meant at h
  split at h
  · rename_i hh
    simp only [Bool.and_eq_true, Bool.not_eq_true'] at hh
    exact ⟨hh.1.1, hh.1.2, hh.2⟩
  · cases h
theorem meant_try {ws : List (List UInt8)} {k n : Int} (h : (meant ws k n).code = 0) (hl : ws.length ≤ 56) : meant ([[116, 114, 121], [116, 104, 114, 111, 119]] ++ (ws ++ [[97, 114, 103]])) k n = ⟨(meant ws k n).k, (meant ws k n).n, false, (meant ws k n).said, 0⟩ := by
  obtain ⟨h1, h2, h3⟩ := meant_ok h
  obtain ⟨t1, t2⟩ := try_sum h1 hl
  rw [meant_yes t1 (by rw [any_app, any_app, h2]; decide +kernel) h3, t2]
  rw [meant_yes h1 h2 h3] at h ⊢
  unfold tryD throwD
  generalize mean ws 0 k n [] [] = o at h
  cases ht : o.thr
  · have e : thenD o (fun a => ⟨a.k, a.n, true, a.said, 0⟩) = ⟨o.k, o.n, true, o.said, 0⟩ := by
      unfold thenD
      rw [ht, h]
      simp
    rw [e]
    rfl
  · have e : thenD o (fun a => ⟨a.k, a.n, true, a.said, 0⟩) = o := by
      unfold thenD
      rw [ht]
      simp
    rw [e, ht]
    rfl
theorem meant_keep {ws : List (List UInt8)} {k n : Int} (h : (meant ws k n).code = 0) (hl : ws.length ≤ 56) (hs : (meant ws k n).said.length ≠ 40) : meant ([[107, 101, 101, 112]] ++ (ws ++ [[115, 97, 121], [56]])) k n = ⟨(meant ws k n).k, (meant ws k n).n, (meant ws k n).thr, (meant ws k n).said ++ [⟨#[56]⟩], 0⟩ := by
  obtain ⟨h1, h2, h3⟩ := meant_ok h
  obtain ⟨t1, t2⟩ := keep_sum h1 hl
  rw [meant_yes t1 (by rw [any_app, any_app, h2]; decide +kernel) h3, t2]
  rw [meant_yes h1 h2 h3] at h hs ⊢
  unfold keepD sayD numD
  generalize mean ws 0 k n [] [] = o at h hs
  rw [h, if_pos rfl]
  have hv : valB 0 8 = ⟨#[56]⟩ := by
    unfold valB
    have : L1.showB 0 8 = [56] := by decide +kernel
    rw [this]
  unfold thenD
  simp [hs, hv]

end Go.Proofs.YtkhjbhkbknennaaGreatDoor.L2
