/-
  Gathered in one text, in this order: W9, W10, W11, W12, W13.
-/
import Derived.Test.YthlpjpoekfhnfaaDoorGW
/-
  Rows of numbers that a call makes: what they hold, and what appending leaves of them.
-/
namespace Go.Proofs.YthlpjpoekfhnfaaDoor
open Go.RowKit
namespace L2
open S1 L1

theorem add0 (g j : Nat) : (⟨g, 0, none⟩ : Addr).add j = ⟨g, j, none⟩ := by unfold Addr.add; split <;> simp_all
def numV (k : Nat) : Value := .int .i64 (k : Int)
/-- A row of numbers in a block from B on, to which may be appended. -/
def OwI (w : World) (B : Nat) (v : Value) (xs : List Nat) : Prop :=
  w.ownsRow B 2 1 v xs.length (xs.map numV) ∧ v ≠ .slice none 0 0

theorem OwI.form {w : World} {B : Nat} {v : Value} {xs : List Nat} (h : OwI w B v xs) : ∃ g cap, v = .slice (some ⟨g, 0, none⟩) xs.length cap ∧ xs.length ≤ cap ∧ cap ≤ maxLen ∧ B ≤ g ∧ g < w.heap.size ∧ ∀ i, i < xs.length → w.cell? ⟨g, i, none⟩ = some (.int .i64 ((xs.getD i 0 : Nat) : Int)) ∧ w.frozen? ⟨g, i, none⟩ = false := by
  obtain ⟨ho, hn⟩ := h
  rcases ho.2 with ⟨hv, _⟩ | ⟨g, cap, cur, hv, hb, hg, h1, h2, hs, ht⟩
  · exact absurd hv hn
  · refine ⟨g, cap, hv, h1, h2, hb, (Array.getElem?_eq_some_iff.1 hg).1, fun i hi => ⟨?_, by simp [World.frozen?, hg]⟩⟩
    have hl : (xs.map numV)[i]? = some (.int .i64 ((xs.getD i 0 : Nat) : Int)) := by
      simp [List.getD, hi, numV]
    have := ho.cells (g := g) (by rw [hv]; rfl) i _ hl
    have hadd : (⟨g, 0, none⟩ : Addr).add i = ⟨g, i, none⟩ := by unfold Addr.add; split <;> simp_all
    rwa [hadd] at this
theorem OwI.kept {w w' : World} {B : Nat} {v : Value} {xs : List Nat} {row : Option Nat} (h : OwI w B v xs) (hg : w.grownBy w' row) (hne : v.ownBlock ≠ row) : OwI w' B v xs :=
  ⟨h.1.kept hg (Or.inr hne), h.2⟩
theorem OwI.below {w w' : World} {B : Nat} {v : Value} {xs : List Nat} (h : OwI w B v xs) (hb : Below w.heap.size w w') : OwI w' B v xs := by
  obtain ⟨g, cap, rfl, _⟩ := h.form
  exact h.kept (D.grown_of_below hb none) (by simp [Value.ownBlock])
theorem OwI.alloc {w : World} {B : Nat} {v : Value} {xs : List Nat} (h : OwI w B v xs) (o : Obj) : OwI (w.alloc o) B v xs := ⟨h.1.alloc o, h.2⟩
theorem OwI.base {w : World} {B B' : Nat} {v : Value} {xs : List Nat} (h : OwI w B v xs) (hB : B' ≤ B) : OwI w B' v xs := by
  obtain ⟨ho, hn⟩ := h
  refine ⟨⟨ho.1, ?_⟩, hn⟩
  rcases ho.2 with hv | ⟨g, cap, cur, hv, hb, rest⟩
  · exact Or.inl hv
  · exact Or.inr ⟨g, cap, cur, hv, Nat.le_trans hB hb, rest⟩
theorem owI_new (w : World) (B : Nat) (hB : B ≤ w.heap.size) : OwI (w.alloc (.cells #[] 2)) B (.slice (some ⟨w.heap.size, 0, none⟩) 0 0) [] :=
  ⟨World.ownsRow_made w #[] 0 hB (by unfold maxLen; omega) (by simp), by simp⟩

theorem i64_info' : (Tryd.prog.info? 2).map (fun i => (i.zero, i.size, i.bytes)) = some (some (.int .i64 0), 1, 8) := by kernel_rfl
theorem i64_info : ∃ i, Tryd.prog.info? 2 = some i ∧ i.zero = some (.int .i64 0) ∧ i.size = 1 ∧ i.bytes = 8 := by
  have h := i64_info'
  cases hi : Tryd.prog.info? 2 with
  | none => rw [hi] at h; cases h
  | some i =>
    rw [hi] at h
    simp only [Option.map_some, Option.some.injEq, Prod.mk.injEq] at h
    exact ⟨i, rfl, h.1, h.2.1, h.2.2⟩

/-- Appending numbers that lie at an address. -/
theorem run_appI (w : World) (B : Nat) (v : Value) (xs : List Nat) (hown : OwI w B v xs) (g : Nat) (ys : List Nat) (c : Nat)
    (hsrc : ∀ j, j < ys.length → w.cell? ⟨g, j, none⟩ = some (.int .i64 ((ys.getD j 0 : Nat) : Int))) (hs : xs.length + ys.length ≤ 10000000) (hB : B ≤ w.heap.size) :
    ∃ v' w', (Builtin.append_ #[26, 26] 26 #[v, .slice (some ⟨g, 0, none⟩) ys.length c]).run Tryd.prog w = .ok v' w' ∧ OwI w' B v' (xs ++ ys) ∧ w.grownBy w' v.ownBlock := by
  obtain ⟨ho, hn⟩ := hown
  obtain ⟨i, hi, hz, hsz, hby⟩ := i64_info
  obtain ⟨v', w', hr, h2, h3, h4, h5⟩ := run_append_own_at (P := Tryd.prog) w B 26 26 2 i (.int .i64 0) 1 8 Tryd.underlying26 hi hz hsz hby rfl (by omega) v xs.length _ ho ⟨g, 0, none⟩ ys.length c (ys.map numV) (by simp)
    (fun j u hj => by
      simp only [List.getElem?_map, Option.map_eq_some_iff] at hj
      obtain ⟨a, ha, rfl⟩ := hj
      have hlt := (List.getElem?_eq_some_iff.1 ha).1
      have := hsrc j hlt
      rw [add0]
      simpa [List.getD, ha, numV] using this)
    (fun u hu => by
      simp only [List.mem_map] at hu
      obtain ⟨a, _, rfl⟩ := hu
      rfl) (by unfold maxLen; omega) (by omega) hB
  refine ⟨v', w', hr, ⟨?_, fun e => hn (h4.1 e).1⟩, h3⟩
  rw [List.map_append, List.length_append]
  exact h2

end L2
end Go.Proofs.YthlpjpoekfhnfaaDoor

/-
  The model's reader of a sum: where it, and all in it, begin, and where it ends.
-/
namespace Go.Proofs.YthlpjpoekfhnfaaDoor
open Go.RowKit
namespace L2
open S1 L1

/-- What reading leaves: no sum; or where it and all in it begin, in a new row, and where it ends. -/
def Starts (r : Option (List Nat × Nat)) (w : World) (e : Ending) (w' : World) : Prop :=
  Below w.heap.size w w' ∧ ((r = none ∧ ∃ v, e = .returned (.tuple #[v, .int .i64 (-1)])) ∨ ∃ m k v, r = some (m, k) ∧ e = .returned (.tuple #[v, .int .i64 ((k : Nat) : Int)]) ∧ OwI w' w.heap.size v m)

theorem many_len {g : Nat → Option (List Nat × Nat)} (hg : ∀ e r, g e = some r → r.1 ≠ [] ∧ e < r.2 ∧ r.1.length ≤ r.2 - e) (i : Nat) : ∀ (k : Nat) (acc : List Nat) (e : Nat) r, acc ≠ [] → i < e → acc.length ≤ e - i → many g k acc e = some r → r.1 ≠ [] ∧ r.1.length ≤ r.2 - i := by
  intro k
  induction k with
  | zero => intro acc e r h0 _ h1 h; cases h; exact ⟨h0, h1⟩
  | succ k ih =>
    intro acc e r h0 hie h1 h
    unfold many at h
    split at h
    · cases h
    · rename_i r1 hr1
      obtain ⟨a, b, c⟩ := hg e r1 hr1
      exact ih _ _ _ (by simp [h0]) (by omega) (by rw [List.length_append]; omega) h
theorem st_len (f : Nat) (ws : List (List UInt8)) : ∀ i r, st f ws i = some r → r.1 ≠ [] ∧ i < r.2 ∧ r.1.length ≤ r.2 - i := by
  induction f with
  | zero => intro i r h; cases h
  | succ f ih =>
    intro i r h
    have hb := (st_bd _ _ _ _ h).1
    unfold st at h
    split at h
    · cases h
    · rename_i e he
      have := headEnd_bd he
      obtain ⟨a, b⟩ := many_len ih i _ _ _ _ (by simp) this.1 (by simp; omega) h
      exact ⟨a, hb, b⟩

theorem st_none {f : Nat} {ws : List (List UInt8)} {i : Nat} (h : headEnd ws i = none) : st (f + 1) ws i = none := by rw [st, h]
theorem head_far {ws : List (List UInt8)} {i : Nat} (h : ws.length ≤ i) : headEnd ws i = none := by unfold headEnd; rw [List.getElem?_eq_none h]
theorem head_bad {ws : List (List UInt8)} {i : Nat} {x : List UInt8} (hx : ws[i]? = some x) (h : needs x < 0) : headEnd ws i = none := by unfold headEnd; rw [hx]; simp [h]
theorem head_plain {ws : List (List UInt8)} {i : Nat} {x : List UInt8} (hx : ws[i]? = some x) (h : ¬ needs x < 0) (hb : bindW x = false) : headEnd ws i = some (i + 1) := by unfold headEnd; rw [hx]; simp [h, hb]
theorem head_bind_far {ws : List (List UInt8)} {i : Nat} {x : List UInt8} (hx : ws[i]? = some x) (hb : bindW x = true) (hl : ws.length ≤ i + 1) : headEnd ws i = none := by
  unfold headEnd
  rw [hx, List.getElem?_eq_none hl]
  simp [hb]
theorem head_bind {ws : List (List UInt8)} {i : Nat} {x y : List UInt8} (hx : ws[i]? = some x) (h : ¬ needs x < 0) (hb : bindW x = true) (hy : ws[i + 1]? = some y) : headEnd ws i = if nameW y then some (i + 2) else none := by
  unfold headEnd
  rw [hx, hy]
  simp [h, hb]
theorem st_of {f : Nat} {ws : List (List UInt8)} {i e : Nat} (h : headEnd ws i = some e) : st (f + 1) ws i = many (st f ws) (kids ws i) [i] e := by rw [st, h]
theorem kids_of {ws : List (List UInt8)} {i : Nat} {x : List UInt8} (hx : ws[i]? = some x) : kids ws i = (needs x).toNat := by unfold kids; simp [List.getD, hx]

end L2
end Go.Proofs.YthlpjpoekfhnfaaDoor

/-
  The model's reader of a sum: its walk.
-/
namespace Go.Proofs.YthlpjpoekfhnfaaDoor
open Go.RowKit
namespace L2
open S1 L1

/-- 'append', where the run of it is known: a step of the walk. -/
theorem wp_app {T : TypeId} {ops : Array Oper} {rest : List Oper} {o : Oper} {a : Act} {w : World} {Q : Exit → Act → World → Prop} (hgd : o.guard = none) (s x : Operand)
    (ho : o.op = .call { callee := .builtin .append, args := #[s, x], argTypes := #[T, T] }) (hty : o.type = T) (v u : Value) (hs : a.eval s = v) (hx : a.eval x = u)
    {v' : Value} {w' : World} (hr : (Builtin.append_ #[T, T] T #[v, u]).run Tryd.prog w = .ok v' w') (h : wpList Tryd.prog ops Q rest (a.put o.dst v') w') : wpList Tryd.prog ops Q (o :: rest) a w := by
  refine wpList_plain hgd fun K hK => ?_
  unfold Oper.wp execOp
  simp only [ho, hty, resolve, invoke, builtin, Sem.run_bind, Sem.run_pure, Result.andThen_ok, List.map_toArray, List.map_cons, List.map_nil, hs, hx, hr]
  exact hK _ _ h

theorem run_app1 (w : World) (B : Nat) (v : Value) (xs : List Nat) (hown : OwI w B v xs) (g k : Nat)
    (hc : w.cell? ⟨g, 0, none⟩ = some (.int .i64 (k : Int))) (hs : xs.length ≤ 9000000) (hB : B ≤ w.heap.size) :
    ∃ v' w', (Builtin.append_ #[26, 26] 26 #[v, .slice (some ⟨g, 0, none⟩) 1 1]).run Tryd.prog w = .ok v' w' ∧ OwI w' B v' (xs ++ [k]) ∧ w.grownBy w' v.ownBlock :=
  run_appI w B v xs hown g [k] 1 (fun j hj => by
    have : j = 0 := by simpa using hj
    subst this
    exact hc) (by simp; omega) hB

theorem starts_far (v : Value) (ss : List ByteArray) (i : Nat) (w : World) (hR : Row w v ss) (hi : ss.length ≤ i) (hs : ss.length ≤ 1048576) :
    Calls Tryd.prog 46 #[v, .int .i64 (i : Int)] w (Starts none w) := by
  obtain ⟨oa, cap, rfl, h1, h2, h3⟩ := hR
  clear h3
  obtain ⟨n, hn⟩ : ∃ n, ss.length = n := ⟨_, rfl⟩
  rw [hn] at h1 hi hs ⊢
  clear hn
  have hin : inB (i : Int) 0 ((n : Int) - 1) = false := by unfold inB; simp; omega
  go_enter Tryd.func46, Tryd.ntmps46
  go_wp2_with (go_at_call 57; refine (l1In_any _ _ _ _).mono ?_; rintro e w' ⟨rfl, rfl⟩; rw [hin])
  go_ret2
  exact ⟨(Below.refl _ _).alloc (Nat.le_refl _) _, Or.inl ⟨rfl, _, rfl⟩⟩

set_option maxRecDepth 100000 in
set_option maxHeartbeats 8000000 in
theorem starts_any (ss : List ByteArray) (hS : Small ss) (f : Nat) : ∀ (v : Value) (i : Nat) (w : World), Row w v ss → ss.length ≤ i + f →
    Calls Tryd.prog 46 #[v, .int .i64 (i : Int)] w (Starts (st f (wsOf ss) i) w) := by
  obtain ⟨hs1, hs2⟩ := hS
  induction f with
  | zero =>
    intro v i w hR hf
    exact starts_far v ss i w hR hf hs1
  | succ f ih =>
    intro v i w hR hf
    by_cases hlt : i < ss.length
    · have IH := Lib.hid ih
      have HR := Lib.hid hR
      obtain ⟨oa, cap, rfl, h1, h2, h3⟩ := hR
      obtain ⟨b, off, rfl, hb, hc⟩ := h3 i hlt
      have hzs := hs2 i hlt
      have Hz := Lib.hid hs2
      have hws := ws_get hlt
      have hl := ws_len ss
      obtain ⟨s, hs⟩ : ∃ s, ss.getD i ByteArray.empty = s := ⟨_, rfl⟩
      rw [hs] at hc hzs hws
      have H3 := Lib.hid h3
      clear h3 ih hs hs2
      obtain ⟨n, hn⟩ : ∃ n, ss.length = n := ⟨_, rfl⟩
      rw [hn] at h1 hs1 hf hlt hl HR ⊢
      have Hn := Lib.hid hn
      have Hl := Lib.hid hl
      clear hn hl
      unfold maxLen at h2
      have hin : inB (i : Int) 0 ((n : Int) - 1) = true := by unfold inB; simp; omega
      have hi0 : (0 : Int) ≤ (i : Int) := by omega
      have hin1 : (i : Int) < (n : Int) := by omega
      by_cases hneg : needs s.toList < 0
      · rw [st_none (head_bad hws hneg)]
        clear hws
        go_enter Tryd.func46, Tryd.ntmps46
        go_wp2_with (first | (go_at_call 57; refine (l1In_any _ _ _ _).mono ?_; rintro e w' ⟨rfl, rfl⟩; rw [hin]) | (go_at_call 17; refine (specNeeds_any s (by unfold maxLen; omega) _).mono ?_; rintro e w' ⟨rfl, rfl⟩))
        go_ret2
        exact ⟨(Below.refl _ _).alloc (Nat.le_refl _) _, Or.inl ⟨rfl, _, rfl⟩⟩
      · have hok : okW s.toList = true := by unfold okW; simp; omega
        obtain ⟨kd, hkd, hk3, hkn⟩ := needs_nat hok
        have hcn := specNeeds_any s (by unfold maxLen; omega)
        rw [hkd] at hcn
        have Hcn := Lib.hid hcn
        have hkids : kids (wsOf ss) i = kd := by rw [kids_of hws, hkn]
        clear hcn
        cases hbw : bindW s.toList
        · rw [st_of (head_plain hws hneg hbw), hkids]
          obtain ⟨R, hRR⟩ : ∃ R, many (st f (wsOf ss)) kd [i] (i + 1) = R := ⟨_, rfl⟩
          rw [hRR]
          have HM := Lib.hid hRR
          have hb1 : (s.toList == [98, 105, 110, 100]) = false := by unfold bindW at hbw; rw [Bool.or_eq_false_iff] at hbw; exact hbw.1
          have hb2 : (s.toList == [97, 115, 107]) = false := by unfold bindW at hbw; rw [Bool.or_eq_false_iff] at hbw; exact hbw.2
          clear hbw hkids hok hneg hws hkn hkd hRR
          go_enter Tryd.func46, Tryd.ntmps46
          go_wp2_with fail
          have hO0 := owI_new w w.heap.size (Nat.le_refl _)
          have hB0 : Below w.heap.size w (w.alloc (.cells #[] 2)) := (Below.refl _ _).alloc (Nat.le_refl _) _
          have hc0 := (hB0.cell (p := ⟨b, off + i, none⟩) hb).trans hc
          generalize Value.slice (some ⟨w.heap.size, 0, none⟩) 0 0 = v0 at hO0 ⊢
          generalize w.alloc (.cells #[] 2) = w0 at hO0 hB0 hc0 ⊢
          obtain ⟨v1, w1, hr1, ho1, hg1⟩ := run_app1 (w0.alloc (.cells #[.int .i64 (i : Int)] 2)) w.heap.size v0 [] (hO0.alloc _) w0.heap.size i (by simp [go_sem]) (by simp) (by have := hB0.size; simp; omega)
          obtain ⟨go0, co0, hov0, _, _, hgo0, _, _⟩ := hO0.form
          have HB1 : Hid (Below w.heap.size w w1) := Lib.hid ((hB0.alloc hB0.size _).grown hg1 (by have := hB0.size; simp; omega) (fun q e => by rw [hov0] at e; simp [Value.ownBlock] at e; omega))
          have HO1 := Lib.hid ho1
          have HR1 := Lib.hid hr1
          clear hr1 ho1 hg1 hO0 hB0 hov0
          refine (l1In_any _ _ _ _).mono ?_
          rintro e w' ⟨rfl, rfl⟩
          rw [hin]
          go_wp2_with (first | (go_at_call 17; refine (Hcn.out _).mono ?_; rintro e w' ⟨rfl, rfl⟩) | (at_builtin; refine wp_app rfl _ _ rfl rfl _ _ rfl rfl HR1.out ?_))
          go_loopw [6, 7, 8] (fun o q e wr => ∃ (k x : Nat) (acc : List Nat), OwI wr w.heap.size o acc ∧ q = .int .i64 (k : Int) ∧ e = .int .i64 (x : Int) ∧ Below w.heap.size w wr ∧ many (st f (wsOf ss)) k acc x = R ∧ x ≤ n ∧ i < x ∧ acc.length ≤ x - i ∧ k ≤ 3) (fun _ q _ _ => (intOf q).toNat)
          case atStart => exact ⟨kd, i + 1, [i], HO1.out, rfl, by go_num, HB1.out, HM.out, by omega, by omega, by simp, hk3⟩
          case round =>
            obtain ⟨k, x, acc, hO, rfl, rfl, hB, hM, hx, hix, hal, hk⟩ := hrel
            obtain ⟨go1, co1, rfl, hq1, hq2, hgo1, hgw1, _⟩ := hO.form
            have HO := Lib.hid hO
            have HB := Lib.hid hB
            have HMr := Lib.hid hM
            clear hO hB hM
            cases k with
            | zero =>
              go_wp2_with fail
              go_ret2
              exact ⟨HB.out, Or.inr ⟨acc, x, _, HMr.out.symm, rfl, HO.out⟩⟩
            | succ k =>
              go_wp2_with fail
              refine (IH.out _ x wr (HR.out.below HB.out) (by rw [Hn.out]; omega)).mono ?_
              rintro e w2 ⟨hb2, ⟨hr, vm, rfl⟩ | ⟨m, y, vm, hr, rfl, hom⟩⟩
              · have HB2 := Lib.hid (HB.out.trans (hb2.mono HB.out.size))
                have hR : R = none := by rw [← HMr.out, many, hr]
                clear hb2 hr
                have HR2 := Lib.hid hR
                clear hR
                go_wp2_with fail
                go_ret2
                exact ⟨HB2.out.alloc HB2.out.size _, Or.inl ⟨HR2.out, _, rfl⟩⟩
              · have HB2 := Lib.hid (HB.out.trans (hb2.mono HB.out.size))
                have hyb := st_bd _ _ _ _ hr
                have hyl := st_len _ _ _ _ hr
                simp only at hyb hyl
                rw [Hl.out] at hyb
                have HM2 : Hid (many (st f (wsOf ss)) k (acc ++ m) y = R) := Lib.hid (by rw [← HMr.out, many, hr])
                have hO2 := HO.out.below hb2
                obtain ⟨g, cap2, rfl, hc1, hc2, hg1, hg2, hcs⟩ := hom.form
                obtain ⟨v3, w3, hr3, ho3, hg3⟩ := run_appI w2 w.heap.size _ acc hO2 g m cap2 (fun j hj => (hcs j hj).1) (by omega) HB2.out.size
                have HB3 : Hid (Below w.heap.size w w3) := Lib.hid (HB2.out.grown hg3 HB2.out.size (fun q e => by simp [Value.ownBlock] at e; omega))
                have HO3 := Lib.hid ho3
                have HR3 := Lib.hid hr3
                have hyx : ¬ ((y : Nat) : Int) < 0 := by omega
                have hml : m.length ≤ y - x := hyl.2.2
                clear hb2 hr hO2 hcs ho3 hg3 hr3 hyl hom
                go_wp2_with (at_builtin; refine wp_app rfl _ _ rfl rfl _ _ rfl rfl HR3.out ?_)
                go_roundw
                case rel => exact ⟨k, y, acc ++ m, HO3.out, by go_num, rfl, HB3.out, HM2.out, by omega, by omega, by rw [List.length_append]; omega, by omega⟩
                case measure => simp [intOf]
        · by_cases hend : n ≤ i + 1
          · rw [st_none (head_bind_far hws hbw (by rw [Hl.out]; exact hend))]
            have hge : (n : Int) ≤ (i : Int) + 1 := by omega
            clear hkids hok hneg hws hkn hkd
            have hor : (s.toList == [98, 105, 110, 100]) = true ∨ ((s.toList == [98, 105, 110, 100]) = false ∧ (s.toList == [97, 115, 107]) = true) := by
              unfold bindW at hbw
              cases h : (s.toList == [98, 105, 110, 100])
              · rw [h] at hbw; exact Or.inr ⟨rfl, by simpa using hbw⟩
              · exact Or.inl rfl
            clear hbw
            rcases hor with hb1 | ⟨hb1, hb2⟩
            all_goals
              go_enter Tryd.func46, Tryd.ntmps46
              go_wp2_with fail
              have hd : True := trivial
              have hB0 : Below w.heap.size w (w.alloc (.cells #[] 2)) := (Below.refl _ _).alloc (Nat.le_refl _) _
              have hc0 := (hB0.cell (p := ⟨b, off + i, none⟩) hb).trans hc
              refine (l1In_any _ _ _ _).mono ?_
              rintro e w' ⟨rfl, rfl⟩
              rw [hin]
              go_wp2_with (go_at_call 17; refine (Hcn.out _).mono ?_; rintro e w' ⟨rfl, rfl⟩)
              go_ret2
              exact ⟨hB0, Or.inl ⟨rfl, _, rfl⟩⟩
          · have hlt2 : i + 1 < n := by omega
            have hlt3 : (i : Int) + 1 < (n : Int) := by omega
            obtain ⟨b', off', ho', _, hcy⟩ := H3.out (i + 1) (by rw [Hn.out]; exact hlt2)
            cases ho'
            have hzy := Hz.out (i + 1) (by rw [Hn.out]; exact hlt2)
            have hwy := ws_get (ss := ss) (i := i + 1) (by rw [Hn.out]; exact hlt2)
            obtain ⟨y, hy⟩ : ∃ y, ss.getD (i + 1) ByteArray.empty = y := ⟨_, rfl⟩
            rw [hy] at hcy hzy hwy
            have hhe := head_bind hws hneg hbw hwy
            have hor : (s.toList == [98, 105, 110, 100]) = true ∨ ((s.toList == [98, 105, 110, 100]) = false ∧ (s.toList == [97, 115, 107]) = true) := by
              unfold bindW at hbw
              cases h : (s.toList == [98, 105, 110, 100])
              · rw [h] at hbw; exact Or.inr ⟨rfl, by simpa using hbw⟩
              · exact Or.inl rfl
            have hny := l2Name_any y (by unfold maxLen; omega)
            cases hnm : nameW y.toList
            · rw [hnm] at hhe hny
              rw [st_none (by rw [hhe]; rfl)]
              have Hny := Lib.hid hny
              clear hhe hny hnm hwy hy hkids hok hneg hws hkn hkd hbw
              rcases hor with hb1 | ⟨hb1, hb2⟩
              all_goals
                go_enter Tryd.func46, Tryd.ntmps46
                go_wp2_with fail
                have hd : True := trivial
                have hB0 : Below w.heap.size w (w.alloc (.cells #[] 2)) := (Below.refl _ _).alloc (Nat.le_refl _) _
                have hc0 := (hB0.cell (p := ⟨b, off + i, none⟩) hb).trans hc
                have hc0' := (hB0.cell (p := ⟨b, off + (i + 1), none⟩) hb).trans hcy
                refine (l1In_any _ _ _ _).mono ?_
                rintro e w' ⟨rfl, rfl⟩
                rw [hin]
                go_wp2_with (first | (go_at_call 17; refine (Hcn.out _).mono ?_; rintro e w' ⟨rfl, rfl⟩) | (go_at_call 59; refine (Hny.out _).mono ?_; rintro e w' ⟨rfl, rfl⟩))
                go_ret2
                exact ⟨hB0, Or.inl ⟨rfl, _, rfl⟩⟩
            · rw [hnm] at hhe hny
              rw [st_of (e := i + 2) (by rw [hhe]; rfl), hkids]
              obtain ⟨R, hRR⟩ : ∃ R, many (st f (wsOf ss)) kd [i] (i + 2) = R := ⟨_, rfl⟩
              rw [hRR]
              have HM := Lib.hid hRR
              have Hny := Lib.hid hny
              clear hhe hny hnm hwy hy hkids hok hneg hws hkn hkd hRR hbw
              rcases hor with hb1 | ⟨hb1, hb2⟩
              all_goals
                go_enter Tryd.func46, Tryd.ntmps46
                go_wp2_with fail
                have hO0 := owI_new w w.heap.size (Nat.le_refl _)
                have hB0 : Below w.heap.size w (w.alloc (.cells #[] 2)) := (Below.refl _ _).alloc (Nat.le_refl _) _
                have hc0 := (hB0.cell (p := ⟨b, off + i, none⟩) hb).trans hc
                have hc0' := (hB0.cell (p := ⟨b, off + (i + 1), none⟩) hb).trans hcy
                generalize Value.slice (some ⟨w.heap.size, 0, none⟩) 0 0 = v0 at hO0 ⊢
                generalize w.alloc (.cells #[] 2) = w0 at hO0 hB0 hc0 hc0' ⊢
                obtain ⟨v1, w1, hr1, ho1, hg1⟩ := run_app1 (w0.alloc (.cells #[.int .i64 (i : Int)] 2)) w.heap.size v0 [] (hO0.alloc _) w0.heap.size i (by simp [go_sem]) (by simp) (by have := hB0.size; simp; omega)
                obtain ⟨go0, co0, hov0, _, _, hgo0, _, _⟩ := hO0.form
                have HB1 : Hid (Below w.heap.size w w1) := Lib.hid ((hB0.alloc hB0.size _).grown hg1 (by have := hB0.size; simp; omega) (fun q e => by rw [hov0] at e; simp [Value.ownBlock] at e; omega))
                have HO1 := Lib.hid ho1
                have HR1 := Lib.hid hr1
                clear hr1 ho1 hg1 hO0 hB0 hov0
                refine (l1In_any _ _ _ _).mono ?_
                rintro e w' ⟨rfl, rfl⟩
                rw [hin]
                go_wp2_with (first | (go_at_call 17; refine (Hcn.out _).mono ?_; rintro e w' ⟨rfl, rfl⟩) | (go_at_call 59; refine (Hny.out _).mono ?_; rintro e w' ⟨rfl, rfl⟩) | (at_builtin; refine wp_app rfl _ _ rfl rfl _ _ rfl rfl HR1.out ?_))
                go_loopw [6, 7, 8] (fun o q e wr => ∃ (k x : Nat) (acc : List Nat), OwI wr w.heap.size o acc ∧ q = .int .i64 (k : Int) ∧ e = .int .i64 (x : Int) ∧ Below w.heap.size w wr ∧ many (st f (wsOf ss)) k acc x = R ∧ x ≤ n ∧ i < x ∧ acc.length ≤ x - i ∧ k ≤ 3) (fun _ q _ _ => (intOf q).toNat)
                case atStart => exact ⟨kd, i + 2, [i], HO1.out, rfl, by go_num, HB1.out, HM.out, by omega, by omega, by simp, hk3⟩
                case round =>
                  obtain ⟨k, x, acc, hO, rfl, rfl, hB, hM, hx, hix, hal, hk⟩ := hrel
                  obtain ⟨go1, co1, rfl, hq1, hq2, hgo1, hgw1, _⟩ := hO.form
                  have HO := Lib.hid hO
                  have HB := Lib.hid hB
                  have HMr := Lib.hid hM
                  clear hO hB hM
                  cases k with
                  | zero =>
                    go_wp2_with fail
                    go_ret2
                    exact ⟨HB.out, Or.inr ⟨acc, x, _, HMr.out.symm, rfl, HO.out⟩⟩
                  | succ k =>
                    go_wp2_with fail
                    refine (IH.out _ x wr (HR.out.below HB.out) (by rw [Hn.out]; omega)).mono ?_
                    rintro e w2 ⟨hb2, ⟨hr, vm, rfl⟩ | ⟨m, y, vm, hr, rfl, hom⟩⟩
                    · have HB2 := Lib.hid (HB.out.trans (hb2.mono HB.out.size))
                      have hR : R = none := by rw [← HMr.out, many, hr]
                      clear hb2 hr
                      have HR2 := Lib.hid hR
                      clear hR
                      go_wp2_with fail
                      go_ret2
                      exact ⟨HB2.out.alloc HB2.out.size _, Or.inl ⟨HR2.out, _, rfl⟩⟩
                    · have HB2 := Lib.hid (HB.out.trans (hb2.mono HB.out.size))
                      have hyb := st_bd _ _ _ _ hr
                      have hyl := st_len _ _ _ _ hr
                      simp only at hyb hyl
                      rw [Hl.out] at hyb
                      have HM2 : Hid (many (st f (wsOf ss)) k (acc ++ m) y = R) := Lib.hid (by rw [← HMr.out, many, hr])
                      have hO2 := HO.out.below hb2
                      obtain ⟨g, cap2, rfl, hc1, hc2, hg1, hg2, hcs⟩ := hom.form
                      obtain ⟨v3, w3, hr3, ho3, hg3⟩ := run_appI w2 w.heap.size _ acc hO2 g m cap2 (fun j hj => (hcs j hj).1) (by omega) HB2.out.size
                      have HB3 : Hid (Below w.heap.size w w3) := Lib.hid (HB2.out.grown hg3 HB2.out.size (fun q e => by simp [Value.ownBlock] at e; omega))
                      have HO3 := Lib.hid ho3
                      have HR3 := Lib.hid hr3
                      have hyx : ¬ ((y : Nat) : Int) < 0 := by omega
                      have hml : m.length ≤ y - x := hyl.2.2
                      clear hb2 hr hO2 hcs ho3 hg3 hr3 hyl hom
                      go_wp2_with (at_builtin; refine wp_app rfl _ _ rfl rfl _ _ rfl rfl HR3.out ?_)
                      go_roundw
                      case rel => exact ⟨k, y, acc ++ m, HO3.out, by go_num, rfl, HB3.out, HM2.out, by omega, by omega, by rw [List.length_append]; omega, by omega⟩
                      case measure => simp [intOf]
    · rw [st_none (head_far (by rw [ws_len]; omega))]
      exact starts_far v ss i w hR (by omega) hs1

end L2
end Go.Proofs.YthlpjpoekfhnfaaDoor

/-
  The model: where a sum ends, is a list a sum, a plain one, does one begin there.
-/
namespace Go.Proofs.YthlpjpoekfhnfaaDoor
open Go.RowKit
namespace L2
open S1 L1

/-- Where a sum ends, for the model. -/
def endS (ws : List (List UInt8)) (i : Nat) : Int := match after ws 1 i with | none => -1 | some x => (x : Int)
theorem E_of_starts (ss : List ByteArray) (i : Nat) : st ss.length (wsOf ss) i = E (wsOf ss) i := by unfold E; rw [ws_len]

/-- A call that reads: its answer, and that it makes memory at most. -/
def EndsAt (x : Int) (w : World) (e : Ending) (w' : World) : Prop := e = .returned (.int .i64 x) ∧ Below w.heap.size w w'

set_option maxHeartbeats 1000000 in
theorem specSumEnd_any (v : Value) (ss : List ByteArray) (i : Nat) (w : World) (hR : Row w v ss) (hS : Small ss) :
    Calls Tryd.prog 38 #[v, .int .i64 (i : Int)] w (EndsAt (endS (wsOf ss) i) w) := by
  have H := starts_any ss hS ss.length v i w hR (by omega)
  rw [E_of_starts] at H
  have hv : endS (wsOf ss) i = match E (wsOf ss) i with | none => -1 | some r => (r.2 : Int) := by
    unfold endS
    rw [after_one]
    cases E (wsOf ss) i <;> rfl
  rw [hv]
  clear hv hR hS
  generalize E (wsOf ss) i = R at H ⊢
  have H := Lib.hid H
  go_enter Tryd.func38, Tryd.ntmps38
  go_wp2_with fail
  refine H.out.mono ?_
  rintro e w1 ⟨hb1, ⟨rfl, vm, rfl⟩ | ⟨m, y, vm, rfl, rfl, hom⟩⟩
  · clear H
    go_wp2_with fail
    go_ret
    exact ⟨rfl, hb1⟩
  · clear H hom
    go_wp2_with fail
    go_ret
    exact ⟨rfl, hb1⟩

theorem endS_all (ws : List (List UInt8)) (h : ws.length ≤ 60) : (endS ws 0 == (ws.length : Int)) = okSum ws := by
  unfold okSum endS
  have : decide (ws.length ≤ 60) = true := by simpa using h
  rw [this]
  cases after ws 1 0 with
  | none => simp
  | some x =>
    by_cases h : x = ws.length
    · simp [h]
    · simp [h]
      omega
theorem ok_long {ws : List (List UInt8)} (h : 60 < ws.length) : okSum ws = false := by
  unfold okSum
  have : decide (ws.length ≤ 60) = false := by simpa using h
  rw [this]
  rfl
theorem ok_none {ws : List (List UInt8)} (h : ws.length = 0) : okSum ws = false := by
  have : ws = [] := List.eq_nil_of_length_eq_zero h
  subst this
  decide

set_option maxHeartbeats 1000000 in
theorem specSumOk_any (v : Value) (ss : List ByteArray) (w : World) (hR : Row w v ss) (hS : Small ss) :
    Calls Tryd.prog 14 #[v] w fun e w' => e = .returned (.bool (okSum (wsOf ss))) ∧ Below w.heap.size w w' := by
  have H := specSumEnd_any v ss 0 w hR hS
  have hl := ws_len ss
  obtain ⟨oa, cap, rfl, _, _, _⟩ := hR
  obtain ⟨n, hn⟩ : ∃ n, ss.length = n := ⟨_, rfl⟩
  rw [hn] at hl H ⊢
  have hnb : n ≤ 1048576 := by rw [← hn]; exact hS.1
  by_cases h60 : n ≤ 60
  · have hv := endS_all (wsOf ss) (by omega)
    rw [hl] at hv
    by_cases h0 : n = 0
    · rw [ok_none (by omega)]
      have hz : ¬ (0 : Int) < (n : Int) := by omega
      have h6 : (n : Int) ≤ 60 := by omega
      have hd : decide ((0 : Int) < (n : Int)) = false := by simpa using h0
      have H := Lib.hid H
      have Hh := Lib.hid h0
      clear hv hl hn h0
      go_enter Tryd.func14, Tryd.ntmps14
      go_wp2_with fail
      go_ret
      exact ⟨rfl, Below.refl _ _⟩
    · rw [← hv]
      have hz : (0 : Int) < (n : Int) := by omega
      have h6 : (n : Int) ≤ 60 := by omega
      have hd : decide ((0 : Int) < (n : Int)) = true := by simp; omega
      have hd' : decide (0 < n) = true := by simp; omega
      generalize endS (wsOf ss) 0 = x at H ⊢
      have H := Lib.hid H
      clear hv hl hn hS
      go_enter Tryd.func14, Tryd.ntmps14
      go_wp2_with fail
      refine H.out.mono ?_
      rintro e w1 ⟨rfl, hb1⟩
      go_wp2_with fail
      go_ret
      exact ⟨rfl, hb1⟩
  · rw [ok_long (by omega)]
    have h6 : ¬ (n : Int) ≤ 60 := by omega
    have hd : decide ((n : Int) ≤ 60) = false := by simp; omega
    clear hl hn hS H
    go_enter Tryd.func14, Tryd.ntmps14
    go_wp2_with fail
    go_ret
    exact ⟨rfl, Below.refl _ _⟩

theorem any_or (ss : List ByteArray) : (ss.any fun s => pieceW s.toList) = ((ss.any fun s => s.toList == [109, 97, 114, 107]) || (ss.any fun s => s.toList == [99, 117, 116]) || (ss.any fun s => s.toList == [103, 111])) := by
  induction ss with
  | nil => rfl
  | cons s r ih =>
    simp only [List.any_cons, ih]
    unfold pieceW
    cases (s.toList == [109, 97, 114, 107]) <;> cases (s.toList == [99, 117, 116]) <;> cases (s.toList == [103, 111]) <;> simp

/-- What is known of a place that was looked for. -/
theorem found_of {v : Value} {ss : List ByteArray} {t : ByteArray} {l : List UInt8} {q : Bool} (ht : t.toList = l) (hq : (ss.any fun s => s.toList == l) = q) (w : World) (hR : Row w v ss) :
    Calls Tryd.prog 43 #[v, .string t] w fun e w' => ∃ r : Int, e = .returned (.int .i64 r) ∧ decide (r < 0) = !q ∧ w = w' :=
  (l1At_any v ss t w hR).mono fun _ _ ⟨r, he, hr, hw⟩ => ⟨r, he, by rw [hr, ht, hq], hw⟩

set_option maxHeartbeats 2000000 in
theorem specIsPlain_any (v : Value) (ss : List ByteArray) (w : World) (hR : Row w v ss) (hS : Small ss) :
    Calls Tryd.prog 19 #[v] w fun e w' => e = .returned (.bool (plain (wsOf ss))) ∧ Below w.heap.size w w' := by
  have H := specSumOk_any v ss w hR hS
  have HR := Lib.hid hR
  have hv : plain (wsOf ss) = (okSum (wsOf ss) && !((ss.any fun s => s.toList == [109, 97, 114, 107]) || (ss.any fun s => s.toList == [99, 117, 116]) || (ss.any fun s => s.toList == [103, 111]))) := by
    unfold plain
    rw [← any_ws, any_or]
  rw [hv]
  clear hv hR hS
  have F1 := fun q hq w1 (hb : Below w.heap.size w w1) => found_of (v := v) (ss := ss) (t := ⟨#[109, 97, 114, 107]⟩) (l := [109, 97, 114, 107]) (q := q) (by rw [Lib.toList_data]) hq w1 (HR.out.below hb)
  have F2 := fun q hq w1 (hb : Below w.heap.size w w1) => found_of (v := v) (ss := ss) (t := ⟨#[99, 117, 116]⟩) (l := [99, 117, 116]) (q := q) (by rw [Lib.toList_data]) hq w1 (HR.out.below hb)
  have F3 := fun q hq w1 (hb : Below w.heap.size w w1) => found_of (v := v) (ss := ss) (t := ⟨#[103, 111]⟩) (l := [103, 111]) (q := q) (by rw [Lib.toList_data]) hq w1 (HR.out.below hb)
  generalize okSum (wsOf ss) = ok at H ⊢
  cases ok
  · rw [Bool.false_and]
    have G := Lib.hid H
    clear F1 F2 F3 H
    go_enter Tryd.func19, Tryd.ntmps19
    go_wp2_with fail
    refine G.out.mono ?_
    rintro e w1 ⟨rfl, hb1⟩
    go_wp2_with fail
    go_ret
    exact ⟨rfl, hb1⟩
  rw [Bool.true_and]
  cases hq1 : (ss.any fun s => s.toList == [109, 97, 114, 107])
  case true =>
    have G1 := Lib.hid (F1 _ hq1)
    clear hq1
    rw [Bool.true_or, Bool.true_or, Bool.not_true]
    have G := Lib.hid H
    clear F1 F2 F3 H
    go_enter Tryd.func19, Tryd.ntmps19
    go_wp2_with fail
    refine G.out.mono ?_
    rintro e w1 ⟨rfl, hb1⟩
    go_wp2_with fail
    refine (G1.out _ hb1).mono ?_
    rintro e w2 ⟨r1, rfl, hr1, rfl⟩
    replace hr1 : decide (r1 < 0) = false := hr1
    go_wp2_with fail
    go_ret
    exact ⟨rfl, hb1⟩
  cases hq2 : (ss.any fun s => s.toList == [99, 117, 116])
  case true =>
    have G1 := Lib.hid (F1 _ hq1)
    have G2 := Lib.hid (F2 _ hq2)
    clear hq1 hq2
    rw [Bool.false_or, Bool.true_or, Bool.not_true]
    have G := Lib.hid H
    clear F1 F2 F3 H
    go_enter Tryd.func19, Tryd.ntmps19
    go_wp2_with fail
    refine G.out.mono ?_
    rintro e w1 ⟨rfl, hb1⟩
    go_wp2_with fail
    refine (G1.out _ hb1).mono ?_
    rintro e w2 ⟨r1, rfl, hr1, rfl⟩
    replace hr1 : decide (r1 < 0) = true := hr1
    go_wp2_with fail
    refine (G2.out _ hb1).mono ?_
    rintro e w2 ⟨r2, rfl, hr2, rfl⟩
    replace hr2 : decide (r2 < 0) = false := hr2
    go_wp2_with fail
    go_ret
    exact ⟨rfl, hb1⟩
  cases hq3 : (ss.any fun s => s.toList == [103, 111])
  case true =>
    have G1 := Lib.hid (F1 _ hq1)
    have G2 := Lib.hid (F2 _ hq2)
    have G3 := Lib.hid (F3 _ hq3)
    clear hq1 hq2 hq3
    rw [Bool.false_or, Bool.false_or, Bool.not_true]
    have G := Lib.hid H
    clear F1 F2 F3 H
    go_enter Tryd.func19, Tryd.ntmps19
    go_wp2_with fail
    refine G.out.mono ?_
    rintro e w1 ⟨rfl, hb1⟩
    go_wp2_with fail
    refine (G1.out _ hb1).mono ?_
    rintro e w2 ⟨r1, rfl, hr1, rfl⟩
    replace hr1 : decide (r1 < 0) = true := hr1
    go_wp2_with fail
    refine (G2.out _ hb1).mono ?_
    rintro e w2 ⟨r2, rfl, hr2, rfl⟩
    replace hr2 : decide (r2 < 0) = true := hr2
    go_wp2_with fail
    refine (G3.out _ hb1).mono ?_
    rintro e w2 ⟨r3, rfl, hr3, rfl⟩
    replace hr3 : decide (r3 < 0) = false := hr3
    go_wp2_with fail
    go_ret
    exact ⟨rfl, hb1⟩
  case false =>
    have G1 := Lib.hid (F1 _ hq1)
    have G2 := Lib.hid (F2 _ hq2)
    have G3 := Lib.hid (F3 _ hq3)
    clear hq1 hq2 hq3
    rw [Bool.false_or, Bool.false_or, Bool.not_false]
    have G := Lib.hid H
    clear F1 F2 F3 H
    go_enter Tryd.func19, Tryd.ntmps19
    go_wp2_with fail
    refine G.out.mono ?_
    rintro e w1 ⟨rfl, hb1⟩
    go_wp2_with fail
    refine (G1.out _ hb1).mono ?_
    rintro e w2 ⟨r1, rfl, hr1, rfl⟩
    replace hr1 : decide (r1 < 0) = true := hr1
    go_wp2_with fail
    refine (G2.out _ hb1).mono ?_
    rintro e w2 ⟨r2, rfl, hr2, rfl⟩
    replace hr2 : decide (r2 < 0) = true := hr2
    go_wp2_with fail
    refine (G3.out _ hb1).mono ?_
    rintro e w2 ⟨r3, rfl, hr3, rfl⟩
    replace hr3 : decide (r3 < 0) = true := hr3
    go_wp2_with fail
    go_ret
    exact ⟨rfl, hb1⟩

end L2
end Go.Proofs.YthlpjpoekfhnfaaDoor

/-
  Does a sum begin there: the model and the program; the laws of chapter 2 on lists that answer yes or no.
-/
namespace Go.Proofs.YthlpjpoekfhnfaaDoor
open Go.RowKit
namespace L2
open S1 L1

/-- Does the sum, or one in it, begin at that place? -/
def startsI (ws : List (List UInt8)) (x : Int) : Bool := decide (0 ≤ x) && startsAt ws x.toNat

theorem startsI_no {ws : List (List UInt8)} {x : Int} (h : okSum ws = false) : startsI ws x = false := by
  unfold startsI startsAt
  rw [h]
  simp
theorem startsI_far {ws : List (List UInt8)} {x : Int} (h : (decide (0 ≤ x) && decide (x < (ws.length : Int))) = false) : startsI ws x = false := by
  rw [Bool.and_eq_false_iff] at h
  unfold startsI startsAt
  rcases h with h | h
  · rw [h]; rfl
  · have h' := of_decide_eq_false h
    have : decide (x.toNat < ws.length) = false ∨ decide (0 ≤ x) = false := by
      by_cases h0 : 0 ≤ x
      · left; simp; omega
      · right; simpa using h0
    rcases this with h2 | h2 <;> rw [h2] <;> simp

set_option maxRecDepth 100000 in
set_option maxHeartbeats 1000000 in
theorem specIsStart_any (v : Value) (ss : List ByteArray) (x : Int) (w : World) (hR : Row w v ss) (hS : Small ss) :
    Calls Tryd.prog 23 #[v, .int .i64 x] w fun e w' => e = .returned (.bool (startsI (wsOf ss) x)) ∧ Below w.heap.size w w' := by
  have H := specSumOk_any v ss w hR hS
  have HR := Lib.hid hR
  cases ho : okSum (wsOf ss)
  · rw [startsI_no ho]
    rw [ho] at H
    have H := Lib.hid H
    clear hR hS ho
    go_enter Tryd.func23, Tryd.ntmps23
    go_wp2_with fail
    refine H.out.mono ?_
    rintro e w1 ⟨rfl, hb1⟩
    go_wp2_with fail
    go_ret
    exact ⟨rfl, hb1⟩
  · rw [ho] at H
    obtain ⟨m, hE, hm⟩ := startsAt_mem ho
    have hml : m.length ≤ 60 := by
      have h1 := st_len _ _ _ _ hE
      have h2 := (ok_head ho).1
      simp only at h1
      omega
    have hc : ∀ w1, Below w.heap.size w w1 → Calls Tryd.prog 46 #[v, .int .i64 0] w1 (Starts (some (m, (wsOf ss).length)) w1) := fun w1 hb => by
      have h := starts_any ss hS ss.length v 0 w1 (HR.out.below hb) (by omega)
      rw [E_of_starts, hE] at h
      exact h
    have hv : startsI (wsOf ss) x = true ↔ 0 ≤ x ∧ x.toNat ∈ m := by
      rw [hm]
      unfold startsI
      simp
    obtain ⟨q, hq⟩ : ∃ q, startsI (wsOf ss) x = q := ⟨_, rfl⟩
    rw [hq] at hv ⊢
    have H := Lib.hid H
    have Hc := Lib.hid hc
    have Hv := Lib.hid hv
    generalize (wsOf ss).length = len at Hc
    clear hR hS ho hE hm hc hv hq
    go_enter Tryd.func23, Tryd.ntmps23
    go_wp2_with fail
    refine H.out.mono ?_
    rintro e w1 ⟨rfl, hb1⟩
    go_wp2_with fail
    refine (Hc.out _ hb1).mono ?_
    rintro e w2 ⟨hb2, ⟨hr, _⟩ | ⟨m', y, vm, hr, rfl, hom⟩⟩
    · cases hr
    cases hr
    obtain ⟨g, cap2, rfl, hc1, hc2, hg1, hg2, hcs⟩ := hom.form
    obtain ⟨n, hn⟩ : ∃ n, m.length = n := ⟨_, rfl⟩
    rw [hn] at hml hc1 hcs ⊢
    have HB2 := Lib.hid (hb1.trans (hb2.mono hb1.size))
    have HC := Lib.hid hcs
    have HN := Lib.hid hn
    unfold maxLen at hc2
    clear hb2 hcs hom hn
    go_wp2_with fail
    go_loop [7] (fun i => ∃ k : Nat, k ≤ n ∧ i = .int .i64 (k : Int) ∧ Hid (∀ j, j < k → ((m.getD j 0 : Nat) : Int) ≠ x)) (fun i => n - (intOf i).toNat)
    case atStart => exact ⟨0, Nat.zero_le _, rfl, Lib.hid (by intro j hj; omega)⟩
    case round =>
      obtain ⟨k, hk, rfl, hall⟩ := hrel
      by_cases hlt : k < n
      · have hcell := (HC.out k hlt).1
        have hki : (k : Int) < (n : Int) := by omega
        obtain ⟨z, hz⟩ : ∃ z : Nat, m.getD k 0 = z := ⟨_, rfl⟩
        rw [hz] at hcell
        have Hz := Lib.hid hz
        clear hz
        by_cases hx : (z : Int) = x
        · have hx' : ((z : Int) == x) = true := by simpa using hx
          have hin : q = true := Hv.out.2 (by
            refine ⟨by omega, ?_⟩
            have : x.toNat = z := by omega
            rw [this, ← Hz.out]
            have hlt' : k < m.length := by rw [HN.out]; exact hlt
            rw [List.mem_iff_getElem]
            exact ⟨k, hlt', by simp [List.getD, hlt']⟩)
          have Hin := Lib.hid hin
          have Hx := Lib.hid hx
          clear hin hx
          go_wp2_with fail
          go_ret
          exact ⟨by rw [Hin.out]; rfl, HB2.out⟩
        · have hx' : ((z : Int) == x) = false := by simpa using hx
          have Hx := Lib.hid hx
          clear hx
          go_wp2_with fail
          go_round
          case rel =>
            refine ⟨k + 1, by omega, by go_num, Lib.hid (fun j hj => ?_)⟩
            by_cases e : j = k
            · subst e; rw [Hz.out]; exact Hx.out
            · exact hall.out j (by omega)
          case measure => simp [intOf]; omega
      · have hki : ¬ (k : Int) < (n : Int) := by omega
        have hout : q = false := by
          cases q
          · rfl
          · obtain ⟨h0, hmem⟩ := Hv.out.1 rfl
            obtain ⟨j, hj, hje⟩ := List.mem_iff_getElem.1 hmem
            have := hall.out j (by rw [HN.out] at hj; omega)
            exfalso
            apply this
            simp [List.getD, hj, hje]
            omega
        have Hout := Lib.hid hout
        clear hout
        go_wp2_with fail
        go_ret
        exact ⟨by rw [Hout.out]; rfl, HB2.out⟩

theorem startsI_zero {ws : List (List UInt8)} (h : okSum ws = true) : startsI ws 0 = true := by
  have := (ok_head h).2.1
  unfold startsI startsAt
  rw [h]
  simp [this]
theorem startsI_in {ws : List (List UInt8)} {i : Nat} (h : okSum ws = true) (h0 : 0 < i) (hi : i < ws.length) : startsI ws (i : Int) = !bindW (ws.getD (i - 1) []) := by
  unfold startsI startsAt
  rw [h]
  have h1 : decide ((0 : Int) ≤ (i : Int)) = true := by simp
  have h2 : decide (i = 0) = false := by simp; omega
  rw [h1, Int.toNat_natCast, h2]
  simp [hi]

/-- Does a sum begin at place i of a right one? -/
def begB (ss : List ByteArray) (i : Nat) : Bool := decide (i = 0) || !bindW ((wsOf ss).getD (i - 1) [])

set_option maxHeartbeats 1000000 in
theorem beginsSum_any (v : Value) (ss : List ByteArray) (i : Nat) (w : World) (hR : Row w v ss) (hi : i < ss.length) (hs : ss.length ≤ 1048576) :
    Calls Tryd.prog 53 #[v, .int .i64 (i : Int)] w fun e w' => e = .returned (.bool (begB ss i)) ∧ w = w' := by
  obtain ⟨oa, cap, rfl, h1, h2, h3⟩ := hR
  obtain ⟨n, hn⟩ : ∃ n, ss.length = n := ⟨_, rfl⟩
  unfold maxLen at h2
  cases i with
  | zero =>
    have hb : begB ss 0 = true := rfl
    rw [hb]
    clear h3 hb
    go_enter Tryd.func53, Tryd.ntmps53
    go_wp2_with fail
    go_ret
    exact ⟨rfl, rfl⟩
  | succ i =>
    have hb : begB ss (i + 1) = !bindW (ss.getD i ByteArray.empty).toList := by
      unfold begB
      rw [Nat.add_sub_cancel, ws_getD (by omega)]
      simp
    rw [hb]
    obtain ⟨b, off, rfl, hlt, hc⟩ := h3 i (by omega)
    rw [hn] at h1 hi hs ⊢
    obtain ⟨s, hsv⟩ : ∃ s, ss.getD i ByteArray.empty = s := ⟨_, rfl⟩
    rw [hsv] at hc ⊢
    have hne : (((i + 1 : Nat) : Int) == 0) = false := by simp; omega
    have hne' : (((i : Int) + 1) == 0) = false := by simp; omega
    generalize hq : bindW s.toList = q
    have HQ := Lib.hid hq
    have h0 : (0 : Int) ≤ (i : Int) := by omega
    have hlt2 : (i : Int) < (n : Int) := by omega
    clear h3 hb hsv hn hq
    cases q
    all_goals
      go_enter Tryd.func53, Tryd.ntmps53
      go_wp2_with fail
      refine (isOfBound_any s _).mono ?_
      rintro e w2 ⟨rfl, rfl⟩
      rw [HQ.out]
      go_wp2_with fail
      go_ret
      exact ⟨rfl, rfl⟩

theorem startsI_beg {ss : List ByteArray} (ho : okSum (wsOf ss) = true) {i : Nat} (hi : i < ss.length) : startsI (wsOf ss) (i : Int) = begB ss i := by
  have hl := ws_len ss
  cases i with
  | zero =>
    have := startsI_zero ho
    exact this
  | succ i =>
    rw [startsI_in ho (by omega) (by omega)]
    unfold begB
    simp

/-- Does a sum begin at that place of a right one? -/
def placeB (ss : List ByteArray) (x : Int) : Bool := (decide (0 ≤ x) && decide (x < (ss.length : Int))) && begB ss x.toNat
theorem startsI_place {ss : List ByteArray} (ho : okSum (wsOf ss) = true) (x : Int) : startsI (wsOf ss) x = placeB ss x := by
  have hl := ws_len ss
  unfold placeB
  cases hp : (decide ((0 : Int) ≤ x) && decide (x < (ss.length : Int)))
  · rw [startsI_far (by rw [hl]; exact hp)]
    rfl
  · have hp' := hp
    rw [Bool.and_eq_true] at hp'
    have hx0 : 0 ≤ x := of_decide_eq_true hp'.1
    have hxn : x < (ss.length : Int) := of_decide_eq_true hp'.2
    obtain ⟨i, rfl⟩ : ∃ i : Nat, x = (i : Int) := ⟨x.toNat, by omega⟩
    rw [startsI_beg ho (by omega)]
    simp

set_option maxRecDepth 100000 in
set_option maxHeartbeats 1000000 in
theorem isStartIn_any (v : Value) (ss : List ByteArray) (x : Int) (w : World) (hR : Row w v ss) (hs : ss.length ≤ 1048576) :
    Calls Tryd.prog 39 #[v, .int .i64 x] w fun e w' => e = .returned (.bool (placeB ss x)) ∧ w = w' := by
  have HR := Lib.hid hR
  have HN := Lib.hid hs
  obtain ⟨oa, cap, rfl, h1, h2, -⟩ := hR
  obtain ⟨n, hn⟩ : ∃ n, ss.length = n := ⟨_, rfl⟩
  unfold placeB
  rw [hn] at h1 hs HR ⊢
  unfold maxLen at h2
  cases hp : (decide ((0 : Int) ≤ x) && decide (x < (n : Int)))
  · have HP := Lib.hid hp
    clear hn hp
    go_enter Tryd.func39, Tryd.ntmps39
    go_wp2_with fail
    refine (isPlaceIn_any _ _ _ _ _).mono ?_
    rintro e w2 ⟨rfl, rfl⟩
    rw [HP.out]
    go_wp2_with fail
    go_ret
    exact ⟨rfl, rfl⟩
  · have hp' := hp
    rw [Bool.and_eq_true] at hp'
    have hx0 : 0 ≤ x := of_decide_eq_true hp'.1
    have hxn : x < (n : Int) := of_decide_eq_true hp'.2
    obtain ⟨i, rfl⟩ : ∃ i : Nat, x = (i : Int) := ⟨x.toNat, by omega⟩
    have hi : i < n := by omega
    have HBS := fun w1 (hb1 : Row w1 (.slice oa n cap) ss) => beginsSum_any _ ss i w1 hb1 (by rw [hn]; exact hi) HN.out
    have HR' := HR.out
    rw [Int.toNat_natCast]
    generalize begB ss i = q at HBS ⊢
    have HBS := Lib.hid (HBS w HR')
    have HP := Lib.hid hp
    clear hn hp hp' hs HR'
    go_enter Tryd.func39, Tryd.ntmps39
    go_wp2_with fail
    refine (isPlaceIn_any _ _ _ _ _).mono ?_
    rintro e w2 ⟨rfl, rfl⟩
    rw [HP.out]
    go_wp2_with fail
    refine HBS.out.mono ?_
    rintro e w2 ⟨rfl, rfl⟩
    cases q
    all_goals
      go_wp2_with fail
      go_ret
      exact ⟨rfl, rfl⟩

set_option maxRecDepth 100000 in
set_option maxHeartbeats 2000000 in
theorem implIsStart_any (v : Value) (ss : List ByteArray) (x : Int) (w : World) (hR : Row w v ss) (hS : Small ss) (hV : Vars w) :
    Calls Tryd.prog 15 #[v, .int .i64 x] w fun e w' => e = .returned (.bool (startsI (wsOf ss) x)) ∧ Below w.heap.size w w' := by
  have H := implSumOk_any v ss w hR hS hV
  have HR := Lib.hid hR
  cases ho : okSum (wsOf ss)
  · rw [startsI_no ho]
    rw [ho] at H
    have H := Lib.hid H
    clear hR hS ho hV
    go_enter Tryd.func15, Tryd.ntmps15
    go_wp2_with fail
    refine H.out.mono ?_
    rintro e w1 ⟨rfl, hb1⟩
    go_wp2_with fail
    go_ret
    exact ⟨rfl, hb1⟩
  · rw [ho] at H
    rw [startsI_place ho]
    have HX := fun w1 (hb1 : Below w.heap.size w w1) => isStartIn_any v ss x w1 (HR.out.below hb1) hS.1
    generalize placeB ss x = q at HX ⊢
    have HX := Lib.hid HX
    have H := Lib.hid H
    obtain ⟨oa, cap, rfl, h1, h2, -⟩ := hR
    clear hS ho hV h1 h2
    go_enter Tryd.func15, Tryd.ntmps15
    go_wp2_with fail
    refine H.out.mono ?_
    rintro e w1 ⟨rfl, hb1⟩
    go_wp2_with fail
    refine (HX.out _ hb1).mono ?_
    rintro e w2 ⟨rfl, rfl⟩
    go_wp2_with fail
    go_ret
    exact ⟨rfl, hb1⟩

end L2
end Go.Proofs.YthlpjpoekfhnfaaDoor
