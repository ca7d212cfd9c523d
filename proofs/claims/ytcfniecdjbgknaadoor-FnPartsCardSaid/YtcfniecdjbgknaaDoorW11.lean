/-
  The model's reader of a sum: its walk.
-/
import Derived.Test.YtcfniecdjbgknaaDoorW10
namespace Go.Proofs.YtcfniecdjbgknaaDoor
open Go.RowKit
namespace L2
open S1 L1

/-- 'append', where the run of it is known: a step of the walk. -/
theorem wp_app {T : TypeId} {ops : Array Oper} {rest : List Oper} {o : Oper} {a : Act} {w : World} {Q : Exit → Act → World → Prop} (hgd : o.guard = none) (s x : Operand)
    (ho : o.op = .call { callee := .builtin .append, args := #[s, x], argTypes := #[T, T] }) (hty : o.type = T) (v u : Value) (hs : a.eval s = v) (hx : a.eval x = u)
    {v' : Value} {w' : World} (hr : (Builtin.append_ #[T, T] T #[v, u]).run Tryd.prog w = .ok v' w') (h : wpList Tryd.prog ops Q rest (a.put o.dst v') w') : wpList Tryd.prog ops Q (o :: rest) a w := by
  refine wpList_plain hgd fun K hK => ?_
  unfold Oper.wp execOp
  simp only [ho, hty, resolve, invoke, builtin, Sem.run_bind, Sem.run_pure, Result.andThen_ok, List.map_toArray, List.map_cons, List.map_nil, hs, hx, hr]
  exact hK _ _ h

theorem run_app1 (w : World) (B : Nat) (v : Value) (xs : List Nat) (hown : OwI w B v xs) (g k : Nat)
    (hc : w.cell? ⟨g, 0, none⟩ = some (.int .i64 (k : Int))) (hs : xs.length ≤ 9000000) (hB : B ≤ w.heap.size) :
    ∃ v' w', (Builtin.append_ #[39, 39] 39 #[v, .slice (some ⟨g, 0, none⟩) 1 1]).run Tryd.prog w = .ok v' w' ∧ OwI w' B v' (xs ++ [k]) ∧ w.grownBy w' v.ownBlock :=
  run_appI w B v xs hown g [k] 1 (fun j hj => by
    have : j = 0 := by simpa using hj
    subst this
    exact hc) (by simp; omega) hB

theorem starts_far (v : Value) (ss : List ByteArray) (i : Nat) (w : World) (hR : Row w v ss) (hi : ss.length ≤ i) (hs : ss.length ≤ 1048576) :
    Calls Tryd.prog 88 #[v, .int .i64 (i : Int)] w (Starts none w) := by
  obtain ⟨oa, cap, rfl, h1, h2, h3⟩ := hR
  clear h3
  obtain ⟨n, hn⟩ : ∃ n, ss.length = n := ⟨_, rfl⟩
  rw [hn] at h1 hi hs ⊢
  clear hn
  have hin : inB (i : Int) 0 ((n : Int) - 1) = false := by unfold inB; simp; omega
  go_enter Tryd.func88, Tryd.ntmps88
  go_wp2_with (go_at_call 73; refine (l1In_any _ _ _ _).mono ?_; rintro e w' ⟨rfl, rfl⟩; rw [hin])
  go_ret2
  exact ⟨(Below.refl _ _).alloc (Nat.le_refl _) _, Or.inl ⟨rfl, _, rfl⟩⟩

set_option maxRecDepth 100000 in
set_option maxHeartbeats 8000000 in
theorem starts_any (ss : List ByteArray) (hS : Small ss) (f : Nat) : ∀ (v : Value) (i : Nat) (w : World), Row w v ss → ss.length ≤ i + f →
    Calls Tryd.prog 88 #[v, .int .i64 (i : Int)] w (Starts (st f (wsOf ss) i) w) := by
  obtain ⟨hs1, hs2⟩ := hS
  induction f with
  | zero =>
    intro v i w hR hf
    exact starts_far v ss i w hR hf hs1
  | succ f ih =>
    intro v i w hR hf
    by_cases hlt : i < ss.length
    · have IH := Lib.hid ih
      have HR := Lib.hid hR
      obtain ⟨oa, cap, rfl, h1, h2, h3⟩ := hR
      obtain ⟨b, off, rfl, hb, hc⟩ := h3 i hlt
      have hzs := hs2 i hlt
      have Hz := Lib.hid hs2
      have hws := ws_get hlt
      have hl := ws_len ss
      obtain ⟨s, hs⟩ : ∃ s, ss.getD i ByteArray.empty = s := ⟨_, rfl⟩
      rw [hs] at hc hzs hws
      have H3 := Lib.hid h3
      clear h3 ih hs hs2
      obtain ⟨n, hn⟩ : ∃ n, ss.length = n := ⟨_, rfl⟩
      rw [hn] at h1 hs1 hf hlt hl HR ⊢
      have Hn := Lib.hid hn
      have Hl := Lib.hid hl
      clear hn hl
      unfold maxLen at h2
      have hin : inB (i : Int) 0 ((n : Int) - 1) = true := by unfold inB; simp; omega
      have hi0 : (0 : Int) ≤ (i : Int) := by omega
      have hin1 : (i : Int) < (n : Int) := by omega
      by_cases hneg : needs s.toList < 0
      · rw [st_none (head_bad hws hneg)]
        clear hws
        go_enter Tryd.func88, Tryd.ntmps88
        go_wp2_with (first | (go_at_call 73; refine (l1In_any _ _ _ _).mono ?_; rintro e w' ⟨rfl, rfl⟩; rw [hin]) | (go_at_call 40; refine (specNeeds_any s (by unfold maxLen; omega) _).mono ?_; rintro e w' ⟨rfl, rfl⟩))
        go_ret2
        exact ⟨(Below.refl _ _).alloc (Nat.le_refl _) _, Or.inl ⟨rfl, _, rfl⟩⟩
      · have hok : okW s.toList = true := by unfold okW; simp; omega
        obtain ⟨kd, hkd, hk3, hkn⟩ := needs_nat hok
        have hcn := specNeeds_any s (by unfold maxLen; omega)
        rw [hkd] at hcn
        have Hcn := Lib.hid hcn
        have hkids : kids (wsOf ss) i = kd := by rw [kids_of hws, hkn]
        clear hcn
        cases hbw : bindW s.toList
        · rw [st_of (head_plain hws hneg hbw), hkids]
          obtain ⟨R, hRR⟩ : ∃ R, many (st f (wsOf ss)) kd [i] (i + 1) = R := ⟨_, rfl⟩
          rw [hRR]
          have HM := Lib.hid hRR
          have hb1 : (s.toList == [98, 105, 110, 100]) = false := by unfold bindW at hbw; rw [Bool.or_eq_false_iff] at hbw; exact hbw.1
          have hb2 : (s.toList == [97, 115, 107]) = false := by unfold bindW at hbw; rw [Bool.or_eq_false_iff] at hbw; exact hbw.2
          clear hbw hkids hok hneg hws hkn hkd hRR
          go_enter Tryd.func88, Tryd.ntmps88
          go_wp2_with fail
          have hO0 := owI_new w w.heap.size (Nat.le_refl _)
          have hB0 : Below w.heap.size w (w.alloc (.cells #[] 2)) := (Below.refl _ _).alloc (Nat.le_refl _) _
          have hc0 := (hB0.cell (p := ⟨b, off + i, none⟩) hb).trans hc
          generalize Value.slice (some ⟨w.heap.size, 0, none⟩) 0 0 = v0 at hO0 ⊢
          generalize w.alloc (.cells #[] 2) = w0 at hO0 hB0 hc0 ⊢
          obtain ⟨v1, w1, hr1, ho1, hg1⟩ := run_app1 (w0.alloc (.cells #[.int .i64 (i : Int)] 2)) w.heap.size v0 [] (hO0.alloc _) w0.heap.size i (by simp [go_sem]) (by simp) (by have := hB0.size; simp; omega)
          obtain ⟨go0, co0, hov0, _, _, hgo0, _, _⟩ := hO0.form
          have HB1 : Hid (Below w.heap.size w w1) := Lib.hid ((hB0.alloc hB0.size _).grown hg1 (by have := hB0.size; simp; omega) (fun q e => by rw [hov0] at e; simp [Value.ownBlock] at e; omega))
          have HO1 := Lib.hid ho1
          have HR1 := Lib.hid hr1
          clear hr1 ho1 hg1 hO0 hB0 hov0
          refine (l1In_any _ _ _ _).mono ?_
          rintro e w' ⟨rfl, rfl⟩
          rw [hin]
          go_wp2_with (first | (go_at_call 40; refine (Hcn.out _).mono ?_; rintro e w' ⟨rfl, rfl⟩) | (at_builtin; refine wp_app rfl _ _ rfl rfl _ _ rfl rfl HR1.out ?_))
          go_loopw [6, 7, 8] (fun o q e wr => ∃ (k x : Nat) (acc : List Nat), OwI wr w.heap.size o acc ∧ q = .int .i64 (k : Int) ∧ e = .int .i64 (x : Int) ∧ Below w.heap.size w wr ∧ many (st f (wsOf ss)) k acc x = R ∧ x ≤ n ∧ i < x ∧ acc.length ≤ x - i ∧ k ≤ 3) (fun _ q _ _ => (intOf q).toNat)
          case atStart => exact ⟨kd, i + 1, [i], HO1.out, rfl, by go_num, HB1.out, HM.out, by omega, by omega, by simp, hk3⟩
          case round =>
            obtain ⟨k, x, acc, hO, rfl, rfl, hB, hM, hx, hix, hal, hk⟩ := hrel
            obtain ⟨go1, co1, rfl, hq1, hq2, hgo1, hgw1, _⟩ := hO.form
            have HO := Lib.hid hO
            have HB := Lib.hid hB
            have HMr := Lib.hid hM
            clear hO hB hM
            cases k with
            | zero =>
              go_wp2_with fail
              go_ret2
              exact ⟨HB.out, Or.inr ⟨acc, x, _, HMr.out.symm, rfl, HO.out⟩⟩
            | succ k =>
              go_wp2_with fail
              refine (IH.out _ x wr (HR.out.below HB.out) (by rw [Hn.out]; omega)).mono ?_
              rintro e w2 ⟨hb2, ⟨hr, vm, rfl⟩ | ⟨m, y, vm, hr, rfl, hom⟩⟩
              · have HB2 := Lib.hid (HB.out.trans (hb2.mono HB.out.size))
                have hR : R = none := by rw [← HMr.out, many, hr]
                clear hb2 hr
                have HR2 := Lib.hid hR
                clear hR
                go_wp2_with fail
                go_ret2
                exact ⟨HB2.out.alloc HB2.out.size _, Or.inl ⟨HR2.out, _, rfl⟩⟩
              · have HB2 := Lib.hid (HB.out.trans (hb2.mono HB.out.size))
                have hyb := st_bd _ _ _ _ hr
                have hyl := st_len _ _ _ _ hr
                simp only at hyb hyl
                rw [Hl.out] at hyb
                have HM2 : Hid (many (st f (wsOf ss)) k (acc ++ m) y = R) := Lib.hid (by rw [← HMr.out, many, hr])
                have hO2 := HO.out.below hb2
                obtain ⟨g, cap2, rfl, hc1, hc2, hg1, hg2, hcs⟩ := hom.form
                obtain ⟨v3, w3, hr3, ho3, hg3⟩ := run_appI w2 w.heap.size _ acc hO2 g m cap2 (fun j hj => (hcs j hj).1) (by omega) HB2.out.size
                have HB3 : Hid (Below w.heap.size w w3) := Lib.hid (HB2.out.grown hg3 HB2.out.size (fun q e => by simp [Value.ownBlock] at e; omega))
                have HO3 := Lib.hid ho3
                have HR3 := Lib.hid hr3
                have hyx : ¬ ((y : Nat) : Int) < 0 := by omega
                have hml : m.length ≤ y - x := hyl.2.2
                clear hb2 hr hO2 hcs ho3 hg3 hr3 hyl hom
                go_wp2_with (at_builtin; refine wp_app rfl _ _ rfl rfl _ _ rfl rfl HR3.out ?_)
                go_roundw
                case rel => exact ⟨k, y, acc ++ m, HO3.out, by go_num, rfl, HB3.out, HM2.out, by omega, by omega, by rw [List.length_append]; omega, by omega⟩
                case measure => simp [intOf]
        · by_cases hend : n ≤ i + 1
          · rw [st_none (head_bind_far hws hbw (by rw [Hl.out]; exact hend))]
            have hge : (n : Int) ≤ (i : Int) + 1 := by omega
            clear hkids hok hneg hws hkn hkd
            have hor : (s.toList == [98, 105, 110, 100]) = true ∨ ((s.toList == [98, 105, 110, 100]) = false ∧ (s.toList == [97, 115, 107]) = true) := by
              unfold bindW at hbw
              cases h : (s.toList == [98, 105, 110, 100])
              · rw [h] at hbw; exact Or.inr ⟨rfl, by simpa using hbw⟩
              · exact Or.inl rfl
            clear hbw
            rcases hor with hb1 | ⟨hb1, hb2⟩
            all_goals
              go_enter Tryd.func88, Tryd.ntmps88
              go_wp2_with fail
              have hd : True := trivial
              have hB0 : Below w.heap.size w (w.alloc (.cells #[] 2)) := (Below.refl _ _).alloc (Nat.le_refl _) _
              have hc0 := (hB0.cell (p := ⟨b, off + i, none⟩) hb).trans hc
              refine (l1In_any _ _ _ _).mono ?_
              rintro e w' ⟨rfl, rfl⟩
              rw [hin]
              go_wp2_with (go_at_call 40; refine (Hcn.out _).mono ?_; rintro e w' ⟨rfl, rfl⟩)
              go_ret2
              exact ⟨hB0, Or.inl ⟨rfl, _, rfl⟩⟩
          · have hlt2 : i + 1 < n := by omega
            have hlt3 : (i : Int) + 1 < (n : Int) := by omega
            obtain ⟨b', off', ho', _, hcy⟩ := H3.out (i + 1) (by rw [Hn.out]; exact hlt2)
            cases ho'
            have hzy := Hz.out (i + 1) (by rw [Hn.out]; exact hlt2)
            have hwy := ws_get (ss := ss) (i := i + 1) (by rw [Hn.out]; exact hlt2)
            obtain ⟨y, hy⟩ : ∃ y, ss.getD (i + 1) ByteArray.empty = y := ⟨_, rfl⟩
            rw [hy] at hcy hzy hwy
            have hhe := head_bind hws hneg hbw hwy
            have hor : (s.toList == [98, 105, 110, 100]) = true ∨ ((s.toList == [98, 105, 110, 100]) = false ∧ (s.toList == [97, 115, 107]) = true) := by
              unfold bindW at hbw
              cases h : (s.toList == [98, 105, 110, 100])
              · rw [h] at hbw; exact Or.inr ⟨rfl, by simpa using hbw⟩
              · exact Or.inl rfl
            have hny := l2Name_any y (by unfold maxLen; omega)
            cases hnm : nameW y.toList
            · rw [hnm] at hhe hny
              rw [st_none (by rw [hhe]; rfl)]
              have Hny := Lib.hid hny
              clear hhe hny hnm hwy hy hkids hok hneg hws hkn hkd hbw
              rcases hor with hb1 | ⟨hb1, hb2⟩
              all_goals
                go_enter Tryd.func88, Tryd.ntmps88
                go_wp2_with fail
                have hd : True := trivial
                have hB0 : Below w.heap.size w (w.alloc (.cells #[] 2)) := (Below.refl _ _).alloc (Nat.le_refl _) _
                have hc0 := (hB0.cell (p := ⟨b, off + i, none⟩) hb).trans hc
                have hc0' := (hB0.cell (p := ⟨b, off + (i + 1), none⟩) hb).trans hcy
                refine (l1In_any _ _ _ _).mono ?_
                rintro e w' ⟨rfl, rfl⟩
                rw [hin]
                go_wp2_with (first | (go_at_call 40; refine (Hcn.out _).mono ?_; rintro e w' ⟨rfl, rfl⟩) | (go_at_call 100; refine (Hny.out _).mono ?_; rintro e w' ⟨rfl, rfl⟩))
                go_ret2
                exact ⟨hB0, Or.inl ⟨rfl, _, rfl⟩⟩
            · rw [hnm] at hhe hny
              rw [st_of (e := i + 2) (by rw [hhe]; rfl), hkids]
              obtain ⟨R, hRR⟩ : ∃ R, many (st f (wsOf ss)) kd [i] (i + 2) = R := ⟨_, rfl⟩
              rw [hRR]
              have HM := Lib.hid hRR
              have Hny := Lib.hid hny
              clear hhe hny hnm hwy hy hkids hok hneg hws hkn hkd hRR hbw
              rcases hor with hb1 | ⟨hb1, hb2⟩
              all_goals
                go_enter Tryd.func88, Tryd.ntmps88
                go_wp2_with fail
                have hO0 := owI_new w w.heap.size (Nat.le_refl _)
                have hB0 : Below w.heap.size w (w.alloc (.cells #[] 2)) := (Below.refl _ _).alloc (Nat.le_refl _) _
                have hc0 := (hB0.cell (p := ⟨b, off + i, none⟩) hb).trans hc
                have hc0' := (hB0.cell (p := ⟨b, off + (i + 1), none⟩) hb).trans hcy
                generalize Value.slice (some ⟨w.heap.size, 0, none⟩) 0 0 = v0 at hO0 ⊢
                generalize w.alloc (.cells #[] 2) = w0 at hO0 hB0 hc0 hc0' ⊢
                obtain ⟨v1, w1, hr1, ho1, hg1⟩ := run_app1 (w0.alloc (.cells #[.int .i64 (i : Int)] 2)) w.heap.size v0 [] (hO0.alloc _) w0.heap.size i (by simp [go_sem]) (by simp) (by have := hB0.size; simp; omega)
                obtain ⟨go0, co0, hov0, _, _, hgo0, _, _⟩ := hO0.form
                have HB1 : Hid (Below w.heap.size w w1) := Lib.hid ((hB0.alloc hB0.size _).grown hg1 (by have := hB0.size; simp; omega) (fun q e => by rw [hov0] at e; simp [Value.ownBlock] at e; omega))
                have HO1 := Lib.hid ho1
                have HR1 := Lib.hid hr1
                clear hr1 ho1 hg1 hO0 hB0 hov0
                refine (l1In_any _ _ _ _).mono ?_
                rintro e w' ⟨rfl, rfl⟩
                rw [hin]
                go_wp2_with (first | (go_at_call 40; refine (Hcn.out _).mono ?_; rintro e w' ⟨rfl, rfl⟩) | (go_at_call 100; refine (Hny.out _).mono ?_; rintro e w' ⟨rfl, rfl⟩) | (at_builtin; refine wp_app rfl _ _ rfl rfl _ _ rfl rfl HR1.out ?_))
                go_loopw [6, 7, 8] (fun o q e wr => ∃ (k x : Nat) (acc : List Nat), OwI wr w.heap.size o acc ∧ q = .int .i64 (k : Int) ∧ e = .int .i64 (x : Int) ∧ Below w.heap.size w wr ∧ many (st f (wsOf ss)) k acc x = R ∧ x ≤ n ∧ i < x ∧ acc.length ≤ x - i ∧ k ≤ 3) (fun _ q _ _ => (intOf q).toNat)
                case atStart => exact ⟨kd, i + 2, [i], HO1.out, rfl, by go_num, HB1.out, HM.out, by omega, by omega, by simp, hk3⟩
                case round =>
                  obtain ⟨k, x, acc, hO, rfl, rfl, hB, hM, hx, hix, hal, hk⟩ := hrel
                  obtain ⟨go1, co1, rfl, hq1, hq2, hgo1, hgw1, _⟩ := hO.form
                  have HO := Lib.hid hO
                  have HB := Lib.hid hB
                  have HMr := Lib.hid hM
                  clear hO hB hM
                  cases k with
                  | zero =>
                    go_wp2_with fail
                    go_ret2
                    exact ⟨HB.out, Or.inr ⟨acc, x, _, HMr.out.symm, rfl, HO.out⟩⟩
                  | succ k =>
                    go_wp2_with fail
                    refine (IH.out _ x wr (HR.out.below HB.out) (by rw [Hn.out]; omega)).mono ?_
                    rintro e w2 ⟨hb2, ⟨hr, vm, rfl⟩ | ⟨m, y, vm, hr, rfl, hom⟩⟩
                    · have HB2 := Lib.hid (HB.out.trans (hb2.mono HB.out.size))
                      have hR : R = none := by rw [← HMr.out, many, hr]
                      clear hb2 hr
                      have HR2 := Lib.hid hR
                      clear hR
                      go_wp2_with fail
                      go_ret2
                      exact ⟨HB2.out.alloc HB2.out.size _, Or.inl ⟨HR2.out, _, rfl⟩⟩
                    · have HB2 := Lib.hid (HB.out.trans (hb2.mono HB.out.size))
                      have hyb := st_bd _ _ _ _ hr
                      have hyl := st_len _ _ _ _ hr
                      simp only at hyb hyl
                      rw [Hl.out] at hyb
                      have HM2 : Hid (many (st f (wsOf ss)) k (acc ++ m) y = R) := Lib.hid (by rw [← HMr.out, many, hr])
                      have hO2 := HO.out.below hb2
                      obtain ⟨g, cap2, rfl, hc1, hc2, hg1, hg2, hcs⟩ := hom.form
                      obtain ⟨v3, w3, hr3, ho3, hg3⟩ := run_appI w2 w.heap.size _ acc hO2 g m cap2 (fun j hj => (hcs j hj).1) (by omega) HB2.out.size
                      have HB3 : Hid (Below w.heap.size w w3) := Lib.hid (HB2.out.grown hg3 HB2.out.size (fun q e => by simp [Value.ownBlock] at e; omega))
                      have HO3 := Lib.hid ho3
                      have HR3 := Lib.hid hr3
                      have hyx : ¬ ((y : Nat) : Int) < 0 := by omega
                      have hml : m.length ≤ y - x := hyl.2.2
                      clear hb2 hr hO2 hcs ho3 hg3 hr3 hyl hom
                      go_wp2_with (at_builtin; refine wp_app rfl _ _ rfl rfl _ _ rfl rfl HR3.out ?_)
                      go_roundw
                      case rel => exact ⟨k, y, acc ++ m, HO3.out, by go_num, rfl, HB3.out, HM2.out, by omega, by omega, by rw [List.length_append]; omega, by omega⟩
                      case measure => simp [intOf]
    · rw [st_none (head_far (by rw [ws_len]; omega))]
      exact starts_far v ss i w hR (by omega) hs1

end L2
end Go.Proofs.YtcfniecdjbgknaaDoor
