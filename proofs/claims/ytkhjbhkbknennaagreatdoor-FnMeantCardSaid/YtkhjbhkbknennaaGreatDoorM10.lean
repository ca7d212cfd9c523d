/-
  What is meant, by the model.
-/
import Derived.Test.YtkhjbhkbknennaaGreatDoorM9
import Derived.Test.YtkhjbhkbknennaaGreatDoorC12
import Derived.Deep.RegionWith
namespace Go.Proofs.YtkhjbhkbknennaaGreatDoor
open Go.RowKit
namespace L2
open S1 L1

theorem thenD_const (o : Out) (f : Out → Out) : thenD o f = thenD o (fun _ => f o) := by unfold thenD; split <;> rfl
theorem RecS.later {v : Value} {p nb : Nat} {d : Deed} {W W' : World} (h : RecS v p nb d W) (hb : Below W.heap.size W W') : RecS v p nb d W' := fun W'' a b bv bs sv sd h1 => h W'' a b bv bs sv sd (hb.trans (h1.mono hb.size))
theorem goodB_snoc {bs : Bs} {y : ByteArray} {k n : Int} (h : GoodB (toBd bs)) (hk : okB k n = true) : GoodB (toBd (bs ++ [(y, k, n)])) := by
  rw [toBd_snoc]
  intro b hb
  rcases List.mem_cons.1 hb with rfl | hb
  · exact hk
  · exact h b hb

set_option maxRecDepth 100000 in
set_option maxHeartbeats 2000000 in
theorem l4Mean_any (ss : List ByteArray) (hS : Small ss) (hp : (wsOf ss).any pieceW = false) : ∀ (f i x : Nat) (v : Value) (W : World), Row W v ss → ss.length ≤ i + f → f ≤ 60 → after (wsOf ss) 1 i = some x → RecS v i (60 - f) (mn f (wsOf ss) i) W := by
  intro f
  induction f with
  | zero =>
    intro i x v W _ hi _ h
    obtain ⟨_, _, _, _, hlt⟩ := sum_head h
    rw [ws_len] at hlt
    omega
  | succ f ih =>
    intro i x v W hR hi hf h W' a b bv bs sv sd hb hok hbv hfew hgd hsd hl hsh
    have hR := hR.below hb
    obtain ⟨e0, he, ha, hie, hil⟩ := sum_head h
    rw [ws_len] at hil
    have hP : ∀ w, Below W'.heap.size W' w → Calls Tryz.prog 95 #[v, .int .i64 (i : Int)] w (Rowed (row (wsOf ss) (kids (wsOf ss) i) e0) w) := fun w hbw => l2Parts_any v ss i e0 x w (hR.below hbw) hS he ha
    have hps : ∀ p ∈ row (wsOf ss) (kids (wsOf ss) i) e0, e0 ≤ p ∧ ∃ y, after (wsOf ss) 1 p = some y := row_parts _ _ _ ha
    have hlen : (row (wsOf ss) (kids (wsOf ss) i) e0).length = kids (wsOf ss) i := row_len _ _ _
    have hfirst : 0 < kids (wsOf ss) i → (row (wsOf ss) (kids (wsOf ss) i) e0).getD 0 0 = e0 := fun h0 => by
      obtain ⟨k, hk⟩ : ∃ k, kids (wsOf ss) i = k + 1 := ⟨kids (wsOf ss) i - 1, by omega⟩
      rw [hk]; rfl
    obtain ⟨hsem, hnd⟩ := head_ok hp he
    have hends := head_ends he
    rw [mn, he, Option.getD_some]
    generalize row (wsOf ss) (kids (wsOf ss) i) e0 = ps at hP hps hlen hfirst ⊢
    have hrec : ∀ k, k < ps.length → RecS v (ps.getD k 0) (60 - f) (mn f (wsOf ss) (ps.getD k 0)) W' := fun k hk => by
      have hm : ps.getD k 0 ∈ ps := by simp [List.getD, hk]
      obtain ⟨h1, y, hy⟩ := hps _ hm
      exact ih _ y v W' hR (by omega) (by omega) hy
    have hgo : ∀ k, k < ps.length → GoodD (mn f (wsOf ss) (ps.getD k 0)) := fun k hk => by
      have hm : ps.getD k 0 ∈ ps := by simp [List.getD, hk]
      obtain ⟨h1, y, hy⟩ := hps _ hm
      exact mn_good hp f _ y hy
    have hds : ∀ k, k < ps.length → (ps.map (mn f (wsOf ss))).getD k noD = mn f (wsOf ss) (ps.getD k 0) := fun k hk => by simp [List.getD, hk]
    have hnb : 60 - f = (60 - (f + 1)) + 1 := by omega
    rw [hnb] at hrec
    have hnb9 : 60 - (f + 1) ≤ 60 := by omega
    generalize 60 - (f + 1) = nb at hrec hfew hnb9
    have hxs : (wsOf ss).getD i [] = (ss.getD i ByteArray.empty).toList := ws_getD hil
    have hzs := hS.2 i hil
    obtain ⟨X, hX⟩ : ∃ X, ss.getD i ByteArray.empty = X := ⟨_, rfl⟩
    rw [hX] at hxs hzs
    rw [hxs] at hsem hnd ⊢
    obtain ⟨c, hc⟩ : ∃ c, code X.toList = c := ⟨_, rfl⟩
    have hT := tests_of hc
    have hN := needs_of_code hc
    rw [hc] at hsem ⊢
    rw [hN] at hnd
    have hkl : needsTab c (numW X.toList) = (ps.length : Int) := by rw [hlen]; exact hnd
    -- where the word has a first sum that goes on by l4More
    have go : 0 < ps.length → (X.toList == [97, 114, 103]) = false → (X.toList == [97, 115, 107]) = false → (X.toList == [107, 101, 101, 112]) = false → (X.toList == [116, 114, 121]) = false → ∀ F : Out → Out,
        (∀ (o : Out) (W2 : World) (pv : Value) (oa : Option Addr) (cp : Nat), Good o → Below W'.heap.size W' W2 → AskM W2 v ss pv ps o.k o.n (.slice oa o.said.length cp) o.said a b bv bs nb → Calls Tryz.prog 97 #[v, .string X, pv, .agg #[.int .i64 o.k, .int .i64 o.n, .bool false, .slice oa o.said.length cp, .int .i64 0], .agg #[.int .i64 a, .int .i64 b], bv] W2 (MeansS (F o) W2)) →
        Calls Tryz.prog 41 #[v, .int .i64 (i : Int), .agg #[.int .i64 a, .int .i64 b], bv, sv] W' (MeansS (thenD (mn f (wsOf ss) (ps.getD 0 0) a b (toBd bs) sd) F) W') := fun h0 t0 t1 t9 t11 F hF => by
      have hG := hgo 0 h0
      rw [thenD_const]
      refine mean_more hR hil hX hP h0 hok hbv hfew hgd hsd hl hsh (hrec 0 h0).few hG t0 t1 t9 t11 (fun _ _ W2 pv oa cp hb2 hpa hro => ?_)
      have hg := hG a b (toBd bs) sd hok hgd hl hsh
      exact hF _ W2 pv oa cp hg hb2 ⟨hR.below hb2, hpa, hg.val, hok, hro, hg.len, hg.short, hbv.below hb2, hfew, hgd⟩
    obtain ⟨t0, t1, t2, t3, t4, t5, t6, t7, t8, t9, t10, t11, t12, t13⟩ := hT
    rcases hsem with rfl | rfl | rfl | rfl | rfl | rfl | rfl | rfl | rfl | rfl | rfl | ⟨rfl, hnw⟩
    · exact mean_arg hR hil hX hP hsd hbv t0
    · have hbw : bindW ((wsOf ss).getD i []) = true := by rw [hxs, bind_code, hc]; rfl
      rcases hends with ⟨_, _, _, h4⟩ | ⟨h1, _⟩
      · have hn : nameAt (wsOf ss) i = (ss.getD (i + 1) ByteArray.empty).toList := by unfold nameAt; rw [hbw, if_pos rfl, ws_getD (by rw [ws_len] at h4; exact h4)]
        rw [hn]
        exact mean_ask hR (by rw [ws_len] at h4; exact h4) hX rfl hP hsd hbv t0 t1
      · rw [hbw] at h1; cases h1
    · have h0 : 0 < ps.length := by simp [needsTab] at hkl; omega
      show Calls _ _ _ _ (MeansS (sayD ((ps.map (mn f (wsOf ss))).getD 0 noD) a b (toBd bs) sd) W')
      rw [hds 0 h0]
      exact go h0 t0 t1 t9 t11 _ fun o W2 pv oa cp hg hb2 hA => more_say hA t2
    · have h0 : 0 < ps.length := by simp [needsTab] at hkl; omega
      show Calls _ _ _ _ (MeansS (throwD ((ps.map (mn f (wsOf ss))).getD 0 noD) a b (toBd bs) sd) W')
      rw [hds 0 h0]
      exact go h0 t0 t1 t9 t11 _ fun o W2 pv oa cp hg hb2 hA => more_throw hA t2 t3
    · have h1 : 1 < ps.length := by simp [needsTab] at hkl; omega
      show Calls _ _ _ _ (MeansS (twoD addG ((ps.map (mn f (wsOf ss))).getD 0 noD) ((ps.map (mn f (wsOf ss))).getD 1 noD) a b (toBd bs) sd) W')
      rw [hds 0 (by omega), hds 1 h1]
      exact go (by omega) t0 t1 t9 t11 _ fun o W2 pv oa cp hg hb2 hA => more_two (g := addG) hA t2 t3 t13 t10 ((hrec 1 h1).few.later hb2) h1 (fun c d w _ => worthOf_add X _ _ c d w t6) (hgo 1 h1)
    · have h1 : 1 < ps.length := by simp [needsTab] at hkl; omega
      show Calls _ _ _ _ (MeansS (twoD lssG ((ps.map (mn f (wsOf ss))).getD 0 noD) ((ps.map (mn f (wsOf ss))).getD 1 noD) a b (toBd bs) sd) W')
      rw [hds 0 (by omega), hds 1 h1]
      exact go (by omega) t0 t1 t9 t11 _ fun o W2 pv oa cp hg hb2 hA => more_two (g := lssG) hA t2 t3 t13 t10 ((hrec 1 h1).few.later hb2) h1 (fun c d w _ => worthOf_below X _ _ c d w t6 t7) (hgo 1 h1)
    · have h1 : 1 < ps.length := by simp [needsTab] at hkl; omega
      show Calls _ _ _ _ (MeansS (twoD bothG ((ps.map (mn f (wsOf ss))).getD 0 noD) ((ps.map (mn f (wsOf ss))).getD 1 noD) a b (toBd bs) sd) W')
      rw [hds 0 (by omega), hds 1 h1]
      exact go (by omega) t0 t1 t9 t11 _ fun o W2 pv oa cp hg hb2 hA => more_two (g := bothG) hA t2 t3 t13 t10 ((hrec 1 h1).few.later hb2) h1 (fun c d w hcd => worthOf_both X _ _ c d w t6 t7 t8 hg.val hcd) (hgo 1 h1)
    · have h1 : 1 < ps.length := by simp [needsTab] at hkl; omega
      show Calls _ _ _ _ (MeansS (keepD ((ps.map (mn f (wsOf ss))).getD 0 noD) ((ps.map (mn f (wsOf ss))).getD 1 noD) a b (toBd bs) sd) W')
      rw [hds 0 (by omega), hds 1 h1]
      exact mean_keep hR hil hX hP (by omega) hok hbv hfew hgd hsd hl hsh (hrec 0 (by omega)).few (hgo 0 (by omega)) t0 t1 t9 (hrec 1 h1).few h1 (hgo 1 h1)
    · have h1 : 1 < ps.length := by simp [needsTab] at hkl; omega
      have hbw : bindW ((wsOf ss).getD i []) = true := by rw [hxs, bind_code, hc]; rfl
      rcases hends with ⟨_, h2, _, h4⟩ | ⟨h2, _⟩
      · rw [ws_len] at h4
        have hn : nameAt (wsOf ss) i = (ss.getD (i + 1) ByteArray.empty).toList := by unfold nameAt; rw [hbw, if_pos rfl, ws_getD h4]
        rw [hn]
        show Calls _ _ _ _ (MeansS (bindD (ss.getD (i + 1) ByteArray.empty).toList ((ps.map (mn f (wsOf ss))).getD 0 noD) ((ps.map (mn f (wsOf ss))).getD 1 noD) a b (toBd bs) sd) W')
        rw [hds 0 (by omega), hds 1 h1]
        refine go (by omega) t0 t1 t9 t11 _ fun o W2 pv oa cp hg hb2 hA => ?_
        have hm := more_bind (y := ss.getD (i + 1) ByteArray.empty) (q := i + 1) hA t2 t3 t13 t10 ((hrec 1 h1).later hb2) h1 (by rw [hfirst (by omega), h2]) h4 rfl (by omega) (goodB_snoc hgd hg.val)
        rw [toBd_snoc] at hm
        exact hm
      · rw [hbw] at h2; cases h2
    · have h1 : 1 < ps.length := by simp [needsTab] at hkl; omega
      show Calls _ _ _ _ (MeansS (tryD ((ps.map (mn f (wsOf ss))).getD 0 noD) ((ps.map (mn f (wsOf ss))).getD 1 noD) a b (toBd bs) sd) W')
      rw [hds 0 (by omega), hds 1 h1]
      exact mean_try hR hil hX hP (by omega) hok hbv hfew hgd hsd hl hsh (hrec 0 (by omega)).few (hgo 0 (by omega)) t0 t1 t9 t11 (hrec 1 h1).few h1
    · have h2 : 2 < ps.length := by simp [needsTab] at hkl; omega
      show Calls _ _ _ _ (MeansS (ifD ((ps.map (mn f (wsOf ss))).getD 0 noD) ((ps.map (mn f (wsOf ss))).getD 1 noD) ((ps.map (mn f (wsOf ss))).getD 2 noD) a b (toBd bs) sd) W')
      rw [hds 0 (by omega), hds 1 (by omega), hds 2 h2]
      exact go (by omega) t0 t1 t9 t11 _ fun o W2 pv oa cp hg hb2 hA => more_if hA t2 t3 t13 ((hrec 1 (by omega)).few.later hb2) (by omega) ((hrec 2 h2).few.later hb2) h2
    · have h0 : ps = [] := by
        have : ps.length = 0 := by simp [needsTab, hnw] at hkl; omega
        exact List.eq_nil_of_length_eq_zero this
      rw [h0] at hP
      exact mean_num hR hil hX (by unfold maxLen; omega) hP hsd hbv t0 t1

/-- What is meant, as the model answers it: the words that were said lie in a row of its own, or nowhere. -/
def MeantS (W : World) (o : Out) (e : Ending) (W' : World) : Prop := ∃ u, e = .returned (outV o u) ∧ W'.ownsRow W.heap.size 9 1 u o.said.length (o.said.map Value.string) ∧ Below W.heap.size W W'
theorem rowB_none (W : World) (x : Addr) : RowB W (.slice (some x) 0 0) [] := ⟨_, 0, rfl, Nat.le_refl _, by unfold maxLen; omega, Or.inl rfl⟩
theorem row_none (W : World) (x : Addr) : Row W (.slice (some x) 0 0) [] := ⟨_, 0, rfl, Nat.le_refl _, by unfold maxLen; omega, fun i hi => by cases hi⟩

set_option maxRecDepth 100000 in
set_option maxHeartbeats 4000000 in
theorem specMeant_any (v : Value) (ss : List ByteArray) (a b : Int) (W : World) (hR : Row W v ss) (hS : Small ss) :
    Calls Tryz.prog 10 #[v, .agg #[.int .i64 a, .int .i64 b]] W (MeantS W (meant (wsOf ss) a b)) := by
  have HIP := Lib.hid (fun w1 (hb : Below W.heap.size W w1) => specIsPlain_any v ss w1 (hR.below hb) hS)
  have hv : ∃ oa l cp, v = .slice oa l cp ∧ l ≤ cp ∧ cp ≤ maxLen := by
    obtain ⟨oa, cp, e, h1, h2, _⟩ := hR
    exact ⟨oa, _, cp, e, h1, h2⟩
  cases hpl : plain (wsOf ss)
  · have hm : meant (wsOf ss) a b = wrong 1 := by unfold meant; unfold plain at hpl; rw [hpl]; rfl
    rw [hpl] at HIP
    rw [hm]
    clear hR hS hpl hm
    obtain ⟨oa, l, cp, rfl, hl1, hl2⟩ := hv
    unfold maxLen at hl2
    go_enter Tryz.func10, Tryz.ntmps10
    go_wp2_with fail
    refine (HIP.out _ (by (repeat (first | (with_reducible refine Below.alloc ?_ ?_ _) | (with_reducible refine Below.setCell ?_ ?_ _) | (with_reducible refine Below.drew ?_) | (with_reducible exact Below.refl _ _) | (with_reducible refine Below.trans ?_ (Below.mono (by assumption) ?_)))) <;> (first | omega | (dsimp only; omega) | (simp; done) | (simp; omega) | (simp at *; omega)))).mono ?_
    rintro e w1 ⟨rfl, hb1⟩
    have hs1 := hb1.size
    obtain ⟨hc1, hf1⟩ := bcell hb1
    simp at hs1
    have z0 : W.heap.size < w1.heap.size := by omega
    have z1 : W.heap.size + 1 < w1.heap.size := by omega
    go_wp2_with fail
    refine bodyPost_ret (v := .agg #[.int .i64 0, .int .i64 0, .bool false, .slice none 0 0, .int .i64 1]) (by simp [results, Tryz.results10, go_sem, *]) rfl ?_
    refine ⟨_, rfl, World.ownsRow_nil _ _ _ _, ?_⟩
    clear hc1 hf1
    (repeat (first | (with_reducible refine Below.alloc ?_ ?_ _) | (with_reducible refine Below.setCell ?_ ?_ _) | (with_reducible refine Below.drew ?_) | (with_reducible exact Below.refl _ _) | (with_reducible refine Below.trans ?_ (Below.mono (by assumption) ?_)))) <;> (first | omega | (dsimp only; omega) | (simp; done) | (simp; omega) | (simp at *; omega))
  · have hpl' := hpl
    unfold plain at hpl'
    rw [Bool.and_eq_true, Bool.not_eq_true'] at hpl'
    obtain ⟨ho, hp⟩ := hpl'
    obtain ⟨h60, _, h3, _⟩ := ok_head ho
    have hl := h60
    rw [ws_len] at hl
    rw [hpl] at HIP
    have HOK := Lib.hid (fun w1 => specValueOk_any a b w1)
    have HM := Lib.hid (fun W2 (hb : Below W.heap.size W W2) (hok : okB a b = true) x y => l4Mean_any ss hS hp ss.length 0 _ v W hR (by omega) hl h3 W2 a b (.slice (some x) 0 0) [] (.slice (some y) 0 0) [] hb hok (rowB_none _ _) (by simp) (fun c hc => by cases hc) (row_none _ _) (by simp) short_nil)
    rw [show mn ss.length (wsOf ss) 0 = mean (wsOf ss) 0 from by unfold mean; rw [ws_len], show toBd [] = [] from rfl] at HM
    cases hok : okB a b
    · have hm : meant (wsOf ss) a b = wrong 1 := by unfold meant; rw [hok, Bool.and_false]; rfl
      rw [hok] at HOK
      rw [hm]
      clear hR hS hpl hm ho hp hok HM h60 hl h3
      obtain ⟨oa, l, cp, rfl, hl1, hl2⟩ := hv
      unfold maxLen at hl2
      go_enter Tryz.func10, Tryz.ntmps10
      go_wp2_with fail
      refine (HIP.out _ (by (repeat (first | (with_reducible refine Below.alloc ?_ ?_ _) | (with_reducible refine Below.setCell ?_ ?_ _) | (with_reducible refine Below.drew ?_) | (with_reducible exact Below.refl _ _) | (with_reducible refine Below.trans ?_ (Below.mono (by assumption) ?_)))) <;> (first | omega | (dsimp only; omega) | (simp; done) | (simp; omega) | (simp at *; omega)))).mono ?_
      rintro e w1 ⟨rfl, hb1⟩
      have hs1 := hb1.size
      obtain ⟨hc1, hf1⟩ := bcell hb1
      simp at hs1
      have z0 : W.heap.size < w1.heap.size := by omega
      have z1 : W.heap.size + 1 < w1.heap.size := by omega
      go_wp2_with fail
      refine (HOK.out _).mono ?_
      rintro e w2 ⟨rfl, hb2⟩
      have hs2 := hb2.size
      obtain ⟨hc2, hf2⟩ := bcell hb2
      have z2 : W.heap.size + 1 < w2.heap.size := by omega
      go_wp2_with fail
      refine bodyPost_ret (v := .agg #[.int .i64 0, .int .i64 0, .bool false, .slice none 0 0, .int .i64 1]) (by simp [results, Tryz.results10, go_sem, *]) rfl ?_
      refine ⟨_, rfl, World.ownsRow_nil _ _ _ _, ?_⟩
      clear hc1 hf1 hc2 hf2
      (repeat (first | (with_reducible refine Below.alloc ?_ ?_ _) | (with_reducible refine Below.setCell ?_ ?_ _) | (with_reducible refine Below.drew ?_) | (with_reducible exact Below.refl _ _) | (with_reducible refine Below.trans ?_ (Below.mono (by assumption) ?_)))) <;> (first | omega | (dsimp only; omega) | (simp; done) | (simp; omega) | (simp at *; omega))
    · have hm : meant (wsOf ss) a b = mean (wsOf ss) 0 a b [] [] := meant_yes ho hp hok
      have HMM := Lib.hid (fun W2 hb x y => HM.out W2 hb hok x y)
      have hgd := mean_good hp h3 a b [] [] hok (fun c hc => by cases hc) (by simp) short_nil
      rw [hok] at HOK
      rw [hm]
      obtain ⟨o, hod⟩ : ∃ o, mean (wsOf ss) 0 a b [] [] = o := ⟨_, rfl⟩
      rw [hod] at HMM hgd ⊢
      obtain ⟨ok, on, ot, oz, oc⟩ := o
      have hz40 : oz.length ≤ 40 := hgd.len
      clear hR hS hpl hm ho hp hok h60 hl h3 HM hod hgd
      obtain ⟨oa, l, cp, rfl, hl1, hl2⟩ := hv
      unfold maxLen at hl2
      go_enter Tryz.func10, Tryz.ntmps10
      go_wp2_with fail
      refine (HIP.out _ (by (repeat (first | (with_reducible refine Below.alloc ?_ ?_ _) | (with_reducible refine Below.setCell ?_ ?_ _) | (with_reducible refine Below.drew ?_) | (with_reducible exact Below.refl _ _) | (with_reducible refine Below.trans ?_ (Below.mono (by assumption) ?_)))) <;> (first | omega | (dsimp only; omega) | (simp; done) | (simp; omega) | (simp at *; omega)))).mono ?_
      rintro e w1 ⟨rfl, hb1⟩
      have hs1 := hb1.size
      obtain ⟨hc1, hf1⟩ := bcell hb1
      simp at hs1
      have z0 : W.heap.size < w1.heap.size := by omega
      have z1 : W.heap.size + 1 < w1.heap.size := by omega
      go_wp2_with fail
      refine (HOK.out _).mono ?_
      rintro e w2 ⟨rfl, hb2⟩
      have hs2 := hb2.size
      obtain ⟨hc2, hf2⟩ := bcell hb2
      have z2 : W.heap.size + 1 < w2.heap.size := by omega
      have z3 : W.heap.size < w2.heap.size := by omega
      have hB2 : Below W.heap.size W w2 := by (repeat (first | (with_reducible refine Below.alloc ?_ ?_ _) | (with_reducible refine Below.setCell ?_ ?_ _) | (with_reducible refine Below.drew ?_) | (with_reducible exact Below.refl _ _) | (with_reducible refine Below.trans ?_ (Below.mono (by assumption) ?_)))) <;> (first | omega | (dsimp only; omega) | (simp; done) | (simp; omega) | (simp at *; omega))
      have HB2 := Lib.hid hB2
      clear hB2
      go_wp2_with fail
      refine (HMM.out _ ?_ _ _).mono ?_
      · have hh := HB2.out
        (repeat (first | (with_reducible refine Below.alloc ?_ ?_ _) | (with_reducible refine Below.setCell ?_ ?_ _) | (with_reducible refine Below.drew ?_) | (with_reducible exact Below.refl _ _) | (with_reducible refine Below.trans ?_ (Below.mono (by assumption) ?_)))) <;> (first | omega | (dsimp only; omega) | (simp; done) | (simp; omega) | (simp at *; omega))
      rintro e w3 ⟨oa3, cp3, rfl, hrow3, hb3⟩
      have hs3 := hb3.size
      obtain ⟨hc3, hf3⟩ := bcell hb3
      simp at hs3
      have z4 : W.heap.size + 1 < w3.heap.size := by omega
      have hB3 : Below W.heap.size W w3 := by
        have hh := HB2.out
        clear hc1 hf1 hc2 hf2 hc3 hf3 hb1 hb2
        (repeat (first | (with_reducible refine Below.alloc ?_ ?_ _) | (with_reducible refine Below.setCell ?_ ?_ _) | (with_reducible refine Below.drew ?_) | (with_reducible exact Below.refl _ _) | (with_reducible refine Below.trans ?_ (Below.mono (by assumption) ?_)))) <;> (first | omega | (dsimp only; omega) | (simp; done) | (simp; omega) | (simp at *; omega))
      have hb23 : Below w2.heap.size w2 w3 := (((Below.refl w2.heap.size w2).alloc (Nat.le_refl _) _).alloc (by simp) _).trans (hb3.mono (by simp; omega))
      have ra : (w1.cell? ⟨W.heap.size + 1, 0, none⟩ = some (.int .i64 0) ∧ w1.cell? ⟨W.heap.size + 1, 1, none⟩ = some (.int .i64 0) ∧ w1.cell? ⟨W.heap.size + 1, 2, none⟩ = some (.bool false) ∧ w1.cell? ⟨W.heap.size + 1, 3, none⟩ = some (.slice none 0 0) ∧ w1.cell? ⟨W.heap.size + 1, 4, none⟩ = some (.int .i64 0)) := by simp [hc1, go_sem]
      have rfa : ∀ i, w1.frozen? ⟨W.heap.size + 1, i, none⟩ = false := by simp [hf1, go_sem]
      have hcc : ∀ i, w3.cell? ⟨W.heap.size + 1, i, none⟩ = w1.cell? ⟨W.heap.size + 1, i, none⟩ := fun i => (hb23.cell (p := ⟨W.heap.size + 1, i, none⟩) z2).trans (hb2.cell (p := ⟨W.heap.size + 1, i, none⟩) z1)
      have r0 := (hcc 0).trans ra.1
      have r1 := (hcc 1).trans ra.2.1
      have r2 := (hcc 2).trans ra.2.2.1
      have r3 := (hcc 3).trans ra.2.2.2.1
      have r4 := (hcc 4).trans ra.2.2.2.2
      have rf : ∀ i, w3.frozen? ⟨W.heap.size + 1, i, none⟩ = false := fun i => (hb23.frozen (p := ⟨W.heap.size + 1, i, none⟩) z2).trans ((hb2.frozen (p := ⟨W.heap.size + 1, i, none⟩) z1).trans (rfa i))
      have HB3 := Lib.hid hB3
      have HR3 := Lib.hid hrow3
      clear hc1 hf1 hc2 hf2 hc3 hf3 hb1 hb2 hb3 hs1 hs2 hb23 ra rfa hcc hB3 hrow3
      unfold outV
      simp only
      go_wp2_with fail
      have a0 := alloc_cell w3 #[.int .i64 ok, .int .i64 on, .bool ot, .slice oa3 oz.length cp3, .int .i64 oc] 67 0
      have a1 := alloc_cell w3 #[.int .i64 ok, .int .i64 on, .bool ot, .slice oa3 oz.length cp3, .int .i64 oc] 67 1
      have a2 := alloc_cell w3 #[.int .i64 ok, .int .i64 on, .bool ot, .slice oa3 oz.length cp3, .int .i64 oc] 67 2
      have a3 := alloc_cell w3 #[.int .i64 ok, .int .i64 on, .bool ot, .slice oa3 oz.length cp3, .int .i64 oc] 67 3
      have a4 := alloc_cell w3 #[.int .i64 ok, .int .i64 on, .bool ot, .slice oa3 oz.length cp3, .int .i64 oc] 67 4
      have r0 := held_old r0 z4 (.cells #[.int .i64 ok, .int .i64 on, .bool ot, .slice oa3 oz.length cp3, .int .i64 oc] 67)
      have r1 := held_old r1 z4 (.cells #[.int .i64 ok, .int .i64 on, .bool ot, .slice oa3 oz.length cp3, .int .i64 oc] 67)
      have r2 := held_old r2 z4 (.cells #[.int .i64 ok, .int .i64 on, .bool ot, .slice oa3 oz.length cp3, .int .i64 oc] 67)
      have r3 := held_old r3 z4 (.cells #[.int .i64 ok, .int .i64 on, .bool ot, .slice oa3 oz.length cp3, .int .i64 oc] 67)
      have r4 := held_old r4 z4 (.cells #[.int .i64 ok, .int .i64 on, .bool ot, .slice oa3 oz.length cp3, .int .i64 oc] 67)
      have rf := fun i => held_oldf (rf i) z4 (.cells #[.int .i64 ok, .int .i64 on, .bool ot, .slice oa3 oz.length cp3, .int .i64 oc] 67)
      have HB3 := Lib.hid (HB3.out.alloc HB3.out.size (.cells #[.int .i64 ok, .int .i64 on, .bool ot, .slice oa3 oz.length cp3, .int .i64 oc] 67))
      have HR3 := Lib.hid (HR3.out.below ((Below.refl _ _).alloc (Nat.le_refl _) (.cells #[.int .i64 ok, .int .i64 on, .bool ot, .slice oa3 oz.length cp3, .int .i64 oc] 67)))
      have sa : (w3.alloc (.cells #[.int .i64 ok, .int .i64 on, .bool ot, .slice oa3 oz.length cp3, .int .i64 oc] 67)).heap.size = w3.heap.size + 1 := by simp
      generalize w3.alloc (.cells #[.int .i64 ok, .int .i64 on, .bool ot, .slice oa3 oz.length cp3, .int .i64 oc] 67) = wa at a0 a1 a2 a3 a4 r0 r1 r2 r3 r4 rf HB3 HR3 sa ⊢
      simp only [List.getElem?_toArray, List.getElem?_cons_zero, List.getElem?_cons_succ] at a0 a1 a2 a3 a4
      have sa1 : w3.heap.size < wa.heap.size := by omega
      have sa2 : W.heap.size + 1 < wa.heap.size := by omega
      have s8 := Below.refl wa.heap.size wa
      have s7 := Nat.le_refl wa.heap.size
      have SA := Lib.hid sa
      have RR := Lib.hid (And.intro r0 (And.intro r1 (And.intro r2 (And.intro r3 (And.intro r4 rf)))))
      clear sa r0 r1 r2 r3 r4 rf
      go_region_held3 (fun w' => w'.cell? ⟨w3.heap.size, 0, none⟩ = some (.int .i64 ok) ∧ w'.cell? ⟨w3.heap.size, 1, none⟩ = some (.int .i64 on) ∧ w'.cell? ⟨w3.heap.size, 2, none⟩ = some (.bool ot) ∧ w'.cell? ⟨w3.heap.size, 3, none⟩ = some (.slice oa3 oz.length cp3) ∧ w'.cell? ⟨w3.heap.size, 4, none⟩ = some (.int .i64 oc) ∧ wa.heap.size ≤ w'.heap.size)
        (((try dsimp only); (repeat' (refine And.intro ?_ ?_)) <;> first | (with_reducible assumption) | omega | ((repeat (first | (with_reducible assumption) | (with_reducible refine held_drewc ?_) | (with_reducible refine held_old ?_ ?_ _) | (with_reducible refine held_setc ?_ ?_ _) | (with_reducible refine Below.alloc ?_ ?_ _) | (with_reducible refine Below.drew ?_) | (with_reducible refine Below.setCell ?_ ?_ _))) <;> first | omega | (simp; done) | (simp; omega)) | (simp; omega)))
        (first | (go_at_call 42; refine (l1Texts_any _ oz _ ?_ (by omega)).mono ?_; (focus (exact HR3.out.below (by ((repeat (first | (with_reducible assumption) | (with_reducible refine Below.alloc ?_ ?_ _) | (with_reducible refine Below.drew ?_) | (with_reducible exact Below.refl _ _))) <;> first | omega | (simp; done) | (simp; omega))))); rintro e w4 ⟨u, rfl, hO4, hb4⟩; obtain ⟨gu, cu, rfl, -, -, hgu, -, -⟩ := hO4.form; have HO4 := Lib.hid hO4; have hb4 : Below wa.heap.size wa w4 := held_below (by ((repeat (first | (with_reducible assumption) | (with_reducible refine Below.alloc ?_ ?_ _) | (with_reducible refine Below.drew ?_) | (with_reducible exact Below.refl _ _))) <;> first | omega | (simp; done) | (simp; omega))) hb4 (by first | omega | (simp; omega)); have hs4 := hb4.size; have k0 := (hb4.cell (p := ⟨w3.heap.size, 0, none⟩) (by (try dsimp only); omega)).trans a0; have k1 := (hb4.cell (p := ⟨w3.heap.size, 1, none⟩) (by (try dsimp only); omega)).trans a1; have k2 := (hb4.cell (p := ⟨w3.heap.size, 2, none⟩) (by (try dsimp only); omega)).trans a2; have k3 := (hb4.cell (p := ⟨w3.heap.size, 3, none⟩) (by (try dsimp only); omega)).trans a3; have k4 := (hb4.cell (p := ⟨w3.heap.size, 4, none⟩) (by (try dsimp only); omega)).trans a4; have q0 := (hb4.cell (p := ⟨W.heap.size + 1, 0, none⟩) (by (try dsimp only); omega)).trans RR.out.1; have q1 := (hb4.cell (p := ⟨W.heap.size + 1, 1, none⟩) (by (try dsimp only); omega)).trans RR.out.2.1; have q2 := (hb4.cell (p := ⟨W.heap.size + 1, 2, none⟩) (by (try dsimp only); omega)).trans RR.out.2.2.1; have q3 := (hb4.cell (p := ⟨W.heap.size + 1, 3, none⟩) (by (try dsimp only); omega)).trans RR.out.2.2.2.1; have q4 := (hb4.cell (p := ⟨W.heap.size + 1, 4, none⟩) (by (try dsimp only); omega)).trans RR.out.2.2.2.2.1; have qf := (fun i => (hb4.frozen (p := ⟨W.heap.size + 1, i, none⟩) (by (try dsimp only); omega)).trans (RR.out.2.2.2.2.2 i)); have z30 : W.heap.size + 1 < w4.heap.size := (by omega)))
      all_goals
        go_wp2_with fail
        refine bodyPost_ret (v := .agg #[.int .i64 ok, .int .i64 on, .bool ot, .slice (some ⟨gu, 0, none⟩) oz.length cu, .int .i64 oc]) (by simp [results, Tryz.results10, go_sem, *]) rfl ?_
        have hgW : W.heap.size ≤ gu := by have := hgu; simp at this; omega
        have hbw : Below W.heap.size W w4 := HB3.out.trans (hb4.mono (by omega))
        have hgr := ((((D.grown_set w4 (W.heap.size + 1) 0 (.int .i64 ok)).trans (D.grown_set _ (W.heap.size + 1) 1 (.int .i64 on))).trans (D.grown_set _ (W.heap.size + 1) 2 (.bool ot))).trans (D.grown_set _ (W.heap.size + 1) 3 (.slice (some ⟨gu, 0, none⟩) oz.length cu))).trans (D.grown_set _ (W.heap.size + 1) 4 (.int .i64 oc))
        refine ⟨_, rfl, ((HO4.out.kept hgr (by simp only [Value.ownBlock]; intro e; injection e with e; have := hgu; simp at this; omega)).base (by first | omega | (simp; omega))).1, ?_⟩
        (repeat (first | (with_reducible exact hbw) | (with_reducible refine Below.setCell ?_ ?_ _))) <;> first | omega | (dsimp only; omega)

end L2
end Go.Proofs.YtkhjbhkbknennaaGreatDoor
