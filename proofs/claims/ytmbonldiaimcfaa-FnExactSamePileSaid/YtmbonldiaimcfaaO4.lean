/-
  Piles held against each other: the model's own and the program's (written by wip/gen_o4.py).
-/
import Derived.Test.YtmbonldiaimcfaaO2
namespace Go.Proofs.Ytmbonldiaimcfaa
open Go.RowKit Go.Sort
namespace L2
open L1

/-- Are they as many pieces, and each the same? -/
def sameQs (ps qs : List (List Pl)) : Bool := decide (ps.length = qs.length) && (List.range ps.length).all fun i => samePls (ps.getD i []) (qs.getD i [])
theorem sameQs_len {ps qs : List (List Pl)} (h : ¬ ps.length = qs.length) : sameQs ps qs = false := by unfold sameQs; simp [h]
theorem sameQs_at {ps qs : List (List Pl)} {k : Nat} (hk : k < ps.length) (h : samePls (ps.getD k []) (qs.getD k []) = false) : sameQs ps qs = false := by
  unfold sameQs
  have : ((List.range ps.length).all fun i => samePls (ps.getD i []) (qs.getD i [])) = false := by
    rw [List.all_eq_false]
    exact ⟨k, by simpa using hk, by simpa using h⟩
  rw [this, Bool.and_false]
theorem sameQs_all {ps qs : List (List Pl)} (hl : ps.length = qs.length) (h : ∀ k, k < ps.length → samePls (ps.getD k []) (qs.getD k []) = true) : sameQs ps qs = true := by
  unfold sameQs
  simp only [hl, decide_true, Bool.true_and, List.all_eq_true, List.mem_range]
  exact fun k hk => h k (by omega)
/-- Are two piles the same in all? -/
def samePil (x y : Pil) : Bool := sameO x.c y.c && decide (x.m = y.m) && decide (x.a = y.a) && sameB x.ak x.an y.ak y.an && sameB x.vk x.vn y.vk y.vn && samePls x.ps y.ps && sameQs x.qs y.qs && sameO x.sd y.sd

theorem samePiece_any (v v' : Value) (ps qs : List Pl) (w : World) (hR : RowP w v ps) (hR' : RowP w v' qs) :
    Calls Try.prog 21 #[.agg #[v], .agg #[v']] w fun e w' => e = .returned (.bool (samePls ps qs)) ∧ Below w.heap.size w w' := by
  have H := Lib.hid (fun w1 (hb : Below w.heap.size w w1) => implSamePlates_any v v' ps qs w1 (hR.below hb) (hR'.below hb))
  obtain ⟨oa, cap, rfl, _⟩ := hR
  obtain ⟨oa', cap', rfl, _⟩ := hR'
  generalize samePls ps qs = t at H ⊢
  go_enter Try.func21, Try.ntmps21
  go_wp2_with fail
  refine (H.out _ (by (repeat (first | (with_reducible refine Below.alloc ?_ ?_ _) | (with_reducible refine Below.setCell ?_ ?_ _) | (with_reducible refine Below.drew ?_) | (with_reducible exact Below.refl _ _) | (with_reducible refine Below.trans ?_ (Below.mono (by assumption) ?_)))) <;> (first | omega | (dsimp only; omega) | (simp; done) | (simp; omega) | (simp at *; omega)))).mono ?_
  rintro e w1 ⟨rfl, hb1⟩
  have HB1 : Hid (Below w.heap.size w w1) := Lib.hid (by (repeat (first | (with_reducible refine Below.alloc ?_ ?_ _) | (with_reducible refine Below.setCell ?_ ?_ _) | (with_reducible refine Below.drew ?_) | (with_reducible exact Below.refl _ _) | (with_reducible refine Below.trans ?_ (Below.mono (by assumption) ?_)))) <;> (first | omega | (dsimp only; omega) | (simp; done) | (simp; omega) | (simp at *; omega)))
  clear hb1
  go_wp2_with fail
  go_ret
  exact ⟨rfl, HB1.out⟩

set_option maxRecDepth 100000 in
set_option maxHeartbeats 2000000 in
theorem equalFuncQ_any (v v' : Value) (ps qs : List (List Pl)) (w : World) (hR : RowQ w v ps) (hR' : RowQ w v' qs) :
    Calls Try.prog 20 #[v, v', .func (.func 21) #[] #[]] w fun e w' => e = .returned (.bool (sameQs ps qs)) ∧ Below w.heap.size w w' := by
  obtain ⟨oa, cap, rfl, h1, h2, h3⟩ := hR
  obtain ⟨oa', cap', rfl, h1', h2', h3'⟩ := hR'
  obtain ⟨n, hn⟩ : ∃ n, ps.length = n := ⟨_, rfl⟩
  obtain ⟨m, hm⟩ : ∃ m, qs.length = m := ⟨_, rfl⟩
  have HN := Lib.hid hn
  have HM := Lib.hid hm
  rw [hn] at h1 h3
  rw [hm] at h1' h3'
  unfold maxLen at h2 h2'
  by_cases hnm : n = m
  · subst hnm
    have H3 := Lib.hid h3
    have H3' := Lib.hid h3'
    clear hn hm h3 h3'
    rw [HN.out, HM.out]
    go_enter Try.func20, Try.ntmps20
    go_wp2_with fail
    go_loopw [17] (fun i wr => ∃ k : Nat, k ≤ n ∧ i = .int .i64 (k : Int) ∧ Hid (∀ j, j < k → samePls (ps.getD j []) (qs.getD j []) = true) ∧ Below w.heap.size w wr) (fun i _ => n - (intOf i).toNat)
    case atStart => exact ⟨0, Nat.zero_le _, rfl, Lib.hid (fun j hj => absurd hj (Nat.not_lt_zero _)), Below.refl _ _⟩
    case round =>
      obtain ⟨k, hk, rfl, hall, hB⟩ := hrel
      have HB := Lib.hid hB
      clear hB
      by_cases hlt : k < n
      · obtain ⟨b, off, u, rfl, hb, hc, hP⟩ := H3.out k hlt
        obtain ⟨b', off', u', rfl, hb', hcc, hP'⟩ := H3'.out k hlt
        have hc1 := (HB.out.cell (p := ⟨b, off + k, none⟩) hb).trans hc
        have hc2 := (HB.out.cell (p := ⟨b', off' + k, none⟩) hb').trans hcc
        have hbr := Nat.lt_of_lt_of_le hb HB.out.size
        have hbr' := Nat.lt_of_lt_of_le hb' HB.out.size
        have HS := Lib.hid (fun w1 (hb1 : Below wr.heap.size wr w1) => samePiece_any u u' (ps.getD k []) (qs.getD k []) w1 ((hP.below HB.out).below hb1) ((hP'.below HB.out).below hb1))
        obtain ⟨oa, cap, rfl, _⟩ := hP
        obtain ⟨oa', cap', rfl, _⟩ := hP'
        obtain ⟨t, ht⟩ : ∃ t, samePls (ps.getD k []) (qs.getD k []) = t := ⟨_, rfl⟩
        rw [ht] at HS
        have HT := Lib.hid ht
        generalize (ps.getD k []).length = m1 at hc1 HS
        generalize (qs.getD k []).length = m2 at hc2 HS
        have hk0 : (0 : Int) ≤ (k : Int) := by omega
        have hki : (k : Int) < (n : Int) := by omega
        clear hc hcc ht hb hb'
        go_wp2_with fail
        refine (HS.out _ (((Below.refl _ _).alloc (Nat.le_refl _) _).alloc (by simp) _)).mono ?_
        rintro e w1 ⟨rfl, hb1⟩
        have HB1 := Lib.hid (HB.out.trans (((((Below.refl wr.heap.size wr).alloc (Nat.le_refl _) _).alloc (by simp) _).trans (hb1.mono (by simp; omega))).mono HB.out.size))
        clear hb1 hc1 hc2 HS
        cases t
        · go_wp2_with fail
          go_ret
          refine ⟨?_, HB1.out⟩
          rw [sameQs_at (k := k) (by rw [HN.out]; exact hlt) HT.out]
          rfl
        · go_wp2_with fail
          go_roundw
          case rel =>
            refine ⟨k + 1, by omega, by go_num, Lib.hid (fun j hj => ?_), HB1.out⟩
            by_cases e : j = k
            · subst e; exact HT.out
            · exact hall.out j (by omega)
          case measure => simp [intOf]; omega
      · have hki : ¬ (k : Int) < (n : Int) := by omega
        have hkn : k = n := by omega
        have HK := Lib.hid hkn
        clear hkn
        go_wp2_with fail
        go_ret
        refine ⟨?_, HB.out⟩
        rw [sameQs_all (by rw [HN.out, HM.out]) (fun j hj => hall.out j (by rw [HK.out, ← HN.out]; exact hj))]
        rfl
  · have hd : ¬ (n : Int) = (m : Int) := by omega
    rw [sameQs_len (by rw [hn, hm]; exact hnm)]
    rw [hn, hm]
    clear hn hm h3 h3' HN HM
    go_enter Try.func20, Try.ntmps20
    go_wp2_with fail
    go_ret
    exact ⟨rfl, Below.refl _ _⟩

set_option maxRecDepth 100000 in
set_option maxHeartbeats 4000000 in
theorem implSamePile_any (x y : Pil) (cv pv qv sv cv' pv' qv' sv' : Value) (w : World) (hR : RowsPi w x cv pv qv sv) (hR' : RowsPi w y cv' pv' qv' sv') :
    Calls Try.prog 7 #[pilV x cv pv qv sv, pilV y cv' pv' qv' sv'] w fun e w' => e = .returned (.bool (samePil x y)) ∧ Below w.heap.size w w' := by
  have HC := fun w1 (hb : Below w.heap.size w w1) => slicesEqual_any cv cv' x.c y.c w1 (hR.c.below hb) (hR'.c.below hb)
  have HP := fun w1 (hb : Below w.heap.size w w1) => implSamePlates_any pv pv' x.ps y.ps w1 (hR.p.below hb) (hR'.p.below hb)
  have HQ := fun w1 (hb : Below w.heap.size w w1) => equalFuncQ_any qv qv' x.qs y.qs w1 (hR.q.below hb) (hR'.q.below hb)
  have HS := fun w1 (hb : Below w.heap.size w w1) => slicesEqual_any sv sv' x.sd y.sd w1 (hR.s.below hb) (hR'.s.below hb)
  obtain ⟨s0, l0, c0, s1, l1, c1, s2, l2, c2, s3, l3, c3, e0, e1, e2, e3⟩ := hR.form
  obtain ⟨t0, m0, d0, t1, m1, d1, t2, m2, d2, t3, m3, d3, f0, f1, f2, f3⟩ := hR'.form
  subst e0 e1 e2 e3 f0 f1 f2 f3
  obtain ⟨c, m, a, ak, an, vk, vn, ps, qs, sd⟩ := x
  obtain ⟨c', m', a', ak', an', vk', vn', ps', qs', sd'⟩ := y
  unfold pilV
  simp only at HC HP HQ HS ⊢
  have HC := Lib.hid HC
  have HP := Lib.hid HP
  have HQ := Lib.hid HQ
  have HS := Lib.hid HS
  clear hR hR'
  by_cases gm : m = m'
  · subst gm
    by_cases ga : a = a'
    · subst ga
      by_cases gak : ak = ak'
      · subst gak
        by_cases gan : an = an'
        · subst gan
          by_cases gvk : vk = vk'
          · subst gvk
            by_cases gvn : vn = vn'
            · subst gvn
              cases h4 : sameO c c'
              · rw [h4] at HC
                rw [show samePil _ _ = false by unfold samePil; simp [h4]]
                go_enter Try.func7, Try.ntmps7
                go_wp2_with fail
                refine (HC.out _ (by (repeat (first | (with_reducible refine Below.alloc ?_ ?_ _) | (with_reducible refine Below.setCell ?_ ?_ _) | (with_reducible refine Below.drew ?_) | (with_reducible exact Below.refl _ _) | (with_reducible refine Below.trans ?_ (Below.mono (by assumption) ?_)))) <;> (first | omega | (dsimp only; omega) | (simp; done) | (simp; omega) | (simp at *; omega)))).mono ?_
                rintro e w1 ⟨rfl, hb1⟩
                have hs1 := hb1.size
                have HB1 : Hid (Below w.heap.size w w1) := Lib.hid (by (repeat (first | (with_reducible refine Below.alloc ?_ ?_ _) | (with_reducible refine Below.setCell ?_ ?_ _) | (with_reducible refine Below.drew ?_) | (with_reducible exact Below.refl _ _) | (with_reducible refine Below.trans ?_ (Below.mono (by assumption) ?_)))) <;> (first | omega | (dsimp only; omega) | (simp; done) | (simp; omega) | (simp at *; omega)))
                obtain ⟨hc1, hf1⟩ := bcell hb1
                simp at hs1
                have z1_0 : w.heap.size < w1.heap.size := by omega
                have z1_1 : w.heap.size + 1 < w1.heap.size := by omega
                clear hb1
                go_wp2_with fail
                go_ret
                exact ⟨rfl, HB1.out⟩
              · rw [h4] at HC
                cases h5 : samePls ps ps'
                · rw [h5] at HP
                  rw [show samePil _ _ = false by unfold samePil; simp [h5]]
                  go_enter Try.func7, Try.ntmps7
                  go_wp2_with fail
                  refine (HC.out _ (by (repeat (first | (with_reducible refine Below.alloc ?_ ?_ _) | (with_reducible refine Below.setCell ?_ ?_ _) | (with_reducible refine Below.drew ?_) | (with_reducible exact Below.refl _ _) | (with_reducible refine Below.trans ?_ (Below.mono (by assumption) ?_)))) <;> (first | omega | (dsimp only; omega) | (simp; done) | (simp; omega) | (simp at *; omega)))).mono ?_
                  rintro e w1 ⟨rfl, hb1⟩
                  have hs1 := hb1.size
                  have HB1 : Hid (Below w.heap.size w w1) := Lib.hid (by (repeat (first | (with_reducible refine Below.alloc ?_ ?_ _) | (with_reducible refine Below.setCell ?_ ?_ _) | (with_reducible refine Below.drew ?_) | (with_reducible exact Below.refl _ _) | (with_reducible refine Below.trans ?_ (Below.mono (by assumption) ?_)))) <;> (first | omega | (dsimp only; omega) | (simp; done) | (simp; omega) | (simp at *; omega)))
                  obtain ⟨hc1, hf1⟩ := bcell hb1
                  simp at hs1
                  have z1_0 : w.heap.size < w1.heap.size := by omega
                  have z1_1 : w.heap.size + 1 < w1.heap.size := by omega
                  clear hb1
                  go_wp2_with fail
                  refine (HP.out _ (by have hh := HB1.out; (repeat (first | (with_reducible refine Below.alloc ?_ ?_ _) | (with_reducible refine Below.setCell ?_ ?_ _) | (with_reducible refine Below.drew ?_) | (with_reducible exact Below.refl _ _) | (with_reducible refine Below.trans ?_ (Below.mono (by assumption) ?_)))) <;> (first | omega | (dsimp only; omega) | (simp; done) | (simp; omega) | (simp at *; omega)))).mono ?_
                  rintro e w2 ⟨rfl, hb2⟩
                  have hs2 := hb2.size
                  have HB2 : Hid (Below w.heap.size w w2) := Lib.hid (by have hh := HB1.out; (repeat (first | (with_reducible refine Below.alloc ?_ ?_ _) | (with_reducible refine Below.setCell ?_ ?_ _) | (with_reducible refine Below.drew ?_) | (with_reducible exact Below.refl _ _) | (with_reducible refine Below.trans ?_ (Below.mono (by assumption) ?_)))) <;> (first | omega | (dsimp only; omega) | (simp; done) | (simp; omega) | (simp at *; omega)))
                  obtain ⟨hc2, hf2⟩ := bcell hb2
                  have z2_0 : w.heap.size < w2.heap.size := by omega
                  have z2_1 : w.heap.size + 1 < w2.heap.size := by omega
                  clear hb2
                  go_wp2_with fail
                  go_ret
                  exact ⟨rfl, HB2.out⟩
                · rw [h5] at HP
                  cases h6 : sameQs qs qs'
                  · rw [h6] at HQ
                    rw [show samePil _ _ = false by unfold samePil; simp [h6]]
                    go_enter Try.func7, Try.ntmps7
                    go_wp2_with fail
                    refine (HC.out _ (by (repeat (first | (with_reducible refine Below.alloc ?_ ?_ _) | (with_reducible refine Below.setCell ?_ ?_ _) | (with_reducible refine Below.drew ?_) | (with_reducible exact Below.refl _ _) | (with_reducible refine Below.trans ?_ (Below.mono (by assumption) ?_)))) <;> (first | omega | (dsimp only; omega) | (simp; done) | (simp; omega) | (simp at *; omega)))).mono ?_
                    rintro e w1 ⟨rfl, hb1⟩
                    have hs1 := hb1.size
                    have HB1 : Hid (Below w.heap.size w w1) := Lib.hid (by (repeat (first | (with_reducible refine Below.alloc ?_ ?_ _) | (with_reducible refine Below.setCell ?_ ?_ _) | (with_reducible refine Below.drew ?_) | (with_reducible exact Below.refl _ _) | (with_reducible refine Below.trans ?_ (Below.mono (by assumption) ?_)))) <;> (first | omega | (dsimp only; omega) | (simp; done) | (simp; omega) | (simp at *; omega)))
                    obtain ⟨hc1, hf1⟩ := bcell hb1
                    simp at hs1
                    have z1_0 : w.heap.size < w1.heap.size := by omega
                    have z1_1 : w.heap.size + 1 < w1.heap.size := by omega
                    clear hb1
                    go_wp2_with fail
                    refine (HP.out _ (by have hh := HB1.out; (repeat (first | (with_reducible refine Below.alloc ?_ ?_ _) | (with_reducible refine Below.setCell ?_ ?_ _) | (with_reducible refine Below.drew ?_) | (with_reducible exact Below.refl _ _) | (with_reducible refine Below.trans ?_ (Below.mono (by assumption) ?_)))) <;> (first | omega | (dsimp only; omega) | (simp; done) | (simp; omega) | (simp at *; omega)))).mono ?_
                    rintro e w2 ⟨rfl, hb2⟩
                    have hs2 := hb2.size
                    have HB2 : Hid (Below w.heap.size w w2) := Lib.hid (by have hh := HB1.out; (repeat (first | (with_reducible refine Below.alloc ?_ ?_ _) | (with_reducible refine Below.setCell ?_ ?_ _) | (with_reducible refine Below.drew ?_) | (with_reducible exact Below.refl _ _) | (with_reducible refine Below.trans ?_ (Below.mono (by assumption) ?_)))) <;> (first | omega | (dsimp only; omega) | (simp; done) | (simp; omega) | (simp at *; omega)))
                    obtain ⟨hc2, hf2⟩ := bcell hb2
                    have z2_0 : w.heap.size < w2.heap.size := by omega
                    have z2_1 : w.heap.size + 1 < w2.heap.size := by omega
                    clear hb2
                    go_wp2_with fail
                    refine (HQ.out _ (by have hh := HB2.out; (repeat (first | (with_reducible refine Below.alloc ?_ ?_ _) | (with_reducible refine Below.setCell ?_ ?_ _) | (with_reducible refine Below.drew ?_) | (with_reducible exact Below.refl _ _) | (with_reducible refine Below.trans ?_ (Below.mono (by assumption) ?_)))) <;> (first | omega | (dsimp only; omega) | (simp; done) | (simp; omega) | (simp at *; omega)))).mono ?_
                    rintro e w3 ⟨rfl, hb3⟩
                    have hs3 := hb3.size
                    have HB3 : Hid (Below w.heap.size w w3) := Lib.hid (by have hh := HB2.out; (repeat (first | (with_reducible refine Below.alloc ?_ ?_ _) | (with_reducible refine Below.setCell ?_ ?_ _) | (with_reducible refine Below.drew ?_) | (with_reducible exact Below.refl _ _) | (with_reducible refine Below.trans ?_ (Below.mono (by assumption) ?_)))) <;> (first | omega | (dsimp only; omega) | (simp; done) | (simp; omega) | (simp at *; omega)))
                    obtain ⟨hc3, hf3⟩ := bcell hb3
                    have z3_0 : w.heap.size < w3.heap.size := by omega
                    have z3_1 : w.heap.size + 1 < w3.heap.size := by omega
                    clear hb3
                    go_wp2_with fail
                    go_ret
                    exact ⟨rfl, HB3.out⟩
                  · rw [h6] at HQ
                    rw [show samePil _ _ = sameO sd sd' by unfold samePil; simp [h4, h5, h6, sameB]]
                    generalize sameO sd sd' = t at HS ⊢
                    go_enter Try.func7, Try.ntmps7
                    go_wp2_with fail
                    refine (HC.out _ (by (repeat (first | (with_reducible refine Below.alloc ?_ ?_ _) | (with_reducible refine Below.setCell ?_ ?_ _) | (with_reducible refine Below.drew ?_) | (with_reducible exact Below.refl _ _) | (with_reducible refine Below.trans ?_ (Below.mono (by assumption) ?_)))) <;> (first | omega | (dsimp only; omega) | (simp; done) | (simp; omega) | (simp at *; omega)))).mono ?_
                    rintro e w1 ⟨rfl, hb1⟩
                    have hs1 := hb1.size
                    have HB1 : Hid (Below w.heap.size w w1) := Lib.hid (by (repeat (first | (with_reducible refine Below.alloc ?_ ?_ _) | (with_reducible refine Below.setCell ?_ ?_ _) | (with_reducible refine Below.drew ?_) | (with_reducible exact Below.refl _ _) | (with_reducible refine Below.trans ?_ (Below.mono (by assumption) ?_)))) <;> (first | omega | (dsimp only; omega) | (simp; done) | (simp; omega) | (simp at *; omega)))
                    obtain ⟨hc1, hf1⟩ := bcell hb1
                    simp at hs1
                    have z1_0 : w.heap.size < w1.heap.size := by omega
                    have z1_1 : w.heap.size + 1 < w1.heap.size := by omega
                    clear hb1
                    go_wp2_with fail
                    refine (HP.out _ (by have hh := HB1.out; (repeat (first | (with_reducible refine Below.alloc ?_ ?_ _) | (with_reducible refine Below.setCell ?_ ?_ _) | (with_reducible refine Below.drew ?_) | (with_reducible exact Below.refl _ _) | (with_reducible refine Below.trans ?_ (Below.mono (by assumption) ?_)))) <;> (first | omega | (dsimp only; omega) | (simp; done) | (simp; omega) | (simp at *; omega)))).mono ?_
                    rintro e w2 ⟨rfl, hb2⟩
                    have hs2 := hb2.size
                    have HB2 : Hid (Below w.heap.size w w2) := Lib.hid (by have hh := HB1.out; (repeat (first | (with_reducible refine Below.alloc ?_ ?_ _) | (with_reducible refine Below.setCell ?_ ?_ _) | (with_reducible refine Below.drew ?_) | (with_reducible exact Below.refl _ _) | (with_reducible refine Below.trans ?_ (Below.mono (by assumption) ?_)))) <;> (first | omega | (dsimp only; omega) | (simp; done) | (simp; omega) | (simp at *; omega)))
                    obtain ⟨hc2, hf2⟩ := bcell hb2
                    have z2_0 : w.heap.size < w2.heap.size := by omega
                    have z2_1 : w.heap.size + 1 < w2.heap.size := by omega
                    clear hb2
                    go_wp2_with fail
                    refine (HQ.out _ (by have hh := HB2.out; (repeat (first | (with_reducible refine Below.alloc ?_ ?_ _) | (with_reducible refine Below.setCell ?_ ?_ _) | (with_reducible refine Below.drew ?_) | (with_reducible exact Below.refl _ _) | (with_reducible refine Below.trans ?_ (Below.mono (by assumption) ?_)))) <;> (first | omega | (dsimp only; omega) | (simp; done) | (simp; omega) | (simp at *; omega)))).mono ?_
                    rintro e w3 ⟨rfl, hb3⟩
                    have hs3 := hb3.size
                    have HB3 : Hid (Below w.heap.size w w3) := Lib.hid (by have hh := HB2.out; (repeat (first | (with_reducible refine Below.alloc ?_ ?_ _) | (with_reducible refine Below.setCell ?_ ?_ _) | (with_reducible refine Below.drew ?_) | (with_reducible exact Below.refl _ _) | (with_reducible refine Below.trans ?_ (Below.mono (by assumption) ?_)))) <;> (first | omega | (dsimp only; omega) | (simp; done) | (simp; omega) | (simp at *; omega)))
                    obtain ⟨hc3, hf3⟩ := bcell hb3
                    have z3_0 : w.heap.size < w3.heap.size := by omega
                    have z3_1 : w.heap.size + 1 < w3.heap.size := by omega
                    clear hb3
                    go_wp2_with fail
                    refine (HS.out _ (by have hh := HB3.out; (repeat (first | (with_reducible refine Below.alloc ?_ ?_ _) | (with_reducible refine Below.setCell ?_ ?_ _) | (with_reducible refine Below.drew ?_) | (with_reducible exact Below.refl _ _) | (with_reducible refine Below.trans ?_ (Below.mono (by assumption) ?_)))) <;> (first | omega | (dsimp only; omega) | (simp; done) | (simp; omega) | (simp at *; omega)))).mono ?_
                    rintro e w4 ⟨rfl, hb4⟩
                    have hs4 := hb4.size
                    have HB4 : Hid (Below w.heap.size w w4) := Lib.hid (by have hh := HB3.out; (repeat (first | (with_reducible refine Below.alloc ?_ ?_ _) | (with_reducible refine Below.setCell ?_ ?_ _) | (with_reducible refine Below.drew ?_) | (with_reducible exact Below.refl _ _) | (with_reducible refine Below.trans ?_ (Below.mono (by assumption) ?_)))) <;> (first | omega | (dsimp only; omega) | (simp; done) | (simp; omega) | (simp at *; omega)))
                    obtain ⟨hc4, hf4⟩ := bcell hb4
                    have z4_0 : w.heap.size < w4.heap.size := by omega
                    have z4_1 : w.heap.size + 1 < w4.heap.size := by omega
                    clear hb4
                    go_wp2_with fail
                    go_ret
                    exact ⟨rfl, HB4.out⟩
            · have nvn : (vn == vn') = false := by simpa using gvn
              rw [show samePil _ _ = false by unfold samePil; simp [gvn, sameB]]
              go_enter Try.func7, Try.ntmps7
              go_wp2_with fail
              go_ret
              refine ⟨rfl, ?_⟩
              (repeat (first | (with_reducible refine Below.alloc ?_ ?_ _) | (with_reducible refine Below.setCell ?_ ?_ _) | (with_reducible refine Below.drew ?_) | (with_reducible exact Below.refl _ _) | (with_reducible refine Below.trans ?_ (Below.mono (by assumption) ?_)))) <;> (first | omega | (dsimp only; omega) | (simp; done) | (simp; omega) | (simp at *; omega))
          · have nvk : (vk == vk') = false := by simpa using gvk
            rw [show samePil _ _ = false by unfold samePil; simp [gvk, sameB]]
            go_enter Try.func7, Try.ntmps7
            go_wp2_with fail
            go_ret
            refine ⟨rfl, ?_⟩
            (repeat (first | (with_reducible refine Below.alloc ?_ ?_ _) | (with_reducible refine Below.setCell ?_ ?_ _) | (with_reducible refine Below.drew ?_) | (with_reducible exact Below.refl _ _) | (with_reducible refine Below.trans ?_ (Below.mono (by assumption) ?_)))) <;> (first | omega | (dsimp only; omega) | (simp; done) | (simp; omega) | (simp at *; omega))
        · have nan : (an == an') = false := by simpa using gan
          rw [show samePil _ _ = false by unfold samePil; simp [gan, sameB]]
          go_enter Try.func7, Try.ntmps7
          go_wp2_with fail
          go_ret
          refine ⟨rfl, ?_⟩
          (repeat (first | (with_reducible refine Below.alloc ?_ ?_ _) | (with_reducible refine Below.setCell ?_ ?_ _) | (with_reducible refine Below.drew ?_) | (with_reducible exact Below.refl _ _) | (with_reducible refine Below.trans ?_ (Below.mono (by assumption) ?_)))) <;> (first | omega | (dsimp only; omega) | (simp; done) | (simp; omega) | (simp at *; omega))
      · have nak : (ak == ak') = false := by simpa using gak
        rw [show samePil _ _ = false by unfold samePil; simp [gak, sameB]]
        go_enter Try.func7, Try.ntmps7
        go_wp2_with fail
        go_ret
        refine ⟨rfl, ?_⟩
        (repeat (first | (with_reducible refine Below.alloc ?_ ?_ _) | (with_reducible refine Below.setCell ?_ ?_ _) | (with_reducible refine Below.drew ?_) | (with_reducible exact Below.refl _ _) | (with_reducible refine Below.trans ?_ (Below.mono (by assumption) ?_)))) <;> (first | omega | (dsimp only; omega) | (simp; done) | (simp; omega) | (simp at *; omega))
    · have na : (a == a') = false := by simpa using ga
      rw [show samePil _ _ = false by unfold samePil; simp [ga, sameB]]
      go_enter Try.func7, Try.ntmps7
      go_wp2_with fail
      go_ret
      refine ⟨rfl, ?_⟩
      (repeat (first | (with_reducible refine Below.alloc ?_ ?_ _) | (with_reducible refine Below.setCell ?_ ?_ _) | (with_reducible refine Below.drew ?_) | (with_reducible exact Below.refl _ _) | (with_reducible refine Below.trans ?_ (Below.mono (by assumption) ?_)))) <;> (first | omega | (dsimp only; omega) | (simp; done) | (simp; omega) | (simp at *; omega))
  · have nm : (m == m') = false := by simpa using gm
    rw [show samePil _ _ = false by unfold samePil; simp [gm, sameB]]
    go_enter Try.func7, Try.ntmps7
    go_wp2_with fail
    go_ret
    refine ⟨rfl, ?_⟩
    (repeat (first | (with_reducible refine Below.alloc ?_ ?_ _) | (with_reducible refine Below.setCell ?_ ?_ _) | (with_reducible refine Below.drew ?_) | (with_reducible exact Below.refl _ _) | (with_reducible refine Below.trans ?_ (Below.mono (by assumption) ?_)))) <;> (first | omega | (dsimp only; omega) | (simp; done) | (simp; omega) | (simp at *; omega))

set_option maxRecDepth 100000 in
set_option maxHeartbeats 4000000 in
theorem specSamePile_any (x y : Pil) (cv pv qv sv cv' pv' qv' sv' : Value) (w : World) (hR : RowsPi w x cv pv qv sv) (hR' : RowsPi w y cv' pv' qv' sv') :
    Calls Try.prog 5 #[pilV x cv pv qv sv, pilV y cv' pv' qv' sv'] w fun e w' => e = .returned (.bool (samePil x y)) ∧ Below w.heap.size w w' := by
  have HC := fun w1 (hb : Below w.heap.size w w1) => l1SameTexts_any cv cv' x.c y.c w1 (hR.c.below hb) (hR'.c.below hb)
  have HP := fun w1 (hb : Below w.heap.size w w1) => specSamePlates_any pv pv' x.ps y.ps w1 (hR.p.below hb) (hR'.p.below hb)
  have HS := fun w1 (hb : Below w.heap.size w w1) => l1SameTexts_any sv sv' x.sd y.sd w1 (hR.s.below hb) (hR'.s.below hb)
  obtain ⟨oq, cq, eq, q1, q2, q3⟩ := hR.q
  obtain ⟨oq', cq', eq', q1', q2', q3'⟩ := hR'.q
  obtain ⟨s0, l0, c0, s1, l1, c1, s2, l2, c2, s3, l3, c3, e0, e1, e2, e3⟩ := hR.form
  obtain ⟨t0, m0, d0, t1, m1, d1, t2, m2, d2, t3, m3, d3, f0, f1, f2, f3⟩ := hR'.form
  rw [e2] at eq
  rw [f2] at eq'
  injection eq with i1 i2 i3
  injection eq' with j1 j2 j3
  subst e0 e1 e2 e3 f0 f1 f2 f3
  obtain ⟨c, m, a, ak, an, vk, vn, ps, qs, sd⟩ := x
  obtain ⟨c', m', a', ak', an', vk', vn', ps', qs', sd'⟩ := y
  unfold pilV
  simp only at i2 j2 q1 q2 q3 q1' q2' q3'
  obtain ⟨n, hn⟩ : ∃ n, qs.length = n := ⟨_, rfl⟩
  obtain ⟨n', hn'⟩ : ∃ n, qs'.length = n := ⟨_, rfl⟩
  rw [hn] at i2 q1 q3
  rw [hn'] at j2 q1' q3'
  subst i1 i2 i3 j1 j2 j3
  unfold maxLen at q2 q2'
  have H3 := Lib.hid q3
  have H3' := Lib.hid q3'
  have HN := Lib.hid hn
  have HN' := Lib.hid hn'
  simp only at HC HP HS ⊢
  have HC := Lib.hid HC
  have HP := Lib.hid HP
  have HS := Lib.hid HS
  clear hR hR' q3 q3' hn hn'
  cases h0 : sameO c c'
  · rw [h0] at HC
    rw [show samePil _ _ = false by unfold samePil; simp [h0]]
    go_enter Try.func5, Try.ntmps5
    go_wp2_with fail
    refine (HC.out _ (by (repeat (first | (with_reducible refine Below.alloc ?_ ?_ _) | (with_reducible refine Below.setCell ?_ ?_ _) | (with_reducible refine Below.drew ?_) | (with_reducible exact Below.refl _ _) | (with_reducible refine Below.trans ?_ (Below.mono (by assumption) ?_)))) <;> (first | omega | (dsimp only; omega) | (simp; done) | (simp; omega) | (simp at *; omega)))).mono ?_
    rintro e w1 ⟨rfl, hb1⟩
    have hs1 := hb1.size
    have HB1 : Hid (Below w.heap.size w w1) := Lib.hid (by (repeat (first | (with_reducible refine Below.alloc ?_ ?_ _) | (with_reducible refine Below.setCell ?_ ?_ _) | (with_reducible refine Below.drew ?_) | (with_reducible exact Below.refl _ _) | (with_reducible refine Below.trans ?_ (Below.mono (by assumption) ?_)))) <;> (first | omega | (dsimp only; omega) | (simp; done) | (simp; omega) | (simp at *; omega)))
    obtain ⟨hc1, hf1⟩ := bcell hb1
    simp at hs1
    have z1_0 : w.heap.size < w1.heap.size := by omega
    have z1_1 : w.heap.size + 1 < w1.heap.size := by omega
    clear hb1
    go_wp2_with fail
    go_ret
    exact ⟨rfl, HB1.out⟩
  · rw [h0] at HC
    by_cases gm : m = m'
    · subst gm
      by_cases ga : a = a'
      · subst ga
        by_cases gak : ak = ak'
        · subst gak
          by_cases gan : an = an'
          · subst gan
            by_cases gvk : vk = vk'
            · subst gvk
              by_cases gvn : vn = vn'
              · subst gvn
                cases h5 : samePls ps ps'
                · rw [h5] at HP
                  rw [show samePil _ _ = false by unfold samePil; simp [h5]]
                  go_enter Try.func5, Try.ntmps5
                  go_wp2_with fail
                  refine (HC.out _ (by (repeat (first | (with_reducible refine Below.alloc ?_ ?_ _) | (with_reducible refine Below.setCell ?_ ?_ _) | (with_reducible refine Below.drew ?_) | (with_reducible exact Below.refl _ _) | (with_reducible refine Below.trans ?_ (Below.mono (by assumption) ?_)))) <;> (first | omega | (dsimp only; omega) | (simp; done) | (simp; omega) | (simp at *; omega)))).mono ?_
                  rintro e w1 ⟨rfl, hb1⟩
                  have hs1 := hb1.size
                  have HB1 : Hid (Below w.heap.size w w1) := Lib.hid (by (repeat (first | (with_reducible refine Below.alloc ?_ ?_ _) | (with_reducible refine Below.setCell ?_ ?_ _) | (with_reducible refine Below.drew ?_) | (with_reducible exact Below.refl _ _) | (with_reducible refine Below.trans ?_ (Below.mono (by assumption) ?_)))) <;> (first | omega | (dsimp only; omega) | (simp; done) | (simp; omega) | (simp at *; omega)))
                  obtain ⟨hc1, hf1⟩ := bcell hb1
                  simp at hs1
                  have z1_0 : w.heap.size < w1.heap.size := by omega
                  have z1_1 : w.heap.size + 1 < w1.heap.size := by omega
                  clear hb1
                  go_wp2_with fail
                  refine (HP.out _ (by have hh := HB1.out; (repeat (first | (with_reducible refine Below.alloc ?_ ?_ _) | (with_reducible refine Below.setCell ?_ ?_ _) | (with_reducible refine Below.drew ?_) | (with_reducible exact Below.refl _ _) | (with_reducible refine Below.trans ?_ (Below.mono (by assumption) ?_)))) <;> (first | omega | (dsimp only; omega) | (simp; done) | (simp; omega) | (simp at *; omega)))).mono ?_
                  rintro e w2 ⟨rfl, hb2⟩
                  have hs2 := hb2.size
                  have HB2 : Hid (Below w.heap.size w w2) := Lib.hid (by have hh := HB1.out; (repeat (first | (with_reducible refine Below.alloc ?_ ?_ _) | (with_reducible refine Below.setCell ?_ ?_ _) | (with_reducible refine Below.drew ?_) | (with_reducible exact Below.refl _ _) | (with_reducible refine Below.trans ?_ (Below.mono (by assumption) ?_)))) <;> (first | omega | (dsimp only; omega) | (simp; done) | (simp; omega) | (simp at *; omega)))
                  obtain ⟨hc2, hf2⟩ := bcell hb2
                  have z2_0 : w.heap.size < w2.heap.size := by omega
                  have z2_1 : w.heap.size + 1 < w2.heap.size := by omega
                  clear hb2
                  go_wp2_with fail
                  go_ret
                  exact ⟨rfl, HB2.out⟩
                · rw [h5] at HP
                  by_cases hl : l2 = m2
                  · subst hl
                    cases h7 : sameO sd sd'
                    · rw [h7] at HS
                      rw [show samePil _ _ = false by unfold samePil; simp [h7]]
                      go_enter Try.func5, Try.ntmps5
                      go_wp2_with fail
                      refine (HC.out _ (by (repeat (first | (with_reducible refine Below.alloc ?_ ?_ _) | (with_reducible refine Below.setCell ?_ ?_ _) | (with_reducible refine Below.drew ?_) | (with_reducible exact Below.refl _ _) | (with_reducible refine Below.trans ?_ (Below.mono (by assumption) ?_)))) <;> (first | omega | (dsimp only; omega) | (simp; done) | (simp; omega) | (simp at *; omega)))).mono ?_
                      rintro e w1 ⟨rfl, hb1⟩
                      have hs1 := hb1.size
                      have HB1 : Hid (Below w.heap.size w w1) := Lib.hid (by (repeat (first | (with_reducible refine Below.alloc ?_ ?_ _) | (with_reducible refine Below.setCell ?_ ?_ _) | (with_reducible refine Below.drew ?_) | (with_reducible exact Below.refl _ _) | (with_reducible refine Below.trans ?_ (Below.mono (by assumption) ?_)))) <;> (first | omega | (dsimp only; omega) | (simp; done) | (simp; omega) | (simp at *; omega)))
                      obtain ⟨hc1, hf1⟩ := bcell hb1
                      simp at hs1
                      have z1_0 : w.heap.size < w1.heap.size := by omega
                      have z1_1 : w.heap.size + 1 < w1.heap.size := by omega
                      clear hb1
                      go_wp2_with fail
                      refine (HP.out _ (by have hh := HB1.out; (repeat (first | (with_reducible refine Below.alloc ?_ ?_ _) | (with_reducible refine Below.setCell ?_ ?_ _) | (with_reducible refine Below.drew ?_) | (with_reducible exact Below.refl _ _) | (with_reducible refine Below.trans ?_ (Below.mono (by assumption) ?_)))) <;> (first | omega | (dsimp only; omega) | (simp; done) | (simp; omega) | (simp at *; omega)))).mono ?_
                      rintro e w2 ⟨rfl, hb2⟩
                      have hs2 := hb2.size
                      have HB2 : Hid (Below w.heap.size w w2) := Lib.hid (by have hh := HB1.out; (repeat (first | (with_reducible refine Below.alloc ?_ ?_ _) | (with_reducible refine Below.setCell ?_ ?_ _) | (with_reducible refine Below.drew ?_) | (with_reducible exact Below.refl _ _) | (with_reducible refine Below.trans ?_ (Below.mono (by assumption) ?_)))) <;> (first | omega | (dsimp only; omega) | (simp; done) | (simp; omega) | (simp at *; omega)))
                      obtain ⟨hc2, hf2⟩ := bcell hb2
                      have z2_0 : w.heap.size < w2.heap.size := by omega
                      have z2_1 : w.heap.size + 1 < w2.heap.size := by omega
                      clear hb2
                      go_wp2_with fail
                      refine (HS.out _ (by have hh := HB2.out; (repeat (first | (with_reducible refine Below.alloc ?_ ?_ _) | (with_reducible refine Below.setCell ?_ ?_ _) | (with_reducible refine Below.drew ?_) | (with_reducible exact Below.refl _ _) | (with_reducible refine Below.trans ?_ (Below.mono (by assumption) ?_)))) <;> (first | omega | (dsimp only; omega) | (simp; done) | (simp; omega) | (simp at *; omega)))).mono ?_
                      rintro e w3 ⟨rfl, hb3⟩
                      have hs3 := hb3.size
                      have HB3 : Hid (Below w.heap.size w w3) := Lib.hid (by have hh := HB2.out; (repeat (first | (with_reducible refine Below.alloc ?_ ?_ _) | (with_reducible refine Below.setCell ?_ ?_ _) | (with_reducible refine Below.drew ?_) | (with_reducible exact Below.refl _ _) | (with_reducible refine Below.trans ?_ (Below.mono (by assumption) ?_)))) <;> (first | omega | (dsimp only; omega) | (simp; done) | (simp; omega) | (simp at *; omega)))
                      obtain ⟨hc3, hf3⟩ := bcell hb3
                      have z3_0 : w.heap.size < w3.heap.size := by omega
                      have z3_1 : w.heap.size + 1 < w3.heap.size := by omega
                      clear hb3
                      go_wp2_with fail
                      go_ret
                      exact ⟨rfl, HB3.out⟩
                    · rw [h7] at HS
                      go_enter Try.func5, Try.ntmps5
                      go_wp2_with fail
                      refine (HC.out _ (by (repeat (first | (with_reducible refine Below.alloc ?_ ?_ _) | (with_reducible refine Below.setCell ?_ ?_ _) | (with_reducible refine Below.drew ?_) | (with_reducible exact Below.refl _ _) | (with_reducible refine Below.trans ?_ (Below.mono (by assumption) ?_)))) <;> (first | omega | (dsimp only; omega) | (simp; done) | (simp; omega) | (simp at *; omega)))).mono ?_
                      rintro e w1 ⟨rfl, hb1⟩
                      have hs1 := hb1.size
                      have HB1 : Hid (Below w.heap.size w w1) := Lib.hid (by (repeat (first | (with_reducible refine Below.alloc ?_ ?_ _) | (with_reducible refine Below.setCell ?_ ?_ _) | (with_reducible refine Below.drew ?_) | (with_reducible exact Below.refl _ _) | (with_reducible refine Below.trans ?_ (Below.mono (by assumption) ?_)))) <;> (first | omega | (dsimp only; omega) | (simp; done) | (simp; omega) | (simp at *; omega)))
                      obtain ⟨hc1, hf1⟩ := bcell hb1
                      simp at hs1
                      have z1_0 : w.heap.size < w1.heap.size := by omega
                      have z1_1 : w.heap.size + 1 < w1.heap.size := by omega
                      clear hb1
                      go_wp2_with fail
                      refine (HP.out _ (by have hh := HB1.out; (repeat (first | (with_reducible refine Below.alloc ?_ ?_ _) | (with_reducible refine Below.setCell ?_ ?_ _) | (with_reducible refine Below.drew ?_) | (with_reducible exact Below.refl _ _) | (with_reducible refine Below.trans ?_ (Below.mono (by assumption) ?_)))) <;> (first | omega | (dsimp only; omega) | (simp; done) | (simp; omega) | (simp at *; omega)))).mono ?_
                      rintro e w2 ⟨rfl, hb2⟩
                      have hs2 := hb2.size
                      have HB2 : Hid (Below w.heap.size w w2) := Lib.hid (by have hh := HB1.out; (repeat (first | (with_reducible refine Below.alloc ?_ ?_ _) | (with_reducible refine Below.setCell ?_ ?_ _) | (with_reducible refine Below.drew ?_) | (with_reducible exact Below.refl _ _) | (with_reducible refine Below.trans ?_ (Below.mono (by assumption) ?_)))) <;> (first | omega | (dsimp only; omega) | (simp; done) | (simp; omega) | (simp at *; omega)))
                      obtain ⟨hc2, hf2⟩ := bcell hb2
                      have z2_0 : w.heap.size < w2.heap.size := by omega
                      have z2_1 : w.heap.size + 1 < w2.heap.size := by omega
                      clear hb2
                      go_wp2_with fail
                      refine (HS.out _ (by have hh := HB2.out; (repeat (first | (with_reducible refine Below.alloc ?_ ?_ _) | (with_reducible refine Below.setCell ?_ ?_ _) | (with_reducible refine Below.drew ?_) | (with_reducible exact Below.refl _ _) | (with_reducible refine Below.trans ?_ (Below.mono (by assumption) ?_)))) <;> (first | omega | (dsimp only; omega) | (simp; done) | (simp; omega) | (simp at *; omega)))).mono ?_
                      rintro e w3 ⟨rfl, hb3⟩
                      have hs3 := hb3.size
                      have HB3 : Hid (Below w.heap.size w w3) := Lib.hid (by have hh := HB2.out; (repeat (first | (with_reducible refine Below.alloc ?_ ?_ _) | (with_reducible refine Below.setCell ?_ ?_ _) | (with_reducible refine Below.drew ?_) | (with_reducible exact Below.refl _ _) | (with_reducible refine Below.trans ?_ (Below.mono (by assumption) ?_)))) <;> (first | omega | (dsimp only; omega) | (simp; done) | (simp; omega) | (simp at *; omega)))
                      obtain ⟨hc3, hf3⟩ := bcell hb3
                      have z3_0 : w.heap.size < w3.heap.size := by omega
                      have z3_1 : w.heap.size + 1 < w3.heap.size := by omega
                      clear hb3
                      go_wp2_with fail
                      have b6 : w3.cell? ⟨w.heap.size, 8, none⟩ = some (.slice s2 l2 c2) := by simp [hc3, hc2, hc1, z1_0, z2_0, go_sem]
                      have d6 : w3.cell? ⟨w.heap.size + 1, 8, none⟩ = some (.slice t2 l2 d2) := by simp [hc3, hc2, hc1, z1_1, z2_1, go_sem]
                      clear hc1 hf1 hc2 hf2 hc3 hf3 HC HP HS
                      go_loopw [5] (fun i wr => ∃ k : Nat, k ≤ l2 ∧ i = .int .i64 (k : Int) ∧ Hid (∀ j, j < k → samePls (qs.getD j []) (qs'.getD j []) = true) ∧ Below w3.heap.size w3 wr) (fun i _ => l2 - (intOf i).toNat)
                      case atStart => exact ⟨0, Nat.zero_le _, rfl, Lib.hid (fun j hj => absurd hj (Nat.not_lt_zero _)), Below.refl _ _⟩
                      case round =>
                        obtain ⟨k, hk, rfl, hall, hB⟩ := hrel
                        have HW := Lib.hid (HB3.out.trans (hB.mono HB3.out.size))
                        have x6 := (hB.cell (p := ⟨w.heap.size, 8, none⟩) z3_0).trans b6
                        have y6 := (hB.cell (p := ⟨w.heap.size + 1, 8, none⟩) z3_1).trans d6
                        have HB := Lib.hid hB
                        clear hB
                        by_cases hlt : k < l2
                        · obtain ⟨b, off, u, rfl, hb, hc, hP⟩ := H3.out k hlt
                          obtain ⟨b', off', u', rfl, hb', hcc, hP'⟩ := H3'.out k hlt
                          have x0 := (HW.out.cell (p := ⟨b, off + k, none⟩) hb).trans hc
                          have y0 := (HW.out.cell (p := ⟨b', off' + k, none⟩) hb').trans hcc
                          have cE := fun w1 (hb1 : Below wr.heap.size wr w1) => specSamePlates_any u u' (qs.getD k []) (qs'.getD k []) w1 ((hP.below HW.out).below hb1) ((hP'.below HW.out).below hb1)
                          obtain ⟨oa, cap, rfl, _⟩ := hP
                          obtain ⟨oa', cap', rfl, _⟩ := hP'
                          obtain ⟨t, ht⟩ : ∃ t, samePls (qs.getD k []) (qs'.getD k []) = t := ⟨_, rfl⟩
                          rw [ht] at cE
                          have HT := Lib.hid ht
                          generalize (qs.getD k []).length = k1 at x0 cE
                          generalize (qs'.getD k []).length = k2 at y0 cE
                          have hk0 : (0 : Int) ≤ (k : Int) := by omega
                          have hki : (k : Int) < (l2 : Int) := by omega
                          have x0' := cell_regrown x0
                          have y0' := cell_regrown y0
                          have x6' := cell_regrown x6
                          have y6' := cell_regrown y6
                          have cE := fun q os => Calls.regrown_of (d := q) (os := os) (cE (grow (redrawn wr q) os) (below_regrown wr q os))
                          clear hc hcc ht hb hb' x0 y0 b6 d6
                          go_wp2_with fail
                          refine wp_region_quiet_below (by kernel_rfl) (by kernel_rfl) ?_
                          repeat (go_big_quiet_step (first | (go_at_call 13; exact cE _ _)))
                          refine wpQuiet_nil ?_
                          intro _ hw'
                          obtain ⟨⟨dq, osq⟩, hw''⟩ := hw'
                          have HQ := below_regrown wr dq osq
                          rw [← hw''] at HQ
                          have HQ' := Lib.hid (HB.out.trans (HQ.mono HB.out.size))
                          clear hw'' cE HQ x0' y0' x6' y6' x6 y6
                          cases t
                          · go_wp2_with fail
                            go_ret
                            refine ⟨?_, HB3.out.trans (HQ'.out.mono HB3.out.size)⟩
                            have e : sameQs qs qs' = false := sameQs_at (k := k) (by rw [HN.out]; exact hlt) HT.out
                            rw [show samePil _ _ = false by unfold samePil; simp [e]]
                            rfl
                          · go_wp2_with fail
                            go_roundw
                            case rel =>
                              refine ⟨k + 1, by omega, by go_num, Lib.hid (fun j hj => ?_), HQ'.out⟩
                              by_cases e : j = k
                              · subst e; exact HT.out
                              · exact hall.out j (by omega)
                            case measure => simp [intOf]; omega
                        · have hki : ¬ (k : Int) < (l2 : Int) := by omega
                          have hkn : k = l2 := by omega
                          have HK := Lib.hid hkn
                          clear hkn b6 d6
                          go_wp2_with fail
                          go_ret
                          refine ⟨?_, HW.out⟩
                          have e : sameQs qs qs' = true := sameQs_all (by rw [HN.out, HN'.out]) (fun j hj => hall.out j (by rw [HK.out, ← HN.out]; exact hj))
                          rw [show samePil _ _ = true by unfold samePil; simp [h0, h5, h7, e, sameB]]
                          rfl
                  · have nl : ((l2 : Int) == (m2 : Int)) = false := by simp; omega
                    rw [show samePil _ _ = false by unfold samePil; simp [sameQs_len (show ¬ qs.length = qs'.length by rw [HN.out, HN'.out]; exact hl)]]
                    go_enter Try.func5, Try.ntmps5
                    go_wp2_with fail
                    refine (HC.out _ (by (repeat (first | (with_reducible refine Below.alloc ?_ ?_ _) | (with_reducible refine Below.setCell ?_ ?_ _) | (with_reducible refine Below.drew ?_) | (with_reducible exact Below.refl _ _) | (with_reducible refine Below.trans ?_ (Below.mono (by assumption) ?_)))) <;> (first | omega | (dsimp only; omega) | (simp; done) | (simp; omega) | (simp at *; omega)))).mono ?_
                    rintro e w1 ⟨rfl, hb1⟩
                    have hs1 := hb1.size
                    have HB1 : Hid (Below w.heap.size w w1) := Lib.hid (by (repeat (first | (with_reducible refine Below.alloc ?_ ?_ _) | (with_reducible refine Below.setCell ?_ ?_ _) | (with_reducible refine Below.drew ?_) | (with_reducible exact Below.refl _ _) | (with_reducible refine Below.trans ?_ (Below.mono (by assumption) ?_)))) <;> (first | omega | (dsimp only; omega) | (simp; done) | (simp; omega) | (simp at *; omega)))
                    obtain ⟨hc1, hf1⟩ := bcell hb1
                    simp at hs1
                    have z1_0 : w.heap.size < w1.heap.size := by omega
                    have z1_1 : w.heap.size + 1 < w1.heap.size := by omega
                    clear hb1
                    go_wp2_with fail
                    refine (HP.out _ (by have hh := HB1.out; (repeat (first | (with_reducible refine Below.alloc ?_ ?_ _) | (with_reducible refine Below.setCell ?_ ?_ _) | (with_reducible refine Below.drew ?_) | (with_reducible exact Below.refl _ _) | (with_reducible refine Below.trans ?_ (Below.mono (by assumption) ?_)))) <;> (first | omega | (dsimp only; omega) | (simp; done) | (simp; omega) | (simp at *; omega)))).mono ?_
                    rintro e w2 ⟨rfl, hb2⟩
                    have hs2 := hb2.size
                    have HB2 : Hid (Below w.heap.size w w2) := Lib.hid (by have hh := HB1.out; (repeat (first | (with_reducible refine Below.alloc ?_ ?_ _) | (with_reducible refine Below.setCell ?_ ?_ _) | (with_reducible refine Below.drew ?_) | (with_reducible exact Below.refl _ _) | (with_reducible refine Below.trans ?_ (Below.mono (by assumption) ?_)))) <;> (first | omega | (dsimp only; omega) | (simp; done) | (simp; omega) | (simp at *; omega)))
                    obtain ⟨hc2, hf2⟩ := bcell hb2
                    have z2_0 : w.heap.size < w2.heap.size := by omega
                    have z2_1 : w.heap.size + 1 < w2.heap.size := by omega
                    clear hb2
                    go_wp2_with fail
                    go_ret
                    exact ⟨rfl, HB2.out⟩
              · have nvn : (vn == vn') = false := by simpa using gvn
                rw [show samePil _ _ = false by unfold samePil; simp [gvn, sameB]]
                go_enter Try.func5, Try.ntmps5
                go_wp2_with fail
                refine (HC.out _ (by (repeat (first | (with_reducible refine Below.alloc ?_ ?_ _) | (with_reducible refine Below.setCell ?_ ?_ _) | (with_reducible refine Below.drew ?_) | (with_reducible exact Below.refl _ _) | (with_reducible refine Below.trans ?_ (Below.mono (by assumption) ?_)))) <;> (first | omega | (dsimp only; omega) | (simp; done) | (simp; omega) | (simp at *; omega)))).mono ?_
                rintro e w1 ⟨rfl, hb1⟩
                have hs1 := hb1.size
                have HB1 : Hid (Below w.heap.size w w1) := Lib.hid (by (repeat (first | (with_reducible refine Below.alloc ?_ ?_ _) | (with_reducible refine Below.setCell ?_ ?_ _) | (with_reducible refine Below.drew ?_) | (with_reducible exact Below.refl _ _) | (with_reducible refine Below.trans ?_ (Below.mono (by assumption) ?_)))) <;> (first | omega | (dsimp only; omega) | (simp; done) | (simp; omega) | (simp at *; omega)))
                obtain ⟨hc1, hf1⟩ := bcell hb1
                simp at hs1
                have z1_0 : w.heap.size < w1.heap.size := by omega
                have z1_1 : w.heap.size + 1 < w1.heap.size := by omega
                clear hb1
                go_wp2_with fail
                go_ret
                exact ⟨rfl, HB1.out⟩
            · have nvk : (vk == vk') = false := by simpa using gvk
              rw [show samePil _ _ = false by unfold samePil; simp [gvk, sameB]]
              go_enter Try.func5, Try.ntmps5
              go_wp2_with fail
              refine (HC.out _ (by (repeat (first | (with_reducible refine Below.alloc ?_ ?_ _) | (with_reducible refine Below.setCell ?_ ?_ _) | (with_reducible refine Below.drew ?_) | (with_reducible exact Below.refl _ _) | (with_reducible refine Below.trans ?_ (Below.mono (by assumption) ?_)))) <;> (first | omega | (dsimp only; omega) | (simp; done) | (simp; omega) | (simp at *; omega)))).mono ?_
              rintro e w1 ⟨rfl, hb1⟩
              have hs1 := hb1.size
              have HB1 : Hid (Below w.heap.size w w1) := Lib.hid (by (repeat (first | (with_reducible refine Below.alloc ?_ ?_ _) | (with_reducible refine Below.setCell ?_ ?_ _) | (with_reducible refine Below.drew ?_) | (with_reducible exact Below.refl _ _) | (with_reducible refine Below.trans ?_ (Below.mono (by assumption) ?_)))) <;> (first | omega | (dsimp only; omega) | (simp; done) | (simp; omega) | (simp at *; omega)))
              obtain ⟨hc1, hf1⟩ := bcell hb1
              simp at hs1
              have z1_0 : w.heap.size < w1.heap.size := by omega
              have z1_1 : w.heap.size + 1 < w1.heap.size := by omega
              clear hb1
              go_wp2_with fail
              go_ret
              exact ⟨rfl, HB1.out⟩
          · have nan : (an == an') = false := by simpa using gan
            rw [show samePil _ _ = false by unfold samePil; simp [gan, sameB]]
            go_enter Try.func5, Try.ntmps5
            go_wp2_with fail
            refine (HC.out _ (by (repeat (first | (with_reducible refine Below.alloc ?_ ?_ _) | (with_reducible refine Below.setCell ?_ ?_ _) | (with_reducible refine Below.drew ?_) | (with_reducible exact Below.refl _ _) | (with_reducible refine Below.trans ?_ (Below.mono (by assumption) ?_)))) <;> (first | omega | (dsimp only; omega) | (simp; done) | (simp; omega) | (simp at *; omega)))).mono ?_
            rintro e w1 ⟨rfl, hb1⟩
            have hs1 := hb1.size
            have HB1 : Hid (Below w.heap.size w w1) := Lib.hid (by (repeat (first | (with_reducible refine Below.alloc ?_ ?_ _) | (with_reducible refine Below.setCell ?_ ?_ _) | (with_reducible refine Below.drew ?_) | (with_reducible exact Below.refl _ _) | (with_reducible refine Below.trans ?_ (Below.mono (by assumption) ?_)))) <;> (first | omega | (dsimp only; omega) | (simp; done) | (simp; omega) | (simp at *; omega)))
            obtain ⟨hc1, hf1⟩ := bcell hb1
            simp at hs1
            have z1_0 : w.heap.size < w1.heap.size := by omega
            have z1_1 : w.heap.size + 1 < w1.heap.size := by omega
            clear hb1
            go_wp2_with fail
            go_ret
            exact ⟨rfl, HB1.out⟩
        · have nak : (ak == ak') = false := by simpa using gak
          rw [show samePil _ _ = false by unfold samePil; simp [gak, sameB]]
          go_enter Try.func5, Try.ntmps5
          go_wp2_with fail
          refine (HC.out _ (by (repeat (first | (with_reducible refine Below.alloc ?_ ?_ _) | (with_reducible refine Below.setCell ?_ ?_ _) | (with_reducible refine Below.drew ?_) | (with_reducible exact Below.refl _ _) | (with_reducible refine Below.trans ?_ (Below.mono (by assumption) ?_)))) <;> (first | omega | (dsimp only; omega) | (simp; done) | (simp; omega) | (simp at *; omega)))).mono ?_
          rintro e w1 ⟨rfl, hb1⟩
          have hs1 := hb1.size
          have HB1 : Hid (Below w.heap.size w w1) := Lib.hid (by (repeat (first | (with_reducible refine Below.alloc ?_ ?_ _) | (with_reducible refine Below.setCell ?_ ?_ _) | (with_reducible refine Below.drew ?_) | (with_reducible exact Below.refl _ _) | (with_reducible refine Below.trans ?_ (Below.mono (by assumption) ?_)))) <;> (first | omega | (dsimp only; omega) | (simp; done) | (simp; omega) | (simp at *; omega)))
          obtain ⟨hc1, hf1⟩ := bcell hb1
          simp at hs1
          have z1_0 : w.heap.size < w1.heap.size := by omega
          have z1_1 : w.heap.size + 1 < w1.heap.size := by omega
          clear hb1
          go_wp2_with fail
          go_ret
          exact ⟨rfl, HB1.out⟩
      · have na : (a == a') = false := by simpa using ga
        rw [show samePil _ _ = false by unfold samePil; simp [ga, sameB]]
        go_enter Try.func5, Try.ntmps5
        go_wp2_with fail
        refine (HC.out _ (by (repeat (first | (with_reducible refine Below.alloc ?_ ?_ _) | (with_reducible refine Below.setCell ?_ ?_ _) | (with_reducible refine Below.drew ?_) | (with_reducible exact Below.refl _ _) | (with_reducible refine Below.trans ?_ (Below.mono (by assumption) ?_)))) <;> (first | omega | (dsimp only; omega) | (simp; done) | (simp; omega) | (simp at *; omega)))).mono ?_
        rintro e w1 ⟨rfl, hb1⟩
        have hs1 := hb1.size
        have HB1 : Hid (Below w.heap.size w w1) := Lib.hid (by (repeat (first | (with_reducible refine Below.alloc ?_ ?_ _) | (with_reducible refine Below.setCell ?_ ?_ _) | (with_reducible refine Below.drew ?_) | (with_reducible exact Below.refl _ _) | (with_reducible refine Below.trans ?_ (Below.mono (by assumption) ?_)))) <;> (first | omega | (dsimp only; omega) | (simp; done) | (simp; omega) | (simp at *; omega)))
        obtain ⟨hc1, hf1⟩ := bcell hb1
        simp at hs1
        have z1_0 : w.heap.size < w1.heap.size := by omega
        have z1_1 : w.heap.size + 1 < w1.heap.size := by omega
        clear hb1
        go_wp2_with fail
        go_ret
        exact ⟨rfl, HB1.out⟩
    · have nm : (m == m') = false := by simpa using gm
      rw [show samePil _ _ = false by unfold samePil; simp [gm, sameB]]
      go_enter Try.func5, Try.ntmps5
      go_wp2_with fail
      refine (HC.out _ (by (repeat (first | (with_reducible refine Below.alloc ?_ ?_ _) | (with_reducible refine Below.setCell ?_ ?_ _) | (with_reducible refine Below.drew ?_) | (with_reducible exact Below.refl _ _) | (with_reducible refine Below.trans ?_ (Below.mono (by assumption) ?_)))) <;> (first | omega | (dsimp only; omega) | (simp; done) | (simp; omega) | (simp at *; omega)))).mono ?_
      rintro e w1 ⟨rfl, hb1⟩
      have hs1 := hb1.size
      have HB1 : Hid (Below w.heap.size w w1) := Lib.hid (by (repeat (first | (with_reducible refine Below.alloc ?_ ?_ _) | (with_reducible refine Below.setCell ?_ ?_ _) | (with_reducible refine Below.drew ?_) | (with_reducible exact Below.refl _ _) | (with_reducible refine Below.trans ?_ (Below.mono (by assumption) ?_)))) <;> (first | omega | (dsimp only; omega) | (simp; done) | (simp; omega) | (simp at *; omega)))
      obtain ⟨hc1, hf1⟩ := bcell hb1
      simp at hs1
      have z1_0 : w.heap.size < w1.heap.size := by omega
      have z1_1 : w.heap.size + 1 < w1.heap.size := by omega
      clear hb1
      go_wp2_with fail
      go_ret
      exact ⟨rfl, HB1.out⟩

end L2
end Go.Proofs.Ytmbonldiaimcfaa
