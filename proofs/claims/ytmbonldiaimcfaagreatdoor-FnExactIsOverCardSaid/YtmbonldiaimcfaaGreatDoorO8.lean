/-
  What is right of a pile: the program's lists (written by wip/gen_o8.py).
-/
import Derived.Test.YtmbonldiaimcfaaGreatDoorO7
import Derived.Lib.QuietBelow
import Derived.BigQuiet
namespace Go.Proofs.YtmbonldiaimcfaaGreatDoor
open Go.RowKit Go.Sort
namespace L2
open S1 L1

set_option maxRecDepth 100000 in
set_option maxHeartbeats 8000000 in
theorem hasPlate_any (x : Pil) (p : Pl) (cv pv sv : Value) (oq : Option Addr) (nq cq : Nat) (w : World) (hR : Row w cv x.c) (hs : x.c.length ≤ 1048576) :
    Calls Tryz.prog 146 #[pilV x cv pv (.slice oq nq cq) sv, plV p] w fun e w' => e = .returned (.bool (fitP x.c nq p)) ∧ Below w.heap.size w w' := by
  have HK := fun w1 => implPlateOk_any p w1
  have HT := fun k n w1 => tells_any x cv pv sv oq nq cq k n w1
  have HI := fun (hk : inB p.k 1 8 = true) b w1 => (isKindOf_any p.k b w1 hk).mono (R' := fun e w' => e = .returned (.bool (kindC p.k (S1.code b.toList))) ∧ Below w1.heap.size w1 w') (fun _ _ ⟨he, hw⟩ => ⟨he, by rw [← hw]; exact Below.refl _ _⟩)
  have HS := fun w1 (hb : Below w.heap.size w w1) => (isStartIn_any cv x.c p.a w1 (hR.below hb) hs).mono (R' := fun e w' => e = .returned (.bool (placeB x.c p.a)) ∧ Below w1.heap.size w1 w') (fun _ _ ⟨he, hw⟩ => ⟨he, by rw [← hw]; exact Below.refl _ _⟩)
  have HH : fitP x.c nq p = (okPl p && placeB x.c p.a && tellsB nq p.ak p.an && tellsB nq p.vk p.vn && kindC p.k (wordC x.c p.a)) := rfl
  obtain ⟨oa, cap, rfl, r1, r2, r3⟩ := hR
  obtain ⟨n, hn⟩ : ∃ n, x.c.length = n := ⟨_, rfl⟩
  have hplace : placeB x.c p.a = true → ∃ (i : Nat) (b off : Nat) (s : ByteArray), p.a = (i : Int) ∧ i < n ∧ oa = some ⟨b, off, none⟩ ∧ b < w.heap.size ∧ w.cell? ⟨b, off + i, none⟩ = some (.string s) ∧ wordC x.c p.a = S1.code s.toList := fun h => by
    unfold placeB at h
    simp only [Bool.and_eq_true, decide_eq_true_eq] at h
    obtain ⟨⟨h0, h1⟩, -⟩ := h
    have hi : p.a.toNat < x.c.length := by omega
    obtain ⟨b, off, ho, hb, hc⟩ := r3 p.a.toNat hi
    exact ⟨p.a.toNat, b, off, _, by omega, by omega, ho, hb, hc, rfl⟩
  have hkind : okPl p = true → inB p.k 1 8 = true := fun h => by
    unfold okPl at h
    simp only [Bool.and_eq_true] at h
    exact h.1.1.1.1.1
  obtain ⟨k, a, b, c, d, e⟩ := p
  obtain ⟨xc, xm, xa, xak, xan, xvk, xvn, xps, xqs, xsd⟩ := x
  rw [HH]
  simp only at hplace hkind hn r1 hs HK HT HI HS ⊢
  rw [hn] at r1 hs HS HT ⊢
  have HN := Lib.hid hn
  unfold maxLen at r2
  unfold pilV plV at *
  simp only at HK HT HI HS ⊢
  clear r3 HH hn
  have HA := HT b c
  have HV := HT d e
  clear HT
  have hT1 : ∀ t, okPl ⟨k, a, b, c, d, e⟩ = false → ((okPl ⟨k, a, b, c, d, e⟩ && t) = false) := fun t h => by rw [h]; rfl
  cases h1 : okPl ⟨k, a, b, c, d, e⟩
  · rw [h1] at HK
    generalize (placeB xc a) = tS at HS ⊢
    generalize (tellsB nq b c) = tA at HA ⊢
    generalize (tellsB nq d e) = tV at HV ⊢
    simp only [Bool.false_and]
    clear hplace hkind hT1 h1 HI
    go_enter Tryz.func146, Tryz.ntmps146
    go_wp2_with fail
    have H0 : Below w.heap.size w ((w.alloc (.cells #[.slice oa n cap, .int .i64 xm, .int .i64 xa, .int .i64 xak, .int .i64 xan, .int .i64 xvk, .int .i64 xvn, pv, .slice oq nq cq, sv] 58)).alloc (.cells #[.int .i64 k, .int .i64 a, .int .i64 b, .int .i64 c, .int .i64 d, .int .i64 e] 37)) := by (repeat (first | (with_reducible refine Below.alloc ?_ ?_ _) | (with_reducible refine Below.setCell ?_ ?_ _) | (with_reducible refine Below.drew ?_) | (with_reducible exact Below.refl _ _) | (with_reducible refine Below.trans ?_ (Below.mono (by assumption) ?_)))) <;> (first | omega | (dsimp only; omega) | (simp; done) | (simp; omega) | (simp at *; omega))
    have x0 : ((w.alloc (.cells #[.slice oa n cap, .int .i64 xm, .int .i64 xa, .int .i64 xak, .int .i64 xan, .int .i64 xvk, .int .i64 xvn, pv, .slice oq nq cq, sv] 58)).alloc (.cells #[.int .i64 k, .int .i64 a, .int .i64 b, .int .i64 c, .int .i64 d, .int .i64 e] 37)).cell? ⟨w.heap.size, 0, none⟩ = some (.slice oa n cap) := by simp [go_sem]
    have x1 : ((w.alloc (.cells #[.slice oa n cap, .int .i64 xm, .int .i64 xa, .int .i64 xak, .int .i64 xan, .int .i64 xvk, .int .i64 xvn, pv, .slice oq nq cq, sv] 58)).alloc (.cells #[.int .i64 k, .int .i64 a, .int .i64 b, .int .i64 c, .int .i64 d, .int .i64 e] 37)).cell? ⟨w.heap.size, 1, none⟩ = some (.int .i64 xm) := by simp [go_sem]
    have x2 : ((w.alloc (.cells #[.slice oa n cap, .int .i64 xm, .int .i64 xa, .int .i64 xak, .int .i64 xan, .int .i64 xvk, .int .i64 xvn, pv, .slice oq nq cq, sv] 58)).alloc (.cells #[.int .i64 k, .int .i64 a, .int .i64 b, .int .i64 c, .int .i64 d, .int .i64 e] 37)).cell? ⟨w.heap.size, 2, none⟩ = some (.int .i64 xa) := by simp [go_sem]
    have x3 : ((w.alloc (.cells #[.slice oa n cap, .int .i64 xm, .int .i64 xa, .int .i64 xak, .int .i64 xan, .int .i64 xvk, .int .i64 xvn, pv, .slice oq nq cq, sv] 58)).alloc (.cells #[.int .i64 k, .int .i64 a, .int .i64 b, .int .i64 c, .int .i64 d, .int .i64 e] 37)).cell? ⟨w.heap.size, 3, none⟩ = some (.int .i64 xak) := by simp [go_sem]
    have x4 : ((w.alloc (.cells #[.slice oa n cap, .int .i64 xm, .int .i64 xa, .int .i64 xak, .int .i64 xan, .int .i64 xvk, .int .i64 xvn, pv, .slice oq nq cq, sv] 58)).alloc (.cells #[.int .i64 k, .int .i64 a, .int .i64 b, .int .i64 c, .int .i64 d, .int .i64 e] 37)).cell? ⟨w.heap.size, 4, none⟩ = some (.int .i64 xan) := by simp [go_sem]
    have x5 : ((w.alloc (.cells #[.slice oa n cap, .int .i64 xm, .int .i64 xa, .int .i64 xak, .int .i64 xan, .int .i64 xvk, .int .i64 xvn, pv, .slice oq nq cq, sv] 58)).alloc (.cells #[.int .i64 k, .int .i64 a, .int .i64 b, .int .i64 c, .int .i64 d, .int .i64 e] 37)).cell? ⟨w.heap.size, 5, none⟩ = some (.int .i64 xvk) := by simp [go_sem]
    have x6 : ((w.alloc (.cells #[.slice oa n cap, .int .i64 xm, .int .i64 xa, .int .i64 xak, .int .i64 xan, .int .i64 xvk, .int .i64 xvn, pv, .slice oq nq cq, sv] 58)).alloc (.cells #[.int .i64 k, .int .i64 a, .int .i64 b, .int .i64 c, .int .i64 d, .int .i64 e] 37)).cell? ⟨w.heap.size, 6, none⟩ = some (.int .i64 xvn) := by simp [go_sem]
    have x7 : ((w.alloc (.cells #[.slice oa n cap, .int .i64 xm, .int .i64 xa, .int .i64 xak, .int .i64 xan, .int .i64 xvk, .int .i64 xvn, pv, .slice oq nq cq, sv] 58)).alloc (.cells #[.int .i64 k, .int .i64 a, .int .i64 b, .int .i64 c, .int .i64 d, .int .i64 e] 37)).cell? ⟨w.heap.size, 7, none⟩ = some (pv) := by simp [go_sem]
    have x8 : ((w.alloc (.cells #[.slice oa n cap, .int .i64 xm, .int .i64 xa, .int .i64 xak, .int .i64 xan, .int .i64 xvk, .int .i64 xvn, pv, .slice oq nq cq, sv] 58)).alloc (.cells #[.int .i64 k, .int .i64 a, .int .i64 b, .int .i64 c, .int .i64 d, .int .i64 e] 37)).cell? ⟨w.heap.size, 8, none⟩ = some (.slice oq nq cq) := by simp [go_sem]
    have x9 : ((w.alloc (.cells #[.slice oa n cap, .int .i64 xm, .int .i64 xa, .int .i64 xak, .int .i64 xan, .int .i64 xvk, .int .i64 xvn, pv, .slice oq nq cq, sv] 58)).alloc (.cells #[.int .i64 k, .int .i64 a, .int .i64 b, .int .i64 c, .int .i64 d, .int .i64 e] 37)).cell? ⟨w.heap.size, 9, none⟩ = some (sv) := by simp [go_sem]
    have y0 : ((w.alloc (.cells #[.slice oa n cap, .int .i64 xm, .int .i64 xa, .int .i64 xak, .int .i64 xan, .int .i64 xvk, .int .i64 xvn, pv, .slice oq nq cq, sv] 58)).alloc (.cells #[.int .i64 k, .int .i64 a, .int .i64 b, .int .i64 c, .int .i64 d, .int .i64 e] 37)).cell? ⟨w.heap.size + 1, 0, none⟩ = some (.int .i64 k) := by simp [go_sem]
    have y1 : ((w.alloc (.cells #[.slice oa n cap, .int .i64 xm, .int .i64 xa, .int .i64 xak, .int .i64 xan, .int .i64 xvk, .int .i64 xvn, pv, .slice oq nq cq, sv] 58)).alloc (.cells #[.int .i64 k, .int .i64 a, .int .i64 b, .int .i64 c, .int .i64 d, .int .i64 e] 37)).cell? ⟨w.heap.size + 1, 1, none⟩ = some (.int .i64 a) := by simp [go_sem]
    have y2 : ((w.alloc (.cells #[.slice oa n cap, .int .i64 xm, .int .i64 xa, .int .i64 xak, .int .i64 xan, .int .i64 xvk, .int .i64 xvn, pv, .slice oq nq cq, sv] 58)).alloc (.cells #[.int .i64 k, .int .i64 a, .int .i64 b, .int .i64 c, .int .i64 d, .int .i64 e] 37)).cell? ⟨w.heap.size + 1, 2, none⟩ = some (.int .i64 b) := by simp [go_sem]
    have y3 : ((w.alloc (.cells #[.slice oa n cap, .int .i64 xm, .int .i64 xa, .int .i64 xak, .int .i64 xan, .int .i64 xvk, .int .i64 xvn, pv, .slice oq nq cq, sv] 58)).alloc (.cells #[.int .i64 k, .int .i64 a, .int .i64 b, .int .i64 c, .int .i64 d, .int .i64 e] 37)).cell? ⟨w.heap.size + 1, 3, none⟩ = some (.int .i64 c) := by simp [go_sem]
    have y4 : ((w.alloc (.cells #[.slice oa n cap, .int .i64 xm, .int .i64 xa, .int .i64 xak, .int .i64 xan, .int .i64 xvk, .int .i64 xvn, pv, .slice oq nq cq, sv] 58)).alloc (.cells #[.int .i64 k, .int .i64 a, .int .i64 b, .int .i64 c, .int .i64 d, .int .i64 e] 37)).cell? ⟨w.heap.size + 1, 4, none⟩ = some (.int .i64 d) := by simp [go_sem]
    have y5 : ((w.alloc (.cells #[.slice oa n cap, .int .i64 xm, .int .i64 xa, .int .i64 xak, .int .i64 xan, .int .i64 xvk, .int .i64 xvn, pv, .slice oq nq cq, sv] 58)).alloc (.cells #[.int .i64 k, .int .i64 a, .int .i64 b, .int .i64 c, .int .i64 d, .int .i64 e] 37)).cell? ⟨w.heap.size + 1, 5, none⟩ = some (.int .i64 e) := by simp [go_sem]
    generalize ((w.alloc (.cells #[.slice oa n cap, .int .i64 xm, .int .i64 xa, .int .i64 xak, .int .i64 xan, .int .i64 xvk, .int .i64 xvn, pv, .slice oq nq cq, sv] 58)).alloc (.cells #[.int .i64 k, .int .i64 a, .int .i64 b, .int .i64 c, .int .i64 d, .int .i64 e] 37)) = W at H0 x0 x1 x2 x3 x4 x5 x6 x7 x8 x9 y0 y1 y2 y3 y4 y5 ⊢
    have x0' := cell_regrown x0
    have x1' := cell_regrown x1
    have x2' := cell_regrown x2
    have x3' := cell_regrown x3
    have x4' := cell_regrown x4
    have x5' := cell_regrown x5
    have x6' := cell_regrown x6
    have x7' := cell_regrown x7
    have x8' := cell_regrown x8
    have x9' := cell_regrown x9
    have y0' := cell_regrown y0
    have y1' := cell_regrown y1
    have y2' := cell_regrown y2
    have y3' := cell_regrown y3
    have y4' := cell_regrown y4
    have y5' := cell_regrown y5
    have cK := fun q os => Calls.regrown_of (d := q) (os := os) (HK (grow (redrawn W q) os))
    have cA := fun q os => Calls.regrown_of (d := q) (os := os) (HA (grow (redrawn W q) os))
    have cV := fun q os => Calls.regrown_of (d := q) (os := os) (HV (grow (redrawn W q) os))
    have cS := fun q os => Calls.regrown_of (d := q) (os := os) (HS (grow (redrawn W q) os) (H0.trans ((below_regrown W q os).mono H0.size)))
    clear x0 x1 x2 x3 x4 x5 x6 x7 x8 x9 y0 y1 y2 y3 y4 y5
    refine wp_region_quiet_below (by kernel_rfl) (by kernel_rfl) ?_
    repeat (go_big_quiet_step (first | (go_at_call 23; exact cK _ _) | (go_at_call_of 142 (Value.int IntKind.i64 b); exact cA _ _) | (go_at_call_of 142 (Value.int IntKind.i64 d); exact cV _ _) | (go_at_call 141; exact cS _ _)))
    all_goals
      refine wpQuiet_nil ?_
      intro _ hw'
      obtain ⟨⟨dq, osq⟩, hw''⟩ := hw'
      have HQ := H0.trans ((below_regrown W dq osq).mono H0.size)
      rw [← hw''] at HQ
      clear hw'' H0 cK cA cV cS x0' x1' x2' x3' x4' x5' x6' x7' x8' x9' y0' y1' y2' y3' y4' y5'
      go_wp2_with fail
      go_ret
      exact ⟨rfl, HQ⟩
  · rw [h1] at HK
    cases h2 : tellsB nq b c
    · rw [h2] at HA
      generalize (placeB xc a) = tS at HS ⊢
      generalize (tellsB nq d e) = tV at HV ⊢
      simp only [Bool.false_and, Bool.and_false]
      clear hplace hkind hT1 h1 h2 HI
      go_enter Tryz.func146, Tryz.ntmps146
      go_wp2_with fail
      have H0 : Below w.heap.size w ((w.alloc (.cells #[.slice oa n cap, .int .i64 xm, .int .i64 xa, .int .i64 xak, .int .i64 xan, .int .i64 xvk, .int .i64 xvn, pv, .slice oq nq cq, sv] 58)).alloc (.cells #[.int .i64 k, .int .i64 a, .int .i64 b, .int .i64 c, .int .i64 d, .int .i64 e] 37)) := by (repeat (first | (with_reducible refine Below.alloc ?_ ?_ _) | (with_reducible refine Below.setCell ?_ ?_ _) | (with_reducible refine Below.drew ?_) | (with_reducible exact Below.refl _ _) | (with_reducible refine Below.trans ?_ (Below.mono (by assumption) ?_)))) <;> (first | omega | (dsimp only; omega) | (simp; done) | (simp; omega) | (simp at *; omega))
      have x0 : ((w.alloc (.cells #[.slice oa n cap, .int .i64 xm, .int .i64 xa, .int .i64 xak, .int .i64 xan, .int .i64 xvk, .int .i64 xvn, pv, .slice oq nq cq, sv] 58)).alloc (.cells #[.int .i64 k, .int .i64 a, .int .i64 b, .int .i64 c, .int .i64 d, .int .i64 e] 37)).cell? ⟨w.heap.size, 0, none⟩ = some (.slice oa n cap) := by simp [go_sem]
      have x1 : ((w.alloc (.cells #[.slice oa n cap, .int .i64 xm, .int .i64 xa, .int .i64 xak, .int .i64 xan, .int .i64 xvk, .int .i64 xvn, pv, .slice oq nq cq, sv] 58)).alloc (.cells #[.int .i64 k, .int .i64 a, .int .i64 b, .int .i64 c, .int .i64 d, .int .i64 e] 37)).cell? ⟨w.heap.size, 1, none⟩ = some (.int .i64 xm) := by simp [go_sem]
      have x2 : ((w.alloc (.cells #[.slice oa n cap, .int .i64 xm, .int .i64 xa, .int .i64 xak, .int .i64 xan, .int .i64 xvk, .int .i64 xvn, pv, .slice oq nq cq, sv] 58)).alloc (.cells #[.int .i64 k, .int .i64 a, .int .i64 b, .int .i64 c, .int .i64 d, .int .i64 e] 37)).cell? ⟨w.heap.size, 2, none⟩ = some (.int .i64 xa) := by simp [go_sem]
      have x3 : ((w.alloc (.cells #[.slice oa n cap, .int .i64 xm, .int .i64 xa, .int .i64 xak, .int .i64 xan, .int .i64 xvk, .int .i64 xvn, pv, .slice oq nq cq, sv] 58)).alloc (.cells #[.int .i64 k, .int .i64 a, .int .i64 b, .int .i64 c, .int .i64 d, .int .i64 e] 37)).cell? ⟨w.heap.size, 3, none⟩ = some (.int .i64 xak) := by simp [go_sem]
      have x4 : ((w.alloc (.cells #[.slice oa n cap, .int .i64 xm, .int .i64 xa, .int .i64 xak, .int .i64 xan, .int .i64 xvk, .int .i64 xvn, pv, .slice oq nq cq, sv] 58)).alloc (.cells #[.int .i64 k, .int .i64 a, .int .i64 b, .int .i64 c, .int .i64 d, .int .i64 e] 37)).cell? ⟨w.heap.size, 4, none⟩ = some (.int .i64 xan) := by simp [go_sem]
      have x5 : ((w.alloc (.cells #[.slice oa n cap, .int .i64 xm, .int .i64 xa, .int .i64 xak, .int .i64 xan, .int .i64 xvk, .int .i64 xvn, pv, .slice oq nq cq, sv] 58)).alloc (.cells #[.int .i64 k, .int .i64 a, .int .i64 b, .int .i64 c, .int .i64 d, .int .i64 e] 37)).cell? ⟨w.heap.size, 5, none⟩ = some (.int .i64 xvk) := by simp [go_sem]
      have x6 : ((w.alloc (.cells #[.slice oa n cap, .int .i64 xm, .int .i64 xa, .int .i64 xak, .int .i64 xan, .int .i64 xvk, .int .i64 xvn, pv, .slice oq nq cq, sv] 58)).alloc (.cells #[.int .i64 k, .int .i64 a, .int .i64 b, .int .i64 c, .int .i64 d, .int .i64 e] 37)).cell? ⟨w.heap.size, 6, none⟩ = some (.int .i64 xvn) := by simp [go_sem]
      have x7 : ((w.alloc (.cells #[.slice oa n cap, .int .i64 xm, .int .i64 xa, .int .i64 xak, .int .i64 xan, .int .i64 xvk, .int .i64 xvn, pv, .slice oq nq cq, sv] 58)).alloc (.cells #[.int .i64 k, .int .i64 a, .int .i64 b, .int .i64 c, .int .i64 d, .int .i64 e] 37)).cell? ⟨w.heap.size, 7, none⟩ = some (pv) := by simp [go_sem]
      have x8 : ((w.alloc (.cells #[.slice oa n cap, .int .i64 xm, .int .i64 xa, .int .i64 xak, .int .i64 xan, .int .i64 xvk, .int .i64 xvn, pv, .slice oq nq cq, sv] 58)).alloc (.cells #[.int .i64 k, .int .i64 a, .int .i64 b, .int .i64 c, .int .i64 d, .int .i64 e] 37)).cell? ⟨w.heap.size, 8, none⟩ = some (.slice oq nq cq) := by simp [go_sem]
      have x9 : ((w.alloc (.cells #[.slice oa n cap, .int .i64 xm, .int .i64 xa, .int .i64 xak, .int .i64 xan, .int .i64 xvk, .int .i64 xvn, pv, .slice oq nq cq, sv] 58)).alloc (.cells #[.int .i64 k, .int .i64 a, .int .i64 b, .int .i64 c, .int .i64 d, .int .i64 e] 37)).cell? ⟨w.heap.size, 9, none⟩ = some (sv) := by simp [go_sem]
      have y0 : ((w.alloc (.cells #[.slice oa n cap, .int .i64 xm, .int .i64 xa, .int .i64 xak, .int .i64 xan, .int .i64 xvk, .int .i64 xvn, pv, .slice oq nq cq, sv] 58)).alloc (.cells #[.int .i64 k, .int .i64 a, .int .i64 b, .int .i64 c, .int .i64 d, .int .i64 e] 37)).cell? ⟨w.heap.size + 1, 0, none⟩ = some (.int .i64 k) := by simp [go_sem]
      have y1 : ((w.alloc (.cells #[.slice oa n cap, .int .i64 xm, .int .i64 xa, .int .i64 xak, .int .i64 xan, .int .i64 xvk, .int .i64 xvn, pv, .slice oq nq cq, sv] 58)).alloc (.cells #[.int .i64 k, .int .i64 a, .int .i64 b, .int .i64 c, .int .i64 d, .int .i64 e] 37)).cell? ⟨w.heap.size + 1, 1, none⟩ = some (.int .i64 a) := by simp [go_sem]
      have y2 : ((w.alloc (.cells #[.slice oa n cap, .int .i64 xm, .int .i64 xa, .int .i64 xak, .int .i64 xan, .int .i64 xvk, .int .i64 xvn, pv, .slice oq nq cq, sv] 58)).alloc (.cells #[.int .i64 k, .int .i64 a, .int .i64 b, .int .i64 c, .int .i64 d, .int .i64 e] 37)).cell? ⟨w.heap.size + 1, 2, none⟩ = some (.int .i64 b) := by simp [go_sem]
      have y3 : ((w.alloc (.cells #[.slice oa n cap, .int .i64 xm, .int .i64 xa, .int .i64 xak, .int .i64 xan, .int .i64 xvk, .int .i64 xvn, pv, .slice oq nq cq, sv] 58)).alloc (.cells #[.int .i64 k, .int .i64 a, .int .i64 b, .int .i64 c, .int .i64 d, .int .i64 e] 37)).cell? ⟨w.heap.size + 1, 3, none⟩ = some (.int .i64 c) := by simp [go_sem]
      have y4 : ((w.alloc (.cells #[.slice oa n cap, .int .i64 xm, .int .i64 xa, .int .i64 xak, .int .i64 xan, .int .i64 xvk, .int .i64 xvn, pv, .slice oq nq cq, sv] 58)).alloc (.cells #[.int .i64 k, .int .i64 a, .int .i64 b, .int .i64 c, .int .i64 d, .int .i64 e] 37)).cell? ⟨w.heap.size + 1, 4, none⟩ = some (.int .i64 d) := by simp [go_sem]
      have y5 : ((w.alloc (.cells #[.slice oa n cap, .int .i64 xm, .int .i64 xa, .int .i64 xak, .int .i64 xan, .int .i64 xvk, .int .i64 xvn, pv, .slice oq nq cq, sv] 58)).alloc (.cells #[.int .i64 k, .int .i64 a, .int .i64 b, .int .i64 c, .int .i64 d, .int .i64 e] 37)).cell? ⟨w.heap.size + 1, 5, none⟩ = some (.int .i64 e) := by simp [go_sem]
      generalize ((w.alloc (.cells #[.slice oa n cap, .int .i64 xm, .int .i64 xa, .int .i64 xak, .int .i64 xan, .int .i64 xvk, .int .i64 xvn, pv, .slice oq nq cq, sv] 58)).alloc (.cells #[.int .i64 k, .int .i64 a, .int .i64 b, .int .i64 c, .int .i64 d, .int .i64 e] 37)) = W at H0 x0 x1 x2 x3 x4 x5 x6 x7 x8 x9 y0 y1 y2 y3 y4 y5 ⊢
      have x0' := cell_regrown x0
      have x1' := cell_regrown x1
      have x2' := cell_regrown x2
      have x3' := cell_regrown x3
      have x4' := cell_regrown x4
      have x5' := cell_regrown x5
      have x6' := cell_regrown x6
      have x7' := cell_regrown x7
      have x8' := cell_regrown x8
      have x9' := cell_regrown x9
      have y0' := cell_regrown y0
      have y1' := cell_regrown y1
      have y2' := cell_regrown y2
      have y3' := cell_regrown y3
      have y4' := cell_regrown y4
      have y5' := cell_regrown y5
      have cK := fun q os => Calls.regrown_of (d := q) (os := os) (HK (grow (redrawn W q) os))
      have cA := fun q os => Calls.regrown_of (d := q) (os := os) (HA (grow (redrawn W q) os))
      have cV := fun q os => Calls.regrown_of (d := q) (os := os) (HV (grow (redrawn W q) os))
      have cS := fun q os => Calls.regrown_of (d := q) (os := os) (HS (grow (redrawn W q) os) (H0.trans ((below_regrown W q os).mono H0.size)))
      clear x0 x1 x2 x3 x4 x5 x6 x7 x8 x9 y0 y1 y2 y3 y4 y5
      refine wp_region_quiet_below (by kernel_rfl) (by kernel_rfl) ?_
      repeat (go_big_quiet_step (first | (go_at_call 23; exact cK _ _) | (go_at_call_of 142 (Value.int IntKind.i64 b); exact cA _ _) | (go_at_call_of 142 (Value.int IntKind.i64 d); exact cV _ _) | (go_at_call 141; exact cS _ _)))
      all_goals
        refine wpQuiet_nil ?_
        intro _ hw'
        obtain ⟨⟨dq, osq⟩, hw''⟩ := hw'
        have HQ := H0.trans ((below_regrown W dq osq).mono H0.size)
        rw [← hw''] at HQ
        clear hw'' H0 cK cA cV cS x0' x1' x2' x3' x4' x5' x6' x7' x8' x9' y0' y1' y2' y3' y4' y5'
        go_wp2_with fail
        go_ret
        exact ⟨rfl, HQ⟩
    · rw [h2] at HA
      cases h3 : tellsB nq d e
      · rw [h3] at HV
        generalize (placeB xc a) = tS at HS ⊢
        simp only [Bool.false_and, Bool.and_false]
        clear hplace hkind hT1 h1 h2 h3 HI
        go_enter Tryz.func146, Tryz.ntmps146
        go_wp2_with fail
        have H0 : Below w.heap.size w ((w.alloc (.cells #[.slice oa n cap, .int .i64 xm, .int .i64 xa, .int .i64 xak, .int .i64 xan, .int .i64 xvk, .int .i64 xvn, pv, .slice oq nq cq, sv] 58)).alloc (.cells #[.int .i64 k, .int .i64 a, .int .i64 b, .int .i64 c, .int .i64 d, .int .i64 e] 37)) := by (repeat (first | (with_reducible refine Below.alloc ?_ ?_ _) | (with_reducible refine Below.setCell ?_ ?_ _) | (with_reducible refine Below.drew ?_) | (with_reducible exact Below.refl _ _) | (with_reducible refine Below.trans ?_ (Below.mono (by assumption) ?_)))) <;> (first | omega | (dsimp only; omega) | (simp; done) | (simp; omega) | (simp at *; omega))
        have x0 : ((w.alloc (.cells #[.slice oa n cap, .int .i64 xm, .int .i64 xa, .int .i64 xak, .int .i64 xan, .int .i64 xvk, .int .i64 xvn, pv, .slice oq nq cq, sv] 58)).alloc (.cells #[.int .i64 k, .int .i64 a, .int .i64 b, .int .i64 c, .int .i64 d, .int .i64 e] 37)).cell? ⟨w.heap.size, 0, none⟩ = some (.slice oa n cap) := by simp [go_sem]
        have x1 : ((w.alloc (.cells #[.slice oa n cap, .int .i64 xm, .int .i64 xa, .int .i64 xak, .int .i64 xan, .int .i64 xvk, .int .i64 xvn, pv, .slice oq nq cq, sv] 58)).alloc (.cells #[.int .i64 k, .int .i64 a, .int .i64 b, .int .i64 c, .int .i64 d, .int .i64 e] 37)).cell? ⟨w.heap.size, 1, none⟩ = some (.int .i64 xm) := by simp [go_sem]
        have x2 : ((w.alloc (.cells #[.slice oa n cap, .int .i64 xm, .int .i64 xa, .int .i64 xak, .int .i64 xan, .int .i64 xvk, .int .i64 xvn, pv, .slice oq nq cq, sv] 58)).alloc (.cells #[.int .i64 k, .int .i64 a, .int .i64 b, .int .i64 c, .int .i64 d, .int .i64 e] 37)).cell? ⟨w.heap.size, 2, none⟩ = some (.int .i64 xa) := by simp [go_sem]
        have x3 : ((w.alloc (.cells #[.slice oa n cap, .int .i64 xm, .int .i64 xa, .int .i64 xak, .int .i64 xan, .int .i64 xvk, .int .i64 xvn, pv, .slice oq nq cq, sv] 58)).alloc (.cells #[.int .i64 k, .int .i64 a, .int .i64 b, .int .i64 c, .int .i64 d, .int .i64 e] 37)).cell? ⟨w.heap.size, 3, none⟩ = some (.int .i64 xak) := by simp [go_sem]
        have x4 : ((w.alloc (.cells #[.slice oa n cap, .int .i64 xm, .int .i64 xa, .int .i64 xak, .int .i64 xan, .int .i64 xvk, .int .i64 xvn, pv, .slice oq nq cq, sv] 58)).alloc (.cells #[.int .i64 k, .int .i64 a, .int .i64 b, .int .i64 c, .int .i64 d, .int .i64 e] 37)).cell? ⟨w.heap.size, 4, none⟩ = some (.int .i64 xan) := by simp [go_sem]
        have x5 : ((w.alloc (.cells #[.slice oa n cap, .int .i64 xm, .int .i64 xa, .int .i64 xak, .int .i64 xan, .int .i64 xvk, .int .i64 xvn, pv, .slice oq nq cq, sv] 58)).alloc (.cells #[.int .i64 k, .int .i64 a, .int .i64 b, .int .i64 c, .int .i64 d, .int .i64 e] 37)).cell? ⟨w.heap.size, 5, none⟩ = some (.int .i64 xvk) := by simp [go_sem]
        have x6 : ((w.alloc (.cells #[.slice oa n cap, .int .i64 xm, .int .i64 xa, .int .i64 xak, .int .i64 xan, .int .i64 xvk, .int .i64 xvn, pv, .slice oq nq cq, sv] 58)).alloc (.cells #[.int .i64 k, .int .i64 a, .int .i64 b, .int .i64 c, .int .i64 d, .int .i64 e] 37)).cell? ⟨w.heap.size, 6, none⟩ = some (.int .i64 xvn) := by simp [go_sem]
        have x7 : ((w.alloc (.cells #[.slice oa n cap, .int .i64 xm, .int .i64 xa, .int .i64 xak, .int .i64 xan, .int .i64 xvk, .int .i64 xvn, pv, .slice oq nq cq, sv] 58)).alloc (.cells #[.int .i64 k, .int .i64 a, .int .i64 b, .int .i64 c, .int .i64 d, .int .i64 e] 37)).cell? ⟨w.heap.size, 7, none⟩ = some (pv) := by simp [go_sem]
        have x8 : ((w.alloc (.cells #[.slice oa n cap, .int .i64 xm, .int .i64 xa, .int .i64 xak, .int .i64 xan, .int .i64 xvk, .int .i64 xvn, pv, .slice oq nq cq, sv] 58)).alloc (.cells #[.int .i64 k, .int .i64 a, .int .i64 b, .int .i64 c, .int .i64 d, .int .i64 e] 37)).cell? ⟨w.heap.size, 8, none⟩ = some (.slice oq nq cq) := by simp [go_sem]
        have x9 : ((w.alloc (.cells #[.slice oa n cap, .int .i64 xm, .int .i64 xa, .int .i64 xak, .int .i64 xan, .int .i64 xvk, .int .i64 xvn, pv, .slice oq nq cq, sv] 58)).alloc (.cells #[.int .i64 k, .int .i64 a, .int .i64 b, .int .i64 c, .int .i64 d, .int .i64 e] 37)).cell? ⟨w.heap.size, 9, none⟩ = some (sv) := by simp [go_sem]
        have y0 : ((w.alloc (.cells #[.slice oa n cap, .int .i64 xm, .int .i64 xa, .int .i64 xak, .int .i64 xan, .int .i64 xvk, .int .i64 xvn, pv, .slice oq nq cq, sv] 58)).alloc (.cells #[.int .i64 k, .int .i64 a, .int .i64 b, .int .i64 c, .int .i64 d, .int .i64 e] 37)).cell? ⟨w.heap.size + 1, 0, none⟩ = some (.int .i64 k) := by simp [go_sem]
        have y1 : ((w.alloc (.cells #[.slice oa n cap, .int .i64 xm, .int .i64 xa, .int .i64 xak, .int .i64 xan, .int .i64 xvk, .int .i64 xvn, pv, .slice oq nq cq, sv] 58)).alloc (.cells #[.int .i64 k, .int .i64 a, .int .i64 b, .int .i64 c, .int .i64 d, .int .i64 e] 37)).cell? ⟨w.heap.size + 1, 1, none⟩ = some (.int .i64 a) := by simp [go_sem]
        have y2 : ((w.alloc (.cells #[.slice oa n cap, .int .i64 xm, .int .i64 xa, .int .i64 xak, .int .i64 xan, .int .i64 xvk, .int .i64 xvn, pv, .slice oq nq cq, sv] 58)).alloc (.cells #[.int .i64 k, .int .i64 a, .int .i64 b, .int .i64 c, .int .i64 d, .int .i64 e] 37)).cell? ⟨w.heap.size + 1, 2, none⟩ = some (.int .i64 b) := by simp [go_sem]
        have y3 : ((w.alloc (.cells #[.slice oa n cap, .int .i64 xm, .int .i64 xa, .int .i64 xak, .int .i64 xan, .int .i64 xvk, .int .i64 xvn, pv, .slice oq nq cq, sv] 58)).alloc (.cells #[.int .i64 k, .int .i64 a, .int .i64 b, .int .i64 c, .int .i64 d, .int .i64 e] 37)).cell? ⟨w.heap.size + 1, 3, none⟩ = some (.int .i64 c) := by simp [go_sem]
        have y4 : ((w.alloc (.cells #[.slice oa n cap, .int .i64 xm, .int .i64 xa, .int .i64 xak, .int .i64 xan, .int .i64 xvk, .int .i64 xvn, pv, .slice oq nq cq, sv] 58)).alloc (.cells #[.int .i64 k, .int .i64 a, .int .i64 b, .int .i64 c, .int .i64 d, .int .i64 e] 37)).cell? ⟨w.heap.size + 1, 4, none⟩ = some (.int .i64 d) := by simp [go_sem]
        have y5 : ((w.alloc (.cells #[.slice oa n cap, .int .i64 xm, .int .i64 xa, .int .i64 xak, .int .i64 xan, .int .i64 xvk, .int .i64 xvn, pv, .slice oq nq cq, sv] 58)).alloc (.cells #[.int .i64 k, .int .i64 a, .int .i64 b, .int .i64 c, .int .i64 d, .int .i64 e] 37)).cell? ⟨w.heap.size + 1, 5, none⟩ = some (.int .i64 e) := by simp [go_sem]
        generalize ((w.alloc (.cells #[.slice oa n cap, .int .i64 xm, .int .i64 xa, .int .i64 xak, .int .i64 xan, .int .i64 xvk, .int .i64 xvn, pv, .slice oq nq cq, sv] 58)).alloc (.cells #[.int .i64 k, .int .i64 a, .int .i64 b, .int .i64 c, .int .i64 d, .int .i64 e] 37)) = W at H0 x0 x1 x2 x3 x4 x5 x6 x7 x8 x9 y0 y1 y2 y3 y4 y5 ⊢
        have x0' := cell_regrown x0
        have x1' := cell_regrown x1
        have x2' := cell_regrown x2
        have x3' := cell_regrown x3
        have x4' := cell_regrown x4
        have x5' := cell_regrown x5
        have x6' := cell_regrown x6
        have x7' := cell_regrown x7
        have x8' := cell_regrown x8
        have x9' := cell_regrown x9
        have y0' := cell_regrown y0
        have y1' := cell_regrown y1
        have y2' := cell_regrown y2
        have y3' := cell_regrown y3
        have y4' := cell_regrown y4
        have y5' := cell_regrown y5
        have cK := fun q os => Calls.regrown_of (d := q) (os := os) (HK (grow (redrawn W q) os))
        have cA := fun q os => Calls.regrown_of (d := q) (os := os) (HA (grow (redrawn W q) os))
        have cV := fun q os => Calls.regrown_of (d := q) (os := os) (HV (grow (redrawn W q) os))
        have cS := fun q os => Calls.regrown_of (d := q) (os := os) (HS (grow (redrawn W q) os) (H0.trans ((below_regrown W q os).mono H0.size)))
        clear x0 x1 x2 x3 x4 x5 x6 x7 x8 x9 y0 y1 y2 y3 y4 y5
        refine wp_region_quiet_below (by kernel_rfl) (by kernel_rfl) ?_
        repeat (go_big_quiet_step (first | (go_at_call 23; exact cK _ _) | (go_at_call_of 142 (Value.int IntKind.i64 b); exact cA _ _) | (go_at_call_of 142 (Value.int IntKind.i64 d); exact cV _ _) | (go_at_call 141; exact cS _ _)))
        all_goals
          refine wpQuiet_nil ?_
          intro _ hw'
          obtain ⟨⟨dq, osq⟩, hw''⟩ := hw'
          have HQ := H0.trans ((below_regrown W dq osq).mono H0.size)
          rw [← hw''] at HQ
          clear hw'' H0 cK cA cV cS x0' x1' x2' x3' x4' x5' x6' x7' x8' x9' y0' y1' y2' y3' y4' y5'
          go_wp2_with fail
          go_ret
          exact ⟨rfl, HQ⟩
      · rw [h3] at HV
        cases h4 : placeB xc a
        · rw [h4] at HS
          simp only [Bool.false_and, Bool.and_false]
          clear hplace hkind hT1 h1 h2 h3 h4 HI
          go_enter Tryz.func146, Tryz.ntmps146
          go_wp2_with fail
          have H0 : Below w.heap.size w ((w.alloc (.cells #[.slice oa n cap, .int .i64 xm, .int .i64 xa, .int .i64 xak, .int .i64 xan, .int .i64 xvk, .int .i64 xvn, pv, .slice oq nq cq, sv] 58)).alloc (.cells #[.int .i64 k, .int .i64 a, .int .i64 b, .int .i64 c, .int .i64 d, .int .i64 e] 37)) := by (repeat (first | (with_reducible refine Below.alloc ?_ ?_ _) | (with_reducible refine Below.setCell ?_ ?_ _) | (with_reducible refine Below.drew ?_) | (with_reducible exact Below.refl _ _) | (with_reducible refine Below.trans ?_ (Below.mono (by assumption) ?_)))) <;> (first | omega | (dsimp only; omega) | (simp; done) | (simp; omega) | (simp at *; omega))
          have x0 : ((w.alloc (.cells #[.slice oa n cap, .int .i64 xm, .int .i64 xa, .int .i64 xak, .int .i64 xan, .int .i64 xvk, .int .i64 xvn, pv, .slice oq nq cq, sv] 58)).alloc (.cells #[.int .i64 k, .int .i64 a, .int .i64 b, .int .i64 c, .int .i64 d, .int .i64 e] 37)).cell? ⟨w.heap.size, 0, none⟩ = some (.slice oa n cap) := by simp [go_sem]
          have x1 : ((w.alloc (.cells #[.slice oa n cap, .int .i64 xm, .int .i64 xa, .int .i64 xak, .int .i64 xan, .int .i64 xvk, .int .i64 xvn, pv, .slice oq nq cq, sv] 58)).alloc (.cells #[.int .i64 k, .int .i64 a, .int .i64 b, .int .i64 c, .int .i64 d, .int .i64 e] 37)).cell? ⟨w.heap.size, 1, none⟩ = some (.int .i64 xm) := by simp [go_sem]
          have x2 : ((w.alloc (.cells #[.slice oa n cap, .int .i64 xm, .int .i64 xa, .int .i64 xak, .int .i64 xan, .int .i64 xvk, .int .i64 xvn, pv, .slice oq nq cq, sv] 58)).alloc (.cells #[.int .i64 k, .int .i64 a, .int .i64 b, .int .i64 c, .int .i64 d, .int .i64 e] 37)).cell? ⟨w.heap.size, 2, none⟩ = some (.int .i64 xa) := by simp [go_sem]
          have x3 : ((w.alloc (.cells #[.slice oa n cap, .int .i64 xm, .int .i64 xa, .int .i64 xak, .int .i64 xan, .int .i64 xvk, .int .i64 xvn, pv, .slice oq nq cq, sv] 58)).alloc (.cells #[.int .i64 k, .int .i64 a, .int .i64 b, .int .i64 c, .int .i64 d, .int .i64 e] 37)).cell? ⟨w.heap.size, 3, none⟩ = some (.int .i64 xak) := by simp [go_sem]
          have x4 : ((w.alloc (.cells #[.slice oa n cap, .int .i64 xm, .int .i64 xa, .int .i64 xak, .int .i64 xan, .int .i64 xvk, .int .i64 xvn, pv, .slice oq nq cq, sv] 58)).alloc (.cells #[.int .i64 k, .int .i64 a, .int .i64 b, .int .i64 c, .int .i64 d, .int .i64 e] 37)).cell? ⟨w.heap.size, 4, none⟩ = some (.int .i64 xan) := by simp [go_sem]
          have x5 : ((w.alloc (.cells #[.slice oa n cap, .int .i64 xm, .int .i64 xa, .int .i64 xak, .int .i64 xan, .int .i64 xvk, .int .i64 xvn, pv, .slice oq nq cq, sv] 58)).alloc (.cells #[.int .i64 k, .int .i64 a, .int .i64 b, .int .i64 c, .int .i64 d, .int .i64 e] 37)).cell? ⟨w.heap.size, 5, none⟩ = some (.int .i64 xvk) := by simp [go_sem]
          have x6 : ((w.alloc (.cells #[.slice oa n cap, .int .i64 xm, .int .i64 xa, .int .i64 xak, .int .i64 xan, .int .i64 xvk, .int .i64 xvn, pv, .slice oq nq cq, sv] 58)).alloc (.cells #[.int .i64 k, .int .i64 a, .int .i64 b, .int .i64 c, .int .i64 d, .int .i64 e] 37)).cell? ⟨w.heap.size, 6, none⟩ = some (.int .i64 xvn) := by simp [go_sem]
          have x7 : ((w.alloc (.cells #[.slice oa n cap, .int .i64 xm, .int .i64 xa, .int .i64 xak, .int .i64 xan, .int .i64 xvk, .int .i64 xvn, pv, .slice oq nq cq, sv] 58)).alloc (.cells #[.int .i64 k, .int .i64 a, .int .i64 b, .int .i64 c, .int .i64 d, .int .i64 e] 37)).cell? ⟨w.heap.size, 7, none⟩ = some (pv) := by simp [go_sem]
          have x8 : ((w.alloc (.cells #[.slice oa n cap, .int .i64 xm, .int .i64 xa, .int .i64 xak, .int .i64 xan, .int .i64 xvk, .int .i64 xvn, pv, .slice oq nq cq, sv] 58)).alloc (.cells #[.int .i64 k, .int .i64 a, .int .i64 b, .int .i64 c, .int .i64 d, .int .i64 e] 37)).cell? ⟨w.heap.size, 8, none⟩ = some (.slice oq nq cq) := by simp [go_sem]
          have x9 : ((w.alloc (.cells #[.slice oa n cap, .int .i64 xm, .int .i64 xa, .int .i64 xak, .int .i64 xan, .int .i64 xvk, .int .i64 xvn, pv, .slice oq nq cq, sv] 58)).alloc (.cells #[.int .i64 k, .int .i64 a, .int .i64 b, .int .i64 c, .int .i64 d, .int .i64 e] 37)).cell? ⟨w.heap.size, 9, none⟩ = some (sv) := by simp [go_sem]
          have y0 : ((w.alloc (.cells #[.slice oa n cap, .int .i64 xm, .int .i64 xa, .int .i64 xak, .int .i64 xan, .int .i64 xvk, .int .i64 xvn, pv, .slice oq nq cq, sv] 58)).alloc (.cells #[.int .i64 k, .int .i64 a, .int .i64 b, .int .i64 c, .int .i64 d, .int .i64 e] 37)).cell? ⟨w.heap.size + 1, 0, none⟩ = some (.int .i64 k) := by simp [go_sem]
          have y1 : ((w.alloc (.cells #[.slice oa n cap, .int .i64 xm, .int .i64 xa, .int .i64 xak, .int .i64 xan, .int .i64 xvk, .int .i64 xvn, pv, .slice oq nq cq, sv] 58)).alloc (.cells #[.int .i64 k, .int .i64 a, .int .i64 b, .int .i64 c, .int .i64 d, .int .i64 e] 37)).cell? ⟨w.heap.size + 1, 1, none⟩ = some (.int .i64 a) := by simp [go_sem]
          have y2 : ((w.alloc (.cells #[.slice oa n cap, .int .i64 xm, .int .i64 xa, .int .i64 xak, .int .i64 xan, .int .i64 xvk, .int .i64 xvn, pv, .slice oq nq cq, sv] 58)).alloc (.cells #[.int .i64 k, .int .i64 a, .int .i64 b, .int .i64 c, .int .i64 d, .int .i64 e] 37)).cell? ⟨w.heap.size + 1, 2, none⟩ = some (.int .i64 b) := by simp [go_sem]
          have y3 : ((w.alloc (.cells #[.slice oa n cap, .int .i64 xm, .int .i64 xa, .int .i64 xak, .int .i64 xan, .int .i64 xvk, .int .i64 xvn, pv, .slice oq nq cq, sv] 58)).alloc (.cells #[.int .i64 k, .int .i64 a, .int .i64 b, .int .i64 c, .int .i64 d, .int .i64 e] 37)).cell? ⟨w.heap.size + 1, 3, none⟩ = some (.int .i64 c) := by simp [go_sem]
          have y4 : ((w.alloc (.cells #[.slice oa n cap, .int .i64 xm, .int .i64 xa, .int .i64 xak, .int .i64 xan, .int .i64 xvk, .int .i64 xvn, pv, .slice oq nq cq, sv] 58)).alloc (.cells #[.int .i64 k, .int .i64 a, .int .i64 b, .int .i64 c, .int .i64 d, .int .i64 e] 37)).cell? ⟨w.heap.size + 1, 4, none⟩ = some (.int .i64 d) := by simp [go_sem]
          have y5 : ((w.alloc (.cells #[.slice oa n cap, .int .i64 xm, .int .i64 xa, .int .i64 xak, .int .i64 xan, .int .i64 xvk, .int .i64 xvn, pv, .slice oq nq cq, sv] 58)).alloc (.cells #[.int .i64 k, .int .i64 a, .int .i64 b, .int .i64 c, .int .i64 d, .int .i64 e] 37)).cell? ⟨w.heap.size + 1, 5, none⟩ = some (.int .i64 e) := by simp [go_sem]
          generalize ((w.alloc (.cells #[.slice oa n cap, .int .i64 xm, .int .i64 xa, .int .i64 xak, .int .i64 xan, .int .i64 xvk, .int .i64 xvn, pv, .slice oq nq cq, sv] 58)).alloc (.cells #[.int .i64 k, .int .i64 a, .int .i64 b, .int .i64 c, .int .i64 d, .int .i64 e] 37)) = W at H0 x0 x1 x2 x3 x4 x5 x6 x7 x8 x9 y0 y1 y2 y3 y4 y5 ⊢
          have x0' := cell_regrown x0
          have x1' := cell_regrown x1
          have x2' := cell_regrown x2
          have x3' := cell_regrown x3
          have x4' := cell_regrown x4
          have x5' := cell_regrown x5
          have x6' := cell_regrown x6
          have x7' := cell_regrown x7
          have x8' := cell_regrown x8
          have x9' := cell_regrown x9
          have y0' := cell_regrown y0
          have y1' := cell_regrown y1
          have y2' := cell_regrown y2
          have y3' := cell_regrown y3
          have y4' := cell_regrown y4
          have y5' := cell_regrown y5
          have cK := fun q os => Calls.regrown_of (d := q) (os := os) (HK (grow (redrawn W q) os))
          have cA := fun q os => Calls.regrown_of (d := q) (os := os) (HA (grow (redrawn W q) os))
          have cV := fun q os => Calls.regrown_of (d := q) (os := os) (HV (grow (redrawn W q) os))
          have cS := fun q os => Calls.regrown_of (d := q) (os := os) (HS (grow (redrawn W q) os) (H0.trans ((below_regrown W q os).mono H0.size)))
          clear x0 x1 x2 x3 x4 x5 x6 x7 x8 x9 y0 y1 y2 y3 y4 y5
          refine wp_region_quiet_below (by kernel_rfl) (by kernel_rfl) ?_
          repeat (go_big_quiet_step (first | (go_at_call 23; exact cK _ _) | (go_at_call_of 142 (Value.int IntKind.i64 b); exact cA _ _) | (go_at_call_of 142 (Value.int IntKind.i64 d); exact cV _ _) | (go_at_call 141; exact cS _ _)))
          all_goals
            refine wpQuiet_nil ?_
            intro _ hw'
            obtain ⟨⟨dq, osq⟩, hw''⟩ := hw'
            have HQ := H0.trans ((below_regrown W dq osq).mono H0.size)
            rw [← hw''] at HQ
            clear hw'' H0 cK cA cV cS x0' x1' x2' x3' x4' x5' x6' x7' x8' x9' y0' y1' y2' y3' y4' y5'
            go_wp2_with fail
            go_ret
            exact ⟨rfl, HQ⟩
        · rw [h4] at HS
          obtain ⟨i, b0, off, s, rfl, hi, rfl, hb0, hcell, hw⟩ := hplace h4
          rw [hw]
          have HI := HI (hkind h1) s
          generalize kindC k (S1.code s.toList) = tK at HI ⊢
          simp only [Bool.true_and]
          have hi0 : (0 : Int) ≤ (i : Int) := by omega
          have hin : (i : Int) < (n : Int) := by omega
          clear hplace hkind hT1 h1 h2 h3 h4 hw
          go_enter Tryz.func146, Tryz.ntmps146
          go_wp2_with fail
          have H0 : Below w.heap.size w ((w.alloc (.cells #[.slice (some ⟨b0, off, none⟩) n cap, .int .i64 xm, .int .i64 xa, .int .i64 xak, .int .i64 xan, .int .i64 xvk, .int .i64 xvn, pv, .slice oq nq cq, sv] 58)).alloc (.cells #[.int .i64 k, .int .i64 (i : Int), .int .i64 b, .int .i64 c, .int .i64 d, .int .i64 e] 37)) := by (repeat (first | (with_reducible refine Below.alloc ?_ ?_ _) | (with_reducible refine Below.setCell ?_ ?_ _) | (with_reducible refine Below.drew ?_) | (with_reducible exact Below.refl _ _) | (with_reducible refine Below.trans ?_ (Below.mono (by assumption) ?_)))) <;> (first | omega | (dsimp only; omega) | (simp; done) | (simp; omega) | (simp at *; omega))
          have x0 : ((w.alloc (.cells #[.slice (some ⟨b0, off, none⟩) n cap, .int .i64 xm, .int .i64 xa, .int .i64 xak, .int .i64 xan, .int .i64 xvk, .int .i64 xvn, pv, .slice oq nq cq, sv] 58)).alloc (.cells #[.int .i64 k, .int .i64 (i : Int), .int .i64 b, .int .i64 c, .int .i64 d, .int .i64 e] 37)).cell? ⟨w.heap.size, 0, none⟩ = some (.slice (some ⟨b0, off, none⟩) n cap) := by simp [go_sem]
          have x1 : ((w.alloc (.cells #[.slice (some ⟨b0, off, none⟩) n cap, .int .i64 xm, .int .i64 xa, .int .i64 xak, .int .i64 xan, .int .i64 xvk, .int .i64 xvn, pv, .slice oq nq cq, sv] 58)).alloc (.cells #[.int .i64 k, .int .i64 (i : Int), .int .i64 b, .int .i64 c, .int .i64 d, .int .i64 e] 37)).cell? ⟨w.heap.size, 1, none⟩ = some (.int .i64 xm) := by simp [go_sem]
          have x2 : ((w.alloc (.cells #[.slice (some ⟨b0, off, none⟩) n cap, .int .i64 xm, .int .i64 xa, .int .i64 xak, .int .i64 xan, .int .i64 xvk, .int .i64 xvn, pv, .slice oq nq cq, sv] 58)).alloc (.cells #[.int .i64 k, .int .i64 (i : Int), .int .i64 b, .int .i64 c, .int .i64 d, .int .i64 e] 37)).cell? ⟨w.heap.size, 2, none⟩ = some (.int .i64 xa) := by simp [go_sem]
          have x3 : ((w.alloc (.cells #[.slice (some ⟨b0, off, none⟩) n cap, .int .i64 xm, .int .i64 xa, .int .i64 xak, .int .i64 xan, .int .i64 xvk, .int .i64 xvn, pv, .slice oq nq cq, sv] 58)).alloc (.cells #[.int .i64 k, .int .i64 (i : Int), .int .i64 b, .int .i64 c, .int .i64 d, .int .i64 e] 37)).cell? ⟨w.heap.size, 3, none⟩ = some (.int .i64 xak) := by simp [go_sem]
          have x4 : ((w.alloc (.cells #[.slice (some ⟨b0, off, none⟩) n cap, .int .i64 xm, .int .i64 xa, .int .i64 xak, .int .i64 xan, .int .i64 xvk, .int .i64 xvn, pv, .slice oq nq cq, sv] 58)).alloc (.cells #[.int .i64 k, .int .i64 (i : Int), .int .i64 b, .int .i64 c, .int .i64 d, .int .i64 e] 37)).cell? ⟨w.heap.size, 4, none⟩ = some (.int .i64 xan) := by simp [go_sem]
          have x5 : ((w.alloc (.cells #[.slice (some ⟨b0, off, none⟩) n cap, .int .i64 xm, .int .i64 xa, .int .i64 xak, .int .i64 xan, .int .i64 xvk, .int .i64 xvn, pv, .slice oq nq cq, sv] 58)).alloc (.cells #[.int .i64 k, .int .i64 (i : Int), .int .i64 b, .int .i64 c, .int .i64 d, .int .i64 e] 37)).cell? ⟨w.heap.size, 5, none⟩ = some (.int .i64 xvk) := by simp [go_sem]
          have x6 : ((w.alloc (.cells #[.slice (some ⟨b0, off, none⟩) n cap, .int .i64 xm, .int .i64 xa, .int .i64 xak, .int .i64 xan, .int .i64 xvk, .int .i64 xvn, pv, .slice oq nq cq, sv] 58)).alloc (.cells #[.int .i64 k, .int .i64 (i : Int), .int .i64 b, .int .i64 c, .int .i64 d, .int .i64 e] 37)).cell? ⟨w.heap.size, 6, none⟩ = some (.int .i64 xvn) := by simp [go_sem]
          have x7 : ((w.alloc (.cells #[.slice (some ⟨b0, off, none⟩) n cap, .int .i64 xm, .int .i64 xa, .int .i64 xak, .int .i64 xan, .int .i64 xvk, .int .i64 xvn, pv, .slice oq nq cq, sv] 58)).alloc (.cells #[.int .i64 k, .int .i64 (i : Int), .int .i64 b, .int .i64 c, .int .i64 d, .int .i64 e] 37)).cell? ⟨w.heap.size, 7, none⟩ = some (pv) := by simp [go_sem]
          have x8 : ((w.alloc (.cells #[.slice (some ⟨b0, off, none⟩) n cap, .int .i64 xm, .int .i64 xa, .int .i64 xak, .int .i64 xan, .int .i64 xvk, .int .i64 xvn, pv, .slice oq nq cq, sv] 58)).alloc (.cells #[.int .i64 k, .int .i64 (i : Int), .int .i64 b, .int .i64 c, .int .i64 d, .int .i64 e] 37)).cell? ⟨w.heap.size, 8, none⟩ = some (.slice oq nq cq) := by simp [go_sem]
          have x9 : ((w.alloc (.cells #[.slice (some ⟨b0, off, none⟩) n cap, .int .i64 xm, .int .i64 xa, .int .i64 xak, .int .i64 xan, .int .i64 xvk, .int .i64 xvn, pv, .slice oq nq cq, sv] 58)).alloc (.cells #[.int .i64 k, .int .i64 (i : Int), .int .i64 b, .int .i64 c, .int .i64 d, .int .i64 e] 37)).cell? ⟨w.heap.size, 9, none⟩ = some (sv) := by simp [go_sem]
          have y0 : ((w.alloc (.cells #[.slice (some ⟨b0, off, none⟩) n cap, .int .i64 xm, .int .i64 xa, .int .i64 xak, .int .i64 xan, .int .i64 xvk, .int .i64 xvn, pv, .slice oq nq cq, sv] 58)).alloc (.cells #[.int .i64 k, .int .i64 (i : Int), .int .i64 b, .int .i64 c, .int .i64 d, .int .i64 e] 37)).cell? ⟨w.heap.size + 1, 0, none⟩ = some (.int .i64 k) := by simp [go_sem]
          have y1 : ((w.alloc (.cells #[.slice (some ⟨b0, off, none⟩) n cap, .int .i64 xm, .int .i64 xa, .int .i64 xak, .int .i64 xan, .int .i64 xvk, .int .i64 xvn, pv, .slice oq nq cq, sv] 58)).alloc (.cells #[.int .i64 k, .int .i64 (i : Int), .int .i64 b, .int .i64 c, .int .i64 d, .int .i64 e] 37)).cell? ⟨w.heap.size + 1, 1, none⟩ = some (.int .i64 (i : Int)) := by simp [go_sem]
          have y2 : ((w.alloc (.cells #[.slice (some ⟨b0, off, none⟩) n cap, .int .i64 xm, .int .i64 xa, .int .i64 xak, .int .i64 xan, .int .i64 xvk, .int .i64 xvn, pv, .slice oq nq cq, sv] 58)).alloc (.cells #[.int .i64 k, .int .i64 (i : Int), .int .i64 b, .int .i64 c, .int .i64 d, .int .i64 e] 37)).cell? ⟨w.heap.size + 1, 2, none⟩ = some (.int .i64 b) := by simp [go_sem]
          have y3 : ((w.alloc (.cells #[.slice (some ⟨b0, off, none⟩) n cap, .int .i64 xm, .int .i64 xa, .int .i64 xak, .int .i64 xan, .int .i64 xvk, .int .i64 xvn, pv, .slice oq nq cq, sv] 58)).alloc (.cells #[.int .i64 k, .int .i64 (i : Int), .int .i64 b, .int .i64 c, .int .i64 d, .int .i64 e] 37)).cell? ⟨w.heap.size + 1, 3, none⟩ = some (.int .i64 c) := by simp [go_sem]
          have y4 : ((w.alloc (.cells #[.slice (some ⟨b0, off, none⟩) n cap, .int .i64 xm, .int .i64 xa, .int .i64 xak, .int .i64 xan, .int .i64 xvk, .int .i64 xvn, pv, .slice oq nq cq, sv] 58)).alloc (.cells #[.int .i64 k, .int .i64 (i : Int), .int .i64 b, .int .i64 c, .int .i64 d, .int .i64 e] 37)).cell? ⟨w.heap.size + 1, 4, none⟩ = some (.int .i64 d) := by simp [go_sem]
          have y5 : ((w.alloc (.cells #[.slice (some ⟨b0, off, none⟩) n cap, .int .i64 xm, .int .i64 xa, .int .i64 xak, .int .i64 xan, .int .i64 xvk, .int .i64 xvn, pv, .slice oq nq cq, sv] 58)).alloc (.cells #[.int .i64 k, .int .i64 (i : Int), .int .i64 b, .int .i64 c, .int .i64 d, .int .i64 e] 37)).cell? ⟨w.heap.size + 1, 5, none⟩ = some (.int .i64 e) := by simp [go_sem]
          have q0 := (H0.cell (p := ⟨b0, off + i, none⟩) hb0).trans hcell
          generalize ((w.alloc (.cells #[.slice (some ⟨b0, off, none⟩) n cap, .int .i64 xm, .int .i64 xa, .int .i64 xak, .int .i64 xan, .int .i64 xvk, .int .i64 xvn, pv, .slice oq nq cq, sv] 58)).alloc (.cells #[.int .i64 k, .int .i64 (i : Int), .int .i64 b, .int .i64 c, .int .i64 d, .int .i64 e] 37)) = W at H0 x0 x1 x2 x3 x4 x5 x6 x7 x8 x9 y0 y1 y2 y3 y4 y5 q0 ⊢
          have x0' := cell_regrown x0
          have x1' := cell_regrown x1
          have x2' := cell_regrown x2
          have x3' := cell_regrown x3
          have x4' := cell_regrown x4
          have x5' := cell_regrown x5
          have x6' := cell_regrown x6
          have x7' := cell_regrown x7
          have x8' := cell_regrown x8
          have x9' := cell_regrown x9
          have y0' := cell_regrown y0
          have y1' := cell_regrown y1
          have y2' := cell_regrown y2
          have y3' := cell_regrown y3
          have y4' := cell_regrown y4
          have y5' := cell_regrown y5
          have q0' := cell_regrown q0
          have cK := fun q os => Calls.regrown_of (d := q) (os := os) (HK (grow (redrawn W q) os))
          have cA := fun q os => Calls.regrown_of (d := q) (os := os) (HA (grow (redrawn W q) os))
          have cV := fun q os => Calls.regrown_of (d := q) (os := os) (HV (grow (redrawn W q) os))
          have cS := fun q os => Calls.regrown_of (d := q) (os := os) (HS (grow (redrawn W q) os) (H0.trans ((below_regrown W q os).mono H0.size)))
          have cI := fun q os => Calls.regrown_of (d := q) (os := os) (HI (grow (redrawn W q) os))
          clear x0 x1 x2 x3 x4 x5 x6 x7 x8 x9 y0 y1 y2 y3 y4 y5 q0
          refine wp_region_quiet_below (by kernel_rfl) (by kernel_rfl) ?_
          repeat (go_big_quiet_step (first | (go_at_call 23; exact cK _ _) | (go_at_call_of 142 (Value.int IntKind.i64 b); exact cA _ _) | (go_at_call_of 142 (Value.int IntKind.i64 d); exact cV _ _) | (go_at_call 141; exact cS _ _) | (go_at_call 196; exact cI _ _)))
          all_goals
            refine wpQuiet_nil ?_
            intro _ hw'
            obtain ⟨⟨dq, osq⟩, hw''⟩ := hw'
            have HQ := H0.trans ((below_regrown W dq osq).mono H0.size)
            rw [← hw''] at HQ
            clear hw'' H0 cK cA cV cS cI x0' x1' x2' x3' x4' x5' x6' x7' x8' x9' y0' y1' y2' y3' y4' y5' q0'
            go_wp2_with fail
            go_ret
            exact ⟨rfl, HQ⟩

theorem allG_no {α : Type} {ps : List α} {z : α} {f : α → Bool} {k : Nat} (hk : k < ps.length) (h : f (ps.getD k z) = false) : ps.all f = false := by
  rw [List.all_eq_false]
  exact ⟨ps[k], List.getElem_mem hk, by simpa [List.getD, hk] using h⟩
theorem allG_yes {α : Type} {ps : List α} {z : α} {f : α → Bool} (h : ∀ j, j < ps.length → f (ps.getD j z) = true) : ps.all f = true := by
  rw [List.all_eq_true]
  intro x hx
  obtain ⟨j, hj, rfl⟩ := List.mem_iff_getElem.1 hx
  have := h j hj
  simpa [List.getD, hj] using this

set_option maxRecDepth 100000 in
set_option maxHeartbeats 2000000 in
theorem isOfP_any (x : Pil) (cv pv sv : Value) (oq : Option Addr) (nq cq : Nat) (v : Value) (ps : List Pl) (w : World) (hR : Row w cv x.c) (hs : x.c.length ≤ 1048576) (hP : RowP w v ps) :
    Calls Tryz.prog 145 #[v, .int .i64 60, .func (.func 146) #[pilV x cv pv (.slice oq nq cq) sv] #[]] w fun e w' => e = .returned (.bool (fitPs x.c nq ps)) ∧ Below w.heap.size w w' := by
  have HT := Lib.hid (fun p w1 (hb : Below w.heap.size w w1) => hasPlate_any x p cv pv sv oq nq cq w1 (hR.below hb) hs)
  obtain ⟨oa, cap, rfl, h1, h2, h3⟩ := hP
  obtain ⟨n, hn⟩ : ∃ n, ps.length = n := ⟨_, rfl⟩
  have HN := Lib.hid hn
  rw [hn] at h1 h3 ⊢
  unfold maxLen at h2
  have H3 := Lib.hid h3
  generalize pilV x cv pv (.slice oq nq cq) sv = pil at HT ⊢
  clear hn h3 hR hs
  by_cases h60 : 60 < n
  · have h60i : (60 : Int) < (n : Int) := by omega
    have e : fitPs x.c nq ps = false := by unfold fitPs; rw [HN.out]; simp; intro h; omega
    rw [e]
    go_enter Tryz.func145, Tryz.ntmps145
    go_wp2_with fail
    go_ret
    exact ⟨rfl, Below.refl _ _⟩
  have h60i : ¬ (60 : Int) < (n : Int) := by omega
  have HE := Lib.hid (show fitPs x.c nq ps = ps.all (fitP x.c nq) by unfold fitPs; rw [HN.out, show decide (n ≤ 60) = true by simp; omega, Bool.true_and])
  go_enter Tryz.func145, Tryz.ntmps145
  go_wp2_with fail
  go_loopw [15] (fun i wr => ∃ k : Nat, k ≤ n ∧ i = .int .i64 (k : Int) ∧ Hid (∀ j, j < k → fitP x.c nq (ps.getD j p0) = true) ∧ Below w.heap.size w wr) (fun i _ => n - (intOf i).toNat)
  case atStart => exact ⟨0, Nat.zero_le _, rfl, Lib.hid (by intro j hj; omega), Below.refl _ _⟩
  case round =>
    obtain ⟨k, hk, rfl, hall, hB⟩ := hrel
    have HB := Lib.hid hB
    clear hB
    by_cases hlt : k < n
    · obtain ⟨b, off, rfl, hb, hc⟩ := H3.out k hlt
      have hc1 := hc.below HB.out hb
      clear hc
      obtain ⟨p, hp⟩ : ∃ p, ps.getD k p0 = p := ⟨_, rfl⟩
      have HP := Lib.hid hp
      rw [hp] at hc1
      clear hp
      have HT := Lib.hid (HT.out p)
      obtain ⟨t, ht⟩ : ∃ t, fitP x.c nq p = t := ⟨_, rfl⟩
      rw [ht] at HT
      have HK := Lib.hid ht
      clear ht
      obtain ⟨pk, pa, pb, pc, pd, pe⟩ := p
      obtain ⟨x0, x1, x2, x3, x4, x5⟩ := hc1
      dsimp only at x0 x1 x2 x3 x4 x5
      unfold plV at HT
      have hki : (k : Int) < (n : Int) := by omega
      have hbr := Nat.lt_of_lt_of_le hb HB.out.size
      go_wp2_with fail
      refine (HT.out _ (HB.out.alloc HB.out.size _)).mono ?_
      rintro e w1 ⟨rfl, hb1⟩
      have HB1 := Lib.hid ((HB.out.alloc HB.out.size _).trans (hb1.mono (HB.out.alloc HB.out.size _).size))
      clear hb1 x0 x1 x2 x3 x4 x5
      cases t
      · go_wp2_with fail
        go_ret
        refine ⟨?_, HB1.out⟩
        rw [HE.out, allG_no (z := p0) (by rw [HN.out]; exact hlt) (by rw [HP.out]; exact HK.out)]
        rfl
      · go_wp2_with fail
        go_roundw
        case rel =>
          refine ⟨k + 1, by omega, by go_num, Lib.hid (fun j hj => ?_), HB1.out⟩
          by_cases e : j = k
          · subst e; rw [HP.out]; exact HK.out
          · exact hall.out j (by omega)
        case measure => simp [intOf]; omega
    · have hki : ¬ (k : Int) < (n : Int) := by omega
      have hkn : k = n := by omega
      have e := allG_yes (z := p0) (f := fitP x.c nq) (fun j hj => hall.out j (by rw [HN.out] at hj; omega))
      have HA := Lib.hid e
      clear e hkn
      go_wp2_with fail
      go_ret
      exact ⟨by rw [HE.out, HA.out]; rfl, HB.out⟩

theorem hasPlates_any (x : Pil) (cv pv sv : Value) (oq : Option Addr) (nq cq : Nat) (v : Value) (ps : List Pl) (w : World) (hR : Row w cv x.c) (hs : x.c.length ≤ 1048576) (hP : RowP w v ps) :
    Calls Tryz.prog 93 #[pilV x cv pv (.slice oq nq cq) sv, v] w fun e w' => e = .returned (.bool (fitPs x.c nq ps)) ∧ Below w.heap.size w w' := by
  have H := Lib.hid (fun w1 (hb : Below w.heap.size w w1) => isOfP_any x cv pv sv oq nq cq v ps w1 (hR.below hb) hs (hP.below hb))
  obtain ⟨oa, cap, rfl, -, -, -⟩ := hP
  generalize ps.length = n at H ⊢
  clear hR hs
  unfold pilV at H ⊢
  go_enter Tryz.func93, Tryz.ntmps93
  go_wp2_with fail
  refine (H.out _ (by (repeat (first | (with_reducible refine Below.alloc ?_ ?_ _) | (with_reducible refine Below.setCell ?_ ?_ _) | (with_reducible refine Below.drew ?_) | (with_reducible exact Below.refl _ _) | (with_reducible refine Below.trans ?_ (Below.mono (by assumption) ?_)))) <;> (first | omega | (dsimp only; omega) | (simp; done) | (simp; omega) | (simp at *; omega)))).mono ?_
  rintro e w1 ⟨rfl, hb1⟩
  have HB1 : Hid (Below w.heap.size w w1) := Lib.hid (by (repeat (first | (with_reducible refine Below.alloc ?_ ?_ _) | (with_reducible refine Below.setCell ?_ ?_ _) | (with_reducible refine Below.drew ?_) | (with_reducible exact Below.refl _ _) | (with_reducible refine Below.trans ?_ (Below.mono (by assumption) ?_)))) <;> (first | omega | (dsimp only; omega) | (simp; done) | (simp; omega) | (simp at *; omega)))
  clear hb1
  go_wp2_with fail
  go_ret
  exact ⟨rfl, HB1.out⟩

theorem hasPiece_any (x : Pil) (cv pv sv : Value) (oq : Option Addr) (nq cq : Nat) (v : Value) (ps : List Pl) (w : World) (hR : Row w cv x.c) (hs : x.c.length ≤ 1048576) (hP : RowP w v ps) :
    Calls Tryz.prog 148 #[pilV x cv pv (.slice oq nq cq) sv, .agg #[v]] w fun e w' => e = .returned (.bool (fitPs x.c nq ps)) ∧ Below w.heap.size w w' := by
  have H := Lib.hid (fun w1 (hb : Below w.heap.size w w1) => hasPlates_any x cv pv sv oq nq cq v ps w1 (hR.below hb) hs (hP.below hb))
  obtain ⟨oa, cap, rfl, -, -, -⟩ := hP
  generalize ps.length = n at H ⊢
  clear hR hs
  unfold pilV at H ⊢
  go_enter Tryz.func148, Tryz.ntmps148
  go_wp2_with fail
  refine (H.out _ (by (repeat (first | (with_reducible refine Below.alloc ?_ ?_ _) | (with_reducible refine Below.setCell ?_ ?_ _) | (with_reducible refine Below.drew ?_) | (with_reducible exact Below.refl _ _) | (with_reducible refine Below.trans ?_ (Below.mono (by assumption) ?_)))) <;> (first | omega | (dsimp only; omega) | (simp; done) | (simp; omega) | (simp at *; omega)))).mono ?_
  rintro e w1 ⟨rfl, hb1⟩
  have HB1 : Hid (Below w.heap.size w w1) := Lib.hid (by (repeat (first | (with_reducible refine Below.alloc ?_ ?_ _) | (with_reducible refine Below.setCell ?_ ?_ _) | (with_reducible refine Below.drew ?_) | (with_reducible exact Below.refl _ _) | (with_reducible refine Below.trans ?_ (Below.mono (by assumption) ?_)))) <;> (first | omega | (dsimp only; omega) | (simp; done) | (simp; omega) | (simp at *; omega)))
  clear hb1
  go_wp2_with fail
  go_ret
  exact ⟨rfl, HB1.out⟩

set_option maxRecDepth 100000 in
set_option maxHeartbeats 2000000 in
theorem isOfQ_any (x : Pil) (cv pv sv : Value) (oq : Option Addr) (nq cq : Nat) (v : Value) (qs : List (List Pl)) (w : World) (hR : Row w cv x.c) (hs : x.c.length ≤ 1048576) (hP : RowQ w v qs) :
    Calls Tryz.prog 147 #[v, .int .i64 20, .func (.func 148) #[pilV x cv pv (.slice oq nq cq) sv] #[]] w fun e w' => e = .returned (.bool (fitQs x.c nq qs)) ∧ Below w.heap.size w w' := by
  have HT := Lib.hid (fun u ps w1 (hb : Below w.heap.size w w1) (hu : RowP w1 u ps) => hasPiece_any x cv pv sv oq nq cq u ps w1 (hR.below hb) hs hu)
  obtain ⟨oa, cap, rfl, h1, h2, h3⟩ := hP
  obtain ⟨n, hn⟩ : ∃ n, qs.length = n := ⟨_, rfl⟩
  have HN := Lib.hid hn
  rw [hn] at h1 h3 ⊢
  unfold maxLen at h2
  have H3 := Lib.hid h3
  generalize pilV x cv pv (.slice oq nq cq) sv = pil at HT ⊢
  clear hn h3 hR hs
  by_cases h20 : 20 < n
  · have h20i : (20 : Int) < (n : Int) := by omega
    have e : fitQs x.c nq qs = false := by unfold fitQs; rw [HN.out]; simp; intro h; omega
    rw [e]
    go_enter Tryz.func147, Tryz.ntmps147
    go_wp2_with fail
    go_ret
    exact ⟨rfl, Below.refl _ _⟩
  have h20i : ¬ (20 : Int) < (n : Int) := by omega
  have HE := Lib.hid (show fitQs x.c nq qs = qs.all (fitPs x.c nq) by unfold fitQs; rw [HN.out, show decide (n ≤ 20) = true by simp; omega, Bool.true_and])
  go_enter Tryz.func147, Tryz.ntmps147
  go_wp2_with fail
  go_loopw [15] (fun i wr => ∃ k : Nat, k ≤ n ∧ i = .int .i64 (k : Int) ∧ Hid (∀ j, j < k → fitPs x.c nq (qs.getD j []) = true) ∧ Below w.heap.size w wr) (fun i _ => n - (intOf i).toNat)
  case atStart => exact ⟨0, Nat.zero_le _, rfl, Lib.hid (by intro j hj; omega), Below.refl _ _⟩
  case round =>
    obtain ⟨k, hk, rfl, hall, hB⟩ := hrel
    have HB := Lib.hid hB
    clear hB
    by_cases hlt : k < n
    · obtain ⟨b, off, u, rfl, hb, hc, hu⟩ := H3.out k hlt
      have hc1 := (HB.out.cell (p := ⟨b, off + k, none⟩) hb).trans hc
      have HT := Lib.hid (fun w1 (hb1 : Below wr.heap.size wr w1) => HT.out u (qs.getD k []) w1 (HB.out.trans (hb1.mono HB.out.size)) ((hu.below HB.out).below hb1))
      obtain ⟨oa, cap, rfl, -, -, -⟩ := hu
      generalize (qs.getD k []).length = m at hc1 HT
      obtain ⟨t, ht⟩ : ∃ t, fitPs x.c nq (qs.getD k []) = t := ⟨_, rfl⟩
      rw [ht] at HT
      have HK := Lib.hid ht
      clear ht hc
      have hki : (k : Int) < (n : Int) := by omega
      have hbr := Nat.lt_of_lt_of_le hb HB.out.size
      go_wp2_with fail
      refine (HT.out _ ((Below.refl _ _).alloc (Nat.le_refl _) _)).mono ?_
      rintro e w1 ⟨rfl, hb1⟩
      have HB1 := Lib.hid ((HB.out.alloc HB.out.size _).trans (hb1.mono (HB.out.alloc HB.out.size _).size))
      clear hb1 hc1
      cases t
      · go_wp2_with fail
        go_ret
        refine ⟨?_, HB1.out⟩
        rw [HE.out, allG_no (z := []) (by rw [HN.out]; exact hlt) HK.out]
        rfl
      · go_wp2_with fail
        go_roundw
        case rel =>
          refine ⟨k + 1, by omega, by go_num, Lib.hid (fun j hj => ?_), HB1.out⟩
          by_cases e : j = k
          · subst e; exact HK.out
          · exact hall.out j (by omega)
        case measure => simp [intOf]; omega
    · have hki : ¬ (k : Int) < (n : Int) := by omega
      have hkn : k = n := by omega
      have e := allG_yes (z := []) (f := fitPs x.c nq) (fun j hj => hall.out j (by rw [HN.out] at hj; omega))
      have HA := Lib.hid e
      clear e hkn
      go_wp2_with fail
      go_ret
      exact ⟨by rw [HE.out, HA.out]; rfl, HB.out⟩

theorem hasPieces_any (x : Pil) (cv pv qv sv : Value) (w : World) (hR : RowsPi w x cv pv qv sv) (hs : x.c.length ≤ 1048576) :
    Calls Tryz.prog 94 #[pilV x cv pv qv sv] w fun e w' => e = .returned (.bool (fitQs x.c x.qs.length x.qs)) ∧ Below w.heap.size w w' := by
  have hq := hR.q
  obtain ⟨oq, cq, rfl, -, -, -⟩ := hq
  have H := Lib.hid (fun w1 (hb : Below w.heap.size w w1) => isOfQ_any x cv pv sv oq x.qs.length cq _ x.qs w1 (hR.c.below hb) hs (hR.q.below hb))
  clear hR hs
  generalize fitQs x.c x.qs.length x.qs = t at H ⊢
  unfold pilV at H ⊢
  go_enter Tryz.func94, Tryz.ntmps94
  go_wp2_with fail
  refine (H.out _ (by (repeat (first | (with_reducible refine Below.alloc ?_ ?_ _) | (with_reducible refine Below.setCell ?_ ?_ _) | (with_reducible refine Below.drew ?_) | (with_reducible exact Below.refl _ _) | (with_reducible refine Below.trans ?_ (Below.mono (by assumption) ?_)))) <;> (first | omega | (dsimp only; omega) | (simp; done) | (simp; omega) | (simp at *; omega)))).mono ?_
  rintro e w1 ⟨rfl, hb1⟩
  have HB1 : Hid (Below w.heap.size w w1) := Lib.hid (by (repeat (first | (with_reducible refine Below.alloc ?_ ?_ _) | (with_reducible refine Below.setCell ?_ ?_ _) | (with_reducible refine Below.drew ?_) | (with_reducible exact Below.refl _ _) | (with_reducible refine Below.trans ?_ (Below.mono (by assumption) ?_)))) <;> (first | omega | (dsimp only; omega) | (simp; done) | (simp; omega) | (simp at *; omega)))
  clear hb1
  go_wp2_with fail
  go_ret
  exact ⟨rfl, HB1.out⟩

set_option maxRecDepth 100000 in
set_option maxHeartbeats 2000000 in
theorem isOfS_any (v : Value) (ss : List ByteArray) (w : World) (hR : Row w v ss) (hS : Small ss) (hV : Vars w) :
    Calls Tryz.prog 149 #[v, .int .i64 40, .func (.func 150) #[] #[]] w fun e w' => e = .returned (.bool (fitS ss)) ∧ Below w.heap.size w w' := by
  have HT := Lib.hid (fun b (hb0 : b.size ≤ 1048576) w1 (hb : Below w.heap.size w w1) => isShown_any b hb0 w1 (hV.later hb))
  obtain ⟨oa, cap, rfl, h1, h2, h3⟩ := hR
  obtain ⟨n, hn⟩ : ∃ n, ss.length = n := ⟨_, rfl⟩
  have HN := Lib.hid hn
  rw [hn] at h1 h3 ⊢
  unfold maxLen at h2
  have H3 := Lib.hid h3
  have HS := Lib.hid hS
  clear hn h3 hV hS
  by_cases h40 : 40 < n
  · have h40i : (40 : Int) < (n : Int) := by omega
    have e : fitS ss = false := by unfold fitS; rw [HN.out]; simp; intro h; omega
    rw [e]
    go_enter Tryz.func149, Tryz.ntmps149
    go_wp2_with fail
    go_ret
    exact ⟨rfl, Below.refl _ _⟩
  have h40i : ¬ (40 : Int) < (n : Int) := by omega
  have HE := Lib.hid (show fitS ss = ss.all (fun s => rvOk s.toList) by unfold fitS; rw [HN.out, show decide (n ≤ 40) = true by simp; omega, Bool.true_and])
  go_enter Tryz.func149, Tryz.ntmps149
  go_wp2_with fail
  go_loopw [15] (fun i wr => ∃ k : Nat, k ≤ n ∧ i = .int .i64 (k : Int) ∧ Hid (∀ j, j < k → rvOk (ss.getD j ByteArray.empty).toList = true) ∧ Below w.heap.size w wr) (fun i _ => n - (intOf i).toNat)
  case atStart => exact ⟨0, Nat.zero_le _, rfl, Lib.hid (by intro j hj; omega), Below.refl _ _⟩
  case round =>
    obtain ⟨k, hk, rfl, hall, hB⟩ := hrel
    have HB := Lib.hid hB
    clear hB
    by_cases hlt : k < n
    · obtain ⟨b, off, rfl, hb, hc⟩ := H3.out k hlt
      have hc1 := (HB.out.cell (p := ⟨b, off + k, none⟩) hb).trans hc
      have HT := Lib.hid (fun w1 (hb1 : Below w.heap.size w w1) => HT.out (ss.getD k ByteArray.empty) (HS.out.2 k (by rw [HN.out]; exact hlt)) w1 hb1)
      obtain ⟨t, ht⟩ : ∃ t, rvOk (ss.getD k ByteArray.empty).toList = t := ⟨_, rfl⟩
      rw [ht] at HT
      have HK := Lib.hid ht
      generalize ss.getD k ByteArray.empty = s at hc1 HT
      clear ht hc
      have hki : (k : Int) < (n : Int) := by omega
      have hbr := Nat.lt_of_lt_of_le hb HB.out.size
      go_wp2_with fail
      refine (HT.out _ (by first | exact HB.out | exact HB.out.alloc HB.out.size _)).mono ?_
      rintro e w1 ⟨rfl, hb1⟩
      have HB1 := Lib.hid ((HB.out).trans (hb1.mono HB.out.size))
      clear hb1 hc1
      cases t
      · go_wp2_with fail
        go_ret
        refine ⟨?_, HB1.out⟩
        rw [HE.out, allG_no (z := ByteArray.empty) (by rw [HN.out]; exact hlt) HK.out]
        rfl
      · go_wp2_with fail
        go_roundw
        case rel =>
          refine ⟨k + 1, by omega, by go_num, Lib.hid (fun j hj => ?_), HB1.out⟩
          by_cases e : j = k
          · subst e; exact HK.out
          · exact hall.out j (by omega)
        case measure => simp [intOf]; omega
    · have hki : ¬ (k : Int) < (n : Int) := by omega
      have hkn : k = n := by omega
      have e := allG_yes (z := ByteArray.empty) (f := fun s => rvOk s.toList) (fun j hj => hall.out j (by rw [HN.out] at hj; omega))
      have HA := Lib.hid e
      clear e hkn
      go_wp2_with fail
      go_ret
      exact ⟨by rw [HE.out, HA.out]; rfl, HB.out⟩

theorem hasSaid_any (x : Pil) (cv pv qv sv : Value) (w : World) (hR : RowsPi w x cv pv qv sv) (hS : Small x.sd) (hV : Vars w) :
    Calls Tryz.prog 95 #[pilV x cv pv qv sv] w fun e w' => e = .returned (.bool (fitS x.sd)) ∧ Below w.heap.size w w' := by
  have hs := hR.s
  have H := Lib.hid (fun w1 (hb : Below w.heap.size w w1) => isOfS_any sv x.sd w1 (hR.s.below hb) hS (hV.later hb))
  obtain ⟨os, cs, rfl, -, -, -⟩ := hs
  clear hR hS hV
  generalize fitS x.sd = t at H ⊢
  unfold pilV
  go_enter Tryz.func95, Tryz.ntmps95
  go_wp2_with fail
  refine (H.out _ (by (repeat (first | (with_reducible refine Below.alloc ?_ ?_ _) | (with_reducible refine Below.setCell ?_ ?_ _) | (with_reducible refine Below.drew ?_) | (with_reducible exact Below.refl _ _) | (with_reducible refine Below.trans ?_ (Below.mono (by assumption) ?_)))) <;> (first | omega | (dsimp only; omega) | (simp; done) | (simp; omega) | (simp at *; omega)))).mono ?_
  rintro e w1 ⟨rfl, hb1⟩
  have HB1 : Hid (Below w.heap.size w w1) := Lib.hid (by (repeat (first | (with_reducible refine Below.alloc ?_ ?_ _) | (with_reducible refine Below.setCell ?_ ?_ _) | (with_reducible refine Below.drew ?_) | (with_reducible exact Below.refl _ _) | (with_reducible refine Below.trans ?_ (Below.mono (by assumption) ?_)))) <;> (first | omega | (dsimp only; omega) | (simp; done) | (simp; omega) | (simp at *; omega)))
  clear hb1
  go_wp2_with fail
  go_ret
  exact ⟨rfl, HB1.out⟩

end L2
end Go.Proofs.YtmbonldiaimcfaaGreatDoor
