/-
  What an iterator keeps for itself: rows of numbers made shorter and written into; the stack without what is used up.
-/
import Derived.Test.YtgcjmhecnbhhlaaGreatDoorS5
import Derived.Test.YtgcjmhecnbhhlaaGreatDoorGY
namespace Go.Proofs.YtgcjmhecnbhhlaaGreatDoor
open Go.RowKit
namespace L2
open S1 L1

theorem OwI.shrink {w : World} {B g n cap : Nat} {xs : List Nat} (h : OwI w B (.slice (some ⟨g, 0, none⟩) n cap) xs) (j : Nat) (hj : j ≤ xs.length) : OwI w B (.slice (some ⟨g, 0, none⟩) j cap) (xs.take j) := by
  obtain ⟨⟨h1, h2⟩, hn⟩ := h
  rcases h2 with ⟨hv, _⟩ | ⟨g', cap', cur, hv, hb, hg, hc1, hc2, hs, ht⟩
  · cases hv
  · cases hv
    have hl : (xs.take j).length = j := by simp; omega
    refine ⟨⟨by simp, Or.inr ⟨g, cap, cur, by rw [hl], hb, hg, by rw [hl]; omega, hc2, hs, ?_⟩⟩, by simp⟩
    rw [hl, List.map_take, ← ht, List.take_take]
    congr 1
    omega
theorem OwI.store {w : World} {B g n cap a : Nat} {ys : List Nat} (h : OwI w B (.slice (some ⟨g, 0, none⟩) n cap) (ys ++ [a])) (b : Nat) : OwI (w.setCell ⟨g, ys.length, none⟩ (numV b)) B (.slice (some ⟨g, 0, none⟩) n cap) (ys ++ [b]) := by
  obtain ⟨⟨h1, h2⟩, hn⟩ := h
  rcases h2 with ⟨hv, _⟩ | ⟨g', cap', cur, hv, hb, hg, hc1, hc2, hs, ht⟩
  · cases hv
  · cases hv
    refine ⟨⟨by simp, Or.inr ⟨g, cap, _, by simp, hb, D.set_block hg, by simpa using hc1, hc2, by simpa using hs, ?_⟩⟩, by simp⟩
    have e : (ys ++ [b]).length * 1 = (ys ++ [a]).length * 1 := by simp
    rw [e, Array.toList_setIfInBounds, List.take_set, ht]
    simp
theorem OwI.len {w : World} {B n cap : Nat} {oa : Option Addr} {xs : List Nat} (h : OwI w B (.slice oa n cap) xs) : n = xs.length ∧ n ≤ cap ∧ cap ≤ maxLen := by
  obtain ⟨g, c, hv, h1, h2, _⟩ := h.form
  cases hv
  exact ⟨rfl, h1, h2⟩

theorem pop0_cut : ∀ (m : List Nat), ∃ z, m = z ++ pop0 m
  | [] => ⟨[], rfl⟩
  | 0 :: r => by
    obtain ⟨z, hz⟩ := pop0_cut r
    exact ⟨0 :: z, by rw [pop0, List.cons_append, ← hz]⟩
  | (k + 1) :: r => ⟨[], rfl⟩
theorem OwI.popped {w : World} {B g cap k : Nat} {m r : List Nat} (h : OwI w B (.slice (some ⟨g, 0, none⟩) m.length cap) m.reverse) (hp : pop0 m = (k + 1) :: r) :
    OwI w B (.slice (some ⟨g, 0, none⟩) (r.length + 1) cap) (r.reverse ++ [k + 1]) := by
  obtain ⟨z, hz⟩ := pop0_cut m
  rw [hp] at hz
  have := h.shrink (r.length + 1) (by rw [hz]; simp)
  have e : m.reverse.take (r.length + 1) = r.reverse ++ [k + 1] := by
    rw [hz, List.reverse_append, List.reverse_cons, List.take_append_of_le_length (by simp)]
    rw [List.take_of_length_le (by simp)]
  rwa [e] at this

def lenOf : Value → Nat
  | .slice _ n _ => n
  | _ => 0

set_option maxHeartbeats 1000000 in
theorem withoutFull_any (B g cap : Nat) (m : List Nat) (w : World) (hO : OwI w B (.slice (some ⟨g, 0, none⟩) m.length cap) m.reverse) (hm : 0 < m.sum) (hl : m.length ≤ 1000) :
    Calls Tryz.prog 46 #[.slice (some ⟨g, 0, none⟩) m.length cap] w fun e w' => e = .returned (.slice (some ⟨g, 0, none⟩) (pop0 m).length cap) ∧ w = w' := by
  obtain ⟨_, _, hcm⟩ := hO.len
  obtain ⟨g', cap', hv, hle, _, hB, hlt, hc⟩ := hO.form
  rw [List.length_reverse] at hv hle
  cases hv
  have hcell : ∀ (z t : List Nat) (a : Nat), m = z ++ a :: t → w.cell? ⟨g, t.length, none⟩ = some (.int .i64 (a : Int)) ∧ t.length < cap := fun z t a e => by
    have hi : t.length < m.reverse.length := by rw [e]; simp
    have := (hc t.length hi).1
    have e2 : m.reverse.getD t.length 0 = a := by rw [e]; simp [List.getD]
    rw [e2] at this
    refine ⟨this, by omega⟩
  have HC := Lib.hid hcell
  have HM := Lib.hid hm
  unfold maxLen at hcm
  clear hcell hc hO hm
  go_enter Tryz.func46, Tryz.ntmps46
  go_wp2
  go_loop [0] (fun s => ∃ (z t : List Nat), m = z ++ t ∧ pop0 m = pop0 t ∧ s = .slice (some ⟨g, 0, none⟩) t.length cap) (fun s => lenOf s)
  case atStart => exact ⟨[], m, rfl, rfl, rfl⟩
  case round =>
    obtain ⟨z, t, hmz, hp, rfl⟩ := hrel
    have hts : 0 < t.sum := by rw [← pop0_sum, ← hp, pop0_sum]; exact HM.out
    cases t with
    | nil => simp at hts
    | cons a t =>
      obtain ⟨hca, hlc⟩ := HC.out z t a hmz
      have htl : t.length ≤ 1000 := by
        have := congrArg List.length hmz
        simp at this
        omega
      have HP := Lib.hid hp
      have HMZ := Lib.hid hmz
      have hw1 : IntKind.i64.wrap (((a :: t).length : Int) - 1) = (t.length : Int) := by rw [IntKind.wrap_i64]; simp; omega
      have hw2 : IntKind.i64.wrap (((t.length + 1 : Nat) : Int) - 1) = (t.length : Int) := by rw [IntKind.wrap_i64]; omega
      have hw3 : IntKind.i64.wrap ((t.length : Int) + 1 - 1) = (t.length : Int) := by rw [IntKind.wrap_i64]; omega
      clear hp hmz hts
      cases a with
      | zero =>
        go_wp2
        go_round
        case rel => exact ⟨z ++ [0], t, by rw [HMZ.out]; simp, by rw [HP.out]; rfl, rfl⟩
        case measure => simp [lenOf]
      | succ k =>
        have hne : (((k + 1 : Nat) : Int) == 0) = false := by simp; omega
        have hne' : (((k : Int) + 1) == 0) = false := by simp; omega
        go_wp2
        go_ret
        exact ⟨by rw [HP.out]; rfl, rfl⟩

end L2
end Go.Proofs.YtgcjmhecnbhhlaaGreatDoor
