/-
  Gathered in one text, in this order: D1, D2, D3, D4, D5, D6, D7, D8.
-/
import Derived.Test.YtkhjbhkbknennaaGreatDoorGY
import Derived.Test.YtkhjbhkbknennaaGreatDoorGC
import Derived.Deep.RegionLaw
import Derived.Lib.QuietBelow
import Derived.BigQuiet
/-
  Rows of words that a call makes: what they hold, and what appending leaves of them.
-/
namespace Go.Proofs.YtkhjbhkbknennaaGreatDoor
open Go.RowKit
namespace L2
open S1 L1

/-- A row of words in a block from B on, to which may be appended. -/
def OwS (w : World) (B : Nat) (v : Value) (xs : List ByteArray) : Prop :=
  w.ownsRow B 9 1 v xs.length (xs.map Value.string) ∧ v ≠ .slice none 0 0

theorem OwS.form {w : World} {B : Nat} {v : Value} {xs : List ByteArray} (h : OwS w B v xs) : ∃ g cap, v = .slice (some ⟨g, 0, none⟩) xs.length cap ∧ xs.length ≤ cap ∧ cap ≤ maxLen ∧ B ≤ g ∧ g < w.heap.size ∧ ∀ i, i < xs.length → w.cell? ⟨g, i, none⟩ = some (.string (xs.getD i ByteArray.empty)) ∧ w.frozen? ⟨g, i, none⟩ = false := by
  obtain ⟨ho, hn⟩ := h
  rcases ho.2 with ⟨hv, _⟩ | ⟨g, cap, cur, hv, hb, hg, h1, h2, hs, ht⟩
  · exact absurd hv hn
  · refine ⟨g, cap, hv, h1, h2, hb, (Array.getElem?_eq_some_iff.1 hg).1, fun i hi => ⟨?_, by simp [World.frozen?, hg]⟩⟩
    have hl : (xs.map Value.string)[i]? = some (.string (xs.getD i ByteArray.empty)) := by
      simp [List.getD, hi]
    have := ho.cells (g := g) (by rw [hv]; rfl) i _ hl
    have hadd : (⟨g, 0, none⟩ : Addr).add i = ⟨g, i, none⟩ := by unfold Addr.add; split <;> simp_all
    rwa [hadd] at this
theorem OwS.kept {w w' : World} {B : Nat} {v : Value} {xs : List ByteArray} {row : Option Nat} (h : OwS w B v xs) (hg : w.grownBy w' row) (hne : v.ownBlock ≠ row) : OwS w' B v xs :=
  ⟨h.1.kept hg (Or.inr hne), h.2⟩
theorem OwS.below {w w' : World} {B : Nat} {v : Value} {xs : List ByteArray} (h : OwS w B v xs) (hb : Below w.heap.size w w') : OwS w' B v xs := by
  obtain ⟨g, cap, rfl, _⟩ := h.form
  exact h.kept (D.grown_of_below hb none) (by simp [Value.ownBlock])
theorem OwS.alloc {w : World} {B : Nat} {v : Value} {xs : List ByteArray} (h : OwS w B v xs) (o : Obj) : OwS (w.alloc o) B v xs := ⟨h.1.alloc o, h.2⟩
theorem OwS.base {w : World} {B B' : Nat} {v : Value} {xs : List ByteArray} (h : OwS w B v xs) (hB : B' ≤ B) : OwS w B' v xs := by
  obtain ⟨ho, hn⟩ := h
  refine ⟨⟨ho.1, ?_⟩, hn⟩
  rcases ho.2 with hv | ⟨g, cap, cur, hv, hb, rest⟩
  · exact Or.inl hv
  · exact Or.inr ⟨g, cap, cur, hv, Nat.le_trans hB hb, rest⟩
theorem owS_new (w : World) (B : Nat) (hB : B ≤ w.heap.size) : OwS (w.alloc (.cells #[] 9)) B (.slice (some ⟨w.heap.size, 0, none⟩) 0 0) [] :=
  ⟨World.ownsRow_made w #[] 0 hB (by unfold maxLen; omega) (by simp), by simp⟩

/-- Appending words that lie at an address. -/
theorem run_appS (w : World) (B : Nat) (v : Value) (xs : List ByteArray) (hown : OwS w B v xs) (g : Nat) (ys : List ByteArray) (c : Nat)
    (hsrc : ∀ j, j < ys.length → w.cell? ⟨g, j, none⟩ = some (.string (ys.getD j ByteArray.empty))) (hs : xs.length + ys.length ≤ 10000000) (hB : B ≤ w.heap.size) :
    ∃ v' w', (Builtin.append_ #[24, 24] 24 #[v, .slice (some ⟨g, 0, none⟩) ys.length c]).run Tryz.prog w = .ok v' w' ∧ OwS w' B v' (xs ++ ys) ∧ w.grownBy w' v.ownBlock := by
  obtain ⟨ho, hn⟩ := hown
  obtain ⟨i, hi, hz, hsz, hby⟩ := str_info
  obtain ⟨v', w', hr, h2, h3, h4, h5⟩ := run_append_own_at (P := Tryz.prog) w B 24 24 9 i (.string ByteArray.empty) 1 16 Tryz.underlying24 hi hz hsz hby rfl (by omega) v xs.length _ ho ⟨g, 0, none⟩ ys.length c (ys.map Value.string) (by simp)
    (fun j u hj => by
      simp only [List.getElem?_map, Option.map_eq_some_iff] at hj
      obtain ⟨a, ha, rfl⟩ := hj
      have hlt := (List.getElem?_eq_some_iff.1 ha).1
      have := hsrc j hlt
      rw [add0]
      simpa [List.getD, ha] using this)
    (fun u hu => by
      simp only [List.mem_map] at hu
      obtain ⟨a, _, rfl⟩ := hu
      rfl) (by unfold maxLen; omega) (by omega) hB
  refine ⟨v', w', hr, ⟨?_, fun e => hn (h4.1 e).1⟩, h3⟩
  rw [List.map_append, List.length_append]
  exact h2

theorem run_appS1 (w : World) (B : Nat) (v : Value) (xs : List ByteArray) (hown : OwS w B v xs) (g : Nat) (s : ByteArray)
    (hc : w.cell? ⟨g, 0, none⟩ = some (.string s)) (hs : xs.length ≤ 9000000) (hB : B ≤ w.heap.size) :
    ∃ v' w', (Builtin.append_ #[24, 24] 24 #[v, .slice (some ⟨g, 0, none⟩) 1 1]).run Tryz.prog w = .ok v' w' ∧ OwS w' B v' (xs ++ [s]) ∧ w.grownBy w' v.ownBlock :=
  run_appS w B v xs hown g [s] 1 (fun j hj => by
    have : j = 0 := by simpa using hj
    subst this
    exact hc) (by simp; omega) hB

/-- Words written out. -/
theorem owS_lit (w : World) (B : Nat) (ss : List ByteArray) (hB : B ≤ w.heap.size) (hn : ss.length ≤ 1000) :
    OwS (w.alloc (.cells (ss.map Value.string).toArray 9)) B (.slice (some ⟨w.heap.size, 0, none⟩) ss.length ss.length) ss := by
  refine ⟨?_, by simp⟩
  have h := World.ownsRow_lit (base := B) (e := 9) (size := 1) w (ss.map Value.string).toArray ss.length hB (by unfold maxLen; omega) (by simp)
  simpa using h
theorem OwS.row {w : World} {B : Nat} {v : Value} {ss : List ByteArray} (h : OwS w B v ss) : Row w v ss := by
  obtain ⟨g, cap, hv, h1, h2, h3, h4, h5⟩ := h.form
  exact ⟨_, cap, hv, h1, h2, fun i hi => ⟨g, 0, rfl, h4, by rw [Nat.zero_add]; exact (h5 i hi).1⟩⟩

/-- Short words. -/
def Short (ss : List ByteArray) : Prop := ∀ s ∈ ss, s.size ≤ 20
theorem Short.append {a b : List ByteArray} (h : Short a) (k : Short b) : Short (a ++ b) := fun s hs => by
  rcases List.mem_append.1 hs with h1 | h1
  · exact h s h1
  · exact k s h1
theorem Short.small {ss : List ByteArray} (h : Short ss) (hn : ss.length ≤ 1000) : Small ss :=
  ⟨by omega, fun i hi => by
    have : ss.getD i ByteArray.empty = ss[i] := by simp [List.getD, hi]
    rw [this]
    have := h _ (List.getElem_mem hi)
    omega⟩

/-- The cursor, while the call makes memory of its own from w0 on. -/
structure Cu (p : Nat) (v : Value) (n : Nat) (w0 w : World) : Prop where
  c : D.Cur w p v n
  g : w0.grownBy w (some p)
theorem Cu.start {p n : Nat} {v : Value} {w : World} (h : D.Cur w p v n) : Cu p v n w w := ⟨h, ⟨rfl, rfl, rfl, Nat.le_refl _, fun _ _ _ => rfl⟩⟩
theorem Cu.got {p n : Nat} {v : Value} {w0 w w1 : World} (h : Cu p v n w0 w) (hc : D.Cur w1 p v n) (hg : w.grownBy w1 (some p)) : Cu p v n w0 w1 := ⟨hc, h.g.trans hg⟩
theorem Cu.alloc {p n : Nat} {v : Value} {w0 w : World} (h : Cu p v n w0 w) (o : Obj) : Cu p v n w0 (w.alloc o) := ⟨h.c.alloc o, D.grown_alloc h.g o⟩
theorem Cu.below {p n : Nat} {v : Value} {w0 w w1 : World} (h : Cu p v n w0 w) (hb : Below w.heap.size w w1) : Cu p v n w0 w1 := ⟨h.c.below hb, h.g.trans (D.grown_of_below hb _)⟩
theorem Cu.row {p n : Nat} {v : Value} {w0 w w1 : World} {row : Option Nat} (h : Cu p v n w0 w) (hp : p < w0.heap.size) (hg : w.grownBy w1 row) (hr : ∀ k, row = some k → w0.heap.size ≤ k) : Cu p v n w0 w1 := by
  have hne : some p ≠ row := fun e => by have := hr p e.symm; omega
  refine ⟨?_, hg.os.trans h.g.os, hg.tape.trans h.g.tape, hg.output.trans h.g.output, Nat.le_trans h.g.size hg.size, fun k hk hkp => ?_⟩
  · obtain ⟨i, x, hi, hh⟩ := h.c
    exact ⟨i, x, hi, (hg.block p (lt_of_block hh) hne).trans hh⟩
  · have hkr : some k ≠ row := fun e => by have := hr k e.symm; omega
    exact (hg.block k (Nat.lt_of_lt_of_le hk h.g.size) hkr).trans (h.g.block k hk hkp)

end L2
end Go.Proofs.YtkhjbhkbknennaaGreatDoor

/-
  The draws: a sum by its words, as deep as is asked.
-/
namespace Go.Proofs.YtkhjbhkbknennaaGreatDoor
open Go.RowKit
namespace L2
open S1 L1

theorem words14 : ∀ j, j < 14 → ∃ s : ByteArray, (#[Value.string ⟨#[97, 100, 100]⟩, Value.string ⟨#[98, 101, 108, 111, 119]⟩, Value.string ⟨#[98, 111, 116, 104]⟩, Value.string ⟨#[98, 111, 116, 104]⟩, Value.string ⟨#[115, 97, 121]⟩, Value.string ⟨#[115, 97, 121]⟩, Value.string ⟨#[105, 102]⟩, Value.string ⟨#[107, 101, 101, 112]⟩, Value.string ⟨#[107, 101, 101, 112]⟩, Value.string ⟨#[98, 105, 110, 100]⟩, Value.string ⟨#[98, 105, 110, 100]⟩, Value.string ⟨#[116, 104, 114, 111, 119]⟩, Value.string ⟨#[116, 114, 121]⟩, Value.string ⟨#[116, 114, 121]⟩] : Array Value)[j]? = some (.string s) ∧ s.size ≤ 20 := by
  intro j hj
  match j, hj with
  | 0, _ => exact ⟨_, rfl, by decide⟩
  | 1, _ => exact ⟨_, rfl, by decide⟩
  | 2, _ => exact ⟨_, rfl, by decide⟩
  | 3, _ => exact ⟨_, rfl, by decide⟩
  | 4, _ => exact ⟨_, rfl, by decide⟩
  | 5, _ => exact ⟨_, rfl, by decide⟩
  | 6, _ => exact ⟨_, rfl, by decide⟩
  | 7, _ => exact ⟨_, rfl, by decide⟩
  | 8, _ => exact ⟨_, rfl, by decide⟩
  | 9, _ => exact ⟨_, rfl, by decide⟩
  | 10, _ => exact ⟨_, rfl, by decide⟩
  | 11, _ => exact ⟨_, rfl, by decide⟩
  | 12, _ => exact ⟨_, rfl, by decide⟩
  | 13, _ => exact ⟨_, rfl, by decide⟩
  | k + 14, hj => omega
theorem words4 : ∀ j, j < 4 → ∃ s : ByteArray, (#[Value.string ⟨#[109, 97, 114, 107]⟩, Value.string ⟨#[109, 97, 114, 107]⟩, Value.string ⟨#[99, 117, 116]⟩, Value.string ⟨#[103, 111]⟩] : Array Value)[j]? = some (.string s) ∧ s.size ≤ 20 := by
  intro j hj
  match j, hj with
  | 0, _ => exact ⟨_, rfl, by decide⟩
  | 1, _ => exact ⟨_, rfl, by decide⟩
  | 2, _ => exact ⟨_, rfl, by decide⟩
  | 3, _ => exact ⟨_, rfl, by decide⟩
  | k + 4, hj => omega
theorem lit_cell (W : World) (arr : Array Value) (T : TypeId) (j : Nat) {x : Value} (h : arr[j]? = some x) : (W.alloc (.cells arr T)).cell? ⟨W.heap.size, j, none⟩ = some x := by
  have hlt := (Array.getElem?_eq_some_iff.1 h).1
  have hb := heap_alloc_new W (.cells arr T)
  simp only [World.cell?, hb]
  simpa using h

/-- How many words at most. -/
def lb : Nat → Nat
  | 0 => 2
  | d + 1 => 2 + 3 * lb d
theorem lb_two (d : Nat) : 2 ≤ lb d := by cases d <;> simp [lb]
theorem lb_le (d : Nat) (h : d ≤ 6) : lb d ≤ 3000 := by
  match d, h with
  | 0, _ => decide
  | 1, _ => decide
  | 2, _ => decide
  | 3, _ => decide
  | 4, _ => decide
  | 5, _ => decide
  | 6, _ => decide
  | k + 7, h => omega

/-- What a draw of words leaves. -/
def DrewL (p : Nat) (v : Value) (n L : Nat) (w : World) (e : Ending) (w' : World) : Prop :=
  ∃ u ss, e = .returned u ∧ OwS w' w.heap.size u ss ∧ ss ≠ [] ∧ ss.length ≤ L ∧ Short ss ∧ D.Cur w' p v n ∧ w.grownBy w' (some p)

theorem short_one {s : ByteArray} (h : s.size ≤ 20) : Short [s] := fun t ht => by
  have : t = s := by simpa using ht
  subst this; exact h
theorem itoa_short {x : Int} (h1 : -1000000 ≤ x) (h2 : x ≤ 1000000) : (ByteArray.mk (Lib.itoa x).toArray).size ≤ 20 := by
  have := itoa_len h1 h2
  simp [ByteArray.size]; omega

set_option maxRecDepth 100000 in
set_option maxHeartbeats 400000 in
theorem draw_zero (p : Nat) (v : Value) (n L : Nat) (hL2 : 2 ≤ L) (deep : Int) (plain : Bool) (w : World) (hd0 : deep ≤ 0) (hC : D.Cur w p v n) (hB : D.Bytes w p v n) :
    Calls Tryz.prog 71 #[.pointer (some ⟨p, 0, none⟩), .int .i64 deep, .bool plain] w (DrewL p v n L w) := by
  have hC0 := Lib.hid hC
  have HB0 := Lib.hid hB
  have HC := Lib.hid hC
  have HB := Lib.hid hB
  clear hC hB
  go_enter Tryz.func71, Tryz.ntmps71
  go_wp2_with fail
  refine (D.l1Below_any p v n 4 (by omega) (by omega) _ HC.out HB.out).mono ?_
  rintro e w1 ⟨x, rfl, hx0, hx1, hC1, hg1⟩
  have K1 := Lib.hid ((Cu.start hC0.out).got hC1 hg1)
  have HB1 := Lib.hid (HB0.out.kept K1.out.g)
  have HC1 := Lib.hid hC1
  clear hC1 hg1
  by_cases hz : x = 0
  · have hz1 : (x == 0) = true := by simpa using hz
    have Hz := Lib.hid hz
    clear hz
    go_wp2_with fail
    go_ret
    exact ⟨_, _, rfl, owS_lit w1 w.heap.size [⟨#[97, 114, 103]⟩] K1.out.g.size (by simp), by simp, by simp; omega, short_one (by decide), HC1.out.alloc _, D.grown_alloc K1.out.g _⟩
  · have hz1 : (x == 0) = false := by simpa using hz
    by_cases ho : x = 1
    · have ho1 : (x == 1) = true := by simpa using ho
      have Hz := Lib.hid hz
      have Ho := Lib.hid ho
      clear hz ho
      go_wp2_with fail
      refine (D.l1Below_any p v n 2 (by omega) (by omega) _ HC1.out HB1.out).mono ?_
      rintro e w2 ⟨y, rfl, hy0, hy1, hC2, hg2⟩
      have K2 := Lib.hid (K1.out.got hC2 hg2)
      clear hC2 hg2
      go_wp2_with fail
      refine (l1Int_any y (by omega) (by omega) _).mono ?_
      rintro e w3 ⟨rfl, hb3⟩
      have K3 := Lib.hid (K2.out.below hb3)
      have Hsh := Lib.hid (itoa_short (x := y) (by omega) (by omega))
      generalize (⟨(Lib.itoa y).toArray⟩ : ByteArray) = t at Hsh ⊢
      clear hb3
      go_wp2_with fail
      go_ret
      exact ⟨_, _, rfl, owS_lit w3 w.heap.size [⟨#[97, 115, 107]⟩, t] K3.out.g.size (by simp), by simp, by simpa using hL2, (short_one (s := ⟨#[97, 115, 107]⟩) (by decide)).append (short_one Hsh.out), K3.out.c.alloc _, D.grown_alloc K3.out.g _⟩
    · have ho1 : (x == 1) = false := by simpa using ho
      have Hz := Lib.hid hz
      have Ho := Lib.hid ho
      clear hz ho
      go_wp2_with fail
      refine (D.l1Below_any p v n 9 (by omega) (by omega) _ HC1.out HB1.out).mono ?_
      rintro e w2 ⟨y, rfl, hy0, hy1, hC2, hg2⟩
      have K2 := Lib.hid (K1.out.got hC2 hg2)
      clear hC2 hg2
      go_wp2_with fail
      refine (l1Int_any (y - 2) (by omega) (by omega) _).mono ?_
      rintro e w3 ⟨rfl, hb3⟩
      have K3 := Lib.hid (K2.out.below hb3)
      have Hsh := Lib.hid (itoa_short (x := y - 2) (by omega) (by omega))
      generalize (⟨(Lib.itoa (y - 2)).toArray⟩ : ByteArray) = t at Hsh ⊢
      clear hb3
      go_wp2_with fail
      go_ret
      exact ⟨_, _, rfl, owS_lit w3 w.heap.size [t] K3.out.g.size (by simp), by simp, by simp; omega, short_one Hsh.out, K3.out.c.alloc _, D.grown_alloc K3.out.g _⟩

end L2
end Go.Proofs.YtkhjbhkbknennaaGreatDoor

/-
  The draws: a sum by its words: its walk, where it is no deepest one.
-/
namespace Go.Proofs.YtkhjbhkbknennaaGreatDoor
open Go.RowKit
namespace L2
open S1 L1

set_option maxRecDepth 100000 in
set_option maxHeartbeats 8000000 in
theorem draw_pos (p : Nat) (v : Value) (n d : Nat) (hd6 : d ≤ 4) (IH : Hid (∀ (deep : Int) (plain : Bool) (w : World), deep ≤ (d : Int) → -1000 ≤ deep → D.Cur w p v n → D.Bytes w p v n → Calls Tryz.prog 71 #[.pointer (some ⟨p, 0, none⟩), .int .i64 deep, .bool plain] w (DrewL p v n (lb d) w)))
    (deep : Int) (plain : Bool) (w : World) (hd : deep ≤ (d : Int) + 1) (hd0 : 0 < deep) (hC : D.Cur w p v n) (hB : D.Bytes w p v n) :
    Calls Tryz.prog 71 #[.pointer (some ⟨p, 0, none⟩), .int .i64 deep, .bool plain] w (DrewL p v n (lb (d + 1)) w) := by
  have hpw := hC.lt
  have hC0 := Lib.hid hC
  have HB0 := Lib.hid hB
  have HC := Lib.hid hC
  have HB := Lib.hid hB
  have hL2 := lb_two (d + 1)
  have hlb := lb_le d (by omega)
  have hdn : ¬ deep ≤ 0 := by omega
  have hdd : decide (deep ≤ 0) = false := by simpa using hdn
  clear hC hB
  go_enter Tryz.func71, Tryz.ntmps71
  go_wp2_with fail
  refine (D.l1Once_any p v n 6 (by omega) (by omega) _ HC.out HB.out).mono ?_
  rintro e wz ⟨bz, rfl, hCz, hgz⟩
  have KZ := Lib.hid ((Cu.start hC0.out).got hCz hgz)
  have HCz := Lib.hid hCz
  have HBz := Lib.hid (HB0.out.kept KZ.out.g)
  clear hCz hgz
  cases bz
  · go_wp2_with fail
    have hcells : ∀ j, j < 14 → ∃ s : ByteArray, (wz.alloc (.cells #[Value.string ⟨#[97, 100, 100]⟩, Value.string ⟨#[98, 101, 108, 111, 119]⟩, Value.string ⟨#[98, 111, 116, 104]⟩, Value.string ⟨#[98, 111, 116, 104]⟩, Value.string ⟨#[115, 97, 121]⟩, Value.string ⟨#[115, 97, 121]⟩, Value.string ⟨#[105, 102]⟩, Value.string ⟨#[107, 101, 101, 112]⟩, Value.string ⟨#[107, 101, 101, 112]⟩, Value.string ⟨#[98, 105, 110, 100]⟩, Value.string ⟨#[98, 105, 110, 100]⟩, Value.string ⟨#[116, 104, 114, 111, 119]⟩, Value.string ⟨#[116, 114, 121]⟩, Value.string ⟨#[116, 114, 121]⟩] 9)).cell? ⟨wz.heap.size, j, none⟩ = some (.string s) ∧ s.size ≤ 20 := fun j hj => by
      obtain ⟨s, hs, hz⟩ := words14 j hj
      exact ⟨s, lit_cell wz _ _ j hs, hz⟩
    have KA := Lib.hid (KZ.out.alloc (.cells #[Value.string ⟨#[97, 100, 100]⟩, Value.string ⟨#[98, 101, 108, 111, 119]⟩, Value.string ⟨#[98, 111, 116, 104]⟩, Value.string ⟨#[98, 111, 116, 104]⟩, Value.string ⟨#[115, 97, 121]⟩, Value.string ⟨#[115, 97, 121]⟩, Value.string ⟨#[105, 102]⟩, Value.string ⟨#[107, 101, 101, 112]⟩, Value.string ⟨#[107, 101, 101, 112]⟩, Value.string ⟨#[98, 105, 110, 100]⟩, Value.string ⟨#[98, 105, 110, 100]⟩, Value.string ⟨#[116, 104, 114, 111, 119]⟩, Value.string ⟨#[116, 114, 121]⟩, Value.string ⟨#[116, 114, 121]⟩] 9))
    have hne : some wz.heap.size ≠ some p := by intro e; injection e with e; have := HCz.out.lt; omega
    have Hcells := Lib.hid hcells
    have Hne := Lib.hid hne
    clear hcells hne
    generalize wz.alloc (.cells #[Value.string ⟨#[97, 100, 100]⟩, Value.string ⟨#[98, 101, 108, 111, 119]⟩, Value.string ⟨#[98, 111, 116, 104]⟩, Value.string ⟨#[98, 111, 116, 104]⟩, Value.string ⟨#[115, 97, 121]⟩, Value.string ⟨#[115, 97, 121]⟩, Value.string ⟨#[105, 102]⟩, Value.string ⟨#[107, 101, 101, 112]⟩, Value.string ⟨#[107, 101, 101, 112]⟩, Value.string ⟨#[98, 105, 110, 100]⟩, Value.string ⟨#[98, 105, 110, 100]⟩, Value.string ⟨#[116, 104, 114, 111, 119]⟩, Value.string ⟨#[116, 114, 121]⟩, Value.string ⟨#[116, 114, 121]⟩] 9) = wa at Hcells KA ⊢
    generalize wz.heap.size = bw at Hcells Hne ⊢
    refine (D.l1Below_any p v n 14 (by omega) (by omega) _ KA.out.c (HB0.out.kept KA.out.g)).mono ?_
    rintro e w1 ⟨x, rfl, hx0, hx1, hC1, hg1⟩
    obtain ⟨j, rfl⟩ : ∃ j : Nat, x = (j : Int) := ⟨x.toNat, by omega⟩
    obtain ⟨s, hs, hsz⟩ := Hcells.out j (by omega)
    have hcell := hg1.cell hs Hne.out
    have K1 := Lib.hid (KA.out.got hC1 hg1)
    have HB1 := Lib.hid (HB0.out.kept K1.out.g)
    clear hC1 hg1 hs
    cases plain
    · go_wp2_with fail
      refine (D.l1Once_any p v n 3 (by omega) (by omega) _ K1.out.c HB1.out).mono ?_
      rintro e w2 ⟨b2, rfl, hC2, hg2⟩
      have K2 := Lib.hid (K1.out.got hC2 hg2)
      have HB2 := Lib.hid (HB0.out.kept K2.out.g)
      clear hcell hC2 hg2
      cases b2
      · clear HB2
        have HK := K2
        have hnb := needs_bd s.toList
        have hcn := specNeeds_any s (by unfold maxLen; omega)
        obtain ⟨y0, hy0⟩ : ∃ y0, needs s.toList = y0 := ⟨_, rfl⟩
        rw [hy0] at hcn hnb
        have Hcn := Lib.hid hcn
        have Hsz := Lib.hid hsz
        have hS0 : Hid (OwS (w2.alloc (.cells #[.string s] 9)) w.heap.size (.slice (some ⟨w2.heap.size, 0, none⟩) 1 1) [s]) := Lib.hid (owS_lit w2 w.heap.size [s] HK.out.g.size (by simp))
        have hK0 := Lib.hid (HK.out.alloc (.cells #[.string s] 9))
        have hm0 := Nat.mul_le_mul_right (lb d) (show y0.toNat ≤ 3 by omega)
        clear hcn hy0 hsz
        cases htb : (s.toList == [98, 105, 110, 100])
        · go_wp2_with (go_at_call 107; refine (Hcn.out _).mono ?_; rintro e w' ⟨rfl, rfl⟩)
          go_loopw [8, 9] (fun o q wr => ∃ (y : Int) (ss : List ByteArray), OwS wr w.heap.size o ss ∧ q = .int .i64 y ∧ y ≤ 3 ∧ ss ≠ [] ∧ ss.length + y.toNat * lb d ≤ 2 + 3 * lb d ∧ Short ss ∧ Cu p v n w wr) (fun _ q _ => (intOf q).toNat)
          case atStart => exact ⟨y0, [s], hS0.out, rfl, by omega, by simp, by simp; omega, short_one Hsz.out, hK0.out⟩
          case round =>
            obtain ⟨y, ss, hO, rfl, hy3, hne, hlen, hsh, hK⟩ := hrel
            obtain ⟨go1, co1, rfl, hq1, hq2, hgo1, hgw1, _⟩ := hO.form
            have HOr := Lib.hid hO
            have HKr := Lib.hid hK
            have Hne := Lib.hid hne
            have Hsr := Lib.hid hsh
            have Hlen := Lib.hid hlen
            clear hO hK hne hsh hlen hm0
            by_cases hpos : 0 < y
            · go_wp2_with fail
              refine (IH.out (deep - 1) _ wr (by omega) (by omega) HKr.out.c (HB0.out.kept HKr.out.g)).mono ?_
              rintro e w8 ⟨u8, s8, rfl, ho8, hne8, hl8, hs8, hc8, hg8⟩
              have hO8 := HOr.out.kept hg8 (by simp only [Value.ownBlock]; intro e; injection e with e; omega)
              have K8 := HKr.out.got hc8 hg8
              have hmul : y.toNat * lb d = (y - 1).toNat * lb d + lb d := by
                have : y.toNat = (y - 1).toNat + 1 := by omega
                rw [this, Nat.succ_mul]
              have hle := Hlen.out
              rw [hmul] at hle
              obtain ⟨g9, c9, rfl, _, _, hgb9, _, hcs9⟩ := ho8.form
              obtain ⟨v9, w9, hr9, ho9, hg9⟩ := run_appS w8 w.heap.size _ ss hO8 g9 s8 c9 (fun j hj => (hcs9 j hj).1) (by omega) K8.g.size
              have K9 := Lib.hid (K8.row hpw hg9 (fun k e => by simp only [Value.ownBlock] at e; injection e with e; omega))
              have hO9 := Lib.hid ho9
              have HR9 := Lib.hid hr9
              have Hs9 := Lib.hid (Hsr.out.append hs8)
              have Hl9 : Hid ((ss ++ s8).length + (y - 1).toNat * lb d ≤ 2 + 3 * lb d) := Lib.hid (by rw [List.length_append]; omega)
              have Hn9 : Hid (ss ++ s8 ≠ []) := Lib.hid (by simp [Hne.out])
              clear ho8 hne8 hl8 hs8 hc8 hg8 hO8 K8 hmul hle hcs9 hr9 ho9 hg9
              go_wp2_with (at_builtin; refine wp_app rfl _ _ rfl rfl _ _ rfl rfl HR9.out ?_)
              go_roundw
              case rel => exact ⟨y - 1, ss ++ s8, hO9.out, rfl, by omega, Hn9.out, Hl9.out, Hs9.out, K9.out⟩
              case measure => simp [intOf]; omega
            · go_wp2_with fail
              go_ret
              exact ⟨_, ss, rfl, HOr.out, Hne.out, by have := Hlen.out; rw [lb]; omega, Hsr.out, HKr.out.c, HKr.out.g⟩
        · have hHm := Lib.hid hm0
          go_wp2_with fail
          refine (D.l1Below_any p v n 2 (by omega) (by omega) _ hK0.out.c (HB0.out.kept hK0.out.g)).mono ?_
          rintro e w5 ⟨x5, rfl, hx50, hx51, hC5, hg5⟩
          have K5 := Lib.hid (hK0.out.got hC5 hg5)
          have hO5 := Lib.hid (hS0.out.kept hg5 (by simp only [Value.ownBlock]; intro e; injection e with e; have := HK.out.g.size; omega))
          clear hC5 hg5
          go_wp2_with fail
          refine (l1Int_any x5 (by omega) (by omega) _).mono ?_
          rintro e w6 ⟨rfl, hb6⟩
          have K6 := Lib.hid (K5.out.below hb6)
          have hO6 := Lib.hid (hO5.out.below hb6)
          have Hsh := Lib.hid (itoa_short (x := x5) (by omega) (by omega))
          generalize (⟨(Lib.itoa x5).toArray⟩ : ByteArray) = t at Hsh ⊢
          obtain ⟨v7, w7, hr7, ho7, hg7⟩ := run_appS1 (w6.alloc (.cells #[.string t] 9)) w.heap.size _ [s] (hO6.out.alloc _) w6.heap.size t (by simp [go_sem]) (by simp) (by have := K6.out.g.size; simp; omega)
          have K7 := Lib.hid ((K6.out.alloc (.cells #[.string t] 9)).row hpw hg7 (fun k e => by simp only [Value.ownBlock] at e; injection e with e; have := HK.out.g.size; omega))
          have hO7 := Lib.hid ho7
          have HR7 := Lib.hid hr7
          clear hb6 hr7 ho7 hg7
          go_wp2_with (first | (go_at_call 107; refine (Hcn.out _).mono ?_; rintro e w' ⟨rfl, rfl⟩) | (at_builtin; refine wp_app rfl _ _ rfl rfl _ _ rfl rfl HR7.out ?_))
          go_loopw [8, 9] (fun o q wr => ∃ (y : Int) (ss : List ByteArray), OwS wr w.heap.size o ss ∧ q = .int .i64 y ∧ y ≤ 3 ∧ ss ≠ [] ∧ ss.length + y.toNat * lb d ≤ 2 + 3 * lb d ∧ Short ss ∧ Cu p v n w wr) (fun _ q _ => (intOf q).toNat)
          case atStart => exact ⟨y0, [s, t], hO7.out, rfl, by omega, by simp, by simp; omega, (short_one Hsz.out).append (short_one Hsh.out), K7.out⟩
          case round =>
            obtain ⟨y, ss, hO, rfl, hy3, hne, hlen, hsh, hK⟩ := hrel
            obtain ⟨go1, co1, rfl, hq1, hq2, hgo1, hgw1, _⟩ := hO.form
            have HOr := Lib.hid hO
            have HKr := Lib.hid hK
            have Hne := Lib.hid hne
            have Hsr := Lib.hid hsh
            have Hlen := Lib.hid hlen
            clear hO hK hne hsh hlen hm0
            by_cases hpos : 0 < y
            · go_wp2_with fail
              refine (IH.out (deep - 1) _ wr (by omega) (by omega) HKr.out.c (HB0.out.kept HKr.out.g)).mono ?_
              rintro e w8 ⟨u8, s8, rfl, ho8, hne8, hl8, hs8, hc8, hg8⟩
              have hO8 := HOr.out.kept hg8 (by simp only [Value.ownBlock]; intro e; injection e with e; omega)
              have K8 := HKr.out.got hc8 hg8
              have hmul : y.toNat * lb d = (y - 1).toNat * lb d + lb d := by
                have : y.toNat = (y - 1).toNat + 1 := by omega
                rw [this, Nat.succ_mul]
              have hle := Hlen.out
              rw [hmul] at hle
              obtain ⟨g9, c9, rfl, _, _, hgb9, _, hcs9⟩ := ho8.form
              obtain ⟨v9, w9, hr9, ho9, hg9⟩ := run_appS w8 w.heap.size _ ss hO8 g9 s8 c9 (fun j hj => (hcs9 j hj).1) (by omega) K8.g.size
              have K9 := Lib.hid (K8.row hpw hg9 (fun k e => by simp only [Value.ownBlock] at e; injection e with e; omega))
              have hO9 := Lib.hid ho9
              have HR9 := Lib.hid hr9
              have Hs9 := Lib.hid (Hsr.out.append hs8)
              have Hl9 : Hid ((ss ++ s8).length + (y - 1).toNat * lb d ≤ 2 + 3 * lb d) := Lib.hid (by rw [List.length_append]; omega)
              have Hn9 : Hid (ss ++ s8 ≠ []) := Lib.hid (by simp [Hne.out])
              clear ho8 hne8 hl8 hs8 hc8 hg8 hO8 K8 hmul hle hcs9 hr9 ho9 hg9
              go_wp2_with (at_builtin; refine wp_app rfl _ _ rfl rfl _ _ rfl rfl HR9.out ?_)
              go_roundw
              case rel => exact ⟨y - 1, ss ++ s8, hO9.out, rfl, by omega, Hn9.out, Hl9.out, Hs9.out, K9.out⟩
              case measure => simp [intOf]; omega
            · go_wp2_with fail
              go_ret
              exact ⟨_, ss, rfl, HOr.out, Hne.out, by have := Hlen.out; rw [lb]; omega, Hsr.out, HKr.out.c, HKr.out.g⟩
      · go_wp2_with fail
        have hcells4 : ∀ j, j < 4 → ∃ s : ByteArray, (w2.alloc (.cells #[Value.string ⟨#[109, 97, 114, 107]⟩, Value.string ⟨#[109, 97, 114, 107]⟩, Value.string ⟨#[99, 117, 116]⟩, Value.string ⟨#[103, 111]⟩] 9)).cell? ⟨w2.heap.size, j, none⟩ = some (.string s) ∧ s.size ≤ 20 := fun j hj => by
          obtain ⟨s, hs, hz⟩ := words4 j hj
          exact ⟨s, lit_cell w2 _ _ j hs, hz⟩
        have KA4 := Lib.hid (K2.out.alloc (.cells #[Value.string ⟨#[109, 97, 114, 107]⟩, Value.string ⟨#[109, 97, 114, 107]⟩, Value.string ⟨#[99, 117, 116]⟩, Value.string ⟨#[103, 111]⟩] 9))
        have hne4 : some w2.heap.size ≠ some p := by intro e; injection e with e; have := K2.out.c.lt; omega
        have Hcells4 := Lib.hid hcells4
        have Hne4 := Lib.hid hne4
        clear hcells4 hne4 hsz HB2
        generalize w2.alloc (.cells #[Value.string ⟨#[109, 97, 114, 107]⟩, Value.string ⟨#[109, 97, 114, 107]⟩, Value.string ⟨#[99, 117, 116]⟩, Value.string ⟨#[103, 111]⟩] 9) = wb at Hcells4 KA4 ⊢
        generalize w2.heap.size = bw4 at Hcells4 Hne4 ⊢
        refine (D.l1Below_any p v n 4 (by omega) (by omega) _ KA4.out.c (HB0.out.kept KA4.out.g)).mono ?_
        rintro e w3 ⟨x3, rfl, hx30, hx31, hC3, hg3⟩
        obtain ⟨j3, rfl⟩ : ∃ j : Nat, x3 = (j : Int) := ⟨x3.toNat, by omega⟩
        obtain ⟨s, hs3, hsz⟩ := Hcells4.out j3 (by omega)
        have hcell3 := hg3.cell hs3 Hne4.out
        have K3 := Lib.hid (KA4.out.got hC3 hg3)
        clear hC3 hg3 hs3
        have HK := K3
        have hnb := needs_bd s.toList
        have hcn := specNeeds_any s (by unfold maxLen; omega)
        obtain ⟨y0, hy0⟩ : ∃ y0, needs s.toList = y0 := ⟨_, rfl⟩
        rw [hy0] at hcn hnb
        have Hcn := Lib.hid hcn
        have Hsz := Lib.hid hsz
        have hS0 : Hid (OwS (w3.alloc (.cells #[.string s] 9)) w.heap.size (.slice (some ⟨w3.heap.size, 0, none⟩) 1 1) [s]) := Lib.hid (owS_lit w3 w.heap.size [s] HK.out.g.size (by simp))
        have hK0 := Lib.hid (HK.out.alloc (.cells #[.string s] 9))
        have hm0 := Nat.mul_le_mul_right (lb d) (show y0.toNat ≤ 3 by omega)
        clear hcn hy0 hsz
        cases htb : (s.toList == [98, 105, 110, 100])
        · go_wp2_with (go_at_call 107; refine (Hcn.out _).mono ?_; rintro e w' ⟨rfl, rfl⟩)
          go_loopw [8, 9] (fun o q wr => ∃ (y : Int) (ss : List ByteArray), OwS wr w.heap.size o ss ∧ q = .int .i64 y ∧ y ≤ 3 ∧ ss ≠ [] ∧ ss.length + y.toNat * lb d ≤ 2 + 3 * lb d ∧ Short ss ∧ Cu p v n w wr) (fun _ q _ => (intOf q).toNat)
          case atStart => exact ⟨y0, [s], hS0.out, rfl, by omega, by simp, by simp; omega, short_one Hsz.out, hK0.out⟩
          case round =>
            obtain ⟨y, ss, hO, rfl, hy3, hne, hlen, hsh, hK⟩ := hrel
            obtain ⟨go1, co1, rfl, hq1, hq2, hgo1, hgw1, _⟩ := hO.form
            have HOr := Lib.hid hO
            have HKr := Lib.hid hK
            have Hne := Lib.hid hne
            have Hsr := Lib.hid hsh
            have Hlen := Lib.hid hlen
            clear hO hK hne hsh hlen hm0
            by_cases hpos : 0 < y
            · go_wp2_with fail
              refine (IH.out (deep - 1) _ wr (by omega) (by omega) HKr.out.c (HB0.out.kept HKr.out.g)).mono ?_
              rintro e w8 ⟨u8, s8, rfl, ho8, hne8, hl8, hs8, hc8, hg8⟩
              have hO8 := HOr.out.kept hg8 (by simp only [Value.ownBlock]; intro e; injection e with e; omega)
              have K8 := HKr.out.got hc8 hg8
              have hmul : y.toNat * lb d = (y - 1).toNat * lb d + lb d := by
                have : y.toNat = (y - 1).toNat + 1 := by omega
                rw [this, Nat.succ_mul]
              have hle := Hlen.out
              rw [hmul] at hle
              obtain ⟨g9, c9, rfl, _, _, hgb9, _, hcs9⟩ := ho8.form
              obtain ⟨v9, w9, hr9, ho9, hg9⟩ := run_appS w8 w.heap.size _ ss hO8 g9 s8 c9 (fun j hj => (hcs9 j hj).1) (by omega) K8.g.size
              have K9 := Lib.hid (K8.row hpw hg9 (fun k e => by simp only [Value.ownBlock] at e; injection e with e; omega))
              have hO9 := Lib.hid ho9
              have HR9 := Lib.hid hr9
              have Hs9 := Lib.hid (Hsr.out.append hs8)
              have Hl9 : Hid ((ss ++ s8).length + (y - 1).toNat * lb d ≤ 2 + 3 * lb d) := Lib.hid (by rw [List.length_append]; omega)
              have Hn9 : Hid (ss ++ s8 ≠ []) := Lib.hid (by simp [Hne.out])
              clear ho8 hne8 hl8 hs8 hc8 hg8 hO8 K8 hmul hle hcs9 hr9 ho9 hg9
              go_wp2_with (at_builtin; refine wp_app rfl _ _ rfl rfl _ _ rfl rfl HR9.out ?_)
              go_roundw
              case rel => exact ⟨y - 1, ss ++ s8, hO9.out, rfl, by omega, Hn9.out, Hl9.out, Hs9.out, K9.out⟩
              case measure => simp [intOf]; omega
            · go_wp2_with fail
              go_ret
              exact ⟨_, ss, rfl, HOr.out, Hne.out, by have := Hlen.out; rw [lb]; omega, Hsr.out, HKr.out.c, HKr.out.g⟩
        · have hHm := Lib.hid hm0
          go_wp2_with fail
          refine (D.l1Below_any p v n 2 (by omega) (by omega) _ hK0.out.c (HB0.out.kept hK0.out.g)).mono ?_
          rintro e w5 ⟨x5, rfl, hx50, hx51, hC5, hg5⟩
          have K5 := Lib.hid (hK0.out.got hC5 hg5)
          have hO5 := Lib.hid (hS0.out.kept hg5 (by simp only [Value.ownBlock]; intro e; injection e with e; have := HK.out.g.size; omega))
          clear hC5 hg5
          go_wp2_with fail
          refine (l1Int_any x5 (by omega) (by omega) _).mono ?_
          rintro e w6 ⟨rfl, hb6⟩
          have K6 := Lib.hid (K5.out.below hb6)
          have hO6 := Lib.hid (hO5.out.below hb6)
          have Hsh := Lib.hid (itoa_short (x := x5) (by omega) (by omega))
          generalize (⟨(Lib.itoa x5).toArray⟩ : ByteArray) = t at Hsh ⊢
          obtain ⟨v7, w7, hr7, ho7, hg7⟩ := run_appS1 (w6.alloc (.cells #[.string t] 9)) w.heap.size _ [s] (hO6.out.alloc _) w6.heap.size t (by simp [go_sem]) (by simp) (by have := K6.out.g.size; simp; omega)
          have K7 := Lib.hid ((K6.out.alloc (.cells #[.string t] 9)).row hpw hg7 (fun k e => by simp only [Value.ownBlock] at e; injection e with e; have := HK.out.g.size; omega))
          have hO7 := Lib.hid ho7
          have HR7 := Lib.hid hr7
          clear hb6 hr7 ho7 hg7
          go_wp2_with (first | (go_at_call 107; refine (Hcn.out _).mono ?_; rintro e w' ⟨rfl, rfl⟩) | (at_builtin; refine wp_app rfl _ _ rfl rfl _ _ rfl rfl HR7.out ?_))
          go_loopw [8, 9] (fun o q wr => ∃ (y : Int) (ss : List ByteArray), OwS wr w.heap.size o ss ∧ q = .int .i64 y ∧ y ≤ 3 ∧ ss ≠ [] ∧ ss.length + y.toNat * lb d ≤ 2 + 3 * lb d ∧ Short ss ∧ Cu p v n w wr) (fun _ q _ => (intOf q).toNat)
          case atStart => exact ⟨y0, [s, t], hO7.out, rfl, by omega, by simp, by simp; omega, (short_one Hsz.out).append (short_one Hsh.out), K7.out⟩
          case round =>
            obtain ⟨y, ss, hO, rfl, hy3, hne, hlen, hsh, hK⟩ := hrel
            obtain ⟨go1, co1, rfl, hq1, hq2, hgo1, hgw1, _⟩ := hO.form
            have HOr := Lib.hid hO
            have HKr := Lib.hid hK
            have Hne := Lib.hid hne
            have Hsr := Lib.hid hsh
            have Hlen := Lib.hid hlen
            clear hO hK hne hsh hlen hm0
            by_cases hpos : 0 < y
            · go_wp2_with fail
              refine (IH.out (deep - 1) _ wr (by omega) (by omega) HKr.out.c (HB0.out.kept HKr.out.g)).mono ?_
              rintro e w8 ⟨u8, s8, rfl, ho8, hne8, hl8, hs8, hc8, hg8⟩
              have hO8 := HOr.out.kept hg8 (by simp only [Value.ownBlock]; intro e; injection e with e; omega)
              have K8 := HKr.out.got hc8 hg8
              have hmul : y.toNat * lb d = (y - 1).toNat * lb d + lb d := by
                have : y.toNat = (y - 1).toNat + 1 := by omega
                rw [this, Nat.succ_mul]
              have hle := Hlen.out
              rw [hmul] at hle
              obtain ⟨g9, c9, rfl, _, _, hgb9, _, hcs9⟩ := ho8.form
              obtain ⟨v9, w9, hr9, ho9, hg9⟩ := run_appS w8 w.heap.size _ ss hO8 g9 s8 c9 (fun j hj => (hcs9 j hj).1) (by omega) K8.g.size
              have K9 := Lib.hid (K8.row hpw hg9 (fun k e => by simp only [Value.ownBlock] at e; injection e with e; omega))
              have hO9 := Lib.hid ho9
              have HR9 := Lib.hid hr9
              have Hs9 := Lib.hid (Hsr.out.append hs8)
              have Hl9 : Hid ((ss ++ s8).length + (y - 1).toNat * lb d ≤ 2 + 3 * lb d) := Lib.hid (by rw [List.length_append]; omega)
              have Hn9 : Hid (ss ++ s8 ≠ []) := Lib.hid (by simp [Hne.out])
              clear ho8 hne8 hl8 hs8 hc8 hg8 hO8 K8 hmul hle hcs9 hr9 ho9 hg9
              go_wp2_with (at_builtin; refine wp_app rfl _ _ rfl rfl _ _ rfl rfl HR9.out ?_)
              go_roundw
              case rel => exact ⟨y - 1, ss ++ s8, hO9.out, rfl, by omega, Hn9.out, Hl9.out, Hs9.out, K9.out⟩
              case measure => simp [intOf]; omega
            · go_wp2_with fail
              go_ret
              exact ⟨_, ss, rfl, HOr.out, Hne.out, by have := Hlen.out; rw [lb]; omega, Hsr.out, HKr.out.c, HKr.out.g⟩
    · clear HB1
      have HK := K1
      have hnb := needs_bd s.toList
      have hcn := specNeeds_any s (by unfold maxLen; omega)
      obtain ⟨y0, hy0⟩ : ∃ y0, needs s.toList = y0 := ⟨_, rfl⟩
      rw [hy0] at hcn hnb
      have Hcn := Lib.hid hcn
      have Hsz := Lib.hid hsz
      have hS0 : Hid (OwS (w1.alloc (.cells #[.string s] 9)) w.heap.size (.slice (some ⟨w1.heap.size, 0, none⟩) 1 1) [s]) := Lib.hid (owS_lit w1 w.heap.size [s] HK.out.g.size (by simp))
      have hK0 := Lib.hid (HK.out.alloc (.cells #[.string s] 9))
      have hm0 := Nat.mul_le_mul_right (lb d) (show y0.toNat ≤ 3 by omega)
      clear hcn hy0 hsz
      cases htb : (s.toList == [98, 105, 110, 100])
      · go_wp2_with (go_at_call 107; refine (Hcn.out _).mono ?_; rintro e w' ⟨rfl, rfl⟩)
        go_loopw [8, 9] (fun o q wr => ∃ (y : Int) (ss : List ByteArray), OwS wr w.heap.size o ss ∧ q = .int .i64 y ∧ y ≤ 3 ∧ ss ≠ [] ∧ ss.length + y.toNat * lb d ≤ 2 + 3 * lb d ∧ Short ss ∧ Cu p v n w wr) (fun _ q _ => (intOf q).toNat)
        case atStart => exact ⟨y0, [s], hS0.out, rfl, by omega, by simp, by simp; omega, short_one Hsz.out, hK0.out⟩
        case round =>
          obtain ⟨y, ss, hO, rfl, hy3, hne, hlen, hsh, hK⟩ := hrel
          obtain ⟨go1, co1, rfl, hq1, hq2, hgo1, hgw1, _⟩ := hO.form
          have HOr := Lib.hid hO
          have HKr := Lib.hid hK
          have Hne := Lib.hid hne
          have Hsr := Lib.hid hsh
          have Hlen := Lib.hid hlen
          clear hO hK hne hsh hlen hm0
          by_cases hpos : 0 < y
          · go_wp2_with fail
            refine (IH.out (deep - 1) _ wr (by omega) (by omega) HKr.out.c (HB0.out.kept HKr.out.g)).mono ?_
            rintro e w8 ⟨u8, s8, rfl, ho8, hne8, hl8, hs8, hc8, hg8⟩
            have hO8 := HOr.out.kept hg8 (by simp only [Value.ownBlock]; intro e; injection e with e; omega)
            have K8 := HKr.out.got hc8 hg8
            have hmul : y.toNat * lb d = (y - 1).toNat * lb d + lb d := by
              have : y.toNat = (y - 1).toNat + 1 := by omega
              rw [this, Nat.succ_mul]
            have hle := Hlen.out
            rw [hmul] at hle
            obtain ⟨g9, c9, rfl, _, _, hgb9, _, hcs9⟩ := ho8.form
            obtain ⟨v9, w9, hr9, ho9, hg9⟩ := run_appS w8 w.heap.size _ ss hO8 g9 s8 c9 (fun j hj => (hcs9 j hj).1) (by omega) K8.g.size
            have K9 := Lib.hid (K8.row hpw hg9 (fun k e => by simp only [Value.ownBlock] at e; injection e with e; omega))
            have hO9 := Lib.hid ho9
            have HR9 := Lib.hid hr9
            have Hs9 := Lib.hid (Hsr.out.append hs8)
            have Hl9 : Hid ((ss ++ s8).length + (y - 1).toNat * lb d ≤ 2 + 3 * lb d) := Lib.hid (by rw [List.length_append]; omega)
            have Hn9 : Hid (ss ++ s8 ≠ []) := Lib.hid (by simp [Hne.out])
            clear ho8 hne8 hl8 hs8 hc8 hg8 hO8 K8 hmul hle hcs9 hr9 ho9 hg9
            go_wp2_with (at_builtin; refine wp_app rfl _ _ rfl rfl _ _ rfl rfl HR9.out ?_)
            go_roundw
            case rel => exact ⟨y - 1, ss ++ s8, hO9.out, rfl, by omega, Hn9.out, Hl9.out, Hs9.out, K9.out⟩
            case measure => simp [intOf]; omega
          · go_wp2_with fail
            go_ret
            exact ⟨_, ss, rfl, HOr.out, Hne.out, by have := Hlen.out; rw [lb]; omega, Hsr.out, HKr.out.c, HKr.out.g⟩
      · have hHm := Lib.hid hm0
        go_wp2_with fail
        refine (D.l1Below_any p v n 2 (by omega) (by omega) _ hK0.out.c (HB0.out.kept hK0.out.g)).mono ?_
        rintro e w5 ⟨x5, rfl, hx50, hx51, hC5, hg5⟩
        have K5 := Lib.hid (hK0.out.got hC5 hg5)
        have hO5 := Lib.hid (hS0.out.kept hg5 (by simp only [Value.ownBlock]; intro e; injection e with e; have := HK.out.g.size; omega))
        clear hC5 hg5
        go_wp2_with fail
        refine (l1Int_any x5 (by omega) (by omega) _).mono ?_
        rintro e w6 ⟨rfl, hb6⟩
        have K6 := Lib.hid (K5.out.below hb6)
        have hO6 := Lib.hid (hO5.out.below hb6)
        have Hsh := Lib.hid (itoa_short (x := x5) (by omega) (by omega))
        generalize (⟨(Lib.itoa x5).toArray⟩ : ByteArray) = t at Hsh ⊢
        obtain ⟨v7, w7, hr7, ho7, hg7⟩ := run_appS1 (w6.alloc (.cells #[.string t] 9)) w.heap.size _ [s] (hO6.out.alloc _) w6.heap.size t (by simp [go_sem]) (by simp) (by have := K6.out.g.size; simp; omega)
        have K7 := Lib.hid ((K6.out.alloc (.cells #[.string t] 9)).row hpw hg7 (fun k e => by simp only [Value.ownBlock] at e; injection e with e; have := HK.out.g.size; omega))
        have hO7 := Lib.hid ho7
        have HR7 := Lib.hid hr7
        clear hb6 hr7 ho7 hg7
        go_wp2_with (first | (go_at_call 107; refine (Hcn.out _).mono ?_; rintro e w' ⟨rfl, rfl⟩) | (at_builtin; refine wp_app rfl _ _ rfl rfl _ _ rfl rfl HR7.out ?_))
        go_loopw [8, 9] (fun o q wr => ∃ (y : Int) (ss : List ByteArray), OwS wr w.heap.size o ss ∧ q = .int .i64 y ∧ y ≤ 3 ∧ ss ≠ [] ∧ ss.length + y.toNat * lb d ≤ 2 + 3 * lb d ∧ Short ss ∧ Cu p v n w wr) (fun _ q _ => (intOf q).toNat)
        case atStart => exact ⟨y0, [s, t], hO7.out, rfl, by omega, by simp, by simp; omega, (short_one Hsz.out).append (short_one Hsh.out), K7.out⟩
        case round =>
          obtain ⟨y, ss, hO, rfl, hy3, hne, hlen, hsh, hK⟩ := hrel
          obtain ⟨go1, co1, rfl, hq1, hq2, hgo1, hgw1, _⟩ := hO.form
          have HOr := Lib.hid hO
          have HKr := Lib.hid hK
          have Hne := Lib.hid hne
          have Hsr := Lib.hid hsh
          have Hlen := Lib.hid hlen
          clear hO hK hne hsh hlen hm0
          by_cases hpos : 0 < y
          · go_wp2_with fail
            refine (IH.out (deep - 1) _ wr (by omega) (by omega) HKr.out.c (HB0.out.kept HKr.out.g)).mono ?_
            rintro e w8 ⟨u8, s8, rfl, ho8, hne8, hl8, hs8, hc8, hg8⟩
            have hO8 := HOr.out.kept hg8 (by simp only [Value.ownBlock]; intro e; injection e with e; omega)
            have K8 := HKr.out.got hc8 hg8
            have hmul : y.toNat * lb d = (y - 1).toNat * lb d + lb d := by
              have : y.toNat = (y - 1).toNat + 1 := by omega
              rw [this, Nat.succ_mul]
            have hle := Hlen.out
            rw [hmul] at hle
            obtain ⟨g9, c9, rfl, _, _, hgb9, _, hcs9⟩ := ho8.form
            obtain ⟨v9, w9, hr9, ho9, hg9⟩ := run_appS w8 w.heap.size _ ss hO8 g9 s8 c9 (fun j hj => (hcs9 j hj).1) (by omega) K8.g.size
            have K9 := Lib.hid (K8.row hpw hg9 (fun k e => by simp only [Value.ownBlock] at e; injection e with e; omega))
            have hO9 := Lib.hid ho9
            have HR9 := Lib.hid hr9
            have Hs9 := Lib.hid (Hsr.out.append hs8)
            have Hl9 : Hid ((ss ++ s8).length + (y - 1).toNat * lb d ≤ 2 + 3 * lb d) := Lib.hid (by rw [List.length_append]; omega)
            have Hn9 : Hid (ss ++ s8 ≠ []) := Lib.hid (by simp [Hne.out])
            clear ho8 hne8 hl8 hs8 hc8 hg8 hO8 K8 hmul hle hcs9 hr9 ho9 hg9
            go_wp2_with (at_builtin; refine wp_app rfl _ _ rfl rfl _ _ rfl rfl HR9.out ?_)
            go_roundw
            case rel => exact ⟨y - 1, ss ++ s8, hO9.out, rfl, by omega, Hn9.out, Hl9.out, Hs9.out, K9.out⟩
            case measure => simp [intOf]; omega
          · go_wp2_with fail
            go_ret
            exact ⟨_, ss, rfl, HOr.out, Hne.out, by have := Hlen.out; rw [lb]; omega, Hsr.out, HKr.out.c, HKr.out.g⟩
  · clear IH
    go_wp2_with fail
    refine (D.l1Below_any p v n 4 (by omega) (by omega) _ HCz.out HBz.out).mono ?_
    rintro e w1 ⟨x, rfl, hx0, hx1, hC1, hg1⟩
    have K1 := Lib.hid (KZ.out.got hC1 hg1)
    have HB1 := Lib.hid (HB0.out.kept K1.out.g)
    have HC1 := Lib.hid hC1
    clear hC1 hg1
    by_cases hz : x = 0
    · have hz1 : (x == 0) = true := by simpa using hz
      have Hz := Lib.hid hz
      clear hz
      go_wp2_with fail
      go_ret
      exact ⟨_, _, rfl, owS_lit w1 w.heap.size [⟨#[97, 114, 103]⟩] K1.out.g.size (by simp), by simp, by simp; omega, short_one (by decide), HC1.out.alloc _, D.grown_alloc K1.out.g _⟩
    · have hz1 : (x == 0) = false := by simpa using hz
      by_cases ho : x = 1
      · have ho1 : (x == 1) = true := by simpa using ho
        have Hz := Lib.hid hz
        have Ho := Lib.hid ho
        clear hz ho
        go_wp2_with fail
        refine (D.l1Below_any p v n 2 (by omega) (by omega) _ HC1.out HB1.out).mono ?_
        rintro e w2 ⟨y, rfl, hy0, hy1, hC2, hg2⟩
        have K2 := Lib.hid (K1.out.got hC2 hg2)
        clear hC2 hg2
        go_wp2_with fail
        refine (l1Int_any y (by omega) (by omega) _).mono ?_
        rintro e w3 ⟨rfl, hb3⟩
        have K3 := Lib.hid (K2.out.below hb3)
        have Hsh := Lib.hid (itoa_short (x := y) (by omega) (by omega))
        generalize (⟨(Lib.itoa y).toArray⟩ : ByteArray) = t at Hsh ⊢
        clear hb3
        go_wp2_with fail
        go_ret
        exact ⟨_, _, rfl, owS_lit w3 w.heap.size [⟨#[97, 115, 107]⟩, t] K3.out.g.size (by simp), by simp, by simpa using hL2, (short_one (s := ⟨#[97, 115, 107]⟩) (by decide)).append (short_one Hsh.out), K3.out.c.alloc _, D.grown_alloc K3.out.g _⟩
      · have ho1 : (x == 1) = false := by simpa using ho
        have Hz := Lib.hid hz
        have Ho := Lib.hid ho
        clear hz ho
        go_wp2_with fail
        refine (D.l1Below_any p v n 9 (by omega) (by omega) _ HC1.out HB1.out).mono ?_
        rintro e w2 ⟨y, rfl, hy0, hy1, hC2, hg2⟩
        have K2 := Lib.hid (K1.out.got hC2 hg2)
        clear hC2 hg2
        go_wp2_with fail
        refine (l1Int_any (y - 2) (by omega) (by omega) _).mono ?_
        rintro e w3 ⟨rfl, hb3⟩
        have K3 := Lib.hid (K2.out.below hb3)
        have Hsh := Lib.hid (itoa_short (x := y - 2) (by omega) (by omega))
        generalize (⟨(Lib.itoa (y - 2)).toArray⟩ : ByteArray) = t at Hsh ⊢
        clear hb3
        go_wp2_with fail
        go_ret
        exact ⟨_, _, rfl, owS_lit w3 w.heap.size [t] K3.out.g.size (by simp), by simp, by simp; omega, short_one Hsh.out, K3.out.c.alloc _, D.grown_alloc K3.out.g _⟩

end L2
end Go.Proofs.YtkhjbhkbknennaaGreatDoor

/-
  The draws: a sum that is not too long.
-/
namespace Go.Proofs.YtkhjbhkbknennaaGreatDoor
open Go.RowKit
namespace L2
open S1 L1

theorem l2Draw_any (p : Nat) (v : Value) (n : Nat) (d : Nat) (hd6 : d ≤ 5) : ∀ (deep : Int) (b : Bool) (w : World), deep ≤ (d : Int) → -1000 ≤ deep → D.Cur w p v n → D.Bytes w p v n →
    Calls Tryz.prog 71 #[.pointer (some ⟨p, 0, none⟩), .int .i64 deep, .bool b] w (DrewL p v n (lb d) w) := by
  induction d with
  | zero => intro deep b w hd _ hC hB; exact draw_zero p v n _ (lb_two 0) deep b w (by omega) hC hB
  | succ d ih =>
    intro deep b w hd _ hC hB
    by_cases h0 : deep ≤ 0
    · exact draw_zero p v n _ (lb_two _) deep b w h0 hC hB
    · exact draw_pos p v n d (by omega) (Lib.hid (ih (by omega))) deep b w (by omega) (by omega) hC hB

set_option maxRecDepth 100000 in
set_option maxHeartbeats 4000000 in
theorem l2DrawSum_any (p : Nat) (v : Value) (n : Nat) (b : Bool) (w : World) (hC : D.Cur w p v n) (hB : D.Bytes w p v n) :
    Calls Tryz.prog 28 #[.pointer (some ⟨p, 0, none⟩), .bool b] w (DrewL p v n 60 w) := by
  have hC0 := Lib.hid hC
  have HB0 := Lib.hid hB
  have hpw := hC.lt
  clear hC hB
  go_enter Tryz.func28, Tryz.ntmps28
  go_wp2_with fail
  refine (D.l1Below_any p v n 4 (by omega) (by omega) _ hC0.out HB0.out).mono ?_
  rintro e w1 ⟨x, rfl, hx0, hx1, hC1, hg1⟩
  have K1 := Lib.hid ((Cu.start hC0.out).got hC1 hg1)
  clear hC1 hg1
  go_wp2_with fail
  refine (l2Draw_any p v n 4 (by omega) _ _ w1 (by omega) (by omega) K1.out.c (HB0.out.kept K1.out.g)).mono ?_
  rintro e w2 ⟨u2, s2, rfl, ho2, hne2, hl2, hs2, hc2, hg2⟩
  have K2 := Lib.hid (K1.out.got hc2 hg2)
  have HO2 := Lib.hid (ho2.base K1.out.g.size)
  have Hne2 := Lib.hid hne2
  have Hs2 := Lib.hid hs2
  have hl4 : lb 4 ≤ 1000 := by decide
  have Hl2 := Lib.hid (Nat.le_trans hl2 hl4)
  clear ho2 hne2 hl2 hs2 hc2 hg2 hl4
  go_wp2_with fail
  go_loopw [5, 6] (fun o q wr => ∃ (y : Int) (ss : List ByteArray), OwS wr w.heap.size o ss ∧ q = .int .i64 y ∧ y ≤ 3 ∧ ss ≠ [] ∧ ss.length ≤ 1000 ∧ Short ss ∧ Cu p v n w wr) (fun _ q _ => (intOf q).toNat)
  case atStart => exact ⟨3, s2, HO2.out, rfl, by omega, Hne2.out, Hl2.out, Hs2.out, K2.out⟩
  case round =>
    obtain ⟨y, ss, hO, rfl, hy3, hne, hlen, hsh, hK⟩ := hrel
    obtain ⟨go1, co1, rfl, hq1, hq2, hgo1, hgw1, _⟩ := hO.form
    have HOr := Lib.hid hO
    have HKr := Lib.hid hK
    have Hne := Lib.hid hne
    have Hsr := Lib.hid hsh
    obtain ⟨m, hm⟩ : ∃ m, ss.length = m := ⟨_, rfl⟩
    rw [hm] at hlen hq1 ⊢
    have Hm := Lib.hid hm
    clear hO hK hne hsh hm
    by_cases hbig : 60 < m
    · have hbi : (60 : Int) < (m : Int) := by omega
      by_cases hpos : 0 < y
      · go_wp2_with fail
        refine (l2Draw_any p v n 4 (by omega) _ _ wr (by omega) (by omega) HKr.out.c (HB0.out.kept HKr.out.g)).mono ?_
        rintro e w8 ⟨u8, s8, rfl, ho8, hne8, hl8, hs8, hc8, hg8⟩
        have K8 := Lib.hid (HKr.out.got hc8 hg8)
        have HO8 := Lib.hid (ho8.base HKr.out.g.size)
        have Hne8 := Lib.hid hne8
        have Hs8 := Lib.hid hs8
        have hl4 : lb 4 ≤ 1000 := by decide
        have Hl8 := Lib.hid (Nat.le_trans hl8 hl4)
        clear ho8 hne8 hl8 hs8 hc8 hg8 hl4
        go_wp2_with fail
        go_roundw
        case rel => exact ⟨y - 1, s8, HO8.out, rfl, by omega, Hne8.out, Hl8.out, Hs8.out, K8.out⟩
        case measure => simp [intOf]; omega
      · go_wp2_with fail
        go_ret
        exact ⟨_, [⟨#[115, 97, 121]⟩, ⟨#[49]⟩], rfl, owS_lit wr w.heap.size [⟨#[115, 97, 121]⟩, ⟨#[49]⟩] HKr.out.g.size (by simp), by simp, by simp, (short_one (s := ⟨#[115, 97, 121]⟩) (by decide)).append (short_one (by decide)), HKr.out.c.alloc _, D.grown_alloc HKr.out.g _⟩
    · have hbi : ¬ (60 : Int) < (m : Int) := by omega
      have hbd : decide ((60 : Int) < (m : Int)) = false := by simp; omega
      by_cases hpos : 0 < y
      all_goals
        go_wp2_with fail
        go_ret
        exact ⟨_, ss, rfl, by have := HOr.out; rw [Hm.out] at this; exact this, Hne.out, by have := Hm.out; omega, Hsr.out, HKr.out.c, HKr.out.g⟩

end L2
end Go.Proofs.YtkhjbhkbknennaaGreatDoor

/-
  The draws: rows of words set, cut and laid together.
-/
namespace Go.Proofs.YtkhjbhkbknennaaGreatDoor
open Go.RowKit
namespace L2
open S1 L1

/-- Appending words that lie at an address, whatever it is. -/
theorem run_appSA (w : World) (B : Nat) (v : Value) (xs : List ByteArray) (hown : OwS w B v xs) (ad : Addr) (ys : List ByteArray) (c : Nat)
    (hsrc : ∀ j, j < ys.length → w.cell? (ad.add j) = some (.string (ys.getD j ByteArray.empty))) (hs : xs.length + ys.length ≤ 1000000) (hB : B ≤ w.heap.size) :
    ∃ v' w', (Builtin.append_ #[24, 24] 24 #[v, .slice (some ad) ys.length c]).run Tryz.prog w = .ok v' w' ∧ OwS w' B v' (xs ++ ys) ∧ w.grownBy w' v.ownBlock := by
  obtain ⟨ho, hn⟩ := hown
  obtain ⟨i, hi, hz, hsz, hby⟩ := str_info
  obtain ⟨v', w', hr, h2, h3, h4, h5⟩ := run_append_own_at (P := Tryz.prog) w B 24 24 9 i (.string ByteArray.empty) 1 16 Tryz.underlying24 hi hz hsz hby rfl (by omega) v xs.length _ ho ad ys.length c (ys.map Value.string) (by simp)
    (fun j u hj => by
      simp only [List.getElem?_map, Option.map_eq_some_iff] at hj
      obtain ⟨a, ha, rfl⟩ := hj
      have hlt := (List.getElem?_eq_some_iff.1 ha).1
      have := hsrc j hlt
      simpa [List.getD, ha] using this)
    (fun u hu => by
      simp only [List.mem_map] at hu
      obtain ⟨a, _, rfl⟩ := hu
      rfl) (by unfold maxLen; omega) (by omega) hB
  refine ⟨v', w', hr, ⟨?_, fun e => hn (h4.1 e).1⟩, h3⟩
  rw [List.map_append, List.length_append]
  exact h2

theorem OwS.drew {w : World} {B : Nat} {v : Value} {xs : List ByteArray} (h : OwS w B v xs) : OwS w.drew B v xs := h

/-- The first k of them. -/
theorem OwS.take {w : World} {B g m cap : Nat} {xs : List ByteArray} (h : OwS w B (.slice (some ⟨g, 0, none⟩) m cap) xs) (k : Nat) (hk : k ≤ xs.length) : OwS w B (.slice (some ⟨g, 0, none⟩) k cap) (xs.take k) := by
  obtain ⟨ho, _⟩ := h
  have hlen : (xs.take k).length = k := by simp; omega
  refine ⟨⟨by simp, Or.inr ?_⟩, by simp⟩
  rcases ho.2 with ⟨hv, _⟩ | ⟨g', cap', cur, hv, hb, hg, h1, h2, hs, ht⟩
  · cases hv
  · cases hv
    refine ⟨g, cap, cur, by rw [hlen], hb, hg, by rw [hlen]; omega, h2, hs, ?_⟩
    rw [hlen, List.map_take, ← ht]
    rw [List.take_take]
    congr 1
    omega
/-- One of them set anew. -/
theorem OwS.set {w : World} {B g m cap : Nat} {xs : List ByteArray} (h : OwS w B (.slice (some ⟨g, 0, none⟩) m cap) xs) (k : Nat) (t : ByteArray) : OwS (w.setCell ⟨g, k, none⟩ (.string t)) B (.slice (some ⟨g, 0, none⟩) m cap) (xs.set k t) := by
  obtain ⟨ho, _⟩ := h
  refine ⟨⟨by simp, Or.inr ?_⟩, by simp⟩
  rcases ho.2 with ⟨hv, _⟩ | ⟨g', cap', cur, hv, hb, hg, h1, h2, hs, ht⟩
  · cases hv
  · cases hv
    refine ⟨g, cap, cur.setIfInBounds k (.string t), by simp, hb, D.set_block hg, by simpa using h1, h2, by simpa using hs, ?_⟩
    rw [List.length_set, Array.toList_setIfInBounds, List.take_set, ht, List.map_set]
theorem OwS.mem {w : World} {B g cap n : Nat} {xs : List ByteArray} (h : OwS w B (.slice (some ⟨g, 0, none⟩) n cap) xs) : Mem w g (xs.map Value.string) := by
  obtain ⟨g', cap', hv, _, _, _, hlt, hc⟩ := h.form
  cases hv
  refine ⟨hlt, fun j hj => ?_⟩
  have hj' : j < xs.length := by simpa using hj
  have := hc j hj'
  simpa [List.getD, hj'] using this
theorem Short.set {ss : List ByteArray} (h : Short ss) (k : Nat) {t : ByteArray} (ht : t.size ≤ 20) : Short (ss.set k t) := fun s hs => by
  rcases List.mem_or_eq_of_mem_set hs with h1 | h1
  · exact h s h1
  · rw [h1]; exact ht
theorem Short.take {ss : List ByteArray} (h : Short ss) (k : Nat) : Short (ss.take k) := fun s hs => h s (List.mem_of_mem_take hs)
theorem Short.drop {ss : List ByteArray} (h : Short ss) (k : Nat) : Short (ss.drop k) := fun s hs => h s (List.mem_of_mem_drop hs)

/-- 'append', where the run of it is known: a step of a region that draws its order. -/
theorem step_run {T : TypeId} {ops : Array Oper} {o : Oper} {a : Act} {w : World} {K : Act → World → Prop} {Q : Exit → Act → World → Prop} {E : Prop} (hgd : o.guard = none) (s x : Operand)
    (ho : o.op = .call { callee := .builtin .append, args := #[s, x], argTypes := #[T, T] }) (hty : o.type = T) (v u : Value) (hs : a.eval s = v) (hx : a.eval x = u)
    {v' : Value} {w' : World} (hr : (Builtin.append_ #[T, T] T #[v, u]).run Tryz.prog w = .ok v' w') (h : K (a.put o.dst v') w') :
    if Region.wanted o (yielded ops a.tmps) = true then Oper.wp Tryz.prog o a w K Q else E := by
  have hw : Region.wanted o (yielded ops a.tmps) = true := by simp [Region.wanted, hgd]
  rw [if_pos hw]
  unfold Oper.wp execOp
  simp only [ho, hty, resolve, invoke, builtin, Sem.run_bind, Sem.run_pure, Result.andThen_ok, List.map_toArray, List.map_cons, List.map_nil, hs, hx, hr]
  exact h

end L2
end Go.Proofs.YtkhjbhkbknennaaGreatDoor

/-
  The draws: a list of words, mostly a sum.
-/
namespace Go.Proofs.YtkhjbhkbknennaaGreatDoor
open Go.RowKit
namespace L2
open S1 L1

theorem words7 : ∀ j, j < 7 → ∃ s : ByteArray, (#[Value.string ⟨#[]⟩, Value.string ⟨#[119, 104, 97, 116]⟩, Value.string ⟨#[49, 48, 48, 48, 48, 48, 48]⟩, Value.string ⟨#[49, 48, 48, 48, 48, 48, 49]⟩, Value.string ⟨#[97, 114, 103]⟩, Value.string ⟨#[105, 102]⟩, Value.string ⟨#[52]⟩] : Array Value)[j]? = some (.string s) ∧ s.size ≤ 20 := by
  intro j hj
  match j, hj with
  | 0, _ => exact ⟨_, rfl, by decide⟩
  | 1, _ => exact ⟨_, rfl, by decide⟩
  | 2, _ => exact ⟨_, rfl, by decide⟩
  | 3, _ => exact ⟨_, rfl, by decide⟩
  | 4, _ => exact ⟨_, rfl, by decide⟩
  | 5, _ => exact ⟨_, rfl, by decide⟩
  | 6, _ => exact ⟨_, rfl, by decide⟩
  | k + 7, hj => omega

/-- What a draw of words leaves, a sum or not. -/
def DrewA (p : Nat) (v : Value) (n : Nat) (w : World) (e : Ending) (w' : World) : Prop :=
  ∃ u ss, e = .returned u ∧ OwS w' w.heap.size u ss ∧ ss.length ≤ 100 ∧ Short ss ∧ D.Cur w' p v n ∧ w.grownBy w' (some p)

set_option maxRecDepth 100000 in
set_option maxHeartbeats 8000000 in
theorem l2DrawAny_any (p : Nat) (v : Value) (n : Nat) (w : World) (hC : D.Cur w p v n) (hB : D.Bytes w p v n) :
    Calls Tryz.prog 30 #[.pointer (some ⟨p, 0, none⟩)] w (DrewA p v n w) := by
  have hC0 := Lib.hid hC
  have HB0 := Lib.hid hB
  have hpw := hC.lt
  clear hC hB
  go_enter Tryz.func30, Tryz.ntmps30
  go_wp2_with fail
  refine (D.l1Once_any p v n 2 (by omega) (by omega) _ hC0.out HB0.out).mono ?_
  rintro e w1 ⟨b1, rfl, hC1, hg1⟩
  have K1 := Lib.hid ((Cu.start hC0.out).got hC1 hg1)
  clear hC1 hg1
  go_wp2_with fail
  refine (l2DrawSum_any p v n b1 w1 K1.out.c (HB0.out.kept K1.out.g)).mono ?_
  rintro e w2 ⟨u2, s2, rfl, ho2, hne2, hl2, hs2, hc2, hg2⟩
  have K2 := Lib.hid (K1.out.got hc2 hg2)
  have HO2a := Lib.hid (ho2.base K1.out.g.size)
  have Hs2 := Lib.hid hs2
  obtain ⟨G, C, rfl, hq1, hq2, hG0, hG1, _⟩ := HO2a.out.form
  have hpos : 0 < s2.length := by
    cases s2 with
    | nil => exact absurd rfl hne2
    | cons a r => simp
  obtain ⟨m, hm⟩ : ∃ m, s2.length = m := ⟨_, rfl⟩
  rw [hm] at hl2 hpos hq1 HO2a ⊢
  have Hm := Lib.hid hm
  unfold maxLen at hq2
  clear ho2 hne2 hs2 hc2 hg2 hm
  go_wp2_with fail
  refine (D.l1Once_any p v n 4 (by omega) (by omega) _ K2.out.c (HB0.out.kept K2.out.g)).mono ?_
  rintro e w3 ⟨b3, rfl, hC3, hg3⟩
  have K3 := Lib.hid (K2.out.got hC3 hg3)
  have HO3a := Lib.hid (HO2a.out.kept hg3 (by simp only [Value.ownBlock]; intro e; injection e with e; omega))
  clear hC3 hg3
  cases b3
  · clear HO2a
    go_wp2_with fail
    refine (D.l1Once_any p v n 40 (by omega) (by omega) _ K3.out.c (HB0.out.kept K3.out.g)).mono ?_
    rintro e wz ⟨bz, rfl, hCz, hgz⟩
    have KZ := Lib.hid (K3.out.got hCz hgz)
    cases bz
    · have HOZ := Lib.hid (HO3a.out.kept hgz (by simp only [Value.ownBlock]; intro e; injection e with e; omega))
      clear hCz hgz
      go_wp2_with fail
      go_ret
      exact ⟨_, _, rfl, HOZ.out, by rw [Hm.out]; omega, Hs2.out, KZ.out.c, KZ.out.g⟩
    · clear hCz hgz
      go_wp2_with fail
      have hO0 := owS_new wz w.heap.size KZ.out.g.size
      have hK0 := KZ.out.alloc (.cells #[] 9)
      generalize Value.slice (some ⟨wz.heap.size, 0, none⟩) 0 0 = v0 at hO0 ⊢
      generalize wz.alloc (.cells #[] 9) = w0 at hO0 hK0 ⊢
      have HO0 := Lib.hid hO0
      have HK0 := Lib.hid hK0
      clear hO0 hK0
      refine (D.l1Below_any p v n 3 (by omega) (by omega) _ HK0.out.c (HB0.out.kept HK0.out.g)).mono ?_
      rintro e w1 ⟨x1, rfl, hx10, hx11, hC1, hg1⟩
      obtain ⟨g0, c0, hv0, _, _, hg0, _, _⟩ := HO0.out.form
      have HO1 := Lib.hid (HO0.out.kept hg1 (by rw [hv0]; simp only [Value.ownBlock]; intro e; injection e with e; omega))
      have K1 := Lib.hid (HK0.out.got hC1 hg1)
      clear hC1 hg1 hv0
      go_wp2_with fail
      go_loopw [3, 5] (fun o q wr => ∃ (y : Int) (ss : List ByteArray), OwS wr w.heap.size o ss ∧ q = .int .i64 y ∧ y ≤ 61 ∧ (ss.length : Int) + y ≤ 61 ∧ 1 ≤ y ∧ Short ss ∧ Cu p v n w wr) (fun _ q _ => (intOf q).toNat)
      case atStart => exact ⟨59 + x1, [], HO1.out, rfl, by omega, by simp; omega, by omega, (by intro s hs; cases hs), K1.out⟩
      case round =>
        obtain ⟨y, ss, hO, rfl, hy3, hlen, hy1, hsh, hK⟩ := hrel
        obtain ⟨go1, co1, rfl, hq1, hq2, hgo1, hgw1, _⟩ := hO.form
        have HOr := Lib.hid hO
        have HKr := Lib.hid hK
        have Hsr := Lib.hid hsh
        clear hO hK hsh
        by_cases hpos : 1 < y
        · obtain ⟨v3, w3, hr3, ho3, hg3⟩ := run_appS1 (wr.alloc (.cells #[.string ⟨#[115, 97, 121]⟩] 9)) w.heap.size _ ss (HOr.out.alloc _) wr.heap.size ⟨#[115, 97, 121]⟩ (by simp [go_sem]) (by omega) (by have := HKr.out.g.size; simp; omega)
          have K3 := Lib.hid ((HKr.out.alloc (.cells #[.string ⟨#[115, 97, 121]⟩] 9)).row hpw hg3 (fun k e => by simp only [Value.ownBlock] at e; injection e with e; omega))
          have HO3 := Lib.hid ho3
          have HR3 := Lib.hid hr3
          clear hr3 ho3 hg3
          go_wp2_with (at_builtin; refine wp_app rfl _ _ rfl rfl _ _ rfl rfl HR3.out ?_)
          go_roundw
          case rel => exact ⟨y - 1, ss ++ [⟨#[115, 97, 121]⟩], HO3.out, rfl, by omega, by rw [List.length_append]; simp; omega, by omega, Hsr.out.append (short_one (by decide)), K3.out⟩
          case measure => simp [intOf]; omega
        · obtain ⟨v3, w3, hr3, ho3, hg3⟩ := run_appS1 (wr.alloc (.cells #[.string ⟨#[49]⟩] 9)) w.heap.size _ ss (HOr.out.alloc _) wr.heap.size ⟨#[49]⟩ (by simp [go_sem]) (by omega) (by have := HKr.out.g.size; simp; omega)
          have K3 := Lib.hid ((HKr.out.alloc (.cells #[.string ⟨#[49]⟩] 9)).row hpw hg3 (fun k e => by simp only [Value.ownBlock] at e; injection e with e; omega))
          have HO3 := Lib.hid ho3
          have HR3 := Lib.hid hr3
          clear hr3 ho3 hg3
          go_wp2_with (at_builtin; refine wp_app rfl _ _ rfl rfl _ _ rfl rfl HR3.out ?_)
          go_ret
          exact ⟨_, _, rfl, HO3.out, by rw [List.length_append]; simp; omega, Hsr.out.append (short_one (by decide)), K3.out.c, K3.out.g⟩
  · go_wp2_with fail
    refine (D.l1Below_any p v n (m : Int) (by omega) (by omega) _ K3.out.c (HB0.out.kept K3.out.g)).mono ?_
    rintro e w4 ⟨k', rfl, hk0, hk1, hC4, hg4⟩
    have K4 := Lib.hid (K3.out.got hC4 hg4)
    have HO4a := Lib.hid (HO3a.out.kept hg4 (by simp only [Value.ownBlock]; intro e; injection e with e; omega))
    clear hC4 hg4
    obtain ⟨k, rfl⟩ : ∃ k : Nat, k' = (k : Int) := ⟨k'.toNat, by omega⟩
    have hkm : k < m := by omega
    go_wp2_with fail
    refine (D.l1Below_any p v n 4 (by omega) (by omega) _ K4.out.c (HB0.out.kept K4.out.g)).mono ?_
    rintro e w5 ⟨z, rfl, hz0, hz1, hC5, hg5⟩
    have K5 := Lib.hid (K4.out.got hC5 hg5)
    have HO5a := Lib.hid (HO4a.out.kept hg5 (by simp only [Value.ownBlock]; intro e; injection e with e; omega))
    clear hC5 hg5 HO2a HO3a HO4a
    have hz : z = 0 ∨ z = 1 ∨ z = 2 ∨ z = 3 := by omega
    rcases hz with rfl | rfl | rfl | rfl
    · go_wp2_with fail
      have hcells : ∀ j, j < 7 → ∃ s : ByteArray, (w5.alloc (.cells #[Value.string ⟨#[]⟩, Value.string ⟨#[119, 104, 97, 116]⟩, Value.string ⟨#[49, 48, 48, 48, 48, 48, 48]⟩, Value.string ⟨#[49, 48, 48, 48, 48, 48, 49]⟩, Value.string ⟨#[97, 114, 103]⟩, Value.string ⟨#[105, 102]⟩, Value.string ⟨#[52]⟩] 9)).cell? ⟨w5.heap.size, j, none⟩ = some (.string s) ∧ s.size ≤ 20 := fun j hj => by
        obtain ⟨s, hs, hz⟩ := words7 j hj
        exact ⟨s, lit_cell w5 _ _ j hs, hz⟩
      have KA := Lib.hid (K5.out.alloc (.cells #[Value.string ⟨#[]⟩, Value.string ⟨#[119, 104, 97, 116]⟩, Value.string ⟨#[49, 48, 48, 48, 48, 48, 48]⟩, Value.string ⟨#[49, 48, 48, 48, 48, 48, 49]⟩, Value.string ⟨#[97, 114, 103]⟩, Value.string ⟨#[105, 102]⟩, Value.string ⟨#[52]⟩] 9))
      have HOA := Lib.hid (HO5a.out.alloc (.cells #[Value.string ⟨#[]⟩, Value.string ⟨#[119, 104, 97, 116]⟩, Value.string ⟨#[49, 48, 48, 48, 48, 48, 48]⟩, Value.string ⟨#[49, 48, 48, 48, 48, 48, 49]⟩, Value.string ⟨#[97, 114, 103]⟩, Value.string ⟨#[105, 102]⟩, Value.string ⟨#[52]⟩] 9))
      have hne : some w5.heap.size ≠ some p := by intro e; injection e with e; have := K5.out.c.lt; omega
      have Hcells := Lib.hid hcells
      have Hne := Lib.hid hne
      clear hcells hne HO5a
      generalize w5.alloc (.cells #[Value.string ⟨#[]⟩, Value.string ⟨#[119, 104, 97, 116]⟩, Value.string ⟨#[49, 48, 48, 48, 48, 48, 48]⟩, Value.string ⟨#[49, 48, 48, 48, 48, 48, 49]⟩, Value.string ⟨#[97, 114, 103]⟩, Value.string ⟨#[105, 102]⟩, Value.string ⟨#[52]⟩] 9) = wa at Hcells KA HOA ⊢
      generalize w5.heap.size = bw at Hcells Hne ⊢
      refine (D.l1Below_any p v n 7 (by omega) (by omega) _ KA.out.c (HB0.out.kept KA.out.g)).mono ?_
      rintro e w6 ⟨x6, rfl, hx60, hx61, hC6, hg6⟩
      obtain ⟨j, rfl⟩ : ∃ j : Nat, x6 = (j : Int) := ⟨x6.toNat, by omega⟩
      obtain ⟨t, ht, htz⟩ := Hcells.out j (by omega)
      have hcell := hg6.cell ht Hne.out
      have K6 := Lib.hid (KA.out.got hC6 hg6)
      have HO6 := Lib.hid (HOA.out.kept hg6 (by simp only [Value.ownBlock]; intro e; injection e with e; omega))
      have htgt := (OwS.mem HO6.out).2 k (by rw [List.length_map, Hm.out]; exact hkm)
      obtain ⟨hu, hfz⟩ := htgt
      obtain ⟨uo, huo⟩ : ∃ uo, (s2.map Value.string).getD k (.int .i64 0) = uo := ⟨_, rfl⟩
      rw [huo] at hu
      have HOS := Lib.hid (OwS.set HO6.out k t)
      have KS := Lib.hid (Cu.row K6.out hpw (D.grown_set w6 G k (.string t)) (fun q e => by injection e with e; omega))
      have HsS := Lib.hid (Hs2.out.set k htz)
      have HlS : Hid ((s2.set k t).length ≤ 100) := Lib.hid (by rw [List.length_set, Hm.out]; omega)
      clear hC6 hg6 ht huo htz
      go_wp2_with fail
      refine (D.l1Once_any p v n 40 (by omega) (by omega) _ KS.out.c (HB0.out.kept KS.out.g)).mono ?_
      rintro e wz ⟨bz, rfl, hCz, hgz⟩
      have KZ := Lib.hid (KS.out.got hCz hgz)
      cases bz
      · have HOZ := Lib.hid (HOS.out.kept hgz (by simp only [Value.ownBlock]; intro e; injection e with e; omega))
        clear hCz hgz
        go_wp2_with fail
        go_ret
        exact ⟨_, _, rfl, HOZ.out, HlS.out, HsS.out, KZ.out.c, KZ.out.g⟩
      · clear hCz hgz
        go_wp2_with fail
        have hO0 := owS_new wz w.heap.size KZ.out.g.size
        have hK0 := KZ.out.alloc (.cells #[] 9)
        generalize Value.slice (some ⟨wz.heap.size, 0, none⟩) 0 0 = v0 at hO0 ⊢
        generalize wz.alloc (.cells #[] 9) = w0 at hO0 hK0 ⊢
        have HO0 := Lib.hid hO0
        have HK0 := Lib.hid hK0
        clear hO0 hK0
        refine (D.l1Below_any p v n 3 (by omega) (by omega) _ HK0.out.c (HB0.out.kept HK0.out.g)).mono ?_
        rintro e w1 ⟨x1, rfl, hx10, hx11, hC1, hg1⟩
        obtain ⟨g0, c0, hv0, _, _, hg0, _, _⟩ := HO0.out.form
        have HO1 := Lib.hid (HO0.out.kept hg1 (by rw [hv0]; simp only [Value.ownBlock]; intro e; injection e with e; omega))
        have K1 := Lib.hid (HK0.out.got hC1 hg1)
        clear hC1 hg1 hv0
        go_wp2_with fail
        go_loopw [3, 5] (fun o q wr => ∃ (y : Int) (ss : List ByteArray), OwS wr w.heap.size o ss ∧ q = .int .i64 y ∧ y ≤ 61 ∧ (ss.length : Int) + y ≤ 61 ∧ 1 ≤ y ∧ Short ss ∧ Cu p v n w wr) (fun _ q _ => (intOf q).toNat)
        case atStart => exact ⟨59 + x1, [], HO1.out, rfl, by omega, by simp; omega, by omega, (by intro s hs; cases hs), K1.out⟩
        case round =>
          obtain ⟨y, ss, hO, rfl, hy3, hlen, hy1, hsh, hK⟩ := hrel
          obtain ⟨go1, co1, rfl, hq1, hq2, hgo1, hgw1, _⟩ := hO.form
          have HOr := Lib.hid hO
          have HKr := Lib.hid hK
          have Hsr := Lib.hid hsh
          clear hO hK hsh
          by_cases hpos : 1 < y
          · obtain ⟨v3, w3, hr3, ho3, hg3⟩ := run_appS1 (wr.alloc (.cells #[.string ⟨#[115, 97, 121]⟩] 9)) w.heap.size _ ss (HOr.out.alloc _) wr.heap.size ⟨#[115, 97, 121]⟩ (by simp [go_sem]) (by omega) (by have := HKr.out.g.size; simp; omega)
            have K3 := Lib.hid ((HKr.out.alloc (.cells #[.string ⟨#[115, 97, 121]⟩] 9)).row hpw hg3 (fun k e => by simp only [Value.ownBlock] at e; injection e with e; omega))
            have HO3 := Lib.hid ho3
            have HR3 := Lib.hid hr3
            clear hr3 ho3 hg3
            go_wp2_with (at_builtin; refine wp_app rfl _ _ rfl rfl _ _ rfl rfl HR3.out ?_)
            go_roundw
            case rel => exact ⟨y - 1, ss ++ [⟨#[115, 97, 121]⟩], HO3.out, rfl, by omega, by rw [List.length_append]; simp; omega, by omega, Hsr.out.append (short_one (by decide)), K3.out⟩
            case measure => simp [intOf]; omega
          · obtain ⟨v3, w3, hr3, ho3, hg3⟩ := run_appS1 (wr.alloc (.cells #[.string ⟨#[49]⟩] 9)) w.heap.size _ ss (HOr.out.alloc _) wr.heap.size ⟨#[49]⟩ (by simp [go_sem]) (by omega) (by have := HKr.out.g.size; simp; omega)
            have K3 := Lib.hid ((HKr.out.alloc (.cells #[.string ⟨#[49]⟩] 9)).row hpw hg3 (fun k e => by simp only [Value.ownBlock] at e; injection e with e; omega))
            have HO3 := Lib.hid ho3
            have HR3 := Lib.hid hr3
            clear hr3 ho3 hg3
            go_wp2_with (at_builtin; refine wp_app rfl _ _ rfl rfl _ _ rfl rfl HR3.out ?_)
            go_ret
            exact ⟨_, _, rfl, HO3.out, by rw [List.length_append]; simp; omega, Hsr.out.append (short_one (by decide)), K3.out.c, K3.out.g⟩
    · have HOT := Lib.hid (OwS.take HO5a.out k (by rw [Hm.out]; omega))
      go_wp2_with fail
      refine (D.l1Once_any p v n 40 (by omega) (by omega) _ K5.out.c (HB0.out.kept K5.out.g)).mono ?_
      rintro e wz ⟨bz, rfl, hCz, hgz⟩
      have KZ := Lib.hid (K5.out.got hCz hgz)
      cases bz
      · have HOZ := Lib.hid (HOT.out.kept hgz (by simp only [Value.ownBlock]; intro e; injection e with e; omega))
        clear hCz hgz
        go_wp2_with fail
        go_ret
        exact ⟨_, _, rfl, HOZ.out, by rw [List.length_take]; omega, Hs2.out.take k, KZ.out.c, KZ.out.g⟩
      · clear hCz hgz
        go_wp2_with fail
        have hO0 := owS_new wz w.heap.size KZ.out.g.size
        have hK0 := KZ.out.alloc (.cells #[] 9)
        generalize Value.slice (some ⟨wz.heap.size, 0, none⟩) 0 0 = v0 at hO0 ⊢
        generalize wz.alloc (.cells #[] 9) = w0 at hO0 hK0 ⊢
        have HO0 := Lib.hid hO0
        have HK0 := Lib.hid hK0
        clear hO0 hK0
        refine (D.l1Below_any p v n 3 (by omega) (by omega) _ HK0.out.c (HB0.out.kept HK0.out.g)).mono ?_
        rintro e w1 ⟨x1, rfl, hx10, hx11, hC1, hg1⟩
        obtain ⟨g0, c0, hv0, _, _, hg0, _, _⟩ := HO0.out.form
        have HO1 := Lib.hid (HO0.out.kept hg1 (by rw [hv0]; simp only [Value.ownBlock]; intro e; injection e with e; omega))
        have K1 := Lib.hid (HK0.out.got hC1 hg1)
        clear hC1 hg1 hv0
        go_wp2_with fail
        go_loopw [3, 5] (fun o q wr => ∃ (y : Int) (ss : List ByteArray), OwS wr w.heap.size o ss ∧ q = .int .i64 y ∧ y ≤ 61 ∧ (ss.length : Int) + y ≤ 61 ∧ 1 ≤ y ∧ Short ss ∧ Cu p v n w wr) (fun _ q _ => (intOf q).toNat)
        case atStart => exact ⟨59 + x1, [], HO1.out, rfl, by omega, by simp; omega, by omega, (by intro s hs; cases hs), K1.out⟩
        case round =>
          obtain ⟨y, ss, hO, rfl, hy3, hlen, hy1, hsh, hK⟩ := hrel
          obtain ⟨go1, co1, rfl, hq1, hq2, hgo1, hgw1, _⟩ := hO.form
          have HOr := Lib.hid hO
          have HKr := Lib.hid hK
          have Hsr := Lib.hid hsh
          clear hO hK hsh
          by_cases hpos : 1 < y
          · obtain ⟨v3, w3, hr3, ho3, hg3⟩ := run_appS1 (wr.alloc (.cells #[.string ⟨#[115, 97, 121]⟩] 9)) w.heap.size _ ss (HOr.out.alloc _) wr.heap.size ⟨#[115, 97, 121]⟩ (by simp [go_sem]) (by omega) (by have := HKr.out.g.size; simp; omega)
            have K3 := Lib.hid ((HKr.out.alloc (.cells #[.string ⟨#[115, 97, 121]⟩] 9)).row hpw hg3 (fun k e => by simp only [Value.ownBlock] at e; injection e with e; omega))
            have HO3 := Lib.hid ho3
            have HR3 := Lib.hid hr3
            clear hr3 ho3 hg3
            go_wp2_with (at_builtin; refine wp_app rfl _ _ rfl rfl _ _ rfl rfl HR3.out ?_)
            go_roundw
            case rel => exact ⟨y - 1, ss ++ [⟨#[115, 97, 121]⟩], HO3.out, rfl, by omega, by rw [List.length_append]; simp; omega, by omega, Hsr.out.append (short_one (by decide)), K3.out⟩
            case measure => simp [intOf]; omega
          · obtain ⟨v3, w3, hr3, ho3, hg3⟩ := run_appS1 (wr.alloc (.cells #[.string ⟨#[49]⟩] 9)) w.heap.size _ ss (HOr.out.alloc _) wr.heap.size ⟨#[49]⟩ (by simp [go_sem]) (by omega) (by have := HKr.out.g.size; simp; omega)
            have K3 := Lib.hid ((HKr.out.alloc (.cells #[.string ⟨#[49]⟩] 9)).row hpw hg3 (fun k e => by simp only [Value.ownBlock] at e; injection e with e; omega))
            have HO3 := Lib.hid ho3
            have HR3 := Lib.hid hr3
            clear hr3 ho3 hg3
            go_wp2_with (at_builtin; refine wp_app rfl _ _ rfl rfl _ _ rfl rfl HR3.out ?_)
            go_ret
            exact ⟨_, _, rfl, HO3.out, by rw [List.length_append]; simp; omega, Hsr.out.append (short_one (by decide)), K3.out.c, K3.out.g⟩
    · obtain ⟨v6, w6, hr6, ho6, hg6⟩ := run_appS1 (w5.alloc (.cells #[.string ⟨#[49]⟩] 9)) w.heap.size _ s2 (HO5a.out.alloc _) w5.heap.size ⟨#[49]⟩ (by simp [go_sem]) (by rw [Hm.out]; omega) (by have := K5.out.g.size; simp; omega)
      have K6 := Lib.hid ((K5.out.alloc (.cells #[.string ⟨#[49]⟩] 9)).row hpw hg6 (fun q e => by simp only [Value.ownBlock] at e; injection e with e; omega))
      have Hsx := Lib.hid (Hs2.out.append (short_one (s := ⟨#[49]⟩) (by decide)))
      have Hlx : Hid ((s2 ++ [(⟨#[49]⟩ : ByteArray)]).length ≤ 100) := Lib.hid (by rw [List.length_append, Hm.out]; simp; omega)
      obtain ⟨gx, cx, rfl, _, _, hgx0, _, _⟩ := ho6.form
      obtain ⟨mx, hmx⟩ : ∃ mx, (s2 ++ [(⟨#[49]⟩ : ByteArray)]).length = mx := ⟨_, rfl⟩
      rw [hmx] at hr6 ho6
      have HO6 := Lib.hid ho6
      have HR6 := Lib.hid hr6
      clear hr6 ho6 hg6 hmx
      go_wp2_with (at_builtin; refine wp_app rfl _ _ rfl rfl _ _ rfl rfl HR6.out ?_)
      refine (D.l1Once_any p v n 40 (by omega) (by omega) _ K6.out.c (HB0.out.kept K6.out.g)).mono ?_
      rintro e wz ⟨bz, rfl, hCz, hgz⟩
      have KZ := Lib.hid (K6.out.got hCz hgz)
      cases bz
      · have HOZ := Lib.hid (HO6.out.kept hgz (by simp only [Value.ownBlock]; intro e; injection e with e; omega))
        clear hCz hgz
        go_wp2_with fail
        go_ret
        exact ⟨_, _, rfl, HOZ.out, Hlx.out, Hsx.out, KZ.out.c, KZ.out.g⟩
      · clear hCz hgz
        go_wp2_with fail
        have hO0 := owS_new wz w.heap.size KZ.out.g.size
        have hK0 := KZ.out.alloc (.cells #[] 9)
        generalize Value.slice (some ⟨wz.heap.size, 0, none⟩) 0 0 = v0 at hO0 ⊢
        generalize wz.alloc (.cells #[] 9) = w0 at hO0 hK0 ⊢
        have HO0 := Lib.hid hO0
        have HK0 := Lib.hid hK0
        clear hO0 hK0
        refine (D.l1Below_any p v n 3 (by omega) (by omega) _ HK0.out.c (HB0.out.kept HK0.out.g)).mono ?_
        rintro e w1 ⟨x1, rfl, hx10, hx11, hC1, hg1⟩
        obtain ⟨g0, c0, hv0, _, _, hg0, _, _⟩ := HO0.out.form
        have HO1 := Lib.hid (HO0.out.kept hg1 (by rw [hv0]; simp only [Value.ownBlock]; intro e; injection e with e; omega))
        have K1 := Lib.hid (HK0.out.got hC1 hg1)
        clear hC1 hg1 hv0
        go_wp2_with fail
        go_loopw [3, 5] (fun o q wr => ∃ (y : Int) (ss : List ByteArray), OwS wr w.heap.size o ss ∧ q = .int .i64 y ∧ y ≤ 61 ∧ (ss.length : Int) + y ≤ 61 ∧ 1 ≤ y ∧ Short ss ∧ Cu p v n w wr) (fun _ q _ => (intOf q).toNat)
        case atStart => exact ⟨59 + x1, [], HO1.out, rfl, by omega, by simp; omega, by omega, (by intro s hs; cases hs), K1.out⟩
        case round =>
          obtain ⟨y, ss, hO, rfl, hy3, hlen, hy1, hsh, hK⟩ := hrel
          obtain ⟨go1, co1, rfl, hq1, hq2, hgo1, hgw1, _⟩ := hO.form
          have HOr := Lib.hid hO
          have HKr := Lib.hid hK
          have Hsr := Lib.hid hsh
          clear hO hK hsh
          by_cases hpos : 1 < y
          · obtain ⟨v3, w3, hr3, ho3, hg3⟩ := run_appS1 (wr.alloc (.cells #[.string ⟨#[115, 97, 121]⟩] 9)) w.heap.size _ ss (HOr.out.alloc _) wr.heap.size ⟨#[115, 97, 121]⟩ (by simp [go_sem]) (by omega) (by have := HKr.out.g.size; simp; omega)
            have K3 := Lib.hid ((HKr.out.alloc (.cells #[.string ⟨#[115, 97, 121]⟩] 9)).row hpw hg3 (fun k e => by simp only [Value.ownBlock] at e; injection e with e; omega))
            have HO3 := Lib.hid ho3
            have HR3 := Lib.hid hr3
            clear hr3 ho3 hg3
            go_wp2_with (at_builtin; refine wp_app rfl _ _ rfl rfl _ _ rfl rfl HR3.out ?_)
            go_roundw
            case rel => exact ⟨y - 1, ss ++ [⟨#[115, 97, 121]⟩], HO3.out, rfl, by omega, by rw [List.length_append]; simp; omega, by omega, Hsr.out.append (short_one (by decide)), K3.out⟩
            case measure => simp [intOf]; omega
          · obtain ⟨v3, w3, hr3, ho3, hg3⟩ := run_appS1 (wr.alloc (.cells #[.string ⟨#[49]⟩] 9)) w.heap.size _ ss (HOr.out.alloc _) wr.heap.size ⟨#[49]⟩ (by simp [go_sem]) (by omega) (by have := HKr.out.g.size; simp; omega)
            have K3 := Lib.hid ((HKr.out.alloc (.cells #[.string ⟨#[49]⟩] 9)).row hpw hg3 (fun k e => by simp only [Value.ownBlock] at e; injection e with e; omega))
            have HO3 := Lib.hid ho3
            have HR3 := Lib.hid hr3
            clear hr3 ho3 hg3
            go_wp2_with (at_builtin; refine wp_app rfl _ _ rfl rfl _ _ rfl rfl HR3.out ?_)
            go_ret
            exact ⟨_, _, rfl, HO3.out, by rw [List.length_append]; simp; omega, Hsr.out.append (short_one (by decide)), K3.out.c, K3.out.g⟩
    · obtain ⟨A, hA, hAc⟩ : ∃ A : Addr, (if C = k + 1 then some (⟨G, 0, none⟩ : Addr) else some ⟨G, k + 1, none⟩) = some A ∧ ∀ j, j < (s2.drop (k + 1)).length → w5.cell? (A.add j) = some (.string ((s2.drop (k + 1)).getD j ByteArray.empty)) := by
        have hml : s2.length = m := Hm.out
        by_cases h : C = k + 1
        · refine ⟨⟨G, 0, none⟩, by simp [h], fun j hj => ?_⟩
          simp at hj
          omega
        · refine ⟨⟨G, k + 1, none⟩, by simp [h], fun j hj => ?_⟩
          have hj' : k + 1 + j < s2.length := by simp at hj; omega
          have hc := ((OwS.mem HO5a.out).2 (k + 1 + j) (by simpa using hj')).1
          have e : (⟨G, k + 1, none⟩ : Addr).add j = ⟨G, k + 1 + j, none⟩ := by unfold Addr.add; split <;> simp_all
          rw [e, hc]
          simp [List.getD, hj']
      have hdl : (s2.drop (k + 1)).length = m - (k + 1) := by rw [List.length_drop, Hm.out]
      obtain ⟨v6, w6, hr6, ho6, hg6⟩ := run_appSA w5.drew w.heap.size _ _ (OwS.drew (OwS.take HO5a.out k (by rw [Hm.out]; omega))) A (s2.drop (k + 1)) (C - (k + 1)) hAc (by rw [List.length_take, hdl]; omega) K5.out.g.size
      rw [hdl] at hr6
      have K5d : Cu p v n w w5.drew := ⟨K5.out.c, K5.out.g.trans (D.grown_draws w5 1 _)⟩
      have K6 := Lib.hid (K5d.row hpw hg6 (fun q e => by simp only [Value.ownBlock] at e; injection e with e; omega))
      have Hsx := Lib.hid ((Hs2.out.take k).append (Hs2.out.drop (k + 1)))
      have Hlx : Hid ((s2.take k ++ s2.drop (k + 1)).length ≤ 100) := Lib.hid (by rw [List.length_append, hdl, List.length_take]; omega)
      obtain ⟨gx, cx, rfl, _, _, hgx0, _, _⟩ := ho6.form
      obtain ⟨mx, hmx⟩ : ∃ mx, (s2.take k ++ s2.drop (k + 1)).length = mx := ⟨_, rfl⟩
      rw [hmx] at hr6 ho6
      have HO6 := Lib.hid ho6
      have HR6 := Lib.hid hr6
      have hkC : k ≤ C := by omega
      have hwr : IntKind.i64.wrap ((k : Int) + 1) = (k : Int) + 1 := by rw [IntKind.wrap_i64]; omega
      have hp0 : (0 : Int) ≤ (k : Int) + 1 := by omega
      have hp1 : (k : Int) + 1 ≤ (m : Int) := by omega
      have hp2 : ((k : Int) + 1).toNat = k + 1 := by omega
      clear hr6 ho6 hg6 hmx hdl hAc K5d
      go_wp2_with fail
      go_region_law (refine step_run rfl (.tmp 42) (.tmp 46) rfl rfl _ _ (by simp [Act.eval, Act.put]) (by simp [Act.eval, Act.put]) HR6.out ?_)
      go_wp2_with fail
      refine (D.l1Once_any p v n 40 (by omega) (by omega) _ K6.out.c (HB0.out.kept K6.out.g)).mono ?_
      rintro e wz ⟨bz, rfl, hCz, hgz⟩
      have KZ := Lib.hid (K6.out.got hCz hgz)
      cases bz
      · have HOZ := Lib.hid (HO6.out.kept hgz (by simp only [Value.ownBlock]; intro e; injection e with e; omega))
        clear hCz hgz
        go_wp2_with fail
        go_ret
        exact ⟨_, _, rfl, HOZ.out, Hlx.out, Hsx.out, KZ.out.c, KZ.out.g⟩
      · clear hCz hgz
        go_wp2_with fail
        have hO0 := owS_new wz w.heap.size KZ.out.g.size
        have hK0 := KZ.out.alloc (.cells #[] 9)
        generalize Value.slice (some ⟨wz.heap.size, 0, none⟩) 0 0 = v0 at hO0 ⊢
        generalize wz.alloc (.cells #[] 9) = w0 at hO0 hK0 ⊢
        have HO0 := Lib.hid hO0
        have HK0 := Lib.hid hK0
        clear hO0 hK0
        refine (D.l1Below_any p v n 3 (by omega) (by omega) _ HK0.out.c (HB0.out.kept HK0.out.g)).mono ?_
        rintro e w1 ⟨x1, rfl, hx10, hx11, hC1, hg1⟩
        obtain ⟨g0, c0, hv0, _, _, hg0, _, _⟩ := HO0.out.form
        have HO1 := Lib.hid (HO0.out.kept hg1 (by rw [hv0]; simp only [Value.ownBlock]; intro e; injection e with e; omega))
        have K1 := Lib.hid (HK0.out.got hC1 hg1)
        clear hC1 hg1 hv0
        go_wp2_with fail
        go_loopw [3, 5] (fun o q wr => ∃ (y : Int) (ss : List ByteArray), OwS wr w.heap.size o ss ∧ q = .int .i64 y ∧ y ≤ 61 ∧ (ss.length : Int) + y ≤ 61 ∧ 1 ≤ y ∧ Short ss ∧ Cu p v n w wr) (fun _ q _ => (intOf q).toNat)
        case atStart => exact ⟨59 + x1, [], HO1.out, rfl, by omega, by simp; omega, by omega, (by intro s hs; cases hs), K1.out⟩
        case round =>
          obtain ⟨y, ss, hO, rfl, hy3, hlen, hy1, hsh, hK⟩ := hrel
          obtain ⟨go1, co1, rfl, hq1, hq2, hgo1, hgw1, _⟩ := hO.form
          have HOr := Lib.hid hO
          have HKr := Lib.hid hK
          have Hsr := Lib.hid hsh
          clear hO hK hsh
          by_cases hpos : 1 < y
          · obtain ⟨v3, w3, hr3, ho3, hg3⟩ := run_appS1 (wr.alloc (.cells #[.string ⟨#[115, 97, 121]⟩] 9)) w.heap.size _ ss (HOr.out.alloc _) wr.heap.size ⟨#[115, 97, 121]⟩ (by simp [go_sem]) (by omega) (by have := HKr.out.g.size; simp; omega)
            have K3 := Lib.hid ((HKr.out.alloc (.cells #[.string ⟨#[115, 97, 121]⟩] 9)).row hpw hg3 (fun k e => by simp only [Value.ownBlock] at e; injection e with e; omega))
            have HO3 := Lib.hid ho3
            have HR3 := Lib.hid hr3
            clear hr3 ho3 hg3
            go_wp2_with (at_builtin; refine wp_app rfl _ _ rfl rfl _ _ rfl rfl HR3.out ?_)
            go_roundw
            case rel => exact ⟨y - 1, ss ++ [⟨#[115, 97, 121]⟩], HO3.out, rfl, by omega, by rw [List.length_append]; simp; omega, by omega, Hsr.out.append (short_one (by decide)), K3.out⟩
            case measure => simp [intOf]; omega
          · obtain ⟨v3, w3, hr3, ho3, hg3⟩ := run_appS1 (wr.alloc (.cells #[.string ⟨#[49]⟩] 9)) w.heap.size _ ss (HOr.out.alloc _) wr.heap.size ⟨#[49]⟩ (by simp [go_sem]) (by omega) (by have := HKr.out.g.size; simp; omega)
            have K3 := Lib.hid ((HKr.out.alloc (.cells #[.string ⟨#[49]⟩] 9)).row hpw hg3 (fun k e => by simp only [Value.ownBlock] at e; injection e with e; omega))
            have HO3 := Lib.hid ho3
            have HR3 := Lib.hid hr3
            clear hr3 ho3 hg3
            go_wp2_with (at_builtin; refine wp_app rfl _ _ rfl rfl _ _ rfl rfl HR3.out ?_)
            go_ret
            exact ⟨_, _, rfl, HO3.out, by rw [List.length_append]; simp; omega, Hsr.out.append (short_one (by decide)), K3.out.c, K3.out.g⟩

end L2
end Go.Proofs.YtkhjbhkbknennaaGreatDoor

/-
  The draws of chapter 2's laws; rows of numbers compared.
-/
namespace Go.Proofs.YtkhjbhkbknennaaGreatDoor
open Go.RowKit
namespace L2
open S1 L1

/-- What a draw of words leaves, behind a new cursor. -/
def DrewW (w : World) (e : Ending) (w' : World) : Prop := ∃ u ss, e = .returned u ∧ OwS w' w.heap.size u ss ∧ ss.length ≤ 100 ∧ Short ss ∧ Below w.heap.size w w'

end L2
end Go.Proofs.YtkhjbhkbknennaaGreatDoor

/-
  The law of chapter 2 on the parts of a draw.
-/
namespace Go.Proofs.YtkhjbhkbknennaaGreatDoor
open Go.RowKit Go.Sort
namespace L2
open S1 L1

theorem owI_cell {w : World} {B g n cap : Nat} {xs : List Nat} (h : OwI w B (.slice (some ⟨g, 0, none⟩) n cap) xs) {i : Nat} (hi : i < xs.length) : w.cell? ⟨g, i, none⟩ = some (.int .i64 ((xs.getD i 0 : Nat) : Int)) := by
  obtain ⟨g', cap', hv, _, _, _, _, hc⟩ := h.form
  cases hv
  exact (hc i hi).1

end L2
end Go.Proofs.YtkhjbhkbknennaaGreatDoor
