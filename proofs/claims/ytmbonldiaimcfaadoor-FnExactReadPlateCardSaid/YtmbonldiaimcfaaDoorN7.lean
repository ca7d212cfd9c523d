/-
  The text of a plate: the model and the program (written by wip/gen_n7.py).
-/
import Derived.Test.YtmbonldiaimcfaaDoorN2
import Derived.Test.YtmbonldiaimcfaaDoorGT
import Derived.Test.YtmbonldiaimcfaaDoorShelf2
import Derived.Lib.Join
import Derived.Deep.RegionLaw
import Derived.Deep.RegionHeld3
namespace Go.Proofs.YtmbonldiaimcfaaDoor
open Go.RowKit Go.Sort
namespace L2
open S1 L1

theorem join_takeS {ws : List (List UInt8)} {k : Nat} (hk : k + 1 < ws.length) : Lib.join (ws.take (k + 2)) [47] = Lib.join (ws.take (k + 1)) [47] ++ 47 :: ws.getD (k + 1) [] := by
  cases ws with
  | nil => simp at hk
  | cons x r =>
    have hk' : k < r.length := by simpa using hk
    rw [List.take_succ_cons, List.take_succ_cons, Lib.join_cons, Lib.join_cons, Lib.joinTail_take_succ [47] r k (r.getD k []) (by simp [List.getD, hk'])]
    simp
theorem join_takeS1 {ws : List (List UInt8)} (hk : 0 < ws.length) : Lib.join (ws.take 1) [47] = ws.getD 0 [] := by
  cases ws with
  | nil => simp at hk
  | cons x r => simp [Lib.join_one]

theorem held_drewc {w : World} {p : Addr} {u : Value} (h : w.cell? p = some u) : w.drew.cell? p = some u := h
theorem held_old {w : World} {b i : Nat} {u : Value} (h : w.cell? ⟨b, i, none⟩ = some u) (hl : b < w.heap.size) (o : Obj) : (w.alloc o).cell? ⟨b, i, none⟩ = some u := (World.cell?_of_block (a := ⟨b, i, none⟩) (Below.heap_alloc w o b hl)).trans h
theorem wpAnyH_turn {P : Program} {md : Region.Mode} {ops : Array Oper} {Q : Exit → Act → World → Prop} {S S' : World → Prop} (h : ∀ w, S' w → S w) :
    ∀ (fuel : Nat) (listed : Array Bool) (a : Act) (w : World), wpAnyH P md ops Q S' fuel listed a w → wpAnyH P md ops Q S fuel listed a w
  | 0, _, _, _, H => H
  | fuel + 1, _, _, _, H => ⟨H.1, fun i hi => wpOp_mono (fun a' w' h' => ⟨h _ h'.1, wpAnyH_turn h fuel _ a' w' h'.2⟩) (H.2 i hi)⟩
theorem held_below {n : Nat} {a w w' : World} (h : Below n a w) (hb : Below w.heap.size w w') (hn : n ≤ w.heap.size) : Below n a w' := h.trans (hb.mono hn)
/-- The words of the kinds. -/
def kindW (k : Int) : List UInt8 := [[], [102, 105, 114, 115, 116], [115, 101, 99, 111, 110, 100], [107, 101, 101, 112], [103, 105, 118, 101], [116, 111, 115, 115], [98, 105, 110, 100], [116, 114, 121], [109, 97, 114, 107]].getD k.toNat []
def kindB (k : Int) : ByteArray := ⟨(kindW k).toArray⟩
/-- The parts of a plate's text. -/
def partsB (p : Pl) : List ByteArray := [kindB p.k, ⟨(Lib.itoa p.a).toArray⟩, ⟨(L1.showB p.ak p.an).toArray⟩, ⟨(L1.showB p.vk p.vn).toArray⟩]
/-- A plate's text. -/
def showP (p : Pl) : List UInt8 := if okPl p then Lib.join (wsOf (partsB p)) [47] else []
theorem okPl_parts {p : Pl} (h : okPl p = true) : (1 ≤ p.k ∧ p.k ≤ 8) ∧ (0 ≤ p.a ∧ p.a ≤ 59) ∧ okB p.ak p.an = true ∧ okB p.vk p.vn = true := by
  unfold okPl at h
  simp only [Bool.and_eq_true] at h
  obtain ⟨⟨⟨⟨⟨h1, h2⟩, h3⟩, h4⟩, _⟩, _⟩ := h
  simp [inB] at h1 h2
  exact ⟨h1, h2, h3, h4⟩
theorem kindW_len (k : Int) : (kindW k).length ≤ 6 := by
  unfold kindW
  match k.toNat with
  | 0 => decide
  | 1 => decide
  | 2 => decide
  | 3 => decide
  | 4 => decide
  | 5 => decide
  | 6 => decide
  | 7 => decide
  | 8 => decide
  | n + 9 => simp
theorem size_mk (l : List UInt8) : (⟨l.toArray⟩ : ByteArray).size = l.length := by simp [ByteArray.size]
theorem showB_short {k n : Int} (h : okB k n = true) : (L1.showB k n).length ≤ 9 := by
  obtain ⟨_, h1, h2⟩ := ok_bd h
  have := itoa_len h1 h2
  unfold L1.showB
  rw [h, if_pos rfl]
  split <;> (simp; omega)
theorem parts_small {p : Pl} (h : okPl p = true) : ∀ i, i < 4 → ((partsB p).getD i ByteArray.empty).size ≤ 20 := by
  obtain ⟨_, ha, hb, hc⟩ := okPl_parts h
  have h1 := kindW_len p.k
  have h2 := itoa_len (n := p.a) (by omega) (by omega)
  have h3 := showB_short hb
  have h4 := showB_short hc
  intro i hi
  match i, hi with
  | 0, _ => show (kindB p.k).size ≤ 20; unfold kindB; rw [size_mk]; omega
  | 1, _ => show (⟨(Lib.itoa p.a).toArray⟩ : ByteArray).size ≤ 20; rw [size_mk]; omega
  | 2, _ => show (⟨(L1.showB p.ak p.an).toArray⟩ : ByteArray).size ≤ 20; rw [size_mk]; omega
  | 3, _ => show (⟨(L1.showB p.vk p.vn).toArray⟩ : ByteArray).size ≤ 20; rw [size_mk]; omega
theorem alloc_cellN (w : World) (arr : Array Value) (T : TypeId) (i : Nat) : (w.alloc (.cells arr T)).cell? ⟨w.heap.size, i, none⟩ = arr[i]? := by
  have h := heap_alloc_new w (.cells arr T)
  simp only [World.cell?, h]
  rfl
theorem row_lit4 (w : World) (a b c d : ByteArray) (T : TypeId) : Row (w.alloc (.cells #[.string a, .string b, .string c, .string d] T)) (.slice (some ⟨w.heap.size, 0, none⟩) 4 4) [a, b, c, d] := by
  refine ⟨_, 4, rfl, Nat.le_refl _, by unfold maxLen; omega, fun i hi => ⟨w.heap.size, 0, rfl, by simp, ?_⟩⟩
  rw [Nat.zero_add, alloc_cellN]
  match i, hi with
  | 0, _ => rfl
  | 1, _ => rfl
  | 2, _ => rfl
  | 3, _ => rfl

/-- What the model's words leave. -/
def Words8 (w : World) (e : Ending) (w' : World) : Prop := e = .returned (.slice (some ⟨w.heap.size, 0, none⟩) 8 8) ∧ (∀ j : Nat, j < 8 → w'.cell? ⟨w.heap.size, j, none⟩ = some (.string (kindB ((j : Int) + 1)))) ∧ Below w.heap.size w w' ∧ w.heap.size < w'.heap.size
set_option maxRecDepth 100000 in
theorem l5Words_any (w : World) : Calls Tryd.prog 60 #[] w (Words8 w) := by
  go_enter Tryd.func60, Tryd.ntmps60
  go_wp2
  go_ret
  refine ⟨rfl, fun j hj => ?_, (Below.refl _ _).alloc (Nat.le_refl _) _, by simp⟩
  rw [alloc_cellN]
  match j, hj with
  | 0, _ => rfl
  | 1, _ => rfl
  | 2, _ => rfl
  | 3, _ => rfl
  | 4, _ => rfl
  | 5, _ => rfl
  | 6, _ => rfl
  | 7, _ => rfl
end L2
end Go.Proofs.YtmbonldiaimcfaaDoor
