/-
  The draws of chapter 3's law; lists of words compared.
-/
import Derived.Test.YtgcjmhecnbhhlaaGreatDoorGD
import Derived.Test.YtgcjmhecnbhhlaaGreatDoorW22
import Derived.Test.YtgcjmhecnbhhlaaGreatDoorW21
import Derived.Deep.RegionWith
namespace Go.Proofs.YtgcjmhecnbhhlaaGreatDoor
open Go.RowKit
namespace L2
open S1 L1 D

theorem drawShowSum_any (v : Value) (n : Nat) (w : World) (hC : D.Came w v n) : Calls Tryz.prog 5 #[v] w (DrewW w) := by
  have hC' := Lib.hid hC
  clear hC
  go_enter Tryz.func5, Tryz.ntmps5
  go_wp2_with fail
  refine (drawSumOk_any v n _ hC'.out).mono ?_
  rintro e w2 ⟨u, ss, rfl, ho, hl, hs, hb⟩
  have Ho := Lib.hid ho
  have Hs := Lib.hid hs
  clear ho hs
  go_wp2_with fail
  go_ret
  exact ⟨_, _, rfl, Ho.out, hl, Hs.out, hb⟩

theorem short_words {ss : List ByteArray} (h : Short ss) : ∀ x ∈ wsOf ss, x.length ≤ 20 := by
  intro x hx
  unfold wsOf at hx
  obtain ⟨s, hs, rfl⟩ := List.mem_map.1 hx
  rw [← size_list]
  exact h s hs
theorem join_short {ss : List ByteArray} (h : Short ss) (hn : ss.length ≤ 100) : (⟨(Lib.join (wsOf ss) [32]).toArray⟩ : ByteArray).size ≤ 2100 := by
  have := join_le (short_words h)
  rw [ws_len] at this
  show ((Lib.join (wsOf ss) [32]).toArray).size ≤ 2100
  rw [List.size_toArray]
  omega

/-- What a draw of a text leaves. -/
def DrewT (w : World) (e : Ending) (w' : World) : Prop := ∃ t : ByteArray, e = .returned (.string t) ∧ t.size ≤ 4000 ∧ Below w.heap.size w w'

set_option maxRecDepth 100000 in
set_option maxHeartbeats 2000000 in
theorem drawReadSum_any (v : Value) (n : Nat) (w : World) (hC : D.Came w v n) : Calls Tryz.prog 7 #[v] w (DrewT w) := by
  have hC' := Lib.hid hC
  have HB0 := Lib.hid (hC.bytes (.cells #[v, .int .i64 0, .int .i64 0] 68))
  clear hC HB0
  go_enter Tryz.func7, Tryz.ntmps7
  go_wp2_with fail
  refine (D.l1New_any v n _ hC'.out).mono ?_
  rintro e w1 ⟨h, rfl, rfl⟩
  have HB0 := Lib.hid (hC'.out.bytes (.cells #[v, .int .i64 0, .int .i64 h] 68))
  have K0 := Lib.hid (Cu.start (D.cur_new w v n h))
  have hsz0 : (w.alloc (.cells #[v, .int .i64 0, .int .i64 h] 68)).heap.size = w.heap.size + 1 := by simp
  have hbn := fun w1 (hg : (w.alloc (.cells #[v, .int .i64 0, .int .i64 h] 68)).grownBy w1 (some w.heap.size)) => D.below_new w w1 _ hg
  have HBN := Lib.hid hbn
  clear hbn
  generalize w.alloc (.cells #[v, .int .i64 0, .int .i64 h] 68) = W at HB0 K0 hsz0 HBN ⊢
  go_wp2_with fail
  refine (D.l1Once_any _ v n 2 (by omega) (by omega) _ K0.out.c HB0.out).mono ?_
  rintro e w1 ⟨b1, rfl, hC1, hg1⟩
  have K1 := Lib.hid (K0.out.got hC1 hg1)
  clear hC1 hg1
  go_wp2_with fail
  refine (l2DrawSum_any _ v n b1 w1 K1.out.c (HB0.out.kept K1.out.g)).mono ?_
  rintro e w2 ⟨u2, s2, rfl, ho2, hne2, hl2, hs2, hc2, hg2⟩
  have K2 := Lib.hid (K1.out.got hc2 hg2)
  have HO2 := Lib.hid ho2
  have Hs2 := Lib.hid hs2
  have hsmall := join_short hs2 (by omega)
  clear ho2 hne2 hs2 hc2 hg2
  go_wp2_with fail
  refine (l1Words_any u2 s2 w2 HO2.out.row (by omega) (Hs2.out.small (by omega))).mono ?_
  rintro e w3 ⟨rfl, rfl⟩
  generalize (⟨(Lib.join (wsOf s2) [32]).toArray⟩ : ByteArray) = t at hsmall ⊢
  go_wp2_with fail
  refine (D.l1Once_any _ v n 2 (by omega) (by omega) _ K2.out.c (HB0.out.kept K2.out.g)).mono ?_
  rintro e w3 ⟨b3, rfl, hC3, hg3⟩
  have K3 := Lib.hid (K2.out.got hC3 hg3)
  clear hC3 hg3
  cases b3
  · go_wp2_with fail
    go_ret
    exact ⟨_, rfl, by omega, HBN.out _ K3.out.g⟩
  · go_wp2_with fail
    refine (D.bends _ v n _ t ⟨#[97, 32, 48, 49, 45]⟩ (by omega) (by decide) (by decide) K3.out.c (HB0.out.kept K3.out.g)).mono ?_
    rintro e w4 ⟨t4, rfl, ht4, hC4, hg4⟩
    have K4 := Lib.hid (K3.out.got hC4 hg4)
    clear hC4 hg4
    go_wp2_with fail
    go_ret
    exact ⟨_, rfl, by omega, HBN.out _ K4.out.g⟩

set_option maxRecDepth 100000 in
set_option maxHeartbeats 1000000 in
theorem likeTexts_any (v v' : Value) (ss : List ByteArray) (w : World) (hR : Row w v ss) (hR' : Row w v' ss) :
    Calls Tryz.prog 12 #[v, v'] w fun e w' => e = .returned (.bool true) ∧ Below w.heap.size w w' := by
  obtain ⟨oa, cap, rfl, h1, h2, h3⟩ := hR
  obtain ⟨oa', cap', rfl, h1', h2', h3'⟩ := hR'
  obtain ⟨n, hn⟩ : ∃ n, ss.length = n := ⟨_, rfl⟩
  rw [hn] at h1 h3 h1' h3' ⊢
  unfold maxLen at h2 h2'
  have H3 := Lib.hid h3
  have H3' := Lib.hid h3'
  clear hn h3 h3'
  go_enter Tryz.func12, Tryz.ntmps12
  go_wp2
  go_loopw [5] (fun i wr => ∃ k : Nat, k ≤ n ∧ i = .int .i64 (k : Int) ∧ Below w.heap.size w wr) (fun i _ => n - (intOf i).toNat)
  case atStart => exact ⟨0, Nat.zero_le _, rfl, Below.refl _ _⟩
  case round =>
    obtain ⟨k, hk, rfl, hB⟩ := hrel
    have HB := Lib.hid hB
    clear hB
    by_cases hlt : k < n
    · obtain ⟨b, off, rfl, hb, hc⟩ := H3.out k hlt
      obtain ⟨b', off', rfl, hb', hcc⟩ := H3'.out k hlt
      have hc1 := (HB.out.cell (p := ⟨b, off + k, none⟩) hb).trans hc
      have hc2 := (HB.out.cell (p := ⟨b', off' + k, none⟩) hb').trans hcc
      clear hc hcc
      obtain ⟨s, hs2⟩ : ∃ s, ss.getD k ByteArray.empty = s := ⟨_, rfl⟩
      rw [hs2] at hc1 hc2
      clear hs2
      have hk0 : (0 : Int) ≤ (k : Int) := by omega
      have hki : (k : Int) < (n : Int) := by omega
      go_wp2
      go_quiet (fail)
      go_wp2
      go_roundw
      case rel => exact ⟨k + 1, by omega, by go_num, by first | exact HB.out | exact HB.out.drew | exact HB.out.grown (D.grown_draws _ _ none) HB.out.size (by simp)⟩
      case measure => simp [intOf]; omega
    · have hki : ¬ (k : Int) < (n : Int) := by omega
      go_wp2
      go_ret
      exact ⟨rfl, HB.out⟩

theorem words6 : ∀ j, j < 6 → ∃ s : ByteArray, (#[Value.string ⟨#[115, 97, 121]⟩, Value.string ⟨#[107, 101, 101, 112]⟩, Value.string ⟨#[49]⟩, Value.string ⟨#[48]⟩, Value.string ⟨#[97, 114, 103]⟩, Value.string ⟨#[119, 104, 97, 116]⟩] : Array Value)[j]? = some (.string s) ∧ s.size ≤ 20 := by
  intro j hj
  match j, hj with
  | 0, _ => exact ⟨_, rfl, by decide⟩
  | 1, _ => exact ⟨_, rfl, by decide⟩
  | 2, _ => exact ⟨_, rfl, by decide⟩
  | 3, _ => exact ⟨_, rfl, by decide⟩
  | 4, _ => exact ⟨_, rfl, by decide⟩
  | 5, _ => exact ⟨_, rfl, by decide⟩
  | k + 6, hj => omega

/-- What a draw of words and of one more leaves. -/
def DrewWT (w : World) (e : Ending) (w' : World) : Prop := ∃ u ss t, e = .returned (.tuple #[u, .string t]) ∧ OwS w' w.heap.size u ss ∧ ss.length ≤ 100 ∧ Short ss ∧ t.size ≤ 20 ∧ Below w.heap.size w w'

set_option maxRecDepth 100000 in
set_option maxHeartbeats 4000000 in
theorem drawWordsIn_any (v : Value) (n : Nat) (w : World) (hC : D.Came w v n) : Calls Tryz.prog 9 #[v] w (DrewWT w) := by
  have hC' := Lib.hid hC
  clear hC
  go_enter Tryz.func9, Tryz.ntmps9
  go_wp2_with fail
  refine (D.l1New_any v n _ hC'.out).mono ?_
  rintro e w1 ⟨h, rfl, rfl⟩
  have HB0 := Lib.hid (hC'.out.bytes (.cells #[v, .int .i64 0, .int .i64 h] 68))
  have K0 := Lib.hid (Cu.start (D.cur_new w v n h))
  have hsz0 : (w.alloc (.cells #[v, .int .i64 0, .int .i64 h] 68)).heap.size = w.heap.size + 1 := by simp
  have hbn := fun w1 (hg : (w.alloc (.cells #[v, .int .i64 0, .int .i64 h] 68)).grownBy w1 (some w.heap.size)) => D.below_new w w1 _ hg
  have HBN := Lib.hid hbn
  clear hbn
  generalize w.alloc (.cells #[v, .int .i64 0, .int .i64 h] 68) = W at HB0 K0 hsz0 HBN ⊢
  go_wp2_with fail
  refine (l2DrawAny_any _ v n W K0.out.c HB0.out).mono ?_
  rintro e w2 ⟨u, ss, rfl, ho, hl, hs, hc2, hg2⟩
  have K2 := Lib.hid (K0.out.got hc2 hg2)
  obtain ⟨g, cp, hu, -, -, hgW, hgl, -⟩ := ho.form
  have HO := Lib.hid ho
  have HS := Lib.hid hs
  have HU := Lib.hid hu
  have hp2 : w.heap.size < w2.heap.size := hc2.lt
  have HF : Fit w2 w.heap.size v n w2 := ⟨hc2, World.grownBy.refl _ _⟩
  have HB2 := Lib.hid (HB0.out.kept K2.out.g)
  clear ho hs hu hc2 hg2 K0
  go_wp2_with fail
  have hdraw : ∀ W', Fit w2 w.heap.size v n W' → Calls Tryz.prog 29 #[.pointer (some ⟨w.heap.size, 0, none⟩), .int .i64 6] W' (fun e w' => ∃ q : Nat, e = .returned (.int .i64 (q : Int)) ∧ q < 6 ∧ Fit w2 w.heap.size v n w' ∧ W'.grownBy w' (some w.heap.size)) := fun W' hF => by
    refine (l1Below_any w.heap.size v n 6 (by omega) (by omega) W' hF.c (HB2.out.kept hF.g)).mono ?_
    rintro e w5 ⟨q, rfl, hq0, hq1, hC5, hg5⟩
    obtain ⟨q, rfl⟩ := Int.eq_ofNat_of_zero_le hq0
    exact ⟨q, rfl, by omega, Fit.call hF hC5 hg5, hg5⟩
  have HD := Lib.hid hdraw
  have hne : some w2.heap.size ≠ some w.heap.size := by intro e; injection e with e; omega
  clear hdraw
  go_region_with (go_at_call 29; refine (HD.out _ (by first | exact HF | exact Fit.drew HF | exact Fit.alloc (Fit.drew HF) _ | exact Fit.drew (Fit.alloc HF _) | exact Fit.alloc HF _)).mono ?_; rintro e w5 ⟨q, rfl, hq, hf5, hg5⟩; obtain ⟨t, ht, htz⟩ := words6 q hq; (try have zq := hg5.cell (lit_cell w2 _ 9 q ht) hne); have hq6 : (q : Int) < 6 := (by omega); have HZ := Lib.hid htz; have HG5 := Lib.hid hg5; clear hg5)
  all_goals
    have e6 := ht
    rw [List.getElem?_toArray, List.getElem?_eq_getElem (by simpa using hq)] at e6
    injection e6 with e6
    try rw [e6]
    clear e6 ht
    go_simp
    go_wp2_with fail
    refine bodyPost_ret (v := .tuple #[u, .string t]) (by simp [results, Tryz.results9, go_sem]) rfl ?_
    have hon : u.ownBlock ≠ some w.heap.size := by rw [HU.out]; exact own_ne (by omega)
    first
      | exact ⟨u, ss, t, rfl, (HO.out.kept hf5.g hon).base (by omega), hl, HS.out, HZ.out, HBN.out _ (K2.out.g.trans hf5.g)⟩
      | exact ⟨u, ss, t, rfl, (HO.out.kept (hf5.alloc _).g hon).base (by omega), hl, HS.out, HZ.out, HBN.out _ (K2.out.g.trans (hf5.alloc _).g)⟩

end L2
end Go.Proofs.YtgcjmhecnbhhlaaGreatDoor
