/-
  spec.DrawShowLive, spec.DrawSegName and spec.DrawOrphans.
-/
import Derived.Test.YthnealhaleccpaaGreatDoorMDrawA2
import Derived.Test.YthnealhaleccpaaGreatDoorMDrawLive2
namespace Go.Proofs.YthnealhaleccpaaGreatDoor
open Go.RowKit Go.Maps
open Plain

set_option maxRecDepth 100000 in
set_option maxHeartbeats 2000000 in
theorem drawShowL_any (w : World) (a : Option Addr) (len cap : Nat) (zs : List Int) (hc : CodeAt w a len zs) :
    Calls Tryz.prog 5 #[.slice a len cap] w fun e w' => (∃ x b m capb ts, e = .returned (.agg #[.int .i64 x, .slice b m capb]) ∧ m ≤ 61 ∧ IRow w' 0 b m ts) ∧ Below w.heap.size w w' := by
  obtain ⟨W, hW⟩ : ∃ W, W = w.alloc (.cells #[.int .i64 0, .slice none 0 0] 26) := ⟨_, rfl⟩
  have hbW : Below w.heap.size w W := by rw [hW]; exact (Below.refl _ _).alloc (Nat.le_refl _) _
  have HW0 : Hid (W.heap[w.heap.size]? = some (.cells #[.int .i64 0, .slice none 0 0] 26 (0, 0))) := hide (by rw [hW]; exact heap_alloc_new w _)
  have HCW := hide (hc.later hbW)
  have HBW := hide hbW
  clear hc hbW
  go_enter Tryz.func5, Tryz.ntmps5
  go_wp2_with fail
  rw [← hW]
  clear hW
  refine (new_any W a len cap zs HCW.out).mono ?_
  rintro e w1 ⟨rfl, hc1, hb1⟩
  have hwW : w.heap.size < W.heap.size := lt_of_block HW0.out
  have HC1 : Hid (CurX w1 W.heap.size a len cap zs) := hide ⟨_, hc1⟩
  have HB1 : Hid (Below w.heap.size w w1) := hide (HBW.out.trans (hb1.mono HBW.out.size))
  have HW1 := hide ((hb1.block _ hwW).trans HW0.out)
  clear hc1 hb1 HW0 HBW HCW
  obtain ⟨B, hB⟩ : ∃ B, W.heap.size = B := ⟨_, rfl⟩
  rw [hB] at HC1 hwW ⊢
  clear hB
  go_wp2_with fail
  refine (any7_any w1 B a len cap zs HC1.out).mono ?_
  rintro e w2 ⟨⟨x, b, m, capb, ts, rfl, hm, ho2⟩, hc2, hg2⟩
  have HR2 := hide ((hg2.block _ (lt_of_block HW1.out) (fun e => by injection e with e; omega)).trans HW1.out)
  have HB2 : Hid (Below w.heap.size w w2) := hide (HB1.out.grown hg2 HB1.out.size (fun j hj => by injection hj with hj; omega))
  have HO2 := hide ho2
  obtain ⟨r0, r1, f0, f1⟩ := cells2 HR2.out
  clear hc2 hg2 ho2 HW1 HB1 HC1
  go_wp2
  refine bodyPost_ret (v := .agg #[.int .i64 x, .slice b m capb]) (by simp [results, Tryz.results5, go_sem, *]) rfl ⟨⟨x, b, m, capb, ts, rfl, hm, ?_⟩, ?_⟩
  · have hn := HO2.out.blkNe HR2.out (by decide)
    exact ((HO2.out.setNe _ _ hn).setNe _ _ hn).row
  · exact (HB2.out.setCell (Nat.le_refl _) _).setCell (Nat.le_refl _) _

set_option maxRecDepth 100000 in
set_option maxHeartbeats 2000000 in
theorem drawSeg_any (w : World) (a : Option Addr) (len cap : Nat) (zs : List Int) (hc : CodeAt w a len zs) :
    Calls Tryz.prog 10 #[.slice a len cap] w fun e w' => (∃ n : Int, e = .returned (.int .i64 n) ∧ (-1 ≤ n ∧ n ≤ 100001)) ∧ Below w.heap.size w w' := by
  go_enter Tryz.func10, Tryz.ntmps10
  go_wp2_with fail
  refine (new_any w a len cap zs hc).mono ?_
  rintro e w1 ⟨rfl, hc1, hb1⟩
  have HC1 : Hid (CurX w1 w.heap.size a len cap zs) := hide ⟨_, hc1⟩
  have HB1 := hide hb1
  have hcx : CurX (w1.alloc (.cells #[.int .i64 0, .int .i64 1, .int .i64 12, .int .i64 100000, .int .i64 100001, .int .i64 (-1)] 3)) w.heap.size a len cap zs := HC1.out.below ((Below.refl _ _).alloc (Nat.le_refl _) _) HC1.out.lt
  have HP := hide (pickInt_any [0, 1, 12, 100000, 100001, -1] w1.heap.size (by simp) (by simp) (w1.alloc (.cells #[.int .i64 0, .int .i64 1, .int .i64 12, .int .i64 100000, .int .i64 100001, .int .i64 (-1)] 3)) w.heap.size a len cap zs hcx (by have := HC1.out.lt; omega) (row_ints w1 [0, 1, 12, 100000, 100001, -1]))
  clear hc1 hb1 hcx
  go_wp2_with fail
  refine HP.out.mono ?_
  rintro e w3 ⟨⟨z, hz, rfl⟩, hc3, hg3⟩
  have hz2 : -1 ≤ z ∧ z ≤ 100001 := by simp at hz; omega
  have HB3 : Hid (Below w.heap.size w w3) := hide (HB1.out.grown (grown_new hg3) HB1.out.size (fun j hj => by injection hj with hj; omega))
  clear hz hc3 hg3 HP HB1 HC1
  go_wp2
  go_ret
  exact ⟨⟨z, rfl, hz2⟩, HB3.out⟩

set_option maxRecDepth 100000 in
set_option maxHeartbeats 4000000 in
theorem drawOrph_any (w : World) (a : Option Addr) (len cap : Nat) (zs : List Int) (hc : CodeAt w a len zs) :
    Calls Tryz.prog 14 #[.slice a len cap] w fun e w' => (∃ a' k cap' c u d fs x b m capb ts, e = .returned (.tuple #[.agg #[.slice a' k cap', .int .i64 c, .int .i64 u, .bool d], .agg #[.int .i64 x, .slice b m capb]]) ∧ k ≤ 131 ∧ szFs fs ≤ 10000 ∧ m ≤ 61 ∧ FRow w' 0 a' k fs ∧ IRow w' 0 b m ts) ∧ Below w.heap.size w w' := by
  obtain ⟨W, hW⟩ : ∃ W, W = (w.alloc (.cells #[.slice none 0 0, .int .i64 0, .int .i64 0, .bool false] 39)).alloc (.cells #[.int .i64 0, .slice none 0 0] 26) := ⟨_, rfl⟩
  have hA := news2 w (.cells #[.slice none 0 0, .int .i64 0, .int .i64 0, .bool false] 39) (.cells #[.int .i64 0, .slice none 0 0] 26)
  rw [← hW] at hA
  have HW0 : Hid (W.heap[w.heap.size]? = some (.cells #[.slice none 0 0, .int .i64 0, .int .i64 0, .bool false] 39 (0, 0)) ∧ W.heap[w.heap.size + 1]? = some (.cells #[.int .i64 0, .slice none 0 0] 26 (0, 0))) := hide hA.2.2
  have HCW := hide (hc.later hA.2.1)
  have HBW := hide hA.2.1
  clear hc hA
  go_enter Tryz.func14, Tryz.ntmps14
  go_wp2_with fail
  rw [← hW]
  clear hW
  refine (new_any W a len cap zs HCW.out).mono ?_
  rintro e w1 ⟨rfl, hc1, hb1⟩
  have hwW : w.heap.size + 1 < W.heap.size := lt_of_block HW0.out.2
  have HC1 : Hid (CurX w1 W.heap.size a len cap zs) := hide ⟨_, hc1⟩
  have HB1 : Hid (Below w.heap.size w w1) := hide (HBW.out.trans (hb1.mono HBW.out.size))
  have HW1 : Hid (w1.heap[w.heap.size]? = some (.cells #[.slice none 0 0, .int .i64 0, .int .i64 0, .bool false] 39 (0, 0)) ∧ w1.heap[w.heap.size + 1]? = some (.cells #[.int .i64 0, .slice none 0 0] 26 (0, 0))) := hide ⟨(hb1.block _ (by omega)).trans HW0.out.1, (hb1.block _ hwW).trans HW0.out.2⟩
  clear hc1 hb1 HW0 HBW HCW
  obtain ⟨B, hB⟩ : ∃ B, W.heap.size = B := ⟨_, rfl⟩
  rw [hB] at HC1 hwW ⊢
  clear hB
  go_wp2_with fail
  refine (any3_any w1 B a len cap zs HC1.out).mono ?_
  rintro e w2 ⟨⟨a', k, cap', c, u, d, fs, rfl, hsm, ho2⟩, hc2, hg2⟩
  obtain ⟨X, hX⟩ : ∃ X, X = w2.alloc (.cells #[.slice a' k cap', .int .i64 c, .int .i64 u, .bool d] 39) := ⟨_, rfl⟩
  have hbX : Below w2.heap.size w2 X := by rw [hX]; exact (Below.refl _ _).alloc (Nat.le_refl _) _
  have hB1 : B < w1.heap.size := HC1.out.lt
  have hs1 : k ≤ 131 := hsm.1
  have hs2 : szFs fs ≤ 10000 := hsm.2.1
  have hw12 : w1.heap.size ≤ w2.heap.size := hg2.size
  obtain ⟨K, hK⟩ : ∃ K : World → Prop, K = fun W' => CurX W' B a len cap zs ∧ W'.heap[w.heap.size]? = some (.cells #[.slice none 0 0, .int .i64 0, .int .i64 0, .bool false] 39 (0, 0)) ∧ W'.heap[w.heap.size + 1]? = some (.cells #[.int .i64 0, .slice none 0 0] 26 (0, 0)) ∧ W'.heap[w2.heap.size]? = some (.cells #[.slice a' k cap', .int .i64 c, .int .i64 u, .bool d] 39 (0, 0)) ∧ FOwn W' (w1.heap.size + 1) (.slice a' k cap') fs ∧ Below w.heap.size w W' := ⟨_, rfl⟩
  have HK : Hid (K X) := hide (by
    rw [hK]
    refine ⟨hc2.below hbX hc2.lt, ?_, ?_, by rw [hX]; exact heap_alloc_new w2 _, ho2.later hbX (Nat.le_refl _), ?_⟩
    · rw [hbX.block _ (by omega), hg2.block _ (by omega) (fun e => by injection e with e; omega)]
      exact HW1.out.1
    · rw [hbX.block _ (by omega), hg2.block _ (by omega) (fun e => by injection e with e; omega)]
      exact HW1.out.2
    · have h1 : Below w.heap.size w w2 := HB1.out.grown hg2 HB1.out.size (fun j hj => by injection hj with hj; omega)
      exact h1.trans (hbX.mono h1.size))
  have HKG : Hid (∀ W' W'', K W' → W'.grownBy W'' (some B) → CurX W'' B a len cap zs → K W'') := hide (by
    rw [hK]
    rintro W' W'' ⟨q1, q2, q3, q4, q5, q6⟩ hg hcx
    refine ⟨hcx, ?_, ?_, ?_, q5.grownB hg (by omega), q6.grown hg q6.size (fun j hj => by injection hj with hj; omega)⟩
    · rw [hg.block _ (lt_of_block q2) (fun e => by injection e with e; omega)]; exact q2
    · rw [hg.block _ (lt_of_block q3) (fun e => by injection e with e; omega)]; exact q3
    · rw [hg.block _ (lt_of_block q4) (fun e => by injection e with e; omega)]; exact q4)
  obtain ⟨bd, hbd⟩ : ∃ b, w2.heap.size = b := ⟨_, rfl⟩
  have HKX : Hid (∀ W', K W' → CurX W' B a len cap zs ∧ W'.heap[w.heap.size]? = some (.cells #[.slice none 0 0, .int .i64 0, .int .i64 0, .bool false] 39 (0, 0)) ∧ W'.heap[w.heap.size + 1]? = some (.cells #[.int .i64 0, .slice none 0 0] 26 (0, 0)) ∧ W'.heap[bd]? = some (.cells #[.slice a' k cap', .int .i64 c, .int .i64 u, .bool d] 39 (0, 0)) ∧ FOwn W' (w1.heap.size + 1) (.slice a' k cap') fs ∧ Below w.heap.size w W') := hide (by rw [hK, ← hbd]; exact fun _ h => h)
  have hbd2 : w.heap.size + 1 < bd := by omega
  clear hK hbX hc2 hg2 ho2 hsm HW1 HB1 HC1 hw12
  go_wp2_with fail
  rw [← hX]
  clear hX hbd
  have HTX : Hid (∀ W', K W' → Calls Tryz.prog 21 #[.pointer (some ⟨B, 0, none⟩)] W' fun e w' => (∃ x b m capb ts, e = .returned (.agg #[.int .i64 x, .slice b m capb]) ∧ m ≤ 61 ∧ IOwn w' (W'.heap.size + 1) (.slice b m capb) ts) ∧ K w') := hide (fun W' h => by
    refine (any7_any W' B a len cap zs (HKX.out _ h).1).mono ?_
    rintro e w' ⟨h1, hc2, hg2⟩
    exact ⟨h1, HKG.out W' w' h hg2 hc2⟩)
  have HKD := hide (HKG.out X X.drew HK.out ⟨rfl, rfl, rfl, Nat.le_refl _, fun _ _ _ => rfl⟩ ((HKX.out _ HK.out).1.below (Below.refl _ _).drew (HKX.out _ HK.out).1.lt))
  obtain ⟨y0, y1, y2, y3, -⟩ := cells4 (HKX.out _ HKD.out).2.2.2.1
  have n1 : w.heap.size ≠ bd := by omega
  have n2 : bd ≠ w.heap.size := by omega
  have n3 : w.heap.size + 1 ≠ bd := by omega
  have n4 : bd ≠ w.heap.size + 1 := by omega
  go_wp2
  go_region_with (go_at_call 21; refine (HTX.out _ HKD.out).mono ?_; rintro e w4 ⟨⟨x, b, m, capb, ts, rfl, hm, ho4⟩, hk4⟩; have HK4 := hide hk4; have HO4 := hide ho4; obtain ⟨z0, z1, z2, z3, -⟩ := cells4 (HKX.out _ hk4).2.2.2.1; obtain ⟨r0, r1, r2, r3, k0, k1, k2, k3⟩ := cells4 (HKX.out _ hk4).2.1; obtain ⟨s0, s1, j0, j1⟩ := cells2 (HKX.out _ hk4).2.2.1; clear hk4 ho4)
  all_goals
    clear HTX HKD HK HKG
    go_wp2
    refine bodyPost_ret (v := .tuple #[.agg #[.slice a' k cap', .int .i64 c, .int .i64 u, .bool d], .agg #[.int .i64 x, .slice b m capb]]) (by simp [results, Tryz.results14, go_sem, *]) rfl ⟨⟨a', k, cap', c, u, d, fs, x, b, m, capb, ts, rfl, hs1, hs2, hm, ?_, ?_⟩, ?_⟩
    · have h := (HKX.out _ HK4.out).2.2.2.2.1
      have hn := h.blkNe (HKX.out _ HK4.out).2.1 (by decide)
      have hn2 := h.blkNe (HKX.out _ HK4.out).2.2.1 (by decide)
      have h2 := h.set4 hn (.slice a' k cap') (.int .i64 c) (.int .i64 u) (.bool d)
      exact ((h2.setNe _ _ hn2).setNe _ _ hn2).rowZ
    · have h := HO4.out
      have hn := h.blkNe (HKX.out _ HK4.out).2.1 (by decide)
      have hn2 := h.blkNe (HKX.out _ HK4.out).2.2.1 (by decide)
      exact ((((((h.setNe _ _ hn).setNe _ _ hn).setNe _ _ hn).setNe _ _ hn).setNe _ _ hn2).setNe _ _ hn2).row
    · have h := (HKX.out _ HK4.out).2.2.2.2.2
      iterate 6 (refine Below.setCell ?_ (by dsimp only; omega) _)
      exact h

end Go.Proofs.YthnealhaleccpaaGreatDoor
