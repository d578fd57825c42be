/-
  spec.l4Tears and spec.DrawPower: a disk, and up to four tears.
-/
import Derived.Test.YthfpcjamlbkgfaaDrawA2
import Derived.Test.YthfpcjamlbkgfaaIntRow
namespace Go.Proofs.Ythfpcjamlbkgfaa
open Go.RowKit Go.Maps
open Plain

theorem IOwn.grownB {w w' : World} {base B : Nat} {v : Value} {zs : List Int} (h : IOwn w base v zs) (hg : w.grownBy w' (some B)) (hB : B < base) : IOwn w' base v zs := by
  refine World.ownsRow.kept h hg ?_
  cases e : v.ownBlock with
  | none => exact .inl rfl
  | some g => exact .inr (fun q => by injection q with q; have := (h.blk g e).1; omega)

set_option maxRecDepth 100000 in
set_option maxHeartbeats 4000000 in
theorem tears_any (w : World) (B : Nat) (a : Option Addr) (len cap : Nat) (zs : List Int) (hc : CurX w B a len cap zs) :
    Calls Try.prog 32 #[.pointer (some ⟨B, 0, none⟩)] w fun e w' => (∃ b m capb ts, e = .returned (.slice b m capb) ∧ m ≤ 4 ∧ IOwn w' w.heap.size (.slice b m capb) ts) ∧ CurX w' B a len cap zs ∧ w.grownBy w' (some B) := by
  have hB := hc.lt
  obtain ⟨W, hW⟩ : ∃ W, W = w.alloc (.cells #[] 3) := ⟨_, rfl⟩
  have hbW : Below w.heap.size w W := by rw [hW]; exact (Below.refl _ _).alloc (Nat.le_refl _) _
  have hoW : IOwn W w.heap.size (.slice (some ⟨w.heap.size, 0, none⟩) 0 0) [] := ⟨rfl, .inr ⟨w.heap.size, 0, #[], rfl, Nat.le_refl _, by rw [hW]; exact heap_alloc_new w _, Nat.le_refl _, by unfold maxLen; omega, rfl, rfl⟩⟩
  have hcW := hc.below hbW hB
  have hgW : w.grownBy W (some B) := below_grown (some B) hbW
  obtain ⟨st, hst⟩ := hcW
  have HC := hide hst
  have HO := hide hoW
  have HG := hide hgW
  clear hc hbW hoW hgW hst
  go_enter Try.func32, Try.ntmps32
  go_wp2_with fail
  rw [← hW]
  clear hW
  refine (below_any 5 W B a len cap zs st HC.out).mono ?_
  rintro e w1 ⟨rfl, hc1, hg1⟩
  have hl := lV_bd zs 5 st (by omega)
  have HK1 : Hid (IOwn w1 w.heap.size (.slice (some ⟨w.heap.size, 0, none⟩) 0 0) [] ∧ CurX w1 B a len cap zs ∧ w.grownBy w1 (some B)) := hide ⟨HO.out.grownB hg1 hB, ⟨_, hc1⟩, grown_trans HG.out hg1⟩
  obtain ⟨N, hN⟩ := Int.eq_ofNat_of_zero_le hl.1
  rw [hN] at hl ⊢
  have hN4 : N ≤ 4 := by omega
  clear hc1 hg1 HC HO HG hN hl
  go_wp2
  go_loopw [3, 4] (fun v x wr => ∃ (j : Nat) (b : Option Addr) (m capb : Nat) (ts : List Int), j + m ≤ 4 ∧ x = .int .i64 j ∧ v = .slice b m capb ∧ Hid (IOwn wr w.heap.size (.slice b m capb) ts ∧ CurX wr B a len cap zs ∧ w.grownBy wr (some B))) (fun _ x _ => (intOf x).toNat)
  case atStart => exact ⟨N, _, 0, 0, [], by omega, rfl, rfl, HK1⟩
  case round =>
    clear HK1
    obtain ⟨j, b, m, capb, ts, hjm, rfl, rfl, HK⟩ := hrel
    by_cases hj : 0 < j
    · obtain ⟨st2, hst2⟩ := HK.out.2.1
      have HST := hide hst2
      clear hst2
      go_wp2_with fail
      refine (below_any 60 wr B a len cap zs st2 HST.out).mono ?_
      rintro e w2 ⟨rfl, hc2, hg2⟩
      have HK2 : Hid (IOwn w2 w.heap.size (.slice b m capb) ts ∧ CurX w2 B a len cap zs ∧ w.grownBy w2 (some B)) := hide ⟨HK.out.1.grownB hg2 hB, ⟨_, hc2⟩, grown_trans HK.out.2.2 hg2⟩
      clear hc2 hg2 HST HK
      generalize lV zs 60 st2 = z0
      have hB2 := HK2.out.2.1.lt
      have hcx : CurX (w2.alloc (.cells #[.int .i64 0, .int .i64 1, .int .i64 2, .int .i64 5, .int .i64 17, .int .i64 1000003, .int .i64 (-1), .int .i64 9223372036854775807, .int .i64 z0] 3)) B a len cap zs := HK2.out.2.1.below ((Below.refl _ _).alloc (Nat.le_refl _) _) hB2
      have HP := hide (pickInt_any [0, 1, 2, 5, 17, 1000003, -1, 9223372036854775807, z0] w2.heap.size (by simp) (by simp) (w2.alloc (.cells #[.int .i64 0, .int .i64 1, .int .i64 2, .int .i64 5, .int .i64 17, .int .i64 1000003, .int .i64 (-1), .int .i64 9223372036854775807, .int .i64 z0] 3)) B a len cap zs hcx (by omega) (row_ints w2 [0, 1, 2, 5, 17, 1000003, -1, 9223372036854775807, z0]))
      clear hcx
      go_wp2_with fail
      refine HP.out.mono ?_
      rintro e w3 ⟨⟨z, hz, rfl⟩, hc3, hg3⟩
      have HK3 : Hid (IOwn w3 w.heap.size (.slice b m capb) ts ∧ CurX w3 B a len cap zs ∧ w.grownBy w3 (some B)) := hide ⟨(HK2.out.1.later ((Below.refl _ _).alloc (Nat.le_refl _) _) (Nat.le_refl _)).grownB hg3 hB, hc3, grown_trans HK2.out.2.2 (grown_new hg3)⟩
      clear hz hc3 hg3 HK2 HP hB2
      have HS3 : Hid (w.heap.size ≤ w3.heap.size) := hide HK3.out.2.2.size
      have HLN := hide HK3.out.1.len
      have HO3 : Hid ((w3.alloc (.cells #[.int .i64 z] 3)).ownsRow w.heap.size 3 1 (.slice b m capb) m (ts.map (Value.int .i64))) := hide (by
        have h := HK3.out.1.later ((Below.refl w3.heap.size w3).alloc (Nat.le_refl _) (.cells #[.int .i64 z] 3)) (Nat.le_refl _)
        unfold IOwn at h
        rw [HLN.out] at h
        exact h)
      go_wp2_with (at_builtin; refine wpList_app_i64 rfl (.tmp 12) (.tmp 18) rfl z HO3.out HS3.out (by omega) rfl rfl ?_; intro v' w5 ho5 hg5; have HO5 := hide ho5; have HG5 := hide hg5; clear ho5 hg5)
      have hval : ∃ b' cap', v' = .slice b' (m + 1) cap' := by
        rcases HO5.out.2 with ⟨e, h0⟩ | ⟨g, cap, cur, e, _⟩
        · omega
        · exact ⟨_, _, e⟩
      obtain ⟨b', cap', rfl⟩ := hval
      have HK5 : Hid (IOwn w5 w.heap.size (.slice b' (m + 1) cap') (ts ++ [z]) ∧ CurX w5 B a len cap zs ∧ w.grownBy w5 (some B)) := hide (by
        have hA : Below w3.heap.size w3 (w3.alloc (.cells #[.int .i64 z] 3)) := (Below.refl _ _).alloc (Nat.le_refl _) _
        have hb5 : Below w.heap.size (w3.alloc (.cells #[.int .i64 z] 3)) w5 := (Below.refl _ _).grown HG5.out (Nat.le_trans HS3.out hA.size) (fun k hk => (World.ownsRow.lt HO3.out k hk).1)
        refine ⟨?_, (HK3.out.2.1.below hA HK3.out.2.1.lt).below hb5 hB, grown_below (grown_trans HK3.out.2.2 (below_grown (some B) hA)) hb5⟩
        unfold IOwn
        rw [List.length_append, HLN.out, List.map_append]
        exact HO5.out)
      clear HO5 HG5 HO3 HLN HS3 HK3
      refine ⟨⟨j - 1, b', m + 1, cap', ts ++ [z], by omega, ?_, rfl, HK5⟩, ?_⟩
      · rw [show ((j - 1 : Nat) : Int) = (j : Int) - 1 by omega]
      · simp [intOf]; omega
    · obtain rfl : j = 0 := by omega
      go_wp2
      go_ret
      exact ⟨⟨b, m, capb, ts, rfl, by omega, HK.out.1⟩, HK.out.2.1, HK.out.2.2⟩

theorem IOwn.setNe {w : World} {base : Nat} {v : Value} {zs : List Int} (h : IOwn w base v zs) (p : Addr) (u : Value) (hp : v.ownBlock ≠ some p.block) : IOwn (w.setCell p u) base v zs := by
  refine ⟨h.1, ?_⟩
  rcases h.2 with h | ⟨g, c, cur, e, hbg, hg, h1⟩
  · exact .inl h
  · refine .inr ⟨g, c, cur, e, hbg, ?_, h1⟩
    rw [Below.heap_setCell w p u g (by intro q; apply hp; rw [e, ← q]; rfl)]
    exact hg
theorem IOwn.set4 {w : World} {base : Nat} {v : Value} {zs : List Int} (h : IOwn w base v zs) {b : Nat} (hb : v.ownBlock ≠ some b) (v0 v1 v2 v3 : Value) : IOwn (Proofs.Ythfpcjamlbkgfaa.set4 w b v0 v1 v2 v3) base v zs :=
  (((h.setNe _ _ hb).setNe _ _ hb).setNe _ _ hb).setNe _ _ hb

set_option maxRecDepth 100000 in
set_option maxHeartbeats 2000000 in
theorem drawPower_any (w : World) (a : Option Addr) (len cap : Nat) (zs : List Int) (hc : CodeAt w a len zs) :
    Calls Try.prog 9 #[.slice a len cap] w fun e w' => (∃ a' k cap' c u d fs b m capb ts, e = .returned (.tuple #[.agg #[.slice a' k cap', .int .i64 c, .int .i64 u, .bool d], .slice b m capb]) ∧ (k ≤ 131 ∧ szFs fs ≤ 10000 ∧ -1 ≤ c ∧ c ≤ 100001 ∧ -2 ≤ u ∧ u ≤ 1) ∧ m ≤ 4 ∧ FOwn w' w.heap.size (.slice a' k cap') fs ∧ IOwn w' w.heap.size (.slice b m capb) ts) ∧ Below w.heap.size w w' := by
  obtain ⟨W, hW⟩ : ∃ W, W = w.alloc (.cells #[.slice none 0 0, .int .i64 0, .int .i64 0, .bool false] 26) := ⟨_, rfl⟩
  have hbW : Below w.heap.size w W := by rw [hW]; exact (Below.refl _ _).alloc (Nat.le_refl _) _
  have HW0 : Hid (W.heap[w.heap.size]? = some (.cells #[.slice none 0 0, .int .i64 0, .int .i64 0, .bool false] 26 (0, 0))) := hide (by rw [hW]; exact heap_alloc_new w _)
  have HCW := hide (hc.later hbW)
  have HBW := hide hbW
  clear hc hbW
  go_enter Try.func9, Try.ntmps9
  go_wp2_with fail
  rw [← hW]
  clear hW
  refine (new_any W a len cap zs HCW.out).mono ?_
  rintro e w1 ⟨rfl, hc1, hb1⟩
  have hwW : w.heap.size < W.heap.size := lt_of_block HW0.out
  have HC1 : Hid (CurX w1 W.heap.size a len cap zs) := hide ⟨_, hc1⟩
  have HB1 := hide (HBW.out.trans (hb1.mono HBW.out.size))
  have HW1 := hide ((hb1.block _ hwW).trans HW0.out)
  clear hc1 hb1 HW0 HBW HCW
  obtain ⟨B, hB⟩ : ∃ B, W.heap.size = B := ⟨_, rfl⟩
  rw [hB] at HC1 hwW ⊢
  clear hB
  go_wp2_with fail
  refine (any3_any w1 B a len cap zs HC1.out).mono ?_
  rintro e w2 ⟨⟨a', k, cap', c, u, d, fs, rfl, hsm, ho2⟩, hc2, hg2⟩
  obtain ⟨X, hX⟩ : ∃ X, X = w2.alloc (.cells #[.slice a' k cap', .int .i64 c, .int .i64 u, .bool d] 26) := ⟨_, rfl⟩
  have hbX : Below w2.heap.size w2 X := by rw [hX]; exact (Below.refl _ _).alloc (Nat.le_refl _) _
  have hB1 : B < w1.heap.size := HC1.out.lt
  have HSM := hide hsm
  -- what stands behind the draw of the disk
  have HK : Hid (CurX X B a len cap zs ∧ X.heap[w.heap.size]? = some (.cells #[.slice none 0 0, .int .i64 0, .int .i64 0, .bool false] 26 (0, 0)) ∧ X.heap[w2.heap.size]? = some (.cells #[.slice a' k cap', .int .i64 c, .int .i64 u, .bool d] 26 (0, 0)) ∧ FOwn X (w1.heap.size + 1) (.slice a' k cap') fs ∧ Below w.heap.size w X) := hide (by
    refine ⟨hc2.below hbX hc2.lt, ?_, by rw [hX]; exact heap_alloc_new w2 _, ho2.later hbX (Nat.le_refl _), ?_⟩
    · rw [hbX.block _ (by have := hg2.size; omega), hg2.block _ (by omega) (fun e => by injection e with e; omega)]
      exact HW1.out
    · have h1 : Below w.heap.size w w2 := HB1.out.grown hg2 HB1.out.size (fun j hj => by injection hj with hj; omega)
      exact h1.trans (hbX.mono h1.size))
  have hw12 : w1.heap.size ≤ w2.heap.size := hg2.size
  clear hbX hc2 hg2 ho2 hsm HW1 HB1 HC1
  go_wp2_with fail
  rw [← hX]
  clear hX
  obtain ⟨bd, hbd⟩ : ∃ b, w2.heap.size = b := ⟨_, rfl⟩
  rw [hbd] at HK hw12 ⊢
  clear hbd
  obtain ⟨L, hL⟩ : ∃ L, w1.heap.size = L := ⟨_, rfl⟩
  rw [hL] at HK hw12 hB1
  clear hL
  have HKG : Hid (∀ W' W'', (CurX W' B a len cap zs ∧ W'.heap[w.heap.size]? = some (.cells #[.slice none 0 0, .int .i64 0, .int .i64 0, .bool false] 26 (0, 0)) ∧ W'.heap[bd]? = some (.cells #[.slice a' k cap', .int .i64 c, .int .i64 u, .bool d] 26 (0, 0)) ∧ FOwn W' (L + 1) (.slice a' k cap') fs ∧ Below w.heap.size w W') → W'.grownBy W'' (some B) → CurX W'' B a len cap zs → (CurX W'' B a len cap zs ∧ W''.heap[w.heap.size]? = some (.cells #[.slice none 0 0, .int .i64 0, .int .i64 0, .bool false] 26 (0, 0)) ∧ W''.heap[bd]? = some (.cells #[.slice a' k cap', .int .i64 c, .int .i64 u, .bool d] 26 (0, 0)) ∧ FOwn W'' (L + 1) (.slice a' k cap') fs ∧ Below w.heap.size w W'')) := hide (fun W' W'' h hg hcx => by
    obtain ⟨q1, q2, q3, q4, q5⟩ := h
    refine ⟨hcx, ?_, ?_, q4.grownB hg (by omega), q5.grown hg q5.size (fun j hj => by injection hj with hj; omega)⟩
    · rw [hg.block _ (lt_of_block q2) (fun e => by injection e with e; omega)]; exact q2
    · rw [hg.block _ (lt_of_block q3) (fun e => by injection e with e; omega)]; exact q3)
  have HK3 := HK
  clear HK
  have HTX : Hid (∀ W', (CurX W' B a len cap zs ∧ W'.heap[w.heap.size]? = some (.cells #[.slice none 0 0, .int .i64 0, .int .i64 0, .bool false] 26 (0, 0)) ∧ W'.heap[bd]? = some (.cells #[.slice a' k cap', .int .i64 c, .int .i64 u, .bool d] 26 (0, 0)) ∧ FOwn W' (L + 1) (.slice a' k cap') fs ∧ Below w.heap.size w W') → Calls Try.prog 32 #[.pointer (some ⟨B, 0, none⟩)] W' fun e w' => (∃ b m capb ts, e = .returned (.slice b m capb) ∧ m ≤ 4 ∧ IOwn w' (w.heap.size + 1) (.slice b m capb) ts) ∧ (CurX w' B a len cap zs ∧ w'.heap[w.heap.size]? = some (.cells #[.slice none 0 0, .int .i64 0, .int .i64 0, .bool false] 26 (0, 0)) ∧ w'.heap[bd]? = some (.cells #[.slice a' k cap', .int .i64 c, .int .i64 u, .bool d] 26 (0, 0)) ∧ FOwn w' (L + 1) (.slice a' k cap') fs ∧ Below w.heap.size w w')) := hide (fun W' h => by
    refine (tears_any W' B a len cap zs h.1).mono ?_
    rintro e w' ⟨⟨b, m, capb, ts, e1, e2, e3⟩, hc2, hg2⟩
    have hlt := lt_of_block h.2.1
    exact ⟨⟨b, m, capb, ts, e1, e2, e3.mono hlt⟩, HKG.out W' w' h hg2 hc2⟩)
  have HKD := hide (HKG.out X X.drew HK3.out ⟨rfl, rfl, rfl, Nat.le_refl _, fun _ _ _ => rfl⟩ (HK3.out.1.below (Below.refl _ _).drew HK3.out.1.lt))
  obtain ⟨y0, y1, y2, y3, -⟩ := cells4 HKD.out.2.2.1
  obtain ⟨s0, s1, s2, s3, j0, j1, j2, j3⟩ := cells4 HKD.out.2.1
  have n1 : w.heap.size ≠ bd := by have := HK3.out.1.lt; omega
  have n2 : bd ≠ w.heap.size := by omega
  go_wp2
  go_region_with (go_at_call 32; refine (HTX.out _ HKD.out).mono ?_; rintro e w4 ⟨⟨tb, m, capb, ts, rfl, hm4, ho4⟩, hk4⟩; have HK4 := hide hk4; have HT := hide hm4; have HO4 := hide ho4; obtain ⟨z0, z1, z2, z3, -⟩ := cells4 hk4.2.2.1; obtain ⟨r0, r1, r2, r3, k0, k1, k2, k3⟩ := cells4 hk4.2.1; clear hk4 hm4 ho4)
  all_goals
    clear HTX HKD HK3 HKG
    go_wp2
    refine bodyPost_ret (v := .tuple #[.agg #[.slice a' k cap', .int .i64 c, .int .i64 u, .bool d], .slice tb m capb]) (by simp [results, Try.results9, go_sem, *]) rfl ⟨⟨a', k, cap', c, u, d, fs, tb, m, capb, ts, rfl, HSM.out, HT.out, ?_, ?_⟩, ?_⟩
    · refine FOwn.mono ?_ (show w.heap.size ≤ L + 1 by omega)
      exact HK4.out.2.2.2.1.set4 (HK4.out.2.2.2.1.blkNe HK4.out.2.1 (by decide)) _ _ _ _
    · refine IOwn.mono ?_ (show w.heap.size ≤ w.heap.size + 1 by omega)
      have hne : (Value.slice tb m capb).ownBlock ≠ some w.heap.size := fun e => by have := (HO4.out.blk _ e).1; omega
      exact HO4.out.set4 hne _ _ _ _
    · exact (((HK4.out.2.2.2.2.setCell (Nat.le_refl _) _).setCell (Nat.le_refl _) _).setCell (Nat.le_refl _) _).setCell (Nat.le_refl _) _

end Go.Proofs.Ythfpcjamlbkgfaa
