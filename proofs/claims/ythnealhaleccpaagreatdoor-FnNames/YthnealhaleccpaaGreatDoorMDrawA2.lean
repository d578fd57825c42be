/-
  spec.l3Any, walked.
-/
import Derived.Test.YthnealhaleccpaaGreatDoorG06
import Derived.Deep.RegionLaw
namespace Go.Proofs.YthnealhaleccpaaGreatDoor
open Go.RowKit Go.Maps
open Plain

set_option maxRecDepth 100000 in
set_option maxHeartbeats 16000000 in
theorem any3_any (w : World) (B : Nat) (a : Option Addr) (len cap : Nat) (zs : List Int) (hc : CurX w B a len cap zs) :
    Calls Tryz.prog 35 #[.pointer (some ⟨B, 0, none⟩)] w fun e w' => (∃ a' k cap' c u d fs, e = .returned (.agg #[.slice a' k cap', .int .i64 c, .int .i64 u, .bool d]) ∧ (k ≤ 131 ∧ szFs fs ≤ 10000 ∧ -1 ≤ c ∧ c ≤ 100001 ∧ -2 ≤ u ∧ u ≤ 1) ∧ FOwn w' (w.heap.size + 1) (.slice a' k cap') fs) ∧ CurX w' B a len cap zs ∧ w.grownBy w' (some B) := by
  have hB := hc.lt
  obtain ⟨W, hW⟩ : ∃ W, W = w.alloc (.cells #[.slice none 0 0, .int .i64 0, .int .i64 0, .bool false] 39) := ⟨_, rfl⟩
  have hbW : Below w.heap.size w W := by rw [hW]; exact (Below.refl _ _).alloc (Nat.le_refl _) _
  have HW0 : Hid (W.heap[w.heap.size]? = some (.cells #[.slice none 0 0, .int .i64 0, .int .i64 0, .bool false] 39 (0, 0))) := hide (by rw [hW]; exact heap_alloc_new w _)
  have HCW := hide (hc.below hbW hB)
  have HBW := hide hbW
  clear hc hbW
  go_enter Tryz.func35, Tryz.ntmps35
  go_wp2_with fail
  rw [← hW]
  clear hW
  refine (disk3_any W B a len cap zs HCW.out).mono ?_
  rintro e w1 ⟨⟨a', k, cap', fs, rfl, hgd, ho1⟩, hc1, hg1⟩
  obtain ⟨X, hX⟩ : ∃ X, X = w1.alloc (.cells #[.slice a' k cap', .int .i64 200, .int .i64 (-1), .bool false] 39) := ⟨_, rfl⟩
  have hbX : Below w1.heap.size w1 X := by rw [hX]; exact (Below.refl _ _).alloc (Nat.le_refl _) _
  have hwW : w.heap.size < W.heap.size := lt_of_block HW0.out
  have HD : Hid (AMid w X B a len cap zs w1.heap.size a' k cap' 200 (-1) false fs) := hide
    { cur := hc1.below hbX hc1.lt
      res := by rw [hbX.block _ (by have := hg1.size; omega), hg1.block _ hwW (fun e => by injection e with e; omega)]; exact HW0.out
      dsk := by rw [hX]; exact heap_alloc_new w1 _
      own := (ho1.mono (by omega)).later hbX (Nat.le_refl _)
      small := by
        have h1 := hgd.len
        have h2 := hgd.size
        have h3 := hgd.used
        have h4 := ho1.len
        omega
      gro := by
        have h0 : w.grownBy W (some B) := ⟨HBW.out.os, HBW.out.tape, HBW.out.output, HBW.out.size, fun i hi _ => HBW.out.block i hi⟩
        exact grown_below (grown_trans h0 hg1) (hbX.mono (by have := HBW.out.size; have := hg1.size; omega))
      lo := by have := hg1.size; omega
      hB := hB }
  obtain ⟨st, hst⟩ := HD.out.cur
  have HST := hide hst
  have HGZ : Hid (szFs fs ≤ 1800) := hide (by
    have h1 := hgd.len
    have h2 := hgd.size
    have h3 := hgd.used
    omega)
  clear hst hbX hg1 hc1 ho1 hgd HCW HBW HW0
  go_wp2_with fail
  rw [← hX]
  clear hX
  obtain ⟨bd, hbd⟩ : ∃ b, w1.heap.size = b := ⟨_, rfl⟩
  rw [hbd] at HD ⊢
  clear hbd
  refine (below_any 14 X B a len cap zs st HST.out).mono ?_
  rintro e w2 ⟨rfl, hc2, hg2⟩
  have hl := lV_bd zs 14 st (by omega)
  have HD2 := hide (HD.out.grown hg2 ⟨_, hc2⟩)
  clear hc2 hg2 HST HD
  generalize lV zs 14 st = v at *
  have HEND : Hid (∀ wr a2 k2 cap2 c2 u2 d2 gs, AMid w wr B a len cap zs bd a2 k2 cap2 c2 u2 d2 gs → (∃ a' k cap' c u d fs, Ending.returned (.agg #[.slice a2 k2 cap2, .int .i64 c2, .int .i64 u2, .bool d2]) = .returned (.agg #[.slice a' k cap', .int .i64 c, .int .i64 u, .bool d]) ∧ (k ≤ 131 ∧ szFs fs ≤ 10000 ∧ -1 ≤ c ∧ c ≤ 100001 ∧ -2 ≤ u ∧ u ≤ 1) ∧ FOwn (set4 wr w.heap.size (.slice a2 k2 cap2) (.int .i64 c2) (.int .i64 u2) (.bool d2)) (w.heap.size + 1) (.slice a' k cap') fs) ∧ CurX (set4 wr w.heap.size (.slice a2 k2 cap2) (.int .i64 c2) (.int .i64 u2) (.bool d2)) B a len cap zs ∧ w.grownBy (set4 wr w.heap.size (.slice a2 k2 cap2) (.int .i64 c2) (.int .i64 u2) (.bool d2)) (some B)) := hide (fun wr a2 k2 cap2 c2 u2 d2 gs h =>
    ⟨⟨a2, k2, cap2, c2, u2, d2, gs, rfl, h.small, h.own.set4 (h.own.blkNe h.res (by decide)) _ _ _ _⟩, h.cur.set4 hB _ _ _ _, grown_set4 h.gro (Nat.le_refl _) _ _ _ _⟩)
  have n1 : w.heap.size ≠ bd := by have := HD2.out.lo; omega
  have n2 : bd ≠ w.heap.size := by have := HD2.out.lo; omega
  have hbB : bd ≠ B := by have := HD2.out.lo; omega
  by_cases vx : v = 0 ∨ v = 1 ∨ v = 2 ∨ v = 5
  · rcases vx with rfl | rfl | rfl | rfl
    · have hcx : CurX (w2.alloc (.cells #[.int .i64 0, .int .i64 1, .int .i64 (-2), .int .i64 (-1)] 3)) B a len cap zs := HD2.out.cur.below ((Below.refl _ _).alloc (Nat.le_refl _) _) HD2.out.cur.lt
      have HP := hide (pickInt_any [0, 1, -2, -1] w2.heap.size (by simp) (by simp) (w2.alloc (.cells #[.int .i64 0, .int .i64 1, .int .i64 (-2), .int .i64 (-1)] 3)) B a len cap zs hcx (by have := HD2.out.cur.lt; omega) (row_ints w2 [0, 1, -2, -1]))
      clear hcx
      go_wp2_with fail
      refine HP.out.mono ?_
      rintro e w3 ⟨⟨z, hz, rfl⟩, hc3, hg3⟩
      have HD3 := hide ((HD2.out.later ((Below.refl _ _).alloc (Nat.le_refl _) _)).grown hg3 hc3)
      have hz2 : -2 ≤ z ∧ z ≤ 1 := by simp at hz; omega
      have HD4 := hide (HD3.out.field 2 (.int .i64 z) (a2 := a') (k2 := k) (cap2 := cap') (c2 := 200) (u2 := z) (d2 := false) rfl HD3.out.own (by have := HD3.out.small; omega))
      obtain ⟨y0, y1, y2, y3, e0, e1, e2, e3⟩ := cells4 HD3.out.dsk
      obtain ⟨r0, r1, r2, r3, k0, k1, k2, k3⟩ := cells4 HD3.out.res
      clear hc3 hg3 hz hz2
      go_wp2
      refine bodyPost_ret (v := .agg #[Value.slice a' k cap', .int .i64 200, .int .i64 z, .bool false]) (by simp [results, Tryz.results35, go_sem, *]) rfl (HEND.out _ _ _ _ _ _ _ _ HD4.out)
    · have HD4 := hide (HD2.out.field 3 (.bool true) (a2 := a') (k2 := k) (cap2 := cap') (c2 := 200) (u2 := -1) (d2 := true) rfl HD2.out.own HD2.out.small)
      obtain ⟨y0, y1, y2, y3, e0, e1, e2, e3⟩ := cells4 HD2.out.dsk
      obtain ⟨r0, r1, r2, r3, k0, k1, k2, k3⟩ := cells4 HD2.out.res
      go_wp2
      refine bodyPost_ret (v := .agg #[Value.slice a' k cap', .int .i64 200, .int .i64 (-1), .bool true]) (by simp [results, Tryz.results35, go_sem, *]) rfl (HEND.out _ _ _ _ _ _ _ _ HD4.out)
    · have HUS : Hid (∀ W', AMid w W' B a len cap zs bd a' k cap' 200 (-1) false fs → Calls Tryz.prog 61 #[.agg #[.slice a' k cap', .int .i64 200, .int .i64 (-1), .bool false]] W' fun e w' => e = .returned (.int .i64 (usedF fs)) ∧ AMid w w' B a len cap zs bd a' k cap' 200 (-1) false fs) := hide (fun W' h => by
        have h1 := h.small
        have h2 := usedF_le_sz fs
        exact (specUsed_any W' a' k cap' fs h.own.rowZ (by omega) (by omega) 200 (-1) false).mono (fun e w' ⟨q1, q2⟩ => ⟨q1, h.later q2⟩))
      have hus : usedF fs ≤ 10000 := by have h1 := HD2.out.small; have h2 := usedF_le_sz fs; omega
      obtain ⟨U, hU⟩ : ∃ U, usedF fs = U := ⟨_, rfl⟩
      rw [hU] at HUS hus
      clear hU
      have HPI : Hid (∀ W', AMid w W' B a len cap zs bd a' k cap' 200 (-1) false fs → Calls Tryz.prog 30 #[.pointer (some ⟨B, 0, none⟩), .slice (some ⟨W'.heap.size, 0, none⟩) 6 6] (W'.alloc (.cells #[.int .i64 (-1), .int .i64 5, .int .i64 (U : Int), .int .i64 ((U : Int) + 3), .int .i64 100000, .int .i64 100001] 3)) fun e w' => (∃ z : Int, (-1 ≤ z ∧ z ≤ 100001) ∧ e = .returned (.int .i64 z)) ∧ AMid w w' B a len cap zs bd a' k cap' 200 (-1) false fs) := hide (fun W' h => by
        have hcx : CurX (W'.alloc (.cells #[.int .i64 (-1), .int .i64 5, .int .i64 (U : Int), .int .i64 ((U : Int) + 3), .int .i64 100000, .int .i64 100001] 3)) B a len cap zs := h.cur.below ((Below.refl _ _).alloc (Nat.le_refl _) _) h.cur.lt
        refine (pickInt_any [-1, 5, (U : Int), (U : Int) + 3, 100000, 100001] W'.heap.size (by simp) (by simp) _ B a len cap zs hcx (by have := h.cur.lt; omega) (row_ints W' _)).mono ?_
        rintro e w' ⟨⟨z, hz, rfl⟩, hc3, hg3⟩
        exact ⟨⟨z, by simp at hz; omega, rfl⟩, (h.later ((Below.refl _ _).alloc (Nat.le_refl _) _)).grown hg3 hc3⟩)
      have wf : IntKind.i64.wrap ((U : Int) + 3) = (U : Int) + 3 := by rw [IntKind.wrap_i64]; omega
      have HK : Hid (AMid w w2.drew B a len cap zs bd a' k cap' 200 (-1) false fs) := hide HD2.out.drewA
      obtain ⟨y0, y1, y2, y3, -⟩ := cells4 HK.out.dsk
      go_wp2
      go_region_with (first
        | (go_at_call 61; refine (HUS.out _ (by first | exact HK.out | exact HK3.out)).mono ?_; rintro e w3 ⟨rfl, hk3⟩; have HK3 := hide hk3; obtain ⟨y0, y1, y2, y3, -⟩ := cells4 hk3.dsk; clear hk3)
        | (go_at_call 30; refine (HPI.out _ HK3.out).mono ?_; rintro e w5 ⟨⟨z, hz, rfl⟩, hk5⟩; have HK5 := hide hk5; obtain ⟨y0, y1, y2, y3, e0, e1, e2, e3⟩ := cells4 hk5.dsk; obtain ⟨r0, r1, r2, r3, k0, k1, k2, k3⟩ := cells4 hk5.res; clear hk5))
      all_goals
        have HD4 := hide (HK5.out.field 1 (.int .i64 z) (a2 := a') (k2 := k) (cap2 := cap') (c2 := z) (u2 := -1) (d2 := false) rfl HK5.out.own (by have := HK5.out.small; omega))
        clear HUS HPI HK HK3 HK5
        go_wp2
        refine bodyPost_ret (v := .agg #[Value.slice a' k cap', .int .i64 z, .int .i64 (-1), .bool false]) (by simp [results, Tryz.results35, go_sem, *]) rfl (HEND.out _ _ _ _ _ _ _ _ HD4.out)
    · go_wp2
      go_loopw [4] (fun x wr => ∃ (i : Nat) (a2 : Option Addr) (k2 cap2 : Nat) (gs : List FileV), i ≤ 131 ∧ x = .int .i64 i ∧ Hid (szFs gs ≤ 1800 + 40 * i) ∧ Hid (AMid w wr B a len cap zs bd a2 k2 cap2 200 (-1) false gs)) (fun x _ => 131 - (intOf x).toNat)
      case atStart => exact ⟨0, a', k, cap', fs, by omega, rfl, hide (by have := HGZ.out; omega), HD2⟩
      case round =>
        obtain ⟨i, a2, k2, cap2, gs, hi, rfl, HZ, HD⟩ := hrel
        clear HD2 HGZ
        obtain ⟨st', hc'⟩ := HD.out.cur
        have HST := hide hc'
        clear hc'
        go_wp2_with fail
        refine (below_any 3 wr B a len cap zs st' HST.out).mono ?_
        rintro e w3 ⟨rfl, hc3, hg3⟩
        have hl3 := lV_bd zs 3 st' (by omega)
        have HD3 := hide (HD.out.grown hg3 ⟨_, hc3⟩)
        clear hc3 hg3 HST HD
        generalize lV zs 3 st' = z at *
        obtain ⟨y0, y1, y2, y3, e0, e1, e2, e3⟩ := cells4 HD3.out.dsk
        by_cases h1 : (i : Int) < 129 + z
        · have t1 : decide ((i : Int) < 129 + z) = true := by simpa using h1
          by_cases h2 : k2 < 131
          · have t2 : decide ((k2 : Int) < 131) = true := by simp; omega
            obtain ⟨T, hT⟩ : ∃ T : ByteArray, (⟨(dd (100 + i)).toArray⟩ : ByteArray) = T := ⟨_, rfl⟩
            have hTs : T.size ≤ 20 := by
              have h20 := dd_len20 (100 + i) (by omega)
              rw [← hT]
              show (dd (100 + i)).toArray.size ≤ 20
              simpa using h20
            have HDC : Hid (Calls Tryz.prog 63 #[.int .i64 (IntKind.i64.wrap (100 + (i : Int)))] w3.drew fun e w' => e = .returned (.string T) ∧ Below w3.drew.heap.size w3.drew w') := hide (by
              have h := specDec_pos (100 + i) w3.drew (by omega) (by omega)
              have e1 : ((100 + i : Nat) : Int) = IntKind.i64.wrap (100 + (i : Int)) := by rw [IntKind.wrap_i64]; omega
              rw [e1, hT] at h
              exact h)
            clear hT
            have hns : ¬ 9223372036854775807 < 1 + T.size := by omega
            have HK := hide HD3.out.drewA
            obtain ⟨q0, q1, q2, q3, -⟩ := cells4 HK.out.dsk
            obtain ⟨N, hN⟩ : ∃ N : ByteArray, (⟨#[121]⟩ : ByteArray) ++ T = N := ⟨_, rfl⟩
            have HNS : Hid (N.size ≤ 21) := hide (by rw [← hN, ByteArray.size_append]; show 1 + T.size ≤ 21; omega)
            have HAP : Hid (∀ w4, Hid (AMid w w4 B a len cap zs bd a2 k2 cap2 200 (-1) false gs) → ∀ a3 n3 cap3 w5, n3 = gs.length + 1 → FOwn w5 (w.heap.size + 1) (.slice a3 n3 cap3) (gs ++ [⟨N, ⟨#[]⟩, 0⟩]) → (w4.alloc (.cells #[.string N, .string ⟨#[]⟩, .int .i64 0] 73)).grownBy w5 (Value.slice a2 k2 cap2).ownBlock → w5.heap[bd]? = some (.cells #[.slice a2 k2 cap2, .int .i64 200, .int .i64 (-1), .bool false] 39 (0, 0)) ∧ Hid (AMid w (w5.setCell ⟨bd, 0, none⟩ (.slice a3 n3 cap3)) B a len cap zs bd a3 n3 cap3 200 (-1) false (gs ++ [⟨N, ⟨#[]⟩, 0⟩])) ∧ Hid (szFs (gs ++ [⟨N, ⟨#[]⟩, 0⟩]) ≤ 1800 + 40 * (i + 1))) := hide (fun w4 h a3 n3 cap3 w5 hn3 ho3 hg3 => by
              have hl := h.out.own.len
              have hz := HZ.out
              have hzz : szFs (gs ++ [⟨N, ⟨#[]⟩, 0⟩]) ≤ 1800 + 40 * (i + 1) := by
                have h1 := HNS.out
                rw [szFs_append]
                simp only [szFs, szF]
                show szFs gs + (N.size + 0 + 0) ≤ _
                omega
              obtain ⟨q1, q2⟩ := (h.out.later ((Below.refl _ _).alloc (Nat.le_refl _) (.cells #[.string N, .string ⟨#[]⟩, .int .i64 0] 73))).app hg3 ho3 (by omega)
              exact ⟨q1, hide q2, hide hzz⟩)
            go_wp2
            go_region_law (first
              | (refine step_call1 rfl 63 (.tmp 73) 3 rfl Tryz.func63 (by kernel_rfl) rfl _ rfl ?_; refine HDC.out.mono ?_; rintro e w4 ⟨rfl, hb4⟩; refine ⟨_, rfl, ?_⟩; have HK4 := hide (HK.out.later hb4); obtain ⟨p0, p1, p2, p3, -⟩ := cells4 HK4.out.dsk; have pa := (cells4 (HK4.out.later ((Below.refl _ w4).alloc (Nat.le_refl _) (.cells #[.string N, .string ⟨#[]⟩, .int .i64 0] 73))).dsk).1; have HO4 := hide (HK4.out.own.later ((Below.refl _ w4).alloc (Nat.le_refl _) (.cells #[.string N, .string ⟨#[]⟩, .int .i64 0] 73)) (Nat.le_refl _)); clear hb4)
              | (refine step_app_files rfl (.tmp 71) (.tmp 77) rfl HO4.out (by have := lt_of_block HK4.out.res; simp; omega) (row_one w4 ⟨N, ⟨#[]⟩, 0⟩) (by have := HK4.out.own.len; omega) rfl rfl ?_; intro a3 n3 cap3 w5 hn3 hown3 hg3; obtain ⟨hd5, HD5, HZ5⟩ := HAP.out w4 HK4 a3 n3 cap3 w5 hn3 hown3 hg3; obtain ⟨s0, s1, s2, s3, e0, e1, e2, e3⟩ := cells4 hd5; clear hn3 hown3 hg3))
            all_goals
              clear HAP HK HK4 HO4 HDC hN
              (go_wp2; go_roundw <;> first | exact ⟨i + 1, a3, n3, cap3, _, by omega, by go_num, HZ5, HD5⟩ | (simp [intOf]; done) | (simp [intOf]; omega))
          · have t2 : decide ((k2 : Int) < 131) = false := by simp; omega
            obtain ⟨r0, r1, r2, r3, k0, k1, k2', k3⟩ := cells4 HD3.out.res
            go_wp2
            refine bodyPost_ret (v := .agg #[Value.slice a2 k2 cap2, .int .i64 200, .int .i64 (-1), .bool false]) (by simp [results, Tryz.results35, go_sem, *]) rfl (HEND.out _ _ _ _ _ _ _ _ HD3.out)
        · have t1 : decide ((i : Int) < 129 + z) = false := by simpa using h1
          obtain ⟨r0, r1, r2, r3, k0, k1, k2', k3⟩ := cells4 HD3.out.res
          go_wp2
          refine bodyPost_ret (v := .agg #[Value.slice a2 k2 cap2, .int .i64 200, .int .i64 (-1), .bool false]) (by simp [results, Tryz.results35, go_sem, *]) rfl (HEND.out _ _ _ _ _ _ _ _ HD3.out)
  · have HKL := hide HD2.out.own.len
    by_cases hk0 : k = 0
    · have HK0 := hide hk0
      obtain ⟨y0, y1, y2, y3, e0, e1, e2, e3⟩ := cells4 HD2.out.dsk
      obtain ⟨r0, r1, r2, r3, k0, k1, k2, k3⟩ := cells4 HD2.out.res
      have t0 : decide (0 < (k : Int)) = false := by simp; omega
      have t0' : ¬ 0 < k := by omega
      clear hk0
      by_cases v3 : v = 3
      · subst v3
        clear vx
        go_wp2
        refine bodyPost_ret (v := .agg #[Value.slice a' k cap', .int .i64 200, .int .i64 (-1), .bool false]) (by simp [results, Tryz.results35, go_sem, *]) rfl (HEND.out _ _ _ _ _ _ _ _ HD2.out)
      · by_cases v4 : v = 4
        · subst v4
          clear vx v3
          go_wp2
          refine bodyPost_ret (v := .agg #[Value.slice a' k cap', .int .i64 200, .int .i64 (-1), .bool false]) (by simp [results, Tryz.results35, go_sem, *]) rfl (HEND.out _ _ _ _ _ _ _ _ HD2.out)
        · have q0 : (v == 0) = false := by simp; omega
          have q1 : (v == 1) = false := by simp; omega
          have q2 : (v == 2) = false := by simp; omega
          have q3 : (v == 3) = false := by simpa using v3
          have q4 : (v == 4) = false := by simpa using v4
          have q5 : (v == 5) = false := by simp; omega
          clear vx v3 v4
          go_wp2
          refine bodyPost_ret (v := .agg #[Value.slice a' k cap', .int .i64 200, .int .i64 (-1), .bool false]) (by simp [results, Tryz.results35, go_sem, *]) rfl (HEND.out _ _ _ _ _ _ _ _ HD2.out)
    · rcases HD2.out.own.at0 with ⟨_, h, _⟩ | ⟨g, rfl⟩
      · exact absurd h hk0
      · have hf0 : 0 < fs.length := by have := HKL.out; omega
        have t0 : decide (0 < (k : Int)) = true := by simp; omega
        have t0' : 0 < k := by omega
        clear hk0
        have hbl : bd < w2.heap.size := lt_of_block HD2.out.dsk
        have hbl1 : bd ≠ w2.heap.size := by omega
        have hbl2 : w2.heap.size ≠ bd := by omega
        have hgd : g ≠ bd := fun e => HD2.out.own.blkNe HD2.out.dsk (by decide) (by rw [← e]; rfl)
        have hgd2 : bd ≠ g := fun e => hgd e.symm
        have hgw : g ≠ w.heap.size := by have := (HD2.out.own.blk g rfl).1; omega
        have hgw2 : w.heap.size ≠ g := fun e => hgw e.symm
        have HK : Hid (AMid w w2.drew B a len cap zs bd (some ⟨g, 0, none⟩) k cap' 200 (-1) false fs) := hide HD2.out.drewA
        obtain ⟨y0, y1, y2, y3, -⟩ := cells4 HD2.out.dsk
        by_cases v3 : v = 3
        · subst v3
          clear vx
          have HBL : Hid (∀ W', AMid w W' B a len cap zs bd (some ⟨g, 0, none⟩) k cap' 200 (-1) false fs → Calls Tryz.prog 43 #[.pointer (some ⟨B, 0, none⟩), .int .i64 9] W' fun e w' => (∃ z : Int, (0 ≤ z ∧ z < 9) ∧ e = .returned (.int .i64 z)) ∧ AMid w w' B a len cap zs bd (some ⟨g, 0, none⟩) k cap' 200 (-1) false fs) := hide (fun W' h => by
            obtain ⟨st', hc'⟩ := h.cur
            refine (below_any 9 W' B a len cap zs st' hc').mono ?_
            rintro e w' ⟨rfl, hc2, hg2⟩
            exact ⟨⟨_, lV_bd zs 9 st' (by omega), rfl⟩, h.grown hg2 ⟨_, hc2⟩⟩)
          obtain ⟨q0, q1, q2, q3, -⟩ := cells4 HK.out.dsk
          go_wp2
          go_region_with (go_at_call 43; refine (HBL.out _ HK.out).mono ?_; rintro e w3 ⟨⟨z, hz, rfl⟩, hk3⟩; have HK3 := hide hk3; obtain ⟨p0, p1, p2, p3, -⟩ := cells4 hk3.dsk; obtain ⟨c0, c1, c2, f0, f1, f2⟩ := hk3.own.first hf0; clear hk3)
          all_goals
            have HD4 : Hid (AMid w (w3.setCell ⟨g, 2, none⟩ (.int .i64 (z - 1))) B a len cap zs bd (some ⟨g, 0, none⟩) k cap' 200 (-1) false (fs.set 0 ⟨(fs[0]).name, (fs[0]).text, z - 1⟩)) := hide (HK3.out.file ⟨g, 2, none⟩ rfl _ (by simpa using HK3.out.own.putSafe 0 hf0 (z - 1)) (by have h1 := szFs_set fs 0 ⟨(fs[0]).name, (fs[0]).text, z - 1⟩ hf0; have h2 := HK3.out.small; unfold szF at h1; simp only at h1; omega))
            obtain ⟨r0, r1, r2, r3, k0, k1, k2, k3⟩ := cells4 HK3.out.res
            clear HBL HK HK3
            go_wp2
            refine bodyPost_ret (v := .agg #[Value.slice (some ⟨g, 0, none⟩) k cap', .int .i64 200, .int .i64 (-1), .bool false]) (by simp [results, Tryz.results35, go_sem, *]) rfl (HEND.out _ _ _ _ _ _ _ _ HD4.out)
        · by_cases v4 : v = 4
          · subst v4
            clear vx v3
            have HBL : Hid (∀ W', AMid w W' B a len cap zs bd (some ⟨g, 0, none⟩) k cap' 200 (-1) false fs → Calls Tryz.prog 62 #[.pointer (some ⟨B, 0, none⟩), .slice (some ⟨W'.heap.size, 0, none⟩) 4 4] (W'.alloc (.cells #[.string ⟨#[]⟩, .string ⟨#[65]⟩, .string ⟨#[122, 122]⟩, .string ⟨#[116, 111, 111, 108, 111, 110, 103, 97, 110, 97, 109, 101, 49]⟩] 9)) fun e w' => (∃ z : ByteArray, z.size ≤ 13 ∧ e = .returned (.string z)) ∧ AMid w w' B a len cap zs bd (some ⟨g, 0, none⟩) k cap' 200 (-1) false fs) := hide (fun W' h => by
              have hcx : CurX (W'.alloc (.cells #[.string ⟨#[]⟩, .string ⟨#[65]⟩, .string ⟨#[122, 122]⟩, .string ⟨#[116, 111, 111, 108, 111, 110, 103, 97, 110, 97, 109, 101, 49]⟩] 9)) B a len cap zs := h.cur.below ((Below.refl _ _).alloc (Nat.le_refl _) _) h.cur.lt
              refine (pick_any [⟨#[]⟩, ⟨#[65]⟩, ⟨#[122, 122]⟩, ⟨#[116, 111, 111, 108, 111, 110, 103, 97, 110, 97, 109, 101, 49]⟩] W'.heap.size (by simp) (by simp) _ B a len cap zs hcx (by have := h.cur.lt; omega) (row_strs W' _)).mono ?_
              rintro e w' ⟨⟨z, hz, rfl⟩, hc3, hg3⟩
              refine ⟨⟨z, ?_, rfl⟩, (h.later ((Below.refl _ _).alloc (Nat.le_refl _) _)).grown hg3 hc3⟩
              simp only [List.mem_cons, List.not_mem_nil, or_false] at hz
              rcases hz with rfl | rfl | rfl | rfl <;> decide)
            obtain ⟨q0, q1, q2, q3, -⟩ := cells4 HK.out.dsk
            go_wp2
            go_region_with (go_at_call 62; refine (HBL.out _ HK.out).mono ?_; rintro e w3 ⟨⟨z, hz, rfl⟩, hk3⟩; have HK3 := hide hk3; obtain ⟨p0, p1, p2, p3, -⟩ := cells4 hk3.dsk; obtain ⟨c0, c1, c2, f0, f1, f2⟩ := hk3.own.first hf0; clear hk3)
            all_goals
              have HD4 : Hid (AMid w (w3.setCell ⟨g, 0, none⟩ (.string z)) B a len cap zs bd (some ⟨g, 0, none⟩) k cap' 200 (-1) false (fs.set 0 ⟨z, (fs[0]).text, (fs[0]).safe⟩)) := hide (HK3.out.file ⟨g, 0, none⟩ rfl _ (by simpa using HK3.out.own.putName 0 hf0 z) (by have h1 := szFs_set fs 0 ⟨z, (fs[0]).text, (fs[0]).safe⟩ hf0; have h2 := HGZ.out; unfold szF at h1; simp only at h1; omega))
              obtain ⟨r0, r1, r2, r3, k0, k1, k2, k3⟩ := cells4 HK3.out.res
              clear HBL HK HK3
              go_wp2
              refine bodyPost_ret (v := .agg #[Value.slice (some ⟨g, 0, none⟩) k cap', .int .i64 200, .int .i64 (-1), .bool false]) (by simp [results, Tryz.results35, go_sem, *]) rfl (HEND.out _ _ _ _ _ _ _ _ HD4.out)
          · have q0 : (v == 0) = false := by simp; omega
            have q1 : (v == 1) = false := by simp; omega
            have q2 : (v == 2) = false := by simp; omega
            have q3 : (v == 3) = false := by simpa using v3
            have q4 : (v == 4) = false := by simpa using v4
            have q5 : (v == 5) = false := by simp; omega
            obtain ⟨r0, r1, r2, r3, k0, k1, k2, k3⟩ := cells4 HD2.out.res
            clear vx v3 v4
            go_wp2
            refine bodyPost_ret (v := .agg #[Value.slice (some ⟨g, 0, none⟩) k cap', .int .i64 200, .int .i64 (-1), .bool false]) (by simp [results, Tryz.results35, go_sem, *]) rfl (HEND.out _ _ _ _ _ _ _ _ HD2.out)

end Go.Proofs.YthnealhaleccpaaGreatDoor
