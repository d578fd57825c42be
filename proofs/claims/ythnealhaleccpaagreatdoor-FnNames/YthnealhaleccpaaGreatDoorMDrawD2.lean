/-
  spec.l3Disk, walked.
-/
import Derived.Test.YthnealhaleccpaaGreatDoorG04
import Derived.Deep.RegionHeld3
namespace Go.Proofs.YthnealhaleccpaaGreatDoor
open Go.RowKit Go.Maps
open Plain

set_option maxRecDepth 100000 in
set_option maxHeartbeats 2000000 in
theorem disk3_any (w : World) (B : Nat) (a : Option Addr) (len cap : Nat) (zs : List Int) (hc : CurX w B a len cap zs) :
    Calls Tryz.prog 60 #[.pointer (some ⟨B, 0, none⟩)] w fun e w' => (∃ a' k cap' fs, e = .returned (.agg #[.slice a' k cap', .int .i64 200, .int .i64 (-1), .bool false]) ∧ GoodF fs 200 ∧ FOwn w' (w.heap.size + 1) (.slice a' k cap') fs) ∧ CurX w' B a len cap zs ∧ w.grownBy w' (some B) := by
  have hB := hc.lt
  obtain ⟨W, hW⟩ : ∃ W, W = w.alloc (.cells #[.slice none 0 0, .int .i64 0, .int .i64 0, .bool false] 39) := ⟨_, rfl⟩
  have hbW : Below w.heap.size w W := by rw [hW]; exact (Below.refl _ _).alloc (Nat.le_refl _) _
  have HW0 : Hid (W.heap[w.heap.size]? = some (.cells #[.slice none 0 0, .int .i64 0, .int .i64 0, .bool false] 39 (0, 0))) := hide (by rw [hW]; exact heap_alloc_new w _)
  have HCW := hide (hc.below hbW hB)
  have HBW := hide hbW
  clear hc hbW
  go_enter Tryz.func60, Tryz.ntmps60
  go_wp2_with fail
  rw [← hW]
  clear hW
  refine (specNew_any 200 W).mono ?_
  rintro e w1 ⟨rfl, hb1⟩
  rw [show newC 200 = 200 from rfl, show newU 200 = -1 from rfl]
  obtain ⟨X, hX⟩ : ∃ X, X = w1.alloc (.cells #[.slice none 0 0, .int .i64 200, .int .i64 (-1), .bool false] 39) := ⟨_, rfl⟩
  have hbX : Below W.heap.size W X := by rw [hX]; exact hb1.trans (((Below.refl _ _).alloc (Nat.le_refl _) _).mono hb1.size)
  have hwW : w.heap.size < W.heap.size := lt_of_block HW0.out
  have HD : Hid (DMid w X B a len cap zs w1.heap.size none 0 0 []) := hide
    { cur := HCW.out.below hbX (by omega)
      res := (hbX.block _ hwW).trans HW0.out
      dsk := by rw [hX]; exact heap_alloc_new w1 _
      own := ⟨rfl, .inl ⟨rfl, rfl⟩⟩
      good := good_nil
      gro := by
        have h := HBW.out.trans (hbX.mono HBW.out.size)
        exact ⟨h.os, h.tape, h.output, h.size, fun i hi _ => h.block i hi⟩
      lo := by have := hb1.size; omega
      hB := hB }
  obtain ⟨st, hst⟩ := HD.out.cur
  have HST := hide hst
  clear hst hbX hb1 HCW HBW HW0
  go_wp2_with fail
  rw [← hX]
  clear hX
  obtain ⟨bd, hbd⟩ : ∃ b, w1.heap.size = b := ⟨_, rfl⟩
  rw [hbd] at HD ⊢
  clear hbd
  refine (below_any 12 X B a len cap zs st HST.out).mono ?_
  rintro e w2 ⟨rfl, hc2, hg2⟩
  have hl := lV_bd zs 12 st (by omega)
  obtain ⟨m0, hm0⟩ := Int.eq_ofNat_of_zero_le hl.1
  rw [hm0] at hl ⊢
  have HD2 := hide (HD.out.grown hg2 ⟨_, hc2⟩)
  clear hm0 hc2 hg2 HST HD
  go_wp2
  go_loopw [4] (fun i wr => ∃ (m : Nat) (a' : Option Addr) (k cap' : Nat) (fs : List FileV), m ≤ 12 ∧ i = .int .i64 m ∧ Hid (DMid w wr B a len cap zs bd a' k cap' fs)) (fun i _ => (intOf i).toNat)
  case atStart => exact ⟨m0, none, 0, 0, [], by omega, rfl, HD2⟩
  case round =>
    obtain ⟨m, a', k, cap', fs, hm, rfl, HD⟩ := hrel
    clear HD2
    by_cases h0 : m = 0
    · subst h0
      obtain ⟨y0, y1, y2, y3, -⟩ := cells4 HD.out.dsk
      obtain ⟨r0, r1, r2, r3, k0, k1, k2, k3⟩ := cells4 HD.out.res
      have n1 : w.heap.size ≠ bd := by have := HD.out.lo; omega
      go_wp2
      refine bodyPost_ret (v := .agg #[.slice a' k cap', .int .i64 200, .int .i64 (-1), .bool false]) (by simp [results, Tryz.results60, go_sem, *]) rfl ⟨⟨a', k, cap', fs, rfl, HD.out.good, ?_⟩, ?_, ?_⟩
      · exact HD.out.own.set4 (HD.out.own.blkNe HD.out.res (by decide)) _ _ _ _
      · exact HD.out.cur.set4 hB _ _ _ _
      · exact grown_set4 HD.out.gro (Nat.le_refl _) _ _ _ _
    · have t0 : decide (0 < (m : Int)) = true := by simp; omega
      go_wp2_with fail
      refine (name3_any wr B a len cap zs HD.out.cur).mono ?_
      rintro e w3 ⟨⟨s, hs, rfl⟩, hc3, hg3⟩
      have HD3 := hide (HD.out.grown hg3 hc3)
      clear hc3 hg3 HD
      obtain ⟨X3, hX3⟩ : ∃ X, X = w3.alloc (.cells #[.slice a' k cap', .int .i64 200, .int .i64 (-1), .bool false] 39) := ⟨_, rfl⟩
      have hbX3 : Below w3.heap.size w3 X3 := by rw [hX3]; exact (Below.refl _ _).alloc (Nat.le_refl _) _
      have HDX := hide (HD3.out.later hbX3)
      have HX3 : Hid (X3.heap[w3.heap.size]? = some (.cells #[.slice a' k cap', .int .i64 200, .int .i64 (-1), .bool false] 39 (0, 0))) := hide (by rw [hX3]; exact heap_alloc_new w3 _)
      obtain ⟨y0, y1, y2, y3, -⟩ := cells4 HD3.out.dsk
      obtain ⟨st3, hst3⟩ := HDX.out.cur
      have HST := hide hst3
      have hbd3 : bd < w3.heap.size := lt_of_block HD3.out.dsk
      clear hbX3 hst3 HD3
      go_wp2_with fail
      clear y0 y1 y2 y3
      rw [← hX3]
      clear hX3
      obtain ⟨xb, hxb⟩ : ∃ b, w3.heap.size = b := ⟨_, rfl⟩
      rw [hxb] at HX3 hbd3 ⊢
      clear hxb
      refine (below_any 6 X3 B a len cap zs st3 HST.out).mono ?_
      rintro e w4 ⟨rfl, hc4, hg4⟩
      have hl4 := lV_bd zs 6 st3 (by omega)
      have HD4 := hide (HDX.out.grown hg4 ⟨_, hc4⟩)
      have HX4 : Hid (w4.heap[xb]? = some (.cells #[.slice a' k cap', .int .i64 200, .int .i64 (-1), .bool false] 39 (0, 0))) := hide (by
        have := HDX.out.hB; have := HDX.out.lo
        rw [hg4.block _ (lt_of_block HX3.out) (fun e => by injection e with e; omega)]; exact HX3.out)
      clear hc4 hg4 HDX HX3 HST
      generalize lV zs 6 st3 = v at *
      have hgs := HD4.out.good
      have hle := hgs.len
      have husd := hgs.used
      have hsz := hgs.size
      have hfl := HD4.out.own.len
      have HBG := hide (beg_good hgs)
      clear hgs
      have n1 : xb ≠ bd := by omega
      have n2 : bd ≠ xb := by omega
      by_cases hv : v = 0 ∨ v = 1
      · have HCR := hide (specCreate_any w4 a' k cap' fs HD4.out.own.rowZ HD4.out.own.cap0 (by omega) (by omega) 200 (-1) false (by omega) (by omega) s (by omega))
        rw [HBG.out.2.1, HBG.out.2.2] at HCR
        obtain ⟨y0, y1, y2, y3, -⟩ := cells4 HD4.out.dsk
        rcases hv with rfl | rfl
        · go_wp2_with fail
          clear y0 y1 y2 y3
          refine HCR.out.mono ?_
          rintro e w5 ⟨⟨a2, cap2, rfl, ho5⟩, hb5⟩
          have HD5 := hide (HD4.out.later hb5)
          have HX5 := hide ((hb5.block _ (lt_of_block HX4.out)).trans HX4.out)
          have HF := hide (HD5.out.put HX5.out hbd3 (ho5.mono (by have := HD4.out.gro.size; have := lt_of_block HD4.out.res; omega)) (good_creF HD4.out.good s))
          clear ho5 hb5
          obtain ⟨x0, x1, x2, x3, f0, f1, f2, f3⟩ := cells4 HX5.out
          obtain ⟨y0, y1, y2, y3, e0, e1, e2, e3⟩ := cells4 HD5.out.dsk
          go_wp2
          go_roundw
          case rel => exact ⟨m - 1, a2, _, cap2, _, by omega, by congr 1; omega, HF⟩
          case measure => first | (simp [intOf]; done) | (simp [intOf]; omega)
        · go_wp2_with fail
          clear y0 y1 y2 y3
          refine HCR.out.mono ?_
          rintro e w5 ⟨⟨a2, cap2, rfl, ho5⟩, hb5⟩
          have HD5 := hide (HD4.out.later hb5)
          have HX5 := hide ((hb5.block _ (lt_of_block HX4.out)).trans HX4.out)
          have HF := hide (HD5.out.put HX5.out hbd3 (ho5.mono (by have := HD4.out.gro.size; have := lt_of_block HD4.out.res; omega)) (good_creF HD4.out.good s))
          clear ho5 hb5
          obtain ⟨x0, x1, x2, x3, f0, f1, f2, f3⟩ := cells4 HX5.out
          obtain ⟨y0, y1, y2, y3, e0, e1, e2, e3⟩ := cells4 HD5.out.dsk
          go_wp2
          go_roundw
          case rel => exact ⟨m - 1, a2, _, cap2, _, by omega, by congr 1; omega, HF⟩
          case measure => first | (simp [intOf]; done) | (simp [intOf]; omega)
      · by_cases hv4 : v = 4
        · subst hv4
          have HSY := hide (specSync_any w4 a' k cap' fs HD4.out.own.rowZ HD4.out.own.cap0 (by omega) (by omega) 200 (-1) false (by omega) (by omega) s)
          rw [HBG.out.2.1, HBG.out.2.2] at HSY
          obtain ⟨y0, y1, y2, y3, -⟩ := cells4 HD4.out.dsk
          clear hv
          go_wp2_with fail
          clear y0 y1 y2 y3
          refine HSY.out.mono ?_
          rintro e w5 ⟨⟨a2, cap2, rfl, ho5⟩, hb5⟩
          have HD5 := hide (HD4.out.later hb5)
          have HX5 := hide ((hb5.block _ (lt_of_block HX4.out)).trans HX4.out)
          have HF := hide (HD5.out.put HX5.out hbd3 (ho5.mono (by have := HD4.out.gro.size; have := lt_of_block HD4.out.res; omega)) (good_synF HD4.out.good s))
          clear ho5 hb5
          obtain ⟨x0, x1, x2, x3, f0, f1, f2, f3⟩ := cells4 HX5.out
          obtain ⟨y0, y1, y2, y3, e0, e1, e2, e3⟩ := cells4 HD5.out.dsk
          go_wp2
          go_roundw
          case rel => exact ⟨m - 1, a2, _, cap2, _, by omega, by congr 1; omega, HF⟩
          case measure => first | (simp [intOf]; done) | (simp [intOf]; omega)
        · have HTX : Hid (∀ W', (DMid w W' B a len cap zs bd a' k cap' fs ∧ W'.heap[xb]? = some (.cells #[.slice a' k cap', .int .i64 200, .int .i64 (-1), .bool false] 39 (0, 0))) → Calls Tryz.prog 85 #[.pointer (some ⟨B, 0, none⟩), .int .i64 9] W' fun e w' => (∃ t : ByteArray, t.size ≤ 9 ∧ e = .returned (.string t)) ∧ (DMid w w' B a len cap zs bd a' k cap' fs ∧ w'.heap[xb]? = some (.cells #[.slice a' k cap', .int .i64 200, .int .i64 (-1), .bool false] 39 (0, 0)))) := hide (fun W' h => by
            obtain ⟨st', hc'⟩ := h.1.cur
            refine (text_any 9 (by omega) (by omega) W' B a len cap zs st' hc').mono ?_
            rintro e w' ⟨rfl, hc2, hg2⟩
            have := h.1.hB
            have := h.1.lo
            refine ⟨⟨_, by rw [strOfNums_size]; have := tV_length zs 9 st' (by omega); omega, rfl⟩, h.1.grown hg2 ⟨_, hc2⟩, ?_⟩
            rw [hg2.block _ (lt_of_block h.2) (fun e => by injection e with e; omega)]
            exact h.2)
          have HSA : Hid (∀ W' (t : ByteArray), t.size ≤ 9 → (DMid w W' B a len cap zs bd a' k cap' fs ∧ W'.heap[xb]? = some (.cells #[.slice a' k cap', .int .i64 200, .int .i64 (-1), .bool false] 39 (0, 0))) → Calls Tryz.prog 84 #[.agg #[.slice a' k cap', .int .i64 200, .int .i64 (-1), .bool false], .string s, .string t] W' fun e w' => (∃ a2 cap2, e = .returned (.tuple #[.agg #[.slice a2 k cap2, .int .i64 200, .int .i64 (-1), .bool false], .int .i64 (appF fs 200 (-1) false s t).2]) ∧ Hid (DMid w (set4 (set4 w' xb (.slice a2 k cap2) (.int .i64 200) (.int .i64 (-1)) (.bool false)) bd (.slice a2 k cap2) (.int .i64 200) (.int .i64 (-1)) (.bool false)) B a len cap zs bd a2 k cap2 (appF fs 200 (-1) false s t).1)) ∧ w'.heap[xb]? = some (.cells #[.slice a' k cap', .int .i64 200, .int .i64 (-1), .bool false] 39 (0, 0)) ∧ w'.heap[bd]? = some (.cells #[.slice a' k cap', .int .i64 200, .int .i64 (-1), .bool false] 39 (0, 0))) := hide (fun W' t ht h => by
            have h1 := specAppend_any W' a' k cap' fs h.1.own.rowZ h.1.own.cap0 (by omega) (by omega) 200 (-1) false (by omega) (by omega) s t
            rw [HBG.out.2.1, HBG.out.2.2] at h1
            refine h1.mono ?_
            rintro e w' ⟨⟨a2, cap2, rfl, ho⟩, hb⟩
            have hx := (hb.block _ (lt_of_block h.2)).trans h.2
            have hd := h.1.later hb
            exact ⟨⟨a2, cap2, rfl, hide (hd.put hx hbd3 (ho.mono (by have := h.1.gro.size; have := lt_of_block h.1.res; omega)) (good_appF h.1.good s t))⟩, hx, hd.dsk⟩)
          by_cases hv5 : v = 5
          · subst hv5
            clear HTX HSA hv hv4
            have HTX : Hid (∀ W', (DMid w W' B a len cap zs bd a' k cap' fs ∧ W'.heap[xb]? = some (.cells #[.slice a' k cap', .int .i64 200, .int .i64 (-1), .bool false] 39 (0, 0))) → Calls Tryz.prog 82 #[.pointer (some ⟨B, 0, none⟩)] W' fun e w' => (∃ t : ByteArray, t.size ≤ 5 ∧ e = .returned (.string t)) ∧ (DMid w w' B a len cap zs bd a' k cap' fs ∧ w'.heap[xb]? = some (.cells #[.slice a' k cap', .int .i64 200, .int .i64 (-1), .bool false] 39 (0, 0)))) := hide (fun W' h => by
              refine (name3_any W' B a len cap zs h.1.cur).mono ?_
              rintro e w' ⟨hs, hc2, hg2⟩
              have := h.1.hB
              have := h.1.lo
              refine ⟨hs, h.1.grown hg2 hc2, ?_⟩
              rw [hg2.block _ (lt_of_block h.2) (fun e => by injection e with e; omega)]
              exact h.2)
            have HSA : Hid (∀ W' (t : ByteArray), t.size ≤ 5 → (DMid w W' B a len cap zs bd a' k cap' fs ∧ W'.heap[xb]? = some (.cells #[.slice a' k cap', .int .i64 200, .int .i64 (-1), .bool false] 39 (0, 0))) → Calls Tryz.prog 87 #[.agg #[.slice a' k cap', .int .i64 200, .int .i64 (-1), .bool false], .string s, .string t] W' fun e w' => (∃ a2 cap2, e = .returned (.tuple #[.agg #[.slice a2 (renF fs 200 (-1) false s t).1.length cap2, .int .i64 200, .int .i64 (-1), .bool false], .int .i64 (renF fs 200 (-1) false s t).2]) ∧ Hid (DMid w (set4 (set4 w' xb (.slice a2 (renF fs 200 (-1) false s t).1.length cap2) (.int .i64 200) (.int .i64 (-1)) (.bool false)) bd (.slice a2 (renF fs 200 (-1) false s t).1.length cap2) (.int .i64 200) (.int .i64 (-1)) (.bool false)) B a len cap zs bd a2 (renF fs 200 (-1) false s t).1.length cap2 (renF fs 200 (-1) false s t).1)) ∧ w'.heap[xb]? = some (.cells #[.slice a' k cap', .int .i64 200, .int .i64 (-1), .bool false] 39 (0, 0)) ∧ w'.heap[bd]? = some (.cells #[.slice a' k cap', .int .i64 200, .int .i64 (-1), .bool false] 39 (0, 0))) := hide (fun W' t ht h => by
              have h1 := specRename_any W' a' k cap' fs h.1.own.rowZ h.1.own.cap0 (by omega) (by omega) 200 (-1) false (by omega) (by omega) s t (by omega)
              rw [HBG.out.2.1, HBG.out.2.2] at h1
              refine h1.mono ?_
              rintro e w' ⟨⟨a2, cap2, rfl, ho⟩, hb⟩
              have hx := (hb.block _ (lt_of_block h.2)).trans h.2
              have hd := h.1.later hb
              exact ⟨⟨a2, cap2, rfl, hide (hd.put hx hbd3 (ho.mono (by have := h.1.gro.size; have := lt_of_block h.1.res; omega)) (good_renF h.1.good s t))⟩, hx, hd.dsk⟩)
            have HK4 : Hid (DMid w w4.drew B a len cap zs bd a' k cap' fs ∧ w4.drew.heap[xb]? = some (.cells #[.slice a' k cap', .int .i64 200, .int .i64 (-1), .bool false] 39 (0, 0))) := hide ⟨HD4.out.later (Below.refl _ _).drew, HX4.out⟩
            obtain ⟨y0, y1, y2, y3, -⟩ := cells4 HK4.out.1.dsk
            go_wp2
            go_region_with (first
              | (go_at_call 82; refine (HTX.out w4.drew HK4.out).mono ?_; rintro e w5 ⟨⟨t, ht, rfl⟩, hk5⟩; have HK5 := hide hk5; obtain ⟨z0, z1, z2, z3, -⟩ := cells4 hk5.1.dsk; clear hk5)
              | (go_at_call 87; refine (HSA.out w5 t ht HK5.out).mono ?_; rintro e w6 ⟨⟨a2, cap2, rfl, HF⟩, hx6, hd6⟩; obtain ⟨x0, x1, x2, x3, f0, f1, f2, f3⟩ := cells4 hx6; obtain ⟨e0, e1, e2, e3, g0, g1, g2, g3⟩ := cells4 hd6; clear hx6 hd6))
            all_goals (go_wp2; go_roundw <;> first | exact ⟨m - 1, a2, _, cap2, _, by omega, by congr 1; omega, HF⟩ | (simp [intOf]; done) | (simp [intOf]; omega))
          · have hv23 : v = 2 ∨ v = 3 := by omega
            clear hv hv4 hv5
            rcases hv23 with rfl | rfl
            · have HK4 : Hid (DMid w w4.drew B a len cap zs bd a' k cap' fs ∧ w4.drew.heap[xb]? = some (.cells #[.slice a' k cap', .int .i64 200, .int .i64 (-1), .bool false] 39 (0, 0))) := hide ⟨HD4.out.later (Below.refl _ _).drew, HX4.out⟩
              obtain ⟨y0, y1, y2, y3, -⟩ := cells4 HK4.out.1.dsk
              go_wp2
              go_region_with (first
                | (go_at_call 85; refine (HTX.out w4.drew HK4.out).mono ?_; rintro e w5 ⟨⟨t, ht, rfl⟩, hk5⟩; have HK5 := hide hk5; obtain ⟨z0, z1, z2, z3, -⟩ := cells4 hk5.1.dsk; clear hk5)
                | (go_at_call 84; refine (HSA.out w5 t ht HK5.out).mono ?_; rintro e w6 ⟨⟨a2, cap2, rfl, HF⟩, hx6, hd6⟩; obtain ⟨x0, x1, x2, x3, f0, f1, f2, f3⟩ := cells4 hx6; obtain ⟨e0, e1, e2, e3, g0, g1, g2, g3⟩ := cells4 hd6; clear hx6 hd6))
              all_goals (go_wp2; go_roundw <;> first | exact ⟨m - 1, a2, _, cap2, _, by omega, by congr 1; omega, HF⟩ | (simp [intOf]; done) | (simp [intOf]; omega))
            · have HK4 : Hid (DMid w w4.drew B a len cap zs bd a' k cap' fs ∧ w4.drew.heap[xb]? = some (.cells #[.slice a' k cap', .int .i64 200, .int .i64 (-1), .bool false] 39 (0, 0))) := hide ⟨HD4.out.later (Below.refl _ _).drew, HX4.out⟩
              obtain ⟨y0, y1, y2, y3, -⟩ := cells4 HK4.out.1.dsk
              go_wp2
              go_region_with (first
                | (go_at_call 85; refine (HTX.out w4.drew HK4.out).mono ?_; rintro e w5 ⟨⟨t, ht, rfl⟩, hk5⟩; have HK5 := hide hk5; obtain ⟨z0, z1, z2, z3, -⟩ := cells4 hk5.1.dsk; clear hk5)
                | (go_at_call 84; refine (HSA.out w5 t ht HK5.out).mono ?_; rintro e w6 ⟨⟨a2, cap2, rfl, HF⟩, hx6, hd6⟩; obtain ⟨x0, x1, x2, x3, f0, f1, f2, f3⟩ := cells4 hx6; obtain ⟨e0, e1, e2, e3, g0, g1, g2, g3⟩ := cells4 hd6; clear hx6 hd6))
              all_goals (go_wp2; go_roundw <;> first | exact ⟨m - 1, a2, _, cap2, _, by omega, by congr 1; omega, HF⟩ | (simp [intOf]; done) | (simp [intOf]; omega))

end Go.Proofs.YthnealhaleccpaaGreatDoor
