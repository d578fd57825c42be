/-
  spec.Append: a text behind that of a file.
-/
import Derived.Test.YthhjomaccbpnbabDoorSyncSpec
namespace Go.Proofs.YthhjomaccbpnbabDoor
open Go.RowKit
open Plain

/-- What Append answers: the files, and the code. -/
def appF (fs : List FileV) (c u : Int) (d : Bool) (nm t : ByteArray) : List FileV × Int :=
  if begC fs c u d = 0 then
    (if findF fs nm < 0 then (fs, 3) else if c - (usedF fs : Int) < (t.size : Int) then (fs, 2) else
      (fs.set (findF fs nm).toNat ⟨(fs.getD (findF fs nm).toNat zeroF).name, (fs.getD (findF fs nm).toNat zeroF).text ++ t, (fs.getD (findF fs nm).toNat zeroF).safe⟩, 0))
  else (fs, begC fs c u d)
theorem begC_ok {fs : List FileV} {c u : Int} {d : Bool} (h : begC fs c u d = 0) : diskOk fs c u = true := by
  unfold begC at h
  split at h
  · assumption
  · simp at h
theorem begC_cap {fs : List FileV} {c u : Int} {d : Bool} (h : begC fs c u d = 0) : 0 ≤ c ∧ c ≤ 100000 := by
  have h1 := begC_ok h
  unfold diskOk headOk at h1
  simp only [Bool.and_eq_true] at h1
  have h2 := h1.1.2.1
  unfold inB at h2
  simpa using h2

set_option maxRecDepth 100000 in
set_option maxHeartbeats 2000000 in
theorem specAppend_some (w : World) (ad : Addr) (n cap : Nat) (fs : List FileV) (hr : FRow w 0 (some ad) n fs) (hn : n ≤ 1048576) (hz : szFs fs ≤ 1048576) (c u : Int) (d : Bool) (hu : -9223372036854775808 ≤ u) (hu2 : u ≤ 9223372036854775807) (nm : ByteArray) (t : ByteArray) :
    Calls Tryd.prog 16 #[.agg #[.slice (some ad) n cap, .int .i64 c, .int .i64 u, .bool d], .string nm, .string t] w fun e w' => (∃ a' cap', e = .returned (.tuple #[.agg #[.slice a' n cap', .int .i64 c, .int .i64 (begU fs c u d), .bool (begD fs c u d)], .int .i64 (appF fs c u d nm t).2]) ∧ FOwn w' w.heap.size (.slice a' n cap') (appF fs c u d nm t).1) ∧ Below w.heap.size w w' := by
  have hfn := hr.len
  obtain ⟨W, hW⟩ : ∃ W, W = (w.alloc (.cells #[.slice (some ad) n cap, .int .i64 c, .int .i64 u, .bool d] 28)).alloc (.cells #[.slice none 0 0, .int .i64 0, .int .i64 0, .bool false] 28) := ⟨_, rfl⟩
  have hA := alloc2 w (.cells #[.slice (some ad) n cap, .int .i64 c, .int .i64 u, .bool d] 28) (.cells #[.slice none 0 0, .int .i64 0, .int .i64 0, .bool false] 28)
  rw [← hW] at hA
  have HS := hide hA.1
  have HB0 := hide hA.2.1
  have HC0 := hide hA.2.2.1
  have HC1 := hide hA.2.2.2
  clear hA
  have HR := hide (hr.later HB0.out (Nat.le_refl _))
  clear hr
  go_enter Tryd.func16, Tryd.ntmps16
  go_wp2_with fail
  rw [← hW]
  clear hW
  refine (specBegin_some W ad n cap fs HR.out hn hz c u d hu hu2).mono ?_
  rintro e w2 ⟨⟨a', cap', rfl, ho2⟩, hb2⟩
  obtain ⟨U, hU⟩ : ∃ U, begU fs c u d = U := ⟨_, rfl⟩
  obtain ⟨D, hD⟩ : ∃ D, begD fs c u d = D := ⟨_, rfl⟩
  obtain ⟨C, hC⟩ : ∃ C, begC fs c u d = C := ⟨_, rfl⟩
  rw [hU, hD, hC]
  have HU := hide hU
  have HD := hide hD
  have HC := hide hC
  clear hU hD hC
  obtain ⟨X, hX⟩ : ∃ X, X = w2.alloc (.cells #[.slice a' n cap', .int .i64 c, .int .i64 U, .bool D] 28) := ⟨_, rfl⟩
  have hsz2 : w.heap.size + 2 ≤ w2.heap.size := by have := HS.out; have := hb2.size; omega
  have HBX : Hid (Below w2.heap.size w2 X) := hide (by rw [hX]; exact (Below.refl _ _).alloc (Nat.le_refl _) _)
  have HXS : Hid (X.heap.size = w2.heap.size + 1) := hide (by rw [hX]; simp)
  have HCX : Hid (X.heap[w2.heap.size]? = some (.cells #[.slice a' n cap', .int .i64 c, .int .i64 U, .bool D] 28 (0, 0))) := hide (by rw [hX]; exact heap_alloc_new w2 _)
  have HD0 : Hid (X.heap[w.heap.size]? = some (.cells #[.slice (some ad) n cap, .int .i64 c, .int .i64 u, .bool d] 28 (0, 0))) := hide (((HBX.out.block _ (by omega)).trans (hb2.block _ (by have := HS.out; omega))).trans HC0.out)
  have HD1 : Hid (X.heap[w.heap.size + 1]? = some (.cells #[.slice none 0 0, .int .i64 0, .int .i64 0, .bool false] 28 (0, 0))) := hide (((HBX.out.block _ (by omega)).trans (hb2.block _ (by have := HS.out; omega))).trans HC1.out)
  have HBK : Hid (∀ g, (Value.slice a' n cap').ownBlock = some g → w.heap.size + 2 ≤ g ∧ g < w2.heap.size) := hide (fun g hg => by have h := ho2.blk g hg; have := HS.out; omega)
  have HOX : Hid (FOwn X (w.heap.size + 2) (.slice a' n cap') fs) := hide ((ho2.later HBX.out (Nat.le_refl _)).mono (by have := HS.out; omega))
  have HBW := hide (hb2.trans (HBX.out.mono hb2.size))
  have HRX := hide (HR.out.later HBW.out (Nat.le_refl _))
  have HB3 := hide (HB0.out.trans (HBW.out.mono HB0.out.size))
  clear hb2 ho2 HC0 HC1 HR HB0 HBX HBW HS
  by_cases q0 : C = 0
  · subst q0
    have hx0 := cells4 HD0.out
    rw [hX] at hx0
    obtain ⟨y0, y1, y2, y3, -, -, -, -⟩ := hx0
    go_wp2_with fail
    clear y0 y1 y2 y3
    rw [← hX]
    clear hX
    refine (specFind_any X (some ad) n cap fs HRX.out (by omega) c u d nm).mono ?_
    rintro e w4 ⟨rfl, hb4⟩
    obtain ⟨x, hx⟩ : ∃ x, w2.heap.size = x := ⟨_, rfl⟩
    rw [hx] at HCX HXS hsz2 HBK
    rw [hx]
    obtain ⟨a0, a1, a2, a3, -, -, -, -⟩ := cells4 ((hb4.block _ (by have := HXS.out; omega)).trans HD0.out)
    obtain ⟨b0, b1, b2, b3, k0, k1, k2, k3⟩ := cells4 ((hb4.block _ (by have := HXS.out; omega)).trans HD1.out)
    obtain ⟨c0, c1, c2, c3, l0, l1, l2, l3⟩ := cells4 ((hb4.block _ (by have := HXS.out; omega)).trans HCX.out)
    have HW0 := hide ((hb4.block _ (by have := HXS.out; omega)).trans HD0.out)
    have HW1 := hide ((hb4.block _ (by have := HXS.out; omega)).trans HD1.out)
    have hx4 : x + 1 ≤ w4.heap.size := by have := HXS.out; have := hb4.size; omega
    have HWX := hide ((hb4.block _ (by have := HXS.out; omega)).trans HCX.out)
    have HO4 := hide (HOX.out.later hb4 (Nat.le_refl _))
    have HR4 := hide (HRX.out.later hb4 (Nat.le_refl _))
    have HB4 := hide (HB3.out.trans (hb4.mono HB3.out.size))
    clear hb4 HD0 HD1 HCX HXS HOX HB3 HRX hx
    by_cases q1 : findF fs nm < 0
    · have HV : Hid (appF fs c u d nm t = (fs, 3)) := hide (by unfold appF; rw [if_pos HC.out, if_pos q1])
      have t1 : decide (findF fs nm < 0) = true := by simpa using q1
      clear q1
      go_wp2
      refine bodyPost_ret (v := .tuple #[.agg #[.slice a' n cap', .int .i64 c, .int .i64 U, .bool D], .int .i64 3]) (by simp [results, Tryd.results16, go_sem, *]) rfl ⟨⟨a', cap', by rw [HV.out, HU.out, HD.out], ?_⟩, ?_⟩
      · rw [HV.out]
        refine FOwn.mono ?_ (Nat.le_add_right _ 2)
        iterate 4 (refine FOwn.setNe ?_ _ _ (by intro q; have := HBK.out _ q; dsimp only at this; omega))
        exact HO4.out
      · iterate 4 (refine Below.setCell ?_ (by dsimp only; omega) _)
        exact HB4.out
    · obtain ⟨k, hk, hkl⟩ := findF_lt fs nm q1
      have hgd : fs.getD k zeroF = fs[k] := by simp [List.getD, hkl]
      have hus := usedF_le_sz fs
      have hcb := begC_cap HC.out
      have hkz : decide ((k : Int) < 0) = false := by simp
      have HLW : Hid (∀ w', Below w4.heap.size w4 w' → w'.cell? ⟨w.heap.size, 0, none⟩ = some (.slice (some ad) n cap) ∧ w'.cell? ⟨w.heap.size, 1, none⟩ = some (.int .i64 c) ∧ w'.cell? ⟨w.heap.size, 2, none⟩ = some (.int .i64 u) ∧ w'.cell? ⟨w.heap.size, 3, none⟩ = some (.bool d) ∧ Hid (Below w4.heap.size w4 w')) := hide (fun w' h => by
        obtain ⟨z0, z1, z2, z3, -⟩ := cells4 ((h.block _ (by omega)).trans HW0.out)
        exact ⟨z0, z1, z2, z3, hide h⟩)
      have S0 := HLW.out w4.drew (Below.refl _ _).drew
      have HUS : Hid (∀ w', Hid (Below w4.heap.size w4 w') → Calls Tryd.prog 38 #[.agg #[.slice (some ad) n cap, .int .i64 c, .int .i64 u, .bool d]] w' fun e w'' => e = .returned (.int .i64 (usedF fs)) ∧ Below w4.heap.size w4 w'') := hide (fun w' h =>
        (specUsed_any w' (some ad) n cap fs (HR4.out.later h.out (Nat.le_refl _)) (by omega) (by omega) c u d).mono (fun e w'' ⟨h1, h2⟩ => ⟨h1, h.out.trans (h2.mono h.out.size)⟩))
      have wf : IntKind.i64.wrap (c - (usedF fs : Int)) = c - (usedF fs : Int) := by rw [IntKind.wrap_i64]; omega
      have HK := hide hk
      rw [hk]
      clear hk a0 a1 a2 a3 b0 b1 b2 b3 k0 k1 k2 k3 c0 c1 c2 c3 l0 l1 l2 l3
      by_cases q2 : c - (usedF fs : Int) < (t.size : Int)
      · have t2 : decide (c - (usedF fs : Int) < (t.size : Int)) = true := by simpa using q2
        have HV : Hid (appF fs c u d nm t = (fs, 2)) := hide (by unfold appF; rw [if_pos HC.out, if_neg q1, if_pos q2])
        clear q1 hgd
        go_wp2
        first
          | (go_region_held3 (fun w' => w'.cell? ⟨w.heap.size, 0, none⟩ = some (.slice (some ad) n cap) ∧ w'.cell? ⟨w.heap.size, 1, none⟩ = some (.int .i64 c) ∧ w'.cell? ⟨w.heap.size, 2, none⟩ = some (.int .i64 u) ∧ w'.cell? ⟨w.heap.size, 3, none⟩ = some (.bool d) ∧ Hid (Below w4.heap.size w4 w')) (assumption) ((go_at_call 38; refine (HUS.out _ (by simp only [*])).mono ?_; rintro e w5 ⟨rfl, hb5⟩; have hS5 := HLW.out w5 hb5)))
          | fail
        have HV1 := hide ((hb5.block _ (by omega)).trans HW1.out)
        have HVX := hide ((hb5.block _ (by omega)).trans HWX.out)
        have HOY := hide (HO4.out.later hb5 (Nat.le_refl _))
        have HBY := hide (HB4.out.trans (hb5.mono HB4.out.size))
        clear hb5 hS5 S0 HLW HUS HW0 HW1 HWX HO4 HB4 HR4
        obtain ⟨b0, b1, b2, b3, k0, k1, k2, k3⟩ := cells4 HV1.out
        obtain ⟨c0, c1, c2, c3, -, -, -, -⟩ := cells4 HVX.out
        go_wp2
        refine bodyPost_ret (v := .tuple #[.agg #[.slice a' n cap', .int .i64 c, .int .i64 U, .bool D], .int .i64 2]) (by simp [results, Tryd.results16, go_sem, *]) rfl ⟨⟨a', cap', by rw [HV.out, HU.out, HD.out], ?_⟩, ?_⟩
        · rw [HV.out]
          refine FOwn.mono ?_ (Nat.le_add_right _ 2)
          iterate 4 (refine FOwn.setNe ?_ _ _ (by intro q; have := HBK.out _ q; dsimp only at this; omega))
          exact HOY.out
        · iterate 4 (refine Below.setCell ?_ (by dsimp only; omega) _)
          exact HBY.out
      · have t2 : decide (c - (usedF fs : Int) < (t.size : Int)) = false := by simpa using q2
        have HV : Hid (appF fs c u d nm t = (fs.set k ⟨(fs[k]).name, (fs[k]).text ++ t, (fs[k]).safe⟩, 0)) := hide (by unfold appF; rw [if_pos HC.out, if_neg q1, if_neg q2, HK.out, Int.toNat_natCast, hgd])
        clear q1 hgd
        go_wp2
        first
          | (go_region_held3 (fun w' => w'.cell? ⟨w.heap.size, 0, none⟩ = some (.slice (some ad) n cap) ∧ w'.cell? ⟨w.heap.size, 1, none⟩ = some (.int .i64 c) ∧ w'.cell? ⟨w.heap.size, 2, none⟩ = some (.int .i64 u) ∧ w'.cell? ⟨w.heap.size, 3, none⟩ = some (.bool d) ∧ Hid (Below w4.heap.size w4 w')) (assumption) ((go_at_call 38; refine (HUS.out _ (by simp only [*])).mono ?_; rintro e w5 ⟨rfl, hb5⟩; have hS5 := HLW.out w5 hb5)))
          | fail
        have HV1 := hide ((hb5.block _ (by omega)).trans HW1.out)
        have HVX := hide ((hb5.block _ (by omega)).trans HWX.out)
        have HO5 := hide (HO4.out.later hb5 (Nat.le_refl _))
        have HR5 := hide (HR4.out.later hb5 (Nat.le_refl _))
        have HB5 := hide (HB4.out.trans (hb5.mono HB4.out.size))
        have a0 := (HLW.out w5 hb5).1
        obtain ⟨c0, -⟩ := cells4 HVX.out
        clear hb5 hS5 S0 HLW HUS HW0 HW1 HWX HO4 HB4 HR4
        obtain ⟨b, off, hab, -, hbw, e1, e2, e3⟩ := HR5.out.cells k hkl
        injection hab with hab
        subst hab
        obtain ⟨g, hg⟩ : ∃ g, a' = some ⟨g, 0, none⟩ := by
          rcases HO5.out.2 with ⟨e, h0⟩ | ⟨g, c, cur, e, _⟩
          · simp only [Value.slice.injEq] at e; omega
          · simp only [Value.slice.injEq] at e
            exact ⟨g, e.1⟩
        subst hg
        have hgb := HBK.out g rfl
        have HP := hide (HO5.out.putText k hkl ((fs[k]).text ++ t))
        obtain ⟨b', o', q0, -, -, p1, p2, p3⟩ := HO5.out.row.cells k hkl
        simp only [Option.some.injEq, Addr.mk.injEq] at q0
        obtain ⟨rfl, rfl, -⟩ := q0
        rw [Nat.zero_add] at p1 p2 p3
        have hw := HO5.out
        unfold FOwn at hw
        rw [HO5.out.len] at hw
        have f2 := hw.frozenAt (k * 3 + 1)
        have hkn : (k : Int) < (n : Int) := by omega
        have htz : (fs[k]).text.size ≤ 1048576 := Nat.le_trans (text_le fs k hkl) hz
        clear hw
        go_wp2
        go_region
        obtain ⟨Y, hY⟩ : ∃ Y, Y = (w5.setCell ⟨g, k * 3 + 1, none⟩ (.string ((fs[k]).text ++ t))).drew := ⟨_, rfl⟩
        rw [← hY]
        have HOY : Hid (FOwn Y (w.heap.size + 2) (.slice (some ⟨g, 0, none⟩) n cap') (fs.set k ⟨(fs[k]).name, (fs[k]).text ++ t, (fs[k]).safe⟩)) := hide (by rw [hY]; exact HP.out)
        have HBY : Hid (Below w.heap.size w Y) := hide (by rw [hY]; exact (HB5.out.setCell (by dsimp only; omega) _).drew)
        have HY1 : Hid (Y.heap[w.heap.size + 1]? = some (.cells #[.slice none 0 0, .int .i64 0, .int .i64 0, .bool false] 28 (0, 0))) := hide (by rw [hY]; exact (Below.heap_setCell w5 _ _ _ (by dsimp only; omega)).trans HV1.out)
        have HYX : Hid (Y.heap[x]? = some (.cells #[.slice (some ⟨g, 0, none⟩) n cap', .int .i64 c, .int .i64 U, .bool D] 28 (0, 0))) := hide (by rw [hY]; exact (Below.heap_setCell w5 _ _ _ (by dsimp only; omega)).trans HVX.out)
        clear hY HP HB5 HV1 HVX HO5 HR5 a0 c0 e1 e2 e3 p1 p2 p3 f2
        obtain ⟨b0, b1, b2, b3, k0, k1, k2, k3⟩ := cells4 HY1.out
        obtain ⟨c0, c1, c2, c3, -, -, -, -⟩ := cells4 HYX.out
        go_wp2
        refine bodyPost_ret (v := .tuple #[.agg #[.slice (some ⟨g, 0, none⟩) n cap', .int .i64 c, .int .i64 U, .bool D], .int .i64 0]) (by simp [results, Tryd.results16, go_sem, *]) rfl ⟨⟨some ⟨g, 0, none⟩, cap', by rw [HV.out, HU.out, HD.out], ?_⟩, ?_⟩
        · rw [HV.out]
          refine FOwn.mono ?_ (Nat.le_add_right _ 2)
          iterate 4 (refine FOwn.setNe ?_ _ _ (by intro q; have := HBK.out _ q; dsimp only at this; omega))
          exact HOY.out
        · iterate 4 (refine Below.setCell ?_ (by dsimp only; omega) _)
          exact HBY.out
  · have HV : Hid (appF fs c u d nm t = (fs, C)) := hide (by unfold appF; rw [if_neg (by rw [HC.out]; exact q0), HC.out])
    have t0 : (C == 0) = false := by simpa using q0
    have t0' : (C != 0) = true := by simpa using q0
    have hx1 := cells4 HD1.out
    rw [hX] at hx1
    obtain ⟨b0, b1, b2, b3, k0, k1, k2, k3⟩ := hx1
    have HOX' : Hid (FOwn (w2.alloc (.cells #[.slice a' n cap', .int .i64 c, .int .i64 U, .bool D] 28)) (w.heap.size + 2) (.slice a' n cap') fs) := hide (by rw [← hX]; exact HOX.out)
    have HB3' : Hid (Below w.heap.size w (w2.alloc (.cells #[.slice a' n cap', .int .i64 c, .int .i64 U, .bool D] 28))) := hide (by rw [← hX]; exact HB3.out)
    clear q0 hX
    go_wp2
    refine bodyPost_ret (v := .tuple #[.agg #[.slice a' n cap', .int .i64 c, .int .i64 U, .bool D], .int .i64 C]) (by simp [results, Tryd.results16, go_sem, *]) rfl ⟨⟨a', cap', by rw [HV.out, HU.out, HD.out], ?_⟩, ?_⟩
    · rw [HV.out]
      refine FOwn.mono ?_ (Nat.le_add_right _ 2)
      iterate 4 (refine FOwn.setNe ?_ _ _ (by intro q; have := HBK.out _ q; dsimp only at this; omega))
      exact HOX'.out
    · iterate 4 (refine Below.setCell ?_ (by dsimp only; omega) _)
      exact HB3'.out

end Go.Proofs.YthhjomaccbpnbabDoor
