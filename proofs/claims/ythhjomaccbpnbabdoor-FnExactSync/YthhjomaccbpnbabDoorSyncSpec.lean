/-
  spec.Sync: all of a file is kept.
-/
import Derived.Test.YthhjomaccbpnbabDoorBeginSpec
namespace Go.Proofs.YthhjomaccbpnbabDoor
open Go.RowKit
open Plain

/-- What Sync answers: the files, and the code. -/
def synF (fs : List FileV) (c u : Int) (d : Bool) (nm : ByteArray) : List FileV × Int :=
  if begC fs c u d = 0 then
    (if findF fs nm < 0 then (fs, 3) else (fs.set (findF fs nm).toNat ⟨(fs.getD (findF fs nm).toNat zeroF).name, (fs.getD (findF fs nm).toNat zeroF).text, ((fs.getD (findF fs nm).toNat zeroF).text.size : Int)⟩, 0))
  else (fs, begC fs c u d)
theorem findF_lt (fs : List FileV) (nm : ByteArray) (h : ¬ findF fs nm < 0) : ∃ k : Nat, findF fs nm = (k : Int) ∧ k < fs.length := by
  unfold findF at *
  cases hf : fs.findIdx? (fun f => decide (f.name = nm)) with
  | none => rw [hf] at h; simp at h
  | some i =>
    refine ⟨i, rfl, ?_⟩
    rw [List.findIdx?_eq_some_iff_getElem] at hf
    exact hf.1

set_option maxRecDepth 100000 in
set_option maxHeartbeats 2000000 in
theorem specSync_some (w : World) (ad : Addr) (n cap : Nat) (fs : List FileV) (hr : FRow w 0 (some ad) n fs) (hn : n ≤ 1048576) (hz : szFs fs ≤ 1048576) (c u : Int) (d : Bool) (hu : -9223372036854775808 ≤ u) (hu2 : u ≤ 9223372036854775807) (nm : ByteArray) :
    Calls Tryd.prog 18 #[.agg #[.slice (some ad) n cap, .int .i64 c, .int .i64 u, .bool d], .string nm] w fun e w' => (∃ a' cap', e = .returned (.tuple #[.agg #[.slice a' n cap', .int .i64 c, .int .i64 (begU fs c u d), .bool (begD fs c u d)], .int .i64 (synF fs c u d nm).2]) ∧ FOwn w' w.heap.size (.slice a' n cap') (synF fs c u d nm).1) ∧ Below w.heap.size w w' := by
  have hfn := hr.len
  obtain ⟨W, hW⟩ : ∃ W, W = (w.alloc (.cells #[.slice (some ad) n cap, .int .i64 c, .int .i64 u, .bool d] 28)).alloc (.cells #[.slice none 0 0, .int .i64 0, .int .i64 0, .bool false] 28) := ⟨_, rfl⟩
  have hA := alloc2 w (.cells #[.slice (some ad) n cap, .int .i64 c, .int .i64 u, .bool d] 28) (.cells #[.slice none 0 0, .int .i64 0, .int .i64 0, .bool false] 28)
  rw [← hW] at hA
  have HS := hide hA.1
  have HB0 := hide hA.2.1
  have HC0 := hide hA.2.2.1
  have HC1 := hide hA.2.2.2
  clear hA
  have HR := hide (hr.later HB0.out (Nat.le_refl _))
  clear hr
  go_enter Tryd.func18, Tryd.ntmps18
  go_wp2_with fail
  rw [← hW]
  clear hW
  refine (specBegin_some W ad n cap fs HR.out hn hz c u d hu hu2).mono ?_
  rintro e w2 ⟨⟨a', cap', rfl, ho2⟩, hb2⟩
  obtain ⟨U, hU⟩ : ∃ U, begU fs c u d = U := ⟨_, rfl⟩
  obtain ⟨D, hD⟩ : ∃ D, begD fs c u d = D := ⟨_, rfl⟩
  obtain ⟨C, hC⟩ : ∃ C, begC fs c u d = C := ⟨_, rfl⟩
  rw [hU, hD, hC]
  have HU := hide hU
  have HD := hide hD
  have HC := hide hC
  clear hU hD hC
  obtain ⟨X, hX⟩ : ∃ X, X = w2.alloc (.cells #[.slice a' n cap', .int .i64 c, .int .i64 U, .bool D] 28) := ⟨_, rfl⟩
  have hsz2 : w.heap.size + 2 ≤ w2.heap.size := by have := HS.out; have := hb2.size; omega
  have HBX : Hid (Below w2.heap.size w2 X) := hide (by rw [hX]; exact (Below.refl _ _).alloc (Nat.le_refl _) _)
  have HXS : Hid (X.heap.size = w2.heap.size + 1) := hide (by rw [hX]; simp)
  have HCX : Hid (X.heap[w2.heap.size]? = some (.cells #[.slice a' n cap', .int .i64 c, .int .i64 U, .bool D] 28 (0, 0))) := hide (by rw [hX]; exact heap_alloc_new w2 _)
  have HD0 : Hid (X.heap[w.heap.size]? = some (.cells #[.slice (some ad) n cap, .int .i64 c, .int .i64 u, .bool d] 28 (0, 0))) := hide (((HBX.out.block _ (by omega)).trans (hb2.block _ (by have := HS.out; omega))).trans HC0.out)
  have HD1 : Hid (X.heap[w.heap.size + 1]? = some (.cells #[.slice none 0 0, .int .i64 0, .int .i64 0, .bool false] 28 (0, 0))) := hide (((HBX.out.block _ (by omega)).trans (hb2.block _ (by have := HS.out; omega))).trans HC1.out)
  have HBK : Hid (∀ g, (Value.slice a' n cap').ownBlock = some g → w.heap.size + 2 ≤ g ∧ g < w2.heap.size) := hide (fun g hg => by have h := ho2.blk g hg; have := HS.out; omega)
  have HOX : Hid (FOwn X (w.heap.size + 2) (.slice a' n cap') fs) := hide ((ho2.later HBX.out (Nat.le_refl _)).mono (by have := HS.out; omega))
  have HBW := hide (hb2.trans (HBX.out.mono hb2.size))
  have HRX := hide (HR.out.later HBW.out (Nat.le_refl _))
  have HB3 := hide (HB0.out.trans (HBW.out.mono HB0.out.size))
  clear hb2 ho2 HC0 HC1 HR HB0 HBX HBW HS
  by_cases q0 : C = 0
  · subst q0
    have hx0 := cells4 HD0.out
    rw [hX] at hx0
    obtain ⟨y0, y1, y2, y3, -, -, -, -⟩ := hx0
    go_wp2_with fail
    clear y0 y1 y2 y3
    rw [← hX]
    clear hX
    refine (specFind_any X (some ad) n cap fs HRX.out (by omega) c u d nm).mono ?_
    rintro e w4 ⟨rfl, hb4⟩
    obtain ⟨x, hx⟩ : ∃ x, w2.heap.size = x := ⟨_, rfl⟩
    rw [hx] at HCX HXS hsz2 HBK
    rw [hx]
    obtain ⟨a0, a1, a2, a3, -, -, -, -⟩ := cells4 ((hb4.block _ (by have := HXS.out; omega)).trans HD0.out)
    obtain ⟨b0, b1, b2, b3, k0, k1, k2, k3⟩ := cells4 ((hb4.block _ (by have := HXS.out; omega)).trans HD1.out)
    obtain ⟨c0, c1, c2, c3, l0, l1, l2, l3⟩ := cells4 ((hb4.block _ (by have := HXS.out; omega)).trans HCX.out)
    have HW1 := hide ((hb4.block _ (by have := HXS.out; omega)).trans HD1.out)
    have HWX := hide ((hb4.block _ (by have := HXS.out; omega)).trans HCX.out)
    have HO4 := hide (HOX.out.later hb4 (Nat.le_refl _))
    have HR4 := hide (HRX.out.later hb4 (Nat.le_refl _))
    have HB4 := hide (HB3.out.trans (hb4.mono HB3.out.size))
    clear hb4 HD0 HD1 HCX HXS HOX HB3 HRX hx
    by_cases q1 : findF fs nm < 0
    · have HV : Hid (synF fs c u d nm = (fs, 3)) := hide (by unfold synF; rw [if_pos HC.out, if_pos q1])
      have t1 : decide (findF fs nm < 0) = true := by simpa using q1
      clear q1
      go_wp2
      refine bodyPost_ret (v := .tuple #[.agg #[.slice a' n cap', .int .i64 c, .int .i64 U, .bool D], .int .i64 3]) (by simp [results, Tryd.results18, go_sem, *]) rfl ⟨⟨a', cap', by rw [HV.out, HU.out, HD.out], ?_⟩, ?_⟩
      · rw [HV.out]
        refine FOwn.mono ?_ (Nat.le_add_right _ 2)
        iterate 4 (refine FOwn.setNe ?_ _ _ (by intro q; have := HBK.out _ q; dsimp only at this; omega))
        exact HO4.out
      · iterate 4 (refine Below.setCell ?_ (by dsimp only; omega) _)
        exact HB4.out
    · obtain ⟨k, hk, hkl⟩ := findF_lt fs nm q1
      have hgd : fs.getD k zeroF = fs[k] := by simp [List.getD, hkl]
      have HV : Hid (synF fs c u d nm = (fs.set k ⟨(fs[k]).name, (fs[k]).text, ((fs[k]).text.size : Int)⟩, 0)) := hide (by unfold synF; rw [if_pos HC.out, if_neg q1, hk, Int.toNat_natCast, hgd])
      rw [hk]
      clear hk q1 hgd
      obtain ⟨b, off, hab, -, hbw, e1, e2, e3⟩ := HR4.out.cells k hkl
      injection hab with hab
      subst hab
      obtain ⟨g, hg⟩ : ∃ g, a' = some ⟨g, 0, none⟩ := by
        rcases HO4.out.2 with ⟨e, h0⟩ | ⟨g, c, cur, e, _⟩
        · simp only [Value.slice.injEq] at e; omega
        · simp only [Value.slice.injEq] at e
          exact ⟨g, e.1⟩
      subst hg
      have hgb := HBK.out g rfl
      have HP := hide (HO4.out.putSafe k hkl ((fs[k]).text.size : Int))
      obtain ⟨b', o', q0, -, -, p1, p2, p3⟩ := HO4.out.row.cells k hkl
      simp only [Option.some.injEq, Addr.mk.injEq] at q0
      obtain ⟨rfl, rfl, -⟩ := q0
      rw [Nat.zero_add] at p1 p2 p3
      have hw := HO4.out
      unfold FOwn at hw
      rw [HO4.out.len] at hw
      have f3 := hw.frozenAt (k * 3 + 2)
      have hkn : (k : Int) < (n : Int) := by omega
      have htz : (fs[k]).text.size ≤ 1048576 := Nat.le_trans (text_le fs k hkl) hz
      clear hw
      go_wp2
      go_region
      obtain ⟨Y, hY⟩ : ∃ Y, Y = (w4.setCell ⟨g, k * 3 + 2, none⟩ (.int .i64 ((fs[k]).text.size : Int))).drew := ⟨_, rfl⟩
      rw [← hY]
      have HOY : Hid (FOwn Y (w.heap.size + 2) (.slice (some ⟨g, 0, none⟩) n cap') (fs.set k ⟨(fs[k]).name, (fs[k]).text, ((fs[k]).text.size : Int)⟩)) := hide (by rw [hY]; exact HP.out)
      have HBY : Hid (Below w.heap.size w Y) := hide (by rw [hY]; exact (HB4.out.setCell (by dsimp only; omega) _).drew)
      have HY1 : Hid (Y.heap[w.heap.size + 1]? = some (.cells #[.slice none 0 0, .int .i64 0, .int .i64 0, .bool false] 28 (0, 0))) := hide (by rw [hY]; exact (Below.heap_setCell w4 _ _ _ (by dsimp only; omega)).trans HW1.out)
      have HYX : Hid (Y.heap[x]? = some (.cells #[.slice (some ⟨g, 0, none⟩) n cap', .int .i64 c, .int .i64 U, .bool D] 28 (0, 0))) := hide (by rw [hY]; exact (Below.heap_setCell w4 _ _ _ (by dsimp only; omega)).trans HWX.out)
      clear hY HP HB4 HW1 HWX HO4 HR4 a0 a1 a2 a3 b0 b1 b2 b3 k0 k1 k2 k3 c0 c1 c2 c3 l0 l1 l2 l3 e1 e2 e3 p1 p2 p3 f3
      obtain ⟨b0, b1, b2, b3, k0, k1, k2, k3⟩ := cells4 HY1.out
      obtain ⟨c0, c1, c2, c3, -, -, -, -⟩ := cells4 HYX.out
      go_wp2
      refine bodyPost_ret (v := .tuple #[.agg #[.slice (some ⟨g, 0, none⟩) n cap', .int .i64 c, .int .i64 U, .bool D], .int .i64 0]) (by simp [results, Tryd.results18, go_sem, *]) rfl ⟨⟨some ⟨g, 0, none⟩, cap', by rw [HV.out, HU.out, HD.out], ?_⟩, ?_⟩
      · rw [HV.out]
        refine FOwn.mono ?_ (Nat.le_add_right _ 2)
        iterate 4 (refine FOwn.setNe ?_ _ _ (by intro q; have := HBK.out _ q; dsimp only at this; omega))
        exact HOY.out
      · iterate 4 (refine Below.setCell ?_ (by dsimp only; omega) _)
        exact HBY.out
  · have HV : Hid (synF fs c u d nm = (fs, C)) := hide (by unfold synF; rw [if_neg (by rw [HC.out]; exact q0), HC.out])
    have t0 : (C == 0) = false := by simpa using q0
    have t0' : (C != 0) = true := by simpa using q0
    have hx1 := cells4 HD1.out
    rw [hX] at hx1
    obtain ⟨b0, b1, b2, b3, k0, k1, k2, k3⟩ := hx1
    have HOX' : Hid (FOwn (w2.alloc (.cells #[.slice a' n cap', .int .i64 c, .int .i64 U, .bool D] 28)) (w.heap.size + 2) (.slice a' n cap') fs) := hide (by rw [← hX]; exact HOX.out)
    have HB3' : Hid (Below w.heap.size w (w2.alloc (.cells #[.slice a' n cap', .int .i64 c, .int .i64 U, .bool D] 28))) := hide (by rw [← hX]; exact HB3.out)
    clear q0 hX
    go_wp2
    refine bodyPost_ret (v := .tuple #[.agg #[.slice a' n cap', .int .i64 c, .int .i64 U, .bool D], .int .i64 C]) (by simp [results, Tryd.results18, go_sem, *]) rfl ⟨⟨a', cap', by rw [HV.out, HU.out, HD.out], ?_⟩, ?_⟩
    · rw [HV.out]
      refine FOwn.mono ?_ (Nat.le_add_right _ 2)
      iterate 4 (refine FOwn.setNe ?_ _ _ (by intro q; have := HBK.out _ q; dsimp only at this; omega))
      exact HOX'.out
    · iterate 4 (refine Below.setCell ?_ (by dsimp only; omega) _)
      exact HB3'.out

end Go.Proofs.YthhjomaccbpnbabDoor
