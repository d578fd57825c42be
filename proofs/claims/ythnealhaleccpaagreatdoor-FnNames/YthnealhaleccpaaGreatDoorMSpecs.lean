/-
  spec.Sync, Append, Create, Rename and l3Without, at a slice that may be nil; what Remove and Truncate answer.
-/
import Derived.Test.YthnealhaleccpaaGreatDoorG02
import Derived.BigQuiet
import Derived.Deep.QuietTactic
import Derived.Deep.RegionLaw
namespace Go.Proofs.YthnealhaleccpaaGreatDoor
open Go.RowKit
open Plain

/-- What Sync answers: the files, and the code. -/
def synF (fs : List FileV) (c u : Int) (d : Bool) (nm : ByteArray) : List FileV × Int :=
  if begC fs c u d = 0 then
    (if findF fs nm < 0 then (fs, 3) else (fs.set (findF fs nm).toNat ⟨(fs.getD (findF fs nm).toNat zeroF).name, (fs.getD (findF fs nm).toNat zeroF).text, ((fs.getD (findF fs nm).toNat zeroF).text.size : Int)⟩, 0))
  else (fs, begC fs c u d)
theorem findF_lt (fs : List FileV) (nm : ByteArray) (h : ¬ findF fs nm < 0) : ∃ k : Nat, findF fs nm = (k : Int) ∧ k < fs.length := by
  unfold findF at *
  cases hf : fs.findIdx? (fun f => decide (f.name = nm)) with
  | none => rw [hf] at h; simp at h
  | some i =>
    refine ⟨i, rfl, ?_⟩
    rw [List.findIdx?_eq_some_iff_getElem] at hf
    exact hf.1

set_option maxRecDepth 100000 in
set_option maxHeartbeats 2000000 in
theorem specSync_any (w : World) (a : Option Addr) (n cap : Nat) (fs : List FileV) (hr : FRow w 0 a n fs) (hc0 : a = none → cap = 0) (hn : n ≤ 1048576) (hz : szFs fs ≤ 1048576) (c u : Int) (d : Bool) (hu : -9223372036854775808 ≤ u) (hu2 : u ≤ 9223372036854775807) (nm : ByteArray) :
    Calls Tryz.prog 86 #[.agg #[.slice a n cap, .int .i64 c, .int .i64 u, .bool d], .string nm] w fun e w' => (∃ a' cap', e = .returned (.tuple #[.agg #[.slice a' n cap', .int .i64 c, .int .i64 (begU fs c u d), .bool (begD fs c u d)], .int .i64 (synF fs c u d nm).2]) ∧ FOwn w' w.heap.size (.slice a' n cap') (synF fs c u d nm).1) ∧ Below w.heap.size w w' := by
  have hfn := hr.len
  obtain ⟨W, hW⟩ : ∃ W, W = (w.alloc (.cells #[.slice a n cap, .int .i64 c, .int .i64 u, .bool d] 39)).alloc (.cells #[.slice none 0 0, .int .i64 0, .int .i64 0, .bool false] 39) := ⟨_, rfl⟩
  have hA := alloc2 w (.cells #[.slice a n cap, .int .i64 c, .int .i64 u, .bool d] 39) (.cells #[.slice none 0 0, .int .i64 0, .int .i64 0, .bool false] 39)
  rw [← hW] at hA
  have HS := hide hA.1
  have HB0 := hide hA.2.1
  have HC0 := hide hA.2.2.1
  have HC1 := hide hA.2.2.2
  clear hA
  have HR := hide (hr.later HB0.out (Nat.le_refl _))
  clear hr
  go_enter Tryz.func86, Tryz.ntmps86
  go_wp2_with fail
  rw [← hW]
  clear hW
  refine (specBegin_any W a n cap fs HR.out hc0 hn hz c u d hu hu2).mono ?_
  rintro e w2 ⟨⟨a', cap', rfl, ho2⟩, hb2⟩
  obtain ⟨U, hU⟩ : ∃ U, begU fs c u d = U := ⟨_, rfl⟩
  obtain ⟨D, hD⟩ : ∃ D, begD fs c u d = D := ⟨_, rfl⟩
  obtain ⟨C, hC⟩ : ∃ C, begC fs c u d = C := ⟨_, rfl⟩
  rw [hU, hD, hC]
  have HU := hide hU
  have HD := hide hD
  have HC := hide hC
  clear hU hD hC
  obtain ⟨X, hX⟩ : ∃ X, X = w2.alloc (.cells #[.slice a' n cap', .int .i64 c, .int .i64 U, .bool D] 39) := ⟨_, rfl⟩
  have hsz2 : w.heap.size + 2 ≤ w2.heap.size := by have := HS.out; have := hb2.size; omega
  have HBX : Hid (Below w2.heap.size w2 X) := hide (by rw [hX]; exact (Below.refl _ _).alloc (Nat.le_refl _) _)
  have HXS : Hid (X.heap.size = w2.heap.size + 1) := hide (by rw [hX]; simp)
  have HCX : Hid (X.heap[w2.heap.size]? = some (.cells #[.slice a' n cap', .int .i64 c, .int .i64 U, .bool D] 39 (0, 0))) := hide (by rw [hX]; exact heap_alloc_new w2 _)
  have HD0 : Hid (X.heap[w.heap.size]? = some (.cells #[.slice a n cap, .int .i64 c, .int .i64 u, .bool d] 39 (0, 0))) := hide (((HBX.out.block _ (by omega)).trans (hb2.block _ (by have := HS.out; omega))).trans HC0.out)
  have HD1 : Hid (X.heap[w.heap.size + 1]? = some (.cells #[.slice none 0 0, .int .i64 0, .int .i64 0, .bool false] 39 (0, 0))) := hide (((HBX.out.block _ (by omega)).trans (hb2.block _ (by have := HS.out; omega))).trans HC1.out)
  have HBK : Hid (∀ g, (Value.slice a' n cap').ownBlock = some g → w.heap.size + 2 ≤ g ∧ g < w2.heap.size) := hide (fun g hg => by have h := ho2.blk g hg; have := HS.out; omega)
  have HOX : Hid (FOwn X (w.heap.size + 2) (.slice a' n cap') fs) := hide ((ho2.later HBX.out (Nat.le_refl _)).mono (by have := HS.out; omega))
  have HBW := hide (hb2.trans (HBX.out.mono hb2.size))
  have HRX := hide (HR.out.later HBW.out (Nat.le_refl _))
  have HB3 := hide (HB0.out.trans (HBW.out.mono HB0.out.size))
  clear hb2 ho2 HC0 HC1 HR HB0 HBX HBW HS
  by_cases q0 : C = 0
  · subst q0
    have hx0 := cells4 HD0.out
    rw [hX] at hx0
    obtain ⟨y0, y1, y2, y3, -, -, -, -⟩ := hx0
    go_wp2_with fail
    clear y0 y1 y2 y3
    rw [← hX]
    clear hX
    refine (specFind_any X a n cap fs HRX.out (by omega) c u d nm).mono ?_
    rintro e w4 ⟨rfl, hb4⟩
    obtain ⟨x, hx⟩ : ∃ x, w2.heap.size = x := ⟨_, rfl⟩
    rw [hx] at HCX HXS hsz2 HBK
    rw [hx]
    obtain ⟨a0, a1, a2, a3, -, -, -, -⟩ := cells4 ((hb4.block _ (by have := HXS.out; omega)).trans HD0.out)
    obtain ⟨b0, b1, b2, b3, k0, k1, k2, k3⟩ := cells4 ((hb4.block _ (by have := HXS.out; omega)).trans HD1.out)
    obtain ⟨c0, c1, c2, c3, l0, l1, l2, l3⟩ := cells4 ((hb4.block _ (by have := HXS.out; omega)).trans HCX.out)
    have HW1 := hide ((hb4.block _ (by have := HXS.out; omega)).trans HD1.out)
    have HWX := hide ((hb4.block _ (by have := HXS.out; omega)).trans HCX.out)
    have HO4 := hide (HOX.out.later hb4 (Nat.le_refl _))
    have HR4 := hide (HRX.out.later hb4 (Nat.le_refl _))
    have HB4 := hide (HB3.out.trans (hb4.mono HB3.out.size))
    clear hb4 HD0 HD1 HCX HXS HOX HB3 HRX hx
    by_cases q1 : findF fs nm < 0
    · have HV : Hid (synF fs c u d nm = (fs, 3)) := hide (by unfold synF; rw [if_pos HC.out, if_pos q1])
      have t1 : decide (findF fs nm < 0) = true := by simpa using q1
      clear q1
      go_wp2
      refine bodyPost_ret (v := .tuple #[.agg #[.slice a' n cap', .int .i64 c, .int .i64 U, .bool D], .int .i64 3]) (by simp [results, Tryz.results86, go_sem, *]) rfl ⟨⟨a', cap', by rw [HV.out, HU.out, HD.out], ?_⟩, ?_⟩
      · rw [HV.out]
        refine FOwn.mono ?_ (Nat.le_add_right _ 2)
        iterate 4 (refine FOwn.setNe ?_ _ _ (by intro q; have := HBK.out _ q; dsimp only at this; omega))
        exact HO4.out
      · iterate 4 (refine Below.setCell ?_ (by dsimp only; omega) _)
        exact HB4.out
    · obtain ⟨k, hk, hkl⟩ := findF_lt fs nm q1
      have hgd : fs.getD k zeroF = fs[k] := by simp [List.getD, hkl]
      have HV : Hid (synF fs c u d nm = (fs.set k ⟨(fs[k]).name, (fs[k]).text, ((fs[k]).text.size : Int)⟩, 0)) := hide (by unfold synF; rw [if_pos HC.out, if_neg q1, hk, Int.toNat_natCast, hgd])
      rw [hk]
      clear hk q1 hgd
      obtain ⟨b, off, hab, -, hbw, e1, e2, e3⟩ := HR4.out.cells k hkl
      subst hab
      obtain ⟨g, hg⟩ : ∃ g, a' = some ⟨g, 0, none⟩ := by
        rcases HO4.out.2 with ⟨e, h0⟩ | ⟨g, c, cur, e, _⟩
        · simp only [Value.slice.injEq] at e; omega
        · simp only [Value.slice.injEq] at e
          exact ⟨g, e.1⟩
      subst hg
      have hgb := HBK.out g rfl
      have HP := hide (HO4.out.putSafe k hkl ((fs[k]).text.size : Int))
      obtain ⟨b', o', q0, -, -, p1, p2, p3⟩ := HO4.out.row.cells k hkl
      simp only [Option.some.injEq, Addr.mk.injEq] at q0
      obtain ⟨rfl, rfl, -⟩ := q0
      rw [Nat.zero_add] at p1 p2 p3
      have hw := HO4.out
      unfold FOwn at hw
      rw [HO4.out.len] at hw
      have f3 := hw.frozenAt (k * 3 + 2)
      have hkn : (k : Int) < (n : Int) := by omega
      have htz : (fs[k]).text.size ≤ 1048576 := Nat.le_trans (text_le fs k hkl) hz
      clear hw
      go_wp2
      go_region
      obtain ⟨Y, hY⟩ : ∃ Y, Y = (w4.setCell ⟨g, k * 3 + 2, none⟩ (.int .i64 ((fs[k]).text.size : Int))).drew := ⟨_, rfl⟩
      rw [← hY]
      have HOY : Hid (FOwn Y (w.heap.size + 2) (.slice (some ⟨g, 0, none⟩) n cap') (fs.set k ⟨(fs[k]).name, (fs[k]).text, ((fs[k]).text.size : Int)⟩)) := hide (by rw [hY]; exact HP.out)
      have HBY : Hid (Below w.heap.size w Y) := hide (by rw [hY]; exact (HB4.out.setCell (by dsimp only; omega) _).drew)
      have HY1 : Hid (Y.heap[w.heap.size + 1]? = some (.cells #[.slice none 0 0, .int .i64 0, .int .i64 0, .bool false] 39 (0, 0))) := hide (by rw [hY]; exact (Below.heap_setCell w4 _ _ _ (by dsimp only; omega)).trans HW1.out)
      have HYX : Hid (Y.heap[x]? = some (.cells #[.slice (some ⟨g, 0, none⟩) n cap', .int .i64 c, .int .i64 U, .bool D] 39 (0, 0))) := hide (by rw [hY]; exact (Below.heap_setCell w4 _ _ _ (by dsimp only; omega)).trans HWX.out)
      clear hY HP HB4 HW1 HWX HO4 HR4 a0 a1 a2 a3 b0 b1 b2 b3 k0 k1 k2 k3 c0 c1 c2 c3 l0 l1 l2 l3 e1 e2 e3 p1 p2 p3 f3
      obtain ⟨b0, b1, b2, b3, k0, k1, k2, k3⟩ := cells4 HY1.out
      obtain ⟨c0, c1, c2, c3, -, -, -, -⟩ := cells4 HYX.out
      go_wp2
      refine bodyPost_ret (v := .tuple #[.agg #[.slice (some ⟨g, 0, none⟩) n cap', .int .i64 c, .int .i64 U, .bool D], .int .i64 0]) (by simp [results, Tryz.results86, go_sem, *]) rfl ⟨⟨some ⟨g, 0, none⟩, cap', by rw [HV.out, HU.out, HD.out], ?_⟩, ?_⟩
      · rw [HV.out]
        refine FOwn.mono ?_ (Nat.le_add_right _ 2)
        iterate 4 (refine FOwn.setNe ?_ _ _ (by intro q; have := HBK.out _ q; dsimp only at this; omega))
        exact HOY.out
      · iterate 4 (refine Below.setCell ?_ (by dsimp only; omega) _)
        exact HBY.out
  · have HV : Hid (synF fs c u d nm = (fs, C)) := hide (by unfold synF; rw [if_neg (by rw [HC.out]; exact q0), HC.out])
    have t0 : (C == 0) = false := by simpa using q0
    have t0' : (C != 0) = true := by simpa using q0
    have hx1 := cells4 HD1.out
    rw [hX] at hx1
    obtain ⟨b0, b1, b2, b3, k0, k1, k2, k3⟩ := hx1
    have HOX' : Hid (FOwn (w2.alloc (.cells #[.slice a' n cap', .int .i64 c, .int .i64 U, .bool D] 39)) (w.heap.size + 2) (.slice a' n cap') fs) := hide (by rw [← hX]; exact HOX.out)
    have HB3' : Hid (Below w.heap.size w (w2.alloc (.cells #[.slice a' n cap', .int .i64 c, .int .i64 U, .bool D] 39))) := hide (by rw [← hX]; exact HB3.out)
    clear q0 hX
    go_wp2
    refine bodyPost_ret (v := .tuple #[.agg #[.slice a' n cap', .int .i64 c, .int .i64 U, .bool D], .int .i64 C]) (by simp [results, Tryz.results86, go_sem, *]) rfl ⟨⟨a', cap', by rw [HV.out, HU.out, HD.out], ?_⟩, ?_⟩
    · rw [HV.out]
      refine FOwn.mono ?_ (Nat.le_add_right _ 2)
      iterate 4 (refine FOwn.setNe ?_ _ _ (by intro q; have := HBK.out _ q; dsimp only at this; omega))
      exact HOX'.out
    · iterate 4 (refine Below.setCell ?_ (by dsimp only; omega) _)
      exact HB3'.out

end Go.Proofs.YthnealhaleccpaaGreatDoor
namespace Go.Proofs.YthnealhaleccpaaGreatDoor
open Go.RowKit
open Plain

/-- What Append answers: the files, and the code. -/
def appF (fs : List FileV) (c u : Int) (d : Bool) (nm t : ByteArray) : List FileV × Int :=
  if begC fs c u d = 0 then
    (if findF fs nm < 0 then (fs, 3) else if c - (usedF fs : Int) < (t.size : Int) then (fs, 2) else
      (fs.set (findF fs nm).toNat ⟨(fs.getD (findF fs nm).toNat zeroF).name, (fs.getD (findF fs nm).toNat zeroF).text ++ t, (fs.getD (findF fs nm).toNat zeroF).safe⟩, 0))
  else (fs, begC fs c u d)
theorem begC_ok {fs : List FileV} {c u : Int} {d : Bool} (h : begC fs c u d = 0) : diskOk fs c u = true := by
  unfold begC at h
  split at h
  · assumption
  · simp at h
theorem begC_cap {fs : List FileV} {c u : Int} {d : Bool} (h : begC fs c u d = 0) : 0 ≤ c ∧ c ≤ 100000 := by
  have h1 := begC_ok h
  unfold diskOk headOk at h1
  simp only [Bool.and_eq_true] at h1
  have h2 := h1.1.2.1
  unfold inB at h2
  simpa using h2

set_option maxRecDepth 100000 in
set_option maxHeartbeats 2000000 in
theorem specAppend_any (w : World) (a : Option Addr) (n cap : Nat) (fs : List FileV) (hr : FRow w 0 a n fs) (hc0 : a = none → cap = 0) (hn : n ≤ 1048576) (hz : szFs fs ≤ 1048576) (c u : Int) (d : Bool) (hu : -9223372036854775808 ≤ u) (hu2 : u ≤ 9223372036854775807) (nm : ByteArray) (t : ByteArray) :
    Calls Tryz.prog 84 #[.agg #[.slice a n cap, .int .i64 c, .int .i64 u, .bool d], .string nm, .string t] w fun e w' => (∃ a' cap', e = .returned (.tuple #[.agg #[.slice a' n cap', .int .i64 c, .int .i64 (begU fs c u d), .bool (begD fs c u d)], .int .i64 (appF fs c u d nm t).2]) ∧ FOwn w' w.heap.size (.slice a' n cap') (appF fs c u d nm t).1) ∧ Below w.heap.size w w' := by
  have hfn := hr.len
  obtain ⟨W, hW⟩ : ∃ W, W = (w.alloc (.cells #[.slice a n cap, .int .i64 c, .int .i64 u, .bool d] 39)).alloc (.cells #[.slice none 0 0, .int .i64 0, .int .i64 0, .bool false] 39) := ⟨_, rfl⟩
  have hA := alloc2 w (.cells #[.slice a n cap, .int .i64 c, .int .i64 u, .bool d] 39) (.cells #[.slice none 0 0, .int .i64 0, .int .i64 0, .bool false] 39)
  rw [← hW] at hA
  have HS := hide hA.1
  have HB0 := hide hA.2.1
  have HC0 := hide hA.2.2.1
  have HC1 := hide hA.2.2.2
  clear hA
  have HR := hide (hr.later HB0.out (Nat.le_refl _))
  clear hr
  go_enter Tryz.func84, Tryz.ntmps84
  go_wp2_with fail
  rw [← hW]
  clear hW
  refine (specBegin_any W a n cap fs HR.out hc0 hn hz c u d hu hu2).mono ?_
  rintro e w2 ⟨⟨a', cap', rfl, ho2⟩, hb2⟩
  obtain ⟨U, hU⟩ : ∃ U, begU fs c u d = U := ⟨_, rfl⟩
  obtain ⟨D, hD⟩ : ∃ D, begD fs c u d = D := ⟨_, rfl⟩
  obtain ⟨C, hC⟩ : ∃ C, begC fs c u d = C := ⟨_, rfl⟩
  rw [hU, hD, hC]
  have HU := hide hU
  have HD := hide hD
  have HC := hide hC
  clear hU hD hC
  obtain ⟨X, hX⟩ : ∃ X, X = w2.alloc (.cells #[.slice a' n cap', .int .i64 c, .int .i64 U, .bool D] 39) := ⟨_, rfl⟩
  have hsz2 : w.heap.size + 2 ≤ w2.heap.size := by have := HS.out; have := hb2.size; omega
  have HBX : Hid (Below w2.heap.size w2 X) := hide (by rw [hX]; exact (Below.refl _ _).alloc (Nat.le_refl _) _)
  have HXS : Hid (X.heap.size = w2.heap.size + 1) := hide (by rw [hX]; simp)
  have HCX : Hid (X.heap[w2.heap.size]? = some (.cells #[.slice a' n cap', .int .i64 c, .int .i64 U, .bool D] 39 (0, 0))) := hide (by rw [hX]; exact heap_alloc_new w2 _)
  have HD0 : Hid (X.heap[w.heap.size]? = some (.cells #[.slice a n cap, .int .i64 c, .int .i64 u, .bool d] 39 (0, 0))) := hide (((HBX.out.block _ (by omega)).trans (hb2.block _ (by have := HS.out; omega))).trans HC0.out)
  have HD1 : Hid (X.heap[w.heap.size + 1]? = some (.cells #[.slice none 0 0, .int .i64 0, .int .i64 0, .bool false] 39 (0, 0))) := hide (((HBX.out.block _ (by omega)).trans (hb2.block _ (by have := HS.out; omega))).trans HC1.out)
  have HBK : Hid (∀ g, (Value.slice a' n cap').ownBlock = some g → w.heap.size + 2 ≤ g ∧ g < w2.heap.size) := hide (fun g hg => by have h := ho2.blk g hg; have := HS.out; omega)
  have HOX : Hid (FOwn X (w.heap.size + 2) (.slice a' n cap') fs) := hide ((ho2.later HBX.out (Nat.le_refl _)).mono (by have := HS.out; omega))
  have HBW := hide (hb2.trans (HBX.out.mono hb2.size))
  have HRX := hide (HR.out.later HBW.out (Nat.le_refl _))
  have HB3 := hide (HB0.out.trans (HBW.out.mono HB0.out.size))
  clear hb2 ho2 HC0 HC1 HR HB0 HBX HBW HS
  by_cases q0 : C = 0
  · subst q0
    have hx0 := cells4 HD0.out
    rw [hX] at hx0
    obtain ⟨y0, y1, y2, y3, -, -, -, -⟩ := hx0
    go_wp2_with fail
    clear y0 y1 y2 y3
    rw [← hX]
    clear hX
    refine (specFind_any X a n cap fs HRX.out (by omega) c u d nm).mono ?_
    rintro e w4 ⟨rfl, hb4⟩
    obtain ⟨x, hx⟩ : ∃ x, w2.heap.size = x := ⟨_, rfl⟩
    rw [hx] at HCX HXS hsz2 HBK
    rw [hx]
    obtain ⟨a0, a1, a2, a3, -, -, -, -⟩ := cells4 ((hb4.block _ (by have := HXS.out; omega)).trans HD0.out)
    obtain ⟨b0, b1, b2, b3, k0, k1, k2, k3⟩ := cells4 ((hb4.block _ (by have := HXS.out; omega)).trans HD1.out)
    obtain ⟨c0, c1, c2, c3, l0, l1, l2, l3⟩ := cells4 ((hb4.block _ (by have := HXS.out; omega)).trans HCX.out)
    have HW0 := hide ((hb4.block _ (by have := HXS.out; omega)).trans HD0.out)
    have HW1 := hide ((hb4.block _ (by have := HXS.out; omega)).trans HD1.out)
    have hx4 : x + 1 ≤ w4.heap.size := by have := HXS.out; have := hb4.size; omega
    have HWX := hide ((hb4.block _ (by have := HXS.out; omega)).trans HCX.out)
    have HO4 := hide (HOX.out.later hb4 (Nat.le_refl _))
    have HR4 := hide (HRX.out.later hb4 (Nat.le_refl _))
    have HB4 := hide (HB3.out.trans (hb4.mono HB3.out.size))
    clear hb4 HD0 HD1 HCX HXS HOX HB3 HRX hx
    by_cases q1 : findF fs nm < 0
    · have HV : Hid (appF fs c u d nm t = (fs, 3)) := hide (by unfold appF; rw [if_pos HC.out, if_pos q1])
      have t1 : decide (findF fs nm < 0) = true := by simpa using q1
      clear q1
      go_wp2
      refine bodyPost_ret (v := .tuple #[.agg #[.slice a' n cap', .int .i64 c, .int .i64 U, .bool D], .int .i64 3]) (by simp [results, Tryz.results84, go_sem, *]) rfl ⟨⟨a', cap', by rw [HV.out, HU.out, HD.out], ?_⟩, ?_⟩
      · rw [HV.out]
        refine FOwn.mono ?_ (Nat.le_add_right _ 2)
        iterate 4 (refine FOwn.setNe ?_ _ _ (by intro q; have := HBK.out _ q; dsimp only at this; omega))
        exact HO4.out
      · iterate 4 (refine Below.setCell ?_ (by dsimp only; omega) _)
        exact HB4.out
    · obtain ⟨k, hk, hkl⟩ := findF_lt fs nm q1
      have hgd : fs.getD k zeroF = fs[k] := by simp [List.getD, hkl]
      have hus := usedF_le_sz fs
      have hcb := begC_cap HC.out
      have hkz : decide ((k : Int) < 0) = false := by simp
      have HLW : Hid (∀ w', Below w4.heap.size w4 w' → w'.cell? ⟨w.heap.size, 0, none⟩ = some (.slice a n cap) ∧ w'.cell? ⟨w.heap.size, 1, none⟩ = some (.int .i64 c) ∧ w'.cell? ⟨w.heap.size, 2, none⟩ = some (.int .i64 u) ∧ w'.cell? ⟨w.heap.size, 3, none⟩ = some (.bool d) ∧ Hid (Below w4.heap.size w4 w')) := hide (fun w' h => by
        obtain ⟨z0, z1, z2, z3, -⟩ := cells4 ((h.block _ (by omega)).trans HW0.out)
        exact ⟨z0, z1, z2, z3, hide h⟩)
      have S0 := HLW.out w4.drew (Below.refl _ _).drew
      have HUS : Hid (∀ w', Hid (Below w4.heap.size w4 w') → Calls Tryz.prog 61 #[.agg #[.slice a n cap, .int .i64 c, .int .i64 u, .bool d]] w' fun e w'' => e = .returned (.int .i64 (usedF fs)) ∧ Below w4.heap.size w4 w'') := hide (fun w' h =>
        (specUsed_any w' a n cap fs (HR4.out.later h.out (Nat.le_refl _)) (by omega) (by omega) c u d).mono (fun e w'' ⟨h1, h2⟩ => ⟨h1, h.out.trans (h2.mono h.out.size)⟩))
      have wf : IntKind.i64.wrap (c - (usedF fs : Int)) = c - (usedF fs : Int) := by rw [IntKind.wrap_i64]; omega
      have HK := hide hk
      rw [hk]
      clear hk a0 a1 a2 a3 b0 b1 b2 b3 k0 k1 k2 k3 c0 c1 c2 c3 l0 l1 l2 l3
      by_cases q2 : c - (usedF fs : Int) < (t.size : Int)
      · have t2 : decide (c - (usedF fs : Int) < (t.size : Int)) = true := by simpa using q2
        have HV : Hid (appF fs c u d nm t = (fs, 2)) := hide (by unfold appF; rw [if_pos HC.out, if_neg q1, if_pos q2])
        clear q1 hgd
        go_wp2
        first
          | (go_region_held3 (fun w' => w'.cell? ⟨w.heap.size, 0, none⟩ = some (.slice a n cap) ∧ w'.cell? ⟨w.heap.size, 1, none⟩ = some (.int .i64 c) ∧ w'.cell? ⟨w.heap.size, 2, none⟩ = some (.int .i64 u) ∧ w'.cell? ⟨w.heap.size, 3, none⟩ = some (.bool d) ∧ Hid (Below w4.heap.size w4 w')) (assumption) ((go_at_call 61; refine (HUS.out _ (by simp only [*])).mono ?_; rintro e w5 ⟨rfl, hb5⟩; have hS5 := HLW.out w5 hb5)))
          | fail
        have HV1 := hide ((hb5.block _ (by omega)).trans HW1.out)
        have HVX := hide ((hb5.block _ (by omega)).trans HWX.out)
        have HOY := hide (HO4.out.later hb5 (Nat.le_refl _))
        have HBY := hide (HB4.out.trans (hb5.mono HB4.out.size))
        clear hb5 hS5 S0 HLW HUS HW0 HW1 HWX HO4 HB4 HR4
        obtain ⟨b0, b1, b2, b3, k0, k1, k2, k3⟩ := cells4 HV1.out
        obtain ⟨c0, c1, c2, c3, -, -, -, -⟩ := cells4 HVX.out
        go_wp2
        refine bodyPost_ret (v := .tuple #[.agg #[.slice a' n cap', .int .i64 c, .int .i64 U, .bool D], .int .i64 2]) (by simp [results, Tryz.results84, go_sem, *]) rfl ⟨⟨a', cap', by rw [HV.out, HU.out, HD.out], ?_⟩, ?_⟩
        · rw [HV.out]
          refine FOwn.mono ?_ (Nat.le_add_right _ 2)
          iterate 4 (refine FOwn.setNe ?_ _ _ (by intro q; have := HBK.out _ q; dsimp only at this; omega))
          exact HOY.out
        · iterate 4 (refine Below.setCell ?_ (by dsimp only; omega) _)
          exact HBY.out
      · have t2 : decide (c - (usedF fs : Int) < (t.size : Int)) = false := by simpa using q2
        have HV : Hid (appF fs c u d nm t = (fs.set k ⟨(fs[k]).name, (fs[k]).text ++ t, (fs[k]).safe⟩, 0)) := hide (by unfold appF; rw [if_pos HC.out, if_neg q1, if_neg q2, HK.out, Int.toNat_natCast, hgd])
        clear q1 hgd
        go_wp2
        first
          | (go_region_held3 (fun w' => w'.cell? ⟨w.heap.size, 0, none⟩ = some (.slice a n cap) ∧ w'.cell? ⟨w.heap.size, 1, none⟩ = some (.int .i64 c) ∧ w'.cell? ⟨w.heap.size, 2, none⟩ = some (.int .i64 u) ∧ w'.cell? ⟨w.heap.size, 3, none⟩ = some (.bool d) ∧ Hid (Below w4.heap.size w4 w')) (assumption) ((go_at_call 61; refine (HUS.out _ (by simp only [*])).mono ?_; rintro e w5 ⟨rfl, hb5⟩; have hS5 := HLW.out w5 hb5)))
          | fail
        have HV1 := hide ((hb5.block _ (by omega)).trans HW1.out)
        have HVX := hide ((hb5.block _ (by omega)).trans HWX.out)
        have HO5 := hide (HO4.out.later hb5 (Nat.le_refl _))
        have HR5 := hide (HR4.out.later hb5 (Nat.le_refl _))
        have HB5 := hide (HB4.out.trans (hb5.mono HB4.out.size))
        have a0 := (HLW.out w5 hb5).1
        obtain ⟨c0, -⟩ := cells4 HVX.out
        clear hb5 hS5 S0 HLW HUS HW0 HW1 HWX HO4 HB4 HR4
        obtain ⟨b, off, hab, -, hbw, e1, e2, e3⟩ := HR5.out.cells k hkl
        subst hab
        obtain ⟨g, hg⟩ : ∃ g, a' = some ⟨g, 0, none⟩ := by
          rcases HO5.out.2 with ⟨e, h0⟩ | ⟨g, c, cur, e, _⟩
          · simp only [Value.slice.injEq] at e; omega
          · simp only [Value.slice.injEq] at e
            exact ⟨g, e.1⟩
        subst hg
        have hgb := HBK.out g rfl
        have HP := hide (HO5.out.putText k hkl ((fs[k]).text ++ t))
        obtain ⟨b', o', q0, -, -, p1, p2, p3⟩ := HO5.out.row.cells k hkl
        simp only [Option.some.injEq, Addr.mk.injEq] at q0
        obtain ⟨rfl, rfl, -⟩ := q0
        rw [Nat.zero_add] at p1 p2 p3
        have hw := HO5.out
        unfold FOwn at hw
        rw [HO5.out.len] at hw
        have f2 := hw.frozenAt (k * 3 + 1)
        have hkn : (k : Int) < (n : Int) := by omega
        have htz : (fs[k]).text.size ≤ 1048576 := Nat.le_trans (text_le fs k hkl) hz
        clear hw
        go_wp2
        go_region
        obtain ⟨Y, hY⟩ : ∃ Y, Y = (w5.setCell ⟨g, k * 3 + 1, none⟩ (.string ((fs[k]).text ++ t))).drew := ⟨_, rfl⟩
        rw [← hY]
        have HOY : Hid (FOwn Y (w.heap.size + 2) (.slice (some ⟨g, 0, none⟩) n cap') (fs.set k ⟨(fs[k]).name, (fs[k]).text ++ t, (fs[k]).safe⟩)) := hide (by rw [hY]; exact HP.out)
        have HBY : Hid (Below w.heap.size w Y) := hide (by rw [hY]; exact (HB5.out.setCell (by dsimp only; omega) _).drew)
        have HY1 : Hid (Y.heap[w.heap.size + 1]? = some (.cells #[.slice none 0 0, .int .i64 0, .int .i64 0, .bool false] 39 (0, 0))) := hide (by rw [hY]; exact (Below.heap_setCell w5 _ _ _ (by dsimp only; omega)).trans HV1.out)
        have HYX : Hid (Y.heap[x]? = some (.cells #[.slice (some ⟨g, 0, none⟩) n cap', .int .i64 c, .int .i64 U, .bool D] 39 (0, 0))) := hide (by rw [hY]; exact (Below.heap_setCell w5 _ _ _ (by dsimp only; omega)).trans HVX.out)
        clear hY HP HB5 HV1 HVX HO5 HR5 a0 c0 e1 e2 e3 p1 p2 p3 f2
        obtain ⟨b0, b1, b2, b3, k0, k1, k2, k3⟩ := cells4 HY1.out
        obtain ⟨c0, c1, c2, c3, -, -, -, -⟩ := cells4 HYX.out
        go_wp2
        refine bodyPost_ret (v := .tuple #[.agg #[.slice (some ⟨g, 0, none⟩) n cap', .int .i64 c, .int .i64 U, .bool D], .int .i64 0]) (by simp [results, Tryz.results84, go_sem, *]) rfl ⟨⟨some ⟨g, 0, none⟩, cap', by rw [HV.out, HU.out, HD.out], ?_⟩, ?_⟩
        · rw [HV.out]
          refine FOwn.mono ?_ (Nat.le_add_right _ 2)
          iterate 4 (refine FOwn.setNe ?_ _ _ (by intro q; have := HBK.out _ q; dsimp only at this; omega))
          exact HOY.out
        · iterate 4 (refine Below.setCell ?_ (by dsimp only; omega) _)
          exact HBY.out
  · have HV : Hid (appF fs c u d nm t = (fs, C)) := hide (by unfold appF; rw [if_neg (by rw [HC.out]; exact q0), HC.out])
    have t0 : (C == 0) = false := by simpa using q0
    have t0' : (C != 0) = true := by simpa using q0
    have hx1 := cells4 HD1.out
    rw [hX] at hx1
    obtain ⟨b0, b1, b2, b3, k0, k1, k2, k3⟩ := hx1
    have HOX' : Hid (FOwn (w2.alloc (.cells #[.slice a' n cap', .int .i64 c, .int .i64 U, .bool D] 39)) (w.heap.size + 2) (.slice a' n cap') fs) := hide (by rw [← hX]; exact HOX.out)
    have HB3' : Hid (Below w.heap.size w (w2.alloc (.cells #[.slice a' n cap', .int .i64 c, .int .i64 U, .bool D] 39))) := hide (by rw [← hX]; exact HB3.out)
    clear q0 hX
    go_wp2
    refine bodyPost_ret (v := .tuple #[.agg #[.slice a' n cap', .int .i64 c, .int .i64 U, .bool D], .int .i64 C]) (by simp [results, Tryz.results84, go_sem, *]) rfl ⟨⟨a', cap', by rw [HV.out, HU.out, HD.out], ?_⟩, ?_⟩
    · rw [HV.out]
      refine FOwn.mono ?_ (Nat.le_add_right _ 2)
      iterate 4 (refine FOwn.setNe ?_ _ _ (by intro q; have := HBK.out _ q; dsimp only at this; omega))
      exact HOX'.out
    · iterate 4 (refine Below.setCell ?_ (by dsimp only; omega) _)
      exact HB3'.out

end Go.Proofs.YthnealhaleccpaaGreatDoor
namespace Go.Proofs.YthnealhaleccpaaGreatDoor
open Go.RowKit
open Plain

def insF : List FileV → FileV → List FileV
  | [], f => [f]
  | g :: r, f => if sle g.name f.name = true then g :: insF r f else f :: g :: r
theorem insF_length (fs : List FileV) (f : FileV) : (insF fs f).length = fs.length + 1 := by
  induction fs with
  | nil => rfl
  | cons g r ih =>
    unfold insF
    split
    · simp [ih]
    · simp
theorem row_one (w : World) (f : FileV) : FRow (w.alloc (.cells #[.string f.name, .string f.text, .int .i64 f.safe] 73)) 0 (some ⟨w.heap.size, 0, none⟩) 1 [f] where
  len := rfl
  cells := fun i hi => by
    have e : i = 0 := by simpa using hi
    subst e
    refine ⟨w.heap.size, 0, rfl, Nat.zero_le _, by simp, ?_, ?_, ?_⟩ <;> simp
/-- 'out = append(out, f)', out a row of the call's own: a law for the walk. -/
theorem wpList_app_one {ops : Array Oper} {rest : List Oper} {o : Oper} {act : Act} {Q : Exit → Act → World → Prop} (hgd : o.guard = none) (s x : Operand)
    (ho : o.op = .call { callee := .builtin .append, args := #[s, x], argTypes := #[37, 37] }) {w : World} {base : Nat} {v : Value} {fs : List FileV} (hown : FOwn w base v fs) (hb : base ≤ w.heap.size)
    (f : FileV) (hn : fs.length + 1 ≤ 1099511627776) (hs : act.eval s = v) (hx : act.eval x = .slice (some ⟨w.heap.size, 0, none⟩) 1 1)
    (h : ∀ a' cap' w', FOwn w' base (.slice a' (fs.length + 1) cap') (fs ++ [f]) → Below base w w' → wpList Tryz.prog ops Q rest (act.put o.dst (.slice a' (fs.length + 1) cap')) w') :
    wpList Tryz.prog ops Q (o :: rest) act (w.alloc (.cells #[.string f.name, .string f.text, .int .i64 f.safe] 73)) := by
  have hA : Below w.heap.size w (w.alloc (.cells #[.string f.name, .string f.text, .int .i64 f.safe] 73)) := (Below.refl _ _).alloc (Nat.le_refl _) _
  refine wpList_app_files hgd s x ho (hown.later hA (Nat.le_refl _)) (by simp; omega) (row_one w f) hn hs hx ?_
  intro a' n' cap' w' hn' hown' hg
  subst hn'
  refine h a' cap' w' hown' ?_
  refine (hA.mono hb).grown hg (by simp; omega) ?_
  intro k hk
  exact (hown.blk k hk).1

set_option maxRecDepth 100000 in
set_option maxHeartbeats 2000000 in
theorem specInsert_any (w : World) (a : Option Addr) (n cap : Nat) (fs : List FileV) (hr : FRow w 0 a n fs) (hn : n ≤ 1048576) (f : FileV) :
    Calls Tryz.prog 98 #[.slice a n cap, .agg #[.string f.name, .string f.text, .int .i64 f.safe]] w fun e w' => (∃ a' cap', e = .returned (.slice a' (n + 1) cap') ∧ FOwn w' w.heap.size (.slice a' (n + 1) cap') (insF fs f)) ∧ Below w.heap.size w w' := by
  have hfn := hr.len
  obtain ⟨W, hW⟩ : ∃ W, W = (w.alloc (.cells #[.string f.name, .string f.text, .int .i64 f.safe] 73)).alloc (.cells #[] 73) := ⟨_, rfl⟩
  have hA := alloc2 w (.cells #[.string f.name, .string f.text, .int .i64 f.safe] 73) (.cells #[] 73)
  rw [← hW] at hA
  have HO : Hid (FOwn W (w.heap.size + 1) (.slice (some ⟨w.heap.size + 1, 0, none⟩) 0 0) []) := hide (by
    refine ⟨rfl, .inr ⟨w.heap.size + 1, 0, #[], rfl, Nat.le_refl _, hA.2.2.2, Nat.le_refl _, by unfold maxLen; omega, rfl, rfl⟩⟩)
  have HS := hide hA.1
  have HB0 := hide hA.2.1
  have HC0 := hide hA.2.2.1
  clear hA
  have HR := hide hr
  clear hr
  go_enter Tryz.func98, Tryz.ntmps98
  go_wp2
  rw [← hW]
  clear hW
  go_loopw [5, 6, 7] (fun v dn i wr => ∃ (k : Nat) (a' : Option Addr) (cap' : Nat) (done : Bool) (gs : List FileV), k ≤ n ∧ i = .int .i64 k ∧ dn = .bool done ∧ v = .slice a' gs.length cap' ∧ Hid (gs.length ≤ k + done.toNat) ∧ Hid (if done = true then gs ++ fs.drop k = insF fs f else gs ++ insF (fs.drop k) f = insF fs f) ∧ Hid (FOwn wr (w.heap.size + 1) (.slice a' gs.length cap') gs) ∧ Hid (Below (w.heap.size + 1) W wr)) (fun _ _ i _ => n - (intOf i).toNat)
  case atStart => exact ⟨0, _, _, false, [], by omega, rfl, rfl, rfl, hide (by simp), hide (by simp), HO, hide (Below.refl _ _)⟩
  case round =>
    clear HO
    obtain ⟨k, a', cap', done, gs, hk, rfl, rfl, rfl, HL, HE, HO, HB⟩ := hrel
    have hsz : w.heap.size + 2 ≤ wr.heap.size := by have := HS.out; have := HB.out.size; omega
    have hgl : gs.length ≤ 1048577 := by have := HL.out; have : done.toNat ≤ 1 := by cases done <;> decide
                                         omega
    have HCr : Hid (wr.heap[w.heap.size]? = some (.cells #[.string f.name, .string f.text, .int .i64 f.safe] 73 (0, 0))) := hide ((HB.out.block _ (by omega)).trans HC0.out)
    have HBw : Hid (Below w.heap.size w wr) := hide (HB0.out.trans (HB.out.mono (by omega)))
    have z0 : wr.cell? ⟨w.heap.size, 0, none⟩ = some (.string f.name) := by rw [cell_of_row wr _ _ _ _ _ HCr.out]; rfl
    have z1 : wr.cell? ⟨w.heap.size, 1, none⟩ = some (.string f.text) := by rw [cell_of_row wr _ _ _ _ _ HCr.out]; rfl
    have z2 : wr.cell? ⟨w.heap.size, 2, none⟩ = some (.int .i64 f.safe) := by rw [cell_of_row wr _ _ _ _ _ HCr.out]; rfl
    by_cases hlt : k < n
    · have hkf : k < fs.length := by omega
      have hdr : fs.drop k = fs[k] :: fs.drop (k + 1) := List.drop_eq_getElem_cons hkf
      obtain ⟨b, off, rfl, -, hbw, e1, e2, e3⟩ := (HR.out.later HBw.out (Nat.le_refl _)).cells k hkf
      have hk2 : (k : Int) < (n : Int) := by omega
      cases done
      · by_cases q : sle (fs[k]).name f.name = true
        · skip
          have q' : (Op.bytesLess (fs[k]).name.toList f.name.toList || (fs[k]).name.toList == f.name.toList) = true := q
          have HE2 : Hid (if false = true then (gs ++ [fs[k]]) ++ fs.drop (k + 1) = insF fs f else (gs ++ [fs[k]]) ++ insF (fs.drop (k + 1)) f = insF fs f) := hide (by
            have h := HE.out
            rw [if_neg (by simp)] at h ⊢
            rw [hdr, insF, if_pos q] at h
            rw [← h]
            simp)
          clear hdr q
          go_wp2
          go_quiet (fail)
          have HOZ : Hid (FOwn (wr.drewN nq) (w.heap.size + 1) (.slice a' gs.length cap') gs) := HO
          go_wp2_with (at_builtin; refine wpList_app_one rfl (.tmp 31) (.tmp 36) rfl HOZ.out (by show w.heap.size + 1 ≤ wr.heap.size; omega) (fs[k]) (by omega) rfl rfl ?_; intro a3 cap3 w3 hown3 hb3)
          have HBZ : Below (w.heap.size + 1) W (wr.drewN nq) := ⟨HB.out.os, HB.out.tape, HB.out.output, HB.out.size, HB.out.block⟩
          go_roundw
          case rel => exact ⟨k + 1, a3, cap3, false, gs ++ [fs[k]], by omega, by go_num, rfl, by simp, hide (by have h := HL.out; simp at h ⊢; omega), HE2, hide (by simpa using hown3), hide (HBZ.trans hb3)⟩
          case measure => first | (simp [intOf]; done) | (simp [intOf]; omega)
        · skip
          have q' : (Op.bytesLess (fs[k]).name.toList f.name.toList || (fs[k]).name.toList == f.name.toList) = false := by
            have h : sle (fs[k]).name f.name = false := by simpa using q
            exact h
          have HE2 : Hid (if true = true then ((gs ++ [f]) ++ [fs[k]]) ++ fs.drop (k + 1) = insF fs f else ((gs ++ [f]) ++ [fs[k]]) ++ insF (fs.drop (k + 1)) f = insF fs f) := hide (by
            have h := HE.out
            rw [if_neg (by simp)] at h
            rw [if_pos rfl]
            rw [hdr, insF, if_neg q] at h
            rw [← h]
            simp)
          clear hdr q
          go_wp2
          go_quiet (fail)
          have HOZ : Hid (FOwn (wr.drewN nq) (w.heap.size + 1) (.slice a' gs.length cap') gs) := HO
          have HBZ : Below (w.heap.size + 1) W (wr.drewN nq) := ⟨HB.out.os, HB.out.tape, HB.out.output, HB.out.size, HB.out.block⟩
          go_wp2_with (at_builtin; first
            | (refine wpList_app_one rfl (.tmp 27) (.tmp 29) rfl HOZ.out (by show w.heap.size + 1 ≤ wr.heap.size; omega) f (by omega) rfl rfl ?_; intro a2 cap2 w2 hown2 hb2; obtain ⟨b', o', q0, -, -, g1, g2, g3⟩ := (HR.out.later (HB0.out.trans ((HBZ.trans hb2).mono (by omega))) (Nat.le_refl _)).cells k hkf; simp only [Option.some.injEq, Addr.mk.injEq] at q0; obtain ⟨rfl, rfl, -⟩ := q0; have hsz2 : w.heap.size + 2 ≤ w2.heap.size := Nat.le_trans hsz hb2.size; have HO2 := hide hown2; have HB2 := hide (HBZ.trans hb2); clear hown2 hb2)
            | (refine wpList_app_one (fs := gs ++ [f]) rfl (.tmp 31) (.tmp 36) rfl HO2.out (by omega) (fs[k]) (by simp; omega) rfl rfl ?_; intro a3 cap3 w3 hown3 hb3))
          go_roundw
          case rel => exact ⟨k + 1, a3, cap3, true, (gs ++ [f]) ++ [fs[k]], by omega, by go_num, rfl, by simp, hide (by have h := HL.out; simp at h ⊢; omega), hide (by have h := HE2.out; simpa using h), hide (by simpa using hown3), hide (HB2.out.trans hb3)⟩
          case measure => first | (simp [intOf]; done) | (simp [intOf]; omega)
      · skip
        have HE2 : Hid (if true = true then (gs ++ [fs[k]]) ++ fs.drop (k + 1) = insF fs f else (gs ++ [fs[k]]) ++ insF (fs.drop (k + 1)) f = insF fs f) := hide (by
          have h := HE.out
          rw [if_pos rfl] at h ⊢
          rw [hdr] at h
          rw [← h]
          simp)
        clear hdr
        go_wp2
        go_quiet (fail)
        have HOZ : Hid (FOwn (wr.drewN nq) (w.heap.size + 1) (.slice a' gs.length cap') gs) := HO
        go_wp2_with (at_builtin; refine wpList_app_one rfl (.tmp 31) (.tmp 36) rfl HOZ.out (by show w.heap.size + 1 ≤ wr.heap.size; omega) (fs[k]) (by omega) rfl rfl ?_; intro a3 cap3 w3 hown3 hb3)
        have HBZ : Below (w.heap.size + 1) W (wr.drewN nq) := ⟨HB.out.os, HB.out.tape, HB.out.output, HB.out.size, HB.out.block⟩
        go_roundw
        case rel => exact ⟨k + 1, a3, cap3, true, gs ++ [fs[k]], by omega, by go_num, rfl, by simp, hide (by have h := HL.out; simp at h ⊢; omega), HE2, hide (by simpa using hown3), hide (HBZ.trans hb3)⟩
        case measure => first | (simp [intOf]; done) | (simp [intOf]; omega)
    · obtain rfl : k = n := by omega
      have hdn : fs.drop k = [] := List.drop_eq_nil_of_le (by omega)
      cases done
      · have HV : Hid (gs ++ [f] = insF fs f) := hide (by
          have h := HE.out
          rw [if_neg (by simp), hdn] at h
          exact h)
        have HVL : Hid (gs.length + 1 = k + 1) := hide (by have := congrArg List.length HV.out; rw [insF_length] at this; simp at this; omega)
        go_wp2_with (at_builtin; refine wpList_app_one rfl (.tmp 40) (.tmp 42) rfl HO.out (by omega) f (by omega) rfl rfl ?_; intro a3 cap3 w3 hown3 hb3)
        go_ret
        refine ⟨⟨a3, cap3, by rw [← HVL.out]; rfl, ?_⟩, HB0.out.trans ((HB.out.trans hb3).mono (by omega))⟩
        rw [← HVL.out, ← HV.out]
        exact hown3.mono (by omega)
      · have HV : Hid (gs = insF fs f) := hide (by
          have h := HE.out
          rw [if_pos rfl, hdn] at h
          simpa using h)
        have HVL : Hid (gs.length = k + 1) := hide (by rw [HV.out, insF_length]; omega)
        go_wp2
        go_ret
        refine ⟨⟨a', cap', by rw [← HVL.out]; rfl, ?_⟩, HBw.out⟩
        rw [← HVL.out, ← HV.out]
        exact HO.out.mono (by omega)

end Go.Proofs.YthnealhaleccpaaGreatDoor
namespace Go.Proofs.YthnealhaleccpaaGreatDoor
open Go.RowKit
open Plain

/-- What Create answers: the files, and the code. -/
def creF (fs : List FileV) (c u : Int) (d : Bool) (nm : ByteArray) : List FileV × Int :=
  if begC fs c u d = 0 then
    (if nameOk nm = true then (if findF fs nm < 0 then (if 130 ≤ fs.length then (fs, 2) else (insF fs ⟨nm, ⟨#[]⟩, 0⟩, 0)) else (fs, 4)) else (fs, 5))
  else (fs, begC fs c u d)
theorem FRow.base0 {w : World} {base : Nat} {a : Option Addr} {n : Nat} {fs : List FileV} (h : FRow w base a n fs) : FRow w 0 a n fs where
  len := h.len
  cells := fun i hi => by
    obtain ⟨b, off, h1, _, h3⟩ := h.cells i hi
    exact ⟨b, off, h1, Nat.zero_le _, h3⟩

set_option maxRecDepth 100000 in
set_option maxHeartbeats 2000000 in
theorem specCreate_any (w : World) (a : Option Addr) (n cap : Nat) (fs : List FileV) (hr : FRow w 0 a n fs) (hc0 : a = none → cap = 0) (hn : n ≤ 1048576) (hz : szFs fs ≤ 1048576) (c u : Int) (d : Bool) (hu : -9223372036854775808 ≤ u) (hu2 : u ≤ 9223372036854775807) (nm : ByteArray) (hnm : nm.size ≤ 1048576) :
    Calls Tryz.prog 83 #[.agg #[.slice a n cap, .int .i64 c, .int .i64 u, .bool d], .string nm] w fun e w' => (∃ a' cap', e = .returned (.tuple #[.agg #[.slice a' (creF fs c u d nm).1.length cap', .int .i64 c, .int .i64 (begU fs c u d), .bool (begD fs c u d)], .int .i64 (creF fs c u d nm).2]) ∧ FOwn w' w.heap.size (.slice a' (creF fs c u d nm).1.length cap') (creF fs c u d nm).1) ∧ Below w.heap.size w w' := by
  have hfn := hr.len
  obtain ⟨W, hW⟩ : ∃ W, W = (w.alloc (.cells #[.slice a n cap, .int .i64 c, .int .i64 u, .bool d] 39)).alloc (.cells #[.slice none 0 0, .int .i64 0, .int .i64 0, .bool false] 39) := ⟨_, rfl⟩
  have hA := alloc2 w (.cells #[.slice a n cap, .int .i64 c, .int .i64 u, .bool d] 39) (.cells #[.slice none 0 0, .int .i64 0, .int .i64 0, .bool false] 39)
  rw [← hW] at hA
  have HS := hide hA.1
  have HB0 := hide hA.2.1
  have HC0 := hide hA.2.2.1
  have HC1 := hide hA.2.2.2
  clear hA
  have HR := hide (hr.later HB0.out (Nat.le_refl _))
  clear hr
  go_enter Tryz.func83, Tryz.ntmps83
  go_wp2_with fail
  rw [← hW]
  clear hW
  refine (specBegin_any W a n cap fs HR.out hc0 hn hz c u d hu hu2).mono ?_
  rintro e w2 ⟨⟨a', cap', rfl, ho2⟩, hb2⟩
  obtain ⟨U, hU⟩ : ∃ U, begU fs c u d = U := ⟨_, rfl⟩
  obtain ⟨D, hD⟩ : ∃ D, begD fs c u d = D := ⟨_, rfl⟩
  obtain ⟨C, hC⟩ : ∃ C, begC fs c u d = C := ⟨_, rfl⟩
  rw [hU, hD, hC]
  have HU := hide hU
  have HD := hide hD
  have HC := hide hC
  clear hU hD hC
  obtain ⟨X, hX⟩ : ∃ X, X = w2.alloc (.cells #[.slice a' n cap', .int .i64 c, .int .i64 U, .bool D] 39) := ⟨_, rfl⟩
  have hsz2 : w.heap.size + 2 ≤ w2.heap.size := by have := HS.out; have := hb2.size; omega
  have HBX : Hid (Below w2.heap.size w2 X) := hide (by rw [hX]; exact (Below.refl _ _).alloc (Nat.le_refl _) _)
  have HXS : Hid (X.heap.size = w2.heap.size + 1) := hide (by rw [hX]; simp)
  have HCX : Hid (X.heap[w2.heap.size]? = some (.cells #[.slice a' n cap', .int .i64 c, .int .i64 U, .bool D] 39 (0, 0))) := hide (by rw [hX]; exact heap_alloc_new w2 _)
  have HD0 : Hid (X.heap[w.heap.size]? = some (.cells #[.slice a n cap, .int .i64 c, .int .i64 u, .bool d] 39 (0, 0))) := hide (((HBX.out.block _ (by omega)).trans (hb2.block _ (by have := HS.out; omega))).trans HC0.out)
  have HD1 : Hid (X.heap[w.heap.size + 1]? = some (.cells #[.slice none 0 0, .int .i64 0, .int .i64 0, .bool false] 39 (0, 0))) := hide (((HBX.out.block _ (by omega)).trans (hb2.block _ (by have := HS.out; omega))).trans HC1.out)
  have HBK : Hid (∀ g, (Value.slice a' n cap').ownBlock = some g → w.heap.size + 2 ≤ g ∧ g < w2.heap.size) := hide (fun g hg => by have h := ho2.blk g hg; have := HS.out; omega)
  have HOX : Hid (FOwn X (w.heap.size + 2) (.slice a' n cap') fs) := hide ((ho2.later HBX.out (Nat.le_refl _)).mono (by have := HS.out; omega))
  have HBW := hide (hb2.trans (HBX.out.mono hb2.size))
  have HRX := hide (HR.out.later HBW.out (Nat.le_refl _))
  have HB3 := hide (HB0.out.trans (HBW.out.mono HB0.out.size))
  clear hb2 ho2 HC0 HC1 HR HB0 HBX HBW HS
  by_cases q0 : C = 0
  · subst q0
    have hx0 := cells4 HD0.out
    have hx1 := cells4 HD1.out
    have hxx := cells4 HCX.out
    go_wp2_with fail
    rw [← hX]
    clear hX
    refine (specName_any nm X (by omega)).mono ?_
    rintro e w3 ⟨rfl, rfl⟩
    obtain ⟨x, hx⟩ : ∃ x, w2.heap.size = x := ⟨_, rfl⟩
    rw [hx] at HCX HXS hsz2 HBK hxx
    rw [hx]
    have HVL : Hid (fs.length = n) := hide hfn
    by_cases qn : nameOk nm = true
    · rw [qn]
      obtain ⟨y0, y1, y2, y3, -, -, -, -⟩ := hx0
      go_wp2_with fail
      clear y0 y1 y2 y3 hx1 hxx
      refine (specFind_any X a n cap fs HRX.out (by omega) c u d nm).mono ?_
      rintro e w4 ⟨rfl, hb4⟩
      obtain ⟨a0, a1, a2, a3, -, -, -, -⟩ := cells4 ((hb4.block _ (by have := HXS.out; omega)).trans HD0.out)
      obtain ⟨b0, b1, b2, b3, k0, k1, k2, k3⟩ := cells4 ((hb4.block _ (by have := HXS.out; omega)).trans HD1.out)
      obtain ⟨c0, c1, c2, c3, l0, l1, l2, l3⟩ := cells4 ((hb4.block _ (by have := HXS.out; omega)).trans HCX.out)
      have HW1 := hide ((hb4.block _ (by have := HXS.out; omega)).trans HD1.out)
      have HWX := hide ((hb4.block _ (by have := HXS.out; omega)).trans HCX.out)
      have hx4 : x + 1 ≤ w4.heap.size := by have := HXS.out; have := hb4.size; omega
      have HO4 := hide (HOX.out.later hb4 (Nat.le_refl _))
      have HB4 := hide (HB3.out.trans (hb4.mono HB3.out.size))
      clear hb4 HD0 HD1 HCX HXS HOX HB3 HRX hx
      by_cases q1 : findF fs nm < 0
      · have t1 : decide (0 ≤ findF fs nm) = false := by simp; omega
        by_cases q2 : 130 ≤ n
        · have t2 : decide ((130 : Int) ≤ (n : Int)) = true := by simp; omega
          have HV : Hid (creF fs c u d nm = (fs, 2)) := hide (by unfold creF; rw [if_pos HC.out, if_pos qn, if_pos q1, if_pos (by omega)])
          clear q1
          go_wp2
          refine bodyPost_ret (v := .tuple #[.agg #[.slice a' n cap', .int .i64 c, .int .i64 U, .bool D], .int .i64 2]) (by simp [results, Tryz.results83, go_sem, *]) rfl ⟨⟨a', cap', by rw [HV.out, HU.out, HD.out, HVL.out], ?_⟩, ?_⟩
          · rw [HV.out]
            dsimp only
            rw [HVL.out]
            refine FOwn.mono ?_ (Nat.le_add_right _ 2)
            iterate 4 (refine FOwn.setNe ?_ _ _ (by intro q; have := HBK.out _ q; dsimp only at this; omega))
            exact HO4.out
          · iterate 4 (refine Below.setCell ?_ (by dsimp only; omega) _)
            exact HB4.out
        · have t2 : decide ((130 : Int) ≤ (n : Int)) = false := by simp; omega
          have HV : Hid (creF fs c u d nm = (insF fs ⟨nm, ⟨#[]⟩, 0⟩, 0)) := hide (by unfold creF; rw [if_pos HC.out, if_pos qn, if_pos q1, if_neg (by omega)])
          have HVL2 : Hid ((insF fs ⟨nm, ⟨#[]⟩, 0⟩).length = n + 1) := hide (by rw [insF_length, hfn])
          clear q1
          go_wp2_with fail
          refine (specInsert_any w4 a' n cap' fs (HO4.out.row.base0) hn ⟨nm, ⟨#[]⟩, 0⟩).mono ?_
          rintro e w5 ⟨⟨a5, cap5, rfl, ho5⟩, hb5⟩
          clear a0 a1 a2 a3 b0 b1 b2 b3 k0 k1 k2 k3 c0 c1 c2 c3 l0 l1 l2 l3
          obtain ⟨b0, b1, b2, b3, k0, k1, k2, k3⟩ := cells4 ((hb5.block _ (by omega)).trans HW1.out)
          obtain ⟨c0, c1, c2, c3, l0, -, -, -⟩ := cells4 ((hb5.block _ (by omega)).trans HWX.out)
          have HBK5 : Hid (∀ g, (Value.slice a5 (n + 1) cap5).ownBlock = some g → w4.heap.size ≤ g) := hide (fun g hg => (ho5.blk g hg).1)
          have HO5 : Hid (FOwn w5 (w.heap.size + 2) (.slice a5 (n + 1) cap5) (insF fs ⟨nm, ⟨#[]⟩, 0⟩)) := hide (ho5.mono (by omega))
          have HB5 := hide (HB4.out.trans (hb5.mono HB4.out.size))
          clear ho5 hb5 HO4 HB4 HW1 HWX
          have HVL := HVL2
          clear HVL2
          go_wp2
          refine bodyPost_ret (v := .tuple #[.agg #[.slice a5 (n + 1) cap5, .int .i64 c, .int .i64 U, .bool D], .int .i64 0]) (by simp [results, Tryz.results83, go_sem, *]) rfl ⟨⟨a5, cap5, by rw [HV.out, HU.out, HD.out, HVL.out], ?_⟩, ?_⟩
          · rw [HV.out]
            dsimp only
            rw [HVL.out]
            refine FOwn.mono ?_ (Nat.le_add_right _ 2)
            iterate 5 (refine FOwn.setNe ?_ _ _ (by intro q; have := HBK5.out _ q; dsimp only at this; omega))
            exact HO5.out
          · iterate 5 (refine Below.setCell ?_ (by dsimp only; omega) _)
            exact HB5.out
      · have t1 : decide (0 ≤ findF fs nm) = true := by simp; omega
        have HV : Hid (creF fs c u d nm = (fs, 4)) := hide (by unfold creF; rw [if_pos HC.out, if_pos qn, if_neg q1])
        clear q1
        go_wp2
        refine bodyPost_ret (v := .tuple #[.agg #[.slice a' n cap', .int .i64 c, .int .i64 U, .bool D], .int .i64 4]) (by simp [results, Tryz.results83, go_sem, *]) rfl ⟨⟨a', cap', by rw [HV.out, HU.out, HD.out, HVL.out], ?_⟩, ?_⟩
        · rw [HV.out]
          dsimp only
          rw [HVL.out]
          refine FOwn.mono ?_ (Nat.le_add_right _ 2)
          iterate 4 (refine FOwn.setNe ?_ _ _ (by intro q; have := HBK.out _ q; dsimp only at this; omega))
          exact HO4.out
        · iterate 4 (refine Below.setCell ?_ (by dsimp only; omega) _)
          exact HB4.out
    · have qn' : nameOk nm = false := by simpa using qn
      have HV : Hid (creF fs c u d nm = (fs, 5)) := hide (by unfold creF; rw [if_pos HC.out, if_neg qn])
      rw [qn']
      obtain ⟨b0, b1, b2, b3, k0, k1, k2, k3⟩ := hx1
      obtain ⟨c0, c1, c2, c3, l0, l1, l2, l3⟩ := hxx
      clear hx0
      go_wp2
      refine bodyPost_ret (v := .tuple #[.agg #[.slice a' n cap', .int .i64 c, .int .i64 U, .bool D], .int .i64 5]) (by simp [results, Tryz.results83, go_sem, *]) rfl ⟨⟨a', cap', by rw [HV.out, HU.out, HD.out, HVL.out], ?_⟩, ?_⟩
      · rw [HV.out]
        dsimp only
        rw [HVL.out]
        refine FOwn.mono ?_ (Nat.le_add_right _ 2)
        iterate 4 (refine FOwn.setNe ?_ _ _ (by intro q; have := HBK.out _ q; dsimp only at this; omega))
        exact HOX.out
      · iterate 4 (refine Below.setCell ?_ (by dsimp only; omega) _)
        exact HB3.out
  · have HV : Hid (creF fs c u d nm = (fs, C)) := hide (by unfold creF; rw [if_neg (by rw [HC.out]; exact q0), HC.out])
    have t0 : (C == 0) = false := by simpa using q0
    have t0' : (C != 0) = true := by simpa using q0
    have hx1 := cells4 HD1.out
    rw [hX] at hx1
    obtain ⟨b0, b1, b2, b3, k0, k1, k2, k3⟩ := hx1
    have HOX' : Hid (FOwn (w2.alloc (.cells #[.slice a' n cap', .int .i64 c, .int .i64 U, .bool D] 39)) (w.heap.size + 2) (.slice a' n cap') fs) := hide (by rw [← hX]; exact HOX.out)
    have HB3' : Hid (Below w.heap.size w (w2.alloc (.cells #[.slice a' n cap', .int .i64 c, .int .i64 U, .bool D] 39))) := hide (by rw [← hX]; exact HB3.out)
    have HVL : Hid (fs.length = n) := hide hfn
    clear q0 hX
    go_wp2
    refine bodyPost_ret (v := .tuple #[.agg #[.slice a' n cap', .int .i64 c, .int .i64 U, .bool D], .int .i64 C]) (by simp [results, Tryz.results83, go_sem, *]) rfl ⟨⟨a', cap', by rw [HV.out, HU.out, HD.out, HVL.out], ?_⟩, ?_⟩
    · rw [HV.out]
      dsimp only
      rw [HVL.out]
      refine FOwn.mono ?_ (Nat.le_add_right _ 2)
      iterate 4 (refine FOwn.setNe ?_ _ _ (by intro q; have := HBK.out _ q; dsimp only at this; omega))
      exact HOX'.out
    · iterate 4 (refine Below.setCell ?_ (by dsimp only; omega) _)
      exact HB3'.out

end Go.Proofs.YthnealhaleccpaaGreatDoor
namespace Go.Proofs.YthnealhaleccpaaGreatDoor
open Go.RowKit
open Plain

theorem step_app_files {ops : Array Oper} {o : Oper} {act : Act} {K : Act → World → Prop} {Q : Exit → Act → World → Prop} {E : Prop} (hgd : o.guard = none) (s x : Operand)
    (ho : o.op = .call { callee := .builtin .append, args := #[s, x], argTypes := #[37, 37] }) {w : World} {base : Nat} {v : Value} {fs gs : List FileV} (hown : FOwn w base v fs) (hb : base ≤ w.heap.size)
    {ad : Addr} {m c : Nat} (hr : FRow w 0 (some ad) m gs) (hn : fs.length + m ≤ 1099511627776)
    (hs : act.eval s = v) (hx : act.eval x = .slice (some ad) m c)
    (h : ∀ a' n' cap' w', n' = fs.length + m → FOwn w' base (.slice a' n' cap') (fs ++ gs) → w.grownBy w' v.ownBlock → K (act.put o.dst (.slice a' n' cap')) w') :
    if Region.wanted o (yielded ops act.tmps) = true then Oper.wp Tryz.prog o act w K Q else E := by
  rw [if_pos (by simp [Region.wanted, hgd])]
  obtain ⟨i0, hi, hz0, hz1, hz2⟩ := info_parts Tryz.infoF
  have hm := hr.len
  refine wp_append_own (P := Tryz.prog) w s x 37 ho base 73 i0 _ 3 40 Tryz.underlying37 hi hz0 hz1 hz2 rfl (by decide) v fs.length (fcells fs) hs hown
    ad m c (fcells gs) hx (by rw [fcells_length, hm]) hr.src (fcells_one gs) (by unfold maxLen; omega) (by omega) hb ?_
  intro v' w' ho' hg _
  have hval : ∃ a' cap', v' = .slice a' (fs.length + m) cap' := by
    rcases ho'.2 with ⟨e, h0⟩ | ⟨g, cap, cur, e, _⟩
    · exact ⟨none, 0, by rw [e, h0]⟩
    · exact ⟨_, _, e⟩
  obtain ⟨a', cap', rfl⟩ := hval
  refine h a' _ cap' w' rfl ?_ hg
  unfold FOwn
  rw [List.length_append, hm, fcells_append]
  exact ho'
theorem FRow.take {w : World} {base : Nat} {ad : Addr} {n : Nat} {fs : List FileV} (h : FRow w base (some ad) n fs) (k : Nat) (hk : k ≤ n) : FRow w base (some ad) k (fs.take k) where
  len := by rw [List.length_take, h.len]; omega
  cells := fun i hi => by
    rw [List.length_take] at hi
    obtain ⟨b, off, h1, h2, h3, c0, c1, c2⟩ := h.cells i (by omega)
    refine ⟨b, off, h1, h2, h3, ?_, ?_, ?_⟩ <;> simp [c0, c1, c2]
theorem FRow.drop {w : World} {base b off : Nat} {n : Nat} {fs : List FileV} (h : FRow w base (some ⟨b, off, none⟩) n fs) (k m : Nat) (hk : k + m = n) : FRow w base (some ⟨b, off + k * 3, none⟩) m (fs.drop k) where
  len := by rw [List.length_drop, h.len]; omega
  cells := fun i hi => by
    rw [List.length_drop] at hi
    obtain ⟨b', off', h1, h2, h3, c0, c1, c2⟩ := h.cells (k + i) (by omega)
    simp only [Option.some.injEq, Addr.mk.injEq] at h1
    obtain ⟨rfl, rfl, -⟩ := h1
    have e : off + (k + i) * 3 = off + k * 3 + i * 3 := by omega
    rw [e] at c0 c1 c2
    refine ⟨b, off + k * 3, rfl, h2, h3, ?_, ?_, ?_⟩ <;> simp [c0, c1, c2]

set_option maxRecDepth 100000 in
set_option maxHeartbeats 2000000 in
theorem specWithout_any (w : World) (g n cap : Nat) (fs : List FileV) (hr : FRow w 0 (some ⟨g, 0, none⟩) n fs) (hn : n ≤ 1048576) (hc : n ≤ cap) (k : Nat) (hk : k < n) :
    Calls Tryz.prog 99 #[.slice (some ⟨g, 0, none⟩) n cap, .int .i64 k] w fun e w' => (∃ a' cap', e = .returned (.slice a' (n - 1) cap') ∧ FOwn w' w.heap.size (.slice a' (n - 1) cap') (fs.eraseIdx k)) ∧ Below w.heap.size w w' := by
  have hfn := hr.len
  have HBA : Hid (Below w.heap.size w (w.alloc (.cells #[] 73)).drew) := hide (((Below.refl _ w).alloc (Nat.le_refl _) _).drew)
  have HO : Hid (FOwn (w.alloc (.cells #[] 73)).drew w.heap.size (.slice (some ⟨w.heap.size, 0, none⟩) 0 0) []) := hide (by
    refine ⟨rfl, .inr ⟨w.heap.size, 0, #[], rfl, Nat.le_refl _, heap_alloc_new w _, Nat.le_refl _, by unfold maxLen; omega, rfl, rfl⟩⟩)
  have HRT := hide ((hr.take k (by omega)).later HBA.out (Nat.le_refl _))
  have HB1 : Hid (∀ w2, (w.alloc (.cells #[] 73)).drew.grownBy w2 (Value.slice (some ⟨w.heap.size, 0, none⟩) 0 0).ownBlock → Below w.heap.size w w2) := hide (fun w2 hg => HBA.out.grown hg HBA.out.size (fun j hj => by simp [Value.ownBlock] at hj; omega))
  have hk0 : k ≤ cap := by omega
  have hk6 : (k : Int) ≤ (k : Int) + 1 := by omega
  have hk1 : (k : Int) ≤ (n : Int) := by omega
  have hk2 : (0 : Int) ≤ (k : Int) := by omega
  have hk3 : (k : Int) + 1 ≤ (n : Int) := by omega
  have hk4 : (0 : Int) ≤ (k : Int) + 1 := by omega
  have hw4 : IntKind.i64.wrap ((k : Int) + 1) = (k : Int) + 1 := by rw [IntKind.wrap_i64]; omega
  by_cases hcap : cap = k + 1
  · have HRD : Hid (∀ w2, Below w.heap.size w w2 → FRow w2 0 (some ⟨g, 0, none⟩) (n - (k + 1)) (fs.drop (k + 1))) := hide (fun w2 _ =>
      ⟨by rw [List.length_drop]; omega, fun i hi => by rw [List.length_drop] at hi; omega⟩)
    clear hr
    go_enter Tryz.func99, Tryz.ntmps99
    go_wp2
    go_region_law (first
      | (refine step_app_files rfl (.tmp 5) (.tmp 8) rfl HO.out (by simp) HRT.out (by simp; omega) rfl rfl ?_; intro a2 n2 cap2 w2 hn2 hown2 hg2; rw [List.length_nil, Nat.zero_add] at hn2; subst hn2)
      | (refine step_app_files rfl (.tmp 9) (.tmp 13) rfl hown2 (HB1.out w2 hg2).size (HRD.out w2 (HB1.out w2 hg2)) (by simp [List.length_take]; omega) rfl rfl ?_; intro a3 n3 cap3 w3 hn3 hown3 hg3; have HN := hide hn3; clear hn3))
    all_goals
      have HB3 : Hid (Below w.heap.size w w3) := hide ((HB1.out w2 hg2).grown hg3 (HB1.out w2 hg2).size (fun j hj => (hown2.blk j hj).1))
      have HO3 : Hid (FOwn w3 w.heap.size (.slice a3 (n - 1) cap3) (fs.eraseIdx n2)) := hide (by
        have e : n3 = n - 1 := by rw [HN.out]; simp [List.length_take]; omega
        rw [← e, List.eraseIdx_eq_take_drop_succ]
        exact hown3)
      have HN3 : Hid (n3 = n - 1) := hide (by rw [HN.out]; simp [List.length_take]; omega)
      clear hown2 hg2 hown3 hg3 HN
      go_wp2
      go_ret
      exact ⟨⟨a3, cap3, by rw [← HN3.out]; rfl, HO3.out⟩, HB3.out⟩
  · have HRD : Hid (∀ w2, Below w.heap.size w w2 → FRow w2 0 (some ⟨g, (k + 1) * 3, none⟩) (n - (k + 1)) (fs.drop (k + 1))) := hide (fun w2 h => by
      have h2 := (hr.drop (k + 1) (n - (k + 1)) (by omega)).later h (Nat.le_refl _)
      rw [Nat.zero_add] at h2
      exact h2)
    clear hr
    go_enter Tryz.func99, Tryz.ntmps99
    go_wp2
    go_region_law (first
      | (refine step_app_files rfl (.tmp 5) (.tmp 8) rfl HO.out (by simp) HRT.out (by simp; omega) rfl rfl ?_; intro a2 n2 cap2 w2 hn2 hown2 hg2; rw [List.length_nil, Nat.zero_add] at hn2; subst hn2)
      | (refine step_app_files rfl (.tmp 9) (.tmp 13) rfl hown2 (HB1.out w2 hg2).size (HRD.out w2 (HB1.out w2 hg2)) (by simp [List.length_take]; omega) rfl rfl ?_; intro a3 n3 cap3 w3 hn3 hown3 hg3; have HN := hide hn3; clear hn3))
    all_goals
      have HB3 : Hid (Below w.heap.size w w3) := hide ((HB1.out w2 hg2).grown hg3 (HB1.out w2 hg2).size (fun j hj => (hown2.blk j hj).1))
      have HO3 : Hid (FOwn w3 w.heap.size (.slice a3 (n - 1) cap3) (fs.eraseIdx n2)) := hide (by
        have e : n3 = n - 1 := by rw [HN.out]; simp [List.length_take]; omega
        rw [← e, List.eraseIdx_eq_take_drop_succ]
        exact hown3)
      have HN3 : Hid (n3 = n - 1) := hide (by rw [HN.out]; simp [List.length_take]; omega)
      clear hown2 hg2 hown3 hg3 HN
      go_wp2
      go_ret
      exact ⟨⟨a3, cap3, by rw [← HN3.out]; rfl, HO3.out⟩, HB3.out⟩

/-- What Remove answers: the files, and the code. -/
def remF (fs : List FileV) (c u : Int) (d : Bool) (nm : ByteArray) : List FileV × Int :=
  if begC fs c u d = 0 then (if findF fs nm < 0 then (fs, 3) else (fs.eraseIdx (findF fs nm).toNat, 0)) else (fs, begC fs c u d)
theorem FOwn.cap {w : World} {base g n cap : Nat} {fs : List FileV} (h : FOwn w base (.slice (some ⟨g, 0, none⟩) n cap) fs) : n ≤ cap := by
  have hn := h.len
  rcases h.2 with ⟨e, h0⟩ | ⟨g', c, cur, e, _, _, h1, _⟩
  · simp at e
  · simp only [Value.slice.injEq] at e
    omega

end Go.Proofs.YthnealhaleccpaaGreatDoor
namespace Go.Proofs.YthnealhaleccpaaGreatDoor
open Go.RowKit
open Plain

/-- Without the file of that name, if any. -/
def dropF (fs : List FileV) (nm : ByteArray) : List FileV := if findF fs nm < 0 then fs else fs.eraseIdx (findF fs nm).toNat
def ren2 (fs : List FileV) (k : Nat) (f : FileV) : List FileV := insF (dropF (fs.eraseIdx k) f.name) f
/-- What Rename answers: the files, and the code. -/
def renF (fs : List FileV) (c u : Int) (d : Bool) (nm to : ByteArray) : List FileV × Int :=
  if begC fs c u d = 0 then
    (if nameOk to = true then (if findF fs nm < 0 then (fs, 3) else if nm = to then (fs, 0) else
      (ren2 fs (findF fs nm).toNat ⟨to, (fs.getD (findF fs nm).toNat zeroF).text, (fs.getD (findF fs nm).toNat zeroF).safe⟩, 0)) else (fs, 5))
  else (fs, begC fs c u d)

set_option maxRecDepth 100000 in
set_option maxHeartbeats 2000000 in
theorem specRename_any (w : World) (a : Option Addr) (n cap : Nat) (fs : List FileV) (hr : FRow w 0 a n fs) (hc0 : a = none → cap = 0) (hn : n ≤ 1048576) (hz : szFs fs ≤ 1048576) (c u : Int) (d : Bool) (hu : -9223372036854775808 ≤ u) (hu2 : u ≤ 9223372036854775807) (nm to : ByteArray) (hnm : to.size ≤ 1048576) :
    Calls Tryz.prog 87 #[.agg #[.slice a n cap, .int .i64 c, .int .i64 u, .bool d], .string nm, .string to] w fun e w' => (∃ a' cap', e = .returned (.tuple #[.agg #[.slice a' (renF fs c u d nm to).1.length cap', .int .i64 c, .int .i64 (begU fs c u d), .bool (begD fs c u d)], .int .i64 (renF fs c u d nm to).2]) ∧ FOwn w' w.heap.size (.slice a' (renF fs c u d nm to).1.length cap') (renF fs c u d nm to).1) ∧ Below w.heap.size w w' := by
  have hfn := hr.len
  obtain ⟨W, hW⟩ : ∃ W, W = (w.alloc (.cells #[.slice a n cap, .int .i64 c, .int .i64 u, .bool d] 39)).alloc (.cells #[.slice none 0 0, .int .i64 0, .int .i64 0, .bool false] 39) := ⟨_, rfl⟩
  have hA := alloc2 w (.cells #[.slice a n cap, .int .i64 c, .int .i64 u, .bool d] 39) (.cells #[.slice none 0 0, .int .i64 0, .int .i64 0, .bool false] 39)
  rw [← hW] at hA
  have HS := hide hA.1
  have HB0 := hide hA.2.1
  have HC0 := hide hA.2.2.1
  have HC1 := hide hA.2.2.2
  clear hA
  have HR := hide (hr.later HB0.out (Nat.le_refl _))
  clear hr
  go_enter Tryz.func87, Tryz.ntmps87
  go_wp2_with fail
  rw [← hW]
  clear hW
  refine (specBegin_any W a n cap fs HR.out hc0 hn hz c u d hu hu2).mono ?_
  rintro e w2 ⟨⟨a', cap', rfl, ho2⟩, hb2⟩
  obtain ⟨U, hU⟩ : ∃ U, begU fs c u d = U := ⟨_, rfl⟩
  obtain ⟨D, hD⟩ : ∃ D, begD fs c u d = D := ⟨_, rfl⟩
  obtain ⟨C, hC⟩ : ∃ C, begC fs c u d = C := ⟨_, rfl⟩
  rw [hU, hD, hC]
  have HU := hide hU
  have HD := hide hD
  have HC := hide hC
  clear hU hD hC
  obtain ⟨X, hX⟩ : ∃ X, X = w2.alloc (.cells #[.slice a' n cap', .int .i64 c, .int .i64 U, .bool D] 39) := ⟨_, rfl⟩
  have hsz2 : w.heap.size + 2 ≤ w2.heap.size := by have := HS.out; have := hb2.size; omega
  have HBX : Hid (Below w2.heap.size w2 X) := hide (by rw [hX]; exact (Below.refl _ _).alloc (Nat.le_refl _) _)
  have HXS : Hid (X.heap.size = w2.heap.size + 1) := hide (by rw [hX]; simp)
  have HCX : Hid (X.heap[w2.heap.size]? = some (.cells #[.slice a' n cap', .int .i64 c, .int .i64 U, .bool D] 39 (0, 0))) := hide (by rw [hX]; exact heap_alloc_new w2 _)
  have HD0 : Hid (X.heap[w.heap.size]? = some (.cells #[.slice a n cap, .int .i64 c, .int .i64 u, .bool d] 39 (0, 0))) := hide (((HBX.out.block _ (by omega)).trans (hb2.block _ (by have := HS.out; omega))).trans HC0.out)
  have HD1 : Hid (X.heap[w.heap.size + 1]? = some (.cells #[.slice none 0 0, .int .i64 0, .int .i64 0, .bool false] 39 (0, 0))) := hide (((HBX.out.block _ (by omega)).trans (hb2.block _ (by have := HS.out; omega))).trans HC1.out)
  have HBK : Hid (∀ g, (Value.slice a' n cap').ownBlock = some g → w.heap.size + 2 ≤ g ∧ g < w2.heap.size) := hide (fun g hg => by have h := ho2.blk g hg; have := HS.out; omega)
  have HOX : Hid (FOwn X (w.heap.size + 2) (.slice a' n cap') fs) := hide ((ho2.later HBX.out (Nat.le_refl _)).mono (by have := HS.out; omega))
  have HBW := hide (hb2.trans (HBX.out.mono hb2.size))
  have HRX := hide (HR.out.later HBW.out (Nat.le_refl _))
  have HB3 := hide (HB0.out.trans (HBW.out.mono HB0.out.size))
  clear hb2 ho2 HC0 HC1 HR HB0 HBX HBW HS
  by_cases q0 : C = 0
  · subst q0
    have hx0 := cells4 HD0.out
    have hx1 := cells4 HD1.out
    have hxx := cells4 HCX.out
    go_wp2_with fail
    rw [← hX]
    clear hX
    refine (specName_any to X (by omega)).mono ?_
    rintro e w3 ⟨rfl, rfl⟩
    obtain ⟨x, hx⟩ : ∃ x, w2.heap.size = x := ⟨_, rfl⟩
    rw [hx] at HCX HXS hsz2 HBK hxx
    rw [hx]
    have HVL : Hid (fs.length = n) := hide hfn
    by_cases qn : nameOk to = true
    · rw [qn]
      obtain ⟨y0, y1, y2, y3, -, -, -, -⟩ := hx0
      go_wp2_with fail
      clear y0 y1 y2 y3 hx1 hxx
      refine (specFind_any X a n cap fs HRX.out (by omega) c u d nm).mono ?_
      rintro e w4 ⟨rfl, hb4⟩
      obtain ⟨a0, a1, a2, a3, -, -, -, -⟩ := cells4 ((hb4.block _ (by have := HXS.out; omega)).trans HD0.out)
      obtain ⟨b0, b1, b2, b3, k0, k1, k2, k3⟩ := cells4 ((hb4.block _ (by have := HXS.out; omega)).trans HD1.out)
      obtain ⟨c0, c1, c2, c3, l0, l1, l2, l3⟩ := cells4 ((hb4.block _ (by have := HXS.out; omega)).trans HCX.out)
      have HW1 := hide ((hb4.block _ (by have := HXS.out; omega)).trans HD1.out)
      have HWX := hide ((hb4.block _ (by have := HXS.out; omega)).trans HCX.out)
      have hx4 : x + 1 ≤ w4.heap.size := by have := HXS.out; have := hb4.size; omega
      have HO4 := hide (HOX.out.later hb4 (Nat.le_refl _))
      have HR4 := hide (HRX.out.later hb4 (Nat.le_refl _))
      have HB4 := hide (HB3.out.trans (hb4.mono HB3.out.size))
      clear hb4 HD0 HD1 HCX HXS HOX HB3 HRX hx
      by_cases q1 : findF fs nm < 0
      · have t1 : decide (findF fs nm < 0) = true := by simpa using q1
        have HV : Hid (renF fs c u d nm to = (fs, 3)) := hide (by unfold renF; rw [if_pos HC.out, if_pos qn, if_pos q1])
        clear q1
        go_wp2
        refine bodyPost_ret (v := .tuple #[.agg #[.slice a' n cap', .int .i64 c, .int .i64 U, .bool D], .int .i64 3]) (by simp [results, Tryz.results87, go_sem, *]) rfl ⟨⟨a', cap', by rw [HV.out, HU.out, HD.out, HVL.out], ?_⟩, ?_⟩
        · rw [HV.out]
          dsimp only
          rw [HVL.out]
          refine FOwn.mono ?_ (Nat.le_add_right _ 2)
          iterate 4 (refine FOwn.setNe ?_ _ _ (by intro q; have := HBK.out _ q; dsimp only at this; omega))
          exact HO4.out
        · iterate 4 (refine Below.setCell ?_ (by dsimp only; omega) _)
          exact HB4.out
      · obtain ⟨k, hk, hkl⟩ := findF_lt fs nm q1
        by_cases q2 : nm = to
        · have t2 := str_eq _ _ q2
          have HV : Hid (renF fs c u d nm to = (fs, 0)) := hide (by unfold renF; rw [if_pos HC.out, if_pos qn, if_neg q1, if_pos q2])
          have hkz : decide ((k : Int) < 0) = false := by simp
          rw [hk]
          clear q1 q2 hk
          go_wp2
          refine bodyPost_ret (v := .tuple #[.agg #[.slice a' n cap', .int .i64 c, .int .i64 U, .bool D], .int .i64 0]) (by simp [results, Tryz.results87, go_sem, *]) rfl ⟨⟨a', cap', by rw [HV.out, HU.out, HD.out, HVL.out], ?_⟩, ?_⟩
          · rw [HV.out]
            dsimp only
            rw [HVL.out]
            refine FOwn.mono ?_ (Nat.le_add_right _ 2)
            iterate 4 (refine FOwn.setNe ?_ _ _ (by intro q; have := HBK.out _ q; dsimp only at this; omega))
            exact HO4.out
          · iterate 4 (refine Below.setCell ?_ (by dsimp only; omega) _)
            exact HB4.out
        · have t2 := str_ne _ _ q2
          have hkz : decide ((k : Int) < 0) = false := by simp
          have hgd : fs.getD k zeroF = fs[k] := by simp [List.getD, hkl]
          have HV : Hid (renF fs c u d nm to = (ren2 fs k ⟨to, (fs[k]).text, (fs[k]).safe⟩, 0)) := hide (by unfold renF; rw [if_pos HC.out, if_pos qn, if_neg q1, if_neg q2, hk, Int.toNat_natCast, hgd])
          rw [hk]
          clear q1 q2 hk hgd
          obtain ⟨b, off, hab, -, hbw, e1, e2, e3⟩ := HR4.out.cells k hkl
          subst hab
          have hkn : (k : Int) < (n : Int) := by omega
          obtain ⟨g, hg⟩ : ∃ g, a' = some ⟨g, 0, none⟩ := by
            rcases HO4.out.2 with ⟨e, h0⟩ | ⟨g, c, cur, e, _⟩
            · simp only [Value.slice.injEq] at e; omega
            · simp only [Value.slice.injEq] at e
              exact ⟨g, e.1⟩
          subst hg
          have hcc := HO4.out.cap
          obtain ⟨V, hV⟩ : ∃ V, V = w4.alloc (.cells #[.string to, .string (fs[k]).text, .int .i64 (fs[k]).safe] 73) := ⟨_, rfl⟩
          have hbV : Below w4.heap.size w4 V := by rw [hV]; exact (Below.refl _ _).alloc (Nat.le_refl _) _
          have zV : V.heap.size = w4.heap.size + 1 := by rw [hV]; simp
          have HF : Hid (V.heap[w4.heap.size]? = some (.cells #[.string to, .string (fs[k]).text, .int .i64 (fs[k]).safe] 73 (0, 0))) := hide (by rw [hV]; exact heap_alloc_new w4 _)
          have HV1 := hide ((hbV.block _ (by omega)).trans HW1.out)
          have HVX := hide ((hbV.block _ (by omega)).trans HWX.out)
          have HOV := hide (HO4.out.later hbV (Nat.le_refl _))
          have HBV := hide (HB4.out.trans (hbV.mono HB4.out.size))
          have y := cells4 HVX.out
          rw [hV] at y
          obtain ⟨y0, -⟩ := y
          clear HO4 HB4 HW1 HWX HR4 hbV
          go_wp2_with fail
          clear y0 a0 a1 a2 a3 b0 b1 b2 b3 k0 k1 k2 k3 c0 c1 c2 c3 l0 l1 l2 l3 e1 e2 e3
          rw [← hV]
          clear hV
          obtain ⟨F, hF⟩ : ∃ F, w4.heap.size = F := ⟨_, rfl⟩
          rw [hF] at HF hx4 hbw zV
          rw [hF]
          clear hF
          refine (specWithout_any V g n cap' fs HOV.out.row.base0 hn hcc k (by omega)).mono ?_
          rintro e w5 ⟨⟨a5, cap5, rfl, ho5⟩, hb5⟩
          have HBK5 : Hid (∀ g, (Value.slice a5 (n - 1) cap5).ownBlock = some g → F + 1 ≤ g) := hide (fun g hg => by rw [← zV]; exact (ho5.blk g hg).1)
          have s5 : F + 1 ≤ w5.heap.size := by rw [← zV]; exact hb5.size
          have H5X := hide ((hb5.block x (by omega)).trans HVX.out)
          have H51 := hide ((hb5.block (w.heap.size + 1) (by omega)).trans HV1.out)
          have H5F := hide ((hb5.block F (by omega)).trans HF.out)
          have HB5 := hide (HBV.out.trans (hb5.mono HBV.out.size))
          have HO5 : Hid (FOwn w5 (F + 1) (.slice a5 (n - 1) cap5) (fs.eraseIdx k)) := hide (by rw [zV] at ho5; exact ho5)
          clear ho5 hb5 HOV HBV HV1 HVX HF zV
          obtain ⟨c0, c1, c2, c3, l0, -, -, -⟩ := cells4 H5X.out
          obtain ⟨Y, hY⟩ : ∃ Y, Y = w5.setCell ⟨x, 0, none⟩ (.slice a5 (n - 1) cap5) := ⟨_, rfl⟩
          have HYX : Hid (Y.heap[x]? = some (.cells #[(.slice a5 (n - 1) cap5), .int .i64 c, .int .i64 U, .bool D] 39 (0, 0))) := hide (by rw [hY, heap_setCell_same w5 x 0 _ _ _ H5X.out]; rfl)
          have HY1 : Hid (Y.heap[w.heap.size + 1]? = some (.cells #[.slice none 0 0, .int .i64 0, .int .i64 0, .bool false] 39 (0, 0))) := hide (by rw [hY]; exact (Below.heap_setCell w5 _ _ _ (by dsimp only; omega)).trans H51.out)
          have HYF : Hid (Y.heap[F]? = some (.cells #[.string to, .string (fs[k]).text, .int .i64 (fs[k]).safe] 73 (0, 0))) := hide (by rw [hY]; exact (Below.heap_setCell w5 _ _ _ (by dsimp only; omega)).trans H5F.out)
          have HOY : Hid (FOwn Y (F + 1) (.slice a5 (n - 1) cap5) (fs.eraseIdx k)) := hide (by rw [hY]; exact HO5.out.setNe _ _ (by intro q; have := HBK5.out _ q; dsimp only at this; omega))
          have HBY : Hid (Below w.heap.size w Y) := hide (by rw [hY]; exact HB5.out.setCell (by dsimp only; omega) _)
          have sY : F + 1 ≤ Y.heap.size := by rw [hY]; simpa [World.setCell] using s5
          have y := cells4 HYX.out
          rw [hY] at y
          obtain ⟨y0, y1, y2, y3, -⟩ := y
          go_wp2_with fail
          clear y0 y1 y2 y3 c0 c1 c2 c3 l0
          rw [← hY]
          clear hY H5X H51 H5F HO5 HB5
          have hel : (fs.eraseIdx k).length = n - 1 := by rw [List.length_eraseIdx, if_pos hkl, hfn]
          refine (specFind_any Y a5 (n - 1) cap5 (fs.eraseIdx k) HOY.out.row.base0 (by omega) c U D to).mono ?_
          rintro e w6 ⟨rfl, hb6⟩
          have H6X := hide ((hb6.block x (by omega)).trans HYX.out)
          have H61 := hide ((hb6.block (w.heap.size + 1) (by omega)).trans HY1.out)
          have H6F := hide ((hb6.block F (by omega)).trans HYF.out)
          have HO6 := hide (HOY.out.later hb6 (Nat.le_refl _))
          have HB6 := hide (HBY.out.trans (hb6.mono HBY.out.size))
          have s6 : F + 1 ≤ w6.heap.size := Nat.le_trans sY hb6.size
          clear hb6 HYX HY1 HYF HOY HBY
          obtain ⟨c0, c1, c2, c3, l0, -, -, -⟩ := cells4 H6X.out
          have f0 : w6.cell? ⟨F, 0, none⟩ = some (.string to) := by rw [cell_of_row w6 _ _ _ _ _ H6F.out]; rfl
          have f1 : w6.cell? ⟨F, 1, none⟩ = some (.string (fs[k]).text) := by rw [cell_of_row w6 _ _ _ _ _ H6F.out]; rfl
          have f2 : w6.cell? ⟨F, 2, none⟩ = some (.int .i64 (fs[k]).safe) := by rw [cell_of_row w6 _ _ _ _ _ H6F.out]; rfl
          by_cases q3 : findF (fs.eraseIdx k) to < 0
          · have t3 : decide (0 ≤ findF (fs.eraseIdx k) to) = false := by simp; omega
            have HE : Hid (ren2 fs k ⟨to, (fs[k]).text, (fs[k]).safe⟩ = insF (fs.eraseIdx k) ⟨to, (fs[k]).text, (fs[k]).safe⟩) := hide (by unfold ren2 dropF; rw [if_pos q3])
            have HVL2 : Hid ((ren2 fs k ⟨to, (fs[k]).text, (fs[k]).safe⟩).length = n - 1 + 1) := hide (by rw [HE.out, insF_length, hel])
            clear q3
            go_wp2_with fail
            clear c0 c1 c2 c3 l0 f0 f1 f2
            refine (specInsert_any w6 a5 (n - 1) cap5 (fs.eraseIdx k) HO6.out.row.base0 (by omega) ⟨to, (fs[k]).text, (fs[k]).safe⟩).mono ?_
            rintro e w7 ⟨⟨a7, cap7, rfl, ho7⟩, hb7⟩
            obtain ⟨b0, b1, b2, b3, k0, k1, k2, k3⟩ := cells4 ((hb7.block (w.heap.size + 1) (by omega)).trans H61.out)
            obtain ⟨c0, c1, c2, c3, l0, -, -, -⟩ := cells4 ((hb7.block x (by omega)).trans H6X.out)
            have HBK7 : Hid (∀ g, (Value.slice a7 (n - 1 + 1) cap7).ownBlock = some g → F + 1 ≤ g) := hide (fun g hg => Nat.le_trans s6 (ho7.blk g hg).1)
            have HO7 : Hid (FOwn w7 (w.heap.size + 2) (.slice a7 (n - 1 + 1) cap7) (ren2 fs k ⟨to, (fs[k]).text, (fs[k]).safe⟩)) := hide (by rw [HE.out]; exact ho7.mono (by omega))
            have HB7 := hide (HB6.out.trans (hb7.mono HB6.out.size))
            clear ho7 hb7 HO6 HB6 H6X H61 H6F
            have HVL := HVL2
            clear HVL2
            go_wp2
            refine bodyPost_ret (v := .tuple #[.agg #[.slice a7 (n - 1 + 1) cap7, .int .i64 c, .int .i64 U, .bool D], .int .i64 0]) (by simp [results, Tryz.results87, go_sem, *]) rfl ⟨⟨a7, cap7, by rw [HV.out, HU.out, HD.out, HVL.out], ?_⟩, ?_⟩
            · rw [HV.out]
              dsimp only
              rw [HVL.out]
              refine FOwn.mono ?_ (Nat.le_add_right _ 2)
              iterate 5 (refine FOwn.setNe ?_ _ _ (by intro q; have := HBK7.out _ q; dsimp only at this; omega))
              exact HO7.out
            · iterate 5 (refine Below.setCell ?_ (by dsimp only; omega) _)
              exact HB7.out
          · have t3 : decide (0 ≤ findF (fs.eraseIdx k) to) = true := by simp; omega
            obtain ⟨j, hj, hjl⟩ := findF_lt (fs.eraseIdx k) to q3
            have HE : Hid (ren2 fs k ⟨to, (fs[k]).text, (fs[k]).safe⟩ = insF ((fs.eraseIdx k).eraseIdx j) ⟨to, (fs[k]).text, (fs[k]).safe⟩) := hide (by unfold ren2 dropF; rw [if_neg q3]; dsimp only; rw [hj, Int.toNat_natCast])
            have HVL2 : Hid ((ren2 fs k ⟨to, (fs[k]).text, (fs[k]).safe⟩).length = n - 1 - 1 + 1) := hide (by rw [HE.out, insF_length, List.length_eraseIdx, if_pos hjl, hel])
            rw [hj]
            have t3' : decide ((0 : Int) ≤ (j : Int)) = true := by simp
            clear q3 t3 hj
            obtain ⟨g5, hg5⟩ : ∃ g, a5 = some ⟨g, 0, none⟩ := by
              rcases HO6.out.2 with ⟨e, h0⟩ | ⟨g, c, cur, e, _⟩
              · simp only [Value.slice.injEq] at e; omega
              · simp only [Value.slice.injEq] at e
                exact ⟨g, e.1⟩
            subst hg5
            have hc5 := HO6.out.cap
            go_wp2_with fail
            clear c0 c1 c2 c3 l0 f0 f1 f2
            refine (specWithout_any w6 g5 (n - 1) cap5 (fs.eraseIdx k) HO6.out.row.base0 (by omega) hc5 j (by omega)).mono ?_
            rintro e w7 ⟨⟨a7, cap7, rfl, ho7⟩, hb7⟩
            have HBK7 : Hid (∀ g, (Value.slice a7 (n - 1 - 1) cap7).ownBlock = some g → F + 1 ≤ g) := hide (fun g hg => Nat.le_trans s6 (ho7.blk g hg).1)
            have s7 : F + 1 ≤ w7.heap.size := Nat.le_trans s6 hb7.size
            have H7X := hide ((hb7.block x (by omega)).trans H6X.out)
            have H71 := hide ((hb7.block (w.heap.size + 1) (by omega)).trans H61.out)
            have H7F := hide ((hb7.block F (by omega)).trans H6F.out)
            have HB7 := hide (HB6.out.trans (hb7.mono HB6.out.size))
            have HO7 : Hid (FOwn w7 (F + 1) (.slice a7 (n - 1 - 1) cap7) ((fs.eraseIdx k).eraseIdx j)) := hide (ho7.mono s6)
            clear ho7 hb7 HO6 HB6 H6X H61 H6F
            obtain ⟨c0, c1, c2, c3, l0, -, -, -⟩ := cells4 H7X.out
            obtain ⟨Y7, hY7⟩ : ∃ Y, Y = w7.setCell ⟨x, 0, none⟩ (.slice a7 (n - 1 - 1) cap7) := ⟨_, rfl⟩
            have HYX : Hid (Y7.heap[x]? = some (.cells #[(.slice a7 (n - 1 - 1) cap7), .int .i64 c, .int .i64 U, .bool D] 39 (0, 0))) := hide (by rw [hY7, heap_setCell_same w7 x 0 _ _ _ H7X.out]; rfl)
            have HY1 : Hid (Y7.heap[w.heap.size + 1]? = some (.cells #[.slice none 0 0, .int .i64 0, .int .i64 0, .bool false] 39 (0, 0))) := hide (by rw [hY7]; exact (Below.heap_setCell w7 _ _ _ (by dsimp only; omega)).trans H71.out)
            have HYF : Hid (Y7.heap[F]? = some (.cells #[.string to, .string (fs[k]).text, .int .i64 (fs[k]).safe] 73 (0, 0))) := hide (by rw [hY7]; exact (Below.heap_setCell w7 _ _ _ (by dsimp only; omega)).trans H7F.out)
            have HOY : Hid (FOwn Y7 (F + 1) (.slice a7 (n - 1 - 1) cap7) ((fs.eraseIdx k).eraseIdx j)) := hide (by rw [hY7]; exact HO7.out.setNe _ _ (by intro q; have := HBK7.out _ q; dsimp only at this; omega))
            have HBY : Hid (Below w.heap.size w Y7) := hide (by rw [hY7]; exact HB7.out.setCell (by dsimp only; omega) _)
            have sY : F + 1 ≤ Y7.heap.size := by rw [hY7]; simpa [World.setCell] using s7
            have y := cells4 HYX.out
            have f0 : Y7.cell? ⟨F, 0, none⟩ = some (.string to) := by rw [cell_of_row Y7 _ _ _ _ _ HYF.out]; rfl
            have f1 : Y7.cell? ⟨F, 1, none⟩ = some (.string (fs[k]).text) := by rw [cell_of_row Y7 _ _ _ _ _ HYF.out]; rfl
            have f2 : Y7.cell? ⟨F, 2, none⟩ = some (.int .i64 (fs[k]).safe) := by rw [cell_of_row Y7 _ _ _ _ _ HYF.out]; rfl
            rw [hY7] at y f0 f1 f2
            obtain ⟨y0, y1, y2, y3, -⟩ := y
            go_wp2_with fail
            clear y0 y1 y2 y3 c0 c1 c2 c3 l0 f0 f1 f2
            rw [← hY7]
            clear hY7 H7X H71 H7F HO7 HB7
            refine (specInsert_any Y7 a7 (n - 1 - 1) cap7 ((fs.eraseIdx k).eraseIdx j) HOY.out.row.base0 (by omega) ⟨to, (fs[k]).text, (fs[k]).safe⟩).mono ?_
            rintro e w8 ⟨⟨a8, cap8, rfl, ho8⟩, hb8⟩
            obtain ⟨b0, b1, b2, b3, k0, k1, k2, k3⟩ := cells4 ((hb8.block (w.heap.size + 1) (by omega)).trans HY1.out)
            obtain ⟨c0, c1, c2, c3, l0, -, -, -⟩ := cells4 ((hb8.block x (by omega)).trans HYX.out)
            have HBK8 : Hid (∀ g, (Value.slice a8 (n - 1 - 1 + 1) cap8).ownBlock = some g → F + 1 ≤ g) := hide (fun g hg => Nat.le_trans sY (ho8.blk g hg).1)
            have HO8 : Hid (FOwn w8 (w.heap.size + 2) (.slice a8 (n - 1 - 1 + 1) cap8) (ren2 fs k ⟨to, (fs[k]).text, (fs[k]).safe⟩)) := hide (by rw [HE.out]; exact ho8.mono (by omega))
            have HB8 := hide (HBY.out.trans (hb8.mono HBY.out.size))
            clear ho8 hb8 HOY HBY HYX HY1 HYF
            have HVL := HVL2
            clear HVL2
            go_wp2
            refine bodyPost_ret (v := .tuple #[.agg #[.slice a8 (n - 1 - 1 + 1) cap8, .int .i64 c, .int .i64 U, .bool D], .int .i64 0]) (by simp [results, Tryz.results87, go_sem, *]) rfl ⟨⟨a8, cap8, by rw [HV.out, HU.out, HD.out, HVL.out], ?_⟩, ?_⟩
            · rw [HV.out]
              dsimp only
              rw [HVL.out]
              refine FOwn.mono ?_ (Nat.le_add_right _ 2)
              iterate 5 (refine FOwn.setNe ?_ _ _ (by intro q; have := HBK8.out _ q; dsimp only at this; omega))
              exact HO8.out
            · iterate 5 (refine Below.setCell ?_ (by dsimp only; omega) _)
              exact HB8.out
    · have qn' : nameOk to = false := by simpa using qn
      have HV : Hid (renF fs c u d nm to = (fs, 5)) := hide (by unfold renF; rw [if_pos HC.out, if_neg qn])
      rw [qn']
      obtain ⟨b0, b1, b2, b3, k0, k1, k2, k3⟩ := hx1
      obtain ⟨c0, c1, c2, c3, l0, l1, l2, l3⟩ := hxx
      clear hx0
      go_wp2
      refine bodyPost_ret (v := .tuple #[.agg #[.slice a' n cap', .int .i64 c, .int .i64 U, .bool D], .int .i64 5]) (by simp [results, Tryz.results87, go_sem, *]) rfl ⟨⟨a', cap', by rw [HV.out, HU.out, HD.out, HVL.out], ?_⟩, ?_⟩
      · rw [HV.out]
        dsimp only
        rw [HVL.out]
        refine FOwn.mono ?_ (Nat.le_add_right _ 2)
        iterate 4 (refine FOwn.setNe ?_ _ _ (by intro q; have := HBK.out _ q; dsimp only at this; omega))
        exact HOX.out
      · iterate 4 (refine Below.setCell ?_ (by dsimp only; omega) _)
        exact HB3.out
  · have HV : Hid (renF fs c u d nm to = (fs, C)) := hide (by unfold renF; rw [if_neg (by rw [HC.out]; exact q0), HC.out])
    have t0 : (C == 0) = false := by simpa using q0
    have t0' : (C != 0) = true := by simpa using q0
    have hx1 := cells4 HD1.out
    rw [hX] at hx1
    obtain ⟨b0, b1, b2, b3, k0, k1, k2, k3⟩ := hx1
    have HOX' : Hid (FOwn (w2.alloc (.cells #[.slice a' n cap', .int .i64 c, .int .i64 U, .bool D] 39)) (w.heap.size + 2) (.slice a' n cap') fs) := hide (by rw [← hX]; exact HOX.out)
    have HB3' : Hid (Below w.heap.size w (w2.alloc (.cells #[.slice a' n cap', .int .i64 c, .int .i64 U, .bool D] 39))) := hide (by rw [← hX]; exact HB3.out)
    have HVL : Hid (fs.length = n) := hide hfn
    clear q0 hX
    go_wp2
    refine bodyPost_ret (v := .tuple #[.agg #[.slice a' n cap', .int .i64 c, .int .i64 U, .bool D], .int .i64 C]) (by simp [results, Tryz.results87, go_sem, *]) rfl ⟨⟨a', cap', by rw [HV.out, HU.out, HD.out, HVL.out], ?_⟩, ?_⟩
    · rw [HV.out]
      dsimp only
      rw [HVL.out]
      refine FOwn.mono ?_ (Nat.le_add_right _ 2)
      iterate 4 (refine FOwn.setNe ?_ _ _ (by intro q; have := HBK.out _ q; dsimp only at this; omega))
      exact HOX'.out
    · iterate 4 (refine Below.setCell ?_ (by dsimp only; omega) _)
      exact HB3'.out

end Go.Proofs.YthnealhaleccpaaGreatDoor
namespace Go.Proofs.YthnealhaleccpaaGreatDoor
def truF (fs : List FileV) (c u : Int) (d : Bool) (nm : ByteArray) (m : Int) : List FileV × Int :=
  if begC fs c u d = 0 then
    (if findF fs nm < 0 then (fs, 3) else if inB 0 m ((fs.getD (findF fs nm).toNat zeroF).text.size : Int) = true then
      (fs.set (findF fs nm).toNat ⟨(fs.getD (findF fs nm).toNat zeroF).name, (fs.getD (findF fs nm).toNat zeroF).text.extract 0 m.toNat, min (fs.getD (findF fs nm).toNat zeroF).safe m⟩, 0) else (fs, 5))
  else (fs, begC fs c u d)

end Go.Proofs.YthnealhaleccpaaGreatDoor
