/-
  spec.Create: an empty file.
-/
import Derived.Test.YthhjomaccbpnbabDoorInsertSpec
namespace Go.Proofs.YthhjomaccbpnbabDoor
open Go.RowKit
open Plain

/-- What Create answers: the files, and the code. -/
def creF (fs : List FileV) (c u : Int) (d : Bool) (nm : ByteArray) : List FileV × Int :=
  if begC fs c u d = 0 then
    (if nameOk nm = true then (if findF fs nm < 0 then (if 130 ≤ fs.length then (fs, 2) else (insF fs ⟨nm, ⟨#[]⟩, 0⟩, 0)) else (fs, 4)) else (fs, 5))
  else (fs, begC fs c u d)
theorem FRow.base0 {w : World} {base : Nat} {a : Option Addr} {n : Nat} {fs : List FileV} (h : FRow w base a n fs) : FRow w 0 a n fs where
  len := h.len
  cells := fun i hi => by
    obtain ⟨b, off, h1, _, h3⟩ := h.cells i hi
    exact ⟨b, off, h1, Nat.zero_le _, h3⟩

set_option maxRecDepth 100000 in
set_option maxHeartbeats 2000000 in
theorem specCreate_some (w : World) (ad : Addr) (n cap : Nat) (fs : List FileV) (hr : FRow w 0 (some ad) n fs) (hn : n ≤ 1048576) (hz : szFs fs ≤ 1048576) (c u : Int) (d : Bool) (hu : -9223372036854775808 ≤ u) (hu2 : u ≤ 9223372036854775807) (nm : ByteArray) (hnm : nm.size ≤ 1048576) :
    Calls Tryd.prog 10 #[.agg #[.slice (some ad) n cap, .int .i64 c, .int .i64 u, .bool d], .string nm] w fun e w' => (∃ a' cap', e = .returned (.tuple #[.agg #[.slice a' (creF fs c u d nm).1.length cap', .int .i64 c, .int .i64 (begU fs c u d), .bool (begD fs c u d)], .int .i64 (creF fs c u d nm).2]) ∧ FOwn w' w.heap.size (.slice a' (creF fs c u d nm).1.length cap') (creF fs c u d nm).1) ∧ Below w.heap.size w w' := by
  have hfn := hr.len
  obtain ⟨W, hW⟩ : ∃ W, W = (w.alloc (.cells #[.slice (some ad) n cap, .int .i64 c, .int .i64 u, .bool d] 28)).alloc (.cells #[.slice none 0 0, .int .i64 0, .int .i64 0, .bool false] 28) := ⟨_, rfl⟩
  have hA := alloc2 w (.cells #[.slice (some ad) n cap, .int .i64 c, .int .i64 u, .bool d] 28) (.cells #[.slice none 0 0, .int .i64 0, .int .i64 0, .bool false] 28)
  rw [← hW] at hA
  have HS := hide hA.1
  have HB0 := hide hA.2.1
  have HC0 := hide hA.2.2.1
  have HC1 := hide hA.2.2.2
  clear hA
  have HR := hide (hr.later HB0.out (Nat.le_refl _))
  clear hr
  go_enter Tryd.func10, Tryd.ntmps10
  go_wp2_with fail
  rw [← hW]
  clear hW
  refine (specBegin_some W ad n cap fs HR.out hn hz c u d hu hu2).mono ?_
  rintro e w2 ⟨⟨a', cap', rfl, ho2⟩, hb2⟩
  obtain ⟨U, hU⟩ : ∃ U, begU fs c u d = U := ⟨_, rfl⟩
  obtain ⟨D, hD⟩ : ∃ D, begD fs c u d = D := ⟨_, rfl⟩
  obtain ⟨C, hC⟩ : ∃ C, begC fs c u d = C := ⟨_, rfl⟩
  rw [hU, hD, hC]
  have HU := hide hU
  have HD := hide hD
  have HC := hide hC
  clear hU hD hC
  obtain ⟨X, hX⟩ : ∃ X, X = w2.alloc (.cells #[.slice a' n cap', .int .i64 c, .int .i64 U, .bool D] 28) := ⟨_, rfl⟩
  have hsz2 : w.heap.size + 2 ≤ w2.heap.size := by have := HS.out; have := hb2.size; omega
  have HBX : Hid (Below w2.heap.size w2 X) := hide (by rw [hX]; exact (Below.refl _ _).alloc (Nat.le_refl _) _)
  have HXS : Hid (X.heap.size = w2.heap.size + 1) := hide (by rw [hX]; simp)
  have HCX : Hid (X.heap[w2.heap.size]? = some (.cells #[.slice a' n cap', .int .i64 c, .int .i64 U, .bool D] 28 (0, 0))) := hide (by rw [hX]; exact heap_alloc_new w2 _)
  have HD0 : Hid (X.heap[w.heap.size]? = some (.cells #[.slice (some ad) n cap, .int .i64 c, .int .i64 u, .bool d] 28 (0, 0))) := hide (((HBX.out.block _ (by omega)).trans (hb2.block _ (by have := HS.out; omega))).trans HC0.out)
  have HD1 : Hid (X.heap[w.heap.size + 1]? = some (.cells #[.slice none 0 0, .int .i64 0, .int .i64 0, .bool false] 28 (0, 0))) := hide (((HBX.out.block _ (by omega)).trans (hb2.block _ (by have := HS.out; omega))).trans HC1.out)
  have HBK : Hid (∀ g, (Value.slice a' n cap').ownBlock = some g → w.heap.size + 2 ≤ g ∧ g < w2.heap.size) := hide (fun g hg => by have h := ho2.blk g hg; have := HS.out; omega)
  have HOX : Hid (FOwn X (w.heap.size + 2) (.slice a' n cap') fs) := hide ((ho2.later HBX.out (Nat.le_refl _)).mono (by have := HS.out; omega))
  have HBW := hide (hb2.trans (HBX.out.mono hb2.size))
  have HRX := hide (HR.out.later HBW.out (Nat.le_refl _))
  have HB3 := hide (HB0.out.trans (HBW.out.mono HB0.out.size))
  clear hb2 ho2 HC0 HC1 HR HB0 HBX HBW HS
  by_cases q0 : C = 0
  · subst q0
    have hx0 := cells4 HD0.out
    have hx1 := cells4 HD1.out
    have hxx := cells4 HCX.out
    go_wp2_with fail
    rw [← hX]
    clear hX
    refine (specName_any nm X (by omega)).mono ?_
    rintro e w3 ⟨rfl, rfl⟩
    obtain ⟨x, hx⟩ : ∃ x, w2.heap.size = x := ⟨_, rfl⟩
    rw [hx] at HCX HXS hsz2 HBK hxx
    rw [hx]
    have HVL : Hid (fs.length = n) := hide hfn
    by_cases qn : nameOk nm = true
    · rw [qn]
      obtain ⟨y0, y1, y2, y3, -, -, -, -⟩ := hx0
      go_wp2_with fail
      clear y0 y1 y2 y3 hx1 hxx
      refine (specFind_any X (some ad) n cap fs HRX.out (by omega) c u d nm).mono ?_
      rintro e w4 ⟨rfl, hb4⟩
      obtain ⟨a0, a1, a2, a3, -, -, -, -⟩ := cells4 ((hb4.block _ (by have := HXS.out; omega)).trans HD0.out)
      obtain ⟨b0, b1, b2, b3, k0, k1, k2, k3⟩ := cells4 ((hb4.block _ (by have := HXS.out; omega)).trans HD1.out)
      obtain ⟨c0, c1, c2, c3, l0, l1, l2, l3⟩ := cells4 ((hb4.block _ (by have := HXS.out; omega)).trans HCX.out)
      have HW1 := hide ((hb4.block _ (by have := HXS.out; omega)).trans HD1.out)
      have HWX := hide ((hb4.block _ (by have := HXS.out; omega)).trans HCX.out)
      have hx4 : x + 1 ≤ w4.heap.size := by have := HXS.out; have := hb4.size; omega
      have HO4 := hide (HOX.out.later hb4 (Nat.le_refl _))
      have HB4 := hide (HB3.out.trans (hb4.mono HB3.out.size))
      clear hb4 HD0 HD1 HCX HXS HOX HB3 HRX hx
      by_cases q1 : findF fs nm < 0
      · have t1 : decide (0 ≤ findF fs nm) = false := by simp; omega
        by_cases q2 : 130 ≤ n
        · have t2 : decide ((130 : Int) ≤ (n : Int)) = true := by simp; omega
          have HV : Hid (creF fs c u d nm = (fs, 2)) := hide (by unfold creF; rw [if_pos HC.out, if_pos qn, if_pos q1, if_pos (by omega)])
          clear q1
          go_wp2
          refine bodyPost_ret (v := .tuple #[.agg #[.slice a' n cap', .int .i64 c, .int .i64 U, .bool D], .int .i64 2]) (by simp [results, Tryd.results10, go_sem, *]) rfl ⟨⟨a', cap', by rw [HV.out, HU.out, HD.out, HVL.out], ?_⟩, ?_⟩
          · rw [HV.out]
            dsimp only
            rw [HVL.out]
            refine FOwn.mono ?_ (Nat.le_add_right _ 2)
            iterate 4 (refine FOwn.setNe ?_ _ _ (by intro q; have := HBK.out _ q; dsimp only at this; omega))
            exact HO4.out
          · iterate 4 (refine Below.setCell ?_ (by dsimp only; omega) _)
            exact HB4.out
        · have t2 : decide ((130 : Int) ≤ (n : Int)) = false := by simp; omega
          have HV : Hid (creF fs c u d nm = (insF fs ⟨nm, ⟨#[]⟩, 0⟩, 0)) := hide (by unfold creF; rw [if_pos HC.out, if_pos qn, if_pos q1, if_neg (by omega)])
          have HVL2 : Hid ((insF fs ⟨nm, ⟨#[]⟩, 0⟩).length = n + 1) := hide (by rw [insF_length, hfn])
          clear q1
          go_wp2_with fail
          refine (specInsert_any w4 a' n cap' fs (HO4.out.row.base0) hn ⟨nm, ⟨#[]⟩, 0⟩).mono ?_
          rintro e w5 ⟨⟨a5, cap5, rfl, ho5⟩, hb5⟩
          clear a0 a1 a2 a3 b0 b1 b2 b3 k0 k1 k2 k3 c0 c1 c2 c3 l0 l1 l2 l3
          obtain ⟨b0, b1, b2, b3, k0, k1, k2, k3⟩ := cells4 ((hb5.block _ (by omega)).trans HW1.out)
          obtain ⟨c0, c1, c2, c3, l0, -, -, -⟩ := cells4 ((hb5.block _ (by omega)).trans HWX.out)
          have HBK5 : Hid (∀ g, (Value.slice a5 (n + 1) cap5).ownBlock = some g → w4.heap.size ≤ g) := hide (fun g hg => (ho5.blk g hg).1)
          have HO5 : Hid (FOwn w5 (w.heap.size + 2) (.slice a5 (n + 1) cap5) (insF fs ⟨nm, ⟨#[]⟩, 0⟩)) := hide (ho5.mono (by omega))
          have HB5 := hide (HB4.out.trans (hb5.mono HB4.out.size))
          clear ho5 hb5 HO4 HB4 HW1 HWX
          have HVL := HVL2
          clear HVL2
          go_wp2
          refine bodyPost_ret (v := .tuple #[.agg #[.slice a5 (n + 1) cap5, .int .i64 c, .int .i64 U, .bool D], .int .i64 0]) (by simp [results, Tryd.results10, go_sem, *]) rfl ⟨⟨a5, cap5, by rw [HV.out, HU.out, HD.out, HVL.out], ?_⟩, ?_⟩
          · rw [HV.out]
            dsimp only
            rw [HVL.out]
            refine FOwn.mono ?_ (Nat.le_add_right _ 2)
            iterate 5 (refine FOwn.setNe ?_ _ _ (by intro q; have := HBK5.out _ q; dsimp only at this; omega))
            exact HO5.out
          · iterate 5 (refine Below.setCell ?_ (by dsimp only; omega) _)
            exact HB5.out
      · have t1 : decide (0 ≤ findF fs nm) = true := by simp; omega
        have HV : Hid (creF fs c u d nm = (fs, 4)) := hide (by unfold creF; rw [if_pos HC.out, if_pos qn, if_neg q1])
        clear q1
        go_wp2
        refine bodyPost_ret (v := .tuple #[.agg #[.slice a' n cap', .int .i64 c, .int .i64 U, .bool D], .int .i64 4]) (by simp [results, Tryd.results10, go_sem, *]) rfl ⟨⟨a', cap', by rw [HV.out, HU.out, HD.out, HVL.out], ?_⟩, ?_⟩
        · rw [HV.out]
          dsimp only
          rw [HVL.out]
          refine FOwn.mono ?_ (Nat.le_add_right _ 2)
          iterate 4 (refine FOwn.setNe ?_ _ _ (by intro q; have := HBK.out _ q; dsimp only at this; omega))
          exact HO4.out
        · iterate 4 (refine Below.setCell ?_ (by dsimp only; omega) _)
          exact HB4.out
    · have qn' : nameOk nm = false := by simpa using qn
      have HV : Hid (creF fs c u d nm = (fs, 5)) := hide (by unfold creF; rw [if_pos HC.out, if_neg qn])
      rw [qn']
      obtain ⟨b0, b1, b2, b3, k0, k1, k2, k3⟩ := hx1
      obtain ⟨c0, c1, c2, c3, l0, l1, l2, l3⟩ := hxx
      clear hx0
      go_wp2
      refine bodyPost_ret (v := .tuple #[.agg #[.slice a' n cap', .int .i64 c, .int .i64 U, .bool D], .int .i64 5]) (by simp [results, Tryd.results10, go_sem, *]) rfl ⟨⟨a', cap', by rw [HV.out, HU.out, HD.out, HVL.out], ?_⟩, ?_⟩
      · rw [HV.out]
        dsimp only
        rw [HVL.out]
        refine FOwn.mono ?_ (Nat.le_add_right _ 2)
        iterate 4 (refine FOwn.setNe ?_ _ _ (by intro q; have := HBK.out _ q; dsimp only at this; omega))
        exact HOX.out
      · iterate 4 (refine Below.setCell ?_ (by dsimp only; omega) _)
        exact HB3.out
  · have HV : Hid (creF fs c u d nm = (fs, C)) := hide (by unfold creF; rw [if_neg (by rw [HC.out]; exact q0), HC.out])
    have t0 : (C == 0) = false := by simpa using q0
    have t0' : (C != 0) = true := by simpa using q0
    have hx1 := cells4 HD1.out
    rw [hX] at hx1
    obtain ⟨b0, b1, b2, b3, k0, k1, k2, k3⟩ := hx1
    have HOX' : Hid (FOwn (w2.alloc (.cells #[.slice a' n cap', .int .i64 c, .int .i64 U, .bool D] 28)) (w.heap.size + 2) (.slice a' n cap') fs) := hide (by rw [← hX]; exact HOX.out)
    have HB3' : Hid (Below w.heap.size w (w2.alloc (.cells #[.slice a' n cap', .int .i64 c, .int .i64 U, .bool D] 28))) := hide (by rw [← hX]; exact HB3.out)
    have HVL : Hid (fs.length = n) := hide hfn
    clear q0 hX
    go_wp2
    refine bodyPost_ret (v := .tuple #[.agg #[.slice a' n cap', .int .i64 c, .int .i64 U, .bool D], .int .i64 C]) (by simp [results, Tryd.results10, go_sem, *]) rfl ⟨⟨a', cap', by rw [HV.out, HU.out, HD.out, HVL.out], ?_⟩, ?_⟩
    · rw [HV.out]
      dsimp only
      rw [HVL.out]
      refine FOwn.mono ?_ (Nat.le_add_right _ 2)
      iterate 4 (refine FOwn.setNe ?_ _ _ (by intro q; have := HBK.out _ q; dsimp only at this; omega))
      exact HOX'.out
    · iterate 4 (refine Below.setCell ?_ (by dsimp only; omega) _)
      exact HB3'.out

end Go.Proofs.YthhjomaccbpnbabDoor
