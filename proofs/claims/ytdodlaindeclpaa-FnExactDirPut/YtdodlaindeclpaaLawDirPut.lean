/-
  The walk of the exact law of DirPut.
-/
import Derived.Test.YtdodlaindeclpaaEntMark
import Derived.Test.YtdodlaindeclpaaDirPutS
import Derived.Test.YtdodlaindeclpaaDirPutI
import Derived.Test.YtdodlaindeclpaaRowApart
import Derived.Deep.RegionHeld3
namespace Go.Proofs.Ytdodlaindeclpaa
open Go.RowKit
open Plain

set_option maxRecDepth 100000 in
set_option maxHeartbeats 8000000 in
theorem lawDirPut_walk (w : World) (a : Option Addr) (n cap : Nat) (xs : List EntV) (hr : entSh.Row w a n xs) (hf : EFits xs) (hl : n ≤ maxLen) (p : EntV) (hk : p.key.size ≤ maxLen) :
    Calls Try.prog 6 #[.slice a n cap, .agg #[.string p.key, .int .i64 p.seg, .int .i64 p.pos, .int .i64 p.len, .int .i64 p.bat]] w fun e w' => e = .returned (.bool true) ∧ Below w.heap.size w w' := by
  obtain ⟨W0, hW0⟩ : ∃ W0, W0 = w.alloc (.cells #[.string p.key, .int .i64 p.seg, .int .i64 p.pos, .int .i64 p.len, .int .i64 p.bat] 43) := ⟨_, rfl⟩
  have HA : Hid (Below w.heap.size w W0) := hide (by rw [hW0]; exact al1 w _)
  have HBX : Hid (∀ W, Below W0.heap.size W0 W → W.cell? ⟨w.heap.size, 0, none⟩ = some (.string p.key) ∧ W.cell? ⟨w.heap.size, 1, none⟩ = some (.int .i64 p.seg) ∧ W.cell? ⟨w.heap.size, 2, none⟩ = some (.int .i64 p.pos) ∧ W.cell? ⟨w.heap.size, 3, none⟩ = some (.int .i64 p.len) ∧ W.cell? ⟨w.heap.size, 4, none⟩ = some (.int .i64 p.bat) ∧ Hid (Below W0.heap.size W0 W)) := hide (fun W h => by
    have h0 : W0.heap[w.heap.size]? = some (.cells #[.string p.key, .int .i64 p.seg, .int .i64 p.pos, .int .i64 p.len, .int .i64 p.bat] 43 (0, 0)) := by rw [hW0]; exact heap_alloc_new w _
    have h1 := (h.block w.heap.size (Array.getElem?_eq_some_iff.1 h0).1).trans h0
    obtain ⟨y0, y1, y2, y3, y4, -⟩ := cells5 h1
    exact ⟨y0, y1, y2, y3, y4, hide h⟩)
  have HSZ := hide (szEntS_any W0 a n cap xs (hr.later HA.out) hf hl 1048576 (by omega) (by omega))
  have HR := hide (hr.later HA.out)
  have hlen := hr.len
  have HSE := hide (fun l h0 h1 => szEnt_any p l h0 h1 hk)
  have HTE := hide (toEnt_any p)
  clear hr hf hl hk
  go_enter Try.func6, Try.ntmps6
  go_wp2_with fail
  rw [← hW0]
  clear hW0
  refine HSZ.out.mono ?_
  rintro e w1 ⟨rfl, hb1⟩
  have HB1 := hide hb1
  clear hb1 HSZ
  by_cases hsz : ((n + szEs xs : Nat) : Int) ≤ 1048576
  · rw [lessR_yes hsz]
    have hn : n ≤ 1048576 := by omega
    have d0 : decide ((1048576 : Int) - ((n + szEs xs : Nat) : Int) < 0) = false := by simp; omega
    have hL0 : (0 : Int) ≤ (1048576 : Int) - ((n + szEs xs : Nat) : Int) := by omega
    have hL1 : (1048576 : Int) - ((n + szEs xs : Nat) : Int) ≤ 1048576 := by omega
    have HTO : Hid (∀ W, Below W0.heap.size W0 W → _) := hide (fun W (hW : Below W0.heap.size W0 W) => toEntS_any W a n cap xs (HR.out.later hW) hn)
    generalize (1048576 : Int) - ((n + szEs xs : Nat) : Int) = L at *
    clear hsz
    obtain ⟨y0, y1, y2, y3, y4, -⟩ := HBX.out w1 HB1.out
    go_wp2_with fail
    clear y0 y1 y2 y3 y4
    refine (HSE.out L hL0 hL1 w1).mono ?_
    rintro e w1' ⟨rfl, hb1'⟩
    have HB1' := hide (HB1.out.trans (hb1'.mono HB1.out.size))
    clear hb1' HB1 HSE
    by_cases hsz2 : (p.key.size : Int) ≤ L
    · rw [lessR_yes hsz2]
      have d0' : decide (L - (p.key.size : Int) < 0) = false := by simp; omega
      generalize L - (p.key.size : Int) = L' at *
      obtain ⟨zs, hzs⟩ : ∃ zs, putE xs p = zs := ⟨_, rfl⟩
      obtain ⟨m, hzm⟩ : ∃ m, zs.length = m := ⟨_, rfl⟩
      have HSPK : Hid (∀ W a' c', entSh.Row W a' n xs → Calls Try.prog 24 #[.slice a' n c', .agg #[.string p.key, .int .i64 p.seg, .int .i64 p.pos, .int .i64 p.len, .int .i64 p.bat]] W fun e w' => (∃ a'' cap', e = .returned (.slice a'' m cap') ∧ entSh.Own 26 w' W.heap.size (.slice a'' m cap') zs) ∧ Below W.heap.size W w') := hide (fun W a' c' h => by
        refine (specPut_any W a' n c' xs p h hn).mono ?_
        rintro e w' ⟨⟨a2, n2, c2, rfl, h2⟩, h3⟩
        obtain rfl : n2 = m := by rw [← hzm, ← hzs]; exact h2.len.symm
        exact ⟨⟨a2, c2, rfl, by rw [← hzs]; exact h2⟩, h3⟩)
      have HIMK : Hid (∀ W a' c', entSh.Row W a' n xs → Calls Try.prog 12 #[.slice a' n c', .agg #[.string p.key, .int .i64 p.seg, .int .i64 p.pos, .int .i64 p.len, .int .i64 p.bat]] W fun e w' => (∃ a'' cap', e = .returned (.slice a'' m cap') ∧ entSh.Own 26 w' W.heap.size (.slice a'' m cap') zs) ∧ Below W.heap.size W w') := hide (fun W a' c' h => by
        refine (implPut_any W a' n c' xs p h hn).mono ?_
        rintro e w' ⟨⟨g, c2, rfl, h2⟩, h3⟩
        rw [hzs, hzm] at h2 ⊢
        exact ⟨⟨_, _, rfl, h2⟩, h3⟩)
      have hml : m ≤ 1048577 := by have h1 := putE_len xs p; have h2 := dropE_len xs p.key; rw [hzs] at h1; omega
      clear hsz2 hzs hlen hzm
      have S1 := HBX.out w1'.drew HB1'.out.drew
      go_wp2
      first
        | (go_region_held3 (fun W' => W'.cell? ⟨w.heap.size, 0, none⟩ = some (.string p.key) ∧ W'.cell? ⟨w.heap.size, 1, none⟩ = some (.int .i64 p.seg) ∧ W'.cell? ⟨w.heap.size, 2, none⟩ = some (.int .i64 p.pos) ∧ W'.cell? ⟨w.heap.size, 3, none⟩ = some (.int .i64 p.len) ∧ W'.cell? ⟨w.heap.size, 4, none⟩ = some (.int .i64 p.bat) ∧ Hid (Below W0.heap.size W0 W')) (assumption) (first
            | (go_at_call 18; refine (HTO.out w1'.drew S1.2.2.2.2.2.out).mono ?_; rintro e w2 ⟨rfl, ho2, hb2⟩; have hk2 := hide (S1.2.2.2.2.2.out.trans (hb2.mono S1.2.2.2.2.2.out.size)); have hS2 := HBX.out w2 hk2.out; have HR2 := hide ho2.row; clear ho2 hb2)
            | (go_at_call 25; refine (HTE.out w2).mono ?_; rintro e w2' ⟨rfl, hb2'⟩; have hk2' := hide (hk2.out.trans (hb2'.mono hk2.out.size)); have hS2' := HBX.out w2' hk2'.out; have HR2' := hide (HR2.out.later hb2'); clear hb2')
            | (go_at_call 24; refine (HSPK.out w2' _ n HR2'.out).mono ?_; rintro e w3 ⟨⟨sa, sc, rfl, hs3⟩, hb3⟩; have hk3 := hide (hk2'.out.trans (hb3.mono hk2'.out.size)); have hS3 := HBX.out w3 hk3.out; have HS3 := hide hs3; clear hb3 hs3)))
        | fail
      have HB3 := hide hk3.out
      have hlo : W0.heap.size ≤ w2'.heap.size := hk2'.out.size
      clear hS3 hk3 hS2' hk2' HR2' hS2 hk2 HR2 S1 HB1' HSPK
      generalize w2'.heap.size = l2 at *
      go_wp2_with fail
      refine (HTO.out w3 HB3.out).mono ?_
      rintro e w4 ⟨rfl, ho4, hb4⟩
      have HB4 := hide (HB3.out.trans (hb4.mono HB3.out.size))
      have HX4 := hide ho4
      have HS4 := hide (HS3.out.later hb4 (Nat.le_refl _))
      have HR4 := hide ho4.row
      have hlo3 : W0.heap.size ≤ w3.heap.size := HB3.out.size
      clear ho4 hb4 HB3
      obtain ⟨y0, y1, y2, y3, y4, -⟩ := HBX.out w4 HB4.out
      go_wp2_with fail
      clear y0 y1 y2 y3 y4
      refine (HTE.out w4).mono ?_
      rintro e w4' ⟨rfl, hb4'⟩
      have HB4' := hide (HB4.out.trans (hb4'.mono HB4.out.size))
      have HX4' := hide (HX4.out.later hb4' (Nat.le_refl _))
      have HS4' := hide (HS4.out.later hb4' (Nat.le_refl _))
      have HSW4 := hide HS4'.out
      have HIM := hide (HIMK.out w4' _ n (HR4.out.later hb4'))
      clear hb4' HB4 HX4 HS4 HR4
      go_wp2_with fail
      refine HIM.out.mono ?_
      rintro e w5 ⟨⟨ia, ic, rfl, hg5⟩, hb5⟩
      have HB5 := hide (HB4'.out.trans (hb5.mono HB4'.out.size))
      have HX5 := hide (HX4'.out.later hb5 (Nat.le_refl _))
      have HS5 := hide (HS4'.out.later hb5 (Nat.le_refl _))
      have HG5 := hide hg5
      have hlo4 : W0.heap.size ≤ w4'.heap.size := HB4'.out.size
      clear hb5 hg5 HIM HB4'
      go_wp2_with fail
      refine (eqEntS_same w5 ia sa m ic sc zs HG5.out.row HS5.out.row (by omega)).mono ?_
      rintro e w6 ⟨rfl, hb6⟩
      have HB6 := hide (HB5.out.trans (hb6.mono HB5.out.size))
      have HX6 := hide (HX5.out.later hb6 (Nat.le_refl _))
      have HS6 := hide (HS5.out.later hb6 (Nat.le_refl _))
      have HG6 := hide (HG5.out.later hb6 (Nat.le_refl _))
      clear hb6 HB5 HX5 HS5 HG5
      go_wp2_with fail
      refine (HTO.out w6 HB6.out).mono ?_
      rintro e w7 ⟨rfl, ho7, hb7⟩
      have HB7 := hide (HB6.out.trans (hb7.mono HB6.out.size))
      have HX7 := hide (HX6.out.later hb7 (Nat.le_refl _))
      have HS7 := hide (HS6.out.later hb7 (Nat.le_refl _))
      have HG7 := hide (HG6.out.later hb7 (Nat.le_refl _))
      have HEQ := hide (eqEntS_same w7 _ _ n n n xs HX7.out.row ho7.row (by omega))
      clear ho7 hb7 HB6 HX6 HS6 HG6
      go_wp2_with fail
      refine HEQ.out.mono ?_
      rintro e w8 ⟨rfl, hb8⟩
      have HB8 := hide (HB7.out.trans (hb8.mono HB7.out.size))
      have HX8 := hide (HX7.out.later hb8 (Nat.le_refl _))
      have HS8 := hide (HS7.out.later hb8 (Nat.le_refl _))
      have HG8 := hide (HG7.out.later hb8 (Nat.le_refl _))
      clear hb8 HEQ HB7 HX7 HS7 HG7
      go_wp2_with fail
      refine (markEntS_any w8 w3.heap.size _ n n xs HX8.out (by omega) 1 (by omega) (by omega)).mono ?_
      rintro e w9 ⟨rfl, ho9, hg9⟩
      have HB9 := hide (HB8.out.trans (grown_to hg9 HB8.out.size (fun g hg => Nat.le_trans hlo3 (HX8.out.blk g hg).1)))
      have HS9 : Hid (entSh.Own 26 w9 l2 (.slice sa m sc) zs) := hide (row_apart HS8.out HS3.out (Nat.le_refl _) HX8.out hg9)
      have HG9 : Hid (entSh.Own 26 w9 w4'.heap.size (.slice ia m ic) zs) := hide (row_behind HG8.out HX4'.out (Nat.le_refl _) hg9)
      obtain ⟨k1, hk1⟩ : ∃ k, 1 + 5 * n = k := ⟨_, rfl⟩
      have d1 : decide ((k1 : Int) < 0) = false := by simp
      rw [hk1]
      clear hk1 ho9 hg9 HB8 HX8 HS8 HG8 HX4' HS4' HS3
      go_wp2_with fail
      refine (eqEntS_same w9 ia sa m ic sc zs HG9.out.row HS9.out.row (by omega)).mono ?_
      rintro e w10 ⟨rfl, hb10⟩
      have HB10 := hide (HB9.out.trans (hb10.mono HB9.out.size))
      have HS10 := hide (HS9.out.later hb10 (Nat.le_refl _))
      have HG10 := hide (HG9.out.later hb10 (Nat.le_refl _))
      clear hb10 HB9 HS9 HG9
      go_wp2_with fail
      refine (markEntS_any w10 w4'.heap.size ia m ic zs HG10.out (by omega) 1 (by omega) (by omega)).mono ?_
      rintro e w11 ⟨rfl, ho11, hg11⟩
      have HB11 := hide (HB10.out.trans (grown_to hg11 HB10.out.size (fun g hg => Nat.le_trans hlo4 (HG10.out.blk g hg).1)))
      have HS11 : Hid (entSh.Own 26 w11 l2 (.slice sa m sc) zs) := hide (row_apart HS10.out HSW4.out (Nat.le_refl _) HG10.out hg11)
      have HG11 := hide ho11
      have HHE := hide (fun W (h : entSh.Row W ia m (markE m 1)) => heldEntS_any W ia m ic (by omega) 1 (by omega) (by omega) h)
      obtain ⟨t, ht⟩ : ∃ t : Int, ((1 + 5 * m : Nat) : Int) = t := ⟨_, rfl⟩
      have t1 : decide (t < 0) = false := by simp; omega
      have t2 : (t != t) = false := by simp
      rw [ht] at HHE ⊢
      clear ht ho11 hg11 HB10 HS10 HG10 HSW4
      go_wp2_with fail
      refine (HHE.out w11 HG11.out.row).mono ?_
      rintro e w12 ⟨rfl, hb12⟩
      have HB12 := hide (HB11.out.trans (hb12.mono HB11.out.size))
      have HS12 := hide (HS11.out.later hb12 (Nat.le_refl _))
      have HG12 := hide (HG11.out.later hb12 (Nat.le_refl _))
      clear hb12 HB11 HS11 HG11
      have S12 := HBX.out w12.drew HB12.out.drew
      go_wp2
      first
        | (go_region_held3 (fun W' => W'.cell? ⟨w.heap.size, 0, none⟩ = some (.string p.key) ∧ W'.cell? ⟨w.heap.size, 1, none⟩ = some (.int .i64 p.seg) ∧ W'.cell? ⟨w.heap.size, 2, none⟩ = some (.int .i64 p.pos) ∧ W'.cell? ⟨w.heap.size, 3, none⟩ = some (.int .i64 p.len) ∧ W'.cell? ⟨w.heap.size, 4, none⟩ = some (.int .i64 p.bat) ∧ Hid (Below W0.heap.size W0 W')) (assumption) (first
            | (go_at_call 18; refine (HTO.out w12.drew S12.2.2.2.2.2.out).mono ?_; rintro e w13 ⟨rfl, ho13, hb13⟩; have hk13 := hide (S12.2.2.2.2.2.out.trans (hb13.mono S12.2.2.2.2.2.out.size)); have hS13 := HBX.out w13 hk13.out; have HR13 := hide ho13.row; have HS13 := hide ((show entSh.Own 26 w12.drew l2 (.slice sa m sc) zs from HS12.out).later hb13 (Nat.le_refl _)); have HG13 := hide ((show entSh.Own 26 w12.drew w4'.heap.size (.slice ia m ic) (markE m 1) from HG12.out).later hb13 (Nat.le_refl _)); clear ho13 hb13)
            | (go_at_call 25; refine (HTE.out w13).mono ?_; rintro e w13' ⟨rfl, hb13'⟩; have hk13' := hide (hk13.out.trans (hb13'.mono hk13.out.size)); have hS13' := HBX.out w13' hk13'.out; have HR13' := hide (HR13.out.later hb13'); have HS13' := hide (HS13.out.later hb13' (Nat.le_refl _)); have HG13' := hide (HG13.out.later hb13' (Nat.le_refl _)); clear hb13')
            | (go_at_call 12; refine (HIMK.out w13' _ n HR13'.out).mono ?_; rintro e w14 ⟨⟨ja, jc, rfl, hj14⟩, hb14⟩; have hk14 := hide (hk13'.out.trans (hb14.mono hk13'.out.size)); have hS14 := HBX.out w14 hk14.out; have HS14 := hide (HS13'.out.later hb14 (Nat.le_refl _)); have HG14 := hide (HG13'.out.later hb14 (Nat.le_refl _)); have HJ14 := hide hj14; clear hb14 hj14)))
        | fail
      have HB14 := hide hk14.out
      clear hS14 hk14 hS13' hk13' HR13' HS13' HG13' hS13 hk13 HR13 HS13 HG13 S12 HB12 HS12 HG12
      go_wp2_with fail
      refine (eqEntS_same w14 ja sa m jc sc zs HJ14.out.row HS14.out.row (by omega)).mono ?_
      rintro e w15 ⟨rfl, hb15⟩
      have HB15 := hide (HB14.out.trans (hb15.mono HB14.out.size))
      have HG15 := hide (HG14.out.later hb15 (Nat.le_refl _))
      clear hb15 HB14 HS14 HG14 HJ14
      go_wp2_with fail
      refine (HHE.out w15 HG15.out.row).mono ?_
      rintro e w16 ⟨rfl, hb16⟩
      have HB16 := hide (HB15.out.trans (hb16.mono HB15.out.size))
      clear hb16 HB15 HG15 HHE
      go_wp2
      go_ret
      exact ⟨rfl, HA.out.trans (HB16.out.mono HA.out.size)⟩
    · rw [lessR_no (by omega)]
      go_wp2
      go_ret
      exact ⟨rfl, HA.out.trans (HB1'.out.mono HA.out.size)⟩
  · rw [lessR_no (by omega)]
    go_wp2
    go_ret
    exact ⟨rfl, HA.out.trans (HB1.out.mono HA.out.size)⟩

end Go.Proofs.Ytdodlaindeclpaa
