/-
  The walk of the law FnFrames.
-/
import Derived.Test.YtkcjlalkniaapaaDoorDrawLog
import Derived.Test.YtkcjlalkniaapaaDoorDrawFrameO
import Derived.Test.YtkcjlalkniaapaaDoorFramesPlain
import Derived.Test.YtkcjlalkniaapaaDoorScanI
import Derived.Test.YtkcjlalkniaapaaDoorEqSpot
import Derived.Laws.StructEq
import Derived.Lib.Builder
import Derived.Deep.RegionHeld3
import Derived.Deep.QuietTactic
import Derived.Deep.RegionWith
namespace Go.Proofs.YtkcjlalkniaapaaDoor
open Go.RowKit
open Plain

/-- "tail" -/
def tailS : ByteArray := ⟨#[116, 97, 105, 108]⟩

theorem slice_of_own {T : TypeId} {w : World} {base : Nat} {v : Value} {xs : List SpotV} (h : spotSh.Own T w base v xs) : ∃ a cap, v = .slice a xs.length cap := by
  rcases h.2 with ⟨e, h0⟩ | ⟨g, c, cur, e, _⟩
  · exact ⟨none, 0, by rw [e, h0]⟩
  · exact ⟨_, _, e⟩

theorem row_set {W : World} {D : Nat} {cs : Array Value} {T : TypeId} {fr : Nat × Nat} (h : W.heap[D]? = some (.cells cs T fr)) (j : Nat) (v : Value) : (W.setCell ⟨D, j, none⟩ v).heap[D]? = some (.cells (cs.setIfInBounds j v) T fr) := by
  obtain ⟨hlt, hk⟩ := Array.getElem?_eq_some_iff.1 h
  show (W.heap.modify D _)[D]? = _
  rw [Array.getElem?_eq_getElem (by rw [Array.size_modify]; exact hlt), Array.getElem_modify_self, hk]
  rfl
theorem row_set6 {W : World} {D : Nat} {a0 a1 a2 a3 a4 a5 : Value} {T : TypeId} {fr : Nat × Nat} (h : W.heap[D]? = some (.cells #[a0, a1, a2, a3, a4, a5] T fr)) (b0 b1 b2 b3 b4 b5 : Value) :
    ((((((W.setCell ⟨D, 0, none⟩ b0).setCell ⟨D, 1, none⟩ b1).setCell ⟨D, 2, none⟩ b2).setCell ⟨D, 3, none⟩ b3).setCell ⟨D, 4, none⟩ b4).setCell ⟨D, 5, none⟩ b5).heap[D]? = some (.cells #[b0, b1, b2, b3, b4, b5] T fr) :=
  row_set (row_set (row_set (row_set (row_set (row_set h 0 b0) 1 b1) 2 b2) 3 b3) 4 b4) 5 b5
theorem below_set6 {W V : World} {n D : Nat} (h : Below n V W) (hD : n ≤ D) (b0 b1 b2 b3 b4 b5 : Value) :
    Below n V ((((((W.setCell ⟨D, 0, none⟩ b0).setCell ⟨D, 1, none⟩ b1).setCell ⟨D, 2, none⟩ b2).setCell ⟨D, 3, none⟩ b3).setCell ⟨D, 4, none⟩ b4).setCell ⟨D, 5, none⟩ b5) :=
  (((((h.setCell (p := ⟨D, 0, none⟩) hD _).setCell (p := ⟨D, 1, none⟩) hD _).setCell (p := ⟨D, 2, none⟩) hD _).setCell (p := ⟨D, 3, none⟩) hD _).setCell (p := ⟨D, 4, none⟩) hD _).setCell (p := ⟨D, 5, none⟩) hD _

set_option maxRecDepth 100000 in
set_option maxHeartbeats 4000000 in
theorem frames_walk (w : World) (a : Option Addr) (len cap : Nat) (zs : List Int) (hc : CodeAt w a len zs) (hl : len ≤ 1048576) (A B : Addr) (ht : STab w) (he : ErrIn w A B) :
    Calls Tryd.prog 3 #[.slice a len cap] w fun e w' => e = .returned (.bool true) ∧ Below w.heap.size w w' := by
  have HC := hide hc
  have HT := hide ht
  have HE := hide he
  have t0 : decide (1048576 < len) = false := by simp; omega
  clear hc ht he
  go_enter Tryd.func3, Tryd.ntmps3
  go_wp2_with (go_at_call 9; refine (big_any _ _ _ _).mono ?_; rw [t0]; rintro e w' ⟨rfl, rfl⟩)
  refine (drawFrame w a len cap zs HC.out).mono ?_
  rintro e w1 ⟨⟨S, rfl, hS⟩, hb1⟩
  have HB1 := hide hb1
  have HF := hide (implFrame_any S (by omega) w1 (HT.out.later hb1))
  clear hb1 t0
  go_wp2_with fail
  refine HF.out.mono ?_
  rintro e w2 ⟨rfl, hb2⟩
  have HB2 := hide (HB1.out.trans (hb2.mono HB1.out.size))
  have hfs := frameS_size S
  have htl : tailS.size = 4 := rfl
  have HU := hide (implUnframe_any (frameS S ++ tailS) (by rw [ByteArray.size_append]; omega) w2 (HT.out.later HB2.out))
  have z1 : ¬ 9223372036854775807 < (frameS S).size + tailS.size := by omega
  clear hb2 HB1 HF
  have htl2 : tailS = ⟨#[116, 97, 105, 108]⟩ := rfl
  by_cases h200 : S.size ≤ 200
  · have hne := frameS_ne S h200
    rw [uf_frame S tailS h200] at HU
    simp only at HU
    rw [htl2] at HU
    have q1 : decide ((S.size : Int) ≤ 200) = true := by simp; omega
    have k1 := str_eq S S rfl
    generalize frameS S = F at *
    have f1 := nil_ne (a := F) (by omega)
    have f2 := not_empty (a := F) (by omega)
    clear h200 htl htl2
    go_wp2_with fail
    refine HU.out.mono ?_
    rintro e w3 ⟨rfl, hb3⟩
    have HB3 := hide (HB2.out.trans (hb3.mono HB2.out.size))
    clear hb3 HU HB2
    go_wp2_with fail
    refine (drawScan_any w3 a len cap zs (HC.out.later HB3.out)).mono ?_
    rintro e w4 ⟨⟨L, rfl, hL⟩, hb4⟩
    have HB4 := hide (HB3.out.trans (hb4.mono HB3.out.size))
    clear hb4 HB3 k1 q1 f1 f2
    have HI := hide (implScan_any L (by omega) A B w4 (HT.out.later HB4.out) (HE.out.later HB4.out (Nat.le_refl _)))
    have hln := scanS_len L
    have HFD := hide (scanS_found L)
    have HCT := hide (scanS_cut L)
    go_wp2_with fail
    refine HI.out.mono ?_
    rintro e w5 ⟨⟨v, rfl, ho5⟩, hb5⟩
    obtain ⟨la, lc, rfl⟩ := slice_of_own ho5
    have HB5 := hide (HB4.out.trans (hb5.mono HB4.out.size))
    have HO5 := hide ho5.row
    clear hb5 ho5 HB4 HI
    have HS := hide (specScan_any L (by omega) w5)
    go_wp2_with fail
    refine HS.out.mono ?_
    rintro e w6 ⟨⟨ma, mn, mc, rfl, ho6⟩, hb6⟩
    obtain rfl := ho6.len
    have HB6 := hide (HB5.out.trans (hb6.mono HB5.out.size))
    have HL6 := hide (HO5.out.later hb6)
    have HM6 := hide ho6.row
    have HC6 := hide (HC.out.later HB6.out)
    clear hb6 ho6 HB5 HO5 HS
    have HSE : Hid ((scanS ByteArray.empty).1 = [] ∧ (scanS ByteArray.empty).2 = 0) := hide ⟨rfl, rfl⟩
    have HRA : Hid (∀ i, (h : i < (scanS L).1.length) → ∀ W, Below w.heap.size w W → Calls Tryd.prog 17 #[.string L, .int .i64 ((scanS L).1[i].pos : Nat), .int .i64 ((scanS L).1[i].len : Nat)] W fun e w' => e = .returned (.tuple #[.agg #[.int .i64 (scanS L).1[i].r.kind, .int .i64 (scanS L).1[i].r.batch, .string (scanS L).1[i].r.key, .string (scanS L).1[i].r.val, .int .i64 (scanS L).1[i].r.cnt, .int .i64 (scanS L).1[i].r.sum], .bool true]) ∧ Below W.heap.size W w') := hide (fun i h W hW => by
      have hq := implRecAt_any L (by omega) ((scanS L).1[i].pos : Int) ((scanS L).1[i].len : Int) W A B (HT.out.later hW) (HE.out.later hW (Nat.le_refl _))
      rw [(HFD.out i h).2] at hq
      exact hq)
    clear HFD
    obtain ⟨X, HX⟩ : ∃ X, Hid ((scanS L).1 = X) := ⟨_, hide rfl⟩
    have HEX : Hid (∀ k, k ≤ L.size → (scanS (L.extract 0 k)).1 <+: X) := hide (fun k h => by rw [← HX.out]; exact HCT.out k h)
    generalize (scanS L).1 = X0 at *
    obtain rfl : X0 = X := HX.out
    generalize (scanS L).2 = fin at *
    clear HX HCT
    by_cases hz : L.size = 0
    · have hz2 : decide ((0 : Int) < (L.size : Int)) = false := by simp [hz]
      obtain rfl : X0 = [] := by cases X0 with | nil => rfl | cons x y => simp at hln; omega
      have HI := hide (implScan_any ByteArray.empty (by decide) A B w6 (HT.out.later HB6.out) (HE.out.later HB6.out (Nat.le_refl _)))
      rw [HSE.out.1, HSE.out.2] at HI
      clear HRA HEX HSE
      go_wp2_with fail
      refine HI.out.mono ?_
      rintro e w7 ⟨⟨v, rfl, ho7⟩, hb7⟩
      obtain ⟨pa, pc, rfl⟩ := slice_of_own ho7
      have HB7 := hide (HB6.out.trans (hb7.mono HB6.out.size))
      clear hb7 ho7 HI HB6 HL6 HM6 HC6
      go_wp2
      refine wp_loop_rounds 1 ?_
      rw [rounds_succ]
      go_wp2
      go_ret
      exact ⟨rfl, HB7.out⟩
    · have hz2 : decide ((0 : Int) < (L.size : Int)) = true := by simp; omega
      have hd0 := atV_bd zs 0 HC6.out.bytes
      have hd1 := atV_bd zs 1 HC6.out.bytes
      have HA0 := hide (at_any 0 (by omega) w6 a len cap zs HC6.out)
      have HA1 := hide (at_any 1 (by omega) w6 a len cap zs HC6.out)
      generalize atV zs 0 = d0 at *
      generalize atV zs 1 = d1 at *
      obtain ⟨k, hk⟩ : ∃ k : Nat, (d0 * 256 + d1) % ((L.size : Int) + 1) = (k : Int) := Int.eq_ofNat_of_zero_le (Int.emod_nonneg _ (by omega))
      have hkL : k ≤ L.size := by have := Int.emod_lt_of_pos (d0 * 256 + d1) (b := (L.size : Int) + 1) (by omega); omega
      have b1 : (0 : Int) ≤ (k : Int) := by omega
      have b2 : (k : Int) ≤ (L.size : Int) := by omega
      have hxz : (L.extract 0 k).size = k := by rw [ba_len _ _ _ (by omega) hkL]; omega
      have HI := hide (implScan_any (L.extract 0 k) (by omega) A B w6 (HT.out.later HB6.out) (HE.out.later HB6.out (Nat.le_refl _)))
      have hle := scanS_le (L.extract 0 k)
      have hpre := HEX.out k hkL
      have hpl := hpre.length_le
      have HPG := hide hpre
      rw [hxz] at hle
      obtain ⟨Y, HY⟩ : ∃ Y, Hid (L.extract 0 k = Y) := ⟨_, hide rfl⟩
      rw [HY.out] at HI hle hpl HPG
      clear hpre HEX hxz
      generalize (scanS Y).1 = P at *
      generalize (scanS Y).2 = cut at *
      go_wp2_with fail
      refine HA0.out.mono ?_
      rintro e w7 ⟨rfl, rfl⟩
      go_wp2_with fail
      refine HA1.out.mono ?_
      rintro e w7 ⟨rfl, rfl⟩
      clear HA0 HA1
      go_wp2_with fail
      try rw [hk]
      try rw [Int.toNat_natCast]
      rw [HY.out]
      refine HI.out.mono ?_
      rintro e w7 ⟨⟨v, rfl, ho7⟩, hb7⟩
      obtain ⟨pa, pc, rfl⟩ := slice_of_own ho7
      have HB7 := hide (HB6.out.trans (hb7.mono HB6.out.size))
      have HL7 := hide (HL6.out.later hb7)
      have HM7 := hide (HM6.out.later hb7)
      have HP7 := hide ho7.row
      have c1 : decide ((k : Int) < (cut : Int)) = false := by simp; omega
      have c2 : decide ((X0.length : Int) < (P.length : Int)) = false := by simp; omega
      have n1 : ¬ k < cut := by omega
      have n2 : ¬ X0.length < P.length := by omega
      have e1 : decide (k < cut) = false := decide_eq_false n1
      have e2 : decide (X0.length < P.length) = false := decide_eq_false n2
      clear hb7 ho7 HI HB6 HL6 HM6 HC6 hk hd0 hd1
      go_wp2
      clear c1 c2 n1 n2 e1 e2
      go_loopw [15] (fun x wr => ∃ i : Nat, i ≤ X0.length ∧ x = .int .i64 i ∧ Hid (Below w7.heap.size w7 wr)) (fun x _ => X0.length - (intOf x).toNat)
      case atStart => exact ⟨0, by omega, rfl, hide (Below.refl _ _)⟩
      case round =>
        obtain ⟨i, hi, rfl, HW⟩ := hrel
        by_cases hlt : i < X0.length
        · obtain ⟨gl, ol, rfl, hgl, l0, l1, l2, l3, l4, l5, l6, l7⟩ := spot_cells (HL7.out.later HW.out) i hlt
          have HQ := hide (fun W hW => HRA.out i hlt W hW)
          have hi2 : (i : Int) < (X0.length : Int) := by omega
          have HBr : Hid (∀ W, Below wr.heap.size wr W → Below w.heap.size w W) := hide (fun W h => HB7.out.trans ((HW.out.trans (h.mono HW.out.size)).mono HB7.out.size))
          have HCL : Hid (∀ W, Below wr.heap.size wr W → W.cell? ⟨gl, ol + i * 8, none⟩ = some (.int .i64 (X0[i].pos : Nat)) ∧ W.cell? ⟨gl, ol + i * 8 + 1, none⟩ = some (.int .i64 (X0[i].len : Nat))) := hide (fun W h => ⟨(h.cell (p := ⟨gl, ol + i * 8, none⟩) hgl).trans l0, (h.cell (p := ⟨gl, ol + i * 8 + 1, none⟩) hgl).trans l1⟩)
          have HAL : Hid (∀ o, Below wr.heap.size wr (wr.alloc o)) := hide (fun o => al1 wr o)
          have HQ2 : Hid (∀ W, Below wr.heap.size wr W → Calls Tryd.prog 17 #[.string L, .int .i64 (X0[i].pos : Nat), .int .i64 (X0[i].len : Nat)] W fun e w' => e = .returned (.tuple #[.agg #[.int .i64 X0[i].r.kind, .int .i64 X0[i].r.batch, .string X0[i].r.key, .string X0[i].r.val, .int .i64 X0[i].r.cnt, .int .i64 X0[i].r.sum], .bool true]) ∧ Below W.heap.size W w' ∧ Below wr.heap.size wr w') := hide (fun W hW => (HQ.out W (HBr.out W hW)).mono fun _ _ ⟨h1, h2⟩ => ⟨h1, h2, hW.trans (h2.mono hW.size)⟩)
          clear HQ
          have hD0 := HCL.out wr (Below.refl _ wr)
          have hD1 := HCL.out wr.drew (Below.refl _ wr).drew
          go_wp2_with fail
          go_region_held3 (fun w' => w'.cell? ⟨gl, ol + i * 8, none⟩ = some (.int .i64 (X0[i].pos : Nat)) ∧ w'.cell? ⟨gl, ol + i * 8 + 1, none⟩ = some (.int .i64 (X0[i].len : Nat))) (first | (with_reducible assumption) | (with_reducible exact HCL.out _ (HAL.out _)) | (with_reducible exact HCL.out _ (HAL.out _).drew) | (with_reducible exact HCL.out _ (hn8.alloc hn8.size _)) | (with_reducible exact HCL.out _ (below_set6 hn8 (Nat.le_refl _) _ _ _ _ _ _))) ((go_at_call 17; refine (HQ2.out _ (by first | (with_reducible exact (Below.refl _ wr).drew) | (with_reducible exact (HAL.out _).drew))).mono ?_; rintro e w8 ⟨rfl, hb8, hn8⟩; have hS8 := HCL.out w8 hn8; first | (have hrow : w8.heap[wr.heap.size]? = some (.cells #[.int .i64 0, .int .i64 0, .string ⟨#[]⟩, .string ⟨#[]⟩, .int .i64 0, .int .i64 0] 33 (0, 0)) := (hb8.block wr.heap.size (by simp)).trans (heap_alloc_new wr _); have HROW := hide hrow; have g0 := Lib.frozen_of_heap hrow 0; have g1 := Lib.frozen_of_heap hrow 1; have g2 := Lib.frozen_of_heap hrow 2; have g3 := Lib.frozen_of_heap hrow 3; have g4 := Lib.frozen_of_heap hrow 4; have g5 := Lib.frozen_of_heap hrow 5; have y0 : w8.cell? ⟨wr.heap.size, 0, none⟩ = _ := cell_of_row w8 _ 0 _ _ _ hrow; have y1 : w8.cell? ⟨wr.heap.size, 1, none⟩ = _ := cell_of_row w8 _ 1 _ _ _ hrow; have y2 : w8.cell? ⟨wr.heap.size, 2, none⟩ = _ := cell_of_row w8 _ 2 _ _ _ hrow; have y3 : w8.cell? ⟨wr.heap.size, 3, none⟩ = _ := cell_of_row w8 _ 3 _ _ _ hrow; have y4 : w8.cell? ⟨wr.heap.size, 4, none⟩ = _ := cell_of_row w8 _ 4 _ _ _ hrow; have y5 : w8.cell? ⟨wr.heap.size, 5, none⟩ = _ := cell_of_row w8 _ 5 _ _ _ hrow; clear hrow) | skip))
          · obtain ⟨V, HV⟩ : ∃ V, Hid (w8.alloc (.cells #[.int .i64 X0[i].r.kind, .int .i64 X0[i].r.batch, .string X0[i].r.key, .string X0[i].r.val, .int .i64 X0[i].r.cnt, .int .i64 X0[i].r.sum] 33) = V) := ⟨_, hide rfl⟩
            have hbV : Below wr.heap.size wr V := by rw [← HV.out]; exact hn8.alloc hn8.size _
            obtain ⟨D, hD⟩ : ∃ D, w8.heap.size = D := ⟨_, rfl⟩
            have hV : V.heap[D]? = some (.cells #[.int .i64 X0[i].r.kind, .int .i64 X0[i].r.batch, .string X0[i].r.key, .string X0[i].r.val, .int .i64 X0[i].r.cnt, .int .i64 X0[i].r.sum] 33 (0, 0)) := by rw [← HV.out, ← hD]; exact heap_alloc_new w8 _
            rw [HV.out, hD]
            clear HV hD hS8 hn8 hb8 l0 l1 l2 l3 l4 l5 l6 l7
            have HBV := hide (HBr.out V hbV)
            have HWV := hide (HW.out.trans (hbV.mono HW.out.size))
            obtain ⟨gl2, ol2, eL, -, l0, l1, l2, l3, l4, l5, l6, l7⟩ := spot_cells (HL7.out.later HWV.out) i hlt
            obtain ⟨rfl, rfl⟩ : gl2 = gl ∧ ol2 = ol := by simpa [eq_comm] using eL
            obtain ⟨gm, om, rfl, -, m0, m1, m2, m3, m4, m5, m6, m7⟩ := spot_cells (HM7.out.later HWV.out) i hlt
            have r0 : V.cell? ⟨D, 0, none⟩ = _ := cell_of_row V _ 0 _ _ _ hV
            have r1 : V.cell? ⟨D, 1, none⟩ = _ := cell_of_row V _ 1 _ _ _ hV
            have r2 : V.cell? ⟨D, 2, none⟩ = _ := cell_of_row V _ 2 _ _ _ hV
            have r3 : V.cell? ⟨D, 3, none⟩ = _ := cell_of_row V _ 3 _ _ _ hV
            have r4 : V.cell? ⟨D, 4, none⟩ = _ := cell_of_row V _ 4 _ _ _ hV
            have r5 : V.cell? ⟨D, 5, none⟩ = _ := cell_of_row V _ 5 _ _ _ hV
            have k1 := str_eq X0[i].r.key X0[i].r.key rfl
            have k2 := str_eq X0[i].r.val X0[i].r.val rfl
            clear hV hbV HCL HAL HBr HQ2 hD0 hD1 eL HW
            by_cases hp : i < P.length
            · obtain ⟨gp, op, rfl, -, p0, p1, p2, p3, p4, p5, p6, p7⟩ := spot_cells (HP7.out.later HWV.out) i hp
              have hpe : P[i] = X0[i] := HPG.out.getElem hp
              rw [hpe] at p0 p1 p2 p3 p4 p5 p6 p7
              have hp2 : (i : Int) < (P.length : Int) := by omega
              clear hpe
              generalize X0[i] = x at *
              go_wp2
              go_quiet (fail)
              have HWN : Hid (Below w7.heap.size w7 (V.drewN nq)) := hide ⟨HWV.out.os, HWV.out.tape, HWV.out.output, HWV.out.size, HWV.out.block⟩
              go_wp2
              go_roundw
              case rel => exact ⟨i + 1, by omega, by go_num, HWN⟩
              case measure => first | (simp [intOf]; done) | (simp [intOf]; omega)
            · have hp2 : ¬ (i : Int) < (P.length : Int) := by omega
              generalize X0[i] = x at *
              go_wp2
              go_quiet (fail)
              have HWN : Hid (Below w7.heap.size w7 (V.drewN nq)) := hide ⟨HWV.out.os, HWV.out.tape, HWV.out.output, HWV.out.size, HWV.out.block⟩
              go_wp2
              go_roundw
              case rel => exact ⟨i + 1, by omega, by go_num, HWN⟩
              case measure => first | (simp [intOf]; done) | (simp [intOf]; omega)
          · obtain ⟨V, HV⟩ : ∃ V, Hid (((((((w8.setCell ⟨wr.heap.size, 0, none⟩ (.int .i64 X0[i].r.kind)).setCell ⟨wr.heap.size, 1, none⟩ (.int .i64 X0[i].r.batch)).setCell ⟨wr.heap.size, 2, none⟩ (.string X0[i].r.key)).setCell ⟨wr.heap.size, 3, none⟩ (.string X0[i].r.val)).setCell ⟨wr.heap.size, 4, none⟩ (.int .i64 X0[i].r.cnt)).setCell ⟨wr.heap.size, 5, none⟩ (.int .i64 X0[i].r.sum)) = V) := ⟨_, hide rfl⟩
            have hbV : Below wr.heap.size wr V := by rw [← HV.out]; exact below_set6 hn8 (Nat.le_refl _) _ _ _ _ _ _
            have hV : V.heap[wr.heap.size]? = some (.cells #[.int .i64 X0[i].r.kind, .int .i64 X0[i].r.batch, .string X0[i].r.key, .string X0[i].r.val, .int .i64 X0[i].r.cnt, .int .i64 X0[i].r.sum] 33 (0, 0)) := by rw [← HV.out]; exact row_set6 HROW.out _ _ _ _ _ _
            rw [HV.out]
            obtain ⟨D, hD⟩ : ∃ D, wr.heap.size = D := ⟨_, rfl⟩
            rw [hD] at hV ⊢
            clear HV hD hS8 hn8 hb8 HROW g0 g1 g2 g3 g4 g5 y0 y1 y2 y3 y4 y5 l0 l1 l2 l3 l4 l5 l6 l7
            have HBV := hide (HBr.out V hbV)
            have HWV := hide (HW.out.trans (hbV.mono HW.out.size))
            obtain ⟨gl2, ol2, eL, -, l0, l1, l2, l3, l4, l5, l6, l7⟩ := spot_cells (HL7.out.later HWV.out) i hlt
            obtain ⟨rfl, rfl⟩ : gl2 = gl ∧ ol2 = ol := by simpa [eq_comm] using eL
            obtain ⟨gm, om, rfl, -, m0, m1, m2, m3, m4, m5, m6, m7⟩ := spot_cells (HM7.out.later HWV.out) i hlt
            have r0 : V.cell? ⟨D, 0, none⟩ = _ := cell_of_row V _ 0 _ _ _ hV
            have r1 : V.cell? ⟨D, 1, none⟩ = _ := cell_of_row V _ 1 _ _ _ hV
            have r2 : V.cell? ⟨D, 2, none⟩ = _ := cell_of_row V _ 2 _ _ _ hV
            have r3 : V.cell? ⟨D, 3, none⟩ = _ := cell_of_row V _ 3 _ _ _ hV
            have r4 : V.cell? ⟨D, 4, none⟩ = _ := cell_of_row V _ 4 _ _ _ hV
            have r5 : V.cell? ⟨D, 5, none⟩ = _ := cell_of_row V _ 5 _ _ _ hV
            have k1 := str_eq X0[i].r.key X0[i].r.key rfl
            have k2 := str_eq X0[i].r.val X0[i].r.val rfl
            clear hV hbV HCL HAL HBr HQ2 hD0 hD1 eL HW
            by_cases hp : i < P.length
            · obtain ⟨gp, op, rfl, -, p0, p1, p2, p3, p4, p5, p6, p7⟩ := spot_cells (HP7.out.later HWV.out) i hp
              have hpe : P[i] = X0[i] := HPG.out.getElem hp
              rw [hpe] at p0 p1 p2 p3 p4 p5 p6 p7
              have hp2 : (i : Int) < (P.length : Int) := by omega
              clear hpe
              generalize X0[i] = x at *
              go_wp2
              go_quiet (fail)
              have HWN : Hid (Below w7.heap.size w7 (V.drewN nq)) := hide ⟨HWV.out.os, HWV.out.tape, HWV.out.output, HWV.out.size, HWV.out.block⟩
              go_wp2
              go_roundw
              case rel => exact ⟨i + 1, by omega, by go_num, HWN⟩
              case measure => first | (simp [intOf]; done) | (simp [intOf]; omega)
            · have hp2 : ¬ (i : Int) < (P.length : Int) := by omega
              generalize X0[i] = x at *
              go_wp2
              go_quiet (fail)
              have HWN : Hid (Below w7.heap.size w7 (V.drewN nq)) := hide ⟨HWV.out.os, HWV.out.tape, HWV.out.output, HWV.out.size, HWV.out.block⟩
              go_wp2
              go_roundw
              case rel => exact ⟨i + 1, by omega, by go_num, HWN⟩
              case measure => first | (simp [intOf]; done) | (simp [intOf]; omega)
        · obtain rfl : i = X0.length := by omega
          have HBE := hide (HB7.out.trans (HW.out.mono HB7.out.size))
          go_wp2
          go_ret
          exact ⟨rfl, HBE.out⟩
  · have hne : (frameS S).size = 0 := by rw [frameS_out S h200]; rfl
    rw [htl2] at HU
    have q1 : decide ((S.size : Int) ≤ 200) = false := by simp; omega
    have k1 := str_eq S S rfl
    generalize frameS S = F at *
    have f1 := nil_eq (a := F) hne
    have f2 : F.toList.isEmpty = true := by rw [f1]; rfl
    generalize (uf (F ++ ⟨#[116, 97, 105, 108]⟩)).1 = U at *
    generalize (uf (F ++ ⟨#[116, 97, 105, 108]⟩)).2 = un at *
    clear h200 htl htl2
    go_wp2_with fail
    refine HU.out.mono ?_
    rintro e w3 ⟨rfl, hb3⟩
    have HB3 := hide (HB2.out.trans (hb3.mono HB2.out.size))
    clear hb3 HU HB2
    go_wp2_with fail
    refine (drawScan_any w3 a len cap zs (HC.out.later HB3.out)).mono ?_
    rintro e w4 ⟨⟨L, rfl, hL⟩, hb4⟩
    have HB4 := hide (HB3.out.trans (hb4.mono HB3.out.size))
    clear hb4 HB3 k1 q1 f1 f2
    have HI := hide (implScan_any L (by omega) A B w4 (HT.out.later HB4.out) (HE.out.later HB4.out (Nat.le_refl _)))
    have hln := scanS_len L
    have HFD := hide (scanS_found L)
    have HCT := hide (scanS_cut L)
    go_wp2_with fail
    refine HI.out.mono ?_
    rintro e w5 ⟨⟨v, rfl, ho5⟩, hb5⟩
    obtain ⟨la, lc, rfl⟩ := slice_of_own ho5
    have HB5 := hide (HB4.out.trans (hb5.mono HB4.out.size))
    have HO5 := hide ho5.row
    clear hb5 ho5 HB4 HI
    have HS := hide (specScan_any L (by omega) w5)
    go_wp2_with fail
    refine HS.out.mono ?_
    rintro e w6 ⟨⟨ma, mn, mc, rfl, ho6⟩, hb6⟩
    obtain rfl := ho6.len
    have HB6 := hide (HB5.out.trans (hb6.mono HB5.out.size))
    have HL6 := hide (HO5.out.later hb6)
    have HM6 := hide ho6.row
    have HC6 := hide (HC.out.later HB6.out)
    clear hb6 ho6 HB5 HO5 HS
    have HSE : Hid ((scanS ByteArray.empty).1 = [] ∧ (scanS ByteArray.empty).2 = 0) := hide ⟨rfl, rfl⟩
    have HRA : Hid (∀ i, (h : i < (scanS L).1.length) → ∀ W, Below w.heap.size w W → Calls Tryd.prog 17 #[.string L, .int .i64 ((scanS L).1[i].pos : Nat), .int .i64 ((scanS L).1[i].len : Nat)] W fun e w' => e = .returned (.tuple #[.agg #[.int .i64 (scanS L).1[i].r.kind, .int .i64 (scanS L).1[i].r.batch, .string (scanS L).1[i].r.key, .string (scanS L).1[i].r.val, .int .i64 (scanS L).1[i].r.cnt, .int .i64 (scanS L).1[i].r.sum], .bool true]) ∧ Below W.heap.size W w') := hide (fun i h W hW => by
      have hq := implRecAt_any L (by omega) ((scanS L).1[i].pos : Int) ((scanS L).1[i].len : Int) W A B (HT.out.later hW) (HE.out.later hW (Nat.le_refl _))
      rw [(HFD.out i h).2] at hq
      exact hq)
    clear HFD
    obtain ⟨X, HX⟩ : ∃ X, Hid ((scanS L).1 = X) := ⟨_, hide rfl⟩
    have HEX : Hid (∀ k, k ≤ L.size → (scanS (L.extract 0 k)).1 <+: X) := hide (fun k h => by rw [← HX.out]; exact HCT.out k h)
    generalize (scanS L).1 = X0 at *
    obtain rfl : X0 = X := HX.out
    generalize (scanS L).2 = fin at *
    clear HX HCT
    by_cases hz : L.size = 0
    · have hz2 : decide ((0 : Int) < (L.size : Int)) = false := by simp [hz]
      obtain rfl : X0 = [] := by cases X0 with | nil => rfl | cons x y => simp at hln; omega
      have HI := hide (implScan_any ByteArray.empty (by decide) A B w6 (HT.out.later HB6.out) (HE.out.later HB6.out (Nat.le_refl _)))
      rw [HSE.out.1, HSE.out.2] at HI
      clear HRA HEX HSE
      go_wp2_with fail
      refine HI.out.mono ?_
      rintro e w7 ⟨⟨v, rfl, ho7⟩, hb7⟩
      obtain ⟨pa, pc, rfl⟩ := slice_of_own ho7
      have HB7 := hide (HB6.out.trans (hb7.mono HB6.out.size))
      clear hb7 ho7 HI HB6 HL6 HM6 HC6
      go_wp2
      refine wp_loop_rounds 1 ?_
      rw [rounds_succ]
      go_wp2
      go_ret
      exact ⟨rfl, HB7.out⟩
    · have hz2 : decide ((0 : Int) < (L.size : Int)) = true := by simp; omega
      have hd0 := atV_bd zs 0 HC6.out.bytes
      have hd1 := atV_bd zs 1 HC6.out.bytes
      have HA0 := hide (at_any 0 (by omega) w6 a len cap zs HC6.out)
      have HA1 := hide (at_any 1 (by omega) w6 a len cap zs HC6.out)
      generalize atV zs 0 = d0 at *
      generalize atV zs 1 = d1 at *
      obtain ⟨k, hk⟩ : ∃ k : Nat, (d0 * 256 + d1) % ((L.size : Int) + 1) = (k : Int) := Int.eq_ofNat_of_zero_le (Int.emod_nonneg _ (by omega))
      have hkL : k ≤ L.size := by have := Int.emod_lt_of_pos (d0 * 256 + d1) (b := (L.size : Int) + 1) (by omega); omega
      have b1 : (0 : Int) ≤ (k : Int) := by omega
      have b2 : (k : Int) ≤ (L.size : Int) := by omega
      have hxz : (L.extract 0 k).size = k := by rw [ba_len _ _ _ (by omega) hkL]; omega
      have HI := hide (implScan_any (L.extract 0 k) (by omega) A B w6 (HT.out.later HB6.out) (HE.out.later HB6.out (Nat.le_refl _)))
      have hle := scanS_le (L.extract 0 k)
      have hpre := HEX.out k hkL
      have hpl := hpre.length_le
      have HPG := hide hpre
      rw [hxz] at hle
      obtain ⟨Y, HY⟩ : ∃ Y, Hid (L.extract 0 k = Y) := ⟨_, hide rfl⟩
      rw [HY.out] at HI hle hpl HPG
      clear hpre HEX hxz
      generalize (scanS Y).1 = P at *
      generalize (scanS Y).2 = cut at *
      go_wp2_with fail
      refine HA0.out.mono ?_
      rintro e w7 ⟨rfl, rfl⟩
      go_wp2_with fail
      refine HA1.out.mono ?_
      rintro e w7 ⟨rfl, rfl⟩
      clear HA0 HA1
      go_wp2_with fail
      try rw [hk]
      try rw [Int.toNat_natCast]
      rw [HY.out]
      refine HI.out.mono ?_
      rintro e w7 ⟨⟨v, rfl, ho7⟩, hb7⟩
      obtain ⟨pa, pc, rfl⟩ := slice_of_own ho7
      have HB7 := hide (HB6.out.trans (hb7.mono HB6.out.size))
      have HL7 := hide (HL6.out.later hb7)
      have HM7 := hide (HM6.out.later hb7)
      have HP7 := hide ho7.row
      have c1 : decide ((k : Int) < (cut : Int)) = false := by simp; omega
      have c2 : decide ((X0.length : Int) < (P.length : Int)) = false := by simp; omega
      have n1 : ¬ k < cut := by omega
      have n2 : ¬ X0.length < P.length := by omega
      have e1 : decide (k < cut) = false := decide_eq_false n1
      have e2 : decide (X0.length < P.length) = false := decide_eq_false n2
      clear hb7 ho7 HI HB6 HL6 HM6 HC6 hk hd0 hd1
      go_wp2
      clear c1 c2 n1 n2 e1 e2
      go_loopw [15] (fun x wr => ∃ i : Nat, i ≤ X0.length ∧ x = .int .i64 i ∧ Hid (Below w7.heap.size w7 wr)) (fun x _ => X0.length - (intOf x).toNat)
      case atStart => exact ⟨0, by omega, rfl, hide (Below.refl _ _)⟩
      case round =>
        obtain ⟨i, hi, rfl, HW⟩ := hrel
        by_cases hlt : i < X0.length
        · obtain ⟨gl, ol, rfl, hgl, l0, l1, l2, l3, l4, l5, l6, l7⟩ := spot_cells (HL7.out.later HW.out) i hlt
          have HQ := hide (fun W hW => HRA.out i hlt W hW)
          have hi2 : (i : Int) < (X0.length : Int) := by omega
          have HBr : Hid (∀ W, Below wr.heap.size wr W → Below w.heap.size w W) := hide (fun W h => HB7.out.trans ((HW.out.trans (h.mono HW.out.size)).mono HB7.out.size))
          have HCL : Hid (∀ W, Below wr.heap.size wr W → W.cell? ⟨gl, ol + i * 8, none⟩ = some (.int .i64 (X0[i].pos : Nat)) ∧ W.cell? ⟨gl, ol + i * 8 + 1, none⟩ = some (.int .i64 (X0[i].len : Nat))) := hide (fun W h => ⟨(h.cell (p := ⟨gl, ol + i * 8, none⟩) hgl).trans l0, (h.cell (p := ⟨gl, ol + i * 8 + 1, none⟩) hgl).trans l1⟩)
          have HAL : Hid (∀ o, Below wr.heap.size wr (wr.alloc o)) := hide (fun o => al1 wr o)
          have HQ2 : Hid (∀ W, Below wr.heap.size wr W → Calls Tryd.prog 17 #[.string L, .int .i64 (X0[i].pos : Nat), .int .i64 (X0[i].len : Nat)] W fun e w' => e = .returned (.tuple #[.agg #[.int .i64 X0[i].r.kind, .int .i64 X0[i].r.batch, .string X0[i].r.key, .string X0[i].r.val, .int .i64 X0[i].r.cnt, .int .i64 X0[i].r.sum], .bool true]) ∧ Below W.heap.size W w' ∧ Below wr.heap.size wr w') := hide (fun W hW => (HQ.out W (HBr.out W hW)).mono fun _ _ ⟨h1, h2⟩ => ⟨h1, h2, hW.trans (h2.mono hW.size)⟩)
          clear HQ
          have hD0 := HCL.out wr (Below.refl _ wr)
          have hD1 := HCL.out wr.drew (Below.refl _ wr).drew
          go_wp2_with fail
          go_region_held3 (fun w' => w'.cell? ⟨gl, ol + i * 8, none⟩ = some (.int .i64 (X0[i].pos : Nat)) ∧ w'.cell? ⟨gl, ol + i * 8 + 1, none⟩ = some (.int .i64 (X0[i].len : Nat))) (first | (with_reducible assumption) | (with_reducible exact HCL.out _ (HAL.out _)) | (with_reducible exact HCL.out _ (HAL.out _).drew) | (with_reducible exact HCL.out _ (hn8.alloc hn8.size _)) | (with_reducible exact HCL.out _ (below_set6 hn8 (Nat.le_refl _) _ _ _ _ _ _))) ((go_at_call 17; refine (HQ2.out _ (by first | (with_reducible exact (Below.refl _ wr).drew) | (with_reducible exact (HAL.out _).drew))).mono ?_; rintro e w8 ⟨rfl, hb8, hn8⟩; have hS8 := HCL.out w8 hn8; first | (have hrow : w8.heap[wr.heap.size]? = some (.cells #[.int .i64 0, .int .i64 0, .string ⟨#[]⟩, .string ⟨#[]⟩, .int .i64 0, .int .i64 0] 33 (0, 0)) := (hb8.block wr.heap.size (by simp)).trans (heap_alloc_new wr _); have HROW := hide hrow; have g0 := Lib.frozen_of_heap hrow 0; have g1 := Lib.frozen_of_heap hrow 1; have g2 := Lib.frozen_of_heap hrow 2; have g3 := Lib.frozen_of_heap hrow 3; have g4 := Lib.frozen_of_heap hrow 4; have g5 := Lib.frozen_of_heap hrow 5; have y0 : w8.cell? ⟨wr.heap.size, 0, none⟩ = _ := cell_of_row w8 _ 0 _ _ _ hrow; have y1 : w8.cell? ⟨wr.heap.size, 1, none⟩ = _ := cell_of_row w8 _ 1 _ _ _ hrow; have y2 : w8.cell? ⟨wr.heap.size, 2, none⟩ = _ := cell_of_row w8 _ 2 _ _ _ hrow; have y3 : w8.cell? ⟨wr.heap.size, 3, none⟩ = _ := cell_of_row w8 _ 3 _ _ _ hrow; have y4 : w8.cell? ⟨wr.heap.size, 4, none⟩ = _ := cell_of_row w8 _ 4 _ _ _ hrow; have y5 : w8.cell? ⟨wr.heap.size, 5, none⟩ = _ := cell_of_row w8 _ 5 _ _ _ hrow; clear hrow) | skip))
          · obtain ⟨V, HV⟩ : ∃ V, Hid (w8.alloc (.cells #[.int .i64 X0[i].r.kind, .int .i64 X0[i].r.batch, .string X0[i].r.key, .string X0[i].r.val, .int .i64 X0[i].r.cnt, .int .i64 X0[i].r.sum] 33) = V) := ⟨_, hide rfl⟩
            have hbV : Below wr.heap.size wr V := by rw [← HV.out]; exact hn8.alloc hn8.size _
            obtain ⟨D, hD⟩ : ∃ D, w8.heap.size = D := ⟨_, rfl⟩
            have hV : V.heap[D]? = some (.cells #[.int .i64 X0[i].r.kind, .int .i64 X0[i].r.batch, .string X0[i].r.key, .string X0[i].r.val, .int .i64 X0[i].r.cnt, .int .i64 X0[i].r.sum] 33 (0, 0)) := by rw [← HV.out, ← hD]; exact heap_alloc_new w8 _
            rw [HV.out, hD]
            clear HV hD hS8 hn8 hb8 l0 l1 l2 l3 l4 l5 l6 l7
            have HBV := hide (HBr.out V hbV)
            have HWV := hide (HW.out.trans (hbV.mono HW.out.size))
            obtain ⟨gl2, ol2, eL, -, l0, l1, l2, l3, l4, l5, l6, l7⟩ := spot_cells (HL7.out.later HWV.out) i hlt
            obtain ⟨rfl, rfl⟩ : gl2 = gl ∧ ol2 = ol := by simpa [eq_comm] using eL
            obtain ⟨gm, om, rfl, -, m0, m1, m2, m3, m4, m5, m6, m7⟩ := spot_cells (HM7.out.later HWV.out) i hlt
            have r0 : V.cell? ⟨D, 0, none⟩ = _ := cell_of_row V _ 0 _ _ _ hV
            have r1 : V.cell? ⟨D, 1, none⟩ = _ := cell_of_row V _ 1 _ _ _ hV
            have r2 : V.cell? ⟨D, 2, none⟩ = _ := cell_of_row V _ 2 _ _ _ hV
            have r3 : V.cell? ⟨D, 3, none⟩ = _ := cell_of_row V _ 3 _ _ _ hV
            have r4 : V.cell? ⟨D, 4, none⟩ = _ := cell_of_row V _ 4 _ _ _ hV
            have r5 : V.cell? ⟨D, 5, none⟩ = _ := cell_of_row V _ 5 _ _ _ hV
            have k1 := str_eq X0[i].r.key X0[i].r.key rfl
            have k2 := str_eq X0[i].r.val X0[i].r.val rfl
            clear hV hbV HCL HAL HBr HQ2 hD0 hD1 eL HW
            by_cases hp : i < P.length
            · obtain ⟨gp, op, rfl, -, p0, p1, p2, p3, p4, p5, p6, p7⟩ := spot_cells (HP7.out.later HWV.out) i hp
              have hpe : P[i] = X0[i] := HPG.out.getElem hp
              rw [hpe] at p0 p1 p2 p3 p4 p5 p6 p7
              have hp2 : (i : Int) < (P.length : Int) := by omega
              clear hpe
              generalize X0[i] = x at *
              go_wp2
              go_quiet (fail)
              have HWN : Hid (Below w7.heap.size w7 (V.drewN nq)) := hide ⟨HWV.out.os, HWV.out.tape, HWV.out.output, HWV.out.size, HWV.out.block⟩
              go_wp2
              go_roundw
              case rel => exact ⟨i + 1, by omega, by go_num, HWN⟩
              case measure => first | (simp [intOf]; done) | (simp [intOf]; omega)
            · have hp2 : ¬ (i : Int) < (P.length : Int) := by omega
              generalize X0[i] = x at *
              go_wp2
              go_quiet (fail)
              have HWN : Hid (Below w7.heap.size w7 (V.drewN nq)) := hide ⟨HWV.out.os, HWV.out.tape, HWV.out.output, HWV.out.size, HWV.out.block⟩
              go_wp2
              go_roundw
              case rel => exact ⟨i + 1, by omega, by go_num, HWN⟩
              case measure => first | (simp [intOf]; done) | (simp [intOf]; omega)
          · obtain ⟨V, HV⟩ : ∃ V, Hid (((((((w8.setCell ⟨wr.heap.size, 0, none⟩ (.int .i64 X0[i].r.kind)).setCell ⟨wr.heap.size, 1, none⟩ (.int .i64 X0[i].r.batch)).setCell ⟨wr.heap.size, 2, none⟩ (.string X0[i].r.key)).setCell ⟨wr.heap.size, 3, none⟩ (.string X0[i].r.val)).setCell ⟨wr.heap.size, 4, none⟩ (.int .i64 X0[i].r.cnt)).setCell ⟨wr.heap.size, 5, none⟩ (.int .i64 X0[i].r.sum)) = V) := ⟨_, hide rfl⟩
            have hbV : Below wr.heap.size wr V := by rw [← HV.out]; exact below_set6 hn8 (Nat.le_refl _) _ _ _ _ _ _
            have hV : V.heap[wr.heap.size]? = some (.cells #[.int .i64 X0[i].r.kind, .int .i64 X0[i].r.batch, .string X0[i].r.key, .string X0[i].r.val, .int .i64 X0[i].r.cnt, .int .i64 X0[i].r.sum] 33 (0, 0)) := by rw [← HV.out]; exact row_set6 HROW.out _ _ _ _ _ _
            rw [HV.out]
            obtain ⟨D, hD⟩ : ∃ D, wr.heap.size = D := ⟨_, rfl⟩
            rw [hD] at hV ⊢
            clear HV hD hS8 hn8 hb8 HROW g0 g1 g2 g3 g4 g5 y0 y1 y2 y3 y4 y5 l0 l1 l2 l3 l4 l5 l6 l7
            have HBV := hide (HBr.out V hbV)
            have HWV := hide (HW.out.trans (hbV.mono HW.out.size))
            obtain ⟨gl2, ol2, eL, -, l0, l1, l2, l3, l4, l5, l6, l7⟩ := spot_cells (HL7.out.later HWV.out) i hlt
            obtain ⟨rfl, rfl⟩ : gl2 = gl ∧ ol2 = ol := by simpa [eq_comm] using eL
            obtain ⟨gm, om, rfl, -, m0, m1, m2, m3, m4, m5, m6, m7⟩ := spot_cells (HM7.out.later HWV.out) i hlt
            have r0 : V.cell? ⟨D, 0, none⟩ = _ := cell_of_row V _ 0 _ _ _ hV
            have r1 : V.cell? ⟨D, 1, none⟩ = _ := cell_of_row V _ 1 _ _ _ hV
            have r2 : V.cell? ⟨D, 2, none⟩ = _ := cell_of_row V _ 2 _ _ _ hV
            have r3 : V.cell? ⟨D, 3, none⟩ = _ := cell_of_row V _ 3 _ _ _ hV
            have r4 : V.cell? ⟨D, 4, none⟩ = _ := cell_of_row V _ 4 _ _ _ hV
            have r5 : V.cell? ⟨D, 5, none⟩ = _ := cell_of_row V _ 5 _ _ _ hV
            have k1 := str_eq X0[i].r.key X0[i].r.key rfl
            have k2 := str_eq X0[i].r.val X0[i].r.val rfl
            clear hV hbV HCL HAL HBr HQ2 hD0 hD1 eL HW
            by_cases hp : i < P.length
            · obtain ⟨gp, op, rfl, -, p0, p1, p2, p3, p4, p5, p6, p7⟩ := spot_cells (HP7.out.later HWV.out) i hp
              have hpe : P[i] = X0[i] := HPG.out.getElem hp
              rw [hpe] at p0 p1 p2 p3 p4 p5 p6 p7
              have hp2 : (i : Int) < (P.length : Int) := by omega
              clear hpe
              generalize X0[i] = x at *
              go_wp2
              go_quiet (fail)
              have HWN : Hid (Below w7.heap.size w7 (V.drewN nq)) := hide ⟨HWV.out.os, HWV.out.tape, HWV.out.output, HWV.out.size, HWV.out.block⟩
              go_wp2
              go_roundw
              case rel => exact ⟨i + 1, by omega, by go_num, HWN⟩
              case measure => first | (simp [intOf]; done) | (simp [intOf]; omega)
            · have hp2 : ¬ (i : Int) < (P.length : Int) := by omega
              generalize X0[i] = x at *
              go_wp2
              go_quiet (fail)
              have HWN : Hid (Below w7.heap.size w7 (V.drewN nq)) := hide ⟨HWV.out.os, HWV.out.tape, HWV.out.output, HWV.out.size, HWV.out.block⟩
              go_wp2
              go_roundw
              case rel => exact ⟨i + 1, by omega, by go_num, HWN⟩
              case measure => first | (simp [intOf]; done) | (simp [intOf]; omega)
        · obtain rfl : i = X0.length := by omega
          have HBE := hide (HB7.out.trans (HW.out.mono HB7.out.size))
          go_wp2
          go_ret
          exact ⟨rfl, HBE.out⟩

end Go.Proofs.YtkcjlalkniaapaaDoor
