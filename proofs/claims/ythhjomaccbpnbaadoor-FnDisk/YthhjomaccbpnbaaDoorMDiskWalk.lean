/-
  The law FnDisk, walked: its draws and its first loop.
-/
import Derived.Test.YthhjomaccbpnbaaDoorG08
import Derived.Test.YthhjomaccbpnbaaDoorMSameSpec
import Derived.Test.YthhjomaccbpnbaaDoorG10
import Derived.Test.YthhjomaccbpnbaaDoorG15
namespace Go.Proofs.YthhjomaccbpnbaaDoor
open Go.RowKit Go.Maps
open Plain

theorem set4_sz (w : World) (b : Nat) (v0 v1 v2 v3 : Value) : ((((w.setCell ⟨b, 0, none⟩ v0).setCell ⟨b, 1, none⟩ v1).setCell ⟨b, 2, none⟩ v2).setCell ⟨b, 3, none⟩ v3).heap.size = w.heap.size := set4_size w b v0 v1 v2 v3

set_option maxRecDepth 100000 in
set_option maxHeartbeats 16000000 in
theorem fnDisk_walk (a : Option Addr) (len cap : Nat) (zs : List Int) (w : World) (hc : CodeAt w a len zs) (hl : len ≤ 1048576) (A : SentA) (hA : SentIn w A) :
    Calls Tryd.prog 3 #[.slice a len cap] w fun e w' => e = .returned (.bool true) ∧ Below w.heap.size w w' := by
  have HC := hide hc
  have HSA := hide hA
  have hbig : decide (1048576 < len) = false := by simp; omega
  clear hc hA
  go_enter Tryd.func3, Tryd.ntmps3
  go_wp2_with fail
  refine (big_any a len cap w).mono ?_
  rintro e w0 ⟨rfl, rfl⟩
  rw [hbig]
  go_wp2_with fail
  refine (drawAppend_any w a len cap zs HC.out).mono ?_
  rintro e w1 ⟨⟨a', k, cap', c, u, d, fs, nm, t, rfl, hsm, hnm, ht, ho1⟩, hb1⟩
  obtain ⟨X, hX⟩ : ∃ X, X = (w1.alloc (.cells #[.slice a' k cap', .int .i64 c, .int .i64 u, .bool d] 26)).alloc (.cells #[.string ⟨#[108, 105, 118, 101]⟩, .string ⟨#[115, 101, 103, 49]⟩, .string ⟨#[120]⟩, .string ⟨#[116, 101, 109, 112]⟩] 9) := ⟨_, rfl⟩
  have hAL := alloc2 w1 (.cells #[.slice a' k cap', .int .i64 c, .int .i64 u, .bool d] 26) (.cells #[.string ⟨#[108, 105, 118, 101]⟩, .string ⟨#[115, 101, 103, 49]⟩, .string ⟨#[120]⟩, .string ⟨#[116, 101, 109, 112]⟩] 9)
  rw [← hX] at hAL
  have HBX := hide (hb1.trans (hAL.2.1.mono hb1.size))
  have HDX := hide hAL.2.2.1
  have HTX := hide hAL.2.2.2
  have HXS := hide hAL.1
  have HOX := hide (ho1.later hAL.2.1 (Nat.le_refl _))
  clear hAL ho1 hb1
  go_wp2_with fail
  rw [← hX]
  clear hX
  obtain ⟨bd, hbd⟩ : ∃ b, w1.heap.size = b := ⟨_, rfl⟩
  rw [hbd] at HDX HTX HXS ⊢
  clear hbd
  refine (at_any 0 (by omega) X a len cap zs (HC.out.later HBX.out)).mono ?_
  rintro e w2 ⟨rfl, rfl⟩
  have hat := atV_bd zs 0 HC.out.bytes
  have HM := hide (atV_bd zs 1 HC.out.bytes)
  generalize atV zs 0 = z0 at *
  obtain ⟨q, hq, hq4⟩ : ∃ q : Nat, z0 % 4 = (q : Int) ∧ q < 4 := ⟨(z0 % 4).toNat, by omega, by omega⟩
  obtain ⟨to, hto, htos⟩ : ∃ to : ByteArray, X.cell? ⟨bd + 1, q, none⟩ = some (.string to) ∧ to.size ≤ 5 := by
    rw [cell_of_row X _ _ _ _ _ HTX.out]
    obtain rfl | rfl | rfl | rfl : q = 0 ∨ q = 1 ∨ q = 2 ∨ q = 3 := by omega
    all_goals exact ⟨_, rfl, by decide⟩
  have hq5 : (q : Int) < 4 := by omega
  clear HTX
  go_wp2_with fail
  obtain ⟨m, hm⟩ : ∃ m : Int, atV zs 1 % 12 = m ∧ 0 ≤ m ∧ m < 12 := ⟨_, rfl, by have := HM.out; omega, by have := HM.out; omega⟩
  have HMM := hide hm
  clear hm
  obtain ⟨R, hR⟩ : ∃ R, R = rk fs c u d nm t to m := ⟨_, rfl⟩
  obtain ⟨U, hU⟩ : ∃ U, begU fs c u d = U := ⟨_, rfl⟩
  obtain ⟨D, hD⟩ : ∃ D, begD fs c u d = D := ⟨_, rfl⟩
  have HR := hide hR
  have HU := hide hU
  have HD := hide hD
  have hkl := HOX.out.len
  have HKL := hide hkl
  have hnmB : nm.size ≤ 1048576 := by omega
  have htB : t.size ≤ 1048576 := by omega
  have htoB : to.size ≤ 1048576 := by omega
  have HAT : Hid (a' = none ∨ ∃ g, a' = some ⟨g, 0, none⟩) := hide (by
    rcases HOX.out.at0 with ⟨h, _⟩ | h
    · exact .inl h
    · exact .inr h)
  have hbX : bd < X.heap.size := lt_of_block HDX.out
  clear hR hU hD hq hq4 hto hq5 hat hkl HXS hbig
  go_loopw [7, 8, 9] (fun va vc i wr => ∃ (K : Nat) (vs : List Value), K ≤ 6 ∧ i = .int .i64 K ∧ Hid (LMid X wr c U D R K vs va vc)) (fun _ _ i _ => 6 - (intOf i).toNat)
  case atStart => exact ⟨0, [], by omega, rfl, hide (LMid.start X c U D R)⟩
  case round =>
    obtain ⟨K, vs, hK, rfl, HL⟩ := hrel
    have HDR := hide ((HL.out.bel.block _ hbX).trans HDX.out)
    by_cases h6 : K = 6
    · subst h6
      rw [show (((6 : Nat) : Int)) = 6 from rfl]
      obtain ⟨wL, hwL⟩ : ∃ x : World, x = wr := ⟨_, rfl⟩
      subst hwL
      obtain ⟨g7, cap7, _, _, _, rfl, -⟩ := HL.out.at 0 (by omega)
      obtain ⟨g8, cap8, rfl, -⟩ := HL.out.code 0 (by omega)
      have HLW : Hid (∀ j, StepLaw fs c u d (R j)) := hide (fun j => by rw [HR.out]; exact rk_law fs c u d nm t to m j)
      have HSZ : Hid (∀ j, szFs (R j).1 ≤ 200000) := hide (fun j => by rw [HR.out]; exact rk_sz fs c u d nm t to m hsm.2.1 j)
      have HLN : Hid (∀ j, (R j).1.length ≤ 132) := hide (fun j => by rw [HR.out]; have := rk_len fs c u d nm t to m j; have := HKL.out; omega)
      have HF0 : Hid ((R 0).2 = 0 → (textA fs c u nm).2 = true ∧ textA (R 0).1 c U nm = ((textA fs c u nm).1 ++ t, true)) := hide (fun h => by rw [HR.out] at h ⊢; rw [← HU.out]; exact text_app h)
      have HF4 : Hid ((R 4).2 = 0 → (textA (R 4).1 c U nm).2 = false) := hide (fun h => by rw [HR.out] at h ⊢; rw [← HU.out]; exact text_rem h)
      have HF3 : Hid ((R 3).2 = 0 → textA (R 3).1 c U to = ((textA fs c u nm).1, true)) := hide (fun h => by rw [HR.out] at h ⊢; rw [← HU.out]; exact text_ren h)
      have HTS := hide (textA_sz fs c u nm)
      have HBL0 := hide HL.out.bel
      clear HDR
      go_wp2
      go_loopw [12] (fun x wr => ∃ j : Nat, j ≤ 6 ∧ x = .int .i64 j ∧ Hid (Below wL.heap.size wL wr)) (fun x _ => 6 - (intOf x).toNat)
      case atStart => exact ⟨0, by omega, rfl, hide (Below.refl _ _)⟩
      case round =>
        obtain ⟨j, hj, rfl, HB⟩ := hrel
        have HM2 := hide (HL.out.later HB.out)
        have HDD := hide ((HM2.out.bel.block _ hbX).trans HDX.out)
        have HRD := hide (HOX.out.rowZ.later HM2.out.bel (Nat.le_refl _))
        have HBO := hide (HBX.out.trans (HM2.out.bel.mono HBX.out.size))
        have hbl : bd < wr.heap.size := lt_of_block HDD.out
        have hbl1 : bd ≠ wr.heap.size := by omega
        have hbl2 : wr.heap.size ≠ bd := by omega
        by_cases h6 : j = 6
        · subst h6
          rw [show (((6 : Nat) : Int)) = 6 from rfl]
          obtain ⟨g', cap'', a0, n0, cp0, e, c00, c01, c02, c03, ho0⟩ := HM2.out.at 0 (by omega)
          simp only [Value.slice.injEq, Option.some.injEq, Addr.mk.injEq, and_true, true_and] at e
          obtain ⟨rfl, rfl⟩ := e
          replace c00 : wr.cell? ⟨g7, 0, none⟩ = some (.slice a0 n0 cp0) := by simpa using c00
          replace c01 : wr.cell? ⟨g7, 1, none⟩ = some (.int .i64 c) := by simpa using c01
          replace c02 : wr.cell? ⟨g7, 2, none⟩ = some (.int .i64 U) := by simpa using c02
          replace c03 : wr.cell? ⟨g7, 3, none⟩ = some (.bool D) := by simpa using c03
          have hn0 := ho0.len
          have hn0' : n0 ≤ 132 := by rw [← hn0]; exact HLN.out 0
          obtain ⟨g'', cap3, e, d0⟩ := HM2.out.code 0 (by omega)
          simp only [Value.slice.injEq, Option.some.injEq, Addr.mk.injEq, and_true, true_and] at e
          obtain ⟨rfl, rfl⟩ := e
          obtain ⟨g', cap'', a3, n3, cp3, e, c30, c31, c32, c33, ho3⟩ := HM2.out.at 3 (by omega)
          simp only [Value.slice.injEq, Option.some.injEq, Addr.mk.injEq, and_true, true_and] at e
          obtain ⟨rfl, rfl⟩ := e
          replace c30 : wr.cell? ⟨g7, 12, none⟩ = some (.slice a3 n3 cp3) := by simpa using c30
          replace c31 : wr.cell? ⟨g7, 13, none⟩ = some (.int .i64 c) := by simpa using c31
          replace c32 : wr.cell? ⟨g7, 14, none⟩ = some (.int .i64 U) := by simpa using c32
          replace c33 : wr.cell? ⟨g7, 15, none⟩ = some (.bool D) := by simpa using c33
          have hn3 := ho3.len
          have hn3' : n3 ≤ 132 := by rw [← hn3]; exact HLN.out 3
          obtain ⟨g'', cap3, e, d3⟩ := HM2.out.code 3 (by omega)
          simp only [Value.slice.injEq, Option.some.injEq, Addr.mk.injEq, and_true, true_and] at e
          obtain ⟨rfl, rfl⟩ := e
          obtain ⟨g', cap'', a4, n4, cp4, e, c40, c41, c42, c43, ho4⟩ := HM2.out.at 4 (by omega)
          simp only [Value.slice.injEq, Option.some.injEq, Addr.mk.injEq, and_true, true_and] at e
          obtain ⟨rfl, rfl⟩ := e
          replace c40 : wr.cell? ⟨g7, 16, none⟩ = some (.slice a4 n4 cp4) := by simpa using c40
          replace c41 : wr.cell? ⟨g7, 17, none⟩ = some (.int .i64 c) := by simpa using c41
          replace c42 : wr.cell? ⟨g7, 18, none⟩ = some (.int .i64 U) := by simpa using c42
          replace c43 : wr.cell? ⟨g7, 19, none⟩ = some (.bool D) := by simpa using c43
          have hn4 := ho4.len
          have hn4' : n4 ≤ 132 := by rw [← hn4]; exact HLN.out 4
          obtain ⟨g'', cap3, e, d4⟩ := HM2.out.code 4 (by omega)
          simp only [Value.slice.injEq, Option.some.injEq, Addr.mk.injEq, and_true, true_and] at e
          obtain ⟨rfl, rfl⟩ := e
          obtain ⟨⟨old, was⟩, hT⟩ : ∃ T, textA fs c u nm = T := ⟨_, rfl⟩
          obtain ⟨⟨now, is⟩, hT0⟩ : ∃ T, textA (R 0).1 c U nm = T := ⟨_, rfl⟩
          obtain ⟨⟨x4, gone⟩, hT4⟩ : ∃ T, textA (R 4).1 c U nm = T := ⟨_, rfl⟩
          obtain ⟨⟨moved, there⟩, hT3⟩ : ∃ T, textA (R 3).1 c U to = T := ⟨_, rfl⟩
          have HC1 := hide (specText_any wr a' k cap' fs HRD.out (by omega) (by omega) c u d nm)
          rw [hT] at HC1
          have HC0 : Hid (∀ W', Below wr.heap.size wr W' → Calls Tryd.prog 16 #[.agg #[.slice a0 n0 cp0, .int .i64 c, .int .i64 U, .bool D], .string nm] W' fun e w' => e = .returned (.tuple #[.string now, .bool is]) ∧ Below wr.heap.size wr w') := hide (fun W' hb => by
            have h := implText_any W' a0 n0 cp0 (R 0).1 (ho0.rowZ.later hb (Nat.le_refl _)) (by omega) (by have := HSZ.out 0; omega) c U D nm
            rw [hT0] at h
            exact h.mono (fun e w' ⟨q1, q2⟩ => ⟨q1, hb.trans (q2.mono hb.size)⟩))
          have HC3 : Hid (∀ W', Below wr.heap.size wr W' → Calls Tryd.prog 16 #[.agg #[.slice a3 n3 cp3, .int .i64 c, .int .i64 U, .bool D], .string to] W' fun e w' => e = .returned (.tuple #[.string moved, .bool there]) ∧ Below wr.heap.size wr w') := hide (fun W' hb => by
            have h := implText_any W' a3 n3 cp3 (R 3).1 (ho3.rowZ.later hb (Nat.le_refl _)) (by omega) (by have := HSZ.out 3; omega) c U D to
            rw [hT3] at h
            exact h.mono (fun e w' ⟨q1, q2⟩ => ⟨q1, hb.trans (q2.mono hb.size)⟩))
          have HC4 : Hid (∀ W', Below wr.heap.size wr W' → Calls Tryd.prog 16 #[.agg #[.slice a4 n4 cp4, .int .i64 c, .int .i64 U, .bool D], .string nm] W' fun e w' => e = .returned (.tuple #[.string x4, .bool gone]) ∧ Below wr.heap.size wr w') := hide (fun W' hb => by
            have h := implText_any W' a4 n4 cp4 (R 4).1 (ho4.rowZ.later hb (Nat.le_refl _)) (by omega) (by have := HSZ.out 4; omega) c U D nm
            rw [hT4] at h
            exact h.mono (fun e w' ⟨q1, q2⟩ => ⟨q1, hb.trans (q2.mono hb.size)⟩))
          rw [hT, hT0] at HF0
          rw [hT4] at HF4
          rw [hT, hT3] at HF3
          rw [hT] at HTS
          have hos : old.size ≤ 10000 := by have h1 := HTS.out; have h2 := hsm.2.1; exact Nat.le_trans h1 h2
          clear hT hT0 hT4 hT3 HTS HLW HSZ
          have C00 := hide c00
          have C01 := hide c01
          have C02 := hide c02
          have C03 := hide c03
          have DC0 := hide d0
          clear c00 c01 c02 c03 d0 ho0 hn0 hn0'
          have C30 := hide c30
          have C31 := hide c31
          have C32 := hide c32
          have C33 := hide c33
          have DC3 := hide d3
          clear c30 c31 c32 c33 d3 ho3 hn3 hn3'
          have C40 := hide c40
          have C41 := hide c41
          have C42 := hide c42
          have C43 := hide c43
          have DC4 := hide d4
          clear c40 c41 c42 c43 d4 ho4 hn4 hn4'
          replace HF0 : Hid ((R 0).2 = 0 → was = true ∧ now = old ++ t ∧ is = true) := hide (fun h => by
            have q := HF0.out h
            exact ⟨q.1, (Prod.mk.injEq ..).mp q.2 |>.1, (Prod.mk.injEq ..).mp q.2 |>.2⟩)
          replace HF4 : Hid ((R 4).2 = 0 → gone = false) := hide HF4.out
          replace HF3 : Hid ((R 3).2 = 0 → moved = old ∧ there = true) := hide (fun h => by
            have q := HF3.out h
            exact ⟨(Prod.mk.injEq ..).mp q |>.1, (Prod.mk.injEq ..).mp q |>.2⟩)
          generalize (R 0).2 = r0 at *
          generalize (R 3).2 = r3 at *
          generalize (R 4).2 = r4 at *
          obtain ⟨y0, y1, y2, y3, -⟩ := cells4 HDD.out
          clear HR HU HD HMM HM HC HSA HAT HM2 HRD HLN HL HBL0 HDX HOX HDD
          go_wp2_with fail
          clear y0 y1 y2 y3
          refine HC1.out.mono ?_
          rintro e w1' ⟨rfl, hb⟩
          have HBw1' := hide hb
          clear hb HC1
          have b0 := (HBw1'.out.cell (cell_lt C00.out)).trans C00.out
          have b1 := (HBw1'.out.cell (cell_lt C01.out)).trans C01.out
          have b2 := (HBw1'.out.cell (cell_lt C02.out)).trans C02.out
          have b3 := (HBw1'.out.cell (cell_lt C03.out)).trans C03.out
          go_wp2_with fail
          clear b0 b1 b2 b3
          refine (HC0.out w1' HBw1'.out).mono ?_
          rintro e w2' ⟨rfl, hb⟩
          have HBw2' := hide hb
          clear hb HC0
          have b0 := (HBw2'.out.cell (cell_lt C40.out)).trans C40.out
          have b1 := (HBw2'.out.cell (cell_lt C41.out)).trans C41.out
          have b2 := (HBw2'.out.cell (cell_lt C42.out)).trans C42.out
          have b3 := (HBw2'.out.cell (cell_lt C43.out)).trans C43.out
          go_wp2_with fail
          clear b0 b1 b2 b3
          refine (HC4.out w2' HBw2'.out).mono ?_
          rintro e w3' ⟨rfl, hb⟩
          have HBw3' := hide hb
          clear hb HC4
          have b0 := (HBw3'.out.cell (cell_lt C30.out)).trans C30.out
          have b1 := (HBw3'.out.cell (cell_lt C31.out)).trans C31.out
          have b2 := (HBw3'.out.cell (cell_lt C32.out)).trans C32.out
          have b3 := (HBw3'.out.cell (cell_lt C33.out)).trans C33.out
          go_wp2_with fail
          clear b0 b1 b2 b3
          refine (HC3.out w3' HBw3'.out).mono ?_
          rintro e w4' ⟨rfl, hb⟩
          have HBw4' := hide hb
          clear hb HC3
          have d0 := (HBw4'.out.cell (cell_lt DC0.out)).trans DC0.out
          have d3 := (HBw4'.out.cell (cell_lt DC3.out)).trans DC3.out
          have d4 := (HBw4'.out.cell (cell_lt DC4.out)).trans DC4.out
          have HFIN : Hid (Below w.heap.size w w4') := hide (HBO.out.trans (HBw4'.out.mono HBO.out.size))
          clear DC0 DC3 DC4
          by_cases h0 : r0 = 0
          · obtain ⟨hwas, hnow, his⟩ := HF0.out h0
            subst hwas his
            have hN : old ++ t = now := hnow.symm
            clear hnow
            have t0 : (r0 == 0) = true := by simpa using h0
            have hns : ¬ 9223372036854775807 < old.size + t.size := by omega
            clear h0
            by_cases h4 : r4 = 0
            · have hgo := HF4.out h4
              subst hgo
              have t4 : (r4 == 0) = true := by simpa using h4
              clear h4
              by_cases h3 : r3 = 0
              · obtain ⟨rfl, rfl⟩ := HF3.out h3
                have t3 : (r3 != 0) = false := by simpa using h3
                clear h3
                go_wp2
                go_ret
                exact ⟨rfl, HFIN.out⟩
              · have t3 : (r3 != 0) = true := by simpa using h3
                clear h3
                go_wp2
                go_ret
                exact ⟨rfl, HFIN.out⟩
            · have t4 : (r4 == 0) = false := by simpa using h4
              clear h4
              by_cases h3 : r3 = 0
              · obtain ⟨rfl, rfl⟩ := HF3.out h3
                have t3 : (r3 != 0) = false := by simpa using h3
                clear h3
                go_wp2
                go_ret
                exact ⟨rfl, HFIN.out⟩
              · have t3 : (r3 != 0) = true := by simpa using h3
                clear h3
                go_wp2
                go_ret
                exact ⟨rfl, HFIN.out⟩
          · have t0 : (r0 == 0) = false := by simpa using h0
            clear h0
            by_cases h4 : r4 = 0
            · have hgo := HF4.out h4
              subst hgo
              have t4 : (r4 == 0) = true := by simpa using h4
              clear h4
              by_cases h3 : r3 = 0
              · obtain ⟨rfl, rfl⟩ := HF3.out h3
                have t3 : (r3 != 0) = false := by simpa using h3
                clear h3
                go_wp2
                go_ret
                exact ⟨rfl, HFIN.out⟩
              · have t3 : (r3 != 0) = true := by simpa using h3
                clear h3
                go_wp2
                go_ret
                exact ⟨rfl, HFIN.out⟩
            · have t4 : (r4 == 0) = false := by simpa using h4
              clear h4
              by_cases h3 : r3 = 0
              · obtain ⟨rfl, rfl⟩ := HF3.out h3
                have t3 : (r3 != 0) = false := by simpa using h3
                clear h3
                go_wp2
                go_ret
                exact ⟨rfl, HFIN.out⟩
              · have t3 : (r3 != 0) = true := by simpa using h3
                clear h3
                go_wp2
                go_ret
                exact ⟨rfl, HFIN.out⟩
        · have hj6 : j < 6 := by omega
          have hj6' : (j : Int) < 6 := by omega
          obtain ⟨g', cap'', ax, nx, capx, e, c0, c1, c2, c3, hox⟩ := HM2.out.at j hj6
          simp only [Value.slice.injEq, Option.some.injEq, Addr.mk.injEq, and_true, true_and] at e
          obtain ⟨rfl, rfl⟩ := e
          obtain ⟨g'', cap3, e, hcd⟩ := HM2.out.code j hj6
          simp only [Value.slice.injEq, Option.some.injEq, Addr.mk.injEq, and_true, true_and] at e
          obtain ⟨rfl, rfl⟩ := e
          have HOX2 := hide hox
          have hnx := hox.len
          have HNX : Hid (nx ≤ 132) := hide (by rw [← hnx]; exact HLN.out j)
          obtain ⟨y0, y1, y2, y3, -⟩ := cells4 HDD.out
          obtain ⟨W5, hW5⟩ : ∃ W5, W5 = wr.alloc (.cells #[.slice ax nx capx, .int .i64 c, .int .i64 U, .bool D] 26) := ⟨_, rfl⟩
          have HBW5 : Hid (Below wr.heap.size wr W5) := hide (by rw [hW5]; exact alloc_b _ _)
          have HX5 : Hid (W5.heap[wr.heap.size]? = some (.cells #[.slice ax nx capx, .int .i64 c, .int .i64 U, .bool D] 26 (0, 0))) := hide (by rw [hW5]; exact heap_alloc_new wr _)
          have HO5 := hide (FOwn.later HOX2.out HBW5.out (Nat.le_refl _))
          have HD5 := hide ((HBW5.out.block _ hbl).trans HDD.out)
          have HR5 := hide (HRD.out.later HBW5.out (Nat.le_refl _))
          clear hox hnx h6
          have HLJ := hide (HLW.out j)
          have HSJ := hide (HSZ.out j)
          have HRD6 := hide HRD.out
          clear HLW HSZ HLN HF0 HF4 HF3 HTS HR HD HMM HM HC HSA HAT HM2 HRD
          generalize R j = r at *
          by_cases hcode : r.2 = 0
          · have HGO := hide (HLJ.out.good hcode)
            have hc1 : (r.2 == 0) = true := by simpa using hcode
            have hg8 : g8 < wr.heap.size := cell_lt hcd
            have hg8' : g8 ≠ wr.heap.size := by omega
            obtain ⟨hok, hd0, hu0, hpos⟩ := HGO.out
            rw [HU.out] at hok hpos
            subst hd0
            have HSO := hide (specOk_any W5 ax nx capx r.1 HO5.out.rowZ (by have := HNX.out; omega) (by have := HSJ.out; omega) c U D)
            rw [hok] at HSO
            have hu1 : (u == 0) = false := by simpa using hu0
            have HPOS := hide hpos
            clear hok hpos hu0 HGO hcode
            go_wp2_with fail
            rw [← hW5]
            clear hW5 y0 y1 y2 y3 c0 c1 c2 c3
            refine HSO.out.mono ?_
            rintro e w6 ⟨rfl, hb6⟩
            obtain ⟨p0, p1, p2, p3, -⟩ := cells4 ((hb6.block _ (lt_of_block HD5.out)).trans HD5.out)
            obtain ⟨q0, q1, q2, q3, -⟩ := cells4 ((hb6.block _ (lt_of_block HX5.out)).trans HX5.out)
            have HB6 : Hid (Below wL.heap.size wL w6) := hide (by
              have h1 := HBW5.out.trans (hb6.mono HBW5.out.size)
              exact HB.out.trans (h1.mono HB.out.size))
            clear hb6 HSO
            by_cases hup : 0 < u
            · have t1 : decide (0 < u) = true := by simpa using hup
              have hUu := HPOS.out hup
              subst hUu
              have t2 : ((u - 1) != (u - 1)) = false := by simp
              go_wp2
              go_roundw <;> first | exact ⟨j + 1, by omega, by go_num, HB6⟩ | (simp [intOf]; done) | (simp [intOf]; omega)
            · have t1 : decide (0 < u) = false := by simpa using hup
              go_wp2
              go_roundw <;> first | exact ⟨j + 1, by omega, by go_num, HB6⟩ | (simp [intOf]; done) | (simp [intOf]; omega)
          · have HBA := hide (HLJ.out.bad hcode)
            have hc1 : (r.2 == 0) = false := by simpa using hcode
            obtain ⟨hfs, h1⟩ := HBA.out
            have H1 := hide h1
            have hg8 : g8 < wr.heap.size := cell_lt hcd
            have hg8' : g8 ≠ wr.heap.size := by omega
            obtain ⟨W6, hW6⟩ : ∃ W6, W6 = wr.alloc (.cells #[.slice ax nx capx, .int .i64 c, .int .i64 u, .bool d] 26) := ⟨_, rfl⟩
            have HB56 : Hid (Below wr.heap.size wr W6) := hide (by rw [hW6]; exact alloc_b _ _)
            have HO6 := hide (FOwn.later HOX2.out HB56.out (Nat.le_refl _))
            have HD6 := hide ((HB56.out.block _ hbl).trans HDD.out)
            have HR6 := hide (HRD6.out.later HB56.out (Nat.le_refl _))
            have HSS := hide (specSame_any W6 ax a' nx k capx cap' r.1 fs HO6.out.rowZ HR6.out (by have := HNX.out; omega) (by omega) c u c u d d)
            rw [(eqDB_iff ..).2 ⟨hfs, rfl, rfl, rfl⟩] at HSS
            clear hfs h1 HBA HLJ hcode hW5 HX5 HO5 HD5 HR5 HBW5
            go_wp2_with fail
            rw [← hW6]
            clear hW6 y0 y1 y2 y3 c0 c1 c2 c3
            refine HSS.out.mono ?_
            rintro e w7 ⟨rfl, hb7⟩
            have HD7 := hide ((hb7.block _ (lt_of_block HD6.out)).trans HD6.out)
            have HR7 := hide (HR6.out.later hb7 (Nat.le_refl _))
            have HB7 := hide (HB56.out.trans (hb7.mono HB56.out.size))
            clear hb7 HSS HD6 HR6 HO6 HB56
            obtain ⟨p0, p1, p2, p3, -⟩ := cells4 HD7.out
            go_wp2_with fail
            clear p0 p1 p2 p3
            refine (specOk_any w7 a' k cap' fs HR7.out (by omega) (by omega) c u d).mono ?_
            rintro e w8 ⟨rfl, hb8⟩
            obtain ⟨p0, p1, p2, p3, -⟩ := cells4 ((hb8.block _ (lt_of_block HD7.out)).trans HD7.out)
            have HBW8 := hide (HB7.out.trans (hb8.mono HB7.out.size))
            have hcd8 : w8.cell? ⟨g8, j, none⟩ = some (.int .i64 r.2) := by rw [HBW8.out.cell hg8]; exact hcd
            have HB8 : Hid (Below wL.heap.size wL w8) := hide (HB.out.trans (HBW8.out.mono HB.out.size))
            clear hb8 HBW8 HB7 HD7 HR7 hcd
            by_cases hok : diskOk fs c u = true
            · rw [hok]
              have H2 := hide (H1.out hok)
              clear hok H1
              cases d
              · by_cases hu0 : u = 0
                · have hr1 := H2.out (Or.inr hu0)
                  have t3 : (r.2 != 1) = false := by simpa using hr1
                  have t4 : (u == 0) = true := by simpa using hu0
                  clear hr1 hu0
                  go_wp2
                  go_roundw <;> first | exact ⟨j + 1, by omega, by go_num, HB8⟩ | (simp [intOf]; done) | (simp [intOf]; omega)
                · have t4 : (u == 0) = false := by simpa using hu0
                  clear hu0
                  go_wp2
                  go_roundw <;> first | exact ⟨j + 1, by omega, by go_num, HB8⟩ | (simp [intOf]; done) | (simp [intOf]; omega)
              · have hr1 := H2.out (Or.inl rfl)
                have t3 : (r.2 != 1) = false := by simpa using hr1
                clear hr1
                go_wp2
                go_roundw <;> first | exact ⟨j + 1, by omega, by go_num, HB8⟩ | (simp [intOf]; done) | (simp [intOf]; omega)
            · have hok' : diskOk fs c u = false := by simpa using hok
              rw [hok']
              clear hok hok' H1
              go_wp2
              go_roundw <;> first | exact ⟨j + 1, by omega, by go_num, HB8⟩ | (simp [intOf]; done) | (simp [intOf]; omega)
    · have hK6 : K < 6 := by omega
      obtain ⟨W3, hX3⟩ : ∃ W3, W3 = wr.alloc (.cells #[.slice a' k cap', .int .i64 c, .int .i64 u, .bool d] 26) := ⟨_, rfl⟩
      have HBW3 : Hid (Below wr.heap.size wr W3) := hide (by rw [hX3]; exact alloc_b _ _)
      have HXB : Hid (W3.heap[wr.heap.size]? = some (.cells #[.slice a' k cap', .int .i64 c, .int .i64 u, .bool d] 26 (0, 0))) := hide (by rw [hX3]; exact heap_alloc_new wr _)
      have HBXW := hide (HL.out.bel.trans (HBW3.out.mono HL.out.bel.size))
      have HW3 := hide (HBX.out.trans (HBXW.out.mono HBX.out.size))
      have HRW := hide (HOX.out.rowZ.later HBXW.out (Nat.le_refl _))
      have hbr : bd < wr.heap.size := lt_of_block HDR.out
      have hbr2 : bd ≠ wr.heap.size := by omega
      obtain ⟨y0, y1, y2, y3, -⟩ := cells4 HDR.out
      obtain ⟨z0, z1, z2, z3, -⟩ := cells4 ((HBW3.out.block _ hbr).trans HDR.out)
      clear h6 HBXW
      obtain rfl | rfl | rfl | rfl | rfl | rfl : K = 0 ∨ K = 1 ∨ K = 2 ∨ K = 3 ∨ K = 4 ∨ K = 5 := by omega
      · have eR : R 0 = appF fs c u d nm t := by rw [HR.out]; rfl
        have HCL : Hid (Calls Tryd.prog 7 #[.agg #[.slice a' k cap', .int .i64 c, .int .i64 u, .bool d], .string nm, .string t] W3 fun e w' => (∃ a2 cap2, e = .returned (.tuple #[.agg #[.slice a2 (R 0).1.length cap2, .int .i64 c, .int .i64 U, .bool D], .int .i64 (R 0).2]) ∧ FOwn w' W3.heap.size (.slice a2 (R 0).1.length cap2) (R 0).1) ∧ Below W3.heap.size W3 w') := hide (by
          have h := implAppend_any W3 A (HSA.out.later HW3.out (Nat.le_refl _)) a' k cap' fs HAT.out HRW.out (by omega) (by omega) c u d (by omega) (by omega) nm t hnmB htB
          rw [HU.out, HD.out, ← eR] at h
          exact h)
        clear eR
        go_wp2_with fail
        rw [← hX3]
        clear hX3 y0 y1 y2 y3 z0 z1 z2 z3
        refine HCL.out.mono ?_
        rintro e w4 ⟨⟨a2, cap2, rfl, ho4⟩, hb4⟩
        have HB4 : Hid (Below wr.heap.size wr w4) := hide (HBW3.out.trans (hb4.mono HBW3.out.size))
        have HX4 := hide ((hb4.block _ (lt_of_block HXB.out)).trans HXB.out)
        have HO4 := hide (ho4.mono (base' := wr.heap.size) (by have := HBW3.out.size; omega))
        clear ho4 hb4 HCL
        obtain ⟨x0, x1, x2, x3, f0, f1, f2, f3⟩ := cells4 HX4.out
        go_wp2_with first
          | (at_builtin; have HGX := HG6; clear HGX; refine wpList_app_int rfl (.tmp 99) (.tmp 101) rfl (R 0).2 (HL.out.pre2 HB4.out (Nat.le_refl _) _ _ _ _ _ _ HG6.out) (Nat.le_trans HL.out.bel.size (Nat.le_trans HB4.out.size (by have := HG6.out.size; rw [size_alloc, set4_sz] at this; omega))) (by omega) rfl rfl ?_; intro v'' w8 h8 hg8; have H8 := hide h8; have HG8 := hide hg8; clear h8 hg8)
          | (at_builtin; refine wpList_app_disk rfl (.tmp 95) (.tmp 97) rfl a2 (R 0).1.length cap2 (HL.out.pre HB4.out (Nat.le_refl _) _ _ _ _ _) (by rw [set4_sz]; exact Nat.le_trans HL.out.bel.size HB4.out.size) (by omega) rfl (Eq.trans (b := .slice (some ⟨w4.heap.size, 0, none⟩) 1 1) rfl (by rw [set4_sz])) ?_; intro v' w6 h6 hg6; have H6 := hide h6; have HG6 := hide hg6; clear h6 hg6)
        go_roundw <;> first
          | exact ⟨0 + 1, vs ++ [.slice a2 (R 0).1.length cap2], by omega, by go_num, hide (HL.out.fin HB4.out HX4.out (Nat.le_refl _) HO4.out _ _ _ _ _ _ HG6.out H6.out HG8.out H8.out)⟩
          | (simp [intOf]; done)
          | (simp [intOf]; omega)
      · have eR : R 1 = creF fs c u d nm := by rw [HR.out]; rfl
        have HCL : Hid (Calls Tryd.prog 8 #[.agg #[.slice a' k cap', .int .i64 c, .int .i64 u, .bool d], .string nm] W3 fun e w' => (∃ a2 cap2, e = .returned (.tuple #[.agg #[.slice a2 (R 1).1.length cap2, .int .i64 c, .int .i64 U, .bool D], .int .i64 (R 1).2]) ∧ FOwn w' W3.heap.size (.slice a2 (R 1).1.length cap2) (R 1).1) ∧ Below W3.heap.size W3 w') := hide (by
          have h := implCreate_any W3 A (HSA.out.later HW3.out (Nat.le_refl _)) a' k cap' fs HAT.out HRW.out (by omega) (by omega) c u d (by omega) (by omega) nm hnmB
          rw [HU.out, HD.out, ← eR] at h
          exact h)
        clear eR
        go_wp2_with fail
        rw [← hX3]
        clear hX3 y0 y1 y2 y3 z0 z1 z2 z3
        refine HCL.out.mono ?_
        rintro e w4 ⟨⟨a2, cap2, rfl, ho4⟩, hb4⟩
        have HB4 : Hid (Below wr.heap.size wr w4) := hide (HBW3.out.trans (hb4.mono HBW3.out.size))
        have HX4 := hide ((hb4.block _ (lt_of_block HXB.out)).trans HXB.out)
        have HO4 := hide (ho4.mono (base' := wr.heap.size) (by have := HBW3.out.size; omega))
        clear ho4 hb4 HCL
        obtain ⟨x0, x1, x2, x3, f0, f1, f2, f3⟩ := cells4 HX4.out
        go_wp2_with first
          | (at_builtin; have HGX := HG6; clear HGX; refine wpList_app_int rfl (.tmp 99) (.tmp 101) rfl (R 1).2 (HL.out.pre2 HB4.out (Nat.le_refl _) _ _ _ _ _ _ HG6.out) (Nat.le_trans HL.out.bel.size (Nat.le_trans HB4.out.size (by have := HG6.out.size; rw [size_alloc, set4_sz] at this; omega))) (by omega) rfl rfl ?_; intro v'' w8 h8 hg8; have H8 := hide h8; have HG8 := hide hg8; clear h8 hg8)
          | (at_builtin; refine wpList_app_disk rfl (.tmp 95) (.tmp 97) rfl a2 (R 1).1.length cap2 (HL.out.pre HB4.out (Nat.le_refl _) _ _ _ _ _) (by rw [set4_sz]; exact Nat.le_trans HL.out.bel.size HB4.out.size) (by omega) rfl (Eq.trans (b := .slice (some ⟨w4.heap.size, 0, none⟩) 1 1) rfl (by rw [set4_sz])) ?_; intro v' w6 h6 hg6; have H6 := hide h6; have HG6 := hide hg6; clear h6 hg6)
        go_roundw <;> first
          | exact ⟨1 + 1, vs ++ [.slice a2 (R 1).1.length cap2], by omega, by go_num, hide (HL.out.fin HB4.out HX4.out (Nat.le_refl _) HO4.out _ _ _ _ _ _ HG6.out H6.out HG8.out H8.out)⟩
          | (simp [intOf]; done)
          | (simp [intOf]; omega)
      · have eR : R 2 = synF fs c u d nm := by rw [HR.out]; rfl
        have HCL : Hid (Calls Tryd.prog 9 #[.agg #[.slice a' k cap', .int .i64 c, .int .i64 u, .bool d], .string nm] W3 fun e w' => (∃ a2 cap2, e = .returned (.tuple #[.agg #[.slice a2 (R 2).1.length cap2, .int .i64 c, .int .i64 U, .bool D], .int .i64 (R 2).2]) ∧ FOwn w' W3.heap.size (.slice a2 (R 2).1.length cap2) (R 2).1) ∧ Below W3.heap.size W3 w') := hide (by
          have h := implSync_any W3 A (HSA.out.later HW3.out (Nat.le_refl _)) a' k cap' fs HAT.out HRW.out (by omega) (by omega) c u d (by omega) (by omega) nm hnmB
          rw [HU.out, HD.out, ← eR] at h
          exact h)
        clear eR
        go_wp2_with fail
        rw [← hX3]
        clear hX3 y0 y1 y2 y3 z0 z1 z2 z3
        refine HCL.out.mono ?_
        rintro e w4 ⟨⟨a2, cap2, rfl, ho4⟩, hb4⟩
        have HB4 : Hid (Below wr.heap.size wr w4) := hide (HBW3.out.trans (hb4.mono HBW3.out.size))
        have HX4 := hide ((hb4.block _ (lt_of_block HXB.out)).trans HXB.out)
        have HO4 := hide (ho4.mono (base' := wr.heap.size) (by have := HBW3.out.size; omega))
        clear ho4 hb4 HCL
        obtain ⟨x0, x1, x2, x3, f0, f1, f2, f3⟩ := cells4 HX4.out
        go_wp2_with first
          | (at_builtin; have HGX := HG6; clear HGX; refine wpList_app_int rfl (.tmp 99) (.tmp 101) rfl (R 2).2 (HL.out.pre2 HB4.out (Nat.le_refl _) _ _ _ _ _ _ HG6.out) (Nat.le_trans HL.out.bel.size (Nat.le_trans HB4.out.size (by have := HG6.out.size; rw [size_alloc, set4_sz] at this; omega))) (by omega) rfl rfl ?_; intro v'' w8 h8 hg8; have H8 := hide h8; have HG8 := hide hg8; clear h8 hg8)
          | (at_builtin; refine wpList_app_disk rfl (.tmp 95) (.tmp 97) rfl a2 (R 2).1.length cap2 (HL.out.pre HB4.out (Nat.le_refl _) _ _ _ _ _) (by rw [set4_sz]; exact Nat.le_trans HL.out.bel.size HB4.out.size) (by omega) rfl (Eq.trans (b := .slice (some ⟨w4.heap.size, 0, none⟩) 1 1) rfl (by rw [set4_sz])) ?_; intro v' w6 h6 hg6; have H6 := hide h6; have HG6 := hide hg6; clear h6 hg6)
        go_roundw <;> first
          | exact ⟨2 + 1, vs ++ [.slice a2 (R 2).1.length cap2], by omega, by go_num, hide (HL.out.fin HB4.out HX4.out (Nat.le_refl _) HO4.out _ _ _ _ _ _ HG6.out H6.out HG8.out H8.out)⟩
          | (simp [intOf]; done)
          | (simp [intOf]; omega)
      · have eR : R 3 = renF fs c u d nm to := by rw [HR.out]; rfl
        have HCL : Hid (Calls Tryd.prog 10 #[.agg #[.slice a' k cap', .int .i64 c, .int .i64 u, .bool d], .string nm, .string to] W3 fun e w' => (∃ a2 cap2, e = .returned (.tuple #[.agg #[.slice a2 (R 3).1.length cap2, .int .i64 c, .int .i64 U, .bool D], .int .i64 (R 3).2]) ∧ FOwn w' W3.heap.size (.slice a2 (R 3).1.length cap2) (R 3).1) ∧ Below W3.heap.size W3 w') := hide (by
          have h := implRename_any W3 A (HSA.out.later HW3.out (Nat.le_refl _)) a' k cap' fs HAT.out HRW.out (by omega) (by omega) c u d (by omega) (by omega) nm to hnmB htoB
          rw [HU.out, HD.out, ← eR] at h
          exact h)
        clear eR
        go_wp2_with fail
        rw [← hX3]
        clear hX3 y0 y1 y2 y3 z0 z1 z2 z3
        refine HCL.out.mono ?_
        rintro e w4 ⟨⟨a2, cap2, rfl, ho4⟩, hb4⟩
        have HB4 : Hid (Below wr.heap.size wr w4) := hide (HBW3.out.trans (hb4.mono HBW3.out.size))
        have HX4 := hide ((hb4.block _ (lt_of_block HXB.out)).trans HXB.out)
        have HO4 := hide (ho4.mono (base' := wr.heap.size) (by have := HBW3.out.size; omega))
        clear ho4 hb4 HCL
        obtain ⟨x0, x1, x2, x3, f0, f1, f2, f3⟩ := cells4 HX4.out
        go_wp2_with first
          | (at_builtin; have HGX := HG6; clear HGX; refine wpList_app_int rfl (.tmp 99) (.tmp 101) rfl (R 3).2 (HL.out.pre2 HB4.out (Nat.le_refl _) _ _ _ _ _ _ HG6.out) (Nat.le_trans HL.out.bel.size (Nat.le_trans HB4.out.size (by have := HG6.out.size; rw [size_alloc, set4_sz] at this; omega))) (by omega) rfl rfl ?_; intro v'' w8 h8 hg8; have H8 := hide h8; have HG8 := hide hg8; clear h8 hg8)
          | (at_builtin; refine wpList_app_disk rfl (.tmp 95) (.tmp 97) rfl a2 (R 3).1.length cap2 (HL.out.pre HB4.out (Nat.le_refl _) _ _ _ _ _) (by rw [set4_sz]; exact Nat.le_trans HL.out.bel.size HB4.out.size) (by omega) rfl (Eq.trans (b := .slice (some ⟨w4.heap.size, 0, none⟩) 1 1) rfl (by rw [set4_sz])) ?_; intro v' w6 h6 hg6; have H6 := hide h6; have HG6 := hide hg6; clear h6 hg6)
        go_roundw <;> first
          | exact ⟨3 + 1, vs ++ [.slice a2 (R 3).1.length cap2], by omega, by go_num, hide (HL.out.fin HB4.out HX4.out (Nat.le_refl _) HO4.out _ _ _ _ _ _ HG6.out H6.out HG8.out H8.out)⟩
          | (simp [intOf]; done)
          | (simp [intOf]; omega)
      · have eR : R 4 = remF fs c u d nm := by rw [HR.out]; rfl
        have HCL : Hid (Calls Tryd.prog 11 #[.agg #[.slice a' k cap', .int .i64 c, .int .i64 u, .bool d], .string nm] W3 fun e w' => (∃ a2 cap2, e = .returned (.tuple #[.agg #[.slice a2 (R 4).1.length cap2, .int .i64 c, .int .i64 U, .bool D], .int .i64 (R 4).2]) ∧ FOwn w' W3.heap.size (.slice a2 (R 4).1.length cap2) (R 4).1) ∧ Below W3.heap.size W3 w') := hide (by
          have h := implRemove_any W3 A (HSA.out.later HW3.out (Nat.le_refl _)) a' k cap' fs HAT.out HRW.out (by omega) (by omega) c u d (by omega) (by omega) nm hnmB
          rw [HU.out, HD.out, ← eR] at h
          exact h)
        clear eR
        go_wp2_with fail
        rw [← hX3]
        clear hX3 y0 y1 y2 y3 z0 z1 z2 z3
        refine HCL.out.mono ?_
        rintro e w4 ⟨⟨a2, cap2, rfl, ho4⟩, hb4⟩
        have HB4 : Hid (Below wr.heap.size wr w4) := hide (HBW3.out.trans (hb4.mono HBW3.out.size))
        have HX4 := hide ((hb4.block _ (lt_of_block HXB.out)).trans HXB.out)
        have HO4 := hide (ho4.mono (base' := wr.heap.size) (by have := HBW3.out.size; omega))
        clear ho4 hb4 HCL
        obtain ⟨x0, x1, x2, x3, f0, f1, f2, f3⟩ := cells4 HX4.out
        go_wp2_with first
          | (at_builtin; have HGX := HG6; clear HGX; refine wpList_app_int rfl (.tmp 99) (.tmp 101) rfl (R 4).2 (HL.out.pre2 HB4.out (Nat.le_refl _) _ _ _ _ _ _ HG6.out) (Nat.le_trans HL.out.bel.size (Nat.le_trans HB4.out.size (by have := HG6.out.size; rw [size_alloc, set4_sz] at this; omega))) (by omega) rfl rfl ?_; intro v'' w8 h8 hg8; have H8 := hide h8; have HG8 := hide hg8; clear h8 hg8)
          | (at_builtin; refine wpList_app_disk rfl (.tmp 95) (.tmp 97) rfl a2 (R 4).1.length cap2 (HL.out.pre HB4.out (Nat.le_refl _) _ _ _ _ _) (by rw [set4_sz]; exact Nat.le_trans HL.out.bel.size HB4.out.size) (by omega) rfl (Eq.trans (b := .slice (some ⟨w4.heap.size, 0, none⟩) 1 1) rfl (by rw [set4_sz])) ?_; intro v' w6 h6 hg6; have H6 := hide h6; have HG6 := hide hg6; clear h6 hg6)
        go_roundw <;> first
          | exact ⟨4 + 1, vs ++ [.slice a2 (R 4).1.length cap2], by omega, by go_num, hide (HL.out.fin HB4.out HX4.out (Nat.le_refl _) HO4.out _ _ _ _ _ _ HG6.out H6.out HG8.out H8.out)⟩
          | (simp [intOf]; done)
          | (simp [intOf]; omega)
      · have eR : R 5 = truF fs c u d nm m := by rw [HR.out]; rfl
        have HCL : Hid (Calls Tryd.prog 12 #[.agg #[.slice a' k cap', .int .i64 c, .int .i64 u, .bool d], .string nm, .int .i64 m] W3 fun e w' => (∃ a2 cap2, e = .returned (.tuple #[.agg #[.slice a2 (R 5).1.length cap2, .int .i64 c, .int .i64 U, .bool D], .int .i64 (R 5).2]) ∧ FOwn w' W3.heap.size (.slice a2 (R 5).1.length cap2) (R 5).1) ∧ Below W3.heap.size W3 w') := hide (by
          have h := implTrunc_any W3 A (HSA.out.later HW3.out (Nat.le_refl _)) a' k cap' fs HAT.out HRW.out (by omega) (by omega) c u d (by omega) (by omega) nm m hnmB
          rw [HU.out, HD.out, ← eR] at h
          exact h)
        clear eR
        have HCD : Hid (Calls Tryd.prog 12 #[.agg #[.slice a' k cap', .int .i64 c, .int .i64 u, .bool d], .string nm, .int .i64 m] W3.drew fun e w' => (∃ a2 cap2, e = .returned (.tuple #[.agg #[.slice a2 (R 5).1.length cap2, .int .i64 c, .int .i64 U, .bool D], .int .i64 (R 5).2]) ∧ FOwn w' W3.heap.size (.slice a2 (R 5).1.length cap2) (R 5).1 ∧ w'.heap[wr.heap.size]? = some (.cells #[.slice a' k cap', .int .i64 c, .int .i64 u, .bool d] 26 (0, 0))) ∧ Below W3.heap.size W3 w') := hide (by
          have eR : R 5 = truF fs c u d nm m := by rw [HR.out]; rfl
          have hd : Below W3.heap.size W3 W3.drew := (Below.refl _ _).drew
          have h := implTrunc_any W3.drew A (HSA.out.later (HW3.out.trans (hd.mono HW3.out.size)) (Nat.le_refl _)) a' k cap' fs HAT.out (HRW.out.later hd (Nat.le_refl _)) (by omega) (by omega) c u d (by omega) (by omega) nm m hnmB
          rw [HU.out, HD.out, ← eR] at h
          refine h.mono ?_
          rintro e w' ⟨⟨a2, cap2, q1, q2⟩, q3⟩
          exact ⟨⟨a2, cap2, q1, q2, (q3.block _ (lt_of_block HXB.out)).trans HXB.out⟩, hd.trans q3⟩)
        have HAT1 : Hid (Calls Tryd.prog 6 #[.slice a len cap, .int .i64 1] W3.drew fun e w' => e = .returned (.int .i64 (atV zs 1)) ∧ W3.drew = w') := hide (at_any 1 (by omega) W3.drew a len cap zs (HC.out.later (HW3.out.trans ((Below.refl _ _).drew.mono HW3.out.size))))
        have hm1 := HMM.out
        have hm2 := HM.out
        generalize atV zs 1 = z1' at *
        have HTM : Hid (z1'.tmod 12 = m) := hide (by rw [Int.tmod_eq_emod_of_nonneg (by omega)]; exact hm1.1)
        clear HCL hm1 hm2
        go_wp2
        rw [← hX3]
        clear hX3 y0 y1 y2 y3
        go_region_with (first
          | (go_at_call 6; refine HAT1.out.mono ?_; rintro e w3' ⟨rfl, rfl⟩)
          | (go_at_call 12; rw [HTM.out]; refine HCD.out.mono ?_; rintro e w4 ⟨⟨a2, cap2, rfl, ho4, hx4⟩, hb4⟩; have HB4 : Hid (Below wr.heap.size wr w4) := hide (HBW3.out.trans (hb4.mono HBW3.out.size)); have HX4 := hide hx4; have HO4 := hide (ho4.mono (base' := wr.heap.size) (by have := HBW3.out.size; omega)); obtain ⟨x0, x1, x2, x3, f0, f1, f2, f3⟩ := cells4 hx4; clear ho4 hb4 hx4))
        all_goals
          clear HCD HAT1
          obtain ⟨x0, x1, x2, x3, f0, f1, f2, f3⟩ := cells4 HX4.out
          go_wp2_with first
            | (at_builtin; have HGX := HG6; clear HGX; refine wpList_app_int rfl (.tmp 99) (.tmp 101) rfl (R 5).2 (HL.out.pre2 HB4.out (Nat.le_refl _) _ _ _ _ _ _ HG6.out) (Nat.le_trans HL.out.bel.size (Nat.le_trans HB4.out.size (by have := HG6.out.size; rw [size_alloc, set4_sz] at this; omega))) (by omega) rfl rfl ?_; intro v'' w8 h8 hg8; have H8 := hide h8; have HG8 := hide hg8; clear h8 hg8)
            | (at_builtin; refine wpList_app_disk rfl (.tmp 95) (.tmp 97) rfl a2 (R 5).1.length cap2 (HL.out.pre HB4.out (Nat.le_refl _) _ _ _ _ _) (by rw [set4_sz]; exact Nat.le_trans HL.out.bel.size HB4.out.size) (by omega) rfl (Eq.trans (b := .slice (some ⟨w4.heap.size, 0, none⟩) 1 1) rfl (by rw [set4_sz])) ?_; intro v' w6 h6 hg6; have H6 := hide h6; have HG6 := hide hg6; clear h6 hg6)
          go_roundw <;> first
            | exact ⟨5 + 1, vs ++ [.slice a2 (R 5).1.length cap2], by omega, by go_num, hide (HL.out.fin HB4.out HX4.out (Nat.le_refl _) HO4.out _ _ _ _ _ _ HG6.out H6.out HG8.out H8.out)⟩
            | (simp [intOf]; done)
            | (simp [intOf]; omega)

end Go.Proofs.YthhjomaccbpnbaaDoor
