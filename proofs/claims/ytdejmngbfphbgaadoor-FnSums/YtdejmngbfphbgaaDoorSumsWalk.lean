/-
  The law FnSums, walked: the sums of a text and of the text with up to four bytes in a row turned.
-/
import Derived.Test.YtdejmngbfphbgaaDoorDrawFrame
import Derived.Test.YtdejmngbfphbgaaDoorCrcImpl
import Derived.Test.YtdejmngbfphbgaaDoorCrcSpec
import Derived.Test.YtdejmngbfphbgaaDoorSumsPlain
import Derived.BigQuiet
import Derived.Deep.QuietTactic
import Derived.Deep.RegionHeld
namespace Go.Proofs.YtdejmngbfphbgaaDoor
open Go.RowKit
open Plain

set_option maxRecDepth 100000 in
set_option maxHeartbeats 8000000 in
theorem sums_walk (a : Option Addr) (len cap : Nat) (zs : List Int) (w : World) (hc : CodeAt w a len zs) (hl : len ≤ 1048576) (ht : STab w) :
    Calls Tryd.prog 3 #[.slice a len cap] w fun e w' => e = .returned (.bool true) ∧ Below w.heap.size w w' := by
  have HC := hide hc
  have HT := hide ht
  have hbig : decide (1048576 < len) = false := by simp; omega
  clear hc ht
  go_enter Tryd.func3, Tryd.ntmps3
  go_wp2_with fail
  refine (big_any a len cap w).mono ?_
  rintro e w1 ⟨rfl, rfl⟩
  rw [hbig]
  go_wp2_with fail
  refine (drawFrame w a len cap zs HC.out).mono ?_
  rintro e w1 ⟨⟨S, rfl, hS⟩, hb1⟩
  have HB1 := hide hb1
  clear hb1
  go_wp2_with fail
  generalize hT : (⟨#[120]⟩ : ByteArray) ++ S = T
  have hT0 : 0 < T.size := by rw [← hT, ByteArray.size_append]; show 0 < 1 + S.size; omega
  have hT1 : T.size ≤ 202 := by rw [← hT, ByteArray.size_append]; show 1 + S.size ≤ 202; omega
  have hcv : (convert 9 22 (.string T)).run Tryd.prog w1 = _ := Lib.run_convert_string_bytes w1 9 22 5 T Tryd.underlying9 Tryd.underlying22 Tryd.underlying5
  rw [hcv]
  have HR0 := hide (bytes_row w1 T)
  have HB2 := hide (bytes_below w1 T)
  have HB3 := hide (HB1.out.trans (HB2.out.mono HB1.out.size))
  have HBS : Hid (w1.heap.size < (Lib.bytesWorld w1 5 T).heap.size) := hide (by rw [Lib.bytesWorld_size]; omega)
  generalize Lib.bytesWorld w1 5 T = w2 at *
  generalize grownCap w1 T.size 0 5 = gc at *
  clear hT hS
  go_wp2_with fail
  refine (at_any 0 (by omega) w2 a len cap zs (HC.out.later HB3.out)).mono ?_
  rintro e w3 ⟨rfl, rfl⟩
  have hat := atV_bd zs 0 HC.out.bytes
  generalize atV zs 0 = k0 at *
  obtain ⟨k, hk⟩ : ∃ k : Nat, k0 % (T.size : Int) = (k : Int) ∧ k < T.size := ⟨(k0 % (T.size : Int)).toNat, by have := Int.emod_nonneg k0 (show (T.size : Int) ≠ 0 by omega); omega, by have := Int.emod_lt_of_pos k0 (show (0 : Int) < T.size by omega); omega⟩
  clear hcv
  obtain ⟨hk, hkT⟩ := hk
  go_wp2_with fail
  rw [hk]
  clear hk hat hbig
  go_loopw [6, 7] (fun ch i wr => ∃ (j : Nat) (xs : List Nat) (c : Bool), j ≤ 4 ∧ k + j ≤ T.size ∧ i = .int .i64 j ∧ xs.length = T.size ∧ ch = .bool c ∧ Hid (c = decide (xs ≠ bl T)) ∧ Hid (∀ b ∈ xs, b < 256) ∧ Hid (∀ t, t < k ∨ k + j ≤ t → xs[t]? = (bl T)[t]?) ∧ Hid (BRow wr w1.heap.size xs) ∧ Hid (Below w1.heap.size w1 wr) ∧ w1.heap.size < wr.heap.size) (fun _ i _ => 4 - (intOf i).toNat)
  case atStart => exact ⟨0, bl T, false, by omega, by omega, rfl, bl_length T, rfl, hide (by simp), hide (bl_all T), hide (fun _ _ => rfl), HR0, HB2, HBS.out⟩
  case round =>
    obtain ⟨j, xs, c, hj, hkj, rfl, hxl, rfl, HCH, HX, HO, HR, HB, hsz⟩ := hrel
    clear HR0 HB2 HB3 HBS
    have HBw := hide (HB1.out.trans (HB.out.mono HB1.out.size))
    by_cases hgo : j < 4 ∧ k + j < T.size
    · obtain ⟨h4, hlt⟩ := hgo
      go_wp2_with fail
      refine (at_any (j + 1) (by omega) wr a len cap zs (HC.out.later HBw.out)).mono ?_
      rintro e w3 ⟨rfl, rfl⟩
      have hat := atV_bd zs (j + 1) HC.out.bytes
      obtain ⟨m, hm⟩ := Int.eq_ofNat_of_zero_le hat.1
      rw [hm] at hat ⊢
      clear hm
      have hcell := HR.out.cells (k + j) (by omega)
      have hfree := HR.out.free (k + j) (by omega)
      have hxb : xs.getD (k + j) 0 < 256 := HX.out _ (by simp [List.getD, show k + j < xs.length by omega])
      have hxor := u8_xor_nat (xs.getD (k + j) 0) m hxb (by omega)
      have HR2 := hide (HR.out.set (k + j) (xs.getD (k + j) 0 ^^^ m) (by omega))
      have HP := hide (set_parts xs (bl T) (k + j) m (by omega) (HO.out (k + j) (by omega)))
      have HX2 : Hid (∀ b ∈ xs.set (k + j) (xs.getD (k + j) 0 ^^^ m), b < 256) := hide (fun b hb => by
        rcases List.mem_or_eq_of_mem_set hb with h | h
        · exact HX.out b h
        · rw [h]; exact xor_lt8 _ _ hxb (by omega))
      have HO2 : Hid (∀ t, t < k ∨ k + (j + 1) ≤ t → (xs.set (k + j) (xs.getD (k + j) 0 ^^^ m))[t]? = (bl T)[t]?) := hide (fun t ht => by
        rw [List.getElem?_set_ne (by omega)]
        exact HO.out t (by omega))
      have hl2 : (xs.set (k + j) (xs.getD (k + j) 0 ^^^ m)).length = T.size := by rw [List.length_set]; exact hxl
      generalize xs.getD (k + j) 0 = x0 at *
      generalize x0 ^^^ m = y at *
      have HB4 := hide (HB.out.setCell (p := ⟨w1.heap.size, k + j, none⟩) (Nat.le_refl _) (.int .u8 y))
      have HS4 : Hid (w1.heap.size < (wr.setCell ⟨w1.heap.size, k + j, none⟩ (.int .u8 y)).heap.size) := hide (by simpa [World.setCell] using hsz)
      generalize xs.set (k + j) y = ys at *
      cases c
      · have hq : xs = bl T := by have := HCH.out; simpa using this
        have HF : Hid (((m : Int) != 0) = decide (ys ≠ bl T)) := hide (by
          by_cases hm0 : m = 0
          · simp [HP.out, hq, hm0]
          · simp [HP.out, hq, hm0])
        clear hq HP HCH HO HX HR HB
        go_wp2
        go_roundw
        case rel => exact ⟨j + 1, ys, (m : Int) != 0, by omega, by omega, by go_num, hl2, rfl, HF, HX2, HO2, HR2, HB4, HS4.out⟩
        case measure => first | (simp [intOf]; done) | (simp [intOf]; omega)
      · have hq : ¬ xs = bl T := by have := HCH.out; simpa using this
        have HF : Hid (true = decide (ys ≠ bl T)) := hide (by simp [HP.out, hq])
        clear hq HP HCH HO HX HR HB
        go_wp2
        go_roundw
        case rel => exact ⟨j + 1, ys, true, by omega, by omega, by go_num, hl2, rfl, HF, HX2, HO2, HR2, HB4, HS4.out⟩
        case measure => first | (simp [intOf]; done) | (simp [intOf]; omega)
    · have HO4 : Hid (∀ t, t < k ∨ k + 4 ≤ t → xs[t]? = (bl T)[t]?) := hide (fun t ht => by
        by_cases h4 : j = 4
        · exact HO.out t (by omega)
        · by_cases h : t < k
          · exact HO.out t (Or.inl h)
          · rw [List.getElem?_eq_none (by omega), List.getElem?_eq_none (by rw [bl_length]; omega)])
      have hTs : T.size ≤ 1048576 := by omega
      have HST := hide (HT.out.later HBw.out)
      have HU := bl_natsI xs HX.out
      obtain ⟨U, hUdef⟩ : ∃ U, strOfNums (natsI xs) = U := ⟨_, rfl⟩
      have HUE : Hid (strOfNums (natsI xs) = U) := hide hUdef
      rw [hUdef] at HU
      have HPA := crc_parts T U k (by rw [HU, hxl, bl_length]) (by rw [HU]; exact HO4.out)
      rw [HU] at HPA
      have hUs : U.size ≤ 1048576 := by rw [← bl_length, HU]; omega
      have HI := hide (fun W h => implCrc_any T W hTs h)
      have HIU := hide (fun W h => implCrc_any U W hUs h)
      have HSP := hide (fun W => specCrc_any T W hTs)
      have HSU := hide (fun W => specCrc_any U W hUs)
      have HCQ : Hid (c = decide (crcN T ≠ crcN U)) := hide (by rw [HCH.out]; simp [HPA])
      have hbd := crcN_bd T
      have hbdU := crcN_bd U
      generalize crcN T = n at *
      generalize crcN U = V at *
      clear HPA HU HO HO4 HX HCH hUdef
      have HK := hide (⟨HR.out, HST.out, hsz, HBw.out⟩ : KeepS w w1.heap.size xs wr)
      have HIK : Hid (∀ W, KeepS w w1.heap.size xs W → Calls Tryd.prog 8 #[.string T] W fun e w' => e = .returned (.int .i64 n) ∧ KeepS w w1.heap.size xs w') :=
        hide (fun W h => (HI.out W h.tab).mono (fun e w' ⟨h1, h2⟩ => ⟨h1, h.later h2⟩))
      have HUK : Hid (∀ W, KeepS w w1.heap.size xs W → Calls Tryd.prog 8 #[.string U] W fun e w' => e = .returned (.int .i64 V) ∧ KeepS w w1.heap.size xs w') :=
        hide (fun W h => (HIU.out W h.tab).mono (fun e w' ⟨h1, h2⟩ => ⟨h1, h.later h2⟩))
      have hcv : ∀ W, KeepS w w1.heap.size xs W → (convert 22 9 (.slice (some ⟨w1.heap.size, 0, none⟩) T.size gc)).run Tryd.prog W = .ok (.string U) W := fun W h => by
        have := h.row.str (cap := gc) hxl
        rw [HUE.out] at this
        exact this
      clear HR HST HB HBw HI HIU HUE
      have hb0 : (0 : Int) ≤ (n : Int) := by omega
      have hb1 : (n : Int) ≤ 4294967295 := by omega
      clear HT HC HB1 hTs hUs hbd hbdU
      by_cases h4 : j < 4
      · have hlt : ¬ k + j < T.size := by omega
        clear hgo
        cases c
        · obtain rfl : n = V := by have := HCQ.out; simpa using this
          clear HCQ
          go_wp2_with fail
          refine (HIK.out wr HK.out).mono ?_
          rintro e w3 ⟨rfl, hk3⟩
          have hk3d := hk3.drew
          clear hk3 HIK HK
          go_wp2_with fail
          go_region_held (fun w' => KeepS w w1.heap.size xs w') (assumption) (first
            | (go_at_call_of 9 (Value.string T); refine (HSP.out _).mono ?_; rintro e w' ⟨rfl, rfl⟩)
            | (go_at_call_of 9 (Value.string U); refine (HSU.out _).mono ?_; rintro e w' ⟨rfl, rfl⟩)
            | (go_at_call 8; refine (HUK.out _ ?_).mono ?_; assumption; rintro e w4 ⟨rfl, hk4⟩))
          all_goals
            go_wp2
            go_ret
            exact ⟨rfl, hk4.bel⟩
        · have hneN : ¬ n = V := by have := HCQ.out; simpa using this
          have hne : ¬ (n : Int) = (V : Int) := by omega
          have hne1 : ((n : Int) == (V : Int)) = false := by simp; omega
          have hne2 : ((n : Int) != (V : Int)) = true := by simp; omega
          clear HCQ
          go_wp2_with fail
          refine (HIK.out wr HK.out).mono ?_
          rintro e w3 ⟨rfl, hk3⟩
          have hk3d := hk3.drew
          clear hk3 HIK HK
          go_wp2_with fail
          go_region_held (fun w' => KeepS w w1.heap.size xs w') (assumption) (first
            | (go_at_call_of 9 (Value.string T); refine (HSP.out _).mono ?_; rintro e w' ⟨rfl, rfl⟩)
            | (go_at_call_of 9 (Value.string U); refine (HSU.out _).mono ?_; rintro e w' ⟨rfl, rfl⟩)
            | (go_at_call 8; refine (HUK.out _ ?_).mono ?_; assumption; rintro e w4 ⟨rfl, hk4⟩))
          all_goals
            go_wp2
            go_ret
            exact ⟨rfl, hk4.bel⟩
      · clear hgo
        cases c
        · obtain rfl : n = V := by have := HCQ.out; simpa using this
          clear HCQ
          go_wp2_with fail
          refine (HIK.out wr HK.out).mono ?_
          rintro e w3 ⟨rfl, hk3⟩
          have hk3d := hk3.drew
          clear hk3 HIK HK
          go_wp2_with fail
          go_region_held (fun w' => KeepS w w1.heap.size xs w') (assumption) (first
            | (go_at_call_of 9 (Value.string T); refine (HSP.out _).mono ?_; rintro e w' ⟨rfl, rfl⟩)
            | (go_at_call_of 9 (Value.string U); refine (HSU.out _).mono ?_; rintro e w' ⟨rfl, rfl⟩)
            | (go_at_call 8; refine (HUK.out _ ?_).mono ?_; assumption; rintro e w4 ⟨rfl, hk4⟩))
          all_goals
            go_wp2
            go_ret
            exact ⟨rfl, hk4.bel⟩
        · have hneN : ¬ n = V := by have := HCQ.out; simpa using this
          have hne : ¬ (n : Int) = (V : Int) := by omega
          have hne1 : ((n : Int) == (V : Int)) = false := by simp; omega
          have hne2 : ((n : Int) != (V : Int)) = true := by simp; omega
          clear HCQ
          go_wp2_with fail
          refine (HIK.out wr HK.out).mono ?_
          rintro e w3 ⟨rfl, hk3⟩
          have hk3d := hk3.drew
          clear hk3 HIK HK
          go_wp2_with fail
          go_region_held (fun w' => KeepS w w1.heap.size xs w') (assumption) (first
            | (go_at_call_of 9 (Value.string T); refine (HSP.out _).mono ?_; rintro e w' ⟨rfl, rfl⟩)
            | (go_at_call_of 9 (Value.string U); refine (HSU.out _).mono ?_; rintro e w' ⟨rfl, rfl⟩)
            | (go_at_call 8; refine (HUK.out _ ?_).mono ?_; assumption; rintro e w4 ⟨rfl, hk4⟩))
          all_goals
            go_wp2
            go_ret
            exact ⟨rfl, hk4.bel⟩

end Go.Proofs.YtdejmngbfphbgaaDoor
