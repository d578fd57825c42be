/-
  spec.Crc: the sum of a text, bit by bit. spec.Frame and spec.Unframe.
-/
import Derived.Test.YtimpokbcfjgdaaaGreatDoorHG00
import Derived.Test.YtimpokbcfjgdaaaGreatDoorHG05
import Derived.Test.YtimpokbcfjgdaaaGreatDoorHG04
import Derived.Deep.RegionHeld3
namespace Go.Proofs.YtimpokbcfjgdaaaGreatDoor
open Go.RowKit
open Plain

theorem i64_xor_nat (a b : Nat) (ha : a < 9223372036854775808) (hb : b < 9223372036854775808) : bits .xor .i64 (a : Int) (b : Int) = ((a ^^^ b : Nat) : Int) := by
  have hx : a ^^^ b < 2 ^ 63 := Nat.xor_lt_two_pow (by omega) (by omega)
  show IntKind.i64.wrap ((BitVec.ofInt 64 (a : Int) ^^^ BitVec.ofInt 64 (b : Int)).toNat : Int) = _
  rw [BitVec.toNat_xor, ofInt_i64 a (by omega), ofInt_i64 b (by omega), IntKind.wrap_i64]
  omega

theorem tk_odd (c : Nat) (h : (c : Int) % 2 = 1) (hc : c < 4294967296) : bits .xor .i64 ((c : Int) / 2) 2197175160 = (tk c : Int) := by
  have e : (c : Int) / 2 = ((c / 2 : Nat) : Int) := by omega
  have e2 : (2197175160 : Int) = ((2197175160 : Nat) : Int) := rfl
  rw [e, e2, i64_xor_nat _ _ (by omega) (by omega), tk, if_pos (by omega)]
theorem tk_even (c : Nat) (h : ¬ (c : Int) % 2 = 1) : (c : Int) / 2 = (tk c : Int) := by
  rw [tk, if_neg (by omega)]
  omega

set_option maxRecDepth 100000 in
set_option maxHeartbeats 1000000 in
theorem specCrc_any (s : ByteArray) (w : World) (hs : s.size ≤ 1099511627776) :
    Calls Tryz.prog 38 #[.string s] w fun e w' => e = .returned (.int .i64 (crcN s)) ∧ w = w' := by
  go_enter Tryz.func38, Tryz.ntmps38
  go_wp2
  go_loop [3, 4] (fun c i => ∃ k : Nat, k ≤ s.size ∧ c = .int .i64 (ck s k) ∧ i = .int .i64 k) (fun _ i => s.size - (intOf i).toNat)
  case atStart => exact ⟨0, by omega, by rw [ck_zero]; rfl, rfl⟩
  case round =>
    obtain ⟨k, hk, rfl, rfl⟩ := hrel
    have hlt := ck_lt s k
    by_cases h : k < s.size
    · have hcs := hide (ck_succ s k h)
      have hb := UInt8.toNat_lt s[k]
      have hx := i64_xor_nat (ck s k) s[k].toNat (by omega) (by omega)
      have hxl := xor_lt32 (ck s k) s[k].toNat hlt (by omega)
      go_wp2
      clear hx
      have HX : Hid (tkN 8 (ck s k ^^^ s[k].toNat) = ck s (k + 1)) := hide (by rw [hcs.out]; rfl)
      generalize ck s k ^^^ s[k].toNat = x at *
      clear hcs hb
      go_loop [3, 5] (fun c i => ∃ j : Nat, j ≤ 8 ∧ c = .int .i64 (tkN j x) ∧ i = .int .i64 j) (fun _ i => 8 - (intOf i).toNat)
      case atStart => exact ⟨0, by omega, rfl, rfl⟩
      case round =>
        obtain ⟨j, hj, rfl, rfl⟩ := hrel
        have hjl := tkN_lt j x hxl
        by_cases h8 : j < 8
        · have HT : Hid (tkN (j + 1) x = tk (tkN j x)) := hide rfl
          generalize tkN j x = y at *
          by_cases ho : (y : Int) % 2 = 1
          · have hodd := tk_odd y ho hjl
            go_wp2
            go_round
            case rel => exact ⟨j + 1, by omega, by rw [HT.out], by go_num⟩
            case measure => first | (simp [intOf]; done) | (simp [intOf]; omega)
          · have hev := hide (tk_even y ho)
            go_wp2
            go_round
            case rel => exact ⟨j + 1, by omega, by rw [HT.out, ← hev.out], by go_num⟩
            case measure => first | (simp [intOf]; done) | (simp [intOf]; omega)
        · obtain rfl : j = 8 := by omega
          rw [HX.out]
          go_wp2
          go_round
          case rel => exact ⟨k + 1, by omega, rfl, by go_num⟩
          case measure => first | (simp [intOf]; done) | (simp [intOf]; omega)
    · obtain rfl : k = s.size := by omega
      have hcc := hide (crc_ck s)
      go_wp2
      go_ret
      rw [hcc.out]
      exact ⟨rfl, rfl⟩

end Go.Proofs.YtimpokbcfjgdaaaGreatDoor
namespace Go.Proofs.YtimpokbcfjgdaaaGreatDoor
open Go.RowKit
open Plain

theorem specCrc_ans (s : ByteArray) (hs : s.size ≤ 1099511627776) : Ans 38 #[.string s] (.int .i64 (crcN s)) := by
  intro w
  refine (specCrc_any s w hs).mono ?_
  rintro e w' ⟨rfl, rfl⟩
  exact ⟨rfl, Below.refl _ _⟩

set_option maxRecDepth 100000 in
set_option maxHeartbeats 1000000 in
theorem specFrame_any (s : ByteArray) (hs : s.size ≤ 1048576) : Ans 75 #[.string s] (.string (frameS s)) := by
  intro w
  by_cases h : s.size ≤ 200
  · have t0 : decide ((200 : Int) < (s.size : Int)) = false := by simp; omega
    have HV := hide (specVar_any (s.size : Int))
    have h7 := varS_size (s.size : Int)
    have HT : Hid (varS (s.size : Int) ++ s = textS s) := hide rfl
    have HF : Hid (frameS s = fixN (crcN (textS s) : Int) 4 ++ textS s) := hide (frameS_in s h)
    have hz := textS_size' s
    have HC := hide (specCrc_ans (textS s) (by omega))
    have HX := hide (specFix4_any (crcN (textS s) : Int) (by have := crcN_le (textS s); omega))
    have h4 := fixN_size (crcN (textS s) : Int) 4
    have z1 : ¬ 9223372036854775807 < (varS (s.size : Int)).size + s.size := by omega
    have z2 : ¬ 9223372036854775807 < (fixN (crcN (textS s) : Int) 4).size + (textS s).size := by omega
    generalize varS (s.size : Int) = v at *
    generalize fixN (crcN (textS s) : Int) 4 = f at *
    generalize crcN (textS s) = c at *
    generalize textS s = t at *
    clear h
    go_enter Tryz.func75, Tryz.ntmps75
    go_wp2_with fail
    refine (HV.out _).mono ?_
    rintro e w1 ⟨rfl, hb1⟩
    have HB1 := hide hb1
    clear hb1 HV
    go_wp2_with fail
    rw [HT.out]
    refine (HC.out _).mono ?_
    rintro e w2 ⟨rfl, hb2⟩
    have HB2 := hide (HB1.out.trans (hb2.mono HB1.out.size))
    clear hb2 HC HB1
    go_wp2_with fail
    refine (HX.out _).mono ?_
    rintro e w3 ⟨rfl, hb3⟩
    have HB3 := hide (HB2.out.trans (hb3.mono HB2.out.size))
    clear hb3 HX HB2
    go_wp2
    go_ret
    exact ⟨by rw [HF.out]; rfl, HB3.out⟩
  · have t0 : decide ((200 : Int) < (s.size : Int)) = true := by simp; omega
    have HF : Hid (frameS s = ⟨#[]⟩) := hide (frameS_out s h)
    clear h
    go_enter Tryz.func75, Tryz.ntmps75
    go_wp2
    go_ret
    exact ⟨by rw [HF.out]; rfl, Below.refl _ _⟩

theorem uf_early (s : ByteArray) (h : s.size < 5 ∨ (rv (s.extract 4 s.size)).2 = 0 ∨ 200 < (rv (s.extract 4 s.size)).1 ∨ s.size < 4 + (rv (s.extract 4 s.size)).2 + (rv (s.extract 4 s.size)).1) : uf s = (⟨#[]⟩, 0) := if_pos h

set_option maxRecDepth 100000 in
set_option maxHeartbeats 4000000 in
theorem specUnframe_any (s : ByteArray) (hs : s.size ≤ 1048576) : Ans 50 #[.string s] (.tuple #[.string (uf s).1, .int .i64 ((uf s).2 : Nat)]) := by
  intro w
  by_cases h5 : s.size < 5
  · have t0 : decide ((s.size : Int) < 5) = true := by simp; omega
    rw [uf_early s (Or.inl h5)]
    clear h5
    go_enter Tryz.func50, Tryz.ntmps50
    go_wp2
    go_ret2
    exact ⟨rfl, Below.refl _ _⟩
  have t0 : decide ((s.size : Int) < 5) = false := by simp; omega
  have hl : (s.extract 4 s.size).size = s.size - 4 := ba_len _ _ _ (by omega) (Nat.le_refl _)
  have hbd := rv_bd (s.extract 4 s.size)
  have HR := hide (specRV_any (s.extract 4 s.size) (by omega))
  by_cases k0 : (rv (s.extract 4 s.size)).2 = 0
  · have t1 : (((rv (s.extract 4 s.size)).2 : Int) == 0) = true := by simp; omega
    rw [uf_early s (Or.inr (Or.inl k0))]
    clear k0 hl hbd
    generalize (rv (s.extract 4 s.size)).1 = n at *
    generalize (rv (s.extract 4 s.size)).2 = k at *
    go_enter Tryz.func50, Tryz.ntmps50
    go_wp2_with (go_at_call 88; refine (HR.out _).mono ?_; rintro e w1 ⟨rfl, hb1⟩)
    go_ret2
    exact ⟨rfl, hb1⟩
  have t1 : (((rv (s.extract 4 s.size)).2 : Int) == 0) = false := by simp; omega
  by_cases n2 : 200 < (rv (s.extract 4 s.size)).1
  · have t2 : decide ((200 : Int) < ((rv (s.extract 4 s.size)).1 : Int)) = true := by simp; omega
    rw [uf_early s (Or.inr (Or.inr (Or.inl n2)))]
    clear k0 hl hbd n2
    generalize (rv (s.extract 4 s.size)).1 = n at *
    generalize (rv (s.extract 4 s.size)).2 = k at *
    go_enter Tryz.func50, Tryz.ntmps50
    go_wp2_with (go_at_call 88; refine (HR.out _).mono ?_; rintro e w1 ⟨rfl, hb1⟩)
    go_ret2
    exact ⟨rfl, hb1⟩
  have t2 : decide ((200 : Int) < ((rv (s.extract 4 s.size)).1 : Int)) = false := by simp; omega
  by_cases n3 : s.size < 4 + (rv (s.extract 4 s.size)).2 + (rv (s.extract 4 s.size)).1
  · have t3 : decide ((s.size : Int) - 4 - ((rv (s.extract 4 s.size)).2 : Int) < ((rv (s.extract 4 s.size)).1 : Int)) = true := by simp; omega
    rw [uf_early s (Or.inr (Or.inr (Or.inr n3)))]
    clear k0 hl n2 n3
    generalize (rv (s.extract 4 s.size)).1 = n at *
    generalize (rv (s.extract 4 s.size)).2 = k at *
    go_enter Tryz.func50, Tryz.ntmps50
    go_wp2_with (go_at_call 88; refine (HR.out _).mono ?_; rintro e w1 ⟨rfl, hb1⟩)
    go_ret2
    exact ⟨rfl, hb1⟩
  have t3 : decide ((s.size : Int) - 4 - ((rv (s.extract 4 s.size)).2 : Int) < ((rv (s.extract 4 s.size)).1 : Int)) = false := by simp; omega
  have huf : uf s = if s.extract 0 (4 + (rv (s.extract 4 s.size)).2 + (rv (s.extract 4 s.size)).1) = frameS (s.extract (4 + (rv (s.extract 4 s.size)).2) (4 + (rv (s.extract 4 s.size)).2 + (rv (s.extract 4 s.size)).1))
      then (s.extract (4 + (rv (s.extract 4 s.size)).2) (4 + (rv (s.extract 4 s.size)).2 + (rv (s.extract 4 s.size)).1), 4 + (rv (s.extract 4 s.size)).2 + (rv (s.extract 4 s.size)).1) else (⟨#[]⟩, 0) := if_neg (by omega)
  rw [huf]
  clear huf
  have hle : 4 + (rv (s.extract 4 s.size)).2 + (rv (s.extract 4 s.size)).1 ≤ s.size := by omega
  clear k0 n2 n3 hl
  generalize (rv (s.extract 4 s.size)).1 = n at *
  generalize (rv (s.extract 4 s.size)).2 = k at *
  have hts : (s.extract (4 + k) (4 + k + n)).size ≤ 1048576 := by rw [ba_len _ _ _ (by omega) hle]; omega
  have HFR := hide (specFrame_any (s.extract (4 + k) (4 + k + n)) hts)
  clear hts
  have hsl : ∀ W : World, (Instr.slice 9 (.string s) (some (.int .i64 (4 + (k : Int)))) (some (.int .i64 (4 + (k : Int) + (n : Int)))) none).run Tryz.prog W = .ok (.string (s.extract (4 + k) (4 + k + n))) W := fun W => by
    rw [run_slice_string W 9 s .i64 .i64 (4 + (k : Int)) (4 + (k : Int) + (n : Int)) Tryz.underlying9 (by omega) (by omega) (by omega), show (4 + (k : Int)).toNat = 4 + k from by omega, show (4 + (k : Int) + (n : Int)).toNat = 4 + k + n from by omega]
  have b1 : (0 : Int) ≤ 4 + (k : Int) + (n : Int) := by omega
  have b2 : 4 + (k : Int) + (n : Int) ≤ (s.size : Int) := by omega
  have hex : (4 + (k : Int) + (n : Int)).toNat = 4 + k + n := by omega
  generalize hT : s.extract (4 + k) (4 + k + n) = t at *
  generalize hF : frameS t = F at *
  clear hT hF
  have w4 : IntKind.i64.wrap (4 + (k : Int)) = 4 + (k : Int) := by rw [IntKind.wrap_i64]; omega
  have w5 : IntKind.i64.wrap (4 + (k : Int) + (n : Int)) = 4 + (k : Int) + (n : Int) := by rw [IntKind.wrap_i64]; omega
  have hpre : ∀ W : World, (Instr.slice 9 (.string s) none (some (.int .i64 (4 + (k : Int) + (n : Int)))) none).run Tryz.prog W = .ok (.string (s.extract 0 (4 + k + n))) W := fun W => by
    rw [run_slice_string_h W 9 s Tryz.underlying9 .i64 (4 + (k : Int) + (n : Int)) b1 b2, hex]
  clear hex
  by_cases he : s.extract 0 (4 + k + n) = F
  · rw [if_pos he]
    have q := str_eq _ _ he
    clear he
    generalize s.extract 0 (4 + k + n) = A at *
    go_enter Tryz.func50, Tryz.ntmps50
    go_wp2_with (go_at_call 88; refine (HR.out _).mono ?_; rintro e w1 ⟨rfl, hb1⟩)
    have HB1 : Hid (Below w.heap.size w w1.drew) := hide hb1.drew
    clear hb1 hsl
    go_region_held3 (fun w' => Hid (Below w.heap.size w w')) (assumption) (first
      | (go_at_call 75; refine (HFR.out _).mono ?_; rintro e w2 ⟨rfl, hb2⟩; have HB2 : Hid (Below w.heap.size w w2) := hide (HB1.out.trans (hb2.mono HB1.out.size)); clear hb2))
    go_wp2
    go_ret2
    exact ⟨rfl, HB2.out⟩
  · rw [if_neg he]
    have q := str_ne _ _ he
    clear he
    generalize s.extract 0 (4 + k + n) = A at *
    go_enter Tryz.func50, Tryz.ntmps50
    go_wp2_with (go_at_call 88; refine (HR.out _).mono ?_; rintro e w1 ⟨rfl, hb1⟩)
    have HB1 : Hid (Below w.heap.size w w1.drew) := hide hb1.drew
    clear hb1 hsl
    go_region_held3 (fun w' => Hid (Below w.heap.size w w')) (assumption) (first
      | (go_at_call 75; refine (HFR.out _).mono ?_; rintro e w2 ⟨rfl, hb2⟩; have HB2 : Hid (Below w.heap.size w w2) := hide (HB1.out.trans (hb2.mono HB1.out.size)); clear hb2))
    go_wp2
    go_ret2
    exact ⟨rfl, HB2.out⟩

end Go.Proofs.YtimpokbcfjgdaaaGreatDoor
