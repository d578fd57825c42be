/-
  spec.Frame and spec.Unframe.
-/
import Derived.Test.YthnealhaleccpaaDoorFramePlain
import Derived.Test.YthnealhaleccpaaDoorRecNum
import Derived.Test.YthnealhaleccpaaDoorCrcSpec
import Derived.Deep.RegionHeld3
namespace Go.Proofs.YthnealhaleccpaaDoor
open Go.RowKit
open Plain

theorem specCrc_ans (s : ByteArray) (hs : s.size ≤ 1099511627776) : Ans 41 #[.string s] (.int .i64 (crcN s)) := by
  intro w
  refine (specCrc_any s w hs).mono ?_
  rintro e w' ⟨rfl, rfl⟩
  exact ⟨rfl, Below.refl _ _⟩

set_option maxRecDepth 100000 in
set_option maxHeartbeats 1000000 in
theorem specFrame_any (s : ByteArray) (hs : s.size ≤ 1048576) : Ans 23 #[.string s] (.string (frameS s)) := by
  intro w
  by_cases h : s.size ≤ 200
  · have t0 : decide ((200 : Int) < (s.size : Int)) = false := by simp; omega
    have HV := hide (specVar_any (s.size : Int))
    have h7 := varS_size (s.size : Int)
    have HT : Hid (varS (s.size : Int) ++ s = textS s) := hide rfl
    have HF : Hid (frameS s = fixN (crcN (textS s) : Int) 4 ++ textS s) := hide (frameS_in s h)
    have hz := textS_size' s
    have HC := hide (specCrc_ans (textS s) (by omega))
    have HX := hide (specFix4_any (crcN (textS s) : Int) (by have := crcN_le (textS s); omega))
    have h4 := fixN_size (crcN (textS s) : Int) 4
    have z1 : ¬ 9223372036854775807 < (varS (s.size : Int)).size + s.size := by omega
    have z2 : ¬ 9223372036854775807 < (fixN (crcN (textS s) : Int) 4).size + (textS s).size := by omega
    generalize varS (s.size : Int) = v at *
    generalize fixN (crcN (textS s) : Int) 4 = f at *
    generalize crcN (textS s) = c at *
    generalize textS s = t at *
    clear h
    go_enter Tryd.func23, Tryd.ntmps23
    go_wp2_with fail
    refine (HV.out _).mono ?_
    rintro e w1 ⟨rfl, hb1⟩
    have HB1 := hide hb1
    clear hb1 HV
    go_wp2_with fail
    rw [HT.out]
    refine (HC.out _).mono ?_
    rintro e w2 ⟨rfl, hb2⟩
    have HB2 := hide (HB1.out.trans (hb2.mono HB1.out.size))
    clear hb2 HC HB1
    go_wp2_with fail
    refine (HX.out _).mono ?_
    rintro e w3 ⟨rfl, hb3⟩
    have HB3 := hide (HB2.out.trans (hb3.mono HB2.out.size))
    clear hb3 HX HB2
    go_wp2
    go_ret
    exact ⟨by rw [HF.out]; rfl, HB3.out⟩
  · have t0 : decide ((200 : Int) < (s.size : Int)) = true := by simp; omega
    have HF : Hid (frameS s = ⟨#[]⟩) := hide (frameS_out s h)
    clear h
    go_enter Tryd.func23, Tryd.ntmps23
    go_wp2
    go_ret
    exact ⟨by rw [HF.out]; rfl, Below.refl _ _⟩

theorem uf_early (s : ByteArray) (h : s.size < 5 ∨ (rv (s.extract 4 s.size)).2 = 0 ∨ 200 < (rv (s.extract 4 s.size)).1 ∨ s.size < 4 + (rv (s.extract 4 s.size)).2 + (rv (s.extract 4 s.size)).1) : uf s = (⟨#[]⟩, 0) := if_pos h

set_option maxRecDepth 100000 in
set_option maxHeartbeats 4000000 in
theorem specUnframe_any (s : ByteArray) (hs : s.size ≤ 1048576) : Ans 31 #[.string s] (.tuple #[.string (uf s).1, .int .i64 ((uf s).2 : Nat)]) := by
  intro w
  by_cases h5 : s.size < 5
  · have t0 : decide ((s.size : Int) < 5) = true := by simp; omega
    rw [uf_early s (Or.inl h5)]
    clear h5
    go_enter Tryd.func31, Tryd.ntmps31
    go_wp2
    go_ret2
    exact ⟨rfl, Below.refl _ _⟩
  have t0 : decide ((s.size : Int) < 5) = false := by simp; omega
  have hl : (s.extract 4 s.size).size = s.size - 4 := ba_len _ _ _ (by omega) (Nat.le_refl _)
  have hbd := rv_bd (s.extract 4 s.size)
  have HR := hide (specRV_any (s.extract 4 s.size) (by omega))
  by_cases k0 : (rv (s.extract 4 s.size)).2 = 0
  · have t1 : (((rv (s.extract 4 s.size)).2 : Int) == 0) = true := by simp; omega
    rw [uf_early s (Or.inr (Or.inl k0))]
    clear k0 hl hbd
    generalize (rv (s.extract 4 s.size)).1 = n at *
    generalize (rv (s.extract 4 s.size)).2 = k at *
    go_enter Tryd.func31, Tryd.ntmps31
    go_wp2_with (go_at_call 32; refine (HR.out _).mono ?_; rintro e w1 ⟨rfl, hb1⟩)
    go_ret2
    exact ⟨rfl, hb1⟩
  have t1 : (((rv (s.extract 4 s.size)).2 : Int) == 0) = false := by simp; omega
  by_cases n2 : 200 < (rv (s.extract 4 s.size)).1
  · have t2 : decide ((200 : Int) < ((rv (s.extract 4 s.size)).1 : Int)) = true := by simp; omega
    rw [uf_early s (Or.inr (Or.inr (Or.inl n2)))]
    clear k0 hl hbd n2
    generalize (rv (s.extract 4 s.size)).1 = n at *
    generalize (rv (s.extract 4 s.size)).2 = k at *
    go_enter Tryd.func31, Tryd.ntmps31
    go_wp2_with (go_at_call 32; refine (HR.out _).mono ?_; rintro e w1 ⟨rfl, hb1⟩)
    go_ret2
    exact ⟨rfl, hb1⟩
  have t2 : decide ((200 : Int) < ((rv (s.extract 4 s.size)).1 : Int)) = false := by simp; omega
  by_cases n3 : s.size < 4 + (rv (s.extract 4 s.size)).2 + (rv (s.extract 4 s.size)).1
  · have t3 : decide ((s.size : Int) - 4 - ((rv (s.extract 4 s.size)).2 : Int) < ((rv (s.extract 4 s.size)).1 : Int)) = true := by simp; omega
    rw [uf_early s (Or.inr (Or.inr (Or.inr n3)))]
    clear k0 hl n2 n3
    generalize (rv (s.extract 4 s.size)).1 = n at *
    generalize (rv (s.extract 4 s.size)).2 = k at *
    go_enter Tryd.func31, Tryd.ntmps31
    go_wp2_with (go_at_call 32; refine (HR.out _).mono ?_; rintro e w1 ⟨rfl, hb1⟩)
    go_ret2
    exact ⟨rfl, hb1⟩
  have t3 : decide ((s.size : Int) - 4 - ((rv (s.extract 4 s.size)).2 : Int) < ((rv (s.extract 4 s.size)).1 : Int)) = false := by simp; omega
  have huf : uf s = if s.extract 0 (4 + (rv (s.extract 4 s.size)).2 + (rv (s.extract 4 s.size)).1) = frameS (s.extract (4 + (rv (s.extract 4 s.size)).2) (4 + (rv (s.extract 4 s.size)).2 + (rv (s.extract 4 s.size)).1))
      then (s.extract (4 + (rv (s.extract 4 s.size)).2) (4 + (rv (s.extract 4 s.size)).2 + (rv (s.extract 4 s.size)).1), 4 + (rv (s.extract 4 s.size)).2 + (rv (s.extract 4 s.size)).1) else (⟨#[]⟩, 0) := if_neg (by omega)
  rw [huf]
  clear huf
  have hle : 4 + (rv (s.extract 4 s.size)).2 + (rv (s.extract 4 s.size)).1 ≤ s.size := by omega
  clear k0 n2 n3 hl
  generalize (rv (s.extract 4 s.size)).1 = n at *
  generalize (rv (s.extract 4 s.size)).2 = k at *
  have hts : (s.extract (4 + k) (4 + k + n)).size ≤ 1048576 := by rw [ba_len _ _ _ (by omega) hle]; omega
  have HFR := hide (specFrame_any (s.extract (4 + k) (4 + k + n)) hts)
  clear hts
  have hsl : ∀ W : World, (Instr.slice 9 (.string s) (some (.int .i64 (4 + (k : Int)))) (some (.int .i64 (4 + (k : Int) + (n : Int)))) none).run Tryd.prog W = .ok (.string (s.extract (4 + k) (4 + k + n))) W := fun W => by
    rw [run_slice_string W 9 s .i64 .i64 (4 + (k : Int)) (4 + (k : Int) + (n : Int)) Tryd.underlying9 (by omega) (by omega) (by omega), show (4 + (k : Int)).toNat = 4 + k from by omega, show (4 + (k : Int) + (n : Int)).toNat = 4 + k + n from by omega]
  have b1 : (0 : Int) ≤ 4 + (k : Int) + (n : Int) := by omega
  have b2 : 4 + (k : Int) + (n : Int) ≤ (s.size : Int) := by omega
  have hex : (4 + (k : Int) + (n : Int)).toNat = 4 + k + n := by omega
  generalize hT : s.extract (4 + k) (4 + k + n) = t at *
  generalize hF : frameS t = F at *
  clear hT hF
  have w4 : IntKind.i64.wrap (4 + (k : Int)) = 4 + (k : Int) := by rw [IntKind.wrap_i64]; omega
  have w5 : IntKind.i64.wrap (4 + (k : Int) + (n : Int)) = 4 + (k : Int) + (n : Int) := by rw [IntKind.wrap_i64]; omega
  have hpre : ∀ W : World, (Instr.slice 9 (.string s) none (some (.int .i64 (4 + (k : Int) + (n : Int)))) none).run Tryd.prog W = .ok (.string (s.extract 0 (4 + k + n))) W := fun W => by
    rw [run_slice_string_h W 9 s Tryd.underlying9 .i64 (4 + (k : Int) + (n : Int)) b1 b2, hex]
  clear hex
  by_cases he : s.extract 0 (4 + k + n) = F
  · rw [if_pos he]
    have q := str_eq _ _ he
    clear he
    generalize s.extract 0 (4 + k + n) = A at *
    go_enter Tryd.func31, Tryd.ntmps31
    go_wp2_with (go_at_call 32; refine (HR.out _).mono ?_; rintro e w1 ⟨rfl, hb1⟩)
    have HB1 : Hid (Below w.heap.size w w1.drew) := hide hb1.drew
    clear hb1 hsl
    go_region_held3 (fun w' => Hid (Below w.heap.size w w')) (assumption) (first
      | (go_at_call 23; refine (HFR.out _).mono ?_; rintro e w2 ⟨rfl, hb2⟩; have HB2 : Hid (Below w.heap.size w w2) := hide (HB1.out.trans (hb2.mono HB1.out.size)); clear hb2))
    go_wp2
    go_ret2
    exact ⟨rfl, HB2.out⟩
  · rw [if_neg he]
    have q := str_ne _ _ he
    clear he
    generalize s.extract 0 (4 + k + n) = A at *
    go_enter Tryd.func31, Tryd.ntmps31
    go_wp2_with (go_at_call 32; refine (HR.out _).mono ?_; rintro e w1 ⟨rfl, hb1⟩)
    have HB1 : Hid (Below w.heap.size w w1.drew) := hide hb1.drew
    clear hb1 hsl
    go_region_held3 (fun w' => Hid (Below w.heap.size w w')) (assumption) (first
      | (go_at_call 23; refine (HFR.out _).mono ?_; rintro e w2 ⟨rfl, hb2⟩; have HB2 : Hid (Below w.heap.size w w2) := hide (HB1.out.trans (hb2.mono HB1.out.size)); clear hb2))
    go_wp2
    go_ret2
    exact ⟨rfl, HB2.out⟩

end Go.Proofs.YthnealhaleccpaaDoor
