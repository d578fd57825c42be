/-
  spec.DiskOk where the first line of tests lets the disk by: file by file.
-/
import Derived.Test.YthnealhaleccpaaGreatDoorG00
import Derived.BigQuiet
import Derived.Deep.QuietTactic
namespace Go.Proofs.YthnealhaleccpaaGreatDoor
open Go.RowKit
open Plain

set_option maxRecDepth 100000 in
set_option maxHeartbeats 4000000 in
theorem specOk_good (w : World) (a : Option Addr) (n cap : Nat) (fs : List FileV) (hr : FRow w 0 a n fs) (hn : n ≤ 1099511627776) (hz : szFs fs ≤ 1099511627776) (c u : Int) (d : Bool) (q1 : n ≤ 130) (q2 : inB 0 c 100000 = true) (q3 : inB (-1) u 100000 = true) (q4 : (usedF fs : Int) ≤ c) :
    Calls Tryz.prog 41 #[.agg #[.slice a n cap, .int .i64 c, .int .i64 u, .bool d]] w fun e w' => e = .returned (.bool (diskOk fs c u)) ∧ Below w.heap.size w w' := by
  have hbx := box4 w (.slice a n cap) (.int .i64 c) (.int .i64 u) (.bool d) 39
  have HR := hide (hr.later hbx.1 (Nat.le_refl _))
  have HB := hide hbx.1
  have hlen := hr.len
  have hus := usedF_le_sz fs
  have hcell := cells4 hbx.2
  obtain ⟨W, hW⟩ : ∃ W, W = w.alloc (.cells #[.slice a n cap, .int .i64 c, .int .i64 u, .bool d] 39) := ⟨_, rfl⟩
  rw [← hW] at HR HB hcell
  have HWS : Hid (W.heap.size = w.heap.size + 1) := hide (by rw [hW]; simp)
  have hlater : ∀ w', Below W.heap.size W w' → w'.cell? ⟨w.heap.size, 0, none⟩ = some (.slice a n cap) ∧ w'.cell? ⟨w.heap.size, 1, none⟩ = some (.int .i64 c) ∧ w'.cell? ⟨w.heap.size, 2, none⟩ = some (.int .i64 u) ∧ w'.cell? ⟨w.heap.size, 3, none⟩ = some (.bool d) ∧ Hid (Below W.heap.size W w') := fun w' h =>
    ⟨by rw [h.cell (by have := HWS.out; show w.heap.size < _; omega)]; exact hcell.1, by rw [h.cell (by have := HWS.out; show w.heap.size < _; omega)]; exact hcell.2.1, by rw [h.cell (by have := HWS.out; show w.heap.size < _; omega)]; exact hcell.2.2.1, by rw [h.cell (by have := HWS.out; show w.heap.size < _; omega)]; exact hcell.2.2.2.1, hide h⟩
  have HL := hide hlater
  have HUS : Hid (∀ w', Hid (Below W.heap.size W w') → Calls Tryz.prog 61 #[.agg #[.slice a n cap, .int .i64 c, .int .i64 u, .bool d]] w' fun e w'' => e = .returned (.int .i64 (usedF fs)) ∧ Below W.heap.size W w'') := hide (fun w' h =>
    (specUsed_any w' a n cap fs (HR.out.later h.out (Nat.le_refl _)) hn (by omega) c u d).mono (fun e w'' ⟨h1, h2⟩ => ⟨h1, h.out.trans (h2.mono h.out.size)⟩))
  have S0 := hlater W.drew (Below.refl _ _).drew
  clear hbx hcell hlater hr
  have t1 : decide ((130 : Int) < (n : Int)) = false := by simp; omega
  have t4 : decide (c < (usedF fs : Int)) = false := by simp; omega
  have HH : Hid (headOk fs c u = true) := hide (by simp [headOk, q2, q3, q4, hlen, q1])
  go_enter Tryz.func41, Tryz.ntmps41
  go_wp2_with fail
  rw [← hW]
  clear hW
  first
    | (go_region_held3 (fun w' => w'.cell? ⟨w.heap.size, 0, none⟩ = some (.slice a n cap) ∧ w'.cell? ⟨w.heap.size, 1, none⟩ = some (.int .i64 c) ∧ w'.cell? ⟨w.heap.size, 2, none⟩ = some (.int .i64 u) ∧ w'.cell? ⟨w.heap.size, 3, none⟩ = some (.bool d) ∧ Hid (Below W.heap.size W w')) (assumption) (first
      | (go_at_call 29; refine (in_anyB _ _ _ _).mono ?_; rintro e w4 ⟨rfl, rfl⟩)
      | (go_at_call 61; refine (HUS.out _ (by simp only [*])).mono ?_; rintro e w4 ⟨rfl, hb4⟩; have hS4 := HL.out w4 hb4)))
    | fail
  clear S0
  have HB4 := hide hb4
  clear hb4 hS4 HUS
  go_wp2
  go_loopw [3] (fun i wr => ∃ k : Nat, k ≤ n ∧ i = .int .i64 k ∧ Hid (∀ j, j < k → okAt fs j = true) ∧ Hid (Below W.heap.size W wr)) (fun i _ => n - (intOf i).toNat)
  case atStart => exact ⟨0, by omega, rfl, hide (fun j hj => absurd hj (by omega)), HB4⟩
  case round =>
    clear HB4
    obtain ⟨k, hk, rfl, HA, HBr⟩ := hrel
    have hbox := HL.out wr HBr.out
    obtain ⟨hb0, -, -, -, -⟩ := hbox
    by_cases hlt : k < n
    · have hkf : k < fs.length := by omega
      obtain ⟨b, off, rfl, -, hbw, e1, e2, e3⟩ := (HR.out.later HBr.out (Nat.le_refl _)).cells k hkf
      have hgd : fs.getD k zeroF = fs[k] := by simp [List.getD, hkf]
      have HBq : Hid (∀ m, Below W.heap.size W (wr.drewN m)) := hide (fun m => ⟨HBr.out.os, HBr.out.tape, HBr.out.output, HBr.out.size, HBr.out.block⟩)
      have hnsz : (fs[k]).name.size ≤ 1099511627776 := Nat.le_trans (name_le fs k hkf) hz
      have htsz : (fs[k]).text.size ≤ 1099511627776 := Nat.le_trans (text_le fs k hkf) hz
      have hk2 : (k : Int) < (n : Int) := by omega
      have HBAD : Hid (okAt fs k = false → diskOk fs c u = false) := hide (fun h => by unfold diskOk; rw [okAll_bad fs k hkf h]; simp)
      have HGOOD : Hid (okAt fs k = true → ∀ j, j < k + 1 → okAt fs j = true) := hide (fun h j hj => by
        by_cases e : j = k
        · subst e; exact h
        · exact HA.out j (by omega))
      clear HA
      by_cases n1 : nameOk (fs[k]).name = true
      · by_cases n2 : inB 0 (fs[k]).safe ((fs[k]).text.size : Int) = true
        · by_cases k0 : k = 0
          · skip
            have HNM : Hid (∀ W, Calls Tryz.prog 67 #[.string (fs[k]).name] W fun e w' => e = .returned (.bool true) ∧ w' = W) := hide (fun W => by have h := specName_any (fs[k]).name W hnsz; rw [n1] at h; exact h.mono (fun _ _ ⟨x, y⟩ => ⟨x, y.symm⟩))
            have HIN : Hid (∀ W, Calls Tryz.prog 29 #[.int .i64 (fs[k]).safe, .int .i64 0, .int .i64 ((fs[k]).text.size : Int)] W fun e w' => e = .returned (.bool true) ∧ w' = W) := hide (fun W => by have h := in_anyB (fs[k]).safe 0 ((fs[k]).text.size : Int) W; rw [n2] at h; exact h.mono (fun _ _ ⟨x, y⟩ => ⟨x, y.symm⟩))
            have kz : decide ((0 : Int) < (k : Int)) = false := by simp; omega
            have kzN : decide (0 < k) = false := by simp; omega
            have HA2 := hide (HGOOD.out (by unfold okAt okF; rw [hgd, n1, n2]; simp [k0]))
            clear HBAD HGOOD hgd k0
            go_wp2
            go_quiet (first
              | (go_at_call 67; exact Calls.quiet_of_same (HNM.out _))
              | (go_at_call 29; exact Calls.quiet_of_same (HIN.out _)))
            go_wp2
            go_roundw
            case rel => exact ⟨k + 1, by omega, by go_num, HA2, hide (HBq.out _)⟩
            case measure => first | (simp [intOf]; done) | (simp [intOf]; omega)
          · skip
            have HNM : Hid (∀ W, Calls Tryz.prog 67 #[.string (fs[k]).name] W fun e w' => e = .returned (.bool true) ∧ w' = W) := hide (fun W => by have h := specName_any (fs[k]).name W hnsz; rw [n1] at h; exact h.mono (fun _ _ ⟨x, y⟩ => ⟨x, y.symm⟩))
            have HIN : Hid (∀ W, Calls Tryz.prog 29 #[.int .i64 (fs[k]).safe, .int .i64 0, .int .i64 ((fs[k]).text.size : Int)] W fun e w' => e = .returned (.bool true) ∧ w' = W) := hide (fun W => by have h := in_anyB (fs[k]).safe 0 ((fs[k]).text.size : Int) W; rw [n2] at h; exact h.mono (fun _ _ ⟨x, y⟩ => ⟨x, y.symm⟩))
            have kz : decide ((0 : Int) < (k : Int)) = true := by simp; omega
            have kzN : decide (0 < k) = true := by simp; omega
            have kp : 0 < k := by omega
            obtain ⟨j, rfl⟩ : ∃ j, k = j + 1 := ⟨k - 1, by omega⟩
            have hjf : j < fs.length := by omega
            have hjf1 : j + 1 < fs.length := by omega
            obtain ⟨b', o', q0, -, -, p1, -, -⟩ := (HR.out.later HBr.out (Nat.le_refl _)).cells j (by omega)
            simp only [Option.some.injEq, Addr.mk.injEq] at q0
            obtain ⟨rfl, rfl, -⟩ := q0
            have hgp : fs.getD (j + 1 - 1) zeroF = fs[j] := by simp [List.getD, show j < fs.length by omega]
            have HOK : Hid (okAt fs (j + 1) = !(sle (fs[j + 1]).name (fs[j]).name)) := hide (by unfold okAt okF; rw [hgd, hgp, n1, n2]; simp)
            have hj3 : j < n := by omega
            have x1 : (0 : Int) ≤ (j : Int) + 1 := by omega
            have x2 : (j : Int) + 1 < (n : Int) := by omega
            have x3 : ((j : Int) + 1).toNat = j + 1 := by omega
            have x4 : (0 : Int) < (j : Int) + 1 := by omega
            have x5 : (j : Int) < (n : Int) := by omega
            have x6 : IntKind.i64.wrap (j : Int) = (j : Int) := by rw [IntKind.wrap_i64]; omega
            have x8 : IntKind.i64.wrap ((j : Int) + 1 - 1) = (j : Int) := by rw [IntKind.wrap_i64]; omega
            clear kz kzN kp hk2
            by_cases n3 : sle (fs[j + 1]).name (fs[j]).name = true
            · skip
              have HV := hide (HBAD.out (by rw [HOK.out, n3]; rfl))
              have n3' : (Op.bytesLess (fs[j + 1]).name.toList (fs[j]).name.toList || (fs[j + 1]).name.toList == (fs[j]).name.toList) = true := n3
              clear n3 HBAD HGOOD HOK hgp hgd k0
              go_wp2
              go_quiet (first
                | (go_at_call 67; exact Calls.quiet_of_same (HNM.out _))
                | (go_at_call 29; exact Calls.quiet_of_same (HIN.out _)))
              go_wp2
              go_ret
              exact ⟨by rw [HV.out]; rfl, HB.out.trans ((HBq.out _).mono HB.out.size)⟩
            · skip
              have n3f : sle (fs[j + 1]).name (fs[j]).name = false := by simpa using n3
              have n3' : (Op.bytesLess (fs[j + 1]).name.toList (fs[j]).name.toList || (fs[j + 1]).name.toList == (fs[j]).name.toList) = false := n3f
              have HA2 := hide (HGOOD.out (by rw [HOK.out]; simpa using n3))
              clear n3 HBAD HGOOD HOK hgp hgd k0
              go_wp2
              go_quiet (first
                | (go_at_call 67; exact Calls.quiet_of_same (HNM.out _))
                | (go_at_call 29; exact Calls.quiet_of_same (HIN.out _)))
              go_wp2
              go_roundw
              case rel => exact ⟨j + 1 + 1, by omega, by go_num, HA2, hide (HBq.out _)⟩
              case measure => first | (simp [intOf]; done) | (simp [intOf]; omega)
        · skip
          have n2' : inB 0 (fs[k]).safe ((fs[k]).text.size : Int) = false := by simpa using n2
          have HNM : Hid (∀ W, Calls Tryz.prog 67 #[.string (fs[k]).name] W fun e w' => e = .returned (.bool true) ∧ w' = W) := hide (fun W => by have h := specName_any (fs[k]).name W hnsz; rw [n1] at h; exact h.mono (fun _ _ ⟨x, y⟩ => ⟨x, y.symm⟩))
          have HIN : Hid (∀ W, Calls Tryz.prog 29 #[.int .i64 (fs[k]).safe, .int .i64 0, .int .i64 ((fs[k]).text.size : Int)] W fun e w' => e = .returned (.bool false) ∧ w' = W) := hide (fun W => by have h := in_anyB (fs[k]).safe 0 ((fs[k]).text.size : Int) W; rw [n2'] at h; exact h.mono (fun _ _ ⟨x, y⟩ => ⟨x, y.symm⟩))
          have HV := hide (HBAD.out (by unfold okAt okF; rw [hgd, n2']; simp))
          clear n2 HBAD HGOOD hgd
          go_wp2
          go_quiet (first
            | (go_at_call 67; exact Calls.quiet_of_same (HNM.out _))
            | (go_at_call 29; exact Calls.quiet_of_same (HIN.out _)))
          go_wp2
          go_ret
          exact ⟨by rw [HV.out]; rfl, HB.out.trans ((HBq.out _).mono HB.out.size)⟩
      · skip
        have n1' : nameOk (fs[k]).name = false := by simpa using n1
        have HNM : Hid (∀ W, Calls Tryz.prog 67 #[.string (fs[k]).name] W fun e w' => e = .returned (.bool false) ∧ w' = W) := hide (fun W => by have h := specName_any (fs[k]).name W hnsz; rw [n1'] at h; exact h.mono (fun _ _ ⟨x, y⟩ => ⟨x, y.symm⟩))
        have HIN : Hid (∀ W, Calls Tryz.prog 29 #[.int .i64 (fs[k]).safe, .int .i64 0, .int .i64 ((fs[k]).text.size : Int)] W fun e w' => e = .returned (.bool (inB 0 (fs[k]).safe ((fs[k]).text.size : Int))) ∧ w' = W) := hide (fun W => (in_anyB (fs[k]).safe 0 ((fs[k]).text.size : Int) W).mono (fun _ _ ⟨x, y⟩ => ⟨x, y.symm⟩))
        have HV := hide (HBAD.out (by unfold okAt okF; rw [hgd, n1']; simp))
        clear n1 HBAD HGOOD hgd
        go_wp2
        go_quiet (first
          | (go_at_call 67; exact Calls.quiet_of_same (HNM.out _))
          | (go_at_call 29; exact Calls.quiet_of_same (HIN.out _)))
        go_wp2
        go_ret
        exact ⟨by rw [HV.out]; rfl, HB.out.trans ((HBq.out _).mono HB.out.size)⟩
    · obtain rfl : k = n := by omega
      have HV : Hid (diskOk fs c u = true) := hide (by unfold diskOk; rw [HH.out, okAll_good fs (fun i hi => HA.out i (by omega))]; rfl)
      have HBq : Hid (∀ m : Nat, Below W.heap.size W wr) := hide (fun _ => HBr.out)
      clear HA
      go_wp2
      go_ret
      exact ⟨by rw [HV.out]; rfl, HB.out.trans ((HBq.out 0).mono HB.out.size)⟩

end Go.Proofs.YthnealhaleccpaaGreatDoor
