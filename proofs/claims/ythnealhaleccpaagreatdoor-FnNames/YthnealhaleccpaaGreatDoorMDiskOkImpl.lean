/-
  impl.DiskOk: is a disk right?
-/
import Derived.Test.YthnealhaleccpaaGreatDoorG02
import Derived.Test.YthnealhaleccpaaGreatDoorG21
import Derived.Test.YthnealhaleccpaaGreatDoorG00
namespace Go.Proofs.YthnealhaleccpaaGreatDoor
open Go.RowKit
open Plain

/-- Three cells of a block. -/
theorem cells3 {w : World} {B : Nat} {x0 x1 x2 : Value} {ty : TypeId} (h : w.heap[B]? = some (.cells #[x0, x1, x2] ty (0, 0))) :
    w.cell? ⟨B, 0, none⟩ = some x0 ∧ w.cell? ⟨B, 1, none⟩ = some x1 ∧ w.cell? ⟨B, 2, none⟩ = some x2 := by
  refine ⟨?_, ?_, ?_⟩ <;> rw [cell_of_row w B _ _ _ _ h] <;> rfl

set_option maxRecDepth 100000 in
set_option maxHeartbeats 4000000 in
theorem implOk_good (w : World) (a : Option Addr) (n cap : Nat) (fs : List FileV) (hr : FRow w 0 a n fs) (hz : szFs fs ≤ 1099511627776) (c u : Int) (d : Bool) (q1 : n ≤ 130) (q2 : 0 ≤ c) (q3 : c ≤ 100000) (q4 : -1 ≤ u) (q5 : u ≤ 100000) :
    Calls Tryz.prog 36 #[.agg #[.slice a n cap, .int .i64 c, .int .i64 u, .bool d]] w fun e w' => e = .returned (.bool (diskOk fs c u)) ∧ Below w.heap.size w w' := by
  have hbx := box4 w (.slice a n cap) (.int .i64 c) (.int .i64 u) (.bool d) 39
  have HR := hide (hr.later hbx.1 (Nat.le_refl _))
  have HB := hide hbx.1
  have hlen := hr.len
  have hus := usedF_le_sz fs
  obtain ⟨W, hW⟩ : ∃ W, W = w.alloc (.cells #[.slice a n cap, .int .i64 c, .int .i64 u, .bool d] 39) := ⟨_, rfl⟩
  rw [← hW] at HR HB hbx
  have HX := hide hbx.2
  have HWS : Hid (W.heap.size = w.heap.size + 1) := hide (by rw [hW]; simp)
  clear hbx hr
  have t1 : decide ((130 : Int) < (n : Int)) = false := by simp; omega
  have t2 : decide (c < 0) = false := by simp; omega
  have t3 : decide (100000 < c) = false := by simp; omega
  have t4 : decide (u < -1) = false := by simp; omega
  have t5 : decide (100000 < u) = false := by simp; omega
  have y := cells4 HX.out
  rw [hW] at y
  obtain ⟨y0, y1, y2, y3, -⟩ := y
  go_enter Tryz.func36, Tryz.ntmps36
  go_wp2_with fail
  rw [← hW]
  clear hW y0 y1 y2 y3
  go_loopw [32] (fun i wr => ∃ k : Nat, k ≤ n ∧ i = .int .i64 k ∧ Hid (∀ j, j < k → okAt fs j = true) ∧ Hid (Below W.heap.size W wr)) (fun i _ => n - (intOf i).toNat)
  case atStart => exact ⟨0, by omega, rfl, hide (fun j hj => absurd hj (by omega)), hide (Below.refl _ _)⟩
  case round =>
    obtain ⟨k, hk, rfl, HA, HBr⟩ := hrel
    have HXr := hide ((HBr.out.block _ (by have := HWS.out; omega)).trans HX.out)
    have hsr : w.heap.size < wr.heap.size := by have := HBr.out.size; have := HWS.out; omega
    by_cases hlt : k < n
    · have hkf : k < fs.length := by omega
      obtain ⟨b, off, rfl, -, hbw, e1, e2, e3⟩ := (HR.out.later HBr.out (Nat.le_refl _)).cells k hkf
      have hgd : fs.getD k zeroF = fs[k] := by simp [List.getD, hkf]
      have hnsz : (fs[k]).name.size ≤ 1099511627776 := Nat.le_trans (name_le fs k hkf) hz
      have htsz : (fs[k]).text.size ≤ 1099511627776 := Nat.le_trans (text_le fs k hkf) hz
      have HBAD : Hid (okAt fs k = false → diskOk fs c u = false) := hide (fun h => by unfold diskOk; rw [okAll_bad fs k hkf h]; simp)
      have HGOOD : Hid (okAt fs k = true → ∀ j, j < k + 1 → okAt fs j = true) := hide (fun h j hj => by
        by_cases e : j = k
        · subst e; exact h
        · exact HA.out j (by omega))
      clear HA
      obtain ⟨Y, hY⟩ : ∃ Y, Y = wr.alloc (.cells #[.string (fs[k]).name, .string (fs[k]).text, .int .i64 (fs[k]).safe] 73) := ⟨_, rfl⟩
      have HBY : Hid (Below W.heap.size W Y) := hide (by rw [hY]; exact HBr.out.alloc HBr.out.size _)
      have HXY : Hid (Y.heap[w.heap.size]? = some (.cells #[.slice (some ⟨b, off, none⟩) n cap, .int .i64 c, .int .i64 u, .bool d] 39 (0, 0))) := hide (by rw [hY, Below.heap_alloc _ _ _ hsr]; exact HXr.out)
      have HYN : Hid (Y.heap[wr.heap.size]? = some (.cells #[.string (fs[k]).name, .string (fs[k]).text, .int .i64 (fs[k]).safe] 73 (0, 0))) := hide (by rw [hY]; exact heap_alloc_new wr _)
      have HBq : Hid (∀ m, Below W.heap.size W (Y.drewN m)) := hide (fun m => ⟨HBY.out.os, HBY.out.tape, HBY.out.output, HBY.out.size, HBY.out.block⟩)
      have HNM := hide (implName_any (fs[k]).name Y hnsz)
      go_wp2_with fail
      rw [← hY]
      clear hY e1 e2 e3
      refine HNM.out.mono ?_
      rintro e w2 ⟨rfl, rfl⟩
      clear HNM
      obtain ⟨z0, z1, z2⟩ := cells3 HYN.out
      obtain ⟨y0, y1, y2, y3, -⟩ := cells4 HXY.out
      by_cases n1 : nameOk (fs[k]).name = true
      · by_cases n2 : 0 ≤ (fs[k]).safe
        · have s2 : decide ((fs[k]).safe < 0) = false := by simp; omega
          by_cases n3 : (fs[k]).safe ≤ ((fs[k]).text.size : Int)
          · have s3 : decide (((fs[k]).text.size : Int) < (fs[k]).safe) = false := by simp; omega
            have HF : Hid (okF (fs[k]) = true) := hide (by unfold okF; rw [n1, inB_yes ⟨n2, n3⟩]; rfl)
            rw [n1]
            by_cases k0 : k = 0
            · have HA2 := hide (HGOOD.out (by unfold okAt; rw [hgd, HF.out]; simp [k0]))
              have kz : decide ((0 : Int) < (k : Int)) = false := by simp; omega
              have kzN : decide (0 < k) = false := by simp; omega
              clear HBAD HGOOD hgd k0 HF
              go_wp2
              go_quiet (fail)
              go_wp2
              go_roundw
              case rel => exact ⟨k + 1, by omega, by go_num, HA2, hide (HBq.out _)⟩
              case measure => first | (simp [intOf]; done) | (simp [intOf]; omega)
            · obtain ⟨j, rfl⟩ : ∃ j, k = j + 1 := ⟨k - 1, by omega⟩
              have hjf : j < fs.length := by omega
              obtain ⟨b', o', q0, -, -, p1, -, -⟩ := (HR.out.later HBY.out (Nat.le_refl _)).cells j hjf
              simp only [Option.some.injEq, Addr.mk.injEq] at q0
              obtain ⟨rfl, rfl, -⟩ := q0
              have hgp : fs.getD (j + 1 - 1) zeroF = fs[j] := by simp [List.getD, hjf]
              have HOK : Hid (okAt fs (j + 1) = !(sle (fs[j + 1]).name (fs[j]).name)) := hide (by unfold okAt; rw [hgd, hgp, HF.out]; simp)
              have x1 : (0 : Int) ≤ (j : Int) + 1 := by omega
              have x2 : (j : Int) + 1 < (n : Int) := by omega
              have x3 : ((j : Int) + 1).toNat = j + 1 := by omega
              have x4 : (0 : Int) < (j : Int) + 1 := by omega
              have x5 : (j : Int) < (n : Int) := by omega
              have x6 : IntKind.i64.wrap (j : Int) = (j : Int) := by rw [IntKind.wrap_i64]; omega
              have x8 : IntKind.i64.wrap ((j : Int) + 1 - 1) = (j : Int) := by rw [IntKind.wrap_i64]; omega
              clear hgp hgd k0 HF
              by_cases n4 : sle (fs[j + 1]).name (fs[j]).name = true
              · have HV := hide (HBAD.out (by rw [HOK.out, n4]; rfl))
                have n4' : Op.bytesLess (fs[j]).name.toList (fs[j + 1]).name.toList = false := by rw [sle_less] at n4; simpa using n4
                clear n4 HBAD HGOOD HOK
                go_wp2
                go_quiet (fail)
                go_wp2
                go_ret
                exact ⟨by rw [HV.out]; rfl, HB.out.trans ((HBq.out _).mono HB.out.size)⟩
              · have n4f : sle (fs[j + 1]).name (fs[j]).name = false := by simpa using n4
                have n4' : Op.bytesLess (fs[j]).name.toList (fs[j + 1]).name.toList = true := by rw [sle_less] at n4f; simpa using n4f
                have HA2 := hide (HGOOD.out (by rw [HOK.out, n4f]; rfl))
                clear n4 n4f HBAD HGOOD HOK
                go_wp2
                go_quiet (fail)
                go_wp2
                go_roundw
                case rel => exact ⟨j + 1 + 1, by omega, by go_num, HA2, hide (HBq.out _)⟩
                case measure => first | (simp [intOf]; done) | (simp [intOf]; omega)
          · have s3 : decide (((fs[k]).text.size : Int) < (fs[k]).safe) = true := by simp; omega
            have HV := hide (HBAD.out (by unfold okAt okF; rw [hgd, inB_no (by omega)]; simp))
            rw [n1]
            clear HBAD HGOOD hgd
            go_wp2
            go_ret
            exact ⟨by rw [HV.out]; rfl, HB.out.trans (HBY.out.mono HB.out.size)⟩
        · have s2 : decide ((fs[k]).safe < 0) = true := by simp; omega
          have HV := hide (HBAD.out (by unfold okAt okF; rw [hgd, inB_no (by omega)]; simp))
          rw [n1]
          clear HBAD HGOOD hgd
          go_wp2
          go_ret
          exact ⟨by rw [HV.out]; rfl, HB.out.trans (HBY.out.mono HB.out.size)⟩
      · have n1' : nameOk (fs[k]).name = false := by simpa using n1
        have HV := hide (HBAD.out (by unfold okAt okF; rw [hgd, n1']; simp))
        rw [n1']
        clear HBAD HGOOD hgd n1 n1'
        go_wp2
        go_ret
        exact ⟨by rw [HV.out]; rfl, HB.out.trans (HBY.out.mono HB.out.size)⟩
    · obtain rfl : k = n := by omega
      have HOA := hide (okAll_good fs (fun i hi => HA.out i (by omega)))
      have HV : Hid (diskOk fs c u = decide ((usedF fs : Int) ≤ c)) := hide (by unfold diskOk headOk; rw [HOA.out, inB_yes ⟨q2, q3⟩, inB_yes ⟨q4, q5⟩]; simp [hlen, q1])
      clear HA HOA
      have HBI := hide (implBytes_any wr a k cap fs (HR.out.later HBr.out (Nat.le_refl _)) (by omega) (by omega))
      obtain ⟨y0, y1, y2, y3, -⟩ := cells4 HXr.out
      have HK : Hid (∀ w', Below wr.heap.size wr w' → w'.cell? ⟨w.heap.size, 0, none⟩ = some (.slice a k cap) ∧ w'.cell? ⟨w.heap.size, 1, none⟩ = some (.int .i64 c) ∧ Hid (Below W.heap.size W w')) := hide (fun w' h => by
        obtain ⟨v0, v1, -⟩ := cells4 ((h.block _ hsr).trans HXr.out)
        exact ⟨v0, v1, hide (HBr.out.trans (h.mono HBr.out.size))⟩)
      have S0 := HK.out wr.drew (Below.refl _ _).drew
      have HBI2 : Hid (∀ w', Below wr.heap.size wr w' → Calls Tryz.prog 65 #[.slice a k cap] w' fun e w'' => e = .returned (.int .i64 (usedF fs)) ∧ Below wr.heap.size wr w'') := hide (fun w' h => (implBytes_any w' a k cap fs (HR.out.later (HBr.out.trans (h.mono HBr.out.size)) (Nat.le_refl _)) (by omega) (by omega)).mono (fun e w'' ⟨h1, h2⟩ => ⟨h1, h.trans (h2.mono h.size)⟩))
      clear y0 y1 y2 y3 HBI
      go_wp2_with fail
      first
        | (go_region_held3 (fun w' => w'.cell? ⟨w.heap.size, 0, none⟩ = some (.slice a k cap) ∧ w'.cell? ⟨w.heap.size, 1, none⟩ = some (.int .i64 c) ∧ Hid (Below W.heap.size W w')) (assumption) (
            (go_at_call 65; refine (HBI2.out _ (Below.refl _ _).drew).mono ?_; rintro e w4 ⟨rfl, hb4⟩; have hS4 := HK.out w4 hb4)))
        | fail
      have HB4 := hide hS4.2.2.out
      clear S0 hb4 hS4 HK HBI2
      go_wp2
      go_ret
      exact ⟨by rw [HV.out]; rfl, HB.out.trans (HB4.out.mono HB.out.size)⟩

set_option maxRecDepth 100000 in
set_option maxHeartbeats 4000000 in
theorem implOk_any (w : World) (a : Option Addr) (n cap : Nat) (fs : List FileV) (hr : FRow w 0 a n fs) (hn : n ≤ 1099511627776) (hz : szFs fs ≤ 1099511627776) (c u : Int) (d : Bool) :
    Calls Tryz.prog 36 #[.agg #[.slice a n cap, .int .i64 c, .int .i64 u, .bool d]] w fun e w' => e = .returned (.bool (diskOk fs c u)) ∧ Below w.heap.size w w' := by
  by_cases hh : n ≤ 130 ∧ (0 ≤ c ∧ c ≤ 100000) ∧ (-1 ≤ u ∧ u ≤ 100000)
  · exact implOk_good w a n cap fs hr hz c u d hh.1 hh.2.1.1 hh.2.1.2 hh.2.2.1 hh.2.2.2
  · have hlen := hr.len
    have HV : Hid (diskOk fs c u = false) := hide (by
      unfold diskOk headOk
      rw [hlen]
      by_cases h1 : n ≤ 130
      · by_cases h2 : 0 ≤ c ∧ c ≤ 100000
        · rw [inB_no (lo := -1) (x := u) (hi := 100000) (fun h => hh ⟨h1, h2, h⟩)]; simp
        · rw [inB_no h2]; simp
      · simp [h1])
    have hbx := box4 w (.slice a n cap) (.int .i64 c) (.int .i64 u) (.bool d) 39
    have HB := hide hbx.1
    obtain ⟨y0, y1, y2, y3, -⟩ := cells4 hbx.2
    clear hbx hr
    by_cases h1 : n ≤ 130
    · have t1 : decide ((130 : Int) < (n : Int)) = false := by simp; omega
      by_cases h2 : 0 ≤ c
      · have t2 : decide (c < 0) = false := by simp; omega
        by_cases h3 : c ≤ 100000
        · have t3 : decide (100000 < c) = false := by simp; omega
          by_cases h4 : -1 ≤ u
          · have t4 : decide (u < -1) = false := by simp; omega
            have t5 : decide (100000 < u) = true := by simp; omega
            go_enter Tryz.func36, Tryz.ntmps36
            go_wp2
            go_ret
            exact ⟨by rw [HV.out]; rfl, HB.out⟩
          · have t4 : decide (u < -1) = true := by simp; omega
            go_enter Tryz.func36, Tryz.ntmps36
            go_wp2
            go_ret
            exact ⟨by rw [HV.out]; rfl, HB.out⟩
        · have t3 : decide (100000 < c) = true := by simp; omega
          go_enter Tryz.func36, Tryz.ntmps36
          go_wp2
          go_ret
          exact ⟨by rw [HV.out]; rfl, HB.out⟩
      · have t2 : decide (c < 0) = true := by simp; omega
        go_enter Tryz.func36, Tryz.ntmps36
        go_wp2
        go_ret
        exact ⟨by rw [HV.out]; rfl, HB.out⟩
    · have t1 : decide ((130 : Int) < (n : Int)) = true := by simp; omega
      go_enter Tryz.func36, Tryz.ntmps36
      go_wp2
      go_ret
      exact ⟨by rw [HV.out]; rfl, HB.out⟩

end Go.Proofs.YthnealhaleccpaaGreatDoor
